import Derived.Test.YtndghenlapbaaaaGreatPrnVoteShardLaw11
import Derived.Test.YtndghenlapbaaaaGreatPrnVoteShardLaw8
import Derived.Test.YtndghenlapbaaaaGreatPrnVoteShardLaw1
import Derived.Test.YtndghenlapbaaaaGreatPrnVoteShardLaw3
set_option linter.unusedSectionVars false
set_option linter.unusedSimpArgs false

/-
 A row of values that own memory: one of them is another, with blocks of its own or new ones.
-/
namespace Go.Proofs.YtndghenlapbaaaaGreat
open Go.RowKit

theorem PO.put {α : Type} {R : Rep α} {e size : Nat} {lv : Value → List Value} {w w' : World} {base : Nat} {v : Value} {n k j : Nat} {d : Nat → α} {cs cs' : List Value} {us : Nat → Value} {fs : Nat → Nat → Prop} {u : Value} {x : α} {F' : Nat → Prop}
  (h : PO R e size lv w base v n k d cs us fs) (hj : j < k) (hm : Mod (fun b => v.ownBlock = some b ∨ fs j b) w w') (hu : R.O w' base F' u x) (hF : ∀ b, F' b → fs j b ∨ w.heap.size ≤ b) (hl : (lv u).length = size)
  (hr : w'.ownsRow base e size v n cs') (hold : ∀ i, i < k → i ≠ j → ∀ o, o < size → cs'[i * size + o]? = cs[i * size + o]?) (hnew : ∀ o, o < size → cs'[j * size + o]? = (lv u)[o]?) :
  PO R e size lv w' base v n k (upd d j x) cs' (upd us j u) (upd fs j F') := by
 have hlt : ∀ b, v.ownBlock = some b → b < w.heap.size := fun b hb => (h.row.lt b hb).2
 have hfs : ∀ i, i < k → ∀ b, fs i b → b < w.heap.size := fun i hi b hb => (R.rng (h.el i hi) b hb).2
 refine ⟨hr, ?_, ?_, ?_, ?_, ?_⟩
 ·
  intro i hi
  by_cases hik : i = j
  ·
   subst hik; rw [upd_at, upd_at, upd_at]; exact hu
  ·
   rw [upd_ne _ _ hik, upd_ne _ _ hik, upd_ne _ _ hik]
   exact R.mod (h.el i hi) hm (fun b hb => by
    rintro (he | he)
    ·
     exact h.out i hi b hb he
    ·
     exact h.sep i j hi hj hik b hb he)
 ·
  intro i hi
  by_cases hik : i = j
  ·
   subst hik; rw [upd_at]; exact hl
  ·
   rw [upd_ne _ _ hik]; exact h.ln i hi
 ·
  intro i hi o ho
  by_cases hik : i = j
  ·
   subst hik; rw [upd_at]; exact hnew o ho
  ·
   rw [upd_ne _ _ hik, hold i hi hik o ho]; exact h.cell i hi o ho
 ·
  intro i hi b hb he
  by_cases hik : i = j
  ·
   subst hik
   rw [upd_at] at hb
   rcases hF b hb with h1 | h1
   ·
    exact h.out i hi b h1 he
   ·
    have := hlt b he; omega
  ·
   rw [upd_ne _ _ hik] at hb
   exact h.out i hi b hb he
 ·
  intro i i' hi hi' hii b h1 h2
  by_cases hik : i = j
  ·
   subst hik
   rw [upd_at] at h1
   rw [upd_ne _ _ (Ne.symm hii)] at h2
   rcases hF b h1 with h3 | h3
   ·
    exact h.sep i i' hi hi' hii b h3 h2
   ·
    have := hfs i' hi' b h2; omega
  ·
   rw [upd_ne _ _ hik] at h1
   by_cases hjk : i' = j
   ·
    subst hjk
    rw [upd_at] at h2
    rcases hF b h2 with h3 | h3
    ·
     exact h.sep i i' hi hi' hii b h1 h3
    ·
     have := hfs i hi b h1; omega
   ·
    rw [upd_ne _ _ hjk] at h2
    exact h.sep i i' hi hi' hii b h1 h2
end Go.Proofs.YtndghenlapbaaaaGreat

/-
 Rows of numbers: compared, marked and read back; and the answers that hold one.
-/
namespace Go.Proofs.YtndghenlapbaaaaGreat
open Go.RowKit
variable [DecidableEq Leg] [Inhabited Leg]
attribute [local go_sem ↓] Go.wp_at_zero Go.wp_at_succ

def intsC (ys : List Int) : List Value := ys.map (Value.int .i64)
theorem infoInt : (Tryz.prog.info? 2).map (fun i => (i.zero, i.size, i.bytes)) = some (some (.int .i64 0), 1, 8) := by kernel_rfl
def IntsV (w : World) (v : Value) (ys : List Int) : Prop :=
 ∃ a cap, v = .slice a ys.length cap ∧ ys.length ≤ cap ∧ cap ≤ maxLen ∧ ∀ i, i < ys.length → ∃ b o, a = some ⟨b, o, none⟩ ∧ w.cell? ⟨b, o + i, none⟩ = some (.int .i64 (ys.getD i 0))
theorem IntsV_below {w w' : World} {v : Value} {ys : List Int} (h : IntsV w v ys) (hb : Below w.heap.size w w') : IntsV w' v ys := by
 obtain ⟨a, cap, rfl, h1, h2, h3⟩ := h
 exact ⟨a, cap, rfl, h1, h2, fun i hi => by
  obtain ⟨b, o, ha, hc⟩ := h3 i hi
  exact ⟨b, o, ha, cK hb hc⟩⟩
theorem IntsV_of_owns {w : World} {base e : Nat} {v : Value} {ys : List Int} (h : w.ownsRow base e 1 v ys.length (intsC ys)) : IntsV w v ys := by
 rcases h.2 with ⟨rfl, hn⟩ | ⟨g, cap, cur, rfl, hb, hg, hnc, hcm, hcs, htake⟩
 ·
  exact ⟨none, 0, by rw [hn], by omega, by unfold maxLen; omega, fun i hi => by omega⟩
 ·
  refine ⟨some ⟨g, 0, none⟩, cap, rfl, hnc, hcm, fun i hi => ⟨g, 0, rfl, ?_⟩⟩
  rw [Nat.zero_add]
  refine (h.cellAt i (by omega)).trans ?_
  simp [intsC, List.getD, hi]
theorem ints_eq_of {xs ys : List Int} (hl : ys.length = xs.length) (h : ∀ j, j < xs.length → xs.getD j 0 = ys.getD j 0) : xs = ys := by
 apply List.ext_getElem (by omega)
 intro i h1 h2
 have := h i h1
 simpa [List.getD, h1, h2] using this
set_option maxHeartbeats 1000000 in
theorem eqInt64S_any (x y : Value) (xs ys : List Int) (w : World) (hx : IntsV w x xs) (hy : IntsV w y ys) :
  Calls Tryz.prog 44 #[x, y] w fun e w' => e = .returned (.bool (decide (xs = ys))) ∧ Below w.heap.size w w' := by
 obtain ⟨ax, cx, rfl, hcx, hmx, hx⟩ := hx
 obtain ⟨ay, cy, rfl, hcy, hmy, hy⟩ := hy
 unfold maxLen at hmx hmy
 by_cases hl : ys.length = xs.length
 ·
  rw [hl] at hcy hy ⊢
  have HL : Hid (ys.length = xs.length) := hl
  clear hl
  generalize hn : xs.length = n at *
  have HN : Hid (xs.length = n) := hn
  clear hn
  go_enter Tryz.func44, Tryz.ntmps44
  go_wp2
  go_loopw [5] (fun i w' => ∃ k : Nat, k ≤ n ∧ i = .int .i64 k ∧ (∀ j, j < k → xs.getD j 0 = ys.getD j 0) ∧ Below w.heap.size w w') (fun i _ => n - (intOf i).toNat)
  case atStart => exact ⟨0, Nat.zero_le _, rfl, fun j h => absurd h (Nat.not_lt_zero _), Below.refl _ _⟩
  case round =>
   obtain ⟨k, hk, rfl, hpre, hbl⟩ := hrel
   have HP : Hid (∀ j, j < k → xs.getD j 0 = ys.getD j 0) := hpre
   clear hpre
   by_cases hlt : k < n
   ·
    obtain ⟨bx, ox, rfl, h1⟩ := hx k hlt
    obtain ⟨b2, oy, rfl, h2⟩ := hy k hlt
    obtain ⟨l1, hl1⟩ : ∃ l, l = xs.getD k 0 := ⟨_, rfl⟩
    obtain ⟨l2, hl2⟩ : ∃ l, l = ys.getD k 0 := ⟨_, rfl⟩
    rw [← hl1] at h1
    rw [← hl2] at h2
    have H1 : Hid (l1 = xs.getD k 0) := hl1
    have H2 : Hid (l2 = ys.getD k 0) := hl2
    clear hl1 hl2 hx hy
    go_wp2
    go_region_held3 (fun w' => Below w.heap.size w w' ∧ w'.cell? ⟨bx, ox + k, none⟩ = some (.int .i64 l1) ∧ w'.cell? ⟨b2, oy + k, none⟩ = some (.int .i64 l2)) ((refine keepC2 ?_ h1 h2; repeat (first | exact bR _ _ | assumption | refine bD ?_ | refine bA ?_ _ | refine bS ?_ (by assumption)))) (fail)
    rename_i hH
    have hB := hH.1
    clear hH
    go_wp2
    ·
     rename_i hle
     go_ret
     refine ⟨?_, hB⟩
     have : ¬ xs = ys := fun h => by
      have : l1 = l2 := by rw [H1.out, H2.out, h]
      simp [this] at hle
     simp [this]
    ·
     rename_i hle
     refine ⟨⟨k + 1, by omega, by go_num, fun j hj => ?_, hB⟩, by simp [intOf]; omega⟩
     by_cases hjk : j < k
     ·
      exact HP.out j hjk
     ·
      have : j = k := by omega
      subst this
      rw [← H1.out, ← H2.out]
      simpa using hle
   ·
    go_wp2
    go_ret
    have : k = n := by omega
    subst this
    refine ⟨?_, hbl⟩
    have : xs = ys := ints_eq_of (by rw [HL.out, HN.out]) (by rw [HN.out]; exact HP.out)
    simp [this]
 ·
  go_enter Tryz.func44, Tryz.ntmps44
  have hl' : ((xs.length : Int) == (ys.length : Int)) = false := by simp; omega
  go_wp2
  go_ret
  have : ¬ xs = ys := fun h => hl (by rw [h])
  exact ⟨by simp [this], Below.refl _ _⟩
def marksI (k : Int) (n : Nat) : List Int := (List.range n).map (fun i : Nat => k + (i : Int))
theorem length_marksI (k : Int) (n : Nat) : (marksI k n).length = n := by simp [marksI]
theorem getD_marksI (k : Int) (n i : Nat) (h : i < n) : (marksI k n).getD i 0 = k + i := by simp [marksI, List.getD, h]
def uptoI (k : Nat) (cs : List Value) (ys : List Int) : Prop := ∀ j, j < k → cs[j]? = (intsC ys)[j]?
theorem uptoI_full {n : Nat} {cs : List Value} {ys : List Int} (h : uptoI n cs ys) (hl : cs.length = n * 1) (hn : ys.length = n) : cs = intsC ys := by
 apply List.ext_getElem?
 intro j
 by_cases hj : j < n
 ·
  exact h j hj
 ·
  rw [List.getElem?_eq_none (by omega), List.getElem?_eq_none (by simp [intsC]; omega)]
theorem uptoI_set {k : Nat} {cs : List Value} {ys : List Int} {l : Int} (h : uptoI k cs ys) (hk : k < ys.length) (hl : cs.length = ys.length * 1) (he : l = ys.getD k 0) : uptoI (k + 1) (cs.set k (.int .i64 l)) ys := by
 intro j hj
 rw [List.getElem?_set]
 by_cases e : k = j
 ·
  subst e
  rw [if_pos rfl, if_pos (by omega)]
  simp [intsC, he, List.getD, hk]
 ·
  rw [if_neg e]
  exact h j (by omega)
set_option maxHeartbeats 1000000 in
theorem markInt64S_any (v : Value) (n : Nat) (cs : List Value) (base e : Nat) (k : Int) (w : World) (ho : w.ownsRow base e 1 v n cs) (hn : n ≤ 1048576) (hk0 : 0 ≤ k) (hk1 : k ≤ 1073741824) :
  Calls Tryz.prog 49 #[v, .int .i64 k] w fun r w' => r = .returned (.int .i64 (k + n)) ∧ w'.ownsRow base e 1 v n (intsC (marksI k n)) ∧ w.grownBy w' v.ownBlock := by
 rcases ho.2 with ⟨rfl, rfl⟩ | ⟨g, cap, cur, rfl, hb, hg, hnc, hcm, _, _⟩
 ·
  go_enter Tryz.func49, Tryz.ntmps49
  go_wp2
  go_loopw [1, 5] (fun q i w' => q = .int .i64 k ∧ i = .int .i64 0 ∧ w' = w) (fun _ _ _ => 0)
  case atStart => exact ⟨rfl, rfl, rfl⟩
  case round =>
   obtain ⟨rfl, rfl, rfl⟩ := hrel
   go_wp2
   go_ret
   exact ⟨by simp, World.ownsRow_nil _ _ _ _, grown_refl _ _⟩
 ·
  unfold maxLen at hcm
  go_enter Tryz.func49, Tryz.ntmps49
  go_wp2
  go_loopw [1, 5] (fun q i w' => ∃ (j : Nat) (cs' : List Value), j ≤ n ∧ i = .int .i64 j ∧ q = .int .i64 (k + j) ∧ w'.ownsRow base e 1 (.slice (some ⟨g, 0, none⟩) n cap) n cs' ∧ uptoI j cs' (marksI k n) ∧ w.grownBy w' (some g)) (fun _ i _ => n - (intOf i).toNat)
  case atStart => exact ⟨0, cs, Nat.zero_le _, rfl, by simp, ho, fun j h => by omega, grown_refl _ _⟩
  case round =>
   obtain ⟨j, cs', hj, rfl, rfl, ho1, hup, hgr⟩ := hrel
   have HU : Hid (uptoI j cs' (marksI k n)) := hup
   clear hup ho hg
   by_cases hlt : j < n
   ·
    obtain ⟨u0, g0⟩ := owns_some ho1 j (by omega)
    have hf := fun j => ho1.frozenAt j
    go_wp2
    have s0 := ho1.stored j (.int .i64 (k + j))
    refine ⟨⟨j + 1, _, by omega, by go_num, ?_, s0.1, uptoI_set HU.out (by rw [length_marksI]; exact hlt) (by rw [length_marksI]; exact ho1.1) (getD_marksI k n j hlt).symm, grown_trans hgr s0.2⟩, by simp [intOf]; omega⟩
    congr 1
    omega
   ·
    go_wp2
    go_ret
    have hjn : j = n := by omega
    subst hjn
    have e' := uptoI_full HU.out ho1.1 (length_marksI k j)
    rw [e'] at ho1
    exact ⟨rfl, ho1, hgr⟩
set_option maxHeartbeats 1000000 in
theorem heldInt64S_any (v : Value) (n : Nat) (k : Int) (w : World) (hv : IntsV w v (marksI k n)) (hn : n ≤ 1048576) (hk0 : 0 ≤ k) (hk1 : k ≤ 1073741824) :
  Calls Tryz.prog 90 #[v, .int .i64 k] w fun r w' => r = .returned (.int .i64 (k + n)) ∧ w' = w := by
 obtain ⟨a, cap, rfl, hnc, hcm, hc⟩ := hv
 rw [length_marksI] at hnc hc ⊢
 unfold maxLen at hcm
 go_enter Tryz.func90, Tryz.ntmps90
 go_wp2
 go_loopw [1, 5] (fun q i w' => ∃ j : Nat, j ≤ n ∧ i = .int .i64 j ∧ q = .int .i64 (k + j) ∧ w' = w) (fun _ i _ => n - (intOf i).toNat)
 case atStart => exact ⟨0, Nat.zero_le _, rfl, by simp, rfl⟩
 case round =>
  obtain ⟨j, hj, rfl, rfl, rfl⟩ := hrel
  by_cases hlt : j < n
  ·
   obtain ⟨b, o, rfl, h1⟩ := hc j hlt
   rw [getD_marksI k n j hlt] at h1
   clear hc
   go_wp2
   refine ⟨⟨j + 1, by omega, by go_num, ?_, trivial⟩, by simp [intOf]; omega⟩
   congr 1
   omega
  ·
   go_wp2
   go_ret
   have hjn : j = n := by omega
   subst hjn
   exact ⟨rfl, rfl⟩
set_option maxHeartbeats 1000000 in
theorem toInt64S_any (x : Value) (xs : List Int) (w : World) (hx : IntsV w x xs) (hn : xs.length ≤ 1048576) :
  Calls Tryz.prog 32 #[x] w fun e w' => ∃ v, e = .returned v ∧ w'.ownsRow w.heap.size 2 1 v xs.length (intsC xs) ∧ Below w.heap.size w w' := by
 obtain ⟨ax, cx, rfl, hcx, hmx, hx⟩ := hx
 unfold maxLen at hmx
 obtain ⟨i0, hi, hz0, hz1, hz2⟩ := info_parts infoInt
 obtain ⟨w1, hmk, hown, hgr⟩ := run_make_full (P := Tryz.prog) w w.heap.size 25 2 i0 _ 1 Tryz.underlying25 hi hz0 hz1 .i64 .i64 xs.length (by rw [hz2]; omega) (by unfold maxLen; omega) (Nat.le_refl _)
 have hbl0 : Below w.heap.size w w1 := (Below.refl _ _).grown hgr (Nat.le_refl _) (fun k h => by cases h)
 generalize hn' : xs.length = n at *
 have HN : Hid (xs.length = n) := hn'
 clear hn'
 go_enter Tryz.func32, Tryz.ntmps32
 go_wp2
 go_loopw [4] (fun i w' => ∃ (k : Nat) (cs : List Value), k ≤ n ∧ i = .int .i64 k ∧ w'.ownsRow w.heap.size 2 1 (.slice (some ⟨w.heap.size, 0, none⟩) n n) n cs ∧ Hid (∀ j, j < k → cs[j]? = (intsC xs)[j]?) ∧ Below w.heap.size w w') (fun i _ => n - (intOf i).toNat)
 case atStart => exact ⟨0, _, Nat.zero_le _, rfl, hown, fun j h => by omega, hbl0⟩
 case round =>
  obtain ⟨k, cs, hk, rfl, ho, HU, hbl⟩ := hrel
  clear hown hmk hgr hbl0
  by_cases hlt : k < n
  ·
   obtain ⟨bx, ox, rfl, h1⟩ := hx k hlt
   obtain ⟨l, hl⟩ : ∃ l, l = xs.getD k 0 := ⟨_, rfl⟩
   rw [← hl] at h1
   have H1 : Hid (l = xs.getD k 0) := hl
   clear hl hx
   have a0 := cK hbl h1
   obtain ⟨u0, g0⟩ := owns_some ho k (by omega)
   have hf := fun j => ho.frozenAt j
   go_wp2
   have s0 := ho.stored k (.int .i64 l)
   refine ⟨⟨k + 1, _, by omega, by go_num, s0.1, fun j hj => ?_, hbl.setCell (Nat.le_refl _) _⟩, by simp [intOf]; omega⟩
   rw [List.getElem?_set]
   split
   ·
    rename_i e
    subst e
    have hl1 := ho.1
    have hl2 := HN.out
    rw [if_pos (by omega), H1.out]
    simp [intsC, List.getD, show k < xs.length by omega]
   ·
    exact HU.out j (by omega)
  ·
   go_wp2
   go_ret
   have hkn : k = n := by omega
   subst hkn
   have e : cs = intsC xs := List.ext_getElem? (fun j => by
    by_cases hj : j < k
    ·
     exact HU.out j hj
    ·
     have h1 := ho.1
     have h2 := HN.out
     rw [List.getElem?_eq_none (by omega), List.getElem?_eq_none (by simp [intsC]; omega)])
   subst e
   exact ⟨_, rfl, ho, hbl⟩
theorem szInt64S_any (x : Value) (xs : List Int) (left : Int) (w : World) (hx : IntsV w x xs) (h0 : 0 ≤ left) (h1 : left ≤ 1048576) :
  Calls Tryz.prog 23 #[x, .int .i64 left] w fun e w' => e = .returned (.int .i64 (szLen left xs.length)) ∧ w' = w := by
 obtain ⟨ax, cx, rfl, hcx, hmx, hx⟩ := hx
 unfold maxLen at hmx
 generalize xs.length = n at *
 clear hx
 by_cases h : left < n
 ·
  have h' : left - (n : Int) < 0 := by omega
  go_enter Tryz.func23, Tryz.ntmps23
  go_wp2
  go_ret
  exact ⟨by simp only [szLen, if_pos h]; rfl, rfl⟩
 ·
  have h' : ¬ left - (n : Int) < 0 := by omega
  go_enter Tryz.func23, Tryz.ntmps23
  go_wp2
  go_ret
  exact ⟨by rw [szLen, if_neg (by omega)]; rfl, rfl⟩
end Go.Proofs.YtndghenlapbaaaaGreat

/-
 Rows of int64: the uniform forms. (Written by program: nest.py.)
-/
namespace Go.Proofs.YtndghenlapbaaaaGreat
open Go.RowKit
variable [DecidableEq Leg] [Inhabited Leg]
attribute [local go_sem ↓] Go.wp_at_zero Go.wp_at_succ

def intsR : Rep (List Int) := fRep 2 1 intsC IntsV IntsV_below IntsV_of_owns
def wtInts (xs : List Int) : Nat := xs.length
def cntInts (xs : List Int) : Nat := xs.length
def mkInts (k : Int) (xs : List Int) : List Int := marksI k xs.length
theorem ints_form {w : World} {v : Value} {xs : List Int} (h : intsR.V w v xs) : ∃ a c, v = .slice a xs.length c := by
 obtain ⟨a, c, rfl, _⟩ := h
 exact ⟨_, _, rfl⟩
theorem ints_cnt (d : List Int) : cntInts d ≤ 1 * wtInts d := by unfold cntInts wtInts; omega
theorem toInt64S_u (x : Value) (d : List Int) (w : World) (hx : intsR.V w x d) (hn : wtInts d ≤ 1048576) :
  Calls Tryz.prog 32 #[x] w fun e w' => ∃ v F, e = .returned v ∧ intsR.O w' w.heap.size F v d ∧ Below w.heap.size w w' := by
 refine (toInt64S_any x d w hx hn).mono ?_
 rintro e w' ⟨v, rfl, ho, hb⟩
 exact ⟨v, _, rfl, ⟨ho, rfl⟩, hb⟩
theorem eqInt64S_u (x y : Value) (d d' : List Int) (w : World) (hx : intsR.V w x d) (hy : intsR.V w y d') :
  Calls Tryz.prog 44 #[x, y] w fun e w' => e = .returned (.bool (decide (d = d'))) ∧ Below w.heap.size w w' := eqInt64S_any x y d d' w hx hy
theorem szInt64S_u (x : Value) (d : List Int) (left : Int) (w : World) (hx : intsR.V w x d) (h0 : 0 ≤ left) (h1 : left ≤ 1048576) :
  Calls Tryz.prog 23 #[x, .int .i64 left] w fun e w' => e = .returned (.int .i64 (szLen left (wtInts d))) ∧ Below w.heap.size w w' := by
 refine (szInt64S_any x d left w hx h0 h1).mono ?_
 rintro e w' ⟨rfl, rfl⟩
 exact ⟨rfl, Below.refl _ _⟩
theorem markInt64S_u (v : Value) (d : List Int) (base : Nat) (F : Nat → Prop) (k : Int) (w : World) (ho : intsR.O w base F v d) (hw : wtInts d ≤ 1048576) (hn : k + cntInts d ≤ 1073741824) (hk0 : 0 ≤ k) :
  Calls Tryz.prog 49 #[v, .int .i64 k] w fun r w' => r = .returned (.int .i64 (k + cntInts d)) ∧ intsR.O w' base F v (mkInts k d) ∧ Mod F w w' := by
 refine (markInt64S_any v d.length _ base _ k w ho.1 hw hk0 (by omega)).mono ?_
 rintro e w' ⟨rfl, h1, h2⟩
 refine ⟨by simp [cntInts], ⟨?_, ho.2⟩, by rw [ho.2]; exact Mod.of_grown h2⟩
 unfold mkInts
 rw [length_marksI]
 exact h1
theorem heldInt64S_u (v : Value) (d : List Int) (k : Int) (w : World) (hv : intsR.V w v (mkInts k d)) (hw : wtInts d ≤ 1048576) (hn : k + cntInts d ≤ 1073741824) (hk0 : 0 ≤ k) :
  Calls Tryz.prog 90 #[v, .int .i64 k] w fun r w' => r = .returned (.int .i64 (k + cntInts d)) ∧ Below w.heap.size w w' := by
 refine (heldInt64S_any v d.length k w hv hw hk0 (by omega)).mono ?_
 rintro e w' ⟨rfl, rfl⟩
 exact ⟨by simp [cntInts], Below.refl _ _⟩
end Go.Proofs.YtndghenlapbaaaaGreat

/-
 OutcomesResult. (Written by program: nest.py.)
-/
namespace Go.Proofs.YtndghenlapbaaaaGreat
open Go.RowKit
variable [DecidableEq Leg] [Inhabited Leg] [DecidableEq Bal] [Inhabited Bal] [DecidableEq Ledg] [Inhabited Ledg]
attribute [local go_sem ↓] Go.wp_at_zero Go.wp_at_succ


structure OutcR where
 code : Int
 outcomes : List Int
 ledger : Ledg
variable [DecidableEq OutcR] [Inhabited OutcR]

end Go.Proofs.YtndghenlapbaaaaGreat


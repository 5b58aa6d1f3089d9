/-
  The specification's l2Add: legs added to the balances of a shard.
-/
import Derived.Test.YteebglgbeijolaaSetB
import Derived.Test.YteebglgbeijolaaApp2
import Derived.Test.YteebglgbeijolaaCan
namespace Go.Proofs.Yteebglgbeijolaa
open Go.RowKit
set_option linter.unusedSectionVars false
variable [DecidableEq Bal] [Inhabited Bal] [DecidableEq Ledg] [Inhabited Ledg] [DecidableEq Leg] [Inhabited Leg] [DecidableEq Cont] [Inhabited Cont]
attribute [local go_sem ↓] Go.wp_at_zero Go.wp_at_succ

def addStep (xs : List Bal) (l : Leg) : List Bal := setB l.ac l.ast (hasB l.ac l.ast xs + l.am) xs
def addTo (xs : List Bal) (ls : List Leg) (k : Nat) : List Bal := (ls.take k).foldl addStep xs
def addB (xs : List Bal) (ls : List Leg) : List Bal := ls.foldl addStep xs
theorem addTo_succ (xs : List Bal) (ls : List Leg) {k : Nat} (h : k < ls.length) : addTo xs ls (k + 1) = addStep (addTo xs ls k) (ls.getD k default) := by
  unfold addTo
  rw [take_snoc ls k h, List.foldl_append]
  rfl
theorem addTo_end (xs : List Bal) (ls : List Leg) : addTo xs ls ls.length = addB xs ls := by unfold addTo addB; rw [List.take_length]

/-- all that l2Set asks, at every step -/
structure AddOk (xs : List Bal) (ls : List Leg) : Prop where
  len : ∀ k, k ≤ ls.length → (addTo xs ls k).length ≤ 1000000
  keys : ∀ k, k ≤ ls.length → ∀ j, j < (addTo xs ls k).length → keyOk ((addTo xs ls k).getD j default).ac ((addTo xs ls k).getD j default).ast = true
  leg : ∀ k, k < ls.length → keyOk (ls.getD k default).ac (ls.getD k default).ast = true
  sum : ∀ k, k < ls.length → -9223372036854775808 ≤ hasB (ls.getD k default).ac (ls.getD k default).ast (addTo xs ls k) + (ls.getD k default).am ∧ hasB (ls.getD k default).ac (ls.getD k default).ast (addTo xs ls k) + (ls.getD k default).am ≤ 9223372036854775807

set_option maxHeartbeats 2000000 in
theorem l2Add_any (x y : Value) (xs : List Bal) (ls : List Leg) (w : World) (hx : balsR.V w x xs) (hy : legsR.V w y ls) (hok : AddOk xs ls) :
    Calls Try.prog 126 #[x, y] w fun e w' => ∃ u F, e = .returned u ∧ balsR.O w' w.heap.size F u (addB xs ls) ∧ Below w.heap.size w w' := by
  have hX := hx
  obtain ⟨ax, cx, rfl⟩ := bals_form hx
  obtain ⟨ay, cy, rfl, hcy, hmy, hy⟩ := hy
  unfold maxLen at hmy
  obtain ⟨i0, hi, hz0, hz1, hz2⟩ := info_parts infoBal
  have HOK : Hid (AddOk xs ls) := hok
  have hlen : xs.length ≤ 1000000 := hok.len 0 (Nat.zero_le _)
  clear hok hx
  generalize hn' : ls.length = n at *
  have HN : Hid (ls.length = n) := hn'
  clear hn'
  have hs0 : AppAny (w.alloc (.cells #[] 178)) (.slice ax xs.length cx) xs.length (balsC xs) := appAny_bals (balsR.below hX (by (repeat (first | exact Below.refl _ _ | assumption | refine Below.drew ?_ | refine balloc ?_ _ | refine bset ?_ (by simp; omega) _ | refine bset ?_ (by simp) _ | refine bstep ?_ (by assumption)))))
  have ho0 := World.ownsRow_lit (base := w.heap.size) (e := 178) (size := 3) w #[] 0 (by simp) (by unfold maxLen; omega) rfl
  go_enter Try.func126, Try.ntmps126
  go_wp2_with (at_builtin; refine wpList_appAny _ rfl _ _ 171 rfl w.heap.size 178 i0 _ 3 24 Try.underlying171 hi hz0 hz1 hz2 rfl (by decide) _ _ _ rfl _ xs.length (balsC xs) rfl ho0 hs0 ?c1 ?c2 ?c3 ?c4 ?c5 ?_)
  case c1 => rw [length_balsC]
  case c2 =>
    intro u hu
    simp only [balsC, List.mem_flatMap] at hu
    obtain ⟨b, _, hb⟩ := hu
    exact balC_one b u hb
  case c3 => unfold maxLen; omega
  case c4 => omega
  intro v' w1 hown' hgrow hbel
  have hB1 : Below w.heap.size w w1 := hbel w (by (repeat (first | exact Below.refl _ _ | assumption | refine Below.drew ?_ | refine balloc ?_ _ | refine bset ?_ (by simp; omega) _ | refine bset ?_ (by simp) _ | refine bstep ?_ (by assumption))))
  have ho1 : ∃ F, balsR.O w1 w.heap.size F v' xs := ⟨_, hown', rfl⟩
  clear hown' hgrow hbel hs0 ho0 hX
  go_wp2
  go_loopw [5, 6] (fun u i w' => ∃ k : Nat, k ≤ n ∧ i = .int .i64 k ∧ (∃ F, balsR.O w' w.heap.size F u (addTo xs ls k)) ∧ Below w.heap.size w w') (fun _ i _ => n - (intOf i).toNat)
  case atStart => exact ⟨0, Nat.zero_le _, rfl, by simpa [addTo] using ho1, hB1⟩
  case round =>
    obtain ⟨k, hk, rfl, ⟨F, ho⟩, hbl⟩ := hrel
    by_cases hlt : k < n
    · obtain ⟨bx, ox, rfl, g1⟩ := hy k hlt
      have hkl : k < ls.length := by rw [HN.out]; exact hlt
      have HST : Hid (addTo xs ls (k + 1) = addStep (addTo xs ls k) (ls.getD k default)) := addTo_succ xs ls hkl
      have hl1 := HOK.out.len k (by omega)
      have hl2 := HOK.out.keys k (by omega)
      have hl3 := HOK.out.leg k hkl
      have hl4 := HOK.out.sum k hkl
      obtain ⟨l, hl⟩ : ∃ l, l = ls.getD k default := ⟨_, rfl⟩
      rw [← hl] at g1 HST hl3 hl4
      clear hl hy ho1
      obtain ⟨ys, hys⟩ : ∃ ys, ys = addTo xs ls k := ⟨_, rfl⟩
      rw [← hys] at ho HST hl1 hl2 hl4
      clear hys
      have HK2 : Hid (∀ j, j < ys.length → keyOk (ys.getD j default).ac (ys.getD j default).ast = true) := hl2
      clear hl2
      obtain ⟨z, hz⟩ : ∃ z, z = hasB l.ac l.ast ys := ⟨_, rfl⟩
      rw [← hz] at hl4
      have HE : Hid (addTo xs ls (k + 1) = setB l.ac l.ast (z + l.am) ys) := by show _ = _; rw [HST.out, addStep, hz]
      have v1 : IntKind.i64.wrap (z + l.am) = z + l.am := wrapId hl4.1 hl4.2
      have g2 := legCells_below hbl g1
      obtain ⟨au, cu, rfl⟩ := bals_form (balsR.ofO ho)
      have hV := balsR.ofO ho
      have i1 : (k : Int) < (n : Int) := by omega
      obtain ⟨a1, a2, a3, a4⟩ := g2
      have g3 : legCells wr bx (ox + k * 4) l := ⟨a1, a2, a3, a4⟩
      go_wp2
      go_region_held3 (fun w' => Below wr.heap.size wr w' ∧ w'.cell? ⟨bx, ox + k * 4, none⟩ = some (.int .i64 l.sh) ∧ w'.cell? ⟨bx, ox + k * 4 + 1, none⟩ = some (.int .i64 l.ac) ∧ w'.cell? ⟨bx, ox + k * 4 + 2, none⟩ = some (.int .i64 l.ast) ∧ w'.cell? ⟨bx, ox + k * 4 + 3, none⟩ = some (.int .i64 l.am))
        ((refine legKeep ?_ g3; (repeat (first | exact Below.refl _ _ | assumption | refine Below.drew ?_ | refine balloc ?_ _ | refine bstep ?_ (by assumption)))))
        (first | (go_at_call 153; refine (l2Has_any _ ys l.ac l.ast _ (balsR.below hV (Below.drew (Below.refl _ _)))).mono ?_; rw [← hz]; rintro e w3 ⟨rfl, rfl⟩) | (go_at_call 152; (first | rw [← hz, v1] | rw [v1] | skip); refine (l2Set_any _ ys l.ac l.ast (z + l.am) _ (balsR.below hV (Below.drew (Below.refl _ _))) hl1 hl3 HK2.out).mono ?_; rintro e w4 ⟨u4, F4, rfl, o4, hb4⟩))
      rename_i hH
      have hB4 := bstep hbl hH.1
      have hsz := hH.1.size
      have hw0 := hbl.size
      clear hH
      go_wp2
      refine ⟨⟨k + 1, by omega, by go_num, ⟨F4, ?_⟩, hB4⟩, by simp [intOf]; omega⟩
      rw [HE.out]
      exact balsR.base o4 (by simpa using hw0)
    · have hkn : k = n := by omega
      subst hkn
      go_wp2
      go_ret
      refine ⟨_, F, rfl, ?_, hbl⟩
      rw [← HN.out, addTo_end] at ho
      exact ho

end Go.Proofs.Yteebglgbeijolaa

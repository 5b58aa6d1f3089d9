import Derived.Test.YtncmdeijimgchaaPrnAcceptAtLaw4
import Derived.Test.YtncmdeijimgchaaPrnAcceptAtLaw1
import Derived.Test.YtncmdeijimgchaaPrnAcceptAtLaw2
import Derived.Deep.RegionHeld3
import Derived.Deep.DrawnRows

/-
  slices.Insert of one slot, whatever room there is.
-/
namespace Go.Proofs.Ytncmdeijimgchaa
open Go.RowKit Go.Shelf
set_option linter.unusedSectionVars false
variable [DecidableEq Vot] [Inhabited Vot] [DecidableEq Slt] [Inhabited Slt] [DecidableEq Bal] [Inhabited Bal] [DecidableEq Ledg] [Inhabited Ledg] [DecidableEq Leg] [Inhabited Leg]
set_option linter.unusedVariables false
set_option linter.unusedSimpArgs false

theorem slt_cells {w : World} {base : Nat} {F : Nat → Prop} {u : Value} {x : Slt} (h : sltR.O w base F u x) : ∃ a c, u = .agg #[.int .i64 x.con, .int .i64 x.sh, .int .i64 x.pr, .int .i64 x.lb, .int .i64 x.lv, .slice a x.cast.length c] ∧ lvSlt u = [.int .i64 x.con, .int .i64 x.sh, .int .i64 x.pr, .int .i64 x.lb, .int .i64 x.lv, .slice a x.cast.length c] := by
  obtain ⟨u1, F1, rfl, h1, _⟩ := h
  obtain ⟨a, c, rfl⟩ := owns_form h1.1
  exact ⟨a, c, rfl, rfl⟩
theorem slt_one6 {w : World} {base : Nat} {F : Nat → Prop} {u : Value} {x : Slt} (h : sltR.O w base F u x) : (lvSlt u).length = 6 ∧ ∀ y ∈ lvSlt u, y.oneCell' = true := by
  obtain ⟨a, c, rfl, e⟩ := slt_cells h
  rw [e]
  refine ⟨rfl, fun y hy => ?_⟩
  simp at hy
  rcases hy with rfl | rfl | rfl | rfl | rfl | rfl <;> rfl
theorem slts_one {w : World} {base : Nat} {v : Value} {n : Nat} {d : Nat → Slt} {cs : List Value} {us : Nat → Value} {fs : Nat → Nat → Prop} (hp : PO sltR 91 6 lvSlt w base v n n d cs us fs) : ∀ y ∈ cs, y.oneCell' = true := by
  intro y hy
  obtain ⟨k, hk, rfl⟩ := List.getElem_of_mem hy
  have hcl : cs.length = n * 6 := hp.row.1
  have h1 := hp.cell (k / 6) (by omega) (k % 6) (by omega)
  have e : k / 6 * 6 + k % 6 = k := by omega
  rw [e, List.getElem?_eq_getElem hk] at h1
  exact (slt_one6 (hp.el (k / 6) (by omega))).2 _ (List.mem_of_getElem? h1.symm)
theorem insertS_any (base : Nat) (v : Value) (i vb : Nat) (xs : List Slt) (u : Value) (x : Slt) (F Fu : Nat → Prop) (w : World) (hown : sltsR.O w base F v xs) (hi : i ≤ xs.length) (hn : xs.length ≤ 1048000) (hbase : base ≤ w.heap.size)
    (hu : sltR.O w base Fu u x) (hd : ∀ b, F b → ¬ Fu b) (hv : w.heap[vb]? = some (.cells (lvSlt u).toArray 91 (0, 0))) (hvb : v.ownBlock ≠ some vb) :
    Calls Try.prog 143 #[v, .int .i64 i, .slice (some ⟨vb, 0, none⟩) 1 1] w fun e w' =>
      ∃ v' F', e = .returned v' ∧ sltsR.O w' base F' v' (xs.take i ++ [x] ++ xs.drop i) ∧ Mod (fun b => v.ownBlock = some b) w w' ∧ (∀ b, F' b → F b ∨ Fu b ∨ w.heap.size ≤ b) := by
  obtain ⟨cs, us, fs, hp, hF⟩ := hown
  have hcl : cs.length = xs.length * 6 := hp.row.1
  obtain ⟨hul, hu1⟩ := slt_one6 hu
  have h1c := slts_one hp
  have hown := hp.row
  have fin : ∀ (v' : Value) (w' : World), w'.ownsRow base 91 6 v' (xs.length + 1) (cs.take (i * 6) ++ lvSlt u ++ cs.drop (i * 6)) → Mod (fun b => v.ownBlock = some b) w w' → (∀ b, v'.ownBlock = some b → v.ownBlock = some b ∨ w.heap.size ≤ b) →
      ∃ F', sltsR.O w' base F' v' (xs.take i ++ [x] ++ xs.drop i) ∧ (∀ b, F' b → F b ∨ Fu b ∨ w.heap.size ≤ b) := fun v' w' h1 h2 h3 => NO.ins hp hF hi hu hul hd h1 h2 h3
  by_cases hie : i = xs.length
  · subst hie
    refine (insertS_end base v xs.length vb cs (lvSlt u) w hown (by omega) hbase hul hv hu1).mono ?_
    rintro e w' ⟨v', rfl, h1, h2, h3⟩
    have h4 : ∀ b, v'.ownBlock = some b → v.ownBlock = some b ∨ w.heap.size ≤ b := fun b hb => by
      rcases h3 with h3 | h3
      · exact .inl (h3 ▸ hb)
      · rw [h3] at hb
        simp only [Option.some.injEq] at hb
        exact .inr (by omega)
    obtain ⟨F', h5, h6⟩ := fin v' w' (by rw [List.take_of_length_le (by omega), List.drop_of_length_le (by omega), List.append_nil]; exact h1) (Mod.of_grown h2) h4
    exact ⟨v', F', rfl, h5, Mod.of_grown h2, h6⟩
  · rcases hown.2 with ⟨_, h0⟩ | ⟨g, cap, cur, rfl, hbg, hg, hnc, hcm, hcs, htake⟩
    · omega
    · have hne : vb ≠ g := fun e => hvb (by rw [e]; rfl)
      have hgl : g < w.heap.size := (Array.getElem?_eq_some_iff.1 hg).1
      have hcl2 : (cs.take (i * 6) ++ lvSlt u ++ cs.drop (i * 6)).length = (xs.length + 1) * 6 := by
        simp only [List.length_append, List.length_take, List.length_drop, hul, hcl]
        omega
      by_cases hroom : xs.length + 1 ≤ cap
      · refine (insertS_shift g xs.length cap i vb cs (lvSlt u) cur w hg (by omega) hroom (by unfold maxLen at hcm; omega) hne hcs hcl htake hul hv h1c hu1).mono ?_
        rintro e w' ⟨rfl, cur', h1, h2, h3, h4⟩
        obtain ⟨F', h5, h6⟩ := fin (.slice (some ⟨g, 0, none⟩) (xs.length + 1) cap) w' ⟨hcl2, .inr ⟨g, cap, cur', rfl, hbg, h1, hroom, hcm, h2, h3⟩⟩ (h4.mono (fun b h => by rw [h]; rfl)) (fun b hb => .inl hb)
        exact ⟨_, F', rfl, h5, h4.mono (fun b h => by rw [h]; rfl), h6⟩
      · refine (insertS_grow g xs.length cap i vb cs (lvSlt u) w (by omega) hnc (by omega) (by omega) hcl (fun j v hj => ?_) hul hv h1c hu1).mono ?_
        · refine cell_rowS hg ?_
          rw [← htake, List.getElem?_take] at hj
          split at hj
          · exact hj
          · cases hj
        · rintro e w' ⟨G, rfl, cur', h1, h2, h3, h4, h5, h6⟩
          have h6' : Mod (fun b => (Value.slice (some ⟨g, 0, none⟩) xs.length cap).ownBlock = some b) w w' := h6.mono (fun b h => h.elim)
          obtain ⟨F', h7, h8⟩ := fin (.slice (some ⟨w.heap.size, 0, none⟩) (xs.length + 1) G) w' ⟨hcl2, .inr ⟨w.heap.size, G, cur', rfl, hbase, h1, h2, h3, h4, h5⟩⟩ h6' (fun b hb => by simp only [Value.ownBlock, Option.some.injEq] at hb; exact .inr (by omega))
          exact ⟨_, F', rfl, h7, h6', h8⟩
end Go.Proofs.Ytncmdeijimgchaa

/-
  Acceptor. (Written by program: nest.py.)
-/
namespace Go.Proofs.Ytncmdeijimgchaa
open Go.RowKit
set_option linter.unusedSectionVars false
variable [DecidableEq Vot] [Inhabited Vot] [DecidableEq Slt] [Inhabited Slt]
attribute [local go_sem ↓] Go.wp_at_zero Go.wp_at_succ

structure Acc where
  slots : List Slt
variable [DecidableEq Acc] [Inhabited Acc]

def accR : Rep Acc where
  V := fun w v x => ∃ u1, v = .agg #[u1] ∧ sltsR.V w u1 x.slots
  O := fun w base F v x => ∃ u1 F1, v = .agg #[u1] ∧ sltsR.O w base F1 u1 x.slots ∧ (∀ b, F b ↔ (F1 b))
  below := fun h hb => by
    obtain ⟨u1, rfl, h1⟩ := h
    exact ⟨u1, rfl, sltsR.below h1 hb⟩
  ofO := fun h => by
    obtain ⟨u1, F1, rfl, h1, _⟩ := h
    exact ⟨u1, rfl, sltsR.ofO h1⟩
  mod := fun h hm hd => by
    obtain ⟨u1, F1, rfl, h1, hF⟩ := h
    exact ⟨u1, F1, rfl, sltsR.mod h1 hm (fun b hb => hd b ((hF b).2 hb)), hF⟩
  rng := fun h b hb => by
    obtain ⟨u1, F1, rfl, h1, hF⟩ := h
    rcases (hF b).1 hb with hb
    · exact sltsR.rng h1 b hb
  base := fun h hb => by
    obtain ⟨u1, F1, rfl, h1, hF⟩ := h
    exact ⟨u1, F1, rfl, sltsR.base h1 hb, hF⟩
def wtAcc (x : Acc) : Nat := wtSlts x.slots
def cntAcc (x : Acc) : Nat := cntSlts x.slots
def mkAcc (k : Int) (x : Acc) : Acc := { x with slots := mkSlts k x.slots }
def lvAcc (v : Value) : List Value := match v with | .agg a => one (a.getD 0 (.int .i64 0)) | _ => []
theorem acc_form {w : World} {v : Value} {x : Acc} (h : accR.V w v x) : ∃ a1 c1, v = .agg #[.slice a1 x.slots.length c1] := by
  obtain ⟨u1, rfl, h1⟩ := h
  obtain ⟨a1, c1, rfl⟩ := slts_form h1
  exact ⟨_, _, rfl⟩
theorem acc_cnt (d : Acc) : cntAcc d ≤ 7 * wtAcc d := by
  unfold cntAcc wtAcc
  have q1 := slts_cnt d.slots
  omega
set_option maxHeartbeats 1000000 in
theorem toAcceptor_u (x : Value) (d : Acc) (w : World) (hx : accR.V w x d) (hn : wtAcc d ≤ 1048576) :
    Calls Try.prog 23 #[x] w fun e w' => ∃ v F, e = .returned v ∧ accR.O w' w.heap.size F v d ∧ Below w.heap.size w w' := by
  obtain ⟨u1, rfl, h1⟩ := hx
  unfold wtAcc at hn
  go_enter Try.func23, Try.ntmps23
  go_wp2_with fail
  refine (toSlotS_u _ d.slots _ (sltsR.below h1 (by (repeat (first | exact Below.refl _ _ | assumption | refine Below.drew ?_ | refine balloc ?_ _ | refine bset ?_ (by simp; omega) _ | refine bset ?_ (by simp) _ | refine bstep ?_ (by assumption))))) (by omega)).mono ?_
  rintro e w1 ⟨v1, F1, rfl, o1, b1⟩
  obtain ⟨a1, n1, rfl⟩ := slts_form (sltsR.ofO o1)
  obtain ⟨c1, f1⟩ := bcell b1
  have z1 := b1.size
  simp at z1
  replace o1 := sltsR.base (base' := w.heap.size + 3) o1 (by simp; try omega)
  go_wp2
  refine bodyPost_ret (v := .agg #[.slice a1 d.slots.length n1]) ?_ rfl ⟨_, fun b => F1 b, rfl, ⟨_, F1, rfl, sltsR.base (base := w.heap.size + 3) (by (repeat (first | assumption | refine Rep.set _ ?_ _ (by simp; omega) | refine Rep.set _ ?_ _ (by simp) | refine Rep.alloc _ ?_ _ | refine Rep.keep _ ?_ (by assumption)))) (by omega), fun b => Iff.rfl⟩, by (repeat (first | exact Below.refl _ _ | assumption | refine Below.drew ?_ | refine balloc ?_ _ | refine bset ?_ (by simp; omega) _ | refine bset ?_ (by simp) _ | refine bstep ?_ (by assumption)))⟩
  simp [results, Try.results23, go_sem, c1]
set_option maxHeartbeats 1000000 in
theorem szAcceptor_u (x : Value) (d : Acc) (left : Int) (w : World) (hx : accR.V w x d) (h0 : 0 ≤ left) (h1 : left ≤ 1048576) :
    Calls Try.prog 21 #[x, .int .i64 left] w fun e w' => e = .returned (.int .i64 (szLen left (wtAcc d))) ∧ Below w.heap.size w w' := by
  obtain ⟨u1, rfl, k1⟩ := hx
  go_enter Try.func21, Try.ntmps21
  go_wp2_with fail
  refine (szSlotS_u _ d.slots left _ (sltsR.below k1 (by (repeat (first | exact Below.refl _ _ | assumption | refine Below.drew ?_ | refine balloc ?_ _ | refine bset ?_ (by simp; omega) _ | refine bset ?_ (by simp) _ | refine bstep ?_ (by assumption))))) h0 h1).mono ?_
  rintro e w1 ⟨rfl, b1⟩
  go_wp2
  · rename_i h
    go_ret
    refine ⟨?_, by (repeat (first | exact Below.refl _ _ | assumption | refine Below.drew ?_ | refine balloc ?_ _ | refine bset ?_ (by simp; omega) _ | refine bset ?_ (by simp) _ | refine bstep ?_ (by assumption)))⟩
    rw [szLen_neg (n := wtSlts d.slots) (by omega) (wtAcc d) (by unfold wtAcc; omega)]
    rfl
  rename_i h
  go_ret
  exact ⟨rfl, by (repeat (first | exact Below.refl _ _ | assumption | refine Below.drew ?_ | refine balloc ?_ _ | refine bset ?_ (by simp; omega) _ | refine bset ?_ (by simp) _ | refine bstep ?_ (by assumption)))⟩
set_option maxHeartbeats 1000000 in
theorem eqAcceptor_u (x y : Value) (d d' : Acc) (w : World) (hx : accR.V w x d) (hy : accR.V w y d') :
    Calls Try.prog 26 #[x, y] w fun e w' => e = .returned (.bool (decide (d = d'))) ∧ Below w.heap.size w w' := by
  obtain ⟨u1, rfl, h1⟩ := hx
  obtain ⟨v1, rfl, k1⟩ := hy
  obtain ⟨slots⟩ := d
  obtain ⟨slots'⟩ := d'
  dsimp only at h1 k1
  go_enter Try.func26, Try.ntmps26
  go_wp2_with fail
  all_goals try (go_ret; exact ⟨by simp_all, by (repeat (first | exact Below.refl _ _ | assumption | refine Below.drew ?_ | refine balloc ?_ _ | refine bset ?_ (by simp; omega) _ | refine bset ?_ (by simp) _ | refine bstep ?_ (by assumption)))⟩)
  refine (eqSlotS_u _ _ slots slots' _ (sltsR.below h1 (by (repeat (first | exact Below.refl _ _ | assumption | refine Below.drew ?_ | refine balloc ?_ _ | refine bset ?_ (by simp; omega) _ | refine bset ?_ (by simp) _ | refine bstep ?_ (by assumption))))) (sltsR.below k1 (by (repeat (first | exact Below.refl _ _ | assumption | refine Below.drew ?_ | refine balloc ?_ _ | refine bset ?_ (by simp; omega) _ | refine bset ?_ (by simp) _ | refine bstep ?_ (by assumption)))))).mono ?_
  rintro e w1 ⟨rfl, b1⟩
  go_wp2
  all_goals
    go_ret
    exact ⟨by simp_all, by (repeat (first | exact Below.refl _ _ | assumption | refine Below.drew ?_ | refine balloc ?_ _ | refine bset ?_ (by simp; omega) _ | refine bset ?_ (by simp) _ | refine bstep ?_ (by assumption)))⟩
set_option maxHeartbeats 1000000 in
theorem markAcceptor_u (v : Value) (d : Acc) (base : Nat) (F : Nat → Prop) (k : Int) (w : World) (ho : accR.O w base F v d) (hw : wtAcc d ≤ 1048576) (hn : k + cntAcc d ≤ 1073741824) (hk0 : 0 ≤ k) :
    Calls Try.prog 27 #[v, .int .i64 k] w fun r w' => r = .returned (.int .i64 (k + cntAcc d)) ∧ accR.O w' base F v (mkAcc k d) ∧ Mod F w w' := by
  obtain ⟨u1, F1, rfl, h1, hF⟩ := ho
  unfold wtAcc at hw
  unfold cntAcc at hn ⊢
  have HF : Hid (∀ b, F b ↔ (F1 b)) := hF
  clear hF
  go_enter Try.func27, Try.ntmps27
  go_wp2_with fail
  refine (markSlotS_u _ d.slots base F1 k _ (sltsR.alloc h1 _) (by omega) (by omega) (by omega)).mono ?_
  rintro e w1 ⟨rfl, r1, m1⟩
  go_wp2
  go_ret
  refine ⟨?_, ⟨_, F1, rfl, r1, HF.out⟩, ((Mod.refl F w).alloc _).trans (m1.mono (fun b hb => (HF.out b).2 hb))⟩
  simp
  try omega
set_option maxHeartbeats 1000000 in
theorem heldAcceptor_u (v : Value) (d : Acc) (k : Int) (w : World) (hv : accR.V w v (mkAcc k d)) (hw : wtAcc d ≤ 1048576) (hn : k + cntAcc d ≤ 1073741824) (hk0 : 0 ≤ k) :
    Calls Try.prog 73 #[v, .int .i64 k] w fun r w' => r = .returned (.int .i64 (k + cntAcc d)) ∧ Below w.heap.size w w' := by
  obtain ⟨u1, rfl, h1⟩ := hv
  unfold wtAcc at hw
  unfold cntAcc at hn ⊢
  go_enter Try.func73, Try.ntmps73
  go_wp2_with fail
  refine (heldSlotS_u _ d.slots k _ (sltsR.below h1 (by (repeat (first | exact Below.refl _ _ | assumption | refine Below.drew ?_ | refine balloc ?_ _ | refine bset ?_ (by simp; omega) _ | refine bset ?_ (by simp) _ | refine bstep ?_ (by assumption))))) (by omega) (by omega) (by omega)).mono ?_
  rintro e w1 ⟨rfl, b1⟩
  go_wp2
  go_ret
  refine ⟨?_, by (repeat (first | exact Below.refl _ _ | assumption | refine Below.drew ?_ | refine balloc ?_ _ | refine bset ?_ (by simp; omega) _ | refine bset ?_ (by simp) _ | refine bstep ?_ (by assumption)))⟩
  simp
  try omega
end Go.Proofs.Ytncmdeijimgchaa

/-
  One slot more behind slots, one acceptor more behind acceptors.
-/
set_option linter.unusedVariables false
namespace Go.Proofs.Ytncmdeijimgchaa
open Go.RowKit
set_option linter.unusedSectionVars false
variable [DecidableEq Vot] [Inhabited Vot] [DecidableEq Slt] [Inhabited Slt] [DecidableEq Bal] [Inhabited Bal] [DecidableEq Ledg] [Inhabited Ledg] [DecidableEq Leg] [Inhabited Leg] [DecidableEq Acc] [Inhabited Acc]

theorem wpl_appS (w : World) {ops : Array Oper} {rest : List Oper} {o : Oper} {a : Act} {Q : Exit → Act → World → Prop} (hgd : o.guard = none) (s x : Operand)
    (ho : o.op = .call { callee := .builtin .append, args := #[s, x], argTypes := #[55, 55] })
    (base : Nat) (F Fu : Nat → Prop) (v : Value) (xs : List Slt) (y : Slt) (g : Nat) (p : Option Addr) (q : Nat) (hs : a.eval s = v) (hx : a.eval x = .slice (some ⟨g, 0, none⟩) 1 1) (hown : sltsR.O w base F v xs) (hu : sltR.O w base Fu (.agg #[.int .i64 y.con, .int .i64 y.sh, .int .i64 y.pr, .int .i64 y.lb, .int .i64 y.lv, .slice p y.cast.length q]) y) (hd : ∀ b, F b → ¬ Fu b)
    (hc : w.cell? ⟨g, 0, none⟩ = some (.int .i64 y.con) ∧ w.cell? ⟨g, 0 + 1, none⟩ = some (.int .i64 y.sh) ∧ w.cell? ⟨g, 0 + 2, none⟩ = some (.int .i64 y.pr) ∧ w.cell? ⟨g, 0 + 3, none⟩ = some (.int .i64 y.lb) ∧ w.cell? ⟨g, 0 + 4, none⟩ = some (.int .i64 y.lv) ∧ w.cell? ⟨g, 0 + 5, none⟩ = some (.slice p y.cast.length q)) (hn : xs.length ≤ 2000000) (hbase : base ≤ w.heap.size)
    (h : ∀ v' w' F', sltsR.O w' base F' v' (xs ++ [y]) → Below base w w' → (∀ b, F' b → F b ∨ Fu b ∨ w.heap.size ≤ b) → wpList Try.prog ops Q rest (a.put o.dst v') w') : wpList Try.prog ops Q (o :: rest) a w := by
  obtain ⟨i0, hi, hz0, hz1, hz2⟩ := info_parts infoSlts
  obtain ⟨h6, h1⟩ := slt_one6 hu
  exact wpl_appN w hgd s x 55 ho 91 i0 _ 6 64 Try.underlying55 hi hz0 hz1 hz2 rfl (by decide) (by decide) base F Fu v _ xs y ⟨g, 0, none⟩ 1 hs hx hown hu h6 h1 hd (fun j y' hj => by
    match j, hj with
    | 0, hj => simp [lvSlt, one] at hj; subst hj; simpa [Addr.add] using hc.1
    | 1, hj => simp [lvSlt, one] at hj; subst hj; simpa [Addr.add] using hc.2.1
    | 2, hj => simp [lvSlt, one] at hj; subst hj; simpa [Addr.add] using hc.2.2.1
    | 3, hj => simp [lvSlt, one] at hj; subst hj; simpa [Addr.add] using hc.2.2.2.1
    | 4, hj => simp [lvSlt, one] at hj; subst hj; simpa [Addr.add] using hc.2.2.2.2.1
    | 5, hj => simp [lvSlt, one] at hj; subst hj; simpa [Addr.add] using hc.2.2.2.2.2
    | j + 6, hj => simp [lvSlt, one] at hj) hn hbase h
theorem step_appS (w : World) {ops : Array Oper} {o : Oper} {a : Act} {K : Act → World → Prop} {Q : Exit → Act → World → Prop} {E : Prop} (hgd : o.guard = none) (s x : Operand)
    (ho : o.op = .call { callee := .builtin .append, args := #[s, x], argTypes := #[55, 55] })
    (base : Nat) (F Fu : Nat → Prop) (v : Value) (xs : List Slt) (y : Slt) (g : Nat) (p : Option Addr) (q : Nat) (hs : a.eval s = v) (hx : a.eval x = .slice (some ⟨g, 0, none⟩) 1 1) (hown : sltsR.O w base F v xs) (hu : sltR.O w base Fu (.agg #[.int .i64 y.con, .int .i64 y.sh, .int .i64 y.pr, .int .i64 y.lb, .int .i64 y.lv, .slice p y.cast.length q]) y) (hd : ∀ b, F b → ¬ Fu b)
    (hc : w.cell? ⟨g, 0, none⟩ = some (.int .i64 y.con) ∧ w.cell? ⟨g, 0 + 1, none⟩ = some (.int .i64 y.sh) ∧ w.cell? ⟨g, 0 + 2, none⟩ = some (.int .i64 y.pr) ∧ w.cell? ⟨g, 0 + 3, none⟩ = some (.int .i64 y.lb) ∧ w.cell? ⟨g, 0 + 4, none⟩ = some (.int .i64 y.lv) ∧ w.cell? ⟨g, 0 + 5, none⟩ = some (.slice p y.cast.length q)) (hn : xs.length ≤ 2000000) (hbase : base ≤ w.heap.size)
    (h : ∀ v' w' F', sltsR.O w' base F' v' (xs ++ [y]) → Below base w w' → (∀ b, F' b → F b ∨ Fu b ∨ w.heap.size ≤ b) → K (a.put o.dst v') w') :
    if Region.wanted o (yielded ops a.tmps) = true then Oper.wp Try.prog o a w K Q else E := by
  obtain ⟨i0, hi, hz0, hz1, hz2⟩ := info_parts infoSlts
  obtain ⟨h6, h1⟩ := slt_one6 hu
  exact step_appN w hgd s x 55 ho 91 i0 _ 6 64 Try.underlying55 hi hz0 hz1 hz2 rfl (by decide) (by decide) base F Fu v _ xs y ⟨g, 0, none⟩ 1 hs hx hown hu h6 h1 hd (fun j y' hj => by
    match j, hj with
    | 0, hj => simp [lvSlt, one] at hj; subst hj; simpa [Addr.add] using hc.1
    | 1, hj => simp [lvSlt, one] at hj; subst hj; simpa [Addr.add] using hc.2.1
    | 2, hj => simp [lvSlt, one] at hj; subst hj; simpa [Addr.add] using hc.2.2.1
    | 3, hj => simp [lvSlt, one] at hj; subst hj; simpa [Addr.add] using hc.2.2.2.1
    | 4, hj => simp [lvSlt, one] at hj; subst hj; simpa [Addr.add] using hc.2.2.2.2.1
    | 5, hj => simp [lvSlt, one] at hj; subst hj; simpa [Addr.add] using hc.2.2.2.2.2
    | j + 6, hj => simp [lvSlt, one] at hj) hn hbase h
theorem acc_cells {w : World} {base : Nat} {F : Nat → Prop} {u : Value} {x : Acc} (h : accR.O w base F u x) : ∃ a c, u = .agg #[.slice a x.slots.length c] ∧ lvAcc u = [.slice a x.slots.length c] := by
  obtain ⟨u1, F1, rfl, h1, _⟩ := h
  obtain ⟨a, c, rfl⟩ := slts_form (sltsR.ofO h1)
  exact ⟨a, c, rfl, rfl⟩
end Go.Proofs.Ytncmdeijimgchaa

/-
  SlotResult. (Written by program: nest.py.)
-/
namespace Go.Proofs.Ytncmdeijimgchaa
open Go.RowKit
set_option linter.unusedSectionVars false
variable [DecidableEq Vot] [Inhabited Vot] [DecidableEq Slt] [Inhabited Slt]
attribute [local go_sem ↓] Go.wp_at_zero Go.wp_at_succ

set_option linter.unusedSimpArgs false

structure SltR where
  code : Int
  ob : Int
  ov : Int
  slot : Slt
variable [DecidableEq SltR] [Inhabited SltR]

def sltRR : Rep SltR where
  V := fun w v x => ∃ u1_1, v = .agg #[.int .i64 x.code, .int .i64 x.ob, .int .i64 x.ov, .int .i64 x.slot.con, .int .i64 x.slot.sh, .int .i64 x.slot.pr, .int .i64 x.slot.lb, .int .i64 x.slot.lv, u1_1] ∧ sltR.V w (.agg #[.int .i64 x.slot.con, .int .i64 x.slot.sh, .int .i64 x.slot.pr, .int .i64 x.slot.lb, .int .i64 x.slot.lv, u1_1]) x.slot
  O := fun w base F v x => ∃ u1_1 F1, v = .agg #[.int .i64 x.code, .int .i64 x.ob, .int .i64 x.ov, .int .i64 x.slot.con, .int .i64 x.slot.sh, .int .i64 x.slot.pr, .int .i64 x.slot.lb, .int .i64 x.slot.lv, u1_1] ∧ sltR.O w base F1 (.agg #[.int .i64 x.slot.con, .int .i64 x.slot.sh, .int .i64 x.slot.pr, .int .i64 x.slot.lb, .int .i64 x.slot.lv, u1_1]) x.slot ∧ (∀ b, F b ↔ (F1 b))
  below := fun h hb => by
    obtain ⟨u1_1, rfl, h1⟩ := h
    exact ⟨u1_1, rfl, sltR.below h1 hb⟩
  ofO := fun h => by
    obtain ⟨u1_1, F1, rfl, h1, _⟩ := h
    exact ⟨u1_1, rfl, sltR.ofO h1⟩
  mod := fun h hm hd => by
    obtain ⟨u1_1, F1, rfl, h1, hF⟩ := h
    exact ⟨u1_1, F1, rfl, sltR.mod h1 hm (fun b hb => hd b ((hF b).2 hb)), hF⟩
  rng := fun h b hb => by
    obtain ⟨u1_1, F1, rfl, h1, hF⟩ := h
    rcases (hF b).1 hb with hb
    · exact sltR.rng h1 b hb
  base := fun h hb => by
    obtain ⟨u1_1, F1, rfl, h1, hF⟩ := h
    exact ⟨u1_1, F1, rfl, sltR.base h1 hb, hF⟩
def wtSltR (x : SltR) : Nat := wtSlt x.slot
end Go.Proofs.Ytncmdeijimgchaa


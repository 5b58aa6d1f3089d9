import Derived.Test.YteppnppknfldbaaPrnAgreesLaw14
import Derived.Test.YteppnppknfldbaaPrnAgreesLaw1
import Derived.Test.YteppnppknfldbaaPrnAgreesLaw16
import Derived.BigQuiet
import Derived.Deep.QuietTactic
import Derived.Deep.RegionHeld3
import Derived.Test.YteppnppknfldbaaPrnAgreesLaw10
import Derived.Test.YteppnppknfldbaaPrnAgreesLaw4
import Derived.Test.YteppnppknfldbaaPrnAgreesLaw9
import Derived.Test.YteppnppknfldbaaPrnAgreesLaw7

/-
  A number of the code, at any place.
-/
namespace Go.Proofs.Yteppnppknfldbaa
open Go.RowKit
set_option linter.unusedSectionVars false
variable [DecidableEq Logg] [Inhabited Logg] [DecidableEq LoggR] [Inhabited LoggR] [DecidableEq BytesR] [Inhabited BytesR] [DecidableEq RecsR] [Inhabited RecsR] [DecidableEq Leg] [Inhabited Leg]
set_option linter.unusedSimpArgs false
set_option linter.unusedVariables false
attribute [local go_sem ↓] Go.wp_at_zero Go.wp_at_succ

set_option maxHeartbeats 2000000 in
theorem lwAtK_any (x : Value) (xs : List Byte) (w : World) (K : Nat) (n : Int) (hx : BytesV w x xs) (hxn : xs.length ≤ 1048576) (hK : K ≤ 1000) (hn1 : 1 ≤ n) (hn2 : n ≤ 200) :
    Calls Try.prog 5 #[x, .int .i64 K, .int .i64 n] w fun e w' => ∃ r : Nat, e = .returned (.int .i64 r) ∧ (r : Int) < n ∧ Below w.heap.size w w' := by
  obtain ⟨a, cap, rfl, hkc, hcm, hby⟩ := hx
  unfold maxLen at hcm
  have hres : ∀ v : Int, 0 ≤ v → ∃ r : Nat, v % n = (r : Int) ∧ (r : Int) < n := fun v hv => by
    refine ⟨(v % n).toNat, ?_, ?_⟩
    · have := Int.emod_nonneg v (b := n) (by omega)
      omega
    · have := Int.emod_nonneg v (b := n) (by omega)
      have := Int.emod_lt_of_pos v (b := n) (by omega)
      omega
  have HR : Hid (∀ v : Int, 0 ≤ v → ∃ r : Nat, v % n = (r : Int) ∧ (r : Int) < n) := hres
  have HBY : Hid (∀ i, i < xs.length → ∃ b o, a = some ⟨b, o, none⟩ ∧ w.cell? ⟨b, o + i, none⟩ = some (.int .u8 ((xs.getD i 0).val : Int))) := hby
  clear hres hby
  by_cases hone : n ≤ 1
  · have e1 : n = 1 := by omega
    subst e1
    clear HR HBY
    generalize xs.length = k at *
    go_enter Try.func5, Try.ntmps5
    go_wp2
    go_ret
    exact ⟨0, rfl, by omega, Below.refl _ _⟩
  have hone' : ¬ n ≤ 1 := hone
  have n0 : (n == 0) = false := by rw [beq_eq_false_iff_ne]; omega
  by_cases hk0 : xs.length = 0
  · obtain ⟨r, e5, r1⟩ := HR.out ((K : Int) * 7) (by omega)
    have y0 : IntKind.i64.wrap ((K : Int) * 7) = (K : Int) * 7 := wrapI _ (by omega) (by omega)
    have e6 : ((K : Int) * 7).tmod n = (r : Int) := by rw [Int.tmod_eq_emod_of_nonneg (by omega)]; exact e5
    have V0 : 0 ≤ (K : Int) * 7 := by omega
    have HE : Hid (((K : Int) * 7) % n = (r : Int)) := e5
    clear e5 HBY
    generalize xs.length = k at *
    subst hk0
    go_enter Try.func5, Try.ntmps5
    go_wp2
    go_ret
    exact ⟨r, by have e := HE.out; first | rfl | (simp [e6]; done) | (simp [e]; done), r1, Below.refl _ _⟩
  have hk : (0 : Int) < (xs.length : Int) := by omega
  obtain ⟨m, hm⟩ : ∃ m, m = K % xs.length := ⟨_, rfl⟩
  obtain ⟨d, hdv⟩ : ∃ d, d = K / xs.length := ⟨_, rfl⟩
  have hml : m < xs.length := by rw [hm]; exact Nat.mod_lt _ (by omega)
  have hdl : d ≤ K := by rw [hdv]; exact Nat.div_le_self _ _
  obtain ⟨b, o, rfl, hcell⟩ := HBY.out m hml
  have c1 := (xs.getD m 0).isLt
  generalize (xs.getD m 0).val = cv at *
  have e1 : (K : Int) % (xs.length : Int) = (m : Int) := by rw [hm]; rfl
  have e2 : (K : Int) / (xs.length : Int) = (d : Int) := by rw [hdv]; rfl
  have e3 : (K : Int).tmod (xs.length : Int) = (m : Int) := by rw [Int.tmod_eq_emod_of_nonneg (by omega)]; exact e1
  have e4 : (K : Int).tdiv (xs.length : Int) = (d : Int) := by rw [Int.tdiv_eq_ediv_of_nonneg (by omega)]; exact e2
  clear hm hdv HBY
  have q2 : (m : Int) < (xs.length : Int) := by omega
  have hd : ((xs.length : Int) == 0) = false := by rw [beq_eq_false_iff_ne]; omega
  generalize xs.length = k at *
  go_enter Try.func5, Try.ntmps5
  go_wp2
  go_region_held3 (fun w' => w' = w.drew ∧ w'.cell? ⟨b, o + m, none⟩ = some (.int .u8 (cv : Int))) (exact ⟨rfl, hcell⟩) (fail)
  rename_i hH
  clear hH
  have hv : IntKind.i64.wrap (IntKind.i64.wrap (cv : Int) + IntKind.i64.wrap (IntKind.i64.wrap (d : Int) * 3)) = cv + d * 3 := by
    rw [wrapI (cv : Int) (by omega) (by omega), wrapI (d : Int) (by omega) (by omega), wrapI ((d : Int) * 3) (by omega) (by omega), wrapI _ (by omega) (by omega)]
  rw [hv]
  obtain ⟨v, hve⟩ : ∃ v, v = (cv : Int) + (d : Int) * 3 := ⟨_, rfl⟩
  have v0 : 0 ≤ v := by omega
  have v1 : v ≤ 10000 := by omega
  rw [← hve]
  clear hv hve e1 e2 e3 e4
  have h2 : ¬ 200 < n := by omega
  obtain ⟨r, e5, r1⟩ := HR.out v v0
  have e6 : v.tmod n = (r : Int) := by rw [Int.tmod_eq_emod_of_nonneg (by omega)]; exact e5
  have HE : Hid (v % n = (r : Int)) := e5
  clear e5
  go_wp2
  go_ret
  exact ⟨r, by have e := HE.out; first | rfl | (simp [e6]; done) | (simp [e]; done), r1, by (repeat (first | exact Below.refl _ _ | assumption | refine Below.drew ?_ | refine balloc ?_ _ | refine bset ?_ (by simp; omega) _ | refine bset ?_ (by simp) _ | refine bstep ?_ (by assumption)))⟩
end Go.Proofs.Yteppnppknfldbaa

/-
  Lists of acceptors copied.
-/
set_option linter.unusedSimpArgs false
set_option linter.unusedVariables false
namespace Go.Proofs.Yteppnppknfldbaa
open Go.RowKit
set_option linter.unusedSectionVars false
variable [DecidableEq Vot] [Inhabited Vot] [DecidableEq Slt] [Inhabited Slt] [DecidableEq SltR] [Inhabited SltR] [DecidableEq Bal] [Inhabited Bal] [DecidableEq Ledg] [Inhabited Ledg] [DecidableEq Leg] [Inhabited Leg] [DecidableEq Acc] [Inhabited Acc] [DecidableEq AccR] [Inhabited AccR] [DecidableEq AccsR] [Inhabited AccsR] [DecidableEq SltsR] [Inhabited SltsR]
attribute [local go_sem ↓] Go.wp_at_zero Go.wp_at_succ

theorem accs_nil (w : World) (base : Nat) : accsR.O w base (fun _ => False) (.slice none 0 0) [] :=
  ⟨[], fun _ => default, fun _ _ => False, ⟨World.ownsRow_nil _ _ _ _, fun i hi => absurd hi (Nat.not_lt_zero _), fun i hi => absurd hi (Nat.not_lt_zero _), fun i hi => absurd hi (Nat.not_lt_zero _), fun i hi => absurd hi (Nat.not_lt_zero _), fun i j hi => absurd hi (Nat.not_lt_zero _)⟩, fun b => ⟨fun h => h.elim, fun h => h.elim (fun h => noOwn h) (fun ⟨i, hi, _⟩ => absurd hi (Nat.not_lt_zero _))⟩⟩
theorem take_accs (l : List Acc) {k : Nat} (hk : k < l.length) : l.take (k + 1) = l.take k ++ [l.getD k default] := by
  rw [List.take_succ_eq_append_getElem hk]
  simp [List.getD, hk]
end Go.Proofs.Yteppnppknfldbaa

/-
  Acceptors stored and read.
-/
set_option linter.unusedSimpArgs false
set_option linter.unusedVariables false
namespace Go.Proofs.Yteppnppknfldbaa
open Go.RowKit
set_option linter.unusedSectionVars false
variable [DecidableEq Vot] [Inhabited Vot] [DecidableEq Slt] [Inhabited Slt] [DecidableEq SltR] [Inhabited SltR] [DecidableEq Bal] [Inhabited Bal] [DecidableEq Ledg] [Inhabited Ledg] [DecidableEq Leg] [Inhabited Leg] [DecidableEq Acc] [Inhabited Acc] [DecidableEq AccR] [Inhabited AccR] [DecidableEq AccsR] [Inhabited AccsR] [DecidableEq SltsR] [Inhabited SltsR]
attribute [local go_sem ↓] Go.wp_at_zero Go.wp_at_succ

theorem Mod.grow {F : Nat → Prop} {w w1 w2 : World} {row : Option Nat} (h : Mod F w w1) (g : w1.grownBy w2 row) (hr : ∀ b, row = some b → w.heap.size ≤ b) : Mod F w w2 :=
  ⟨g.os.trans h.os, g.tape.trans h.tape, g.output.trans h.output, Nat.le_trans h.size g.size, fun i hi hn => (g.block i (Nat.lt_of_lt_of_le hi h.size) (fun e => by have := hr i e.symm; omega)).trans (h.block i hi hn)⟩
theorem accs_store {w : World} {base g cap i : Nat} {F Fu : Nat → Prop} {xs : List Acc} {x : Acc} {p : Option Addr} {q : Nat} (ho : accsR.O w base F (.slice (some ⟨g, 0, none⟩) xs.length cap) xs) (hi : i < xs.length)
    (hu : accR.O w base Fu (.agg #[.slice p x.slots.length q]) x) (hd : ∀ b, F b → ¬ Fu b) :
    ∃ F', accsR.O (w.setCell ⟨g, i, none⟩ (.slice p x.slots.length q)) base F' (.slice (some ⟨g, 0, none⟩) xs.length cap) (xs.set i x) ∧ Mod (fun b => b = g) w (w.setCell ⟨g, i, none⟩ (.slice p x.slots.length q)) ∧ ∀ b, F' b → F b ∨ Fu b := by
  obtain ⟨cs, us, fs, hp, hF⟩ := ho
  have s1 := hp.row.stored i (.slice p x.slots.length q)
  have hm : Mod (fun b => b = g) w _ := Mod.of_set w ⟨g, i, none⟩ (.slice p x.slots.length q)
  have hcl : cs.length = xs.length * 1 := hp.row.1
  obtain ⟨F', h1, h2⟩ := NO.put hp hF hi hu rfl hd s1.1 (hm.mono (fun b h => by rw [h]; rfl)) (fun j hj hji o ho => by
    rw [List.getElem?_set, if_neg (by omega)]) (fun o ho => by
    obtain rfl : o = 0 := by omega
    rw [List.getElem?_set, if_pos (by omega), if_pos (by omega)]
    rfl)
  exact ⟨F', h1, hm, h2⟩
theorem accs_read {w : World} {base : Nat} {F : Nat → Prop} {v : Value} {xs : List Acc} (ho : accsR.O w base F v xs) {i : Nat} (hi : i < xs.length) : ∃ g cap p q, v = .slice (some ⟨g, 0, none⟩) xs.length cap ∧ xs.length ≤ cap ∧ cap ≤ maxLen ∧ F g ∧ (∀ o, w.frozen? ⟨g, o, none⟩ = false) ∧ w.cell? ⟨g, i, none⟩ = some (.slice p (xs.getD i default).slots.length q) ∧ accR.V w (.agg #[.slice p (xs.getD i default).slots.length q]) (xs.getD i default) := by
  have hv := accsR.ofO ho
  obtain ⟨cs, us, fs, hp, hF⟩ := ho
  rcases hp.row.2 with ⟨_, h⟩ | ⟨g, cap, cur, rfl, _, _, h1, h2, _⟩
  · omega
  · obtain ⟨a, c, e, _, _, hx⟩ := accs_at hv
    simp only [Value.slice.injEq, true_and] at e
    obtain ⟨rfl, rfl⟩ := e
    obtain ⟨b, o, p, q, he, hc, hV⟩ := hx i hi
    simp only [Option.some.injEq, Addr.mk.injEq, and_true] at he
    obtain ⟨rfl, rfl⟩ := he
    rw [Nat.zero_add] at hc
    exact ⟨g, cap, p, q, rfl, h1, h2, (hF g).2 (.inl rfl), fun o => hp.row.frozenAt o, hc, hV⟩
end Go.Proofs.Yteppnppknfldbaa

/-
  A slot stored in another's place; where it stands.
-/
set_option linter.unusedVariables false
namespace Go.Proofs.Yteppnppknfldbaa
open Go.RowKit
set_option linter.unusedSectionVars false
variable [DecidableEq Vot] [Inhabited Vot] [DecidableEq Slt] [Inhabited Slt] [DecidableEq Bal] [Inhabited Bal] [DecidableEq Ledg] [Inhabited Ledg] [DecidableEq Leg] [Inhabited Leg] [DecidableEq SltR] [Inhabited SltR] [DecidableEq Acc] [Inhabited Acc] [DecidableEq AccR] [Inhabited AccR] [DecidableEq AccsR] [Inhabited AccsR] [DecidableEq SltsR] [Inhabited SltsR]

theorem Mod.frozen9 {F : Nat → Prop} {w w' : World} (h : Mod F w w') {a : Addr} (hl : a.block < w.heap.size) (hn : ¬ F a.block) : w'.frozen? a = w.frozen? a := World.frozen?_of_block (h.block a.block hl hn)
theorem slts_store {w : World} {base g cap i : Nat} {F Fu : Nat → Prop} {xs : List Slt} {x : Slt} {p : Option Addr} {q : Nat} (ho : sltsR.O w base F (.slice (some ⟨g, 0, none⟩) xs.length cap) xs) (hi : i < xs.length)
    (hu : sltR.O w base Fu (.agg #[.int .i64 x.con, .int .i64 x.sh, .int .i64 x.pr, .int .i64 x.lb, .int .i64 x.lv, .slice p x.cast.length q]) x) (hd : ∀ b, F b → ¬ Fu b) :
    ∃ F', sltsR.O ((((((w.setCell ⟨g, i * 6, none⟩ (.int .i64 x.con)).setCell ⟨g, i * 6 + 1, none⟩ (.int .i64 x.sh)).setCell ⟨g, i * 6 + 2, none⟩ (.int .i64 x.pr)).setCell ⟨g, i * 6 + 3, none⟩ (.int .i64 x.lb)).setCell ⟨g, i * 6 + 4, none⟩ (.int .i64 x.lv)).setCell ⟨g, i * 6 + 5, none⟩ (.slice p x.cast.length q)) base F' (.slice (some ⟨g, 0, none⟩) xs.length cap) (xs.set i x)
      ∧ Mod (fun b => b = g) w ((((((w.setCell ⟨g, i * 6, none⟩ (.int .i64 x.con)).setCell ⟨g, i * 6 + 1, none⟩ (.int .i64 x.sh)).setCell ⟨g, i * 6 + 2, none⟩ (.int .i64 x.pr)).setCell ⟨g, i * 6 + 3, none⟩ (.int .i64 x.lb)).setCell ⟨g, i * 6 + 4, none⟩ (.int .i64 x.lv)).setCell ⟨g, i * 6 + 5, none⟩ (.slice p x.cast.length q)) ∧ ∀ b, F' b → F b ∨ Fu b := by
  obtain ⟨cs, us, fs, hp, hF⟩ := ho
  have s1 := hp.row.stored (i * 6) (.int .i64 x.con)
  have s2 := s1.1.stored (i * 6 + 1) (.int .i64 x.sh)
  have s3 := s2.1.stored (i * 6 + 2) (.int .i64 x.pr)
  have s4 := s3.1.stored (i * 6 + 3) (.int .i64 x.lb)
  have s5 := s4.1.stored (i * 6 + 4) (.int .i64 x.lv)
  have s6 := s5.1.stored (i * 6 + 5) (.slice p x.cast.length q)
  have hm : Mod (fun b => b = g) w _ := (((((Mod.of_set w ⟨g, i * 6, none⟩ (.int .i64 x.con)).trans (Mod.of_set _ ⟨g, i * 6 + 1, none⟩ (.int .i64 x.sh))).trans (Mod.of_set _ ⟨g, i * 6 + 2, none⟩ (.int .i64 x.pr))).trans (Mod.of_set _ ⟨g, i * 6 + 3, none⟩ (.int .i64 x.lb))).trans (Mod.of_set _ ⟨g, i * 6 + 4, none⟩ (.int .i64 x.lv))).trans (Mod.of_set _ ⟨g, i * 6 + 5, none⟩ (.slice p x.cast.length q))
  have hcl : cs.length = xs.length * 6 := hp.row.1
  obtain ⟨F', h1, h2⟩ := NO.put hp hF hi hu rfl hd s6.1 (hm.mono (fun b h => by rw [h]; rfl)) (fun j hj hji o ho => by
    simp only [List.getElem?_set]
    rw [if_neg (by omega), if_neg (by omega), if_neg (by omega), if_neg (by omega), if_neg (by omega), if_neg (by omega)]) (fun o ho => by
    have ho' : o = 0 ∨ o = 1 ∨ o = 2 ∨ o = 3 ∨ o = 4 ∨ o = 5 := by omega
    simp only [List.getElem?_set, List.length_set]
    rcases ho' with rfl | rfl | rfl | rfl | rfl | rfl
    · rw [if_neg (by omega), if_neg (by omega), if_neg (by omega), if_neg (by omega), if_neg (by omega), if_pos (by omega), if_pos (by omega)]; rfl
    · rw [if_neg (by omega), if_neg (by omega), if_neg (by omega), if_neg (by omega), if_pos rfl, if_pos (by omega)]; rfl
    · rw [if_neg (by omega), if_neg (by omega), if_neg (by omega), if_pos rfl, if_pos (by omega)]; rfl
    · rw [if_neg (by omega), if_neg (by omega), if_pos rfl, if_pos (by omega)]; rfl
    · rw [if_neg (by omega), if_pos rfl, if_pos (by omega)]; rfl
    · rw [if_pos rfl, if_pos (by omega)]; rfl)
  exact ⟨F', h1, hm, h2⟩
theorem putS_found {xs : List Slt} {q : Slt} {i : Nat} (h1 : ∀ k, k < i → cmpS (xs.getD k default) q < 0) (hi : i < xs.length) (h : cmpS (xs.getD i default) q = 0) : putS xs q = xs.set i q := by
  have e := cmpS_eq.1 h
  refine putS_set (posS_eq (by omega) (fun k hk => by unfold aheadS; exact decide_eq_true (h1 k hk)) (fun _ => by unfold aheadS; exact decide_eq_false (by omega))) hi ?_
  rw [aheadS_no]
  omega
theorem putS_miss {xs : List Slt} {q : Slt} {i : Nat} (hi : i ≤ xs.length) (h1 : ∀ k, k < i → cmpS (xs.getD k default) q < 0) (h2 : ∀ k, i ≤ k → k < xs.length → 0 ≤ cmpS (xs.getD k default) q) (h : ¬ (i < xs.length ∧ cmpS (xs.getD i default) q = 0)) : putS xs q = xs.take i ++ [q] ++ xs.drop i := by
  refine putS_ins (posS_eq hi (fun k hk => by unfold aheadS; exact decide_eq_true (h1 k hk)) (fun h3 => by unfold aheadS; have := h2 i (Nat.le_refl _) h3; exact decide_eq_false (by omega))) (fun ⟨h3, h4⟩ => h ⟨h3, ?_⟩)
  have h5 := h2 i (Nat.le_refl _) h3
  have h6 := aheadS_no.1 h4
  by_cases e : (xs.getD i default).con = q.con ∧ (xs.getD i default).sh = q.sh
  · exact cmpS_eq.2 e
  · exfalso
    have h8 : cmpS (xs.getD i default) q < 0 := by rw [cmpS_lt]; omega
    omega
end Go.Proofs.Yteppnppknfldbaa


import Derived.Test.YtncmdeijimgchaaPrnOutcomesLaw18
import Derived.PlainAid
import Derived.Laws.BitsAllLaws
import Derived.Test.YtncmdeijimgchaaPrnOutcomesLaw17
import Derived.Test.YtncmdeijimgchaaPrnOutcomesLaw1
import Derived.Deep.RegionHeld3
import Derived.Deep.DrawnRows
import Derived.Lib.ConvBytes
import Derived.Test.YtncmdeijimgchaaPrnOutcomesLaw19
import Derived.Deep.QuietTactic
import Derived.Test.YtncmdeijimgchaaPrnOutcomesLaw7
import Derived.Test.YtncmdeijimgchaaPrnOutcomesLaw3
import Derived.Deep.RegionLawGrows
import Derived.BigQuiet
import Derived.Test.YtncmdeijimgchaaPrnOutcomesLaw10
import Derived.Test.YtncmdeijimgchaaPrnOutcomesLaw4

/-
  One more record in a log: the specification's side, and what is told.
-/
namespace Go.Proofs.Ytncmdeijimgchaa
open Go.RowKit
set_option linter.unusedSectionVars false
variable [DecidableEq Logg] [Inhabited Logg] [DecidableEq LoggR] [Inhabited LoggR] [DecidableEq BytesR] [Inhabited BytesR] [DecidableEq RecsR] [Inhabited RecsR] [DecidableEq Leg] [Inhabited Leg]
set_option linter.unusedSimpArgs false
attribute [local go_sem ↓] Go.wp_at_zero Go.wp_at_succ

theorem Mod.frozenAt {F : Nat → Prop} {w w' : World} (h : Mod F w w') {a : Addr} (hl : a.block < w.heap.size) (hn : ¬ F a.block) : w'.frozen? a = w.frozen? a := World.frozen?_of_block (h.block a.block hl hn)
end Go.Proofs.Ytncmdeijimgchaa

/-
  The specification's draws: a number read off the bytes.
-/
namespace Go.Proofs.Ytncmdeijimgchaa
open Go.RowKit
set_option linter.unusedSectionVars false
variable [DecidableEq Logg] [Inhabited Logg] [DecidableEq LoggR] [Inhabited LoggR] [DecidableEq BytesR] [Inhabited BytesR] [DecidableEq RecsR] [Inhabited RecsR] [DecidableEq Leg] [Inhabited Leg]
set_option linter.unusedSimpArgs false
attribute [local go_sem ↓] Go.wp_at_zero Go.wp_at_succ

structure Src (B : Nat) (w : World) (bs : Nat) (a : Option Addr) (k cap : Nat) (t : Nat) : Prop where
  le : B ≤ bs
  lt : bs < w.heap.size
  code : w.cell? ⟨bs, 0, none⟩ = some (.slice a k cap)
  at_ : w.cell? ⟨bs, 1, none⟩ = some (.int .i64 t)
  free : ∀ o, w.frozen? ⟨bs, o, none⟩ = false
  kc : k ≤ cap
  cm : cap ≤ maxLen
  kb : k ≤ 2097152
  byte : ∀ i, i < k → ∃ b o c, a = some ⟨b, o, none⟩ ∧ b < B ∧ (0 : Int) ≤ c ∧ c ≤ 255 ∧ w.cell? ⟨b, o + i, none⟩ = some (.int .u8 c)
theorem Src.mod {B : Nat} {w w' : World} {bs : Nat} {a : Option Addr} {k cap t : Nat} {F : Nat → Prop} (h : Src B w bs a k cap t) (hm : Mod F w w') (hF : ∀ b, F b → bs < b) : Src B w' bs a k cap t := by
  have hb : ¬ F bs := fun e => by have := hF bs e; omega
  refine ⟨h.le, Nat.lt_of_lt_of_le h.lt hm.size, hm.cell h.code hb, hm.cell h.at_ hb, fun o => ?_, h.kc, h.cm, h.kb, fun i hi => ?_⟩
  · rw [hm.frozenAt (a := ⟨bs, o, none⟩) h.lt hb]; exact h.free o
  · obtain ⟨b, o, c, h1, h2, h3, h4, h5⟩ := h.byte i hi
    exact ⟨b, o, c, h1, h2, h3, h4, hm.cell h5 (fun e => by have := hF b e; have := h.le; omega)⟩
theorem Src.below {B : Nat} {w w' : World} {bs : Nat} {a : Option Addr} {k cap t : Nat} (h : Src B w bs a k cap t) (hb : Below w.heap.size w w') : Src B w' bs a k cap t :=
  h.mod (F := fun _ => False) (Mod.of_below hb) (fun _ e => e.elim)
theorem Src.next {B : Nat} {w : World} {bs : Nat} {a : Option Addr} {k cap t : Nat} (h : Src B w bs a k cap t) : Src B (w.setCell ⟨bs, 1, none⟩ (.int .i64 ((t : Int) + 1))) bs a k cap (t + 1) := by
  refine ⟨h.le, by simpa using h.lt, by rw [set_other (by simp)]; exact h.code, by rw [set_same h.at_]; rfl, fun o => by rw [World.frozen?_setCell]; exact h.free o, h.kc, h.cm, h.kb, fun i hi => ?_⟩
  obtain ⟨b, o, c, h1, h2, h3, h4, h5⟩ := h.byte i hi
  exact ⟨b, o, c, h1, h2, h3, h4, by rw [set_other (fun e => by have := h.le; have e' : bs = b := congrArg Addr.block e; omega)]; exact h5⟩
theorem Src.drew' {B : Nat} {w : World} {bs : Nat} {a : Option Addr} {k cap t : Nat} (h : Src B w bs a k cap t) : Src B w.drew bs a k cap t :=
  ⟨h.le, h.lt, h.code, h.at_, h.free, h.kc, h.cm, h.kb, h.byte⟩
theorem wrapI (x : Int) (h0 : -9223372036854775808 ≤ x) (h1 : x ≤ 9223372036854775807) : IntKind.i64.wrap x = x := by rw [IntKind.wrap_i64]; omega
theorem next_mod (w : World) (bs : Nat) (v : Value) : Mod (fun b => b = bs) w (w.setCell ⟨bs, 1, none⟩ v) := Mod.of_set w ⟨bs, 1, none⟩ v
theorem Mod.drew1 {F : Nat → Prop} {w w' : World} (h : Mod F w w') : Mod F w w'.drew := ⟨h.os, h.tape, h.output, h.size, h.block⟩
set_option maxHeartbeats 2000000 in
theorem l1Next_any (B : Nat) (w : World) (bs : Nat) (a : Option Addr) (k cap t : Nat) (n : Int) (h : Src B w bs a k cap t) (ht : t ≤ 100000) (hn1 : 1 ≤ n) (hn2 : n ≤ 100000) :
    Calls Try.prog 83 #[.pointer (some ⟨bs, 0, none⟩), .int .i64 n] w fun e w' => ∃ r : Nat, e = .returned (.int .i64 r) ∧ (r : Int) < n ∧ Src B w' bs a k cap (t + 1) ∧ Mod (fun b => b = bs) w w' := by
  have hc := h.code
  have ha := h.at_
  have hf := h.free
  have hkc := h.kc
  have hcm := h.cm
  have hkb := h.kb
  unfold maxLen at hcm
  have HS : Hid (Src B w bs a k cap t) := h
  have h1 : ¬ n < 1 := by omega
  have hres : ∀ v : Int, 0 ≤ v → ∃ r : Nat, v % n = (r : Int) ∧ (r : Int) < n := fun v hv => by
    refine ⟨(v % n).toNat, ?_, ?_⟩
    · have := Int.emod_nonneg v (b := n) (by omega)
      omega
    · have := Int.emod_nonneg v (b := n) (by omega)
      have := Int.emod_lt_of_pos v (b := n) (by omega)
      omega
  have HR : Hid (∀ v : Int, 0 ≤ v → ∃ r : Nat, v % n = (r : Int) ∧ (r : Int) < n) := hres
  clear h hres
  by_cases hk0 : k = 0
  · subst hk0
    obtain ⟨r, e5, r1⟩ := HR.out ((t : Int) * 7) (by omega)
    have e6 : ((t : Int) * 7).tmod n = (r : Int) := by rw [Int.tmod_eq_emod_of_nonneg (by omega)]; exact e5
    have HE : Hid (((t : Int) * 7) % n = (r : Int)) := e5
    clear e5
    go_enter Try.func83, Try.ntmps83
    go_wp2
    go_ret
    exact ⟨r, by have e := HE.out; first | rfl | (simp [e6]; done) | (simp [e]; done), r1, HS.out.next, next_mod _ _ _⟩
  · have hk : (0 : Int) < (k : Int) := by omega
    obtain ⟨m, hm⟩ : ∃ m, m = t % k := ⟨_, rfl⟩
    obtain ⟨m', hm'⟩ : ∃ m', m' = (t + 1) % k := ⟨_, rfl⟩
    obtain ⟨d, hdv⟩ : ∃ d, d = t / k := ⟨_, rfl⟩
    have hml : m < k := by rw [hm]; exact Nat.mod_lt _ (by omega)
    have hml' : m' < k := by rw [hm']; exact Nat.mod_lt _ (by omega)
    have hdl : d ≤ 100000 := by rw [hdv]; exact Nat.le_trans (Nat.div_le_self _ _) ht
    obtain ⟨b, o, c, rfl, hbB, c0, c1, hcell⟩ := HS.out.byte m hml
    obtain ⟨b', o', c', e', _, c0', c1', hcell'⟩ := HS.out.byte m' hml'
    simp only [Option.some.injEq, Addr.mk.injEq, and_true] at e'
    obtain ⟨rfl, rfl⟩ := e'
    have e1 : (t : Int) % (k : Int) = (m : Int) := by rw [hm]; rfl
    have e2 : (t : Int) / (k : Int) = (d : Int) := by rw [hdv]; rfl
    have e3 : (t : Int).tmod (k : Int) = (m : Int) := by rw [Int.tmod_eq_emod_of_nonneg (by omega)]; exact e1
    have e4 : (t : Int).tdiv (k : Int) = (d : Int) := by rw [Int.tdiv_eq_ediv_of_nonneg (by omega)]; exact e2
    have e7 : ((t : Int) + 1) % (k : Int) = (m' : Int) := by rw [hm']; rfl
    have e8 : ((t : Int) + 1).tmod (k : Int) = (m' : Int) := by rw [Int.tmod_eq_emod_of_nonneg (by omega)]; exact e7
    clear hm hdv hm'
    have hd : ((k : Int) == 0) = false := by simp; omega
    go_enter Try.func83, Try.ntmps83
    have hcW : (w.setCell ⟨bs, 1, none⟩ (.int .i64 (t + 1))).cell? ⟨bs, 0, none⟩ = some (.slice (some ⟨b, o, none⟩) k cap) := by rw [set_other (by simp)]; exact hc
    have hbW : (w.setCell ⟨bs, 1, none⟩ (.int .i64 (t + 1))).cell? ⟨b, o + m, none⟩ = some (.int .u8 c) := by
      rw [set_other (fun e => by have := HS.out.le; have e' : bs = b := congrArg Addr.block e; omega)]; exact hcell
    have hbW' : (w.setCell ⟨bs, 1, none⟩ (.int .i64 (t + 1))).cell? ⟨b, o + m', none⟩ = some (.int .u8 c') := by
      rw [set_other (fun e => by have := HS.out.le; have e' : bs = b := congrArg Addr.block e; omega)]; exact hcell'
    have q2 : (m : Int) < (k : Int) := by omega
    have q2' : (m' : Int) < (k : Int) := by omega
    go_wp2
    go_region_held3 (fun w' => w' = (w.setCell ⟨bs, 1, none⟩ (.int .i64 (t + 1))).drew ∧ w'.cell? ⟨bs, 0, none⟩ = some (.slice (some ⟨b, o, none⟩) k cap) ∧ w'.cell? ⟨b, o + m, none⟩ = some (.int .u8 c)) (exact ⟨rfl, hcW, hbW⟩) (fail)
    rename_i hH
    clear hH
    have hv : IntKind.i64.wrap (IntKind.i64.wrap c + IntKind.i64.wrap (IntKind.i64.wrap d * 37)) = c + d * 37 := by
      rw [wrapI c (by omega) (by omega), wrapI (d : Int) (by omega) (by omega), wrapI ((d : Int) * 37) (by omega) (by omega), wrapI _ (by omega) (by omega)]
    rw [hv]
    obtain ⟨v, hve⟩ : ∃ v, v = c + (d : Int) * 37 := ⟨_, rfl⟩
    have v0 : 0 ≤ v := by omega
    have v1 : v ≤ 4000000 := by omega
    rw [← hve]
    clear hv hve e1 e2 e3 e4
    by_cases h2 : 200 < n
    · have y1 : IntKind.i64.wrap (v * 251) = v * 251 := wrapI _ (by omega) (by omega)
      have y2 : IntKind.i64.wrap ((t : Int) + 1) = t + 1 := wrapI _ (by omega) (by omega)
      have y3 : IntKind.i64.wrap c' = c' := wrapI _ (by omega) (by omega)
      have y4 : IntKind.i64.wrap (c' * 13) = c' * 13 := wrapI _ (by omega) (by omega)
      have y5 : IntKind.i64.wrap (v * 251 + c' * 13) = v * 251 + c' * 13 := wrapI _ (by omega) (by omega)
      have y6 : IntKind.i64.wrap (v * 251 + c' * 13 + t) = v * 251 + c' * 13 + t := wrapI _ (by omega) (by omega)
      obtain ⟨r, e5, r1⟩ := HR.out (v * 251 + c' * 13 + t) (by omega)
      have e6 : (v * 251 + c' * 13 + t).tmod n = (r : Int) := by rw [Int.tmod_eq_emod_of_nonneg (by omega)]; exact e5
      have HE : Hid ((v * 251 + c' * 13 + t) % n = (r : Int)) := e5
      have HE6 : Hid ((v * 251 + c' * 13 + t).tmod n = (r : Int)) := e6
      clear e5 e6
      go_wp2
      go_region_held3 (fun w' => w' = (w.setCell ⟨bs, 1, none⟩ (.int .i64 (t + 1))).drew.drew ∧ w'.cell? ⟨bs, 0, none⟩ = some (.slice (some ⟨b, o, none⟩) k cap) ∧ w'.cell? ⟨b, o + m', none⟩ = some (.int .u8 c')) (exact ⟨rfl, hcW, hbW'⟩) (fail)
      rename_i hH
      clear hH
      obtain ⟨V, hV⟩ : ∃ V, V = v * 251 + c' * 13 + (t : Int) := ⟨_, rfl⟩
      have V0 : 0 ≤ V := by omega
      have HE7 : Hid (V % n = (r : Int)) := by unfold Hid; rw [hV]; exact HE.out
      have HE8 : Hid (V.tmod n = (r : Int)) := by unfold Hid; rw [hV]; exact HE6.out
      first | rw [← hV] | skip
      clear y1 y2 y3 y4 y5 y6 hV
      go_wp2
      go_ret
      exact ⟨r, by have e := HE7.out; have e' := HE8.out; first | rfl | (simp [e']; done) | (simp [e]; done), r1, HS.out.next.drew'.drew', (next_mod _ _ _).drew1.drew1⟩
    · obtain ⟨r, e5, r1⟩ := HR.out v v0
      have e6 : v.tmod n = (r : Int) := by rw [Int.tmod_eq_emod_of_nonneg (by omega)]; exact e5
      have HE : Hid (v % n = (r : Int)) := e5
      clear e5
      go_wp2
      go_ret
      exact ⟨r, by have e := HE.out; first | rfl | (simp [e6]; done) | (simp [e]; done), r1, HS.out.next.drew', (next_mod _ _ _).drew1⟩
end Go.Proofs.Ytncmdeijimgchaa

/-
  A number of the code, at any place.
-/
namespace Go.Proofs.Ytncmdeijimgchaa
open Go.RowKit
set_option linter.unusedSectionVars false
variable [DecidableEq Logg] [Inhabited Logg] [DecidableEq LoggR] [Inhabited LoggR] [DecidableEq BytesR] [Inhabited BytesR] [DecidableEq RecsR] [Inhabited RecsR] [DecidableEq Leg] [Inhabited Leg]
set_option linter.unusedSimpArgs false
set_option linter.unusedVariables false
attribute [local go_sem ↓] Go.wp_at_zero Go.wp_at_succ

set_option maxHeartbeats 2000000 in
theorem lwAtK_any (x : Value) (xs : List Byte) (w : World) (K : Nat) (n : Int) (hx : BytesV w x xs) (hxn : xs.length ≤ 1048576) (hK : K ≤ 1000) (hn1 : 1 ≤ n) (hn2 : n ≤ 200) :
    Calls Try.prog 13 #[x, .int .i64 K, .int .i64 n] w fun e w' => ∃ r : Nat, e = .returned (.int .i64 r) ∧ (r : Int) < n ∧ Below w.heap.size w w' := by
  obtain ⟨a, cap, rfl, hkc, hcm, hby⟩ := hx
  unfold maxLen at hcm
  have hres : ∀ v : Int, 0 ≤ v → ∃ r : Nat, v % n = (r : Int) ∧ (r : Int) < n := fun v hv => by
    refine ⟨(v % n).toNat, ?_, ?_⟩
    · have := Int.emod_nonneg v (b := n) (by omega)
      omega
    · have := Int.emod_nonneg v (b := n) (by omega)
      have := Int.emod_lt_of_pos v (b := n) (by omega)
      omega
  have HR : Hid (∀ v : Int, 0 ≤ v → ∃ r : Nat, v % n = (r : Int) ∧ (r : Int) < n) := hres
  have HBY : Hid (∀ i, i < xs.length → ∃ b o, a = some ⟨b, o, none⟩ ∧ w.cell? ⟨b, o + i, none⟩ = some (.int .u8 ((xs.getD i 0).val : Int))) := hby
  clear hres hby
  by_cases hone : n ≤ 1
  · have e1 : n = 1 := by omega
    subst e1
    clear HR HBY
    generalize xs.length = k at *
    go_enter Try.func13, Try.ntmps13
    go_wp2
    go_ret
    exact ⟨0, rfl, by omega, Below.refl _ _⟩
  have hone' : ¬ n ≤ 1 := hone
  have n0 : (n == 0) = false := by rw [beq_eq_false_iff_ne]; omega
  by_cases hk0 : xs.length = 0
  · obtain ⟨r, e5, r1⟩ := HR.out ((K : Int) * 7) (by omega)
    have y0 : IntKind.i64.wrap ((K : Int) * 7) = (K : Int) * 7 := wrapI _ (by omega) (by omega)
    have e6 : ((K : Int) * 7).tmod n = (r : Int) := by rw [Int.tmod_eq_emod_of_nonneg (by omega)]; exact e5
    have V0 : 0 ≤ (K : Int) * 7 := by omega
    have HE : Hid (((K : Int) * 7) % n = (r : Int)) := e5
    clear e5 HBY
    generalize xs.length = k at *
    subst hk0
    go_enter Try.func13, Try.ntmps13
    go_wp2
    go_ret
    exact ⟨r, by have e := HE.out; first | rfl | (simp [e6]; done) | (simp [e]; done), r1, Below.refl _ _⟩
  have hk : (0 : Int) < (xs.length : Int) := by omega
  obtain ⟨m, hm⟩ : ∃ m, m = K % xs.length := ⟨_, rfl⟩
  obtain ⟨d, hdv⟩ : ∃ d, d = K / xs.length := ⟨_, rfl⟩
  have hml : m < xs.length := by rw [hm]; exact Nat.mod_lt _ (by omega)
  have hdl : d ≤ K := by rw [hdv]; exact Nat.div_le_self _ _
  obtain ⟨b, o, rfl, hcell⟩ := HBY.out m hml
  have c1 := (xs.getD m 0).isLt
  generalize (xs.getD m 0).val = cv at *
  have e1 : (K : Int) % (xs.length : Int) = (m : Int) := by rw [hm]; rfl
  have e2 : (K : Int) / (xs.length : Int) = (d : Int) := by rw [hdv]; rfl
  have e3 : (K : Int).tmod (xs.length : Int) = (m : Int) := by rw [Int.tmod_eq_emod_of_nonneg (by omega)]; exact e1
  have e4 : (K : Int).tdiv (xs.length : Int) = (d : Int) := by rw [Int.tdiv_eq_ediv_of_nonneg (by omega)]; exact e2
  clear hm hdv HBY
  have q2 : (m : Int) < (xs.length : Int) := by omega
  have hd : ((xs.length : Int) == 0) = false := by rw [beq_eq_false_iff_ne]; omega
  generalize xs.length = k at *
  go_enter Try.func13, Try.ntmps13
  go_wp2
  go_region_held3 (fun w' => w' = w.drew ∧ w'.cell? ⟨b, o + m, none⟩ = some (.int .u8 (cv : Int))) (exact ⟨rfl, hcell⟩) (fail)
  rename_i hH
  clear hH
  have hv : IntKind.i64.wrap (IntKind.i64.wrap (cv : Int) + IntKind.i64.wrap (IntKind.i64.wrap (d : Int) * 3)) = cv + d * 3 := by
    rw [wrapI (cv : Int) (by omega) (by omega), wrapI (d : Int) (by omega) (by omega), wrapI ((d : Int) * 3) (by omega) (by omega), wrapI _ (by omega) (by omega)]
  rw [hv]
  obtain ⟨v, hve⟩ : ∃ v, v = (cv : Int) + (d : Int) * 3 := ⟨_, rfl⟩
  have v0 : 0 ≤ v := by omega
  have v1 : v ≤ 10000 := by omega
  rw [← hve]
  clear hv hve e1 e2 e3 e4
  have h2 : ¬ 200 < n := by omega
  obtain ⟨r, e5, r1⟩ := HR.out v v0
  have e6 : v.tmod n = (r : Int) := by rw [Int.tmod_eq_emod_of_nonneg (by omega)]; exact e5
  have HE : Hid (v % n = (r : Int)) := e5
  clear e5
  go_wp2
  go_ret
  exact ⟨r, by have e := HE.out; first | rfl | (simp [e6]; done) | (simp [e]; done), r1, by (repeat (first | exact Below.refl _ _ | assumption | refine Below.drew ?_ | refine balloc ?_ _ | refine bset ?_ (by simp; omega) _ | refine bset ?_ (by simp) _ | refine bstep ?_ (by assumption)))⟩
end Go.Proofs.Ytncmdeijimgchaa

/-
  Lists of acceptors copied.
-/
set_option linter.unusedSimpArgs false
set_option linter.unusedVariables false
namespace Go.Proofs.Ytncmdeijimgchaa
open Go.RowKit
set_option linter.unusedSectionVars false
variable [DecidableEq Vot] [Inhabited Vot] [DecidableEq Slt] [Inhabited Slt] [DecidableEq SltR] [Inhabited SltR] [DecidableEq Bal] [Inhabited Bal] [DecidableEq Ledg] [Inhabited Ledg] [DecidableEq Leg] [Inhabited Leg] [DecidableEq Acc] [Inhabited Acc] [DecidableEq AccR] [Inhabited AccR] [DecidableEq AccsR] [Inhabited AccsR] [DecidableEq SltsR] [Inhabited SltsR]
attribute [local go_sem ↓] Go.wp_at_zero Go.wp_at_succ

theorem accs_nil (w : World) (base : Nat) : accsR.O w base (fun _ => False) (.slice none 0 0) [] :=
  ⟨[], fun _ => default, fun _ _ => False, ⟨World.ownsRow_nil _ _ _ _, fun i hi => absurd hi (Nat.not_lt_zero _), fun i hi => absurd hi (Nat.not_lt_zero _), fun i hi => absurd hi (Nat.not_lt_zero _), fun i hi => absurd hi (Nat.not_lt_zero _), fun i j hi => absurd hi (Nat.not_lt_zero _)⟩, fun b => ⟨fun h => h.elim, fun h => h.elim (fun h => noOwn h) (fun ⟨i, hi, _⟩ => absurd hi (Nat.not_lt_zero _))⟩⟩
theorem take_accs (l : List Acc) {k : Nat} (hk : k < l.length) : l.take (k + 1) = l.take k ++ [l.getD k default] := by
  rw [List.take_succ_eq_append_getElem hk]
  simp [List.getD, hk]
end Go.Proofs.Ytncmdeijimgchaa


import Derived.Test.YtgibggjmliddlaaPrnQuorumsLaw7
import Derived.Deep.RegionHeld3
import Derived.Test.YtgibggjmliddlaaPrnQuorumsLaw5
import Derived.Test.YtgibggjmliddlaaPrnQuorumsLaw4

/-
  The specification's draws: a number read off the bytes.
-/
namespace Go.Proofs.Ytgibggjmliddlaa
open Go.RowKit
set_option linter.unusedSectionVars false
variable [DecidableEq Logg] [Inhabited Logg] [DecidableEq LoggR] [Inhabited LoggR] [DecidableEq BytesR] [Inhabited BytesR] [DecidableEq RecsR] [Inhabited RecsR] [DecidableEq Leg] [Inhabited Leg]
set_option linter.unusedSimpArgs false
attribute [local go_sem ↓] Go.wp_at_zero Go.wp_at_succ

structure Src (B : Nat) (w : World) (bs : Nat) (a : Option Addr) (k cap : Nat) (t : Nat) : Prop where
  le : B ≤ bs
  lt : bs < w.heap.size
  code : w.cell? ⟨bs, 0, none⟩ = some (.slice a k cap)
  at_ : w.cell? ⟨bs, 1, none⟩ = some (.int .i64 t)
  free : ∀ o, w.frozen? ⟨bs, o, none⟩ = false
  kc : k ≤ cap
  cm : cap ≤ maxLen
  kb : k ≤ 2097152
  byte : ∀ i, i < k → ∃ b o c, a = some ⟨b, o, none⟩ ∧ b < B ∧ (0 : Int) ≤ c ∧ c ≤ 255 ∧ w.cell? ⟨b, o + i, none⟩ = some (.int .u8 c)
theorem Src.mod {B : Nat} {w w' : World} {bs : Nat} {a : Option Addr} {k cap t : Nat} {F : Nat → Prop} (h : Src B w bs a k cap t) (hm : Mod F w w') (hF : ∀ b, F b → bs < b) : Src B w' bs a k cap t := by
  have hb : ¬ F bs := fun e => by have := hF bs e; omega
  refine ⟨h.le, Nat.lt_of_lt_of_le h.lt hm.size, hm.cell h.code hb, hm.cell h.at_ hb, fun o => ?_, h.kc, h.cm, h.kb, fun i hi => ?_⟩
  · rw [hm.frozenAt (a := ⟨bs, o, none⟩) h.lt hb]; exact h.free o
  · obtain ⟨b, o, c, h1, h2, h3, h4, h5⟩ := h.byte i hi
    exact ⟨b, o, c, h1, h2, h3, h4, hm.cell h5 (fun e => by have := hF b e; have := h.le; omega)⟩
theorem Src.below {B : Nat} {w w' : World} {bs : Nat} {a : Option Addr} {k cap t : Nat} (h : Src B w bs a k cap t) (hb : Below w.heap.size w w') : Src B w' bs a k cap t :=
  h.mod (F := fun _ => False) (Mod.of_below hb) (fun _ e => e.elim)
theorem Src.next {B : Nat} {w : World} {bs : Nat} {a : Option Addr} {k cap t : Nat} (h : Src B w bs a k cap t) : Src B (w.setCell ⟨bs, 1, none⟩ (.int .i64 ((t : Int) + 1))) bs a k cap (t + 1) := by
  refine ⟨h.le, by simpa using h.lt, by rw [set_other (by simp)]; exact h.code, by rw [set_same h.at_]; rfl, fun o => by rw [World.frozen?_setCell]; exact h.free o, h.kc, h.cm, h.kb, fun i hi => ?_⟩
  obtain ⟨b, o, c, h1, h2, h3, h4, h5⟩ := h.byte i hi
  exact ⟨b, o, c, h1, h2, h3, h4, by rw [set_other (fun e => by have := h.le; have e' : bs = b := congrArg Addr.block e; omega)]; exact h5⟩
theorem Src.drew' {B : Nat} {w : World} {bs : Nat} {a : Option Addr} {k cap t : Nat} (h : Src B w bs a k cap t) : Src B w.drew bs a k cap t :=
  ⟨h.le, h.lt, h.code, h.at_, h.free, h.kc, h.cm, h.kb, h.byte⟩
theorem wrapI (x : Int) (h0 : -9223372036854775808 ≤ x) (h1 : x ≤ 9223372036854775807) : IntKind.i64.wrap x = x := by rw [IntKind.wrap_i64]; omega
theorem next_mod (w : World) (bs : Nat) (v : Value) : Mod (fun b => b = bs) w (w.setCell ⟨bs, 1, none⟩ v) := Mod.of_set w ⟨bs, 1, none⟩ v
theorem Mod.drew1 {F : Nat → Prop} {w w' : World} (h : Mod F w w') : Mod F w w'.drew := ⟨h.os, h.tape, h.output, h.size, h.block⟩
set_option maxHeartbeats 2000000 in
theorem l1Next_any (B : Nat) (w : World) (bs : Nat) (a : Option Addr) (k cap t : Nat) (n : Int) (h : Src B w bs a k cap t) (ht : t ≤ 100000) (hn1 : 1 ≤ n) (hn2 : n ≤ 100000) :
    Calls Try.prog 52 #[.pointer (some ⟨bs, 0, none⟩), .int .i64 n] w fun e w' => ∃ r : Nat, e = .returned (.int .i64 r) ∧ (r : Int) < n ∧ Src B w' bs a k cap (t + 1) ∧ Mod (fun b => b = bs) w w' := by
  have hc := h.code
  have ha := h.at_
  have hf := h.free
  have hkc := h.kc
  have hcm := h.cm
  have hkb := h.kb
  unfold maxLen at hcm
  have HS : Hid (Src B w bs a k cap t) := h
  have h1 : ¬ n < 1 := by omega
  have hres : ∀ v : Int, 0 ≤ v → ∃ r : Nat, v % n = (r : Int) ∧ (r : Int) < n := fun v hv => by
    refine ⟨(v % n).toNat, ?_, ?_⟩
    · have := Int.emod_nonneg v (b := n) (by omega)
      omega
    · have := Int.emod_nonneg v (b := n) (by omega)
      have := Int.emod_lt_of_pos v (b := n) (by omega)
      omega
  have HR : Hid (∀ v : Int, 0 ≤ v → ∃ r : Nat, v % n = (r : Int) ∧ (r : Int) < n) := hres
  clear h hres
  by_cases hk0 : k = 0
  · subst hk0
    obtain ⟨r, e5, r1⟩ := HR.out ((t : Int) * 7) (by omega)
    have e6 : ((t : Int) * 7).tmod n = (r : Int) := by rw [Int.tmod_eq_emod_of_nonneg (by omega)]; exact e5
    have HE : Hid (((t : Int) * 7) % n = (r : Int)) := e5
    clear e5
    go_enter Try.func52, Try.ntmps52
    go_wp2
    go_ret
    exact ⟨r, by have e := HE.out; first | rfl | (simp [e6]; done) | (simp [e]; done), r1, HS.out.next, next_mod _ _ _⟩
  · have hk : (0 : Int) < (k : Int) := by omega
    obtain ⟨m, hm⟩ : ∃ m, m = t % k := ⟨_, rfl⟩
    obtain ⟨m', hm'⟩ : ∃ m', m' = (t + 1) % k := ⟨_, rfl⟩
    obtain ⟨d, hdv⟩ : ∃ d, d = t / k := ⟨_, rfl⟩
    have hml : m < k := by rw [hm]; exact Nat.mod_lt _ (by omega)
    have hml' : m' < k := by rw [hm']; exact Nat.mod_lt _ (by omega)
    have hdl : d ≤ 100000 := by rw [hdv]; exact Nat.le_trans (Nat.div_le_self _ _) ht
    obtain ⟨b, o, c, rfl, hbB, c0, c1, hcell⟩ := HS.out.byte m hml
    obtain ⟨b', o', c', e', _, c0', c1', hcell'⟩ := HS.out.byte m' hml'
    simp only [Option.some.injEq, Addr.mk.injEq, and_true] at e'
    obtain ⟨rfl, rfl⟩ := e'
    have e1 : (t : Int) % (k : Int) = (m : Int) := by rw [hm]; rfl
    have e2 : (t : Int) / (k : Int) = (d : Int) := by rw [hdv]; rfl
    have e3 : (t : Int).tmod (k : Int) = (m : Int) := by rw [Int.tmod_eq_emod_of_nonneg (by omega)]; exact e1
    have e4 : (t : Int).tdiv (k : Int) = (d : Int) := by rw [Int.tdiv_eq_ediv_of_nonneg (by omega)]; exact e2
    have e7 : ((t : Int) + 1) % (k : Int) = (m' : Int) := by rw [hm']; rfl
    have e8 : ((t : Int) + 1).tmod (k : Int) = (m' : Int) := by rw [Int.tmod_eq_emod_of_nonneg (by omega)]; exact e7
    clear hm hdv hm'
    have hd : ((k : Int) == 0) = false := by simp; omega
    go_enter Try.func52, Try.ntmps52
    have hcW : (w.setCell ⟨bs, 1, none⟩ (.int .i64 (t + 1))).cell? ⟨bs, 0, none⟩ = some (.slice (some ⟨b, o, none⟩) k cap) := by rw [set_other (by simp)]; exact hc
    have hbW : (w.setCell ⟨bs, 1, none⟩ (.int .i64 (t + 1))).cell? ⟨b, o + m, none⟩ = some (.int .u8 c) := by
      rw [set_other (fun e => by have := HS.out.le; have e' : bs = b := congrArg Addr.block e; omega)]; exact hcell
    have hbW' : (w.setCell ⟨bs, 1, none⟩ (.int .i64 (t + 1))).cell? ⟨b, o + m', none⟩ = some (.int .u8 c') := by
      rw [set_other (fun e => by have := HS.out.le; have e' : bs = b := congrArg Addr.block e; omega)]; exact hcell'
    have q2 : (m : Int) < (k : Int) := by omega
    have q2' : (m' : Int) < (k : Int) := by omega
    go_wp2
    go_region_held3 (fun w' => w' = (w.setCell ⟨bs, 1, none⟩ (.int .i64 (t + 1))).drew ∧ w'.cell? ⟨bs, 0, none⟩ = some (.slice (some ⟨b, o, none⟩) k cap) ∧ w'.cell? ⟨b, o + m, none⟩ = some (.int .u8 c)) (exact ⟨rfl, hcW, hbW⟩) (fail)
    rename_i hH
    clear hH
    have hv : IntKind.i64.wrap (IntKind.i64.wrap c + IntKind.i64.wrap (IntKind.i64.wrap d * 37)) = c + d * 37 := by
      rw [wrapI c (by omega) (by omega), wrapI (d : Int) (by omega) (by omega), wrapI ((d : Int) * 37) (by omega) (by omega), wrapI _ (by omega) (by omega)]
    rw [hv]
    obtain ⟨v, hve⟩ : ∃ v, v = c + (d : Int) * 37 := ⟨_, rfl⟩
    have v0 : 0 ≤ v := by omega
    have v1 : v ≤ 4000000 := by omega
    rw [← hve]
    clear hv hve e1 e2 e3 e4
    by_cases h2 : 200 < n
    · have y1 : IntKind.i64.wrap (v * 251) = v * 251 := wrapI _ (by omega) (by omega)
      have y2 : IntKind.i64.wrap ((t : Int) + 1) = t + 1 := wrapI _ (by omega) (by omega)
      have y3 : IntKind.i64.wrap c' = c' := wrapI _ (by omega) (by omega)
      have y4 : IntKind.i64.wrap (c' * 13) = c' * 13 := wrapI _ (by omega) (by omega)
      have y5 : IntKind.i64.wrap (v * 251 + c' * 13) = v * 251 + c' * 13 := wrapI _ (by omega) (by omega)
      have y6 : IntKind.i64.wrap (v * 251 + c' * 13 + t) = v * 251 + c' * 13 + t := wrapI _ (by omega) (by omega)
      obtain ⟨r, e5, r1⟩ := HR.out (v * 251 + c' * 13 + t) (by omega)
      have e6 : (v * 251 + c' * 13 + t).tmod n = (r : Int) := by rw [Int.tmod_eq_emod_of_nonneg (by omega)]; exact e5
      have HE : Hid ((v * 251 + c' * 13 + t) % n = (r : Int)) := e5
      have HE6 : Hid ((v * 251 + c' * 13 + t).tmod n = (r : Int)) := e6
      clear e5 e6
      go_wp2
      go_region_held3 (fun w' => w' = (w.setCell ⟨bs, 1, none⟩ (.int .i64 (t + 1))).drew.drew ∧ w'.cell? ⟨bs, 0, none⟩ = some (.slice (some ⟨b, o, none⟩) k cap) ∧ w'.cell? ⟨b, o + m', none⟩ = some (.int .u8 c')) (exact ⟨rfl, hcW, hbW'⟩) (fail)
      rename_i hH
      clear hH
      obtain ⟨V, hV⟩ : ∃ V, V = v * 251 + c' * 13 + (t : Int) := ⟨_, rfl⟩
      have V0 : 0 ≤ V := by omega
      have HE7 : Hid (V % n = (r : Int)) := by unfold Hid; rw [hV]; exact HE.out
      have HE8 : Hid (V.tmod n = (r : Int)) := by unfold Hid; rw [hV]; exact HE6.out
      first | rw [← hV] | skip
      clear y1 y2 y3 y4 y5 y6 hV
      go_wp2
      go_ret
      exact ⟨r, by have e := HE7.out; have e' := HE8.out; first | rfl | (simp [e']; done) | (simp [e]; done), r1, HS.out.next.drew'.drew', (next_mod _ _ _).drew1.drew1⟩
    · obtain ⟨r, e5, r1⟩ := HR.out v v0
      have e6 : v.tmod n = (r : Int) := by rw [Int.tmod_eq_emod_of_nonneg (by omega)]; exact e5
      have HE : Hid (v % n = (r : Int)) := e5
      clear e5
      go_wp2
      go_ret
      exact ⟨r, by have e := HE.out; first | rfl | (simp [e6]; done) | (simp [e]; done), r1, HS.out.next.drew', (next_mod _ _ _).drew1⟩
end Go.Proofs.Ytgibggjmliddlaa

/-
  The specification's draws: one of a list, some bytes, bytes with something turned.
-/
namespace Go.Proofs.Ytgibggjmliddlaa
open Go.RowKit
set_option linter.unusedSectionVars false
variable [DecidableEq Logg] [Inhabited Logg] [DecidableEq LoggR] [Inhabited LoggR] [DecidableEq BytesR] [Inhabited BytesR] [DecidableEq RecsR] [Inhabited RecsR] [DecidableEq Leg] [Inhabited Leg]
set_option linter.unusedSimpArgs false
attribute [local go_sem ↓] Go.wp_at_zero Go.wp_at_succ

theorem src_new {w : World} {a : Option Addr} {cap : Nat} {xs : List Byte} {T : TypeId} (h : BytesV w (.slice a xs.length cap) xs) (hn : xs.length ≤ 2097152) : Src w.heap.size (w.alloc (.cells #[.slice a xs.length cap, .int .i64 0] T)) w.heap.size a xs.length cap 0 := by
  obtain ⟨a', cap', e, g1, g2, g3⟩ := h
  simp only [Value.slice.injEq, true_and] at e
  obtain ⟨rfl, rfl⟩ := e
  refine ⟨Nat.le_refl _, by simp, by simp [go_sem], by simp [go_sem], fun o => by simp [go_sem], g1, g2, hn, fun i hi => ?_⟩
  obtain ⟨b, o, e, hc⟩ := g3 i hi
  have hl := World.block_lt_of_cell? _ _ hc
  dsimp only at hl
  exact ⟨b, o, _, e, hl, by omega, by have := (xs.getD i 0).isLt; omega, cell_keep (balloc (Below.refl _ _) _) hc⟩
set_option maxHeartbeats 400000 in
theorem l1Source_any (x : Value) (xs : List Byte) (w : World) (hx : BytesV w x xs) (hn : xs.length ≤ 2097152) :
    Calls Try.prog 48 #[x] w fun e w' => ∃ a cap, e = .returned (.pointer (some ⟨w.heap.size, 0, none⟩)) ∧ Src w.heap.size w' w.heap.size a xs.length cap 0 ∧ Below w.heap.size w w' := by
  have hX := hx
  obtain ⟨a, cap, rfl, _⟩ := hx
  go_enter Try.func48, Try.ntmps48
  go_wp2
  go_ret
  exact ⟨a, cap, rfl, src_new hX hn, by (repeat (first | exact Below.refl _ _ | assumption | refine Below.drew ?_ | refine balloc ?_ _ | refine bset ?_ (by simp; omega) _ | refine bset ?_ (by simp) _ | refine bstep ?_ (by assumption)))⟩
set_option maxHeartbeats 1000000 in
theorem l1Pick_any (B : Nat) (w : World) (bs : Nat) (a : Option Addr) (k cap t : Nat) (g c : Nat) (ys : List Int) (h : Src B w bs a k cap t) (ht : t ≤ 100000) (hg : g ≠ bs) (hn1 : 1 ≤ ys.length) (hn2 : ys.length ≤ 200)
    (hy : ∀ i, i < ys.length → w.cell? ⟨g, i, none⟩ = some (.int .i64 (ys.getD i 0))) :
    Calls Try.prog 49 #[.pointer (some ⟨bs, 0, none⟩), .slice (some ⟨g, 0, none⟩) ys.length c] w fun e w' => ∃ r : Int, e = .returned (.int .i64 r) ∧ r ∈ ys ∧ Src B w' bs a k cap (t + 1) ∧ Mod (fun b => b = bs) w w' := by
  have HY : Hid (∀ i, i < ys.length → w.cell? ⟨g, i, none⟩ = some (.int .i64 (ys.getD i 0))) := hy
  clear hy
  go_enter Try.func49, Try.ntmps49
  go_wp2_with fail
  refine (l1Next_any B w bs a k cap t ys.length h ht (by omega) (by omega)).mono ?_
  rintro e w1 ⟨m, rfl, r1, hs1, hm1⟩
  have hm : m < ys.length := by omega
  have hcell := hm1.cell (HY.out m hm) (by simpa using hg)
  obtain ⟨y, hye⟩ : ∃ y, y = ys.getD m 0 := ⟨_, rfl⟩
  rw [← hye] at hcell
  have HE : Hid (y = ys.getD m 0) := hye
  clear hye
  go_wp2
  go_ret
  refine ⟨y, rfl, ?_, hs1, hm1⟩
  rw [HE.out]
  have e : ys.getD m 0 = ys[m] := by simp [List.getD, hm]
  rw [e]
  exact List.getElem_mem hm
set_option maxHeartbeats 400000 in
theorem l1Chance_any (B : Nat) (w : World) (bs : Nat) (a : Option Addr) (k cap t : Nat) (n : Int) (h : Src B w bs a k cap t) (ht : t ≤ 100000) (hn1 : 1 ≤ n) (hn2 : n ≤ 100000) :
    Calls Try.prog 51 #[.pointer (some ⟨bs, 0, none⟩), .int .i64 n] w fun e w' => ∃ r : Bool, e = .returned (.bool r) ∧ Src B w' bs a k cap (t + 1) ∧ Mod (fun b => b = bs) w w' := by
  go_enter Try.func51, Try.ntmps51
  go_wp2_with fail
  refine (l1Next_any B w bs a k cap t n h ht hn1 hn2).mono ?_
  rintro e w1 ⟨m, rfl, r1, hs1, hm1⟩
  go_wp2
  go_ret
  exact ⟨_, rfl, hs1, hm1⟩
end Go.Proofs.Ytgibggjmliddlaa

/-
  The draw of PickValue: some votes and a value.
-/
set_option linter.unusedSimpArgs false
set_option linter.unusedVariables false
namespace Go.Proofs.Ytgibggjmliddlaa
open Go.RowKit
set_option linter.unusedSectionVars false
variable [DecidableEq Vot] [Inhabited Vot] [DecidableEq Slt] [Inhabited Slt] [DecidableEq SltR] [Inhabited SltR] [DecidableEq Bal] [Inhabited Bal] [DecidableEq Ledg] [Inhabited Ledg] [DecidableEq Leg] [Inhabited Leg] [DecidableEq Logg] [Inhabited Logg] [DecidableEq LoggR] [Inhabited LoggR] [DecidableEq BytesR] [Inhabited BytesR] [DecidableEq RecsR] [Inhabited RecsR]
attribute [local go_sem ↓] Go.wp_at_zero Go.wp_at_succ

set_option maxRecDepth 20000 in
set_option maxHeartbeats 8000000 in
theorem drawPick_any (x : Value) (cs : List Byte) (w : World) (hx : BytesV w x cs) (hn : cs.length ≤ 1048576) :
    Calls Try.prog 15 #[x] w fun e w' => ∃ v xs own, e = .returned (.tuple #[v, .int .i64 own]) ∧ votsR.V w' v xs ∧ xs.length ≤ 10 ∧ Below w.heap.size w w' := by
  have hX := hx
  obtain ⟨ax, cx, rfl, _⟩ := hx
  go_enter Try.func15, Try.ntmps15
  go_wp2_with fail
  refine (l1Source_any _ cs _ (BytesV_below hX (by (repeat (first | exact Below.refl _ _ | assumption | refine Below.drew ?_ | refine balloc ?_ _ | refine bset ?_ (by simp; omega) _ | refine bset ?_ (by simp) _ | refine bstep ?_ (by assumption))))) (by omega)).mono ?_
  rintro e w1 ⟨a, cap, rfl, hs1, hb1⟩
  have z1 := hs1.lt
  clear hX
  have ho1 := World.ownsRow_lit (base := w.heap.size + 1) (e := 32) (size := 2) w1 #[] 0 (by omega) (by unfold maxLen; omega) rfl
  have hv1 : votsR.O (w1.alloc (.cells #[] 32)) (w.heap.size + 1) (fun b => (Value.slice (some ⟨w1.heap.size, 0, none⟩) 0 0).ownBlock = some b) (.slice (some ⟨w1.heap.size, 0, none⟩) 0 0) [] := ⟨ho1, rfl⟩
  clear ho1
  go_wp2_with fail
  refine (l1Pick_any w.heap.size _ w.heap.size a cs.length cap 0 (w1.heap.size + 1) 6 [2, 3, 1, 0, 9, 10] (hs1.below (by (repeat (first | exact Below.refl _ _ | assumption | refine Below.drew ?_ | refine balloc ?_ _ | refine bset ?_ (by simp; omega) _ | refine bset ?_ (by simp) _ | refine bstep ?_ (by assumption))))) (by omega) (by omega) (by simp) (by simp) ?_).mono ?_
  · intro i hi
    match i, hi with
    | 0, _ => simp [go_sem]
    | 1, _ => simp [go_sem]
    | 2, _ => simp [go_sem]
    | 3, _ => simp [go_sem]
    | 4, _ => simp [go_sem]
    | 5, _ => simp [go_sem]
  rintro e w2 ⟨r0, rfl, hr0, hs2, m2⟩
  have hB2 : Below w.heap.size w w2 := m2.below (balloc (balloc hb1 _) _) (by simp; omega) (fun b hb => by omega)
  have hv2 := votsR.mod (votsR.alloc hv1 _) m2 (fun b hb e => by have := votsR.rng hv1 b hb; omega)
  have hr : ∃ n : Nat, r0 = (n : Int) ∧ n ≤ 10 := by
    simp only [List.mem_cons, List.not_mem_nil, or_false] at hr0
    exact ⟨r0.toNat, by omega, by omega⟩
  obtain ⟨r1, rfl, hr1⟩ := hr
  clear hr0 m2 hs1 hb1 hv1
  go_wp2
  go_loopw [5, 6] (fun u i w' => ∃ (r : Nat) (xs : List Vot) (t : Nat), xs.length + r ≤ 10 ∧ i = .int .i64 r ∧ (∃ F au cu, u = .slice au xs.length cu ∧ votsR.O w' (w.heap.size + 1) F (.slice au xs.length cu) xs) ∧ Src w.heap.size w' w.heap.size a cs.length cap t ∧ t + 4 * r ≤ 50 ∧ Below w.heap.size w w') (fun _ i _ => (intOf i).toNat)
  case atStart => exact ⟨r1, [], 0 + 1, by simpa using hr1, rfl, ⟨_, _, _, rfl, hv2⟩, hs2, by omega, hB2⟩
  case round =>
    clear hv2 hs2 hB2
    obtain ⟨r, xs, t, hr, rfl, ⟨F, au, cu, rfl, ho⟩, hs, ht, hbl⟩ := hrel
    cases r with
    | zero =>
      have zr := hs.lt
      have HV : Hid (votsR.O wr (w.heap.size + 1) F (.slice au xs.length cu) xs) := ho
      clear ho
      go_wp2_with fail
      refine (l1Pick_any w.heap.size _ w.heap.size a cs.length cap t wr.heap.size 4 [1, 2, 2, 0] (hs.below (by (repeat (first | exact Below.refl _ _ | assumption | refine Below.drew ?_ | refine balloc ?_ _ | refine bset ?_ (by simp; omega) _ | refine bset ?_ (by simp) _ | refine bstep ?_ (by assumption))))) (by omega) (by omega) (by simp) (by simp) ?_).mono ?_
      · intro i hi
        match i, hi with
        | 0, _ => simp [go_sem]
        | 1, _ => simp [go_sem]
        | 2, _ => simp [go_sem]
        | 3, _ => simp [go_sem]
      rintro e w5 ⟨own, rfl, hown, hs5, m5⟩
      have hB5 : Below w.heap.size w w5 := m5.below (balloc hbl _) (by simp; omega) (fun b hb => by omega)
      have HV5 : Hid (votsR.O w5 (w.heap.size + 1) F (.slice au xs.length cu) xs) := votsR.mod (votsR.alloc HV.out _) m5 (fun b hb e => by have := votsR.rng HV.out b hb; omega)
      clear m5 hs5 hbl hown
      go_wp2
      refine bodyPost_ret (v := .tuple #[.slice au xs.length cu, .int .i64 own]) (by simp [results, Try.results15, go_sem]) rfl ?_
      exact ⟨_, xs, own, rfl, votsR.ofO HV5.out, by omega, hB5⟩
    | succ r =>
      go_wp2_with fail
      refine (l8None_any _).mono ?_
      rintro e w4 ⟨rfl, hb4⟩
      have ho4 := votsR.keep ho hb4
      have hs4 := hs.below hb4
      have hB4 := bstep hbl hb4
      have z4 := hs4.lt
      clear ho hs hbl hb4
      go_wp2_with fail
      refine (l1Chance_any w.heap.size _ w.heap.size a cs.length cap t 3 (hs4.below (by (repeat (first | exact Below.refl _ _ | assumption | refine Below.drew ?_ | refine balloc ?_ _ | refine bset ?_ (by simp; omega) _ | refine bset ?_ (by simp) _ | refine bstep ?_ (by assumption))))) (by omega) (by omega) (by omega)).mono ?_
      rintro e w5 ⟨ch, rfl, hs5, m5⟩
      have hB5 : Below w.heap.size w w5 := m5.below (balloc hB4 _) (by simp; omega) (fun b hb => by omega)
      have c0 := m5.cell (a := ⟨w4.heap.size, 0, none⟩) (v := .int .i64 (-1)) (by simp [go_sem]) (by simp; omega)
      have c1 := m5.cell (a := ⟨w4.heap.size, 1, none⟩) (v := .int .i64 0) (by simp [go_sem]) (by simp; omega)
      have cf : ∀ o, w5.frozen? ⟨w4.heap.size, o, none⟩ = false := fun o => (World.frozen?_of_block (m5.block w4.heap.size (by simp) (by omega))).trans (by simp [go_sem])
      have ho5 := votsR.mod (votsR.alloc ho4 _) m5 (fun b hb e => by have := votsR.rng ho4 b hb; omega)
      have hlF : ∀ b, F b → w.heap.size + 1 ≤ b ∧ b < w4.heap.size := fun b hb => votsR.rng ho4 b hb
      have z5 : w4.heap.size < w5.heap.size := World.block_lt_of_cell? _ _ c0
      clear m5 hs4 hB4 ho4
      cases ch with
      | true =>
        go_wp2_with fail
        refine (l1Chance_any w.heap.size w5 w.heap.size a cs.length cap (t + 1) 30 hs5 (by omega) (by omega) (by omega)).mono ?_
        rintro e w8 ⟨ch8, rfl, hs8, m8⟩
        have hB8 : Below w.heap.size w w8 := m8.below hB5 hB5.size (fun b hb => by omega)
        have d0 := m8.cell c0 (by simp; omega)
        have d1 := m8.cell c1 (by simp; omega)
        have df : ∀ o, w8.frozen? ⟨w4.heap.size, o, none⟩ = false := fun o => (World.frozen?_of_block (m8.block w4.heap.size (World.block_lt_of_cell? _ _ c0) (by omega))).trans (cf o)
        have ho8 := votsR.mod ho5 m8 (fun b hb e => by have := votsR.rng ho5 b hb; omega)
        have z8 : w4.heap.size < w8.heap.size := World.block_lt_of_cell? _ _ d0
        clear m8 hs5 hB5 c0 c1 cf ho5
        cases ch8 with
        | false =>
          have hz9 := hB8.size
          have hne : Hid (∀ b, F b → w.heap.size + 1 ≤ b ∧ b < w8.heap.size) := fun b hb => votsR.rng ho8 b hb
          have HO9 : Hid (votsR.O w8 (w.heap.size + 1) F (.slice au xs.length cu) xs) := ho8
          clear ho8
          go_wp2_with (at_builtin; refine wpList_appV _ rfl _ _ rfl (w.heap.size + 1) _ xs rfl _ [⟨(-1), 0⟩] rfl (votsR.alloc HO9.out _).1 ?c0 ?c1 ?c2 ?_)
          case c0 => exact appAny_vot (g := w8.heap.size) (by simp [go_sem]) (by simp [go_sem])
          case c1 => simp; omega
          case c2 => simp; omega
          intro v9 w9 o9 hg9 hb9
          obtain ⟨a9, c9, rfl⟩ := owns_form o9
          have hB9 : Below w.heap.size w w9 := Below.trans (balloc hB8 _) ((hb9 _ (Below.refl _ _)).mono (by omega))
          have hs9 : Src w.heap.size w9 w.heap.size a cs.length cap (t + 1 + 1) := (hs8.below (balloc (Below.refl _ _) _)).mod (Mod.of_grown hg9) (fun b hb => by have := (hne.out b (by rw [HO9.out.2]; exact hb)).1; omega)
          have o9' : ∃ F', votsR.O w9 (w.heap.size + 1) F' (.slice a9 (xs.length + 1) c9) (xs ++ [⟨(-1), 0⟩]) := ⟨_, by rw [List.length_append]; exact o9, rfl⟩
          have hl9 : (xs ++ [(⟨(-1), 0⟩ : Vot)]).length = xs.length + 1 := by simp
          clear o9 hg9 hb9
          go_wp2
          refine ⟨⟨r, xs ++ [⟨(-1), 0⟩], t + 1 + 1, by omega, by go_num, ?_, hs9, by omega, hB9⟩, by simp [intOf]⟩
          obtain ⟨F', o9'⟩ := o9'
          exact ⟨F', _, _, by rw [hl9], by rw [hl9]; exact o9'⟩
        | true =>
          have g0 : (w8.setCell ⟨w4.heap.size, 1, none⟩ (.int .i64 3)).cell? ⟨w4.heap.size, 0, none⟩ = some (.int .i64 (-1)) := by simp [go_sem, d0]
          have g1 : (w8.setCell ⟨w4.heap.size, 1, none⟩ (.int .i64 3)).cell? ⟨w4.heap.size, 1, none⟩ = some (.int .i64 3) := by simp [go_sem, d1]
          have hsZ : Src w.heap.size (w8.setCell ⟨w4.heap.size, 1, none⟩ (.int .i64 3)) w.heap.size a cs.length cap (t + 1 + 1) := hs8.mod (Mod.of_set _ _ _) (fun b hb => by simp at hb; omega)
          have hoZ : votsR.O (w8.setCell ⟨w4.heap.size, 1, none⟩ (.int .i64 3)) (w.heap.size + 1) F (.slice au xs.length cu) xs := Rep.setN _ ho8 _ (fun h => by have := (hlF w4.heap.size h).2; omega)
          have hBZ : Below w.heap.size w (w8.setCell ⟨w4.heap.size, 1, none⟩ (.int .i64 3)) := bset hB8 (by simp; omega) _
          clear ho8 hs8 hB8
          have hz9 := hBZ.size
          have hne : Hid (∀ b, F b → w.heap.size + 1 ≤ b ∧ b < (w8.setCell ⟨w4.heap.size, 1, none⟩ (.int .i64 3)).heap.size) := fun b hb => votsR.rng hoZ b hb
          have HO9 : Hid (votsR.O (w8.setCell ⟨w4.heap.size, 1, none⟩ (.int .i64 3)) (w.heap.size + 1) F (.slice au xs.length cu) xs) := hoZ
          clear hoZ
          go_wp2_with (at_builtin; refine wpList_appV _ rfl _ _ rfl (w.heap.size + 1) _ xs rfl _ [⟨(-1), 3⟩] rfl (votsR.alloc HO9.out _).1 ?c0 ?c1 ?c2 ?_)
          case c0 => exact appAny_vot (g := w8.heap.size) (by simp [go_sem]) (by simp [go_sem])
          case c1 => simp; omega
          case c2 => simp; omega
          intro v9 w9 o9 hg9 hb9
          obtain ⟨a9, c9, rfl⟩ := owns_form o9
          have hB9 : Below w.heap.size w w9 := Below.trans (balloc hBZ _) ((hb9 _ (Below.refl _ _)).mono (by omega))
          have hs9 : Src w.heap.size w9 w.heap.size a cs.length cap (t + 1 + 1) := (hsZ.below (balloc (Below.refl _ _) _)).mod (Mod.of_grown hg9) (fun b hb => by have := (hne.out b (by rw [HO9.out.2]; exact hb)).1; omega)
          have o9' : ∃ F', votsR.O w9 (w.heap.size + 1) F' (.slice a9 (xs.length + 1) c9) (xs ++ [⟨(-1), 3⟩]) := ⟨_, by rw [List.length_append]; exact o9, rfl⟩
          have hl9 : (xs ++ [(⟨(-1), 3⟩ : Vot)]).length = xs.length + 1 := by simp
          clear o9 hg9 hb9
          go_wp2
          refine ⟨⟨r, xs ++ [⟨(-1), 3⟩], t + 1 + 1, by omega, by go_num, ?_, hs9, by omega, hB9⟩, by simp [intOf]⟩
          obtain ⟨F', o9'⟩ := o9'
          exact ⟨F', _, _, by rw [hl9], by rw [hl9]; exact o9'⟩
      | false =>
        go_wp2_with fail
        refine (l1Next_any w.heap.size _ w.heap.size a cs.length cap (t + 1) 6 hs5 (by omega) (by omega) (by omega)).mono ?_
        rintro e w6 ⟨n6, rfl, hn6, hs6, m6⟩
        go_wp2_with fail
        refine (l1Next_any w.heap.size _ w.heap.size a cs.length cap (t + 1 + 1) 2 hs6 (by omega) (by omega) (by omega)).mono ?_
        rintro e w7 ⟨n7, rfl, hn7, hs7, m7⟩
        have M7 := m6.trans m7
        have hB7 : Below w.heap.size w w7 := M7.below hB5 hB5.size (fun b hb => by omega)
        have e0 := M7.cell c0 (by simp; omega)
        have e1 := M7.cell c1 (by simp; omega)
        have ef : ∀ o, w7.frozen? ⟨w4.heap.size, o, none⟩ = false := fun o => (World.frozen?_of_block (M7.block w4.heap.size z5 (by omega))).trans (cf o)
        have ho7 := votsR.mod ho5 M7 (fun b hb e => by have := hlF b hb; omega)
        have v7 : IntKind.i64.wrap (1 + (n7 : Int)) = 1 + (n7 : Int) := wrapI _ (by omega) (by omega)
        have f0 : ((w7.setCell ⟨w4.heap.size, 0, none⟩ (.int .i64 (n6 : Int))).setCell ⟨w4.heap.size, 1, none⟩ (.int .i64 (1 + (n7 : Int)))).cell? ⟨w4.heap.size, 0, none⟩ = some (.int .i64 (n6 : Int)) := by simp [go_sem, e0]
        have f1 : ((w7.setCell ⟨w4.heap.size, 0, none⟩ (.int .i64 (n6 : Int))).setCell ⟨w4.heap.size, 1, none⟩ (.int .i64 (1 + (n7 : Int)))).cell? ⟨w4.heap.size, 1, none⟩ = some (.int .i64 (1 + (n7 : Int))) := by simp [go_sem, e1]
        have ff : ∀ o, ((w7.setCell ⟨w4.heap.size, 0, none⟩ (.int .i64 (n6 : Int))).setCell ⟨w4.heap.size, 1, none⟩ (.int .i64 (1 + (n7 : Int)))).frozen? ⟨w4.heap.size, o, none⟩ = false := fun o => by simp [go_sem, ef]
        have hsY : Src w.heap.size ((w7.setCell ⟨w4.heap.size, 0, none⟩ (.int .i64 (n6 : Int))).setCell ⟨w4.heap.size, 1, none⟩ (.int .i64 (1 + (n7 : Int)))) w.heap.size a cs.length cap (t + 1 + 1 + 1) := (hs7.mod (Mod.of_set _ _ _) (fun b hb => by simp at hb; omega)).mod (Mod.of_set _ _ _) (fun b hb => by simp at hb; omega)
        have hoY : votsR.O ((w7.setCell ⟨w4.heap.size, 0, none⟩ (.int .i64 (n6 : Int))).setCell ⟨w4.heap.size, 1, none⟩ (.int .i64 (1 + (n7 : Int)))) (w.heap.size + 1) F (.slice au xs.length cu) xs := Rep.setN _ (Rep.setN _ ho7 _ (fun h => by have := (hlF w4.heap.size h).2; omega)) _ (fun h => by have := (hlF w4.heap.size h).2; omega)
        have hBY : Below w.heap.size w ((w7.setCell ⟨w4.heap.size, 0, none⟩ (.int .i64 (n6 : Int))).setCell ⟨w4.heap.size, 1, none⟩ (.int .i64 (1 + (n7 : Int)))) := bset (bset hB7 (by simp; omega) _) (by simp; omega) _
        clear m6 m7 M7 hs5 hs6 hB5 c0 c1 cf ho5 ho7 hs7

        go_wp2_with fail
        refine (l1Chance_any w.heap.size _ w.heap.size a cs.length cap (t + 1 + 1 + 1) 30 hsY (by omega) (by omega) (by omega)).mono ?_
        rintro e w8 ⟨ch8, rfl, hs8, m8⟩
        have hB8 : Below w.heap.size w w8 := m8.below hBY hBY.size (fun b hb => by omega)
        have d0 := m8.cell f0 (by simp; omega)
        have d1 := m8.cell f1 (by simp; omega)
        have df : ∀ o, w8.frozen? ⟨w4.heap.size, o, none⟩ = false := fun o => (World.frozen?_of_block (m8.block w4.heap.size (World.block_lt_of_cell? _ _ f0) (by omega))).trans (ff o)
        have ho8 := votsR.mod hoY m8 (fun b hb e => by have := votsR.rng hoY b hb; omega)
        have z8 : w4.heap.size < w8.heap.size := World.block_lt_of_cell? _ _ d0
        clear m8 hsY hBY f0 f1 ff hoY
        cases ch8 with
        | false =>
          have hz9 := hB8.size
          have hne : Hid (∀ b, F b → w.heap.size + 1 ≤ b ∧ b < w8.heap.size) := fun b hb => votsR.rng ho8 b hb
          have HO9 : Hid (votsR.O w8 (w.heap.size + 1) F (.slice au xs.length cu) xs) := ho8
          clear ho8
          go_wp2_with (at_builtin; refine wpList_appV _ rfl _ _ rfl (w.heap.size + 1) _ xs rfl _ [⟨(n6 : Int), (1 + (n7 : Int))⟩] rfl (votsR.alloc HO9.out _).1 ?c0 ?c1 ?c2 ?_)
          case c0 => exact appAny_vot (g := w8.heap.size) (by simp [go_sem]) (by simp [go_sem])
          case c1 => simp; omega
          case c2 => simp; omega
          intro v9 w9 o9 hg9 hb9
          obtain ⟨a9, c9, rfl⟩ := owns_form o9
          have hB9 : Below w.heap.size w w9 := Below.trans (balloc hB8 _) ((hb9 _ (Below.refl _ _)).mono (by omega))
          have hs9 : Src w.heap.size w9 w.heap.size a cs.length cap (t + 1 + 1 + 1 + 1) := (hs8.below (balloc (Below.refl _ _) _)).mod (Mod.of_grown hg9) (fun b hb => by have := (hne.out b (by rw [HO9.out.2]; exact hb)).1; omega)
          have o9' : ∃ F', votsR.O w9 (w.heap.size + 1) F' (.slice a9 (xs.length + 1) c9) (xs ++ [⟨(n6 : Int), (1 + (n7 : Int))⟩]) := ⟨_, by rw [List.length_append]; exact o9, rfl⟩
          have hl9 : (xs ++ [(⟨(n6 : Int), (1 + (n7 : Int))⟩ : Vot)]).length = xs.length + 1 := by simp
          clear o9 hg9 hb9
          go_wp2
          refine ⟨⟨r, xs ++ [⟨(n6 : Int), (1 + (n7 : Int))⟩], t + 1 + 1 + 1 + 1, by omega, by go_num, ?_, hs9, by omega, hB9⟩, by simp [intOf]⟩
          obtain ⟨F', o9'⟩ := o9'
          exact ⟨F', _, _, by rw [hl9], by rw [hl9]; exact o9'⟩
        | true =>
          have g0 : (w8.setCell ⟨w4.heap.size, 1, none⟩ (.int .i64 3)).cell? ⟨w4.heap.size, 0, none⟩ = some (.int .i64 (n6 : Int)) := by simp [go_sem, d0]
          have g1 : (w8.setCell ⟨w4.heap.size, 1, none⟩ (.int .i64 3)).cell? ⟨w4.heap.size, 1, none⟩ = some (.int .i64 3) := by simp [go_sem, d1]
          have hsZ : Src w.heap.size (w8.setCell ⟨w4.heap.size, 1, none⟩ (.int .i64 3)) w.heap.size a cs.length cap (t + 1 + 1 + 1 + 1) := hs8.mod (Mod.of_set _ _ _) (fun b hb => by simp at hb; omega)
          have hoZ : votsR.O (w8.setCell ⟨w4.heap.size, 1, none⟩ (.int .i64 3)) (w.heap.size + 1) F (.slice au xs.length cu) xs := Rep.setN _ ho8 _ (fun h => by have := (hlF w4.heap.size h).2; omega)
          have hBZ : Below w.heap.size w (w8.setCell ⟨w4.heap.size, 1, none⟩ (.int .i64 3)) := bset hB8 (by simp; omega) _
          clear ho8 hs8 hB8
          have hz9 := hBZ.size
          have hne : Hid (∀ b, F b → w.heap.size + 1 ≤ b ∧ b < (w8.setCell ⟨w4.heap.size, 1, none⟩ (.int .i64 3)).heap.size) := fun b hb => votsR.rng hoZ b hb
          have HO9 : Hid (votsR.O (w8.setCell ⟨w4.heap.size, 1, none⟩ (.int .i64 3)) (w.heap.size + 1) F (.slice au xs.length cu) xs) := hoZ
          clear hoZ
          go_wp2_with (at_builtin; refine wpList_appV _ rfl _ _ rfl (w.heap.size + 1) _ xs rfl _ [⟨(n6 : Int), 3⟩] rfl (votsR.alloc HO9.out _).1 ?c0 ?c1 ?c2 ?_)
          case c0 => exact appAny_vot (g := w8.heap.size) (by simp [go_sem]) (by simp [go_sem])
          case c1 => simp; omega
          case c2 => simp; omega
          intro v9 w9 o9 hg9 hb9
          obtain ⟨a9, c9, rfl⟩ := owns_form o9
          have hB9 : Below w.heap.size w w9 := Below.trans (balloc hBZ _) ((hb9 _ (Below.refl _ _)).mono (by omega))
          have hs9 : Src w.heap.size w9 w.heap.size a cs.length cap (t + 1 + 1 + 1 + 1) := (hsZ.below (balloc (Below.refl _ _) _)).mod (Mod.of_grown hg9) (fun b hb => by have := (hne.out b (by rw [HO9.out.2]; exact hb)).1; omega)
          have o9' : ∃ F', votsR.O w9 (w.heap.size + 1) F' (.slice a9 (xs.length + 1) c9) (xs ++ [⟨(n6 : Int), 3⟩]) := ⟨_, by rw [List.length_append]; exact o9, rfl⟩
          have hl9 : (xs ++ [(⟨(n6 : Int), 3⟩ : Vot)]).length = xs.length + 1 := by simp
          clear o9 hg9 hb9
          go_wp2
          refine ⟨⟨r, xs ++ [⟨(n6 : Int), 3⟩], t + 1 + 1 + 1 + 1, by omega, by go_num, ?_, hs9, by omega, hB9⟩, by simp [intOf]⟩
          obtain ⟨F', o9'⟩ := o9'
          exact ⟨F', _, _, by rw [hl9], by rw [hl9]; exact o9'⟩
end Go.Proofs.Ytgibggjmliddlaa

/-
  PickValue in plain mathematics.
-/
namespace Go.Proofs.Ytgibggjmliddlaa
open Go.RowKit
set_option linter.unusedSectionVars false
variable [DecidableEq Vot] [Inhabited Vot] [DecidableEq Slt] [Inhabited Slt] [DecidableEq Bal] [Inhabited Bal] [DecidableEq Ledg] [Inhabited Ledg] [DecidableEq Leg] [Inhabited Leg]

def isNo (x : Vot) : Bool := decide (x.bal = -1) && decide (x.val = 0)
def pickAt (xs : List Vot) (k : Nat) : Int := if isNo (xs.getD k default) || votB (xs.getD k default) then 0 else 3
def best (own : Int) (xs : List Vot) : Nat → Vot
  | 0 => ⟨-1, own⟩
  | k + 1 => if (best own xs k).bal < (xs.getD k default).bal then xs.getD k default else best own xs k
def pickC (xs : List Vot) (own : Int) : Int := if 9 < xs.length then 2 else if scanI (pickAt xs) xs.length = 0 then (if inB own 1 2 then 0 else 3) else scanI (pickAt xs) xs.length
def pickV (xs : List Vot) (own : Int) : Int := if pickC xs own = 0 then (best own xs xs.length).val else 0
theorem best_ge (own : Int) (xs : List Vot) : ∀ k, -1 ≤ (best own xs k).bal
  | 0 => by simp [best]
  | k + 1 => by
    have := best_ge own xs k
    unfold best
    split <;> omega
theorem best_no (own : Int) (xs : List Vot) : ∀ k, (best own xs k).bal < 0 → best own xs k = ⟨-1, own⟩
  | 0, _ => rfl
  | k + 1, h => by
    unfold best at h ⊢
    split at h
    · have := best_ge own xs k
      omega
    · rename_i h1
      rw [if_neg h1]
      exact best_no own xs k h
theorem best_two (a b : Int) (xs : List Vot) : ∀ k, (best a xs k).bal = (best b xs k).bal ∧ (0 ≤ (best a xs k).bal → best a xs k = best b xs k)
  | 0 => ⟨rfl, fun h => by simp [best] at h⟩
  | k + 1 => by
    obtain ⟨h1, h2⟩ := best_two a b xs k
    unfold best
    rw [← h1]
    by_cases h : (best a xs k).bal < (xs.getD k default).bal
    · rw [if_pos h, if_pos h]
      exact ⟨rfl, fun _ => rfl⟩
    · rw [if_neg h, if_neg h]
      exact ⟨h1, h2⟩
theorem best_pick (own : Int) (xs : List Vot) (k : Nat) : (best own xs k).val = if (best 0 xs k).bal < 0 then own else (best 0 xs k).val := by
  obtain ⟨h1, h2⟩ := best_two own 0 xs k
  split
  · rename_i h
    rw [best_no own xs k (by omega)]
  · rename_i h
    rw [h2 (by omega)]
theorem pickC_many {xs : List Vot} {own : Int} (h : 9 < xs.length) : pickC xs own = 2 := by unfold pickC; rw [if_pos h]
theorem pickC_hit {xs : List Vot} {own : Int} {k : Nat} (h9 : xs.length ≤ 9) (hk : k < xs.length) (hs : scanI (pickAt xs) k = 0) (h1 : isNo (xs.getD k default) = false) (h2 : votB (xs.getD k default) = false) : pickC xs own = 3 := by
  have hc : pickAt xs k = 3 := by unfold pickAt; rw [h1, h2]; rfl
  have e := scanI_hit hs (by rw [hc]; omega) _ hk
  unfold pickC
  rw [if_neg (by omega), e, hc, if_neg (by omega)]
theorem pickAt_ok {xs : List Vot} {k : Nat} (h : isNo (xs.getD k default) = true ∨ votB (xs.getD k default) = true) : pickAt xs k = 0 := by
  unfold pickAt
  rcases h with h | h <;> rw [h] <;> simp
theorem pickC_own {xs : List Vot} {own : Int} (h9 : xs.length ≤ 9) (hs : scanI (pickAt xs) xs.length = 0) : pickC xs own = if inB own 1 2 then 0 else 3 := by
  unfold pickC
  rw [if_neg (by omega), if_pos hs]
theorem pickV_of {xs : List Vot} {own c : Int} (h : pickC xs own = c) (hc : c ≠ 0) : pickV xs own = 0 := by unfold pickV; rw [h, if_neg hc]
end Go.Proofs.Ytgibggjmliddlaa


import Derived.Test.YtbdbjdnebmaimaaPrnAgreeSlotsLaw9
import Derived.BigQuiet
import Derived.Deep.QuietTactic
import Derived.Test.YtbdbjdnebmaimaaPrnAgreeSlotsLaw4
import Derived.Maps.OwnSet
import Derived.DeepKeys4
import Derived.WideKeyEntry
import Derived.Test.YtbdbjdnebmaimaaPrnAgreeSlotsLaw6
import Derived.Shelf.SlSortCmp.WholeK

/-
  AgreeSlots, the specification's.
-/
set_option linter.unusedSimpArgs false
set_option linter.unusedVariables false
namespace Go.Proofs.Ytbdbjdnebmaimaa
open Go.RowKit
set_option linter.unusedSectionVars false
variable [DecidableEq Vot] [Inhabited Vot] [DecidableEq Slt] [Inhabited Slt] [DecidableEq SltR] [Inhabited SltR] [DecidableEq Bal] [Inhabited Bal] [DecidableEq Ledg] [Inhabited Ledg] [DecidableEq Leg] [Inhabited Leg]
attribute [local go_sem ↓] Go.wp_at_zero Go.wp_at_succ

set_option maxHeartbeats 2000000 in
theorem specAgree_any (x : Value) (D : List Slt) (ys : List Vot) (w : World) (hx : sltsR.V w x D) (hys : askF D = 0 → Chs D ys) :
    Calls Try.prog 38 #[x] w fun e w' => e = .returned (.bool (agB D ys)) ∧ Below w.heap.size w w' := by
  obtain ⟨ax, cx, rfl⟩ := slts_form hx
  have HX : Hid (∀ W, Below w.heap.size w W → sltsR.V W (.slice ax D.length cx) D) := fun W h => sltsR.below hx h
  clear hx
  generalize D.length = n at *
  go_enter Try.func38, Try.ntmps38
  go_wp2_with fail
  refine (l8Asked_any _ D _ (HX.out _ (by (repeat (first | exact Below.refl _ _ | assumption | refine Below.drew ?_ | refine balloc ?_ _ | refine bset ?_ (by simp; omega) _ | refine bset ?_ (by simp) _ | refine bstep ?_ (by assumption)))))).mono ?_
  rintro e w1 ⟨rfl, hb1⟩
  have hB1 : Below w.heap.size w w1 := bstep (by (repeat (first | exact Below.refl _ _ | assumption | refine Below.drew ?_ | refine balloc ?_ _ | refine bset ?_ (by simp; omega) _ | refine bset ?_ (by simp) _ | refine bstep ?_ (by assumption)))) hb1
  clear hb1
  by_cases hf : askF D = 0
  · have HF : Hid (askF D = 0) := hf
    have hC := fun W h => l8Chosen_any _ D W (HX.out W h) hf
    rw [hf]
    clear hf
    go_wp2_with fail
    refine (hC _ hB1).mono ?_
    rintro e w2 ⟨v, zs, rfl, hV, hZ, hb2⟩
    obtain rfl := chs_unique (hys HF.out) hZ
    have hB2 : Below w.heap.size w w2 := bstep hB1 hb2
    clear hC hb2 hB1 hys hZ
    have HAg : Hid (agB D ys = true ↔ ∀ k, k < ys.length → (ys.getD k default).val = (ys.getD 0 default).val) := agB_iff HF.out
    obtain ⟨av, cv, rfl, hcv, hmv, hel⟩ := hV
    unfold maxLen at hmv
    obtain ⟨m, hm⟩ : ∃ m, m = ys.length := ⟨_, rfl⟩
    rw [← hm] at hcv hel HAg ⊢
    clear hm
    go_wp2
    go_loopw [4] (fun i w' => ∃ k : Nat, k ≤ m ∧ i = .int .i64 k ∧ (∀ t, t < k → (ys.getD t default).val = (ys.getD 0 default).val) ∧ Below w2.heap.size w2 w') (fun i _ => m - (intOf i).toNat)
    case atStart => exact ⟨0, Nat.zero_le _, rfl, fun t h => absurd h (Nat.not_lt_zero _), Below.refl _ _⟩
    case round =>
      obtain ⟨k, hk, rfl, hA, hbl⟩ := hrel
      have HA : Hid (∀ t, t < k → (ys.getD t default).val = (ys.getD 0 default).val) := hA
      clear hA
      by_cases hlt : k < m
      · obtain ⟨b0, o0, rfl, z0⟩ := hel 0 (by omega)
        obtain ⟨bk, ok, ek, gk⟩ := hel k hlt
        simp only [Option.some.injEq, Addr.mk.injEq, and_true] at ek
        obtain ⟨rfl, rfl⟩ := ek
        obtain ⟨z0, z1⟩ := votCells_below hbl z0
        obtain ⟨g0, g1⟩ := votCells_below hbl gk
        simp only [Nat.zero_mul, Nat.add_zero] at z0 z1
        have i0 : (0 : Int) < (m : Int) := by omega
        have i1 : (k : Int) < (m : Int) := by omega
        have zb : b0 < wr.heap.size := World.block_lt_of_cell? wr _ z0
        obtain ⟨f, hf⟩ : ∃ f, f = ys.getD 0 default := ⟨_, rfl⟩
        obtain ⟨v, hv⟩ : ∃ v, v = ys.getD k default := ⟨_, rfl⟩
        rw [← hf] at z0 z1
        rw [← hv] at g0 g1
        have HFv : Hid (ys.getD 0 default = f ∧ ys.getD k default = v) := ⟨hf.symm, hv.symm⟩
        clear hf hv gk hel
        by_cases hh : v.val = f.val
        · have hn : (v.val != f.val) = false := by simp [hh]
          have HH : Hid (v.val = f.val) := hh
          clear hh
          go_wp2
          go_quiet (fail)
          go_wp2
          refine ⟨⟨k + 1, by omega, by go_num, fun t ht => ?_, bdrewN hbl _⟩, by simp [intOf]; omega⟩
          by_cases h : t < k
          · exact HA.out t h
          · have : t = k := by omega
            subst this
            rw [HFv.out.1, HFv.out.2]
            exact HH.out
        · have hn : (v.val != f.val) = true := by simp [hh]
          have HE : Hid (agB D ys = false) := by
            show _ = _
            cases e : agB D ys with
            | false => rfl
            | true =>
              have := HAg.out.1 e k hlt
              rw [HFv.out.1, HFv.out.2] at this
              exact absurd this hh
          clear hh
          go_wp2
          go_quiet (fail)
          go_wp2
          go_ret
          exact ⟨by rw [HE.out]; rfl, bdrewN (bstep hB2 hbl) _⟩
      · have hkn : k = m := by omega
        subst hkn
        have HE : Hid (agB D ys = true) := HAg.out.2 HA.out
        clear hel
        go_wp2
        go_ret
        exact ⟨by rw [HE.out]; rfl, bstep hB2 hbl⟩
  · have HE : Hid (agB D ys = false) := by show _ = _; unfold agB; rw [decide_eq_false hf]; rfl
    obtain ⟨c, hc⟩ : ∃ c, c = askF D := ⟨_, rfl⟩
    rw [← hc] at hf ⊢
    clear hc hys
    go_wp2
    go_ret
    exact ⟨by rw [HE.out]; rfl, hB1⟩
end Go.Proofs.Ytbdbjdnebmaimaa

/-
  A map whose keys are votes: what it holds, vote by vote; looked up, an entry taken, stored.
-/
set_option linter.unusedVariables false
set_option linter.unusedSimpArgs false
namespace Go.Proofs.Ytbdbjdnebmaimaa
open Go.RowKit Go.Maps Go.WideElems Go.ChangeMaps
set_option linter.unusedSectionVars false
variable [DecidableEq Vot] [Inhabited Vot] [DecidableEq Slt] [Inhabited Slt] [DecidableEq SltR] [Inhabited SltR] [DecidableEq Bal] [Inhabited Bal] [DecidableEq Ledg] [Inhabited Ledg] [DecidableEq Leg] [Inhabited Leg]
open Go.WideMaps (KeyLaw)

def vv (x : Vot) : Value := .agg #[.int .i64 x.bal, .int .i64 x.val]
def vwf (x : Vot) : Prop := (Lit.int .i64 x.bal).wf = true ∧ (Lit.int .i64 x.val).wf = true
theorem wfv {n : Int} (h0 : -9223372036854775808 ≤ n) (h1 : n ≤ 9223372036854775807) : (Lit.int .i64 n).wf = true := by
  simp [Lit.wf, IntKind.min, IntKind.max, IntKind.signed, IntKind.bits]
  omega
theorem vwf_ok {x : Vot} (h : votB x = true) : vwf x := by
  have := votB_iff.1 h
  exact ⟨wfv (by omega) (by omega), wfv (by omega) (by omega)⟩
set_option maxRecDepth 20000 in
theorem votWide : (match Try.prog.underlying 47 with | some (.array _ _) | some (.struct _) => true | _ => false) = true := by rw [Try.underlying47]
set_option maxRecDepth 100000 in
theorem votK : KeyLaw Try.prog 47 := deep_law_laid laidOut (m := 2) (by omega) (of_decide_eq_true (by kernel_rfl)) (by kernel_rfl) votWide
theorem votLaw : Keyed Try.prog 47 := Keyed.of_law votK
theorem votCellsN : Try.prog.cellsOf 47 = 2 := by kernel_rfl
theorem votType : Try.prog.keyType 47 = true := by kernel_rfl
theorem votDepth : ∃ d, Try.prog.types.size + 1 = d + 1 + 1 := ⟨Try.prog.types.size - 1, by have h : 0 < Try.prog.types.size := of_decide_eq_true (by kernel_rfl); omega⟩
theorem numLits (d : Nat) (n : Int) (h : (Lit.int .i64 n).wf = true) : Try.prog.keyLits (d + 1) 2 [.int .i64 n] = some [.int .i64 n] := by
  unfold Program.keyLits
  rw [Try.underlying2]
  simp [h]
set_option maxRecDepth 20000 in
theorem keyOf_vv {x : Vot} (h : vwf x) : ∃ kl, keyOf Try.prog 47 (vv x) = some kl := by
  obtain ⟨d, hd⟩ := votDepth
  obtain ⟨h0, h1⟩ := h
  have hc : Try.prog.cellsOf 2 = 1 := by kernel_rfl
  have hf : (vv x).formed Try.prog 47 = true := by simp [vv, Value.formed, Try.underlying47, votCellsN]
  have hl : Try.prog.keyLits (Try.prog.types.size + 1) 47 (vv x).cells.toList = some [.int .i64 x.bal, .int .i64 x.val] := by
    rw [hd]
    unfold Program.keyLits
    rw [Try.underlying47]
    simp [vv, Value.cells, votCellsN, hc, numLits d x.bal h0, numLits d x.val h1]
  unfold keyOf
  rw [Try.underlying47]
  dsimp only
  rw [if_pos (by rw [votType, hf]; rfl), hl]
  exact ⟨_, rfl⟩
set_option maxRecDepth 20000 in
theorem numLits_inv {d : Nat} {c : Value} {l : List Lit} (h : Try.prog.keyLits (d + 1) 2 [c] = some l) : ∃ n, c = .int .i64 n ∧ (Lit.int .i64 n).wf = true := by
  unfold Program.keyLits at h
  rw [Try.underlying2] at h
  cases c <;> simp at h
  obtain ⟨⟨rfl, hw⟩, _⟩ := h
  exact ⟨_, rfl, hw⟩
set_option maxRecDepth 20000 in
theorem vv_of_key {v : Value} {kl : Lit} (h : keyOf Try.prog 47 v = some kl) : ∃ x, v = vv x ∧ vwf x := by
  obtain ⟨xs, L, rfl, hl, _⟩ := keyOf_top votWide h
  obtain ⟨d, hd⟩ := votDepth
  have hc : Try.prog.cellsOf 2 = 1 := by kernel_rfl
  rw [hd] at hl
  unfold Program.keyLits at hl
  rw [Try.underlying47] at hl
  simp only [votCellsN, hc] at hl
  split at hl
  · rename_i h3
    obtain ⟨l⟩ := xs
    match l, h3.1 with
    | [c0, c1], _ =>
      simp [hc] at hl
      cases e0 : Try.prog.keyLits (d + 1) 2 [c0] with
      | none => simp [e0] at hl
      | some l0 =>
        cases e1 : Try.prog.keyLits (d + 1) 2 [c1] with
        | none => simp [e0, e1] at hl
        | some l1 =>
          obtain ⟨n0, rfl, w0⟩ := numLits_inv e0
          obtain ⟨n1, rfl, w1⟩ := numLits_inv e1
          exact ⟨⟨n0, n1⟩, rfl, w0, w1⟩
  · cases hl
theorem vv_inj {x y : Vot} (h : vv x = vv y) : x = y := by
  obtain ⟨a, b⟩ := x
  obtain ⟨c, d⟩ := y
  simpa [vv] using h
def Bkv (w : World) (b n : Nat) (f : Vot → Option Int) : Prop :=
  ∃ D : DataW Unit, w.ownsMap Try.prog 47 (plainElem Try.prog 2) b n D ∧
    ∀ x kl, keyOf Try.prog 47 (vv x) = some kl → Maps.has D kl = (f x).isSome ∧ D.atKey kl (.lit (.int .i64 0)) = .lit (.int .i64 ((f x).getD 0))
def updV1 (f : Vot → Option Int) (x : Vot) (v : Option Int) : Vot → Option Int := fun y => if decide (y.bal = x.bal) && decide (y.val = x.val) then v else f y
theorem updV1_at (f : Vot → Option Int) (x : Vot) (v : Option Int) : updV1 f x v x = v := by unfold updV1; rw [if_pos (vot_eq.2 rfl)]
theorem updV1_ne (f : Vot → Option Int) {x y : Vot} (v : Option Int) (h : ¬ y = x) : updV1 f x v y = f y := by unfold updV1; rw [if_neg (fun e => h (vot_eq.1 e))]
theorem bkv_made (w : World) : Bkv (w.alloc (.map #[] 0)) w.heap.size 0 (fun _ => none) :=
  ⟨_, World.ownsMap_made w _ _ _, fun _ _ _ => ⟨rfl, rfl⟩⟩
theorem Bkv.lt {w : World} {b n : Nat} {f : Vot → Option Int} (h : Bkv w b n f) : b < w.heap.size := by
  obtain ⟨D, hD, _⟩ := h; exact hD.lt
theorem Bkv.kept {w w' : World} {b n : Nat} {f : Vot → Option Int} {row : Option Nat} (h : Bkv w b n f) (hg : w.grownBy w' row) (hne : some b ≠ row) : Bkv w' b n f := by
  obtain ⟨D, hD, h1⟩ := h; exact ⟨D, hD.kept hg hne, h1⟩
theorem Bkv.below {w w' : World} {b n : Nat} {f : Vot → Option Int} (h : Bkv w b n f) (hb : Below w.heap.size w w') : Bkv w' b n f := h.kept (grown_of_below hb) (by simp)
theorem Bkv.mono {w : World} {b n n' : Nat} {f : Vot → Option Int} (h : Bkv w b n f) (hn : n ≤ n') : Bkv w b n' f := by
  obtain ⟨D, hD, h1⟩ := h; exact ⟨D, hD.mono hn, h1⟩
theorem zeroV64 (w : World) : (zeroValue 2).run Try.prog w = .ok (.int .i64 0) w := by kernel_rfl
theorem Bkv.look {w : World} {b n : Nat} {f : Vot → Option Int} (h : Bkv w b n f) {x : Vot} (hw : vwf x) :
    (Instr.lookup 124 (.map (some b)) (vv x) false).run Try.prog w = .ok (.int .i64 ((f x).getD 0)) w ∧ (Lit.int .i64 ((f x).getD 0)).wf = true := by
  obtain ⟨D, hD, h1⟩ := h
  obtain ⟨kl, hk⟩ := keyOf_vv hw
  obtain ⟨c, hrun, hat, hwc⟩ := hD.lookup_int votLaw Try.underlying124 Try.underlying2 (zeroV64 w) hk
  have := (h1 x kl hk).2
  rw [hat] at this
  simp at this
  rw [← this]
  exact ⟨hrun, hwc⟩
theorem Bkv.put {w : World} {b n : Nat} {f : Vot → Option Int} (h : Bkv w b n f) {x : Vot} {v : Int} (hw : vwf x) (hv : (Lit.int .i64 v).wf = true) (hn : n < maxLen) :
    ∃ w', (Instr.mapUpdate 124 (.map (some b)) (vv x) (.int .i64 v)).run Try.prog w = .ok () w' ∧ Bkv w' b (n + 1) (updV1 f x (some v)) ∧ w.grownBy w' (some b) := by
  obtain ⟨D, hD, h1⟩ := h
  obtain ⟨kl, hk⟩ := keyOf_vv hw
  obtain ⟨w', hrun, hD', hg⟩ := hD.update votLaw Try.underlying124 hn hk (plainElem_int Try.underlying2 hv)
  refine ⟨w', hrun, ⟨_, hD', fun y kl' hk' => ?_⟩, hg⟩
  by_cases e : kl' = kl
  · subst e
    have e' := vv_inj (votLaw.inj hk' hk)
    subst e'
    rw [updV1_at]
    exact ⟨has_put_same hD.isMap (votLaw.key hk) _, atKey_put_same hD.isMap (votLaw.key hk) _ _⟩
  · rw [updV1_ne _ _ (by
      rintro rfl
      rw [hk] at hk'
      exact e (by simpa using hk'.symm)), has_put_other e, atKey_put_other e]
    exact h1 y kl' hk'
theorem setBlk_twice (w : World) (b : Nat) (x y : Obj) : setBlock (setBlock w b x) b y = setBlock w b y := by
  unfold setBlock
  simp
theorem setBlk_mod (w : World) (b : Nat) (x : Obj) : Mod (fun i => i = b) w (setBlock w b x) := by
  refine ⟨rfl, rfl, rfl, ?_, fun i hi hn => ?_⟩
  · simp [setBlock]
  · simp only [setBlock]
    rw [Array.getElem?_setIfInBounds, if_neg (fun e => hn e.symm)]
theorem Bkv.entry {w : World} {b n : Nat} {f : Vot → Option Int} (h : Bkv w b n f) {x : Vot} (hw : vwf x) (hn : n < maxLen) :
    ∃ v0 st w1, (Instr.mapEntry 124 (.map (some b)) (vv x)).run Try.prog w = .ok (.tuple #[v0, goInt st]) w1 ∧ Mod (fun i => i = b) w w1 ∧
      ∀ v, (Lit.int .i64 v).wf = true → ∃ w', (Instr.entryStore 124 (.map (some b)) (goInt st) (.int .i64 v)).run Try.prog w1 = .ok () w' ∧ Bkv w' b (n + 1) (updV1 f x (some v)) ∧ Mod (fun i => i = b) w w' := by
  have hB := h
  have hlt := h.lt
  obtain ⟨D, ⟨es, clock, hb, Ft, hs, hD⟩, h1⟩ := h
  obtain ⟨kl, hk⟩ := keyOf_vv hw
  obtain ⟨v0, st, es1, clock1, hr, _, hst⟩ := entry_then_store votK Try.underlying124 (fun u => zeroV64 u) hb Ft hk
  refine ⟨v0, st, _, hr, setBlk_mod _ _ _, fun v hv => ?_⟩
  obtain ⟨es', clock', hr2, hr3⟩ := hst (setBlock w b (.map es1 clock1)) (.int .i64 v) (by simp [setBlock, hlt])
  obtain ⟨w', hp, hB', _⟩ := hB.put hw hv hn
  rw [hr3] at hp
  have e : setBlock w b (.map es' clock') = w' := by
    injection hp
  refine ⟨_, hr2, ?_, ?_⟩
  · rw [setBlk_twice, e]
    exact hB'
  · rw [setBlk_twice]
    exact setBlk_mod _ _ _
theorem entry_as2 {H : Type} {P : Program} {w : World} {t k e : TypeId} {R : Value → Option (DataW H × List MemPlace)} {b : Nat} {es : Array MapEntry} {clock : Nat} (K : KeyLaw P k) (ht : P.underlying t = some (.map k e)) {z : Value} (hz : ∀ u : World, (zeroValue e).run P u = .ok z u) (hb : w.heap[b]? = some (.map es clock)) (F : Fit P k R es clock)
    {key : Value} {kl : Lit} (hkey : keyOf P k key = some kl) :
    ∃ (v0 : Value) (st : Nat) (X : World), (Instr.mapEntry t (.map (some b)) key).run P w = .ok (.tuple #[v0, goInt st]) X ∧ (Instr.mapUpdate t (.map (some b)) key v0).run P w = .ok () X ∧ (Instr.lookup t (.map (some b)) key false).run P w = .ok v0 w := by
  rcases K.find w hkey es.toList F.keys with ⟨h1, h2⟩ | ⟨j, e0, h1, h2, h3⟩
  · refine ⟨z, clock, setBlock w b (.map (es.push ⟨key, z, clock⟩) (clock + 1)), ?_, ?_, ?_⟩
    · simp [Instr.mapEntry, run_underlying ht, MapKept.run_getObj_map hb, K.check w false hkey, h1, hz, MapKept.run_setObj_map _ hb, Result.andThen, setBlock]
    · simp [Instr.mapUpdate, run_underlying ht, MapKept.run_getObj_map hb, K.check w false hkey, h1, MapKept.run_setObj_map _ hb, Result.andThen, setBlock]
    · simp [Instr.lookup, run_underlying ht, MapKept.run_getObj_map hb, K.check w _ hkey, h1, hz, Result.andThen]
  · have hj : es[j]? = some e0 := by simpa using h2
    have hA : es.modify j (fun e => { e with key := key }) = es := by
      apply Array.ext'
      rw [Array.toList_modify, modify_eq_set _ _ _ _ h2]
      have q : ({ e0 with key := key } : MapEntry) = e0 := by rw [← h3]
      rw [q]
      exact set_self _ _ _ h2
    have hB : es.modify j (fun e' => { e' with key := key, val := e0.val }) = es := by
      apply Array.ext'
      rw [Array.toList_modify, modify_eq_set _ _ _ _ h2]
      have q : ({ e0 with key := key, val := e0.val } : MapEntry) = e0 := by rw [← h3]
      rw [q]
      exact set_self _ _ _ h2
    refine ⟨e0.val, e0.born, setBlock w b (.map es clock), ?_, ?_, ?_⟩
    · simp [Instr.mapEntry, run_underlying ht, MapKept.run_getObj_map hb, K.check w false hkey, h1, hj, h3, K.stays w hkey, hA, MapKept.run_setObj_map _ hb, Result.andThen, setBlock]
    · simp [Instr.mapUpdate, run_underlying ht, MapKept.run_getObj_map hb, K.check w false hkey, h1, hj, h3, K.stays w hkey, hB, MapKept.run_setObj_map _ hb, Result.andThen, setBlock]
    · simp [Instr.lookup, run_underlying ht, MapKept.run_getObj_map hb, K.check w _ hkey, h1, hj, Result.andThen]
theorem Bkv.entry2 {w : World} {b n : Nat} {f : Vot → Option Int} (h : Bkv w b n f) {x : Vot} (hw : vwf x) (hn : n < maxLen) :
    ∃ v0 st w1, (Instr.mapEntry 124 (.map (some b)) (vv x)).run Try.prog w = .ok (.tuple #[v0, goInt st]) w1 ∧ Mod (fun i => i = b) w w1 ∧ Bkv w1 b (n + 1) (updV1 f x (some ((f x).getD 0))) ∧
      ∀ v, (Lit.int .i64 v).wf = true → ∃ w', (Instr.entryStore 124 (.map (some b)) (goInt st) (.int .i64 v)).run Try.prog w1 = .ok () w' ∧ Bkv w' b (n + 1) (updV1 f x (some v)) ∧ Mod (fun i => i = b) w w' := by
  obtain ⟨v0, st, w1, h1, h2, h3⟩ := h.entry hw hn
  refine ⟨v0, st, w1, h1, h2, ?_, h3⟩
  obtain ⟨hl, hlw⟩ := h.look hw
  have hB := h
  obtain ⟨D, ⟨es, clock, hb, Ft, hs, hD⟩, _⟩ := h
  obtain ⟨kl, hk⟩ := keyOf_vv hw
  obtain ⟨u0, st', X, e1, e2, e3⟩ := entry_as2 votK Try.underlying124 (fun u => zeroV64 u) hb Ft hk
  rw [h1] at e1
  rw [hl] at e3
  injection e1 with _ eX
  injection e3 with eV _
  obtain ⟨w', hp, hB', _⟩ := hB.put hw hlw hn
  rw [← eV] at e2
  rw [e2] at hp
  injection hp with _ eW
  rw [eX, eW]
  exact hB'
end Go.Proofs.Ytbdbjdnebmaimaa

/-
  Votes counted in a map: mathematics.
-/
set_option linter.unusedVariables false
set_option linter.unusedSimpArgs false
namespace Go.Proofs.Ytbdbjdnebmaimaa
open Go.RowKit Go.Maps
set_option linter.unusedSectionVars false
variable [DecidableEq Vot] [Inhabited Vot] [DecidableEq Slt] [Inhabited Slt] [DecidableEq SltR] [Inhabited SltR] [DecidableEq Bal] [Inhabited Bal] [DecidableEq Ledg] [Inhabited Ledg] [DecidableEq Leg] [Inhabited Leg]

def hasL (xs : List Vot) (v : Vot) : Bool := xs.any (fun u => decide (u.bal = v.bal) && decide (u.val = v.val))
theorem hasL_iff {xs : List Vot} {v : Vot} : hasL xs v = true ↔ v ∈ xs := by
  unfold hasL
  rw [List.any_eq_true]
  constructor
  · rintro ⟨u, hu, e⟩
    rw [vot_eq] at e
    exact e ▸ hu
  · intro h
    exact ⟨v, h, vot_eq.2 rfl⟩
def cF (D : List Slt) (i k : Nat) (v : Vot) : Nat := cntP (fun t => hasV (D.getD t default) v) i + if hasL ((D.getD i default).cast.take k) v then 1 else 0
def cB (D : List Slt) (i k : Nat) : Vot → Option Int := fun v => if cF D i k v = 0 then none else some (cF D i k v : Int)
theorem cB_get (D : List Slt) (i k : Nat) (v : Vot) : (cB D i k v).getD 0 = (cF D i k v : Int) := by
  unfold cB
  split
  · rename_i h
    rw [h]
    rfl
  · rfl
theorem cB_some (D : List Slt) (i k : Nat) (v : Vot) : (cB D i k v).isSome = true ↔ ¬ cF D i k v = 0 := by
  unfold cB
  split <;> simp_all
theorem cF_zero (D : List Slt) (i : Nat) (v : Vot) : cF D i 0 v = cntP (fun t => hasV (D.getD t default) v) i := by
  unfold cF
  simp [hasL]
theorem cB_start (D : List Slt) : cB D 0 0 = fun _ => none := by
  funext v
  unfold cB
  rw [cF_zero]
  rfl
theorem cF_le (D : List Slt) (i k : Nat) (v : Vot) : cF D i k v ≤ i + 1 := by
  have := cntP_le (fun t => hasV (D.getD t default) v) i
  unfold cF
  split <;> omega
theorem cB_row (D : List Slt) (i : Nat) : cB D i (D.getD i default).cast.length = cB D (i + 1) 0 := by
  funext v
  have e : cF D i (D.getD i default).cast.length v = cF D (i + 1) 0 v := by
    rw [cF_zero]
    unfold cF
    rw [List.take_length]
    rfl
  unfold cB
  rw [e]
theorem take_snocV (xs : List Vot) (k : Nat) (h : k < xs.length) : xs.take (k + 1) = xs.take k ++ [xs.getD k default] := by
  rw [List.take_succ_eq_append_getElem h]
  simp [List.getD, h]
theorem cB_new (D : List Slt) (i k : Nat) (u : Vot) (hk : k < (D.getD i default).cast.length) (hu : (D.getD i default).cast.getD k default = u) (hn : ¬ u ∈ (D.getD i default).cast.take k) : cB D i (k + 1) = updV1 (cB D i k) u (some ((cB D i k u).getD 0 + 1)) := by
  have e : ∀ v, cF D i (k + 1) v = cF D i k v + if v = u then 1 else 0 := by
    intro v
    unfold cF
    rw [take_snocV _ k hk, hu]
    by_cases hv : v = u
    · subst hv
      have h1 : hasL ((D.getD i default).cast.take k ++ [v]) v = true := hasL_iff.2 (by simp)
      have h2 : hasL ((D.getD i default).cast.take k) v = false := by
        cases e : hasL ((D.getD i default).cast.take k) v with
        | false => rfl
        | true => exact absurd (hasL_iff.1 e) hn
      rw [h1, h2]
      simp
    · have h1 : hasL ((D.getD i default).cast.take k ++ [u]) v = hasL ((D.getD i default).cast.take k) v := by
        rw [Bool.eq_iff_iff, hasL_iff, hasL_iff]
        simp [hv]
      rw [h1, if_neg hv]
      omega
  funext v
  by_cases hv : v = u
  · subst hv
    rw [updV1_at, cB_get]
    unfold cB
    rw [e, if_pos rfl, if_neg (by omega)]
    simp
  · rw [updV1_ne _ _ hv]
    unfold cB
    rw [e, if_neg hv, Nat.add_zero]
theorem cB_old (D : List Slt) (i k : Nat) (u : Vot) (hk : k < (D.getD i default).cast.length) (hu : (D.getD i default).cast.getD k default = u) (hn : u ∈ (D.getD i default).cast.take k) : cB D i (k + 1) = cB D i k := by
  funext v
  have e : cF D i (k + 1) v = cF D i k v := by
    unfold cF
    rw [take_snocV _ k hk, hu]
    have h1 : hasL ((D.getD i default).cast.take k ++ [u]) v = hasL ((D.getD i default).cast.take k) v := by
      rw [Bool.eq_iff_iff, hasL_iff, hasL_iff]
      simp only [List.mem_append, List.mem_singleton]
      constructor
      · rintro (h | h)
        · exact h
        · exact h ▸ hn
      · exact fun h => .inl h
    rw [h1]
  unfold cB
  rw [e]
theorem in_take {s : Slt} (h : SltOk s) {p : Nat} (hp : p + 1 < s.cast.length) : s.cast.getD (p + 1) default ∈ s.cast.take (p + 1) ↔ s.cast.getD (p + 1) default = s.cast.getD p default := by
  constructor
  · intro hm
    obtain ⟨j, hj, e⟩ := getD_of_mem hm
    rw [List.length_take] at hj
    have e2 : (s.cast.take (p + 1)).getD j default = s.cast.getD j default := by simp [List.getD, List.getElem?_take, show j < p + 1 by omega]
    rw [e2] at e
    have h1 := slt_order h j (p - j) (by omega)
    have h2 := slt_order h p 1 (by omega)
    rw [show j + (p - j) = p by omega] at h1
    have hb : (s.cast.getD p default).bal = (s.cast.getD (p + 1) default).bal := by rw [e] at h1; omega
    have hv := h2.2 hb
    exact vot_eq.1 (by rw [hb, hv]; simp)
  · intro e
    rw [e, take_snocV _ p (by omega)]
    simp
theorem cB_end (D : List Slt) (v : Vot) : cF D D.length 0 v = cntV D v := cF_zero D D.length v
def leftV (ko : Value → Option Lit) (left : Lit → Bool) (x : Vot) : Bool := match ko (vv x) with | some kl => left kl | none => false
theorem leftV_some {left : Lit → Bool} {x : Vot} {kl : Lit} (h : keyOf Try.prog 47 (vv x) = some kl) : leftV (keyOf Try.prog 47) left x = left kl := by unfold leftV; rw [h]
theorem leftV_strike {left : Lit → Bool} {x y : Vot} {kl : Lit} (hk : keyOf Try.prog 47 (vv x) = some kl) :
    leftV (keyOf Try.prog 47) (fun z => left z && !z.sameKey kl) y = (leftV (keyOf Try.prog 47) left y && !(decide (y.bal = x.bal) && decide (y.val = x.val))) := by
  unfold leftV
  split
  · rename_i kl' hk'
    by_cases e : kl' = kl
    · subst e
      have e' := vv_inj (votLaw.inj hk' hk)
      subst e'
      simp [WideAt.sameKey_self (votLaw.key hk)]
    · have hne : (decide (y.bal = x.bal) && decide (y.val = x.val)) = false := by
        cases h : (decide (y.bal = x.bal) && decide (y.val = x.val)) with
        | false => rfl
        | true =>
          have := vot_eq.1 h
          subst this
          rw [hk] at hk'
          exact absurd (by simpa using hk'.symm) e
      show (left kl' && !kl'.sameKey kl) = _
      simp [Maps.sameKey_ne e, hne]
  · rfl
structure Came (f : Vot → Option Int) (q : Int) (left : Lit → Bool) (xs : List Vot) : Prop where
  nodup : xs.Nodup
  mem : ∀ v, v ∈ xs ↔ (f v).isSome = true ∧ leftV (keyOf Try.prog 47) left v = false ∧ q ≤ (f v).getD 0
theorem came_v0 {f : Vot → Option Int} {q : Int} {D : DataW Unit} (hf : ∀ v, (f v).isSome = true → vwf v) (h : ∀ x kl, keyOf Try.prog 47 (vv x) = some kl → Maps.has D kl = (f x).isSome ∧ D.atKey kl (.lit (.int .i64 0)) = .lit (.int .i64 ((f x).getD 0))) : Came f q (Maps.has D) [] := by
  refine ⟨List.nodup_nil, fun v => ⟨fun h => by simp at h, fun ⟨h1, h2, _⟩ => ?_⟩⟩
  obtain ⟨kl, hk⟩ := keyOf_vv (hf v h1)
  rw [leftV_some hk, (h v kl hk).1, h1] at h2
  cases h2
theorem came_add {f : Vot → Option Int} {q : Int} {left : Lit → Bool} {xs : List Vot} (h : Came f q left xs) {x : Vot} {kl : Lit} (hk : keyOf Try.prog 47 (vv x) = some kl) (hl : left kl = true) (hs : (f x).isSome = true) (hq : q ≤ (f x).getD 0) : Came f q (fun z => left z && !z.sameKey kl) (xs ++ [x]) := by
  have hlx : leftV (keyOf Try.prog 47) left x = true := by rw [leftV_some hk, hl]
  have hx : ¬ x ∈ xs := fun hx => by have := ((h.mem x).1 hx).2.1; rw [hlx] at this; cases this
  refine ⟨?_, fun v => ?_⟩
  · rw [List.nodup_append]
    exact ⟨h.nodup, by simp, fun a ha b hb => by simp at hb; subst hb; rintro rfl; exact hx ha⟩
  · rw [leftV_strike hk, List.mem_append, List.mem_singleton, h.mem]
    by_cases e : v = x
    · subst e
      have : (decide (v.bal = v.bal) && decide (v.val = v.val)) = true := vot_eq.2 rfl
      rw [this]
      simp [hs, hq]
    · have : (decide (v.bal = x.bal) && decide (v.val = x.val)) = false := by
        cases h : (decide (v.bal = x.bal) && decide (v.val = x.val)) with
        | false => rfl
        | true => exact absurd (vot_eq.1 h) e
      rw [this]
      simp [e]
theorem came_pass {f : Vot → Option Int} {q : Int} {left : Lit → Bool} {xs : List Vot} (h : Came f q left xs) {x : Vot} {kl : Lit} (hk : keyOf Try.prog 47 (vv x) = some kl) (hq : ¬ q ≤ (f x).getD 0) : Came f q (fun z => left z && !z.sameKey kl) xs := by
  refine ⟨h.nodup, fun v => ?_⟩
  rw [leftV_strike hk, h.mem]
  by_cases e : v = x
  · subst e
    simp [hq]
  · have : (decide (v.bal = x.bal) && decide (v.val = x.val)) = false := by
      cases h : (decide (v.bal = x.bal) && decide (v.val = x.val)) with
      | false => rfl
      | true => exact absurd (vot_eq.1 h) e
    rw [this]
    simp
theorem came_end8 {f : Vot → Option Int} {q : Int} {left : Lit → Bool} {xs : List Vot} (h : Came f q left xs) (h0 : ∀ kl, left kl = false) (v : Vot) : v ∈ xs ↔ (f v).isSome = true ∧ q ≤ (f v).getD 0 := by
  rw [h.mem]
  have : leftV (keyOf Try.prog 47) left v = false := by
    unfold leftV
    split
    · exact h0 _
    · rfl
  simp [this]
theorem chs_sorted {D : List Slt} (hok : AllOk D) {xs ys : List Vot} (hn : xs.Nodup) (hm : ∀ v, v ∈ xs ↔ isCh D v) (hp : ys.Perm xs) (hs : ys.Pairwise (fun p q => ¬ q.bal < p.bal)) : Chs D ys := by
  have hm' : ∀ v, v ∈ ys ↔ isCh D v := fun v => by rw [hp.mem_iff]; exact hm v
  refine ⟨?_, hm'⟩
  have hnd : ys.Nodup := hp.nodup_iff.2 hn
  unfold Rise
  rw [List.pairwise_iff_getElem] at hs ⊢
  intro i j hi hj hij
  have h1 := hs i j hi hj hij
  have h2 : ¬ ys[i].bal = ys[j].bal := fun e => by
    have := ch_one hok ((hm' _).1 (List.getElem_mem hi)) ((hm' _).1 (List.getElem_mem hj)) e
    exact (List.pairwise_iff_getElem.1 hnd i j hi hj hij) this
  omega
end Go.Proofs.Ytbdbjdnebmaimaa

/-
  slices.SortFunc over votes: what it asks of compareBallots; the sort.
-/
namespace Go.Proofs.Ytbdbjdnebmaimaa
open Go.RowKit Go.Sort Go.Shelf
set_option linter.unusedSectionVars false
variable [DecidableEq Vot] [Inhabited Vot] [DecidableEq Slt] [Inhabited Slt] [DecidableEq SltR] [Inhabited SltR] [DecidableEq Bal] [Inhabited Bal] [DecidableEq Ledg] [Inhabited Ledg] [DecidableEq Leg] [Inhabited Leg]
set_option linter.unusedVariables false
set_option linter.unusedSimpArgs false
attribute [local go_sem ↓] Go.wp_at_zero Go.wp_at_succ

def cmpN (x y : Int) : Int := if x < y then -1 else if y < x then 1 else 0
theorem isNaNnum_any (x : Int) (w : World) :
    Calls Try.prog 160 #[.int .i64 x] w fun e w' => e = .returned (.bool false) ∧ w' = w := by
  go_enter Try.func160, Try.ntmps160
  go_wp2
  go_ret
  exact ⟨rfl, rfl⟩
set_option maxHeartbeats 1000000 in
theorem cmpNum_any (x y : Int) (w : World) :
    Calls Try.prog 146 #[.int .i64 x, .int .i64 y] w fun e w' => e = .returned (.int .i64 (cmpN x y)) ∧ w' = w := by
  go_enter Try.func146, Try.ntmps146
  go_wp2_with (go_at_call 160; refine (isNaNnum_any _ _).mono ?_; rintro e w' ⟨rfl, rfl⟩)
  all_goals (go_ret; refine ⟨?_, rfl⟩; unfold cmpN; (repeat' split) <;> first | rfl | (exfalso; omega))
theorem compareBallots_any (x y : Vot) (w : World) :
    Calls Try.prog 159 #[.agg #[.int .i64 x.bal, .int .i64 x.val], .agg #[.int .i64 y.bal, .int .i64 y.val]] w fun e w' => e = .returned (.int .i64 (cmpN x.bal y.bal)) ∧ w' = (w.alloc (.cells #[.int .i64 x.bal, .int .i64 x.val] 47)).alloc (.cells #[.int .i64 y.bal, .int .i64 y.val] 47) := by
  go_enter Try.func159, Try.ntmps159
  go_wp2_with (go_at_call 146; refine (cmpNum_any _ _ _).mono ?_; rintro e w' ⟨rfl, rfl⟩)
  go_ret
  exact ⟨rfl, rfl⟩
def cfV (x y : Vot) : Int := cmpN x.bal y.bal
theorem ltV_iff (x y : Vot) : ltOf cfV x y = true ↔ x.bal < y.bal := by
  unfold ltOf cfV cmpN
  simp only [decide_eq_true_eq]
  by_cases h : x.bal < y.bal
  · simp [h]
  · by_cases h' : y.bal < x.bal
    · simp [h, h']
    · simp [h, h']
theorem swoV : SWO (ltOf cfV) where
  irrefl x := by
    rw [← Bool.not_eq_true, ltV_iff]
    omega
  trans x y z h1 h2 := by
    rw [ltV_iff] at *
    omega
  ntrans x y z h1 h2 := by
    rw [← Bool.not_eq_true, ltV_iff] at *
    omega
theorem cmpLaysV (blk off size : Nat) (w : World) : CmpLays Try.prog 159 #[] votC 2 cfV blk off size w := by
  intro m os dk _ x y
  refine (compareBallots_any x y _).mono ?_
  rintro e w' ⟨rfl, rfl⟩
  refine ⟨rfl, 0, #[.cells #[.int .i64 x.bal, .int .i64 x.val] 47, .cells #[.int .i64 y.bal, .int .i64 y.val] 47], ?_⟩
  rw [alloc_eq_grow, alloc_eq_grow, grow_grow]
  rfl
theorem votC_oneC (l : Vot) : ∀ u ∈ votC l, u.oneCell' = true := by
  intro u hu
  simp only [votC, List.mem_cons, List.not_mem_nil, or_false] at hu
  rcases hu with rfl | rfl <;> rfl
theorem holds_vots {w : World} {base g cap : Nat} {xs : List Vot} (h : w.ownsRow base 47 2 (.slice (some ⟨g, 0, none⟩) xs.length cap) xs.length (votsC xs)) : HoldsK votC 2 w g 0 xs.toArray := by
  intro j hj
  simp only [size_flatK, List.size_toArray] at hj
  have hd : j / 2 < xs.length := by omega
  refine ⟨?_, h.frozenAt _⟩
  rw [Nat.zero_add, h.cellAt j hj, get_flatK votC 2 xs.toArray j (by simpa using hj)]
  obtain ⟨q0, q1⟩ := get_votsC xs (j / 2) hd
  have e2 : xs.toArray[j / 2]! = xs.getD (j / 2) default := by simp [List.getD, hd]
  rw [e2]
  generalize xs.getD (j / 2) default = x at *
  have hm : j % 2 = 0 ∨ j % 2 = 1 := by omega
  rcases hm with hm | hm
  · rw [show j / 2 * 2 = j by omega] at q0
    rw [q0, hm]
    rfl
  · rw [show j / 2 * 2 + 1 = j by omega] at q1
    rw [q1, hm]
    rfl
theorem sortV_below (w : World) (base g m : Nat) (d : Array Vot) (os : Array Obj) (hg : base ≤ g) (hb : base ≤ w.heap.size) : Go.RowKit.Below base w (sortWorldK votC 2 w g 0 m d os) := by
  refine ⟨rfl, rfl, rfl, ?_, fun i hi => ?_⟩
  · simp [sortWorldK, grow, putRowK, putRow, mapBlock, Sort.ahead]
  · simp only [sortWorldK, grow, putRowK, putRow, mapBlock, Sort.ahead]
    rw [Array.getElem?_append_left (by simp; omega), Array.getElem?_modify]
    rw [if_neg (by omega)]
set_option maxHeartbeats 1000000 in
theorem sortV_any (ρ : Ren) (L : SlLaysF0.n6 Try.prog ρ) (hf : ρ.f 6 = 158) (ht : ρ.t 24 = 47) (xs : List Vot) (g cap base : Nat) (W : World) (ho : W.ownsRow base 47 2 (.slice (some ⟨g, 0, none⟩) xs.length cap) xs.length (votsC xs)) (hbs : base ≤ W.heap.size) (hn : xs.length ≤ 100000) :
    Calls Try.prog 158 #[.slice (some ⟨g, 0, none⟩) xs.length cap, .func (.func 159) #[] #[]] W fun e w' => e = .returned (.tuple #[]) ∧ ∃ ys : List Vot, ys.Perm xs ∧ ys.Pairwise (fun p q => ltOf cfV q p = false) ∧ (∀ i, i < ys.length → votCells w' g (i * 2) (ys.getD i default)) ∧ Go.RowKit.Below base W w' := by
  have eg : ∀ args w, (callFunc 159 args).run Try.prog w = .ok (.enter 159 args) w := enters_of Try.func159 (by kernel_rfl) rfl
  have aE : ∀ w, (isAgg (ρ.t 24)).run Try.prog w = .ok true w := fun w => by rw [ht]; exact Try.isAgg47 w
  have zE : ∀ w, (Go.sizeOf (ρ.t 24)).run Try.prog w = .ok 2 w := fun w => by rw [ht]; exact Try.sizeOf47 w
  have hH := holds_vots ho
  have hg := ho.lt g rfl
  have hcon := AnyQ.slices_SortFunc L 2 aE zE votC (fun _ => rfl) votC_oneC cfV swoV 159 #[] g 0 cap xs.toArray W eg (cmpLaysV g 0 _ W) hH hg.2 (by simp; omega)
  rw [hf] at hcon
  simp only [List.size_toArray] at hcon
  refine hcon.mono ?_
  rintro e w' ⟨rfl, d', n, os, hp, hs, rfl⟩
  obtain ⟨hsz, _, hperm⟩ := hp
  simp only [List.size_toArray] at hsz hperm
  have hP : d'.toList.Perm xs := by
    have e1 : d'.extract 0 xs.length = d' := by rw [← hsz]; simp
    have e2 : xs.toArray.extract 0 xs.length = xs.toArray := by simp
    rw [e1, e2] at hperm
    exact hperm
  have hHo : HoldsK votC 2 (sortWorldK votC 2 W g 0 n d' os) g 0 d' := holdsK_grow (enc := votC) (k := 2) _ os g 0 d' (by simp [putRowK, putRow, mapBlock, Sort.ahead]; exact hg.2) (holdsK_putRowK (enc := votC) (k := 2) (Sort.ahead W n) g 0 xs.toArray d' (holdsK_ahead (enc := votC) (k := 2) W n g 0 _ hH) (by simp [hsz]))
  refine ⟨rfl, d'.toList, hP, ?_, fun i hi => ?_, sortV_below W base g n d' os hg.1 hbs⟩
  · rw [List.pairwise_iff_getElem]
    intro i j hi hj hij
    simp only [Array.length_toList] at hi hj
    have := hs i j (Nat.zero_le _) hij (by omega)
    simpa [hi, hj] using this
  · simp only [Array.length_toList] at hi
    have e : d'.toList.getD i default = d'[i]! := by simp [List.getD, hi]
    rw [e]
    have c0 := (hHo.cell hi (c := 0) (by omega)).1
    have c1 := (hHo.cell hi (c := 1) (by omega)).1
    simp only [Nat.zero_add, Nat.add_zero] at c0 c1
    generalize d'[i]! = x at *
    exact ⟨c0, c1⟩
structure SortsV : Prop where
  some_ : ∀ (xs : List Vot) (g cap base : Nat) (W : World), W.ownsRow base 47 2 (.slice (some ⟨g, 0, none⟩) xs.length cap) xs.length (votsC xs) → base ≤ W.heap.size → xs.length ≤ 100000 →
    Calls Try.prog 158 #[.slice (some ⟨g, 0, none⟩) xs.length cap, .func (.func 159) #[] #[]] W fun e w' => e = .returned (.tuple #[]) ∧ ∃ ys : List Vot, ys.Perm xs ∧ ys.Pairwise (fun p q => ltOf cfV q p = false) ∧ (∀ i, i < ys.length → votCells w' g (i * 2) (ys.getD i default)) ∧ Go.RowKit.Below base W w'
  none_ : ∀ W : World, Calls Try.prog 158 #[.slice none 0 0, .func (.func 159) #[] #[]] W fun e w' => e = .returned (.tuple #[]) ∧ w' = W
end Go.Proofs.Ytbdbjdnebmaimaa


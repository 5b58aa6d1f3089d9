import Derived.Test.YtgjpafalompecaaPrnSettlesLaw2
import Derived.Test.YtgjpafalompecaaPrnSettlesLaw18
import Derived.Test.YtgjpafalompecaaPrnSettlesLaw17
import Derived.Test.YtgjpafalompecaaPrnSettlesLaw12
import Derived.PlainAid
import Derived.Laws.BitsAllLaws
import Derived.Test.YtgjpafalompecaaPrnSettlesLaw1
import Derived.Deep.RegionHeld3
import Derived.Deep.DrawnRows
import Derived.Lib.ConvBytes
import Derived.Test.YtgjpafalompecaaPrnSettlesLaw6
import Derived.Deep.QuietTactic
import Derived.Test.YtgjpafalompecaaPrnSettlesLaw13
import Derived.Test.YtgjpafalompecaaPrnSettlesLaw4
import Derived.Deep.RegionLawGrows

/-
  A region that draws its order, whose operations only make memory (and one last, number t, that may write): whatever the order, what each of them yields stays as it is, and lies in blocks of its own.
-/
namespace Go.Proofs.Ytgjpafalompecaa
open Go.RowKit

def over (a : Act) (ds : List Nat) (y : Nat → Value) : Act := { a with tmps := ds.foldl (fun t s => t.setIfInBounds s (y s)) a.tmps }
theorem fold_put : ∀ (ds : List Nat) (T : Array Value) (y : Nat → Value) (d : Nat) (v : Value), d ∉ ds →
    (ds.foldl (fun t s => t.setIfInBounds s (y s)) T).setIfInBounds d v = ds.foldl (fun t s => t.setIfInBounds s (y s)) (T.setIfInBounds d v)
  | [], _, _, _, _, _ => rfl
  | e :: ds, T, y, d, v, h => by
    have h1 : d ≠ e := fun c => h (by rw [c]; exact List.mem_cons_self)
    have h2 : d ∉ ds := fun c => h (List.mem_cons_of_mem _ c)
    simp only [List.foldl_cons]
    rw [fold_put ds _ y d v h2, Array.setIfInBounds_comm _ _ (Ne.symm h1)]
theorem fold_congr : ∀ (ds : List Nat) (T : Array Value) (y y' : Nat → Value), (∀ s ∈ ds, y s = y' s) →
    ds.foldl (fun t s => t.setIfInBounds s (y s)) T = ds.foldl (fun t s => t.setIfInBounds s (y' s)) T
  | [], _, _, _, _ => rfl
  | e :: ds, T, y, y', h => by
    simp only [List.foldl_cons]
    rw [h e List.mem_cons_self]
    exact fold_congr ds _ y y' (fun s hs => h s (List.mem_cons_of_mem _ hs))
def updV (y : Nat → Value) (d : Nat) (v : Value) : Nat → Value := fun s => if s = d then v else y s
theorem fold_upd : ∀ (ds : List Nat) (T : Array Value) (y : Nat → Value) (d : Nat) (v : Value), d ∈ ds → ds.Nodup →
    (ds.foldl (fun t s => t.setIfInBounds s (y s)) T).setIfInBounds d v = ds.foldl (fun t s => t.setIfInBounds s (updV y d v s)) T
  | [], _, _, _, _, h, _ => absurd h List.not_mem_nil
  | e :: ds, T, y, d, v, h, hn => by
    obtain ⟨h1, h2⟩ := List.nodup_cons.1 hn
    simp only [List.foldl_cons]
    by_cases hd : d = e
    · subst hd
      rw [fold_put ds _ y d v h1, Array.setIfInBounds_setIfInBounds]
      have e1 : updV y d v d = v := if_pos rfl
      rw [e1]
      exact fold_congr ds _ _ _ (fun s hs => (if_neg (fun c : s = d => h1 (c ▸ hs))).symm)
    · have hm : d ∈ ds := (List.mem_cons.1 h).resolve_left hd
      have e1 : updV y d v e = y e := if_neg (fun c => hd c.symm)
      rw [e1]
      exact fold_upd ds _ y d v hm h2
theorem over_put {a : Act} {ds : List Nat} {y : Nat → Value} {d : Nat} {v : Value} (h : d ∈ ds) (hn : ds.Nodup) : (over a ds y).put (some d) v = over a ds (updV y d v) := by
  simp only [over, Act.put]
  rw [fold_upd ds _ y d v h hn]
theorem over_self (a : Act) : ∀ ds : List Nat, over a ds (fun s => a.tmps.getD s undef) = a := by
  intro ds
  have H : ∀ ds : List Nat, ds.foldl (fun t s => t.setIfInBounds s (a.tmps.getD s undef)) a.tmps = a.tmps := by
    intro ds
    induction ds with
    | nil => rfl
    | cons d ds ih =>
      simp only [List.foldl_cons]
      have e : a.tmps.setIfInBounds d (a.tmps.getD d undef) = a.tmps := by
        apply Array.ext_getElem?
        intro i
        rw [Array.getElem?_setIfInBounds]
        split
        · rename_i h
          subst h
          split
          · rename_i h; simp [h]
          · rename_i h; simp [Array.getElem?_eq_none (Nat.le_of_not_lt h)]
        · rfl
      rw [e]
      exact ih
  simp only [over]
  rw [H ds]
theorem inj_fst : ∀ (L : List (Nat × Nat)), (L.map Prod.fst).Nodup → ∀ p ∈ L, ∀ q ∈ L, p.1 = q.1 → p = q
  | [], _, p, hp, _, _, _ => absurd hp List.not_mem_nil
  | a :: L, hn, p, hp, q, hq, h => by
    obtain ⟨h1, h2⟩ := List.nodup_cons.1 hn
    rcases List.mem_cons.1 hp with hp1 | hp1
    · rcases List.mem_cons.1 hq with hq1 | hq1
      · rw [hp1, hq1]
      · exact absurd (by rw [← hp1, h]; exact List.mem_map_of_mem hq1) h1
    · rcases List.mem_cons.1 hq with hq1 | hq1
      · exact absurd (by rw [← hq1, ← h]; exact List.mem_map_of_mem hp1) h1
      · exact inj_fst L h2 p hp1 q hq1 h
theorem inj_snd : ∀ (L : List (Nat × Nat)), (L.map Prod.snd).Nodup → ∀ p ∈ L, ∀ q ∈ L, p.2 = q.2 → p = q
  | [], _, p, hp, _, _, _ => absurd hp List.not_mem_nil
  | a :: L, hn, p, hp, q, hq, h => by
    obtain ⟨h1, h2⟩ := List.nodup_cons.1 hn
    rcases List.mem_cons.1 hp with hp1 | hp1
    · rcases List.mem_cons.1 hq with hq1 | hq1
      · rw [hp1, hq1]
      · exact absurd (by rw [← hp1, h]; exact List.mem_map_of_mem hq1) h1
    · rcases List.mem_cons.1 hq with hq1 | hq1
      · exact absurd (by rw [← hq1, ← h]; exact List.mem_map_of_mem hp1) h1
      · exact inj_snd L h2 p hp1 q hq1 h
theorem filter_less {F F' : Nat × Nat → Bool} : ∀ {L : List (Nat × Nat)}, (L.map Prod.fst).Nodup → ∀ {p : Nat × Nat}, p ∈ L → F p = true → F' p = false → (∀ q ∈ L, q ≠ p → F' q = F q) → (L.filter F).length = (L.filter F').length + 1
  | [], _, _, hp, _, _, _ => absurd hp List.not_mem_nil
  | a :: L, hn, p, hp, h1, h2, h3 => by
    obtain ⟨g1, g2⟩ := List.nodup_cons.1 hn
    by_cases e : a = p
    · subst e
      rw [List.filter_cons_of_pos h1, List.filter_cons_of_neg (by rw [h2]; exact Bool.false_ne_true)]
      have h4 : L.filter F = L.filter F' := List.filter_congr (fun q hq => (h3 q (List.mem_cons_of_mem _ hq) (fun c => g1 (c ▸ List.mem_map_of_mem hq))).symm)
      rw [h4, List.length_cons]
    · have hm : p ∈ L := (List.mem_cons.1 hp).resolve_left (fun c => e c.symm)
      have ih := filter_less g2 hm h1 h2 (fun q hq hne => h3 q (List.mem_cons_of_mem _ hq) hne)
      have ha := h3 a List.mem_cons_self e
      cases hF : F a with
      | true => rw [List.filter_cons_of_pos hF, List.filter_cons_of_pos (by rw [ha, hF]), List.length_cons, List.length_cons, ih]
      | false => rw [List.filter_cons_of_neg (by rw [hF]; exact Bool.false_ne_true), List.filter_cons_of_neg (by rw [ha, hF]; exact Bool.false_ne_true), ih]
section
variable {P : Program} {ops : Array Oper} {Q : Exit → Act → World → Prop} {md : Region.Mode} {S : World → Prop} {t : Nat}

def risesB (md : Region.Mode) (ops : Array Oper) : Bool := (List.range ops.size).all fun i => match ops[i]? with | some o => o.after.all fun e => !Region.binds md e || decide (e.on < i) | none => true
theorem ready_some {listed : Array Bool} (hr : risesB md ops = true) (hs : listed.size = ops.size) : ∀ n i, i < n → i < ops.size → listed.getD i true = false → ∃ j, j ∈ Region.ready md ops listed := by
  intro n
  induction n with
  | zero => intro i h; omega
  | succ n ih =>
    intro i hi hlt hun
    by_cases hex : ∃ k, k < i ∧ listed.getD k true = false
    · obtain ⟨k, hk, hku⟩ := hex
      exact ih k (by omega) (by omega) hku
    · refine ⟨i, mem_ready.2 ⟨hun, ops[i], by simp [hlt], fun e he hb => ?_⟩⟩
      have h1 := List.all_eq_true.1 hr i (List.mem_range.2 hlt)
      simp only [Array.getElem?_eq_getElem hlt] at h1
      have h2 := Array.all_eq_true'.1 h1 e he
      simp only [hb, Bool.not_true, Bool.false_or, decide_eq_true_eq] at h2
      have h3 : ¬ listed.getD e.on true = false := fun c => hex ⟨e.on, h2, c⟩
      have h4 : e.on < listed.size := by omega
      simp [h4] at h3 ⊢
      exact h3
structure Shut (p : Prop) : Prop where
  out : p
def checkS (md : Region.Mode) (ops : Array Oper) (listed : Array Bool) (t f : Nat) (L : List (Nat × Nat)) : Bool :=
  risesB md ops && decide (listed.size = ops.size) && (ops[t]?).isSome && ((List.range ops.size).all fun i => listed.getD i true || decide (i = t) || L.any fun p => decide (p.1 = i)) &&
    !listed.getD t true && (L.all fun p => !listed.getD p.1 true) && decide (L.map Prod.fst).Nodup && decide (L.map Prod.snd).Nodup && (L.all fun p => decide (p.1 ≠ t) && waitsFor md ops t p.1) && decide (f = L.length + 1)
end

end Go.Proofs.Ytgjpafalompecaa

/-
  One more record in a log: the specification's side, and what is told.
-/
namespace Go.Proofs.Ytgjpafalompecaa
open Go.RowKit
set_option linter.unusedSectionVars false
variable [DecidableEq Logg] [Inhabited Logg] [DecidableEq LoggR] [Inhabited LoggR] [DecidableEq BytesR] [Inhabited BytesR] [DecidableEq RecsR] [Inhabited RecsR] [DecidableEq Leg] [Inhabited Leg]
set_option linter.unusedSimpArgs false
attribute [local go_sem ↓] Go.wp_at_zero Go.wp_at_succ

theorem Mod.frozenAt {F : Nat → Prop} {w w' : World} (h : Mod F w w') {a : Addr} (hl : a.block < w.heap.size) (hn : ¬ F a.block) : w'.frozen? a = w.frozen? a := World.frozen?_of_block (h.block a.block hl hn)
end Go.Proofs.Ytgjpafalompecaa

/-
  The specification's draws: a number read off the bytes.
-/
namespace Go.Proofs.Ytgjpafalompecaa
open Go.RowKit
set_option linter.unusedSectionVars false
variable [DecidableEq Logg] [Inhabited Logg] [DecidableEq LoggR] [Inhabited LoggR] [DecidableEq BytesR] [Inhabited BytesR] [DecidableEq RecsR] [Inhabited RecsR] [DecidableEq Leg] [Inhabited Leg]
set_option linter.unusedSimpArgs false
attribute [local go_sem ↓] Go.wp_at_zero Go.wp_at_succ

structure Src (B : Nat) (w : World) (bs : Nat) (a : Option Addr) (k cap : Nat) (t : Nat) : Prop where
  le : B ≤ bs
  lt : bs < w.heap.size
  code : w.cell? ⟨bs, 0, none⟩ = some (.slice a k cap)
  at_ : w.cell? ⟨bs, 1, none⟩ = some (.int .i64 t)
  free : ∀ o, w.frozen? ⟨bs, o, none⟩ = false
  kc : k ≤ cap
  cm : cap ≤ maxLen
  kb : k ≤ 2097152
  byte : ∀ i, i < k → ∃ b o c, a = some ⟨b, o, none⟩ ∧ b < B ∧ (0 : Int) ≤ c ∧ c ≤ 255 ∧ w.cell? ⟨b, o + i, none⟩ = some (.int .u8 c)
theorem Src.mod {B : Nat} {w w' : World} {bs : Nat} {a : Option Addr} {k cap t : Nat} {F : Nat → Prop} (h : Src B w bs a k cap t) (hm : Mod F w w') (hF : ∀ b, F b → bs < b) : Src B w' bs a k cap t := by
  have hb : ¬ F bs := fun e => by have := hF bs e; omega
  refine ⟨h.le, Nat.lt_of_lt_of_le h.lt hm.size, hm.cell h.code hb, hm.cell h.at_ hb, fun o => ?_, h.kc, h.cm, h.kb, fun i hi => ?_⟩
  · rw [hm.frozenAt (a := ⟨bs, o, none⟩) h.lt hb]; exact h.free o
  · obtain ⟨b, o, c, h1, h2, h3, h4, h5⟩ := h.byte i hi
    exact ⟨b, o, c, h1, h2, h3, h4, hm.cell h5 (fun e => by have := hF b e; have := h.le; omega)⟩
theorem Src.below {B : Nat} {w w' : World} {bs : Nat} {a : Option Addr} {k cap t : Nat} (h : Src B w bs a k cap t) (hb : Below w.heap.size w w') : Src B w' bs a k cap t :=
  h.mod (F := fun _ => False) (Mod.of_below hb) (fun _ e => e.elim)
theorem Src.next {B : Nat} {w : World} {bs : Nat} {a : Option Addr} {k cap t : Nat} (h : Src B w bs a k cap t) : Src B (w.setCell ⟨bs, 1, none⟩ (.int .i64 ((t : Int) + 1))) bs a k cap (t + 1) := by
  refine ⟨h.le, by simpa using h.lt, by rw [set_other (by simp)]; exact h.code, by rw [set_same h.at_]; rfl, fun o => by rw [World.frozen?_setCell]; exact h.free o, h.kc, h.cm, h.kb, fun i hi => ?_⟩
  obtain ⟨b, o, c, h1, h2, h3, h4, h5⟩ := h.byte i hi
  exact ⟨b, o, c, h1, h2, h3, h4, by rw [set_other (fun e => by have := h.le; have e' : bs = b := congrArg Addr.block e; omega)]; exact h5⟩
theorem Src.drew' {B : Nat} {w : World} {bs : Nat} {a : Option Addr} {k cap t : Nat} (h : Src B w bs a k cap t) : Src B w.drew bs a k cap t :=
  ⟨h.le, h.lt, h.code, h.at_, h.free, h.kc, h.cm, h.kb, h.byte⟩
theorem wrapI (x : Int) (h0 : -9223372036854775808 ≤ x) (h1 : x ≤ 9223372036854775807) : IntKind.i64.wrap x = x := by rw [IntKind.wrap_i64]; omega
theorem next_mod (w : World) (bs : Nat) (v : Value) : Mod (fun b => b = bs) w (w.setCell ⟨bs, 1, none⟩ v) := Mod.of_set w ⟨bs, 1, none⟩ v
theorem Mod.drew1 {F : Nat → Prop} {w w' : World} (h : Mod F w w') : Mod F w w'.drew := ⟨h.os, h.tape, h.output, h.size, h.block⟩
set_option maxHeartbeats 2000000 in
theorem l1Next_any (B : Nat) (w : World) (bs : Nat) (a : Option Addr) (k cap t : Nat) (n : Int) (h : Src B w bs a k cap t) (ht : t ≤ 100000) (hn1 : 1 ≤ n) (hn2 : n ≤ 100000) :
    Calls Try.prog 38 #[.pointer (some ⟨bs, 0, none⟩), .int .i64 n] w fun e w' => ∃ r : Nat, e = .returned (.int .i64 r) ∧ (r : Int) < n ∧ Src B w' bs a k cap (t + 1) ∧ Mod (fun b => b = bs) w w' := by
  have hc := h.code
  have ha := h.at_
  have hf := h.free
  have hkc := h.kc
  have hcm := h.cm
  have hkb := h.kb
  unfold maxLen at hcm
  have HS : Hid (Src B w bs a k cap t) := h
  have h1 : ¬ n < 1 := by omega
  have hres : ∀ v : Int, 0 ≤ v → ∃ r : Nat, v % n = (r : Int) ∧ (r : Int) < n := fun v hv => by
    refine ⟨(v % n).toNat, ?_, ?_⟩
    · have := Int.emod_nonneg v (b := n) (by omega)
      omega
    · have := Int.emod_nonneg v (b := n) (by omega)
      have := Int.emod_lt_of_pos v (b := n) (by omega)
      omega
  have HR : Hid (∀ v : Int, 0 ≤ v → ∃ r : Nat, v % n = (r : Int) ∧ (r : Int) < n) := hres
  clear h hres
  by_cases hk0 : k = 0
  · subst hk0
    obtain ⟨r, e5, r1⟩ := HR.out ((t : Int) * 7) (by omega)
    have e6 : ((t : Int) * 7).tmod n = (r : Int) := by rw [Int.tmod_eq_emod_of_nonneg (by omega)]; exact e5
    have HE : Hid (((t : Int) * 7) % n = (r : Int)) := e5
    clear e5
    go_enter Try.func38, Try.ntmps38
    go_wp2
    go_ret
    exact ⟨r, by have e := HE.out; first | rfl | (simp [e6]; done) | (simp [e]; done), r1, HS.out.next, next_mod _ _ _⟩
  · have hk : (0 : Int) < (k : Int) := by omega
    obtain ⟨m, hm⟩ : ∃ m, m = t % k := ⟨_, rfl⟩
    obtain ⟨m', hm'⟩ : ∃ m', m' = (t + 1) % k := ⟨_, rfl⟩
    obtain ⟨d, hdv⟩ : ∃ d, d = t / k := ⟨_, rfl⟩
    have hml : m < k := by rw [hm]; exact Nat.mod_lt _ (by omega)
    have hml' : m' < k := by rw [hm']; exact Nat.mod_lt _ (by omega)
    have hdl : d ≤ 100000 := by rw [hdv]; exact Nat.le_trans (Nat.div_le_self _ _) ht
    obtain ⟨b, o, c, rfl, hbB, c0, c1, hcell⟩ := HS.out.byte m hml
    obtain ⟨b', o', c', e', _, c0', c1', hcell'⟩ := HS.out.byte m' hml'
    simp only [Option.some.injEq, Addr.mk.injEq, and_true] at e'
    obtain ⟨rfl, rfl⟩ := e'
    have e1 : (t : Int) % (k : Int) = (m : Int) := by rw [hm]; rfl
    have e2 : (t : Int) / (k : Int) = (d : Int) := by rw [hdv]; rfl
    have e3 : (t : Int).tmod (k : Int) = (m : Int) := by rw [Int.tmod_eq_emod_of_nonneg (by omega)]; exact e1
    have e4 : (t : Int).tdiv (k : Int) = (d : Int) := by rw [Int.tdiv_eq_ediv_of_nonneg (by omega)]; exact e2
    have e7 : ((t : Int) + 1) % (k : Int) = (m' : Int) := by rw [hm']; rfl
    have e8 : ((t : Int) + 1).tmod (k : Int) = (m' : Int) := by rw [Int.tmod_eq_emod_of_nonneg (by omega)]; exact e7
    clear hm hdv hm'
    have hd : ((k : Int) == 0) = false := by simp; omega
    go_enter Try.func38, Try.ntmps38
    have hcW : (w.setCell ⟨bs, 1, none⟩ (.int .i64 (t + 1))).cell? ⟨bs, 0, none⟩ = some (.slice (some ⟨b, o, none⟩) k cap) := by rw [set_other (by simp)]; exact hc
    have hbW : (w.setCell ⟨bs, 1, none⟩ (.int .i64 (t + 1))).cell? ⟨b, o + m, none⟩ = some (.int .u8 c) := by
      rw [set_other (fun e => by have := HS.out.le; have e' : bs = b := congrArg Addr.block e; omega)]; exact hcell
    have hbW' : (w.setCell ⟨bs, 1, none⟩ (.int .i64 (t + 1))).cell? ⟨b, o + m', none⟩ = some (.int .u8 c') := by
      rw [set_other (fun e => by have := HS.out.le; have e' : bs = b := congrArg Addr.block e; omega)]; exact hcell'
    have q2 : (m : Int) < (k : Int) := by omega
    have q2' : (m' : Int) < (k : Int) := by omega
    go_wp2
    go_region_held3 (fun w' => w' = (w.setCell ⟨bs, 1, none⟩ (.int .i64 (t + 1))).drew ∧ w'.cell? ⟨bs, 0, none⟩ = some (.slice (some ⟨b, o, none⟩) k cap) ∧ w'.cell? ⟨b, o + m, none⟩ = some (.int .u8 c)) (exact ⟨rfl, hcW, hbW⟩) (fail)
    rename_i hH
    clear hH
    have hv : IntKind.i64.wrap (IntKind.i64.wrap c + IntKind.i64.wrap (IntKind.i64.wrap d * 37)) = c + d * 37 := by
      rw [wrapI c (by omega) (by omega), wrapI (d : Int) (by omega) (by omega), wrapI ((d : Int) * 37) (by omega) (by omega), wrapI _ (by omega) (by omega)]
    rw [hv]
    obtain ⟨v, hve⟩ : ∃ v, v = c + (d : Int) * 37 := ⟨_, rfl⟩
    have v0 : 0 ≤ v := by omega
    have v1 : v ≤ 4000000 := by omega
    rw [← hve]
    clear hv hve e1 e2 e3 e4
    by_cases h2 : 200 < n
    · have y1 : IntKind.i64.wrap (v * 251) = v * 251 := wrapI _ (by omega) (by omega)
      have y2 : IntKind.i64.wrap ((t : Int) + 1) = t + 1 := wrapI _ (by omega) (by omega)
      have y3 : IntKind.i64.wrap c' = c' := wrapI _ (by omega) (by omega)
      have y4 : IntKind.i64.wrap (c' * 13) = c' * 13 := wrapI _ (by omega) (by omega)
      have y5 : IntKind.i64.wrap (v * 251 + c' * 13) = v * 251 + c' * 13 := wrapI _ (by omega) (by omega)
      have y6 : IntKind.i64.wrap (v * 251 + c' * 13 + t) = v * 251 + c' * 13 + t := wrapI _ (by omega) (by omega)
      obtain ⟨r, e5, r1⟩ := HR.out (v * 251 + c' * 13 + t) (by omega)
      have e6 : (v * 251 + c' * 13 + t).tmod n = (r : Int) := by rw [Int.tmod_eq_emod_of_nonneg (by omega)]; exact e5
      have HE : Hid ((v * 251 + c' * 13 + t) % n = (r : Int)) := e5
      have HE6 : Hid ((v * 251 + c' * 13 + t).tmod n = (r : Int)) := e6
      clear e5 e6
      go_wp2
      go_region_held3 (fun w' => w' = (w.setCell ⟨bs, 1, none⟩ (.int .i64 (t + 1))).drew.drew ∧ w'.cell? ⟨bs, 0, none⟩ = some (.slice (some ⟨b, o, none⟩) k cap) ∧ w'.cell? ⟨b, o + m', none⟩ = some (.int .u8 c')) (exact ⟨rfl, hcW, hbW'⟩) (fail)
      rename_i hH
      clear hH
      obtain ⟨V, hV⟩ : ∃ V, V = v * 251 + c' * 13 + (t : Int) := ⟨_, rfl⟩
      have V0 : 0 ≤ V := by omega
      have HE7 : Hid (V % n = (r : Int)) := by unfold Hid; rw [hV]; exact HE.out
      have HE8 : Hid (V.tmod n = (r : Int)) := by unfold Hid; rw [hV]; exact HE6.out
      first | rw [← hV] | skip
      clear y1 y2 y3 y4 y5 y6 hV
      go_wp2
      go_ret
      exact ⟨r, by have e := HE7.out; have e' := HE8.out; first | rfl | (simp [e']; done) | (simp [e]; done), r1, HS.out.next.drew'.drew', (next_mod _ _ _).drew1.drew1⟩
    · obtain ⟨r, e5, r1⟩ := HR.out v v0
      have e6 : v.tmod n = (r : Int) := by rw [Int.tmod_eq_emod_of_nonneg (by omega)]; exact e5
      have HE : Hid (v % n = (r : Int)) := e5
      clear e5
      go_wp2
      go_ret
      exact ⟨r, by have e := HE.out; first | rfl | (simp [e6]; done) | (simp [e]; done), r1, HS.out.next.drew', (next_mod _ _ _).drew1⟩
end Go.Proofs.Ytgjpafalompecaa

/-
  The specification's draws: one of a list, some bytes, bytes with something turned.
-/
namespace Go.Proofs.Ytgjpafalompecaa
open Go.RowKit
set_option linter.unusedSectionVars false
variable [DecidableEq Logg] [Inhabited Logg] [DecidableEq LoggR] [Inhabited LoggR] [DecidableEq BytesR] [Inhabited BytesR] [DecidableEq RecsR] [Inhabited RecsR] [DecidableEq Leg] [Inhabited Leg]
set_option linter.unusedSimpArgs false
attribute [local go_sem ↓] Go.wp_at_zero Go.wp_at_succ

theorem Mod.trans2 {F G : Nat → Prop} {w w1 w2 : World} (h : Mod F w w1) (k : Mod G w1 w2) (hG : ∀ b, G b → b < w.heap.size → F b) : Mod F w w2 :=
  ⟨k.os.trans h.os, k.tape.trans h.tape, k.output.trans h.output, Nat.le_trans h.size k.size, fun i hi hn => (k.block i (Nat.lt_of_lt_of_le hi h.size) (fun e => hn (hG i e hi))).trans (h.block i hi hn)⟩
theorem Mod.transB {F : Nat → Prop} {w w1 w2 : World} (h : Mod F w w1) (k : Below w1.heap.size w1 w2) : Mod F w w2 := h.trans (Mod.of_below k)
theorem src_new {w : World} {a : Option Addr} {cap : Nat} {xs : List Byte} {T : TypeId} (h : BytesV w (.slice a xs.length cap) xs) (hn : xs.length ≤ 2097152) : Src w.heap.size (w.alloc (.cells #[.slice a xs.length cap, .int .i64 0] T)) w.heap.size a xs.length cap 0 := by
  obtain ⟨a', cap', e, g1, g2, g3⟩ := h
  simp only [Value.slice.injEq, true_and] at e
  obtain ⟨rfl, rfl⟩ := e
  refine ⟨Nat.le_refl _, by simp, by simp [go_sem], by simp [go_sem], fun o => by simp [go_sem], g1, g2, hn, fun i hi => ?_⟩
  obtain ⟨b, o, e, hc⟩ := g3 i hi
  have hl := World.block_lt_of_cell? _ _ hc
  dsimp only at hl
  exact ⟨b, o, _, e, hl, by omega, by have := (xs.getD i 0).isLt; omega, cell_keep (balloc (Below.refl _ _) _) hc⟩
set_option maxHeartbeats 400000 in
theorem l1Source_any (x : Value) (xs : List Byte) (w : World) (hx : BytesV w x xs) (hn : xs.length ≤ 2097152) :
    Calls Try.prog 36 #[x] w fun e w' => ∃ a cap, e = .returned (.pointer (some ⟨w.heap.size, 0, none⟩)) ∧ Src w.heap.size w' w.heap.size a xs.length cap 0 ∧ Below w.heap.size w w' := by
  have hX := hx
  obtain ⟨a, cap, rfl, _⟩ := hx
  go_enter Try.func36, Try.ntmps36
  go_wp2
  go_ret
  exact ⟨a, cap, rfl, src_new hX hn, by (repeat (first | exact Below.refl _ _ | assumption | refine Below.drew ?_ | refine balloc ?_ _ | refine bset ?_ (by simp; omega) _ | refine bset ?_ (by simp) _ | refine bstep ?_ (by assumption)))⟩
set_option maxHeartbeats 1000000 in
theorem l1Pick_any (B : Nat) (w : World) (bs : Nat) (a : Option Addr) (k cap t : Nat) (g c : Nat) (ys : List Int) (h : Src B w bs a k cap t) (ht : t ≤ 100000) (hg : g ≠ bs) (hn1 : 1 ≤ ys.length) (hn2 : ys.length ≤ 200)
    (hy : ∀ i, i < ys.length → w.cell? ⟨g, i, none⟩ = some (.int .i64 (ys.getD i 0))) :
    Calls Try.prog 60 #[.pointer (some ⟨bs, 0, none⟩), .slice (some ⟨g, 0, none⟩) ys.length c] w fun e w' => ∃ r : Int, e = .returned (.int .i64 r) ∧ r ∈ ys ∧ Src B w' bs a k cap (t + 1) ∧ Mod (fun b => b = bs) w w' := by
  have HY : Hid (∀ i, i < ys.length → w.cell? ⟨g, i, none⟩ = some (.int .i64 (ys.getD i 0))) := hy
  clear hy
  go_enter Try.func60, Try.ntmps60
  go_wp2_with fail
  refine (l1Next_any B w bs a k cap t ys.length h ht (by omega) (by omega)).mono ?_
  rintro e w1 ⟨m, rfl, r1, hs1, hm1⟩
  have hm : m < ys.length := by omega
  have hcell := hm1.cell (HY.out m hm) (by simpa using hg)
  obtain ⟨y, hye⟩ : ∃ y, y = ys.getD m 0 := ⟨_, rfl⟩
  rw [← hye] at hcell
  have HE : Hid (y = ys.getD m 0) := hye
  clear hye
  go_wp2
  go_ret
  refine ⟨y, rfl, ?_, hs1, hm1⟩
  rw [HE.out]
  have e : ys.getD m 0 = ys[m] := by simp [List.getD, hm]
  rw [e]
  exact List.getElem_mem hm
set_option maxHeartbeats 400000 in
theorem l1Chance_any (B : Nat) (w : World) (bs : Nat) (a : Option Addr) (k cap t : Nat) (n : Int) (h : Src B w bs a k cap t) (ht : t ≤ 100000) (hn1 : 1 ≤ n) (hn2 : n ≤ 100000) :
    Calls Try.prog 40 #[.pointer (some ⟨bs, 0, none⟩), .int .i64 n] w fun e w' => ∃ r : Bool, e = .returned (.bool r) ∧ Src B w' bs a k cap (t + 1) ∧ Mod (fun b => b = bs) w w' := by
  go_enter Try.func40, Try.ntmps40
  go_wp2_with fail
  refine (l1Next_any B w bs a k cap t n h ht hn1 hn2).mono ?_
  rintro e w1 ⟨m, rfl, r1, hs1, hm1⟩
  go_wp2
  go_ret
  exact ⟨_, rfl, hs1, hm1⟩
end Go.Proofs.Ytgjpafalompecaa


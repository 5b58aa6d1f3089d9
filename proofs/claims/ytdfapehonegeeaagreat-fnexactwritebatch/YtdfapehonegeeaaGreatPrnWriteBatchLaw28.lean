import Derived.Test.YtdfapehonegeeaaGreatPrnWriteBatchLaw27
import Derived.Test.YtdfapehonegeeaaGreatPrnWriteBatchLaw22
import Derived.Test.YtdfapehonegeeaaGreatPrnWriteBatchLaw18
import Derived.Test.YtdfapehonegeeaaGreatPrnWriteBatchLaw19
import Derived.Test.YtdfapehonegeeaaGreatPrnWriteBatchLaw9

/-
  WriteBatch: its answer.
-/
namespace Go.Proofs.YtdfapehonegeeaaGreat
open Go.RowKit
set_option linter.unusedSectionVars false
variable [DecidableEq Wri] [Inhabited Wri] [DecidableEq BytesR] [Inhabited BytesR] [DecidableEq Rw] [Inhabited Rw] [DecidableEq TabR] [Inhabited TabR] [DecidableEq Logg] [Inhabited Logg] [DecidableEq Engn] [Inhabited Engn] [DecidableEq LoggR] [Inhabited LoggR] [DecidableEq RecsR] [Inhabited RecsR] [DecidableEq Leg] [Inhabited Leg] [DecidableEq EngR] [Inhabited EngR]
set_option linter.unusedVariables false
set_option linter.unusedSimpArgs false

def batF (d : Engn) (ws : List Wri) : Int := if engF d ≠ 0 then engF d else if wrF ws ≠ 0 then wrF ws else if d.next = 1000000 then 3 else 0
def batL (d : Engn) (ws : List Wri) : Logg := ⟨d.log.synced, d.log.loose ++ frameB (packB d.next ws)⟩
def batM (d : Engn) (ws : List Wri) : List Rw := putsL d.mem (ws.map (wrRow d.next))
def synL (s : Bool) (l : Logg) : Logg := if s = true then ⟨l.synced ++ l.loose, []⟩ else l
def writeE (d : Engn) (ws : List Wri) (s : Bool) : EngR :=
  if batF d ws ≠ 0 then codeE (batF d ws) else if logF (batL d ws) ≠ 0 then codeE 2 else if 200 < (batM d ws).length then codeE 2 else ⟨0, d.next, ⟨synL s (batL d ws), batM d ws, d.tables, d.next + 1⟩⟩
structure BaOk (d : Engn) (ws : List Wri) : Prop where
  e : engF d = 0
  f : wrF ws = 0
  n : ¬ d.next = 1000000
  b1 : 1 ≤ (packB d.next ws).length
  b5 : (packB d.next ws).length ≤ 500
  w8 : ws.length ≤ 8
  m2 : d.mem.length ≤ 200
  l6 : d.log.synced.length + d.log.loose.length ≤ 6000
  nx : 1 ≤ d.next ∧ d.next ≤ 1000000
  pm : putsL [] d.mem = d.mem
  ap : appD d.log (packB d.next ws) = if logF (batL d ws) = 0 then ⟨0, batL d ws⟩ else codeD 2
  sm : ∀ x ∈ batM d ws, rowFault x = 0
theorem bat_ok {d : Engn} {ws : List Wri} (h : batF d ws = 0) : BaOk d ws := by
  unfold batF at h
  split at h
  · rename_i h1; exact absurd h h1
  rename_i h1
  split at h
  · rename_i h2; exact absurd h h2
  rename_i h2
  split at h
  · cases h
  rename_i h3
  have hE : engF d = 0 := by simpa using h1
  have hF : wrF ws = 0 := by simpa using h2
  obtain ⟨hP, hR, -, -⟩ := engF_inv hE
  obtain ⟨hl, hm, h6, ht⟩ := partsF_inv hP
  obtain ⟨q1, q2, q3, q4⟩ := wrF_inv hF
  have hpl := packB_ver d.next 1 ws
  have hp8 : 8 ≤ (packB d.next ws).length := by
    unfold packB packP
    rw [List.cons_append, List.flatten_cons, List.length_append, length_hiB]
    omega
  have hnx : 1 ≤ d.next ∧ d.next ≤ 1000000 := by
    unfold rangeE at hR
    simp only [Bool.and_eq_true] at hR
    have := hR.1.1
    unfold inR at this
    simp at this
    omega
  have hri := rises_of hm
  refine ⟨hE, hF, h3, by omega, by omega, q2, (tabF_all hm).1, logF_small hl, hnx, ?_, ?_, ?_⟩
  · rw [putsL_of hri d.mem (fun r h => h)]
    exact List.filter_eq_self.2 (fun x hx => decide_eq_true hx)
  · unfold appD
    rw [if_pos hl, if_pos ⟨by omega, by omega⟩]
    rfl
  · intro x hx
    rcases mem_putsL hx with h | h
    · exact tab_small hm x h
    · obtain ⟨y, hy, rfl⟩ := List.mem_map.1 h
      obtain ⟨i, hi, rfl⟩ := List.mem_iff_getElem.1 hy
      have h2 := q3 i hi
      have e : ws.getD i default = ws[i] := by simp [List.getD, hi]
      unfold wrAt at h2
      rw [e] at h2
      split at h2
      · rename_i c; exact absurd h2 c
      · rename_i c
        exact rowFault_ver (by simpa using c) (by unfold inR; simp; omega)
theorem writeE_c {d : Engn} {ws : List Wri} {s : Bool} (h : ¬ batF d ws = 0) : writeE d ws s = codeE (batF d ws) := by unfold writeE; rw [if_pos h]
theorem writeE_l {d : Engn} {ws : List Wri} {s : Bool} (h : batF d ws = 0) (h1 : ¬ logF (batL d ws) = 0) : writeE d ws s = codeE 2 := by unfold writeE; rw [if_neg (by simpa using h), if_pos h1]
theorem writeE_m {d : Engn} {ws : List Wri} {s : Bool} (h : batF d ws = 0) (h1 : logF (batL d ws) = 0) (h2 : 200 < (batM d ws).length) : writeE d ws s = codeE 2 := by unfold writeE; rw [if_neg (by simpa using h), if_neg (by simpa using h1), if_pos h2]
theorem writeE_ok {d : Engn} {ws : List Wri} {s : Bool} (h : batF d ws = 0) (h1 : logF (batL d ws) = 0) (h2 : ¬ 200 < (batM d ws).length) : writeE d ws s = ⟨0, d.next, ⟨synL s (batL d ws), batM d ws, d.tables, d.next + 1⟩⟩ := by unfold writeE; rw [if_neg (by simpa using h), if_neg (by simpa using h1), if_neg h2]
theorem writeE_le (d : Engn) (ws : List Wri) (s : Bool) : wtEngR (writeE d ws s) ≤ 200000 := by
  by_cases h : batF d ws = 0
  · by_cases h1 : logF (batL d ws) = 0
    · by_cases h2 : 200 < (batM d ws).length
      · rw [writeE_m h h1 h2, codeE_le]; omega
      · rw [writeE_ok h h1 h2]
        have hB := bat_ok h
        obtain ⟨hl, hm, h6, ht⟩ := partsF_inv (engF_inv hB.e).1
        have q1 := wt_log h1
        have q2 := wt_small hB.sm
        have q3 := wt_tabs h6 ht
        have q4 : wtLogg (synL s (batL d ws)) = wtLogg (batL d ws) := by
          unfold synL
          split
          · unfold wtLogg wtBytes; simp only [List.length_append, List.length_nil]; omega
          · rfl
        show wtLogg (synL s (batL d ws)) + wtRows (batM d ws) + wtRowss d.tables ≤ 200000
        omega
    · rw [writeE_l h h1, codeE_le]; omega
  · rw [writeE_c h, codeE_le]; omega
end Go.Proofs.YtdfapehonegeeaaGreat

/-
  A batch's code: the program's side.
-/
namespace Go.Proofs.YtdfapehonegeeaaGreat
open Go.RowKit
set_option linter.unusedSectionVars false
variable [DecidableEq Wri] [Inhabited Wri] [DecidableEq BytesR] [Inhabited BytesR] [DecidableEq Rw] [Inhabited Rw] [DecidableEq TabR] [Inhabited TabR] [DecidableEq Logg] [Inhabited Logg] [DecidableEq Engn] [Inhabited Engn] [DecidableEq LoggR] [Inhabited LoggR] [DecidableEq RecsR] [Inhabited RecsR] [DecidableEq Leg] [Inhabited Leg] [DecidableEq EngR] [Inhabited EngR]
set_option linter.unusedVariables false
set_option linter.unusedSimpArgs false
attribute [local go_sem ↓] Go.wp_at_zero Go.wp_at_succ

set_option maxRecDepth 20000 in
set_option maxHeartbeats 2000000 in
theorem batchFault_any (x y : Value) (d : Engn) (ws : List Wri) (w : World) (hx : engnR.V w x d) (hn : wtEngn d ≤ 1048576) (hy : wrisR.V w y ws) :
    Calls Tryz.prog 70 #[x, y] w fun e w' => e = .returned (.int .i64 (batF d ws)) ∧ Below w.heap.size w w' := by
  have HX : Hid (engnR.V w x d) := hx
  have HY : Hid (wrisR.V w y ws) := hy
  obtain ⟨a1, a2, a3, a4, c1, c2, c3, c4, rfl⟩ := engn_form hx
  have HE : Hid (¬ engF d = 0 → batF d ws = engF d) := fun h => by unfold batF; rw [if_pos h]
  have HW : Hid (engF d = 0 → ¬ wrF ws = 0 → batF d ws = wrF ws) := fun h h1 => by unfold batF; rw [if_neg (by simpa using h), if_pos h1]
  have HN : Hid (engF d = 0 → wrF ws = 0 → d.next = 1000000 → batF d ws = 3) := fun h h1 h2 => by unfold batF; rw [if_neg (by simpa using h), if_neg (by simpa using h1), if_pos h2]
  have H0 : Hid (engF d = 0 → wrF ws = 0 → ¬ d.next = 1000000 → batF d ws = 0) := fun h h1 h2 => by unfold batF; rw [if_neg (by simpa using h), if_neg (by simpa using h1), if_neg h2]
  clear hx hy
  go_enter Tryz.func70, Tryz.ntmps70
  go_wp2_with fail
  refine (implEngF_any _ d _ (engnR.below HX.out (by (repeat (first | exact Below.refl _ _ | assumption | refine Below.drew ?_ | refine balloc ?_ _ | refine bset ?_ (by simp; omega) _ | refine bset ?_ (by simp) _ | refine bstep ?_ (by assumption))))) hn).mono ?_
  rintro e w1 ⟨rfl, b1⟩
  have r4 : w1.cell? ⟨w.heap.size, 4, none⟩ = some (.int .i64 d.next) := cell_keep b1 (by simp [go_sem])
  have hB1 : Below w.heap.size w w1 := by (repeat (first | exact Below.refl _ _ | assumption | refine Below.drew ?_ | refine balloc ?_ _ | refine bset ?_ (by simp; omega) _ | refine bset ?_ (by simp) _ | refine bstep ?_ (by assumption)))
  clear b1
  generalize engF d = ce at *
  by_cases h0 : ce = 0
  rotate_left
  · have HF : Hid (batF d ws = ce) := HE.out h0
    have hc : (ce == 0) = false := by simpa using h0
    clear HE HW HN H0
    go_wp2
    go_ret
    exact ⟨by rw [HF.out]; rfl, hB1⟩
  subst h0
  go_wp2_with fail
  refine (implWf_any _ ws _ (wrisR.below HY.out hB1)).mono ?_
  rintro e w2 ⟨rfl, b2⟩
  replace r4 := cell_keep b2 r4
  have hB2 := bstep hB1 b2
  clear b2 hB1
  generalize wrF ws = cw at *
  by_cases h1 : cw = 0
  rotate_left
  · have HF : Hid (batF d ws = cw) := HW.out (by trivial) h1
    have hc : (cw == 0) = false := by simpa using h1
    clear HE HW HN H0
    go_wp2
    go_ret
    exact ⟨by rw [HF.out]; rfl, hB2⟩
  subst h1
  by_cases h2 : d.next = 1000000
  · have HF : Hid (batF d ws = 3) := HN.out (by trivial) (by trivial) h2
    have hc : (d.next == 1000000) = true := by simpa using h2
    have H2 : Hid (d.next = 1000000) := h2
    clear HE HW HN H0 h2
    generalize d.next = nx at *
    go_wp2
    go_ret
    exact ⟨by rw [HF.out]; rfl, hB2⟩
  · have HF : Hid (batF d ws = 0) := H0.out (by trivial) (by trivial) h2
    have hc : (d.next == 1000000) = false := by simpa using h2
    clear HE HW HN H0
    generalize d.next = nx at *
    go_wp2
    go_ret
    exact ⟨by rw [HF.out]; rfl, hB2⟩
end Go.Proofs.YtdfapehonegeeaaGreat

/-
  CrashEngine: its answer.
-/
namespace Go.Proofs.YtdfapehonegeeaaGreat
open Go.RowKit
set_option linter.unusedSectionVars false
variable [DecidableEq Wri] [Inhabited Wri] [DecidableEq BytesR] [Inhabited BytesR] [DecidableEq Rw] [Inhabited Rw] [DecidableEq TabR] [Inhabited TabR] [DecidableEq Logg] [Inhabited Logg] [DecidableEq Engn] [Inhabited Engn] [DecidableEq LoggR] [Inhabited LoggR] [DecidableEq RecsR] [Inhabited RecsR] [DecidableEq Leg] [Inhabited Leg] [DecidableEq EngR] [Inhabited EngR]
set_option linter.unusedVariables false
set_option linter.unusedSimpArgs false

theorem fit_small {xs : List Rw} (h : ∀ x ∈ xs, rowFault x = 0) : Fit xs := fit_mem.2 (fun x hx => by
  have := rowFault_small (h x hx)
  unfold maxLen
  omega)
end Go.Proofs.YtdfapehonegeeaaGreat

/-
  As RegC, where an operation may also store (into what another one made), and yield nothing: its slot is one that there is not.
-/
namespace Go.Proofs.YtdfapehonegeeaaGreat
open Go.RowKit

theorem fold_oob : ∀ (ds : List Nat) (T : Array Value) (y : Nat → Value) (d : Nat) (v : Value), T.size ≤ d →
    ds.foldl (fun t s => t.setIfInBounds s (updV y d v s)) T = ds.foldl (fun t s => t.setIfInBounds s (y s)) T
  | [], _, _, _, _, _ => rfl
  | e :: ds, T, y, d, v, h => by
    simp only [List.foldl_cons]
    by_cases hd : e = d
    · subst hd
      rw [Array.setIfInBounds_eq_of_size_le h, Array.setIfInBounds_eq_of_size_le h]
      exact fold_oob ds T y e v h
    · have e1 : updV y d v e = y e := if_neg hd
      rw [e1]
      exact fold_oob ds _ y d v (by simpa using h)
theorem over_putD {a : Act} {ds : List Nat} {y : Nat → Value} {d : Nat} {v : Value} {dst : Option Nat} (hd : dst = some d ∨ (dst = none ∧ a.tmps.size ≤ d)) (h : d ∈ ds) (hn : ds.Nodup) : (over a ds y).put dst v = over a ds (updV y d v) := by
  rcases hd with rfl | ⟨rfl, hd⟩
  · exact over_put h hn
  · simp only [over, Act.put]
    rw [fold_oob ds _ y d v hd]
section
variable {P : Program} {ops : Array Oper} {Q : Exit → Act → World → Prop} {md : Region.Mode} {S : World → Prop} {t : Nat}

def StepD (P : Program) (md : Region.Mode) (ops : Array Oper) (Q : Exit → Act → World → Prop) (S : World → Prop) (L : List (Nat × Nat)) (cons : Nat → List Nat) (G : Nat → (Nat → Value) → (Nat → Prop) → World → Prop) (a0 : Act) (w0 : World) (p : Nat × Nat) : Prop :=
  ∃ o, ops[p.1]? = some o ∧ (o.dst = some p.2 ∨ (o.dst = none ∧ a0.tmps.size ≤ p.2)) ∧ ∀ (y : Nat → Value) (w : World) (Φ : Nat → Nat → Prop), S w → Below w0.heap.size w0 w →
    (∀ q ∈ L, waitsFor md ops p.1 q.1 = true → (q.1 ∈ cons p.1 ∨ ∀ r ∈ L, q.1 ∉ cons r.1) → FIn w0 w (Φ q.1) ∧ G q.1 y (Φ q.1) w) →
    ∀ K : Act → World → Prop, (∀ v w' F', Mod (Taken cons Φ p.1) w w' → (∀ b, F' b → Taken cons Φ p.1 b ∨ (w.heap.size ≤ b ∧ b < w'.heap.size)) → G p.1 (updV y p.2 v) F' w' → K ((over a0 (L.map Prod.snd) y).put o.dst v) w') →
      Shut (if Region.wanted o (yielded ops (over a0 (L.map Prod.snd) y).tmps) = true then Oper.wp P o (over a0 (L.map Prod.snd) y) w K Q else K ((over a0 (L.map Prod.snd) y).put o.dst undef) w)
theorem upto_dons (L : List (Nat × Nat)) (cons : Nat → List Nat) (G : Nat → (Nat → Value) → (Nat → Prop) → World → Prop) {f : Nat} {listed : Array Bool} {a0 : Act} {w0 : World}
    (hrise : risesB md ops = true) (hsz : listed.size = ops.size) (hot : ∃ ot, ops[t]? = some ot)
    (hall : ∀ i, i < ops.size → listed.getD i true = false → i = t ∨ ∃ p ∈ L, p.1 = i)
    (hun : listed.getD t true = false ∧ ∀ p ∈ L, listed.getD p.1 true = false)
    (hno : (L.map Prod.fst).Nodup) (hnd : (L.map Prod.snd).Nodup) (htl : ∀ p ∈ L, p.1 ≠ t ∧ waitsFor md ops t p.1 = true) (hf : f = L.length + 1)
    (hcons : ∀ p ∈ L, ∀ j ∈ cons p.1, waitsFor md ops p.1 j = true ∧ ∃ q ∈ L, q.1 = j) (huniq : ∀ p ∈ L, ∀ r ∈ L, p.1 ≠ r.1 → ∀ j ∈ cons p.1, j ∉ cons r.1)
    (hS : S w0) (hSst : ∀ (F : Nat → Prop) (w w' : World), S w → Mod F w w' → (∀ b, F b → w0.heap.size ≤ b) → S w')
    (hG : ∀ p ∈ L, ∀ (y y' : Nat → Value) (F F' : Nat → Prop) (w w' : World), G p.1 y F w → FIn w0 w F → Mod F' w w' → FApart F' F → (∀ b, F' b → w0.heap.size ≤ b) → y' p.2 = y p.2 → (∀ q ∈ L, waitsFor md ops p.1 q.1 = true → y' q.2 = y q.2) → G p.1 y' F w')
    (hstep : ∀ p ∈ L, StepD P md ops Q S L cons G a0 w0 p)
    (hlast : ∃ o, ops[t]? = some o ∧ ∀ (y : Nat → Value) (w : World) (Φ : Nat → Nat → Prop), S w → Below w0.heap.size w0 w → (∀ q ∈ L, (∀ r ∈ L, q.1 ∉ cons r.1) → FIn w0 w (Φ q.1) ∧ G q.1 y (Φ q.1) w) → (∀ q ∈ L, ∀ r ∈ L, q.1 ≠ r.1 → (∀ p ∈ L, q.1 ∉ cons p.1) → (∀ p ∈ L, r.1 ∉ cons p.1) → FApart (Φ q.1) (Φ r.1)) →
      ∀ K : Act → World → Prop, (∀ a' w', Q .normal a' w' → K a' w') → Shut (if Region.wanted o (yielded ops (over a0 (L.map Prod.snd) y).tmps) = true then Oper.wp P o (over a0 (L.map Prod.snd) y) w K Q else K ((over a0 (L.map Prod.snd) y).put o.dst undef) w)) :
    wpUpto P md ops Q S t f listed a0 w0 := by
  have H : ∀ (n f : Nat) (listed : Array Bool) (y : Nat → Value) (w : World) (Φ : Nat → Nat → Prop),
      f = (L.filter fun p => !listed.getD p.1 true).length + 1 → listed.size = ops.size → listed.getD t true = false →
      (∀ i, i < ops.size → listed.getD i true = false → i = t ∨ ∃ p ∈ L, p.1 = i) →
      (∀ p ∈ L, listed.getD p.1 true = true → ∀ q ∈ L, waitsFor md ops p.1 q.1 = true → listed.getD q.1 true = true) →
      S w → Below w0.heap.size w0 w → (∀ q ∈ L, Alive L cons listed q.1 → FIn w0 w (Φ q.1) ∧ G q.1 y (Φ q.1) w) →
      (∀ q ∈ L, ∀ r ∈ L, q.1 ≠ r.1 → Alive L cons listed q.1 → Alive L cons listed r.1 → FApart (Φ q.1) (Φ r.1)) →
      f ≤ n → wpUpto P md ops Q S t f listed (over a0 (L.map Prod.snd) y) w := by
    intro n
    induction n with
    | zero => intro f listed y w Φ hf _ _ _ _ _ _ _ _ hn; omega
    | succ n ih =>
      intro f listed y w Φ hf hsz htun hall hdown hS hB hGs hAp hn
      obtain ⟨ot, hot⟩ := hot
      have htlt : t < ops.size := by
        rcases Nat.lt_or_ge t ops.size with h | h
        · exact h
        · rw [Array.getElem?_eq_none h] at hot; cases hot
      obtain ⟨g, rfl⟩ : ∃ g, f = g + 1 := ⟨_, hf⟩
      have hg : g = (L.filter fun p => !listed.getD p.1 true).length := by omega
      refine ⟨fun h => ?_, fun i hi' => ?_⟩
      · obtain ⟨j, hj⟩ := ready_some hrise hsz (t + 1) t (by omega) htlt htun
        rw [h] at hj
        cases hj
      obtain ⟨hiun, o, hio, hdeps⟩ := mem_ready.1 hi'
      have hilt : i < ops.size := by
        rcases Nat.lt_or_ge i ops.size with h | h
        · exact h
        · rw [Array.getElem?_eq_none h] at hio; cases hio
      have hdep : ∀ k, k < ops.size → waitsFor md ops i k = true → listed.getD k true = true := by
        intro k hk hw
        unfold waitsFor at hw
        rw [hio] at hw
        obtain ⟨e, he, hb⟩ := Array.any_eq_true'.1 hw
        simp only [Bool.and_eq_true, beq_iff_eq] at hb
        have h1 := hdeps e he hb.1
        rw [hb.2] at h1
        have hk' : k < listed.size := by omega
        simp [hk'] at h1 ⊢
        exact h1
      have hLlt : ∀ p ∈ L, p.1 < ops.size := by
        intro p hp
        obtain ⟨o', ho', _⟩ := hstep p hp
        rcases Nat.lt_or_ge p.1 ops.size with h | h
        · exact h
        · rw [Array.getElem?_eq_none h] at ho'; cases ho'
      have key : ∀ K : Act → World → Prop, (if Region.wanted o (yielded ops (over a0 (L.map Prod.snd) y).tmps) = true then Oper.wp P o (over a0 (L.map Prod.snd) y) w K Q else K ((over a0 (L.map Prod.snd) y).put o.dst undef) w) → wpOp P ops Q i K (over a0 (L.map Prod.snd) y) w := by
        intro K h1
        unfold wpOp
        simp only [hio]
        split
        · rename_i hw
          rw [if_pos hw] at h1
          exact .inl h1
        · rename_i hw
          rw [if_neg hw] at h1
          exact h1
      refine key _ ?_
      by_cases hit : i = t
      · subst hit
        have hl : ∀ p ∈ L, listed.getD p.1 true = true := fun p hp => hdep p.1 (hLlt p hp) (htl p hp).2
        obtain ⟨o2, ho2, hlst⟩ := hlast
        rw [hio] at ho2
        cases ho2
        refine (hlst y w Φ hS hB (fun q hq hc => hGs q hq ⟨hl q hq, fun p hp _ => hc p hp⟩) (fun q hq r hr hne h1 h2 => hAp q hq r hr hne ⟨hl q hq, fun p hp _ => h1 p hp⟩ ⟨hl r hr, fun p hp _ => h2 p hp⟩) _ (fun a' w' hq => ⟨fun h => absurd rfl h, upto_done ?_ hq⟩)).out
        rw [List.eq_nil_iff_forall_not_mem]
        intro j hj
        obtain ⟨hjun, oj, hjo, _⟩ := mem_ready.1 hj
        have hjl : j < ops.size := by
          rcases Nat.lt_or_ge j ops.size with h | h
          · exact h
          · rw [Array.getElem?_eq_none h] at hjo; cases hjo
        by_cases hji : i = j
        · subst hji
          have hk' : i < listed.size := by omega
          simp [hk'] at hjun
        · rw [getD_set_ne true hji] at hjun
          rcases hall j hjl hjun with h | ⟨p, hp, h⟩
          · exact hji h.symm
          · rw [← h, hl p hp] at hjun; cases hjun
      · obtain ⟨p, hp, hpi⟩ := (hall i hilt hiun).resolve_left hit
        subst hpi
        obtain ⟨o', ho', hdst, hst⟩ := hstep p hp
        rw [hio] at ho'
        cases ho'
        -- what p takes over is there
        have hcal : ∀ q ∈ L, q.1 ∈ cons p.1 → Alive L cons listed q.1 := fun q hq hc => ⟨hdep q.1 (hLlt q hq) (hcons p hp _ hc).1, fun r hr hrl hcr => by
          by_cases e : r.1 = p.1
          · rw [e, hiun] at hrl; cases hrl
          · exact huniq p hp r hr (Ne.symm e) q.1 hc hcr⟩
        refine (hst y w Φ hS hB (fun q hq hw hc => ?_) _ (fun v w' F' hm hF' hGp => ⟨fun _ => hSst _ _ _ hS hm ?_, ?_⟩)).out
        · rcases hc with hc | hc
          · exact hGs q hq (hcal q hq hc)
          · exact hGs q hq ⟨hdep q.1 (hLlt q hq) hw, fun r hr _ => hc r hr⟩
        · rintro b ⟨j, hj, hb⟩
          obtain ⟨_, q, hq, rfl⟩ := hcons p hp j hj
          exact ((hGs q hq (hcal q hq hj)).1 b hb).1
        have hTk : ∀ b, Taken cons Φ p.1 b → w0.heap.size ≤ b ∧ b < w.heap.size := by
          rintro b ⟨j, hj, hb⟩
          obtain ⟨_, q, hq, rfl⟩ := hcons p hp j hj
          exact (hGs q hq (hcal q hq hj)).1 b hb
        rw [over_putD hdst (List.mem_map_of_mem hp) hnd]
        have hlt : p.1 < listed.size := by omega
        have hself' : (listed.setIfInBounds p.1 true).getD p.1 true = true := by simp [hlt]
        have hoth : ∀ j, p.1 ≠ j → (listed.setIfInBounds p.1 true).getD j true = listed.getD j true := fun j h => getD_set_ne true h
        have hinj : ∀ q ∈ L, q.1 = p.1 → q = p := fun q hq h => inj_fst L hno q hq p hp h
        have hinj2 : ∀ q ∈ L, q.2 = p.2 → q = p := fun q hq h => inj_snd L hnd q hq p hp h
        -- who is alive behind p, and is not p, was alive ahead of it, and is not taken over
        have hback : ∀ q ∈ L, q.1 ≠ p.1 → Alive L cons (listed.setIfInBounds p.1 true) q.1 → Alive L cons listed q.1 ∧ q.1 ∉ cons p.1 := fun q hq e ha => by
          refine ⟨⟨by rw [← hoth _ (Ne.symm e)]; exact ha.1, fun r hr hrl => ?_⟩, ha.2 p hp hself'⟩
          by_cases e2 : r.1 = p.1
          · rw [e2, hiun] at hrl; cases hrl
          · exact ha.2 r hr (by rw [hoth _ (Ne.symm e2)]; exact hrl)
        have hTq : ∀ q ∈ L, Alive L cons listed q.1 → q.1 ∉ cons p.1 → FApart (Taken cons Φ p.1) (Φ q.1) := by
          rintro q hq ha hn b ⟨j, hj, hb⟩
          obtain ⟨_, r, hr, rfl⟩ := hcons p hp j hj
          exact hAp r hr q hq (fun e => hn (e ▸ hj)) (hcal r hr hj) ha b hb
        refine ih g (listed.setIfInBounds p.1 true) (updV y p.2 v) w' (fun j => if j = p.1 then F' else Φ j) ?_ (by simpa using hsz) ?_ ?_ ?_ (hSst _ _ _ hS hm (fun b hb => (hTk b hb).1)) (hm.below hB hB.size (fun b hb => (hTk b hb).1)) ?_ ?_ (by omega)
        · rw [hg]
          refine filter_less hno hp (by rw [hiun]; rfl) (by rw [hself']; rfl) (fun q hq hne => ?_)
          rw [hoth _ (fun c => hne (hinj q hq c.symm))]
        · rw [hoth _ (fun h => hit h)]; exact htun
        · intro j hj hju
          by_cases e : p.1 = j
          · subst e; rw [hself'] at hju; cases hju
          · rw [hoth _ e] at hju; exact hall j hj hju
        · intro q hq hql r hr hw
          by_cases e : p.1 = r.1
          · rw [← e]; exact hself'
          · rw [hoth _ e]
            by_cases e2 : p.1 = q.1
            · rw [← e2] at hw; exact hdep r.1 (hLlt r hr) hw
            · rw [hoth _ e2] at hql; exact hdown q hq hql r hr hw
        · intro q hq ha
          by_cases e : q.1 = p.1
          · have e2 := hinj q hq e
            subst e2
            simp only [if_true]
            refine ⟨fun b hb => ?_, hGp⟩
            rcases hF' b hb with h | h
            · have := hTk b h; have := hm.size; omega
            · have := hB.size; omega
          · obtain ⟨h1, h2⟩ := hback q hq e ha
            simp only [if_neg e]
            obtain ⟨g1, g2⟩ := hGs q hq h1
            refine ⟨fun b hb => ⟨(g1 b hb).1, Nat.lt_of_lt_of_le (g1 b hb).2 hm.size⟩, hG q hq y (updV y p.2 v) _ _ w w' g2 g1 hm (hTq q hq h1 h2) (fun b hb => (hTk b hb).1) ?_ ?_⟩
            · exact if_neg (fun c => e (by rw [hinj2 q hq c]))
            · intro r hr hw
              refine if_neg (fun c => ?_)
              have e3 := hinj2 r hr c
              subst e3
              rw [hdown q hq h1.1 _ hr hw] at hiun
              cases hiun
        · intro q hq r hr hne hqa hra
          by_cases e : q.1 = p.1
          · have e' : r.1 ≠ p.1 := fun c => hne (e.trans c.symm)
            obtain ⟨h1, h2⟩ := hback r hr e' hra
            simp only [if_pos e, if_neg e']
            intro b hb hb2
            rcases hF' b hb with h | h
            · exact hTq r hr h1 h2 b h hb2
            · have := ((hGs r hr h1).1 b hb2).2; omega
          · obtain ⟨h1, h2⟩ := hback q hq e hqa
            by_cases e' : r.1 = p.1
            · simp only [if_neg e, if_pos e']
              intro b hb hb2
              rcases hF' b hb2 with h | h
              · exact hTq q hq h1 h2 b h hb
              · have := ((hGs q hq h1).1 b hb).2; omega
            · obtain ⟨h3, _⟩ := hback r hr e' hra
              simp only [if_neg e, if_neg e']
              exact hAp q hq r hr hne h1 h3
  have h0 := H f f listed (fun s => a0.tmps.getD s undef) w0 (fun _ _ => False) (by
    rw [hf, List.filter_eq_self.2 (fun p hp => by rw [hun.2 p hp]; rfl)]) hsz hun.1 hall (fun p hp h => by rw [hun.2 p hp] at h; cases h) hS (Below.refl _ _) (fun q hq h => by have h := h.1; rw [hun.2 q hq] at h; cases h) (fun q hq r hr hne h => by have h := h.1; rw [hun.2 q hq] at h; cases h) (Nat.le_refl _)
  rw [over_self] at h0
  exact h0
def checkD (md : Region.Mode) (ops : Array Oper) (listed : Array Bool) (t f : Nat) (L : List (Nat × Nat)) (cons : Nat → List Nat) : Bool :=
  checkS md ops listed t f L && (L.all fun p => (cons p.1).all fun j => waitsFor md ops p.1 j && L.any fun q => decide (q.1 = j)) && (L.all fun p => L.all fun r => decide (p.1 = r.1) || (cons p.1).all fun j => decide (j ∉ cons r.1))
theorem upto_dons' (L : List (Nat × Nat)) (cons : Nat → List Nat) (G : Nat → (Nat → Value) → (Nat → Prop) → World → Prop) {f : Nat} {listed : Array Bool} {a0 : Act} {w0 : World} (hc : checkD md ops listed t f L cons = true)
    (hS : S w0) (hSst : ∀ (F : Nat → Prop) (w w' : World), S w → Mod F w w' → (∀ b, F b → w0.heap.size ≤ b) → S w')
    (hG : ∀ p ∈ L, ∀ (y y' : Nat → Value) (F F' : Nat → Prop) (w w' : World), G p.1 y F w → FIn w0 w F → Mod F' w w' → FApart F' F → (∀ b, F' b → w0.heap.size ≤ b) → y' p.2 = y p.2 → (∀ q ∈ L, waitsFor md ops p.1 q.1 = true → y' q.2 = y q.2) → G p.1 y' F w')
    (hstep : ∀ p ∈ L, StepD P md ops Q S L cons G a0 w0 p)
    (hlast : ∃ o, ops[t]? = some o ∧ ∀ (y : Nat → Value) (w : World) (Φ : Nat → Nat → Prop), S w → Below w0.heap.size w0 w → (∀ q ∈ L, (∀ r ∈ L, q.1 ∉ cons r.1) → FIn w0 w (Φ q.1) ∧ G q.1 y (Φ q.1) w) → (∀ q ∈ L, ∀ r ∈ L, q.1 ≠ r.1 → (∀ p ∈ L, q.1 ∉ cons p.1) → (∀ p ∈ L, r.1 ∉ cons p.1) → FApart (Φ q.1) (Φ r.1)) →
      ∀ K : Act → World → Prop, (∀ a' w', Q .normal a' w' → K a' w') → Shut (if Region.wanted o (yielded ops (over a0 (L.map Prod.snd) y).tmps) = true then Oper.wp P o (over a0 (L.map Prod.snd) y) w K Q else K ((over a0 (L.map Prod.snd) y).put o.dst undef) w)) :
    wpUpto P md ops Q S t f listed a0 w0 := by
  unfold checkD checkS at hc
  simp only [Bool.and_eq_true, decide_eq_true_eq, List.all_eq_true, List.any_eq_true, Bool.or_eq_true, Bool.not_eq_true', List.mem_range] at hc
  obtain ⟨⟨⟨⟨⟨⟨⟨⟨⟨⟨⟨h1, h2⟩, h3⟩, h4⟩, h5⟩, h6⟩, h7⟩, h8⟩, h9⟩, h10⟩, h11⟩, h13⟩ := hc
  refine upto_dons L cons G h1 h2 (Option.isSome_iff_exists.1 h3) (fun i hi hu => ?_) ⟨h5, h6⟩ h7 h8 h9 h10 h11 (fun p hp r hr hne => (h13 p hp r hr).resolve_left hne) hS hSst hG hstep hlast
  rcases h4 i hi with (h | h) | h
  · rw [hu] at h; cases h
  · exact .inl h
  · exact .inr h
end

end Go.Proofs.YtdfapehonegeeaaGreat


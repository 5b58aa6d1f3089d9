import Derived.Test.YtjemciikdijokaaPrnOpenSessionLaw11
import Derived.Test.YtjemciikdijokaaPrnOpenSessionLaw2
import Derived.Test.YtjemciikdijokaaPrnOpenSessionLaw13
import Derived.Test.YtjemciikdijokaaPrnOpenSessionLaw14
import Derived.BigQuiet
import Derived.Deep.QuietTactic
import Derived.Deep.RegionHeld3
import Derived.Test.YtjemciikdijokaaPrnOpenSessionLaw12

/-
  A region that draws its order, whose operations only make memory (and one last, number t, that may write): whatever the order, what each of them yields stays as it is, and lies in blocks of its own.
-/
namespace Go.Proofs.Ytjemciikdijokaa
open Go.RowKit

def over (a : Act) (ds : List Nat) (y : Nat → Value) : Act := { a with tmps := ds.foldl (fun t s => t.setIfInBounds s (y s)) a.tmps }
theorem fold_put : ∀ (ds : List Nat) (T : Array Value) (y : Nat → Value) (d : Nat) (v : Value), d ∉ ds →
    (ds.foldl (fun t s => t.setIfInBounds s (y s)) T).setIfInBounds d v = ds.foldl (fun t s => t.setIfInBounds s (y s)) (T.setIfInBounds d v)
  | [], _, _, _, _, _ => rfl
  | e :: ds, T, y, d, v, h => by
    have h1 : d ≠ e := fun c => h (by rw [c]; exact List.mem_cons_self)
    have h2 : d ∉ ds := fun c => h (List.mem_cons_of_mem _ c)
    simp only [List.foldl_cons]
    rw [fold_put ds _ y d v h2, Array.setIfInBounds_comm _ _ (Ne.symm h1)]
theorem fold_congr : ∀ (ds : List Nat) (T : Array Value) (y y' : Nat → Value), (∀ s ∈ ds, y s = y' s) →
    ds.foldl (fun t s => t.setIfInBounds s (y s)) T = ds.foldl (fun t s => t.setIfInBounds s (y' s)) T
  | [], _, _, _, _ => rfl
  | e :: ds, T, y, y', h => by
    simp only [List.foldl_cons]
    rw [h e List.mem_cons_self]
    exact fold_congr ds _ y y' (fun s hs => h s (List.mem_cons_of_mem _ hs))
def updV (y : Nat → Value) (d : Nat) (v : Value) : Nat → Value := fun s => if s = d then v else y s
theorem fold_upd : ∀ (ds : List Nat) (T : Array Value) (y : Nat → Value) (d : Nat) (v : Value), d ∈ ds → ds.Nodup →
    (ds.foldl (fun t s => t.setIfInBounds s (y s)) T).setIfInBounds d v = ds.foldl (fun t s => t.setIfInBounds s (updV y d v s)) T
  | [], _, _, _, _, h, _ => absurd h List.not_mem_nil
  | e :: ds, T, y, d, v, h, hn => by
    obtain ⟨h1, h2⟩ := List.nodup_cons.1 hn
    simp only [List.foldl_cons]
    by_cases hd : d = e
    · subst hd
      rw [fold_put ds _ y d v h1, Array.setIfInBounds_setIfInBounds]
      have e1 : updV y d v d = v := if_pos rfl
      rw [e1]
      exact fold_congr ds _ _ _ (fun s hs => (if_neg (fun c : s = d => h1 (c ▸ hs))).symm)
    · have hm : d ∈ ds := (List.mem_cons.1 h).resolve_left hd
      have e1 : updV y d v e = y e := if_neg (fun c => hd c.symm)
      rw [e1]
      exact fold_upd ds _ y d v hm h2
theorem over_put {a : Act} {ds : List Nat} {y : Nat → Value} {d : Nat} {v : Value} (h : d ∈ ds) (hn : ds.Nodup) : (over a ds y).put (some d) v = over a ds (updV y d v) := by
  simp only [over, Act.put]
  rw [fold_upd ds _ y d v h hn]
theorem over_self (a : Act) : ∀ ds : List Nat, over a ds (fun s => a.tmps.getD s undef) = a := by
  intro ds
  have H : ∀ ds : List Nat, ds.foldl (fun t s => t.setIfInBounds s (a.tmps.getD s undef)) a.tmps = a.tmps := by
    intro ds
    induction ds with
    | nil => rfl
    | cons d ds ih =>
      simp only [List.foldl_cons]
      have e : a.tmps.setIfInBounds d (a.tmps.getD d undef) = a.tmps := by
        apply Array.ext_getElem?
        intro i
        rw [Array.getElem?_setIfInBounds]
        split
        · rename_i h
          subst h
          split
          · rename_i h; simp [h]
          · rename_i h; simp [Array.getElem?_eq_none (Nat.le_of_not_lt h)]
        · rfl
      rw [e]
      exact ih
  simp only [over]
  rw [H ds]
theorem inj_fst : ∀ (L : List (Nat × Nat)), (L.map Prod.fst).Nodup → ∀ p ∈ L, ∀ q ∈ L, p.1 = q.1 → p = q
  | [], _, p, hp, _, _, _ => absurd hp List.not_mem_nil
  | a :: L, hn, p, hp, q, hq, h => by
    obtain ⟨h1, h2⟩ := List.nodup_cons.1 hn
    rcases List.mem_cons.1 hp with hp1 | hp1
    · rcases List.mem_cons.1 hq with hq1 | hq1
      · rw [hp1, hq1]
      · exact absurd (by rw [← hp1, h]; exact List.mem_map_of_mem hq1) h1
    · rcases List.mem_cons.1 hq with hq1 | hq1
      · exact absurd (by rw [← hq1, ← h]; exact List.mem_map_of_mem hp1) h1
      · exact inj_fst L h2 p hp1 q hq1 h
theorem inj_snd : ∀ (L : List (Nat × Nat)), (L.map Prod.snd).Nodup → ∀ p ∈ L, ∀ q ∈ L, p.2 = q.2 → p = q
  | [], _, p, hp, _, _, _ => absurd hp List.not_mem_nil
  | a :: L, hn, p, hp, q, hq, h => by
    obtain ⟨h1, h2⟩ := List.nodup_cons.1 hn
    rcases List.mem_cons.1 hp with hp1 | hp1
    · rcases List.mem_cons.1 hq with hq1 | hq1
      · rw [hp1, hq1]
      · exact absurd (by rw [← hp1, h]; exact List.mem_map_of_mem hq1) h1
    · rcases List.mem_cons.1 hq with hq1 | hq1
      · exact absurd (by rw [← hq1, ← h]; exact List.mem_map_of_mem hp1) h1
      · exact inj_snd L h2 p hp1 q hq1 h
theorem filter_less {F F' : Nat × Nat → Bool} : ∀ {L : List (Nat × Nat)}, (L.map Prod.fst).Nodup → ∀ {p : Nat × Nat}, p ∈ L → F p = true → F' p = false → (∀ q ∈ L, q ≠ p → F' q = F q) → (L.filter F).length = (L.filter F').length + 1
  | [], _, _, hp, _, _, _ => absurd hp List.not_mem_nil
  | a :: L, hn, p, hp, h1, h2, h3 => by
    obtain ⟨g1, g2⟩ := List.nodup_cons.1 hn
    by_cases e : a = p
    · subst e
      rw [List.filter_cons_of_pos h1, List.filter_cons_of_neg (by rw [h2]; exact Bool.false_ne_true)]
      have h4 : L.filter F = L.filter F' := List.filter_congr (fun q hq => (h3 q (List.mem_cons_of_mem _ hq) (fun c => g1 (c ▸ List.mem_map_of_mem hq))).symm)
      rw [h4, List.length_cons]
    · have hm : p ∈ L := (List.mem_cons.1 hp).resolve_left (fun c => e c.symm)
      have ih := filter_less g2 hm h1 h2 (fun q hq hne => h3 q (List.mem_cons_of_mem _ hq) hne)
      have ha := h3 a List.mem_cons_self e
      cases hF : F a with
      | true => rw [List.filter_cons_of_pos hF, List.filter_cons_of_pos (by rw [ha, hF]), List.length_cons, List.length_cons, ih]
      | false => rw [List.filter_cons_of_neg (by rw [hF]; exact Bool.false_ne_true), List.filter_cons_of_neg (by rw [ha, hF]; exact Bool.false_ne_true), ih]
section
variable {P : Program} {ops : Array Oper} {Q : Exit → Act → World → Prop} {md : Region.Mode} {S : World → Prop} {t : Nat}

def risesB (md : Region.Mode) (ops : Array Oper) : Bool := (List.range ops.size).all fun i => match ops[i]? with | some o => o.after.all fun e => !Region.binds md e || decide (e.on < i) | none => true
theorem ready_some {listed : Array Bool} (hr : risesB md ops = true) (hs : listed.size = ops.size) : ∀ n i, i < n → i < ops.size → listed.getD i true = false → ∃ j, j ∈ Region.ready md ops listed := by
  intro n
  induction n with
  | zero => intro i h; omega
  | succ n ih =>
    intro i hi hlt hun
    by_cases hex : ∃ k, k < i ∧ listed.getD k true = false
    · obtain ⟨k, hk, hku⟩ := hex
      exact ih k (by omega) (by omega) hku
    · refine ⟨i, mem_ready.2 ⟨hun, ops[i], by simp [hlt], fun e he hb => ?_⟩⟩
      have h1 := List.all_eq_true.1 hr i (List.mem_range.2 hlt)
      simp only [Array.getElem?_eq_getElem hlt] at h1
      have h2 := Array.all_eq_true'.1 h1 e he
      simp only [hb, Bool.not_true, Bool.false_or, decide_eq_true_eq] at h2
      have h3 : ¬ listed.getD e.on true = false := fun c => hex ⟨e.on, h2, c⟩
      have h4 : e.on < listed.size := by omega
      simp [h4] at h3 ⊢
      exact h3
structure Shut (p : Prop) : Prop where
  out : p
def checkS (md : Region.Mode) (ops : Array Oper) (listed : Array Bool) (t f : Nat) (L : List (Nat × Nat)) : Bool :=
  risesB md ops && decide (listed.size = ops.size) && (ops[t]?).isSome && ((List.range ops.size).all fun i => listed.getD i true || decide (i = t) || L.any fun p => decide (p.1 = i)) &&
    !listed.getD t true && (L.all fun p => !listed.getD p.1 true) && decide (L.map Prod.fst).Nodup && decide (L.map Prod.snd).Nodup && (L.all fun p => decide (p.1 ≠ t) && waitsFor md ops t p.1) && decide (f = L.length + 1)
end

end Go.Proofs.Ytjemciikdijokaa

/-
  As RegS, where an operation may also write into what another one made, and takes it over (an append to what was just made).
-/
namespace Go.Proofs.Ytjemciikdijokaa
open Go.RowKit

section
variable {P : Program} {ops : Array Oper} {Q : Exit → Act → World → Prop} {md : Region.Mode} {S : World → Prop} {t : Nat}

def Alive (L : List (Nat × Nat)) (cons : Nat → List Nat) (listed : Array Bool) (j : Nat) : Prop := listed.getD j true = true ∧ ∀ p ∈ L, listed.getD p.1 true = true → j ∉ cons p.1
def Taken (cons : Nat → List Nat) (Φ : Nat → Nat → Prop) (i b : Nat) : Prop := ∃ j ∈ cons i, Φ j b
def FIn (w0 w : World) (F : Nat → Prop) : Prop := ∀ b, F b → w0.heap.size ≤ b ∧ b < w.heap.size
def FApart (F F' : Nat → Prop) : Prop := ∀ b, F b → ¬ F' b
def StepC (P : Program) (md : Region.Mode) (ops : Array Oper) (Q : Exit → Act → World → Prop) (S : World → Prop) (L : List (Nat × Nat)) (cons : Nat → List Nat) (G : Nat → (Nat → Value) → (Nat → Prop) → World → Prop) (a0 : Act) (w0 : World) (p : Nat × Nat) : Prop :=
  ∃ o, ops[p.1]? = some o ∧ o.dst = some p.2 ∧ ∀ (y : Nat → Value) (w : World) (Φ : Nat → Nat → Prop), S w → Below w0.heap.size w0 w →
    (∀ q ∈ L, waitsFor md ops p.1 q.1 = true → (q.1 ∈ cons p.1 ∨ ∀ r ∈ L, q.1 ∉ cons r.1) → FIn w0 w (Φ q.1) ∧ G q.1 y (Φ q.1) w) →
    ∀ K : Act → World → Prop, (∀ v w' F', Mod (Taken cons Φ p.1) w w' → (∀ b, F' b → Taken cons Φ p.1 b ∨ (w.heap.size ≤ b ∧ b < w'.heap.size)) → G p.1 (updV y p.2 v) F' w' → K ((over a0 (L.map Prod.snd) y).put (some p.2) v) w') →
      Shut (if Region.wanted o (yielded ops (over a0 (L.map Prod.snd) y).tmps) = true then Oper.wp P o (over a0 (L.map Prod.snd) y) w K Q else K ((over a0 (L.map Prod.snd) y).put o.dst undef) w)
theorem upto_cons (L : List (Nat × Nat)) (cons : Nat → List Nat) (G : Nat → (Nat → Value) → (Nat → Prop) → World → Prop) {f : Nat} {listed : Array Bool} {a0 : Act} {w0 : World}
    (hrise : risesB md ops = true) (hsz : listed.size = ops.size) (hot : ∃ ot, ops[t]? = some ot)
    (hall : ∀ i, i < ops.size → listed.getD i true = false → i = t ∨ ∃ p ∈ L, p.1 = i)
    (hun : listed.getD t true = false ∧ ∀ p ∈ L, listed.getD p.1 true = false)
    (hno : (L.map Prod.fst).Nodup) (hnd : (L.map Prod.snd).Nodup) (htl : ∀ p ∈ L, p.1 ≠ t ∧ waitsFor md ops t p.1 = true) (hf : f = L.length + 1)
    (hcons : ∀ p ∈ L, ∀ j ∈ cons p.1, waitsFor md ops p.1 j = true ∧ ∃ q ∈ L, q.1 = j) (huniq : ∀ p ∈ L, ∀ r ∈ L, p.1 ≠ r.1 → ∀ j ∈ cons p.1, j ∉ cons r.1)
    (hS : S w0) (hSst : ∀ (F : Nat → Prop) (w w' : World), S w → Mod F w w' → (∀ b, F b → w0.heap.size ≤ b) → S w')
    (hG : ∀ p ∈ L, ∀ (y y' : Nat → Value) (F F' : Nat → Prop) (w w' : World), G p.1 y F w → FIn w0 w F → Mod F' w w' → FApart F' F → (∀ b, F' b → w0.heap.size ≤ b) → y' p.2 = y p.2 → (∀ q ∈ L, waitsFor md ops p.1 q.1 = true → y' q.2 = y q.2) → G p.1 y' F w')
    (hstep : ∀ p ∈ L, StepC P md ops Q S L cons G a0 w0 p)
    (hlast : ∃ o, ops[t]? = some o ∧ ∀ (y : Nat → Value) (w : World) (Φ : Nat → Nat → Prop), S w → Below w0.heap.size w0 w → (∀ q ∈ L, (∀ r ∈ L, q.1 ∉ cons r.1) → FIn w0 w (Φ q.1) ∧ G q.1 y (Φ q.1) w) → (∀ q ∈ L, ∀ r ∈ L, q.1 ≠ r.1 → (∀ p ∈ L, q.1 ∉ cons p.1) → (∀ p ∈ L, r.1 ∉ cons p.1) → FApart (Φ q.1) (Φ r.1)) →
      ∀ K : Act → World → Prop, (∀ a' w', Q .normal a' w' → K a' w') → Shut (if Region.wanted o (yielded ops (over a0 (L.map Prod.snd) y).tmps) = true then Oper.wp P o (over a0 (L.map Prod.snd) y) w K Q else K ((over a0 (L.map Prod.snd) y).put o.dst undef) w)) :
    wpUpto P md ops Q S t f listed a0 w0 := by
  have H : ∀ (n f : Nat) (listed : Array Bool) (y : Nat → Value) (w : World) (Φ : Nat → Nat → Prop),
      f = (L.filter fun p => !listed.getD p.1 true).length + 1 → listed.size = ops.size → listed.getD t true = false →
      (∀ i, i < ops.size → listed.getD i true = false → i = t ∨ ∃ p ∈ L, p.1 = i) →
      (∀ p ∈ L, listed.getD p.1 true = true → ∀ q ∈ L, waitsFor md ops p.1 q.1 = true → listed.getD q.1 true = true) →
      S w → Below w0.heap.size w0 w → (∀ q ∈ L, Alive L cons listed q.1 → FIn w0 w (Φ q.1) ∧ G q.1 y (Φ q.1) w) →
      (∀ q ∈ L, ∀ r ∈ L, q.1 ≠ r.1 → Alive L cons listed q.1 → Alive L cons listed r.1 → FApart (Φ q.1) (Φ r.1)) →
      f ≤ n → wpUpto P md ops Q S t f listed (over a0 (L.map Prod.snd) y) w := by
    intro n
    induction n with
    | zero => intro f listed y w Φ hf _ _ _ _ _ _ _ _ hn; omega
    | succ n ih =>
      intro f listed y w Φ hf hsz htun hall hdown hS hB hGs hAp hn
      obtain ⟨ot, hot⟩ := hot
      have htlt : t < ops.size := by
        rcases Nat.lt_or_ge t ops.size with h | h
        · exact h
        · rw [Array.getElem?_eq_none h] at hot; cases hot
      obtain ⟨g, rfl⟩ : ∃ g, f = g + 1 := ⟨_, hf⟩
      have hg : g = (L.filter fun p => !listed.getD p.1 true).length := by omega
      refine ⟨fun h => ?_, fun i hi' => ?_⟩
      · obtain ⟨j, hj⟩ := ready_some hrise hsz (t + 1) t (by omega) htlt htun
        rw [h] at hj
        cases hj
      obtain ⟨hiun, o, hio, hdeps⟩ := mem_ready.1 hi'
      have hilt : i < ops.size := by
        rcases Nat.lt_or_ge i ops.size with h | h
        · exact h
        · rw [Array.getElem?_eq_none h] at hio; cases hio
      have hdep : ∀ k, k < ops.size → waitsFor md ops i k = true → listed.getD k true = true := by
        intro k hk hw
        unfold waitsFor at hw
        rw [hio] at hw
        obtain ⟨e, he, hb⟩ := Array.any_eq_true'.1 hw
        simp only [Bool.and_eq_true, beq_iff_eq] at hb
        have h1 := hdeps e he hb.1
        rw [hb.2] at h1
        have hk' : k < listed.size := by omega
        simp [hk'] at h1 ⊢
        exact h1
      have hLlt : ∀ p ∈ L, p.1 < ops.size := by
        intro p hp
        obtain ⟨o', ho', _⟩ := hstep p hp
        rcases Nat.lt_or_ge p.1 ops.size with h | h
        · exact h
        · rw [Array.getElem?_eq_none h] at ho'; cases ho'
      have key : ∀ K : Act → World → Prop, (if Region.wanted o (yielded ops (over a0 (L.map Prod.snd) y).tmps) = true then Oper.wp P o (over a0 (L.map Prod.snd) y) w K Q else K ((over a0 (L.map Prod.snd) y).put o.dst undef) w) → wpOp P ops Q i K (over a0 (L.map Prod.snd) y) w := by
        intro K h1
        unfold wpOp
        simp only [hio]
        split
        · rename_i hw
          rw [if_pos hw] at h1
          exact .inl h1
        · rename_i hw
          rw [if_neg hw] at h1
          exact h1
      refine key _ ?_
      by_cases hit : i = t
      · subst hit
        have hl : ∀ p ∈ L, listed.getD p.1 true = true := fun p hp => hdep p.1 (hLlt p hp) (htl p hp).2
        obtain ⟨o2, ho2, hlst⟩ := hlast
        rw [hio] at ho2
        cases ho2
        refine (hlst y w Φ hS hB (fun q hq hc => hGs q hq ⟨hl q hq, fun p hp _ => hc p hp⟩) (fun q hq r hr hne h1 h2 => hAp q hq r hr hne ⟨hl q hq, fun p hp _ => h1 p hp⟩ ⟨hl r hr, fun p hp _ => h2 p hp⟩) _ (fun a' w' hq => ⟨fun h => absurd rfl h, upto_done ?_ hq⟩)).out
        rw [List.eq_nil_iff_forall_not_mem]
        intro j hj
        obtain ⟨hjun, oj, hjo, _⟩ := mem_ready.1 hj
        have hjl : j < ops.size := by
          rcases Nat.lt_or_ge j ops.size with h | h
          · exact h
          · rw [Array.getElem?_eq_none h] at hjo; cases hjo
        by_cases hji : i = j
        · subst hji
          have hk' : i < listed.size := by omega
          simp [hk'] at hjun
        · rw [getD_set_ne true hji] at hjun
          rcases hall j hjl hjun with h | ⟨p, hp, h⟩
          · exact hji h.symm
          · rw [← h, hl p hp] at hjun; cases hjun
      · obtain ⟨p, hp, hpi⟩ := (hall i hilt hiun).resolve_left hit
        subst hpi
        obtain ⟨o', ho', hdst, hst⟩ := hstep p hp
        rw [hio] at ho'
        cases ho'
        have hcal : ∀ q ∈ L, q.1 ∈ cons p.1 → Alive L cons listed q.1 := fun q hq hc => ⟨hdep q.1 (hLlt q hq) (hcons p hp _ hc).1, fun r hr hrl hcr => by
          by_cases e : r.1 = p.1
          · rw [e, hiun] at hrl; cases hrl
          · exact huniq p hp r hr (Ne.symm e) q.1 hc hcr⟩
        refine (hst y w Φ hS hB (fun q hq hw hc => ?_) _ (fun v w' F' hm hF' hGp => ⟨fun _ => hSst _ _ _ hS hm ?_, ?_⟩)).out
        · rcases hc with hc | hc
          · exact hGs q hq (hcal q hq hc)
          · exact hGs q hq ⟨hdep q.1 (hLlt q hq) hw, fun r hr _ => hc r hr⟩
        · rintro b ⟨j, hj, hb⟩
          obtain ⟨_, q, hq, rfl⟩ := hcons p hp j hj
          exact ((hGs q hq (hcal q hq hj)).1 b hb).1
        have hTk : ∀ b, Taken cons Φ p.1 b → w0.heap.size ≤ b ∧ b < w.heap.size := by
          rintro b ⟨j, hj, hb⟩
          obtain ⟨_, q, hq, rfl⟩ := hcons p hp j hj
          exact (hGs q hq (hcal q hq hj)).1 b hb
        rw [over_put (List.mem_map_of_mem hp) hnd]
        have hlt : p.1 < listed.size := by omega
        have hself' : (listed.setIfInBounds p.1 true).getD p.1 true = true := by simp [hlt]
        have hoth : ∀ j, p.1 ≠ j → (listed.setIfInBounds p.1 true).getD j true = listed.getD j true := fun j h => getD_set_ne true h
        have hinj : ∀ q ∈ L, q.1 = p.1 → q = p := fun q hq h => inj_fst L hno q hq p hp h
        have hinj2 : ∀ q ∈ L, q.2 = p.2 → q = p := fun q hq h => inj_snd L hnd q hq p hp h
        have hback : ∀ q ∈ L, q.1 ≠ p.1 → Alive L cons (listed.setIfInBounds p.1 true) q.1 → Alive L cons listed q.1 ∧ q.1 ∉ cons p.1 := fun q hq e ha => by
          refine ⟨⟨by rw [← hoth _ (Ne.symm e)]; exact ha.1, fun r hr hrl => ?_⟩, ha.2 p hp hself'⟩
          by_cases e2 : r.1 = p.1
          · rw [e2, hiun] at hrl; cases hrl
          · exact ha.2 r hr (by rw [hoth _ (Ne.symm e2)]; exact hrl)
        have hTq : ∀ q ∈ L, Alive L cons listed q.1 → q.1 ∉ cons p.1 → FApart (Taken cons Φ p.1) (Φ q.1) := by
          rintro q hq ha hn b ⟨j, hj, hb⟩
          obtain ⟨_, r, hr, rfl⟩ := hcons p hp j hj
          exact hAp r hr q hq (fun e => hn (e ▸ hj)) (hcal r hr hj) ha b hb
        refine ih g (listed.setIfInBounds p.1 true) (updV y p.2 v) w' (fun j => if j = p.1 then F' else Φ j) ?_ (by simpa using hsz) ?_ ?_ ?_ (hSst _ _ _ hS hm (fun b hb => (hTk b hb).1)) (hm.below hB hB.size (fun b hb => (hTk b hb).1)) ?_ ?_ (by omega)
        · rw [hg]
          refine filter_less hno hp (by rw [hiun]; rfl) (by rw [hself']; rfl) (fun q hq hne => ?_)
          rw [hoth _ (fun c => hne (hinj q hq c.symm))]
        · rw [hoth _ (fun h => hit h)]; exact htun
        · intro j hj hju
          by_cases e : p.1 = j
          · subst e; rw [hself'] at hju; cases hju
          · rw [hoth _ e] at hju; exact hall j hj hju
        · intro q hq hql r hr hw
          by_cases e : p.1 = r.1
          · rw [← e]; exact hself'
          · rw [hoth _ e]
            by_cases e2 : p.1 = q.1
            · rw [← e2] at hw; exact hdep r.1 (hLlt r hr) hw
            · rw [hoth _ e2] at hql; exact hdown q hq hql r hr hw
        · intro q hq ha
          by_cases e : q.1 = p.1
          · have e2 := hinj q hq e
            subst e2
            simp only [if_true]
            refine ⟨fun b hb => ?_, hGp⟩
            rcases hF' b hb with h | h
            · have := hTk b h; have := hm.size; omega
            · have := hB.size; omega
          · obtain ⟨h1, h2⟩ := hback q hq e ha
            simp only [if_neg e]
            obtain ⟨g1, g2⟩ := hGs q hq h1
            refine ⟨fun b hb => ⟨(g1 b hb).1, Nat.lt_of_lt_of_le (g1 b hb).2 hm.size⟩, hG q hq y (updV y p.2 v) _ _ w w' g2 g1 hm (hTq q hq h1 h2) (fun b hb => (hTk b hb).1) ?_ ?_⟩
            · exact if_neg (fun c => e (by rw [hinj2 q hq c]))
            · intro r hr hw
              refine if_neg (fun c => ?_)
              have e3 := hinj2 r hr c
              subst e3
              rw [hdown q hq h1.1 _ hr hw] at hiun
              cases hiun
        · intro q hq r hr hne hqa hra
          by_cases e : q.1 = p.1
          · have e' : r.1 ≠ p.1 := fun c => hne (e.trans c.symm)
            obtain ⟨h1, h2⟩ := hback r hr e' hra
            simp only [if_pos e, if_neg e']
            intro b hb hb2
            rcases hF' b hb with h | h
            · exact hTq r hr h1 h2 b h hb2
            · have := ((hGs r hr h1).1 b hb2).2; omega
          · obtain ⟨h1, h2⟩ := hback q hq e hqa
            by_cases e' : r.1 = p.1
            · simp only [if_neg e, if_pos e']
              intro b hb hb2
              rcases hF' b hb2 with h | h
              · exact hTq q hq h1 h2 b h hb
              · have := ((hGs q hq h1).1 b hb).2; omega
            · obtain ⟨h3, _⟩ := hback r hr e' hra
              simp only [if_neg e, if_neg e']
              exact hAp q hq r hr hne h1 h3
  have h0 := H f f listed (fun s => a0.tmps.getD s undef) w0 (fun _ _ => False) (by
    rw [hf, List.filter_eq_self.2 (fun p hp => by rw [hun.2 p hp]; rfl)]) hsz hun.1 hall (fun p hp h => by rw [hun.2 p hp] at h; cases h) hS (Below.refl _ _) (fun q hq h => by have h := h.1; rw [hun.2 q hq] at h; cases h) (fun q hq r hr hne h => by have h := h.1; rw [hun.2 q hq] at h; cases h) (Nat.le_refl _)
  rw [over_self] at h0
  exact h0
def checkC (md : Region.Mode) (ops : Array Oper) (listed : Array Bool) (t f : Nat) (L : List (Nat × Nat)) (cons : Nat → List Nat) : Bool :=
  checkS md ops listed t f L && (L.all fun p => (cons p.1).all fun j => waitsFor md ops p.1 j && L.any fun q => decide (q.1 = j)) && (L.all fun p => L.all fun r => decide (p.1 = r.1) || (cons p.1).all fun j => decide (j ∉ cons r.1))
theorem upto_cons' (L : List (Nat × Nat)) (cons : Nat → List Nat) (G : Nat → (Nat → Value) → (Nat → Prop) → World → Prop) {f : Nat} {listed : Array Bool} {a0 : Act} {w0 : World} (hc : checkC md ops listed t f L cons = true)
    (hS : S w0) (hSst : ∀ (F : Nat → Prop) (w w' : World), S w → Mod F w w' → (∀ b, F b → w0.heap.size ≤ b) → S w')
    (hG : ∀ p ∈ L, ∀ (y y' : Nat → Value) (F F' : Nat → Prop) (w w' : World), G p.1 y F w → FIn w0 w F → Mod F' w w' → FApart F' F → (∀ b, F' b → w0.heap.size ≤ b) → y' p.2 = y p.2 → (∀ q ∈ L, waitsFor md ops p.1 q.1 = true → y' q.2 = y q.2) → G p.1 y' F w')
    (hstep : ∀ p ∈ L, StepC P md ops Q S L cons G a0 w0 p)
    (hlast : ∃ o, ops[t]? = some o ∧ ∀ (y : Nat → Value) (w : World) (Φ : Nat → Nat → Prop), S w → Below w0.heap.size w0 w → (∀ q ∈ L, (∀ r ∈ L, q.1 ∉ cons r.1) → FIn w0 w (Φ q.1) ∧ G q.1 y (Φ q.1) w) → (∀ q ∈ L, ∀ r ∈ L, q.1 ≠ r.1 → (∀ p ∈ L, q.1 ∉ cons p.1) → (∀ p ∈ L, r.1 ∉ cons p.1) → FApart (Φ q.1) (Φ r.1)) →
      ∀ K : Act → World → Prop, (∀ a' w', Q .normal a' w' → K a' w') → Shut (if Region.wanted o (yielded ops (over a0 (L.map Prod.snd) y).tmps) = true then Oper.wp P o (over a0 (L.map Prod.snd) y) w K Q else K ((over a0 (L.map Prod.snd) y).put o.dst undef) w)) :
    wpUpto P md ops Q S t f listed a0 w0 := by
  unfold checkC checkS at hc
  simp only [Bool.and_eq_true, decide_eq_true_eq, List.all_eq_true, List.any_eq_true, Bool.or_eq_true, Bool.not_eq_true', List.mem_range] at hc
  obtain ⟨⟨⟨⟨⟨⟨⟨⟨⟨⟨⟨h1, h2⟩, h3⟩, h4⟩, h5⟩, h6⟩, h7⟩, h8⟩, h9⟩, h10⟩, h11⟩, h13⟩ := hc
  refine upto_cons L cons G h1 h2 (Option.isSome_iff_exists.1 h3) (fun i hi hu => ?_) ⟨h5, h6⟩ h7 h8 h9 h10 h11 (fun p hp r hr hne => (h13 p hp r hr).resolve_left hne) hS hSst hG hstep hlast
  rcases h4 i hi with (h | h) | h
  · rw [hu] at h; cases h
  · exact .inl h
  · exact .inr h
end

end Go.Proofs.Ytjemciikdijokaa

/-
  Appends, with what they turn.
-/
set_option linter.unusedSimpArgs false
set_option linter.unusedVariables false
namespace Go.Proofs.Ytjemciikdijokaa
open Go.RowKit
set_option linter.unusedSectionVars false
variable [DecidableEq Leg] [Inhabited Leg] [DecidableEq Mrk] [Inhabited Mrk] [DecidableEq Bal] [Inhabited Bal]
attribute [local go_sem ↓] Go.wp_at_zero Go.wp_at_succ

theorem wp_appG (Y : World) {o : Oper} {a : Act} {K : Act → World → Prop} {Q : Exit → Act → World → Prop} (hgd : o.guard = none) (s x : Operand) (t : TypeId)
    (ho : o.op = .call { callee := .builtin .append, args := #[s, x], argTypes := #[t, t] })
    (e : TypeId) (i : TypeInfo) (z : Value) (size bytes : Nat) (ht : Try.prog.underlying t = some (.slice e)) (hi : Try.prog.info? e = some i) (hz : i.zero = some z)
    (hsize : i.size = size) (hby : i.bytes = bytes) (hzs : z.cells.size = size) (hsz : 0 < size) (hbs : bytes ≤ 64)
    (base : Nat) (v : Value) (F1 : Nat → Prop) (n : Nat) (cs : List Value) (hs : a.eval s = v) (u : Value) (m : Nat) (ds : List Value) (hx : a.eval x = u)
    (hown : Y.ownsRow base e size v n cs ∧ F1 = (fun b => v.ownBlock = some b)) (hsrc : AppAny Y u m ds) (hl : ds.length = m * size) (h1 : ∀ y ∈ ds, y.oneCell' = true) (hlen : n + m ≤ 1073741824) (hbase : base ≤ Y.heap.size)
    (h : ∀ v' w', (w'.ownsRow base e size v' (n + m) (cs ++ ds) ∧ (fun b => v'.ownBlock = some b) = (fun b => v'.ownBlock = some b)) → Mod F1 Y w' → (∀ b, v'.ownBlock = some b → F1 b ∨ (Y.heap.size ≤ b ∧ b < w'.heap.size)) → K (a.put o.dst v') w') : Oper.wp Try.prog o a Y K Q := by
  obtain ⟨hown, hF1⟩ := hown
  rcases hsrc with ⟨c, rfl, hm, hd⟩ | ⟨ad, c, rfl, hc⟩
  · subst hm hd
    have hr := run_append_none_any (P := Try.prog) Y base t o.type e i size c ht hi v n cs hown
    unfold Oper.wp execOp
    simp only [ho, resolve, invoke, builtin, Sem.run_bind, Sem.run_pure, Result.andThen_ok, List.map_toArray, List.map_cons, List.map_nil, hs, hx, hr]
    refine h v Y ⟨?_, rfl⟩ (Mod.refl _ _) (fun b hb => .inl (by rw [hF1]; exact hb))
    rw [List.append_nil, Nat.add_zero]
    exact hown
  · have h0 := step_append_at (E := True) (ops := #[]) (Q := Q) (K := K) Y hgd s x t ho base e i z size bytes ht hi hz hsize hby hzs hsz v n cs hs hown ad m c ds hx hl hc h1 (by unfold maxLen; omega) (Nat.le_trans (Nat.mul_le_mul hlen hbs) (by decide)) hbase (by
      intro v' w' h1 h2 h3
      refine h v' w' ⟨h1, rfl⟩ (by rw [hF1]; exact Mod.of_grown h2) (fun b hb => ?_)
      rcases h3 with h3 | h3
      · exact .inl (by rw [hF1]; exact h3 ▸ hb)
      · rw [h3] at hb
        simp only [Option.some.injEq] at hb
        have := (h1.lt b (by rw [h3, hb])).2
        exact .inr ⟨by omega, this⟩)
    rwa [if_pos (by simp [Region.wanted, hgd])] at h0
theorem ite_wantedG {c : Bool} {A B : Prop} (hc : c = true) (h : A) : if c = true then A else B := by rw [if_pos hc]; exact h
end Go.Proofs.Ytjemciikdijokaa

/-
  OpenSession, the document's.
-/
set_option linter.unusedVariables false
set_option linter.unusedSimpArgs false
namespace Go.Proofs.Ytjemciikdijokaa
open Go.RowKit
set_option linter.unusedSectionVars false
variable [DecidableEq Leg] [Inhabited Leg] [DecidableEq Ses] [Inhabited Ses] [DecidableEq Cont] [Inhabited Cont] [DecidableEq Bal] [Inhabited Bal] [DecidableEq Mrk] [Inhabited Mrk] [DecidableEq Shd] [Inhabited Shd] [DecidableEq Vot] [Inhabited Vot] [DecidableEq Slt] [Inhabited Slt] [DecidableEq Acc] [Inhabited Acc] [DecidableEq Trr] [Inhabited Trr] [DecidableEq Hrd] [Inhabited Hrd] [DecidableEq Ldr] [Inhabited Ldr] [DecidableEq Msg] [Inhabited Msg] [DecidableEq Clu] [Inhabited Clu] [DecidableEq SesR] [Inhabited SesR] [DecidableEq Ledg] [Inhabited Ledg]
attribute [local go_sem ↓] Go.wp_at_zero Go.wp_at_succ

theorem wp_app15Z (Y : World) {o : Oper} {a : Act} {K : Act → World → Prop} {Q : Exit → Act → World → Prop} (hgd : o.guard = none) (s x : Operand)
    (ho : o.op = .call { callee := .builtin .append, args := #[s, x], argTypes := #[25, 25] })
    (base : Nat) (v : Value) (F1 : Nat → Prop) (n : Nat) (cs : List Value) (hs : a.eval s = v) (u : Value) (m : Nat) (ds : List Value) (hx : a.eval x = u)
    (hown : Y.ownsRow base 52 3 v n cs ∧ F1 = (fun b => v.ownBlock = some b)) (hsrc : AppAny Y u m ds) (hl : ds.length = m * 3) (h1 : ∀ y ∈ ds, y.oneCell' = true) (hlen : n + m ≤ 1073741824) (hbase : base ≤ Y.heap.size)
    (h : ∀ v' w', (w'.ownsRow base 52 3 v' (n + m) (cs ++ ds) ∧ (fun b => v'.ownBlock = some b) = (fun b => v'.ownBlock = some b)) → Mod F1 Y w' → (∀ b, v'.ownBlock = some b → F1 b ∨ (Y.heap.size ≤ b ∧ b < w'.heap.size)) → K (a.put o.dst v') w') : Oper.wp Try.prog o a Y K Q := by
  obtain ⟨i0, hi, hz0, hz1, hz2⟩ := info_parts infoSess
  exact wp_appG Y hgd s x 25 ho 52 i0 _ 3 40 Try.underlying25 hi hz0 hz1 hz2 rfl (by decide) (by decide) base v F1 n cs hs u m ds hx hown hsrc hl h1 hlen hbase h
theorem addr_addZ3 (b o j : Nat) : (⟨b, o, none⟩ : Addr).add j = ⟨b, o + j, none⟩ := by
  by_cases h : j = 0
  · subst h; simp [Addr.add]
  · simp [Addr.add, h]
theorem sessAny_piece {w : World} {base g cap n : Nat} {cs : List Value} (h : w.ownsRow base 52 3 (.slice (some ⟨g, 0, none⟩) n cap) n cs) (i m : Nat) (hi : i + m ≤ n) (c : Nat) :
    AppAny w (.slice (some ⟨g, i * 3, none⟩) m c) m ((cs.drop (i * 3)).take (m * 3)) := by
  refine .inr ⟨_, _, rfl, fun j x hj => ?_⟩
  have hcl : cs.length = n * 3 := h.1
  rw [List.getElem?_take] at hj
  split at hj
  · rw [List.getElem?_drop] at hj
    have := h.cellAt (i * 3 + j) (by omega)
    rw [hj] at this
    rw [addr_addZ3]
    exact this
  · cases hj
theorem sessAny_none (W : World) (p : Option Addr) (c : Nat) : AppAny W (.slice p 0 c) 0 [] := by
  cases p with
  | none => exact .inl ⟨c, rfl, rfl, rfl⟩
  | some a => exact .inr ⟨a, c, rfl, fun j x hj => by simp at hj⟩
theorem sessAny_own {w : World} {base e size : Nat} {v : Value} {n : Nat} {cs : List Value} (h : w.ownsRow base e size v n cs) : AppAny w v n cs := by
  rcases h.2 with ⟨rfl, rfl⟩ | ⟨g, cap, cur, rfl, _, hh, _, _, _, ht⟩
  · refine .inl ⟨0, rfl, rfl, ?_⟩
    have := h.1
    simp at this
    exact this
  · refine .inr ⟨_, _, rfl, fun j x hj => ?_⟩
    have hlt : j < cs.length := by
      rcases Nat.lt_or_ge j cs.length with h | h
      · exact h
      · rw [List.getElem?_eq_none h] at hj; cases hj
    have hc := h.cellAt j (by rw [← h.1]; exact hlt)
    rw [addr_addZ3, Nat.zero_add, hc, hj]
def insGZ (base a n : Nat) (P1 L P2 : List Value) : Nat → (Nat → Value) → (Nat → Prop) → World → Prop
  | 0, y, F, w => w.ownsRow base 52 3 (y 45) 0 [] ∧ F = (fun b => (y 45).ownBlock = some b)
  | 4, y, F, w => w.ownsRow base 52 3 (y 49) a P1 ∧ F = (fun b => (y 49).ownBlock = some b)
  | 7, y, F, w => w.ownsRow base 52 3 (y 52) 1 L ∧ F = (fun b => (y 52).ownBlock = some b)
  | 8, y, F, w => w.ownsRow base 52 3 (y 53) (a + 1) (P1 ++ L) ∧ F = (fun b => (y 53).ownBlock = some b)
  | 12, y, F, w => w.ownsRow base 52 3 (y 57) (n + 1) (P1 ++ L ++ P2) ∧ F = (fun b => (y 57).ownBlock = some b)
  | _, _, _, _ => True
def insCZ : Nat → List Nat
  | 4 => [0]
  | 8 => [4]
  | 12 => [8]
  | _ => []
set_option maxRecDepth 20000 in
set_option maxHeartbeats 16000000 in
theorem specOpenS_u (x : Value) (l : List Ses) (c : Int) (w : World) (hx : sessR.V w x l) :
    Calls Try.prog 11 #[x, .int .i64 c] w fun e w' => ∃ v F, e = .returned v ∧ sesRR.O w' w.heap.size F v (openD l c) ∧ Below w.heap.size w w' := by
  have HFt : Hid (∀ W, Below w.heap.size w W → Calls Try.prog 7 #[x] W fun e w' => e = .returned (.int .i64 (sesF l)) ∧ Below W.heap.size W w') := fun W hW => specSesF_any x l W (sessR.below hx hW)
  have HCp : Hid (SesOk l → ∀ W, Below w.heap.size w W → Calls Try.prog 29 #[x] W fun e w' => ∃ v F, e = .returned v ∧ sessR.O w' W.heap.size F v l ∧ Below W.heap.size W w') := fun hok W hW => l15Copy_u x l W (sessR.below hx hW) (Nat.le_trans hok.len (by omega)) (fun k hk => Nat.le_trans (hok.sent k hk) (by omega))
  have HFd : Hid (SesOk l → ∀ W, Below w.heap.size w W → Calls Try.prog 30 #[x, .int .i64 c] W fun e w' => ∃ i : Int, e = .returned (.int .i64 i) ∧ decide (0 ≤ i) = hasZ c l ∧ Below W.heap.size W w') := fun hok W hW => l15Find_any x l c W (sessR.below hx hW) hok
  have HE0 : Hid (¬ sesF l = 0 → openD l c = errZ (sesF l)) := fun h => by show _ = _; unfold openD; rw [if_neg h]
  have HE3 : Hid (sesF l = 0 → inB c 1 999 = false → openD l c = errZ 3) := fun h h1 => by show _ = _; unfold openD; rw [if_pos h, if_neg (by rw [h1]; simp)]
  have HEs : Hid (sesF l = 0 → inB c 1 999 = true → hasZ c l = true → openD l c = ⟨0, 0, l, cluZ⟩) := fun h h1 h2 => by show _ = _; unfold openD; rw [if_pos h, if_pos h1, if_pos h2]
  have HE2 : Hid (sesF l = 0 → inB c 1 999 = true → hasZ c l = false → l.length = 10 → openD l c = errZ 2) := fun h h1 h2 h3 => by show _ = _; unfold openD; rw [if_pos h, if_pos h1, if_neg (by rw [h2]; simp), if_pos h3]
  have HEp : Hid (sesF l = 0 → inB c 1 999 = true → hasZ c l = false → ¬ l.length = 10 → openD l c = ⟨0, 0, putZ c l, cluZ⟩) := fun h h1 h2 h3 => by show _ = _; unfold openD; rw [if_pos h, if_pos h1, if_neg (by rw [h2]; simp), if_neg h3]
  have HOk : Hid (sesF l = 0 → SesOk l) := sesOk_of
  generalize openD l c = Z at *
  obtain ⟨ax, cx, rfl⟩ := sess_form hx
  clear hx
  go_enter Try.func11, Try.ntmps11
  go_wp2_with fail
  refine (HFt.out _ (by (repeat (first | exact Below.refl _ _ | assumption | refine Below.drew ?_ | refine balloc ?_ _ | refine bset ?_ (by simp; omega) _ | refine bset ?_ (by simp) _ | refine bstep ?_ (by assumption))))).mono ?_
  rintro e w1 ⟨rfl, hb1⟩
  have r0 : w1.cell? ⟨w.heap.size, 0, none⟩ = some (.int .i64 0) := cell_keep hb1 (by simp [go_sem])
  have r1 : w1.cell? ⟨w.heap.size, 1, none⟩ = some (.int .i64 0) := cell_keep hb1 (by simp [go_sem])
  have r2 : w1.cell? ⟨w.heap.size, 2, none⟩ = some (.slice none 0 0) := cell_keep hb1 (by simp [go_sem])
  have r3 : w1.cell? ⟨w.heap.size, 3, none⟩ = some (.slice none 0 0) := cell_keep hb1 (by simp [go_sem])
  have r4 : w1.cell? ⟨w.heap.size, 4, none⟩ = some (.slice none 0 0) := cell_keep hb1 (by simp [go_sem])
  have r5 : w1.cell? ⟨w.heap.size, 5, none⟩ = some (.slice none 0 0) := cell_keep hb1 (by simp [go_sem])
  have r6 : w1.cell? ⟨w.heap.size, 6, none⟩ = some (.slice none 0 0) := cell_keep hb1 (by simp [go_sem])
  have r7 : w1.cell? ⟨w.heap.size, 7, none⟩ = some (.slice none 0 0) := cell_keep hb1 (by simp [go_sem])
  have rf : ∀ o, w1.frozen? ⟨w.heap.size, o, none⟩ = false := fun o => by rw [(bcell hb1).2 _ _ (by simp)]; simp [go_sem]
  have hz1 := hb1.size
  simp only [World.size_alloc] at hz1
  have hB1 : Below w.heap.size w w1 := bstep (by (repeat (first | exact Below.refl _ _ | assumption | refine Below.drew ?_ | refine balloc ?_ _ | refine bset ?_ (by simp; omega) _ | refine bset ?_ (by simp) _ | refine bstep ?_ (by assumption)))) hb1
  clear hb1 HFt
  by_cases h0 : sesF l = 0
  · have hok := HOk.out h0
    have HCq := HCp.out hok
    have HFe := HFd.out hok
    have hl10 := hok.len
    have HOk2 : Hid (SesOk l) := hok
    have HCp2 : Hid (∀ W, Below w.heap.size w W → Calls Try.prog 29 #[.slice ax l.length cx] W fun e w' => ∃ v F, e = .returned v ∧ sessR.O w' W.heap.size F v l ∧ Below W.heap.size W w') := HCq
    have HFd2 : Hid (∀ W, Below w.heap.size w W → Calls Try.prog 30 #[.slice ax l.length cx, .int .i64 c] W fun e w' => ∃ i : Int, e = .returned (.int .i64 i) ∧ decide (0 ≤ i) = hasZ c l ∧ Below W.heap.size W w') := HFe
    have HE3a := HE3.out h0
    have HEsa := HEs.out h0
    have HE2a := HE2.out h0
    have HEpa := HEp.out h0
    have HE3 : Hid (inB c 1 999 = false → Z = errZ 3) := HE3a
    have HEs : Hid (inB c 1 999 = true → hasZ c l = true → Z = ⟨0, 0, l, cluZ⟩) := HEsa
    have HE2 : Hid (inB c 1 999 = true → hasZ c l = false → l.length = 10 → Z = errZ 2) := HE2a
    have HEp : Hid (inB c 1 999 = true → hasZ c l = false → ¬ l.length = 10 → Z = ⟨0, 0, putZ c l, cluZ⟩) := HEpa
    rw [h0]
    clear h0 hok HCq HFe HE3a HEsa HE2a HEpa HE0 HOk HCp HFd
    cases h1 : inB c 1 999
    · have HC : Hid (Z = errZ 3) := HE3.out h1
      clear HE3 HEs HE2 HEp
      go_wp2_with (first | (go_at_call 21; refine (l1In_any _ _ _ _).mono ?_; rintro e w' ⟨rfl, hw⟩; obtain rfl := hw.symm) | fail)
      refine bodyPost_ret (v := .agg #[.int .i64 3, .int .i64 0, .slice none 0 0, .slice none 0 0, .slice none 0 0, .slice none 0 0, .slice none 0 0, .slice none 0 0]) (by simp [results, Try.results11, go_sem, r0, r1, r2, r3, r4, r5, r6, r7, rf]) rfl (sesR_err 3 HC.out (by (repeat (first | refine bset ?_ (by simp; omega) _ | refine bset ?_ (by simp) _ | refine balloc ?_ _ | assumption))))
    · have HEs2 : Hid (hasZ c l = true → Z = ⟨0, 0, l, cluZ⟩) := HEs.out h1
      have HE22 : Hid (hasZ c l = false → l.length = 10 → Z = errZ 2) := HE2.out h1
      have HEp2 : Hid (hasZ c l = false → ¬ l.length = 10 → Z = ⟨0, 0, putZ c l, cluZ⟩) := HEp.out h1
      clear HE3 HEs HE2 HEp
      obtain ⟨n, hn'⟩ : ∃ n, n = l.length := ⟨_, rfl⟩
      have HN : Hid (l.length = n) := hn'.symm
      rw [← hn'] at hl10 HCp2 HFd2 HE22 HEp2 ⊢
      clear hn'
      go_wp2_with (first | (go_at_call 21; refine (l1In_any _ _ _ _).mono ?_; rintro e w' ⟨rfl, hw⟩; obtain rfl := hw.symm) | fail)
      refine (HCp2.out _ (by (repeat (first | exact Below.refl _ _ | assumption | refine Below.drew ?_ | refine balloc ?_ _ | refine bset ?_ (by simp; omega) _ | refine bset ?_ (by simp) _ | refine bstep ?_ (by assumption))))).mono ?_
      rintro e w2 ⟨v2, F2, rfl, o2, hb2⟩
      obtain ⟨a2, c2, e2⟩ := sess_form (sessR.ofO o2)
      rw [HN.out] at e2
      subst e2
      have HO2 : Hid (sessR.O w2 w1.heap.size F2 (.slice a2 n c2) l) := o2
      have hB2 : Below w.heap.size w w2 := bstep hB1 hb2
      have hz2 := hb2.size
      replace r0 := cell_keep hb2 r0
      replace r1 := cell_keep hb2 r1
      replace r2 := cell_keep hb2 r2
      replace r3 := cell_keep hb2 r3
      replace r4 := cell_keep hb2 r4
      replace r5 := cell_keep hb2 r5
      replace r6 := cell_keep hb2 r6
      replace r7 := cell_keep hb2 r7
      replace rf : ∀ o, w2.frozen? ⟨w.heap.size, o, none⟩ = false := fun o => by rw [(bcell hb2).2 _ _ (by omega)]; exact rf o
      clear o2 hb2 HCp2 hB1
      go_wp2_with fail
      refine (HFd2.out _ (by (repeat (first | exact Below.refl _ _ | assumption | refine Below.drew ?_ | refine balloc ?_ _ | refine bset ?_ (by simp; omega) _ | refine bset ?_ (by simp) _ | refine bstep ?_ (by assumption))))).mono ?_
      rintro e w3 ⟨fi, rfl, hfi, hb3⟩
      have hz3 := hb3.size
      have HO3 : Hid (sessR.O w3 w1.heap.size F2 (.slice a2 n c2) l) := sessR.keep HO2.out hb3
      have HF3 : Hid (∀ b, F2 b → w1.heap.size ≤ b ∧ b < w2.heap.size) := fun b hb => sessR.rng HO2.out b hb
      have hB3 : Below w.heap.size w w3 := bstep hB2 hb3
      replace r0 := cell_keep hb3 r0
      replace r1 := cell_keep hb3 r1
      replace r2 := cell_keep hb3 r2
      replace r3 := cell_keep hb3 r3
      replace r4 := cell_keep hb3 r4
      replace r5 := cell_keep hb3 r5
      replace r6 := cell_keep hb3 r6
      replace r7 := cell_keep hb3 r7
      replace rf : ∀ o, w3.frozen? ⟨w.heap.size, o, none⟩ = false := fun o => by rw [(bcell hb3).2 _ _ (by omega)]; exact rf o
      clear hb3 HFd2 HO2 hB2
      cases hh : hasZ c l
      · have g1 : ¬ (0 : Int) ≤ fi := by rw [hh] at hfi; exact of_decide_eq_false hfi
        clear hfi
        by_cases hten : n = 10
        · have HC : Hid (Z = errZ 2) := HE22.out hh hten
          have ht1 : (10 : Int) ≤ (n : Int) := by omega
          clear HEs2 HE22 HEp2
          go_wp2
          refine bodyPost_ret (v := .agg #[.int .i64 2, .int .i64 0, .slice none 0 0, .slice none 0 0, .slice none 0 0, .slice none 0 0, .slice none 0 0, .slice none 0 0]) (by simp [results, Try.results11, go_sem, r0, r1, r2, r3, r4, r5, r6, r7, rf]) rfl (sesR_err 2 HC.out (by (repeat (first | refine bset ?_ (by simp; omega) _ | refine bset ?_ (by simp) _ | refine balloc ?_ _ | assumption))))
        · have HC : Hid (Z = ⟨0, 0, putZ c l, cluZ⟩) := HEp2.out hh hten
          have ht1 : ¬ (10 : Int) ≤ (n : Int) := by omega
          have HBp : Hid (∀ b, F2 b → w1.heap.size ≤ b) := fun b hb => (HF3.out b hb).1
          clear HEs2 HE22 HEp2
          go_wp2
          go_loopw [7] (fun i w' => ∃ k : Nat, k ≤ n ∧ i = .int .i64 k ∧ Hid (∀ j, j < k → cliAt l j < c) ∧ Below w3.heap.size w3 w') (fun i _ => n - (intOf i).toNat)
          case atStart => exact ⟨0, Nat.zero_le _, rfl, fun j h => absurd h (Nat.not_lt_zero _), Below.refl _ _⟩
          case round =>
            obtain ⟨k, hk, rfl, HA, hb3⟩ := hrel
            have HOZ : Hid (sessR.O wr w1.heap.size F2 (.slice a2 n c2) l) := sessR.keep HO3.out hb3
            have hbl : Below w.heap.size w wr := bstep hB3 hb3
            have hz4 := hb3.size
            replace r0 := cell_keep hb3 r0
            replace r1 := cell_keep hb3 r1
            replace r2 := cell_keep hb3 r2
            replace r3 := cell_keep hb3 r3
            replace r4 := cell_keep hb3 r4
            replace r5 := cell_keep hb3 r5
            replace r6 := cell_keep hb3 r6
            replace r7 := cell_keep hb3 r7
            replace rf : ∀ o, wr.frozen? ⟨w.heap.size, o, none⟩ = false := fun o => by rw [(bcell hb3).2 _ _ (by omega)]; exact rf o
            have HBW : Hid (Below w3.heap.size w3 wr) := hb3
            clear hb3 hB3
            by_cases hlt : k < n
            · obtain ⟨ag, cg, e0, hcx, hmx, hxv⟩ := sess_at (sessR.ofO HOZ.out)
              simp only [Value.slice.injEq] at e0
              obtain ⟨rfl, hx0, rfl⟩ := e0
              clear hx0
              obtain ⟨g, o, pp, qq, he, hc, _⟩ := hxv k (by rw [HN.out]; exact hlt)
              clear hxv
              have hg0 : ∃ g', a2 = some ⟨g', 0, none⟩ := by
                obtain ⟨cs, us, fs, hp, hF⟩ := HOZ.out
                rcases hp.row.2 with ⟨h, _⟩ | ⟨g', cap, cur, h, _⟩
                · simp only [Value.slice.injEq] at h; omega
                · simp only [Value.slice.injEq] at h
                  obtain ⟨rfl, _, rfl⟩ := h
                  exact ⟨g', rfl⟩
              obtain ⟨g', rfl⟩ := hg0
              simp only [Option.some.injEq, Addr.mk.injEq, and_true] at he
              obtain ⟨rfl, rfl⟩ := he
              simp only [Nat.zero_add] at hc
              rw [HN.out] at hcx
              unfold maxLen at hmx
              have hi5 : (k : Int) < n := by omega
              have hi6 : decide (k < n) = true := decide_eq_true hlt
              have hi4 : (0 : Int) ≤ k := by omega
              replace hc : wr.cell? ⟨g', k * 3, none⟩ = some (.int .i64 (cliAt l k)) := hc
              by_cases hah : cliAt l k < c
              · have HA2 : Hid (∀ j, j < k + 1 → cliAt l j < c) := fun j hj => by
                  by_cases e : j = k
                  · rw [e]; exact hah
                  · exact HA.out j (by omega)
                generalize cliAt l k = z at *
                go_wp2
                exact ⟨⟨k + 1, by omega, by go_num, HA2, HBW.out⟩, by simp [intOf]; omega⟩
              · have HPut : Hid (putZ c l = l.take k ++ [⟨c, 1, []⟩] ++ l.drop k) := by
                  show putZ c l = _
                  unfold putZ
                  rw [posZ_eq c l k (by rw [HN.out]; omega) HA.out (fun _ => hah)]
                obtain ⟨cc, hcc⟩ : ∃ cc, cc = c2 := ⟨_, rfl⟩
                rw [← hcc] at HOZ hcx hmx ⊢
                clear hcc HA HO3
                obtain ⟨g, hg⟩ : ∃ g, g = g' := ⟨_, rfl⟩
                rw [← hg] at HOZ hc ⊢
                clear hg
                generalize cliAt l k = z at *
                have c1 : k ≤ cc := by omega
                have c2 : ¬ cc = k := by omega
                have c3 : (k : Int) ≤ cc := by omega
                have c4 : (k : Int) ≤ n := by omega
                have c5 : k ≤ n := by omega
                go_wp2
                refine wp_region_noPanic ?_
                refine region_upto (fun W => Below wr.heap.size wr W) 13 (by kernel_rfl) (by (repeat (first | exact Below.refl _ _ | assumption | refine Below.drew ?_ | refine balloc ?_ _ | refine bset ?_ (by simp; omega) _ | refine bset ?_ (by simp) _ | refine bstep ?_ (by assumption)))) (fun hS => ?_)
                refine upto_take (i := 1) (v := ?_) rfl (by kernel_rfl) (by kernel_rfl) (by kernel_rfl) (by kernel_rfl) (fun _ _ _ h => h) (by rfl) hS ?_ ?_
                rotate_left
                · intro wS hSw
                  try dsimp only at hSw
                  first | (go_simp; done) | (go_simp; with_reducible rfl)
                try simp only [Act.put, List.getElem_toArray, List.getElem_cons_zero, List.getElem_cons_succ, List.setIfInBounds_toArray, List.set_cons_zero, List.set_cons_succ]
                refine upto_take (i := 2) (v := ?_) rfl (by kernel_rfl) (by kernel_rfl) (by kernel_rfl) (by kernel_rfl) (fun _ _ _ h => h) (by rfl) hS ?_ ?_
                rotate_left
                · intro wS hSw
                  try dsimp only at hSw
                  first | (go_simp; done) | (go_simp; with_reducible rfl)
                try simp only [Act.put, List.getElem_toArray, List.getElem_cons_zero, List.getElem_cons_succ, List.setIfInBounds_toArray, List.set_cons_zero, List.set_cons_succ]
                refine upto_take (i := 3) (v := ?_) rfl (by kernel_rfl) (by kernel_rfl) (by kernel_rfl) (by kernel_rfl) (fun _ _ _ h => h) (by rfl) hS ?_ ?_
                rotate_left
                · intro wS hSw
                  try dsimp only at hSw
                  first | (go_simp; done) | (go_simp; with_reducible rfl)
                try simp only [Act.put, List.getElem_toArray, List.getElem_cons_zero, List.getElem_cons_succ, List.setIfInBounds_toArray, List.set_cons_zero, List.set_cons_succ]
                refine upto_take (i := 5) (v := ?_) rfl (by kernel_rfl) (by kernel_rfl) (by kernel_rfl) (by kernel_rfl) (fun _ _ _ h => h) (by rfl) hS ?_ ?_
                rotate_left
                · intro wS hSw
                  try dsimp only at hSw
                  first | (go_simp; done) | (go_simp; with_reducible rfl)
                try simp only [Act.put, List.getElem_toArray, List.getElem_cons_zero, List.getElem_cons_succ, List.setIfInBounds_toArray, List.set_cons_zero, List.set_cons_succ]
                refine upto_take (i := 6) (v := ?_) rfl (by kernel_rfl) (by kernel_rfl) (by kernel_rfl) (by kernel_rfl) (fun _ _ _ h => h) (by rfl) hS ?_ ?_
                rotate_left
                · intro wS hSw
                  try dsimp only at hSw
                  first | (go_simp; done) | (go_simp; with_reducible rfl)
                try simp only [Act.put, List.getElem_toArray, List.getElem_cons_zero, List.getElem_cons_succ, List.setIfInBounds_toArray, List.set_cons_zero, List.set_cons_succ]
                refine upto_take (i := 9) (v := ?_) rfl (by kernel_rfl) (by kernel_rfl) (by kernel_rfl) (by kernel_rfl) (fun _ _ _ h => h) (by rfl) hS ?_ ?_
                rotate_left
                · intro wS hSw
                  try dsimp only at hSw
                  first | (go_simp; done) | (go_simp; with_reducible rfl)
                try simp only [Act.put, List.getElem_toArray, List.getElem_cons_zero, List.getElem_cons_succ, List.setIfInBounds_toArray, List.set_cons_zero, List.set_cons_succ]
                refine upto_take (i := 10) (v := ?_) rfl (by kernel_rfl) (by kernel_rfl) (by kernel_rfl) (by kernel_rfl) (fun _ _ _ h => h) (by rfl) hS ?_ ?_
                rotate_left
                · intro wS hSw
                  try dsimp only at hSw
                  first | (go_simp; done) | (go_simp; with_reducible rfl)
                try simp only [Act.put, List.getElem_toArray, List.getElem_cons_zero, List.getElem_cons_succ, List.setIfInBounds_toArray, List.set_cons_zero, List.set_cons_succ]
                refine upto_take (i := 11) (v := ?_) rfl (by kernel_rfl) (by kernel_rfl) (by kernel_rfl) (by kernel_rfl) (fun _ _ _ h => h) (by rfl) hS ?_ ?_
                rotate_left
                · intro wS hSw
                  try dsimp only at hSw
                  first | (go_simp; done) | (go_simp; with_reducible rfl)
                try simp only [Act.put, List.getElem_toArray, List.getElem_cons_zero, List.getElem_cons_succ, List.setIfInBounds_toArray, List.set_cons_zero, List.set_cons_succ]
                have hZ0 : Below wr.heap.size wr wr.drew := Below.drew (Below.refl _ _)
                generalize wr.drew = W0 at *
                have hBz : Below w.heap.size w W0 := bstep hbl hZ0
                obtain ⟨cs, us, fs, hp, hFF⟩ := HOZ.out
                have hpW : PO sesR 52 3 lvSes W0 w1.heap.size (.slice (some ⟨g, 0, none⟩) n cc) l.length l.length (fun i => l.getD i default) cs us fs := hp.keep hZ0
                have hrow : ∀ W, Below W0.heap.size W0 W → W.ownsRow w1.heap.size 52 3 (.slice (some ⟨g, 0, none⟩) n cc) l.length cs := fun W hW => (hpW.keep hW).row
                rw [HN.out] at hrow
                have hcl : cs.length = n * 3 := by have := hp.row.1; rw [HN.out] at this; exact this
                have HP1 : Hid ((cs.take (k * 3)).length = k * 3) := by show _ = _; rw [List.length_take, hcl]; try omega
                have HP2 : Hid ((cs.drop (k * 3)).length = (n - k) * 3) := by show _ = _; rw [List.length_drop, hcl]; try omega
                have H1c : Hid (∀ y ∈ cs, y.oneCell' = true) := sess_one hp
                have HR : Hid (∀ W, Below W0.heap.size W0 W → W.ownsRow w1.heap.size 52 3 (.slice (some ⟨g, 0, none⟩) n cc) n cs) := hrow
                have HPW : Hid (PO sesR 52 3 lvSes W0 w1.heap.size (.slice (some ⟨g, 0, none⟩) n cc) l.length l.length (fun i => l.getD i default) cs us fs) := hpW
                have HFF : Hid (∀ b, F2 b ↔ ((.slice (some ⟨g, 0, none⟩) n cc : Value).ownBlock = some b ∨ ∃ i, i < l.length ∧ fs i b)) := hFF
                have hw0 : wr.heap.size ≤ W0.heap.size := hZ0.size
                have hw13 : w1.heap.size ≤ W0.heap.size := by omega
                clear hp hpW hrow hFF
                have HS1 : Hid (∀ W, Below W0.heap.size W0 W → AppAny W (.slice (some ⟨g, 0, none⟩) k cc) k (cs.take (k * 3))) := fun W hW => by
                  have h := sessAny_piece (HR.out W hW) 0 k (by omega) cc
                  simpa using h
                have HS2 : Hid (∀ W, Below W0.heap.size W0 W → AppAny W (.slice (some ⟨g, k * 3, none⟩) (n - k) (cc - k)) (n - k) (cs.drop (k * 3))) := fun W hW => by
                  have h := sessAny_piece (HR.out W hW) k (n - k) (by omega) (cc - k)
                  rw [List.take_of_length_le (by rw [HP2.out]; exact Nat.le_refl _)] at h
                  exact h
                obtain ⟨P1, hP1⟩ : ∃ P, cs.take (k * 3) = P := ⟨_, rfl⟩
                obtain ⟨P2, hP2⟩ : ∃ P, cs.drop (k * 3) = P := ⟨_, rfl⟩
                have HP12 : Hid (cs.take (k * 3) = P1 ∧ cs.drop (k * 3) = P2) := ⟨hP1, hP2⟩
                have H1P2 : Hid (∀ y ∈ P2, y.oneCell' = true) := fun y hy => H1c.out y (List.mem_of_mem_drop (by rw [hP2]; exact hy))
                have H1P1 : Hid (∀ y ∈ P1, y.oneCell' = true) := fun y hy => H1c.out y (List.mem_of_mem_take (by rw [hP1]; exact hy))
                rw [hP1] at HS1 HP1
                rw [hP2] at HS2 HP2
                clear hP1 hP2
                refine upto_cons' [(0, 45), (4, 49), (7, 52), (8, 53), (12, 57)] insCZ (insGZ W0.heap.size k n P1 [.int .i64 c, .int .i64 1, .slice none 0 0] P2) (by kernel_rfl) hS ?_ ?_ ?_ ?_
                · intro F' W W' h hm hF
                  exact hm.below h h.size (fun b hb => by have := hF b hb; omega)
                · intro pp hpp
                  simp only [List.mem_cons, List.not_mem_nil, or_false] at hpp
                  rcases hpp with rfl | rfl | rfl | rfl | rfl
                  all_goals
                    intro y y' F F' W W' h hi hm hap hF e _
                    simp only [insGZ] at h ⊢
                    rw [e]
                    exact ⟨hm.owns h.1 (fun b hb h2 => hap b h2 (by rw [h.2]; exact hb)), h.2⟩
                · intro pp hpp
                  simp only [List.mem_cons, List.not_mem_nil, or_false] at hpp
                  rcases hpp with rfl | rfl | rfl | rfl | rfl
                  all_goals
                    refine ⟨_, rfl, rfl, ?_⟩
                    intro y W Φ hSW hBW hd K hK
                  · clear hd
                    refine ⟨?_⟩
                    simp only [over, Act.put, List.getElem_toArray, List.getElem_cons_zero, List.getElem_cons_succ, List.map_cons, List.map_nil, List.foldl_cons, List.foldl_nil, List.setIfInBounds_toArray, List.set_cons_zero, List.set_cons_succ] at hK ⊢
                    go_simp
                    refine hK _ _ (fun b => b = W.heap.size) (Mod.of_below (by (repeat (first | exact Below.refl _ _ | assumption | refine Below.drew ?_ | refine balloc ?_ _ | refine bset ?_ (by simp; omega) _ | refine bset ?_ (by simp) _ | refine bstep ?_ (by assumption))))) (fun b hb => .inr (by first | omega | (dsimp only at hb; omega) | (simp; omega))) ?_
                    simp only [insGZ, updV]
                    refine ⟨World.ownsRow_lit (base := W0.heap.size) (e := 52) (size := 3) W #[] 0 hBW.size (by unfold maxLen; omega) rfl, ?_⟩
                    funext b
                    simp [Value.ownBlock, eq_comm]
                  · have g0 := (hd (0, 45) (by simp) (by kernel_rfl) (.inl (by simp [insCZ]))).2
                    clear hd
                    simp only [insGZ] at g0
                    refine ⟨?_⟩
                    simp only [over, Act.put, List.getElem_toArray, List.getElem_cons_zero, List.getElem_cons_succ, List.map_cons, List.map_nil, List.foldl_cons, List.foldl_nil, List.setIfInBounds_toArray, List.set_cons_zero, List.set_cons_succ] at hK ⊢
                    have hsrc := HS1.out W hBW
                    refine ite_wantedG rfl ?_
                    refine wp_app15Z W ?hg1 (.tmp 45) (.tmp 48) ?ho1 W0.heap.size (y 45) (Φ 0) 0 [] ?hs1 (.slice (some ⟨g, 0, none⟩) k cc) k P1 ?hx1 g0 hsrc HP1.out H1P1.out (by omega) hBW.size ?_
                    case hg1 => rfl
                    case ho1 => rfl
                    case hs1 => rfl
                    case hx1 => rfl
                    intro v' w' hO hm hl
                    refine hK _ _ (fun b => v'.ownBlock = some b) (hm.mono (fun b hb => ⟨0, by simp [insCZ], hb⟩)) (fun b hb => (hl b hb).imp (fun h => ⟨0, by simp [insCZ], h⟩) (fun h => h)) ?_
                    simp only [insGZ, updV]
                    simpa using hO
                  · clear hd
                    refine ⟨?_⟩
                    simp only [over, Act.put, List.getElem_toArray, List.getElem_cons_zero, List.getElem_cons_succ, List.map_cons, List.map_nil, List.foldl_cons, List.foldl_nil, List.setIfInBounds_toArray, List.set_cons_zero, List.set_cons_succ] at hK ⊢
                    go_simp
                    refine hK _ _ (fun b => b = W.heap.size) (Mod.of_below (by (repeat (first | exact Below.refl _ _ | assumption | refine Below.drew ?_ | refine balloc ?_ _ | refine bset ?_ (by simp; omega) _ | refine bset ?_ (by simp) _ | refine bstep ?_ (by assumption))))) (fun b hb => .inr (by first | omega | (dsimp only at hb; omega) | (simp; omega))) ?_
                    simp only [insGZ, updV]
                    refine ⟨World.ownsRow_lit (base := W0.heap.size) (e := 52) (size := 3) W #[.int .i64 c, .int .i64 1, .slice none 0 0] 1 hBW.size (by unfold maxLen; omega) rfl, ?_⟩
                    funext b
                    simp [Value.ownBlock, eq_comm]
                  · have g0 := (hd (4, 49) (by simp) (by kernel_rfl) (.inl (by simp [insCZ]))).2
                    have g1 := (hd (7, 52) (by simp) (by kernel_rfl) (.inr (by simp [insCZ]))).2
                    clear hd
                    simp only [insGZ] at g0 g1
                    refine ⟨?_⟩
                    simp only [over, Act.put, List.getElem_toArray, List.getElem_cons_zero, List.getElem_cons_succ, List.map_cons, List.map_nil, List.foldl_cons, List.foldl_nil, List.setIfInBounds_toArray, List.set_cons_zero, List.set_cons_succ] at hK ⊢
                    refine ite_wantedG rfl ?_
                    refine wp_app15Z W ?hg2 (.tmp 49) (.tmp 52) ?ho2 W0.heap.size (y 49) (Φ 4) k P1 ?hs2 (y 52) 1 _ ?hx2 g0 (sessAny_own g1.1) rfl (fun y' hy' => by simp only [List.mem_cons, List.not_mem_nil, or_false] at hy'; rcases hy' with rfl | rfl | rfl <;> rfl) (by omega) hBW.size ?_
                    case hg2 => rfl
                    case ho2 => rfl
                    case hs2 => rfl
                    case hx2 => rfl
                    intro v' w' hO hm hl
                    refine hK _ _ (fun b => v'.ownBlock = some b) (hm.mono (fun b hb => ⟨4, by simp [insCZ], hb⟩)) (fun b hb => (hl b hb).imp (fun h => ⟨4, by simp [insCZ], h⟩) (fun h => h)) ?_
                    simp only [insGZ, updV]
                    simpa using hO
                  · have g0 := (hd (8, 53) (by simp) (by kernel_rfl) (.inl (by simp [insCZ]))).2
                    clear hd
                    simp only [insGZ] at g0
                    refine ⟨?_⟩
                    simp only [over, Act.put, List.getElem_toArray, List.getElem_cons_zero, List.getElem_cons_succ, List.map_cons, List.map_nil, List.foldl_cons, List.foldl_nil, List.setIfInBounds_toArray, List.set_cons_zero, List.set_cons_succ] at hK ⊢
                    have hsrc := HS2.out W hBW
                    refine ite_wantedG rfl ?_
                    refine wp_app15Z W ?hg3 (.tmp 53) (.tmp 56) ?ho3 W0.heap.size (y 53) (Φ 8) (k + 1) _ ?hs3 (.slice (some ⟨g, k * 3, none⟩) (n - k) (cc - k)) (n - k) P2 ?hx3 g0 hsrc HP2.out H1P2.out (by omega) hBW.size ?_
                    case hg3 => rfl
                    case ho3 => rfl
                    case hs3 => rfl
                    case hx3 => rfl
                    intro v' w' hO hm hl
                    refine hK _ _ (fun b => v'.ownBlock = some b) (hm.mono (fun b hb => ⟨8, by simp [insCZ], hb⟩)) (fun b hb => (hl b hb).imp (fun h => ⟨8, by simp [insCZ], h⟩) (fun h => h)) ?_
                    simp only [insGZ, updV]
                    have e9 : k + 1 + (n - k) = n + 1 := by omega
                    rw [e9] at hO
                    simpa using hO
                · refine ⟨_, rfl, ?_⟩
                  intro y W Φ hSW hBW hd hap K hK
                  have g13 := (hd (12, 57) (by simp) (by simp [insCZ])).2
                  clear hd hap
                  simp only [insGZ] at g13
                  have g13' := g13.1
                  clear g13
                  have hform : ∃ g9 c9, y 57 = .slice (some ⟨g9, 0, none⟩) (n + 1) c9 := by
                    rcases g13'.2 with ⟨_, h⟩ | ⟨g9, c9, _, h, _⟩
                    · omega
                    · exact ⟨g9, c9, h⟩
                  obtain ⟨g9, c9, e9⟩ := hform
                  have hBw2 : Below w.heap.size w W := bstep hBz hBW
                  have HIn : Hid (∃ F', sessR.O W w1.heap.size F' (.slice (some ⟨g9, 0, none⟩) (n + 1) c9) (putZ c l) ∧ ∀ b, F' b → F2 b ∨ (Value.slice none 0 0).ownBlock = some b ∨ W0.heap.size ≤ b) := by
                    have h1 : (fun (P Q : List Value) => W.ownsRow w1.heap.size 52 3 (.slice (some ⟨g9, 0, none⟩) (n + 1) c9) (l.length + 1) (P ++ lvSes (.agg #[.int .i64 c, .int .i64 1, .slice none 0 0]) ++ Q)) (cs.take (k * 3)) (cs.drop (k * 3)) := by
                      rw [HP12.out.1, HP12.out.2, HN.out, ← e9]
                      exact owns_base g13' (by omega)
                    have h2 := NO.ins HPW.out HFF.out (i := k) (by rw [HN.out]; omega) (new_ses W0 w1.heap.size c) rfl (fun b _ h => noBlkZ h) h1 (Mod.of_below hBW) (fun b hb => .inr (by have := (g13'.lt b (by rw [e9]; exact hb)).1; omega))
                    rw [HPut.out]
                    exact h2
                  refine ⟨?_⟩
                  simp only [over, Act.put, List.getElem_toArray, List.getElem_cons_zero, List.getElem_cons_succ, List.map_cons, List.map_nil, List.foldl_cons, List.foldl_nil, List.setIfInBounds_toArray, List.set_cons_zero, List.set_cons_succ]
                  simp only [e9] at g13' ⊢
                  have s0 := cell_keep hBW (cell_keep hZ0 r0)
                  have s1 := cell_keep hBW (cell_keep hZ0 r1)
                  have s2 := cell_keep hBW (cell_keep hZ0 r2)
                  have s3 := cell_keep hBW (cell_keep hZ0 r3)
                  have s4 := cell_keep hBW (cell_keep hZ0 r4)
                  have s5 := cell_keep hBW (cell_keep hZ0 r5)
                  have s6 := cell_keep hBW (cell_keep hZ0 r6)
                  have s7 := cell_keep hBW (cell_keep hZ0 r7)
                  have sf : ∀ o, W.frozen? ⟨w.heap.size, o, none⟩ = false := fun o => by rw [(bcell hBW).2 _ _ (by omega), (bcell hZ0).2 _ _ (by omega)]; exact rf o
                  go_simp
                  refine hK _ _ ?_
                  clear hK K
                  refine NoPanic.normal ?_
                  obtain ⟨F', o9, hF9⟩ := HIn.out
                  have HO9 : Hid (sessR.O W w1.heap.size F' (.slice (some ⟨g9, 0, none⟩) (n + 1) c9) (putZ c l)) := o9
                  have HF9 : Hid (∀ b, F' b → w.heap.size < b) := fun b hb => by
                    rcases hF9 b hb with h | h | h
                    · have := HF3.out b h; omega
                    · exact (noBlkZ h).elim
                    · omega
                  clear o9 hF9 HIn g13' HS1 HS2 hS
                  go_wp2
                  refine bodyPost_ret (v := .agg #[.int .i64 0, .int .i64 0, .slice (some ⟨g9, 0, none⟩) (n + 1) c9, .slice none 0 0, .slice none 0 0, .slice none 0 0, .slice none 0 0, .slice none 0 0]) (by simp [results, Try.results11, go_sem, s0, s1, s2, s3, s4, s5, s6, s7, sf]) rfl (sesR_ret HC.out (setZ8 _ (sessR.base HO9.out (by omega)) (fun hb => by have := HF9.out _ hb; omega) _ _ _ _ _ _ _ _) (by (repeat (first | refine bset ?_ (by simp; omega) _ | refine bset ?_ (by simp) _ | refine balloc ?_ _ | assumption))))
            · have hkn : k = n := by omega
              subst hkn
              have HPut : Hid (putZ c l = l.take k ++ [⟨c, 1, []⟩] ++ l.drop k) := by
                show putZ c l = _
                unfold putZ
                rw [posZ_eq c l k (by rw [HN.out]; omega) HA.out (fun h => by rw [HN.out] at h; omega)]
              have hi5 : ¬ (k : Int) < k := by omega
              clear HA HO3
              have hown := HOZ.out
              obtain ⟨cs, us, fs, hp, hF⟩ := hown
              have hrw := hp.row
              rw [HN.out] at hrw
              clear hp hF
              rcases hrw.2 with ⟨h, h0⟩ | ⟨g, cc, cur, h, _, _, hnc, hcm, _, _⟩
              · simp only [Value.slice.injEq] at h
                obtain ⟨rfl, _, rfl⟩ := h
                subst h0
                clear hrw
                go_wp2
                refine wp_region_noPanic ?_
                refine region_upto (fun W => Below wr.heap.size wr W) 13 (by kernel_rfl) (by (repeat (first | exact Below.refl _ _ | assumption | refine Below.drew ?_ | refine balloc ?_ _ | refine bset ?_ (by simp; omega) _ | refine bset ?_ (by simp) _ | refine bstep ?_ (by assumption)))) (fun hS => ?_)
                refine upto_take (i := 1) (v := ?_) rfl (by kernel_rfl) (by kernel_rfl) (by kernel_rfl) (by kernel_rfl) (fun _ _ _ h => h) (by rfl) hS ?_ ?_
                rotate_left
                · intro wS hSw
                  try dsimp only at hSw
                  first | (go_simp; done) | (go_simp; with_reducible rfl)
                try simp only [Act.put, List.getElem_toArray, List.getElem_cons_zero, List.getElem_cons_succ, List.setIfInBounds_toArray, List.set_cons_zero, List.set_cons_succ]
                refine upto_take (i := 2) (v := ?_) rfl (by kernel_rfl) (by kernel_rfl) (by kernel_rfl) (by kernel_rfl) (fun _ _ _ h => h) (by rfl) hS ?_ ?_
                rotate_left
                · intro wS hSw
                  try dsimp only at hSw
                  first | (go_simp; done) | (go_simp; with_reducible rfl)
                try simp only [Act.put, List.getElem_toArray, List.getElem_cons_zero, List.getElem_cons_succ, List.setIfInBounds_toArray, List.set_cons_zero, List.set_cons_succ]
                refine upto_take (i := 3) (v := ?_) rfl (by kernel_rfl) (by kernel_rfl) (by kernel_rfl) (by kernel_rfl) (fun _ _ _ h => h) (by rfl) hS ?_ ?_
                rotate_left
                · intro wS hSw
                  try dsimp only at hSw
                  first | (go_simp; done) | (go_simp; with_reducible rfl)
                try simp only [Act.put, List.getElem_toArray, List.getElem_cons_zero, List.getElem_cons_succ, List.setIfInBounds_toArray, List.set_cons_zero, List.set_cons_succ]
                refine upto_take (i := 5) (v := ?_) rfl (by kernel_rfl) (by kernel_rfl) (by kernel_rfl) (by kernel_rfl) (fun _ _ _ h => h) (by rfl) hS ?_ ?_
                rotate_left
                · intro wS hSw
                  try dsimp only at hSw
                  first | (go_simp; done) | (go_simp; with_reducible rfl)
                try simp only [Act.put, List.getElem_toArray, List.getElem_cons_zero, List.getElem_cons_succ, List.setIfInBounds_toArray, List.set_cons_zero, List.set_cons_succ]
                refine upto_take (i := 6) (v := ?_) rfl (by kernel_rfl) (by kernel_rfl) (by kernel_rfl) (by kernel_rfl) (fun _ _ _ h => h) (by rfl) hS ?_ ?_
                rotate_left
                · intro wS hSw
                  try dsimp only at hSw
                  first | (go_simp; done) | (go_simp; with_reducible rfl)
                try simp only [Act.put, List.getElem_toArray, List.getElem_cons_zero, List.getElem_cons_succ, List.setIfInBounds_toArray, List.set_cons_zero, List.set_cons_succ]
                refine upto_take (i := 9) (v := ?_) rfl (by kernel_rfl) (by kernel_rfl) (by kernel_rfl) (by kernel_rfl) (fun _ _ _ h => h) (by rfl) hS ?_ ?_
                rotate_left
                · intro wS hSw
                  try dsimp only at hSw
                  first | (go_simp; done) | (go_simp; with_reducible rfl)
                try simp only [Act.put, List.getElem_toArray, List.getElem_cons_zero, List.getElem_cons_succ, List.setIfInBounds_toArray, List.set_cons_zero, List.set_cons_succ]
                refine upto_take (i := 10) (v := ?_) rfl (by kernel_rfl) (by kernel_rfl) (by kernel_rfl) (by kernel_rfl) (fun _ _ _ h => h) (by rfl) hS ?_ ?_
                rotate_left
                · intro wS hSw
                  try dsimp only at hSw
                  first | (go_simp; done) | (go_simp; with_reducible rfl)
                try simp only [Act.put, List.getElem_toArray, List.getElem_cons_zero, List.getElem_cons_succ, List.setIfInBounds_toArray, List.set_cons_zero, List.set_cons_succ]
                refine upto_take (i := 11) (v := ?_) rfl (by kernel_rfl) (by kernel_rfl) (by kernel_rfl) (by kernel_rfl) (fun _ _ _ h => h) (by rfl) hS ?_ ?_
                rotate_left
                · intro wS hSw
                  try dsimp only at hSw
                  first | (go_simp; done) | (go_simp; with_reducible rfl)
                try simp only [Act.put, List.getElem_toArray, List.getElem_cons_zero, List.getElem_cons_succ, List.setIfInBounds_toArray, List.set_cons_zero, List.set_cons_succ]
                have hZ0 : Below wr.heap.size wr wr.drew := Below.drew (Below.refl _ _)
                generalize wr.drew = W0 at *
                have hBz : Below w.heap.size w W0 := bstep hbl hZ0
                obtain ⟨cs, us, fs, hp, hFF⟩ := HOZ.out
                have hpW : PO sesR 52 3 lvSes W0 w1.heap.size (.slice none 0 0) l.length l.length (fun i => l.getD i default) cs us fs := hp.keep hZ0
                have hrow : ∀ W, Below W0.heap.size W0 W → W.ownsRow w1.heap.size 52 3 (.slice none 0 0) l.length cs := fun W hW => (hpW.keep hW).row
                rw [HN.out] at hrow
                have hcl : cs.length = 0 * 3 := by have := hp.row.1; rw [HN.out] at this; exact this
                have HP1 : Hid ((cs.take (0 * 3)).length = 0 * 3) := by show _ = _; rw [List.length_take, hcl]; try omega
                have HP2 : Hid ((cs.drop (0 * 3)).length = (0 - 0) * 3) := by show _ = _; rw [List.length_drop, hcl]; try omega
                have H1c : Hid (∀ y ∈ cs, y.oneCell' = true) := sess_one hp
                have HR : Hid (∀ W, Below W0.heap.size W0 W → W.ownsRow w1.heap.size 52 3 (.slice none 0 0) 0 cs) := hrow
                have HPW : Hid (PO sesR 52 3 lvSes W0 w1.heap.size (.slice none 0 0) l.length l.length (fun i => l.getD i default) cs us fs) := hpW
                have HFF : Hid (∀ b, F2 b ↔ ((.slice none 0 0 : Value).ownBlock = some b ∨ ∃ i, i < l.length ∧ fs i b)) := hFF
                have hw0 : wr.heap.size ≤ W0.heap.size := hZ0.size
                have hw13 : w1.heap.size ≤ W0.heap.size := by omega
                clear hp hpW hrow hFF
                have HS1 : Hid (∀ W, Below W0.heap.size W0 W → AppAny W (.slice none 0 0) 0 (cs.take (0 * 3))) := fun W hW => by
                  rw [show cs.take (0 * 3) = [] by simp]; exact sessAny_none _ _ _
                have HS2 : Hid (∀ W, Below W0.heap.size W0 W → AppAny W (.slice none 0 0) (0 - 0) (cs.drop (0 * 3))) := fun W hW => by
                  have e0 : cs.drop (0 * 3) = [] := List.eq_nil_of_length_eq_zero (by rw [HP2.out]; try omega)
                  rw [e0, show 0 - 0 = 0 by omega]
                  exact sessAny_none _ _ _
                obtain ⟨P1, hP1⟩ : ∃ P, cs.take (0 * 3) = P := ⟨_, rfl⟩
                obtain ⟨P2, hP2⟩ : ∃ P, cs.drop (0 * 3) = P := ⟨_, rfl⟩
                have HP12 : Hid (cs.take (0 * 3) = P1 ∧ cs.drop (0 * 3) = P2) := ⟨hP1, hP2⟩
                have H1P2 : Hid (∀ y ∈ P2, y.oneCell' = true) := fun y hy => H1c.out y (List.mem_of_mem_drop (by rw [hP2]; exact hy))
                have H1P1 : Hid (∀ y ∈ P1, y.oneCell' = true) := fun y hy => H1c.out y (List.mem_of_mem_take (by rw [hP1]; exact hy))
                rw [hP1] at HS1 HP1
                rw [hP2] at HS2 HP2
                clear hP1 hP2
                refine upto_cons' [(0, 45), (4, 49), (7, 52), (8, 53), (12, 57)] insCZ (insGZ W0.heap.size 0 0 P1 [.int .i64 c, .int .i64 1, .slice none 0 0] P2) (by kernel_rfl) hS ?_ ?_ ?_ ?_
                · intro F' W W' h hm hF
                  exact hm.below h h.size (fun b hb => by have := hF b hb; omega)
                · intro pp hpp
                  simp only [List.mem_cons, List.not_mem_nil, or_false] at hpp
                  rcases hpp with rfl | rfl | rfl | rfl | rfl
                  all_goals
                    intro y y' F F' W W' h hi hm hap hF e _
                    simp only [insGZ] at h ⊢
                    rw [e]
                    exact ⟨hm.owns h.1 (fun b hb h2 => hap b h2 (by rw [h.2]; exact hb)), h.2⟩
                · intro pp hpp
                  simp only [List.mem_cons, List.not_mem_nil, or_false] at hpp
                  rcases hpp with rfl | rfl | rfl | rfl | rfl
                  all_goals
                    refine ⟨_, rfl, rfl, ?_⟩
                    intro y W Φ hSW hBW hd K hK
                  · clear hd
                    refine ⟨?_⟩
                    simp only [over, Act.put, List.getElem_toArray, List.getElem_cons_zero, List.getElem_cons_succ, List.map_cons, List.map_nil, List.foldl_cons, List.foldl_nil, List.setIfInBounds_toArray, List.set_cons_zero, List.set_cons_succ] at hK ⊢
                    go_simp
                    refine hK _ _ (fun b => b = W.heap.size) (Mod.of_below (by (repeat (first | exact Below.refl _ _ | assumption | refine Below.drew ?_ | refine balloc ?_ _ | refine bset ?_ (by simp; omega) _ | refine bset ?_ (by simp) _ | refine bstep ?_ (by assumption))))) (fun b hb => .inr (by first | omega | (dsimp only at hb; omega) | (simp; omega))) ?_
                    simp only [insGZ, updV]
                    refine ⟨World.ownsRow_lit (base := W0.heap.size) (e := 52) (size := 3) W #[] 0 hBW.size (by unfold maxLen; omega) rfl, ?_⟩
                    funext b
                    simp [Value.ownBlock, eq_comm]
                  · have g0 := (hd (0, 45) (by simp) (by kernel_rfl) (.inl (by simp [insCZ]))).2
                    clear hd
                    simp only [insGZ] at g0
                    refine ⟨?_⟩
                    simp only [over, Act.put, List.getElem_toArray, List.getElem_cons_zero, List.getElem_cons_succ, List.map_cons, List.map_nil, List.foldl_cons, List.foldl_nil, List.setIfInBounds_toArray, List.set_cons_zero, List.set_cons_succ] at hK ⊢
                    have hsrc := HS1.out W hBW
                    refine ite_wantedG rfl ?_
                    refine wp_app15Z W ?hg1 (.tmp 45) (.tmp 48) ?ho1 W0.heap.size (y 45) (Φ 0) 0 [] ?hs1 (.slice none 0 0) 0 P1 ?hx1 g0 hsrc HP1.out H1P1.out (by omega) hBW.size ?_
                    case hg1 => rfl
                    case ho1 => rfl
                    case hs1 => rfl
                    case hx1 => rfl
                    intro v' w' hO hm hl
                    refine hK _ _ (fun b => v'.ownBlock = some b) (hm.mono (fun b hb => ⟨0, by simp [insCZ], hb⟩)) (fun b hb => (hl b hb).imp (fun h => ⟨0, by simp [insCZ], h⟩) (fun h => h)) ?_
                    simp only [insGZ, updV]
                    simpa using hO
                  · clear hd
                    refine ⟨?_⟩
                    simp only [over, Act.put, List.getElem_toArray, List.getElem_cons_zero, List.getElem_cons_succ, List.map_cons, List.map_nil, List.foldl_cons, List.foldl_nil, List.setIfInBounds_toArray, List.set_cons_zero, List.set_cons_succ] at hK ⊢
                    go_simp
                    refine hK _ _ (fun b => b = W.heap.size) (Mod.of_below (by (repeat (first | exact Below.refl _ _ | assumption | refine Below.drew ?_ | refine balloc ?_ _ | refine bset ?_ (by simp; omega) _ | refine bset ?_ (by simp) _ | refine bstep ?_ (by assumption))))) (fun b hb => .inr (by first | omega | (dsimp only at hb; omega) | (simp; omega))) ?_
                    simp only [insGZ, updV]
                    refine ⟨World.ownsRow_lit (base := W0.heap.size) (e := 52) (size := 3) W #[.int .i64 c, .int .i64 1, .slice none 0 0] 1 hBW.size (by unfold maxLen; omega) rfl, ?_⟩
                    funext b
                    simp [Value.ownBlock, eq_comm]
                  · have g0 := (hd (4, 49) (by simp) (by kernel_rfl) (.inl (by simp [insCZ]))).2
                    have g1 := (hd (7, 52) (by simp) (by kernel_rfl) (.inr (by simp [insCZ]))).2
                    clear hd
                    simp only [insGZ] at g0 g1
                    refine ⟨?_⟩
                    simp only [over, Act.put, List.getElem_toArray, List.getElem_cons_zero, List.getElem_cons_succ, List.map_cons, List.map_nil, List.foldl_cons, List.foldl_nil, List.setIfInBounds_toArray, List.set_cons_zero, List.set_cons_succ] at hK ⊢
                    refine ite_wantedG rfl ?_
                    refine wp_app15Z W ?hg2 (.tmp 49) (.tmp 52) ?ho2 W0.heap.size (y 49) (Φ 4) 0 P1 ?hs2 (y 52) 1 _ ?hx2 g0 (sessAny_own g1.1) rfl (fun y' hy' => by simp only [List.mem_cons, List.not_mem_nil, or_false] at hy'; rcases hy' with rfl | rfl | rfl <;> rfl) (by omega) hBW.size ?_
                    case hg2 => rfl
                    case ho2 => rfl
                    case hs2 => rfl
                    case hx2 => rfl
                    intro v' w' hO hm hl
                    refine hK _ _ (fun b => v'.ownBlock = some b) (hm.mono (fun b hb => ⟨4, by simp [insCZ], hb⟩)) (fun b hb => (hl b hb).imp (fun h => ⟨4, by simp [insCZ], h⟩) (fun h => h)) ?_
                    simp only [insGZ, updV]
                    simpa using hO
                  · have g0 := (hd (8, 53) (by simp) (by kernel_rfl) (.inl (by simp [insCZ]))).2
                    clear hd
                    simp only [insGZ] at g0
                    refine ⟨?_⟩
                    simp only [over, Act.put, List.getElem_toArray, List.getElem_cons_zero, List.getElem_cons_succ, List.map_cons, List.map_nil, List.foldl_cons, List.foldl_nil, List.setIfInBounds_toArray, List.set_cons_zero, List.set_cons_succ] at hK ⊢
                    have hsrc := HS2.out W hBW
                    refine ite_wantedG rfl ?_
                    refine wp_app15Z W ?hg3 (.tmp 53) (.tmp 56) ?ho3 W0.heap.size (y 53) (Φ 8) (0 + 1) _ ?hs3 (.slice none 0 0) (0 - 0) P2 ?hx3 g0 hsrc HP2.out H1P2.out (by omega) hBW.size ?_
                    case hg3 => rfl
                    case ho3 => rfl
                    case hs3 => rfl
                    case hx3 => rfl
                    intro v' w' hO hm hl
                    refine hK _ _ (fun b => v'.ownBlock = some b) (hm.mono (fun b hb => ⟨8, by simp [insCZ], hb⟩)) (fun b hb => (hl b hb).imp (fun h => ⟨8, by simp [insCZ], h⟩) (fun h => h)) ?_
                    simp only [insGZ, updV]
                    have e9 : 0 + 1 + (0 - 0) = 0 + 1 := by omega
                    rw [e9] at hO
                    simpa using hO
                · refine ⟨_, rfl, ?_⟩
                  intro y W Φ hSW hBW hd hap K hK
                  have g13 := (hd (12, 57) (by simp) (by simp [insCZ])).2
                  clear hd hap
                  simp only [insGZ] at g13
                  have g13' := g13.1
                  clear g13
                  have hform : ∃ g9 c9, y 57 = .slice (some ⟨g9, 0, none⟩) (0 + 1) c9 := by
                    rcases g13'.2 with ⟨_, h⟩ | ⟨g9, c9, _, h, _⟩
                    · omega
                    · exact ⟨g9, c9, h⟩
                  obtain ⟨g9, c9, e9⟩ := hform
                  have hBw2 : Below w.heap.size w W := bstep hBz hBW
                  have HIn : Hid (∃ F', sessR.O W w1.heap.size F' (.slice (some ⟨g9, 0, none⟩) (0 + 1) c9) (putZ c l) ∧ ∀ b, F' b → F2 b ∨ (Value.slice none 0 0).ownBlock = some b ∨ W0.heap.size ≤ b) := by
                    have h1 : (fun (P Q : List Value) => W.ownsRow w1.heap.size 52 3 (.slice (some ⟨g9, 0, none⟩) (0 + 1) c9) (l.length + 1) (P ++ lvSes (.agg #[.int .i64 c, .int .i64 1, .slice none 0 0]) ++ Q)) (cs.take (0 * 3)) (cs.drop (0 * 3)) := by
                      rw [HP12.out.1, HP12.out.2, HN.out, ← e9]
                      exact owns_base g13' (by omega)
                    have h2 := NO.ins HPW.out HFF.out (i := 0) (by rw [HN.out]; omega) (new_ses W0 w1.heap.size c) rfl (fun b _ h => noBlkZ h) h1 (Mod.of_below hBW) (fun b hb => .inr (by have := (g13'.lt b (by rw [e9]; exact hb)).1; omega))
                    rw [HPut.out]
                    exact h2
                  refine ⟨?_⟩
                  simp only [over, Act.put, List.getElem_toArray, List.getElem_cons_zero, List.getElem_cons_succ, List.map_cons, List.map_nil, List.foldl_cons, List.foldl_nil, List.setIfInBounds_toArray, List.set_cons_zero, List.set_cons_succ]
                  simp only [e9] at g13' ⊢
                  have s0 := cell_keep hBW (cell_keep hZ0 r0)
                  have s1 := cell_keep hBW (cell_keep hZ0 r1)
                  have s2 := cell_keep hBW (cell_keep hZ0 r2)
                  have s3 := cell_keep hBW (cell_keep hZ0 r3)
                  have s4 := cell_keep hBW (cell_keep hZ0 r4)
                  have s5 := cell_keep hBW (cell_keep hZ0 r5)
                  have s6 := cell_keep hBW (cell_keep hZ0 r6)
                  have s7 := cell_keep hBW (cell_keep hZ0 r7)
                  have sf : ∀ o, W.frozen? ⟨w.heap.size, o, none⟩ = false := fun o => by rw [(bcell hBW).2 _ _ (by omega), (bcell hZ0).2 _ _ (by omega)]; exact rf o
                  go_simp
                  refine hK _ _ ?_
                  clear hK K
                  refine NoPanic.normal ?_
                  obtain ⟨F', o9, hF9⟩ := HIn.out
                  have HO9 : Hid (sessR.O W w1.heap.size F' (.slice (some ⟨g9, 0, none⟩) (0 + 1) c9) (putZ c l)) := o9
                  have HF9 : Hid (∀ b, F' b → w.heap.size < b) := fun b hb => by
                    rcases hF9 b hb with h | h | h
                    · have := HF3.out b h; omega
                    · exact (noBlkZ h).elim
                    · omega
                  clear o9 hF9 HIn g13' HS1 HS2 hS
                  go_wp2
                  refine bodyPost_ret (v := .agg #[.int .i64 0, .int .i64 0, .slice (some ⟨g9, 0, none⟩) (0 + 1) c9, .slice none 0 0, .slice none 0 0, .slice none 0 0, .slice none 0 0, .slice none 0 0]) (by simp [results, Try.results11, go_sem, s0, s1, s2, s3, s4, s5, s6, s7, sf]) rfl (sesR_ret HC.out (setZ8 _ (sessR.base HO9.out (by omega)) (fun hb => by have := HF9.out _ hb; omega) _ _ _ _ _ _ _ _) (by (repeat (first | refine bset ?_ (by simp; omega) _ | refine bset ?_ (by simp) _ | refine balloc ?_ _ | assumption))))
              · simp only [Value.slice.injEq, true_and] at h
                obtain ⟨rfl, rfl⟩ := h
                unfold maxLen at hcm
                clear hrw
                by_cases hfull : c2 = k
                · obtain rfl : k = c2 := hfull.symm
                  have c3 : (k : Int) ≤ k := by omega
                  go_wp2
                  refine wp_region_noPanic ?_
                  refine region_upto (fun W => Below wr.heap.size wr W) 13 (by kernel_rfl) (by (repeat (first | exact Below.refl _ _ | assumption | refine Below.drew ?_ | refine balloc ?_ _ | refine bset ?_ (by simp; omega) _ | refine bset ?_ (by simp) _ | refine bstep ?_ (by assumption)))) (fun hS => ?_)
                  refine upto_take (i := 1) (v := ?_) rfl (by kernel_rfl) (by kernel_rfl) (by kernel_rfl) (by kernel_rfl) (fun _ _ _ h => h) (by rfl) hS ?_ ?_
                  rotate_left
                  · intro wS hSw
                    try dsimp only at hSw
                    first | (go_simp; done) | (go_simp; with_reducible rfl)
                  try simp only [Act.put, List.getElem_toArray, List.getElem_cons_zero, List.getElem_cons_succ, List.setIfInBounds_toArray, List.set_cons_zero, List.set_cons_succ]
                  refine upto_take (i := 2) (v := ?_) rfl (by kernel_rfl) (by kernel_rfl) (by kernel_rfl) (by kernel_rfl) (fun _ _ _ h => h) (by rfl) hS ?_ ?_
                  rotate_left
                  · intro wS hSw
                    try dsimp only at hSw
                    first | (go_simp; done) | (go_simp; with_reducible rfl)
                  try simp only [Act.put, List.getElem_toArray, List.getElem_cons_zero, List.getElem_cons_succ, List.setIfInBounds_toArray, List.set_cons_zero, List.set_cons_succ]
                  refine upto_take (i := 3) (v := ?_) rfl (by kernel_rfl) (by kernel_rfl) (by kernel_rfl) (by kernel_rfl) (fun _ _ _ h => h) (by rfl) hS ?_ ?_
                  rotate_left
                  · intro wS hSw
                    try dsimp only at hSw
                    first | (go_simp; done) | (go_simp; with_reducible rfl)
                  try simp only [Act.put, List.getElem_toArray, List.getElem_cons_zero, List.getElem_cons_succ, List.setIfInBounds_toArray, List.set_cons_zero, List.set_cons_succ]
                  refine upto_take (i := 5) (v := ?_) rfl (by kernel_rfl) (by kernel_rfl) (by kernel_rfl) (by kernel_rfl) (fun _ _ _ h => h) (by rfl) hS ?_ ?_
                  rotate_left
                  · intro wS hSw
                    try dsimp only at hSw
                    first | (go_simp; done) | (go_simp; with_reducible rfl)
                  try simp only [Act.put, List.getElem_toArray, List.getElem_cons_zero, List.getElem_cons_succ, List.setIfInBounds_toArray, List.set_cons_zero, List.set_cons_succ]
                  refine upto_take (i := 6) (v := ?_) rfl (by kernel_rfl) (by kernel_rfl) (by kernel_rfl) (by kernel_rfl) (fun _ _ _ h => h) (by rfl) hS ?_ ?_
                  rotate_left
                  · intro wS hSw
                    try dsimp only at hSw
                    first | (go_simp; done) | (go_simp; with_reducible rfl)
                  try simp only [Act.put, List.getElem_toArray, List.getElem_cons_zero, List.getElem_cons_succ, List.setIfInBounds_toArray, List.set_cons_zero, List.set_cons_succ]
                  refine upto_take (i := 9) (v := ?_) rfl (by kernel_rfl) (by kernel_rfl) (by kernel_rfl) (by kernel_rfl) (fun _ _ _ h => h) (by rfl) hS ?_ ?_
                  rotate_left
                  · intro wS hSw
                    try dsimp only at hSw
                    first | (go_simp; done) | (go_simp; with_reducible rfl)
                  try simp only [Act.put, List.getElem_toArray, List.getElem_cons_zero, List.getElem_cons_succ, List.setIfInBounds_toArray, List.set_cons_zero, List.set_cons_succ]
                  refine upto_take (i := 10) (v := ?_) rfl (by kernel_rfl) (by kernel_rfl) (by kernel_rfl) (by kernel_rfl) (fun _ _ _ h => h) (by rfl) hS ?_ ?_
                  rotate_left
                  · intro wS hSw
                    try dsimp only at hSw
                    first | (go_simp; done) | (go_simp; with_reducible rfl)
                  try simp only [Act.put, List.getElem_toArray, List.getElem_cons_zero, List.getElem_cons_succ, List.setIfInBounds_toArray, List.set_cons_zero, List.set_cons_succ]
                  refine upto_take (i := 11) (v := ?_) rfl (by kernel_rfl) (by kernel_rfl) (by kernel_rfl) (by kernel_rfl) (fun _ _ _ h => h) (by rfl) hS ?_ ?_
                  rotate_left
                  · intro wS hSw
                    try dsimp only at hSw
                    first | (go_simp; done) | (go_simp; with_reducible rfl)
                  try simp only [Act.put, List.getElem_toArray, List.getElem_cons_zero, List.getElem_cons_succ, List.setIfInBounds_toArray, List.set_cons_zero, List.set_cons_succ]
                  have hZ0 : Below wr.heap.size wr wr.drew := Below.drew (Below.refl _ _)
                  generalize wr.drew = W0 at *
                  have hBz : Below w.heap.size w W0 := bstep hbl hZ0
                  obtain ⟨cs, us, fs, hp, hFF⟩ := HOZ.out
                  have hpW : PO sesR 52 3 lvSes W0 w1.heap.size (.slice (some ⟨g, 0, none⟩) k k) l.length l.length (fun i => l.getD i default) cs us fs := hp.keep hZ0
                  have hrow : ∀ W, Below W0.heap.size W0 W → W.ownsRow w1.heap.size 52 3 (.slice (some ⟨g, 0, none⟩) k k) l.length cs := fun W hW => (hpW.keep hW).row
                  rw [HN.out] at hrow
                  have hcl : cs.length = k * 3 := by have := hp.row.1; rw [HN.out] at this; exact this
                  have HP1 : Hid ((cs.take (k * 3)).length = k * 3) := by show _ = _; rw [List.length_take, hcl]; try omega
                  have HP2 : Hid ((cs.drop (k * 3)).length = (k - k) * 3) := by show _ = _; rw [List.length_drop, hcl]; try omega
                  have H1c : Hid (∀ y ∈ cs, y.oneCell' = true) := sess_one hp
                  have HR : Hid (∀ W, Below W0.heap.size W0 W → W.ownsRow w1.heap.size 52 3 (.slice (some ⟨g, 0, none⟩) k k) k cs) := hrow
                  have HPW : Hid (PO sesR 52 3 lvSes W0 w1.heap.size (.slice (some ⟨g, 0, none⟩) k k) l.length l.length (fun i => l.getD i default) cs us fs) := hpW
                  have HFF : Hid (∀ b, F2 b ↔ ((.slice (some ⟨g, 0, none⟩) k k : Value).ownBlock = some b ∨ ∃ i, i < l.length ∧ fs i b)) := hFF
                  have hw0 : wr.heap.size ≤ W0.heap.size := hZ0.size
                  have hw13 : w1.heap.size ≤ W0.heap.size := by omega
                  clear hp hpW hrow hFF
                  have HS1 : Hid (∀ W, Below W0.heap.size W0 W → AppAny W (.slice (some ⟨g, 0, none⟩) k k) k (cs.take (k * 3))) := fun W hW => by
                    have h := sessAny_piece (HR.out W hW) 0 k (by omega) k
                    simpa using h
                  have HS2 : Hid (∀ W, Below W0.heap.size W0 W → AppAny W (.slice (some ⟨g, 0, none⟩) 0 0) (k - k) (cs.drop (k * 3))) := fun W hW => by
                    have e0 : cs.drop (k * 3) = [] := List.eq_nil_of_length_eq_zero (by rw [HP2.out]; try omega)
                    rw [e0, show k - k = 0 by omega]
                    exact sessAny_none _ _ _
                  obtain ⟨P1, hP1⟩ : ∃ P, cs.take (k * 3) = P := ⟨_, rfl⟩
                  obtain ⟨P2, hP2⟩ : ∃ P, cs.drop (k * 3) = P := ⟨_, rfl⟩
                  have HP12 : Hid (cs.take (k * 3) = P1 ∧ cs.drop (k * 3) = P2) := ⟨hP1, hP2⟩
                  have H1P2 : Hid (∀ y ∈ P2, y.oneCell' = true) := fun y hy => H1c.out y (List.mem_of_mem_drop (by rw [hP2]; exact hy))
                  have H1P1 : Hid (∀ y ∈ P1, y.oneCell' = true) := fun y hy => H1c.out y (List.mem_of_mem_take (by rw [hP1]; exact hy))
                  rw [hP1] at HS1 HP1
                  rw [hP2] at HS2 HP2
                  clear hP1 hP2
                  refine upto_cons' [(0, 45), (4, 49), (7, 52), (8, 53), (12, 57)] insCZ (insGZ W0.heap.size k k P1 [.int .i64 c, .int .i64 1, .slice none 0 0] P2) (by kernel_rfl) hS ?_ ?_ ?_ ?_
                  · intro F' W W' h hm hF
                    exact hm.below h h.size (fun b hb => by have := hF b hb; omega)
                  · intro pp hpp
                    simp only [List.mem_cons, List.not_mem_nil, or_false] at hpp
                    rcases hpp with rfl | rfl | rfl | rfl | rfl
                    all_goals
                      intro y y' F F' W W' h hi hm hap hF e _
                      simp only [insGZ] at h ⊢
                      rw [e]
                      exact ⟨hm.owns h.1 (fun b hb h2 => hap b h2 (by rw [h.2]; exact hb)), h.2⟩
                  · intro pp hpp
                    simp only [List.mem_cons, List.not_mem_nil, or_false] at hpp
                    rcases hpp with rfl | rfl | rfl | rfl | rfl
                    all_goals
                      refine ⟨_, rfl, rfl, ?_⟩
                      intro y W Φ hSW hBW hd K hK
                    · clear hd
                      refine ⟨?_⟩
                      simp only [over, Act.put, List.getElem_toArray, List.getElem_cons_zero, List.getElem_cons_succ, List.map_cons, List.map_nil, List.foldl_cons, List.foldl_nil, List.setIfInBounds_toArray, List.set_cons_zero, List.set_cons_succ] at hK ⊢
                      go_simp
                      refine hK _ _ (fun b => b = W.heap.size) (Mod.of_below (by (repeat (first | exact Below.refl _ _ | assumption | refine Below.drew ?_ | refine balloc ?_ _ | refine bset ?_ (by simp; omega) _ | refine bset ?_ (by simp) _ | refine bstep ?_ (by assumption))))) (fun b hb => .inr (by first | omega | (dsimp only at hb; omega) | (simp; omega))) ?_
                      simp only [insGZ, updV]
                      refine ⟨World.ownsRow_lit (base := W0.heap.size) (e := 52) (size := 3) W #[] 0 hBW.size (by unfold maxLen; omega) rfl, ?_⟩
                      funext b
                      simp [Value.ownBlock, eq_comm]
                    · have g0 := (hd (0, 45) (by simp) (by kernel_rfl) (.inl (by simp [insCZ]))).2
                      clear hd
                      simp only [insGZ] at g0
                      refine ⟨?_⟩
                      simp only [over, Act.put, List.getElem_toArray, List.getElem_cons_zero, List.getElem_cons_succ, List.map_cons, List.map_nil, List.foldl_cons, List.foldl_nil, List.setIfInBounds_toArray, List.set_cons_zero, List.set_cons_succ] at hK ⊢
                      have hsrc := HS1.out W hBW
                      refine ite_wantedG rfl ?_
                      refine wp_app15Z W ?hg1 (.tmp 45) (.tmp 48) ?ho1 W0.heap.size (y 45) (Φ 0) 0 [] ?hs1 (.slice (some ⟨g, 0, none⟩) k k) k P1 ?hx1 g0 hsrc HP1.out H1P1.out (by omega) hBW.size ?_
                      case hg1 => rfl
                      case ho1 => rfl
                      case hs1 => rfl
                      case hx1 => rfl
                      intro v' w' hO hm hl
                      refine hK _ _ (fun b => v'.ownBlock = some b) (hm.mono (fun b hb => ⟨0, by simp [insCZ], hb⟩)) (fun b hb => (hl b hb).imp (fun h => ⟨0, by simp [insCZ], h⟩) (fun h => h)) ?_
                      simp only [insGZ, updV]
                      simpa using hO
                    · clear hd
                      refine ⟨?_⟩
                      simp only [over, Act.put, List.getElem_toArray, List.getElem_cons_zero, List.getElem_cons_succ, List.map_cons, List.map_nil, List.foldl_cons, List.foldl_nil, List.setIfInBounds_toArray, List.set_cons_zero, List.set_cons_succ] at hK ⊢
                      go_simp
                      refine hK _ _ (fun b => b = W.heap.size) (Mod.of_below (by (repeat (first | exact Below.refl _ _ | assumption | refine Below.drew ?_ | refine balloc ?_ _ | refine bset ?_ (by simp; omega) _ | refine bset ?_ (by simp) _ | refine bstep ?_ (by assumption))))) (fun b hb => .inr (by first | omega | (dsimp only at hb; omega) | (simp; omega))) ?_
                      simp only [insGZ, updV]
                      refine ⟨World.ownsRow_lit (base := W0.heap.size) (e := 52) (size := 3) W #[.int .i64 c, .int .i64 1, .slice none 0 0] 1 hBW.size (by unfold maxLen; omega) rfl, ?_⟩
                      funext b
                      simp [Value.ownBlock, eq_comm]
                    · have g0 := (hd (4, 49) (by simp) (by kernel_rfl) (.inl (by simp [insCZ]))).2
                      have g1 := (hd (7, 52) (by simp) (by kernel_rfl) (.inr (by simp [insCZ]))).2
                      clear hd
                      simp only [insGZ] at g0 g1
                      refine ⟨?_⟩
                      simp only [over, Act.put, List.getElem_toArray, List.getElem_cons_zero, List.getElem_cons_succ, List.map_cons, List.map_nil, List.foldl_cons, List.foldl_nil, List.setIfInBounds_toArray, List.set_cons_zero, List.set_cons_succ] at hK ⊢
                      refine ite_wantedG rfl ?_
                      refine wp_app15Z W ?hg2 (.tmp 49) (.tmp 52) ?ho2 W0.heap.size (y 49) (Φ 4) k P1 ?hs2 (y 52) 1 _ ?hx2 g0 (sessAny_own g1.1) rfl (fun y' hy' => by simp only [List.mem_cons, List.not_mem_nil, or_false] at hy'; rcases hy' with rfl | rfl | rfl <;> rfl) (by omega) hBW.size ?_
                      case hg2 => rfl
                      case ho2 => rfl
                      case hs2 => rfl
                      case hx2 => rfl
                      intro v' w' hO hm hl
                      refine hK _ _ (fun b => v'.ownBlock = some b) (hm.mono (fun b hb => ⟨4, by simp [insCZ], hb⟩)) (fun b hb => (hl b hb).imp (fun h => ⟨4, by simp [insCZ], h⟩) (fun h => h)) ?_
                      simp only [insGZ, updV]
                      simpa using hO
                    · have g0 := (hd (8, 53) (by simp) (by kernel_rfl) (.inl (by simp [insCZ]))).2
                      clear hd
                      simp only [insGZ] at g0
                      refine ⟨?_⟩
                      simp only [over, Act.put, List.getElem_toArray, List.getElem_cons_zero, List.getElem_cons_succ, List.map_cons, List.map_nil, List.foldl_cons, List.foldl_nil, List.setIfInBounds_toArray, List.set_cons_zero, List.set_cons_succ] at hK ⊢
                      have hsrc := HS2.out W hBW
                      refine ite_wantedG rfl ?_
                      refine wp_app15Z W ?hg3 (.tmp 53) (.tmp 56) ?ho3 W0.heap.size (y 53) (Φ 8) (k + 1) _ ?hs3 (.slice (some ⟨g, 0, none⟩) 0 0) (k - k) P2 ?hx3 g0 hsrc HP2.out H1P2.out (by omega) hBW.size ?_
                      case hg3 => rfl
                      case ho3 => rfl
                      case hs3 => rfl
                      case hx3 => rfl
                      intro v' w' hO hm hl
                      refine hK _ _ (fun b => v'.ownBlock = some b) (hm.mono (fun b hb => ⟨8, by simp [insCZ], hb⟩)) (fun b hb => (hl b hb).imp (fun h => ⟨8, by simp [insCZ], h⟩) (fun h => h)) ?_
                      simp only [insGZ, updV]
                      have e9 : k + 1 + (k - k) = k + 1 := by omega
                      rw [e9] at hO
                      simpa using hO
                  · refine ⟨_, rfl, ?_⟩
                    intro y W Φ hSW hBW hd hap K hK
                    have g13 := (hd (12, 57) (by simp) (by simp [insCZ])).2
                    clear hd hap
                    simp only [insGZ] at g13
                    have g13' := g13.1
                    clear g13
                    have hform : ∃ g9 c9, y 57 = .slice (some ⟨g9, 0, none⟩) (k + 1) c9 := by
                      rcases g13'.2 with ⟨_, h⟩ | ⟨g9, c9, _, h, _⟩
                      · omega
                      · exact ⟨g9, c9, h⟩
                    obtain ⟨g9, c9, e9⟩ := hform
                    have hBw2 : Below w.heap.size w W := bstep hBz hBW
                    have HIn : Hid (∃ F', sessR.O W w1.heap.size F' (.slice (some ⟨g9, 0, none⟩) (k + 1) c9) (putZ c l) ∧ ∀ b, F' b → F2 b ∨ (Value.slice none 0 0).ownBlock = some b ∨ W0.heap.size ≤ b) := by
                      have h1 : (fun (P Q : List Value) => W.ownsRow w1.heap.size 52 3 (.slice (some ⟨g9, 0, none⟩) (k + 1) c9) (l.length + 1) (P ++ lvSes (.agg #[.int .i64 c, .int .i64 1, .slice none 0 0]) ++ Q)) (cs.take (k * 3)) (cs.drop (k * 3)) := by
                        rw [HP12.out.1, HP12.out.2, HN.out, ← e9]
                        exact owns_base g13' (by omega)
                      have h2 := NO.ins HPW.out HFF.out (i := k) (by rw [HN.out]; omega) (new_ses W0 w1.heap.size c) rfl (fun b _ h => noBlkZ h) h1 (Mod.of_below hBW) (fun b hb => .inr (by have := (g13'.lt b (by rw [e9]; exact hb)).1; omega))
                      rw [HPut.out]
                      exact h2
                    refine ⟨?_⟩
                    simp only [over, Act.put, List.getElem_toArray, List.getElem_cons_zero, List.getElem_cons_succ, List.map_cons, List.map_nil, List.foldl_cons, List.foldl_nil, List.setIfInBounds_toArray, List.set_cons_zero, List.set_cons_succ]
                    simp only [e9] at g13' ⊢
                    have s0 := cell_keep hBW (cell_keep hZ0 r0)
                    have s1 := cell_keep hBW (cell_keep hZ0 r1)
                    have s2 := cell_keep hBW (cell_keep hZ0 r2)
                    have s3 := cell_keep hBW (cell_keep hZ0 r3)
                    have s4 := cell_keep hBW (cell_keep hZ0 r4)
                    have s5 := cell_keep hBW (cell_keep hZ0 r5)
                    have s6 := cell_keep hBW (cell_keep hZ0 r6)
                    have s7 := cell_keep hBW (cell_keep hZ0 r7)
                    have sf : ∀ o, W.frozen? ⟨w.heap.size, o, none⟩ = false := fun o => by rw [(bcell hBW).2 _ _ (by omega), (bcell hZ0).2 _ _ (by omega)]; exact rf o
                    go_simp
                    refine hK _ _ ?_
                    clear hK K
                    refine NoPanic.normal ?_
                    obtain ⟨F', o9, hF9⟩ := HIn.out
                    have HO9 : Hid (sessR.O W w1.heap.size F' (.slice (some ⟨g9, 0, none⟩) (k + 1) c9) (putZ c l)) := o9
                    have HF9 : Hid (∀ b, F' b → w.heap.size < b) := fun b hb => by
                      rcases hF9 b hb with h | h | h
                      · have := HF3.out b h; omega
                      · exact (noBlkZ h).elim
                      · omega
                    clear o9 hF9 HIn g13' HS1 HS2 hS
                    go_wp2
                    refine bodyPost_ret (v := .agg #[.int .i64 0, .int .i64 0, .slice (some ⟨g9, 0, none⟩) (k + 1) c9, .slice none 0 0, .slice none 0 0, .slice none 0 0, .slice none 0 0, .slice none 0 0]) (by simp [results, Try.results11, go_sem, s0, s1, s2, s3, s4, s5, s6, s7, sf]) rfl (sesR_ret HC.out (setZ8 _ (sessR.base HO9.out (by omega)) (fun hb => by have := HF9.out _ hb; omega) _ _ _ _ _ _ _ _) (by (repeat (first | refine bset ?_ (by simp; omega) _ | refine bset ?_ (by simp) _ | refine balloc ?_ _ | assumption))))
                · obtain ⟨cc, hcc⟩ : ∃ cc, cc = c2 := ⟨_, rfl⟩
                  rw [← hcc] at HOZ hnc hcm hfull ⊢
                  clear hcc
                  have c2 : ¬ cc = k := by omega
                  have c3 : (k : Int) ≤ cc := by omega
                  have c4 : (k : Int) ≤ k := by omega
                  go_wp2
                  refine wp_region_noPanic ?_
                  refine region_upto (fun W => Below wr.heap.size wr W) 13 (by kernel_rfl) (by (repeat (first | exact Below.refl _ _ | assumption | refine Below.drew ?_ | refine balloc ?_ _ | refine bset ?_ (by simp; omega) _ | refine bset ?_ (by simp) _ | refine bstep ?_ (by assumption)))) (fun hS => ?_)
                  refine upto_take (i := 1) (v := ?_) rfl (by kernel_rfl) (by kernel_rfl) (by kernel_rfl) (by kernel_rfl) (fun _ _ _ h => h) (by rfl) hS ?_ ?_
                  rotate_left
                  · intro wS hSw
                    try dsimp only at hSw
                    first | (go_simp; done) | (go_simp; with_reducible rfl)
                  try simp only [Act.put, List.getElem_toArray, List.getElem_cons_zero, List.getElem_cons_succ, List.setIfInBounds_toArray, List.set_cons_zero, List.set_cons_succ]
                  refine upto_take (i := 2) (v := ?_) rfl (by kernel_rfl) (by kernel_rfl) (by kernel_rfl) (by kernel_rfl) (fun _ _ _ h => h) (by rfl) hS ?_ ?_
                  rotate_left
                  · intro wS hSw
                    try dsimp only at hSw
                    first | (go_simp; done) | (go_simp; with_reducible rfl)
                  try simp only [Act.put, List.getElem_toArray, List.getElem_cons_zero, List.getElem_cons_succ, List.setIfInBounds_toArray, List.set_cons_zero, List.set_cons_succ]
                  refine upto_take (i := 3) (v := ?_) rfl (by kernel_rfl) (by kernel_rfl) (by kernel_rfl) (by kernel_rfl) (fun _ _ _ h => h) (by rfl) hS ?_ ?_
                  rotate_left
                  · intro wS hSw
                    try dsimp only at hSw
                    first | (go_simp; done) | (go_simp; with_reducible rfl)
                  try simp only [Act.put, List.getElem_toArray, List.getElem_cons_zero, List.getElem_cons_succ, List.setIfInBounds_toArray, List.set_cons_zero, List.set_cons_succ]
                  refine upto_take (i := 5) (v := ?_) rfl (by kernel_rfl) (by kernel_rfl) (by kernel_rfl) (by kernel_rfl) (fun _ _ _ h => h) (by rfl) hS ?_ ?_
                  rotate_left
                  · intro wS hSw
                    try dsimp only at hSw
                    first | (go_simp; done) | (go_simp; with_reducible rfl)
                  try simp only [Act.put, List.getElem_toArray, List.getElem_cons_zero, List.getElem_cons_succ, List.setIfInBounds_toArray, List.set_cons_zero, List.set_cons_succ]
                  refine upto_take (i := 6) (v := ?_) rfl (by kernel_rfl) (by kernel_rfl) (by kernel_rfl) (by kernel_rfl) (fun _ _ _ h => h) (by rfl) hS ?_ ?_
                  rotate_left
                  · intro wS hSw
                    try dsimp only at hSw
                    first | (go_simp; done) | (go_simp; with_reducible rfl)
                  try simp only [Act.put, List.getElem_toArray, List.getElem_cons_zero, List.getElem_cons_succ, List.setIfInBounds_toArray, List.set_cons_zero, List.set_cons_succ]
                  refine upto_take (i := 9) (v := ?_) rfl (by kernel_rfl) (by kernel_rfl) (by kernel_rfl) (by kernel_rfl) (fun _ _ _ h => h) (by rfl) hS ?_ ?_
                  rotate_left
                  · intro wS hSw
                    try dsimp only at hSw
                    first | (go_simp; done) | (go_simp; with_reducible rfl)
                  try simp only [Act.put, List.getElem_toArray, List.getElem_cons_zero, List.getElem_cons_succ, List.setIfInBounds_toArray, List.set_cons_zero, List.set_cons_succ]
                  refine upto_take (i := 10) (v := ?_) rfl (by kernel_rfl) (by kernel_rfl) (by kernel_rfl) (by kernel_rfl) (fun _ _ _ h => h) (by rfl) hS ?_ ?_
                  rotate_left
                  · intro wS hSw
                    try dsimp only at hSw
                    first | (go_simp; done) | (go_simp; with_reducible rfl)
                  try simp only [Act.put, List.getElem_toArray, List.getElem_cons_zero, List.getElem_cons_succ, List.setIfInBounds_toArray, List.set_cons_zero, List.set_cons_succ]
                  refine upto_take (i := 11) (v := ?_) rfl (by kernel_rfl) (by kernel_rfl) (by kernel_rfl) (by kernel_rfl) (fun _ _ _ h => h) (by rfl) hS ?_ ?_
                  rotate_left
                  · intro wS hSw
                    try dsimp only at hSw
                    first | (go_simp; done) | (go_simp; with_reducible rfl)
                  try simp only [Act.put, List.getElem_toArray, List.getElem_cons_zero, List.getElem_cons_succ, List.setIfInBounds_toArray, List.set_cons_zero, List.set_cons_succ]
                  have hZ0 : Below wr.heap.size wr wr.drew := Below.drew (Below.refl _ _)
                  generalize wr.drew = W0 at *
                  have hBz : Below w.heap.size w W0 := bstep hbl hZ0
                  obtain ⟨cs, us, fs, hp, hFF⟩ := HOZ.out
                  have hpW : PO sesR 52 3 lvSes W0 w1.heap.size (.slice (some ⟨g, 0, none⟩) k cc) l.length l.length (fun i => l.getD i default) cs us fs := hp.keep hZ0
                  have hrow : ∀ W, Below W0.heap.size W0 W → W.ownsRow w1.heap.size 52 3 (.slice (some ⟨g, 0, none⟩) k cc) l.length cs := fun W hW => (hpW.keep hW).row
                  rw [HN.out] at hrow
                  have hcl : cs.length = k * 3 := by have := hp.row.1; rw [HN.out] at this; exact this
                  have HP1 : Hid ((cs.take (k * 3)).length = k * 3) := by show _ = _; rw [List.length_take, hcl]; try omega
                  have HP2 : Hid ((cs.drop (k * 3)).length = (k - k) * 3) := by show _ = _; rw [List.length_drop, hcl]; try omega
                  have H1c : Hid (∀ y ∈ cs, y.oneCell' = true) := sess_one hp
                  have HR : Hid (∀ W, Below W0.heap.size W0 W → W.ownsRow w1.heap.size 52 3 (.slice (some ⟨g, 0, none⟩) k cc) k cs) := hrow
                  have HPW : Hid (PO sesR 52 3 lvSes W0 w1.heap.size (.slice (some ⟨g, 0, none⟩) k cc) l.length l.length (fun i => l.getD i default) cs us fs) := hpW
                  have HFF : Hid (∀ b, F2 b ↔ ((.slice (some ⟨g, 0, none⟩) k cc : Value).ownBlock = some b ∨ ∃ i, i < l.length ∧ fs i b)) := hFF
                  have hw0 : wr.heap.size ≤ W0.heap.size := hZ0.size
                  have hw13 : w1.heap.size ≤ W0.heap.size := by omega
                  clear hp hpW hrow hFF
                  have HS1 : Hid (∀ W, Below W0.heap.size W0 W → AppAny W (.slice (some ⟨g, 0, none⟩) k cc) k (cs.take (k * 3))) := fun W hW => by
                    have h := sessAny_piece (HR.out W hW) 0 k (by omega) cc
                    simpa using h
                  have HS2 : Hid (∀ W, Below W0.heap.size W0 W → AppAny W (.slice (some ⟨g, k * 3, none⟩) 0 (cc - k)) (k - k) (cs.drop (k * 3))) := fun W hW => by
                    have e0 : cs.drop (k * 3) = [] := List.eq_nil_of_length_eq_zero (by rw [HP2.out]; try omega)
                    rw [e0, show k - k = 0 by omega]
                    exact sessAny_none _ _ _
                  obtain ⟨P1, hP1⟩ : ∃ P, cs.take (k * 3) = P := ⟨_, rfl⟩
                  obtain ⟨P2, hP2⟩ : ∃ P, cs.drop (k * 3) = P := ⟨_, rfl⟩
                  have HP12 : Hid (cs.take (k * 3) = P1 ∧ cs.drop (k * 3) = P2) := ⟨hP1, hP2⟩
                  have H1P2 : Hid (∀ y ∈ P2, y.oneCell' = true) := fun y hy => H1c.out y (List.mem_of_mem_drop (by rw [hP2]; exact hy))
                  have H1P1 : Hid (∀ y ∈ P1, y.oneCell' = true) := fun y hy => H1c.out y (List.mem_of_mem_take (by rw [hP1]; exact hy))
                  rw [hP1] at HS1 HP1
                  rw [hP2] at HS2 HP2
                  clear hP1 hP2
                  refine upto_cons' [(0, 45), (4, 49), (7, 52), (8, 53), (12, 57)] insCZ (insGZ W0.heap.size k k P1 [.int .i64 c, .int .i64 1, .slice none 0 0] P2) (by kernel_rfl) hS ?_ ?_ ?_ ?_
                  · intro F' W W' h hm hF
                    exact hm.below h h.size (fun b hb => by have := hF b hb; omega)
                  · intro pp hpp
                    simp only [List.mem_cons, List.not_mem_nil, or_false] at hpp
                    rcases hpp with rfl | rfl | rfl | rfl | rfl
                    all_goals
                      intro y y' F F' W W' h hi hm hap hF e _
                      simp only [insGZ] at h ⊢
                      rw [e]
                      exact ⟨hm.owns h.1 (fun b hb h2 => hap b h2 (by rw [h.2]; exact hb)), h.2⟩
                  · intro pp hpp
                    simp only [List.mem_cons, List.not_mem_nil, or_false] at hpp
                    rcases hpp with rfl | rfl | rfl | rfl | rfl
                    all_goals
                      refine ⟨_, rfl, rfl, ?_⟩
                      intro y W Φ hSW hBW hd K hK
                    · clear hd
                      refine ⟨?_⟩
                      simp only [over, Act.put, List.getElem_toArray, List.getElem_cons_zero, List.getElem_cons_succ, List.map_cons, List.map_nil, List.foldl_cons, List.foldl_nil, List.setIfInBounds_toArray, List.set_cons_zero, List.set_cons_succ] at hK ⊢
                      go_simp
                      refine hK _ _ (fun b => b = W.heap.size) (Mod.of_below (by (repeat (first | exact Below.refl _ _ | assumption | refine Below.drew ?_ | refine balloc ?_ _ | refine bset ?_ (by simp; omega) _ | refine bset ?_ (by simp) _ | refine bstep ?_ (by assumption))))) (fun b hb => .inr (by first | omega | (dsimp only at hb; omega) | (simp; omega))) ?_
                      simp only [insGZ, updV]
                      refine ⟨World.ownsRow_lit (base := W0.heap.size) (e := 52) (size := 3) W #[] 0 hBW.size (by unfold maxLen; omega) rfl, ?_⟩
                      funext b
                      simp [Value.ownBlock, eq_comm]
                    · have g0 := (hd (0, 45) (by simp) (by kernel_rfl) (.inl (by simp [insCZ]))).2
                      clear hd
                      simp only [insGZ] at g0
                      refine ⟨?_⟩
                      simp only [over, Act.put, List.getElem_toArray, List.getElem_cons_zero, List.getElem_cons_succ, List.map_cons, List.map_nil, List.foldl_cons, List.foldl_nil, List.setIfInBounds_toArray, List.set_cons_zero, List.set_cons_succ] at hK ⊢
                      have hsrc := HS1.out W hBW
                      refine ite_wantedG rfl ?_
                      refine wp_app15Z W ?hg1 (.tmp 45) (.tmp 48) ?ho1 W0.heap.size (y 45) (Φ 0) 0 [] ?hs1 (.slice (some ⟨g, 0, none⟩) k cc) k P1 ?hx1 g0 hsrc HP1.out H1P1.out (by omega) hBW.size ?_
                      case hg1 => rfl
                      case ho1 => rfl
                      case hs1 => rfl
                      case hx1 => rfl
                      intro v' w' hO hm hl
                      refine hK _ _ (fun b => v'.ownBlock = some b) (hm.mono (fun b hb => ⟨0, by simp [insCZ], hb⟩)) (fun b hb => (hl b hb).imp (fun h => ⟨0, by simp [insCZ], h⟩) (fun h => h)) ?_
                      simp only [insGZ, updV]
                      simpa using hO
                    · clear hd
                      refine ⟨?_⟩
                      simp only [over, Act.put, List.getElem_toArray, List.getElem_cons_zero, List.getElem_cons_succ, List.map_cons, List.map_nil, List.foldl_cons, List.foldl_nil, List.setIfInBounds_toArray, List.set_cons_zero, List.set_cons_succ] at hK ⊢
                      go_simp
                      refine hK _ _ (fun b => b = W.heap.size) (Mod.of_below (by (repeat (first | exact Below.refl _ _ | assumption | refine Below.drew ?_ | refine balloc ?_ _ | refine bset ?_ (by simp; omega) _ | refine bset ?_ (by simp) _ | refine bstep ?_ (by assumption))))) (fun b hb => .inr (by first | omega | (dsimp only at hb; omega) | (simp; omega))) ?_
                      simp only [insGZ, updV]
                      refine ⟨World.ownsRow_lit (base := W0.heap.size) (e := 52) (size := 3) W #[.int .i64 c, .int .i64 1, .slice none 0 0] 1 hBW.size (by unfold maxLen; omega) rfl, ?_⟩
                      funext b
                      simp [Value.ownBlock, eq_comm]
                    · have g0 := (hd (4, 49) (by simp) (by kernel_rfl) (.inl (by simp [insCZ]))).2
                      have g1 := (hd (7, 52) (by simp) (by kernel_rfl) (.inr (by simp [insCZ]))).2
                      clear hd
                      simp only [insGZ] at g0 g1
                      refine ⟨?_⟩
                      simp only [over, Act.put, List.getElem_toArray, List.getElem_cons_zero, List.getElem_cons_succ, List.map_cons, List.map_nil, List.foldl_cons, List.foldl_nil, List.setIfInBounds_toArray, List.set_cons_zero, List.set_cons_succ] at hK ⊢
                      refine ite_wantedG rfl ?_
                      refine wp_app15Z W ?hg2 (.tmp 49) (.tmp 52) ?ho2 W0.heap.size (y 49) (Φ 4) k P1 ?hs2 (y 52) 1 _ ?hx2 g0 (sessAny_own g1.1) rfl (fun y' hy' => by simp only [List.mem_cons, List.not_mem_nil, or_false] at hy'; rcases hy' with rfl | rfl | rfl <;> rfl) (by omega) hBW.size ?_
                      case hg2 => rfl
                      case ho2 => rfl
                      case hs2 => rfl
                      case hx2 => rfl
                      intro v' w' hO hm hl
                      refine hK _ _ (fun b => v'.ownBlock = some b) (hm.mono (fun b hb => ⟨4, by simp [insCZ], hb⟩)) (fun b hb => (hl b hb).imp (fun h => ⟨4, by simp [insCZ], h⟩) (fun h => h)) ?_
                      simp only [insGZ, updV]
                      simpa using hO
                    · have g0 := (hd (8, 53) (by simp) (by kernel_rfl) (.inl (by simp [insCZ]))).2
                      clear hd
                      simp only [insGZ] at g0
                      refine ⟨?_⟩
                      simp only [over, Act.put, List.getElem_toArray, List.getElem_cons_zero, List.getElem_cons_succ, List.map_cons, List.map_nil, List.foldl_cons, List.foldl_nil, List.setIfInBounds_toArray, List.set_cons_zero, List.set_cons_succ] at hK ⊢
                      have hsrc := HS2.out W hBW
                      refine ite_wantedG rfl ?_
                      refine wp_app15Z W ?hg3 (.tmp 53) (.tmp 56) ?ho3 W0.heap.size (y 53) (Φ 8) (k + 1) _ ?hs3 (.slice (some ⟨g, k * 3, none⟩) 0 (cc - k)) (k - k) P2 ?hx3 g0 hsrc HP2.out H1P2.out (by omega) hBW.size ?_
                      case hg3 => rfl
                      case ho3 => rfl
                      case hs3 => rfl
                      case hx3 => rfl
                      intro v' w' hO hm hl
                      refine hK _ _ (fun b => v'.ownBlock = some b) (hm.mono (fun b hb => ⟨8, by simp [insCZ], hb⟩)) (fun b hb => (hl b hb).imp (fun h => ⟨8, by simp [insCZ], h⟩) (fun h => h)) ?_
                      simp only [insGZ, updV]
                      have e9 : k + 1 + (k - k) = k + 1 := by omega
                      rw [e9] at hO
                      simpa using hO
                  · refine ⟨_, rfl, ?_⟩
                    intro y W Φ hSW hBW hd hap K hK
                    have g13 := (hd (12, 57) (by simp) (by simp [insCZ])).2
                    clear hd hap
                    simp only [insGZ] at g13
                    have g13' := g13.1
                    clear g13
                    have hform : ∃ g9 c9, y 57 = .slice (some ⟨g9, 0, none⟩) (k + 1) c9 := by
                      rcases g13'.2 with ⟨_, h⟩ | ⟨g9, c9, _, h, _⟩
                      · omega
                      · exact ⟨g9, c9, h⟩
                    obtain ⟨g9, c9, e9⟩ := hform
                    have hBw2 : Below w.heap.size w W := bstep hBz hBW
                    have HIn : Hid (∃ F', sessR.O W w1.heap.size F' (.slice (some ⟨g9, 0, none⟩) (k + 1) c9) (putZ c l) ∧ ∀ b, F' b → F2 b ∨ (Value.slice none 0 0).ownBlock = some b ∨ W0.heap.size ≤ b) := by
                      have h1 : (fun (P Q : List Value) => W.ownsRow w1.heap.size 52 3 (.slice (some ⟨g9, 0, none⟩) (k + 1) c9) (l.length + 1) (P ++ lvSes (.agg #[.int .i64 c, .int .i64 1, .slice none 0 0]) ++ Q)) (cs.take (k * 3)) (cs.drop (k * 3)) := by
                        rw [HP12.out.1, HP12.out.2, HN.out, ← e9]
                        exact owns_base g13' (by omega)
                      have h2 := NO.ins HPW.out HFF.out (i := k) (by rw [HN.out]; omega) (new_ses W0 w1.heap.size c) rfl (fun b _ h => noBlkZ h) h1 (Mod.of_below hBW) (fun b hb => .inr (by have := (g13'.lt b (by rw [e9]; exact hb)).1; omega))
                      rw [HPut.out]
                      exact h2
                    refine ⟨?_⟩
                    simp only [over, Act.put, List.getElem_toArray, List.getElem_cons_zero, List.getElem_cons_succ, List.map_cons, List.map_nil, List.foldl_cons, List.foldl_nil, List.setIfInBounds_toArray, List.set_cons_zero, List.set_cons_succ]
                    simp only [e9] at g13' ⊢
                    have s0 := cell_keep hBW (cell_keep hZ0 r0)
                    have s1 := cell_keep hBW (cell_keep hZ0 r1)
                    have s2 := cell_keep hBW (cell_keep hZ0 r2)
                    have s3 := cell_keep hBW (cell_keep hZ0 r3)
                    have s4 := cell_keep hBW (cell_keep hZ0 r4)
                    have s5 := cell_keep hBW (cell_keep hZ0 r5)
                    have s6 := cell_keep hBW (cell_keep hZ0 r6)
                    have s7 := cell_keep hBW (cell_keep hZ0 r7)
                    have sf : ∀ o, W.frozen? ⟨w.heap.size, o, none⟩ = false := fun o => by rw [(bcell hBW).2 _ _ (by omega), (bcell hZ0).2 _ _ (by omega)]; exact rf o
                    go_simp
                    refine hK _ _ ?_
                    clear hK K
                    refine NoPanic.normal ?_
                    obtain ⟨F', o9, hF9⟩ := HIn.out
                    have HO9 : Hid (sessR.O W w1.heap.size F' (.slice (some ⟨g9, 0, none⟩) (k + 1) c9) (putZ c l)) := o9
                    have HF9 : Hid (∀ b, F' b → w.heap.size < b) := fun b hb => by
                      rcases hF9 b hb with h | h | h
                      · have := HF3.out b h; omega
                      · exact (noBlkZ h).elim
                      · omega
                    clear o9 hF9 HIn g13' HS1 HS2 hS
                    go_wp2
                    refine bodyPost_ret (v := .agg #[.int .i64 0, .int .i64 0, .slice (some ⟨g9, 0, none⟩) (k + 1) c9, .slice none 0 0, .slice none 0 0, .slice none 0 0, .slice none 0 0, .slice none 0 0]) (by simp [results, Try.results11, go_sem, s0, s1, s2, s3, s4, s5, s6, s7, sf]) rfl (sesR_ret HC.out (setZ8 _ (sessR.base HO9.out (by omega)) (fun hb => by have := HF9.out _ hb; omega) _ _ _ _ _ _ _ _) (by (repeat (first | refine bset ?_ (by simp; omega) _ | refine bset ?_ (by simp) _ | refine balloc ?_ _ | assumption))))
      · have HC : Hid (Z = ⟨0, 0, l, cluZ⟩) := HEs2.out hh
        have g1 : (0 : Int) ≤ fi := by rw [hh] at hfi; exact of_decide_eq_true hfi
        clear HEs2 HE22 HEp2 hfi
        go_wp2
        refine bodyPost_ret (v := .agg #[.int .i64 0, .int .i64 0, .slice a2 n c2, .slice none 0 0, .slice none 0 0, .slice none 0 0, .slice none 0 0, .slice none 0 0]) (by simp [results, Try.results11, go_sem, r0, r1, r2, r3, r4, r5, r6, r7, rf]) rfl (sesR_ret HC.out (setZ8 _ (sessR.base HO3.out (by omega)) (fun hb => by have := HF3.out _ hb; omega) _ _ _ _ _ _ _ _) (by (repeat (first | refine bset ?_ (by simp; omega) _ | refine bset ?_ (by simp) _ | refine balloc ?_ _ | assumption))))
  · have HC : Hid (Z = errZ (sesF l)) := HE0.out h0
    clear HE0 HE3 HEs HE2 HEp HOk HCp HFd
    generalize sesF l = k at *
    have h0' : (k != 0) = true := bne_iff_ne.2 h0
    go_wp2
    refine bodyPost_ret (v := .agg #[.int .i64 k, .int .i64 0, .slice none 0 0, .slice none 0 0, .slice none 0 0, .slice none 0 0, .slice none 0 0, .slice none 0 0]) (by simp [results, Try.results11, go_sem, r0, r1, r2, r3, r4, r5, r6, r7, rf]) rfl (sesR_err k HC.out (by (repeat (first | refine bset ?_ (by simp; omega) _ | refine bset ?_ (by simp) _ | refine balloc ?_ _ | assumption))))
end Go.Proofs.Ytjemciikdijokaa


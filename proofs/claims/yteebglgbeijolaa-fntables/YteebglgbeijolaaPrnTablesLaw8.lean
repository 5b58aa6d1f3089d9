import Derived.Test.YteebglgbeijolaaPrnTablesLaw4
import Derived.Test.YteebglgbeijolaaPrnTablesLaw1
import Derived.Test.YteebglgbeijolaaPrnTablesLaw7
import Derived.Test.YteebglgbeijolaaPrnTablesLaw3
import Derived.Test.YteebglgbeijolaaPrnTablesLaw6

/-
  As RegS, where an operation may also write into what another one made, and takes it over (an append to what was just made).
-/
namespace Go.Proofs.Yteebglgbeijolaa
open Go.RowKit

section
variable {P : Program} {ops : Array Oper} {Q : Exit → Act → World → Prop} {md : Region.Mode} {S : World → Prop} {t : Nat}

def Alive (L : List (Nat × Nat)) (cons : Nat → List Nat) (listed : Array Bool) (j : Nat) : Prop := listed.getD j true = true ∧ ∀ p ∈ L, listed.getD p.1 true = true → j ∉ cons p.1
def Taken (cons : Nat → List Nat) (Φ : Nat → Nat → Prop) (i b : Nat) : Prop := ∃ j ∈ cons i, Φ j b
def FIn (w0 w : World) (F : Nat → Prop) : Prop := ∀ b, F b → w0.heap.size ≤ b ∧ b < w.heap.size
def FApart (F F' : Nat → Prop) : Prop := ∀ b, F b → ¬ F' b
def StepC (P : Program) (md : Region.Mode) (ops : Array Oper) (Q : Exit → Act → World → Prop) (S : World → Prop) (L : List (Nat × Nat)) (cons : Nat → List Nat) (G : Nat → (Nat → Value) → (Nat → Prop) → World → Prop) (a0 : Act) (w0 : World) (p : Nat × Nat) : Prop :=
  ∃ o, ops[p.1]? = some o ∧ o.dst = some p.2 ∧ ∀ (y : Nat → Value) (w : World) (Φ : Nat → Nat → Prop), S w → Below w0.heap.size w0 w →
    (∀ q ∈ L, waitsFor md ops p.1 q.1 = true → (q.1 ∈ cons p.1 ∨ ∀ r ∈ L, q.1 ∉ cons r.1) → FIn w0 w (Φ q.1) ∧ G q.1 y (Φ q.1) w) →
    ∀ K : Act → World → Prop, (∀ v w' F', Mod (Taken cons Φ p.1) w w' → (∀ b, F' b → Taken cons Φ p.1 b ∨ (w.heap.size ≤ b ∧ b < w'.heap.size)) → G p.1 (updV y p.2 v) F' w' → K ((over a0 (L.map Prod.snd) y).put (some p.2) v) w') →
      Shut (if Region.wanted o (yielded ops (over a0 (L.map Prod.snd) y).tmps) = true then Oper.wp P o (over a0 (L.map Prod.snd) y) w K Q else K ((over a0 (L.map Prod.snd) y).put o.dst undef) w)
theorem upto_cons (L : List (Nat × Nat)) (cons : Nat → List Nat) (G : Nat → (Nat → Value) → (Nat → Prop) → World → Prop) {f : Nat} {listed : Array Bool} {a0 : Act} {w0 : World}
    (hrise : risesB md ops = true) (hsz : listed.size = ops.size) (hot : ∃ ot, ops[t]? = some ot)
    (hall : ∀ i, i < ops.size → listed.getD i true = false → i = t ∨ ∃ p ∈ L, p.1 = i)
    (hun : listed.getD t true = false ∧ ∀ p ∈ L, listed.getD p.1 true = false)
    (hno : (L.map Prod.fst).Nodup) (hnd : (L.map Prod.snd).Nodup) (htl : ∀ p ∈ L, p.1 ≠ t ∧ waitsFor md ops t p.1 = true) (hf : f = L.length + 1)
    (hcons : ∀ p ∈ L, ∀ j ∈ cons p.1, waitsFor md ops p.1 j = true ∧ ∃ q ∈ L, q.1 = j) (huniq : ∀ p ∈ L, ∀ r ∈ L, p.1 ≠ r.1 → ∀ j ∈ cons p.1, j ∉ cons r.1)
    (hS : S w0) (hSst : ∀ (F : Nat → Prop) (w w' : World), S w → Mod F w w' → (∀ b, F b → w0.heap.size ≤ b) → S w')
    (hG : ∀ p ∈ L, ∀ (y y' : Nat → Value) (F F' : Nat → Prop) (w w' : World), G p.1 y F w → FIn w0 w F → Mod F' w w' → FApart F' F → (∀ b, F' b → w0.heap.size ≤ b) → y' p.2 = y p.2 → (∀ q ∈ L, waitsFor md ops p.1 q.1 = true → y' q.2 = y q.2) → G p.1 y' F w')
    (hstep : ∀ p ∈ L, StepC P md ops Q S L cons G a0 w0 p)
    (hlast : ∃ o, ops[t]? = some o ∧ ∀ (y : Nat → Value) (w : World) (Φ : Nat → Nat → Prop), S w → Below w0.heap.size w0 w → (∀ q ∈ L, (∀ r ∈ L, q.1 ∉ cons r.1) → FIn w0 w (Φ q.1) ∧ G q.1 y (Φ q.1) w) → (∀ q ∈ L, ∀ r ∈ L, q.1 ≠ r.1 → (∀ p ∈ L, q.1 ∉ cons p.1) → (∀ p ∈ L, r.1 ∉ cons p.1) → FApart (Φ q.1) (Φ r.1)) →
      ∀ K : Act → World → Prop, (∀ a' w', Q .normal a' w' → K a' w') → Shut (if Region.wanted o (yielded ops (over a0 (L.map Prod.snd) y).tmps) = true then Oper.wp P o (over a0 (L.map Prod.snd) y) w K Q else K ((over a0 (L.map Prod.snd) y).put o.dst undef) w)) :
    wpUpto P md ops Q S t f listed a0 w0 := by
  have H : ∀ (n f : Nat) (listed : Array Bool) (y : Nat → Value) (w : World) (Φ : Nat → Nat → Prop),
      f = (L.filter fun p => !listed.getD p.1 true).length + 1 → listed.size = ops.size → listed.getD t true = false →
      (∀ i, i < ops.size → listed.getD i true = false → i = t ∨ ∃ p ∈ L, p.1 = i) →
      (∀ p ∈ L, listed.getD p.1 true = true → ∀ q ∈ L, waitsFor md ops p.1 q.1 = true → listed.getD q.1 true = true) →
      S w → Below w0.heap.size w0 w → (∀ q ∈ L, Alive L cons listed q.1 → FIn w0 w (Φ q.1) ∧ G q.1 y (Φ q.1) w) →
      (∀ q ∈ L, ∀ r ∈ L, q.1 ≠ r.1 → Alive L cons listed q.1 → Alive L cons listed r.1 → FApart (Φ q.1) (Φ r.1)) →
      f ≤ n → wpUpto P md ops Q S t f listed (over a0 (L.map Prod.snd) y) w := by
    intro n
    induction n with
    | zero => intro f listed y w Φ hf _ _ _ _ _ _ _ _ hn; omega
    | succ n ih =>
      intro f listed y w Φ hf hsz htun hall hdown hS hB hGs hAp hn
      obtain ⟨ot, hot⟩ := hot
      have htlt : t < ops.size := by
        rcases Nat.lt_or_ge t ops.size with h | h
        · exact h
        · rw [Array.getElem?_eq_none h] at hot; cases hot
      obtain ⟨g, rfl⟩ : ∃ g, f = g + 1 := ⟨_, hf⟩
      have hg : g = (L.filter fun p => !listed.getD p.1 true).length := by omega
      refine ⟨fun h => ?_, fun i hi' => ?_⟩
      · obtain ⟨j, hj⟩ := ready_some hrise hsz (t + 1) t (by omega) htlt htun
        rw [h] at hj
        cases hj
      obtain ⟨hiun, o, hio, hdeps⟩ := mem_ready.1 hi'
      have hilt : i < ops.size := by
        rcases Nat.lt_or_ge i ops.size with h | h
        · exact h
        · rw [Array.getElem?_eq_none h] at hio; cases hio
      have hdep : ∀ k, k < ops.size → waitsFor md ops i k = true → listed.getD k true = true := by
        intro k hk hw
        unfold waitsFor at hw
        rw [hio] at hw
        obtain ⟨e, he, hb⟩ := Array.any_eq_true'.1 hw
        simp only [Bool.and_eq_true, beq_iff_eq] at hb
        have h1 := hdeps e he hb.1
        rw [hb.2] at h1
        have hk' : k < listed.size := by omega
        simp [hk'] at h1 ⊢
        exact h1
      have hLlt : ∀ p ∈ L, p.1 < ops.size := by
        intro p hp
        obtain ⟨o', ho', _⟩ := hstep p hp
        rcases Nat.lt_or_ge p.1 ops.size with h | h
        · exact h
        · rw [Array.getElem?_eq_none h] at ho'; cases ho'
      have key : ∀ K : Act → World → Prop, (if Region.wanted o (yielded ops (over a0 (L.map Prod.snd) y).tmps) = true then Oper.wp P o (over a0 (L.map Prod.snd) y) w K Q else K ((over a0 (L.map Prod.snd) y).put o.dst undef) w) → wpOp P ops Q i K (over a0 (L.map Prod.snd) y) w := by
        intro K h1
        unfold wpOp
        simp only [hio]
        split
        · rename_i hw
          rw [if_pos hw] at h1
          exact .inl h1
        · rename_i hw
          rw [if_neg hw] at h1
          exact h1
      refine key _ ?_
      by_cases hit : i = t
      · subst hit
        have hl : ∀ p ∈ L, listed.getD p.1 true = true := fun p hp => hdep p.1 (hLlt p hp) (htl p hp).2
        obtain ⟨o2, ho2, hlst⟩ := hlast
        rw [hio] at ho2
        cases ho2
        refine (hlst y w Φ hS hB (fun q hq hc => hGs q hq ⟨hl q hq, fun p hp _ => hc p hp⟩) (fun q hq r hr hne h1 h2 => hAp q hq r hr hne ⟨hl q hq, fun p hp _ => h1 p hp⟩ ⟨hl r hr, fun p hp _ => h2 p hp⟩) _ (fun a' w' hq => ⟨fun h => absurd rfl h, upto_done ?_ hq⟩)).out
        rw [List.eq_nil_iff_forall_not_mem]
        intro j hj
        obtain ⟨hjun, oj, hjo, _⟩ := mem_ready.1 hj
        have hjl : j < ops.size := by
          rcases Nat.lt_or_ge j ops.size with h | h
          · exact h
          · rw [Array.getElem?_eq_none h] at hjo; cases hjo
        by_cases hji : i = j
        · subst hji
          have hk' : i < listed.size := by omega
          simp [hk'] at hjun
        · rw [getD_set_ne true hji] at hjun
          rcases hall j hjl hjun with h | ⟨p, hp, h⟩
          · exact hji h.symm
          · rw [← h, hl p hp] at hjun; cases hjun
      · obtain ⟨p, hp, hpi⟩ := (hall i hilt hiun).resolve_left hit
        subst hpi
        obtain ⟨o', ho', hdst, hst⟩ := hstep p hp
        rw [hio] at ho'
        cases ho'
        -- what p takes over is there
        have hcal : ∀ q ∈ L, q.1 ∈ cons p.1 → Alive L cons listed q.1 := fun q hq hc => ⟨hdep q.1 (hLlt q hq) (hcons p hp _ hc).1, fun r hr hrl hcr => by
          by_cases e : r.1 = p.1
          · rw [e, hiun] at hrl; cases hrl
          · exact huniq p hp r hr (Ne.symm e) q.1 hc hcr⟩
        refine (hst y w Φ hS hB (fun q hq hw hc => ?_) _ (fun v w' F' hm hF' hGp => ⟨fun _ => hSst _ _ _ hS hm ?_, ?_⟩)).out
        · rcases hc with hc | hc
          · exact hGs q hq (hcal q hq hc)
          · exact hGs q hq ⟨hdep q.1 (hLlt q hq) hw, fun r hr _ => hc r hr⟩
        · rintro b ⟨j, hj, hb⟩
          obtain ⟨_, q, hq, rfl⟩ := hcons p hp j hj
          exact ((hGs q hq (hcal q hq hj)).1 b hb).1
        have hTk : ∀ b, Taken cons Φ p.1 b → w0.heap.size ≤ b ∧ b < w.heap.size := by
          rintro b ⟨j, hj, hb⟩
          obtain ⟨_, q, hq, rfl⟩ := hcons p hp j hj
          exact (hGs q hq (hcal q hq hj)).1 b hb
        rw [over_put (List.mem_map_of_mem hp) hnd]
        have hlt : p.1 < listed.size := by omega
        have hself' : (listed.setIfInBounds p.1 true).getD p.1 true = true := by simp [hlt]
        have hoth : ∀ j, p.1 ≠ j → (listed.setIfInBounds p.1 true).getD j true = listed.getD j true := fun j h => getD_set_ne true h
        have hinj : ∀ q ∈ L, q.1 = p.1 → q = p := fun q hq h => inj_fst L hno q hq p hp h
        have hinj2 : ∀ q ∈ L, q.2 = p.2 → q = p := fun q hq h => inj_snd L hnd q hq p hp h
        -- who is alive behind p, and is not p, was alive ahead of it, and is not taken over
        have hback : ∀ q ∈ L, q.1 ≠ p.1 → Alive L cons (listed.setIfInBounds p.1 true) q.1 → Alive L cons listed q.1 ∧ q.1 ∉ cons p.1 := fun q hq e ha => by
          refine ⟨⟨by rw [← hoth _ (Ne.symm e)]; exact ha.1, fun r hr hrl => ?_⟩, ha.2 p hp hself'⟩
          by_cases e2 : r.1 = p.1
          · rw [e2, hiun] at hrl; cases hrl
          · exact ha.2 r hr (by rw [hoth _ (Ne.symm e2)]; exact hrl)
        have hTq : ∀ q ∈ L, Alive L cons listed q.1 → q.1 ∉ cons p.1 → FApart (Taken cons Φ p.1) (Φ q.1) := by
          rintro q hq ha hn b ⟨j, hj, hb⟩
          obtain ⟨_, r, hr, rfl⟩ := hcons p hp j hj
          exact hAp r hr q hq (fun e => hn (e ▸ hj)) (hcal r hr hj) ha b hb
        refine ih g (listed.setIfInBounds p.1 true) (updV y p.2 v) w' (fun j => if j = p.1 then F' else Φ j) ?_ (by simpa using hsz) ?_ ?_ ?_ (hSst _ _ _ hS hm (fun b hb => (hTk b hb).1)) (hm.below hB hB.size (fun b hb => (hTk b hb).1)) ?_ ?_ (by omega)
        · rw [hg]
          refine filter_less hno hp (by rw [hiun]; rfl) (by rw [hself']; rfl) (fun q hq hne => ?_)
          rw [hoth _ (fun c => hne (hinj q hq c.symm))]
        · rw [hoth _ (fun h => hit h)]; exact htun
        · intro j hj hju
          by_cases e : p.1 = j
          · subst e; rw [hself'] at hju; cases hju
          · rw [hoth _ e] at hju; exact hall j hj hju
        · intro q hq hql r hr hw
          by_cases e : p.1 = r.1
          · rw [← e]; exact hself'
          · rw [hoth _ e]
            by_cases e2 : p.1 = q.1
            · rw [← e2] at hw; exact hdep r.1 (hLlt r hr) hw
            · rw [hoth _ e2] at hql; exact hdown q hq hql r hr hw
        · intro q hq ha
          by_cases e : q.1 = p.1
          · have e2 := hinj q hq e
            subst e2
            simp only [if_true]
            refine ⟨fun b hb => ?_, hGp⟩
            rcases hF' b hb with h | h
            · have := hTk b h; have := hm.size; omega
            · have := hB.size; omega
          · obtain ⟨h1, h2⟩ := hback q hq e ha
            simp only [if_neg e]
            obtain ⟨g1, g2⟩ := hGs q hq h1
            refine ⟨fun b hb => ⟨(g1 b hb).1, Nat.lt_of_lt_of_le (g1 b hb).2 hm.size⟩, hG q hq y (updV y p.2 v) _ _ w w' g2 g1 hm (hTq q hq h1 h2) (fun b hb => (hTk b hb).1) ?_ ?_⟩
            · exact if_neg (fun c => e (by rw [hinj2 q hq c]))
            · intro r hr hw
              refine if_neg (fun c => ?_)
              have e3 := hinj2 r hr c
              subst e3
              rw [hdown q hq h1.1 _ hr hw] at hiun
              cases hiun
        · intro q hq r hr hne hqa hra
          by_cases e : q.1 = p.1
          · have e' : r.1 ≠ p.1 := fun c => hne (e.trans c.symm)
            obtain ⟨h1, h2⟩ := hback r hr e' hra
            simp only [if_pos e, if_neg e']
            intro b hb hb2
            rcases hF' b hb with h | h
            · exact hTq r hr h1 h2 b h hb2
            · have := ((hGs r hr h1).1 b hb2).2; omega
          · obtain ⟨h1, h2⟩ := hback q hq e hqa
            by_cases e' : r.1 = p.1
            · simp only [if_neg e, if_pos e']
              intro b hb hb2
              rcases hF' b hb2 with h | h
              · exact hTq q hq h1 h2 b h hb
              · have := ((hGs q hq h1).1 b hb).2; omega
            · obtain ⟨h3, _⟩ := hback r hr e' hra
              simp only [if_neg e, if_neg e']
              exact hAp q hq r hr hne h1 h3
  have h0 := H f f listed (fun s => a0.tmps.getD s undef) w0 (fun _ _ => False) (by
    rw [hf, List.filter_eq_self.2 (fun p hp => by rw [hun.2 p hp]; rfl)]) hsz hun.1 hall (fun p hp h => by rw [hun.2 p hp] at h; cases h) hS (Below.refl _ _) (fun q hq h => by have h := h.1; rw [hun.2 q hq] at h; cases h) (fun q hq r hr hne h => by have h := h.1; rw [hun.2 q hq] at h; cases h) (Nat.le_refl _)
  rw [over_self] at h0
  exact h0
def checkC (md : Region.Mode) (ops : Array Oper) (listed : Array Bool) (t f : Nat) (L : List (Nat × Nat)) (cons : Nat → List Nat) : Bool :=
  checkS md ops listed t f L && (L.all fun p => (cons p.1).all fun j => waitsFor md ops p.1 j && L.any fun q => decide (q.1 = j)) && (L.all fun p => L.all fun r => decide (p.1 = r.1) || (cons p.1).all fun j => decide (j ∉ cons r.1))
theorem upto_cons' (L : List (Nat × Nat)) (cons : Nat → List Nat) (G : Nat → (Nat → Value) → (Nat → Prop) → World → Prop) {f : Nat} {listed : Array Bool} {a0 : Act} {w0 : World} (hc : checkC md ops listed t f L cons = true)
    (hS : S w0) (hSst : ∀ (F : Nat → Prop) (w w' : World), S w → Mod F w w' → (∀ b, F b → w0.heap.size ≤ b) → S w')
    (hG : ∀ p ∈ L, ∀ (y y' : Nat → Value) (F F' : Nat → Prop) (w w' : World), G p.1 y F w → FIn w0 w F → Mod F' w w' → FApart F' F → (∀ b, F' b → w0.heap.size ≤ b) → y' p.2 = y p.2 → (∀ q ∈ L, waitsFor md ops p.1 q.1 = true → y' q.2 = y q.2) → G p.1 y' F w')
    (hstep : ∀ p ∈ L, StepC P md ops Q S L cons G a0 w0 p)
    (hlast : ∃ o, ops[t]? = some o ∧ ∀ (y : Nat → Value) (w : World) (Φ : Nat → Nat → Prop), S w → Below w0.heap.size w0 w → (∀ q ∈ L, (∀ r ∈ L, q.1 ∉ cons r.1) → FIn w0 w (Φ q.1) ∧ G q.1 y (Φ q.1) w) → (∀ q ∈ L, ∀ r ∈ L, q.1 ≠ r.1 → (∀ p ∈ L, q.1 ∉ cons p.1) → (∀ p ∈ L, r.1 ∉ cons p.1) → FApart (Φ q.1) (Φ r.1)) →
      ∀ K : Act → World → Prop, (∀ a' w', Q .normal a' w' → K a' w') → Shut (if Region.wanted o (yielded ops (over a0 (L.map Prod.snd) y).tmps) = true then Oper.wp P o (over a0 (L.map Prod.snd) y) w K Q else K ((over a0 (L.map Prod.snd) y).put o.dst undef) w)) :
    wpUpto P md ops Q S t f listed a0 w0 := by
  unfold checkC checkS at hc
  simp only [Bool.and_eq_true, decide_eq_true_eq, List.all_eq_true, List.any_eq_true, Bool.or_eq_true, Bool.not_eq_true', List.mem_range] at hc
  obtain ⟨⟨⟨⟨⟨⟨⟨⟨⟨⟨⟨h1, h2⟩, h3⟩, h4⟩, h5⟩, h6⟩, h7⟩, h8⟩, h9⟩, h10⟩, h11⟩, h13⟩ := hc
  refine upto_cons L cons G h1 h2 (Option.isSome_iff_exists.1 h3) (fun i hi hu => ?_) ⟨h5, h6⟩ h7 h8 h9 h10 h11 (fun p hp r hr hne => (h13 p hp r hr).resolve_left hne) hS hSst hG hstep hlast
  rcases h4 i hi with (h | h) | h
  · rw [hu] at h; cases h
  · exact .inl h
  · exact .inr h
end

end Go.Proofs.Yteebglgbeijolaa

/-
  Rows appended in a region that draws its order.
-/
namespace Go.Proofs.Yteebglgbeijolaa
open Go.RowKit
set_option linter.unusedSectionVars false
variable [DecidableEq Rw] [Inhabited Rw] [DecidableEq TabR] [Inhabited TabR]
set_option linter.unusedVariables false
set_option linter.unusedSimpArgs false

def rowsF : Rep (List Rw) := fRep 61 4 rwsC RowsV RowsV_below RowsV_of_owns
theorem rwsC_app (xs ys : List Rw) : rwsC (xs ++ ys) = rwsC xs ++ rwsC ys := by simp [rwsC]
theorem rwsC_oneC (xs : List Rw) : ∀ u ∈ rwsC xs, u.oneCell' = true := by
  intro u hu
  unfold rwsC at hu
  obtain ⟨l, _, h⟩ := List.mem_flatMap.1 hu
  exact rowC_one l u h
theorem rwsC_cellsAt {w : World} {b o : Nat} : ∀ (xs : List Rw), (∀ i, i < xs.length → rowCells w b (o + i * 4) (xs.getD i default)) → ∀ j u, (rwsC xs)[j]? = some u → w.cell? ⟨b, o + j, none⟩ = some u := by
  intro xs h j u hj
  have hlt : j < (rwsC xs).length := by
    rcases Nat.lt_or_ge j (rwsC xs).length with h | h
    · exact h
    · rw [List.getElem?_eq_none h] at hj; cases hj
  rw [length_rwsC] at hlt
  have hi : j / 4 < xs.length := by omega
  obtain ⟨g0, g1, g2, g3⟩ := get_rwsC xs (j / 4) hi
  obtain ⟨c0, c1, c2, c3⟩ := h (j / 4) hi
  have hm : j % 4 = 0 ∨ j % 4 = 1 ∨ j % 4 = 2 ∨ j % 4 = 3 := by omega
  rcases hm with e | e | e | e
  · have ej : j = j / 4 * 4 := by omega
    rw [ej] at hj ⊢
    rw [g0] at hj
    rw [← hj]
    exact c0
  · have ej : j = j / 4 * 4 + 1 := by omega
    rw [ej] at hj ⊢
    rw [g1] at hj
    rw [← hj, ← Nat.add_assoc]
    exact c1
  · have ej : j = j / 4 * 4 + 2 := by omega
    rw [ej] at hj ⊢
    rw [g2] at hj
    rw [← hj, ← Nat.add_assoc]
    exact c2
  · have ej : j = j / 4 * 4 + 3 := by omega
    rw [ej] at hj ⊢
    rw [g3] at hj
    rw [← hj, ← Nat.add_assoc]
    exact c3
theorem step_appRows (Y : World) {ops : Array Oper} {o : Oper} {a : Act} {K : Act → World → Prop} {Q : Exit → Act → World → Prop} {E : Prop} (hgd : o.guard = none) (s x : Operand)
    (ho : o.op = .call { callee := .builtin .append, args := #[s, x], argTypes := #[55, 55] })
    (base : Nat) (v : Value) (F1 : Nat → Prop) (xs : List Rw) (hs : a.eval s = v) (u : Value) (ys : List Rw) (hx : a.eval x = u)
    (hown : rowsF.O Y base F1 v xs) (hsrc : AppAny Y u ys.length (rwsC ys)) (hlen : xs.length + ys.length ≤ 1048576) (hbase : base ≤ Y.heap.size)
    (h : ∀ v' w', rowsF.O w' base (fun b => v'.ownBlock = some b) v' (xs ++ ys) → Mod F1 Y w' → (∀ b, v'.ownBlock = some b → F1 b ∨ (Y.heap.size ≤ b ∧ b < w'.heap.size)) → K (a.put o.dst v') w') :
    if Region.wanted o (yielded ops a.tmps) = true then Oper.wp Try.prog o a Y K Q else E := by
  obtain ⟨i0, hi, hz0, hz1, hz2⟩ := info_parts infoRw
  have hF1 : F1 = fun b => v.ownBlock = some b := hown.2
  rcases hsrc with ⟨c, rfl, hm, _⟩ | ⟨ad, c, rfl, hc⟩
  · have hy : ys = [] := List.eq_nil_of_length_eq_zero hm
    subst hy
    have hw : Region.wanted o (yielded ops a.tmps) = true := by simp [Region.wanted, hgd]
    rw [if_pos hw]
    have hr := run_append_none_any (P := Try.prog) Y base 55 o.type 61 i0 4 c Try.underlying55 hi v xs.length (rwsC xs) hown.1
    unfold Oper.wp execOp
    simp only [ho, resolve, invoke, builtin, Sem.run_bind, Sem.run_pure, Result.andThen_ok, List.map_toArray, List.map_cons, List.map_nil, hs, hx, hr]
    refine h v Y ?_ (Mod.refl _ _) (fun b hb => .inl (by rw [hF1]; exact hb))
    rw [List.append_nil]
    exact ⟨hown.1, rfl⟩
  · refine step_append_at Y hgd s x 55 ho base 61 i0 _ 4 48 Try.underlying55 hi hz0 hz1 hz2 rfl (by decide) v xs.length (rwsC xs) hs hown.1 ad ys.length c (rwsC ys) hx (length_rwsC ys) hc (rwsC_oneC ys) (by unfold maxLen; omega) (by omega) hbase ?_
    intro v' w' h1 h2 h3
    refine h v' w' ⟨by rw [List.length_append, rwsC_app]; exact h1, rfl⟩ (by rw [hF1]; exact Mod.of_grown h2) (fun b hb => ?_)
    rcases h3 with h3 | h3
    · exact .inl (by rw [hF1]; exact h3 ▸ hb)
    · rw [h3] at hb
      simp only [Option.some.injEq] at hb
      have := (h1.lt b (by rw [h3, hb])).2
      exact .inr ⟨by omega, this⟩
def putG (base : Nat) (p q : List Rw) (r : Rw) : Nat → (Nat → Value) → (Nat → Prop) → World → Prop
  | 0, y, F, w => rowsF.O w base F (y 34) []
  | 4, y, F, w => rowsF.O w base F (y 38) p
  | 6, y, F, w => rowsF.O w base F (y 40) [r]
  | 7, y, F, w => rowsF.O w base F (y 41) (p ++ [r])
  | 11, y, F, w => rowsF.O w base F (y 45) (p ++ [r] ++ q)
  | _, _, _, _ => True
def putC : Nat → List Nat
  | 4 => [0]
  | 7 => [4]
  | 11 => [7]
  | _ => []
theorem rowsAny_own {w : World} {base e size : Nat} {v : Value} {n : Nat} {cs : List Value} (h : w.ownsRow base e size v n cs) : AppAny w v n cs := by
  rcases h.2 with ⟨rfl, rfl⟩ | ⟨g, cap, cur, rfl, _, hh, _, _, _, ht⟩
  · refine .inl ⟨0, rfl, rfl, ?_⟩
    have := h.1
    simp at this
    exact this
  · refine .inr ⟨_, _, rfl, fun j x hj => ?_⟩
    have hlt : j < cs.length := by
      rcases Nat.lt_or_ge j cs.length with h | h
      · exact h
      · rw [List.getElem?_eq_none h] at hj; cases hj
    have hc := h.cellAt j (by rw [← h.1]; exact hlt)
    have e : (⟨g, 0, none⟩ : Addr).add j = ⟨g, j, none⟩ := by
      by_cases hj0 : j = 0
      · subst hj0; simp [Addr.add]
      · simp [Addr.add, hj0]
    rw [e]
    simpa [hj] using hc
theorem rowsAny_at {w : World} {b o c : Nat} {xs : List Rw} (h : ∀ i, i < xs.length → rowCells w b (o + i * 4) (xs.getD i default)) : AppAny w (.slice (some ⟨b, o, none⟩) xs.length c) xs.length (rwsC xs) := by
  refine .inr ⟨_, _, rfl, fun j x hj => ?_⟩
  have e : (⟨b, o, none⟩ : Addr).add j = ⟨b, o + j, none⟩ := by
    by_cases hj0 : j = 0
    · subst hj0; simp [Addr.add]
    · simp [Addr.add, hj0]
  rw [e]
  exact rwsC_cellsAt xs h j x hj
end Go.Proofs.Yteebglgbeijolaa

/-
  The specification's l5Put: where a row belongs.
-/
namespace Go.Proofs.Yteebglgbeijolaa
open Go.RowKit
set_option linter.unusedSectionVars false
variable [DecidableEq Rw] [Inhabited Rw] [DecidableEq TabR] [Inhabited TabR]
set_option linter.unusedVariables false
set_option linter.unusedSimpArgs false
attribute [local go_sem ↓] Go.wp_at_zero Go.wp_at_succ

def PutAt (ys : List Rw) (r : Rw) (k : Nat) : Prop := k ≤ ys.length ∧ (∀ j, j < k → ahead (ys.getD j default) r = true) ∧ (k < ys.length → ahead (ys.getD k default) r = false)
def putK (ys : List Rw) (r : Rw) (k : Nat) : List Rw := if k < ys.length ∧ ahead r (ys.getD k default) = false then ys else ys.take k ++ [r] ++ ys.drop k
theorem putKeep {w w' : World} {b o b' o' : Nat} {x y : Rw} (hb : Below w.heap.size w w') (h : rowCells w b o x) (h' : rowCells w b' o' y) :
    Below w.heap.size w w' ∧ (w'.cell? ⟨b, o, none⟩ = some (.string x.key) ∧ w'.cell? ⟨b, o + 1, none⟩ = some (.int .i64 x.ver) ∧ w'.cell? ⟨b, o + 2, none⟩ = some (.string x.val) ∧ w'.cell? ⟨b, o + 3, none⟩ = some (.bool x.gone)) ∧ (w'.cell? ⟨b', o', none⟩ = some (.string y.key) ∧ w'.cell? ⟨b', o' + 1, none⟩ = some (.int .i64 y.ver) ∧ w'.cell? ⟨b', o' + 2, none⟩ = some (.string y.val) ∧ w'.cell? ⟨b', o' + 3, none⟩ = some (.bool y.gone)) := rowKeep2 hb h h'
def PutR (ys : List Rw) (r : Rw) (x : Value) (w : World) (e : Ending) (w' : World) : Prop :=
  ∃ k, PutAt ys r k ∧ Below w.heap.size w w' ∧ ((putK ys r k = ys ∧ e = .returned x) ∨ ∃ v, e = .returned v ∧ w'.ownsRow w.heap.size 61 4 v (putK ys r k).length (rwsC (putK ys r k)))
set_option maxRecDepth 20000 in
set_option maxHeartbeats 8000000 in
theorem l5Put_any (x : Value) (ys : List Rw) (r : Rw) (w : World) (hx : RowsV w x ys) (hsome : ∃ b0 o0 c0, x = .slice (some ⟨b0, o0, none⟩) ys.length c0) (hn : ys.length ≤ 1048000) :
    Calls Try.prog 110 #[x, rowV r] w (PutR ys r x w) := by
  obtain ⟨ax, cx, rfl, hcx, hmx, hx⟩ := hx
  unfold maxLen at hmx
  have Hsome : Hid (∃ b0 o0, ax = some ⟨b0, o0, none⟩) := by
    obtain ⟨b0, o0, c0, h0⟩ := hsome
    simp only [Value.slice.injEq] at h0
    exact ⟨b0, o0, h0.1⟩
  clear hsome
  have HPA : Hid (∀ k, k ≤ ys.length → (∀ j, j < k → ahead (ys.getD j default) r = true) → (k < ys.length → ahead (ys.getD k default) r = false) → PutAt ys r k) := fun k h1 h2 h3 => ⟨h1, h2, h3⟩
  have HPK : Hid (∀ k, putK ys r k = if k < ys.length ∧ ahead r (ys.getD k default) = false then ys else ys.take k ++ [r] ++ ys.drop k) := fun k => rfl
  generalize hN : ys.length = n at *
  have HN : Hid (ys.length = n) := hN
  clear hN
  unfold rowV
  go_enter Try.func110, Try.ntmps110
  go_wp2
  go_loopw [5] (fun a W => ∃ k : Nat, k ≤ n ∧ a = .int .i64 k ∧ Hid (∀ j, j < k → ahead (ys.getD j default) r = true) ∧ rowCells W w.heap.size 0 r ∧ Below w.heap.size w W) (fun a _ => n - (intOf a).toNat)
  case atStart => exact ⟨0, Nat.zero_le _, rfl, fun j h => absurd h (Nat.not_lt_zero _), by unfold rowCells; simp [go_sem], balloc (Below.refl _ _) _⟩
  case round =>
    obtain ⟨k, hk, rfl, HA, hr, hbl⟩ := hrel
    have hi4 : (0 : Int) ≤ k := by omega
    by_cases hlt : k < n
    · obtain ⟨b, o, rfl, hc⟩ := hx k hlt
      have HX : Hid (∀ i, i < n → ∃ b' o', some (⟨b, o, none⟩ : Addr) = some ⟨b', o', none⟩ ∧ rowCells w b' (o' + i * 4) (ys.getD i default)) := hx
      obtain ⟨l, hl⟩ : ∃ l, l = ys.getD k default := ⟨_, rfl⟩
      rw [← hl] at hc
      have HL : Hid (l = ys.getD k default) := hl
      clear hl hx
      have r1 := rowCells_below hbl hc
      have hi5 : (k : Int) < n := by omega
      have hi6 : decide (k < n) = true := decide_eq_true hlt
      cases hah : ahead l r
      all_goals
        go_wp2
        go_region_held3 (fun W => Below wr.heap.size wr W ∧ (W.cell? ⟨b, o + k * 4, none⟩ = some (.string l.key) ∧ W.cell? ⟨b, o + k * 4 + 1, none⟩ = some (.int .i64 l.ver) ∧ W.cell? ⟨b, o + k * 4 + 2, none⟩ = some (.string l.val) ∧ W.cell? ⟨b, o + k * 4 + 3, none⟩ = some (.bool l.gone)) ∧ (W.cell? ⟨w.heap.size, 0, none⟩ = some (.string r.key) ∧ W.cell? ⟨w.heap.size, 0 + 1, none⟩ = some (.int .i64 r.ver) ∧ W.cell? ⟨w.heap.size, 0 + 2, none⟩ = some (.string r.val) ∧ W.cell? ⟨w.heap.size, 0 + 3, none⟩ = some (.bool r.gone))) ((refine putKeep ?_ r1 hr; repeat (first | exact Below.refl _ _ | assumption | refine Below.drew ?_ | refine balloc ?_ _ | refine bstep ?_ (by assumption))))
          (first | (go_at_call 119; refine (l5Ahead_any l r _).mono ?_; rintro e wa ⟨rfl, hb1⟩; rw [hah]))
        rename_i hH
        have hB := bstep hbl hH.1
        have hr2 : rowCells wa w.heap.size 0 r := rowCells_below hH.1 hr
        have r2 : rowCells wa b (o + k * 4) l := rowCells_below hH.1 r1
        clear hH
      · have HP : Hid (PutAt ys r k) := HPA.out k hk HA.out (fun _ => by rw [← HL.out]; exact hah)
        clear hr r1
        cases hah2 : ahead r l
        all_goals
          go_wp2
          go_region_held3 (fun W => Below wa.heap.size wa W ∧ (W.cell? ⟨b, o + k * 4, none⟩ = some (.string l.key) ∧ W.cell? ⟨b, o + k * 4 + 1, none⟩ = some (.int .i64 l.ver) ∧ W.cell? ⟨b, o + k * 4 + 2, none⟩ = some (.string l.val) ∧ W.cell? ⟨b, o + k * 4 + 3, none⟩ = some (.bool l.gone)) ∧ (W.cell? ⟨w.heap.size, 0, none⟩ = some (.string r.key) ∧ W.cell? ⟨w.heap.size, 0 + 1, none⟩ = some (.int .i64 r.ver) ∧ W.cell? ⟨w.heap.size, 0 + 2, none⟩ = some (.string r.val) ∧ W.cell? ⟨w.heap.size, 0 + 3, none⟩ = some (.bool r.gone))) ((refine putKeep ?_ r2 hr2; repeat (first | exact Below.refl _ _ | assumption | refine Below.drew ?_ | refine balloc ?_ _ | refine bstep ?_ (by assumption))))
            (first | (go_at_call 119; refine (l5Ahead_any r l _).mono ?_; rintro e wb ⟨rfl, hb2⟩; rw [hah2]))
          rename_i hH
          have hB2 := bstep hB hH.1
          have hr3 : rowCells wb w.heap.size 0 r := rowCells_below hH.1 hr2
          clear hH
        · go_wp2
          go_ret
          refine ⟨k, HP.out, hB2, .inl ⟨?_, rfl⟩⟩
          rw [HPK.out, if_pos ⟨hlt, by rw [← HL.out]; exact hah2⟩]
        · have HE : Hid (putK ys r k = ys.take k ++ [r] ++ ys.drop k) := by
            rw [Hid, HPK.out, if_neg (by rintro ⟨_, h⟩; rw [← HL.out, hah2] at h; cases h)]
          have hB2s := hB2.size
          have hzr := World.block_lt_of_cell? _ _ hr3.1
          dsimp only at hzr
          have hi7 : (k : Int) ≤ n := by omega
          have hi8 : (k : Int) ≤ cx := by omega
          have hck : ¬ cx = k := by omega
          go_wp2
          refine wp_region_noPanic ?_
          refine region_upto (fun W => Below wb.heap.size wb W ∧ W.cell? ⟨w.heap.size, 0, none⟩ = some (.string r.key) ∧ W.cell? ⟨w.heap.size, 0 + 1, none⟩ = some (.int .i64 r.ver) ∧ W.cell? ⟨w.heap.size, 0 + 2, none⟩ = some (.string r.val) ∧ W.cell? ⟨w.heap.size, 0 + 3, none⟩ = some (.bool r.gone)) 12 (by kernel_rfl) ⟨by (repeat (first | exact Below.refl _ _ | assumption | refine Below.drew ?_ | refine balloc ?_ _ | refine bset ?_ (by simp; omega) _ | refine bset ?_ (by simp) _ | refine bstep ?_ (by assumption))), rowCells_below (by (repeat (first | exact Below.refl _ _ | assumption | refine Below.drew ?_ | refine balloc ?_ _ | refine bset ?_ (by simp; omega) _ | refine bset ?_ (by simp) _ | refine bstep ?_ (by assumption)))) hr3⟩ (fun hS => ?_)
          refine upto_take (i := 1) (v := ?_) rfl (by kernel_rfl) (by kernel_rfl) (by kernel_rfl) (by kernel_rfl) (fun _ _ _ h => h) (by rfl) hS ?_ ?_
          rotate_left
          · intro wS hSw
            try dsimp only at hSw
            first | (go_simp; done) | (go_simp; with_reducible rfl)
          try simp only [Act.put, List.getElem_toArray, List.getElem_cons_zero, List.getElem_cons_succ, List.setIfInBounds_toArray, List.set_cons_zero, List.set_cons_succ]
          refine upto_take (i := 2) (v := ?_) rfl (by kernel_rfl) (by kernel_rfl) (by kernel_rfl) (by kernel_rfl) (fun _ _ _ h => h) (by rfl) hS ?_ ?_
          rotate_left
          · intro wS hSw
            try dsimp only at hSw
            first | (go_simp; done) | (go_simp; with_reducible rfl)
          try simp only [Act.put, List.getElem_toArray, List.getElem_cons_zero, List.getElem_cons_succ, List.setIfInBounds_toArray, List.set_cons_zero, List.set_cons_succ]
          refine upto_take (i := 3) (v := ?_) rfl (by kernel_rfl) (by kernel_rfl) (by kernel_rfl) (by kernel_rfl) (fun _ _ _ h => h) (by rfl) hS ?_ ?_
          rotate_left
          · intro wS hSw
            try dsimp only at hSw
            first | (go_simp; done) | (go_simp; with_reducible rfl)
          try simp only [Act.put, List.getElem_toArray, List.getElem_cons_zero, List.getElem_cons_succ, List.setIfInBounds_toArray, List.set_cons_zero, List.set_cons_succ]
          refine upto_take (i := 5) (v := ?_) rfl (by kernel_rfl) (by kernel_rfl) (by kernel_rfl) (by kernel_rfl) (fun _ _ _ h => h) (by rfl) hS ?_ ?_
          rotate_left
          · intro wS hSw
            try dsimp only at hSw
            first | (go_simp; done) | (go_simp; with_reducible rfl)
          try simp only [Act.put, List.getElem_toArray, List.getElem_cons_zero, List.getElem_cons_succ, List.setIfInBounds_toArray, List.set_cons_zero, List.set_cons_succ]
          refine upto_take (i := 8) (v := ?_) rfl (by kernel_rfl) (by kernel_rfl) (by kernel_rfl) (by kernel_rfl) (fun _ _ _ h => h) (by rfl) hS ?_ ?_
          rotate_left
          · intro wS hSw
            try dsimp only at hSw
            first | (go_simp; done) | (go_simp; with_reducible rfl)
          try simp only [Act.put, List.getElem_toArray, List.getElem_cons_zero, List.getElem_cons_succ, List.setIfInBounds_toArray, List.set_cons_zero, List.set_cons_succ]
          refine upto_take (i := 9) (v := ?_) rfl (by kernel_rfl) (by kernel_rfl) (by kernel_rfl) (by kernel_rfl) (fun _ _ _ h => h) (by rfl) hS ?_ ?_
          rotate_left
          · intro wS hSw
            try dsimp only at hSw
            first | (go_simp; done) | (go_simp; with_reducible rfl)
          try simp only [Act.put, List.getElem_toArray, List.getElem_cons_zero, List.getElem_cons_succ, List.setIfInBounds_toArray, List.set_cons_zero, List.set_cons_succ]
          refine upto_take (i := 10) (v := ?_) rfl (by kernel_rfl) (by kernel_rfl) (by kernel_rfl) (by kernel_rfl) (fun _ _ _ h => h) (by rfl) hS ?_ ?_
          rotate_left
          · intro wS hSw
            try dsimp only at hSw
            first | (go_simp; done) | (go_simp; with_reducible rfl)
          try simp only [Act.put, List.getElem_toArray, List.getElem_cons_zero, List.getElem_cons_succ, List.setIfInBounds_toArray, List.set_cons_zero, List.set_cons_succ]
          have hW0 : Below wb.heap.size wb wb.drew := Below.drew (Below.refl _ _)
          have hB3 : Below w.heap.size w wb.drew := Below.drew hB2
          have hzW : wb.drew.heap.size = wb.heap.size := rfl
          have HS1 : Hid (∀ W : World, Below w.heap.size w W → ∀ c, AppAny W (.slice (some ⟨b, o, none⟩) (ys.take k).length c) (ys.take k).length (rwsC (ys.take k))) := fun W hW c => rowsAny_at (fun i hi => by
            rw [List.length_take] at hi
            obtain ⟨b', o', e', h'⟩ := HX.out i (by omega)
            simp only [Option.some.injEq, Addr.mk.injEq, and_true] at e'
            obtain ⟨rfl, rfl⟩ := e'
            have e2 : (ys.take k).getD i default = ys.getD i default := by simp [List.getD, List.getElem?_take, show i < k by omega]
            rw [e2]
            exact rowCells_below hW h')
          have HS2 : Hid (∀ W : World, Below w.heap.size w W → ∀ c, AppAny W (.slice (some ⟨b, o + k * 4, none⟩) (ys.drop k).length c) (ys.drop k).length (rwsC (ys.drop k))) := fun W hW c => rowsAny_at (fun i hi => by
            rw [List.length_drop, HN.out] at hi
            obtain ⟨b', o', e', h'⟩ := HX.out (k + i) (by omega)
            simp only [Option.some.injEq, Addr.mk.injEq, and_true] at e'
            obtain ⟨rfl, rfl⟩ := e'
            have e2 : (ys.drop k).getD i default = ys.getD (k + i) default := by simp [List.getD, List.getElem?_drop]
            rw [e2, show o + k * 4 + i * 4 = o + (k + i) * 4 by omega]
            exact rowCells_below hW h')
          have HL1 : Hid ((ys.take k).length = k) := by rw [Hid, List.length_take, HN.out]; omega
          have HL2 : Hid ((ys.drop k).length = n - k) := by rw [Hid, List.length_drop, HN.out]
          generalize wb.drew = W0 at *
          obtain ⟨P1, hP1⟩ : ∃ P, ys.take k = P := ⟨_, rfl⟩
          obtain ⟨P2, hP2⟩ : ∃ P, ys.drop k = P := ⟨_, rfl⟩
          rw [hP1] at HS1 HL1 HE
          rw [hP2] at HS2 HL2 HE
          clear hP1 hP2
          refine upto_cons' [(0, 34), (4, 38), (6, 40), (7, 41), (11, 45)] putC (putG W0.heap.size P1 P2 r) (by kernel_rfl) hS ?_ ?_ ?_ ?_
          · intro F' W W' h hm hF
            obtain ⟨h1, h3, h4, h5, h6⟩ := h
            exact ⟨hm.below h1 h1.size (fun b hb => by have := hF b hb; omega), hm.cell h3 (fun e => by have := hF _ e; dsimp only at this; omega), hm.cell h4 (fun e => by have := hF _ e; dsimp only at this; omega), hm.cell h5 (fun e => by have := hF _ e; dsimp only at this; omega), hm.cell h6 (fun e => by have := hF _ e; dsimp only at this; omega)⟩
          · intro pp hp
            simp only [List.mem_cons, List.not_mem_nil, or_false] at hp
            rcases hp with rfl | rfl | rfl | rfl | rfl
            all_goals
              intro y y' F F' W W' h hi hm hap hF e _
              simp only [putG] at h ⊢
              rw [e]
              exact rowsF.mod h hm (fun b h1 h2 => hap b h2 h1)
          · intro pp hp
            simp only [List.mem_cons, List.not_mem_nil, or_false] at hp
            rcases hp with rfl | rfl | rfl | rfl | rfl
            all_goals
              refine ⟨_, rfl, rfl, ?_⟩
              intro y W Φ hSW hBW hd K hK
              have hBw : Below w.heap.size w W := bstep hB3 hBW
            · clear hd
              refine ⟨?_⟩
              simp only [over, Act.put, List.getElem_toArray, List.getElem_cons_zero, List.getElem_cons_succ, List.map_cons, List.map_nil, List.foldl_cons, List.foldl_nil, List.setIfInBounds_toArray, List.set_cons_zero, List.set_cons_succ] at hK ⊢
              go_simp
              refine hK _ _ (fun b => b = W.heap.size) (Mod.of_below (by (repeat (first | exact Below.refl _ _ | assumption | refine Below.drew ?_ | refine balloc ?_ _ | refine bset ?_ (by simp; omega) _ | refine bset ?_ (by simp) _ | refine bstep ?_ (by assumption))))) (fun b hb => .inr (by simp; omega)) ?_
              simp only [putG, updV]
              refine ⟨World.ownsRow_lit (base := W0.heap.size) (e := 61) (size := 4) W #[] 0 hBW.size (by unfold maxLen; omega) rfl, ?_⟩
              funext b
              simp [Value.ownBlock, eq_comm]
            · have g0 := (hd (0, 34) (by simp) (by kernel_rfl) (.inl (by simp [putC]))).2
              clear hd
              simp only [putG] at g0
              refine ⟨?_⟩
              have hsrc := HS1.out W hBw cx
              rw [HL1.out] at hsrc
              refine step_appRows W rfl (.tmp 34) (.tmp 37) rfl W0.heap.size (y 34) (Φ 0) [] rfl (.slice (some ⟨b, o, none⟩) k cx) P1 rfl g0 (by rw [HL1.out]; exact hsrc) (by rw [HL1.out]; simp; omega) hBW.size ?_
              intro v' w' hO hm hl
              refine hK _ _ (fun b => v'.ownBlock = some b) (hm.mono (fun b hb => ⟨0, by simp [putC], hb⟩)) (fun b hb => (hl b hb).imp (fun h => ⟨0, by simp [putC], h⟩) (fun h => h)) ?_
              simp only [putG, updV]
              simpa using hO
            · clear hd
              obtain ⟨h1, h3, h4, h5, h6⟩ := hSW
              refine ⟨?_⟩
              simp only [over, Act.put, List.getElem_toArray, List.getElem_cons_zero, List.getElem_cons_succ, List.map_cons, List.map_nil, List.foldl_cons, List.foldl_nil, List.setIfInBounds_toArray, List.set_cons_zero, List.set_cons_succ] at hK ⊢
              go_simp
              refine hK _ _ (fun b => b = W.heap.size) (Mod.of_below (by (repeat (first | exact Below.refl _ _ | assumption | refine Below.drew ?_ | refine balloc ?_ _ | refine bset ?_ (by simp; omega) _ | refine bset ?_ (by simp) _ | refine bstep ?_ (by assumption))))) (fun b hb => .inr (by simp; omega)) ?_
              simp only [putG, updV]
              refine ⟨World.ownsRow_lit (base := W0.heap.size) (e := 61) (size := 4) W #[.string r.key, .int .i64 r.ver, .string r.val, .bool r.gone] 1 hBW.size (by unfold maxLen; omega) rfl, ?_⟩
              funext b
              simp [Value.ownBlock, eq_comm]
            · have g0 := (hd (4, 38) (by simp) (by kernel_rfl) (.inl (by simp [putC]))).2
              have g1 := (hd (6, 40) (by simp) (by kernel_rfl) (.inr (by simp [putC]))).2
              clear hd
              simp only [putG] at g0 g1
              refine ⟨?_⟩
              refine step_appRows W rfl (.tmp 38) (.tmp 40) rfl W0.heap.size (y 38) (Φ 4) P1 rfl (y 40) [r] rfl g0 (rowsAny_own g1.1) (by rw [HL1.out]; simp; omega) hBW.size ?_
              intro v' w' hO hm hl
              refine hK _ _ (fun b => v'.ownBlock = some b) (hm.mono (fun b hb => ⟨4, by simp [putC], hb⟩)) (fun b hb => (hl b hb).imp (fun h => ⟨4, by simp [putC], h⟩) (fun h => h)) ?_
              simp only [putG, updV]
              simpa using hO
            · have g0 := (hd (7, 41) (by simp) (by kernel_rfl) (.inl (by simp [putC]))).2
              clear hd
              simp only [putG] at g0
              refine ⟨?_⟩
              have hsrc := HS2.out W hBw (cx - k)
              rw [HL2.out] at hsrc
              refine step_appRows W rfl (.tmp 41) (.tmp 44) rfl W0.heap.size (y 41) (Φ 7) (P1 ++ [r]) rfl (.slice (some ⟨b, o + k * 4, none⟩) (n - k) (cx - k)) P2 rfl g0 (by rw [HL2.out]; exact hsrc) (by rw [List.length_append, HL1.out, HL2.out]; simp; omega) hBW.size ?_
              intro v' w' hO hm hl
              refine hK _ _ (fun b => v'.ownBlock = some b) (hm.mono (fun b hb => ⟨7, by simp [putC], hb⟩)) (fun b hb => (hl b hb).imp (fun h => ⟨7, by simp [putC], h⟩) (fun h => h)) ?_
              simp only [putG, updV]
              simpa using hO
          · refine ⟨_, rfl, ?_⟩
            intro y W Φ hSW hBW hd hap K hK
            have g11 := (hd (11, 45) (by simp) (by simp [putC])).2
            clear hd hap
            simp only [putG] at g11
            have g11' := g11.1
            obtain ⟨N9, hN9⟩ : ∃ N9, (P1 ++ [r] ++ P2).length = N9 := ⟨_, rfl⟩
            have HN9 : Hid ((P1 ++ [r] ++ P2).length = N9) := hN9
            rw [hN9] at g11'
            clear g11 hN9
            obtain ⟨a9, c9, e9⟩ := owns_form g11'
            have hBw : Below w.heap.size w W := bstep hB3 hBW
            refine ⟨?_⟩
            simp only [over, Act.put, List.getElem_toArray, List.getElem_cons_zero, List.getElem_cons_succ, List.map_cons, List.map_nil, List.foldl_cons, List.foldl_nil, List.setIfInBounds_toArray, List.set_cons_zero, List.set_cons_succ]
            simp only [e9] at g11' ⊢
            go_simp
            refine hK _ _ ?_
            clear hK K
            refine NoPanic.normal ?_
            go_wp2
            go_ret
            refine ⟨k, HP.out, hBw, .inr ⟨_, rfl, ?_⟩⟩
            rw [HE.out, HN9.out]
            exact owns_base g11' (by have := hB3.size; omega)
      · have HA2 : Hid (∀ j, j < k + 1 → ahead (ys.getD j default) r = true) := fun j hj => by
          by_cases h : j < k
          · exact HA.out j h
          · have : j = k := by omega
            subst this
            rw [← HL.out]
            exact hah
        go_wp2
        exact ⟨⟨k + 1, by omega, by go_num, HA2, hr2, hB⟩, by simp [intOf]; omega⟩
    · obtain rfl : k = n := by omega
      obtain ⟨b, o, rfl⟩ := Hsome.out
      clear Hsome
      have hi5 : ¬ ((k : Int) < k) := by omega
      have hi6 : decide (k < k) = false := decide_eq_false hlt
      have HP : Hid (PutAt ys r k) := HPA.out k hk HA.out (fun h => absurd h hlt)
      have HE : Hid (putK ys r k = ys.take k ++ [r] ++ ys.drop k) := by
        rw [Hid, HPK.out, if_neg (by rintro ⟨h, _⟩; exact hlt h)]
      have hdr : ys.drop k = [] := List.drop_eq_nil_of_le (by have := HN.out; omega)
      have hi7 : (k : Int) ≤ cx := by omega
      go_wp2
      go_quiet (fail)
      have hB1 : Below w.heap.size w (wr.drewN nq) := bdrN hbl nq
      have hr2 : rowCells (wr.drewN nq) w.heap.size 0 r := hr
      clear hr hbl
      generalize wr.drewN nq = w1 at *
      clear nq
      go_wp2
      go_quiet (fail)
      have hB2 : Below w.heap.size w (w1.drewN nq) := bdrN hB1 nq
      have hr3 : rowCells (w1.drewN nq) w.heap.size 0 r := hr2
      have hB2s := hB2.size
      have hzr := World.block_lt_of_cell? _ _ hr3.1
      dsimp only at hzr
      clear hr2 hB1
      generalize w1.drewN nq = wb at *
      clear nq
      rcases Nat.eq_or_lt_of_le hcx with rfl | h0
      all_goals
        try (have hck : ¬ cx = k := by omega)
        go_wp2
        refine wp_region_noPanic ?_
        refine region_upto (fun W => Below wb.heap.size wb W ∧ W.cell? ⟨w.heap.size, 0, none⟩ = some (.string r.key) ∧ W.cell? ⟨w.heap.size, 0 + 1, none⟩ = some (.int .i64 r.ver) ∧ W.cell? ⟨w.heap.size, 0 + 2, none⟩ = some (.string r.val) ∧ W.cell? ⟨w.heap.size, 0 + 3, none⟩ = some (.bool r.gone)) 12 (by kernel_rfl) ⟨by (repeat (first | exact Below.refl _ _ | assumption | refine Below.drew ?_ | refine balloc ?_ _ | refine bset ?_ (by simp; omega) _ | refine bset ?_ (by simp) _ | refine bstep ?_ (by assumption))), rowCells_below (by (repeat (first | exact Below.refl _ _ | assumption | refine Below.drew ?_ | refine balloc ?_ _ | refine bset ?_ (by simp; omega) _ | refine bset ?_ (by simp) _ | refine bstep ?_ (by assumption)))) hr3⟩ (fun hS => ?_)
        refine upto_take (i := 1) (v := ?_) rfl (by kernel_rfl) (by kernel_rfl) (by kernel_rfl) (by kernel_rfl) (fun _ _ _ h => h) (by rfl) hS ?_ ?_
        rotate_left
        · intro wS hSw
          try dsimp only at hSw
          first | (go_simp; done) | (go_simp; with_reducible rfl)
        try simp only [Act.put, List.getElem_toArray, List.getElem_cons_zero, List.getElem_cons_succ, List.setIfInBounds_toArray, List.set_cons_zero, List.set_cons_succ]
        refine upto_take (i := 2) (v := ?_) rfl (by kernel_rfl) (by kernel_rfl) (by kernel_rfl) (by kernel_rfl) (fun _ _ _ h => h) (by rfl) hS ?_ ?_
        rotate_left
        · intro wS hSw
          try dsimp only at hSw
          first | (go_simp; done) | (go_simp; with_reducible rfl)
        try simp only [Act.put, List.getElem_toArray, List.getElem_cons_zero, List.getElem_cons_succ, List.setIfInBounds_toArray, List.set_cons_zero, List.set_cons_succ]
        refine upto_take (i := 3) (v := ?_) rfl (by kernel_rfl) (by kernel_rfl) (by kernel_rfl) (by kernel_rfl) (fun _ _ _ h => h) (by rfl) hS ?_ ?_
        rotate_left
        · intro wS hSw
          try dsimp only at hSw
          first | (go_simp; done) | (go_simp; with_reducible rfl)
        try simp only [Act.put, List.getElem_toArray, List.getElem_cons_zero, List.getElem_cons_succ, List.setIfInBounds_toArray, List.set_cons_zero, List.set_cons_succ]
        refine upto_take (i := 5) (v := ?_) rfl (by kernel_rfl) (by kernel_rfl) (by kernel_rfl) (by kernel_rfl) (fun _ _ _ h => h) (by rfl) hS ?_ ?_
        rotate_left
        · intro wS hSw
          try dsimp only at hSw
          first | (go_simp; done) | (go_simp; with_reducible rfl)
        try simp only [Act.put, List.getElem_toArray, List.getElem_cons_zero, List.getElem_cons_succ, List.setIfInBounds_toArray, List.set_cons_zero, List.set_cons_succ]
        refine upto_take (i := 8) (v := ?_) rfl (by kernel_rfl) (by kernel_rfl) (by kernel_rfl) (by kernel_rfl) (fun _ _ _ h => h) (by rfl) hS ?_ ?_
        rotate_left
        · intro wS hSw
          try dsimp only at hSw
          first | (go_simp; done) | (go_simp; with_reducible rfl)
        try simp only [Act.put, List.getElem_toArray, List.getElem_cons_zero, List.getElem_cons_succ, List.setIfInBounds_toArray, List.set_cons_zero, List.set_cons_succ]
        refine upto_take (i := 9) (v := ?_) rfl (by kernel_rfl) (by kernel_rfl) (by kernel_rfl) (by kernel_rfl) (fun _ _ _ h => h) (by rfl) hS ?_ ?_
        rotate_left
        · intro wS hSw
          try dsimp only at hSw
          first | (go_simp; done) | (go_simp; with_reducible rfl)
        try simp only [Act.put, List.getElem_toArray, List.getElem_cons_zero, List.getElem_cons_succ, List.setIfInBounds_toArray, List.set_cons_zero, List.set_cons_succ]
        refine upto_take (i := 10) (v := ?_) rfl (by kernel_rfl) (by kernel_rfl) (by kernel_rfl) (by kernel_rfl) (fun _ _ _ h => h) (by rfl) hS ?_ ?_
        rotate_left
        · intro wS hSw
          try dsimp only at hSw
          first | (go_simp; done) | (go_simp; with_reducible rfl)
        try simp only [Act.put, List.getElem_toArray, List.getElem_cons_zero, List.getElem_cons_succ, List.setIfInBounds_toArray, List.set_cons_zero, List.set_cons_succ]
        have hW0 : Below wb.heap.size wb wb.drew := Below.drew (Below.refl _ _)
        have hB3 : Below w.heap.size w wb.drew := Below.drew hB2
        have hzW : wb.drew.heap.size = wb.heap.size := rfl
        have HS1 : Hid (∀ W : World, Below w.heap.size w W → ∀ c, AppAny W (.slice (some ⟨b, o, none⟩) (ys.take k).length c) (ys.take k).length (rwsC (ys.take k))) := fun W hW c => rowsAny_at (fun i hi => by
          rw [List.length_take] at hi
          obtain ⟨b', o', e', h'⟩ := hx i (by omega)
          simp only [Option.some.injEq, Addr.mk.injEq, and_true] at e'
          obtain ⟨rfl, rfl⟩ := e'
          have e2 : (ys.take k).getD i default = ys.getD i default := by simp [List.getD, List.getElem?_take, show i < k by omega]
          rw [e2]
          exact rowCells_below hW h')
        have HS2 : Hid (∀ W : World, ∀ c a, AppAny W (.slice (some ⟨b, a, none⟩) 0 c) 0 (rwsC (ys.drop k))) := fun W c a => by
          have h := rowsAny_at (w := W) (b := b) (o := a) (c := c) (xs := []) (fun i hi => absurd hi (Nat.not_lt_zero _))
          rw [hdr]
          exact h
        have HL1 : Hid ((ys.take k).length = k) := by rw [Hid, List.length_take, HN.out]; omega
        have HL2 : Hid ((ys.drop k).length = 0) := by rw [hdr]; exact rfl
        clear hdr
        generalize wb.drew = W0 at *
        obtain ⟨P1, hP1⟩ : ∃ P, ys.take k = P := ⟨_, rfl⟩
        obtain ⟨P2, hP2⟩ : ∃ P, ys.drop k = P := ⟨_, rfl⟩
        rw [hP1] at HS1 HL1 HE
        rw [hP2] at HS2 HL2 HE
        clear hP1 hP2
        refine upto_cons' [(0, 34), (4, 38), (6, 40), (7, 41), (11, 45)] putC (putG W0.heap.size P1 P2 r) (by kernel_rfl) hS ?_ ?_ ?_ ?_
        · intro F' W W' h hm hF
          obtain ⟨h1, h3, h4, h5, h6⟩ := h
          exact ⟨hm.below h1 h1.size (fun b hb => by have := hF b hb; omega), hm.cell h3 (fun e => by have := hF _ e; dsimp only at this; omega), hm.cell h4 (fun e => by have := hF _ e; dsimp only at this; omega), hm.cell h5 (fun e => by have := hF _ e; dsimp only at this; omega), hm.cell h6 (fun e => by have := hF _ e; dsimp only at this; omega)⟩
        · intro pp hp
          simp only [List.mem_cons, List.not_mem_nil, or_false] at hp
          rcases hp with rfl | rfl | rfl | rfl | rfl
          all_goals
            intro y y' F F' W W' h hi hm hap hF e _
            simp only [putG] at h ⊢
            rw [e]
            exact rowsF.mod h hm (fun b h1 h2 => hap b h2 h1)
        · intro pp hp
          simp only [List.mem_cons, List.not_mem_nil, or_false] at hp
          rcases hp with rfl | rfl | rfl | rfl | rfl
          all_goals
            refine ⟨_, rfl, rfl, ?_⟩
            intro y W Φ hSW hBW hd K hK
            have hBw : Below w.heap.size w W := bstep hB3 hBW
          · clear hd
            refine ⟨?_⟩
            try simp only [over, Act.put, List.getElem_toArray, List.getElem_cons_zero, List.getElem_cons_succ, List.map_cons, List.map_nil, List.foldl_cons, List.foldl_nil, List.setIfInBounds_toArray, List.set_cons_zero, List.set_cons_succ] at hK
            try simp only [over, Act.put, List.getElem_toArray, List.getElem_cons_zero, List.getElem_cons_succ, List.map_cons, List.map_nil, List.foldl_cons, List.foldl_nil, List.setIfInBounds_toArray, List.set_cons_zero, List.set_cons_succ]
            go_simp
            refine hK _ _ (fun b => b = W.heap.size) (Mod.of_below (by (repeat (first | exact Below.refl _ _ | assumption | refine Below.drew ?_ | refine balloc ?_ _ | refine bset ?_ (by simp; omega) _ | refine bset ?_ (by simp) _ | refine bstep ?_ (by assumption))))) (fun b hb => .inr (by have hb' : b = W.heap.size := hb; first | omega | (simp; omega))) ?_
            simp only [putG, updV]
            refine ⟨World.ownsRow_lit (base := W0.heap.size) (e := 61) (size := 4) W #[] 0 hBW.size (by unfold maxLen; omega) rfl, ?_⟩
            funext b
            simp [Value.ownBlock, eq_comm]
          · have g0 := (hd (0, 34) (by simp) (by kernel_rfl) (.inl (by simp [putC]))).2
            clear hd
            simp only [putG] at g0
            refine ⟨?_⟩
            have hsrc := HS1.out W hBw
            rw [HL1.out] at hsrc
            refine step_appRows W rfl (.tmp 34) (.tmp 37) rfl W0.heap.size (y 34) (Φ 0) [] rfl _ P1 rfl g0 (by rw [HL1.out]; exact hsrc _) (by rw [HL1.out]; simp; omega) hBW.size ?_
            intro v' w' hO hm hl
            refine hK _ _ (fun b => v'.ownBlock = some b) (hm.mono (fun b hb => ⟨0, by simp [putC], hb⟩)) (fun b hb => (hl b hb).imp (fun h => ⟨0, by simp [putC], h⟩) (fun h => h)) ?_
            simp only [putG, updV]
            simpa using hO
          · clear hd
            obtain ⟨h1, h3, h4, h5, h6⟩ := hSW
            refine ⟨?_⟩
            try simp only [over, Act.put, List.getElem_toArray, List.getElem_cons_zero, List.getElem_cons_succ, List.map_cons, List.map_nil, List.foldl_cons, List.foldl_nil, List.setIfInBounds_toArray, List.set_cons_zero, List.set_cons_succ] at hK
            try simp only [over, Act.put, List.getElem_toArray, List.getElem_cons_zero, List.getElem_cons_succ, List.map_cons, List.map_nil, List.foldl_cons, List.foldl_nil, List.setIfInBounds_toArray, List.set_cons_zero, List.set_cons_succ]
            go_simp
            refine hK _ _ (fun b => b = W.heap.size) (Mod.of_below (by (repeat (first | exact Below.refl _ _ | assumption | refine Below.drew ?_ | refine balloc ?_ _ | refine bset ?_ (by simp; omega) _ | refine bset ?_ (by simp) _ | refine bstep ?_ (by assumption))))) (fun b hb => .inr (by have hb' : b = W.heap.size := hb; first | omega | (simp; omega))) ?_
            simp only [putG, updV]
            refine ⟨World.ownsRow_lit (base := W0.heap.size) (e := 61) (size := 4) W #[.string r.key, .int .i64 r.ver, .string r.val, .bool r.gone] 1 hBW.size (by unfold maxLen; omega) rfl, ?_⟩
            funext b
            simp [Value.ownBlock, eq_comm]
          · have g0 := (hd (4, 38) (by simp) (by kernel_rfl) (.inl (by simp [putC]))).2
            have g1 := (hd (6, 40) (by simp) (by kernel_rfl) (.inr (by simp [putC]))).2
            clear hd
            simp only [putG] at g0 g1
            refine ⟨?_⟩
            refine step_appRows W rfl (.tmp 38) (.tmp 40) rfl W0.heap.size (y 38) (Φ 4) P1 rfl (y 40) [r] rfl g0 (rowsAny_own g1.1) (by rw [HL1.out]; simp; omega) hBW.size ?_
            intro v' w' hO hm hl
            refine hK _ _ (fun b => v'.ownBlock = some b) (hm.mono (fun b hb => ⟨4, by simp [putC], hb⟩)) (fun b hb => (hl b hb).imp (fun h => ⟨4, by simp [putC], h⟩) (fun h => h)) ?_
            simp only [putG, updV]
            simpa using hO
          · have g0 := (hd (7, 41) (by simp) (by kernel_rfl) (.inl (by simp [putC]))).2
            clear hd
            simp only [putG] at g0
            refine ⟨?_⟩
            have hsrc := HS2.out W
            refine step_appRows W rfl (.tmp 41) (.tmp 44) rfl W0.heap.size (y 41) (Φ 7) (P1 ++ [r]) rfl _ P2 rfl g0 (by rw [HL2.out]; exact hsrc _ _) (by rw [List.length_append, HL1.out, HL2.out]; simp; omega) hBW.size ?_
            intro v' w' hO hm hl
            refine hK _ _ (fun b => v'.ownBlock = some b) (hm.mono (fun b hb => ⟨7, by simp [putC], hb⟩)) (fun b hb => (hl b hb).imp (fun h => ⟨7, by simp [putC], h⟩) (fun h => h)) ?_
            simp only [putG, updV]
            simpa using hO
        · refine ⟨_, rfl, ?_⟩
          intro y W Φ hSW hBW hd hap K hK
          have g11 := (hd (11, 45) (by simp) (by simp [putC])).2
          clear hd hap
          simp only [putG] at g11
          have g11' := g11.1
          obtain ⟨N9, hN9⟩ : ∃ N9, (P1 ++ [r] ++ P2).length = N9 := ⟨_, rfl⟩
          have HN9 : Hid ((P1 ++ [r] ++ P2).length = N9) := hN9
          rw [hN9] at g11'
          clear g11 hN9
          obtain ⟨a9, c9, e9⟩ := owns_form g11'
          have hBw : Below w.heap.size w W := bstep hB3 hBW
          refine ⟨?_⟩
          simp only [over, Act.put, List.getElem_toArray, List.getElem_cons_zero, List.getElem_cons_succ, List.map_cons, List.map_nil, List.foldl_cons, List.foldl_nil, List.setIfInBounds_toArray, List.set_cons_zero, List.set_cons_succ]
          simp only [e9] at g11' ⊢
          go_simp
          refine hK _ _ ?_
          clear hK K
          refine NoPanic.normal ?_
          go_wp2
          go_ret
          refine ⟨k, HP.out, hBw, .inr ⟨_, rfl, ?_⟩⟩
          rw [HE.out, HN9.out]
          exact owns_base g11' (by have := hB3.size; omega)
end Go.Proofs.Yteebglgbeijolaa

/-
  Rows put into rows that rise, in mathematics.
-/
namespace Go.Proofs.Yteebglgbeijolaa
open Go.RowKit
set_option linter.unusedSectionVars false
variable [DecidableEq Rw] [Inhabited Rw] [DecidableEq TabR] [Inhabited TabR]
set_option linter.unusedVariables false
set_option linter.unusedSimpArgs false

theorem cb_flip : ∀ a b : List UInt8, Lib.compareBytes b a = - Lib.compareBytes a b
  | [], [] => by simp [Lib.compareBytes]
  | [], _ :: _ => by simp [Lib.compareBytes]
  | _ :: _, [] => by simp [Lib.compareBytes]
  | x :: a, y :: b => by
    rcases u8_cases x y with h | rfl | h
    · rw [cb_lt h, cb_gt h]
      rfl
    · rw [cb_eq, cb_eq, cb_flip a b]
    · rw [cb_gt h, cb_lt h]
theorem cmpR_flip (a b : Rw) : cmpR b a = - cmpR a b := by
  unfold cmpR orI
  have h1 : cmpB b.key a.key = - cmpB a.key b.key := cb_flip _ _
  have h2 : cmpI a.ver b.ver = - cmpI b.ver a.ver := by
    unfold cmpI
    split <;> split <;> (try split) <;> omega
  rw [h1, h2]
  by_cases h : cmpB a.key b.key = 0
  · rw [if_pos h, if_pos (by omega)]
  · rw [if_neg h, if_neg (by omega)]
theorem ahead_iff (a b : Rw) : ahead a b = true ↔ cmpR a b < 0 := by unfold ahead; simp
theorem ahead_not (a b : Rw) : ahead a b = false ↔ 0 ≤ cmpR a b := by unfold ahead; simp
theorem ahead_asymm {a b : Rw} (h : ahead a b = true) : ahead b a = false := by
  rw [ahead_iff] at h
  rw [ahead_not, cmpR_flip]
  omega
theorem ahead_irrefl (a : Rw) : ahead a a = false := by
  rw [ahead_not]
  have := cmpR_flip a a
  omega
theorem ahead_trans {a b c : Rw} (h : ahead a b = true) (k : ahead b c = true) : ahead a c = true := by
  have h1 := kle_ahead h
  have k1 := kle_ahead k
  by_cases e : a.key = c.key
  · have e1 : b.key = a.key := kle_anti (by rw [e]; exact k1) h1
    rw [ahead_ver e1.symm] at h
    rw [ahead_ver (e1.trans e)] at k
    rw [ahead_ver e]
    simp only [decide_eq_true_eq] at h k ⊢
    omega
  · have h2 := kle_trans h1 k1
    unfold kle at h2
    have h3 : cmpB a.key c.key ≠ 0 := fun h => e ((cmpB_zero _ _).1 h)
    rw [ahead_iff]
    unfold cmpR orI
    rw [if_neg h3]
    omega
def putL : List Rw → Rw → List Rw
  | [], r => [r]
  | y :: ys, r => if ahead y r = true then y :: putL ys r else if ahead r y = true then r :: y :: ys else y :: ys
theorem putK_putL : ∀ (ys : List Rw) (r : Rw) (k : Nat), PutAt ys r k → putK ys r k = putL ys r
  | [], r, k, h => by
    obtain ⟨h1, _, _⟩ := h
    have : k = 0 := by simpa using h1
    subst this
    simp [putK, putL]
  | y :: ys, r, 0, h => by
    obtain ⟨_, _, h3⟩ := h
    have h4 : ahead y r = false := by simpa using h3 (by simp)
    unfold putK putL
    simp only [h4, Bool.false_eq_true, if_false]
    cases h5 : ahead r y <;> simp [h5]
  | y :: ys, r, k + 1, h => by
    obtain ⟨h1, h2, h3⟩ := h
    have h4 : ahead y r = true := by simpa using h2 0 (by omega)
    have ih := putK_putL ys r k ⟨by simpa using h1, fun j hj => by simpa using h2 (j + 1) (by omega), fun hk => by simpa using h3 (by simpa using hk)⟩
    unfold putL
    rw [if_pos h4, ← ih]
    unfold putK
    by_cases hc : k < ys.length ∧ ahead r (ys.getD k default) = false
    · rw [if_pos hc, if_pos ⟨by simpa using hc.1, by simpa using hc.2⟩]
    · rw [if_neg hc, if_neg (fun h => hc ⟨by simpa using h.1, by simpa using h.2⟩)]
      simp
def Rises (xs : List Rw) : Prop := xs.Pairwise (fun a b => ahead a b = true)
theorem mem_putL : ∀ {ys : List Rw} {r x : Rw}, x ∈ putL ys r → x ∈ ys ∨ x = r
  | [], r, x, h => by simpa [putL] using h
  | y :: ys, r, x, h => by
    unfold putL at h
    split at h
    · rcases List.mem_cons.1 h with rfl | h
      · exact .inl (List.mem_cons_self ..)
      · exact (mem_putL h).imp (fun h => List.mem_cons_of_mem _ h) id
    · split at h
      · rcases List.mem_cons.1 h with rfl | h
        · exact .inr rfl
        · exact .inl h
      · exact .inl h
theorem putL_rises : ∀ {ys : List Rw} (r : Rw), Rises ys → Rises (putL ys r)
  | [], r, _ => by unfold Rises; simp [putL]
  | y :: ys, r, h => by
    unfold Rises at h
    rw [List.pairwise_cons] at h
    unfold putL
    split
    · rename_i h1
      have ih : Rises (putL ys r) := putL_rises r h.2
      refine List.pairwise_cons.2 ⟨fun x hx => ?_, ih⟩
      rcases mem_putL hx with hx | rfl
      · exact h.1 x hx
      · exact h1
    · split
      · rename_i h1 h2
        refine List.pairwise_cons.2 ⟨fun x hx => ?_, List.pairwise_cons.2 h⟩
        rcases List.mem_cons.1 hx with rfl | hx
        · exact h2
        · exact ahead_trans h2 (h.1 x hx)
      · exact List.pairwise_cons.2 h
theorem length_putL : ∀ (ys : List Rw) (r : Rw), ys.length ≤ (putL ys r).length ∧ (putL ys r).length ≤ ys.length + 1
  | [], r => by simp [putL]
  | y :: ys, r => by
    have ih := length_putL ys r
    unfold putL
    split
    · simp only [List.length_cons]; omega
    · split <;> simp only [List.length_cons] <;> omega
def putsL (ys l : List Rw) : List Rw := l.foldl putL ys
theorem putsL_cons (ys : List Rw) (r : Rw) (l : List Rw) : putsL ys (r :: l) = putsL (putL ys r) l := rfl
theorem putsL_app (ys l m : List Rw) : putsL ys (l ++ m) = putsL (putsL ys l) m := List.foldl_append ..
theorem putsL_snoc (ys l : List Rw) (r : Rw) : putsL ys (l ++ [r]) = putL (putsL ys l) r := by rw [putsL_app]; rfl
theorem putsL_rises : ∀ {l ys : List Rw}, Rises ys → Rises (putsL ys l)
  | [], _, h => h
  | r :: l, ys, h => putsL_rises (l := l) (putL_rises r h)
theorem length_putsL : ∀ (l ys : List Rw), ys.length ≤ (putsL ys l).length ∧ (putsL ys l).length ≤ ys.length + l.length
  | [], ys => by simp [putsL]
  | r :: l, ys => by
    have h1 := length_putL ys r
    have h2 := length_putsL l (putL ys r)
    rw [putsL_cons, List.length_cons]
    omega
theorem length_putsL_pre {l m ys : List Rw} (h : l <+: m) : (putsL ys l).length ≤ (putsL ys m).length := by
  obtain ⟨t, rfl⟩ := h
  rw [putsL_app]
  exact (length_putsL t _).1
theorem mem_putsL : ∀ {l ys : List Rw} {x : Rw}, x ∈ putsL ys l → x ∈ ys ∨ x ∈ l
  | [], _, _, h => .inl h
  | r :: l, ys, x, h => by
    rcases mem_putsL (l := l) h with h | h
    · exact (mem_putL h).imp id (fun h => by rw [h]; exact List.mem_cons_self ..)
    · exact .inr (List.mem_cons_of_mem _ h)
theorem rises_nil : Rises [] := List.Pairwise.nil
theorem rises_of {xs : List Rw} (h : tabF xs = 0) : Rises xs := by
  obtain ⟨hn, hat⟩ := tabF_all h
  unfold Rises
  rw [List.pairwise_iff_getElem]
  have key : ∀ d i, (hd : i + d + 1 < xs.length) → ahead (xs.getD i default) (xs.getD (i + d + 1) default) = true := by
    intro d
    induction d with
    | zero =>
      intro i hd
      exact (tabAt_zero (hat (i + 1) (by omega))).2 (by omega)
    | succ d ih =>
      intro i hd
      exact ahead_trans (ih i (by omega)) ((tabAt_zero (hat (i + (d + 1) + 1) (by omega))).2 (by omega))
  intro i j hi hj hij
  have := key (j - i - 1) i (by omega)
  rw [show i + (j - i - 1) + 1 = j by omega] at this
  simpa [List.getD, hi, hj] using this
theorem putL_filter : ∀ {xs : List Rw} (p : Rw → Bool) (r : Rw), Rises xs → r ∈ xs → putL (xs.filter p) r = xs.filter (fun x => p x || decide (x = r))
  | [], _, _, _, h => by simp at h
  | x :: xs, p, r, hx, hr => by
    unfold Rises at hx
    rw [List.pairwise_cons] at hx
    by_cases e : x = r
    · subst e
      have hno : ∀ y ∈ xs, y ≠ x := fun y hy e => by
        have := hx.1 y hy
        rw [e, ahead_irrefl] at this
        cases this
      have e2 : xs.filter (fun y => p y || decide (y = x)) = xs.filter p := List.filter_congr (fun y hy => by simp [hno y hy])
      by_cases hp : p x = true
      · rw [List.filter_cons_of_pos hp, List.filter_cons_of_pos (by simp), e2]
        unfold putL
        rw [if_neg (by simp [ahead_irrefl]), if_neg (by simp [ahead_irrefl])]
      · rw [List.filter_cons_of_neg hp, List.filter_cons_of_pos (by simp), e2]
        cases hf : xs.filter p with
        | nil => rfl
        | cons y ys =>
          have hy : y ∈ xs := (List.mem_filter.1 (by rw [hf]; exact List.mem_cons_self ..)).1
          unfold putL
          rw [if_neg (by simp [ahead_asymm (hx.1 y hy)]), if_pos (hx.1 y hy)]
    · have hr' : r ∈ xs := by
        rcases List.mem_cons.1 hr with h | h
        · exact absurd h.symm e
        · exact h
      have ih := putL_filter p r (show Rises xs from hx.2) hr'
      by_cases hp : p x = true
      · rw [List.filter_cons_of_pos hp, List.filter_cons_of_pos (by simp [hp]), ← ih]
        conv => lhs; unfold putL
        rw [if_pos (hx.1 r hr')]
      · rw [List.filter_cons_of_neg hp, List.filter_cons_of_neg (by simp [hp, e]), ← ih]
theorem putsL_filter {xs : List Rw} (hx : Rises xs) : ∀ (l : List Rw) (p : Rw → Bool), (∀ r ∈ l, r ∈ xs) → putsL (xs.filter p) l = xs.filter (fun x => p x || decide (x ∈ l))
  | [], p, _ => by simp [putsL]
  | r :: l, p, h => by
    rw [putsL_cons, putL_filter p r hx (h r (List.mem_cons_self ..)), putsL_filter hx l _ (fun q hq => h q (List.mem_cons_of_mem _ hq))]
    refine List.filter_congr (fun y _ => ?_)
    rw [Bool.eq_iff_iff]
    simp only [Bool.or_eq_true, decide_eq_true_eq, List.mem_cons]
    rw [or_assoc]
theorem putsL_of {xs : List Rw} (hx : Rises xs) (l : List Rw) (h : ∀ r ∈ l, r ∈ xs) : putsL [] l = xs.filter (fun x => decide (x ∈ l)) := by
  have h1 := putsL_filter hx l (fun _ => false) h
  have h2 : xs.filter (fun _ => false) = [] := List.filter_eq_nil_iff.2 (fun _ _ => by simp)
  rw [h2] at h1
  rw [h1]
  exact List.filter_congr (fun y _ => by simp)
theorem putAt_of {ys : List Rw} {r : Rw} {i : Nat} (hi : i ≤ ys.length) (h1 : ∀ k, k < i → cmpR (ys.getD k default) r < 0) (h2 : ∀ k, i ≤ k → k < ys.length → 0 ≤ cmpR (ys.getD k default) r) : PutAt ys r i :=
  ⟨hi, fun j hj => (ahead_iff _ _).2 (h1 j hj), fun h => (ahead_not _ _).2 (h2 i (Nat.le_refl _) h)⟩
theorem put_found {ys : List Rw} {r : Rw} {i : Nat} (hp : PutAt ys r i) (hf : i < ys.length ∧ cmpR (ys.getD i default) r = 0) : putL ys r = ys := by
  rw [← putK_putL ys r i hp]
  unfold putK
  rw [if_pos ⟨hf.1, by rw [ahead_not, cmpR_flip, hf.2]; omega⟩]
theorem put_new {ys : List Rw} {r : Rw} {i : Nat} (hp : PutAt ys r i) (hf : ¬ (i < ys.length ∧ cmpR (ys.getD i default) r = 0)) : putL ys r = ys.take i ++ [r] ++ ys.drop i := by
  rw [← putK_putL ys r i hp]
  unfold putK
  refine if_neg (fun h => hf ⟨h.1, ?_⟩)
  have h1 := (ahead_not _ _).1 (hp.2.2 h.1)
  have h2 := (ahead_not _ _).1 h.2
  rw [cmpR_flip] at h2
  omega
theorem rises_mono {ys : List Rw} (h : Rises ys) (q : Rw) : ∀ a b, a ≤ b → b < ys.length → cmpR (ys.getD b default) q < 0 → cmpR (ys.getD a default) q < 0 := by
  intro a b hab hb hlt
  by_cases e : a = b
  · rw [e]; exact hlt
  · unfold Rises at h
    rw [List.pairwise_iff_getElem] at h
    have h1 := h a b (by omega) hb (by omega)
    have h2 : ahead (ys.getD a default) (ys.getD b default) = true := by simpa [List.getD, hb, show a < ys.length by omega] using h1
    exact (ahead_iff _ _).1 (ahead_trans h2 ((ahead_iff _ _).2 hlt))
end Go.Proofs.Yteebglgbeijolaa


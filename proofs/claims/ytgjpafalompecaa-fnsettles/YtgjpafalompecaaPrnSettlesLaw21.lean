import Derived.Test.YtgjpafalompecaaPrnSettlesLaw19
import Derived.Test.YtgjpafalompecaaPrnSettlesLaw1
import Derived.Test.YtgjpafalompecaaPrnSettlesLaw10
import Derived.Test.YtgjpafalompecaaPrnSettlesLaw8
import Derived.Test.YtgjpafalompecaaPrnSettlesLaw13

/-
  As RegS, where an operation may also write into what another one made, and takes it over (an append to what was just made).
-/
namespace Go.Proofs.Ytgjpafalompecaa
open Go.RowKit

section
variable {P : Program} {ops : Array Oper} {Q : Exit → Act → World → Prop} {md : Region.Mode} {S : World → Prop} {t : Nat}

def Alive (L : List (Nat × Nat)) (cons : Nat → List Nat) (listed : Array Bool) (j : Nat) : Prop := listed.getD j true = true ∧ ∀ p ∈ L, listed.getD p.1 true = true → j ∉ cons p.1
def Taken (cons : Nat → List Nat) (Φ : Nat → Nat → Prop) (i b : Nat) : Prop := ∃ j ∈ cons i, Φ j b
def FIn (w0 w : World) (F : Nat → Prop) : Prop := ∀ b, F b → w0.heap.size ≤ b ∧ b < w.heap.size
def FApart (F F' : Nat → Prop) : Prop := ∀ b, F b → ¬ F' b
def StepC (P : Program) (md : Region.Mode) (ops : Array Oper) (Q : Exit → Act → World → Prop) (S : World → Prop) (L : List (Nat × Nat)) (cons : Nat → List Nat) (G : Nat → (Nat → Value) → (Nat → Prop) → World → Prop) (a0 : Act) (w0 : World) (p : Nat × Nat) : Prop :=
  ∃ o, ops[p.1]? = some o ∧ o.dst = some p.2 ∧ ∀ (y : Nat → Value) (w : World) (Φ : Nat → Nat → Prop), S w → Below w0.heap.size w0 w →
    (∀ q ∈ L, waitsFor md ops p.1 q.1 = true → (q.1 ∈ cons p.1 ∨ ∀ r ∈ L, q.1 ∉ cons r.1) → FIn w0 w (Φ q.1) ∧ G q.1 y (Φ q.1) w) →
    ∀ K : Act → World → Prop, (∀ v w' F', Mod (Taken cons Φ p.1) w w' → (∀ b, F' b → Taken cons Φ p.1 b ∨ (w.heap.size ≤ b ∧ b < w'.heap.size)) → G p.1 (updV y p.2 v) F' w' → K ((over a0 (L.map Prod.snd) y).put (some p.2) v) w') →
      Shut (if Region.wanted o (yielded ops (over a0 (L.map Prod.snd) y).tmps) = true then Oper.wp P o (over a0 (L.map Prod.snd) y) w K Q else K ((over a0 (L.map Prod.snd) y).put o.dst undef) w)
theorem upto_cons (L : List (Nat × Nat)) (cons : Nat → List Nat) (G : Nat → (Nat → Value) → (Nat → Prop) → World → Prop) {f : Nat} {listed : Array Bool} {a0 : Act} {w0 : World}
    (hrise : risesB md ops = true) (hsz : listed.size = ops.size) (hot : ∃ ot, ops[t]? = some ot)
    (hall : ∀ i, i < ops.size → listed.getD i true = false → i = t ∨ ∃ p ∈ L, p.1 = i)
    (hun : listed.getD t true = false ∧ ∀ p ∈ L, listed.getD p.1 true = false)
    (hno : (L.map Prod.fst).Nodup) (hnd : (L.map Prod.snd).Nodup) (htl : ∀ p ∈ L, p.1 ≠ t ∧ waitsFor md ops t p.1 = true) (hf : f = L.length + 1)
    (hcons : ∀ p ∈ L, ∀ j ∈ cons p.1, waitsFor md ops p.1 j = true ∧ ∃ q ∈ L, q.1 = j) (huniq : ∀ p ∈ L, ∀ r ∈ L, p.1 ≠ r.1 → ∀ j ∈ cons p.1, j ∉ cons r.1)
    (hS : S w0) (hSst : ∀ (F : Nat → Prop) (w w' : World), S w → Mod F w w' → (∀ b, F b → w0.heap.size ≤ b) → S w')
    (hG : ∀ p ∈ L, ∀ (y y' : Nat → Value) (F F' : Nat → Prop) (w w' : World), G p.1 y F w → FIn w0 w F → Mod F' w w' → FApart F' F → (∀ b, F' b → w0.heap.size ≤ b) → y' p.2 = y p.2 → (∀ q ∈ L, waitsFor md ops p.1 q.1 = true → y' q.2 = y q.2) → G p.1 y' F w')
    (hstep : ∀ p ∈ L, StepC P md ops Q S L cons G a0 w0 p)
    (hlast : ∃ o, ops[t]? = some o ∧ ∀ (y : Nat → Value) (w : World) (Φ : Nat → Nat → Prop), S w → Below w0.heap.size w0 w → (∀ q ∈ L, (∀ r ∈ L, q.1 ∉ cons r.1) → FIn w0 w (Φ q.1) ∧ G q.1 y (Φ q.1) w) → (∀ q ∈ L, ∀ r ∈ L, q.1 ≠ r.1 → (∀ p ∈ L, q.1 ∉ cons p.1) → (∀ p ∈ L, r.1 ∉ cons p.1) → FApart (Φ q.1) (Φ r.1)) →
      ∀ K : Act → World → Prop, (∀ a' w', Q .normal a' w' → K a' w') → Shut (if Region.wanted o (yielded ops (over a0 (L.map Prod.snd) y).tmps) = true then Oper.wp P o (over a0 (L.map Prod.snd) y) w K Q else K ((over a0 (L.map Prod.snd) y).put o.dst undef) w)) :
    wpUpto P md ops Q S t f listed a0 w0 := by
  have H : ∀ (n f : Nat) (listed : Array Bool) (y : Nat → Value) (w : World) (Φ : Nat → Nat → Prop),
      f = (L.filter fun p => !listed.getD p.1 true).length + 1 → listed.size = ops.size → listed.getD t true = false →
      (∀ i, i < ops.size → listed.getD i true = false → i = t ∨ ∃ p ∈ L, p.1 = i) →
      (∀ p ∈ L, listed.getD p.1 true = true → ∀ q ∈ L, waitsFor md ops p.1 q.1 = true → listed.getD q.1 true = true) →
      S w → Below w0.heap.size w0 w → (∀ q ∈ L, Alive L cons listed q.1 → FIn w0 w (Φ q.1) ∧ G q.1 y (Φ q.1) w) →
      (∀ q ∈ L, ∀ r ∈ L, q.1 ≠ r.1 → Alive L cons listed q.1 → Alive L cons listed r.1 → FApart (Φ q.1) (Φ r.1)) →
      f ≤ n → wpUpto P md ops Q S t f listed (over a0 (L.map Prod.snd) y) w := by
    intro n
    induction n with
    | zero => intro f listed y w Φ hf _ _ _ _ _ _ _ _ hn; omega
    | succ n ih =>
      intro f listed y w Φ hf hsz htun hall hdown hS hB hGs hAp hn
      obtain ⟨ot, hot⟩ := hot
      have htlt : t < ops.size := by
        rcases Nat.lt_or_ge t ops.size with h | h
        · exact h
        · rw [Array.getElem?_eq_none h] at hot; cases hot
      obtain ⟨g, rfl⟩ : ∃ g, f = g + 1 := ⟨_, hf⟩
      have hg : g = (L.filter fun p => !listed.getD p.1 true).length := by omega
      refine ⟨fun h => ?_, fun i hi' => ?_⟩
      · obtain ⟨j, hj⟩ := ready_some hrise hsz (t + 1) t (by omega) htlt htun
        rw [h] at hj
        cases hj
      obtain ⟨hiun, o, hio, hdeps⟩ := mem_ready.1 hi'
      have hilt : i < ops.size := by
        rcases Nat.lt_or_ge i ops.size with h | h
        · exact h
        · rw [Array.getElem?_eq_none h] at hio; cases hio
      have hdep : ∀ k, k < ops.size → waitsFor md ops i k = true → listed.getD k true = true := by
        intro k hk hw
        unfold waitsFor at hw
        rw [hio] at hw
        obtain ⟨e, he, hb⟩ := Array.any_eq_true'.1 hw
        simp only [Bool.and_eq_true, beq_iff_eq] at hb
        have h1 := hdeps e he hb.1
        rw [hb.2] at h1
        have hk' : k < listed.size := by omega
        simp [hk'] at h1 ⊢
        exact h1
      have hLlt : ∀ p ∈ L, p.1 < ops.size := by
        intro p hp
        obtain ⟨o', ho', _⟩ := hstep p hp
        rcases Nat.lt_or_ge p.1 ops.size with h | h
        · exact h
        · rw [Array.getElem?_eq_none h] at ho'; cases ho'
      have key : ∀ K : Act → World → Prop, (if Region.wanted o (yielded ops (over a0 (L.map Prod.snd) y).tmps) = true then Oper.wp P o (over a0 (L.map Prod.snd) y) w K Q else K ((over a0 (L.map Prod.snd) y).put o.dst undef) w) → wpOp P ops Q i K (over a0 (L.map Prod.snd) y) w := by
        intro K h1
        unfold wpOp
        simp only [hio]
        split
        · rename_i hw
          rw [if_pos hw] at h1
          exact .inl h1
        · rename_i hw
          rw [if_neg hw] at h1
          exact h1
      refine key _ ?_
      by_cases hit : i = t
      · subst hit
        have hl : ∀ p ∈ L, listed.getD p.1 true = true := fun p hp => hdep p.1 (hLlt p hp) (htl p hp).2
        obtain ⟨o2, ho2, hlst⟩ := hlast
        rw [hio] at ho2
        cases ho2
        refine (hlst y w Φ hS hB (fun q hq hc => hGs q hq ⟨hl q hq, fun p hp _ => hc p hp⟩) (fun q hq r hr hne h1 h2 => hAp q hq r hr hne ⟨hl q hq, fun p hp _ => h1 p hp⟩ ⟨hl r hr, fun p hp _ => h2 p hp⟩) _ (fun a' w' hq => ⟨fun h => absurd rfl h, upto_done ?_ hq⟩)).out
        rw [List.eq_nil_iff_forall_not_mem]
        intro j hj
        obtain ⟨hjun, oj, hjo, _⟩ := mem_ready.1 hj
        have hjl : j < ops.size := by
          rcases Nat.lt_or_ge j ops.size with h | h
          · exact h
          · rw [Array.getElem?_eq_none h] at hjo; cases hjo
        by_cases hji : i = j
        · subst hji
          have hk' : i < listed.size := by omega
          simp [hk'] at hjun
        · rw [getD_set_ne true hji] at hjun
          rcases hall j hjl hjun with h | ⟨p, hp, h⟩
          · exact hji h.symm
          · rw [← h, hl p hp] at hjun; cases hjun
      · obtain ⟨p, hp, hpi⟩ := (hall i hilt hiun).resolve_left hit
        subst hpi
        obtain ⟨o', ho', hdst, hst⟩ := hstep p hp
        rw [hio] at ho'
        cases ho'
        have hcal : ∀ q ∈ L, q.1 ∈ cons p.1 → Alive L cons listed q.1 := fun q hq hc => ⟨hdep q.1 (hLlt q hq) (hcons p hp _ hc).1, fun r hr hrl hcr => by
          by_cases e : r.1 = p.1
          · rw [e, hiun] at hrl; cases hrl
          · exact huniq p hp r hr (Ne.symm e) q.1 hc hcr⟩
        refine (hst y w Φ hS hB (fun q hq hw hc => ?_) _ (fun v w' F' hm hF' hGp => ⟨fun _ => hSst _ _ _ hS hm ?_, ?_⟩)).out
        · rcases hc with hc | hc
          · exact hGs q hq (hcal q hq hc)
          · exact hGs q hq ⟨hdep q.1 (hLlt q hq) hw, fun r hr _ => hc r hr⟩
        · rintro b ⟨j, hj, hb⟩
          obtain ⟨_, q, hq, rfl⟩ := hcons p hp j hj
          exact ((hGs q hq (hcal q hq hj)).1 b hb).1
        have hTk : ∀ b, Taken cons Φ p.1 b → w0.heap.size ≤ b ∧ b < w.heap.size := by
          rintro b ⟨j, hj, hb⟩
          obtain ⟨_, q, hq, rfl⟩ := hcons p hp j hj
          exact (hGs q hq (hcal q hq hj)).1 b hb
        rw [over_put (List.mem_map_of_mem hp) hnd]
        have hlt : p.1 < listed.size := by omega
        have hself' : (listed.setIfInBounds p.1 true).getD p.1 true = true := by simp [hlt]
        have hoth : ∀ j, p.1 ≠ j → (listed.setIfInBounds p.1 true).getD j true = listed.getD j true := fun j h => getD_set_ne true h
        have hinj : ∀ q ∈ L, q.1 = p.1 → q = p := fun q hq h => inj_fst L hno q hq p hp h
        have hinj2 : ∀ q ∈ L, q.2 = p.2 → q = p := fun q hq h => inj_snd L hnd q hq p hp h
        have hback : ∀ q ∈ L, q.1 ≠ p.1 → Alive L cons (listed.setIfInBounds p.1 true) q.1 → Alive L cons listed q.1 ∧ q.1 ∉ cons p.1 := fun q hq e ha => by
          refine ⟨⟨by rw [← hoth _ (Ne.symm e)]; exact ha.1, fun r hr hrl => ?_⟩, ha.2 p hp hself'⟩
          by_cases e2 : r.1 = p.1
          · rw [e2, hiun] at hrl; cases hrl
          · exact ha.2 r hr (by rw [hoth _ (Ne.symm e2)]; exact hrl)
        have hTq : ∀ q ∈ L, Alive L cons listed q.1 → q.1 ∉ cons p.1 → FApart (Taken cons Φ p.1) (Φ q.1) := by
          rintro q hq ha hn b ⟨j, hj, hb⟩
          obtain ⟨_, r, hr, rfl⟩ := hcons p hp j hj
          exact hAp r hr q hq (fun e => hn (e ▸ hj)) (hcal r hr hj) ha b hb
        refine ih g (listed.setIfInBounds p.1 true) (updV y p.2 v) w' (fun j => if j = p.1 then F' else Φ j) ?_ (by simpa using hsz) ?_ ?_ ?_ (hSst _ _ _ hS hm (fun b hb => (hTk b hb).1)) (hm.below hB hB.size (fun b hb => (hTk b hb).1)) ?_ ?_ (by omega)
        · rw [hg]
          refine filter_less hno hp (by rw [hiun]; rfl) (by rw [hself']; rfl) (fun q hq hne => ?_)
          rw [hoth _ (fun c => hne (hinj q hq c.symm))]
        · rw [hoth _ (fun h => hit h)]; exact htun
        · intro j hj hju
          by_cases e : p.1 = j
          · subst e; rw [hself'] at hju; cases hju
          · rw [hoth _ e] at hju; exact hall j hj hju
        · intro q hq hql r hr hw
          by_cases e : p.1 = r.1
          · rw [← e]; exact hself'
          · rw [hoth _ e]
            by_cases e2 : p.1 = q.1
            · rw [← e2] at hw; exact hdep r.1 (hLlt r hr) hw
            · rw [hoth _ e2] at hql; exact hdown q hq hql r hr hw
        · intro q hq ha
          by_cases e : q.1 = p.1
          · have e2 := hinj q hq e
            subst e2
            simp only [if_true]
            refine ⟨fun b hb => ?_, hGp⟩
            rcases hF' b hb with h | h
            · have := hTk b h; have := hm.size; omega
            · have := hB.size; omega
          · obtain ⟨h1, h2⟩ := hback q hq e ha
            simp only [if_neg e]
            obtain ⟨g1, g2⟩ := hGs q hq h1
            refine ⟨fun b hb => ⟨(g1 b hb).1, Nat.lt_of_lt_of_le (g1 b hb).2 hm.size⟩, hG q hq y (updV y p.2 v) _ _ w w' g2 g1 hm (hTq q hq h1 h2) (fun b hb => (hTk b hb).1) ?_ ?_⟩
            · exact if_neg (fun c => e (by rw [hinj2 q hq c]))
            · intro r hr hw
              refine if_neg (fun c => ?_)
              have e3 := hinj2 r hr c
              subst e3
              rw [hdown q hq h1.1 _ hr hw] at hiun
              cases hiun
        · intro q hq r hr hne hqa hra
          by_cases e : q.1 = p.1
          · have e' : r.1 ≠ p.1 := fun c => hne (e.trans c.symm)
            obtain ⟨h1, h2⟩ := hback r hr e' hra
            simp only [if_pos e, if_neg e']
            intro b hb hb2
            rcases hF' b hb with h | h
            · exact hTq r hr h1 h2 b h hb2
            · have := ((hGs r hr h1).1 b hb2).2; omega
          · obtain ⟨h1, h2⟩ := hback q hq e hqa
            by_cases e' : r.1 = p.1
            · simp only [if_neg e, if_pos e']
              intro b hb hb2
              rcases hF' b hb2 with h | h
              · exact hTq q hq h1 h2 b h hb
              · have := ((hGs q hq h1).1 b hb).2; omega
            · obtain ⟨h3, _⟩ := hback r hr e' hra
              simp only [if_neg e, if_neg e']
              exact hAp q hq r hr hne h1 h3
  have h0 := H f f listed (fun s => a0.tmps.getD s undef) w0 (fun _ _ => False) (by
    rw [hf, List.filter_eq_self.2 (fun p hp => by rw [hun.2 p hp]; rfl)]) hsz hun.1 hall (fun p hp h => by rw [hun.2 p hp] at h; cases h) hS (Below.refl _ _) (fun q hq h => by have h := h.1; rw [hun.2 q hq] at h; cases h) (fun q hq r hr hne h => by have h := h.1; rw [hun.2 q hq] at h; cases h) (Nat.le_refl _)
  rw [over_self] at h0
  exact h0
def checkC (md : Region.Mode) (ops : Array Oper) (listed : Array Bool) (t f : Nat) (L : List (Nat × Nat)) (cons : Nat → List Nat) : Bool :=
  checkS md ops listed t f L && (L.all fun p => (cons p.1).all fun j => waitsFor md ops p.1 j && L.any fun q => decide (q.1 = j)) && (L.all fun p => L.all fun r => decide (p.1 = r.1) || (cons p.1).all fun j => decide (j ∉ cons r.1))
theorem upto_cons' (L : List (Nat × Nat)) (cons : Nat → List Nat) (G : Nat → (Nat → Value) → (Nat → Prop) → World → Prop) {f : Nat} {listed : Array Bool} {a0 : Act} {w0 : World} (hc : checkC md ops listed t f L cons = true)
    (hS : S w0) (hSst : ∀ (F : Nat → Prop) (w w' : World), S w → Mod F w w' → (∀ b, F b → w0.heap.size ≤ b) → S w')
    (hG : ∀ p ∈ L, ∀ (y y' : Nat → Value) (F F' : Nat → Prop) (w w' : World), G p.1 y F w → FIn w0 w F → Mod F' w w' → FApart F' F → (∀ b, F' b → w0.heap.size ≤ b) → y' p.2 = y p.2 → (∀ q ∈ L, waitsFor md ops p.1 q.1 = true → y' q.2 = y q.2) → G p.1 y' F w')
    (hstep : ∀ p ∈ L, StepC P md ops Q S L cons G a0 w0 p)
    (hlast : ∃ o, ops[t]? = some o ∧ ∀ (y : Nat → Value) (w : World) (Φ : Nat → Nat → Prop), S w → Below w0.heap.size w0 w → (∀ q ∈ L, (∀ r ∈ L, q.1 ∉ cons r.1) → FIn w0 w (Φ q.1) ∧ G q.1 y (Φ q.1) w) → (∀ q ∈ L, ∀ r ∈ L, q.1 ≠ r.1 → (∀ p ∈ L, q.1 ∉ cons p.1) → (∀ p ∈ L, r.1 ∉ cons p.1) → FApart (Φ q.1) (Φ r.1)) →
      ∀ K : Act → World → Prop, (∀ a' w', Q .normal a' w' → K a' w') → Shut (if Region.wanted o (yielded ops (over a0 (L.map Prod.snd) y).tmps) = true then Oper.wp P o (over a0 (L.map Prod.snd) y) w K Q else K ((over a0 (L.map Prod.snd) y).put o.dst undef) w)) :
    wpUpto P md ops Q S t f listed a0 w0 := by
  unfold checkC checkS at hc
  simp only [Bool.and_eq_true, decide_eq_true_eq, List.all_eq_true, List.any_eq_true, Bool.or_eq_true, Bool.not_eq_true', List.mem_range] at hc
  obtain ⟨⟨⟨⟨⟨⟨⟨⟨⟨⟨⟨h1, h2⟩, h3⟩, h4⟩, h5⟩, h6⟩, h7⟩, h8⟩, h9⟩, h10⟩, h11⟩, h13⟩ := hc
  refine upto_cons L cons G h1 h2 (Option.isSome_iff_exists.1 h3) (fun i hi hu => ?_) ⟨h5, h6⟩ h7 h8 h9 h10 h11 (fun p hp r hr hne => (h13 p hp r hr).resolve_left hne) hS hSst hG hstep hlast
  rcases h4 i hi with (h | h) | h
  · rw [hu] at h; cases h
  · exact .inl h
  · exact .inr h
end

end Go.Proofs.Ytgjpafalompecaa

/-
  The specification's draws: a right contract.
-/
namespace Go.Proofs.Ytgjpafalompecaa
open Go.RowKit
set_option linter.unusedSectionVars false
variable [DecidableEq Logg] [Inhabited Logg] [DecidableEq LoggR] [Inhabited LoggR] [DecidableEq BytesR] [Inhabited BytesR] [DecidableEq RecsR] [Inhabited RecsR] [DecidableEq Leg] [Inhabited Leg] [DecidableEq Cont] [Inhabited Cont]
set_option linter.unusedSimpArgs false
attribute [local go_sem ↓] Go.wp_at_zero Go.wp_at_succ

theorem appAny_owns {w : World} {base e size : Nat} {v : Value} {n : Nat} {cs : List Value} (h : w.ownsRow base e size v n cs) : AppAny w v n cs := by
  rcases h.2 with ⟨rfl, rfl⟩ | ⟨g, cap, cur, rfl, _, hh, _, _, _, ht⟩
  · refine .inl ⟨0, rfl, rfl, ?_⟩
    have := h.1
    simp at this
    exact this
  · refine .inr ⟨_, _, rfl, fun j x hj => ?_⟩
    have hlt : j < cs.length := by
      rcases Nat.lt_or_ge j cs.length with h | h
      · exact h
      · rw [List.getElem?_eq_none h] at hj; cases hj
    have hc := h.cellAt j (by rw [← h.1]; exact hlt)
    rw [addP]
    simpa [hj] using hc
theorem legC_oneC (l : Leg) : ∀ u ∈ legC l, u.oneCell' = true := by
  intro u hu
  simp only [legC, List.mem_cons, List.not_mem_nil, or_false] at hu
  rcases hu with rfl | rfl | rfl | rfl <;> rfl
theorem legsC_oneC (xs : List Leg) : ∀ u ∈ legsC xs, u.oneCell' = true := by
  intro u hu
  simp only [legsC, List.mem_flatMap] at hu
  obtain ⟨l, _, hu⟩ := hu
  exact legC_oneC l u hu
theorem legsC_app (xs ys : List Leg) : legsC (xs ++ ys) = legsC xs ++ legsC ys := by simp [legsC]
theorem legsC_len (xs : List Leg) : (legsC xs).length = xs.length * 4 := by
  induction xs with
  | nil => rfl
  | cons l xs ih =>
    have e : legsC (l :: xs) = legC l ++ legsC xs := rfl
    rw [e, List.length_append, ih, List.length_cons]
    have : (legC l).length = 4 := rfl
    omega
theorem step_appLegs (Y : World) {ops : Array Oper} {o : Oper} {a : Act} {K : Act → World → Prop} {Q : Exit → Act → World → Prop} {E : Prop} (hgd : o.guard = none) (s x : Operand)
    (ho : o.op = .call { callee := .builtin .append, args := #[s, x], argTypes := #[27, 27] })
    (base : Nat) (v : Value) (F1 : Nat → Prop) (xs : List Leg) (hs : a.eval s = v) (u : Value) (ys : List Leg) (hx : a.eval x = u)
    (hown : legsR.O Y base F1 v xs) (hsrc : AppAny Y u ys.length (legsC ys)) (hlen : xs.length + ys.length ≤ 1048576) (hbase : base ≤ Y.heap.size)
    (h : ∀ v' w', legsR.O w' base (fun b => v'.ownBlock = some b) v' (xs ++ ys) → Mod F1 Y w' → (∀ b, v'.ownBlock = some b → F1 b ∨ (Y.heap.size ≤ b ∧ b < w'.heap.size)) → K (a.put o.dst v') w') :
    if Region.wanted o (yielded ops a.tmps) = true then Oper.wp Try.prog o a Y K Q else E := by
  obtain ⟨i0, hi, hz0, hz1, hz2⟩ := info_parts infoLeg
  have hF1 : F1 = fun b => v.ownBlock = some b := hown.2
  rcases hsrc with ⟨c, rfl, hm, _⟩ | ⟨ad, c, rfl, hc⟩
  · have hy : ys = [] := List.eq_nil_of_length_eq_zero hm
    subst hy
    have hw : Region.wanted o (yielded ops a.tmps) = true := by simp [Region.wanted, hgd]
    rw [if_pos hw]
    have hr := run_append_none_any (P := Try.prog) Y base 27 o.type 40 i0 4 c Try.underlying27 hi v xs.length (legsC xs) hown.1
    unfold Oper.wp execOp
    simp only [ho, resolve, invoke, builtin, Sem.run_bind, Sem.run_pure, Result.andThen_ok, List.map_toArray, List.map_cons, List.map_nil, hs, hx, hr]
    refine h v Y ?_ (Mod.refl _ _) (fun b hb => .inl (by rw [hF1]; exact hb))
    rw [List.append_nil]
    exact ⟨hown.1, rfl⟩
  · refine step_append_at Y hgd s x 27 ho base 40 i0 _ 4 32 Try.underlying27 hi hz0 hz1 hz2 rfl (by decide) v xs.length (legsC xs) hs hown.1 ad ys.length c (legsC ys) hx (legsC_len ys) hc (legsC_oneC ys) (by unfold maxLen; omega) (by omega) hbase ?_
    intro v' w' h1 h2 h3
    refine h v' w' ⟨by rw [List.length_append, legsC_app]; exact h1, rfl⟩ (by rw [hF1]; exact Mod.of_grown h2) (fun b hb => ?_)
    rcases h3 with h3 | h3
    · exact .inl (by rw [hF1]; exact h3 ▸ hb)
    · rw [h3] at hb
      simp only [Option.some.injEq] at hb
      have := (h1.lt b (by rw [h3, hb])).2
      exact .inr ⟨by omega, this⟩
def drawG (base : Nat) (id : Int) (xs : List Leg) (la lb : Leg) : Nat → (Nat → Value) → (Nat → Prop) → World → Prop
  | 1, y, F, w => legsR.O w base F (y 42) []
  | 4, y, F, w => legsR.O w base F (y 45) xs
  | 7, y, F, w => legsR.O w base F (y 48) [la, lb]
  | 8, y, F, w => legsR.O w base F (y 49) (xs ++ [la, lb])
  | 9, y, _, _ => y 50 = .agg #[.int .i64 id, y 49]
  | 10, y, F, w => ∃ g, y 11 = .pointer (some ⟨g, 0, none⟩) ∧ (∀ b, F b ↔ b = g) ∧ w.cell? ⟨g, 0, none⟩ = some (.int .i64 0) ∧ w.cell? ⟨g, 1, none⟩ = some (.slice none 0 0) ∧ ∀ o, w.frozen? ⟨g, o, none⟩ = false
  | _, _, _, _ => True
def drawC : Nat → List Nat
  | 4 => [1]
  | 8 => [4]
  | _ => []
end Go.Proofs.Ytgjpafalompecaa

/-
  The specification's draws: a right contract.
-/
namespace Go.Proofs.Ytgjpafalompecaa
open Go.RowKit
set_option linter.unusedSectionVars false
variable [DecidableEq Logg] [Inhabited Logg] [DecidableEq LoggR] [Inhabited LoggR] [DecidableEq BytesR] [Inhabited BytesR] [DecidableEq RecsR] [Inhabited RecsR] [DecidableEq Leg] [Inhabited Leg] [DecidableEq Cont] [Inhabited Cont]
set_option linter.unusedSimpArgs false
attribute [local go_sem ↓] Go.wp_at_zero Go.wp_at_succ

structure CtSt (w w' : World) (id : Int) (xs : List Leg) (p : Option Addr) (q : Nat) (F : Nat → Prop) : Prop where
  x0 : w'.cell? ⟨w.heap.size + 1, 0, none⟩ = some (.int .i64 id)
  x1 : w'.cell? ⟨w.heap.size + 1, 1, none⟩ = some (.slice p xs.length q)
  xf : ∀ o, w'.frozen? ⟨w.heap.size + 1, o, none⟩ = false
  r0 : w'.cell? ⟨w.heap.size, 0, none⟩ = some (.int .i64 0)
  r1 : w'.cell? ⟨w.heap.size, 1, none⟩ = some (.slice none 0 0)
  rf : ∀ o, w'.frozen? ⟨w.heap.size, o, none⟩ = false
  hO : legsR.O w' (w.heap.size + 2) F (.slice p xs.length q) xs
  hz : w.heap.size + 2 ≤ w'.heap.size
theorem CtSt.mod {w w' w'' : World} {id : Int} {xs : List Leg} {p : Option Addr} {q : Nat} {F G : Nat → Prop} (h : CtSt w w' id xs p q F) (hm : Mod G w' w'') (hG : ∀ b, G b → b < w.heap.size ∨ w'.heap.size ≤ b) : CtSt w w'' id xs p q F := by
  have hz := h.hz
  have n0 : ¬ G w.heap.size := fun e => by have := hG _ e; omega
  have n1 : ¬ G (w.heap.size + 1) := fun e => by have := hG _ e; omega
  exact ⟨hm.cell h.x0 n1, hm.cell h.x1 n1, fun o => by rw [hm.frozenAt (a := ⟨w.heap.size + 1, o, none⟩) (by dsimp only; omega) n1]; exact h.xf o, hm.cell h.r0 n0, hm.cell h.r1 n0, fun o => by rw [hm.frozenAt (a := ⟨w.heap.size, o, none⟩) (by dsimp only; omega) n0]; exact h.rf o, legsR.mod h.hO hm (fun b hb e => by have := legsR.rng h.hO b hb; have := hG b e; omega), Nat.le_trans hz hm.size⟩
theorem CtSt.below {w w' w'' : World} {id : Int} {xs : List Leg} {p : Option Addr} {q : Nat} {F : Nat → Prop} (h : CtSt w w' id xs p q F) (hb : Below w'.heap.size w' w'') : CtSt w w'' id xs p q F :=
  h.mod (G := fun _ => False) (Mod.of_below hb) (fun _ e => e.elim)
theorem CtSt.put {w w' : World} {id : Int} {xs ys : List Leg} {p p' : Option Addr} {q q' : Nat} {F F' : Nat → Prop} (h : CtSt w w' id xs p q F) (hO : legsR.O w' (w.heap.size + 2) F' (.slice p' ys.length q') ys) :
    CtSt w ((w'.setCell ⟨w.heap.size + 1, 0, none⟩ (.int .i64 id)).setCell ⟨w.heap.size + 1, 1, none⟩ (.slice p' ys.length q')) id ys p' q' F' := by
  refine ⟨?_, ?_, fun o => by simp [h.xf], ?_, ?_, fun o => by simp [h.rf], ?_, by simpa using h.hz⟩
  · rw [set_other (by simp)]; exact set_same h.x0
  · exact set_same (by rw [set_other (by simp)]; exact h.x1)
  · rw [set_other (by simp), set_other (by simp)]; exact h.r0
  · rw [set_other (by simp), set_other (by simp)]; exact h.r1
  · exact legsR.set (legsR.set hO _ (by simp)) _ (by simp)
set_option maxHeartbeats 8000000 in
theorem l1Draw_any (B : Nat) (w : World) (bs : Nat) (a : Option Addr) (k cap t : Nat) (id : Int) (h : Src B w bs a k cap t) (ht : t ≤ 1000) :
    Calls Try.prog 61 #[.pointer (some ⟨bs, 0, none⟩), .int .i64 id] w fun e w' => ∃ v F xs t', e = .returned (.agg #[.int .i64 id, v]) ∧ legsR.O w' w.heap.size F v xs ∧ 1 ≤ xs.length ∧ xs.length ≤ 4 ∧ Src B w' bs a k cap t' ∧ t' ≤ t + 20 ∧ Mod (fun b => b = bs) w w' := by
  have hlt := h.lt
  go_enter Try.func61, Try.ntmps61
  go_wp2_with fail
  refine (l1Next_any B _ bs a k cap t 2 (h.below (by (repeat (first | exact Below.refl _ _ | assumption | refine Below.drew ?_ | refine balloc ?_ _ | refine bset ?_ (by simp; omega) _ | refine bset ?_ (by simp) _ | refine bstep ?_ (by assumption))))) (by omega) (by omega) (by omega)).mono ?_
  rintro e w1 ⟨n1, rfl, rn, hs1, hm1⟩
  have hM1 : Mod (fun b => b = bs) w w1 := (Mod.of_below (by (repeat (first | exact Below.refl _ _ | assumption | refine Below.drew ?_ | refine balloc ?_ _ | refine bset ?_ (by simp; omega) _ | refine bset ?_ (by simp) _ | refine bstep ?_ (by assumption))))).trans hm1
  have st0 : CtSt w ((w.alloc (.cells #[.int .i64 0, .slice none 0 0] 29)).alloc (.cells #[.int .i64 id, .slice none 0 0] 29)) id [] none 0 none_ :=
    ⟨by simp [go_sem], by simp [go_sem], fun o => by simp [go_sem], by simp [go_sem], by simp [go_sem], fun o => by simp [go_sem], ⟨World.ownsRow_nil _ _ _ _, by funext b; simp [none_, Value.ownBlock]⟩, by simp⟩
  have st1 := st0.mod hm1 (fun b hb => by omega)
  have y0 : IntKind.i64.wrap (1 + (n1 : Int)) = ((1 + n1 : Nat) : Int) := by rw [wrapI _ (by omega) (by omega)]; omega
  clear st0 hm1 h
  go_wp2
  go_loopw [6] (fun i w' => ∃ (m t' : Nat) (xs : List Leg) (p : Option Addr) (q : Nat) (F : Nat → Prop), i = .int .i64 m ∧ xs.length + 2 * m ≤ 4 ∧ t' + 6 * m ≤ t + 13 ∧ CtSt w w' id xs p q F ∧ Src B w' bs a k cap t' ∧ Mod (fun b => b = bs) w w') (fun i _ => (intOf i).toNat)
  case atStart =>
    exact ⟨1 + n1, t + 1, [], _, _, _, by go_num, by simp; omega, by omega, st1, hs1, hM1⟩
  case round =>
    obtain ⟨m, t', xs, p, q, F, rfl, hxm, htm, st, hs, hM⟩ := hrel
    by_cases hpos : 0 < m
    · have hq : (0 : Int) < (m : Int) := by omega
      go_wp2_with fail
      refine (l1Next_any B wr bs a k cap (t') 3 hs (by omega) (by omega) (by omega)).mono ?_
      rintro e w2 ⟨g1, rfl, hg1, hs_w2, hm⟩
      have st_w2 := st.mod hm (fun b hb => by omega)
      have hM_w2 := hM.trans hm
      have z_w2 := hm.size
      try simp only [World.size_alloc] at z_w2
      clear st hM hs hm
      go_wp2_with fail
      refine (l1Next_any B w2 bs a k cap (t' + 1) 40 hs_w2 (by omega) (by omega) (by omega)).mono ?_
      rintro e w3 ⟨g2, rfl, hg2, hs_w3, hm⟩
      have st_w3 := st_w2.mod hm (fun b hb => by omega)
      have hM_w3 := hM_w2.trans hm
      have z_w3 := hm.size
      try simp only [World.size_alloc] at z_w3
      clear st_w2 hM_w2 hs_w2 hm
      have u1 : IntKind.i64.wrap (1 + (g2 : Int)) = 1 + g2 := wrapI _ (by omega) (by omega)
      go_wp2_with fail
      refine (l1Next_any B w3 bs a k cap (t' + 1 + 1) 3 hs_w3 (by omega) (by omega) (by omega)).mono ?_
      rintro e w4 ⟨g3, rfl, hg3, hs_w4, hm⟩
      have st_w4 := st_w3.mod hm (fun b hb => by omega)
      have hM_w4 := hM_w3.trans hm
      have z_w4 := hm.size
      try simp only [World.size_alloc] at z_w4
      clear st_w3 hM_w3 hs_w3 hm
      go_wp2_with fail
      refine (l1Next_any B w4 bs a k cap (t' + 1 + 1 + 1) 4 hs_w4 (by omega) (by omega) (by omega)).mono ?_
      rintro e w5 ⟨g4, rfl, hg4, hs_w5, hm⟩
      have st_w5 := st_w4.mod hm (fun b hb => by omega)
      have hM_w5 := hM_w4.trans hm
      have z_w5 := hm.size
      try simp only [World.size_alloc] at z_w5
      clear st_w4 hM_w4 hs_w4 hm
      have hz5 := st_w5.hz
      have u2 : IntKind.i64.wrap (-(1 + (g2 : Int))) = -(1 + g2) := wrapI _ (by omega) (by omega)
      go_wp2_with fail
      refine (l1Next_any B _ bs a k cap (t' + 1 + 1 + 1 + 1) 3 (hs_w5.below (by (repeat (first | exact Below.refl _ _ | assumption | refine Below.drew ?_ | refine balloc ?_ _ | refine bset ?_ (by simp; omega) _ | refine bset ?_ (by simp) _ | refine bstep ?_ (by assumption))))) (by omega) (by omega) (by omega)).mono ?_
      rintro e w6 ⟨g5, rfl, hg5, hs_w6, hm⟩
      have st_w6 := (st_w5.below (by (repeat (first | exact Below.refl _ _ | assumption | refine Below.drew ?_ | refine balloc ?_ _ | refine bset ?_ (by simp; omega) _ | refine bset ?_ (by simp) _ | refine bstep ?_ (by assumption))))).mod hm (fun b hb => by omega)
      have hM_w6 := (hM_w5.transB (by (repeat (first | exact Below.refl _ _ | assumption | refine Below.drew ?_ | refine balloc ?_ _ | refine bset ?_ (by simp; omega) _ | refine bset ?_ (by simp) _ | refine bstep ?_ (by assumption))))).trans hm
      have z_w6 := hm.size
      try simp only [World.size_alloc] at z_w6
      have A0 : w6.cell? ⟨w5.heap.size, 0, none⟩ = some (.int .i64 (g3 : Int)) := hm.cell (by simp [go_sem]) (fun e => by dsimp only at e; have := st_w5.hz; omega)
      have A1 : w6.cell? ⟨w5.heap.size, 1, none⟩ = some (.int .i64 (g4 : Int)) := hm.cell (by simp [go_sem]) (fun e => by dsimp only at e; have := st_w5.hz; omega)
      have A2 : w6.cell? ⟨w5.heap.size, 2, none⟩ = some (.int .i64 (g1 : Int)) := hm.cell (by simp [go_sem]) (fun e => by dsimp only at e; have := st_w5.hz; omega)
      have A3 : w6.cell? ⟨w5.heap.size, 3, none⟩ = some (.int .i64 (-(1 + (g2 : Int)))) := hm.cell (by simp [go_sem]) (fun e => by dsimp only at e; have := st_w5.hz; omega)
      clear st_w5 hM_w5 hs_w5 hm
      go_wp2_with fail
      refine (l1Next_any B w6 bs a k cap (t' + 1 + 1 + 1 + 1 + 1) 4 hs_w6 (by omega) (by omega) (by omega)).mono ?_
      rintro e w7 ⟨g6, rfl, hg6, hs_w7, hm⟩
      have st_w7 := st_w6.mod hm (fun b hb => by omega)
      have hM_w7 := hM_w6.trans hm
      have z_w7 := hm.size
      try simp only [World.size_alloc] at z_w7
      replace A0 := hm.cell A0 (fun e => by dsimp only at e; have := st_w6.hz; have := z_w6; have := hz5; omega)
      replace A1 := hm.cell A1 (fun e => by dsimp only at e; have := st_w6.hz; have := z_w6; have := hz5; omega)
      replace A2 := hm.cell A2 (fun e => by dsimp only at e; have := st_w6.hz; have := z_w6; have := hz5; omega)
      replace A3 := hm.cell A3 (fun e => by dsimp only at e; have := st_w6.hz; have := z_w6; have := hz5; omega)
      clear st_w6 hM_w6 hs_w6 hm
      have hz7 := st_w7.hz
      go_wp2
      refine wp_region_noPanic ?_
      obtain ⟨la, hla⟩ : ∃ la : Leg, la = ⟨g3, g4, g1, -(1 + (g2 : Int))⟩ := ⟨_, rfl⟩
      obtain ⟨lb, hlb⟩ : ∃ lb : Leg, lb = ⟨g5, g6, g1, 1 + (g2 : Int)⟩ := ⟨_, rfl⟩
      have B0 : (w7.alloc (.cells #[.int .i64 (g5 : Int), .int .i64 (g6 : Int), .int .i64 (g1 : Int), .int .i64 (1 + (g2 : Int))] 40)).cell? ⟨w7.heap.size, 0, none⟩ = some (.int .i64 lb.sh) := by rw [hlb]; simp [go_sem]
      have B1 : (w7.alloc (.cells #[.int .i64 (g5 : Int), .int .i64 (g6 : Int), .int .i64 (g1 : Int), .int .i64 (1 + (g2 : Int))] 40)).cell? ⟨w7.heap.size, 1, none⟩ = some (.int .i64 lb.ac) := by rw [hlb]; simp [go_sem]
      have B2 : (w7.alloc (.cells #[.int .i64 (g5 : Int), .int .i64 (g6 : Int), .int .i64 (g1 : Int), .int .i64 (1 + (g2 : Int))] 40)).cell? ⟨w7.heap.size, 2, none⟩ = some (.int .i64 lb.ast) := by rw [hlb]; simp [go_sem]
      have B3 : (w7.alloc (.cells #[.int .i64 (g5 : Int), .int .i64 (g6 : Int), .int .i64 (g1 : Int), .int .i64 (1 + (g2 : Int))] 40)).cell? ⟨w7.heap.size, 3, none⟩ = some (.int .i64 lb.am) := by rw [hlb]; simp [go_sem]
      have A0' : (w7.alloc (.cells #[.int .i64 (g5 : Int), .int .i64 (g6 : Int), .int .i64 (g1 : Int), .int .i64 (1 + (g2 : Int))] 40)).cell? ⟨w5.heap.size, 0, none⟩ = some (.int .i64 la.sh) := by rw [hla]; exact cell_keep (by (repeat (first | exact Below.refl _ _ | assumption | refine Below.drew ?_ | refine balloc ?_ _ | refine bset ?_ (by simp; omega) _ | refine bset ?_ (by simp) _ | refine bstep ?_ (by assumption)))) A0
      have A1' : (w7.alloc (.cells #[.int .i64 (g5 : Int), .int .i64 (g6 : Int), .int .i64 (g1 : Int), .int .i64 (1 + (g2 : Int))] 40)).cell? ⟨w5.heap.size, 1, none⟩ = some (.int .i64 la.ac) := by rw [hla]; exact cell_keep (by (repeat (first | exact Below.refl _ _ | assumption | refine Below.drew ?_ | refine balloc ?_ _ | refine bset ?_ (by simp; omega) _ | refine bset ?_ (by simp) _ | refine bstep ?_ (by assumption)))) A1
      have A2' : (w7.alloc (.cells #[.int .i64 (g5 : Int), .int .i64 (g6 : Int), .int .i64 (g1 : Int), .int .i64 (1 + (g2 : Int))] 40)).cell? ⟨w5.heap.size, 2, none⟩ = some (.int .i64 la.ast) := by rw [hla]; exact cell_keep (by (repeat (first | exact Below.refl _ _ | assumption | refine Below.drew ?_ | refine balloc ?_ _ | refine bset ?_ (by simp; omega) _ | refine bset ?_ (by simp) _ | refine bstep ?_ (by assumption)))) A2
      have A3' : (w7.alloc (.cells #[.int .i64 (g5 : Int), .int .i64 (g6 : Int), .int .i64 (g1 : Int), .int .i64 (1 + (g2 : Int))] 40)).cell? ⟨w5.heap.size, 3, none⟩ = some (.int .i64 la.am) := by rw [hla]; exact cell_keep (by (repeat (first | exact Below.refl _ _ | assumption | refine Below.drew ?_ | refine balloc ?_ _ | refine bset ?_ (by simp; omega) _ | refine bset ?_ (by simp) _ | refine bstep ?_ (by assumption)))) A3
      have st8 := st_w7.below (w'' := w7.alloc (.cells #[.int .i64 (g5 : Int), .int .i64 (g6 : Int), .int .i64 (g1 : Int), .int .i64 (1 + (g2 : Int))] 40)) (by (repeat (first | exact Below.refl _ _ | assumption | refine Below.drew ?_ | refine balloc ?_ _ | refine bset ?_ (by simp; omega) _ | refine bset ?_ (by simp) _ | refine bstep ?_ (by assumption))))
      have hM8 := hM_w7.transB (w2 := w7.alloc (.cells #[.int .i64 (g5 : Int), .int .i64 (g6 : Int), .int .i64 (g1 : Int), .int .i64 (1 + (g2 : Int))] 40)) (by (repeat (first | exact Below.refl _ _ | assumption | refine Below.drew ?_ | refine balloc ?_ _ | refine bset ?_ (by simp; omega) _ | refine bset ?_ (by simp) _ | refine bstep ?_ (by assumption))))
      have hs8 := hs_w7.below (w' := w7.alloc (.cells #[.int .i64 (g5 : Int), .int .i64 (g6 : Int), .int .i64 (g1 : Int), .int .i64 (1 + (g2 : Int))] 40)) (by (repeat (first | exact Below.refl _ _ | assumption | refine Below.drew ?_ | refine balloc ?_ _ | refine bset ?_ (by simp; omega) _ | refine bset ?_ (by simp) _ | refine bstep ?_ (by assumption))))
      have z8 : w7.heap.size < (w7.alloc (.cells #[.int .i64 (g5 : Int), .int .i64 (g6 : Int), .int .i64 (g1 : Int), .int .i64 (1 + (g2 : Int))] 40)).heap.size := by simp
      generalize w7.alloc (.cells #[.int .i64 (g5 : Int), .int .i64 (g6 : Int), .int .i64 (g1 : Int), .int .i64 (1 + (g2 : Int))] 40) = W8 at *
      clear st_w7 hM_w7 hs_w7 A0 A1 A2 A3 hla hlb
      refine region_upto (fun w' => Below W8.heap.size W8 w' ∧ w'.cell? ⟨w.heap.size + 1, 1, none⟩ = some (.slice p xs.length q) ∧ (w'.cell? ⟨w5.heap.size, 0, none⟩ = some (.int .i64 la.sh) ∧ w'.cell? ⟨w5.heap.size, 1, none⟩ = some (.int .i64 la.ac) ∧ w'.cell? ⟨w5.heap.size, 2, none⟩ = some (.int .i64 la.ast) ∧ w'.cell? ⟨w5.heap.size, 3, none⟩ = some (.int .i64 la.am)) ∧ (w'.cell? ⟨w7.heap.size, 0, none⟩ = some (.int .i64 lb.sh) ∧ w'.cell? ⟨w7.heap.size, 1, none⟩ = some (.int .i64 lb.ac) ∧ w'.cell? ⟨w7.heap.size, 2, none⟩ = some (.int .i64 lb.ast) ∧ w'.cell? ⟨w7.heap.size, 3, none⟩ = some (.int .i64 lb.am))) 11 (by kernel_rfl) ⟨Below.drew (Below.refl _ _), cell_keep (by (repeat (first | exact Below.refl _ _ | assumption | refine Below.drew ?_ | refine balloc ?_ _ | refine bset ?_ (by simp; omega) _ | refine bset ?_ (by simp) _ | refine bstep ?_ (by assumption)))) st8.x1, ⟨cell_keep (by (repeat (first | exact Below.refl _ _ | assumption | refine Below.drew ?_ | refine balloc ?_ _ | refine bset ?_ (by simp; omega) _ | refine bset ?_ (by simp) _ | refine bstep ?_ (by assumption)))) A0', cell_keep (by (repeat (first | exact Below.refl _ _ | assumption | refine Below.drew ?_ | refine balloc ?_ _ | refine bset ?_ (by simp; omega) _ | refine bset ?_ (by simp) _ | refine bstep ?_ (by assumption)))) A1', cell_keep (by (repeat (first | exact Below.refl _ _ | assumption | refine Below.drew ?_ | refine balloc ?_ _ | refine bset ?_ (by simp; omega) _ | refine bset ?_ (by simp) _ | refine bstep ?_ (by assumption)))) A2', cell_keep (by (repeat (first | exact Below.refl _ _ | assumption | refine Below.drew ?_ | refine balloc ?_ _ | refine bset ?_ (by simp; omega) _ | refine bset ?_ (by simp) _ | refine bstep ?_ (by assumption)))) A3'⟩, ⟨cell_keep (by (repeat (first | exact Below.refl _ _ | assumption | refine Below.drew ?_ | refine balloc ?_ _ | refine bset ?_ (by simp; omega) _ | refine bset ?_ (by simp) _ | refine bstep ?_ (by assumption)))) B0, cell_keep (by (repeat (first | exact Below.refl _ _ | assumption | refine Below.drew ?_ | refine balloc ?_ _ | refine bset ?_ (by simp; omega) _ | refine bset ?_ (by simp) _ | refine bstep ?_ (by assumption)))) B1, cell_keep (by (repeat (first | exact Below.refl _ _ | assumption | refine Below.drew ?_ | refine balloc ?_ _ | refine bset ?_ (by simp; omega) _ | refine bset ?_ (by simp) _ | refine bstep ?_ (by assumption)))) B2, cell_keep (by (repeat (first | exact Below.refl _ _ | assumption | refine Below.drew ?_ | refine balloc ?_ _ | refine bset ?_ (by simp; omega) _ | refine bset ?_ (by simp) _ | refine bstep ?_ (by assumption)))) B3⟩⟩ (fun hS => ?_)
      refine upto_take (i := 0) (v := ?_) rfl (by kernel_rfl) (by kernel_rfl) (by kernel_rfl) (by kernel_rfl) (fun _ _ _ h => h) (by rfl) hS ?_ ?_
      rotate_left
      · intro wS hSw
        try dsimp only at hSw
        first | (go_simp; done) | (go_simp; with_reducible rfl)
      try simp only [Act.put, List.getElem_toArray, List.getElem_cons_zero, List.getElem_cons_succ, List.setIfInBounds_toArray, List.set_cons_zero, List.set_cons_succ]
      refine upto_take (i := 2) (v := ?_) rfl (by kernel_rfl) (by kernel_rfl) (by kernel_rfl) (by kernel_rfl) (fun _ _ _ h => h) (by rfl) hS ?_ ?_
      rotate_left
      · intro wS hSw
        try dsimp only at hSw
        first | (go_simp; done) | (go_simp; with_reducible rfl)
      try simp only [Act.put, List.getElem_toArray, List.getElem_cons_zero, List.getElem_cons_succ, List.setIfInBounds_toArray, List.set_cons_zero, List.set_cons_succ]
      refine upto_take (i := 3) (v := ?_) rfl (by kernel_rfl) (by kernel_rfl) (by kernel_rfl) (by kernel_rfl) (fun _ _ _ h => h) (by rfl) hS ?_ ?_
      rotate_left
      · intro wS hSw
        try dsimp only at hSw
        first | (go_simp; done) | (go_simp; with_reducible rfl)
      try simp only [Act.put, List.getElem_toArray, List.getElem_cons_zero, List.getElem_cons_succ, List.setIfInBounds_toArray, List.set_cons_zero, List.set_cons_succ]
      refine upto_take (i := 5) (v := ?_) rfl (by kernel_rfl) (by kernel_rfl) (by kernel_rfl) (by kernel_rfl) (fun _ _ _ h => h) (by rfl) hS ?_ ?_
      rotate_left
      · intro wS hSw
        try dsimp only at hSw
        first | (go_simp; done) | (go_simp; with_reducible rfl)
      try simp only [Act.put, List.getElem_toArray, List.getElem_cons_zero, List.getElem_cons_succ, List.setIfInBounds_toArray, List.set_cons_zero, List.set_cons_succ]
      refine upto_take (i := 6) (v := ?_) rfl (by kernel_rfl) (by kernel_rfl) (by kernel_rfl) (by kernel_rfl) (fun _ _ _ h => h) (by rfl) hS ?_ ?_
      rotate_left
      · intro wS hSw
        try dsimp only at hSw
        first | (go_simp; done) | (go_simp; with_reducible rfl)
      try simp only [Act.put, List.getElem_toArray, List.getElem_cons_zero, List.getElem_cons_succ, List.setIfInBounds_toArray, List.set_cons_zero, List.set_cons_succ]
      have hW0 : Below W8.heap.size W8 W8.drew := Below.drew (Below.refl _ _)
      have hzW : W8.heap.size = W8.drew.heap.size := rfl
      generalize W8.drew = W0 at *
      have hsr : AppAny W0 (.slice p xs.length q) xs.length (legsC xs) := appAny_owns (legsR.keep st8.hO hW0).1
      have hsv := fun (W : World) (hW : Below W0.heap.size W0 W) => appAny_owns (legsR.keep (legsR.keep st8.hO hW0) hW).1
      refine upto_cons' [(1, 42), (4, 45), (7, 48), (8, 49), (9, 50), (10, 11)] drawC (drawG W0.heap.size id xs la lb) (by kernel_rfl) hS ?_ ?_ ?_ ?_
      · intro F' W W' h hm hF
        obtain ⟨h1, h2, ⟨h3, h4, h5, h6⟩, ⟨h7, h8, h9, h10⟩⟩ := h
        exact ⟨hm.below h1 h1.size (fun b hb => by have := hF b hb; omega), hm.cell h2 (fun e => by have := hF _ e; dsimp only at this; omega), ⟨hm.cell h3 (fun e => by have := hF _ e; dsimp only at this; omega), hm.cell h4 (fun e => by have := hF _ e; dsimp only at this; omega), hm.cell h5 (fun e => by have := hF _ e; dsimp only at this; omega), hm.cell h6 (fun e => by have := hF _ e; dsimp only at this; omega)⟩, ⟨hm.cell h7 (fun e => by have := hF _ e; dsimp only at this; omega), hm.cell h8 (fun e => by have := hF _ e; dsimp only at this; omega), hm.cell h9 (fun e => by have := hF _ e; dsimp only at this; omega), hm.cell h10 (fun e => by have := hF _ e; dsimp only at this; omega)⟩⟩
      · intro pp hp
        simp only [List.mem_cons, List.not_mem_nil, or_false] at hp
        rcases hp with rfl | rfl | rfl | rfl | rfl | rfl
        · intro y y' F F' W W' h hi hm hap hF e _
          simp only [drawG] at h ⊢
          rw [e]
          exact legsR.mod h hm (fun b h1 h2 => hap b h2 h1)
        · intro y y' F F' W W' h hi hm hap hF e _
          simp only [drawG] at h ⊢
          rw [e]
          exact legsR.mod h hm (fun b h1 h2 => hap b h2 h1)
        · intro y y' F F' W W' h hi hm hap hF e _
          simp only [drawG] at h ⊢
          rw [e]
          exact legsR.mod h hm (fun b h1 h2 => hap b h2 h1)
        · intro y y' F F' W W' h hi hm hap hF e _
          simp only [drawG] at h ⊢
          rw [e]
          exact legsR.mod h hm (fun b h1 h2 => hap b h2 h1)
        · intro y y' F F' W W' h hi hm hap hF e he
          have e0 := he (8, 49) (by simp) (by kernel_rfl)
          simp only [drawG] at h ⊢
          rw [e, e0]
          exact h
        · intro y y' F F' W W' h hi hm hap hF e _
          simp only [drawG] at h ⊢
          rw [e]
          obtain ⟨g, h1, h2, h3, h4, h5⟩ := h
          have hng : ¬ F' g := fun c => hap g c ((h2 g).2 rfl)
          exact ⟨g, h1, h2, hm.cell h3 hng, hm.cell h4 hng, fun o => by rw [hm.frozenAt (a := ⟨g, o, none⟩) (hi g ((h2 g).2 rfl)).2 hng]; exact h5 o⟩
      · intro pp hp
        simp only [List.mem_cons, List.not_mem_nil, or_false] at hp
        rcases hp with rfl | rfl | rfl | rfl | rfl | rfl
        all_goals
          refine ⟨_, rfl, rfl, ?_⟩
          intro y W Φ hSW hBW hd K hK
        · clear hd
          refine ⟨?_⟩
          simp only [over, Act.put, List.getElem_toArray, List.getElem_cons_zero, List.getElem_cons_succ, List.map_cons, List.map_nil, List.foldl_cons, List.foldl_nil, List.setIfInBounds_toArray, List.set_cons_zero, List.set_cons_succ] at hK ⊢
          go_simp
          refine hK _ _ (fun b => b = W.heap.size) (Mod.of_below (by (repeat (first | exact Below.refl _ _ | assumption | refine Below.drew ?_ | refine balloc ?_ _ | refine bset ?_ (by simp; omega) _ | refine bset ?_ (by simp) _ | refine bstep ?_ (by assumption))))) (fun b hb => .inr (by simp; omega)) ?_
          simp only [drawG, updV]
          refine ⟨World.ownsRow_lit (base := W0.heap.size) (e := 40) (size := 4) W #[] 0 hBW.size (by unfold maxLen; omega) rfl, ?_⟩
          funext b
          simp [Value.ownBlock, eq_comm]
        · have g0 := (hd (1, 42) (by simp) (by kernel_rfl) (.inl (by simp [drawC]))).2
          clear hd
          simp only [drawG] at g0
          refine ⟨?_⟩
          refine step_appLegs W rfl (.tmp 42) (.tmp 44) rfl W0.heap.size (y 42) (Φ 1) [] rfl (.slice p xs.length q) xs rfl g0 (hsv W hBW) (by simp; omega) hBW.size ?_
          intro v' w' hO hm hl
          refine hK _ _ (fun b => v'.ownBlock = some b) (hm.mono (fun b hb => ⟨1, by simp [drawC], hb⟩)) (fun b hb => (hl b hb).imp (fun h => ⟨1, by simp [drawC], h⟩) (fun h => h)) ?_
          simp only [drawG, updV]
          simpa using hO
        · clear hd
          obtain ⟨h1, h2, ⟨h3, h4, h5, h6⟩, ⟨h7, h8, h9, h10⟩⟩ := hSW
          refine ⟨?_⟩
          simp only [over, Act.put, List.getElem_toArray, List.getElem_cons_zero, List.getElem_cons_succ, List.map_cons, List.map_nil, List.foldl_cons, List.foldl_nil, List.setIfInBounds_toArray, List.set_cons_zero, List.set_cons_succ] at hK ⊢
          go_simp
          refine hK _ _ (fun b => b = W.heap.size) (Mod.of_below (by (repeat (first | exact Below.refl _ _ | assumption | refine Below.drew ?_ | refine balloc ?_ _ | refine bset ?_ (by simp; omega) _ | refine bset ?_ (by simp) _ | refine bstep ?_ (by assumption))))) (fun b hb => .inr (by simp; omega)) ?_
          simp only [drawG, updV]
          refine ⟨World.ownsRow_lit (base := W0.heap.size) (e := 40) (size := 4) W #[.int .i64 la.sh, .int .i64 la.ac, .int .i64 la.ast, .int .i64 la.am, .int .i64 lb.sh, .int .i64 lb.ac, .int .i64 lb.ast, .int .i64 lb.am] 2 hBW.size (by unfold maxLen; omega) rfl, ?_⟩
          funext b
          simp [Value.ownBlock, eq_comm]
        · have g0 := (hd (4, 45) (by simp) (by kernel_rfl) (.inl (by simp [drawC]))).2
          have g1 := (hd (7, 48) (by simp) (by kernel_rfl) (.inr (by simp [drawC]))).2
          clear hd
          simp only [drawG] at g0 g1
          refine ⟨?_⟩
          refine step_appLegs W rfl (.tmp 45) (.tmp 48) rfl W0.heap.size (y 45) (Φ 4) xs rfl (y 48) [la, lb] rfl g0 (appAny_owns g1.1) (by simp; omega) hBW.size ?_
          intro v' w' hO hm hl
          refine hK _ _ (fun b => v'.ownBlock = some b) (hm.mono (fun b hb => ⟨4, by simp [drawC], hb⟩)) (fun b hb => (hl b hb).imp (fun h => ⟨4, by simp [drawC], h⟩) (fun h => h)) ?_
          simp only [drawG, updV]
          simpa using hO
        · have g0 := (hd (8, 49) (by simp) (by kernel_rfl) (.inr (by simp [drawC]))).2
          clear hd
          simp only [drawG] at g0
          obtain ⟨a9, c9, e9'⟩ := legs_form (legsR.ofO g0)
          have e9 : y 49 = .slice a9 (xs.length + 2) c9 := by simpa using e9'
          clear e9' g0
          refine ⟨?_⟩
          simp only [over, Act.put, List.getElem_toArray, List.getElem_cons_zero, List.getElem_cons_succ, List.map_cons, List.map_nil, List.foldl_cons, List.foldl_nil, List.setIfInBounds_toArray, List.set_cons_zero, List.set_cons_succ] at hK ⊢
          simp only [e9] at hK ⊢
          go_simp
          refine hK _ _ (fun _ => False) (Mod.refl _ _) (fun b hb => hb.elim) ?_
          simp only [drawG, updV]
          simp [e9]
        · clear hd
          refine ⟨?_⟩
          simp only [over, Act.put, List.getElem_toArray, List.getElem_cons_zero, List.getElem_cons_succ, List.map_cons, List.map_nil, List.foldl_cons, List.foldl_nil, List.setIfInBounds_toArray, List.set_cons_zero, List.set_cons_succ] at hK ⊢
          go_simp
          refine hK _ _ (fun b => b = W.heap.size) (Mod.of_below (by (repeat (first | exact Below.refl _ _ | assumption | refine Below.drew ?_ | refine balloc ?_ _ | refine bset ?_ (by simp; omega) _ | refine bset ?_ (by simp) _ | refine bstep ?_ (by assumption))))) (fun b hb => .inr (by simp; omega)) ?_
          simp only [drawG, updV]
          exact ⟨W.heap.size, rfl, fun b => Iff.rfl, by simp [go_sem], by simp [go_sem], fun o => by simp [go_sem]⟩
      · refine ⟨_, rfl, ?_⟩
        intro y W Φ hSW hBW hd hap K hK
        have g8 := hd (8, 49) (by simp) (by simp [drawC])
        have g9 := (hd (9, 50) (by simp) (by simp [drawC])).2
        have g10 := hd (10, 11) (by simp) (by simp [drawC])
        have ap := hap (8, 49) (by simp) (10, 11) (by simp) (by simp) (by simp [drawC]) (by simp [drawC])
        clear hd hap
        simp only [drawG] at g8 g9 g10
        obtain ⟨b8, o8⟩ := g8
        obtain ⟨b10, gB, e11, f10, k0, k1, kf⟩ := g10
        have hnB : ¬ Φ 8 gB := fun c => ap gB c ((f10 gB).2 rfl)
        have hBB := b10 gB ((f10 gB).2 rfl)
        obtain ⟨a9, c9, e9'⟩ := legs_form (legsR.ofO o8)
        have e9 : y 49 = .slice a9 (xs.length + 2) c9 := by simpa using e9'
        rw [e9] at o8 g9
        have hW89 : Below W8.heap.size W8 W := bstep hW0 hBW
        have hs9 := hs8.below hW89
        clear e9' ap b8 b10 f10 hS hSW
        refine ⟨?_⟩
        simp only [over, Act.put, List.getElem_toArray, List.getElem_cons_zero, List.getElem_cons_succ, List.map_cons, List.map_nil, List.foldl_cons, List.foldl_nil, List.setIfInBounds_toArray, List.set_cons_zero, List.set_cons_succ]
        simp only [g9, e11]
        clear g9 e11 e9
        go_simp
        refine hK _ _ ?_
        clear hK K
        refine NoPanic.normal ?_
        have hm5 : Mod (fun b => b = gB) W ((W.setCell ⟨gB, 0, none⟩ (.int .i64 id)).setCell ⟨gB, 1, none⟩ (.slice a9 (xs.length + 2) c9)) := (Mod.of_set W ⟨gB, 0, none⟩ _).trans (Mod.of_set _ ⟨gB, 1, none⟩ _)
        have t0 : ((W.setCell ⟨gB, 0, none⟩ (.int .i64 id)).setCell ⟨gB, 1, none⟩ (.slice a9 (xs.length + 2) c9)).cell? ⟨gB, 0, none⟩ = some (.int .i64 id) := by rw [set_other (by simp)]; exact set_same k0
        have t1 : ((W.setCell ⟨gB, 0, none⟩ (.int .i64 id)).setCell ⟨gB, 1, none⟩ (.slice a9 (xs.length + 2) c9)).cell? ⟨gB, 1, none⟩ = some (.slice a9 (xs.length + 2) c9) := set_same (by rw [set_other (by simp)]; exact k1)
        generalize (W.setCell ⟨gB, 0, none⟩ (.int .i64 id)).setCell ⟨gB, 1, none⟩ (.slice a9 (xs.length + 2) c9) = W5 at *
        have hm85 : Mod (fun b => b = gB) W8 W5 := (Mod.of_below hW89).trans hm5
        have st9 := st8.mod hm85 (fun b hb => .inr (by omega))
        have hM9 := hM8.trans2 hm85 (fun b hb hl => by have := hM8.size; omega)
        have hs10 := hs9.mod hm5 (fun b hb => by have := hs8.lt; omega)
        have o10 : legsR.O W5 (w.heap.size + 2) (Φ 8) (.slice a9 (xs.length + 2) c9) (xs ++ [la, lb]) := legsR.base (legsR.mod o8 hm5 (fun b h1 h2 => hnB (h2 ▸ h1))) (by have := st8.hz; omega)
        have hgB : gB < W5.heap.size := Nat.lt_of_lt_of_le hBB.2 hm5.size
        have hgB2 : w.heap.size + 2 ≤ gB := by have := st8.hz; omega
        clear st8 hM8 hs8 hs9 hm5 hm85 o8 k0 k1 kf hBB hBW hW89 hW0 hnB hsr hsv
        go_wp2_with fail
        refine (specFault_any id _ (xs ++ [la, lb]) W5 (legsR.ofO o10)).mono ?_
        rintro e w9 ⟨rfl, hb9⟩
        have st10 := st9.below hb9
        have hM10 := hM9.transB hb9
        have hs11 := hs10.below hb9
        have o11 := legsR.keep o10 hb9
        have q0 := cell_keep hb9 t0
        have q1 := cell_keep hb9 t1
        clear st9 hM9 hs10 o10 t0 t1 hb9
        have x0 := st10.x0
        have x1 := st10.x1
        have xf := st10.xf
        generalize contractFault id (xs ++ [la, lb]) = cf at *
        by_cases hcf : cf = 0
        · subst hcf
          have o12 : legsR.O w9 (w.heap.size + 2) (Φ 8) (.slice a9 (xs ++ [la, lb]).length c9) (xs ++ [la, lb]) := by simpa using o11
          have st11 := st10.put o12
          have hm6 : Mod (fun b => b = w.heap.size + 1) w9 ((w9.setCell ⟨w.heap.size + 1, 0, none⟩ (.int .i64 id)).setCell ⟨w.heap.size + 1, 1, none⟩ (.slice a9 (xs.length + 2) c9)) := (Mod.of_set w9 ⟨w.heap.size + 1, 0, none⟩ _).trans (Mod.of_set _ ⟨w.heap.size + 1, 1, none⟩ _)
          have hM11 := hM10.trans2 hm6 (fun b hb hl => by omega)
          have hs12 := hs11.mod hm6 (fun b hb => by omega)
          have HST : Hid (CtSt w ((w9.setCell ⟨w.heap.size + 1, 0, none⟩ (.int .i64 id)).setCell ⟨w.heap.size + 1, 1, none⟩ (.slice a9 (xs.length + 2) c9)) id (xs ++ [la, lb]) a9 c9 (Φ 8)) := by unfold Hid; simpa using st11
          clear st10 st11 hM10 hs11 o11 o12 hm6
          go_wp2
          exact ⟨⟨m - 1, t' + 1 + 1 + 1 + 1 + 1 + 1, xs ++ [la, lb], _, _, _, by go_num, by simp; omega, by omega, HST.out, hs12, hM11⟩, by simp [intOf]; omega⟩
        · have hcf2 : (cf == 0) = false := by rw [beq_eq_false_iff_ne]; exact hcf
          go_wp2
          exact ⟨⟨m - 1, t' + 1 + 1 + 1 + 1 + 1 + 1, xs, _, _, _, by go_num, by omega, by omega, st10, hs11, hM10⟩, by simp [intOf]; omega⟩
    · have hq : ¬ (0 : Int) < (m : Int) := by omega
      have x0 := st.x0
      have x1 := st.x1
      have xf := st.xf
      have r0 := st.r0
      have r1 := st.r1
      have rf := st.rf
      have hz := st.hz
      by_cases h0 : xs.length = 0
      · have hxe : ((xs.length : Int) == 0) = true := by simp [h0]
        have z1 : w.heap.size < wr.heap.size := by omega
        have z2 : w.heap.size + 1 < wr.heap.size := by omega
        have hm6 : Mod (fun b => b = w.heap.size ∨ b = w.heap.size + 1) wr (((wr.setCell ⟨w.heap.size + 1, 1, none⟩ (.slice (some ⟨wr.heap.size, 0, none⟩) 2 2)).setCell ⟨w.heap.size, 0, none⟩ (.int .i64 id)).setCell ⟨w.heap.size, 1, none⟩ (.slice (some ⟨wr.heap.size, 0, none⟩) 2 2)) := (((Mod.of_set wr ⟨w.heap.size + 1, 1, none⟩ _).mono (fun b hb => .inr hb)).trans ((Mod.of_set _ ⟨w.heap.size, 0, none⟩ _).mono (fun b hb => .inl hb))).trans ((Mod.of_set _ ⟨w.heap.size, 1, none⟩ _).mono (fun b hb => .inl hb))
        have hM2 : Mod (fun b => b = bs) w ((((wr.setCell ⟨w.heap.size + 1, 1, none⟩ (.slice (some ⟨wr.heap.size, 0, none⟩) 2 2)).setCell ⟨w.heap.size, 0, none⟩ (.int .i64 id)).setCell ⟨w.heap.size, 1, none⟩ (.slice (some ⟨wr.heap.size, 0, none⟩) 2 2)).alloc (.cells #[.int .i64 0, .int .i64 0, .int .i64 0, .int .i64 (-5), .int .i64 1, .int .i64 0, .int .i64 0, .int .i64 5] 40)) := (hM.trans2 hm6 (fun b hb hl => by omega)).alloc _
        have hs2 : Src B ((((wr.setCell ⟨w.heap.size + 1, 1, none⟩ (.slice (some ⟨wr.heap.size, 0, none⟩) 2 2)).setCell ⟨w.heap.size, 0, none⟩ (.int .i64 id)).setCell ⟨w.heap.size, 1, none⟩ (.slice (some ⟨wr.heap.size, 0, none⟩) 2 2)).alloc (.cells #[.int .i64 0, .int .i64 0, .int .i64 0, .int .i64 (-5), .int .i64 1, .int .i64 0, .int .i64 0, .int .i64 5] 40)) bs a k cap t' := (hs.mod hm6 (fun b hb => by omega)).below (by (repeat (first | exact Below.refl _ _ | assumption | refine Below.drew ?_ | refine balloc ?_ _ | refine bset ?_ (by simp; omega) _ | refine bset ?_ (by simp) _ | refine bstep ?_ (by assumption))))
        have hO2 : legsR.O ((((wr.setCell ⟨w.heap.size + 1, 1, none⟩ (.slice (some ⟨wr.heap.size, 0, none⟩) 2 2)).setCell ⟨w.heap.size, 0, none⟩ (.int .i64 id)).setCell ⟨w.heap.size, 1, none⟩ (.slice (some ⟨wr.heap.size, 0, none⟩) 2 2)).alloc (.cells #[.int .i64 0, .int .i64 0, .int .i64 0, .int .i64 (-5), .int .i64 1, .int .i64 0, .int .i64 0, .int .i64 5] 40)) w.heap.size (fun b => b = wr.heap.size) (.slice (some ⟨wr.heap.size, 0, none⟩) 2 2) [⟨0, 0, 0, -5⟩, ⟨1, 0, 0, 5⟩] := by
          have hh := World.ownsRow_lit (base := w.heap.size) (e := 40) (size := 4) (((wr.setCell ⟨w.heap.size + 1, 1, none⟩ (.slice (some ⟨wr.heap.size, 0, none⟩) 2 2)).setCell ⟨w.heap.size, 0, none⟩ (.int .i64 id)).setCell ⟨w.heap.size, 1, none⟩ (.slice (some ⟨wr.heap.size, 0, none⟩) 2 2)) #[.int .i64 0, .int .i64 0, .int .i64 0, .int .i64 (-5), .int .i64 1, .int .i64 0, .int .i64 0, .int .i64 5] 2 (by simp; omega) (by unfold maxLen; omega) rfl
          refine ⟨by have h := hh; simp at h; exact h, ?_⟩
          funext b
          simp [Value.ownBlock, eq_comm]
        clear hm6 st hs hM
        go_wp2
        refine bodyPost_ret (v := .agg #[.int .i64 id, (.slice (some ⟨wr.heap.size, 0, none⟩) 2 2)]) ?_ rfl ?_
        · simp [results, Try.results61, go_sem, r0, r1, x1, z1, z2]
        · first
            | exact ⟨_, _, [⟨0, 0, 0, -5⟩, ⟨1, 0, 0, 5⟩], t', rfl, hO2, by simp, by simp, hs2, by omega, hM2⟩
            | exact ⟨_, rfl, _, [⟨0, 0, 0, -5⟩, ⟨1, 0, 0, 5⟩], hO2, by simp, by simp, t', hs2, by omega, hM2⟩
      · have hxe : ((xs.length : Int) == 0) = false := by rw [beq_eq_false_iff_ne]; omega
        have hm6 : Mod (fun b => b = w.heap.size) wr ((wr.setCell ⟨w.heap.size, 0, none⟩ (.int .i64 id)).setCell ⟨w.heap.size, 1, none⟩ (.slice p xs.length q)) := (Mod.of_set wr ⟨w.heap.size, 0, none⟩ _).trans (Mod.of_set _ ⟨w.heap.size, 1, none⟩ _)
        have hM2 := hM.trans2 hm6 (fun b hb hl => by omega)
        have hs2 := hs.mod hm6 (fun b hb => by omega)
        have hO2 := legsR.base (base' := w.heap.size) (legsR.set (legsR.set st.hO (.int .i64 id) (p := ⟨w.heap.size, 0, none⟩) (by simp)) (.slice p xs.length q) (p := ⟨w.heap.size, 1, none⟩) (by simp)) (by omega)
        clear hm6
        go_wp2
        refine bodyPost_ret (v := .agg #[.int .i64 id, .slice p xs.length q]) ?_ rfl ?_
        · simp [results, Try.results61, go_sem, r0, r1]
        · first
            | exact ⟨_, F, xs, t', rfl, hO2, by omega, by omega, hs2, by omega, hM2⟩
            | exact ⟨_, rfl, F, xs, hO2, by omega, by omega, t', hs2, by omega, hM2⟩
end Go.Proofs.Ytgjpafalompecaa

/-
  A contract drawn with something turned.
-/
namespace Go.Proofs.Ytgjpafalompecaa
open Go.RowKit
set_option linter.unusedSectionVars false
variable [DecidableEq Logg] [Inhabited Logg] [DecidableEq LoggR] [Inhabited LoggR] [DecidableEq BytesR] [Inhabited BytesR] [DecidableEq RecsR] [Inhabited RecsR] [DecidableEq Leg] [Inhabited Leg] [DecidableEq Cont] [Inhabited Cont]
set_option linter.unusedVariables false
set_option linter.unusedSimpArgs false
attribute [local go_sem ↓] Go.wp_at_zero Go.wp_at_succ

structure Box2 (W : World) (p : Nat) (v0 v1 : Value) : Prop where
  c0 : W.cell? ⟨p, 0, none⟩ = some v0
  c1 : W.cell? ⟨p, 1, none⟩ = some v1
  fr : ∀ o, W.frozen? ⟨p, o, none⟩ = false
  lt : p < W.heap.size
theorem Box2.mod {F : Nat → Prop} {W W' : World} {p : Nat} {v0 v1 : Value} (h : Box2 W p v0 v1) (hm : Mod F W W') (hp : ¬ F p) : Box2 W' p v0 v1 :=
  ⟨hm.cell h.c0 hp, hm.cell h.c1 hp, fun o => (hm.frozenAt (a := ⟨p, o, none⟩) h.lt hp).trans (h.fr o), Nat.lt_of_lt_of_le h.lt hm.size⟩
theorem Box2.below {W W' : World} {p : Nat} {v0 v1 : Value} (h : Box2 W p v0 v1) (hb : Below W.heap.size W W') : Box2 W' p v0 v1 :=
  h.mod (F := fun _ => False) (Mod.of_below hb) (fun e => e)
theorem msetL {F : Nat → Prop} {w w' : World} (h : Mod F w w') (a : Addr) (v : Value) (ha : F a.block) : Mod F w (w'.setCell a v) := h.trans ((Mod.of_set w' a v).mono (fun b e => by rw [e]; exact ha))
def setF (l : Leg) (f : Nat) (r : Int) : Leg := match f with
  | 0 => { l with sh := r }
  | 1 => { l with ac := r }
  | 2 => { l with ast := r }
  | _ => { l with am := r }
theorem legsC_setF : ∀ (xs : List Leg) (i f : Nat) (r : Int), i < xs.length → f < 4 → (legsC xs).set (i * 4 + f) (.int .i64 r) = legsC (xs.set i (setF (xs.getD i default) f r))
  | [], i, f, r, h, _ => by simp at h
  | x :: xs, 0, f, r, _, hf => by
    have e : ∀ x l, legsC (x :: l) = [.int .i64 x.sh, .int .i64 x.ac, .int .i64 x.ast, .int .i64 x.am] ++ legsC l := fun x l => by simp [legsC, legC]
    rw [List.set_cons_zero, e, e]
    match f, hf with
    | 0, _ => simp [setF]
    | 1, _ => simp [setF]
    | 2, _ => simp [setF]
    | 3, _ => simp [setF]
  | x :: xs, i + 1, f, r, h, hf => by
    have e : ∀ x l, legsC (x :: l) = [.int .i64 x.sh, .int .i64 x.ac, .int .i64 x.ast, .int .i64 x.am] ++ legsC l := fun x l => by simp [legsC, legC]
    have ih := legsC_setF xs i f r (by simpa using h) hf
    rw [List.set_cons_succ, e, e, show (x :: xs).getD (i + 1) default = xs.getD i default by simp, ← ih]
    rw [show (i + 1) * 4 + f = (i * 4 + f) + 1 + 1 + 1 + 1 by omega]
    simp only [List.cons_append, List.nil_append, List.set_cons_succ]
theorem legsC_take : ∀ (xs : List Leg) (k : Nat), legsC (xs.take k) = (legsC xs).take (k * 4)
  | [], k => by simp [legsC]
  | x :: xs, 0 => by simp [legsC]
  | x :: xs, k + 1 => by
    have e : ∀ x l, legsC (x :: l) = [.int .i64 x.sh, .int .i64 x.ac, .int .i64 x.ast, .int .i64 x.am] ++ legsC l := fun x l => by simp [legsC, legC]
    rw [List.take_succ_cons, e, e, legsC_take xs k, show (k + 1) * 4 = k * 4 + 1 + 1 + 1 + 1 by omega]
    simp only [List.cons_append, List.nil_append, List.take_succ_cons]
theorem owns_takeL {w : World} {base e : Nat} {g : Nat} {cap : Nat} {xs : List Leg} (h : w.ownsRow base e 4 (.slice (some ⟨g, 0, none⟩) xs.length cap) xs.length (legsC xs)) (k : Nat) (hk : k ≤ xs.length) :
    w.ownsRow base e 4 (.slice (some ⟨g, 0, none⟩) k cap) (xs.take k).length (legsC (xs.take k)) := by
  have hl : (xs.take k).length = k := by rw [List.length_take]; omega
  rw [hl, legsC_take]
  obtain ⟨h1, h2⟩ := h
  refine ⟨by rw [List.length_take]; omega, ?_⟩
  rcases h2 with ⟨e1, _⟩ | ⟨g', cap', cur, e1, hb, hg, hnc, hcm, hcs, htake⟩
  · cases e1
  · simp only [Value.slice.injEq, Option.some.injEq, Addr.mk.injEq, and_true, true_and] at e1
    obtain ⟨rfl, rfl⟩ := e1
    refine .inr ⟨g, cap, cur, rfl, hb, hg, by omega, hcm, hcs, ?_⟩
    rw [← htake, List.take_take]
    congr 1
    omega
def zeroLegs : List Leg := List.replicate 9 ⟨0, 0, 0, 0⟩
theorem zeroLegs_made : (madeCells (Value.agg #[.int .i64 0, .int .i64 0, .int .i64 0, .int .i64 0]).cells (9 * 4)).toList = legsC zeroLegs := by kernel_rfl
theorem zeroLegs_len : zeroLegs.length = 9 := List.length_replicate
end Go.Proofs.Ytgjpafalompecaa


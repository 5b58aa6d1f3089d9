import Derived.Test.YtolihmobkoiplaaGreatPrnOutcomeOfLaw15
import Derived.Test.YtolihmobkoiplaaGreatPrnOutcomeOfLaw1
import Derived.Maps.AppendAt
import Derived.Test.YtolihmobkoiplaaGreatPrnOutcomeOfLaw4
import Derived.Test.YtolihmobkoiplaaGreatPrnOutcomeOfLaw5
import Derived.Deep.AppendLies
import Derived.BigQuiet
import Derived.Deep.QuietTactic

/-
  As RegS, where an operation may also write into what another one made, and takes it over (an append to what was just made).
-/
namespace Go.Proofs.YtolihmobkoiplaaGreat
open Go.RowKit

section
variable {P : Program} {ops : Array Oper} {Q : Exit → Act → World → Prop} {md : Region.Mode} {S : World → Prop} {t : Nat}

def Alive (L : List (Nat × Nat)) (cons : Nat → List Nat) (listed : Array Bool) (j : Nat) : Prop := listed.getD j true = true ∧ ∀ p ∈ L, listed.getD p.1 true = true → j ∉ cons p.1
def Taken (cons : Nat → List Nat) (Φ : Nat → Nat → Prop) (i b : Nat) : Prop := ∃ j ∈ cons i, Φ j b
def FIn (w0 w : World) (F : Nat → Prop) : Prop := ∀ b, F b → w0.heap.size ≤ b ∧ b < w.heap.size
def FApart (F F' : Nat → Prop) : Prop := ∀ b, F b → ¬ F' b
def StepC (P : Program) (md : Region.Mode) (ops : Array Oper) (Q : Exit → Act → World → Prop) (S : World → Prop) (L : List (Nat × Nat)) (cons : Nat → List Nat) (G : Nat → (Nat → Value) → (Nat → Prop) → World → Prop) (a0 : Act) (w0 : World) (p : Nat × Nat) : Prop :=
  ∃ o, ops[p.1]? = some o ∧ o.dst = some p.2 ∧ ∀ (y : Nat → Value) (w : World) (Φ : Nat → Nat → Prop), S w → Below w0.heap.size w0 w →
    (∀ q ∈ L, waitsFor md ops p.1 q.1 = true → (q.1 ∈ cons p.1 ∨ ∀ r ∈ L, q.1 ∉ cons r.1) → FIn w0 w (Φ q.1) ∧ G q.1 y (Φ q.1) w) →
    ∀ K : Act → World → Prop, (∀ v w' F', Mod (Taken cons Φ p.1) w w' → (∀ b, F' b → Taken cons Φ p.1 b ∨ (w.heap.size ≤ b ∧ b < w'.heap.size)) → G p.1 (updV y p.2 v) F' w' → K ((over a0 (L.map Prod.snd) y).put (some p.2) v) w') →
      Shut (if Region.wanted o (yielded ops (over a0 (L.map Prod.snd) y).tmps) = true then Oper.wp P o (over a0 (L.map Prod.snd) y) w K Q else K ((over a0 (L.map Prod.snd) y).put o.dst undef) w)
theorem upto_cons (L : List (Nat × Nat)) (cons : Nat → List Nat) (G : Nat → (Nat → Value) → (Nat → Prop) → World → Prop) {f : Nat} {listed : Array Bool} {a0 : Act} {w0 : World}
    (hrise : risesB md ops = true) (hsz : listed.size = ops.size) (hot : ∃ ot, ops[t]? = some ot)
    (hall : ∀ i, i < ops.size → listed.getD i true = false → i = t ∨ ∃ p ∈ L, p.1 = i)
    (hun : listed.getD t true = false ∧ ∀ p ∈ L, listed.getD p.1 true = false)
    (hno : (L.map Prod.fst).Nodup) (hnd : (L.map Prod.snd).Nodup) (htl : ∀ p ∈ L, p.1 ≠ t ∧ waitsFor md ops t p.1 = true) (hf : f = L.length + 1)
    (hcons : ∀ p ∈ L, ∀ j ∈ cons p.1, waitsFor md ops p.1 j = true ∧ ∃ q ∈ L, q.1 = j) (huniq : ∀ p ∈ L, ∀ r ∈ L, p.1 ≠ r.1 → ∀ j ∈ cons p.1, j ∉ cons r.1)
    (hS : S w0) (hSst : ∀ (F : Nat → Prop) (w w' : World), S w → Mod F w w' → (∀ b, F b → w0.heap.size ≤ b) → S w')
    (hG : ∀ p ∈ L, ∀ (y y' : Nat → Value) (F F' : Nat → Prop) (w w' : World), G p.1 y F w → FIn w0 w F → Mod F' w w' → FApart F' F → (∀ b, F' b → w0.heap.size ≤ b) → y' p.2 = y p.2 → (∀ q ∈ L, waitsFor md ops p.1 q.1 = true → y' q.2 = y q.2) → G p.1 y' F w')
    (hstep : ∀ p ∈ L, StepC P md ops Q S L cons G a0 w0 p)
    (hlast : ∃ o, ops[t]? = some o ∧ ∀ (y : Nat → Value) (w : World) (Φ : Nat → Nat → Prop), S w → Below w0.heap.size w0 w → (∀ q ∈ L, (∀ r ∈ L, q.1 ∉ cons r.1) → FIn w0 w (Φ q.1) ∧ G q.1 y (Φ q.1) w) → (∀ q ∈ L, ∀ r ∈ L, q.1 ≠ r.1 → (∀ p ∈ L, q.1 ∉ cons p.1) → (∀ p ∈ L, r.1 ∉ cons p.1) → FApart (Φ q.1) (Φ r.1)) →
      ∀ K : Act → World → Prop, (∀ a' w', Q .normal a' w' → K a' w') → Shut (if Region.wanted o (yielded ops (over a0 (L.map Prod.snd) y).tmps) = true then Oper.wp P o (over a0 (L.map Prod.snd) y) w K Q else K ((over a0 (L.map Prod.snd) y).put o.dst undef) w)) :
    wpUpto P md ops Q S t f listed a0 w0 := by
  have H : ∀ (n f : Nat) (listed : Array Bool) (y : Nat → Value) (w : World) (Φ : Nat → Nat → Prop),
      f = (L.filter fun p => !listed.getD p.1 true).length + 1 → listed.size = ops.size → listed.getD t true = false →
      (∀ i, i < ops.size → listed.getD i true = false → i = t ∨ ∃ p ∈ L, p.1 = i) →
      (∀ p ∈ L, listed.getD p.1 true = true → ∀ q ∈ L, waitsFor md ops p.1 q.1 = true → listed.getD q.1 true = true) →
      S w → Below w0.heap.size w0 w → (∀ q ∈ L, Alive L cons listed q.1 → FIn w0 w (Φ q.1) ∧ G q.1 y (Φ q.1) w) →
      (∀ q ∈ L, ∀ r ∈ L, q.1 ≠ r.1 → Alive L cons listed q.1 → Alive L cons listed r.1 → FApart (Φ q.1) (Φ r.1)) →
      f ≤ n → wpUpto P md ops Q S t f listed (over a0 (L.map Prod.snd) y) w := by
    intro n
    induction n with
    | zero => intro f listed y w Φ hf _ _ _ _ _ _ _ _ hn; omega
    | succ n ih =>
      intro f listed y w Φ hf hsz htun hall hdown hS hB hGs hAp hn
      obtain ⟨ot, hot⟩ := hot
      have htlt : t < ops.size := by
        rcases Nat.lt_or_ge t ops.size with h | h
        · exact h
        · rw [Array.getElem?_eq_none h] at hot; cases hot
      obtain ⟨g, rfl⟩ : ∃ g, f = g + 1 := ⟨_, hf⟩
      have hg : g = (L.filter fun p => !listed.getD p.1 true).length := by omega
      refine ⟨fun h => ?_, fun i hi' => ?_⟩
      · obtain ⟨j, hj⟩ := ready_some hrise hsz (t + 1) t (by omega) htlt htun
        rw [h] at hj
        cases hj
      obtain ⟨hiun, o, hio, hdeps⟩ := mem_ready.1 hi'
      have hilt : i < ops.size := by
        rcases Nat.lt_or_ge i ops.size with h | h
        · exact h
        · rw [Array.getElem?_eq_none h] at hio; cases hio
      have hdep : ∀ k, k < ops.size → waitsFor md ops i k = true → listed.getD k true = true := by
        intro k hk hw
        unfold waitsFor at hw
        rw [hio] at hw
        obtain ⟨e, he, hb⟩ := Array.any_eq_true'.1 hw
        simp only [Bool.and_eq_true, beq_iff_eq] at hb
        have h1 := hdeps e he hb.1
        rw [hb.2] at h1
        have hk' : k < listed.size := by omega
        simp [hk'] at h1 ⊢
        exact h1
      have hLlt : ∀ p ∈ L, p.1 < ops.size := by
        intro p hp
        obtain ⟨o', ho', _⟩ := hstep p hp
        rcases Nat.lt_or_ge p.1 ops.size with h | h
        · exact h
        · rw [Array.getElem?_eq_none h] at ho'; cases ho'
      have key : ∀ K : Act → World → Prop, (if Region.wanted o (yielded ops (over a0 (L.map Prod.snd) y).tmps) = true then Oper.wp P o (over a0 (L.map Prod.snd) y) w K Q else K ((over a0 (L.map Prod.snd) y).put o.dst undef) w) → wpOp P ops Q i K (over a0 (L.map Prod.snd) y) w := by
        intro K h1
        unfold wpOp
        simp only [hio]
        split
        · rename_i hw
          rw [if_pos hw] at h1
          exact .inl h1
        · rename_i hw
          rw [if_neg hw] at h1
          exact h1
      refine key _ ?_
      by_cases hit : i = t
      · subst hit
        have hl : ∀ p ∈ L, listed.getD p.1 true = true := fun p hp => hdep p.1 (hLlt p hp) (htl p hp).2
        obtain ⟨o2, ho2, hlst⟩ := hlast
        rw [hio] at ho2
        cases ho2
        refine (hlst y w Φ hS hB (fun q hq hc => hGs q hq ⟨hl q hq, fun p hp _ => hc p hp⟩) (fun q hq r hr hne h1 h2 => hAp q hq r hr hne ⟨hl q hq, fun p hp _ => h1 p hp⟩ ⟨hl r hr, fun p hp _ => h2 p hp⟩) _ (fun a' w' hq => ⟨fun h => absurd rfl h, upto_done ?_ hq⟩)).out
        rw [List.eq_nil_iff_forall_not_mem]
        intro j hj
        obtain ⟨hjun, oj, hjo, _⟩ := mem_ready.1 hj
        have hjl : j < ops.size := by
          rcases Nat.lt_or_ge j ops.size with h | h
          · exact h
          · rw [Array.getElem?_eq_none h] at hjo; cases hjo
        by_cases hji : i = j
        · subst hji
          have hk' : i < listed.size := by omega
          simp [hk'] at hjun
        · rw [getD_set_ne true hji] at hjun
          rcases hall j hjl hjun with h | ⟨p, hp, h⟩
          · exact hji h.symm
          · rw [← h, hl p hp] at hjun; cases hjun
      · obtain ⟨p, hp, hpi⟩ := (hall i hilt hiun).resolve_left hit
        subst hpi
        obtain ⟨o', ho', hdst, hst⟩ := hstep p hp
        rw [hio] at ho'
        cases ho'
        -- what p takes over is there
        have hcal : ∀ q ∈ L, q.1 ∈ cons p.1 → Alive L cons listed q.1 := fun q hq hc => ⟨hdep q.1 (hLlt q hq) (hcons p hp _ hc).1, fun r hr hrl hcr => by
          by_cases e : r.1 = p.1
          · rw [e, hiun] at hrl; cases hrl
          · exact huniq p hp r hr (Ne.symm e) q.1 hc hcr⟩
        refine (hst y w Φ hS hB (fun q hq hw hc => ?_) _ (fun v w' F' hm hF' hGp => ⟨fun _ => hSst _ _ _ hS hm ?_, ?_⟩)).out
        · rcases hc with hc | hc
          · exact hGs q hq (hcal q hq hc)
          · exact hGs q hq ⟨hdep q.1 (hLlt q hq) hw, fun r hr _ => hc r hr⟩
        · rintro b ⟨j, hj, hb⟩
          obtain ⟨_, q, hq, rfl⟩ := hcons p hp j hj
          exact ((hGs q hq (hcal q hq hj)).1 b hb).1
        have hTk : ∀ b, Taken cons Φ p.1 b → w0.heap.size ≤ b ∧ b < w.heap.size := by
          rintro b ⟨j, hj, hb⟩
          obtain ⟨_, q, hq, rfl⟩ := hcons p hp j hj
          exact (hGs q hq (hcal q hq hj)).1 b hb
        rw [over_put (List.mem_map_of_mem hp) hnd]
        have hlt : p.1 < listed.size := by omega
        have hself' : (listed.setIfInBounds p.1 true).getD p.1 true = true := by simp [hlt]
        have hoth : ∀ j, p.1 ≠ j → (listed.setIfInBounds p.1 true).getD j true = listed.getD j true := fun j h => getD_set_ne true h
        have hinj : ∀ q ∈ L, q.1 = p.1 → q = p := fun q hq h => inj_fst L hno q hq p hp h
        have hinj2 : ∀ q ∈ L, q.2 = p.2 → q = p := fun q hq h => inj_snd L hnd q hq p hp h
        -- who is alive behind p, and is not p, was alive ahead of it, and is not taken over
        have hback : ∀ q ∈ L, q.1 ≠ p.1 → Alive L cons (listed.setIfInBounds p.1 true) q.1 → Alive L cons listed q.1 ∧ q.1 ∉ cons p.1 := fun q hq e ha => by
          refine ⟨⟨by rw [← hoth _ (Ne.symm e)]; exact ha.1, fun r hr hrl => ?_⟩, ha.2 p hp hself'⟩
          by_cases e2 : r.1 = p.1
          · rw [e2, hiun] at hrl; cases hrl
          · exact ha.2 r hr (by rw [hoth _ (Ne.symm e2)]; exact hrl)
        have hTq : ∀ q ∈ L, Alive L cons listed q.1 → q.1 ∉ cons p.1 → FApart (Taken cons Φ p.1) (Φ q.1) := by
          rintro q hq ha hn b ⟨j, hj, hb⟩
          obtain ⟨_, r, hr, rfl⟩ := hcons p hp j hj
          exact hAp r hr q hq (fun e => hn (e ▸ hj)) (hcal r hr hj) ha b hb
        refine ih g (listed.setIfInBounds p.1 true) (updV y p.2 v) w' (fun j => if j = p.1 then F' else Φ j) ?_ (by simpa using hsz) ?_ ?_ ?_ (hSst _ _ _ hS hm (fun b hb => (hTk b hb).1)) (hm.below hB hB.size (fun b hb => (hTk b hb).1)) ?_ ?_ (by omega)
        · rw [hg]
          refine filter_less hno hp (by rw [hiun]; rfl) (by rw [hself']; rfl) (fun q hq hne => ?_)
          rw [hoth _ (fun c => hne (hinj q hq c.symm))]
        · rw [hoth _ (fun h => hit h)]; exact htun
        · intro j hj hju
          by_cases e : p.1 = j
          · subst e; rw [hself'] at hju; cases hju
          · rw [hoth _ e] at hju; exact hall j hj hju
        · intro q hq hql r hr hw
          by_cases e : p.1 = r.1
          · rw [← e]; exact hself'
          · rw [hoth _ e]
            by_cases e2 : p.1 = q.1
            · rw [← e2] at hw; exact hdep r.1 (hLlt r hr) hw
            · rw [hoth _ e2] at hql; exact hdown q hq hql r hr hw
        · intro q hq ha
          by_cases e : q.1 = p.1
          · have e2 := hinj q hq e
            subst e2
            simp only [if_true]
            refine ⟨fun b hb => ?_, hGp⟩
            rcases hF' b hb with h | h
            · have := hTk b h; have := hm.size; omega
            · have := hB.size; omega
          · obtain ⟨h1, h2⟩ := hback q hq e ha
            simp only [if_neg e]
            obtain ⟨g1, g2⟩ := hGs q hq h1
            refine ⟨fun b hb => ⟨(g1 b hb).1, Nat.lt_of_lt_of_le (g1 b hb).2 hm.size⟩, hG q hq y (updV y p.2 v) _ _ w w' g2 g1 hm (hTq q hq h1 h2) (fun b hb => (hTk b hb).1) ?_ ?_⟩
            · exact if_neg (fun c => e (by rw [hinj2 q hq c]))
            · intro r hr hw
              refine if_neg (fun c => ?_)
              have e3 := hinj2 r hr c
              subst e3
              rw [hdown q hq h1.1 _ hr hw] at hiun
              cases hiun
        · intro q hq r hr hne hqa hra
          by_cases e : q.1 = p.1
          · have e' : r.1 ≠ p.1 := fun c => hne (e.trans c.symm)
            obtain ⟨h1, h2⟩ := hback r hr e' hra
            simp only [if_pos e, if_neg e']
            intro b hb hb2
            rcases hF' b hb with h | h
            · exact hTq r hr h1 h2 b h hb2
            · have := ((hGs r hr h1).1 b hb2).2; omega
          · obtain ⟨h1, h2⟩ := hback q hq e hqa
            by_cases e' : r.1 = p.1
            · simp only [if_neg e, if_pos e']
              intro b hb hb2
              rcases hF' b hb2 with h | h
              · exact hTq q hq h1 h2 b h hb
              · have := ((hGs q hq h1).1 b hb).2; omega
            · obtain ⟨h3, _⟩ := hback r hr e' hra
              simp only [if_neg e, if_neg e']
              exact hAp q hq r hr hne h1 h3
  have h0 := H f f listed (fun s => a0.tmps.getD s undef) w0 (fun _ _ => False) (by
    rw [hf, List.filter_eq_self.2 (fun p hp => by rw [hun.2 p hp]; rfl)]) hsz hun.1 hall (fun p hp h => by rw [hun.2 p hp] at h; cases h) hS (Below.refl _ _) (fun q hq h => by have h := h.1; rw [hun.2 q hq] at h; cases h) (fun q hq r hr hne h => by have h := h.1; rw [hun.2 q hq] at h; cases h) (Nat.le_refl _)
  rw [over_self] at h0
  exact h0
def checkC (md : Region.Mode) (ops : Array Oper) (listed : Array Bool) (t f : Nat) (L : List (Nat × Nat)) (cons : Nat → List Nat) : Bool :=
  checkS md ops listed t f L && (L.all fun p => (cons p.1).all fun j => waitsFor md ops p.1 j && L.any fun q => decide (q.1 = j)) && (L.all fun p => L.all fun r => decide (p.1 = r.1) || (cons p.1).all fun j => decide (j ∉ cons r.1))
theorem upto_cons' (L : List (Nat × Nat)) (cons : Nat → List Nat) (G : Nat → (Nat → Value) → (Nat → Prop) → World → Prop) {f : Nat} {listed : Array Bool} {a0 : Act} {w0 : World} (hc : checkC md ops listed t f L cons = true)
    (hS : S w0) (hSst : ∀ (F : Nat → Prop) (w w' : World), S w → Mod F w w' → (∀ b, F b → w0.heap.size ≤ b) → S w')
    (hG : ∀ p ∈ L, ∀ (y y' : Nat → Value) (F F' : Nat → Prop) (w w' : World), G p.1 y F w → FIn w0 w F → Mod F' w w' → FApart F' F → (∀ b, F' b → w0.heap.size ≤ b) → y' p.2 = y p.2 → (∀ q ∈ L, waitsFor md ops p.1 q.1 = true → y' q.2 = y q.2) → G p.1 y' F w')
    (hstep : ∀ p ∈ L, StepC P md ops Q S L cons G a0 w0 p)
    (hlast : ∃ o, ops[t]? = some o ∧ ∀ (y : Nat → Value) (w : World) (Φ : Nat → Nat → Prop), S w → Below w0.heap.size w0 w → (∀ q ∈ L, (∀ r ∈ L, q.1 ∉ cons r.1) → FIn w0 w (Φ q.1) ∧ G q.1 y (Φ q.1) w) → (∀ q ∈ L, ∀ r ∈ L, q.1 ≠ r.1 → (∀ p ∈ L, q.1 ∉ cons p.1) → (∀ p ∈ L, r.1 ∉ cons p.1) → FApart (Φ q.1) (Φ r.1)) →
      ∀ K : Act → World → Prop, (∀ a' w', Q .normal a' w' → K a' w') → Shut (if Region.wanted o (yielded ops (over a0 (L.map Prod.snd) y).tmps) = true then Oper.wp P o (over a0 (L.map Prod.snd) y) w K Q else K ((over a0 (L.map Prod.snd) y).put o.dst undef) w)) :
    wpUpto P md ops Q S t f listed a0 w0 := by
  unfold checkC checkS at hc
  simp only [Bool.and_eq_true, decide_eq_true_eq, List.all_eq_true, List.any_eq_true, Bool.or_eq_true, Bool.not_eq_true', List.mem_range] at hc
  obtain ⟨⟨⟨⟨⟨⟨⟨⟨⟨⟨⟨h1, h2⟩, h3⟩, h4⟩, h5⟩, h6⟩, h7⟩, h8⟩, h9⟩, h10⟩, h11⟩, h13⟩ := hc
  refine upto_cons L cons G h1 h2 (Option.isSome_iff_exists.1 h3) (fun i hi hu => ?_) ⟨h5, h6⟩ h7 h8 h9 h10 h11 (fun p hp r hr hne => (h13 p hp r hr).resolve_left hne) hS hSst hG hstep hlast
  rcases h4 i hi with (h | h) | h
  · rw [hu] at h; cases h
  · exact .inl h
  · exact .inr h
end

end Go.Proofs.YtolihmobkoiplaaGreat

/-
  A row of values that own memory, and one more appended.
-/
namespace Go.Proofs.YtolihmobkoiplaaGreat
open Go.RowKit

theorem PO.append {α : Type} {R : Rep α} {e size : Nat} {lv : Value → List Value} {w Y w' : World} {base : Nat} {v v' : Value} {n : Nat} {d : Nat → α} {cs : List Value} {us : Nat → Value} {fs : Nat → Nat → Prop} {u : Value} {F' : Nat → Prop}
    (h : PO R e size lv w base v n n d cs us fs) (hbs : base ≤ w.heap.size) (hb : Below w.heap.size w Y) (hu : R.O Y w.heap.size F' u (d n)) (hl : (lv u).length = size)
    (hr : w'.ownsRow base e size v' (n + 1) (cs ++ lv u)) (hg : Y.grownBy w' v.ownBlock) (hloc : v'.ownBlock = v.ownBlock ∨ ∃ g, v'.ownBlock = some g ∧ Y.heap.size ≤ g) :
    PO R e size lv w' base v' (n + 1) (n + 1) d (cs ++ lv u) (upd us n u) (upd fs n F') := by
  have hlt : ∀ b, v.ownBlock = some b → b < w.heap.size := fun b hb => (h.row.lt b hb).2
  have hF : ∀ b, F' b → w.heap.size ≤ b ∧ b < Y.heap.size := fun b hb => R.rng hu b hb
  have hfs : ∀ i, i < n → ∀ b, fs i b → b < w.heap.size := fun i hi b hb => (R.rng (h.el i hi) b hb).2
  have hcl : cs.length = n * size := h.row.1
  refine ⟨hr, ?_, ?_, ?_, ?_, ?_⟩
  · intro i hi
    by_cases hik : i = n
    · subst hik
      rw [upd_at, upd_at]
      exact R.base (R.mod hu (Mod.of_grown hg) (fun b hb he => by have := hlt b he; have := (hF b hb).1; omega)) hbs
    · rw [upd_ne _ _ hik, upd_ne _ _ hik]
      exact R.mod (R.keep (h.el i (by omega)) hb) (Mod.of_grown hg) (fun b hb => h.out i (by omega) b hb)
  · intro i hi
    by_cases hik : i = n
    · subst hik; rw [upd_at]; exact hl
    · rw [upd_ne _ _ hik]; exact h.ln i (by omega)
  · intro i hi j hj
    by_cases hik : i = n
    · subst hik
      rw [upd_at, List.getElem?_append_right (by omega), hcl]
      congr 1
      omega
    · rw [upd_ne _ _ hik, ← h.cell i (by omega) j hj, List.getElem?_append_left]
      rw [hcl]
      have : i * size + size ≤ n * size := by rw [← Nat.succ_mul]; exact Nat.mul_le_mul_right _ (by omega)
      omega
  · intro i hi b hb he
    by_cases hik : i = n
    · subst hik
      rw [upd_at] at hb
      rcases hloc with hloc | ⟨g, hg', hge⟩
      · rw [hloc] at he
        have := hlt b he; have := (hF b hb).1; omega
      · rw [hg'] at he
        simp only [Option.some.injEq] at he
        have := (hF b hb).2; omega
    · rw [upd_ne _ _ hik] at hb
      rcases hloc with hloc | ⟨g, hg', hge⟩
      · rw [hloc] at he
        exact h.out i (by omega) b hb he
      · rw [hg'] at he
        simp only [Option.some.injEq] at he
        have := hfs i (by omega) b hb
        have := hb
        have := h.row
        have := hlt
        have hYw : w.heap.size ≤ Y.heap.size := by
          have := ‹Below w.heap.size w Y›
          exact this.size
        omega
  · intro i j hi hj hij b h1 h2
    by_cases hik : i = n
    · subst hik
      rw [upd_at] at h1
      rw [upd_ne _ _ (Ne.symm hij)] at h2
      have := (hF b h1).1; have := hfs j (by omega) b h2; omega
    · rw [upd_ne _ _ hik] at h1
      by_cases hjk : j = n
      · subst hjk
        rw [upd_at] at h2
        have := (hF b h2).1; have := hfs i (by omega) b h1; omega
      · rw [upd_ne _ _ hjk] at h2
        exact h.sep i j (by omega) (by omega) hij b h1 h2
section
variable {P : Program} (w : World)
theorem step_append_at {ops : Array Oper} {o : Oper} {a : Act} {K : Act → World → Prop} {Q : Exit → Act → World → Prop} {E : Prop} (hgd : o.guard = none) (s x : Operand) (t : TypeId)
    (ho : o.op = .call { callee := .builtin .append, args := #[s, x], argTypes := #[t, t] })
    (base : Nat) (e : TypeId) (i : TypeInfo) (z : Value) (size bytes : Nat) (ht : P.underlying t = some (.slice e)) (hi : P.info? e = some i) (hz : i.zero = some z)
    (hsize : i.size = size) (hby : i.bytes = bytes) (hzs : z.cells.size = size) (hsz : 0 < size)
    (v : Value) (n : Nat) (xs : List Value) (hs : a.eval s = v) (hown : w.ownsRow base e size v n xs)
    (ad : Addr) (m c : Nat) (news : List Value) (hx : a.eval x = .slice (some ad) m c) (hl : news.length = m * size) (hnews : ∀ j u, news[j]? = some u → w.cell? (ad.add j) = some u) (h1 : ∀ u ∈ news, u.oneCell' = true)
    (h63 : n + m ≤ maxLen) (hbytes : (n + m) * bytes ≤ 140737488355328) (hbase : base ≤ w.heap.size)
    (h : ∀ v' w', w'.ownsRow base e size v' (n + m) (xs ++ news) → w.grownBy w' v.ownBlock → (v'.ownBlock = v.ownBlock ∨ v'.ownBlock = some w.heap.size) → K (a.put o.dst v') w') :
    if Region.wanted o (yielded ops a.tmps) = true then Oper.wp P o a w K Q else E := by
  have hw : Region.wanted o (yielded ops a.tmps) = true := by simp [Region.wanted, hgd]
  rw [if_pos hw]
  obtain ⟨v', w', hr, h2, h3, _, h5⟩ := run_append_own_at (P := P) w base t o.type e i z size bytes ht hi hz hsize hby hzs hsz v n xs hown ad m c news hl hnews h1 h63 hbytes hbase
  unfold Oper.wp execOp
  simp only [ho, resolve, invoke, builtin, Sem.run_bind, Sem.run_pure, Result.andThen_ok, List.map_toArray, List.map_cons, List.map_nil, hs, hx, hr]
  exact h v' w' h2 h3 h5
end

end Go.Proofs.YtolihmobkoiplaaGreat

/-
  A vote put where it belongs: mathematics, and appending with what is written into told.
-/
set_option linter.unusedVariables false
set_option linter.unusedSimpArgs false
namespace Go.Proofs.YtolihmobkoiplaaGreat
open Go.RowKit
set_option linter.unusedSectionVars false
variable [DecidableEq Vot] [Inhabited Vot] [DecidableEq Slt] [Inhabited Slt] [DecidableEq SltR] [Inhabited SltR] [DecidableEq Bal] [Inhabited Bal] [DecidableEq Ledg] [Inhabited Ledg] [DecidableEq Leg] [Inhabited Leg]

theorem step_appW (Y : World) {ops : Array Oper} {o : Oper} {a : Act} {K : Act → World → Prop} {Q : Exit → Act → World → Prop} {E : Prop} (hgd : o.guard = none) (s x : Operand)
    (ho : o.op = .call { callee := .builtin .append, args := #[s, x], argTypes := #[64, 64] })
    (base : Nat) (v : Value) (F1 : Nat → Prop) (xs : List Vot) (hs : a.eval s = v) (u : Value) (ys : List Vot) (hx : a.eval x = u)
    (hown : votsR.O Y base F1 v xs) (hsrc : AppAny Y u ys.length (votsC ys)) (hlen : xs.length + ys.length ≤ 1048576) (hbase : base ≤ Y.heap.size)
    (h : ∀ v' w', votsR.O w' base (fun b => v'.ownBlock = some b) v' (xs ++ ys) → Mod F1 Y w' → (∀ b, v'.ownBlock = some b → F1 b ∨ (Y.heap.size ≤ b ∧ b < w'.heap.size)) → K (a.put o.dst v') w') :
    if Region.wanted o (yielded ops a.tmps) = true then Oper.wp Tryz.prog o a Y K Q else E := by
  obtain ⟨i0, hi, hz0, hz1, hz2⟩ := info_parts infoVot
  have hF1 : F1 = fun b => v.ownBlock = some b := hown.2
  rcases hsrc with ⟨c, rfl, hm, _⟩ | ⟨ad, c, rfl, hc⟩
  · have hy : ys = [] := List.eq_nil_of_length_eq_zero hm
    subst hy
    have hw : Region.wanted o (yielded ops a.tmps) = true := by simp [Region.wanted, hgd]
    rw [if_pos hw]
    have hr := run_append_none_any (P := Tryz.prog) Y base 64 o.type 63 i0 2 c Tryz.underlying64 hi v xs.length (votsC xs) hown.1
    unfold Oper.wp execOp
    simp only [ho, resolve, invoke, builtin, Sem.run_bind, Sem.run_pure, Result.andThen_ok, List.map_toArray, List.map_cons, List.map_nil, hs, hx, hr]
    refine h v Y ?_ (Mod.refl _ _) (fun b hb => .inl (by rw [hF1]; exact hb))
    rw [List.append_nil]
    exact ⟨hown.1, rfl⟩
  · refine step_append_at Y hgd s x 64 ho base 63 i0 _ 2 16 Tryz.underlying64 hi hz0 hz1 hz2 rfl (by decide) v xs.length (votsC xs) hs hown.1 ad ys.length c (votsC ys) hx (length_votsC ys) hc (votsC_one ys) (by unfold maxLen; omega) (by omega) hbase ?_
    intro v' w' h1 h2 h3
    refine h v' w' ⟨by rw [List.length_append, votsC_app]; exact h1, rfl⟩ (by rw [hF1]; exact Mod.of_grown h2) (fun b hb => ?_)
    rcases h3 with h3 | h3
    · exact .inl (by rw [hF1]; exact h3 ▸ hb)
    · rw [h3] at hb
      simp only [Option.some.injEq] at hb
      have := (h1.lt b (by rw [h3, hb])).2
      exact .inr ⟨by omega, this⟩
theorem votsAny_own {w : World} {base e size : Nat} {v : Value} {n : Nat} {cs : List Value} (h : w.ownsRow base e size v n cs) : AppAny w v n cs := by
  rcases h.2 with ⟨rfl, rfl⟩ | ⟨g, cap, cur, rfl, _, hh, _, _, _, ht⟩
  · refine .inl ⟨0, rfl, rfl, ?_⟩
    have := h.1
    simp at this
    exact this
  · refine .inr ⟨_, _, rfl, fun j x hj => ?_⟩
    have hlt : j < cs.length := by
      rcases Nat.lt_or_ge j cs.length with h | h
      · exact h
      · rw [List.getElem?_eq_none h] at hj; cases hj
    have hc := h.cellAt j (by rw [← h.1]; exact hlt)
    have e : (⟨g, 0, none⟩ : Addr).add j = ⟨g, j, none⟩ := by
      by_cases hj0 : j = 0
      · subst hj0; simp [Addr.add]
      · simp [Addr.add, hj0]
    rw [e]
    simpa [hj] using hc
theorem votsAny_piece {w : World} {base g cap : Nat} {ys : List Vot} (h : w.ownsRow base 63 2 (.slice (some ⟨g, 0, none⟩) ys.length cap) ys.length (votsC ys)) (i m : Nat) (hi : i + m ≤ ys.length) (c : Nat) :
    AppAny w (.slice (some ⟨g, i * 2, none⟩) m c) m (votsC ((ys.drop i).take m)) := by
  refine .inr ⟨_, _, rfl, fun j x hj => ?_⟩
  have hadd : (⟨g, i * 2, none⟩ : Addr).add j = ⟨g, i * 2 + j, none⟩ := by
    by_cases hj0 : j = 0
    · subst hj0; simp [Addr.add]
    · simp [Addr.add, hj0]
  have hlen : ((ys.drop i).take m).length = m := by rw [List.length_take, List.length_drop]; omega
  have hjl : j < m * 2 := by
    have := (List.getElem?_eq_some_iff.1 hj).1
    rw [length_votsC, hlen] at this
    exact this
  rw [hadd, h.cellAt (i * 2 + j) (by omega)]
  have hq : j / 2 < m := by omega
  obtain ⟨q0, q1⟩ := get_votsC ((ys.drop i).take m) (j / 2) (by rw [hlen]; exact hq)
  obtain ⟨r0, r1⟩ := get_votsC ys (i + j / 2) (by omega)
  have e : ((ys.drop i).take m).getD (j / 2) default = ys.getD (i + j / 2) default := by
    simp [List.getD, List.getElem?_take, hq, List.getElem?_drop]
  rw [e] at q0 q1
  have hm : j % 2 = 0 ∨ j % 2 = 1 := by omega
  rcases hm with hm | hm
  · rw [show i * 2 + j = (i + j / 2) * 2 by omega, r0]
    rw [show j = j / 2 * 2 by omega, q0] at hj
    exact hj
  · rw [show i * 2 + j = (i + j / 2) * 2 + 1 by omega, r1]
    rw [show j = j / 2 * 2 + 1 by omega, q1] at hj
    exact hj
theorem rise_lt {ys : List Vot} (h : Rise ys) {i j : Nat} (hij : i < j) (hj : j < ys.length) : (ys.getD i default).bal < (ys.getD j default).bal := by
  have := List.pairwise_iff_getElem.1 h i j (by omega) hj hij
  simpa [List.getD, hj, show i < ys.length by omega] using this
theorem mem_take_drop {ys : List Vot} (a : Nat) (v u : Vot) : u ∈ ys.take a ++ [v] ++ ys.drop a ↔ u = v ∨ u ∈ ys := by
  have e : u ∈ ys ↔ u ∈ ys.take a ∨ u ∈ ys.drop a := by
    rw [← List.mem_append, List.take_append_drop]
  rw [e]
  simp only [List.mem_append, List.mem_singleton]
  constructor
  · rintro ((h | h) | h)
    · exact .inr (.inl h)
    · exact .inl h
    · exact .inr (.inr h)
  · rintro (h | h | h)
    · exact .inl (.inr h)
    · exact .inl (.inl h)
    · exact .inr h
theorem rise_ins {ys : List Vot} (h : Rise ys) {a : Nat} {v : Vot} (ha : a ≤ ys.length) (h1 : ∀ t, t < a → (ys.getD t default).bal < v.bal) (h2 : a < ys.length → v.bal < (ys.getD a default).bal) : Rise (ys.take a ++ [v] ++ ys.drop a) := by
  have hA : ∀ u ∈ ys.take a, u.bal < v.bal := by
    intro u hu
    obtain ⟨i, hi, e⟩ := List.getElem_of_mem hu
    rw [List.length_take] at hi
    have := h1 i (by omega)
    have e2 : ys.getD i default = u := by
      rw [← e]
      simp [List.getD, show i < ys.length by omega]
    rw [e2] at this
    exact this
  have hD : ∀ u ∈ ys.drop a, v.bal < u.bal := by
    intro u hu
    obtain ⟨i, hi, e⟩ := List.getElem_of_mem hu
    rw [List.length_drop] at hi
    have e2 : ys.getD (a + i) default = u := by
      rw [← e]
      simp [List.getD, show a + i < ys.length by omega]
    have h3 := h2 (by omega)
    by_cases hi0 : i = 0
    · subst hi0
      rw [Nat.add_zero] at e2
      rw [e2] at h3
      exact h3
    · have := rise_lt h (show a < a + i by omega) (by omega)
      rw [e2] at this
      omega
  unfold Rise
  rw [List.append_assoc, List.pairwise_append]
  refine ⟨List.Pairwise.sublist (List.take_sublist _ _) h, ?_, fun x hx y hy => ?_⟩
  · rw [List.singleton_append, List.pairwise_cons]
    exact ⟨hD, List.Pairwise.sublist (List.drop_sublist _ _) h⟩
  · rw [List.singleton_append, List.mem_cons] at hy
    rcases hy with rfl | hy
    · exact hA x hx
    · have := hA x hx
      have := hD y hy
      omega
end Go.Proofs.YtolihmobkoiplaaGreat

/-
  l8Cast: whether a slot has cast a vote.
-/
set_option linter.unusedSimpArgs false
set_option linter.unusedVariables false
namespace Go.Proofs.YtolihmobkoiplaaGreat
open Go.RowKit
set_option linter.unusedSectionVars false
variable [DecidableEq Vot] [Inhabited Vot] [DecidableEq Slt] [Inhabited Slt] [DecidableEq SltR] [Inhabited SltR] [DecidableEq Bal] [Inhabited Bal] [DecidableEq Ledg] [Inhabited Ledg] [DecidableEq Leg] [Inhabited Leg]
attribute [local go_sem ↓] Go.wp_at_zero Go.wp_at_succ

set_option maxHeartbeats 2000000 in
theorem l8Cast_any (x : Value) (d : Slt) (v : Vot) (w : World) (hx : sltR.V w x d) :
    Calls Tryz.prog 70 #[x, .agg #[.int .i64 v.bal, .int .i64 v.val]] w fun e w' => e = .returned (.bool (hasV d v)) ∧ Below w.heap.size w w' := by
  obtain ⟨u1, rfl, hx⟩ := hx
  obtain ⟨ax, cx, rfl, hcx, hmx, hx⟩ := hx
  unfold maxLen at hmx
  obtain ⟨xs, hxs⟩ : ∃ xs, xs = d.cast := ⟨_, rfl⟩
  have HXS : Hid (d.cast = xs) := hxs.symm
  rw [← hxs] at hcx hx ⊢
  clear hxs
  obtain ⟨n, hn'⟩ : ∃ n, n = xs.length := ⟨_, rfl⟩
  have HN : Hid (xs.length = n) := hn'.symm
  rw [← hn'] at hcx hx ⊢
  clear hn'
  go_enter Tryz.func70, Tryz.ntmps70
  go_wp2
  go_loopw [5] (fun i w' => ∃ k : Nat, k ≤ n ∧ i = .int .i64 k ∧ (∀ t, t < k → ¬ xs.getD t default = v) ∧ w'.cell? ⟨w.heap.size, 5, none⟩ = some (.slice ax n cx) ∧ w'.cell? ⟨w.heap.size + 1, 0, none⟩ = some (.int .i64 v.bal) ∧ w'.cell? ⟨w.heap.size + 1, 1, none⟩ = some (.int .i64 v.val) ∧ Below w.heap.size w w') (fun i _ => n - (intOf i).toNat)
  case atStart => exact ⟨0, Nat.zero_le _, rfl, fun t h => absurd h (Nat.not_lt_zero _), by simp [go_sem], by simp [go_sem], by simp [go_sem], by (repeat (first | exact Below.refl _ _ | assumption | refine Below.drew ?_ | refine balloc ?_ _ | refine bset ?_ (by simp; omega) _ | refine bset ?_ (by simp) _ | refine bstep ?_ (by assumption)))⟩
  case round =>
    obtain ⟨k, hk, rfl, hno, c5, r0, r1, hbl⟩ := hrel
    have HNo : Hid (∀ t, t < k → ¬ xs.getD t default = v) := hno
    clear hno
    by_cases hlt : k < n
    · obtain ⟨bx, ox, rfl, g1⟩ := hx k hlt
      obtain ⟨l, hl⟩ : ∃ l, l = xs.getD k default := ⟨_, rfl⟩
      rw [← hl] at g1
      have HL : Hid (l = xs.getD k default) := hl
      clear hl hx
      obtain ⟨a1, a2⟩ := votCells_below hbl g1
      clear g1
      have zb : bx < wr.heap.size := World.block_lt_of_cell? wr _ a1
      have i1 : (k : Int) < (n : Int) := by omega
      cases he : (decide (l.bal = v.bal) && decide (l.val = v.val))
      · have heq : ∀ w, (binOp .eql 63 (.agg #[.int .i64 l.bal, .int .i64 l.val]) (.agg #[.int .i64 v.bal, .int .i64 v.val])).run Tryz.prog w = .ok (.bool false) w := fun w => by rw [eqlVot, he]
        have HE : Hid (¬ xs.getD k default = v) := fun h => by rw [← HL.out] at h; rw [vot_eq.2 h] at he; cases he
        clear he
        go_wp2
        go_quiet (fail)
        go_wp2
        refine ⟨⟨k + 1, by omega, by go_num, fun t ht => ?_, cell_keep (bdrewN (Below.refl _ _) _) c5, cell_keep (bdrewN (Below.refl _ _) _) r0, cell_keep (bdrewN (Below.refl _ _) _) r1, bdrewN hbl _⟩, by simp [intOf]; omega⟩
        by_cases h : t < k
        · exact HNo.out t h
        · have : t = k := by omega
          subst this
          exact HE.out
      · have heq : ∀ w, (binOp .eql 63 (.agg #[.int .i64 l.bal, .int .i64 l.val]) (.agg #[.int .i64 v.bal, .int .i64 v.val])).run Tryz.prog w = .ok (.bool true) w := fun w => by rw [eqlVot, he]
        have HE : Hid (hasV d v = true) := hasV_iff.2 (by rw [← vot_eq.1 he, HL.out, HXS.out]; exact mem_getD (by rw [HN.out]; exact hlt))
        clear he
        go_wp2
        go_quiet (fail)
        go_wp2
        go_ret
        exact ⟨by rw [HE.out]; rfl, bdrewN hbl _⟩
    · have hkn : k = n := by omega
      subst hkn
      have HE : Hid (hasV d v = false) := by
        show _ = _
        cases e : hasV d v with
        | false => rfl
        | true =>
          obtain ⟨i, hi, h⟩ := getD_of_mem (hasV_iff.1 e)
          rw [HXS.out] at hi h
          exact absurd h (HNo.out i (by rw [← HN.out]; exact hi))
      clear hx
      go_wp2
      go_ret
      exact ⟨by rw [HE.out]; rfl, hbl⟩
end Go.Proofs.YtolihmobkoiplaaGreat


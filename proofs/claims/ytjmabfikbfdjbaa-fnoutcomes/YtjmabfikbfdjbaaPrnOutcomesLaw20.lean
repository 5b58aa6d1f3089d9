import Derived.Test.YtjmabfikbfdjbaaPrnOutcomesLaw8
import Derived.Test.YtjmabfikbfdjbaaPrnOutcomesLaw18
import Derived.PlainAid
import Derived.Laws.BitsAllLaws
import Derived.Test.YtjmabfikbfdjbaaPrnOutcomesLaw1
import Derived.Deep.RegionHeld3
import Derived.Deep.DrawnRows
import Derived.Lib.ConvBytes
import Derived.Test.YtjmabfikbfdjbaaPrnOutcomesLaw19
import Derived.Test.YtjmabfikbfdjbaaPrnOutcomesLaw7
import Derived.Deep.QuietTactic
import Derived.Test.YtjmabfikbfdjbaaPrnOutcomesLaw3
import Derived.Deep.RegionLawGrows
import Derived.Test.YtjmabfikbfdjbaaPrnOutcomesLaw17
import Derived.BigQuiet

/-
  A region that draws its order, whose operations only make memory (and one last, number t, that may write): whatever the order, what each of them yields stays as it is, and lies in blocks of its own.
-/
namespace Go.Proofs.Ytjmabfikbfdjbaa
open Go.RowKit

def over (a : Act) (ds : List Nat) (y : Nat → Value) : Act := { a with tmps := ds.foldl (fun t s => t.setIfInBounds s (y s)) a.tmps }
theorem fold_put : ∀ (ds : List Nat) (T : Array Value) (y : Nat → Value) (d : Nat) (v : Value), d ∉ ds →
    (ds.foldl (fun t s => t.setIfInBounds s (y s)) T).setIfInBounds d v = ds.foldl (fun t s => t.setIfInBounds s (y s)) (T.setIfInBounds d v)
  | [], _, _, _, _, _ => rfl
  | e :: ds, T, y, d, v, h => by
    have h1 : d ≠ e := fun c => h (by rw [c]; exact List.mem_cons_self)
    have h2 : d ∉ ds := fun c => h (List.mem_cons_of_mem _ c)
    simp only [List.foldl_cons]
    rw [fold_put ds _ y d v h2, Array.setIfInBounds_comm _ _ (Ne.symm h1)]
theorem fold_congr : ∀ (ds : List Nat) (T : Array Value) (y y' : Nat → Value), (∀ s ∈ ds, y s = y' s) →
    ds.foldl (fun t s => t.setIfInBounds s (y s)) T = ds.foldl (fun t s => t.setIfInBounds s (y' s)) T
  | [], _, _, _, _ => rfl
  | e :: ds, T, y, y', h => by
    simp only [List.foldl_cons]
    rw [h e List.mem_cons_self]
    exact fold_congr ds _ y y' (fun s hs => h s (List.mem_cons_of_mem _ hs))
def updV (y : Nat → Value) (d : Nat) (v : Value) : Nat → Value := fun s => if s = d then v else y s
theorem fold_upd : ∀ (ds : List Nat) (T : Array Value) (y : Nat → Value) (d : Nat) (v : Value), d ∈ ds → ds.Nodup →
    (ds.foldl (fun t s => t.setIfInBounds s (y s)) T).setIfInBounds d v = ds.foldl (fun t s => t.setIfInBounds s (updV y d v s)) T
  | [], _, _, _, _, h, _ => absurd h List.not_mem_nil
  | e :: ds, T, y, d, v, h, hn => by
    obtain ⟨h1, h2⟩ := List.nodup_cons.1 hn
    simp only [List.foldl_cons]
    by_cases hd : d = e
    · subst hd
      rw [fold_put ds _ y d v h1, Array.setIfInBounds_setIfInBounds]
      have e1 : updV y d v d = v := if_pos rfl
      rw [e1]
      exact fold_congr ds _ _ _ (fun s hs => (if_neg (fun c : s = d => h1 (c ▸ hs))).symm)
    · have hm : d ∈ ds := (List.mem_cons.1 h).resolve_left hd
      have e1 : updV y d v e = y e := if_neg (fun c => hd c.symm)
      rw [e1]
      exact fold_upd ds _ y d v hm h2
theorem over_put {a : Act} {ds : List Nat} {y : Nat → Value} {d : Nat} {v : Value} (h : d ∈ ds) (hn : ds.Nodup) : (over a ds y).put (some d) v = over a ds (updV y d v) := by
  simp only [over, Act.put]
  rw [fold_upd ds _ y d v h hn]
theorem over_self (a : Act) : ∀ ds : List Nat, over a ds (fun s => a.tmps.getD s undef) = a := by
  intro ds
  have H : ∀ ds : List Nat, ds.foldl (fun t s => t.setIfInBounds s (a.tmps.getD s undef)) a.tmps = a.tmps := by
    intro ds
    induction ds with
    | nil => rfl
    | cons d ds ih =>
      simp only [List.foldl_cons]
      have e : a.tmps.setIfInBounds d (a.tmps.getD d undef) = a.tmps := by
        apply Array.ext_getElem?
        intro i
        rw [Array.getElem?_setIfInBounds]
        split
        · rename_i h
          subst h
          split
          · rename_i h; simp [h]
          · rename_i h; simp [Array.getElem?_eq_none (Nat.le_of_not_lt h)]
        · rfl
      rw [e]
      exact ih
  simp only [over]
  rw [H ds]
theorem inj_fst : ∀ (L : List (Nat × Nat)), (L.map Prod.fst).Nodup → ∀ p ∈ L, ∀ q ∈ L, p.1 = q.1 → p = q
  | [], _, p, hp, _, _, _ => absurd hp List.not_mem_nil
  | a :: L, hn, p, hp, q, hq, h => by
    obtain ⟨h1, h2⟩ := List.nodup_cons.1 hn
    rcases List.mem_cons.1 hp with hp1 | hp1
    · rcases List.mem_cons.1 hq with hq1 | hq1
      · rw [hp1, hq1]
      · exact absurd (by rw [← hp1, h]; exact List.mem_map_of_mem hq1) h1
    · rcases List.mem_cons.1 hq with hq1 | hq1
      · exact absurd (by rw [← hq1, ← h]; exact List.mem_map_of_mem hp1) h1
      · exact inj_fst L h2 p hp1 q hq1 h
theorem inj_snd : ∀ (L : List (Nat × Nat)), (L.map Prod.snd).Nodup → ∀ p ∈ L, ∀ q ∈ L, p.2 = q.2 → p = q
  | [], _, p, hp, _, _, _ => absurd hp List.not_mem_nil
  | a :: L, hn, p, hp, q, hq, h => by
    obtain ⟨h1, h2⟩ := List.nodup_cons.1 hn
    rcases List.mem_cons.1 hp with hp1 | hp1
    · rcases List.mem_cons.1 hq with hq1 | hq1
      · rw [hp1, hq1]
      · exact absurd (by rw [← hp1, h]; exact List.mem_map_of_mem hq1) h1
    · rcases List.mem_cons.1 hq with hq1 | hq1
      · exact absurd (by rw [← hq1, ← h]; exact List.mem_map_of_mem hp1) h1
      · exact inj_snd L h2 p hp1 q hq1 h
theorem filter_less {F F' : Nat × Nat → Bool} : ∀ {L : List (Nat × Nat)}, (L.map Prod.fst).Nodup → ∀ {p : Nat × Nat}, p ∈ L → F p = true → F' p = false → (∀ q ∈ L, q ≠ p → F' q = F q) → (L.filter F).length = (L.filter F').length + 1
  | [], _, _, hp, _, _, _ => absurd hp List.not_mem_nil
  | a :: L, hn, p, hp, h1, h2, h3 => by
    obtain ⟨g1, g2⟩ := List.nodup_cons.1 hn
    by_cases e : a = p
    · subst e
      rw [List.filter_cons_of_pos h1, List.filter_cons_of_neg (by rw [h2]; exact Bool.false_ne_true)]
      have h4 : L.filter F = L.filter F' := List.filter_congr (fun q hq => (h3 q (List.mem_cons_of_mem _ hq) (fun c => g1 (c ▸ List.mem_map_of_mem hq))).symm)
      rw [h4, List.length_cons]
    · have hm : p ∈ L := (List.mem_cons.1 hp).resolve_left (fun c => e c.symm)
      have ih := filter_less g2 hm h1 h2 (fun q hq hne => h3 q (List.mem_cons_of_mem _ hq) hne)
      have ha := h3 a List.mem_cons_self e
      cases hF : F a with
      | true => rw [List.filter_cons_of_pos hF, List.filter_cons_of_pos (by rw [ha, hF]), List.length_cons, List.length_cons, ih]
      | false => rw [List.filter_cons_of_neg (by rw [hF]; exact Bool.false_ne_true), List.filter_cons_of_neg (by rw [ha, hF]; exact Bool.false_ne_true), ih]
section
variable {P : Program} {ops : Array Oper} {Q : Exit → Act → World → Prop} {md : Region.Mode} {S : World → Prop} {t : Nat}

def risesB (md : Region.Mode) (ops : Array Oper) : Bool := (List.range ops.size).all fun i => match ops[i]? with | some o => o.after.all fun e => !Region.binds md e || decide (e.on < i) | none => true
theorem ready_some {listed : Array Bool} (hr : risesB md ops = true) (hs : listed.size = ops.size) : ∀ n i, i < n → i < ops.size → listed.getD i true = false → ∃ j, j ∈ Region.ready md ops listed := by
  intro n
  induction n with
  | zero => intro i h; omega
  | succ n ih =>
    intro i hi hlt hun
    by_cases hex : ∃ k, k < i ∧ listed.getD k true = false
    · obtain ⟨k, hk, hku⟩ := hex
      exact ih k (by omega) (by omega) hku
    · refine ⟨i, mem_ready.2 ⟨hun, ops[i], by simp [hlt], fun e he hb => ?_⟩⟩
      have h1 := List.all_eq_true.1 hr i (List.mem_range.2 hlt)
      simp only [Array.getElem?_eq_getElem hlt] at h1
      have h2 := Array.all_eq_true'.1 h1 e he
      simp only [hb, Bool.not_true, Bool.false_or, decide_eq_true_eq] at h2
      have h3 : ¬ listed.getD e.on true = false := fun c => hex ⟨e.on, h2, c⟩
      have h4 : e.on < listed.size := by omega
      simp [h4] at h3 ⊢
      exact h3
def InB (w0 w : World) (lo hi : Nat) : Prop := w0.heap.size ≤ lo ∧ lo ≤ hi ∧ hi ≤ w.heap.size
def Apart (lo hi : Nat → Nat) (j k : Nat) : Prop := hi j ≤ lo k ∨ hi k ≤ lo j
structure Shut (p : Prop) : Prop where
  out : p
def StepS (P : Program) (md : Region.Mode) (ops : Array Oper) (Q : Exit → Act → World → Prop) (S : World → Prop) (L : List (Nat × Nat)) (G : Nat → (Nat → Value) → Nat → Nat → World → Prop) (a0 : Act) (w0 : World) (p : Nat × Nat) : Prop :=
  ∃ o, ops[p.1]? = some o ∧ o.dst = some p.2 ∧ ∀ (y : Nat → Value) (w : World) (lo hi : Nat → Nat), S w → Below w0.heap.size w0 w →
    (∀ q ∈ L, waitsFor md ops p.1 q.1 = true → InB w0 w (lo q.1) (hi q.1) ∧ G q.1 y (lo q.1) (hi q.1) w) →
    (∀ q ∈ L, ∀ r ∈ L, q.1 ≠ r.1 → waitsFor md ops p.1 q.1 = true → waitsFor md ops p.1 r.1 = true → Apart lo hi q.1 r.1) →
    ∀ K : Act → World → Prop, (∀ v w', Below w.heap.size w w' → G p.1 (updV y p.2 v) w.heap.size w'.heap.size w' → K ((over a0 (L.map Prod.snd) y).put (some p.2) v) w') →
      Shut (if Region.wanted o (yielded ops (over a0 (L.map Prod.snd) y).tmps) = true then Oper.wp P o (over a0 (L.map Prod.snd) y) w K Q else K ((over a0 (L.map Prod.snd) y).put o.dst undef) w)
theorem upto_stable (L : List (Nat × Nat)) (G : Nat → (Nat → Value) → Nat → Nat → World → Prop) {f : Nat} {listed : Array Bool} {a0 : Act} {w0 : World}
    (hrise : risesB md ops = true) (hsz : listed.size = ops.size) (hot : ∃ ot, ops[t]? = some ot)
    (hall : ∀ i, i < ops.size → listed.getD i true = false → i = t ∨ ∃ p ∈ L, p.1 = i)
    (hun : listed.getD t true = false ∧ ∀ p ∈ L, listed.getD p.1 true = false)
    (hno : (L.map Prod.fst).Nodup) (hnd : (L.map Prod.snd).Nodup) (htl : ∀ p ∈ L, p.1 ≠ t ∧ waitsFor md ops t p.1 = true) (hf : f = L.length + 1)
    (hS : S w0) (hSst : ∀ w w', S w → Below w.heap.size w w' → S w')
    (hG : ∀ p ∈ L, ∀ (y y' : Nat → Value) (lo hi : Nat) (w w' : World), G p.1 y lo hi w → InB w0 w lo hi → Below w.heap.size w w' → y' p.2 = y p.2 → (∀ q ∈ L, waitsFor md ops p.1 q.1 = true → y' q.2 = y q.2) → G p.1 y' lo hi w')
    (hstep : ∀ p ∈ L, StepS P md ops Q S L G a0 w0 p)
    (hlast : ∃ o, ops[t]? = some o ∧ ∀ (y : Nat → Value) (w : World) (lo hi : Nat → Nat), S w → Below w0.heap.size w0 w → (∀ q ∈ L, InB w0 w (lo q.1) (hi q.1) ∧ G q.1 y (lo q.1) (hi q.1) w) → (∀ q ∈ L, ∀ r ∈ L, q.1 ≠ r.1 → Apart lo hi q.1 r.1) →
      ∀ K : Act → World → Prop, (∀ a' w', Q .normal a' w' → K a' w') → Shut (if Region.wanted o (yielded ops (over a0 (L.map Prod.snd) y).tmps) = true then Oper.wp P o (over a0 (L.map Prod.snd) y) w K Q else K ((over a0 (L.map Prod.snd) y).put o.dst undef) w)) :
    wpUpto P md ops Q S t f listed a0 w0 := by
  -- the same from any state on the way
  have H : ∀ (n f : Nat) (listed : Array Bool) (y : Nat → Value) (w : World) (lo hi : Nat → Nat),
      f = (L.filter fun p => !listed.getD p.1 true).length + 1 → listed.size = ops.size → listed.getD t true = false →
      (∀ i, i < ops.size → listed.getD i true = false → i = t ∨ ∃ p ∈ L, p.1 = i) →
      (∀ p ∈ L, listed.getD p.1 true = true → ∀ q ∈ L, waitsFor md ops p.1 q.1 = true → listed.getD q.1 true = true) →
      S w → Below w0.heap.size w0 w → (∀ q ∈ L, listed.getD q.1 true = true → InB w0 w (lo q.1) (hi q.1) ∧ G q.1 y (lo q.1) (hi q.1) w) →
      (∀ q ∈ L, ∀ r ∈ L, q.1 ≠ r.1 → listed.getD q.1 true = true → listed.getD r.1 true = true → Apart lo hi q.1 r.1) →
      f ≤ n → wpUpto P md ops Q S t f listed (over a0 (L.map Prod.snd) y) w := by
    intro n
    induction n with
    | zero => intro f listed y w lo hi hf _ _ _ _ _ _ _ _ hn; omega
    | succ n ih =>
      intro f listed y w lo hi hf hsz htun hall hdown hS hB hGs hAp hn
      obtain ⟨ot, hot⟩ := hot
      have htlt : t < ops.size := by
        rcases Nat.lt_or_ge t ops.size with h | h
        · exact h
        · rw [Array.getElem?_eq_none h] at hot; cases hot
      obtain ⟨g, rfl⟩ : ∃ g, f = g + 1 := ⟨_, hf⟩
      have hg : g = (L.filter fun p => !listed.getD p.1 true).length := by omega
      refine ⟨fun h => ?_, fun i hi' => ?_⟩
      · obtain ⟨j, hj⟩ := ready_some hrise hsz (t + 1) t (by omega) htlt htun
        rw [h] at hj
        cases hj
      obtain ⟨hiun, o, hio, hdeps⟩ := mem_ready.1 hi'
      have hilt : i < ops.size := by
        rcases Nat.lt_or_ge i ops.size with h | h
        · exact h
        · rw [Array.getElem?_eq_none h] at hio; cases hio
      have hdep : ∀ k, k < ops.size → waitsFor md ops i k = true → listed.getD k true = true := by
        intro k hk hw
        unfold waitsFor at hw
        rw [hio] at hw
        obtain ⟨e, he, hb⟩ := Array.any_eq_true'.1 hw
        simp only [Bool.and_eq_true, beq_iff_eq] at hb
        have h1 := hdeps e he hb.1
        rw [hb.2] at h1
        have hk' : k < listed.size := by omega
        simp [hk'] at h1 ⊢
        exact h1
      have hLlt : ∀ p ∈ L, p.1 < ops.size := by
        intro p hp
        obtain ⟨o', ho', _⟩ := hstep p hp
        rcases Nat.lt_or_ge p.1 ops.size with h | h
        · exact h
        · rw [Array.getElem?_eq_none h] at ho'; cases ho'
      have key : ∀ K : Act → World → Prop, (if Region.wanted o (yielded ops (over a0 (L.map Prod.snd) y).tmps) = true then Oper.wp P o (over a0 (L.map Prod.snd) y) w K Q else K ((over a0 (L.map Prod.snd) y).put o.dst undef) w) → wpOp P ops Q i K (over a0 (L.map Prod.snd) y) w := by
        intro K h1
        unfold wpOp
        simp only [hio]
        split
        · rename_i hw
          rw [if_pos hw] at h1
          exact .inl h1
        · rename_i hw
          rw [if_neg hw] at h1
          exact h1
      refine key _ ?_
      by_cases hit : i = t
      · subst hit
        have hl : ∀ p ∈ L, listed.getD p.1 true = true := fun p hp => hdep p.1 (hLlt p hp) (htl p hp).2
        obtain ⟨o2, ho2, hlst⟩ := hlast
        rw [hio] at ho2
        cases ho2
        refine (hlst y w lo hi hS hB (fun q hq => hGs q hq (hl q hq)) (fun q hq r hr hne => hAp q hq r hr hne (hl q hq) (hl r hr)) _ (fun a' w' hq => ⟨fun h => absurd rfl h, upto_done ?_ hq⟩)).out
        rw [List.eq_nil_iff_forall_not_mem]
        intro j hj
        obtain ⟨hjun, oj, hjo, _⟩ := mem_ready.1 hj
        have hjl : j < ops.size := by
          rcases Nat.lt_or_ge j ops.size with h | h
          · exact h
          · rw [Array.getElem?_eq_none h] at hjo; cases hjo
        by_cases hji : i = j
        · subst hji
          have hk' : i < listed.size := by omega
          simp [hk'] at hjun
        · rw [getD_set_ne true hji] at hjun
          rcases hall j hjl hjun with h | ⟨p, hp, h⟩
          · exact hji h.symm
          · rw [← h, hl p hp] at hjun; cases hjun
      · obtain ⟨p, hp, hpi⟩ := (hall i hilt hiun).resolve_left hit
        subst hpi
        obtain ⟨o', ho', hdst, hst⟩ := hstep p hp
        rw [hio] at ho'
        cases ho'
        refine (hst y w lo hi hS hB (fun q hq hw => hGs q hq (hdep q.1 (hLlt q hq) hw)) (fun q hq r hr hne h1 h2 => hAp q hq r hr hne (hdep q.1 (hLlt q hq) h1) (hdep r.1 (hLlt r hr) h2)) _ (fun v w' hb hGp => ⟨fun _ => hSst _ _ hS hb, ?_⟩)).out
        rw [over_put (List.mem_map_of_mem hp) hnd]
        have hlt : p.1 < listed.size := by omega
        have hself : (listed.setIfInBounds p.1 true).getD p.1 true = true := by simp [hlt]
        have hoth : ∀ j, p.1 ≠ j → (listed.setIfInBounds p.1 true).getD j true = listed.getD j true := fun j h => getD_set_ne true h
        have hinj : ∀ q ∈ L, q.1 = p.1 → q = p := fun q hq h => inj_fst L hno q hq p hp h
        have hinj2 : ∀ q ∈ L, q.2 = p.2 → q = p := fun q hq h => inj_snd L hnd q hq p hp h
        refine ih g (listed.setIfInBounds p.1 true) (updV y p.2 v) w' (fun j => if j = p.1 then w.heap.size else lo j) (fun j => if j = p.1 then w'.heap.size else hi j) ?_ (by simpa using hsz) ?_ ?_ ?_ (hSst _ _ hS hb) (hB.trans (hb.mono hB.size)) ?_ ?_ (by omega)
        · rw [hg]
          refine filter_less hno hp (by rw [hiun]; rfl) (by rw [hself]; rfl) (fun q hq hne => ?_)
          rw [hoth _ (fun c => hne (hinj q hq c.symm))]
        · rw [hoth _ (fun h => hit h)]; exact htun
        · intro j hj hju
          by_cases e : p.1 = j
          · subst e; rw [hself] at hju; cases hju
          · rw [hoth _ e] at hju; exact hall j hj hju
        · intro q hq hql r hr hw
          by_cases e : p.1 = r.1
          · rw [← e]; exact hself
          · rw [hoth _ e]
            by_cases e2 : p.1 = q.1
            · rw [← e2] at hw; exact hdep r.1 (hLlt r hr) hw
            · rw [hoth _ e2] at hql; exact hdown q hq hql r hr hw
        · intro q hq hql
          by_cases e : q.1 = p.1
          · have e2 := hinj q hq e
            subst e2
            simp only [if_true]
            exact ⟨⟨hB.size, hb.size, Nat.le_refl _⟩, hGp⟩
          · rw [hoth _ (Ne.symm e)] at hql
            simp only [if_neg e]
            obtain ⟨h1, h2⟩ := hGs q hq hql
            refine ⟨⟨h1.1, h1.2.1, Nat.le_trans h1.2.2 hb.size⟩, hG q hq y (updV y p.2 v) _ _ w w' h2 h1 hb ?_ ?_⟩
            · exact if_neg (fun c => e (by rw [hinj2 q hq c]))
            · intro r hr hw
              refine if_neg (fun c => ?_)
              have e3 := hinj2 r hr c
              subst e3
              rw [hdown q hq hql _ hr hw] at hiun
              cases hiun
        · intro q hq r hr hne hql hrl
          unfold Apart
          by_cases e : q.1 = p.1
          · have e' : r.1 ≠ p.1 := fun c => hne (e.trans c.symm)
            rw [hoth _ (Ne.symm e')] at hrl
            simp only [if_pos e, if_neg e']
            exact .inr (hGs r hr hrl).1.2.2
          · rw [hoth _ (Ne.symm e)] at hql
            by_cases e' : r.1 = p.1
            · simp only [if_neg e, if_pos e']
              exact .inl (hGs q hq hql).1.2.2
            · rw [hoth _ (Ne.symm e')] at hrl
              simp only [if_neg e, if_neg e']
              exact hAp q hq r hr hne hql hrl
  have h0 := H f f listed (fun s => a0.tmps.getD s undef) w0 (fun _ => 0) (fun _ => 0) (by
    rw [hf, List.filter_eq_self.2 (fun p hp => by rw [hun.2 p hp]; rfl)]) hsz hun.1 hall (fun p hp h => by rw [hun.2 p hp] at h; cases h) hS (Below.refl _ _) (fun q hq h => by rw [hun.2 q hq] at h; cases h) (fun q hq r hr hne h => by rw [hun.2 q hq] at h; cases h) (Nat.le_refl _)
  rw [over_self] at h0
  exact h0
def checkS (md : Region.Mode) (ops : Array Oper) (listed : Array Bool) (t f : Nat) (L : List (Nat × Nat)) : Bool :=
  risesB md ops && decide (listed.size = ops.size) && (ops[t]?).isSome && ((List.range ops.size).all fun i => listed.getD i true || decide (i = t) || L.any fun p => decide (p.1 = i)) &&
    !listed.getD t true && (L.all fun p => !listed.getD p.1 true) && decide (L.map Prod.fst).Nodup && decide (L.map Prod.snd).Nodup && (L.all fun p => decide (p.1 ≠ t) && waitsFor md ops t p.1) && decide (f = L.length + 1)
theorem upto_stable' (L : List (Nat × Nat)) (G : Nat → (Nat → Value) → Nat → Nat → World → Prop) {f : Nat} {listed : Array Bool} {a0 : Act} {w0 : World} (hc : checkS md ops listed t f L = true)
    (hS : S w0) (hSst : ∀ w w', S w → Below w.heap.size w w' → S w')
    (hG : ∀ p ∈ L, ∀ (y y' : Nat → Value) (lo hi : Nat) (w w' : World), G p.1 y lo hi w → InB w0 w lo hi → Below w.heap.size w w' → y' p.2 = y p.2 → (∀ q ∈ L, waitsFor md ops p.1 q.1 = true → y' q.2 = y q.2) → G p.1 y' lo hi w')
    (hstep : ∀ p ∈ L, StepS P md ops Q S L G a0 w0 p)
    (hlast : ∃ o, ops[t]? = some o ∧ ∀ (y : Nat → Value) (w : World) (lo hi : Nat → Nat), S w → Below w0.heap.size w0 w → (∀ q ∈ L, InB w0 w (lo q.1) (hi q.1) ∧ G q.1 y (lo q.1) (hi q.1) w) → (∀ q ∈ L, ∀ r ∈ L, q.1 ≠ r.1 → Apart lo hi q.1 r.1) →
      ∀ K : Act → World → Prop, (∀ a' w', Q .normal a' w' → K a' w') → Shut (if Region.wanted o (yielded ops (over a0 (L.map Prod.snd) y).tmps) = true then Oper.wp P o (over a0 (L.map Prod.snd) y) w K Q else K ((over a0 (L.map Prod.snd) y).put o.dst undef) w)) :
    wpUpto P md ops Q S t f listed a0 w0 := by
  unfold checkS at hc
  simp only [Bool.and_eq_true, decide_eq_true_eq, List.all_eq_true, List.any_eq_true, Bool.or_eq_true, Bool.not_eq_true', List.mem_range] at hc
  obtain ⟨⟨⟨⟨⟨⟨⟨⟨⟨h1, h2⟩, h3⟩, h4⟩, h5⟩, h6⟩, h7⟩, h8⟩, h9⟩, h10⟩ := hc
  refine upto_stable L G h1 h2 (Option.isSome_iff_exists.1 h3) (fun i hi hu => ?_) ⟨h5, h6⟩ h7 h8 h9 h10 hS hSst hG hstep hlast
  rcases h4 i hi with (h | h) | h
  · rw [hu] at h; cases h
  · exact .inl h
  · exact .inr h
end

end Go.Proofs.Ytjmabfikbfdjbaa

/-
  One more record in a log: the specification's side, and what is told.
-/
namespace Go.Proofs.Ytjmabfikbfdjbaa
open Go.RowKit
set_option linter.unusedSectionVars false
variable [DecidableEq Logg] [Inhabited Logg] [DecidableEq LoggR] [Inhabited LoggR] [DecidableEq BytesR] [Inhabited BytesR] [DecidableEq RecsR] [Inhabited RecsR] [DecidableEq Leg] [Inhabited Leg]
set_option linter.unusedSimpArgs false
attribute [local go_sem ↓] Go.wp_at_zero Go.wp_at_succ

theorem Mod.frozenAt {F : Nat → Prop} {w w' : World} (h : Mod F w w') {a : Addr} (hl : a.block < w.heap.size) (hn : ¬ F a.block) : w'.frozen? a = w.frozen? a := World.frozen?_of_block (h.block a.block hl hn)
end Go.Proofs.Ytjmabfikbfdjbaa

/-
  The specification's draws: a number read off the bytes.
-/
namespace Go.Proofs.Ytjmabfikbfdjbaa
open Go.RowKit
set_option linter.unusedSectionVars false
variable [DecidableEq Logg] [Inhabited Logg] [DecidableEq LoggR] [Inhabited LoggR] [DecidableEq BytesR] [Inhabited BytesR] [DecidableEq RecsR] [Inhabited RecsR] [DecidableEq Leg] [Inhabited Leg]
set_option linter.unusedSimpArgs false
attribute [local go_sem ↓] Go.wp_at_zero Go.wp_at_succ

structure Src (B : Nat) (w : World) (bs : Nat) (a : Option Addr) (k cap : Nat) (t : Nat) : Prop where
  le : B ≤ bs
  lt : bs < w.heap.size
  code : w.cell? ⟨bs, 0, none⟩ = some (.slice a k cap)
  at_ : w.cell? ⟨bs, 1, none⟩ = some (.int .i64 t)
  free : ∀ o, w.frozen? ⟨bs, o, none⟩ = false
  kc : k ≤ cap
  cm : cap ≤ maxLen
  kb : k ≤ 2097152
  byte : ∀ i, i < k → ∃ b o c, a = some ⟨b, o, none⟩ ∧ b < B ∧ (0 : Int) ≤ c ∧ c ≤ 255 ∧ w.cell? ⟨b, o + i, none⟩ = some (.int .u8 c)
theorem Src.mod {B : Nat} {w w' : World} {bs : Nat} {a : Option Addr} {k cap t : Nat} {F : Nat → Prop} (h : Src B w bs a k cap t) (hm : Mod F w w') (hF : ∀ b, F b → bs < b) : Src B w' bs a k cap t := by
  have hb : ¬ F bs := fun e => by have := hF bs e; omega
  refine ⟨h.le, Nat.lt_of_lt_of_le h.lt hm.size, hm.cell h.code hb, hm.cell h.at_ hb, fun o => ?_, h.kc, h.cm, h.kb, fun i hi => ?_⟩
  · rw [hm.frozenAt (a := ⟨bs, o, none⟩) h.lt hb]; exact h.free o
  · obtain ⟨b, o, c, h1, h2, h3, h4, h5⟩ := h.byte i hi
    exact ⟨b, o, c, h1, h2, h3, h4, hm.cell h5 (fun e => by have := hF b e; have := h.le; omega)⟩
theorem Src.below {B : Nat} {w w' : World} {bs : Nat} {a : Option Addr} {k cap t : Nat} (h : Src B w bs a k cap t) (hb : Below w.heap.size w w') : Src B w' bs a k cap t :=
  h.mod (F := fun _ => False) (Mod.of_below hb) (fun _ e => e.elim)
theorem Src.next {B : Nat} {w : World} {bs : Nat} {a : Option Addr} {k cap t : Nat} (h : Src B w bs a k cap t) : Src B (w.setCell ⟨bs, 1, none⟩ (.int .i64 ((t : Int) + 1))) bs a k cap (t + 1) := by
  refine ⟨h.le, by simpa using h.lt, by rw [set_other (by simp)]; exact h.code, by rw [set_same h.at_]; rfl, fun o => by rw [World.frozen?_setCell]; exact h.free o, h.kc, h.cm, h.kb, fun i hi => ?_⟩
  obtain ⟨b, o, c, h1, h2, h3, h4, h5⟩ := h.byte i hi
  exact ⟨b, o, c, h1, h2, h3, h4, by rw [set_other (fun e => by have := h.le; have e' : bs = b := congrArg Addr.block e; omega)]; exact h5⟩
theorem Src.drew' {B : Nat} {w : World} {bs : Nat} {a : Option Addr} {k cap t : Nat} (h : Src B w bs a k cap t) : Src B w.drew bs a k cap t :=
  ⟨h.le, h.lt, h.code, h.at_, h.free, h.kc, h.cm, h.kb, h.byte⟩
theorem wrapI (x : Int) (h0 : -9223372036854775808 ≤ x) (h1 : x ≤ 9223372036854775807) : IntKind.i64.wrap x = x := by rw [IntKind.wrap_i64]; omega
theorem next_mod (w : World) (bs : Nat) (v : Value) : Mod (fun b => b = bs) w (w.setCell ⟨bs, 1, none⟩ v) := Mod.of_set w ⟨bs, 1, none⟩ v
theorem Mod.drew1 {F : Nat → Prop} {w w' : World} (h : Mod F w w') : Mod F w w'.drew := ⟨h.os, h.tape, h.output, h.size, h.block⟩
set_option maxHeartbeats 2000000 in
theorem l1Next_any (B : Nat) (w : World) (bs : Nat) (a : Option Addr) (k cap t : Nat) (n : Int) (h : Src B w bs a k cap t) (ht : t ≤ 100000) (hn1 : 1 ≤ n) (hn2 : n ≤ 100000) :
    Calls Try.prog 51 #[.pointer (some ⟨bs, 0, none⟩), .int .i64 n] w fun e w' => ∃ r : Nat, e = .returned (.int .i64 r) ∧ (r : Int) < n ∧ Src B w' bs a k cap (t + 1) ∧ Mod (fun b => b = bs) w w' := by
  have hc := h.code
  have ha := h.at_
  have hf := h.free
  have hkc := h.kc
  have hcm := h.cm
  have hkb := h.kb
  unfold maxLen at hcm
  have HS : Hid (Src B w bs a k cap t) := h
  have h1 : ¬ n < 1 := by omega
  have hres : ∀ v : Int, 0 ≤ v → ∃ r : Nat, v % n = (r : Int) ∧ (r : Int) < n := fun v hv => by
    refine ⟨(v % n).toNat, ?_, ?_⟩
    · have := Int.emod_nonneg v (b := n) (by omega)
      omega
    · have := Int.emod_nonneg v (b := n) (by omega)
      have := Int.emod_lt_of_pos v (b := n) (by omega)
      omega
  have HR : Hid (∀ v : Int, 0 ≤ v → ∃ r : Nat, v % n = (r : Int) ∧ (r : Int) < n) := hres
  clear h hres
  by_cases hk0 : k = 0
  · subst hk0
    obtain ⟨r, e5, r1⟩ := HR.out ((t : Int) * 7) (by omega)
    have e6 : ((t : Int) * 7).tmod n = (r : Int) := by rw [Int.tmod_eq_emod_of_nonneg (by omega)]; exact e5
    have HE : Hid (((t : Int) * 7) % n = (r : Int)) := e5
    clear e5
    go_enter Try.func51, Try.ntmps51
    go_wp2
    go_ret
    exact ⟨r, by have e := HE.out; first | rfl | (simp [e6]; done) | (simp [e]; done), r1, HS.out.next, next_mod _ _ _⟩
  · have hk : (0 : Int) < (k : Int) := by omega
    obtain ⟨m, hm⟩ : ∃ m, m = t % k := ⟨_, rfl⟩
    obtain ⟨m', hm'⟩ : ∃ m', m' = (t + 1) % k := ⟨_, rfl⟩
    obtain ⟨d, hdv⟩ : ∃ d, d = t / k := ⟨_, rfl⟩
    have hml : m < k := by rw [hm]; exact Nat.mod_lt _ (by omega)
    have hml' : m' < k := by rw [hm']; exact Nat.mod_lt _ (by omega)
    have hdl : d ≤ 100000 := by rw [hdv]; exact Nat.le_trans (Nat.div_le_self _ _) ht
    obtain ⟨b, o, c, rfl, hbB, c0, c1, hcell⟩ := HS.out.byte m hml
    obtain ⟨b', o', c', e', _, c0', c1', hcell'⟩ := HS.out.byte m' hml'
    simp only [Option.some.injEq, Addr.mk.injEq, and_true] at e'
    obtain ⟨rfl, rfl⟩ := e'
    have e1 : (t : Int) % (k : Int) = (m : Int) := by rw [hm]; rfl
    have e2 : (t : Int) / (k : Int) = (d : Int) := by rw [hdv]; rfl
    have e3 : (t : Int).tmod (k : Int) = (m : Int) := by rw [Int.tmod_eq_emod_of_nonneg (by omega)]; exact e1
    have e4 : (t : Int).tdiv (k : Int) = (d : Int) := by rw [Int.tdiv_eq_ediv_of_nonneg (by omega)]; exact e2
    have e7 : ((t : Int) + 1) % (k : Int) = (m' : Int) := by rw [hm']; rfl
    have e8 : ((t : Int) + 1).tmod (k : Int) = (m' : Int) := by rw [Int.tmod_eq_emod_of_nonneg (by omega)]; exact e7
    clear hm hdv hm'
    have hd : ((k : Int) == 0) = false := by simp; omega
    go_enter Try.func51, Try.ntmps51
    have hcW : (w.setCell ⟨bs, 1, none⟩ (.int .i64 (t + 1))).cell? ⟨bs, 0, none⟩ = some (.slice (some ⟨b, o, none⟩) k cap) := by rw [set_other (by simp)]; exact hc
    have hbW : (w.setCell ⟨bs, 1, none⟩ (.int .i64 (t + 1))).cell? ⟨b, o + m, none⟩ = some (.int .u8 c) := by
      rw [set_other (fun e => by have := HS.out.le; have e' : bs = b := congrArg Addr.block e; omega)]; exact hcell
    have hbW' : (w.setCell ⟨bs, 1, none⟩ (.int .i64 (t + 1))).cell? ⟨b, o + m', none⟩ = some (.int .u8 c') := by
      rw [set_other (fun e => by have := HS.out.le; have e' : bs = b := congrArg Addr.block e; omega)]; exact hcell'
    have q2 : (m : Int) < (k : Int) := by omega
    have q2' : (m' : Int) < (k : Int) := by omega
    go_wp2
    go_region_held3 (fun w' => w' = (w.setCell ⟨bs, 1, none⟩ (.int .i64 (t + 1))).drew ∧ w'.cell? ⟨bs, 0, none⟩ = some (.slice (some ⟨b, o, none⟩) k cap) ∧ w'.cell? ⟨b, o + m, none⟩ = some (.int .u8 c)) (exact ⟨rfl, hcW, hbW⟩) (fail)
    rename_i hH
    clear hH
    have hv : IntKind.i64.wrap (IntKind.i64.wrap c + IntKind.i64.wrap (IntKind.i64.wrap d * 37)) = c + d * 37 := by
      rw [wrapI c (by omega) (by omega), wrapI (d : Int) (by omega) (by omega), wrapI ((d : Int) * 37) (by omega) (by omega), wrapI _ (by omega) (by omega)]
    rw [hv]
    obtain ⟨v, hve⟩ : ∃ v, v = c + (d : Int) * 37 := ⟨_, rfl⟩
    have v0 : 0 ≤ v := by omega
    have v1 : v ≤ 4000000 := by omega
    rw [← hve]
    clear hv hve e1 e2 e3 e4
    by_cases h2 : 200 < n
    · have y1 : IntKind.i64.wrap (v * 251) = v * 251 := wrapI _ (by omega) (by omega)
      have y2 : IntKind.i64.wrap ((t : Int) + 1) = t + 1 := wrapI _ (by omega) (by omega)
      have y3 : IntKind.i64.wrap c' = c' := wrapI _ (by omega) (by omega)
      have y4 : IntKind.i64.wrap (c' * 13) = c' * 13 := wrapI _ (by omega) (by omega)
      have y5 : IntKind.i64.wrap (v * 251 + c' * 13) = v * 251 + c' * 13 := wrapI _ (by omega) (by omega)
      have y6 : IntKind.i64.wrap (v * 251 + c' * 13 + t) = v * 251 + c' * 13 + t := wrapI _ (by omega) (by omega)
      obtain ⟨r, e5, r1⟩ := HR.out (v * 251 + c' * 13 + t) (by omega)
      have e6 : (v * 251 + c' * 13 + t).tmod n = (r : Int) := by rw [Int.tmod_eq_emod_of_nonneg (by omega)]; exact e5
      have HE : Hid ((v * 251 + c' * 13 + t) % n = (r : Int)) := e5
      have HE6 : Hid ((v * 251 + c' * 13 + t).tmod n = (r : Int)) := e6
      clear e5 e6
      go_wp2
      go_region_held3 (fun w' => w' = (w.setCell ⟨bs, 1, none⟩ (.int .i64 (t + 1))).drew.drew ∧ w'.cell? ⟨bs, 0, none⟩ = some (.slice (some ⟨b, o, none⟩) k cap) ∧ w'.cell? ⟨b, o + m', none⟩ = some (.int .u8 c')) (exact ⟨rfl, hcW, hbW'⟩) (fail)
      rename_i hH
      clear hH
      obtain ⟨V, hV⟩ : ∃ V, V = v * 251 + c' * 13 + (t : Int) := ⟨_, rfl⟩
      have V0 : 0 ≤ V := by omega
      have HE7 : Hid (V % n = (r : Int)) := by unfold Hid; rw [hV]; exact HE.out
      have HE8 : Hid (V.tmod n = (r : Int)) := by unfold Hid; rw [hV]; exact HE6.out
      first | rw [← hV] | skip
      clear y1 y2 y3 y4 y5 y6 hV
      go_wp2
      go_ret
      exact ⟨r, by have e := HE7.out; have e' := HE8.out; first | rfl | (simp [e']; done) | (simp [e]; done), r1, HS.out.next.drew'.drew', (next_mod _ _ _).drew1.drew1⟩
    · obtain ⟨r, e5, r1⟩ := HR.out v v0
      have e6 : v.tmod n = (r : Int) := by rw [Int.tmod_eq_emod_of_nonneg (by omega)]; exact e5
      have HE : Hid (v % n = (r : Int)) := e5
      clear e5
      go_wp2
      go_ret
      exact ⟨r, by have e := HE.out; first | rfl | (simp [e6]; done) | (simp [e]; done), r1, HS.out.next.drew', (next_mod _ _ _).drew1⟩
end Go.Proofs.Ytjmabfikbfdjbaa

/-
  A number of the code, at any place.
-/
namespace Go.Proofs.Ytjmabfikbfdjbaa
open Go.RowKit
set_option linter.unusedSectionVars false
variable [DecidableEq Logg] [Inhabited Logg] [DecidableEq LoggR] [Inhabited LoggR] [DecidableEq BytesR] [Inhabited BytesR] [DecidableEq RecsR] [Inhabited RecsR] [DecidableEq Leg] [Inhabited Leg]
set_option linter.unusedSimpArgs false
set_option linter.unusedVariables false
attribute [local go_sem ↓] Go.wp_at_zero Go.wp_at_succ

set_option maxHeartbeats 2000000 in
theorem lwAtK_any (x : Value) (xs : List Byte) (w : World) (K : Nat) (n : Int) (hx : BytesV w x xs) (hxn : xs.length ≤ 1048576) (hK : K ≤ 1000) (hn1 : 1 ≤ n) (hn2 : n ≤ 200) :
    Calls Try.prog 10 #[x, .int .i64 K, .int .i64 n] w fun e w' => ∃ r : Nat, e = .returned (.int .i64 r) ∧ (r : Int) < n ∧ Below w.heap.size w w' := by
  obtain ⟨a, cap, rfl, hkc, hcm, hby⟩ := hx
  unfold maxLen at hcm
  have hres : ∀ v : Int, 0 ≤ v → ∃ r : Nat, v % n = (r : Int) ∧ (r : Int) < n := fun v hv => by
    refine ⟨(v % n).toNat, ?_, ?_⟩
    · have := Int.emod_nonneg v (b := n) (by omega)
      omega
    · have := Int.emod_nonneg v (b := n) (by omega)
      have := Int.emod_lt_of_pos v (b := n) (by omega)
      omega
  have HR : Hid (∀ v : Int, 0 ≤ v → ∃ r : Nat, v % n = (r : Int) ∧ (r : Int) < n) := hres
  have HBY : Hid (∀ i, i < xs.length → ∃ b o, a = some ⟨b, o, none⟩ ∧ w.cell? ⟨b, o + i, none⟩ = some (.int .u8 ((xs.getD i 0).val : Int))) := hby
  clear hres hby
  by_cases hone : n ≤ 1
  · have e1 : n = 1 := by omega
    subst e1
    clear HR HBY
    generalize xs.length = k at *
    go_enter Try.func10, Try.ntmps10
    go_wp2
    go_ret
    exact ⟨0, rfl, by omega, Below.refl _ _⟩
  have hone' : ¬ n ≤ 1 := hone
  have n0 : (n == 0) = false := by rw [beq_eq_false_iff_ne]; omega
  by_cases hk0 : xs.length = 0
  · obtain ⟨r, e5, r1⟩ := HR.out ((K : Int) * 7) (by omega)
    have y0 : IntKind.i64.wrap ((K : Int) * 7) = (K : Int) * 7 := wrapI _ (by omega) (by omega)
    have e6 : ((K : Int) * 7).tmod n = (r : Int) := by rw [Int.tmod_eq_emod_of_nonneg (by omega)]; exact e5
    have V0 : 0 ≤ (K : Int) * 7 := by omega
    have HE : Hid (((K : Int) * 7) % n = (r : Int)) := e5
    clear e5 HBY
    generalize xs.length = k at *
    subst hk0
    go_enter Try.func10, Try.ntmps10
    go_wp2
    go_ret
    exact ⟨r, by have e := HE.out; first | rfl | (simp [e6]; done) | (simp [e]; done), r1, Below.refl _ _⟩
  have hk : (0 : Int) < (xs.length : Int) := by omega
  obtain ⟨m, hm⟩ : ∃ m, m = K % xs.length := ⟨_, rfl⟩
  obtain ⟨d, hdv⟩ : ∃ d, d = K / xs.length := ⟨_, rfl⟩
  have hml : m < xs.length := by rw [hm]; exact Nat.mod_lt _ (by omega)
  have hdl : d ≤ K := by rw [hdv]; exact Nat.div_le_self _ _
  obtain ⟨b, o, rfl, hcell⟩ := HBY.out m hml
  have c1 := (xs.getD m 0).isLt
  generalize (xs.getD m 0).val = cv at *
  have e1 : (K : Int) % (xs.length : Int) = (m : Int) := by rw [hm]; rfl
  have e2 : (K : Int) / (xs.length : Int) = (d : Int) := by rw [hdv]; rfl
  have e3 : (K : Int).tmod (xs.length : Int) = (m : Int) := by rw [Int.tmod_eq_emod_of_nonneg (by omega)]; exact e1
  have e4 : (K : Int).tdiv (xs.length : Int) = (d : Int) := by rw [Int.tdiv_eq_ediv_of_nonneg (by omega)]; exact e2
  clear hm hdv HBY
  have q2 : (m : Int) < (xs.length : Int) := by omega
  have hd : ((xs.length : Int) == 0) = false := by rw [beq_eq_false_iff_ne]; omega
  generalize xs.length = k at *
  go_enter Try.func10, Try.ntmps10
  go_wp2
  go_region_held3 (fun w' => w' = w.drew ∧ w'.cell? ⟨b, o + m, none⟩ = some (.int .u8 (cv : Int))) (exact ⟨rfl, hcell⟩) (fail)
  rename_i hH
  clear hH
  have hv : IntKind.i64.wrap (IntKind.i64.wrap (cv : Int) + IntKind.i64.wrap (IntKind.i64.wrap (d : Int) * 3)) = cv + d * 3 := by
    rw [wrapI (cv : Int) (by omega) (by omega), wrapI (d : Int) (by omega) (by omega), wrapI ((d : Int) * 3) (by omega) (by omega), wrapI _ (by omega) (by omega)]
  rw [hv]
  obtain ⟨v, hve⟩ : ∃ v, v = (cv : Int) + (d : Int) * 3 := ⟨_, rfl⟩
  have v0 : 0 ≤ v := by omega
  have v1 : v ≤ 10000 := by omega
  rw [← hve]
  clear hv hve e1 e2 e3 e4
  have h2 : ¬ 200 < n := by omega
  obtain ⟨r, e5, r1⟩ := HR.out v v0
  have e6 : v.tmod n = (r : Int) := by rw [Int.tmod_eq_emod_of_nonneg (by omega)]; exact e5
  have HE : Hid (v % n = (r : Int)) := e5
  clear e5
  go_wp2
  go_ret
  exact ⟨r, by have e := HE.out; first | rfl | (simp [e6]; done) | (simp [e]; done), r1, by (repeat (first | exact Below.refl _ _ | assumption | refine Below.drew ?_ | refine balloc ?_ _ | refine bset ?_ (by simp; omega) _ | refine bset ?_ (by simp) _ | refine bstep ?_ (by assumption)))⟩
end Go.Proofs.Ytjmabfikbfdjbaa


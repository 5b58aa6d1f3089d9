import Derived.Test.YtecfelacdapdgaaGreatPrnPackEventLaw1
import Derived.Deep.RegionHeld3
import Derived.Deep.DrawnRows
import Derived.Test.YtecfelacdapdgaaGreatPrnPackEventLaw9
import Derived.Test.YtecfelacdapdgaaGreatPrnPackEventLaw2

/-
  Slices of Mark: the law's own copy, comparison, count, marks. (Written by program after my texts on legs.)
-/
namespace Go.Proofs.YtecfelacdapdgaaGreat
open Go.RowKit
set_option linter.unusedSectionVars false
attribute [local go_sem ↓] Go.wp_at_zero Go.wp_at_succ

structure Mrk where
  con : Int
  val : Int
variable [DecidableEq Mrk] [Inhabited Mrk]

end Go.Proofs.YtecfelacdapdgaaGreat

/-
  Slices of Balance: the law's own copy, comparison, count, marks. (Written by program after my texts on legs.)
-/
namespace Go.Proofs.YtecfelacdapdgaaGreat
open Go.RowKit
set_option linter.unusedSectionVars false
attribute [local go_sem ↓] Go.wp_at_zero Go.wp_at_succ

structure Bal where
  ac : Int
  ast : Int
  am : Int
variable [DecidableEq Bal] [Inhabited Bal]

end Go.Proofs.YtecfelacdapdgaaGreat

/-
  A region that draws its order, whose operations only make memory (and one last, number t, that may write): whatever the order, what each of them yields stays as it is, and lies in blocks of its own.
-/
namespace Go.Proofs.YtecfelacdapdgaaGreat
open Go.RowKit

def over (a : Act) (ds : List Nat) (y : Nat → Value) : Act := { a with tmps := ds.foldl (fun t s => t.setIfInBounds s (y s)) a.tmps }
theorem fold_put : ∀ (ds : List Nat) (T : Array Value) (y : Nat → Value) (d : Nat) (v : Value), d ∉ ds →
    (ds.foldl (fun t s => t.setIfInBounds s (y s)) T).setIfInBounds d v = ds.foldl (fun t s => t.setIfInBounds s (y s)) (T.setIfInBounds d v)
  | [], _, _, _, _, _ => rfl
  | e :: ds, T, y, d, v, h => by
    have h1 : d ≠ e := fun c => h (by rw [c]; exact List.mem_cons_self)
    have h2 : d ∉ ds := fun c => h (List.mem_cons_of_mem _ c)
    simp only [List.foldl_cons]
    rw [fold_put ds _ y d v h2, Array.setIfInBounds_comm _ _ (Ne.symm h1)]
theorem fold_congr : ∀ (ds : List Nat) (T : Array Value) (y y' : Nat → Value), (∀ s ∈ ds, y s = y' s) →
    ds.foldl (fun t s => t.setIfInBounds s (y s)) T = ds.foldl (fun t s => t.setIfInBounds s (y' s)) T
  | [], _, _, _, _ => rfl
  | e :: ds, T, y, y', h => by
    simp only [List.foldl_cons]
    rw [h e List.mem_cons_self]
    exact fold_congr ds _ y y' (fun s hs => h s (List.mem_cons_of_mem _ hs))
def updV (y : Nat → Value) (d : Nat) (v : Value) : Nat → Value := fun s => if s = d then v else y s
theorem fold_upd : ∀ (ds : List Nat) (T : Array Value) (y : Nat → Value) (d : Nat) (v : Value), d ∈ ds → ds.Nodup →
    (ds.foldl (fun t s => t.setIfInBounds s (y s)) T).setIfInBounds d v = ds.foldl (fun t s => t.setIfInBounds s (updV y d v s)) T
  | [], _, _, _, _, h, _ => absurd h List.not_mem_nil
  | e :: ds, T, y, d, v, h, hn => by
    obtain ⟨h1, h2⟩ := List.nodup_cons.1 hn
    simp only [List.foldl_cons]
    by_cases hd : d = e
    · subst hd
      rw [fold_put ds _ y d v h1, Array.setIfInBounds_setIfInBounds]
      have e1 : updV y d v d = v := if_pos rfl
      rw [e1]
      exact fold_congr ds _ _ _ (fun s hs => (if_neg (fun c : s = d => h1 (c ▸ hs))).symm)
    · have hm : d ∈ ds := (List.mem_cons.1 h).resolve_left hd
      have e1 : updV y d v e = y e := if_neg (fun c => hd c.symm)
      rw [e1]
      exact fold_upd ds _ y d v hm h2
theorem over_put {a : Act} {ds : List Nat} {y : Nat → Value} {d : Nat} {v : Value} (h : d ∈ ds) (hn : ds.Nodup) : (over a ds y).put (some d) v = over a ds (updV y d v) := by
  simp only [over, Act.put]
  rw [fold_upd ds _ y d v h hn]
theorem over_self (a : Act) : ∀ ds : List Nat, over a ds (fun s => a.tmps.getD s undef) = a := by
  intro ds
  have H : ∀ ds : List Nat, ds.foldl (fun t s => t.setIfInBounds s (a.tmps.getD s undef)) a.tmps = a.tmps := by
    intro ds
    induction ds with
    | nil => rfl
    | cons d ds ih =>
      simp only [List.foldl_cons]
      have e : a.tmps.setIfInBounds d (a.tmps.getD d undef) = a.tmps := by
        apply Array.ext_getElem?
        intro i
        rw [Array.getElem?_setIfInBounds]
        split
        · rename_i h
          subst h
          split
          · rename_i h; simp [h]
          · rename_i h; simp [Array.getElem?_eq_none (Nat.le_of_not_lt h)]
        · rfl
      rw [e]
      exact ih
  simp only [over]
  rw [H ds]
theorem inj_fst : ∀ (L : List (Nat × Nat)), (L.map Prod.fst).Nodup → ∀ p ∈ L, ∀ q ∈ L, p.1 = q.1 → p = q
  | [], _, p, hp, _, _, _ => absurd hp List.not_mem_nil
  | a :: L, hn, p, hp, q, hq, h => by
    obtain ⟨h1, h2⟩ := List.nodup_cons.1 hn
    rcases List.mem_cons.1 hp with hp1 | hp1
    · rcases List.mem_cons.1 hq with hq1 | hq1
      · rw [hp1, hq1]
      · exact absurd (by rw [← hp1, h]; exact List.mem_map_of_mem hq1) h1
    · rcases List.mem_cons.1 hq with hq1 | hq1
      · exact absurd (by rw [← hq1, ← h]; exact List.mem_map_of_mem hp1) h1
      · exact inj_fst L h2 p hp1 q hq1 h
theorem inj_snd : ∀ (L : List (Nat × Nat)), (L.map Prod.snd).Nodup → ∀ p ∈ L, ∀ q ∈ L, p.2 = q.2 → p = q
  | [], _, p, hp, _, _, _ => absurd hp List.not_mem_nil
  | a :: L, hn, p, hp, q, hq, h => by
    obtain ⟨h1, h2⟩ := List.nodup_cons.1 hn
    rcases List.mem_cons.1 hp with hp1 | hp1
    · rcases List.mem_cons.1 hq with hq1 | hq1
      · rw [hp1, hq1]
      · exact absurd (by rw [← hp1, h]; exact List.mem_map_of_mem hq1) h1
    · rcases List.mem_cons.1 hq with hq1 | hq1
      · exact absurd (by rw [← hq1, ← h]; exact List.mem_map_of_mem hp1) h1
      · exact inj_snd L h2 p hp1 q hq1 h
theorem filter_less {F F' : Nat × Nat → Bool} : ∀ {L : List (Nat × Nat)}, (L.map Prod.fst).Nodup → ∀ {p : Nat × Nat}, p ∈ L → F p = true → F' p = false → (∀ q ∈ L, q ≠ p → F' q = F q) → (L.filter F).length = (L.filter F').length + 1
  | [], _, _, hp, _, _, _ => absurd hp List.not_mem_nil
  | a :: L, hn, p, hp, h1, h2, h3 => by
    obtain ⟨g1, g2⟩ := List.nodup_cons.1 hn
    by_cases e : a = p
    · subst e
      rw [List.filter_cons_of_pos h1, List.filter_cons_of_neg (by rw [h2]; exact Bool.false_ne_true)]
      have h4 : L.filter F = L.filter F' := List.filter_congr (fun q hq => (h3 q (List.mem_cons_of_mem _ hq) (fun c => g1 (c ▸ List.mem_map_of_mem hq))).symm)
      rw [h4, List.length_cons]
    · have hm : p ∈ L := (List.mem_cons.1 hp).resolve_left (fun c => e c.symm)
      have ih := filter_less g2 hm h1 h2 (fun q hq hne => h3 q (List.mem_cons_of_mem _ hq) hne)
      have ha := h3 a List.mem_cons_self e
      cases hF : F a with
      | true => rw [List.filter_cons_of_pos hF, List.filter_cons_of_pos (by rw [ha, hF]), List.length_cons, List.length_cons, ih]
      | false => rw [List.filter_cons_of_neg (by rw [hF]; exact Bool.false_ne_true), List.filter_cons_of_neg (by rw [ha, hF]; exact Bool.false_ne_true), ih]
section
variable {P : Program} {ops : Array Oper} {Q : Exit → Act → World → Prop} {md : Region.Mode} {S : World → Prop} {t : Nat}

def risesB (md : Region.Mode) (ops : Array Oper) : Bool := (List.range ops.size).all fun i => match ops[i]? with | some o => o.after.all fun e => !Region.binds md e || decide (e.on < i) | none => true
theorem ready_some {listed : Array Bool} (hr : risesB md ops = true) (hs : listed.size = ops.size) : ∀ n i, i < n → i < ops.size → listed.getD i true = false → ∃ j, j ∈ Region.ready md ops listed := by
  intro n
  induction n with
  | zero => intro i h; omega
  | succ n ih =>
    intro i hi hlt hun
    by_cases hex : ∃ k, k < i ∧ listed.getD k true = false
    · obtain ⟨k, hk, hku⟩ := hex
      exact ih k (by omega) (by omega) hku
    · refine ⟨i, mem_ready.2 ⟨hun, ops[i], by simp [hlt], fun e he hb => ?_⟩⟩
      have h1 := List.all_eq_true.1 hr i (List.mem_range.2 hlt)
      simp only [Array.getElem?_eq_getElem hlt] at h1
      have h2 := Array.all_eq_true'.1 h1 e he
      simp only [hb, Bool.not_true, Bool.false_or, decide_eq_true_eq] at h2
      have h3 : ¬ listed.getD e.on true = false := fun c => hex ⟨e.on, h2, c⟩
      have h4 : e.on < listed.size := by omega
      simp [h4] at h3 ⊢
      exact h3
def InB (w0 w : World) (lo hi : Nat) : Prop := w0.heap.size ≤ lo ∧ lo ≤ hi ∧ hi ≤ w.heap.size
def ApartB (lo hi : Nat → Nat) (j k : Nat) : Prop := hi j ≤ lo k ∨ hi k ≤ lo j
structure Shut (p : Prop) : Prop where
  out : p
def StepS (P : Program) (md : Region.Mode) (ops : Array Oper) (Q : Exit → Act → World → Prop) (S : World → Prop) (L : List (Nat × Nat)) (G : Nat → (Nat → Value) → Nat → Nat → World → Prop) (a0 : Act) (w0 : World) (p : Nat × Nat) : Prop :=
  ∃ o, ops[p.1]? = some o ∧ o.dst = some p.2 ∧ ∀ (y : Nat → Value) (w : World) (lo hi : Nat → Nat), S w → Below w0.heap.size w0 w →
    (∀ q ∈ L, waitsFor md ops p.1 q.1 = true → InB w0 w (lo q.1) (hi q.1) ∧ G q.1 y (lo q.1) (hi q.1) w) →
    (∀ q ∈ L, ∀ r ∈ L, q.1 ≠ r.1 → waitsFor md ops p.1 q.1 = true → waitsFor md ops p.1 r.1 = true → ApartB lo hi q.1 r.1) →
    ∀ K : Act → World → Prop, (∀ v w', Below w.heap.size w w' → G p.1 (updV y p.2 v) w.heap.size w'.heap.size w' → K ((over a0 (L.map Prod.snd) y).put (some p.2) v) w') →
      Shut (if Region.wanted o (yielded ops (over a0 (L.map Prod.snd) y).tmps) = true then Oper.wp P o (over a0 (L.map Prod.snd) y) w K Q else K ((over a0 (L.map Prod.snd) y).put o.dst undef) w)
theorem upto_stable (L : List (Nat × Nat)) (G : Nat → (Nat → Value) → Nat → Nat → World → Prop) {f : Nat} {listed : Array Bool} {a0 : Act} {w0 : World}
    (hrise : risesB md ops = true) (hsz : listed.size = ops.size) (hot : ∃ ot, ops[t]? = some ot)
    (hall : ∀ i, i < ops.size → listed.getD i true = false → i = t ∨ ∃ p ∈ L, p.1 = i)
    (hun : listed.getD t true = false ∧ ∀ p ∈ L, listed.getD p.1 true = false)
    (hno : (L.map Prod.fst).Nodup) (hnd : (L.map Prod.snd).Nodup) (htl : ∀ p ∈ L, p.1 ≠ t ∧ waitsFor md ops t p.1 = true) (hf : f = L.length + 1)
    (hS : S w0) (hSst : ∀ w w', S w → Below w.heap.size w w' → S w')
    (hG : ∀ p ∈ L, ∀ (y y' : Nat → Value) (lo hi : Nat) (w w' : World), G p.1 y lo hi w → InB w0 w lo hi → Below w.heap.size w w' → y' p.2 = y p.2 → (∀ q ∈ L, waitsFor md ops p.1 q.1 = true → y' q.2 = y q.2) → G p.1 y' lo hi w')
    (hstep : ∀ p ∈ L, StepS P md ops Q S L G a0 w0 p)
    (hlast : ∃ o, ops[t]? = some o ∧ ∀ (y : Nat → Value) (w : World) (lo hi : Nat → Nat), S w → Below w0.heap.size w0 w → (∀ q ∈ L, InB w0 w (lo q.1) (hi q.1) ∧ G q.1 y (lo q.1) (hi q.1) w) → (∀ q ∈ L, ∀ r ∈ L, q.1 ≠ r.1 → ApartB lo hi q.1 r.1) →
      ∀ K : Act → World → Prop, (∀ a' w', Q .normal a' w' → K a' w') → Shut (if Region.wanted o (yielded ops (over a0 (L.map Prod.snd) y).tmps) = true then Oper.wp P o (over a0 (L.map Prod.snd) y) w K Q else K ((over a0 (L.map Prod.snd) y).put o.dst undef) w)) :
    wpUpto P md ops Q S t f listed a0 w0 := by
  -- the same from any state on the way
  have H : ∀ (n f : Nat) (listed : Array Bool) (y : Nat → Value) (w : World) (lo hi : Nat → Nat),
      f = (L.filter fun p => !listed.getD p.1 true).length + 1 → listed.size = ops.size → listed.getD t true = false →
      (∀ i, i < ops.size → listed.getD i true = false → i = t ∨ ∃ p ∈ L, p.1 = i) →
      (∀ p ∈ L, listed.getD p.1 true = true → ∀ q ∈ L, waitsFor md ops p.1 q.1 = true → listed.getD q.1 true = true) →
      S w → Below w0.heap.size w0 w → (∀ q ∈ L, listed.getD q.1 true = true → InB w0 w (lo q.1) (hi q.1) ∧ G q.1 y (lo q.1) (hi q.1) w) →
      (∀ q ∈ L, ∀ r ∈ L, q.1 ≠ r.1 → listed.getD q.1 true = true → listed.getD r.1 true = true → ApartB lo hi q.1 r.1) →
      f ≤ n → wpUpto P md ops Q S t f listed (over a0 (L.map Prod.snd) y) w := by
    intro n
    induction n with
    | zero => intro f listed y w lo hi hf _ _ _ _ _ _ _ _ hn; omega
    | succ n ih =>
      intro f listed y w lo hi hf hsz htun hall hdown hS hB hGs hAp hn
      obtain ⟨ot, hot⟩ := hot
      have htlt : t < ops.size := by
        rcases Nat.lt_or_ge t ops.size with h | h
        · exact h
        · rw [Array.getElem?_eq_none h] at hot; cases hot
      obtain ⟨g, rfl⟩ : ∃ g, f = g + 1 := ⟨_, hf⟩
      have hg : g = (L.filter fun p => !listed.getD p.1 true).length := by omega
      refine ⟨fun h => ?_, fun i hi' => ?_⟩
      · obtain ⟨j, hj⟩ := ready_some hrise hsz (t + 1) t (by omega) htlt htun
        rw [h] at hj
        cases hj
      obtain ⟨hiun, o, hio, hdeps⟩ := mem_ready.1 hi'
      have hilt : i < ops.size := by
        rcases Nat.lt_or_ge i ops.size with h | h
        · exact h
        · rw [Array.getElem?_eq_none h] at hio; cases hio
      have hdep : ∀ k, k < ops.size → waitsFor md ops i k = true → listed.getD k true = true := by
        intro k hk hw
        unfold waitsFor at hw
        rw [hio] at hw
        obtain ⟨e, he, hb⟩ := Array.any_eq_true'.1 hw
        simp only [Bool.and_eq_true, beq_iff_eq] at hb
        have h1 := hdeps e he hb.1
        rw [hb.2] at h1
        have hk' : k < listed.size := by omega
        simp [hk'] at h1 ⊢
        exact h1
      have hLlt : ∀ p ∈ L, p.1 < ops.size := by
        intro p hp
        obtain ⟨o', ho', _⟩ := hstep p hp
        rcases Nat.lt_or_ge p.1 ops.size with h | h
        · exact h
        · rw [Array.getElem?_eq_none h] at ho'; cases ho'
      have key : ∀ K : Act → World → Prop, (if Region.wanted o (yielded ops (over a0 (L.map Prod.snd) y).tmps) = true then Oper.wp P o (over a0 (L.map Prod.snd) y) w K Q else K ((over a0 (L.map Prod.snd) y).put o.dst undef) w) → wpOp P ops Q i K (over a0 (L.map Prod.snd) y) w := by
        intro K h1
        unfold wpOp
        simp only [hio]
        split
        · rename_i hw
          rw [if_pos hw] at h1
          exact .inl h1
        · rename_i hw
          rw [if_neg hw] at h1
          exact h1
      refine key _ ?_
      by_cases hit : i = t
      · subst hit
        have hl : ∀ p ∈ L, listed.getD p.1 true = true := fun p hp => hdep p.1 (hLlt p hp) (htl p hp).2
        obtain ⟨o2, ho2, hlst⟩ := hlast
        rw [hio] at ho2
        cases ho2
        refine (hlst y w lo hi hS hB (fun q hq => hGs q hq (hl q hq)) (fun q hq r hr hne => hAp q hq r hr hne (hl q hq) (hl r hr)) _ (fun a' w' hq => ⟨fun h => absurd rfl h, upto_done ?_ hq⟩)).out
        rw [List.eq_nil_iff_forall_not_mem]
        intro j hj
        obtain ⟨hjun, oj, hjo, _⟩ := mem_ready.1 hj
        have hjl : j < ops.size := by
          rcases Nat.lt_or_ge j ops.size with h | h
          · exact h
          · rw [Array.getElem?_eq_none h] at hjo; cases hjo
        by_cases hji : i = j
        · subst hji
          have hk' : i < listed.size := by omega
          simp [hk'] at hjun
        · rw [getD_set_ne true hji] at hjun
          rcases hall j hjl hjun with h | ⟨p, hp, h⟩
          · exact hji h.symm
          · rw [← h, hl p hp] at hjun; cases hjun
      · obtain ⟨p, hp, hpi⟩ := (hall i hilt hiun).resolve_left hit
        subst hpi
        obtain ⟨o', ho', hdst, hst⟩ := hstep p hp
        rw [hio] at ho'
        cases ho'
        refine (hst y w lo hi hS hB (fun q hq hw => hGs q hq (hdep q.1 (hLlt q hq) hw)) (fun q hq r hr hne h1 h2 => hAp q hq r hr hne (hdep q.1 (hLlt q hq) h1) (hdep r.1 (hLlt r hr) h2)) _ (fun v w' hb hGp => ⟨fun _ => hSst _ _ hS hb, ?_⟩)).out
        rw [over_put (List.mem_map_of_mem hp) hnd]
        have hlt : p.1 < listed.size := by omega
        have hself : (listed.setIfInBounds p.1 true).getD p.1 true = true := by simp [hlt]
        have hoth : ∀ j, p.1 ≠ j → (listed.setIfInBounds p.1 true).getD j true = listed.getD j true := fun j h => getD_set_ne true h
        have hinj : ∀ q ∈ L, q.1 = p.1 → q = p := fun q hq h => inj_fst L hno q hq p hp h
        have hinj2 : ∀ q ∈ L, q.2 = p.2 → q = p := fun q hq h => inj_snd L hnd q hq p hp h
        refine ih g (listed.setIfInBounds p.1 true) (updV y p.2 v) w' (fun j => if j = p.1 then w.heap.size else lo j) (fun j => if j = p.1 then w'.heap.size else hi j) ?_ (by simpa using hsz) ?_ ?_ ?_ (hSst _ _ hS hb) (hB.trans (hb.mono hB.size)) ?_ ?_ (by omega)
        · rw [hg]
          refine filter_less hno hp (by rw [hiun]; rfl) (by rw [hself]; rfl) (fun q hq hne => ?_)
          rw [hoth _ (fun c => hne (hinj q hq c.symm))]
        · rw [hoth _ (fun h => hit h)]; exact htun
        · intro j hj hju
          by_cases e : p.1 = j
          · subst e; rw [hself] at hju; cases hju
          · rw [hoth _ e] at hju; exact hall j hj hju
        · intro q hq hql r hr hw
          by_cases e : p.1 = r.1
          · rw [← e]; exact hself
          · rw [hoth _ e]
            by_cases e2 : p.1 = q.1
            · rw [← e2] at hw; exact hdep r.1 (hLlt r hr) hw
            · rw [hoth _ e2] at hql; exact hdown q hq hql r hr hw
        · intro q hq hql
          by_cases e : q.1 = p.1
          · have e2 := hinj q hq e
            subst e2
            simp only [if_true]
            exact ⟨⟨hB.size, hb.size, Nat.le_refl _⟩, hGp⟩
          · rw [hoth _ (Ne.symm e)] at hql
            simp only [if_neg e]
            obtain ⟨h1, h2⟩ := hGs q hq hql
            refine ⟨⟨h1.1, h1.2.1, Nat.le_trans h1.2.2 hb.size⟩, hG q hq y (updV y p.2 v) _ _ w w' h2 h1 hb ?_ ?_⟩
            · exact if_neg (fun c => e (by rw [hinj2 q hq c]))
            · intro r hr hw
              refine if_neg (fun c => ?_)
              have e3 := hinj2 r hr c
              subst e3
              rw [hdown q hq hql _ hr hw] at hiun
              cases hiun
        · intro q hq r hr hne hql hrl
          unfold ApartB
          by_cases e : q.1 = p.1
          · have e' : r.1 ≠ p.1 := fun c => hne (e.trans c.symm)
            rw [hoth _ (Ne.symm e')] at hrl
            simp only [if_pos e, if_neg e']
            exact .inr (hGs r hr hrl).1.2.2
          · rw [hoth _ (Ne.symm e)] at hql
            by_cases e' : r.1 = p.1
            · simp only [if_neg e, if_pos e']
              exact .inl (hGs q hq hql).1.2.2
            · rw [hoth _ (Ne.symm e')] at hrl
              simp only [if_neg e, if_neg e']
              exact hAp q hq r hr hne hql hrl
  have h0 := H f f listed (fun s => a0.tmps.getD s undef) w0 (fun _ => 0) (fun _ => 0) (by
    rw [hf, List.filter_eq_self.2 (fun p hp => by rw [hun.2 p hp]; rfl)]) hsz hun.1 hall (fun p hp h => by rw [hun.2 p hp] at h; cases h) hS (Below.refl _ _) (fun q hq h => by rw [hun.2 q hq] at h; cases h) (fun q hq r hr hne h => by rw [hun.2 q hq] at h; cases h) (Nat.le_refl _)
  rw [over_self] at h0
  exact h0
def checkS (md : Region.Mode) (ops : Array Oper) (listed : Array Bool) (t f : Nat) (L : List (Nat × Nat)) : Bool :=
  risesB md ops && decide (listed.size = ops.size) && (ops[t]?).isSome && ((List.range ops.size).all fun i => listed.getD i true || decide (i = t) || L.any fun p => decide (p.1 = i)) &&
    !listed.getD t true && (L.all fun p => !listed.getD p.1 true) && decide (L.map Prod.fst).Nodup && decide (L.map Prod.snd).Nodup && (L.all fun p => decide (p.1 ≠ t) && waitsFor md ops t p.1) && decide (f = L.length + 1)
theorem upto_stable' (L : List (Nat × Nat)) (G : Nat → (Nat → Value) → Nat → Nat → World → Prop) {f : Nat} {listed : Array Bool} {a0 : Act} {w0 : World} (hc : checkS md ops listed t f L = true)
    (hS : S w0) (hSst : ∀ w w', S w → Below w.heap.size w w' → S w')
    (hG : ∀ p ∈ L, ∀ (y y' : Nat → Value) (lo hi : Nat) (w w' : World), G p.1 y lo hi w → InB w0 w lo hi → Below w.heap.size w w' → y' p.2 = y p.2 → (∀ q ∈ L, waitsFor md ops p.1 q.1 = true → y' q.2 = y q.2) → G p.1 y' lo hi w')
    (hstep : ∀ p ∈ L, StepS P md ops Q S L G a0 w0 p)
    (hlast : ∃ o, ops[t]? = some o ∧ ∀ (y : Nat → Value) (w : World) (lo hi : Nat → Nat), S w → Below w0.heap.size w0 w → (∀ q ∈ L, InB w0 w (lo q.1) (hi q.1) ∧ G q.1 y (lo q.1) (hi q.1) w) → (∀ q ∈ L, ∀ r ∈ L, q.1 ≠ r.1 → ApartB lo hi q.1 r.1) →
      ∀ K : Act → World → Prop, (∀ a' w', Q .normal a' w' → K a' w') → Shut (if Region.wanted o (yielded ops (over a0 (L.map Prod.snd) y).tmps) = true then Oper.wp P o (over a0 (L.map Prod.snd) y) w K Q else K ((over a0 (L.map Prod.snd) y).put o.dst undef) w)) :
    wpUpto P md ops Q S t f listed a0 w0 := by
  unfold checkS at hc
  simp only [Bool.and_eq_true, decide_eq_true_eq, List.all_eq_true, List.any_eq_true, Bool.or_eq_true, Bool.not_eq_true', List.mem_range] at hc
  obtain ⟨⟨⟨⟨⟨⟨⟨⟨⟨h1, h2⟩, h3⟩, h4⟩, h5⟩, h6⟩, h7⟩, h8⟩, h9⟩, h10⟩ := hc
  refine upto_stable L G h1 h2 (Option.isSome_iff_exists.1 h3) (fun i hi hu => ?_) ⟨h5, h6⟩ h7 h8 h9 h10 hS hSst hG hstep hlast
  rcases h4 i hi with (h | h) | h
  · rw [hu] at h; cases h
  · exact .inl h
  · exact .inr h
end

end Go.Proofs.YtecfelacdapdgaaGreat

/-
  As RegS, where an operation may also write into what another one made, and takes it over (an append to what was just made).
-/
namespace Go.Proofs.YtecfelacdapdgaaGreat
open Go.RowKit

section
variable {P : Program} {ops : Array Oper} {Q : Exit → Act → World → Prop} {md : Region.Mode} {S : World → Prop} {t : Nat}

def Alive (L : List (Nat × Nat)) (cons : Nat → List Nat) (listed : Array Bool) (j : Nat) : Prop := listed.getD j true = true ∧ ∀ p ∈ L, listed.getD p.1 true = true → j ∉ cons p.1
def Taken (cons : Nat → List Nat) (Φ : Nat → Nat → Prop) (i b : Nat) : Prop := ∃ j ∈ cons i, Φ j b
def FIn (w0 w : World) (F : Nat → Prop) : Prop := ∀ b, F b → w0.heap.size ≤ b ∧ b < w.heap.size
def FApart (F F' : Nat → Prop) : Prop := ∀ b, F b → ¬ F' b
def StepC (P : Program) (md : Region.Mode) (ops : Array Oper) (Q : Exit → Act → World → Prop) (S : World → Prop) (L : List (Nat × Nat)) (cons : Nat → List Nat) (G : Nat → (Nat → Value) → (Nat → Prop) → World → Prop) (a0 : Act) (w0 : World) (p : Nat × Nat) : Prop :=
  ∃ o, ops[p.1]? = some o ∧ o.dst = some p.2 ∧ ∀ (y : Nat → Value) (w : World) (Φ : Nat → Nat → Prop), S w → Below w0.heap.size w0 w →
    (∀ q ∈ L, waitsFor md ops p.1 q.1 = true → (q.1 ∈ cons p.1 ∨ ∀ r ∈ L, q.1 ∉ cons r.1) → FIn w0 w (Φ q.1) ∧ G q.1 y (Φ q.1) w) →
    ∀ K : Act → World → Prop, (∀ v w' F', Mod (Taken cons Φ p.1) w w' → (∀ b, F' b → Taken cons Φ p.1 b ∨ (w.heap.size ≤ b ∧ b < w'.heap.size)) → G p.1 (updV y p.2 v) F' w' → K ((over a0 (L.map Prod.snd) y).put (some p.2) v) w') →
      Shut (if Region.wanted o (yielded ops (over a0 (L.map Prod.snd) y).tmps) = true then Oper.wp P o (over a0 (L.map Prod.snd) y) w K Q else K ((over a0 (L.map Prod.snd) y).put o.dst undef) w)
theorem upto_cons (L : List (Nat × Nat)) (cons : Nat → List Nat) (G : Nat → (Nat → Value) → (Nat → Prop) → World → Prop) {f : Nat} {listed : Array Bool} {a0 : Act} {w0 : World}
    (hrise : risesB md ops = true) (hsz : listed.size = ops.size) (hot : ∃ ot, ops[t]? = some ot)
    (hall : ∀ i, i < ops.size → listed.getD i true = false → i = t ∨ ∃ p ∈ L, p.1 = i)
    (hun : listed.getD t true = false ∧ ∀ p ∈ L, listed.getD p.1 true = false)
    (hno : (L.map Prod.fst).Nodup) (hnd : (L.map Prod.snd).Nodup) (htl : ∀ p ∈ L, p.1 ≠ t ∧ waitsFor md ops t p.1 = true) (hf : f = L.length + 1)
    (hcons : ∀ p ∈ L, ∀ j ∈ cons p.1, waitsFor md ops p.1 j = true ∧ ∃ q ∈ L, q.1 = j) (huniq : ∀ p ∈ L, ∀ r ∈ L, p.1 ≠ r.1 → ∀ j ∈ cons p.1, j ∉ cons r.1)
    (hS : S w0) (hSst : ∀ (F : Nat → Prop) (w w' : World), S w → Mod F w w' → (∀ b, F b → w0.heap.size ≤ b) → S w')
    (hG : ∀ p ∈ L, ∀ (y y' : Nat → Value) (F F' : Nat → Prop) (w w' : World), G p.1 y F w → FIn w0 w F → Mod F' w w' → FApart F' F → (∀ b, F' b → w0.heap.size ≤ b) → y' p.2 = y p.2 → (∀ q ∈ L, waitsFor md ops p.1 q.1 = true → y' q.2 = y q.2) → G p.1 y' F w')
    (hstep : ∀ p ∈ L, StepC P md ops Q S L cons G a0 w0 p)
    (hlast : ∃ o, ops[t]? = some o ∧ ∀ (y : Nat → Value) (w : World) (Φ : Nat → Nat → Prop), S w → Below w0.heap.size w0 w → (∀ q ∈ L, (∀ r ∈ L, q.1 ∉ cons r.1) → FIn w0 w (Φ q.1) ∧ G q.1 y (Φ q.1) w) → (∀ q ∈ L, ∀ r ∈ L, q.1 ≠ r.1 → (∀ p ∈ L, q.1 ∉ cons p.1) → (∀ p ∈ L, r.1 ∉ cons p.1) → FApart (Φ q.1) (Φ r.1)) →
      ∀ K : Act → World → Prop, (∀ a' w', Q .normal a' w' → K a' w') → Shut (if Region.wanted o (yielded ops (over a0 (L.map Prod.snd) y).tmps) = true then Oper.wp P o (over a0 (L.map Prod.snd) y) w K Q else K ((over a0 (L.map Prod.snd) y).put o.dst undef) w)) :
    wpUpto P md ops Q S t f listed a0 w0 := by
  have H : ∀ (n f : Nat) (listed : Array Bool) (y : Nat → Value) (w : World) (Φ : Nat → Nat → Prop),
      f = (L.filter fun p => !listed.getD p.1 true).length + 1 → listed.size = ops.size → listed.getD t true = false →
      (∀ i, i < ops.size → listed.getD i true = false → i = t ∨ ∃ p ∈ L, p.1 = i) →
      (∀ p ∈ L, listed.getD p.1 true = true → ∀ q ∈ L, waitsFor md ops p.1 q.1 = true → listed.getD q.1 true = true) →
      S w → Below w0.heap.size w0 w → (∀ q ∈ L, Alive L cons listed q.1 → FIn w0 w (Φ q.1) ∧ G q.1 y (Φ q.1) w) →
      (∀ q ∈ L, ∀ r ∈ L, q.1 ≠ r.1 → Alive L cons listed q.1 → Alive L cons listed r.1 → FApart (Φ q.1) (Φ r.1)) →
      f ≤ n → wpUpto P md ops Q S t f listed (over a0 (L.map Prod.snd) y) w := by
    intro n
    induction n with
    | zero => intro f listed y w Φ hf _ _ _ _ _ _ _ _ hn; omega
    | succ n ih =>
      intro f listed y w Φ hf hsz htun hall hdown hS hB hGs hAp hn
      obtain ⟨ot, hot⟩ := hot
      have htlt : t < ops.size := by
        rcases Nat.lt_or_ge t ops.size with h | h
        · exact h
        · rw [Array.getElem?_eq_none h] at hot; cases hot
      obtain ⟨g, rfl⟩ : ∃ g, f = g + 1 := ⟨_, hf⟩
      have hg : g = (L.filter fun p => !listed.getD p.1 true).length := by omega
      refine ⟨fun h => ?_, fun i hi' => ?_⟩
      · obtain ⟨j, hj⟩ := ready_some hrise hsz (t + 1) t (by omega) htlt htun
        rw [h] at hj
        cases hj
      obtain ⟨hiun, o, hio, hdeps⟩ := mem_ready.1 hi'
      have hilt : i < ops.size := by
        rcases Nat.lt_or_ge i ops.size with h | h
        · exact h
        · rw [Array.getElem?_eq_none h] at hio; cases hio
      have hdep : ∀ k, k < ops.size → waitsFor md ops i k = true → listed.getD k true = true := by
        intro k hk hw
        unfold waitsFor at hw
        rw [hio] at hw
        obtain ⟨e, he, hb⟩ := Array.any_eq_true'.1 hw
        simp only [Bool.and_eq_true, beq_iff_eq] at hb
        have h1 := hdeps e he hb.1
        rw [hb.2] at h1
        have hk' : k < listed.size := by omega
        simp [hk'] at h1 ⊢
        exact h1
      have hLlt : ∀ p ∈ L, p.1 < ops.size := by
        intro p hp
        obtain ⟨o', ho', _⟩ := hstep p hp
        rcases Nat.lt_or_ge p.1 ops.size with h | h
        · exact h
        · rw [Array.getElem?_eq_none h] at ho'; cases ho'
      have key : ∀ K : Act → World → Prop, (if Region.wanted o (yielded ops (over a0 (L.map Prod.snd) y).tmps) = true then Oper.wp P o (over a0 (L.map Prod.snd) y) w K Q else K ((over a0 (L.map Prod.snd) y).put o.dst undef) w) → wpOp P ops Q i K (over a0 (L.map Prod.snd) y) w := by
        intro K h1
        unfold wpOp
        simp only [hio]
        split
        · rename_i hw
          rw [if_pos hw] at h1
          exact .inl h1
        · rename_i hw
          rw [if_neg hw] at h1
          exact h1
      refine key _ ?_
      by_cases hit : i = t
      · subst hit
        have hl : ∀ p ∈ L, listed.getD p.1 true = true := fun p hp => hdep p.1 (hLlt p hp) (htl p hp).2
        obtain ⟨o2, ho2, hlst⟩ := hlast
        rw [hio] at ho2
        cases ho2
        refine (hlst y w Φ hS hB (fun q hq hc => hGs q hq ⟨hl q hq, fun p hp _ => hc p hp⟩) (fun q hq r hr hne h1 h2 => hAp q hq r hr hne ⟨hl q hq, fun p hp _ => h1 p hp⟩ ⟨hl r hr, fun p hp _ => h2 p hp⟩) _ (fun a' w' hq => ⟨fun h => absurd rfl h, upto_done ?_ hq⟩)).out
        rw [List.eq_nil_iff_forall_not_mem]
        intro j hj
        obtain ⟨hjun, oj, hjo, _⟩ := mem_ready.1 hj
        have hjl : j < ops.size := by
          rcases Nat.lt_or_ge j ops.size with h | h
          · exact h
          · rw [Array.getElem?_eq_none h] at hjo; cases hjo
        by_cases hji : i = j
        · subst hji
          have hk' : i < listed.size := by omega
          simp [hk'] at hjun
        · rw [getD_set_ne true hji] at hjun
          rcases hall j hjl hjun with h | ⟨p, hp, h⟩
          · exact hji h.symm
          · rw [← h, hl p hp] at hjun; cases hjun
      · obtain ⟨p, hp, hpi⟩ := (hall i hilt hiun).resolve_left hit
        subst hpi
        obtain ⟨o', ho', hdst, hst⟩ := hstep p hp
        rw [hio] at ho'
        cases ho'
        -- what p takes over is there
        have hcal : ∀ q ∈ L, q.1 ∈ cons p.1 → Alive L cons listed q.1 := fun q hq hc => ⟨hdep q.1 (hLlt q hq) (hcons p hp _ hc).1, fun r hr hrl hcr => by
          by_cases e : r.1 = p.1
          · rw [e, hiun] at hrl; cases hrl
          · exact huniq p hp r hr (Ne.symm e) q.1 hc hcr⟩
        refine (hst y w Φ hS hB (fun q hq hw hc => ?_) _ (fun v w' F' hm hF' hGp => ⟨fun _ => hSst _ _ _ hS hm ?_, ?_⟩)).out
        · rcases hc with hc | hc
          · exact hGs q hq (hcal q hq hc)
          · exact hGs q hq ⟨hdep q.1 (hLlt q hq) hw, fun r hr _ => hc r hr⟩
        · rintro b ⟨j, hj, hb⟩
          obtain ⟨_, q, hq, rfl⟩ := hcons p hp j hj
          exact ((hGs q hq (hcal q hq hj)).1 b hb).1
        have hTk : ∀ b, Taken cons Φ p.1 b → w0.heap.size ≤ b ∧ b < w.heap.size := by
          rintro b ⟨j, hj, hb⟩
          obtain ⟨_, q, hq, rfl⟩ := hcons p hp j hj
          exact (hGs q hq (hcal q hq hj)).1 b hb
        rw [over_put (List.mem_map_of_mem hp) hnd]
        have hlt : p.1 < listed.size := by omega
        have hself' : (listed.setIfInBounds p.1 true).getD p.1 true = true := by simp [hlt]
        have hoth : ∀ j, p.1 ≠ j → (listed.setIfInBounds p.1 true).getD j true = listed.getD j true := fun j h => getD_set_ne true h
        have hinj : ∀ q ∈ L, q.1 = p.1 → q = p := fun q hq h => inj_fst L hno q hq p hp h
        have hinj2 : ∀ q ∈ L, q.2 = p.2 → q = p := fun q hq h => inj_snd L hnd q hq p hp h
        -- who is alive behind p, and is not p, was alive ahead of it, and is not taken over
        have hback : ∀ q ∈ L, q.1 ≠ p.1 → Alive L cons (listed.setIfInBounds p.1 true) q.1 → Alive L cons listed q.1 ∧ q.1 ∉ cons p.1 := fun q hq e ha => by
          refine ⟨⟨by rw [← hoth _ (Ne.symm e)]; exact ha.1, fun r hr hrl => ?_⟩, ha.2 p hp hself'⟩
          by_cases e2 : r.1 = p.1
          · rw [e2, hiun] at hrl; cases hrl
          · exact ha.2 r hr (by rw [hoth _ (Ne.symm e2)]; exact hrl)
        have hTq : ∀ q ∈ L, Alive L cons listed q.1 → q.1 ∉ cons p.1 → FApart (Taken cons Φ p.1) (Φ q.1) := by
          rintro q hq ha hn b ⟨j, hj, hb⟩
          obtain ⟨_, r, hr, rfl⟩ := hcons p hp j hj
          exact hAp r hr q hq (fun e => hn (e ▸ hj)) (hcal r hr hj) ha b hb
        refine ih g (listed.setIfInBounds p.1 true) (updV y p.2 v) w' (fun j => if j = p.1 then F' else Φ j) ?_ (by simpa using hsz) ?_ ?_ ?_ (hSst _ _ _ hS hm (fun b hb => (hTk b hb).1)) (hm.below hB hB.size (fun b hb => (hTk b hb).1)) ?_ ?_ (by omega)
        · rw [hg]
          refine filter_less hno hp (by rw [hiun]; rfl) (by rw [hself']; rfl) (fun q hq hne => ?_)
          rw [hoth _ (fun c => hne (hinj q hq c.symm))]
        · rw [hoth _ (fun h => hit h)]; exact htun
        · intro j hj hju
          by_cases e : p.1 = j
          · subst e; rw [hself'] at hju; cases hju
          · rw [hoth _ e] at hju; exact hall j hj hju
        · intro q hq hql r hr hw
          by_cases e : p.1 = r.1
          · rw [← e]; exact hself'
          · rw [hoth _ e]
            by_cases e2 : p.1 = q.1
            · rw [← e2] at hw; exact hdep r.1 (hLlt r hr) hw
            · rw [hoth _ e2] at hql; exact hdown q hq hql r hr hw
        · intro q hq ha
          by_cases e : q.1 = p.1
          · have e2 := hinj q hq e
            subst e2
            simp only [if_true]
            refine ⟨fun b hb => ?_, hGp⟩
            rcases hF' b hb with h | h
            · have := hTk b h; have := hm.size; omega
            · have := hB.size; omega
          · obtain ⟨h1, h2⟩ := hback q hq e ha
            simp only [if_neg e]
            obtain ⟨g1, g2⟩ := hGs q hq h1
            refine ⟨fun b hb => ⟨(g1 b hb).1, Nat.lt_of_lt_of_le (g1 b hb).2 hm.size⟩, hG q hq y (updV y p.2 v) _ _ w w' g2 g1 hm (hTq q hq h1 h2) (fun b hb => (hTk b hb).1) ?_ ?_⟩
            · exact if_neg (fun c => e (by rw [hinj2 q hq c]))
            · intro r hr hw
              refine if_neg (fun c => ?_)
              have e3 := hinj2 r hr c
              subst e3
              rw [hdown q hq h1.1 _ hr hw] at hiun
              cases hiun
        · intro q hq r hr hne hqa hra
          by_cases e : q.1 = p.1
          · have e' : r.1 ≠ p.1 := fun c => hne (e.trans c.symm)
            obtain ⟨h1, h2⟩ := hback r hr e' hra
            simp only [if_pos e, if_neg e']
            intro b hb hb2
            rcases hF' b hb with h | h
            · exact hTq r hr h1 h2 b h hb2
            · have := ((hGs r hr h1).1 b hb2).2; omega
          · obtain ⟨h1, h2⟩ := hback q hq e hqa
            by_cases e' : r.1 = p.1
            · simp only [if_neg e, if_pos e']
              intro b hb hb2
              rcases hF' b hb2 with h | h
              · exact hTq q hq h1 h2 b h hb
              · have := ((hGs q hq h1).1 b hb).2; omega
            · obtain ⟨h3, _⟩ := hback r hr e' hra
              simp only [if_neg e, if_neg e']
              exact hAp q hq r hr hne h1 h3
  have h0 := H f f listed (fun s => a0.tmps.getD s undef) w0 (fun _ _ => False) (by
    rw [hf, List.filter_eq_self.2 (fun p hp => by rw [hun.2 p hp]; rfl)]) hsz hun.1 hall (fun p hp h => by rw [hun.2 p hp] at h; cases h) hS (Below.refl _ _) (fun q hq h => by have h := h.1; rw [hun.2 q hq] at h; cases h) (fun q hq r hr hne h => by have h := h.1; rw [hun.2 q hq] at h; cases h) (Nat.le_refl _)
  rw [over_self] at h0
  exact h0
def checkC (md : Region.Mode) (ops : Array Oper) (listed : Array Bool) (t f : Nat) (L : List (Nat × Nat)) (cons : Nat → List Nat) : Bool :=
  checkS md ops listed t f L && (L.all fun p => (cons p.1).all fun j => waitsFor md ops p.1 j && L.any fun q => decide (q.1 = j)) && (L.all fun p => L.all fun r => decide (p.1 = r.1) || (cons p.1).all fun j => decide (j ∉ cons r.1))
theorem upto_cons' (L : List (Nat × Nat)) (cons : Nat → List Nat) (G : Nat → (Nat → Value) → (Nat → Prop) → World → Prop) {f : Nat} {listed : Array Bool} {a0 : Act} {w0 : World} (hc : checkC md ops listed t f L cons = true)
    (hS : S w0) (hSst : ∀ (F : Nat → Prop) (w w' : World), S w → Mod F w w' → (∀ b, F b → w0.heap.size ≤ b) → S w')
    (hG : ∀ p ∈ L, ∀ (y y' : Nat → Value) (F F' : Nat → Prop) (w w' : World), G p.1 y F w → FIn w0 w F → Mod F' w w' → FApart F' F → (∀ b, F' b → w0.heap.size ≤ b) → y' p.2 = y p.2 → (∀ q ∈ L, waitsFor md ops p.1 q.1 = true → y' q.2 = y q.2) → G p.1 y' F w')
    (hstep : ∀ p ∈ L, StepC P md ops Q S L cons G a0 w0 p)
    (hlast : ∃ o, ops[t]? = some o ∧ ∀ (y : Nat → Value) (w : World) (Φ : Nat → Nat → Prop), S w → Below w0.heap.size w0 w → (∀ q ∈ L, (∀ r ∈ L, q.1 ∉ cons r.1) → FIn w0 w (Φ q.1) ∧ G q.1 y (Φ q.1) w) → (∀ q ∈ L, ∀ r ∈ L, q.1 ≠ r.1 → (∀ p ∈ L, q.1 ∉ cons p.1) → (∀ p ∈ L, r.1 ∉ cons p.1) → FApart (Φ q.1) (Φ r.1)) →
      ∀ K : Act → World → Prop, (∀ a' w', Q .normal a' w' → K a' w') → Shut (if Region.wanted o (yielded ops (over a0 (L.map Prod.snd) y).tmps) = true then Oper.wp P o (over a0 (L.map Prod.snd) y) w K Q else K ((over a0 (L.map Prod.snd) y).put o.dst undef) w)) :
    wpUpto P md ops Q S t f listed a0 w0 := by
  unfold checkC checkS at hc
  simp only [Bool.and_eq_true, decide_eq_true_eq, List.all_eq_true, List.any_eq_true, Bool.or_eq_true, Bool.not_eq_true', List.mem_range] at hc
  obtain ⟨⟨⟨⟨⟨⟨⟨⟨⟨⟨⟨h1, h2⟩, h3⟩, h4⟩, h5⟩, h6⟩, h7⟩, h8⟩, h9⟩, h10⟩, h11⟩, h13⟩ := hc
  refine upto_cons L cons G h1 h2 (Option.isSome_iff_exists.1 h3) (fun i hi hu => ?_) ⟨h5, h6⟩ h7 h8 h9 h10 h11 (fun p hp r hr hne => (h13 p hp r hr).resolve_left hne) hS hSst hG hstep hlast
  rcases h4 i hi with (h | h) | h
  · rw [hu] at h; cases h
  · exact .inl h
  · exact .inr h
end

end Go.Proofs.YtecfelacdapdgaaGreat


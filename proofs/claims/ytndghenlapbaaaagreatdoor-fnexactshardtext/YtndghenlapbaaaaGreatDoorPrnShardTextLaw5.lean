import Derived.Test.YtndghenlapbaaaaGreatDoorPrnShardTextLaw1
import Derived.Deep.RegionHeld3
import Derived.Test.YtndghenlapbaaaaGreatDoorPrnShardTextLaw4
import Derived.BigQuiet
import Derived.Deep.QuietTactic
import Derived.Test.YtndghenlapbaaaaGreatDoorPrnShardTextLaw2

/-
  A region that draws its order and ends in one store (number t): what is asked of the world (S) need not hold behind that store.
-/
namespace Go.Proofs.YtndghenlapbaaaaGreatDoor
open Go.RowKit

section
variable {P : Program} {ops : Array Oper} {Q : Exit → Act → World → Prop} {md : Region.Mode} {S : World → Prop} {t : Nat}

def wpUpto (P : Program) (md : Region.Mode) (ops : Array Oper) (Q : Exit → Act → World → Prop) (S : World → Prop) (t : Nat) : Nat → Array Bool → Act → World → Prop
  | 0, listed, a, w => Region.ready md ops listed = [] ∧ Q .normal a w
  | f + 1, listed, a, w => (Region.ready md ops listed = [] → Q .normal a w) ∧ ∀ i ∈ Region.ready md ops listed, wpOp P ops Q i (fun a' w' => (i ≠ t → S w') ∧ wpUpto P md ops Q S t f (listed.setIfInBounds i true) a' w') a w
theorem upto_any : ∀ (f : Nat) (listed : Array Bool) (a : Act) (w : World), wpUpto P md ops Q S t f listed a w → wpAny P md ops Q f listed a w
  | 0, _, _, _, h => h
  | f + 1, _, _, _, h => ⟨h.1, fun i hi => wpOp_mono (fun _ _ h' => upto_any f _ _ _ h'.2) (h.2 i hi)⟩
def waitsFor (md : Region.Mode) (ops : Array Oper) (t i : Nat) : Bool :=
  match ops[t]? with
  | some o => o.after.any (fun e => Region.binds md e && e.on == i)
  | none => false
theorem upto_first {i : Nat} {oi : Oper} {v : Value} (hi : ops[i]? = some oi) (hsel : Region.noSelect ops = true) (hw : waitsFor md ops t i = true)
    (hQ : ∀ c a w, Q (.panic c) (a.put oi.dst v) w → Q (.panic c) a w) :
    ∀ (f : Nat) (listed : Array Bool) (a : Act) (w : World),
      (∀ j oj, ops[j]? = some oj → j ≠ i → listed.getD j true = false → (∀ e ∈ oj.after, Region.binds md e = true → e.on ≠ i) → oi.apart ops oj = true) →
      i ∈ Region.ready md ops listed → YieldsIf P ops S oi v a → S w →
      wpUpto P md ops Q S t f (listed.setIfInBounds i true) (a.put oi.dst v) w → wpUpto P md ops Q S t (f + 1) listed a w := by
  intro f
  induction f with
  | zero =>
    intro listed a w _ hr hy hS H
    refine ⟨fun h => (by rw [h] at hr; cases hr), fun j hj => ?_⟩
    by_cases hji : j = i
    · subst hji
      exact hy.wpOp hi hS ⟨fun _ => hS, H⟩
    · have hm := ready_mono hj hji
      rw [H.1] at hm
      cases hm
  | succ f ih =>
    intro listed a w hfree hr hy hS H
    refine ⟨fun h => (by rw [h] at hr; cases hr), fun j hj => ?_⟩
    by_cases hji : j = i
    · subst hji
      exact hy.wpOp hi hS ⟨fun _ => hS, H⟩
    · obtain ⟨hjun, oj, hoj, hall⟩ := mem_ready.1 hj
      have hun := (mem_ready.1 hr).1
      have hnl : ¬ listed.getD i false = true := by
        intro h1
        rcases Nat.lt_or_ge i listed.size with h' | h'
        · simp [h'] at hun h1
          rw [hun] at h1
          cases h1
        · simp [Array.getElem?_eq_none h'] at h1
      have hnot : ∀ e ∈ oj.after, Region.binds md e = true → e.on ≠ i := fun e he hb heq => hnl (by rw [← heq]; exact hall e he hb)
      have hjt : j ≠ t := by
        rintro rfl
        unfold waitsFor at hw
        rw [hoj] at hw
        obtain ⟨e, he, hb⟩ := Array.any_eq_true'.1 hw
        simp only [Bool.and_eq_true, beq_iff_eq] at hb
        exact hnot e he hb.1 hb.2
      have h1 := H.2 j (ready_mono hj hji)
      have h2 := wpOp_putIf hoj (hfree j oj hoj hji hjun hnot) (fun cs b => Region.noSelect_spec hsel i oi cs b hi) (fun cs b => Region.noSelect_spec hsel j oj cs b hoj) hQ hy h1
      refine wpOp_mono (fun a' w' h3 => ⟨h3.2.1, ih (listed.setIfInBounds j true) a' w' ?_ (ready_mono hr (Ne.symm hji)) h3.1 (h3.2.1 hjt) ?_⟩) h2
      · intro k ok hk hki hunk hno
        refine hfree k ok hk hki ?_ hno
        by_cases hjk : j = k
        · subst hjk; exact hjun
        · rw [getD_set_ne true hjk] at hunk; exact hunk
      · rw [Array.setIfInBounds_comm _ _ hji]
        exact h3.2.2
theorem upto_take {i : Nat} {oi : Oper} {v : Value} {f : Nat} {listed : Array Bool} {a : Act} {w : World} (hi : ops[i]? = some oi) (hsel : Region.noSelect ops = true) (hw : waitsFor md ops t i = true)
    (hf : Region.free md ops listed i = true) (hr : (Region.ready md ops listed).contains i = true) (hQ : ∀ c a w, Q (.panic c) (a.put oi.dst v) w → Q (.panic c) a w)
    (hwd : Region.wanted oi (yielded ops a.tmps) = true) (hS : S w) (hy : ∀ w, S w → (execOp a.eval oi).run P w = .ok (.value v) w)
    (h : wpUpto P md ops Q S t f (listed.setIfInBounds i true) (a.put oi.dst v) w) : wpUpto P md ops Q S t (f + 1) listed a w :=
  upto_first hi hsel hw hQ f listed a w (Region.free_spec hi hf) (by simpa using hr) (Or.inl ⟨hwd, hy⟩) hS h
theorem upto_step {i : Nat} {o : Oper} {f : Nat} {listed : Array Bool} {a : Act} {w : World} (hr : Region.ready md ops listed = [i]) (hi : ops[i]? = some o)
    (h : ∀ K : Act → World → Prop, (∀ a' w', (i ≠ t → S w') → wpUpto P md ops Q S t f (listed.setIfInBounds i true) a' w' → K a' w') → if Region.wanted o (yielded ops a.tmps) = true then Oper.wp P o a w K Q else K (a.put o.dst undef) w) :
    wpUpto P md ops Q S t (f + 1) listed a w := by
  refine ⟨fun h0 => (by rw [hr] at h0; cases h0), fun j hj => ?_⟩
  rw [hr] at hj
  have e : j = i := by simpa using hj
  subst e
  have h1 := h (fun a' w' => (j ≠ t → S w') ∧ wpUpto P md ops Q S t f (listed.setIfInBounds j true) a' w') (fun _ _ p q => ⟨p, q⟩)
  unfold wpOp
  simp only [hi]
  split
  · rename_i hw
    rw [if_pos hw] at h1
    exact .inl h1
  · rename_i hw
    rw [if_neg hw] at h1
    exact h1
theorem upto_done {listed : Array Bool} {a : Act} {w : World} {f : Nat} (hr : Region.ready md ops listed = []) (h : Q .normal a w) : wpUpto P md ops Q S t f listed a w := by
  cases f with
  | zero => exact ⟨hr, h⟩
  | succ f => exact ⟨fun _ => h, by rw [hr]; simp⟩
theorem region_upto {id : Nat} {a : Act} {w : World} (S : World → Prop) (t : Nat) (hm : P.follows .mixedOrders = true) (hS : S w.drew) (h : S w.drew → wpUpto P .any ops Q S t ops.size (Array.replicate ops.size false) a w.drew) : (Code.region id ops true).wp P Q a w :=
  wp_region_any hm (upto_any _ _ _ _ (h hS))
end

end Go.Proofs.YtndghenlapbaaaaGreatDoor

/-
  A region that draws its order, whose operations only make memory (and one last, number t, that may write): whatever the order, what each of them yields stays as it is, and lies in blocks of its own.
-/
namespace Go.Proofs.YtndghenlapbaaaaGreatDoor
open Go.RowKit

def over (a : Act) (ds : List Nat) (y : Nat → Value) : Act := { a with tmps := ds.foldl (fun t s => t.setIfInBounds s (y s)) a.tmps }
theorem fold_put : ∀ (ds : List Nat) (T : Array Value) (y : Nat → Value) (d : Nat) (v : Value), d ∉ ds →
    (ds.foldl (fun t s => t.setIfInBounds s (y s)) T).setIfInBounds d v = ds.foldl (fun t s => t.setIfInBounds s (y s)) (T.setIfInBounds d v)
  | [], _, _, _, _, _ => rfl
  | e :: ds, T, y, d, v, h => by
    have h1 : d ≠ e := fun c => h (by rw [c]; exact List.mem_cons_self)
    have h2 : d ∉ ds := fun c => h (List.mem_cons_of_mem _ c)
    simp only [List.foldl_cons]
    rw [fold_put ds _ y d v h2, Array.setIfInBounds_comm _ _ (Ne.symm h1)]
theorem fold_congr : ∀ (ds : List Nat) (T : Array Value) (y y' : Nat → Value), (∀ s ∈ ds, y s = y' s) →
    ds.foldl (fun t s => t.setIfInBounds s (y s)) T = ds.foldl (fun t s => t.setIfInBounds s (y' s)) T
  | [], _, _, _, _ => rfl
  | e :: ds, T, y, y', h => by
    simp only [List.foldl_cons]
    rw [h e List.mem_cons_self]
    exact fold_congr ds _ y y' (fun s hs => h s (List.mem_cons_of_mem _ hs))
def updV (y : Nat → Value) (d : Nat) (v : Value) : Nat → Value := fun s => if s = d then v else y s
theorem fold_upd : ∀ (ds : List Nat) (T : Array Value) (y : Nat → Value) (d : Nat) (v : Value), d ∈ ds → ds.Nodup →
    (ds.foldl (fun t s => t.setIfInBounds s (y s)) T).setIfInBounds d v = ds.foldl (fun t s => t.setIfInBounds s (updV y d v s)) T
  | [], _, _, _, _, h, _ => absurd h List.not_mem_nil
  | e :: ds, T, y, d, v, h, hn => by
    obtain ⟨h1, h2⟩ := List.nodup_cons.1 hn
    simp only [List.foldl_cons]
    by_cases hd : d = e
    · subst hd
      rw [fold_put ds _ y d v h1, Array.setIfInBounds_setIfInBounds]
      have e1 : updV y d v d = v := if_pos rfl
      rw [e1]
      exact fold_congr ds _ _ _ (fun s hs => (if_neg (fun c : s = d => h1 (c ▸ hs))).symm)
    · have hm : d ∈ ds := (List.mem_cons.1 h).resolve_left hd
      have e1 : updV y d v e = y e := if_neg (fun c => hd c.symm)
      rw [e1]
      exact fold_upd ds _ y d v hm h2
theorem over_put {a : Act} {ds : List Nat} {y : Nat → Value} {d : Nat} {v : Value} (h : d ∈ ds) (hn : ds.Nodup) : (over a ds y).put (some d) v = over a ds (updV y d v) := by
  simp only [over, Act.put]
  rw [fold_upd ds _ y d v h hn]
theorem over_self (a : Act) : ∀ ds : List Nat, over a ds (fun s => a.tmps.getD s undef) = a := by
  intro ds
  have H : ∀ ds : List Nat, ds.foldl (fun t s => t.setIfInBounds s (a.tmps.getD s undef)) a.tmps = a.tmps := by
    intro ds
    induction ds with
    | nil => rfl
    | cons d ds ih =>
      simp only [List.foldl_cons]
      have e : a.tmps.setIfInBounds d (a.tmps.getD d undef) = a.tmps := by
        apply Array.ext_getElem?
        intro i
        rw [Array.getElem?_setIfInBounds]
        split
        · rename_i h
          subst h
          split
          · rename_i h; simp [h]
          · rename_i h; simp [Array.getElem?_eq_none (Nat.le_of_not_lt h)]
        · rfl
      rw [e]
      exact ih
  simp only [over]
  rw [H ds]
theorem inj_fst : ∀ (L : List (Nat × Nat)), (L.map Prod.fst).Nodup → ∀ p ∈ L, ∀ q ∈ L, p.1 = q.1 → p = q
  | [], _, p, hp, _, _, _ => absurd hp List.not_mem_nil
  | a :: L, hn, p, hp, q, hq, h => by
    obtain ⟨h1, h2⟩ := List.nodup_cons.1 hn
    rcases List.mem_cons.1 hp with hp1 | hp1
    · rcases List.mem_cons.1 hq with hq1 | hq1
      · rw [hp1, hq1]
      · exact absurd (by rw [← hp1, h]; exact List.mem_map_of_mem hq1) h1
    · rcases List.mem_cons.1 hq with hq1 | hq1
      · exact absurd (by rw [← hq1, ← h]; exact List.mem_map_of_mem hp1) h1
      · exact inj_fst L h2 p hp1 q hq1 h
theorem inj_snd : ∀ (L : List (Nat × Nat)), (L.map Prod.snd).Nodup → ∀ p ∈ L, ∀ q ∈ L, p.2 = q.2 → p = q
  | [], _, p, hp, _, _, _ => absurd hp List.not_mem_nil
  | a :: L, hn, p, hp, q, hq, h => by
    obtain ⟨h1, h2⟩ := List.nodup_cons.1 hn
    rcases List.mem_cons.1 hp with hp1 | hp1
    · rcases List.mem_cons.1 hq with hq1 | hq1
      · rw [hp1, hq1]
      · exact absurd (by rw [← hp1, h]; exact List.mem_map_of_mem hq1) h1
    · rcases List.mem_cons.1 hq with hq1 | hq1
      · exact absurd (by rw [← hq1, ← h]; exact List.mem_map_of_mem hp1) h1
      · exact inj_snd L h2 p hp1 q hq1 h
theorem filter_less {F F' : Nat × Nat → Bool} : ∀ {L : List (Nat × Nat)}, (L.map Prod.fst).Nodup → ∀ {p : Nat × Nat}, p ∈ L → F p = true → F' p = false → (∀ q ∈ L, q ≠ p → F' q = F q) → (L.filter F).length = (L.filter F').length + 1
  | [], _, _, hp, _, _, _ => absurd hp List.not_mem_nil
  | a :: L, hn, p, hp, h1, h2, h3 => by
    obtain ⟨g1, g2⟩ := List.nodup_cons.1 hn
    by_cases e : a = p
    · subst e
      rw [List.filter_cons_of_pos h1, List.filter_cons_of_neg (by rw [h2]; exact Bool.false_ne_true)]
      have h4 : L.filter F = L.filter F' := List.filter_congr (fun q hq => (h3 q (List.mem_cons_of_mem _ hq) (fun c => g1 (c ▸ List.mem_map_of_mem hq))).symm)
      rw [h4, List.length_cons]
    · have hm : p ∈ L := (List.mem_cons.1 hp).resolve_left (fun c => e c.symm)
      have ih := filter_less g2 hm h1 h2 (fun q hq hne => h3 q (List.mem_cons_of_mem _ hq) hne)
      have ha := h3 a List.mem_cons_self e
      cases hF : F a with
      | true => rw [List.filter_cons_of_pos hF, List.filter_cons_of_pos (by rw [ha, hF]), List.length_cons, List.length_cons, ih]
      | false => rw [List.filter_cons_of_neg (by rw [hF]; exact Bool.false_ne_true), List.filter_cons_of_neg (by rw [ha, hF]; exact Bool.false_ne_true), ih]
section
variable {P : Program} {ops : Array Oper} {Q : Exit → Act → World → Prop} {md : Region.Mode} {S : World → Prop} {t : Nat}

def risesB (md : Region.Mode) (ops : Array Oper) : Bool := (List.range ops.size).all fun i => match ops[i]? with | some o => o.after.all fun e => !Region.binds md e || decide (e.on < i) | none => true
theorem ready_some {listed : Array Bool} (hr : risesB md ops = true) (hs : listed.size = ops.size) : ∀ n i, i < n → i < ops.size → listed.getD i true = false → ∃ j, j ∈ Region.ready md ops listed := by
  intro n
  induction n with
  | zero => intro i h; omega
  | succ n ih =>
    intro i hi hlt hun
    by_cases hex : ∃ k, k < i ∧ listed.getD k true = false
    · obtain ⟨k, hk, hku⟩ := hex
      exact ih k (by omega) (by omega) hku
    · refine ⟨i, mem_ready.2 ⟨hun, ops[i], by simp [hlt], fun e he hb => ?_⟩⟩
      have h1 := List.all_eq_true.1 hr i (List.mem_range.2 hlt)
      simp only [Array.getElem?_eq_getElem hlt] at h1
      have h2 := Array.all_eq_true'.1 h1 e he
      simp only [hb, Bool.not_true, Bool.false_or, decide_eq_true_eq] at h2
      have h3 : ¬ listed.getD e.on true = false := fun c => hex ⟨e.on, h2, c⟩
      have h4 : e.on < listed.size := by omega
      simp [h4] at h3 ⊢
      exact h3
def InB (w0 w : World) (lo hi : Nat) : Prop := w0.heap.size ≤ lo ∧ lo ≤ hi ∧ hi ≤ w.heap.size
def ApartB (lo hi : Nat → Nat) (j k : Nat) : Prop := hi j ≤ lo k ∨ hi k ≤ lo j
structure Shut (p : Prop) : Prop where
  out : p
def StepS (P : Program) (md : Region.Mode) (ops : Array Oper) (Q : Exit → Act → World → Prop) (S : World → Prop) (L : List (Nat × Nat)) (G : Nat → (Nat → Value) → Nat → Nat → World → Prop) (a0 : Act) (w0 : World) (p : Nat × Nat) : Prop :=
  ∃ o, ops[p.1]? = some o ∧ o.dst = some p.2 ∧ ∀ (y : Nat → Value) (w : World) (lo hi : Nat → Nat), S w → Below w0.heap.size w0 w →
    (∀ q ∈ L, waitsFor md ops p.1 q.1 = true → InB w0 w (lo q.1) (hi q.1) ∧ G q.1 y (lo q.1) (hi q.1) w) →
    (∀ q ∈ L, ∀ r ∈ L, q.1 ≠ r.1 → waitsFor md ops p.1 q.1 = true → waitsFor md ops p.1 r.1 = true → ApartB lo hi q.1 r.1) →
    ∀ K : Act → World → Prop, (∀ v w', Below w.heap.size w w' → G p.1 (updV y p.2 v) w.heap.size w'.heap.size w' → K ((over a0 (L.map Prod.snd) y).put (some p.2) v) w') →
      Shut (if Region.wanted o (yielded ops (over a0 (L.map Prod.snd) y).tmps) = true then Oper.wp P o (over a0 (L.map Prod.snd) y) w K Q else K ((over a0 (L.map Prod.snd) y).put o.dst undef) w)
theorem upto_stable (L : List (Nat × Nat)) (G : Nat → (Nat → Value) → Nat → Nat → World → Prop) {f : Nat} {listed : Array Bool} {a0 : Act} {w0 : World}
    (hrise : risesB md ops = true) (hsz : listed.size = ops.size) (hot : ∃ ot, ops[t]? = some ot)
    (hall : ∀ i, i < ops.size → listed.getD i true = false → i = t ∨ ∃ p ∈ L, p.1 = i)
    (hun : listed.getD t true = false ∧ ∀ p ∈ L, listed.getD p.1 true = false)
    (hno : (L.map Prod.fst).Nodup) (hnd : (L.map Prod.snd).Nodup) (htl : ∀ p ∈ L, p.1 ≠ t ∧ waitsFor md ops t p.1 = true) (hf : f = L.length + 1)
    (hS : S w0) (hSst : ∀ w w', S w → Below w.heap.size w w' → S w')
    (hG : ∀ p ∈ L, ∀ (y y' : Nat → Value) (lo hi : Nat) (w w' : World), G p.1 y lo hi w → InB w0 w lo hi → Below w.heap.size w w' → y' p.2 = y p.2 → (∀ q ∈ L, waitsFor md ops p.1 q.1 = true → y' q.2 = y q.2) → G p.1 y' lo hi w')
    (hstep : ∀ p ∈ L, StepS P md ops Q S L G a0 w0 p)
    (hlast : ∃ o, ops[t]? = some o ∧ ∀ (y : Nat → Value) (w : World) (lo hi : Nat → Nat), S w → Below w0.heap.size w0 w → (∀ q ∈ L, InB w0 w (lo q.1) (hi q.1) ∧ G q.1 y (lo q.1) (hi q.1) w) → (∀ q ∈ L, ∀ r ∈ L, q.1 ≠ r.1 → ApartB lo hi q.1 r.1) →
      ∀ K : Act → World → Prop, (∀ a' w', Q .normal a' w' → K a' w') → Shut (if Region.wanted o (yielded ops (over a0 (L.map Prod.snd) y).tmps) = true then Oper.wp P o (over a0 (L.map Prod.snd) y) w K Q else K ((over a0 (L.map Prod.snd) y).put o.dst undef) w)) :
    wpUpto P md ops Q S t f listed a0 w0 := by
  -- the same from any state on the way
  have H : ∀ (n f : Nat) (listed : Array Bool) (y : Nat → Value) (w : World) (lo hi : Nat → Nat),
      f = (L.filter fun p => !listed.getD p.1 true).length + 1 → listed.size = ops.size → listed.getD t true = false →
      (∀ i, i < ops.size → listed.getD i true = false → i = t ∨ ∃ p ∈ L, p.1 = i) →
      (∀ p ∈ L, listed.getD p.1 true = true → ∀ q ∈ L, waitsFor md ops p.1 q.1 = true → listed.getD q.1 true = true) →
      S w → Below w0.heap.size w0 w → (∀ q ∈ L, listed.getD q.1 true = true → InB w0 w (lo q.1) (hi q.1) ∧ G q.1 y (lo q.1) (hi q.1) w) →
      (∀ q ∈ L, ∀ r ∈ L, q.1 ≠ r.1 → listed.getD q.1 true = true → listed.getD r.1 true = true → ApartB lo hi q.1 r.1) →
      f ≤ n → wpUpto P md ops Q S t f listed (over a0 (L.map Prod.snd) y) w := by
    intro n
    induction n with
    | zero => intro f listed y w lo hi hf _ _ _ _ _ _ _ _ hn; omega
    | succ n ih =>
      intro f listed y w lo hi hf hsz htun hall hdown hS hB hGs hAp hn
      obtain ⟨ot, hot⟩ := hot
      have htlt : t < ops.size := by
        rcases Nat.lt_or_ge t ops.size with h | h
        · exact h
        · rw [Array.getElem?_eq_none h] at hot; cases hot
      obtain ⟨g, rfl⟩ : ∃ g, f = g + 1 := ⟨_, hf⟩
      have hg : g = (L.filter fun p => !listed.getD p.1 true).length := by omega
      refine ⟨fun h => ?_, fun i hi' => ?_⟩
      · obtain ⟨j, hj⟩ := ready_some hrise hsz (t + 1) t (by omega) htlt htun
        rw [h] at hj
        cases hj
      obtain ⟨hiun, o, hio, hdeps⟩ := mem_ready.1 hi'
      have hilt : i < ops.size := by
        rcases Nat.lt_or_ge i ops.size with h | h
        · exact h
        · rw [Array.getElem?_eq_none h] at hio; cases hio
      have hdep : ∀ k, k < ops.size → waitsFor md ops i k = true → listed.getD k true = true := by
        intro k hk hw
        unfold waitsFor at hw
        rw [hio] at hw
        obtain ⟨e, he, hb⟩ := Array.any_eq_true'.1 hw
        simp only [Bool.and_eq_true, beq_iff_eq] at hb
        have h1 := hdeps e he hb.1
        rw [hb.2] at h1
        have hk' : k < listed.size := by omega
        simp [hk'] at h1 ⊢
        exact h1
      have hLlt : ∀ p ∈ L, p.1 < ops.size := by
        intro p hp
        obtain ⟨o', ho', _⟩ := hstep p hp
        rcases Nat.lt_or_ge p.1 ops.size with h | h
        · exact h
        · rw [Array.getElem?_eq_none h] at ho'; cases ho'
      have key : ∀ K : Act → World → Prop, (if Region.wanted o (yielded ops (over a0 (L.map Prod.snd) y).tmps) = true then Oper.wp P o (over a0 (L.map Prod.snd) y) w K Q else K ((over a0 (L.map Prod.snd) y).put o.dst undef) w) → wpOp P ops Q i K (over a0 (L.map Prod.snd) y) w := by
        intro K h1
        unfold wpOp
        simp only [hio]
        split
        · rename_i hw
          rw [if_pos hw] at h1
          exact .inl h1
        · rename_i hw
          rw [if_neg hw] at h1
          exact h1
      refine key _ ?_
      by_cases hit : i = t
      · subst hit
        have hl : ∀ p ∈ L, listed.getD p.1 true = true := fun p hp => hdep p.1 (hLlt p hp) (htl p hp).2
        obtain ⟨o2, ho2, hlst⟩ := hlast
        rw [hio] at ho2
        cases ho2
        refine (hlst y w lo hi hS hB (fun q hq => hGs q hq (hl q hq)) (fun q hq r hr hne => hAp q hq r hr hne (hl q hq) (hl r hr)) _ (fun a' w' hq => ⟨fun h => absurd rfl h, upto_done ?_ hq⟩)).out
        rw [List.eq_nil_iff_forall_not_mem]
        intro j hj
        obtain ⟨hjun, oj, hjo, _⟩ := mem_ready.1 hj
        have hjl : j < ops.size := by
          rcases Nat.lt_or_ge j ops.size with h | h
          · exact h
          · rw [Array.getElem?_eq_none h] at hjo; cases hjo
        by_cases hji : i = j
        · subst hji
          have hk' : i < listed.size := by omega
          simp [hk'] at hjun
        · rw [getD_set_ne true hji] at hjun
          rcases hall j hjl hjun with h | ⟨p, hp, h⟩
          · exact hji h.symm
          · rw [← h, hl p hp] at hjun; cases hjun
      · obtain ⟨p, hp, hpi⟩ := (hall i hilt hiun).resolve_left hit
        subst hpi
        obtain ⟨o', ho', hdst, hst⟩ := hstep p hp
        rw [hio] at ho'
        cases ho'
        refine (hst y w lo hi hS hB (fun q hq hw => hGs q hq (hdep q.1 (hLlt q hq) hw)) (fun q hq r hr hne h1 h2 => hAp q hq r hr hne (hdep q.1 (hLlt q hq) h1) (hdep r.1 (hLlt r hr) h2)) _ (fun v w' hb hGp => ⟨fun _ => hSst _ _ hS hb, ?_⟩)).out
        rw [over_put (List.mem_map_of_mem hp) hnd]
        have hlt : p.1 < listed.size := by omega
        have hself : (listed.setIfInBounds p.1 true).getD p.1 true = true := by simp [hlt]
        have hoth : ∀ j, p.1 ≠ j → (listed.setIfInBounds p.1 true).getD j true = listed.getD j true := fun j h => getD_set_ne true h
        have hinj : ∀ q ∈ L, q.1 = p.1 → q = p := fun q hq h => inj_fst L hno q hq p hp h
        have hinj2 : ∀ q ∈ L, q.2 = p.2 → q = p := fun q hq h => inj_snd L hnd q hq p hp h
        refine ih g (listed.setIfInBounds p.1 true) (updV y p.2 v) w' (fun j => if j = p.1 then w.heap.size else lo j) (fun j => if j = p.1 then w'.heap.size else hi j) ?_ (by simpa using hsz) ?_ ?_ ?_ (hSst _ _ hS hb) (hB.trans (hb.mono hB.size)) ?_ ?_ (by omega)
        · rw [hg]
          refine filter_less hno hp (by rw [hiun]; rfl) (by rw [hself]; rfl) (fun q hq hne => ?_)
          rw [hoth _ (fun c => hne (hinj q hq c.symm))]
        · rw [hoth _ (fun h => hit h)]; exact htun
        · intro j hj hju
          by_cases e : p.1 = j
          · subst e; rw [hself] at hju; cases hju
          · rw [hoth _ e] at hju; exact hall j hj hju
        · intro q hq hql r hr hw
          by_cases e : p.1 = r.1
          · rw [← e]; exact hself
          · rw [hoth _ e]
            by_cases e2 : p.1 = q.1
            · rw [← e2] at hw; exact hdep r.1 (hLlt r hr) hw
            · rw [hoth _ e2] at hql; exact hdown q hq hql r hr hw
        · intro q hq hql
          by_cases e : q.1 = p.1
          · have e2 := hinj q hq e
            subst e2
            simp only [if_true]
            exact ⟨⟨hB.size, hb.size, Nat.le_refl _⟩, hGp⟩
          · rw [hoth _ (Ne.symm e)] at hql
            simp only [if_neg e]
            obtain ⟨h1, h2⟩ := hGs q hq hql
            refine ⟨⟨h1.1, h1.2.1, Nat.le_trans h1.2.2 hb.size⟩, hG q hq y (updV y p.2 v) _ _ w w' h2 h1 hb ?_ ?_⟩
            · exact if_neg (fun c => e (by rw [hinj2 q hq c]))
            · intro r hr hw
              refine if_neg (fun c => ?_)
              have e3 := hinj2 r hr c
              subst e3
              rw [hdown q hq hql _ hr hw] at hiun
              cases hiun
        · intro q hq r hr hne hql hrl
          unfold ApartB
          by_cases e : q.1 = p.1
          · have e' : r.1 ≠ p.1 := fun c => hne (e.trans c.symm)
            rw [hoth _ (Ne.symm e')] at hrl
            simp only [if_pos e, if_neg e']
            exact .inr (hGs r hr hrl).1.2.2
          · rw [hoth _ (Ne.symm e)] at hql
            by_cases e' : r.1 = p.1
            · simp only [if_neg e, if_pos e']
              exact .inl (hGs q hq hql).1.2.2
            · rw [hoth _ (Ne.symm e')] at hrl
              simp only [if_neg e, if_neg e']
              exact hAp q hq r hr hne hql hrl
  have h0 := H f f listed (fun s => a0.tmps.getD s undef) w0 (fun _ => 0) (fun _ => 0) (by
    rw [hf, List.filter_eq_self.2 (fun p hp => by rw [hun.2 p hp]; rfl)]) hsz hun.1 hall (fun p hp h => by rw [hun.2 p hp] at h; cases h) hS (Below.refl _ _) (fun q hq h => by rw [hun.2 q hq] at h; cases h) (fun q hq r hr hne h => by rw [hun.2 q hq] at h; cases h) (Nat.le_refl _)
  rw [over_self] at h0
  exact h0
def checkS (md : Region.Mode) (ops : Array Oper) (listed : Array Bool) (t f : Nat) (L : List (Nat × Nat)) : Bool :=
  risesB md ops && decide (listed.size = ops.size) && (ops[t]?).isSome && ((List.range ops.size).all fun i => listed.getD i true || decide (i = t) || L.any fun p => decide (p.1 = i)) &&
    !listed.getD t true && (L.all fun p => !listed.getD p.1 true) && decide (L.map Prod.fst).Nodup && decide (L.map Prod.snd).Nodup && (L.all fun p => decide (p.1 ≠ t) && waitsFor md ops t p.1) && decide (f = L.length + 1)
theorem upto_stable' (L : List (Nat × Nat)) (G : Nat → (Nat → Value) → Nat → Nat → World → Prop) {f : Nat} {listed : Array Bool} {a0 : Act} {w0 : World} (hc : checkS md ops listed t f L = true)
    (hS : S w0) (hSst : ∀ w w', S w → Below w.heap.size w w' → S w')
    (hG : ∀ p ∈ L, ∀ (y y' : Nat → Value) (lo hi : Nat) (w w' : World), G p.1 y lo hi w → InB w0 w lo hi → Below w.heap.size w w' → y' p.2 = y p.2 → (∀ q ∈ L, waitsFor md ops p.1 q.1 = true → y' q.2 = y q.2) → G p.1 y' lo hi w')
    (hstep : ∀ p ∈ L, StepS P md ops Q S L G a0 w0 p)
    (hlast : ∃ o, ops[t]? = some o ∧ ∀ (y : Nat → Value) (w : World) (lo hi : Nat → Nat), S w → Below w0.heap.size w0 w → (∀ q ∈ L, InB w0 w (lo q.1) (hi q.1) ∧ G q.1 y (lo q.1) (hi q.1) w) → (∀ q ∈ L, ∀ r ∈ L, q.1 ≠ r.1 → ApartB lo hi q.1 r.1) →
      ∀ K : Act → World → Prop, (∀ a' w', Q .normal a' w' → K a' w') → Shut (if Region.wanted o (yielded ops (over a0 (L.map Prod.snd) y).tmps) = true then Oper.wp P o (over a0 (L.map Prod.snd) y) w K Q else K ((over a0 (L.map Prod.snd) y).put o.dst undef) w)) :
    wpUpto P md ops Q S t f listed a0 w0 := by
  unfold checkS at hc
  simp only [Bool.and_eq_true, decide_eq_true_eq, List.all_eq_true, List.any_eq_true, Bool.or_eq_true, Bool.not_eq_true', List.mem_range] at hc
  obtain ⟨⟨⟨⟨⟨⟨⟨⟨⟨h1, h2⟩, h3⟩, h4⟩, h5⟩, h6⟩, h7⟩, h8⟩, h9⟩, h10⟩ := hc
  refine upto_stable L G h1 h2 (Option.isSome_iff_exists.1 h3) (fun i hi hu => ?_) ⟨h5, h6⟩ h7 h8 h9 h10 hS hSst hG hstep hlast
  rcases h4 i hi with (h | h) | h
  · rw [hu] at h; cases h
  · exact .inl h
  · exact .inr h
end

end Go.Proofs.YtndghenlapbaaaaGreatDoor

/-
  Numbers' texts, the document's.
-/
set_option linter.unusedSimpArgs false
set_option linter.unusedVariables false
namespace Go.Proofs.YtndghenlapbaaaaGreatDoor
open Go.RowKit
set_option linter.unusedSectionVars false
variable [DecidableEq Leg] [Inhabited Leg]
attribute [local go_sem ↓] Go.wp_at_zero Go.wp_at_succ

def dgG (A : ByteArray) (d : Nat) : Nat → (Nat → Value) → Nat → Nat → World → Prop
  | 2, y, _, _, _ => y 12 = .string A
  | 7, y, lo, hi, w => y 17 = .slice (some ⟨lo, 0, none⟩) 1 1 ∧ lo < hi ∧ w.cell? ⟨lo, 0, none⟩ = some (.int .u8 (48 + (d : Int)))
  | 8, y, _, _, _ => y 18 = .string (dig1 d)
  | 9, y, _, _, _ => y 19 = .string (A ++ dig1 d)
  | _, _, _, _, _ => True
set_option maxRecDepth 20000 in
set_option maxHeartbeats 4000000 in
theorem l7Digits_any : ∀ (f n : Nat) (w : World), n < 10 ^ (f + 1) → n ≤ 9223372036854775807 → f ≤ 30 →
    Calls Tryz.prog 59 #[.int .i64 (n : Int)] w fun e w' => e = .returned (.string (digF f n)) ∧ Below w.heap.size w w' := by
  intro f
  induction f with
  | zero =>
    intro n w hn _ _
    have hn' : n < 10 := by simpa using hn
    have hc := byte1 (w := w.alloc (.cells #[.int .u8 (48 + (n : Int))] 5)) (g := w.heap.size) hn' (by simp [go_sem])
    rw [digF_small hn']
    have w1 : IntKind.i64.wrap (48 + (n : Int)) = 48 + (n : Int) := by rw [IntKind.wrap_i64]; omega
    have w2 : IntKind.u8.wrap (48 + (n : Int)) = 48 + (n : Int) := by simp [IntKind.wrap, IntKind.bits, IntKind.signed]; omega
    have hlt : (n : Int) < 10 := by omega
    go_enter Tryz.func59, Tryz.ntmps59
    go_wp2
    go_ret
    exact ⟨rfl, by (repeat (first | exact Below.refl _ _ | assumption | refine Below.drew ?_ | refine balloc ?_ _ | refine bset ?_ (by simp; omega) _ | refine bset ?_ (by simp) _ | refine bstep ?_ (by assumption)))⟩
  | succ f ih =>
    intro n w hn hm hf
    by_cases h10 : n < 10
    · have hc := byte1 (w := w.alloc (.cells #[.int .u8 (48 + (n : Int))] 5)) (g := w.heap.size) h10 (by simp [go_sem])
      rw [digF_small h10]
      have w1 : IntKind.i64.wrap (48 + (n : Int)) = 48 + (n : Int) := by rw [IntKind.wrap_i64]; omega
      have w2 : IntKind.u8.wrap (48 + (n : Int)) = 48 + (n : Int) := by simp [IntKind.wrap, IntKind.bits, IntKind.signed]; omega
      have hlt : (n : Int) < 10 := by omega
      clear ih
      go_enter Tryz.func59, Tryz.ntmps59
      go_wp2
      go_ret
      exact ⟨rfl, by (repeat (first | exact Below.refl _ _ | assumption | refine Below.drew ?_ | refine balloc ?_ _ | refine bset ?_ (by simp; omega) _ | refine bset ?_ (by simp) _ | refine bstep ?_ (by assumption)))⟩
    have hq : n / 10 < 10 ^ (f + 1) := by
      rw [Nat.pow_succ] at hn
      exact Nat.div_lt_of_lt_mul (by rw [Nat.mul_comm]; exact hn)
    have HI : Hid (∀ W, Calls Tryz.prog 59 #[.int .i64 ((n / 10 : Nat) : Int)] W fun e w' => e = .returned (.string (digF f (n / 10))) ∧ Below W.heap.size W w') := fun W => ih (n / 10) W hq (by omega) (by omega)
    rw [digF_great h10]
    have HS : Hid ((digF f (n / 10)).size ≤ 40) := by have := digF_size f (n / 10); show _ ≤ _; omega
    have hlt : ¬ (n : Int) < 10 := by omega
    have e1 : Int.tdiv (n : Int) 10 = ((n / 10 : Nat) : Int) := by rw [Int.tdiv_eq_ediv_of_nonneg (by omega)]; omega
    have e2 : Int.tmod (n : Int) 10 = ((n % 10 : Nat) : Int) := by rw [Int.tmod_eq_emod_of_nonneg (by omega)]; omega
    have hd : n % 10 < 10 := Nat.mod_lt _ (by omega)
    generalize digF f (n / 10) = A at *
    obtain ⟨q, hq'⟩ : ∃ q, q = n / 10 := ⟨_, rfl⟩
    obtain ⟨d, hd'⟩ : ∃ d, d = n % 10 := ⟨_, rfl⟩
    rw [← hq'] at HI e1
    rw [← hd'] at e2 hd ⊢
    have hqm : q ≤ 9223372036854775807 := by omega
    clear ih hq hq' hd' hf hn
    have w0 : IntKind.i64.wrap (q : Int) = (q : Int) := by rw [IntKind.wrap_i64]; omega
    have w1 : IntKind.i64.wrap (48 + (d : Int)) = 48 + (d : Int) := by rw [IntKind.wrap_i64]; omega
    have w2 : IntKind.u8.wrap (48 + (d : Int)) = 48 + (d : Int) := by simp [IntKind.wrap, IntKind.bits, IntKind.signed]; omega
    have w3 : IntKind.i64.wrap (d : Int) = (d : Int) := by rw [IntKind.wrap_i64]; omega
    go_enter Tryz.func59, Tryz.ntmps59
    go_wp2
    refine wp_region_noPanic ?_
    refine region_upto (fun W => Below w.heap.size w W) 10 (by kernel_rfl) (Below.drew (Below.refl _ _)) (fun hS => ?_)
    refine upto_take (i := 0) (v := ?_) rfl (by kernel_rfl) (by kernel_rfl) (by kernel_rfl) (by kernel_rfl) (fun _ _ _ h => h) (by rfl) hS ?_ ?_
    rotate_left
    · intro wS hSw
      try dsimp only at hSw
      first | (go_simp; done) | (go_simp; with_reducible rfl)
    try simp only [Act.put, List.getElem_toArray, List.getElem_cons_zero, List.getElem_cons_succ, List.setIfInBounds_toArray, List.set_cons_zero, List.set_cons_succ]
    refine upto_take (i := 1) (v := (.int .i64 (q : Int))) rfl (by kernel_rfl) (by kernel_rfl) (by kernel_rfl) (by kernel_rfl) (fun _ _ _ h => h) (by rfl) hS ?_ ?_
    · intro wS hSw
      try dsimp only at hSw
      go_simp
    try simp only [Act.put, List.getElem_toArray, List.getElem_cons_zero, List.getElem_cons_succ, List.setIfInBounds_toArray, List.set_cons_zero, List.set_cons_succ]
    refine upto_take (i := 3) (v := ?_) rfl (by kernel_rfl) (by kernel_rfl) (by kernel_rfl) (by kernel_rfl) (fun _ _ _ h => h) (by rfl) hS ?_ ?_
    rotate_left
    · intro wS hSw
      try dsimp only at hSw
      first | (go_simp; done) | (go_simp; with_reducible rfl)
    try simp only [Act.put, List.getElem_toArray, List.getElem_cons_zero, List.getElem_cons_succ, List.setIfInBounds_toArray, List.set_cons_zero, List.set_cons_succ]
    refine upto_take (i := 4) (v := (.int .i64 (d : Int))) rfl (by kernel_rfl) (by kernel_rfl) (by kernel_rfl) (by kernel_rfl) (fun _ _ _ h => h) (by rfl) hS ?_ ?_
    · intro wS hSw
      try dsimp only at hSw
      go_simp
    try simp only [Act.put, List.getElem_toArray, List.getElem_cons_zero, List.getElem_cons_succ, List.setIfInBounds_toArray, List.set_cons_zero, List.set_cons_succ]
    refine upto_take (i := 5) (v := (.int .i64 (48 + (d : Int)))) rfl (by kernel_rfl) (by kernel_rfl) (by kernel_rfl) (by kernel_rfl) (fun _ _ _ h => h) (by rfl) hS ?_ ?_
    · intro wS hSw
      try dsimp only at hSw
      go_simp
    try simp only [Act.put, List.getElem_toArray, List.getElem_cons_zero, List.getElem_cons_succ, List.setIfInBounds_toArray, List.set_cons_zero, List.set_cons_succ]
    refine upto_take (i := 6) (v := (.int .u8 (48 + (d : Int)))) rfl (by kernel_rfl) (by kernel_rfl) (by kernel_rfl) (by kernel_rfl) (fun _ _ _ h => h) (by rfl) hS ?_ ?_
    · intro wS hSw
      try dsimp only at hSw
      go_simp
    try simp only [Act.put, List.getElem_toArray, List.getElem_cons_zero, List.getElem_cons_succ, List.setIfInBounds_toArray, List.set_cons_zero, List.set_cons_succ]
    refine upto_stable' [(2, 12), (7, 17), (8, 18), (9, 19)] (dgG A d) (by kernel_rfl) hS (fun W W' h hb => bstep h hb) ?_ ?_ ?_
    · intro p hp
      simp only [List.mem_cons, List.not_mem_nil, or_false] at hp
      rcases hp with rfl | rfl | rfl | rfl
      all_goals intro y y' lo hi W W' h hi' hb e he
      · simp only [dgG] at h ⊢
        rw [e]
        exact h
      · simp only [dgG] at h ⊢
        rw [e]
        exact ⟨h.1, h.2.1, cell_keep hb h.2.2⟩
      · simp only [dgG] at h ⊢
        rw [e]
        exact h
      · simp only [dgG] at h ⊢
        rw [e]
        exact h
    · intro p hp
      simp only [List.mem_cons, List.not_mem_nil, or_false] at hp
      rcases hp with rfl | rfl | rfl | rfl
      all_goals
        refine ⟨_, rfl, rfl, ?_⟩
        intro y W lo hi hSW hBW hd' hap K hK
        clear hap
      · clear hd'
        refine ⟨?_⟩
        simp only [over, Act.put, List.getElem_toArray, List.getElem_cons_zero, List.getElem_cons_succ, List.map_cons, List.map_nil, List.foldl_cons, List.foldl_nil, List.setIfInBounds_toArray, List.set_cons_zero, List.set_cons_succ] at hK ⊢
        go_simp
        refine (HI.out _).mono ?_
        rintro e w' ⟨rfl, hb⟩
        refine hK _ _ hb ?_
        simp only [dgG, updV]
        simp
      · clear hd'
        refine ⟨?_⟩
        simp only [over, Act.put, List.getElem_toArray, List.getElem_cons_zero, List.getElem_cons_succ, List.map_cons, List.map_nil, List.foldl_cons, List.foldl_nil, List.setIfInBounds_toArray, List.set_cons_zero, List.set_cons_succ] at hK ⊢
        go_simp
        refine hK _ _ (by (repeat (first | exact Below.refl _ _ | assumption | refine Below.drew ?_ | refine balloc ?_ _ | refine bset ?_ (by simp; omega) _ | refine bset ?_ (by simp) _ | refine bstep ?_ (by assumption)))) ?_
        simp only [dgG, updV]
        exact ⟨by simp, by simp, by simp [go_sem]⟩
      · have g7 := (hd' (7, 17) (by simp) (by kernel_rfl)).2
        clear hd'
        simp only [dgG] at g7
        have hcv := byte1 hd g7.2.2
        refine ⟨?_⟩
        simp only [over, Act.put, List.getElem_toArray, List.getElem_cons_zero, List.getElem_cons_succ, List.map_cons, List.map_nil, List.foldl_cons, List.foldl_nil, List.setIfInBounds_toArray, List.set_cons_zero, List.set_cons_succ] at hK ⊢
        simp only [g7.1] at hK ⊢
        go_simp
        refine hK _ _ (Below.refl _ _) ?_
        simp only [dgG, updV]
        simp
      · have g2 := (hd' (2, 12) (by simp) (by kernel_rfl)).2
        have g8 := (hd' (8, 18) (by simp) (by kernel_rfl)).2
        clear hd'
        simp only [dgG] at g2 g8
        have hsz := HS.out
        have hs1 := dig1_size d
        have hcat : ¬ 9223372036854775807 < A.size + 1 := by omega
        have hcat2 : ¬ 9223372036854775807 < A.size + (dig1 d).size := by omega
        refine ⟨?_⟩
        simp only [over, Act.put, List.getElem_toArray, List.getElem_cons_zero, List.getElem_cons_succ, List.map_cons, List.map_nil, List.foldl_cons, List.foldl_nil, List.setIfInBounds_toArray, List.set_cons_zero, List.set_cons_succ] at hK ⊢
        simp only [g2, g8] at hK ⊢
        go_simp
        refine hK _ _ (Below.refl _ _) ?_
        simp only [dgG, updV]
        simp
    · refine ⟨_, rfl, ?_⟩
      intro y W lo hi hSW hBW hd' hap K hK
      have g9 := (hd' (9, 19) (by simp)).2
      clear hd' hap
      simp only [dgG] at g9
      refine ⟨?_⟩
      simp only [over, Act.put, List.getElem_toArray, List.getElem_cons_zero, List.getElem_cons_succ, List.map_cons, List.map_nil, List.foldl_cons, List.foldl_nil, List.setIfInBounds_toArray, List.set_cons_zero, List.set_cons_succ]
      simp only [g9]
      go_simp
      refine hK _ _ ?_
      refine NoPanic.normal ?_
      go_wp2
      go_ret
      exact ⟨rfl, hSW⟩
end Go.Proofs.YtndghenlapbaaaaGreatDoor

/-
  Rows of numbers: compared, marked and read back; and the answers that hold one.
-/
namespace Go.Proofs.YtndghenlapbaaaaGreatDoor
open Go.RowKit
set_option linter.unusedSectionVars false
variable [DecidableEq Leg] [Inhabited Leg]
attribute [local go_sem ↓] Go.wp_at_zero Go.wp_at_succ

def intsC (ys : List Int) : List Value := ys.map (Value.int .i64)
theorem infoInt : (Tryz.prog.info? 2).map (fun i => (i.zero, i.size, i.bytes)) = some (some (.int .i64 0), 1, 8) := by kernel_rfl
def IntsV (w : World) (v : Value) (ys : List Int) : Prop :=
  ∃ a cap, v = .slice a ys.length cap ∧ ys.length ≤ cap ∧ cap ≤ maxLen ∧ ∀ i, i < ys.length → ∃ b o, a = some ⟨b, o, none⟩ ∧ w.cell? ⟨b, o + i, none⟩ = some (.int .i64 (ys.getD i 0))
theorem IntsV_below {w w' : World} {v : Value} {ys : List Int} (h : IntsV w v ys) (hb : Below w.heap.size w w') : IntsV w' v ys := by
  obtain ⟨a, cap, rfl, h1, h2, h3⟩ := h
  exact ⟨a, cap, rfl, h1, h2, fun i hi => by
    obtain ⟨b, o, ha, hc⟩ := h3 i hi
    exact ⟨b, o, ha, cell_keep hb hc⟩⟩
theorem IntsV_of_owns {w : World} {base e : Nat} {v : Value} {ys : List Int} (h : w.ownsRow base e 1 v ys.length (intsC ys)) : IntsV w v ys := by
  rcases h.2 with ⟨rfl, hn⟩ | ⟨g, cap, cur, rfl, hb, hg, hnc, hcm, hcs, htake⟩
  · exact ⟨none, 0, by rw [hn], by omega, by unfold maxLen; omega, fun i hi => by omega⟩
  · refine ⟨some ⟨g, 0, none⟩, cap, rfl, hnc, hcm, fun i hi => ⟨g, 0, rfl, ?_⟩⟩
    rw [Nat.zero_add]
    refine (h.cellAt i (by omega)).trans ?_
    simp [intsC, List.getD, hi]
theorem ints_eq_of {xs ys : List Int} (hl : ys.length = xs.length) (h : ∀ j, j < xs.length → xs.getD j 0 = ys.getD j 0) : xs = ys := by
  apply List.ext_getElem (by omega)
  intro i h1 h2
  have := h i h1
  simpa [List.getD, h1, h2] using this
set_option maxHeartbeats 1000000 in
theorem eqInt64S_any (x y : Value) (xs ys : List Int) (w : World) (hx : IntsV w x xs) (hy : IntsV w y ys) :
    Calls Tryz.prog 27 #[x, y] w fun e w' => e = .returned (.bool (decide (xs = ys))) ∧ Below w.heap.size w w' := by
  obtain ⟨ax, cx, rfl, hcx, hmx, hx⟩ := hx
  obtain ⟨ay, cy, rfl, hcy, hmy, hy⟩ := hy
  unfold maxLen at hmx hmy
  by_cases hl : ys.length = xs.length
  · rw [hl] at hcy hy ⊢
    have HL : Hid (ys.length = xs.length) := hl
    clear hl
    generalize hn : xs.length = n at *
    have HN : Hid (xs.length = n) := hn
    clear hn
    go_enter Tryz.func27, Tryz.ntmps27
    go_wp2
    go_loopw [5] (fun i w' => ∃ k : Nat, k ≤ n ∧ i = .int .i64 k ∧ (∀ j, j < k → xs.getD j 0 = ys.getD j 0) ∧ Below w.heap.size w w') (fun i _ => n - (intOf i).toNat)
    case atStart => exact ⟨0, Nat.zero_le _, rfl, fun j h => absurd h (Nat.not_lt_zero _), Below.refl _ _⟩
    case round =>
      obtain ⟨k, hk, rfl, hpre, hbl⟩ := hrel
      have HP : Hid (∀ j, j < k → xs.getD j 0 = ys.getD j 0) := hpre
      clear hpre
      by_cases hlt : k < n
      · obtain ⟨bx, ox, rfl, h1⟩ := hx k hlt
        obtain ⟨b2, oy, rfl, h2⟩ := hy k hlt
        obtain ⟨l1, hl1⟩ : ∃ l, l = xs.getD k 0 := ⟨_, rfl⟩
        obtain ⟨l2, hl2⟩ : ∃ l, l = ys.getD k 0 := ⟨_, rfl⟩
        rw [← hl1] at h1
        rw [← hl2] at h2
        have H1 : Hid (l1 = xs.getD k 0) := hl1
        have H2 : Hid (l2 = ys.getD k 0) := hl2
        clear hl1 hl2 hx hy
        go_wp2
        go_region_held3 (fun w' => Below w.heap.size w w' ∧ w'.cell? ⟨bx, ox + k, none⟩ = some (.int .i64 l1) ∧ w'.cell? ⟨b2, oy + k, none⟩ = some (.int .i64 l2)) ((refine keepC2 ?_ h1 h2; repeat (first | exact Below.refl _ _ | assumption | refine Below.drew ?_ | refine balloc ?_ _ | refine bstep ?_ (by assumption)))) (fail)
        rename_i hH
        have hB := hH.1
        clear hH
        go_wp2
        · rename_i hle
          go_ret
          refine ⟨?_, hB⟩
          have : ¬ xs = ys := fun h => by
            have : l1 = l2 := by rw [H1.out, H2.out, h]
            simp [this] at hle
          simp [this]
        · rename_i hle
          refine ⟨⟨k + 1, by omega, by go_num, fun j hj => ?_, hB⟩, by simp [intOf]; omega⟩
          by_cases hjk : j < k
          · exact HP.out j hjk
          · have : j = k := by omega
            subst this
            rw [← H1.out, ← H2.out]
            simpa using hle
      · go_wp2
        go_ret
        have : k = n := by omega
        subst this
        refine ⟨?_, hbl⟩
        have : xs = ys := ints_eq_of (by rw [HL.out, HN.out]) (by rw [HN.out]; exact HP.out)
        simp [this]
  · go_enter Tryz.func27, Tryz.ntmps27
    have hl' : ((xs.length : Int) == (ys.length : Int)) = false := by simp; omega
    go_wp2
    go_ret
    have : ¬ xs = ys := fun h => hl (by rw [h])
    exact ⟨by simp [this], Below.refl _ _⟩
set_option maxHeartbeats 1000000 in
theorem toInt64S_any (x : Value) (xs : List Int) (w : World) (hx : IntsV w x xs) (hn : xs.length ≤ 1048576) :
    Calls Tryz.prog 19 #[x] w fun e w' => ∃ v, e = .returned v ∧ w'.ownsRow w.heap.size 2 1 v xs.length (intsC xs) ∧ Below w.heap.size w w' := by
  obtain ⟨ax, cx, rfl, hcx, hmx, hx⟩ := hx
  unfold maxLen at hmx
  obtain ⟨i0, hi, hz0, hz1, hz2⟩ := info_parts infoInt
  obtain ⟨w1, hmk, hown, hgr⟩ := run_make_full (P := Tryz.prog) w w.heap.size 25 2 i0 _ 1 Tryz.underlying25 hi hz0 hz1 .i64 .i64 xs.length (by rw [hz2]; omega) (by unfold maxLen; omega) (Nat.le_refl _)
  have hbl0 : Below w.heap.size w w1 := (Below.refl _ _).grown hgr (Nat.le_refl _) (fun k h => by cases h)
  generalize hn' : xs.length = n at *
  have HN : Hid (xs.length = n) := hn'
  clear hn'
  go_enter Tryz.func19, Tryz.ntmps19
  go_wp2
  go_loopw [4] (fun i w' => ∃ (k : Nat) (cs : List Value), k ≤ n ∧ i = .int .i64 k ∧ w'.ownsRow w.heap.size 2 1 (.slice (some ⟨w.heap.size, 0, none⟩) n n) n cs ∧ Hid (∀ j, j < k → cs[j]? = (intsC xs)[j]?) ∧ Below w.heap.size w w') (fun i _ => n - (intOf i).toNat)
  case atStart => exact ⟨0, _, Nat.zero_le _, rfl, hown, fun j h => by omega, hbl0⟩
  case round =>
    obtain ⟨k, cs, hk, rfl, ho, HU, hbl⟩ := hrel
    clear hown hmk hgr hbl0
    by_cases hlt : k < n
    · obtain ⟨bx, ox, rfl, h1⟩ := hx k hlt
      obtain ⟨l, hl⟩ : ∃ l, l = xs.getD k 0 := ⟨_, rfl⟩
      rw [← hl] at h1
      have H1 : Hid (l = xs.getD k 0) := hl
      clear hl hx
      have a0 := cell_keep hbl h1
      obtain ⟨u0, g0⟩ := owns_some ho k (by omega)
      have hf := fun j => ho.frozenAt j
      go_wp2
      have s0 := ho.stored k (.int .i64 l)
      refine ⟨⟨k + 1, _, by omega, by go_num, s0.1, fun j hj => ?_, hbl.setCell (Nat.le_refl _) _⟩, by simp [intOf]; omega⟩
      rw [List.getElem?_set]
      split
      · rename_i e
        subst e
        have hl1 := ho.1
        have hl2 := HN.out
        rw [if_pos (by omega), H1.out]
        simp [intsC, List.getD, show k < xs.length by omega]
      · exact HU.out j (by omega)
    · go_wp2
      go_ret
      have hkn : k = n := by omega
      subst hkn
      have e : cs = intsC xs := List.ext_getElem? (fun j => by
        by_cases hj : j < k
        · exact HU.out j hj
        · have h1 := ho.1
          have h2 := HN.out
          rw [List.getElem?_eq_none (by omega), List.getElem?_eq_none (by simp [intsC]; omega)])
      subst e
      exact ⟨_, rfl, ho, hbl⟩
theorem szInt64S_any (x : Value) (xs : List Int) (left : Int) (w : World) (hx : IntsV w x xs) (h0 : 0 ≤ left) (h1 : left ≤ 1048576) :
    Calls Tryz.prog 13 #[x, .int .i64 left] w fun e w' => e = .returned (.int .i64 (szLen left xs.length)) ∧ w' = w := by
  obtain ⟨ax, cx, rfl, hcx, hmx, hx⟩ := hx
  unfold maxLen at hmx
  generalize xs.length = n at *
  clear hx
  by_cases h : left < n
  · have h' : left - (n : Int) < 0 := by omega
    go_enter Tryz.func13, Tryz.ntmps13
    go_wp2
    go_ret
    exact ⟨by simp only [szLen, if_pos h]; rfl, rfl⟩
  · have h' : ¬ left - (n : Int) < 0 := by omega
    go_enter Tryz.func13, Tryz.ntmps13
    go_wp2
    go_ret
    exact ⟨by rw [szLen, if_neg (by omega)]; rfl, rfl⟩
end Go.Proofs.YtndghenlapbaaaaGreatDoor


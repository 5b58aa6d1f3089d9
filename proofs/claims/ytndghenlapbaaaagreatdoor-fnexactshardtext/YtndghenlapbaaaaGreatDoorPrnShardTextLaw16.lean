import Derived.Test.YtndghenlapbaaaaGreatDoorPrnShardTextLaw4
import Derived.Maps.AppendAt
import Derived.Test.YtndghenlapbaaaaGreatDoorPrnShardTextLaw8
import Derived.Test.YtndghenlapbaaaaGreatDoorPrnShardTextLaw11
import Derived.Test.YtndghenlapbaaaaGreatDoorPrnShardTextLaw15
import Derived.Test.YtndghenlapbaaaaGreatDoorPrnShardTextLaw12
import Derived.Shelf.SlSortCmp.WholeK
import Derived.Test.YtndghenlapbaaaaGreatDoorPrnShardTextLaw14
import Derived.Test.YtndghenlapbaaaaGreatDoorProg
import Derived.Shelf.SlSortCmp.NoneTotal
import Derived.Test.YtndghenlapbaaaaGreatDoorPrnShardTextLaw5
import Derived.WideKeyEntry
import Derived.Test.YtndghenlapbaaaaGreatDoorPrnShardTextLaw6
import Derived.Test.YtndghenlapbaaaaGreatDoorPrnShardTextLaw1
import Derived.Deep.DeepAppendRoom
import Derived.Test.YtndghenlapbaaaaGreatDoorPrnShardTextLaw3

/-
  A row of values that own memory: one of them is another, with blocks of its own or new ones.
-/
namespace Go.Proofs.YtndghenlapbaaaaGreatDoor
open Go.RowKit

theorem PO.put {α : Type} {R : Rep α} {e size : Nat} {lv : Value → List Value} {w w' : World} {base : Nat} {v : Value} {n k j : Nat} {d : Nat → α} {cs cs' : List Value} {us : Nat → Value} {fs : Nat → Nat → Prop} {u : Value} {x : α} {F' : Nat → Prop}
    (h : PO R e size lv w base v n k d cs us fs) (hj : j < k) (hm : Mod (fun b => v.ownBlock = some b ∨ fs j b) w w') (hu : R.O w' base F' u x) (hF : ∀ b, F' b → fs j b ∨ w.heap.size ≤ b) (hl : (lv u).length = size)
    (hr : w'.ownsRow base e size v n cs') (hold : ∀ i, i < k → i ≠ j → ∀ o, o < size → cs'[i * size + o]? = cs[i * size + o]?) (hnew : ∀ o, o < size → cs'[j * size + o]? = (lv u)[o]?) :
    PO R e size lv w' base v n k (upd d j x) cs' (upd us j u) (upd fs j F') := by
  have hlt : ∀ b, v.ownBlock = some b → b < w.heap.size := fun b hb => (h.row.lt b hb).2
  have hfs : ∀ i, i < k → ∀ b, fs i b → b < w.heap.size := fun i hi b hb => (R.rng (h.el i hi) b hb).2
  refine ⟨hr, ?_, ?_, ?_, ?_, ?_⟩
  · intro i hi
    by_cases hik : i = j
    · subst hik; rw [upd_at, upd_at, upd_at]; exact hu
    · rw [upd_ne _ _ hik, upd_ne _ _ hik, upd_ne _ _ hik]
      exact R.mod (h.el i hi) hm (fun b hb => by
        rintro (he | he)
        · exact h.out i hi b hb he
        · exact h.sep i j hi hj hik b hb he)
  · intro i hi
    by_cases hik : i = j
    · subst hik; rw [upd_at]; exact hl
    · rw [upd_ne _ _ hik]; exact h.ln i hi
  · intro i hi o ho
    by_cases hik : i = j
    · subst hik; rw [upd_at]; exact hnew o ho
    · rw [upd_ne _ _ hik, hold i hi hik o ho]; exact h.cell i hi o ho
  · intro i hi b hb he
    by_cases hik : i = j
    · subst hik
      rw [upd_at] at hb
      rcases hF b hb with h1 | h1
      · exact h.out i hi b h1 he
      · have := hlt b he; omega
    · rw [upd_ne _ _ hik] at hb
      exact h.out i hi b hb he
  · intro i i' hi hi' hii b h1 h2
    by_cases hik : i = j
    · subst hik
      rw [upd_at] at h1
      rw [upd_ne _ _ (Ne.symm hii)] at h2
      rcases hF b h1 with h3 | h3
      · exact h.sep i i' hi hi' hii b h3 h2
      · have := hfs i' hi' b h2; omega
    · rw [upd_ne _ _ hik] at h1
      by_cases hjk : i' = j
      · subst hjk
        rw [upd_at] at h2
        rcases hF b h2 with h3 | h3
        · exact h.sep i i' hi hi' hii b h1 h3
        · have := hfs i hi b h1; omega
      · rw [upd_ne _ _ hjk] at h2
        exact h.sep i i' hi hi' hii b h1 h2
end Go.Proofs.YtndghenlapbaaaaGreatDoor

/-
  OutcomesResult. (Written by program: nest.py.)
-/
namespace Go.Proofs.YtndghenlapbaaaaGreatDoor
open Go.RowKit
set_option linter.unusedSectionVars false
variable [DecidableEq Leg] [Inhabited Leg] [DecidableEq Bal] [Inhabited Bal] [DecidableEq Ledg] [Inhabited Ledg]
attribute [local go_sem ↓] Go.wp_at_zero Go.wp_at_succ

set_option linter.unusedSimpArgs false

structure OutcR where
  code : Int
  outcomes : List Int
  ledger : Ledg
variable [DecidableEq OutcR] [Inhabited OutcR]

end Go.Proofs.YtndghenlapbaaaaGreatDoor

/-
  ShardResult. (Written by program: nest.py.)
-/
namespace Go.Proofs.YtndghenlapbaaaaGreatDoor
open Go.RowKit
set_option linter.unusedSectionVars false
variable [DecidableEq Bal] [Inhabited Bal] [DecidableEq Mrk] [Inhabited Mrk] [DecidableEq Leg] [Inhabited Leg] [DecidableEq Cont] [Inhabited Cont] [DecidableEq Shd] [Inhabited Shd]
attribute [local go_sem ↓] Go.wp_at_zero Go.wp_at_succ

set_option linter.unusedSimpArgs false

structure ShdR where
  code : Int
  vote : Int
  shard : Shd
variable [DecidableEq ShdR] [Inhabited ShdR]

end Go.Proofs.YtndghenlapbaaaaGreatDoor

/-
  A shard, in mathematics.
-/
set_option linter.unusedVariables false
namespace Go.Proofs.YtndghenlapbaaaaGreatDoor
open Go.RowKit
set_option linter.unusedSectionVars false
variable [DecidableEq Rw] [Inhabited Rw] [DecidableEq Bal] [Inhabited Bal] [DecidableEq Ledg] [Inhabited Ledg] [DecidableEq Leg] [Inhabited Leg] [DecidableEq Cont] [Inhabited Cont] [DecidableEq LedgR] [Inhabited LedgR] [DecidableEq OutcR] [Inhabited OutcR] [DecidableEq Mrk] [Inhabited Mrk] [DecidableEq Shd] [Inhabited Shd] [DecidableEq ShdR] [Inhabited ShdR]

def findM (c : Int) : List Mrk → Int
  | [] => 0
  | m :: r => if m.con = c then m.val else findM c r
def mrkAt (xs : List Mrk) (k : Nat) : Int := if (inB (xs.getD k default).con 1 1000000000 && inB (xs.getD k default).val 1 2) = true then (if 0 < k ∧ ¬ (xs.getD (k - 1) default).con < (xs.getD k default).con then 1 else 0) else 3
def mrkF (xs : List Mrk) : Int := scanI (mrkAt xs) xs.length
def heldIn (hs : List Cont) (c : Int) : Bool := hs.any (fun x => x.id == c)
def sameAA (x y : Leg) : Bool := x.ac == y.ac && x.ast == y.ast
def touch (a b : List Leg) : Bool := a.any (fun x => b.any (fun y => sameAA x y))
def riseC (hs : List Cont) (k : Nat) : Bool := decide (k = 0 ∨ (hs.getD (k - 1) default).id < (hs.getD k default).id)
def heldAt (s : Shd) (k : Nat) : Int :=
  if contractFault (s.held.getD k default).id (s.held.getD k default).legs = 0 then
    (if riseC s.held k = true ∧ ¬ (onSh s.idx (s.held.getD k default).legs).length = 0 ∧ findM (s.held.getD k default).id s.votes = 1 ∧ findM (s.held.getD k default).id s.done = 0 then 0 else 1)
  else contractFault (s.held.getD k default).id (s.held.getD k default).legs
def lostAt (s : Shd) (k : Nat) : Int := if (s.votes.getD k default).val = 1 ∧ heldIn s.held (s.votes.getD k default).con = false ∧ findM (s.votes.getD k default).con s.done = 0 then 1 else 0
def doneL (s : List Mrk) : List Int := (s.filter (fun m => m.val == 1)).map (fun m => m.con)
def applG (done : List Mrk) (appl : List Int) : Bool := decide ((doneL done).length = appl.length ∧ ∀ k, k < appl.length → findM (appl.getD k 0) done = 1 ∧ ¬ (appl.getD k 0) ∈ appl.take k)
def legsH (s : Shd) (k : Nat) : List Leg := onSh s.idx (s.held.getD k default).legs
def apartAt (s : Shd) (k : Nat) : Int := if (List.range k).any (fun j => touch (legsH s k) (legsH s j)) = true then 7 else 0
def canLs (xs : List Bal) (ls : List Leg) : Int := scanI (fun k => canB xs (ls.getD k default)) ls.length
def coverAt (s : Shd) (k : Nat) : Int := canLs s.bals (legsH s k)
def baseF (idx : Int) (bs : List Bal) : Int := if inB idx 0 2 = true then balFault bs else 3
def listsF (s : Shd) : Int :=
  if baseF s.idx s.bals = 0 then
    (if 100 < s.votes.length ∨ 100 < s.held.length ∨ 100 < s.done.length ∨ 100 < s.appl.length then 2
     else if mrkF s.votes = 0 then
       (if mrkF s.done = 0 then
         (if scanI (heldAt s) s.held.length = 0 then
           (if scanI (lostAt s) s.votes.length = 0 then (if applG s.done s.appl = true then 0 else 1) else 1)
          else scanI (heldAt s) s.held.length)
        else mrkF s.done)
     else mrkF s.votes)
  else baseF s.idx s.bals
def keptF (s : Shd) : Int := if scanI (apartAt s) s.held.length = 0 then scanI (coverAt s) s.held.length else scanI (apartAt s) s.held.length
def shdF (s : Shd) : Int := if listsF s = 0 then keptF s else listsF s
theorem findM_drop {c : Int} {xs : List Mrk} {k : Nat} (h : k < xs.length) : findM c (xs.drop k) = if (xs.getD k default).con = c then (xs.getD k default).val else findM c (xs.drop (k + 1)) := by
  rw [List.drop_eq_getElem_cons h]
  simp [findM, List.getD, h]
theorem findM_skip {c : Int} {xs : List Mrk} : ∀ {i : Nat}, i ≤ xs.length → (∀ k, k < i → ¬ (xs.getD k default).con = c) → findM c xs = findM c (xs.drop i)
  | 0, _, _ => by simp
  | i + 1, h, hn => by
    rw [findM_skip (i := i) (by omega) (fun k hk => hn k (by omega)), findM_drop (by omega), if_neg (hn i (by omega))]
theorem findM_none {c : Int} {xs : List Mrk} (h : ∀ k, k < xs.length → ¬ (xs.getD k default).con = c) : findM c xs = 0 := by
  rw [findM_skip (Nat.le_refl _) h]; simp [findM]
structure MrksOk (xs : List Mrk) : Prop where
  ok : ∀ k, k < xs.length → (1 ≤ (xs.getD k default).con ∧ (xs.getD k default).con ≤ 1000000000) ∧ (1 ≤ (xs.getD k default).val ∧ (xs.getD k default).val ≤ 2)
  rise : ∀ i j, i < j → j < xs.length → (xs.getD i default).con < (xs.getD j default).con
theorem mrksOk_of {xs : List Mrk} (h : mrkF xs = 0) : MrksOk xs := by
  have h1 : ∀ k, k < xs.length → mrkAt xs k = 0 := scanI_zero h
  have hr : ∀ k, k + 1 < xs.length → (xs.getD k default).con < (xs.getD (k + 1) default).con := fun k hk => by
    have h2 := h1 (k + 1) hk
    unfold mrkAt at h2
    split at h2
    · split at h2
      · omega
      · rename_i h3
        rw [Nat.add_sub_cancel] at h3
        by_cases h4 : (xs.getD k default).con < (xs.getD (k + 1) default).con
        · exact h4
        · exact absurd ⟨by omega, h4⟩ h3
    · omega
  refine ⟨fun k hk => ?_, fun i j => ?_⟩
  · have h2 := h1 k hk
    unfold mrkAt at h2
    split at h2
    · rename_i h3
      simp only [Bool.and_eq_true, inBi] at h3
      exact h3
    · omega
  · induction j with
    | zero => intro h; omega
    | succ j ih =>
      intro hij hj
      have := hr j hj
      by_cases e : i = j
      · rw [e]; exact this
      · have := ih (by omega) (by omega); omega
theorem findM_at {xs : List Mrk} {c : Int} {i : Nat} (hr : ∀ i j, i < j → j < xs.length → (xs.getD i default).con < (xs.getD j default).con) (hi : i ≤ xs.length) (h1 : ∀ k, k < i → (xs.getD k default).con < c) (h2 : ∀ k, i ≤ k → k < xs.length → c ≤ (xs.getD k default).con) :
    findM c xs = if i < xs.length ∧ (xs.getD i default).con = c then (xs.getD i default).val else 0 := by
  rw [findM_skip hi (fun k hk => by have := h1 k hk; omega)]
  by_cases hl : i < xs.length
  · rw [findM_drop hl]
    by_cases he : (xs.getD i default).con = c
    · rw [if_pos he, if_pos ⟨hl, he⟩]
    · rw [if_neg he, if_neg (fun h => he h.2)]
      refine findM_none fun k hk => ?_
      rw [List.length_drop] at hk
      have e : (xs.drop (i + 1)).getD k default = xs.getD (i + 1 + k) default := by simp [List.getD]
      rw [e]
      have a := hr i (i + 1 + k) (by omega) (by omega)
      have b := h2 i (Nat.le_refl _) hl
      omega
  · rw [if_neg (fun h => hl h.1), List.drop_eq_nil_of_le (by omega)]; rfl
theorem heldIn_mem {hs : List Cont} {c : Int} : heldIn hs c = true ↔ ∃ k, k < hs.length ∧ (hs.getD k default).id = c := by
  unfold heldIn
  rw [List.any_eq_true]
  constructor
  · rintro ⟨x, hx, h⟩
    obtain ⟨k, hk, rfl⟩ := List.getElem_of_mem hx
    exact ⟨k, hk, by simpa [List.getD, hk] using h⟩
  · rintro ⟨k, hk, h⟩
    exact ⟨hs[k], List.getElem_mem hk, by simpa [List.getD, hk] using h⟩
theorem heldIn_at {hs : List Cont} {c : Int} {i : Nat} (hr : ∀ i j, i < j → j < hs.length → (hs.getD i default).id < (hs.getD j default).id) (h1 : ∀ k, k < i → (hs.getD k default).id < c) (h2 : ∀ k, i ≤ k → k < hs.length → c ≤ (hs.getD k default).id) :
    heldIn hs c = decide (i < hs.length ∧ (hs.getD i default).id = c) := by
  rw [Bool.eq_iff_iff, heldIn_mem, decide_eq_true_iff]
  constructor
  · rintro ⟨k, hk, e⟩
    by_cases a : k < i
    · have := h1 k a; omega
    · by_cases b : k = i
      · rw [← b]; exact ⟨hk, e⟩
      · have := hr i k (by omega) hk
        have := h2 i (Nat.le_refl _) (by omega)
        omega
  · rintro ⟨a, b⟩; exact ⟨i, a, b⟩
theorem heldIn_take {hs : List Cont} {c : Int} {k : Nat} (hk : k < hs.length) : heldIn (hs.take (k + 1)) c = (heldIn (hs.take k) c || decide ((hs.getD k default).id = c)) := by
  have e : hs.take (k + 1) = hs.take k ++ [hs.getD k default] := by rw [List.take_add_one]; simp [List.getD, hk]
  unfold heldIn
  rw [e, List.any_append]
  simp only [List.any_cons, List.any_nil, Bool.or_false]
  congr 1
theorem doneL_snoc {xs : List Mrk} {k : Nat} (hk : k < xs.length) : doneL (xs.take (k + 1)) = if (xs.getD k default).val = 1 then doneL (xs.take k) ++ [(xs.getD k default).con] else doneL (xs.take k) := by
  have e : xs.take (k + 1) = xs.take k ++ [xs.getD k default] := by rw [List.take_add_one]; simp [List.getD, hk]
  unfold doneL
  rw [e, List.filter_append, List.map_append]
  by_cases h : (xs.getD k default).val = 1
  · rw [if_pos h, List.filter_cons_of_pos (by simp only [beq_iff_eq]; exact h)]; rfl
  · rw [if_neg h, List.filter_cons_of_neg (by simp only [beq_iff_eq]; exact h)]; simp
theorem doneL_le (xs : List Mrk) : (doneL xs).length ≤ xs.length := by
  unfold doneL; rw [List.length_map]; exact List.length_filter_le _ _
theorem doneL_mem {xs : List Mrk} (h : MrksOk xs) {c : Int} : c ∈ doneL xs ↔ findM c xs = 1 := by
  unfold doneL
  rw [List.mem_map]
  constructor
  · rintro ⟨m, hm, rfl⟩
    obtain ⟨h1, h2⟩ := List.mem_filter.1 hm
    obtain ⟨k, hk, rfl⟩ := List.getElem_of_mem h1
    have e : xs[k] = xs.getD k default := by simp [List.getD, hk]
    rw [e] at h2 ⊢
    rw [findM_at (i := k) h.rise (by omega) (fun j hj => h.rise j k hj hk) (fun j hj hl => by
      by_cases e : k = j
      · rw [e]; exact Int.le_refl _
      · have := h.rise k j (by omega) hl; omega), if_pos ⟨hk, rfl⟩]
    simpa using h2
  · intro hf
    by_cases hex : ∃ k, k < xs.length ∧ (xs.getD k default).con = c
    · obtain ⟨k, hk, rfl⟩ := hex
      rw [findM_at (i := k) h.rise (by omega) (fun j hj => h.rise j k hj hk) (fun j hj hl => by
        by_cases e : k = j
        · rw [e]; exact Int.le_refl _
        · have := h.rise k j (by omega) hl; omega), if_pos ⟨hk, rfl⟩] at hf
      have e : xs[k] = xs.getD k default := by simp [List.getD, hk]
      exact ⟨xs[k], List.mem_filter.2 ⟨List.getElem_mem hk, by rw [e]; simp only [beq_iff_eq]; exact hf⟩, by rw [e]⟩
    · rw [findM_none (fun k hk he => hex ⟨k, hk, he⟩)] at hf; omega
theorem doneL_rise {xs : List Mrk} (h : MrksOk xs) : (doneL xs).Pairwise (fun a b => a < b) := by
  unfold doneL
  rw [List.pairwise_map]
  refine List.Pairwise.filter _ ?_
  rw [List.pairwise_iff_getElem]
  intro i j hi hj hij
  have := h.rise i j hij hj
  simpa [List.getD, hi, hj] using this
theorem perm_of_sub : ∀ {l1 l2 : List Int}, l1.Nodup → (∀ x ∈ l1, x ∈ l2) → l2.length = l1.length → l1.Perm l2
  | [], l2, _, _, hl => by rw [List.length_nil] at hl; rw [List.eq_nil_of_length_eq_zero hl]
  | x :: l1, l2, hn, hs, hl => by
    obtain ⟨hx, hn⟩ := List.nodup_cons.1 hn
    have hm := hs x (List.mem_cons_self ..)
    have hp := List.perm_cons_erase hm
    refine List.Perm.trans (List.Perm.cons x (perm_of_sub hn (fun y hy => ?_) ?_)) hp.symm
    · have : y ≠ x := fun e => hx (e ▸ hy)
      exact (List.mem_erase_of_ne this).2 (hs y (List.mem_cons_of_mem _ hy))
    · rw [List.length_erase_of_mem hm, hl]; rfl
theorem nodup_take {l : List Int} (h : ∀ k, k < l.length → ¬ (l.getD k 0) ∈ l.take k) : l.Nodup := by
  unfold List.Nodup
  rw [List.pairwise_iff_getElem]
  intro i j hi hj hij e
  refine h j hj ?_
  have e2 : l.getD j 0 = l[j] := by simp [List.getD, hj]
  rw [e2, ← e]
  exact List.mem_take_iff_getElem.2 ⟨i, by omega, rfl⟩
theorem take_nodup {l : List Int} (h : l.Nodup) {k : Nat} (hk : k < l.length) : ¬ (l.getD k 0) ∈ l.take k := by
  intro hm
  obtain ⟨i, hi, e⟩ := List.mem_take_iff_getElem.1 hm
  unfold List.Nodup at h
  rw [List.pairwise_iff_getElem] at h
  have e2 : l.getD k 0 = l[k] := by simp [List.getD, hk]
  exact h i k (by omega) hk (by omega) (by rw [e, e2])
theorem applG_sort {done : List Mrk} (h : MrksOk done) (appl : List Int) : applG done appl = decide (appl.mergeSort (fun x y => decide (x ≤ y)) = doneL done) := by
  unfold applG
  rw [decide_eq_decide]
  have hsort := doneL_rise h
  have hle : (doneL done).Pairwise (fun a b => decide (a ≤ b) = true) := hsort.imp (fun h => by simp; omega)
  constructor
  · rintro ⟨hl, hk⟩
    have hp : appl.Perm (doneL done) := perm_of_sub (nodup_take fun k hk' => (hk k hk').2) (fun x hx => by
      obtain ⟨k, hk', rfl⟩ := List.getElem_of_mem hx
      have := (hk k hk').1
      rw [doneL_mem h]
      simpa [List.getD, hk'] using this) hl
    refine List.Perm.eq_of_pairwise (le := fun a b => decide (a ≤ b) = true) (fun a b _ _ h1 h2 => ?_) (List.pairwise_mergeSort (fun a b c h1 h2 => ?_) (fun a b => ?_) _) hle ((List.mergeSort_perm _ _).trans hp)
    · simp at h1 h2; omega
    · simp at h1 h2 ⊢; omega
    · simp; omega
  · intro he
    have hp : appl.Perm (doneL done) := by rw [← he]; exact (List.mergeSort_perm _ _).symm
    have hn : appl.Nodup := hp.nodup_iff.2 (hsort.imp (fun h e => by omega))
    refine ⟨hp.length_eq.symm, fun k hk => ⟨?_, take_nodup hn hk⟩⟩
    rw [← doneL_mem h]
    exact hp.mem_iff.1 (by simp [List.getD, hk])
def apartB (idx : Int) (hs : List Cont) (ls : List Leg) : Bool := (onSh idx ls).any (fun l => hs.any (fun o => hasPlace o.legs l))
theorem touch_place {idx : Int} {a b : List Leg} : (onSh idx a).any (fun l => hasPlace b l) = touch (onSh idx a) (onSh idx b) := by
  unfold touch
  rw [Bool.eq_iff_iff, List.any_eq_true, List.any_eq_true]
  constructor
  · rintro ⟨l, hl, h⟩
    refine ⟨l, hl, ?_⟩
    unfold hasPlace at h
    rw [List.any_eq_true] at h ⊢
    obtain ⟨o, ho, h⟩ := h
    simp only [samePlace, Bool.and_eq_true, beq_iff_eq] at h
    obtain ⟨_, hs⟩ := List.mem_filter.1 hl
    simp only [beq_iff_eq] at hs
    exact ⟨o, List.mem_filter.2 ⟨ho, by simp only [beq_iff_eq]; omega⟩, by simp only [sameAA, Bool.and_eq_true, beq_iff_eq]; omega⟩
  · rintro ⟨l, hl, h⟩
    refine ⟨l, hl, ?_⟩
    unfold hasPlace
    rw [List.any_eq_true] at h ⊢
    obtain ⟨o, ho, h⟩ := h
    obtain ⟨ho, hs⟩ := List.mem_filter.1 ho
    obtain ⟨_, hs2⟩ := List.mem_filter.1 hl
    simp only [sameAA, Bool.and_eq_true, beq_iff_eq] at h hs hs2
    exact ⟨o, ho, by simp only [samePlace, Bool.and_eq_true, beq_iff_eq]; omega⟩
theorem apartB_touch {idx : Int} {hs : List Cont} {ls : List Leg} : apartB idx hs ls = hs.any (fun o => touch (onSh idx ls) (onSh idx o.legs)) := by
  unfold apartB
  have e : ∀ o : Cont, touch (onSh idx ls) (onSh idx o.legs) = (onSh idx ls).any (fun l => hasPlace o.legs l) := fun o => touch_place.symm
  simp only [e]
  rw [Bool.eq_iff_iff]
  simp only [List.any_eq_true]
  constructor
  · rintro ⟨l, hl, o, ho, h⟩; exact ⟨o, ho, l, hl, h⟩
  · rintro ⟨o, ho, l, hl, h⟩; exact ⟨l, hl, o, ho, h⟩
theorem apartB_range {idx : Int} {hs : List Cont} {ls : List Leg} {k : Nat} (hk : k ≤ hs.length) : apartB idx (hs.take k) ls = (List.range k).any (fun j => touch (onSh idx ls) (onSh idx (hs.getD j default).legs)) := by
  rw [apartB_touch, Bool.eq_iff_iff]
  simp only [List.any_eq_true, List.mem_range]
  constructor
  · rintro ⟨o, ho, h⟩
    obtain ⟨i, hi, e⟩ := List.mem_take_iff_getElem.1 ho
    refine ⟨i, by omega, ?_⟩
    have : hs.getD i default = o := by rw [← e]; simp [List.getD, show i < hs.length by omega]
    rw [this]; exact h
  · rintro ⟨j, hj, h⟩
    refine ⟨hs.getD j default, List.mem_take_iff_getElem.2 ⟨j, by omega, by simp [List.getD, show j < hs.length by omega]⟩, h⟩
end Go.Proofs.YtndghenlapbaaaaGreatDoor


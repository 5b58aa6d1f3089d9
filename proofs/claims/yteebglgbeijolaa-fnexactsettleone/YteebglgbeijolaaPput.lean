/-
  A row of values that own memory: one of them is another, with blocks of its own or new ones.
-/
import Derived.Test.YteebglgbeijolaaSep2
namespace Go.Proofs.Yteebglgbeijolaa
open Go.RowKit

theorem PO.put {α : Type} {R : Rep α} {e size : Nat} {lv : Value → List Value} {w w' : World} {base : Nat} {v : Value} {n k j : Nat} {d : Nat → α} {cs cs' : List Value} {us : Nat → Value} {fs : Nat → Nat → Prop} {u : Value} {x : α} {F' : Nat → Prop}
    (h : PO R e size lv w base v n k d cs us fs) (hj : j < k) (hm : Mod (fun b => v.ownBlock = some b ∨ fs j b) w w') (hu : R.O w' base F' u x) (hF : ∀ b, F' b → fs j b ∨ w.heap.size ≤ b) (hl : (lv u).length = size)
    (hr : w'.ownsRow base e size v n cs') (hold : ∀ i, i < k → i ≠ j → ∀ o, o < size → cs'[i * size + o]? = cs[i * size + o]?) (hnew : ∀ o, o < size → cs'[j * size + o]? = (lv u)[o]?) :
    PO R e size lv w' base v n k (upd d j x) cs' (upd us j u) (upd fs j F') := by
  have hlt : ∀ b, v.ownBlock = some b → b < w.heap.size := fun b hb => (h.row.lt b hb).2
  have hfs : ∀ i, i < k → ∀ b, fs i b → b < w.heap.size := fun i hi b hb => (R.rng (h.el i hi) b hb).2
  refine ⟨hr, ?_, ?_, ?_, ?_, ?_⟩
  · intro i hi
    by_cases hik : i = j
    · subst hik; rw [upd_at, upd_at, upd_at]; exact hu
    · rw [upd_ne _ _ hik, upd_ne _ _ hik, upd_ne _ _ hik]
      exact R.mod (h.el i hi) hm (fun b hb => by
        rintro (he | he)
        · exact h.out i hi b hb he
        · exact h.sep i j hi hj hik b hb he)
  · intro i hi
    by_cases hik : i = j
    · subst hik; rw [upd_at]; exact hl
    · rw [upd_ne _ _ hik]; exact h.ln i hi
  · intro i hi o ho
    by_cases hik : i = j
    · subst hik; rw [upd_at]; exact hnew o ho
    · rw [upd_ne _ _ hik, hold i hi hik o ho]; exact h.cell i hi o ho
  · intro i hi b hb he
    by_cases hik : i = j
    · subst hik
      rw [upd_at] at hb
      rcases hF b hb with h1 | h1
      · exact h.out i hi b h1 he
      · have := hlt b he; omega
    · rw [upd_ne _ _ hik] at hb
      exact h.out i hi b hb he
  · intro i i' hi hi' hii b h1 h2
    by_cases hik : i = j
    · subst hik
      rw [upd_at] at h1
      rw [upd_ne _ _ (Ne.symm hii)] at h2
      rcases hF b h1 with h3 | h3
      · exact h.sep i i' hi hi' hii b h3 h2
      · have := hfs i' hi' b h2; omega
    · rw [upd_ne _ _ hik] at h1
      by_cases hjk : i' = j
      · subst hjk
        rw [upd_at] at h2
        rcases hF b h2 with h3 | h3
        · exact h.sep i i' hi hi' hii b h1 h3
        · have := hfs i hi b h1; omega
      · rw [upd_ne _ _ hjk] at h2
        exact h.sep i i' hi hi' hii b h1 h2

/-- the same, of rows of one cell, by a store at j behind the append -/
theorem PO.putS {α : Type} {R : Rep α} {e : Nat} {w w1 w2 : World} {base g cap : Nat} {n j : Nat} {d : Nat → α} {cs : List Value} {us : Nat → Value} {fs : Nat → Nat → Prop} {u : Value} {x : α} {F' : Nat → Prop}
    (h : PO R e 1 one w base (.slice (some ⟨g, 0, none⟩) n cap) n n d cs us fs) (hj : j < n) (hm : Mod (fun b => fs j b) w w1) (hu : R.O w1 base F' u x) (hF : ∀ b, F' b → fs j b ∨ w.heap.size ≤ b)
    (hr : w2.ownsRow base e 1 (.slice (some ⟨g, 0, none⟩) n cap) n (cs.set j u)) (hm2 : Mod (fun b => b = g) w1 w2) :
    PO R e 1 one w2 base (.slice (some ⟨g, 0, none⟩) n cap) n n (upd d j x) (cs.set j u) (upd us j u) (upd fs j F') := by
  have hcl : cs.length = n := by simpa using h.row.1
  have hg : g < w.heap.size := (h.row.lt g rfl).2
  have hgF : ¬ F' g := fun hf => by
    rcases hF g hf with h1 | h1
    · exact h.out j hj g h1 rfl
    · omega
  refine h.put hj (Mod.trans (Mod.mono hm (fun b hb => Or.inr hb)) (Mod.mono hm2 (fun b hb => Or.inl (by rw [hb]; rfl)))) (R.mod hu hm2 (fun b hb e => hgF (e ▸ hb))) hF rfl hr ?_ ?_
  · intro i hi hij o ho
    obtain rfl : o = 0 := by omega
    rw [Nat.mul_one, Nat.add_zero, List.getElem?_set_ne (Ne.symm hij)]
  · intro o ho
    obtain rfl : o = 0 := by omega
    rw [Nat.mul_one, Nat.add_zero, List.getElem?_set_self (by omega)]
    rfl

end Go.Proofs.Yteebglgbeijolaa

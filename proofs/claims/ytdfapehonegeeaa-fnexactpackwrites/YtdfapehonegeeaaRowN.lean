/-
  Several rows of bytes more behind rows of bytes, in a region that draws its order.
-/
import Derived.Test.YtdfapehonegeeaaRowB
import Derived.Test.YtdfapehonegeeaaRegT
namespace Go.Proofs.Ytdfapehonegeeaa
open Go.RowKit
set_option linter.unusedVariables false
set_option linter.unusedSimpArgs false

theorem getD_app_range {α : Type} [Inhabited α] (out : List α) (D : Nat → α) (m i : Nat) (h : i < out.length + m) :
    (out ++ (List.range m).map D).getD i default = if i < out.length then out.getD i default else D (i - out.length) := by
  by_cases h1 : i < out.length
  · rw [if_pos h1]
    simp [List.getD, List.getElem?_append_left h1]
  · rw [if_neg h1]
    have h2 : i - out.length < m := by omega
    simp [List.getD, List.getElem?_append_right (Nat.le_of_not_lt h1), h2]

/-- m more rows of bytes appended at a step of a region that draws its order -/
theorem step_pushN (w0 Y : World) {ops : Array Oper} {o : Oper} {a : Act} {K : Act → World → Prop} {Q : Exit → Act → World → Prop} {E : Prop} (hgd : o.guard = none) (s x : Operand)
    (ho : o.op = .call { callee := .builtin .append, args := #[s, x], argTypes := #[142, 142] })
    (base : Nat) (v : Value) (out : List (List Byte)) (hs : a.eval s = v) (m : Nat) (g : Nat) (hx : a.eval x = .slice (some ⟨g, 0, none⟩) m m) (hp : RowsB w0 base v out) (hbs : base ≤ w0.heap.size) (hb : Below w0.heap.size w0 Y)
    (U : Nat → Value) (F : Nat → Nat → Prop) (D : Nat → List Byte) (hu : ∀ i, i < m → bytesR.O Y w0.heap.size (F i) (U i) (D i)) (hsep : ∀ i j, i < m → j < m → i ≠ j → ∀ b, F i b → ¬ F j b)
    (hc : ∀ i, i < m → Y.cell? ⟨g, i, none⟩ = some (U i)) (hm : m ≤ 8) (hlen : out.length ≤ 1048576)
    (h : ∀ v' w', RowsB w' base v' (out ++ (List.range m).map D) → Y.grownBy w' v.ownBlock → (∀ W : World, Below base W w0 → Below base W w') → K (a.put o.dst v') w') :
    if Region.wanted o (yielded ops a.tmps) = true then Oper.wp Try.prog o a Y K Q else E := by
  obtain ⟨cs, us, fs, hp⟩ := hp
  obtain ⟨i0, hi, hz0, hz1, hz2⟩ := info_parts infoBytess
  have hs0 := hb.size
  have hone : ∀ i, i < m → (U i).oneCell' = true := fun i hi => by
    obtain ⟨a1, c1, e1⟩ := bytes_form (bytesR.ofO (hu i hi))
    rw [e1]; rfl
  refine step_append_at Y hgd s x 142 ho base 22 i0 _ 1 24 Try.underlying142 hi hz0 hz1 hz2 rfl (by decide) v out.length cs hs (owns_below hp.row hb) ⟨g, 0, none⟩ m m ((List.range m).map U) hx (by simp) ?_ ?_ (by unfold maxLen; omega) (by omega) (by omega) ?_
  · intro j x hj
    have hjm : j < m := by
      rcases Nat.lt_or_ge j m with h | h
      · exact h
      · rw [List.getElem?_eq_none (by simpa using h)] at hj; cases hj
    rw [List.getElem?_map, List.getElem?_range hjm] at hj
    simp only [Option.map_some, Option.some.injEq] at hj
    subst hj
    have hq := hc j hjm
    by_cases e : j = 0
    · subst e; simpa [Addr.add] using hq
    · simpa [Addr.add, e] using hq
  · intro x hx
    obtain ⟨j, hj, rfl⟩ := List.mem_map.1 hx
    exact hone j (List.mem_range.1 hj)
  · intro v' w' h1 h2 h3
    refine h v' w' ?_ h2 (fun W hW => (hW.trans (hb.mono hbs)).grown h2 (by omega) (fun k hk => ((owns_below hp.row hb).lt k hk).1))
    have hF : ∀ i, i < m → ∀ b, F i b → w0.heap.size ≤ b ∧ b < Y.heap.size := fun i hi b hb => bytesR.rng (hu i hi) b hb
    have hlt : ∀ b, v.ownBlock = some b → b < w0.heap.size := fun b hb => (hp.row.lt b hb).2
    have hfs : ∀ i, i < out.length → ∀ b, fs i b → b < w0.heap.size := fun i hi b hb => (bytesR.rng (hp.el i hi) b hb).2
    have hnew : ∀ b, v'.ownBlock = some b → (v.ownBlock = some b ∨ Y.heap.size ≤ b) := fun b hb => by
      rcases h3 with h3 | h3
      · left; rw [← h3]; exact hb
      · right; rw [h3] at hb; simp only [Option.some.injEq] at hb; omega
    have hlen2 : (out ++ (List.range m).map D).length = out.length + m := by simp
    have hcl : cs.length = out.length * 1 := hp.row.1
    refine ⟨cs ++ (List.range m).map U, fun i => if i < out.length then us i else U (i - out.length), fun i => if i < out.length then fs i else F (i - out.length), ?_, ?_, ?_, ?_, ?_, ?_⟩
    · rw [hlen2]; exact h1
    · intro i hi
      rw [hlen2] at hi
      rw [getD_app_range _ _ _ _ hi]
      by_cases h1' : i < out.length
      · simp only [if_pos h1']
        exact bytesR.mod (bytesR.keep (hp.el i h1') hb) (Mod.of_grown h2) (fun b hb => hp.out i h1' b hb)
      · simp only [if_neg h1']
        exact bytesR.base (bytesR.mod (hu (i - out.length) (by omega)) (Mod.of_grown h2) (fun b hb he => by have := hlt b he; have := (hF _ (by omega) b hb).1; omega)) hbs
    · intro i hi; rfl
    · intro i hi j hj
      rw [hlen2] at hi
      have e0 : j = 0 := by omega
      subst e0
      by_cases h1' : i < out.length
      · simp only [if_pos h1']
        rw [List.getElem?_append_left (by omega)]
        exact hp.cell i h1' 0 (by omega)
      · simp only [if_neg h1']
        rw [List.getElem?_append_right (by omega), hcl, show i * 1 + 0 - out.length * 1 = i - out.length by omega, List.getElem?_map, List.getElem?_range (by omega)]
        rfl
    · intro i hi b hb he
      rw [hlen2] at hi
      have hn := hnew b he
      by_cases h1' : i < out.length
      · simp only [if_pos h1'] at hb
        rcases hn with hn | hn
        · exact hp.out i h1' b hb hn
        · have := hfs i h1' b hb; omega
      · simp only [if_neg h1'] at hb
        have := hF _ (by omega) b hb
        rcases hn with hn | hn
        · have := hlt b hn; omega
        · omega
    · intro i j hi hj hij b p q
      rw [hlen2] at hi hj
      by_cases h1' : i < out.length
      · simp only [if_pos h1'] at p
        by_cases h2' : j < out.length
        · simp only [if_pos h2'] at q
          exact hp.sep i j h1' h2' hij b p q
        · simp only [if_neg h2'] at q
          have := hfs i h1' b p
          have := (hF _ (by omega) b q).1
          omega
      · simp only [if_neg h1'] at p
        by_cases h2' : j < out.length
        · simp only [if_pos h2'] at q
          have := hfs j h2' b q
          have := (hF _ (by omega) b p).1
          omega
        · simp only [if_neg h2'] at q
          exact hsep (i - out.length) (j - out.length) (by omega) (by omega) (by omega) b p q

theorem rowsB_one {Y : World} {base : Nat} {F : Nat → Prop} {u : Value} {d : List Byte} (hu : bytesR.O Y base F u d) (hb : base ≤ Y.heap.size) :
    RowsB (Y.alloc (.cells #[u] 22)) base (.slice (some ⟨Y.heap.size, 0, none⟩) 1 1) [d] := by
  refine ⟨[u], fun _ => u, fun _ => F, World.ownsRow_lit (base := base) (e := 22) (size := 1) Y #[u] 1 hb (by unfold maxLen; omega) rfl, ?_, fun i hi => rfl, ?_, ?_, ?_⟩
  · intro i hi
    have e : i = 0 := by have h1 : i < 1 := hi; omega
    subst e
    exact bytesR.alloc hu _
  · intro i hi j hj
    have e : i = 0 := by have h1 : i < 1 := hi; omega
    have e2 : j = 0 := by omega
    subst e e2
    rfl
  · intro i hi b hb he
    have h2 := (bytesR.rng hu b hb).2
    have h3 : Y.heap.size = b := by injection he
    omega
  · intro i j hi hj hij
    have h1 : i < 1 := hi
    have h2 : j < 1 := hj
    omega

end Go.Proofs.Ytdfapehonegeeaa

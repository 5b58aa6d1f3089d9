/-
  Frames: a place in the code, a record drawn; one more row.
-/
import Derived.Test.YtfeolikagceohaaDrw3
import Derived.Test.YtfeolikagceohaaConv
import Derived.Test.YtfeolikagceohaaFrM
namespace Go.Proofs.Ytfeolikagceohaa
open Go.RowKit
set_option linter.unusedSectionVars false
variable [DecidableEq Logg] [Inhabited Logg] [DecidableEq LoggR] [Inhabited LoggR] [DecidableEq BytesR] [Inhabited BytesR] [DecidableEq RecsR] [Inhabited RecsR] [DecidableEq Leg] [Inhabited Leg]
set_option linter.unusedSimpArgs false
attribute [local go_sem ↓] Go.wp_at_zero Go.wp_at_succ

theorem PO.append2 {α : Type} {R : Rep α} {e size : Nat} {lv : Value → List Value} {Y w' : World} {base : Nat} {v v' : Value} {n : Nat} {d : Nat → α} {cs : List Value} {us : Nat → Value} {fs : Nat → Nat → Prop} {u : Value} {F' : Nat → Prop}
    (h : PO R e size lv Y base v n n d cs us fs) (hu : R.O Y base F' u (d n)) (hd1 : ∀ b, F' b → v.ownBlock ≠ some b) (hd2 : ∀ i, i < n → ∀ b, fs i b → ¬ F' b) (hl : (lv u).length = size)
    (hr : w'.ownsRow base e size v' (n + 1) (cs ++ lv u)) (hg : Y.grownBy w' v.ownBlock) (hloc : v'.ownBlock = v.ownBlock ∨ v'.ownBlock = some Y.heap.size) :
    PO R e size lv w' base v' (n + 1) (n + 1) d (cs ++ lv u) (upd us n u) (upd fs n F') := by
  have hF : ∀ b, F' b → b < Y.heap.size := fun b hb => (R.rng hu b hb).2
  have hfs : ∀ i, i < n → ∀ b, fs i b → b < Y.heap.size := fun i hi b hb => (R.rng (h.el i hi) b hb).2
  have hcl : cs.length = n * size := h.row.1
  refine ⟨hr, ?_, ?_, ?_, ?_, ?_⟩
  · intro i hi
    by_cases hik : i = n
    · subst hik
      rw [upd_at, upd_at]
      exact R.mod hu (Mod.of_grown hg) (fun b hb => hd1 b hb)
    · rw [upd_ne _ _ hik, upd_ne _ _ hik]
      exact R.mod (h.el i (by omega)) (Mod.of_grown hg) (fun b hb => h.out i (by omega) b hb)
  · intro i hi
    by_cases hik : i = n
    · subst hik; rw [upd_at]; exact hl
    · rw [upd_ne _ _ hik]; exact h.ln i (by omega)
  · intro i hi j hj
    by_cases hik : i = n
    · subst hik
      rw [upd_at, List.getElem?_append_right (by omega), hcl]
      congr 1
      omega
    · rw [upd_ne _ _ hik, ← h.cell i (by omega) j hj, List.getElem?_append_left]
      rw [hcl]
      have : i * size + size ≤ n * size := by rw [← Nat.succ_mul]; exact Nat.mul_le_mul_right _ (by omega)
      omega
  · intro i hi b hb he
    by_cases hik : i = n
    · subst hik
      rw [upd_at] at hb
      rcases hloc with hloc | hloc
      · rw [hloc] at he
        exact hd1 b hb he
      · rw [hloc] at he
        simp only [Option.some.injEq] at he
        have := hF b hb; omega
    · rw [upd_ne _ _ hik] at hb
      rcases hloc with hloc | hloc
      · rw [hloc] at he
        exact h.out i (by omega) b hb he
      · rw [hloc] at he
        simp only [Option.some.injEq] at he
        have := hfs i (by omega) b hb
        omega
  · intro i j hi hj hij b h1 h2
    by_cases hik : i = n
    · subst hik
      rw [upd_at] at h1
      rw [upd_ne _ _ (Ne.symm hij)] at h2
      exact hd2 j (by omega) b h2 h1
    · rw [upd_ne _ _ hik] at h1
      by_cases hjk : j = n
      · subst hjk
        rw [upd_at] at h2
        exact hd2 i (by omega) b h1 h2
      · rw [upd_ne _ _ hjk] at h2
        exact h.sep i j (by omega) (by omega) hij b h1 h2

/-- bytes appended, and where they lie -/
theorem wpList_appAt (Y : World) {ops : Array Oper} {rest : List Oper} {o : Oper} {a : Act} {Q : Exit → Act → World → Prop} (hgd : o.guard = none) (s x : Operand)
    (ho : o.op = .call { callee := .builtin .append, args := #[s, x], argTypes := #[22, 22] })
    (base : Nat) (v : Value) (xs : List Byte) (hs : a.eval s = v) (u : Value) (ys : List Byte) (hx : a.eval x = u)
    (hown : Y.ownsRow base 5 1 v xs.length (bytesC xs)) (hsrc : AppAny Y u ys.length (bytesC ys)) (hpos : 0 < ys.length) (hlen : xs.length + ys.length ≤ 1073741824) (hbase : base ≤ Y.heap.size)
    (h : ∀ v' w', w'.ownsRow base 5 1 v' (xs ++ ys).length (bytesC (xs ++ ys)) → Y.grownBy w' v.ownBlock → (v'.ownBlock = v.ownBlock ∨ v'.ownBlock = some Y.heap.size) → wpList Try.prog ops Q rest (a.put o.dst v') w') :
    wpList Try.prog ops Q (o :: rest) a Y := by
  obtain ⟨i0, hi, hz0, hz1, hz2⟩ := info_parts infoByte
  rcases hsrc with ⟨c, rfl, hm, _⟩ | ⟨ad, c, rfl, hc⟩
  · omega
  refine wpList_append_at Y hgd s x 22 ho base 5 i0 _ 1 1 Try.underlying22 hi hz0 hz1 hz2 rfl (by decide) v xs.length (bytesC xs) hs hown ad ys.length c (bytesC ys) hx (by rw [length_bytesC]; omega) hc (bytesC_one ys) (by unfold maxLen; omega) (by omega) hbase ?_
  intro v' w' h1 h2 h3
  refine h v' w' ?_ h2 h3
  rw [List.length_append, bytesC_append]
  exact h1

/-- a row of bytes appended to a row of such -/
theorem wpList_pushAt (Y : World) {ops : Array Oper} {rest : List Oper} {o : Oper} {a : Act} {Q : Exit → Act → World → Prop} (hgd : o.guard = none) (s x : Operand)
    (ho : o.op = .call { callee := .builtin .append, args := #[s, x], argTypes := #[24, 24] })
    (base : Nat) (v : Value) (n : Nat) (cs : List Value) (hown : Y.ownsRow base 22 1 v n cs) (u : Value) (a1 : Option Addr) (l1 c1 : Nat) (e1 : u = .slice a1 l1 c1) (hs : a.eval s = v) (hx : a.eval x = .slice (some ⟨Y.heap.size, 0, none⟩) 1 1) (hlen : n ≤ 1048576) (hbase : base ≤ Y.heap.size)
    (h : ∀ v' w', w'.ownsRow base 22 1 v' (n + 1) (cs ++ one u) → (Y.alloc (.cells #[u] 22)).grownBy w' v.ownBlock → (v'.ownBlock = v.ownBlock ∨ v'.ownBlock = some (Y.alloc (.cells #[u] 22)).heap.size) → wpList Try.prog ops Q rest (a.put o.dst v') w') :
    wpList Try.prog ops Q (o :: rest) a (Y.alloc (.cells #[u] 22)) := by
  obtain ⟨i0, hi, hz0, hz1, hz2⟩ := info_parts infoBytess
  subst e1
  refine wpList_append_at _ hgd s x 24 ho base 22 i0 _ 1 24 Try.underlying24 hi hz0 hz1 hz2 rfl (by decide) v n cs hs (hown.alloc _) ⟨Y.heap.size, 0, none⟩ 1 1 [.slice a1 l1 c1] hx rfl ?_ ?_ (by unfold maxLen; omega) (by omega) (by rw [World.size_alloc]; omega) ?_
  · intro j x hj
    match j, hj with
    | 0, hj => simp at hj; subst hj; simp [Addr.add, go_sem]
    | j + 1, hj => simp at hj
  · intro x hx
    simp only [List.mem_cons, List.not_mem_nil, or_false] at hx
    subst hx
    rfl
  · intro v' w' h1 h2 h3
    exact h v' w' h1 h2 h3

set_option maxHeartbeats 1000000 in
theorem drawFrame_any (x : Value) (cs : List Byte) (w : World) (hx : BytesV w x cs) (hn : cs.length ≤ 2097152) :
    Calls Try.prog 7 #[x] w fun e w' => ∃ v F xs, e = .returned v ∧ bytesR.O w' w.heap.size F v xs ∧ xs.length ≤ 501 ∧ Below w.heap.size w w' := by
  have hX := hx
  obtain ⟨ax, cx, rfl, _⟩ := hx
  go_enter Try.func7, Try.ntmps7
  go_wp2_with fail
  refine (l1Source_any _ cs _ hX hn).mono ?_
  rintro e w1 ⟨a, cap, rfl, hs1, hb1⟩
  have z1 := hb1.size
  go_wp2_with fail
  refine (l3Some_any w.heap.size w1 w.heap.size a cs.length cap 0 hs1 (by omega)).mono ?_
  rintro e w2 ⟨v2, F2, xs, t2, rfl, ho2, hxl, _, _, hm2⟩
  obtain ⟨p2, q2, rfl⟩ := bytes_form (bytesR.ofO ho2)
  have hB2 : Below w.heap.size w w2 := hm2.below hb1 z1 (fun b hb => by omega)
  have hO := bytesR.base (base' := w.heap.size) ho2 z1
  clear ho2 hm2
  go_wp2
  go_ret
  first
    | exact ⟨_, F2, xs, rfl, hO, hxl, hB2⟩
    | exact ⟨_, rfl, F2, xs, hO, hxl, hB2⟩
    | exact ⟨_, rfl, F2, ⟨xs, hO, hxl⟩, hB2⟩
    | exact ⟨_, rfl, ⟨F2, xs, hO, hxl⟩, hB2⟩

end Go.Proofs.Ytfeolikagceohaa

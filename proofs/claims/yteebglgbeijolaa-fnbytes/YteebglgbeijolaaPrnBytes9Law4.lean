import Derived.Test.YteebglgbeijolaaPrnBytes9Law1
import Derived.Maps.AppendAt
import Derived.Test.YteebglgbeijolaaPrnBytes9Law3

/-
  Cells that are kept. (Written by program: lawgen.py.)
-/
namespace Go.Proofs.Yteebglgbeijolaa
open Go.RowKit
theorem keepN3 {w w' : World} {a0 : Addr} {x0 : Value} {a1 : Addr} {x1 : Value} {a2 : Addr} {x2 : Value} (hb : Below w.heap.size w w') (g0 : w.cell? a0 = some x0) (g1 : w.cell? a1 = some x1) (g2 : w.cell? a2 = some x2) : Below w.heap.size w w' ∧ w'.cell? a0 = some x0 ∧ w'.cell? a1 = some x1 ∧ w'.cell? a2 = some x2 :=
  ⟨hb, cell_keep hb g0, cell_keep hb g1, cell_keep hb g2⟩
theorem keepN4 {w w' : World} {a0 : Addr} {x0 : Value} {a1 : Addr} {x1 : Value} {a2 : Addr} {x2 : Value} {a3 : Addr} {x3 : Value} (hb : Below w.heap.size w w') (g0 : w.cell? a0 = some x0) (g1 : w.cell? a1 = some x1) (g2 : w.cell? a2 = some x2) (g3 : w.cell? a3 = some x3) : Below w.heap.size w w' ∧ w'.cell? a0 = some x0 ∧ w'.cell? a1 = some x1 ∧ w'.cell? a2 = some x2 ∧ w'.cell? a3 = some x3 :=
  ⟨hb, cell_keep hb g0, cell_keep hb g1, cell_keep hb g2, cell_keep hb g3⟩
theorem keepS2 {w W W' : World} {a1 a2 : Addr} {v1 v2 : Value} (h : Below w.heap.size w W ∧ W.cell? a1 = some v1 ∧ W.cell? a2 = some v2) (hb : Below W.heap.size W W') : Below w.heap.size w W' ∧ W'.cell? a1 = some v1 ∧ W'.cell? a2 = some v2 :=
  ⟨bstep h.1 hb, cell_keep hb (h.2.1), cell_keep hb (h.2.2)⟩
theorem keepS4 {w W W' : World} {a1 a2 a3 a4 : Addr} {v1 v2 v3 v4 : Value} (h : Below w.heap.size w W ∧ W.cell? a1 = some v1 ∧ W.cell? a2 = some v2 ∧ W.cell? a3 = some v3 ∧ W.cell? a4 = some v4) (hb : Below W.heap.size W W') : Below w.heap.size w W' ∧ W'.cell? a1 = some v1 ∧ W'.cell? a2 = some v2 ∧ W'.cell? a3 = some v3 ∧ W'.cell? a4 = some v4 :=
  ⟨bstep h.1 hb, cell_keep hb (h.2.1), cell_keep hb (h.2.2.1), cell_keep hb (h.2.2.2.1), cell_keep hb (h.2.2.2.2)⟩
theorem boxNew2 {Y w' : World} {B t : Nat} {v1 v2 : Value} (hb : Below (Y.alloc (.cells #[v1, v2] t)).heap.size (Y.alloc (.cells #[v1, v2] t)) w') (e : B = Y.heap.size) : w'.cell? ⟨B, 0, none⟩ = some v1 ∧ w'.cell? ⟨B, 1, none⟩ = some v2 ∧ (∀ o, w'.frozen? ⟨B, o, none⟩ = false) ∧ B < w'.heap.size := by
  subst e
  have h := hb.size
  simp only [World.size_alloc] at h
  exact ⟨cell_keep hb (by simp [go_sem]), cell_keep hb (by simp [go_sem]), fun o => by rw [(bcell hb).2 _ _ (by simp)]; simp [go_sem], by omega⟩
theorem boxNew3 {Y w' : World} {B t : Nat} {v1 v2 v3 : Value} (hb : Below (Y.alloc (.cells #[v1, v2, v3] t)).heap.size (Y.alloc (.cells #[v1, v2, v3] t)) w') (e : B = Y.heap.size) : w'.cell? ⟨B, 0, none⟩ = some v1 ∧ w'.cell? ⟨B, 1, none⟩ = some v2 ∧ w'.cell? ⟨B, 2, none⟩ = some v3 ∧ (∀ o, w'.frozen? ⟨B, o, none⟩ = false) ∧ B < w'.heap.size := by
  subst e
  have h := hb.size
  simp only [World.size_alloc] at h
  exact ⟨cell_keep hb (by simp [go_sem]), cell_keep hb (by simp [go_sem]), cell_keep hb (by simp [go_sem]), fun o => by rw [(bcell hb).2 _ _ (by simp)]; simp [go_sem], by omega⟩
theorem boxKeep {W w' : World} {B : Nat} (h : (∀ o, W.frozen? ⟨B, o, none⟩ = false) ∧ B < W.heap.size) (hb : Below W.heap.size W w') : (∀ o, w'.frozen? ⟨B, o, none⟩ = false) ∧ B < w'.heap.size :=
  ⟨fun o => by rw [(bcell hb).2 _ _ h.2]; exact h.1 o, Nat.lt_of_lt_of_le h.2 hb.size⟩
end Go.Proofs.Yteebglgbeijolaa

/-
  A piece of a row of bytes.
-/
namespace Go.Proofs.Yteebglgbeijolaa
open Go.RowKit

theorem addP (b o i : Nat) : (Addr.mk b o none).add i = ⟨b, o + i, none⟩ := by
  by_cases h : i = 0
  · subst h; simp [Addr.add]
  · simp [Addr.add, h]
theorem bytes_cut {w : World} {a : Option Addr} {cap : Nat} {xs : List Byte} (hx : BytesV w (.slice a xs.length cap) xs) (l h : Nat) (h1 : l ≤ h) (h2 : h ≤ xs.length) :
    BytesV w (.slice (if cap = l then a else a.map (·.add (l * 1))) (h - l) (cap - l)) ((xs.drop l).take (h - l)) := by
  obtain ⟨a', cap', e, g1, g2, g3⟩ := hx
  simp only [Value.slice.injEq, true_and] at e
  obtain ⟨rfl, rfl⟩ := e
  have hl : ((xs.drop l).take (h - l)).length = h - l := by rw [List.length_take, List.length_drop]; omega
  refine ⟨_, _, by rw [hl], by omega, by omega, fun i hi => ?_⟩
  rw [hl] at hi
  obtain ⟨b, o, rfl, hc⟩ := g3 (l + i) (by omega)
  refine ⟨b, o + l, ?_, ?_⟩
  · rw [if_neg (by omega)]
    simp only [Option.map_some, Nat.mul_one]
    rw [addP]
  · rw [show o + l + i = o + (l + i) by omega, hc]
    simp [List.getD, hi]
theorem cellsB : (sizeOf (Try.prog.elem 22)).run Try.prog = fun w => .ok 1 w := by
  have he : Try.prog.elem 22 = 5 := by kernel_rfl
  obtain ⟨i0, hi, hz0, hz1, hz2⟩ := info_parts infoByte
  funext w
  simp [sizeOf, typeInfo, he, hi, hz1]
theorem undB : Try.prog.underlying 22 = some (.slice (Try.prog.elem 22)) := by kernel_rfl
end Go.Proofs.Yteebglgbeijolaa

/-
  A row of values that own memory, and one more appended.
-/
namespace Go.Proofs.Yteebglgbeijolaa
open Go.RowKit

theorem PO.append {α : Type} {R : Rep α} {e size : Nat} {lv : Value → List Value} {w Y w' : World} {base : Nat} {v v' : Value} {n : Nat} {d : Nat → α} {cs : List Value} {us : Nat → Value} {fs : Nat → Nat → Prop} {u : Value} {F' : Nat → Prop}
    (h : PO R e size lv w base v n n d cs us fs) (hbs : base ≤ w.heap.size) (hb : Below w.heap.size w Y) (hu : R.O Y w.heap.size F' u (d n)) (hl : (lv u).length = size)
    (hr : w'.ownsRow base e size v' (n + 1) (cs ++ lv u)) (hg : Y.grownBy w' v.ownBlock) (hloc : v'.ownBlock = v.ownBlock ∨ ∃ g, v'.ownBlock = some g ∧ Y.heap.size ≤ g) :
    PO R e size lv w' base v' (n + 1) (n + 1) d (cs ++ lv u) (upd us n u) (upd fs n F') := by
  have hlt : ∀ b, v.ownBlock = some b → b < w.heap.size := fun b hb => (h.row.lt b hb).2
  have hF : ∀ b, F' b → w.heap.size ≤ b ∧ b < Y.heap.size := fun b hb => R.rng hu b hb
  have hfs : ∀ i, i < n → ∀ b, fs i b → b < w.heap.size := fun i hi b hb => (R.rng (h.el i hi) b hb).2
  have hcl : cs.length = n * size := h.row.1
  refine ⟨hr, ?_, ?_, ?_, ?_, ?_⟩
  · intro i hi
    by_cases hik : i = n
    · subst hik
      rw [upd_at, upd_at]
      exact R.base (R.mod hu (Mod.of_grown hg) (fun b hb he => by have := hlt b he; have := (hF b hb).1; omega)) hbs
    · rw [upd_ne _ _ hik, upd_ne _ _ hik]
      exact R.mod (R.keep (h.el i (by omega)) hb) (Mod.of_grown hg) (fun b hb => h.out i (by omega) b hb)
  · intro i hi
    by_cases hik : i = n
    · subst hik; rw [upd_at]; exact hl
    · rw [upd_ne _ _ hik]; exact h.ln i (by omega)
  · intro i hi j hj
    by_cases hik : i = n
    · subst hik
      rw [upd_at, List.getElem?_append_right (by omega), hcl]
      congr 1
      omega
    · rw [upd_ne _ _ hik, ← h.cell i (by omega) j hj, List.getElem?_append_left]
      rw [hcl]
      have : i * size + size ≤ n * size := by rw [← Nat.succ_mul]; exact Nat.mul_le_mul_right _ (by omega)
      omega
  · intro i hi b hb he
    by_cases hik : i = n
    · subst hik
      rw [upd_at] at hb
      rcases hloc with hloc | ⟨g, hg', hge⟩
      · rw [hloc] at he
        have := hlt b he; have := (hF b hb).1; omega
      · rw [hg'] at he
        simp only [Option.some.injEq] at he
        have := (hF b hb).2; omega
    · rw [upd_ne _ _ hik] at hb
      rcases hloc with hloc | ⟨g, hg', hge⟩
      · rw [hloc] at he
        exact h.out i (by omega) b hb he
      · rw [hg'] at he
        simp only [Option.some.injEq] at he
        have := hfs i (by omega) b hb
        have := hb
        have := h.row
        have := hlt
        have hYw : w.heap.size ≤ Y.heap.size := by
          have := ‹Below w.heap.size w Y›
          exact this.size
        omega
  · intro i j hi hj hij b h1 h2
    by_cases hik : i = n
    · subst hik
      rw [upd_at] at h1
      rw [upd_ne _ _ (Ne.symm hij)] at h2
      have := (hF b h1).1; have := hfs j (by omega) b h2; omega
    · rw [upd_ne _ _ hik] at h1
      by_cases hjk : j = n
      · subst hjk
        rw [upd_at] at h2
        have := (hF b h2).1; have := hfs i (by omega) b h1; omega
      · rw [upd_ne _ _ hjk] at h2
        exact h.sep i j (by omega) (by omega) hij b h1 h2
section
variable {P : Program} (w : World)
theorem step_append_at {ops : Array Oper} {o : Oper} {a : Act} {K : Act → World → Prop} {Q : Exit → Act → World → Prop} {E : Prop} (hgd : o.guard = none) (s x : Operand) (t : TypeId)
    (ho : o.op = .call { callee := .builtin .append, args := #[s, x], argTypes := #[t, t] })
    (base : Nat) (e : TypeId) (i : TypeInfo) (z : Value) (size bytes : Nat) (ht : P.underlying t = some (.slice e)) (hi : P.info? e = some i) (hz : i.zero = some z)
    (hsize : i.size = size) (hby : i.bytes = bytes) (hzs : z.cells.size = size) (hsz : 0 < size)
    (v : Value) (n : Nat) (xs : List Value) (hs : a.eval s = v) (hown : w.ownsRow base e size v n xs)
    (ad : Addr) (m c : Nat) (news : List Value) (hx : a.eval x = .slice (some ad) m c) (hl : news.length = m * size) (hnews : ∀ j u, news[j]? = some u → w.cell? (ad.add j) = some u) (h1 : ∀ u ∈ news, u.oneCell' = true)
    (h63 : n + m ≤ maxLen) (hbytes : (n + m) * bytes ≤ 140737488355328) (hbase : base ≤ w.heap.size)
    (h : ∀ v' w', w'.ownsRow base e size v' (n + m) (xs ++ news) → w.grownBy w' v.ownBlock → (v'.ownBlock = v.ownBlock ∨ v'.ownBlock = some w.heap.size) → K (a.put o.dst v') w') :
    if Region.wanted o (yielded ops a.tmps) = true then Oper.wp P o a w K Q else E := by
  have hw : Region.wanted o (yielded ops a.tmps) = true := by simp [Region.wanted, hgd]
  rw [if_pos hw]
  obtain ⟨v', w', hr, h2, h3, _, h5⟩ := run_append_own_at (P := P) w base t o.type e i z size bytes ht hi hz hsize hby hzs hsz v n xs hown ad m c news hl hnews h1 h63 hbytes hbase
  unfold Oper.wp execOp
  simp only [ho, resolve, invoke, builtin, Sem.run_bind, Sem.run_pure, Result.andThen_ok, List.map_toArray, List.map_cons, List.map_nil, hs, hx, hr]
  exact h v' w' h2 h3 h5
end

end Go.Proofs.Yteebglgbeijolaa

/-
  One more row of bytes appended to a row of such.
-/
namespace Go.Proofs.Yteebglgbeijolaa
open Go.RowKit

def RowsB (w : World) (base : Nat) (v : Value) (out : List (List Byte)) : Prop :=
  ∃ cs us fs, PO bytesR 22 1 one w base v out.length out.length (fun i => out.getD i default) cs us fs
theorem rowsB_O {w : World} {base : Nat} {v : Value} {out : List (List Byte)} (h : RowsB w base v out) : ∃ F, bytessR.O w base F v out := by
  obtain ⟨cs, us, fs, hp⟩ := h
  exact ⟨_, cs, us, fs, hp, fun b => Iff.rfl⟩
theorem rowsB_form {w : World} {base : Nat} {v : Value} {out : List (List Byte)} (h : RowsB w base v out) : ∃ a c, v = .slice a out.length c := by
  obtain ⟨cs, us, fs, hp⟩ := h
  exact owns_form hp.row
theorem rowsB_own {w : World} {base : Nat} {v : Value} {out : List (List Byte)} (h : RowsB w base v out) : Own base w.heap.size v := by
  obtain ⟨cs, us, fs, hp⟩ := h
  exact own_of hp.row
end Go.Proofs.Yteebglgbeijolaa


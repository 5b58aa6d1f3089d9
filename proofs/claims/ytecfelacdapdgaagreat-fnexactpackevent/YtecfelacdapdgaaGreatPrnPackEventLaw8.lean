import Derived.Test.YtecfelacdapdgaaGreatPrnPackEventLaw2
import Derived.Maps.AppendAt
import Derived.Test.YtecfelacdapdgaaGreatPrnPackEventLaw5
import Derived.Test.YtecfelacdapdgaaGreatPrnPackEventLaw4
import Derived.Test.YtecfelacdapdgaaGreatPrnPackEventLaw7

/-
  A row of values that own memory, and one more appended.
-/
namespace Go.Proofs.YtecfelacdapdgaaGreat
open Go.RowKit

theorem PO.append {α : Type} {R : Rep α} {e size : Nat} {lv : Value → List Value} {w Y w' : World} {base : Nat} {v v' : Value} {n : Nat} {d : Nat → α} {cs : List Value} {us : Nat → Value} {fs : Nat → Nat → Prop} {u : Value} {F' : Nat → Prop}
    (h : PO R e size lv w base v n n d cs us fs) (hbs : base ≤ w.heap.size) (hb : Below w.heap.size w Y) (hu : R.O Y w.heap.size F' u (d n)) (hl : (lv u).length = size)
    (hr : w'.ownsRow base e size v' (n + 1) (cs ++ lv u)) (hg : Y.grownBy w' v.ownBlock) (hloc : v'.ownBlock = v.ownBlock ∨ ∃ g, v'.ownBlock = some g ∧ Y.heap.size ≤ g) :
    PO R e size lv w' base v' (n + 1) (n + 1) d (cs ++ lv u) (upd us n u) (upd fs n F') := by
  have hlt : ∀ b, v.ownBlock = some b → b < w.heap.size := fun b hb => (h.row.lt b hb).2
  have hF : ∀ b, F' b → w.heap.size ≤ b ∧ b < Y.heap.size := fun b hb => R.rng hu b hb
  have hfs : ∀ i, i < n → ∀ b, fs i b → b < w.heap.size := fun i hi b hb => (R.rng (h.el i hi) b hb).2
  have hcl : cs.length = n * size := h.row.1
  refine ⟨hr, ?_, ?_, ?_, ?_, ?_⟩
  · intro i hi
    by_cases hik : i = n
    · subst hik
      rw [upd_at, upd_at]
      exact R.base (R.mod hu (Mod.of_grown hg) (fun b hb he => by have := hlt b he; have := (hF b hb).1; omega)) hbs
    · rw [upd_ne _ _ hik, upd_ne _ _ hik]
      exact R.mod (R.keep (h.el i (by omega)) hb) (Mod.of_grown hg) (fun b hb => h.out i (by omega) b hb)
  · intro i hi
    by_cases hik : i = n
    · subst hik; rw [upd_at]; exact hl
    · rw [upd_ne _ _ hik]; exact h.ln i (by omega)
  · intro i hi j hj
    by_cases hik : i = n
    · subst hik
      rw [upd_at, List.getElem?_append_right (by omega), hcl]
      congr 1
      omega
    · rw [upd_ne _ _ hik, ← h.cell i (by omega) j hj, List.getElem?_append_left]
      rw [hcl]
      have : i * size + size ≤ n * size := by rw [← Nat.succ_mul]; exact Nat.mul_le_mul_right _ (by omega)
      omega
  · intro i hi b hb he
    by_cases hik : i = n
    · subst hik
      rw [upd_at] at hb
      rcases hloc with hloc | ⟨g, hg', hge⟩
      · rw [hloc] at he
        have := hlt b he; have := (hF b hb).1; omega
      · rw [hg'] at he
        simp only [Option.some.injEq] at he
        have := (hF b hb).2; omega
    · rw [upd_ne _ _ hik] at hb
      rcases hloc with hloc | ⟨g, hg', hge⟩
      · rw [hloc] at he
        exact h.out i (by omega) b hb he
      · rw [hg'] at he
        simp only [Option.some.injEq] at he
        have := hfs i (by omega) b hb
        have := hb
        have := h.row
        have := hlt
        have hYw : w.heap.size ≤ Y.heap.size := by
          have := ‹Below w.heap.size w Y›
          exact this.size
        omega
  · intro i j hi hj hij b h1 h2
    by_cases hik : i = n
    · subst hik
      rw [upd_at] at h1
      rw [upd_ne _ _ (Ne.symm hij)] at h2
      have := (hF b h1).1; have := hfs j (by omega) b h2; omega
    · rw [upd_ne _ _ hik] at h1
      by_cases hjk : j = n
      · subst hjk
        rw [upd_at] at h2
        have := (hF b h2).1; have := hfs i (by omega) b h1; omega
      · rw [upd_ne _ _ hjk] at h2
        exact h.sep i j (by omega) (by omega) hij b h1 h2
section
variable {P : Program} (w : World)
theorem step_append_at {ops : Array Oper} {o : Oper} {a : Act} {K : Act → World → Prop} {Q : Exit → Act → World → Prop} {E : Prop} (hgd : o.guard = none) (s x : Operand) (t : TypeId)
    (ho : o.op = .call { callee := .builtin .append, args := #[s, x], argTypes := #[t, t] })
    (base : Nat) (e : TypeId) (i : TypeInfo) (z : Value) (size bytes : Nat) (ht : P.underlying t = some (.slice e)) (hi : P.info? e = some i) (hz : i.zero = some z)
    (hsize : i.size = size) (hby : i.bytes = bytes) (hzs : z.cells.size = size) (hsz : 0 < size)
    (v : Value) (n : Nat) (xs : List Value) (hs : a.eval s = v) (hown : w.ownsRow base e size v n xs)
    (ad : Addr) (m c : Nat) (news : List Value) (hx : a.eval x = .slice (some ad) m c) (hl : news.length = m * size) (hnews : ∀ j u, news[j]? = some u → w.cell? (ad.add j) = some u) (h1 : ∀ u ∈ news, u.oneCell' = true)
    (h63 : n + m ≤ maxLen) (hbytes : (n + m) * bytes ≤ 140737488355328) (hbase : base ≤ w.heap.size)
    (h : ∀ v' w', w'.ownsRow base e size v' (n + m) (xs ++ news) → w.grownBy w' v.ownBlock → (v'.ownBlock = v.ownBlock ∨ v'.ownBlock = some w.heap.size) → K (a.put o.dst v') w') :
    if Region.wanted o (yielded ops a.tmps) = true then Oper.wp P o a w K Q else E := by
  have hw : Region.wanted o (yielded ops a.tmps) = true := by simp [Region.wanted, hgd]
  rw [if_pos hw]
  obtain ⟨v', w', hr, h2, h3, _, h5⟩ := run_append_own_at (P := P) w base t o.type e i z size bytes ht hi hz hsize hby hzs hsz v n xs hown ad m c news hl hnews h1 h63 hbytes hbase
  unfold Oper.wp execOp
  simp only [ho, resolve, invoke, builtin, Sem.run_bind, Sem.run_pure, Result.andThen_ok, List.map_toArray, List.map_cons, List.map_nil, hs, hx, hr]
  exact h v' w' h2 h3 h5
end

end Go.Proofs.YtecfelacdapdgaaGreat

/-
  One more row of bytes appended to a row of such.
-/
namespace Go.Proofs.YtecfelacdapdgaaGreat
open Go.RowKit

def RowsB (w : World) (base : Nat) (v : Value) (out : List (List Byte)) : Prop :=
  ∃ cs us fs, PO bytesR 37 1 one w base v out.length out.length (fun i => out.getD i default) cs us fs
theorem rowsB_O {w : World} {base : Nat} {v : Value} {out : List (List Byte)} (h : RowsB w base v out) : ∃ F, bytessR.O w base F v out := by
  obtain ⟨cs, us, fs, hp⟩ := h
  exact ⟨_, cs, us, fs, hp, fun b => Iff.rfl⟩
theorem rowsB_form {w : World} {base : Nat} {v : Value} {out : List (List Byte)} (h : RowsB w base v out) : ∃ a c, v = .slice a out.length c := by
  obtain ⟨cs, us, fs, hp⟩ := h
  exact owns_form hp.row
theorem rowsB_own {w : World} {base : Nat} {v : Value} {out : List (List Byte)} (h : RowsB w base v out) : Own base w.heap.size v := by
  obtain ⟨cs, us, fs, hp⟩ := h
  exact own_of hp.row
end Go.Proofs.YtecfelacdapdgaaGreat

/-
  PackNumber and UnpackNumber in the uniform form.
-/
namespace Go.Proofs.YtecfelacdapdgaaGreat
open Go.RowKit
attribute [local go_sem ↓] Go.wp_at_zero Go.wp_at_succ

theorem specPack_u (n : Int) (w : World) :
    Calls Tryz.prog 74 #[.int .i64 n] w fun e w' => ∃ v F, e = .returned v ∧ bytesR.O w' w.heap.size F v (hiB n 8) ∧ Below w.heap.size w w' := by
  refine (specPack_any n w).mono ?_
  rintro e w' ⟨v, rfl, ho, hb⟩
  exact ⟨v, _, rfl, ⟨by rw [length_hiB]; exact ho, rfl⟩, hb⟩
theorem implPack_u (n : Int) (w : World) :
    Calls Tryz.prog 98 #[.int .i64 n] w fun e w' => ∃ v F, e = .returned v ∧ bytesR.O w' w.heap.size F v (hiB n 8) ∧ Below w.heap.size w w' := by
  refine (implPack_any n w).mono ?_
  rintro e w' ⟨v, rfl, ho, hb⟩
  exact ⟨v, _, rfl, ⟨by rw [length_hiB]; exact ho, rfl⟩, hb⟩
end Go.Proofs.YtecfelacdapdgaaGreat

/-
  A contract's bytes: the program's side.
-/
namespace Go.Proofs.YtecfelacdapdgaaGreat
open Go.RowKit
set_option linter.unusedSectionVars false
variable [DecidableEq BytesR] [Inhabited BytesR] [DecidableEq Leg] [Inhabited Leg] [DecidableEq Cont] [Inhabited Cont]
attribute [local go_sem ↓] Go.wp_at_zero Go.wp_at_succ

theorem step_push2 (w0 Y : World) {ops : Array Oper} {o : Oper} {a : Act} {K : Act → World → Prop} {Q : Exit → Act → World → Prop} {E : Prop} (hgd : o.guard = none) (s x : Operand)
    (ho : o.op = .call { callee := .builtin .append, args := #[s, x], argTypes := #[97, 97] })
    (base : Nat) (v : Value) (out : List (List Byte)) (hs : a.eval s = v) (u1 u2 : Value) (g : Nat) (hx : a.eval x = .slice (some ⟨g, 0, none⟩) 2 2) (hp : RowsB w0 base v out) (hbs : base ≤ w0.heap.size) (hb : Below w0.heap.size w0 Y)
    (F1 F2 : Nat → Prop) (d1 d2 : List Byte) (hu1 : bytesR.O Y w0.heap.size F1 u1 d1) (hu2 : bytesR.O Y w0.heap.size F2 u2 d2) (hsep : ∀ b, F1 b → ¬ F2 b)
    (hc1 : Y.cell? ⟨g, 0, none⟩ = some u1) (hc2 : Y.cell? ⟨g, 1, none⟩ = some u2) (hlen : out.length ≤ 1048576)
    (h : ∀ v' w', RowsB w' base v' (out ++ [d1] ++ [d2]) → Y.grownBy w' v.ownBlock → (∀ W : World, Below base W w0 → Below base W w') → K (a.put o.dst v') w') :
    if Region.wanted o (yielded ops a.tmps) = true then Oper.wp Tryz.prog o a Y K Q else E := by
  obtain ⟨cs, us, fs, hp⟩ := hp
  obtain ⟨i0, hi, hz0, hz1, hz2⟩ := info_parts infoBytess
  obtain ⟨a1, c1, e1⟩ := bytes_form (bytesR.ofO hu1)
  obtain ⟨a2, c2, e2⟩ := bytes_form (bytesR.ofO hu2)
  have hs0 := hb.size
  refine step_append_at Y hgd s x 97 ho base 37 i0 _ 1 24 Tryz.underlying97 hi hz0 hz1 hz2 rfl (by decide) v out.length cs hs (owns_below hp.row hb) ⟨g, 0, none⟩ 2 2 [u1, u2] hx rfl ?_ ?_ (by unfold maxLen; omega) (by omega) (by omega) ?_
  · intro j x hj
    match j, hj with
    | 0, hj => simp at hj; subst hj; simpa [Addr.add] using hc1
    | 1, hj => simp at hj; subst hj; simpa [Addr.add] using hc2
    | j + 2, hj => simp at hj
  · intro x hx
    simp only [List.mem_cons, List.not_mem_nil, or_false] at hx
    rcases hx with rfl | rfl
    · rw [e1]; rfl
    · rw [e2]; rfl
  · intro v' w' h1 h2 h3
    refine h v' w' ?_ h2 (fun W hW => (hW.trans (hb.mono hbs)).grown h2 (by omega) (fun k hk => ((owns_below hp.row hb).lt k hk).1))
    have hg1 : (out ++ [d1] ++ [d2]).getD out.length default = d1 := by simp [List.getD]
    have hg2 : (out ++ [d1] ++ [d2]).getD (out.length + 1) default = d2 := by simp [List.getD]
    have hF1 : ∀ b, F1 b → w0.heap.size ≤ b ∧ b < Y.heap.size := fun b hb => bytesR.rng hu1 b hb
    have hF2 : ∀ b, F2 b → w0.heap.size ≤ b ∧ b < Y.heap.size := fun b hb => bytesR.rng hu2 b hb
    have hlt : ∀ b, v.ownBlock = some b → b < w0.heap.size := fun b hb => (hp.row.lt b hb).2
    have hfs : ∀ i, i < out.length → ∀ b, fs i b → b < w0.heap.size := fun i hi b hb => (bytesR.rng (hp.el i hi) b hb).2
    have hnew : ∀ b, v'.ownBlock = some b → (v.ownBlock = some b ∨ Y.heap.size ≤ b) := fun b hb => by
      rcases h3 with h3 | h3
      · left; rw [← h3]; exact hb
      · right; rw [h3] at hb; simp only [Option.some.injEq] at hb; omega
    have hlen2 : (out ++ [d1] ++ [d2]).length = out.length + 2 := by simp
    refine ⟨cs ++ [u1, u2], upd (upd us out.length u1) (out.length + 1) u2, upd (upd fs out.length F1) (out.length + 1) F2, ?_, ?_, ?_, ?_, ?_, ?_⟩
    · rw [hlen2]; exact h1
    · intro i hi
      rw [hlen2] at hi
      by_cases h2' : i = out.length + 1
      · subst h2'
        rw [upd_at, upd_at, hg2]
        exact bytesR.base (bytesR.mod hu2 (Mod.of_grown h2) (fun b hb he => by have := hlt b he; have := (hF2 b hb).1; omega)) hbs
      · rw [upd_ne _ _ h2', upd_ne _ _ h2']
        by_cases h1' : i = out.length
        · subst h1'
          rw [upd_at, upd_at, hg1]
          exact bytesR.base (bytesR.mod hu1 (Mod.of_grown h2) (fun b hb he => by have := hlt b he; have := (hF1 b hb).1; omega)) hbs
        · rw [upd_ne _ _ h1', upd_ne _ _ h1']
          have e : (out ++ [d1] ++ [d2]).getD i default = out.getD i default := by
            rw [List.append_assoc]
            simp [List.getD, List.getElem?_append_left (show i < out.length by omega)]
          rw [e]
          exact bytesR.mod (bytesR.keep (hp.el i (by omega)) hb) (Mod.of_grown h2) (fun b hb => hp.out i (by omega) b hb)
    · intro i hi; rfl
    · intro i hi j hj
      rw [hlen2] at hi
      have hcl : cs.length = out.length * 1 := hp.row.1
      have e0 : j = 0 := by omega
      subst e0
      by_cases h2' : i = out.length + 1
      · subst h2'
        rw [upd_at, List.getElem?_append_right (by omega), hcl, show (out.length + 1) * 1 + 0 - out.length * 1 = 1 by omega]
        rfl
      · rw [upd_ne _ _ h2']
        by_cases h1' : i = out.length
        · subst h1'
          rw [upd_at, List.getElem?_append_right (by omega), hcl, show out.length * 1 + 0 - out.length * 1 = 0 by omega]
          rfl
        · rw [upd_ne _ _ h1', List.getElem?_append_left (by omega)]
          exact hp.cell i (by omega) 0 (by omega)
    · intro i hi b hb he
      rw [hlen2] at hi
      have hn := hnew b he
      by_cases h2' : i = out.length + 1
      · subst h2'
        rw [upd_at] at hb
        have := hF2 b hb
        rcases hn with hn | hn
        · have := hlt b hn; omega
        · omega
      · rw [upd_ne _ _ h2'] at hb
        by_cases h1' : i = out.length
        · subst h1'
          rw [upd_at] at hb
          have := hF1 b hb
          rcases hn with hn | hn
          · have := hlt b hn; omega
          · omega
        · rw [upd_ne _ _ h1'] at hb
          rcases hn with hn | hn
          · exact hp.out i (by omega) b hb hn
          · have := hfs i (by omega) b hb; omega
    · intro i j hi hj hij b p q
      rw [hlen2] at hi hj
      have cls : ∀ m, m < out.length + 2 → ∀ b, upd (upd fs out.length F1) (out.length + 1) F2 m b → (m = out.length + 1 ∧ F2 b) ∨ (m = out.length ∧ F1 b) ∨ (m < out.length ∧ fs m b) := by
        intro m hm b hb
        by_cases h2' : m = out.length + 1
        · subst h2'; rw [upd_at] at hb; exact .inl ⟨rfl, hb⟩
        · rw [upd_ne _ _ h2'] at hb
          by_cases h1' : m = out.length
          · subst h1'; rw [upd_at] at hb; exact .inr (.inl ⟨rfl, hb⟩)
          · rw [upd_ne _ _ h1'] at hb; exact .inr (.inr ⟨by omega, hb⟩)
      rcases cls i hi b p with ⟨e1, p⟩ | ⟨e1, p⟩ | ⟨e1, p⟩ <;> rcases cls j hj b q with ⟨e2, q⟩ | ⟨e2, q⟩ | ⟨e2, q⟩
      · omega
      · exact hsep b q p
      · have := (hF2 b p).1; have := hfs j e2 b q; omega
      · exact hsep b p q
      · omega
      · have := (hF1 b p).1; have := hfs j e2 b q; omega
      · have := (hF2 b q).1; have := hfs i e1 b p; omega
      · have := (hF1 b q).1; have := hfs i e1 b p; omega
      · exact hp.sep i j e1 e2 hij b p q
theorem rowsB_lit1 {Y : World} {base : Nat} {F : Nat → Prop} {u : Value} {d : List Byte} (hu : bytesR.O Y base F u d) (hb : base ≤ Y.heap.size) :
    RowsB (Y.alloc (.cells #[u] 37)) base (.slice (some ⟨Y.heap.size, 0, none⟩) 1 1) [d] := by
  refine ⟨[u], fun _ => u, fun _ => F, World.ownsRow_lit (base := base) (e := 37) (size := 1) Y #[u] 1 hb (by unfold maxLen; omega) rfl, ?_, fun i hi => rfl, ?_, ?_, ?_⟩
  · intro i hi
    have e : i = 0 := by have h1 : i < 1 := hi; omega
    subst e
    exact bytesR.alloc hu _
  · intro i hi j hj
    have e : i = 0 := by have h1 : i < 1 := hi; omega
    have e2 : j = 0 := by omega
    subst e e2
    rfl
  · intro i hi b hb he
    have h2 := (bytesR.rng hu b hb).2
    have h3 : Y.heap.size = b := by injection he
    omega
  · intro i j hi hj hij
    have h1 : i < 1 := hi
    have h2 : j < 1 := hj
    omega
def partsBy (id : Int) (xs : List Leg) : List (List Byte) := [hiB id 8] ++ xs.flatMap (fun l => [plcBy l, hiB l.am 8])
theorem partsBy_flat (id : Int) (xs : List Leg) : (partsBy id xs).flatten = contBy id xs := by
  have h2 : (xs.flatMap (fun l => [plcBy l, hiB l.am 8])).flatten = xs.flatMap legBy := by
    induction xs with
    | nil => rfl
    | cons x r ih => rw [List.flatMap_cons, List.flatMap_cons, List.flatten_append, ih]; simp [legBy]
  unfold partsBy contBy
  rw [List.flatten_append, h2]
  simp
theorem partsBy_take (id : Int) (xs : List Leg) (k : Nat) (h : k < xs.length) : partsBy id (xs.take (k + 1)) = partsBy id (xs.take k) ++ [plcBy (xs.getD k default)] ++ [hiB (xs.getD k default).am 8] := by
  have e : xs.take (k + 1) = xs.take k ++ [xs.getD k default] := by
    rw [List.take_add_one]
    congr 1
    simp [List.getD, h]
  rw [e]
  simp [partsBy]
theorem partsBy_len (id : Int) (xs : List Leg) : (partsBy id xs).length = 1 + xs.length * 2 := by
  unfold partsBy
  rw [List.length_append]
  congr 1
  induction xs with
  | nil => rfl
  | cons x r ih => rw [List.flatMap_cons, List.length_append, ih, List.length_cons]; simp only [List.length_cons, List.length_nil]; omega
set_option maxRecDepth 20000 in
set_option maxHeartbeats 4000000 in
theorem implPackC_u (x : Value) (c : Cont) (w : World) (hx : contR.V w x c) :
    Calls Tryz.prog 94 #[x] w fun e w' => ∃ v F, e = .returned v ∧ bytesRR.O w' w.heap.size F v (packD c) ∧ Below w.heap.size w w' := by
  obtain ⟨u, rfl, hu⟩ := hx
  obtain ⟨id, xs⟩ := c
  dsimp only at hu ⊢
  have hU := hu
  obtain ⟨ax, cx, rfl, hcx, hmx, hx⟩ := hu
  unfold maxLen at hmx
  go_enter Tryz.func94, Tryz.ntmps94
  go_wp2_with fail
  refine (implFault_any id _ xs _ (LegsV_below hU (by (repeat (first | exact Below.refl _ _ | assumption | refine Below.drew ?_ | refine balloc ?_ _ | refine bset ?_ (by simp; omega) _ | refine bset ?_ (by simp) _ | refine bstep ?_ (by assumption)))))).mono ?_
  rintro e w1 ⟨rfl, hb1⟩
  have hB1 : Below w.heap.size w w1 := by (repeat (first | exact Below.refl _ _ | assumption | refine Below.drew ?_ | refine balloc ?_ _ | refine bset ?_ (by simp; omega) _ | refine bset ?_ (by simp) _ | refine bstep ?_ (by assumption)))
  have hc0 : w1.cell? ⟨w.heap.size, 0, none⟩ = some (.int .i64 id) := cell_keep hb1 (by simp [go_sem])
  have hc1 : w1.cell? ⟨w.heap.size, 1, none⟩ = some (.slice ax xs.length cx) := cell_keep hb1 (by simp [go_sem])
  have hr0 : w1.cell? ⟨w.heap.size + 1, 0, none⟩ = some (.int .i64 0) := cell_keep hb1 (by simp [go_sem])
  have hr1 : w1.cell? ⟨w.heap.size + 1, 1, none⟩ = some (.slice none 0 0) := cell_keep hb1 (by simp [go_sem])
  have hrf : (∀ o, w1.frozen? ⟨w.heap.size + 1, o, none⟩ = false) ∧ w.heap.size + 1 < w1.heap.size := (boxNew2 hb1 (by simp)).2.2
  clear hb1
  by_cases hcf : contractFault id xs = 0
  · have HD : Hid (packD ⟨id, xs⟩ = ⟨0, contBy id xs⟩) := if_pos hcf
    have HC : Hid (contractFault id xs = 0) := hcf
    rw [hcf]
    clear hcf
    obtain ⟨_, hl2, hl8, _⟩ := cf_inv HC.out
    have hlt1 := hrf.2
    go_wp2_with fail
    refine (implPack_u id _).mono ?_
    rintro e w2 ⟨v2, F2, rfl, o2, hb2⟩
    obtain ⟨p, q, rfl⟩ := bytes_form (bytesR.ofO o2)
    have hB2 := bstep hB1 hb2
    replace hr0 := cell_keep hb2 hr0
    replace hr1 := cell_keep hb2 hr1
    replace hc1 := cell_keep hb2 hc1
    replace hrf := boxKeep hrf hb2
    have hs2 := hb2.size
    have hR0 := rowsB_lit1 (bytesR.base (base' := w.heap.size + 2) o2 (by omega)) (by omega)
    have z1 : w.heap.size < w2.heap.size := by omega
    have hT := partsBy_take id xs
    have HF : Hid ((partsBy id (xs.take xs.length)).flatten = contBy id xs) := by unfold Hid; rw [List.take_length, partsBy_flat]
    have HL : Hid (∀ k, k ≤ xs.length → (partsBy id (xs.take k)).length ≤ 17) := fun k hk => by rw [partsBy_len, List.length_take]; omega
    have HFL : Hid ((partsBy id (xs.take xs.length)).flatten.length ≤ 1073741824) := by unfold Hid; rw [List.take_length, partsBy_flat, length_contBy]; omega
    have HR0 : Hid (RowsB (w2.alloc (.cells #[.slice p (hiB id 8).length q] 37)) (w.heap.size + 2) (.slice (some ⟨w2.heap.size, 0, none⟩) 1 1) (partsBy id (xs.take 0))) := hR0
    generalize hn' : xs.length = n at *
    have HT : Hid (∀ k, k < n → partsBy id (xs.take (k + 1)) = partsBy id (xs.take k) ++ [plcBy (xs.getD k default)] ++ [hiB (xs.getD k default).am 8]) := hT
    clear hn' hT hR0 o2 hb2 hB1
    go_wp2
    go_loopw [4, 20] (fun v i w' => ∃ k : Nat, k ≤ n ∧ i = .int .i64 k ∧ RowsB w' (w.heap.size + 2) v (partsBy id (xs.take k)) ∧ (w'.cell? ⟨w.heap.size + 1, 0, none⟩ = some (.int .i64 0) ∧ w'.cell? ⟨w.heap.size + 1, 1, none⟩ = some (.slice none 0 0)) ∧ ((∀ o, w'.frozen? ⟨w.heap.size + 1, o, none⟩ = false) ∧ w.heap.size + 1 < w'.heap.size) ∧ Below w.heap.size w w') (fun _ i _ => n - (intOf i).toNat)
    case atStart => exact ⟨0, Nat.zero_le _, rfl, HR0.out, ⟨cell_keep (by (repeat (first | exact Below.refl _ _ | assumption | refine Below.drew ?_ | refine balloc ?_ _ | refine bset ?_ (by simp; omega) _ | refine bset ?_ (by simp) _ | refine bstep ?_ (by assumption)))) hr0, cell_keep (by (repeat (first | exact Below.refl _ _ | assumption | refine Below.drew ?_ | refine balloc ?_ _ | refine bset ?_ (by simp; omega) _ | refine bset ?_ (by simp) _ | refine bstep ?_ (by assumption)))) hr1⟩, boxKeep hrf (by (repeat (first | exact Below.refl _ _ | assumption | refine Below.drew ?_ | refine balloc ?_ _ | refine bset ?_ (by simp; omega) _ | refine bset ?_ (by simp) _ | refine bstep ?_ (by assumption)))), by (repeat (first | exact Below.refl _ _ | assumption | refine Below.drew ?_ | refine balloc ?_ _ | refine bset ?_ (by simp; omega) _ | refine bset ?_ (by simp) _ | refine bstep ?_ (by assumption)))⟩
    case round =>
      clear hr0 hr1 hrf hB2 HR0 hc1 hc0 hs2 z1 hlt1
      obtain ⟨k, hk, rfl, hro, ⟨hr0, hr1⟩, hrf, hbl⟩ := hrel
      obtain ⟨av, cv, rfl⟩ := rowsB_form hro
      by_cases hlt : k < n
      · obtain ⟨bx, ox, rfl, g1⟩ := hx k hlt
        have e1 := HT.out k hlt
        have hlen := HL.out k (by omega)
        obtain ⟨l, hl⟩ : ∃ l, l = xs.getD k default := ⟨_, rfl⟩
        rw [← hl] at g1 e1
        clear hl hx
        obtain ⟨a1, a2, a3, a4⟩ := legCells_below hbl g1
        have HE : Hid (partsBy id (xs.take (k + 1)) = partsBy id (xs.take k) ++ [plcBy l] ++ [hiB l.am 8]) := e1
        generalize partsBy id (xs.take k) = out at *
        clear e1 g1
        have hbs : w.heap.size + 2 ≤ wr.heap.size := hrf.2
        have hol : out.length ≤ 1048576 := by omega
        have hle : w.heap.size ≤ w.heap.size + 2 := by omega
        have hne : some wr.heap.size ≠ (Value.slice av out.length cv).ownBlock := own_not (rowsB_own hro) (.inr (Nat.le_refl _))
        have hbW : Below wr.heap.size wr (wr.alloc (.cells #[.int .i64 l.sh, .int .i64 l.ac, .int .i64 l.ast, .int .i64 l.am] 110)) := balloc (Below.refl _ _) _
        have hzW : wr.heap.size < (wr.alloc (.cells #[.int .i64 l.sh, .int .i64 l.ac, .int .i64 l.ast, .int .i64 l.am] 110)).heap.size := by simp
        have h0 : Below w.heap.size w (wr.alloc (.cells #[.int .i64 l.sh, .int .i64 l.ac, .int .i64 l.ast, .int .i64 l.am] 110)) ∧ (wr.alloc (.cells #[.int .i64 l.sh, .int .i64 l.ac, .int .i64 l.ast, .int .i64 l.am] 110)).cell? ⟨wr.heap.size, 0, none⟩ = some (.int .i64 l.sh) ∧ (wr.alloc (.cells #[.int .i64 l.sh, .int .i64 l.ac, .int .i64 l.ast, .int .i64 l.am] 110)).cell? ⟨wr.heap.size, 1, none⟩ = some (.int .i64 l.ac) ∧ (wr.alloc (.cells #[.int .i64 l.sh, .int .i64 l.ac, .int .i64 l.ast, .int .i64 l.am] 110)).cell? ⟨wr.heap.size, 2, none⟩ = some (.int .i64 l.ast) ∧ (wr.alloc (.cells #[.int .i64 l.sh, .int .i64 l.ac, .int .i64 l.ast, .int .i64 l.am] 110)).cell? ⟨wr.heap.size, 3, none⟩ = some (.int .i64 l.am) :=
          ⟨by (repeat (first | exact Below.refl _ _ | assumption | refine Below.drew ?_ | refine balloc ?_ _ | refine bset ?_ (by simp; omega) _ | refine bset ?_ (by simp) _ | refine bstep ?_ (by assumption))), by simp [go_sem], by simp [go_sem], by simp [go_sem], by simp [go_sem]⟩
        go_wp2
        generalize hW : wr.alloc (.cells #[.int .i64 l.sh, .int .i64 l.ac, .int .i64 l.ast, .int .i64 l.am] 110) = W at *
        clear hW a1 a2 a3 a4
        go_region_held3 (fun w' => Below w.heap.size w w' ∧ w'.cell? ⟨wr.heap.size, 0, none⟩ = some (.int .i64 l.sh) ∧ w'.cell? ⟨wr.heap.size, 1, none⟩ = some (.int .i64 l.ac) ∧ w'.cell? ⟨wr.heap.size, 2, none⟩ = some (.int .i64 l.ast) ∧ w'.cell? ⟨wr.heap.size, 3, none⟩ = some (.int .i64 l.am))
          ((first | assumption | exact keepS4 h0 (Below.drew (Below.refl _ _)) | exact keepS4 (keepS4 h0 (Below.drew (Below.refl _ _))) (balloc (Below.refl _ _) _) | exact keepS4 hS4 (balloc (Below.refl _ _) _)))
          (first | (go_at_call 93; refine (singles_any _ [l.sh, l.ac, l.ast] _ (nums3 (g := W.heap.size) ?_ ?_ ?_) ?_).mono ?_; (focus (simp [go_sem])); (focus (simp [go_sem])); (focus (simp [go_sem])); (focus (simp)); rintro e w3 ⟨v3, F3, rfl, o3, hb3⟩; have kk := bytes_form (bytesR.ofO o3); obtain ⟨p3, q3, rfl⟩ := kk; have hS3 := keepS4 (keepS4 (keepS4 h0 (Below.drew (Below.refl _ _))) (balloc (Below.refl _ _) _)) hb3) | (go_at_call 98; refine (implPack_u l.am _).mono ?_; rintro e w4 ⟨v4, F4, rfl, o4, hb4⟩; have kk := bytes_form (bytesR.ofO o4); obtain ⟨p4, q4, rfl⟩ := kk; have hS4 := keepS4 hS3 hb4; have hbY0 := bstep (bstep (balloc (Below.drew hbW) _) hb3) hb4; have hz3 := Nat.le_trans hbW.size (Nat.le_trans (balloc (Below.drew (Below.refl W.heap.size W)) (.cells #[.int .i64 l.sh, .int .i64 l.ac, .int .i64 l.ast] 2)).size (Nat.le_refl _)); have hz4 := Nat.le_trans hz3 hb3.size; have hsep : ∀ b, F3 b → ¬ F4 b := fun b p q => absurd (bytesR.rng o3 b p).2 (Nat.not_lt_of_ge (bytesR.rng o4 b q).1)) | (refine step_push2 wr _ rfl _ _ rfl (w.heap.size + 2) _ out rfl _ _ w4.heap.size rfl hro hbs (balloc hbY0 _) F3 F4 (plcBy l) (hiB l.am 8) (bytesR.base (bytesR.alloc (bytesR.keep o3 hb4) _) hz3) (bytesR.base (bytesR.alloc o4 _) hz4) hsep ?_ ?_ hol ?_; (focus (simp [go_sem])); (focus (simp [go_sem])); intro v5 w5 hR5 hg5 hB5; have hb5 := hbl.trans ((hB5 wr (Below.refl _ _)).mono hle); have hS5 := And.intro hb5 (And.intro (hg5.cell (cell_keep (balloc (Below.refl _ _) _) hS4.2.1) hne) (And.intro (hg5.cell (cell_keep (balloc (Below.refl _ _) _) hS4.2.2.1) hne) (And.intro (hg5.cell (cell_keep (balloc (Below.refl _ _) _) hS4.2.2.2.1) hne) (hg5.cell (cell_keep (balloc (Below.refl _ _) _) hS4.2.2.2.2) hne))))))
        have hw5 := hB5 wr (Below.refl _ _)
        replace hr0 := (hw5.cell (p := ⟨w.heap.size + 1, 0, none⟩) (by simp)).trans hr0
        replace hr1 := (hw5.cell (p := ⟨w.heap.size + 1, 1, none⟩) (by simp)).trans hr1
        have hrg : (∀ o, w5.frozen? ⟨w.heap.size + 1, o, none⟩ = false) ∧ w.heap.size + 1 < w5.heap.size := ⟨fun o => (hw5.frozen (p := ⟨w.heap.size + 1, o, none⟩) (by simp)).trans (hrf.1 o), Nat.lt_of_lt_of_le hrf.2 hw5.size⟩
        have HR5 : Hid (RowsB w5 (w.heap.size + 2) v5 (out ++ [plcBy l] ++ [hiB l.am 8])) := hR5
        have HB5 : Hid (Below w.heap.size w w5) := hb5
        clear hw5 hR5 hg5 hB5 hS5 hS4 hS3 o3 o4 hb3 hb4 hbY0 h0 hro hrf hbW hbl hb5 hsep hz3 hz4 hzW hne
        go_wp2
        refine ⟨⟨k + 1, by omega, by go_num, ?_, ⟨hr0, hr1⟩, hrg, HB5.out⟩, by simp [intOf]; omega⟩
        rw [HE.out]
        exact HR5.out
      · have hkn : k = n := by omega
        subst hkn
        have hbs : w.heap.size + 2 ≤ wr.heap.size := hrf.2
        obtain ⟨F, hO⟩ := rowsB_O hro
        go_wp2_with fail
        refine (joined_any _ _ _ (bytessR.ofO hO) HFL.out).mono ?_
        rintro e w6 ⟨v6, F6, rfl, o6, hb6⟩
        replace hr0 := cell_keep hb6 hr0
        replace hr1 := cell_keep hb6 hr1
        obtain ⟨hrf6, hlt6⟩ := boxKeep hrf hb6
        have hB6 := bstep hbl hb6
        have o6' := bytesR.base (base' := w.heap.size + 2) o6 hbs
        rw [HF.out] at o6'
        obtain ⟨p6, q6, rfl⟩ := bytes_form (bytesR.ofO o6')
        clear o6 hb6 hO hro hbl hrf
        generalize contBy id xs = D at *
        go_wp2
        refine bodyPost_ret (v := .agg #[.int .i64 0, .slice p6 D.length q6]) ?_ rfl ⟨_, F6, rfl, ?_, by (repeat (first | exact Below.refl _ _ | assumption | refine Below.drew ?_ | refine balloc ?_ _ | refine bset ?_ (by simp; omega) _ | refine bset ?_ (by simp) _ | refine bstep ?_ (by assumption)))⟩
        · simp [results, Tryz.results94, go_sem, hr0, hr1]
        · rw [HD.out]
          exact ⟨_, F6, rfl, bytesR.base (base := w.heap.size + 2) (bytesR.set (bytesR.set o6' _ (by simp)) _ (by simp)) (by omega), fun b => Iff.rfl⟩
  · have hd : (contractFault id xs == 0) = false := by simpa using hcf
    have HD : Hid (packD ⟨id, xs⟩ = ⟨contractFault id xs, []⟩) := if_neg hcf
    obtain ⟨hrf, hlt⟩ := hrf
    go_wp2
    refine bodyPost_ret (v := .agg #[.int .i64 (contractFault id xs), .slice none 0 0]) ?_ rfl ?_
    · simp [results, Tryz.results94, go_sem, hr0, hr1]
    · rw [HD.out]
      first | exact ⟨_, none_, rfl, bytesR_none _ _ _, by (repeat (first | exact Below.refl _ _ | assumption | refine Below.drew ?_ | refine balloc ?_ _ | refine bset ?_ (by simp; omega) _ | refine bset ?_ (by simp) _ | refine bstep ?_ (by assumption)))⟩ | exact ⟨_, rfl, ⟨none_, bytesR_none _ _ _⟩, by (repeat (first | exact Below.refl _ _ | assumption | refine Below.drew ?_ | refine balloc ?_ _ | refine bset ?_ (by simp; omega) _ | refine bset ?_ (by simp) _ | refine bstep ?_ (by assumption)))⟩
end Go.Proofs.YtecfelacdapdgaaGreat


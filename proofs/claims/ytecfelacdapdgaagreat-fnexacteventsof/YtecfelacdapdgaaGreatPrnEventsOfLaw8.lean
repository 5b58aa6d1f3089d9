import Derived.Test.YtecfelacdapdgaaGreatPrnEventsOfLaw2
import Derived.Maps.AppendAt
import Derived.Test.YtecfelacdapdgaaGreatPrnEventsOfLaw5
import Derived.Test.YtecfelacdapdgaaGreatPrnEventsOfLaw3

/-
  A row of values that own memory, and one more appended.
-/
namespace Go.Proofs.YtecfelacdapdgaaGreat
open Go.RowKit

theorem PO.append {α : Type} {R : Rep α} {e size : Nat} {lv : Value → List Value} {w Y w' : World} {base : Nat} {v v' : Value} {n : Nat} {d : Nat → α} {cs : List Value} {us : Nat → Value} {fs : Nat → Nat → Prop} {u : Value} {F' : Nat → Prop}
    (h : PO R e size lv w base v n n d cs us fs) (hbs : base ≤ w.heap.size) (hb : Below w.heap.size w Y) (hu : R.O Y w.heap.size F' u (d n)) (hl : (lv u).length = size)
    (hr : w'.ownsRow base e size v' (n + 1) (cs ++ lv u)) (hg : Y.grownBy w' v.ownBlock) (hloc : v'.ownBlock = v.ownBlock ∨ ∃ g, v'.ownBlock = some g ∧ Y.heap.size ≤ g) :
    PO R e size lv w' base v' (n + 1) (n + 1) d (cs ++ lv u) (upd us n u) (upd fs n F') := by
  have hlt : ∀ b, v.ownBlock = some b → b < w.heap.size := fun b hb => (h.row.lt b hb).2
  have hF : ∀ b, F' b → w.heap.size ≤ b ∧ b < Y.heap.size := fun b hb => R.rng hu b hb
  have hfs : ∀ i, i < n → ∀ b, fs i b → b < w.heap.size := fun i hi b hb => (R.rng (h.el i hi) b hb).2
  have hcl : cs.length = n * size := h.row.1
  refine ⟨hr, ?_, ?_, ?_, ?_, ?_⟩
  · intro i hi
    by_cases hik : i = n
    · subst hik
      rw [upd_at, upd_at]
      exact R.base (R.mod hu (Mod.of_grown hg) (fun b hb he => by have := hlt b he; have := (hF b hb).1; omega)) hbs
    · rw [upd_ne _ _ hik, upd_ne _ _ hik]
      exact R.mod (R.keep (h.el i (by omega)) hb) (Mod.of_grown hg) (fun b hb => h.out i (by omega) b hb)
  · intro i hi
    by_cases hik : i = n
    · subst hik; rw [upd_at]; exact hl
    · rw [upd_ne _ _ hik]; exact h.ln i (by omega)
  · intro i hi j hj
    by_cases hik : i = n
    · subst hik
      rw [upd_at, List.getElem?_append_right (by omega), hcl]
      congr 1
      omega
    · rw [upd_ne _ _ hik, ← h.cell i (by omega) j hj, List.getElem?_append_left]
      rw [hcl]
      have : i * size + size ≤ n * size := by rw [← Nat.succ_mul]; exact Nat.mul_le_mul_right _ (by omega)
      omega
  · intro i hi b hb he
    by_cases hik : i = n
    · subst hik
      rw [upd_at] at hb
      rcases hloc with hloc | ⟨g, hg', hge⟩
      · rw [hloc] at he
        have := hlt b he; have := (hF b hb).1; omega
      · rw [hg'] at he
        simp only [Option.some.injEq] at he
        have := (hF b hb).2; omega
    · rw [upd_ne _ _ hik] at hb
      rcases hloc with hloc | ⟨g, hg', hge⟩
      · rw [hloc] at he
        exact h.out i (by omega) b hb he
      · rw [hg'] at he
        simp only [Option.some.injEq] at he
        have := hfs i (by omega) b hb
        have := hb
        have := h.row
        have := hlt
        have hYw : w.heap.size ≤ Y.heap.size := by
          have := ‹Below w.heap.size w Y›
          exact this.size
        omega
  · intro i j hi hj hij b h1 h2
    by_cases hik : i = n
    · subst hik
      rw [upd_at] at h1
      rw [upd_ne _ _ (Ne.symm hij)] at h2
      have := (hF b h1).1; have := hfs j (by omega) b h2; omega
    · rw [upd_ne _ _ hik] at h1
      by_cases hjk : j = n
      · subst hjk
        rw [upd_at] at h2
        have := (hF b h2).1; have := hfs i (by omega) b h1; omega
      · rw [upd_ne _ _ hjk] at h2
        exact h.sep i j (by omega) (by omega) hij b h1 h2
section
variable {P : Program} (w : World)
end

end Go.Proofs.YtecfelacdapdgaaGreat

/-
  One more row of bytes appended to a row of such.
-/
namespace Go.Proofs.YtecfelacdapdgaaGreat
open Go.RowKit

theorem wpList_append_at {P : Program} (w : World) {ops : Array Oper} {rest : List Oper} {o : Oper} {a : Act} {Q : Exit → Act → World → Prop} (hgd : o.guard = none) (s x : Operand) (t : TypeId)
    (ho : o.op = .call { callee := .builtin .append, args := #[s, x], argTypes := #[t, t] })
    (base : Nat) (e : TypeId) (i : TypeInfo) (z : Value) (size bytes : Nat) (ht : P.underlying t = some (.slice e)) (hi : P.info? e = some i) (hz : i.zero = some z)
    (hsize : i.size = size) (hby : i.bytes = bytes) (hzs : z.cells.size = size) (hsz : 0 < size)
    (v : Value) (n : Nat) (xs : List Value) (hs : a.eval s = v) (hown : w.ownsRow base e size v n xs)
    (ad : Addr) (m c : Nat) (news : List Value) (hx : a.eval x = .slice (some ad) m c) (hl : news.length = m * size) (hnews : ∀ j u, news[j]? = some u → w.cell? (ad.add j) = some u) (h1 : ∀ u ∈ news, u.oneCell' = true)
    (h63 : n + m ≤ maxLen) (hbytes : (n + m) * bytes ≤ 140737488355328) (hbase : base ≤ w.heap.size)
    (h : ∀ v' w', w'.ownsRow base e size v' (n + m) (xs ++ news) → w.grownBy w' v.ownBlock → (v'.ownBlock = v.ownBlock ∨ v'.ownBlock = some w.heap.size) → wpList P ops Q rest (a.put o.dst v') w') :
    wpList P ops Q (o :: rest) a w := by
  refine wpList_plain hgd fun K' hK' => ?_
  obtain ⟨v', w', hr, h2, h3, _, h5⟩ := run_append_own_at (P := P) w base t o.type e i z size bytes ht hi hz hsize hby hzs hsz v n xs hown ad m c news hl hnews h1 h63 hbytes hbase
  unfold Oper.wp execOp
  simp only [ho, resolve, invoke, builtin, Sem.run_bind, Sem.run_pure, Result.andThen_ok, List.map_toArray, List.map_cons, List.map_nil, hs, hx, hr]
  exact hK' _ _ (h v' w' h2 h3 h5)
def RowsB (w : World) (base : Nat) (v : Value) (out : List (List Byte)) : Prop :=
  ∃ cs us fs, PO bytesR 37 1 one w base v out.length out.length (fun i => out.getD i default) cs us fs
theorem rowsB_below {w w' : World} {base : Nat} {v : Value} {out : List (List Byte)} (h : RowsB w base v out) (hb : Below w.heap.size w w') : RowsB w' base v out := by
  obtain ⟨cs, us, fs, hp⟩ := h
  exact ⟨cs, us, fs, hp.keep hb⟩
theorem rowsB_O {w : World} {base : Nat} {v : Value} {out : List (List Byte)} (h : RowsB w base v out) : ∃ F, bytessR.O w base F v out := by
  obtain ⟨cs, us, fs, hp⟩ := h
  exact ⟨_, cs, us, fs, hp, fun b => Iff.rfl⟩
theorem rowsB_form {w : World} {base : Nat} {v : Value} {out : List (List Byte)} (h : RowsB w base v out) : ∃ a c, v = .slice a out.length c := by
  obtain ⟨cs, us, fs, hp⟩ := h
  exact owns_form hp.row
theorem rowsB_nil {w : World} {base : Nat} {v : Value} (h : w.ownsRow base 37 1 v 0 []) : RowsB w base v [] :=
  ⟨[], fun _ => .int .i64 0, fun _ _ => False, h, fun _ h => absurd h (Nat.not_lt_zero _), fun _ h => absurd h (Nat.not_lt_zero _), fun _ h => absurd h (Nat.not_lt_zero _), fun _ h => absurd h (Nat.not_lt_zero _), fun _ _ h => absurd h (Nat.not_lt_zero _)⟩
theorem wpList_pushB (w0 Y : World) {ops : Array Oper} {rest : List Oper} {o : Oper} {a : Act} {Q : Exit → Act → World → Prop} (hgd : o.guard = none) (s x : Operand)
    (ho : o.op = .call { callee := .builtin .append, args := #[s, x], argTypes := #[97, 97] })
    (base : Nat) (v : Value) (out : List (List Byte)) (hp : RowsB w0 base v out) (hbs : base ≤ w0.heap.size) (hb : Below w0.heap.size w0 Y)
    (F : Nat → Prop) (u : Value) (d : List Byte) (hu : bytesR.O Y w0.heap.size F u d) (hs : a.eval s = v) (hx : a.eval x = .slice (some ⟨Y.heap.size, 0, none⟩) 1 1) (hlen : out.length ≤ 1048576)
    (h : ∀ v' w', RowsB w' base v' (out ++ [d]) → (∀ W : World, Below base W w0 → Below base W w') → wpList Tryz.prog ops Q rest (a.put o.dst v') w') :
    wpList Tryz.prog ops Q (o :: rest) a (Y.alloc (.cells #[u] 37)) := by
  obtain ⟨cs, us, fs, hp⟩ := hp
  obtain ⟨i0, hi, hz0, hz1, hz2⟩ := info_parts infoBytess
  obtain ⟨a1, c1, e1⟩ := bytes_form (bytesR.ofO hu)
  have hb' : Below w0.heap.size w0 (Y.alloc (.cells #[u] 37)) := balloc hb _
  have hs0 := hb.size
  refine wpList_append_at _ hgd s x 97 ho base 37 i0 _ 1 24 Tryz.underlying97 hi hz0 hz1 hz2 rfl (by decide) v out.length cs hs (owns_below hp.row hb') ⟨Y.heap.size, 0, none⟩ 1 1 [u] hx rfl ?_ ?_ (by unfold maxLen; omega) (by omega) (by rw [World.size_alloc]; omega) ?_
  · intro j x hj
    match j, hj with
    | 0, hj => simp at hj; subst hj; simp [Addr.add, go_sem]
    | j + 1, hj => simp at hj
  · intro x hx
    simp only [List.mem_cons, List.not_mem_nil, or_false] at hx
    subst hx
    rw [e1]
    rfl
  · intro v' w' h1 h2 h3
    refine h v' w' ?_ (fun W hW => (hW.trans (hb'.mono hbs)).grown h2 (by rw [World.size_alloc]; omega) (fun k hk => ((owns_below hp.row hb').lt k hk).1))
    have hd : (out ++ [d]).getD out.length default = d := by simp [List.getD]
    have hp' : PO bytesR 37 1 one w0 base v out.length out.length (fun i => (out ++ [d]).getD i default) cs us fs := hp.cast (fun i hi => by simp [List.getD, List.getElem?_append_left hi])
    have := hp'.append (Y := Y.alloc (.cells #[u] 37)) (w' := w') (v' := v') (u := u) (F' := F) hbs hb' (by rw [hd]; exact bytesR.alloc hu _) rfl h1 h2 (by
      rcases h3 with h3 | h3
      · exact .inl h3
      · exact .inr ⟨_, h3, Nat.le_refl _⟩)
    refine ⟨cs ++ one u, upd us out.length u, upd fs out.length F, ?_⟩
    rw [List.length_append]
    exact this
end Go.Proofs.YtecfelacdapdgaaGreat

/-
  A piece of a row of bytes.
-/
namespace Go.Proofs.YtecfelacdapdgaaGreat
open Go.RowKit

theorem addP (b o i : Nat) : (Addr.mk b o none).add i = ⟨b, o + i, none⟩ := by
  by_cases h : i = 0
  · subst h; simp [Addr.add]
  · simp [Addr.add, h]
theorem bytes_cut {w : World} {a : Option Addr} {cap : Nat} {xs : List Byte} (hx : BytesV w (.slice a xs.length cap) xs) (l h : Nat) (h1 : l ≤ h) (h2 : h ≤ xs.length) :
    BytesV w (.slice (if cap = l then a else a.map (·.add (l * 1))) (h - l) (cap - l)) ((xs.drop l).take (h - l)) := by
  obtain ⟨a', cap', e, g1, g2, g3⟩ := hx
  simp only [Value.slice.injEq, true_and] at e
  obtain ⟨rfl, rfl⟩ := e
  have hl : ((xs.drop l).take (h - l)).length = h - l := by rw [List.length_take, List.length_drop]; omega
  refine ⟨_, _, by rw [hl], by omega, by omega, fun i hi => ?_⟩
  rw [hl] at hi
  obtain ⟨b, o, rfl, hc⟩ := g3 (l + i) (by omega)
  refine ⟨b, o + l, ?_, ?_⟩
  · rw [if_neg (by omega)]
    simp only [Option.map_some, Nat.mul_one]
    rw [addP]
  · rw [show o + l + i = o + (l + i) by omega, hc]
    simp [List.getD, hi]
theorem cellsB : (sizeOf (Tryz.prog.elem 37)).run Tryz.prog = fun w => .ok 1 w := by
  have he : Tryz.prog.elem 37 = 5 := by kernel_rfl
  obtain ⟨i0, hi, hz0, hz1, hz2⟩ := info_parts infoByte
  funext w
  simp [sizeOf, typeInfo, he, hi, hz1]
theorem undB : Tryz.prog.underlying 37 = some (.slice (Tryz.prog.elem 37)) := by kernel_rfl
theorem cutB {a : Option Addr} {n cap : Nat} (l h : Int) (h0 : 0 ≤ l) (h1 : l ≤ h) (h2 : h ≤ n) (hn : n ≤ cap) :
    ∃ a' c', (∀ w : World, (Instr.sliceAt 37 (.slice a n cap) (some (.int .i64 l)) (some (.int .i64 h)) none).run Tryz.prog w = .ok (.slice a' (h - l).toNat c') w) ∧
      ∀ (w : World) (xs : List Byte), xs.length = n → BytesV w (.slice a n cap) xs → BytesV w (.slice a' (h - l).toNat c') ((xs.drop l.toNat).take (h - l).toNat) := by
  refine ⟨if cap = l.toNat then a else a.map (·.add (l.toNat * 1)), cap - l.toNat, fun w => ?_, fun w xs e hx => ?_⟩
  · rw [run_sliceAt_slice (h := undB), run_slice_lh (ht := undB) (h0 := h0) (h1 := h1) (h2 := by omega), cellsB]
    simp only [Result.andThen, sliced]
    rw [show h.toNat - l.toNat = (h - l).toNat by omega]
  · subst e
    have := bytes_cut hx l.toNat h.toNat (by omega) (by omega)
    rw [show h.toNat - l.toNat = (h - l).toNat by omega] at this
    exact this
theorem cutH {a : Option Addr} {n cap : Nat} (h : Int) (h0 : 0 ≤ h) (h2 : h ≤ n) (hn : n ≤ cap) :
    ∃ a' c', (∀ w : World, (Instr.sliceAt 37 (.slice a n cap) none (some (.int .i64 h)) none).run Tryz.prog w = .ok (.slice a' h.toNat c') w) ∧
      ∀ (w : World) (xs : List Byte), xs.length = n → BytesV w (.slice a n cap) xs → BytesV w (.slice a' h.toNat c') (xs.take h.toNat) := by
  refine ⟨if cap = 0 then a else a.map (·.add (0 * 1)), cap - 0, fun w => ?_, fun w xs e hx => ?_⟩
  · rw [run_sliceAt_slice (h := undB), run_slice_h (ht := undB) (h0 := h0) (h2 := by omega), cellsB]
    simp only [Result.andThen, sliced]
    rw [Nat.sub_zero]
  · subst e
    have := bytes_cut hx 0 h.toNat (by omega) (by omega)
    rw [Nat.sub_zero, List.drop_zero] at this
    exact this
theorem cutL {a : Option Addr} {n cap : Nat} (l : Int) (h0 : 0 ≤ l) (h2 : l ≤ n) (hn : n ≤ cap) :
    ∃ a' c', (∀ w : World, (Instr.sliceAt 37 (.slice a n cap) (some (.int .i64 l)) none none).run Tryz.prog w = .ok (.slice a' (n - l.toNat) c') w) ∧
      ∀ (w : World) (xs : List Byte), xs.length = n → BytesV w (.slice a n cap) xs → BytesV w (.slice a' (n - l.toNat) c') (xs.drop l.toNat) := by
  refine ⟨if cap = l.toNat then a else a.map (·.add (l.toNat * 1)), cap - l.toNat, fun w => ?_, fun w xs e hx => ?_⟩
  · rw [run_sliceAt_slice (h := undB), run_slice_l (ht := undB) (h0 := h0) (h1 := h2), cellsB]
    simp only [Result.andThen, sliced]
  · subst e
    have := bytes_cut hx l.toNat xs.length (by omega) (by omega)
    rw [show (xs.drop l.toNat).take (xs.length - l.toNat) = xs.drop l.toNat from List.take_of_length_le (by rw [List.length_drop]; omega)] at this
    exact this
end Go.Proofs.YtecfelacdapdgaaGreat

/-
  ContractResult. (Written by program: nest.py.)
-/
namespace Go.Proofs.YtecfelacdapdgaaGreat
open Go.RowKit
set_option linter.unusedSectionVars false
variable [DecidableEq Leg] [Inhabited Leg] [DecidableEq Cont] [Inhabited Cont]
attribute [local go_sem ↓] Go.wp_at_zero Go.wp_at_succ

set_option linter.unusedSimpArgs false

structure ContR where
  code : Int
  contract : Cont
variable [DecidableEq ContR] [Inhabited ContR]

def contRR : Rep ContR where
  V := fun w v x => ∃ u1_1, v = .agg #[.int .i64 x.code, .int .i64 x.contract.id, u1_1] ∧ contR.V w (.agg #[.int .i64 x.contract.id, u1_1]) x.contract
  O := fun w base F v x => ∃ u1_1 F1, v = .agg #[.int .i64 x.code, .int .i64 x.contract.id, u1_1] ∧ contR.O w base F1 (.agg #[.int .i64 x.contract.id, u1_1]) x.contract ∧ (∀ b, F b ↔ (F1 b))
  below := fun h hb => by
    obtain ⟨u1_1, rfl, h1⟩ := h
    exact ⟨u1_1, rfl, contR.below h1 hb⟩
  ofO := fun h => by
    obtain ⟨u1_1, F1, rfl, h1, _⟩ := h
    exact ⟨u1_1, rfl, contR.ofO h1⟩
  mod := fun h hm hd => by
    obtain ⟨u1_1, F1, rfl, h1, hF⟩ := h
    exact ⟨u1_1, F1, rfl, contR.mod h1 hm (fun b hb => hd b ((hF b).2 hb)), hF⟩
  rng := fun h b hb => by
    obtain ⟨u1_1, F1, rfl, h1, hF⟩ := h
    rcases (hF b).1 hb with hb
    · exact contR.rng h1 b hb
  base := fun h hb => by
    obtain ⟨u1_1, F1, rfl, h1, hF⟩ := h
    exact ⟨u1_1, F1, rfl, contR.base h1 hb, hF⟩
def wtContR (x : ContR) : Nat := wtCont x.contract
end Go.Proofs.YtecfelacdapdgaaGreat


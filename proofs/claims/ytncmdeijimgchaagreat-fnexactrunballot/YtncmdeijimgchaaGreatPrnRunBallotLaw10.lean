import Derived.Test.YtncmdeijimgchaaGreatPrnRunBallotLaw1
import Derived.Maps.AppendAt
import Derived.Deep.RegionHeld3
import Derived.Test.YtncmdeijimgchaaGreatPrnRunBallotLaw9
import Derived.Test.YtncmdeijimgchaaGreatPrnRunBallotLaw4
import Derived.Test.YtncmdeijimgchaaGreatPrnRunBallotLaw6
import Derived.BigQuiet
import Derived.Deep.QuietTactic
import Derived.Test.YtncmdeijimgchaaGreatPrnRunBallotLaw8

/-
  Rows of values that hold memory: one put in between or behind them, one put in another's place.
-/
set_option linter.unusedVariables false
namespace Go.Proofs.YtncmdeijimgchaaGreat
open Go.RowKit

def insF {β : Type} (f : Nat → β) (i : Nat) (x : β) : Nat → β := fun k => if k < i then f k else if k = i then x else f (k - 1)
theorem insF_lt {β : Type} (f : Nat → β) {i k : Nat} (x : β) (h : k < i) : insF f i x k = f k := by simp [insF, h]
theorem insF_at {β : Type} (f : Nat → β) (i : Nat) (x : β) : insF f i x i = x := by simp [insF]
theorem insF_gt {β : Type} (f : Nat → β) {i k : Nat} (x : β) (h : i < k) : insF f i x k = f (k - 1) := by
  unfold insF
  rw [if_neg (by omega), if_neg (by omega)]
theorem getD_ins {α : Type} [Inhabited α] (xs : List α) (x : α) (i k : Nat) (hi : i ≤ xs.length) : (xs.take i ++ [x] ++ xs.drop i).getD k default = insF (fun k => xs.getD k default) i x k := by
  have hl : (xs.take i).length = i := by rw [List.length_take]; omega
  simp only [List.getD_eq_getElem?_getD]
  rw [List.append_assoc]
  rcases Nat.lt_trichotomy k i with h | h | h
  · rw [insF_lt _ _ h, List.getElem?_append_left (by omega), List.getElem?_take, if_pos h]
  · subst h
    rw [insF_at, List.getElem?_append_right (by omega), hl]
    simp
  · rw [insF_gt _ _ h, List.getElem?_append_right (by omega), hl, List.getElem?_append_right (by simp; omega), List.getElem?_drop]
    congr 2
    simp
    omega
theorem PO.ins {α : Type} {R : Rep α} {e size : Nat} {lv : Value → List Value} {W W' : World} {base : Nat} {v v' : Value} {n i : Nat} {d : Nat → α} {cs : List Value} {us : Nat → Value} {fs : Nat → Nat → Prop} {u : Value} {x : α} {Fu : Nat → Prop}
    (h : PO R e size lv W base v n n d cs us fs) (hi : i ≤ n) (hu : R.O W base Fu u x) (hl : (lv u).length = size) (hd : ∀ j, j < n → ∀ b, fs j b → ¬ Fu b) (hvu : ∀ b, Fu b → v.ownBlock ≠ some b)
    (hr : W'.ownsRow base e size v' (n + 1) (cs.take (i * size) ++ lv u ++ cs.drop (i * size))) (hm : Mod (fun b => v.ownBlock = some b) W W') (hv : ∀ b, v'.ownBlock = some b → v.ownBlock = some b ∨ W.heap.size ≤ b) :
    PO R e size lv W' base v' (n + 1) (n + 1) (insF d i x) (cs.take (i * size) ++ lv u ++ cs.drop (i * size)) (insF us i u) (insF fs i Fu) := by
  have hcl : cs.length = n * size := h.row.1
  have him : i * size ≤ n * size := Nat.mul_le_mul_right _ hi
  have hold : ∀ b, b < W.heap.size → v.ownBlock ≠ some b → v'.ownBlock ≠ some b := fun b hb hn e => by
    rcases hv b e with h1 | h1
    · exact hn h1
    · omega
  have hel : ∀ j, j < n → R.O W' base (fs j) (us j) (d j) := fun j hj => R.mod (h.el j hj) hm (fun b hb => h.out j hj b hb)
  refine ⟨hr, fun j hj => ?_, fun j hj => ?_, fun j hj o ho => ?_, fun j hj b hb => ?_, fun j k hj hk hjk b h1 h2 => ?_⟩
  · rcases Nat.lt_trichotomy j i with h1 | h1 | h1
    · rw [insF_lt _ _ h1, insF_lt _ _ h1, insF_lt _ _ h1]; exact hel j (by omega)
    · subst h1; rw [insF_at, insF_at, insF_at]; exact R.mod hu hm (fun b hb => hvu b hb)
    · rw [insF_gt _ _ h1, insF_gt _ _ h1, insF_gt _ _ h1]; exact hel (j - 1) (by omega)
  · rcases Nat.lt_trichotomy j i with h1 | h1 | h1
    · rw [insF_lt _ _ h1]; exact h.ln j (by omega)
    · subst h1; rw [insF_at]; exact hl
    · rw [insF_gt _ _ h1]; exact h.ln (j - 1) (by omega)
  · have ht : (cs.take (i * size)).length = i * size := by rw [List.length_take]; omega
    rw [List.append_assoc]
    rcases Nat.lt_trichotomy j i with h1 | h1 | h1
    · have hlt : j * size + o < i * size := by
        have : (j + 1) * size ≤ i * size := Nat.mul_le_mul_right _ h1
        rw [Nat.succ_mul] at this
        omega
      rw [insF_lt _ _ h1, List.getElem?_append_left (by omega), List.getElem?_take, if_pos hlt]
      exact h.cell j (by omega) o ho
    · subst h1
      rw [insF_at, List.getElem?_append_right (by omega), ht, show j * size + o - j * size = o by omega, List.getElem?_append_left (by omega)]
    · obtain ⟨q, rfl⟩ : ∃ q, j = q + 1 := ⟨j - 1, by omega⟩
      have hge : i * size ≤ q * size := Nat.mul_le_mul_right _ (by omega)
      have e1 : (q + 1) * size = q * size + size := Nat.succ_mul _ _
      rw [insF_gt _ _ h1, Nat.add_sub_cancel, List.getElem?_append_right (by omega), ht, List.getElem?_append_right (by omega), hl, List.getElem?_drop, e1, show i * size + (q * size + size + o - i * size - size) = q * size + o by omega]
      exact h.cell q (by omega) o ho
  · rcases Nat.lt_trichotomy j i with h1 | h1 | h1
    · rw [insF_lt _ _ h1] at hb; exact hold b (R.rng (h.el j (by omega)) b hb).2 (h.out j (by omega) b hb)
    · subst h1; rw [insF_at] at hb; exact hold b (R.rng hu b hb).2 (hvu b hb)
    · rw [insF_gt _ _ h1] at hb; exact hold b (R.rng (h.el (j - 1) (by omega)) b hb).2 (h.out (j - 1) (by omega) b hb)
  · have key : ∀ j, j < n + 1 → insF fs i Fu j b → (j = i ∧ Fu b) ∨ ∃ q, q < n ∧ fs q b ∧ ((j < i ∧ q = j) ∨ (i < j ∧ q + 1 = j)) := fun j hj hb => by
      rcases Nat.lt_trichotomy j i with h1 | h1 | h1
      · rw [insF_lt _ _ h1] at hb; exact .inr ⟨j, by omega, hb, .inl ⟨h1, rfl⟩⟩
      · subst h1; rw [insF_at] at hb; exact .inl ⟨rfl, hb⟩
      · rw [insF_gt _ _ h1] at hb; exact .inr ⟨j - 1, by omega, hb, .inr ⟨h1, by omega⟩⟩
    rcases key j hj h1 with ⟨e1, f1⟩ | ⟨q, hq, f1, g1⟩
    · rcases key k hk h2 with ⟨e2, f2⟩ | ⟨q2, hq2, f2, g2⟩
      · omega
      · exact hd q2 hq2 b f2 f1
    · rcases key k hk h2 with ⟨e2, f2⟩ | ⟨q2, hq2, f2, g2⟩
      · exact hd q hq b f1 f2
      · exact h.sep q q2 hq hq2 (by omega) b f1 f2
theorem NO.ins {α : Type} [Inhabited α] {R : Rep α} {e size : Nat} {lv : Value → List Value} {W W' : World} {base : Nat} {v v' : Value} {i : Nat} {xs : List α} {cs : List Value} {us : Nat → Value} {fs : Nat → Nat → Prop} {u : Value} {x : α} {F Fu : Nat → Prop}
    (h : PO R e size lv W base v xs.length xs.length (fun i => xs.getD i default) cs us fs) (hF : ∀ b, F b ↔ (v.ownBlock = some b ∨ ∃ i, i < xs.length ∧ fs i b)) (hi : i ≤ xs.length) (hu : R.O W base Fu u x) (hl : (lv u).length = size) (hd : ∀ b, F b → ¬ Fu b)
    (hr : W'.ownsRow base e size v' (xs.length + 1) (cs.take (i * size) ++ lv u ++ cs.drop (i * size))) (hm : Mod (fun b => v.ownBlock = some b) W W') (hv : ∀ b, v'.ownBlock = some b → v.ownBlock = some b ∨ W.heap.size ≤ b) :
    ∃ F', NO R e size lv W' base F' v' (xs.take i ++ [x] ++ xs.drop i) ∧ ∀ b, F' b → F b ∨ Fu b ∨ W.heap.size ≤ b := by
  have hp := h.ins hi hu hl (fun j hj b hb => hd b ((hF b).2 (.inr ⟨j, hj, hb⟩))) (fun b hb e => hd b ((hF b).2 (.inl e)) hb) hr hm hv
  have hlen : (xs.take i ++ [x] ++ xs.drop i).length = xs.length + 1 := by simp only [List.length_append, List.length_take, List.length_drop, List.length_cons, List.length_nil]; omega
  refine ⟨fun b => v'.ownBlock = some b ∨ ∃ k, k < xs.length + 1 ∧ insF fs i Fu k b, ⟨cs.take (i * size) ++ lv u ++ cs.drop (i * size), insF us i u, insF fs i Fu, ?_, fun b => by rw [hlen]⟩, fun b hb => ?_⟩
  · rw [hlen]
    exact hp.cast (fun k hk => getD_ins xs x i k hi)
  · rcases hb with hb | ⟨k, hk, hb⟩
    · rcases hv b hb with h1 | h1
      · exact .inl ((hF b).2 (.inl h1))
      · exact .inr (.inr h1)
    · rcases Nat.lt_trichotomy k i with h1 | h1 | h1
      · rw [insF_lt _ _ h1] at hb; exact .inl ((hF b).2 (.inr ⟨k, by omega, hb⟩))
      · subst h1; rw [insF_at] at hb; exact .inr (.inl hb)
      · rw [insF_gt _ _ h1] at hb; exact .inl ((hF b).2 (.inr ⟨k - 1, by omega, hb⟩))
theorem PO.putN {α : Type} {R : Rep α} {e size : Nat} {lv : Value → List Value} {W W' : World} {base : Nat} {v : Value} {n i : Nat} {d : Nat → α} {cs cs' : List Value} {us : Nat → Value} {fs : Nat → Nat → Prop} {u : Value} {x : α} {Fu : Nat → Prop}
    (h : PO R e size lv W base v n n d cs us fs) (hi : i < n) (hu : R.O W base Fu u x) (hl : (lv u).length = size) (hd : ∀ j, j < n → ∀ b, fs j b → ¬ Fu b) (hvu : ∀ b, Fu b → v.ownBlock ≠ some b)
    (hr : W'.ownsRow base e size v n cs') (hm : Mod (fun b => v.ownBlock = some b) W W') (hold : ∀ j, j < n → j ≠ i → ∀ o, o < size → cs'[j * size + o]? = cs[j * size + o]?) (hnew : ∀ o, o < size → cs'[i * size + o]? = (lv u)[o]?) :
    PO R e size lv W' base v n n (upd d i x) cs' (upd us i u) (upd fs i Fu) := by
  refine ⟨hr, fun j hj => ?_, fun j hj => ?_, fun j hj o ho => ?_, fun j hj b hb => ?_, fun j k hj hk hjk b h1 h2 => ?_⟩
  · by_cases e1 : j = i
    · subst e1; rw [upd_at, upd_at, upd_at]; exact R.mod hu hm (fun b hb => hvu b hb)
    · rw [upd_ne _ _ e1, upd_ne _ _ e1, upd_ne _ _ e1]; exact R.mod (h.el j hj) hm (fun b hb => h.out j hj b hb)
  · by_cases e1 : j = i
    · subst e1; rw [upd_at]; exact hl
    · rw [upd_ne _ _ e1]; exact h.ln j hj
  · by_cases e1 : j = i
    · subst e1; rw [upd_at]; exact hnew o ho
    · rw [upd_ne _ _ e1, hold j hj e1 o ho]; exact h.cell j hj o ho
  · by_cases e1 : j = i
    · subst e1; rw [upd_at] at hb; exact hvu b hb
    · rw [upd_ne _ _ e1] at hb; exact h.out j hj b hb
  · by_cases e1 : j = i
    · subst e1
      rw [upd_at] at h1
      rw [upd_ne _ _ (Ne.symm hjk)] at h2
      exact hd k hk b h2 h1
    · rw [upd_ne _ _ e1] at h1
      by_cases e2 : k = i
      · subst e2; rw [upd_at] at h2; exact hd j hj b h1 h2
      · rw [upd_ne _ _ e2] at h2; exact h.sep j k hj hk hjk b h1 h2
theorem getD_set {α : Type} [Inhabited α] (xs : List α) (x : α) (i k : Nat) (hi : i < xs.length) : (xs.set i x).getD k default = upd (fun k => xs.getD k default) i x k := by
  simp only [List.getD_eq_getElem?_getD, List.getElem?_set]
  by_cases e : i = k
  · subst e
    rw [if_pos rfl, if_pos hi, upd_at]
    rfl
  · rw [if_neg e, upd_ne _ _ (Ne.symm e)]
theorem NO.put {α : Type} [Inhabited α] {R : Rep α} {e size : Nat} {lv : Value → List Value} {W W' : World} {base : Nat} {v : Value} {i : Nat} {xs : List α} {cs cs' : List Value} {us : Nat → Value} {fs : Nat → Nat → Prop} {u : Value} {x : α} {F Fu : Nat → Prop}
    (h : PO R e size lv W base v xs.length xs.length (fun i => xs.getD i default) cs us fs) (hF : ∀ b, F b ↔ (v.ownBlock = some b ∨ ∃ i, i < xs.length ∧ fs i b)) (hi : i < xs.length) (hu : R.O W base Fu u x) (hl : (lv u).length = size) (hd : ∀ b, F b → ¬ Fu b)
    (hr : W'.ownsRow base e size v xs.length cs') (hm : Mod (fun b => v.ownBlock = some b) W W') (hold : ∀ j, j < xs.length → j ≠ i → ∀ o, o < size → cs'[j * size + o]? = cs[j * size + o]?) (hnew : ∀ o, o < size → cs'[i * size + o]? = (lv u)[o]?) :
    ∃ F', NO R e size lv W' base F' v (xs.set i x) ∧ ∀ b, F' b → F b ∨ Fu b := by
  have hp := h.putN hi hu hl (fun j hj b hb => hd b ((hF b).2 (.inr ⟨j, hj, hb⟩))) (fun b hb e => hd b ((hF b).2 (.inl e)) hb) hr hm hold hnew
  have hlen : (xs.set i x).length = xs.length := by simp
  refine ⟨fun b => v.ownBlock = some b ∨ ∃ k, k < xs.length ∧ upd fs i Fu k b, ⟨cs', upd us i u, upd fs i Fu, ?_, fun b => by rw [hlen]⟩, fun b hb => ?_⟩
  · rw [hlen]
    exact hp.cast (fun k hk => getD_set xs x i k hi)
  · rcases hb with hb | ⟨k, hk, hb⟩
    · exact .inl ((hF b).2 (.inl hb))
    · by_cases e1 : k = i
      · subst e1; rw [upd_at] at hb; exact .inr hb
      · rw [upd_ne _ _ e1] at hb; exact .inl ((hF b).2 (.inr ⟨k, hk, hb⟩))
theorem run_appN (w : World) {α : Type} [Inhabited α] {R : Rep α} {lv : Value → List Value} (t ty e : TypeId) (i : TypeInfo) (z : Value) (size bytes : Nat) (ht : Tryz.prog.underlying t = some (.slice e)) (hi : Tryz.prog.info? e = some i) (hz : i.zero = some z)
    (hsize : i.size = size) (hby : i.bytes = bytes) (hzs : z.cells.size = size) (hsz : 0 < size) (hb1 : bytes ≤ 1000)
    (base : Nat) {F Fu : Nat → Prop} (v u : Value) (xs : List α) (x : α) (hown : NO R e size lv w base F v xs) (hu : R.O w base Fu u x) (hl : (lv u).length = size) (h1 : ∀ y ∈ lv u, y.oneCell' = true) (hd : ∀ b, F b → ¬ Fu b)
    (ad : Addr) (c : Nat) (hc : ∀ j y, (lv u)[j]? = some y → w.cell? (ad.add j) = some y) (hn : xs.length ≤ 2000000) (hbase : base ≤ w.heap.size) :
    ∃ v' w' F', (Builtin.append_ #[t, t] ty #[v, .slice (some ad) 1 c]).run Tryz.prog w = .ok v' w' ∧ NO R e size lv w' base F' v' (xs ++ [x]) ∧ w.grownBy w' v.ownBlock ∧ (∀ b, F' b → F b ∨ Fu b ∨ w.heap.size ≤ b) := by
  obtain ⟨cs, us, fs, hp, hF⟩ := hown
  obtain ⟨v', w', hr, h2, h3, h4, h5⟩ := run_append_own_at (P := Tryz.prog) w base t ty e i z size bytes ht hi hz hsize hby hzs hsz v xs.length cs hp.row ad 1 c (lv u) (by omega) hc h1 (by unfold maxLen; omega) (Nat.le_trans (Nat.mul_le_mul_left _ hb1) (by omega)) hbase
  have hcl : cs.length = xs.length * size := hp.row.1
  have e1 : cs.take (xs.length * size) ++ lv u ++ cs.drop (xs.length * size) = cs ++ lv u := by
    rw [List.take_of_length_le (by omega), List.drop_of_length_le (by omega), List.append_nil]
  obtain ⟨F', h6, h7⟩ := NO.ins hp hF (Nat.le_refl _) hu hl hd (by rw [e1]; exact h2) (Mod.of_grown h3) (fun b hb => by
    rcases h5 with h5 | h5
    · exact .inl (h5 ▸ hb)
    · rw [h5] at hb
      simp only [Option.some.injEq] at hb
      exact .inr (by omega))
  rw [List.take_of_length_le (Nat.le_refl _), List.drop_of_length_le (Nat.le_refl _), List.append_nil] at h6
  exact ⟨v', w', F', hr, h6, h3, h7⟩
theorem wpl_appR {w : World} {ops : Array Oper} {rest : List Oper} {o : Oper} {a : Act} {Q : Exit → Act → World → Prop} (hgd : o.guard = none) (s x : Operand) (t t' : TypeId)
    (ho : o.op = .call { callee := .builtin .append, args := #[s, x], argTypes := #[t, t'] }) (v u : Value) (hs : a.eval s = v) (hx : a.eval x = u) {v' : Value} {w' : World}
    (hr : (Builtin.append_ #[t, t'] o.type #[v, u]).run Tryz.prog w = .ok v' w') (h : wpList Tryz.prog ops Q rest (a.put o.dst v') w') : wpList Tryz.prog ops Q (o :: rest) a w := by
  refine wpList_plain hgd fun K hK => ?_
  unfold Oper.wp execOp
  simp only [ho, resolve, invoke, builtin, Sem.run_bind, Sem.run_pure, Result.andThen_ok, List.map_toArray, List.map_cons, List.map_nil, hs, hx, hr]
  exact hK _ _ h
theorem step_appR {ops : Array Oper} {o : Oper} {a : Act} {w : World} {K : Act → World → Prop} {Q : Exit → Act → World → Prop} {E : Prop} (hgd : o.guard = none) (s x : Operand) (t t' : TypeId)
    (ho : o.op = .call { callee := .builtin .append, args := #[s, x], argTypes := #[t, t'] }) (v u : Value) (hs : a.eval s = v) (hx : a.eval x = u) {v' : Value} {w' : World}
    (hr : (Builtin.append_ #[t, t'] o.type #[v, u]).run Tryz.prog w = .ok v' w') (hK : K (a.put o.dst v') w') :
    if Region.wanted o (yielded ops a.tmps) = true then Oper.wp Tryz.prog o a w K Q else E := by
  have hw : Region.wanted o (yielded ops a.tmps) = true := by simp [Region.wanted, hgd]
  rw [if_pos hw]
  unfold Oper.wp execOp
  simp only [ho, resolve, invoke, builtin, Sem.run_bind, Sem.run_pure, Result.andThen_ok, List.map_toArray, List.map_cons, List.map_nil, hs, hx, hr]
  exact hK
theorem wpl_appN (w : World) {α : Type} [Inhabited α] {R : Rep α} {lv : Value → List Value} {ops : Array Oper} {rest : List Oper} {o : Oper} {a : Act} {Q : Exit → Act → World → Prop} (hgd : o.guard = none) (s x : Operand) (t : TypeId)
    (ho : o.op = .call { callee := .builtin .append, args := #[s, x], argTypes := #[t, t] }) (e : TypeId) (i : TypeInfo) (z : Value) (size bytes : Nat) (ht : Tryz.prog.underlying t = some (.slice e)) (hi : Tryz.prog.info? e = some i) (hz : i.zero = some z)
    (hsize : i.size = size) (hby : i.bytes = bytes) (hzs : z.cells.size = size) (hsz : 0 < size) (hb1 : bytes ≤ 1000)
    (base : Nat) (F Fu : Nat → Prop) (v u : Value) (xs : List α) (y : α) (ad : Addr) (c : Nat) (hs : a.eval s = v) (hx : a.eval x = .slice (some ad) 1 c) (hown : NO R e size lv w base F v xs) (hu : R.O w base Fu u y) (hl : (lv u).length = size) (h1 : ∀ y ∈ lv u, y.oneCell' = true) (hd : ∀ b, F b → ¬ Fu b)
    (hc : ∀ j y, (lv u)[j]? = some y → w.cell? (ad.add j) = some y) (hn : xs.length ≤ 2000000) (hbase : base ≤ w.heap.size)
    (h : ∀ v' w' F', NO R e size lv w' base F' v' (xs ++ [y]) → Below base w w' → (∀ b, F' b → F b ∨ Fu b ∨ w.heap.size ≤ b) → wpList Tryz.prog ops Q rest (a.put o.dst v') w') : wpList Tryz.prog ops Q (o :: rest) a w := by
  obtain ⟨v', w', F', hr, h2, h3, h4⟩ := run_appN w t o.type e i z size bytes ht hi hz hsize hby hzs hsz hb1 base v u xs y hown hu hl h1 hd ad c hc hn hbase
  obtain ⟨cs, us, fs, hp, hF⟩ := hown
  exact wpl_appR hgd s x t t ho v _ hs hx hr (h v' w' F' h2 ((Below.refl base w).grown h3 hbase (fun b e => (hp.row.lt b e).1)) h4)
theorem step_appN (w : World) {α : Type} [Inhabited α] {R : Rep α} {lv : Value → List Value} {ops : Array Oper} {o : Oper} {a : Act} {K : Act → World → Prop} {Q : Exit → Act → World → Prop} {E : Prop} (hgd : o.guard = none) (s x : Operand) (t : TypeId)
    (ho : o.op = .call { callee := .builtin .append, args := #[s, x], argTypes := #[t, t] }) (e : TypeId) (i : TypeInfo) (z : Value) (size bytes : Nat) (ht : Tryz.prog.underlying t = some (.slice e)) (hi : Tryz.prog.info? e = some i) (hz : i.zero = some z)
    (hsize : i.size = size) (hby : i.bytes = bytes) (hzs : z.cells.size = size) (hsz : 0 < size) (hb1 : bytes ≤ 1000)
    (base : Nat) (F Fu : Nat → Prop) (v u : Value) (xs : List α) (y : α) (ad : Addr) (c : Nat) (hs : a.eval s = v) (hx : a.eval x = .slice (some ad) 1 c) (hown : NO R e size lv w base F v xs) (hu : R.O w base Fu u y) (hl : (lv u).length = size) (h1 : ∀ y ∈ lv u, y.oneCell' = true) (hd : ∀ b, F b → ¬ Fu b)
    (hc : ∀ j y, (lv u)[j]? = some y → w.cell? (ad.add j) = some y) (hn : xs.length ≤ 2000000) (hbase : base ≤ w.heap.size)
    (h : ∀ v' w' F', NO R e size lv w' base F' v' (xs ++ [y]) → Below base w w' → (∀ b, F' b → F b ∨ Fu b ∨ w.heap.size ≤ b) → K (a.put o.dst v') w') :
    if Region.wanted o (yielded ops a.tmps) = true then Oper.wp Tryz.prog o a w K Q else E := by
  obtain ⟨v', w', F', hr, h2, h3, h4⟩ := run_appN w t o.type e i z size bytes ht hi hz hsize hby hzs hsz hb1 base v u xs y hown hu hl h1 hd ad c hc hn hbase
  obtain ⟨cs, us, fs, hp, hF⟩ := hown
  exact step_appR hgd s x t t ho v _ hs hx hr (h v' w' F' h2 ((Below.refl base w).grown h3 hbase (fun b e => (hp.row.lt b e).1)) h4)
end Go.Proofs.YtncmdeijimgchaaGreat

/-
  slices.Insert of one slot, whatever room there is.
-/
namespace Go.Proofs.YtncmdeijimgchaaGreat
open Go.RowKit Go.Shelf
set_option linter.unusedSectionVars false
variable [DecidableEq Vot] [Inhabited Vot] [DecidableEq Slt] [Inhabited Slt] [DecidableEq Bal] [Inhabited Bal] [DecidableEq Ledg] [Inhabited Ledg] [DecidableEq Leg] [Inhabited Leg]
set_option linter.unusedVariables false
set_option linter.unusedSimpArgs false

theorem slt_cells {w : World} {base : Nat} {F : Nat → Prop} {u : Value} {x : Slt} (h : sltR.O w base F u x) : ∃ a c, u = .agg #[.int .i64 x.con, .int .i64 x.sh, .int .i64 x.pr, .int .i64 x.lb, .int .i64 x.lv, .slice a x.cast.length c] ∧ lvSlt u = [.int .i64 x.con, .int .i64 x.sh, .int .i64 x.pr, .int .i64 x.lb, .int .i64 x.lv, .slice a x.cast.length c] := by
  obtain ⟨u1, F1, rfl, h1, _⟩ := h
  obtain ⟨a, c, rfl⟩ := owns_form h1.1
  exact ⟨a, c, rfl, rfl⟩
theorem slt_one6 {w : World} {base : Nat} {F : Nat → Prop} {u : Value} {x : Slt} (h : sltR.O w base F u x) : (lvSlt u).length = 6 ∧ ∀ y ∈ lvSlt u, y.oneCell' = true := by
  obtain ⟨a, c, rfl, e⟩ := slt_cells h
  rw [e]
  refine ⟨rfl, fun y hy => ?_⟩
  simp at hy
  rcases hy with rfl | rfl | rfl | rfl | rfl | rfl <;> rfl
theorem slts_one {w : World} {base : Nat} {v : Value} {n : Nat} {d : Nat → Slt} {cs : List Value} {us : Nat → Value} {fs : Nat → Nat → Prop} (hp : PO sltR 76 6 lvSlt w base v n n d cs us fs) : ∀ y ∈ cs, y.oneCell' = true := by
  intro y hy
  obtain ⟨k, hk, rfl⟩ := List.getElem_of_mem hy
  have hcl : cs.length = n * 6 := hp.row.1
  have h1 := hp.cell (k / 6) (by omega) (k % 6) (by omega)
  have e : k / 6 * 6 + k % 6 = k := by omega
  rw [e, List.getElem?_eq_getElem hk] at h1
  exact (slt_one6 (hp.el (k / 6) (by omega))).2 _ (List.mem_of_getElem? h1.symm)
theorem insertS_any (base : Nat) (v : Value) (i vb : Nat) (xs : List Slt) (u : Value) (x : Slt) (F Fu : Nat → Prop) (w : World) (hown : sltsR.O w base F v xs) (hi : i ≤ xs.length) (hn : xs.length ≤ 1048000) (hbase : base ≤ w.heap.size)
    (hu : sltR.O w base Fu u x) (hd : ∀ b, F b → ¬ Fu b) (hv : w.heap[vb]? = some (.cells (lvSlt u).toArray 76 (0, 0))) (hvb : v.ownBlock ≠ some vb) :
    Calls Tryz.prog 123 #[v, .int .i64 i, .slice (some ⟨vb, 0, none⟩) 1 1] w fun e w' =>
      ∃ v' F', e = .returned v' ∧ sltsR.O w' base F' v' (xs.take i ++ [x] ++ xs.drop i) ∧ Mod (fun b => v.ownBlock = some b) w w' ∧ (∀ b, F' b → F b ∨ Fu b ∨ w.heap.size ≤ b) := by
  obtain ⟨cs, us, fs, hp, hF⟩ := hown
  have hcl : cs.length = xs.length * 6 := hp.row.1
  obtain ⟨hul, hu1⟩ := slt_one6 hu
  have h1c := slts_one hp
  have hown := hp.row
  have fin : ∀ (v' : Value) (w' : World), w'.ownsRow base 76 6 v' (xs.length + 1) (cs.take (i * 6) ++ lvSlt u ++ cs.drop (i * 6)) → Mod (fun b => v.ownBlock = some b) w w' → (∀ b, v'.ownBlock = some b → v.ownBlock = some b ∨ w.heap.size ≤ b) →
      ∃ F', sltsR.O w' base F' v' (xs.take i ++ [x] ++ xs.drop i) ∧ (∀ b, F' b → F b ∨ Fu b ∨ w.heap.size ≤ b) := fun v' w' h1 h2 h3 => NO.ins hp hF hi hu hul hd h1 h2 h3
  by_cases hie : i = xs.length
  · subst hie
    refine (insertS_end base v xs.length vb cs (lvSlt u) w hown (by omega) hbase hul hv hu1).mono ?_
    rintro e w' ⟨v', rfl, h1, h2, h3⟩
    have h4 : ∀ b, v'.ownBlock = some b → v.ownBlock = some b ∨ w.heap.size ≤ b := fun b hb => by
      rcases h3 with h3 | h3
      · exact .inl (h3 ▸ hb)
      · rw [h3] at hb
        simp only [Option.some.injEq] at hb
        exact .inr (by omega)
    obtain ⟨F', h5, h6⟩ := fin v' w' (by rw [List.take_of_length_le (by omega), List.drop_of_length_le (by omega), List.append_nil]; exact h1) (Mod.of_grown h2) h4
    exact ⟨v', F', rfl, h5, Mod.of_grown h2, h6⟩
  · rcases hown.2 with ⟨_, h0⟩ | ⟨g, cap, cur, rfl, hbg, hg, hnc, hcm, hcs, htake⟩
    · omega
    · have hne : vb ≠ g := fun e => hvb (by rw [e]; rfl)
      have hgl : g < w.heap.size := (Array.getElem?_eq_some_iff.1 hg).1
      have hcl2 : (cs.take (i * 6) ++ lvSlt u ++ cs.drop (i * 6)).length = (xs.length + 1) * 6 := by
        simp only [List.length_append, List.length_take, List.length_drop, hul, hcl]
        omega
      by_cases hroom : xs.length + 1 ≤ cap
      · refine (insertS_shift g xs.length cap i vb cs (lvSlt u) cur w hg (by omega) hroom (by unfold maxLen at hcm; omega) hne hcs hcl htake hul hv h1c hu1).mono ?_
        rintro e w' ⟨rfl, cur', h1, h2, h3, h4⟩
        obtain ⟨F', h5, h6⟩ := fin (.slice (some ⟨g, 0, none⟩) (xs.length + 1) cap) w' ⟨hcl2, .inr ⟨g, cap, cur', rfl, hbg, h1, hroom, hcm, h2, h3⟩⟩ (h4.mono (fun b h => by rw [h]; rfl)) (fun b hb => .inl hb)
        exact ⟨_, F', rfl, h5, h4.mono (fun b h => by rw [h]; rfl), h6⟩
      · refine (insertS_grow g xs.length cap i vb cs (lvSlt u) w (by omega) hnc (by omega) (by omega) hcl (fun j v hj => ?_) hul hv h1c hu1).mono ?_
        · refine cell_rowS hg ?_
          rw [← htake, List.getElem?_take] at hj
          split at hj
          · exact hj
          · cases hj
        · rintro e w' ⟨G, rfl, cur', h1, h2, h3, h4, h5, h6⟩
          have h6' : Mod (fun b => (Value.slice (some ⟨g, 0, none⟩) xs.length cap).ownBlock = some b) w w' := h6.mono (fun b h => h.elim)
          obtain ⟨F', h7, h8⟩ := fin (.slice (some ⟨w.heap.size, 0, none⟩) (xs.length + 1) G) w' ⟨hcl2, .inr ⟨w.heap.size, G, cur', rfl, hbase, h1, h2, h3, h4, h5⟩⟩ h6' (fun b hb => by simp only [Value.ownBlock, Option.some.injEq] at hb; exact .inr (by omega))
          exact ⟨_, F', rfl, h7, h6', h8⟩
end Go.Proofs.YtncmdeijimgchaaGreat

/-
  A new slot, said plainly.
-/
set_option linter.unusedSimpArgs false
set_option linter.unusedVariables false
namespace Go.Proofs.YtncmdeijimgchaaGreat
open Go.RowKit
set_option linter.unusedSectionVars false
variable [DecidableEq Vot] [Inhabited Vot] [DecidableEq Slt] [Inhabited Slt] [DecidableEq SltR] [Inhabited SltR] [DecidableEq Bal] [Inhabited Bal] [DecidableEq Ledg] [Inhabited Ledg] [DecidableEq Leg] [Inhabited Leg] [DecidableEq Acc] [Inhabited Acc] [DecidableEq AccR] [Inhabited AccR] [DecidableEq AccsR] [Inhabited AccsR] [DecidableEq SltsR] [Inhabited SltsR]
attribute [local go_sem ↓] Go.wp_at_zero Go.wp_at_succ

def NewE (c s : Int) (W : World) (e : Ending) (w' : World) : Prop :=
  ∃ p q F, e = .returned (.agg #[.int .i64 0, .int .i64 0, .int .i64 0, .int .i64 c, .int .i64 s, .int .i64 (-1), .int .i64 (-1), .int .i64 0, .slice p 0 q]) ∧ sltR.O w' W.heap.size F (.agg #[.int .i64 c, .int .i64 s, .int .i64 (-1), .int .i64 (-1), .int .i64 0, .slice p 0 q]) (freS c s) ∧ Below W.heap.size W w'
theorem slotField (a b c d e f g h : Int) (p : Option Addr) (n q : Nat) (w : World) : (Instr.field 78 (.agg #[.int .i64 a, .int .i64 b, .int .i64 c, .int .i64 d, .int .i64 e, .int .i64 f, .int .i64 g, .int .i64 h, .slice p n q]) 2).run Tryz.prog w = .ok (.agg #[.int .i64 d, .int .i64 e, .int .i64 f, .int .i64 g, .int .i64 h, .slice p n q]) w := by kernel_rfl
theorem newE_of {c s : Int} {W : World} {e : Ending} {w' : World} (h : ∃ v F, e = .returned v ∧ sltRR.O w' W.heap.size F v ⟨0, 0, 0, freS c s⟩ ∧ Below W.heap.size W w') : NewE c s W e w' := by
  obtain ⟨v, F, rfl, h, hb⟩ := h
  obtain ⟨u, F1, rfl, h1, _⟩ := h
  obtain ⟨p, q, e, _⟩ := slt_cells h1
  simp only [freS, Value.agg.injEq, Array.mk.injEq, List.cons.injEq, and_true, true_and, List.length_nil] at e
  subst e
  exact ⟨p, q, F1, rfl, h1, hb⟩
theorem specNew_ok (c s : Int) (W : World) (h : idOk c s = true) : Calls Tryz.prog 58 #[.int .i64 c, .int .i64 s] W (NewE c s W) := by
  refine (specNewS_u c s W).mono ?_
  intro e w' h1
  rw [newSlt_ok h] at h1
  exact newE_of h1
theorem implNew_ok (c s : Int) (W : World) (h : idOk c s = true) : Calls Tryz.prog 55 #[.int .i64 c, .int .i64 s] W (NewE c s W) := by
  refine (implNewS_u c s W).mono ?_
  intro e w' h1
  rw [newSlt_ok h] at h1
  exact newE_of h1
def NewB (W : World) (e : Ending) (w' : World) : Prop :=
  e = .returned (.agg #[.int .i64 3, .int .i64 0, .int .i64 0, .int .i64 0, .int .i64 0, .int .i64 0, .int .i64 0, .int .i64 0, .slice none 0 0]) ∧ Below W.heap.size W w'
set_option maxHeartbeats 1000000 in
theorem specNew_bad (c s : Int) (W : World) (h : idOk c s = false) : Calls Tryz.prog 58 #[.int .i64 c, .int .i64 s] W (NewB W) := by
  unfold idOk at h
  cases h1 : inB c 1 1000000000
  · go_enter Tryz.func58, Tryz.ntmps58
    go_wp2_with (first | (go_at_call 80; refine (l1Id_any _ _).mono ?_; rintro e w' ⟨rfl, rfl⟩; rw [h1]) | (go_at_call 27; refine (l1In_any _ _ _ _).mono ?_; rintro e w' ⟨rfl, rfl⟩))
    exact bodyPost_ret (v := .agg #[.int .i64 3, .int .i64 0, .int .i64 0, .int .i64 0, .int .i64 0, .int .i64 0, .int .i64 0, .int .i64 0, .slice none 0 0]) (by simp [results, Tryz.results58, go_sem]) rfl ⟨rfl, by (repeat (first | exact Below.refl _ _ | assumption | refine Below.drew ?_ | refine balloc ?_ _ | refine bset ?_ (by simp; omega) _ | refine bset ?_ (by simp) _ | refine bstep ?_ (by assumption)))⟩
  · rw [h1, Bool.true_and] at h
    go_enter Tryz.func58, Tryz.ntmps58
    go_wp2_with (first | (go_at_call 80; refine (l1Id_any _ _).mono ?_; rintro e w' ⟨rfl, rfl⟩; rw [h1]) | (go_at_call 27; refine (l1In_any _ _ _ _).mono ?_; rintro e w' ⟨rfl, rfl⟩; rw [h]))
    exact bodyPost_ret (v := .agg #[.int .i64 3, .int .i64 0, .int .i64 0, .int .i64 0, .int .i64 0, .int .i64 0, .int .i64 0, .int .i64 0, .slice none 0 0]) (by simp [results, Tryz.results58, go_sem]) rfl ⟨rfl, by (repeat (first | exact Below.refl _ _ | assumption | refine Below.drew ?_ | refine balloc ?_ _ | refine bset ?_ (by simp; omega) _ | refine bset ?_ (by simp) _ | refine bstep ?_ (by assumption)))⟩
set_option maxHeartbeats 1000000 in
theorem implNew_bad (c s : Int) (W : World) (h : idOk c s = false) : Calls Tryz.prog 55 #[.int .i64 c, .int .i64 s] W (NewB W) := by
  unfold idOk at h
  cases h1 : inB c 1 1000000000
  · go_enter Tryz.func55, Tryz.ntmps55
    go_wp2_with (first | (go_at_call 91; refine (isId_any _ _).mono ?_; rintro e w' ⟨rfl, rfl⟩; rw [h1]) | (go_at_call 92; refine (isShard_any _ _).mono ?_; rintro e w' ⟨rfl, rfl⟩))
    exact bodyPost_ret (v := .agg #[.int .i64 3, .int .i64 0, .int .i64 0, .int .i64 0, .int .i64 0, .int .i64 0, .int .i64 0, .int .i64 0, .slice none 0 0]) (by simp [results, Tryz.results55, go_sem]) rfl ⟨rfl, by (repeat (first | exact Below.refl _ _ | assumption | refine Below.drew ?_ | refine balloc ?_ _ | refine bset ?_ (by simp; omega) _ | refine bset ?_ (by simp) _ | refine bstep ?_ (by assumption)))⟩
  · rw [h1, Bool.true_and] at h
    go_enter Tryz.func55, Tryz.ntmps55
    go_wp2_with (first | (go_at_call 91; refine (isId_any _ _).mono ?_; rintro e w' ⟨rfl, rfl⟩; rw [h1]) | (go_at_call 92; refine (isShard_any _ _).mono ?_; rintro e w' ⟨rfl, rfl⟩; rw [h]))
    exact bodyPost_ret (v := .agg #[.int .i64 3, .int .i64 0, .int .i64 0, .int .i64 0, .int .i64 0, .int .i64 0, .int .i64 0, .int .i64 0, .slice none 0 0]) (by simp [results, Tryz.results55, go_sem]) rfl ⟨rfl, by (repeat (first | exact Below.refl _ _ | assumption | refine Below.drew ?_ | refine balloc ?_ _ | refine bset ?_ (by simp; omega) _ | refine bset ?_ (by simp) _ | refine bstep ?_ (by assumption)))⟩
end Go.Proofs.YtncmdeijimgchaaGreat

/-
  Lists of acceptors: their fault.
-/
set_option linter.unusedSimpArgs false
set_option linter.unusedVariables false
namespace Go.Proofs.YtncmdeijimgchaaGreat
open Go.RowKit
set_option linter.unusedSectionVars false
variable [DecidableEq Vot] [Inhabited Vot] [DecidableEq Slt] [Inhabited Slt] [DecidableEq SltR] [Inhabited SltR] [DecidableEq Bal] [Inhabited Bal] [DecidableEq Ledg] [Inhabited Ledg] [DecidableEq Leg] [Inhabited Leg] [DecidableEq Acc] [Inhabited Acc] [DecidableEq AccR] [Inhabited AccR] [DecidableEq AccsR] [Inhabited AccsR] [DecidableEq SltsR] [Inhabited SltsR]
attribute [local go_sem ↓] Go.wp_at_zero Go.wp_at_succ

theorem accs_at {w : World} {x : Value} {l : List Acc} (hx : accsR.V w x l) : ∃ a c, x = .slice a l.length c ∧ l.length ≤ c ∧ c ≤ maxLen ∧ ∀ k, k < l.length → ∃ b o p q, a = some ⟨b, o, none⟩ ∧ w.cell? ⟨b, o + k, none⟩ = some (.slice p (l.getD k default).slots.length q) ∧ accR.V w (.agg #[.slice p (l.getD k default).slots.length q]) (l.getD k default) := by
  obtain ⟨a, c, rfl, h1, h2, h3⟩ := hx
  refine ⟨a, c, rfl, h1, h2, fun k hk => ?_⟩
  obtain ⟨b, o, u, e, _, hc, hv⟩ := h3 k hk
  have hV := hv
  obtain ⟨u1, rfl, hs⟩ := hv
  obtain ⟨p, q, rfl⟩ := slts_form hs
  have h0 := hc 0 (by omega)
  exact ⟨b, o, p, q, e, by simpa [lvAcc, one] using h0, hV⟩
set_option maxHeartbeats 4000000 in
theorem specListF_any (x : Value) (l : List Acc) (w : World) (hx : accsR.V w x l) :
    Calls Tryz.prog 46 #[x] w fun e w' => e = .returned (.int .i64 (listF l)) ∧ Below w.heap.size w w' := by
  obtain ⟨a, c, rfl, hcx, hmx, hx⟩ := accs_at hx
  unfold maxLen at hmx
  have hXs : Hid (∀ k, k < l.length → ∃ b o p q, a = some ⟨b, o, none⟩ ∧ w.cell? ⟨b, o + k, none⟩ = some (.slice p (l.getD k default).slots.length q) ∧ accR.V w (.agg #[.slice p (l.getD k default).slots.length q]) (l.getD k default)) := hx
  clear hx
  have H1 : Hid ((l.length < 1 ∨ 5 < l.length) → listF l = 2) := fun h => listF_many h
  have H2 : Hid (¬ (l.length < 1 ∨ 5 < l.length) → scanI (fun k => accF (l.getD k default).slots) l.length = 0 → listF l = 0) := fun h h' => listF_end h h'
  have H3 : Hid (∀ k c, ¬ (l.length < 1 ∨ 5 < l.length) → k < l.length → scanI (fun k => accF (l.getD k default).slots) k = 0 → accF (l.getD k default).slots = c → ¬ c = 0 → listF l = c) := fun k c h hk hs hc h0 => listF_hit h hk hs hc h0
  generalize listF l = R at *
  generalize hn : l.length = n at *
  clear hn
  by_cases h1 : n < 1
  · have HC : Hid (R = 2) := H1.out (.inl h1)
    have h1' : (n : Int) < 1 := by omega
    clear H1 H2 H3 hXs
    go_enter Tryz.func46, Tryz.ntmps46
    go_wp2
    go_ret
    exact ⟨by rw [HC.out]; rfl, by (repeat (first | exact Below.refl _ _ | assumption | refine Below.drew ?_ | refine balloc ?_ _ | refine bset ?_ (by simp; omega) _ | refine bset ?_ (by simp) _ | refine bstep ?_ (by assumption)))⟩
  by_cases h5 : 5 < n
  · have HC : Hid (R = 2) := H1.out (.inr h5)
    have h1' : ¬ (n : Int) < 1 := by omega
    have h5' : (5 : Int) < n := by omega
    clear H1 H2 H3 hXs
    go_enter Tryz.func46, Tryz.ntmps46
    go_wp2
    go_ret
    exact ⟨by rw [HC.out]; rfl, by (repeat (first | exact Below.refl _ _ | assumption | refine Below.drew ?_ | refine balloc ?_ _ | refine bset ?_ (by simp; omega) _ | refine bset ?_ (by simp) _ | refine bstep ?_ (by assumption)))⟩
  have HNo : Hid (¬ (n < 1 ∨ 5 < n)) := by show ¬ _; omega
  have h1' : ¬ (n : Int) < 1 := by omega
  have h5' : ¬ (5 : Int) < n := by omega
  clear H1
  go_enter Tryz.func46, Tryz.ntmps46
  go_wp2
  go_loopw [3] (fun i w' => ∃ k : Nat, k ≤ n ∧ i = .int .i64 k ∧ Hid (scanI (fun k => accF (l.getD k default).slots) k = 0) ∧ Below w.heap.size w w') (fun i _ => n - (intOf i).toNat)
  case atStart => exact ⟨0, Nat.zero_le _, rfl, rfl, Below.refl _ _⟩
  case round =>
    obtain ⟨k, hk, rfl, HS, hbl⟩ := hrel
    by_cases hlt : k < n
    · obtain ⟨b, o, p, q, rfl, hc, hV⟩ := hXs.out k hlt
      have HF : Hid (∀ W, Below w.heap.size w W → Calls Tryz.prog 79 #[.agg #[.slice p (l.getD k default).slots.length q]] W fun e w' => e = .returned (.int .i64 (accF (l.getD k default).slots)) ∧ Below W.heap.size W w') := fun W hW => specAccF_any _ _ W (accR.below hV hW)
      have HH : Hid (¬ accF (l.getD k default).slots = 0 → R = accF (l.getD k default).slots) := fun h => H3.out k _ HNo.out hlt HS.out rfl h
      have HZ : Hid (accF (l.getD k default).slots = 0 → scanI (fun k => accF (l.getD k default).slots) (k + 1) = 0) := fun h => scanI_succ (f := fun k => accF (l.getD k default).slots) HS.out h
      replace hc := cell_keep hbl hc
      clear hV
      generalize (l.getD k default).slots.length = m at *
      generalize accF (l.getD k default).slots = g at *
      go_wp2_with fail
      refine (HF.out _ (by (repeat (first | exact Below.refl _ _ | assumption | refine Below.drew ?_ | refine balloc ?_ _ | refine bset ?_ (by simp; omega) _ | refine bset ?_ (by simp) _ | refine bstep ?_ (by assumption))))).mono ?_
      rintro e w1 ⟨rfl, hb1⟩
      have hB1 : Below w.heap.size w w1 := bstep (by (repeat (first | exact Below.refl _ _ | assumption | refine Below.drew ?_ | refine balloc ?_ _ | refine bset ?_ (by simp; omega) _ | refine bset ?_ (by simp) _ | refine bstep ?_ (by assumption)))) hb1
      clear hb1 hc HF
      by_cases hg : g = 0
      · have HZ2 : Hid (scanI (fun k => accF (l.getD k default).slots) (k + 1) = 0) := HZ.out hg
        subst hg
        clear HH HZ
        go_wp2
        exact ⟨⟨k + 1, by omega, by go_num, HZ2, hB1⟩, by simp [intOf]; omega⟩
      · have HC : Hid (R = g) := HH.out hg
        have hg' : (g != 0) = true := by simp [hg]
        clear HH HZ
        go_wp2
        go_ret
        exact ⟨by rw [HC.out]; rfl, hB1⟩
    · have hkn : k = n := by omega
      subst hkn
      have HC : Hid (R = 0) := H2.out HNo.out HS.out
      go_wp2
      go_ret
      exact ⟨by rw [HC.out]; rfl, hbl⟩
set_option maxHeartbeats 4000000 in
theorem implListF_any (x : Value) (l : List Acc) (w : World) (hx : accsR.V w x l) :
    Calls Tryz.prog 50 #[x] w fun e w' => e = .returned (.int .i64 (listF l)) ∧ Below w.heap.size w w' := by
  obtain ⟨a, c, rfl, hcx, hmx, hx⟩ := accs_at hx
  unfold maxLen at hmx
  have hXs : Hid (∀ k, k < l.length → ∃ b o p q, a = some ⟨b, o, none⟩ ∧ w.cell? ⟨b, o + k, none⟩ = some (.slice p (l.getD k default).slots.length q) ∧ accR.V w (.agg #[.slice p (l.getD k default).slots.length q]) (l.getD k default)) := hx
  clear hx
  have H1 : Hid ((l.length < 1 ∨ 5 < l.length) → listF l = 2) := fun h => listF_many h
  have H2 : Hid (¬ (l.length < 1 ∨ 5 < l.length) → scanI (fun k => accF (l.getD k default).slots) l.length = 0 → listF l = 0) := fun h h' => listF_end h h'
  have H3 : Hid (∀ k c, ¬ (l.length < 1 ∨ 5 < l.length) → k < l.length → scanI (fun k => accF (l.getD k default).slots) k = 0 → accF (l.getD k default).slots = c → ¬ c = 0 → listF l = c) := fun k c h hk hs hc h0 => listF_hit h hk hs hc h0
  generalize listF l = R at *
  generalize hn : l.length = n at *
  clear hn
  by_cases h1 : n < 1
  · have HC : Hid (R = 2) := H1.out (.inl h1)
    have h1' : (n : Int) < 1 := by omega
    clear H1 H2 H3 hXs
    go_enter Tryz.func50, Tryz.ntmps50
    go_wp2
    go_ret
    exact ⟨by rw [HC.out]; rfl, by (repeat (first | exact Below.refl _ _ | assumption | refine Below.drew ?_ | refine balloc ?_ _ | refine bset ?_ (by simp; omega) _ | refine bset ?_ (by simp) _ | refine bstep ?_ (by assumption)))⟩
  by_cases h5 : 5 < n
  · have HC : Hid (R = 2) := H1.out (.inr h5)
    have h1' : ¬ (n : Int) < 1 := by omega
    have h5' : (5 : Int) < n := by omega
    clear H1 H2 H3 hXs
    go_enter Tryz.func50, Tryz.ntmps50
    go_wp2
    go_ret
    exact ⟨by rw [HC.out]; rfl, by (repeat (first | exact Below.refl _ _ | assumption | refine Below.drew ?_ | refine balloc ?_ _ | refine bset ?_ (by simp; omega) _ | refine bset ?_ (by simp) _ | refine bstep ?_ (by assumption)))⟩
  have HNo : Hid (¬ (n < 1 ∨ 5 < n)) := by show ¬ _; omega
  have h1' : ¬ (n : Int) < 1 := by omega
  have h5' : ¬ (5 : Int) < n := by omega
  clear H1
  go_enter Tryz.func50, Tryz.ntmps50
  go_wp2
  go_loopw [16] (fun i w' => ∃ k : Nat, k ≤ n ∧ i = .int .i64 k ∧ Hid (scanI (fun k => accF (l.getD k default).slots) k = 0) ∧ Below w.heap.size w w') (fun i _ => n - (intOf i).toNat)
  case atStart => exact ⟨0, Nat.zero_le _, rfl, rfl, Below.refl _ _⟩
  case round =>
    obtain ⟨k, hk, rfl, HS, hbl⟩ := hrel
    by_cases hlt : k < n
    · obtain ⟨b, o, p, q, rfl, hc, hV⟩ := hXs.out k hlt
      have HF : Hid (∀ W, Below w.heap.size w W → Calls Tryz.prog 85 #[.agg #[.slice p (l.getD k default).slots.length q]] W fun e w' => e = .returned (.int .i64 (accF (l.getD k default).slots)) ∧ Below W.heap.size W w') := fun W hW => implAccF_any _ _ W (accR.below hV hW)
      have HH : Hid (¬ accF (l.getD k default).slots = 0 → R = accF (l.getD k default).slots) := fun h => H3.out k _ HNo.out hlt HS.out rfl h
      have HZ : Hid (accF (l.getD k default).slots = 0 → scanI (fun k => accF (l.getD k default).slots) (k + 1) = 0) := fun h => scanI_succ (f := fun k => accF (l.getD k default).slots) HS.out h
      replace hc := cell_keep hbl hc
      clear hV
      generalize (l.getD k default).slots.length = m at *
      generalize accF (l.getD k default).slots = g at *
      go_wp2_with fail
      refine (HF.out _ (by (repeat (first | exact Below.refl _ _ | assumption | refine Below.drew ?_ | refine balloc ?_ _ | refine bset ?_ (by simp; omega) _ | refine bset ?_ (by simp) _ | refine bstep ?_ (by assumption))))).mono ?_
      rintro e w1 ⟨rfl, hb1⟩
      have hB1 : Below w.heap.size w w1 := bstep (by (repeat (first | exact Below.refl _ _ | assumption | refine Below.drew ?_ | refine balloc ?_ _ | refine bset ?_ (by simp; omega) _ | refine bset ?_ (by simp) _ | refine bstep ?_ (by assumption)))) hb1
      clear hb1 hc HF
      by_cases hg : g = 0
      · have HZ2 : Hid (scanI (fun k => accF (l.getD k default).slots) (k + 1) = 0) := HZ.out hg
        subst hg
        clear HH HZ
        go_wp2
        exact ⟨⟨k + 1, by omega, by go_num, HZ2, hB1⟩, by simp [intOf]; omega⟩
      · have HC : Hid (R = g) := HH.out hg
        have hg' : (g != 0) = true := by simp [hg]
        clear HH HZ
        go_wp2
        go_ret
        exact ⟨by rw [HC.out]; rfl, hB1⟩
    · have hkn : k = n := by omega
      subst hkn
      have HC : Hid (R = 0) := H2.out HNo.out HS.out
      go_wp2
      go_ret
      exact ⟨by rw [HC.out]; rfl, hbl⟩
def freC (l : List Acc) (c s : Int) : Int := if listF l = 0 then (if idOk c s = true then 0 else 3) else listF l
def FreE (l : List Acc) (c s : Int) (W : World) (e : Ending) (w' : World) : Prop :=
  (freC l c s = 0 → NewE c s W e w') ∧ (¬ freC l c s = 0 → e = .returned (.agg #[.int .i64 (freC l c s), .int .i64 0, .int .i64 0, .int .i64 0, .int .i64 0, .int .i64 0, .int .i64 0, .int .i64 0, .slice none 0 0]) ∧ Below W.heap.size W w')
theorem freC_ok {l : List Acc} {c s : Int} (h : freC l c s = 0) : listF l = 0 ∧ idOk c s = true := by
  unfold freC at h
  by_cases h1 : listF l = 0
  · rw [if_pos h1] at h
    refine ⟨h1, ?_⟩
    cases h2 : idOk c s with
    | true => rfl
    | false => rw [h2] at h; simp at h
  · rw [if_neg h1] at h
    exact absurd h h1
set_option maxHeartbeats 2000000 in
theorem freshFor_u (x : Value) (l : List Acc) (c s : Int) (w : World) (hx : accsR.V w x l) :
    Calls Tryz.prog 34 #[x, .int .i64 c, .int .i64 s] w (FreE l c s w) := by
  have HL : Hid (∀ W, Below w.heap.size w W → Calls Tryz.prog 50 #[x] W fun e w' => e = .returned (.int .i64 (listF l)) ∧ Below W.heap.size W w') := fun W hW => implListF_any x l W (accsR.below hx hW)
  obtain ⟨a, cc, rfl⟩ := accs_form hx
  clear hx
  generalize l.length = n at *
  by_cases hf : listF l = 0
  · cases hid : idOk c s
    · have HC : Hid (freC l c s = 3) := by show _ = _; unfold freC; rw [if_pos hf, hid]; rfl
      have HNw : Hid (∀ W, Calls Tryz.prog 55 #[.int .i64 c, .int .i64 s] W (NewB W)) := fun W => implNew_bad c s W hid
      rw [hf] at HL
      go_enter Tryz.func34, Tryz.ntmps34
      go_wp2_with fail
      refine (HL.out _ (by (repeat (first | exact Below.refl _ _ | assumption | refine Below.drew ?_ | refine balloc ?_ _ | refine bset ?_ (by simp; omega) _ | refine bset ?_ (by simp) _ | refine bstep ?_ (by assumption))))).mono ?_
      rintro e w1 ⟨rfl, hb1⟩
      have hB1 : Below w.heap.size w w1 := by (repeat (first | exact Below.refl _ _ | assumption | refine Below.drew ?_ | refine balloc ?_ _ | refine bset ?_ (by simp; omega) _ | refine bset ?_ (by simp) _ | refine bstep ?_ (by assumption)))
      have hz1 := hb1.size
      simp at hz1
      obtain ⟨c1, f1⟩ := bcell hb1
      have r0 : w1.cell? ⟨w.heap.size, 0, none⟩ = some (.int .i64 0) := cell_keep hb1 (by simp [go_sem])
      have r1 : w1.cell? ⟨w.heap.size, 1, none⟩ = some (.int .i64 0) := cell_keep hb1 (by simp [go_sem])
      have r2 : w1.cell? ⟨w.heap.size, 2, none⟩ = some (.int .i64 0) := cell_keep hb1 (by simp [go_sem])
      have r3 : w1.cell? ⟨w.heap.size, 3, none⟩ = some (.int .i64 0) := cell_keep hb1 (by simp [go_sem])
      have r4 : w1.cell? ⟨w.heap.size, 4, none⟩ = some (.int .i64 0) := cell_keep hb1 (by simp [go_sem])
      have r5 : w1.cell? ⟨w.heap.size, 5, none⟩ = some (.int .i64 0) := cell_keep hb1 (by simp [go_sem])
      have r6 : w1.cell? ⟨w.heap.size, 6, none⟩ = some (.int .i64 0) := cell_keep hb1 (by simp [go_sem])
      have r7 : w1.cell? ⟨w.heap.size, 7, none⟩ = some (.int .i64 0) := cell_keep hb1 (by simp [go_sem])
      have r8 : w1.cell? ⟨w.heap.size, 8, none⟩ = some (.slice none 0 0) := cell_keep hb1 (by simp [go_sem])
      have rf : ∀ o, w1.frozen? ⟨w.heap.size, o, none⟩ = false := fun o => by rw [f1 _ _ (by simp; try omega)]; simp [go_sem]
      clear hb1 c1 f1
      go_wp2_with fail
      refine (HNw.out _).mono ?_
      rintro e w2 ⟨rfl, hb2⟩
      have hB2 : Below w.heap.size w w2 := bstep hB1 hb2
      replace r0 := cell_keep hb2 r0
      replace r1 := cell_keep hb2 r1
      replace r2 := cell_keep hb2 r2
      replace r3 := cell_keep hb2 r3
      replace r4 := cell_keep hb2 r4
      replace r5 := cell_keep hb2 r5
      replace r6 := cell_keep hb2 r6
      replace r7 := cell_keep hb2 r7
      replace r8 := cell_keep hb2 r8
      replace rf : ∀ o, w2.frozen? ⟨w.heap.size, o, none⟩ = false := fun o => by rw [(bcell hb2).2 _ _ (by omega)]; exact rf o
      clear hb2
      go_wp2
      refine bodyPost_ret (v := .agg #[.int .i64 3, .int .i64 0, .int .i64 0, .int .i64 0, .int .i64 0, .int .i64 0, .int .i64 0, .int .i64 0, .slice none 0 0]) (by simp [results, Tryz.results34, go_sem, r0, r1, r2, r3, r4, r5, r6, r7, r8, rf]) rfl ⟨fun h => by rw [HC.out] at h; omega, fun _ => ⟨by rw [HC.out], by (repeat (first | refine bset ?_ (by simp; omega) _ | refine bset ?_ (by simp) _ | refine balloc ?_ _ | assumption))⟩⟩
    · have HC : Hid (freC l c s = 0) := by show _ = _; unfold freC; rw [if_pos hf, hid]; rfl
      have HNw : Hid (∀ W, Calls Tryz.prog 55 #[.int .i64 c, .int .i64 s] W (NewE c s W)) := fun W => implNew_ok c s W hid
      rw [hf] at HL
      go_enter Tryz.func34, Tryz.ntmps34
      go_wp2_with fail
      refine (HL.out _ (by (repeat (first | exact Below.refl _ _ | assumption | refine Below.drew ?_ | refine balloc ?_ _ | refine bset ?_ (by simp; omega) _ | refine bset ?_ (by simp) _ | refine bstep ?_ (by assumption))))).mono ?_
      rintro e w1 ⟨rfl, hb1⟩
      have hB1 : Below w.heap.size w w1 := by (repeat (first | exact Below.refl _ _ | assumption | refine Below.drew ?_ | refine balloc ?_ _ | refine bset ?_ (by simp; omega) _ | refine bset ?_ (by simp) _ | refine bstep ?_ (by assumption)))
      have hz1 := hb1.size
      simp at hz1
      obtain ⟨c1, f1⟩ := bcell hb1
      have r0 : w1.cell? ⟨w.heap.size, 0, none⟩ = some (.int .i64 0) := cell_keep hb1 (by simp [go_sem])
      have r1 : w1.cell? ⟨w.heap.size, 1, none⟩ = some (.int .i64 0) := cell_keep hb1 (by simp [go_sem])
      have r2 : w1.cell? ⟨w.heap.size, 2, none⟩ = some (.int .i64 0) := cell_keep hb1 (by simp [go_sem])
      have r3 : w1.cell? ⟨w.heap.size, 3, none⟩ = some (.int .i64 0) := cell_keep hb1 (by simp [go_sem])
      have r4 : w1.cell? ⟨w.heap.size, 4, none⟩ = some (.int .i64 0) := cell_keep hb1 (by simp [go_sem])
      have r5 : w1.cell? ⟨w.heap.size, 5, none⟩ = some (.int .i64 0) := cell_keep hb1 (by simp [go_sem])
      have r6 : w1.cell? ⟨w.heap.size, 6, none⟩ = some (.int .i64 0) := cell_keep hb1 (by simp [go_sem])
      have r7 : w1.cell? ⟨w.heap.size, 7, none⟩ = some (.int .i64 0) := cell_keep hb1 (by simp [go_sem])
      have r8 : w1.cell? ⟨w.heap.size, 8, none⟩ = some (.slice none 0 0) := cell_keep hb1 (by simp [go_sem])
      have rf : ∀ o, w1.frozen? ⟨w.heap.size, o, none⟩ = false := fun o => by rw [f1 _ _ (by simp; try omega)]; simp [go_sem]
      clear hb1 c1 f1
      go_wp2_with fail
      refine (HNw.out _).mono ?_
      rintro e w2 ⟨p2, q2, F2, rfl, o2, hb2⟩
      have hB2 : Below w.heap.size w w2 := bstep hB1 hb2
      have hz2 := hb2.size
      have HO : Hid (sltR.O w2 (w.heap.size + 1) F2 (.agg #[.int .i64 c, .int .i64 s, .int .i64 (-1), .int .i64 (-1), .int .i64 0, .slice p2 0 q2]) (freS c s)) := sltR.base o2 (by omega)
      replace r0 := cell_keep hb2 r0
      replace r1 := cell_keep hb2 r1
      replace r2 := cell_keep hb2 r2
      replace r3 := cell_keep hb2 r3
      replace r4 := cell_keep hb2 r4
      replace r5 := cell_keep hb2 r5
      replace r6 := cell_keep hb2 r6
      replace r7 := cell_keep hb2 r7
      replace r8 := cell_keep hb2 r8
      replace rf : ∀ o, w2.frozen? ⟨w.heap.size, o, none⟩ = false := fun o => by rw [(bcell hb2).2 _ _ (by omega)]; exact rf o
      clear hb2 o2
      go_wp2
      refine bodyPost_ret (v := .agg #[.int .i64 0, .int .i64 0, .int .i64 0, .int .i64 c, .int .i64 s, .int .i64 (-1), .int .i64 (-1), .int .i64 0, .slice p2 0 q2]) (by simp [results, Tryz.results34, go_sem, r0, r1, r2, r3, r4, r5, r6, r7, r8, rf]) rfl ⟨fun _ => ⟨p2, q2, F2, rfl, ?_, by (repeat (first | refine bset ?_ (by simp; omega) _ | refine bset ?_ (by simp) _ | refine balloc ?_ _ | assumption))⟩, fun h => absurd HC.out h⟩
      have hk : ∀ (W : World) (u : Value) (j : Nat), sltR.O W (w.heap.size + 1) F2 (.agg #[.int .i64 c, .int .i64 s, .int .i64 (-1), .int .i64 (-1), .int .i64 0, .slice p2 0 q2]) (freS c s) → sltR.O (W.setCell ⟨w.heap.size, j, none⟩ u) (w.heap.size + 1) F2 (.agg #[.int .i64 c, .int .i64 s, .int .i64 (-1), .int .i64 (-1), .int .i64 0, .slice p2 0 q2]) (freS c s) := fun W u j h => Rep.set _ h u (by simp)
      exact sltR.base (hk _ _ _ (hk _ _ _ (hk _ _ _ (hk _ _ _ (hk _ _ _ (hk _ _ _ (hk _ _ _ (hk _ _ _ (hk _ _ _ HO.out))))))))) (by omega)
  · have HC : Hid (freC l c s = listF l) := by show _ = _; unfold freC; rw [if_neg hf]
    generalize listF l = g at *
    have hg' : (g != 0) = true := by simp [hf]
    go_enter Tryz.func34, Tryz.ntmps34
    go_wp2_with fail
    refine (HL.out _ (by (repeat (first | exact Below.refl _ _ | assumption | refine Below.drew ?_ | refine balloc ?_ _ | refine bset ?_ (by simp; omega) _ | refine bset ?_ (by simp) _ | refine bstep ?_ (by assumption))))).mono ?_
    rintro e w1 ⟨rfl, hb1⟩
    have hB1 : Below w.heap.size w w1 := by (repeat (first | exact Below.refl _ _ | assumption | refine Below.drew ?_ | refine balloc ?_ _ | refine bset ?_ (by simp; omega) _ | refine bset ?_ (by simp) _ | refine bstep ?_ (by assumption)))
    have hz1 := hb1.size
    simp at hz1
    obtain ⟨c1, f1⟩ := bcell hb1
    have r0 : w1.cell? ⟨w.heap.size, 0, none⟩ = some (.int .i64 0) := cell_keep hb1 (by simp [go_sem])
    have r1 : w1.cell? ⟨w.heap.size, 1, none⟩ = some (.int .i64 0) := cell_keep hb1 (by simp [go_sem])
    have r2 : w1.cell? ⟨w.heap.size, 2, none⟩ = some (.int .i64 0) := cell_keep hb1 (by simp [go_sem])
    have r3 : w1.cell? ⟨w.heap.size, 3, none⟩ = some (.int .i64 0) := cell_keep hb1 (by simp [go_sem])
    have r4 : w1.cell? ⟨w.heap.size, 4, none⟩ = some (.int .i64 0) := cell_keep hb1 (by simp [go_sem])
    have r5 : w1.cell? ⟨w.heap.size, 5, none⟩ = some (.int .i64 0) := cell_keep hb1 (by simp [go_sem])
    have r6 : w1.cell? ⟨w.heap.size, 6, none⟩ = some (.int .i64 0) := cell_keep hb1 (by simp [go_sem])
    have r7 : w1.cell? ⟨w.heap.size, 7, none⟩ = some (.int .i64 0) := cell_keep hb1 (by simp [go_sem])
    have r8 : w1.cell? ⟨w.heap.size, 8, none⟩ = some (.slice none 0 0) := cell_keep hb1 (by simp [go_sem])
    have rf : ∀ o, w1.frozen? ⟨w.heap.size, o, none⟩ = false := fun o => by rw [f1 _ _ (by simp; try omega)]; simp [go_sem]
    clear hb1 c1 f1
    go_wp2
    refine bodyPost_ret (v := .agg #[.int .i64 g, .int .i64 0, .int .i64 0, .int .i64 0, .int .i64 0, .int .i64 0, .int .i64 0, .int .i64 0, .slice none 0 0]) (by simp [results, Tryz.results34, go_sem, r0, r1, r2, r3, r4, r5, r6, r7, r8, rf]) rfl ⟨fun h => absurd (by rw [HC.out] at h; exact h) hf, fun _ => ⟨by rw [HC.out], by (repeat (first | refine bset ?_ (by simp; omega) _ | refine bset ?_ (by simp) _ | refine balloc ?_ _ | assumption))⟩⟩
end Go.Proofs.YtncmdeijimgchaaGreat


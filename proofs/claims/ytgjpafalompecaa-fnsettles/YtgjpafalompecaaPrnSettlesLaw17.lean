import Derived.Test.YtgjpafalompecaaPrnSettlesLaw1
import Derived.Maps.AppendAt
import Derived.Deep.RegionHeld3
import Derived.Deep.DrawnRows
import Derived.BigQuiet
import Derived.Deep.QuietTactic

/-
  Rows of values that hold memory: one put in between or behind them, one put in another's place.
-/
set_option linter.unusedVariables false
namespace Go.Proofs.Ytgjpafalompecaa
open Go.RowKit

def insF {β : Type} (f : Nat → β) (i : Nat) (x : β) : Nat → β := fun k => if k < i then f k else if k = i then x else f (k - 1)
theorem insF_lt {β : Type} (f : Nat → β) {i k : Nat} (x : β) (h : k < i) : insF f i x k = f k := by simp [insF, h]
theorem insF_at {β : Type} (f : Nat → β) (i : Nat) (x : β) : insF f i x i = x := by simp [insF]
theorem insF_gt {β : Type} (f : Nat → β) {i k : Nat} (x : β) (h : i < k) : insF f i x k = f (k - 1) := by
  unfold insF
  rw [if_neg (by omega), if_neg (by omega)]
theorem getD_ins {α : Type} [Inhabited α] (xs : List α) (x : α) (i k : Nat) (hi : i ≤ xs.length) : (xs.take i ++ [x] ++ xs.drop i).getD k default = insF (fun k => xs.getD k default) i x k := by
  have hl : (xs.take i).length = i := by rw [List.length_take]; omega
  simp only [List.getD_eq_getElem?_getD]
  rw [List.append_assoc]
  rcases Nat.lt_trichotomy k i with h | h | h
  · rw [insF_lt _ _ h, List.getElem?_append_left (by omega), List.getElem?_take, if_pos h]
  · subst h
    rw [insF_at, List.getElem?_append_right (by omega), hl]
    simp
  · rw [insF_gt _ _ h, List.getElem?_append_right (by omega), hl, List.getElem?_append_right (by simp; omega), List.getElem?_drop]
    congr 2
    simp
    omega
theorem PO.ins {α : Type} {R : Rep α} {e size : Nat} {lv : Value → List Value} {W W' : World} {base : Nat} {v v' : Value} {n i : Nat} {d : Nat → α} {cs : List Value} {us : Nat → Value} {fs : Nat → Nat → Prop} {u : Value} {x : α} {Fu : Nat → Prop}
    (h : PO R e size lv W base v n n d cs us fs) (hi : i ≤ n) (hu : R.O W base Fu u x) (hl : (lv u).length = size) (hd : ∀ j, j < n → ∀ b, fs j b → ¬ Fu b) (hvu : ∀ b, Fu b → v.ownBlock ≠ some b)
    (hr : W'.ownsRow base e size v' (n + 1) (cs.take (i * size) ++ lv u ++ cs.drop (i * size))) (hm : Mod (fun b => v.ownBlock = some b) W W') (hv : ∀ b, v'.ownBlock = some b → v.ownBlock = some b ∨ W.heap.size ≤ b) :
    PO R e size lv W' base v' (n + 1) (n + 1) (insF d i x) (cs.take (i * size) ++ lv u ++ cs.drop (i * size)) (insF us i u) (insF fs i Fu) := by
  have hcl : cs.length = n * size := h.row.1
  have him : i * size ≤ n * size := Nat.mul_le_mul_right _ hi
  have hold : ∀ b, b < W.heap.size → v.ownBlock ≠ some b → v'.ownBlock ≠ some b := fun b hb hn e => by
    rcases hv b e with h1 | h1
    · exact hn h1
    · omega
  have hel : ∀ j, j < n → R.O W' base (fs j) (us j) (d j) := fun j hj => R.mod (h.el j hj) hm (fun b hb => h.out j hj b hb)
  refine ⟨hr, fun j hj => ?_, fun j hj => ?_, fun j hj o ho => ?_, fun j hj b hb => ?_, fun j k hj hk hjk b h1 h2 => ?_⟩
  · rcases Nat.lt_trichotomy j i with h1 | h1 | h1
    · rw [insF_lt _ _ h1, insF_lt _ _ h1, insF_lt _ _ h1]; exact hel j (by omega)
    · subst h1; rw [insF_at, insF_at, insF_at]; exact R.mod hu hm (fun b hb => hvu b hb)
    · rw [insF_gt _ _ h1, insF_gt _ _ h1, insF_gt _ _ h1]; exact hel (j - 1) (by omega)
  · rcases Nat.lt_trichotomy j i with h1 | h1 | h1
    · rw [insF_lt _ _ h1]; exact h.ln j (by omega)
    · subst h1; rw [insF_at]; exact hl
    · rw [insF_gt _ _ h1]; exact h.ln (j - 1) (by omega)
  · have ht : (cs.take (i * size)).length = i * size := by rw [List.length_take]; omega
    rw [List.append_assoc]
    rcases Nat.lt_trichotomy j i with h1 | h1 | h1
    · have hlt : j * size + o < i * size := by
        have : (j + 1) * size ≤ i * size := Nat.mul_le_mul_right _ h1
        rw [Nat.succ_mul] at this
        omega
      rw [insF_lt _ _ h1, List.getElem?_append_left (by omega), List.getElem?_take, if_pos hlt]
      exact h.cell j (by omega) o ho
    · subst h1
      rw [insF_at, List.getElem?_append_right (by omega), ht, show j * size + o - j * size = o by omega, List.getElem?_append_left (by omega)]
    · obtain ⟨q, rfl⟩ : ∃ q, j = q + 1 := ⟨j - 1, by omega⟩
      have hge : i * size ≤ q * size := Nat.mul_le_mul_right _ (by omega)
      have e1 : (q + 1) * size = q * size + size := Nat.succ_mul _ _
      rw [insF_gt _ _ h1, Nat.add_sub_cancel, List.getElem?_append_right (by omega), ht, List.getElem?_append_right (by omega), hl, List.getElem?_drop, e1, show i * size + (q * size + size + o - i * size - size) = q * size + o by omega]
      exact h.cell q (by omega) o ho
  · rcases Nat.lt_trichotomy j i with h1 | h1 | h1
    · rw [insF_lt _ _ h1] at hb; exact hold b (R.rng (h.el j (by omega)) b hb).2 (h.out j (by omega) b hb)
    · subst h1; rw [insF_at] at hb; exact hold b (R.rng hu b hb).2 (hvu b hb)
    · rw [insF_gt _ _ h1] at hb; exact hold b (R.rng (h.el (j - 1) (by omega)) b hb).2 (h.out (j - 1) (by omega) b hb)
  · have key : ∀ j, j < n + 1 → insF fs i Fu j b → (j = i ∧ Fu b) ∨ ∃ q, q < n ∧ fs q b ∧ ((j < i ∧ q = j) ∨ (i < j ∧ q + 1 = j)) := fun j hj hb => by
      rcases Nat.lt_trichotomy j i with h1 | h1 | h1
      · rw [insF_lt _ _ h1] at hb; exact .inr ⟨j, by omega, hb, .inl ⟨h1, rfl⟩⟩
      · subst h1; rw [insF_at] at hb; exact .inl ⟨rfl, hb⟩
      · rw [insF_gt _ _ h1] at hb; exact .inr ⟨j - 1, by omega, hb, .inr ⟨h1, by omega⟩⟩
    rcases key j hj h1 with ⟨e1, f1⟩ | ⟨q, hq, f1, g1⟩
    · rcases key k hk h2 with ⟨e2, f2⟩ | ⟨q2, hq2, f2, g2⟩
      · omega
      · exact hd q2 hq2 b f2 f1
    · rcases key k hk h2 with ⟨e2, f2⟩ | ⟨q2, hq2, f2, g2⟩
      · exact hd q hq b f1 f2
      · exact h.sep q q2 hq hq2 (by omega) b f1 f2
theorem NO.ins {α : Type} [Inhabited α] {R : Rep α} {e size : Nat} {lv : Value → List Value} {W W' : World} {base : Nat} {v v' : Value} {i : Nat} {xs : List α} {cs : List Value} {us : Nat → Value} {fs : Nat → Nat → Prop} {u : Value} {x : α} {F Fu : Nat → Prop}
    (h : PO R e size lv W base v xs.length xs.length (fun i => xs.getD i default) cs us fs) (hF : ∀ b, F b ↔ (v.ownBlock = some b ∨ ∃ i, i < xs.length ∧ fs i b)) (hi : i ≤ xs.length) (hu : R.O W base Fu u x) (hl : (lv u).length = size) (hd : ∀ b, F b → ¬ Fu b)
    (hr : W'.ownsRow base e size v' (xs.length + 1) (cs.take (i * size) ++ lv u ++ cs.drop (i * size))) (hm : Mod (fun b => v.ownBlock = some b) W W') (hv : ∀ b, v'.ownBlock = some b → v.ownBlock = some b ∨ W.heap.size ≤ b) :
    ∃ F', NO R e size lv W' base F' v' (xs.take i ++ [x] ++ xs.drop i) ∧ ∀ b, F' b → F b ∨ Fu b ∨ W.heap.size ≤ b := by
  have hp := h.ins hi hu hl (fun j hj b hb => hd b ((hF b).2 (.inr ⟨j, hj, hb⟩))) (fun b hb e => hd b ((hF b).2 (.inl e)) hb) hr hm hv
  have hlen : (xs.take i ++ [x] ++ xs.drop i).length = xs.length + 1 := by simp only [List.length_append, List.length_take, List.length_drop, List.length_cons, List.length_nil]; omega
  refine ⟨fun b => v'.ownBlock = some b ∨ ∃ k, k < xs.length + 1 ∧ insF fs i Fu k b, ⟨cs.take (i * size) ++ lv u ++ cs.drop (i * size), insF us i u, insF fs i Fu, ?_, fun b => by rw [hlen]⟩, fun b hb => ?_⟩
  · rw [hlen]
    exact hp.cast (fun k hk => getD_ins xs x i k hi)
  · rcases hb with hb | ⟨k, hk, hb⟩
    · rcases hv b hb with h1 | h1
      · exact .inl ((hF b).2 (.inl h1))
      · exact .inr (.inr h1)
    · rcases Nat.lt_trichotomy k i with h1 | h1 | h1
      · rw [insF_lt _ _ h1] at hb; exact .inl ((hF b).2 (.inr ⟨k, by omega, hb⟩))
      · subst h1; rw [insF_at] at hb; exact .inr (.inl hb)
      · rw [insF_gt _ _ h1] at hb; exact .inl ((hF b).2 (.inr ⟨k - 1, by omega, hb⟩))
theorem PO.putN {α : Type} {R : Rep α} {e size : Nat} {lv : Value → List Value} {W W' : World} {base : Nat} {v : Value} {n i : Nat} {d : Nat → α} {cs cs' : List Value} {us : Nat → Value} {fs : Nat → Nat → Prop} {u : Value} {x : α} {Fu : Nat → Prop}
    (h : PO R e size lv W base v n n d cs us fs) (hi : i < n) (hu : R.O W base Fu u x) (hl : (lv u).length = size) (hd : ∀ j, j < n → ∀ b, fs j b → ¬ Fu b) (hvu : ∀ b, Fu b → v.ownBlock ≠ some b)
    (hr : W'.ownsRow base e size v n cs') (hm : Mod (fun b => v.ownBlock = some b) W W') (hold : ∀ j, j < n → j ≠ i → ∀ o, o < size → cs'[j * size + o]? = cs[j * size + o]?) (hnew : ∀ o, o < size → cs'[i * size + o]? = (lv u)[o]?) :
    PO R e size lv W' base v n n (upd d i x) cs' (upd us i u) (upd fs i Fu) := by
  refine ⟨hr, fun j hj => ?_, fun j hj => ?_, fun j hj o ho => ?_, fun j hj b hb => ?_, fun j k hj hk hjk b h1 h2 => ?_⟩
  · by_cases e1 : j = i
    · subst e1; rw [upd_at, upd_at, upd_at]; exact R.mod hu hm (fun b hb => hvu b hb)
    · rw [upd_ne _ _ e1, upd_ne _ _ e1, upd_ne _ _ e1]; exact R.mod (h.el j hj) hm (fun b hb => h.out j hj b hb)
  · by_cases e1 : j = i
    · subst e1; rw [upd_at]; exact hl
    · rw [upd_ne _ _ e1]; exact h.ln j hj
  · by_cases e1 : j = i
    · subst e1; rw [upd_at]; exact hnew o ho
    · rw [upd_ne _ _ e1, hold j hj e1 o ho]; exact h.cell j hj o ho
  · by_cases e1 : j = i
    · subst e1; rw [upd_at] at hb; exact hvu b hb
    · rw [upd_ne _ _ e1] at hb; exact h.out j hj b hb
  · by_cases e1 : j = i
    · subst e1
      rw [upd_at] at h1
      rw [upd_ne _ _ (Ne.symm hjk)] at h2
      exact hd k hk b h2 h1
    · rw [upd_ne _ _ e1] at h1
      by_cases e2 : k = i
      · subst e2; rw [upd_at] at h2; exact hd j hj b h1 h2
      · rw [upd_ne _ _ e2] at h2; exact h.sep j k hj hk hjk b h1 h2
theorem getD_set {α : Type} [Inhabited α] (xs : List α) (x : α) (i k : Nat) (hi : i < xs.length) : (xs.set i x).getD k default = upd (fun k => xs.getD k default) i x k := by
  simp only [List.getD_eq_getElem?_getD, List.getElem?_set]
  by_cases e : i = k
  · subst e
    rw [if_pos rfl, if_pos hi, upd_at]
    rfl
  · rw [if_neg e, upd_ne _ _ (Ne.symm e)]
theorem NO.put {α : Type} [Inhabited α] {R : Rep α} {e size : Nat} {lv : Value → List Value} {W W' : World} {base : Nat} {v : Value} {i : Nat} {xs : List α} {cs cs' : List Value} {us : Nat → Value} {fs : Nat → Nat → Prop} {u : Value} {x : α} {F Fu : Nat → Prop}
    (h : PO R e size lv W base v xs.length xs.length (fun i => xs.getD i default) cs us fs) (hF : ∀ b, F b ↔ (v.ownBlock = some b ∨ ∃ i, i < xs.length ∧ fs i b)) (hi : i < xs.length) (hu : R.O W base Fu u x) (hl : (lv u).length = size) (hd : ∀ b, F b → ¬ Fu b)
    (hr : W'.ownsRow base e size v xs.length cs') (hm : Mod (fun b => v.ownBlock = some b) W W') (hold : ∀ j, j < xs.length → j ≠ i → ∀ o, o < size → cs'[j * size + o]? = cs[j * size + o]?) (hnew : ∀ o, o < size → cs'[i * size + o]? = (lv u)[o]?) :
    ∃ F', NO R e size lv W' base F' v (xs.set i x) ∧ ∀ b, F' b → F b ∨ Fu b := by
  have hp := h.putN hi hu hl (fun j hj b hb => hd b ((hF b).2 (.inr ⟨j, hj, hb⟩))) (fun b hb e => hd b ((hF b).2 (.inl e)) hb) hr hm hold hnew
  have hlen : (xs.set i x).length = xs.length := by simp
  refine ⟨fun b => v.ownBlock = some b ∨ ∃ k, k < xs.length ∧ upd fs i Fu k b, ⟨cs', upd us i u, upd fs i Fu, ?_, fun b => by rw [hlen]⟩, fun b hb => ?_⟩
  · rw [hlen]
    exact hp.cast (fun k hk => getD_set xs x i k hi)
  · rcases hb with hb | ⟨k, hk, hb⟩
    · exact .inl ((hF b).2 (.inl hb))
    · by_cases e1 : k = i
      · subst e1; rw [upd_at] at hb; exact .inr hb
      · rw [upd_ne _ _ e1] at hb; exact .inl ((hF b).2 (.inr ⟨k, hk, hb⟩))
theorem run_appN (w : World) {α : Type} [Inhabited α] {R : Rep α} {lv : Value → List Value} (t ty e : TypeId) (i : TypeInfo) (z : Value) (size bytes : Nat) (ht : Try.prog.underlying t = some (.slice e)) (hi : Try.prog.info? e = some i) (hz : i.zero = some z)
    (hsize : i.size = size) (hby : i.bytes = bytes) (hzs : z.cells.size = size) (hsz : 0 < size) (hb1 : bytes ≤ 1000)
    (base : Nat) {F Fu : Nat → Prop} (v u : Value) (xs : List α) (x : α) (hown : NO R e size lv w base F v xs) (hu : R.O w base Fu u x) (hl : (lv u).length = size) (h1 : ∀ y ∈ lv u, y.oneCell' = true) (hd : ∀ b, F b → ¬ Fu b)
    (ad : Addr) (c : Nat) (hc : ∀ j y, (lv u)[j]? = some y → w.cell? (ad.add j) = some y) (hn : xs.length ≤ 2000000) (hbase : base ≤ w.heap.size) :
    ∃ v' w' F', (Builtin.append_ #[t, t] ty #[v, .slice (some ad) 1 c]).run Try.prog w = .ok v' w' ∧ NO R e size lv w' base F' v' (xs ++ [x]) ∧ w.grownBy w' v.ownBlock ∧ (∀ b, F' b → F b ∨ Fu b ∨ w.heap.size ≤ b) := by
  obtain ⟨cs, us, fs, hp, hF⟩ := hown
  obtain ⟨v', w', hr, h2, h3, h4, h5⟩ := run_append_own_at (P := Try.prog) w base t ty e i z size bytes ht hi hz hsize hby hzs hsz v xs.length cs hp.row ad 1 c (lv u) (by omega) hc h1 (by unfold maxLen; omega) (Nat.le_trans (Nat.mul_le_mul_left _ hb1) (by omega)) hbase
  have hcl : cs.length = xs.length * size := hp.row.1
  have e1 : cs.take (xs.length * size) ++ lv u ++ cs.drop (xs.length * size) = cs ++ lv u := by
    rw [List.take_of_length_le (by omega), List.drop_of_length_le (by omega), List.append_nil]
  obtain ⟨F', h6, h7⟩ := NO.ins hp hF (Nat.le_refl _) hu hl hd (by rw [e1]; exact h2) (Mod.of_grown h3) (fun b hb => by
    rcases h5 with h5 | h5
    · exact .inl (h5 ▸ hb)
    · rw [h5] at hb
      simp only [Option.some.injEq] at hb
      exact .inr (by omega))
  rw [List.take_of_length_le (Nat.le_refl _), List.drop_of_length_le (Nat.le_refl _), List.append_nil] at h6
  exact ⟨v', w', F', hr, h6, h3, h7⟩
theorem step_appR {ops : Array Oper} {o : Oper} {a : Act} {w : World} {K : Act → World → Prop} {Q : Exit → Act → World → Prop} {E : Prop} (hgd : o.guard = none) (s x : Operand) (t t' : TypeId)
    (ho : o.op = .call { callee := .builtin .append, args := #[s, x], argTypes := #[t, t'] }) (v u : Value) (hs : a.eval s = v) (hx : a.eval x = u) {v' : Value} {w' : World}
    (hr : (Builtin.append_ #[t, t'] o.type #[v, u]).run Try.prog w = .ok v' w') (hK : K (a.put o.dst v') w') :
    if Region.wanted o (yielded ops a.tmps) = true then Oper.wp Try.prog o a w K Q else E := by
  have hw : Region.wanted o (yielded ops a.tmps) = true := by simp [Region.wanted, hgd]
  rw [if_pos hw]
  unfold Oper.wp execOp
  simp only [ho, resolve, invoke, builtin, Sem.run_bind, Sem.run_pure, Result.andThen_ok, List.map_toArray, List.map_cons, List.map_nil, hs, hx, hr]
  exact hK
theorem step_appN (w : World) {α : Type} [Inhabited α] {R : Rep α} {lv : Value → List Value} {ops : Array Oper} {o : Oper} {a : Act} {K : Act → World → Prop} {Q : Exit → Act → World → Prop} {E : Prop} (hgd : o.guard = none) (s x : Operand) (t : TypeId)
    (ho : o.op = .call { callee := .builtin .append, args := #[s, x], argTypes := #[t, t] }) (e : TypeId) (i : TypeInfo) (z : Value) (size bytes : Nat) (ht : Try.prog.underlying t = some (.slice e)) (hi : Try.prog.info? e = some i) (hz : i.zero = some z)
    (hsize : i.size = size) (hby : i.bytes = bytes) (hzs : z.cells.size = size) (hsz : 0 < size) (hb1 : bytes ≤ 1000)
    (base : Nat) (F Fu : Nat → Prop) (v u : Value) (xs : List α) (y : α) (ad : Addr) (c : Nat) (hs : a.eval s = v) (hx : a.eval x = .slice (some ad) 1 c) (hown : NO R e size lv w base F v xs) (hu : R.O w base Fu u y) (hl : (lv u).length = size) (h1 : ∀ y ∈ lv u, y.oneCell' = true) (hd : ∀ b, F b → ¬ Fu b)
    (hc : ∀ j y, (lv u)[j]? = some y → w.cell? (ad.add j) = some y) (hn : xs.length ≤ 2000000) (hbase : base ≤ w.heap.size)
    (h : ∀ v' w' F', NO R e size lv w' base F' v' (xs ++ [y]) → Below base w w' → (∀ b, F' b → F b ∨ Fu b ∨ w.heap.size ≤ b) → K (a.put o.dst v') w') :
    if Region.wanted o (yielded ops a.tmps) = true then Oper.wp Try.prog o a w K Q else E := by
  obtain ⟨v', w', F', hr, h2, h3, h4⟩ := run_appN w t o.type e i z size bytes ht hi hz hsize hby hzs hsz hb1 base v u xs y hown hu hl h1 hd ad c hc hn hbase
  obtain ⟨cs, us, fs, hp, hF⟩ := hown
  exact step_appR hgd s x t t ho v _ hs hx hr (h v' w' F' h2 ((Below.refl base w).grown h3 hbase (fun b e => (hp.row.lt b e).1)) h4)
end Go.Proofs.Ytgjpafalompecaa

/-
  Rows of bytes: copied, compared, counted, marked and read back.
-/
namespace Go.Proofs.Ytgjpafalompecaa
open Go.RowKit
attribute [local go_sem ↓] Go.wp_at_zero Go.wp_at_succ

abbrev Byte := Fin 256
def toB (n : Int) : Byte := ⟨(n % 256).toNat, by omega⟩
theorem toB_val (n : Int) : ((toB n).val : Int) = n % 256 := by simp only [toB]; omega
def bytesC (ys : List Byte) : List Value := ys.map (fun b => Value.int .u8 (b.val : Int))
theorem get_bytesC (ys : List Byte) (i : Nat) (h : i < ys.length) : (bytesC ys)[i]? = some (.int .u8 ((ys.getD i 0).val : Int)) := by
  simp [bytesC, List.getD, h]
def BytesV (w : World) (v : Value) (ys : List Byte) : Prop :=
  ∃ a cap, v = .slice a ys.length cap ∧ ys.length ≤ cap ∧ cap ≤ maxLen ∧ ∀ i, i < ys.length → ∃ b o, a = some ⟨b, o, none⟩ ∧ w.cell? ⟨b, o + i, none⟩ = some (.int .u8 ((ys.getD i 0).val : Int))
theorem BytesV_below {w w' : World} {v : Value} {ys : List Byte} (h : BytesV w v ys) (hb : Below w.heap.size w w') : BytesV w' v ys := by
  obtain ⟨a, cap, rfl, h1, h2, h3⟩ := h
  exact ⟨a, cap, rfl, h1, h2, fun i hi => by
    obtain ⟨b, o, ha, hc⟩ := h3 i hi
    exact ⟨b, o, ha, cell_keep hb hc⟩⟩
theorem BytesV_of_owns {w : World} {base e : Nat} {v : Value} {ys : List Byte} (h : w.ownsRow base e 1 v ys.length (bytesC ys)) : BytesV w v ys := by
  rcases h.2 with ⟨rfl, hn⟩ | ⟨g, cap, cur, rfl, hb, hg, hnc, hcm, hcs, htake⟩
  · exact ⟨none, 0, by rw [hn], by omega, by unfold maxLen; omega, fun i hi => by omega⟩
  · refine ⟨some ⟨g, 0, none⟩, cap, rfl, hnc, hcm, fun i hi => ⟨g, 0, rfl, ?_⟩⟩
    rw [Nat.zero_add]
    exact (h.cellAt i (by omega)).trans (get_bytesC ys i hi)
end Go.Proofs.Ytgjpafalompecaa

/-
  Rows of uint8: the uniform forms. (Written by program: nest.py.)
-/
namespace Go.Proofs.Ytgjpafalompecaa
open Go.RowKit
attribute [local go_sem ↓] Go.wp_at_zero Go.wp_at_succ

def bytesR : Rep (List Byte) := fRep 5 1 bytesC BytesV BytesV_below BytesV_of_owns
theorem bytes_form {w : World} {v : Value} {xs : List Byte} (h : bytesR.V w v xs) : ∃ a c, v = .slice a xs.length c := by
  obtain ⟨a, c, rfl, _⟩ := h
  exact ⟨_, _, rfl⟩
end Go.Proofs.Ytgjpafalompecaa

/-
  Log. (Written by program: nest.py.)
-/
namespace Go.Proofs.Ytgjpafalompecaa
open Go.RowKit
set_option linter.unusedSectionVars false
attribute [local go_sem ↓] Go.wp_at_zero Go.wp_at_succ

set_option linter.unusedSimpArgs false

structure Logg where
  synced : List Byte
  loose : List Byte
variable [DecidableEq Logg] [Inhabited Logg]

end Go.Proofs.Ytgjpafalompecaa


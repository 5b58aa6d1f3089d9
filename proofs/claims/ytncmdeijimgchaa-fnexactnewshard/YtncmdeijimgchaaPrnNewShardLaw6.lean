import Derived.Test.YtncmdeijimgchaaPrnNewShardLaw2
import Derived.Maps.AppendAt
import Derived.Deep.RegionHeld3
import Derived.Test.YtncmdeijimgchaaPrnNewShardLaw5
import Derived.Deep.DrawnRows
import Derived.Test.YtncmdeijimgchaaPrnNewShardLaw4
import Derived.Test.YtncmdeijimgchaaPrnNewShardLaw3

/-
  Rows of values that hold memory: one put in between or behind them, one put in another's place.
-/
set_option linter.unusedVariables false
namespace Go.Proofs.Ytncmdeijimgchaa
open Go.RowKit

def insF {β : Type} (f : Nat → β) (i : Nat) (x : β) : Nat → β := fun k => if k < i then f k else if k = i then x else f (k - 1)
theorem insF_lt {β : Type} (f : Nat → β) {i k : Nat} (x : β) (h : k < i) : insF f i x k = f k := by simp [insF, h]
theorem insF_at {β : Type} (f : Nat → β) (i : Nat) (x : β) : insF f i x i = x := by simp [insF]
theorem insF_gt {β : Type} (f : Nat → β) {i k : Nat} (x : β) (h : i < k) : insF f i x k = f (k - 1) := by
  unfold insF
  rw [if_neg (by omega), if_neg (by omega)]
theorem getD_ins {α : Type} [Inhabited α] (xs : List α) (x : α) (i k : Nat) (hi : i ≤ xs.length) : (xs.take i ++ [x] ++ xs.drop i).getD k default = insF (fun k => xs.getD k default) i x k := by
  have hl : (xs.take i).length = i := by rw [List.length_take]; omega
  simp only [List.getD_eq_getElem?_getD]
  rw [List.append_assoc]
  rcases Nat.lt_trichotomy k i with h | h | h
  · rw [insF_lt _ _ h, List.getElem?_append_left (by omega), List.getElem?_take, if_pos h]
  · subst h
    rw [insF_at, List.getElem?_append_right (by omega), hl]
    simp
  · rw [insF_gt _ _ h, List.getElem?_append_right (by omega), hl, List.getElem?_append_right (by simp; omega), List.getElem?_drop]
    congr 2
    simp
    omega
theorem PO.ins {α : Type} {R : Rep α} {e size : Nat} {lv : Value → List Value} {W W' : World} {base : Nat} {v v' : Value} {n i : Nat} {d : Nat → α} {cs : List Value} {us : Nat → Value} {fs : Nat → Nat → Prop} {u : Value} {x : α} {Fu : Nat → Prop}
    (h : PO R e size lv W base v n n d cs us fs) (hi : i ≤ n) (hu : R.O W base Fu u x) (hl : (lv u).length = size) (hd : ∀ j, j < n → ∀ b, fs j b → ¬ Fu b) (hvu : ∀ b, Fu b → v.ownBlock ≠ some b)
    (hr : W'.ownsRow base e size v' (n + 1) (cs.take (i * size) ++ lv u ++ cs.drop (i * size))) (hm : Mod (fun b => v.ownBlock = some b) W W') (hv : ∀ b, v'.ownBlock = some b → v.ownBlock = some b ∨ W.heap.size ≤ b) :
    PO R e size lv W' base v' (n + 1) (n + 1) (insF d i x) (cs.take (i * size) ++ lv u ++ cs.drop (i * size)) (insF us i u) (insF fs i Fu) := by
  have hcl : cs.length = n * size := h.row.1
  have him : i * size ≤ n * size := Nat.mul_le_mul_right _ hi
  have hold : ∀ b, b < W.heap.size → v.ownBlock ≠ some b → v'.ownBlock ≠ some b := fun b hb hn e => by
    rcases hv b e with h1 | h1
    · exact hn h1
    · omega
  have hel : ∀ j, j < n → R.O W' base (fs j) (us j) (d j) := fun j hj => R.mod (h.el j hj) hm (fun b hb => h.out j hj b hb)
  refine ⟨hr, fun j hj => ?_, fun j hj => ?_, fun j hj o ho => ?_, fun j hj b hb => ?_, fun j k hj hk hjk b h1 h2 => ?_⟩
  · rcases Nat.lt_trichotomy j i with h1 | h1 | h1
    · rw [insF_lt _ _ h1, insF_lt _ _ h1, insF_lt _ _ h1]; exact hel j (by omega)
    · subst h1; rw [insF_at, insF_at, insF_at]; exact R.mod hu hm (fun b hb => hvu b hb)
    · rw [insF_gt _ _ h1, insF_gt _ _ h1, insF_gt _ _ h1]; exact hel (j - 1) (by omega)
  · rcases Nat.lt_trichotomy j i with h1 | h1 | h1
    · rw [insF_lt _ _ h1]; exact h.ln j (by omega)
    · subst h1; rw [insF_at]; exact hl
    · rw [insF_gt _ _ h1]; exact h.ln (j - 1) (by omega)
  · have ht : (cs.take (i * size)).length = i * size := by rw [List.length_take]; omega
    rw [List.append_assoc]
    rcases Nat.lt_trichotomy j i with h1 | h1 | h1
    · have hlt : j * size + o < i * size := by
        have : (j + 1) * size ≤ i * size := Nat.mul_le_mul_right _ h1
        rw [Nat.succ_mul] at this
        omega
      rw [insF_lt _ _ h1, List.getElem?_append_left (by omega), List.getElem?_take, if_pos hlt]
      exact h.cell j (by omega) o ho
    · subst h1
      rw [insF_at, List.getElem?_append_right (by omega), ht, show j * size + o - j * size = o by omega, List.getElem?_append_left (by omega)]
    · obtain ⟨q, rfl⟩ : ∃ q, j = q + 1 := ⟨j - 1, by omega⟩
      have hge : i * size ≤ q * size := Nat.mul_le_mul_right _ (by omega)
      have e1 : (q + 1) * size = q * size + size := Nat.succ_mul _ _
      rw [insF_gt _ _ h1, Nat.add_sub_cancel, List.getElem?_append_right (by omega), ht, List.getElem?_append_right (by omega), hl, List.getElem?_drop, e1, show i * size + (q * size + size + o - i * size - size) = q * size + o by omega]
      exact h.cell q (by omega) o ho
  · rcases Nat.lt_trichotomy j i with h1 | h1 | h1
    · rw [insF_lt _ _ h1] at hb; exact hold b (R.rng (h.el j (by omega)) b hb).2 (h.out j (by omega) b hb)
    · subst h1; rw [insF_at] at hb; exact hold b (R.rng hu b hb).2 (hvu b hb)
    · rw [insF_gt _ _ h1] at hb; exact hold b (R.rng (h.el (j - 1) (by omega)) b hb).2 (h.out (j - 1) (by omega) b hb)
  · have key : ∀ j, j < n + 1 → insF fs i Fu j b → (j = i ∧ Fu b) ∨ ∃ q, q < n ∧ fs q b ∧ ((j < i ∧ q = j) ∨ (i < j ∧ q + 1 = j)) := fun j hj hb => by
      rcases Nat.lt_trichotomy j i with h1 | h1 | h1
      · rw [insF_lt _ _ h1] at hb; exact .inr ⟨j, by omega, hb, .inl ⟨h1, rfl⟩⟩
      · subst h1; rw [insF_at] at hb; exact .inl ⟨rfl, hb⟩
      · rw [insF_gt _ _ h1] at hb; exact .inr ⟨j - 1, by omega, hb, .inr ⟨h1, by omega⟩⟩
    rcases key j hj h1 with ⟨e1, f1⟩ | ⟨q, hq, f1, g1⟩
    · rcases key k hk h2 with ⟨e2, f2⟩ | ⟨q2, hq2, f2, g2⟩
      · omega
      · exact hd q2 hq2 b f2 f1
    · rcases key k hk h2 with ⟨e2, f2⟩ | ⟨q2, hq2, f2, g2⟩
      · exact hd q hq b f1 f2
      · exact h.sep q q2 hq hq2 (by omega) b f1 f2
theorem NO.ins {α : Type} [Inhabited α] {R : Rep α} {e size : Nat} {lv : Value → List Value} {W W' : World} {base : Nat} {v v' : Value} {i : Nat} {xs : List α} {cs : List Value} {us : Nat → Value} {fs : Nat → Nat → Prop} {u : Value} {x : α} {F Fu : Nat → Prop}
    (h : PO R e size lv W base v xs.length xs.length (fun i => xs.getD i default) cs us fs) (hF : ∀ b, F b ↔ (v.ownBlock = some b ∨ ∃ i, i < xs.length ∧ fs i b)) (hi : i ≤ xs.length) (hu : R.O W base Fu u x) (hl : (lv u).length = size) (hd : ∀ b, F b → ¬ Fu b)
    (hr : W'.ownsRow base e size v' (xs.length + 1) (cs.take (i * size) ++ lv u ++ cs.drop (i * size))) (hm : Mod (fun b => v.ownBlock = some b) W W') (hv : ∀ b, v'.ownBlock = some b → v.ownBlock = some b ∨ W.heap.size ≤ b) :
    ∃ F', NO R e size lv W' base F' v' (xs.take i ++ [x] ++ xs.drop i) ∧ ∀ b, F' b → F b ∨ Fu b ∨ W.heap.size ≤ b := by
  have hp := h.ins hi hu hl (fun j hj b hb => hd b ((hF b).2 (.inr ⟨j, hj, hb⟩))) (fun b hb e => hd b ((hF b).2 (.inl e)) hb) hr hm hv
  have hlen : (xs.take i ++ [x] ++ xs.drop i).length = xs.length + 1 := by simp only [List.length_append, List.length_take, List.length_drop, List.length_cons, List.length_nil]; omega
  refine ⟨fun b => v'.ownBlock = some b ∨ ∃ k, k < xs.length + 1 ∧ insF fs i Fu k b, ⟨cs.take (i * size) ++ lv u ++ cs.drop (i * size), insF us i u, insF fs i Fu, ?_, fun b => by rw [hlen]⟩, fun b hb => ?_⟩
  · rw [hlen]
    exact hp.cast (fun k hk => getD_ins xs x i k hi)
  · rcases hb with hb | ⟨k, hk, hb⟩
    · rcases hv b hb with h1 | h1
      · exact .inl ((hF b).2 (.inl h1))
      · exact .inr (.inr h1)
    · rcases Nat.lt_trichotomy k i with h1 | h1 | h1
      · rw [insF_lt _ _ h1] at hb; exact .inl ((hF b).2 (.inr ⟨k, by omega, hb⟩))
      · subst h1; rw [insF_at] at hb; exact .inr (.inl hb)
      · rw [insF_gt _ _ h1] at hb; exact .inl ((hF b).2 (.inr ⟨k - 1, by omega, hb⟩))
theorem PO.putN {α : Type} {R : Rep α} {e size : Nat} {lv : Value → List Value} {W W' : World} {base : Nat} {v : Value} {n i : Nat} {d : Nat → α} {cs cs' : List Value} {us : Nat → Value} {fs : Nat → Nat → Prop} {u : Value} {x : α} {Fu : Nat → Prop}
    (h : PO R e size lv W base v n n d cs us fs) (hi : i < n) (hu : R.O W base Fu u x) (hl : (lv u).length = size) (hd : ∀ j, j < n → ∀ b, fs j b → ¬ Fu b) (hvu : ∀ b, Fu b → v.ownBlock ≠ some b)
    (hr : W'.ownsRow base e size v n cs') (hm : Mod (fun b => v.ownBlock = some b) W W') (hold : ∀ j, j < n → j ≠ i → ∀ o, o < size → cs'[j * size + o]? = cs[j * size + o]?) (hnew : ∀ o, o < size → cs'[i * size + o]? = (lv u)[o]?) :
    PO R e size lv W' base v n n (upd d i x) cs' (upd us i u) (upd fs i Fu) := by
  refine ⟨hr, fun j hj => ?_, fun j hj => ?_, fun j hj o ho => ?_, fun j hj b hb => ?_, fun j k hj hk hjk b h1 h2 => ?_⟩
  · by_cases e1 : j = i
    · subst e1; rw [upd_at, upd_at, upd_at]; exact R.mod hu hm (fun b hb => hvu b hb)
    · rw [upd_ne _ _ e1, upd_ne _ _ e1, upd_ne _ _ e1]; exact R.mod (h.el j hj) hm (fun b hb => h.out j hj b hb)
  · by_cases e1 : j = i
    · subst e1; rw [upd_at]; exact hl
    · rw [upd_ne _ _ e1]; exact h.ln j hj
  · by_cases e1 : j = i
    · subst e1; rw [upd_at]; exact hnew o ho
    · rw [upd_ne _ _ e1, hold j hj e1 o ho]; exact h.cell j hj o ho
  · by_cases e1 : j = i
    · subst e1; rw [upd_at] at hb; exact hvu b hb
    · rw [upd_ne _ _ e1] at hb; exact h.out j hj b hb
  · by_cases e1 : j = i
    · subst e1
      rw [upd_at] at h1
      rw [upd_ne _ _ (Ne.symm hjk)] at h2
      exact hd k hk b h2 h1
    · rw [upd_ne _ _ e1] at h1
      by_cases e2 : k = i
      · subst e2; rw [upd_at] at h2; exact hd j hj b h1 h2
      · rw [upd_ne _ _ e2] at h2; exact h.sep j k hj hk hjk b h1 h2
theorem getD_set {α : Type} [Inhabited α] (xs : List α) (x : α) (i k : Nat) (hi : i < xs.length) : (xs.set i x).getD k default = upd (fun k => xs.getD k default) i x k := by
  simp only [List.getD_eq_getElem?_getD, List.getElem?_set]
  by_cases e : i = k
  · subst e
    rw [if_pos rfl, if_pos hi, upd_at]
    rfl
  · rw [if_neg e, upd_ne _ _ (Ne.symm e)]
theorem NO.put {α : Type} [Inhabited α] {R : Rep α} {e size : Nat} {lv : Value → List Value} {W W' : World} {base : Nat} {v : Value} {i : Nat} {xs : List α} {cs cs' : List Value} {us : Nat → Value} {fs : Nat → Nat → Prop} {u : Value} {x : α} {F Fu : Nat → Prop}
    (h : PO R e size lv W base v xs.length xs.length (fun i => xs.getD i default) cs us fs) (hF : ∀ b, F b ↔ (v.ownBlock = some b ∨ ∃ i, i < xs.length ∧ fs i b)) (hi : i < xs.length) (hu : R.O W base Fu u x) (hl : (lv u).length = size) (hd : ∀ b, F b → ¬ Fu b)
    (hr : W'.ownsRow base e size v xs.length cs') (hm : Mod (fun b => v.ownBlock = some b) W W') (hold : ∀ j, j < xs.length → j ≠ i → ∀ o, o < size → cs'[j * size + o]? = cs[j * size + o]?) (hnew : ∀ o, o < size → cs'[i * size + o]? = (lv u)[o]?) :
    ∃ F', NO R e size lv W' base F' v (xs.set i x) ∧ ∀ b, F' b → F b ∨ Fu b := by
  have hp := h.putN hi hu hl (fun j hj b hb => hd b ((hF b).2 (.inr ⟨j, hj, hb⟩))) (fun b hb e => hd b ((hF b).2 (.inl e)) hb) hr hm hold hnew
  have hlen : (xs.set i x).length = xs.length := by simp
  refine ⟨fun b => v.ownBlock = some b ∨ ∃ k, k < xs.length ∧ upd fs i Fu k b, ⟨cs', upd us i u, upd fs i Fu, ?_, fun b => by rw [hlen]⟩, fun b hb => ?_⟩
  · rw [hlen]
    exact hp.cast (fun k hk => getD_set xs x i k hi)
  · rcases hb with hb | ⟨k, hk, hb⟩
    · exact .inl ((hF b).2 (.inl hb))
    · by_cases e1 : k = i
      · subst e1; rw [upd_at] at hb; exact .inr hb
      · rw [upd_ne _ _ e1] at hb; exact .inl ((hF b).2 (.inr ⟨k, hk, hb⟩))
theorem run_appN (w : World) {α : Type} [Inhabited α] {R : Rep α} {lv : Value → List Value} (t ty e : TypeId) (i : TypeInfo) (z : Value) (size bytes : Nat) (ht : Try.prog.underlying t = some (.slice e)) (hi : Try.prog.info? e = some i) (hz : i.zero = some z)
    (hsize : i.size = size) (hby : i.bytes = bytes) (hzs : z.cells.size = size) (hsz : 0 < size) (hb1 : bytes ≤ 1000)
    (base : Nat) {F Fu : Nat → Prop} (v u : Value) (xs : List α) (x : α) (hown : NO R e size lv w base F v xs) (hu : R.O w base Fu u x) (hl : (lv u).length = size) (h1 : ∀ y ∈ lv u, y.oneCell' = true) (hd : ∀ b, F b → ¬ Fu b)
    (ad : Addr) (c : Nat) (hc : ∀ j y, (lv u)[j]? = some y → w.cell? (ad.add j) = some y) (hn : xs.length ≤ 2000000) (hbase : base ≤ w.heap.size) :
    ∃ v' w' F', (Builtin.append_ #[t, t] ty #[v, .slice (some ad) 1 c]).run Try.prog w = .ok v' w' ∧ NO R e size lv w' base F' v' (xs ++ [x]) ∧ w.grownBy w' v.ownBlock ∧ (∀ b, F' b → F b ∨ Fu b ∨ w.heap.size ≤ b) := by
  obtain ⟨cs, us, fs, hp, hF⟩ := hown
  obtain ⟨v', w', hr, h2, h3, h4, h5⟩ := run_append_own_at (P := Try.prog) w base t ty e i z size bytes ht hi hz hsize hby hzs hsz v xs.length cs hp.row ad 1 c (lv u) (by omega) hc h1 (by unfold maxLen; omega) (Nat.le_trans (Nat.mul_le_mul_left _ hb1) (by omega)) hbase
  have hcl : cs.length = xs.length * size := hp.row.1
  have e1 : cs.take (xs.length * size) ++ lv u ++ cs.drop (xs.length * size) = cs ++ lv u := by
    rw [List.take_of_length_le (by omega), List.drop_of_length_le (by omega), List.append_nil]
  obtain ⟨F', h6, h7⟩ := NO.ins hp hF (Nat.le_refl _) hu hl hd (by rw [e1]; exact h2) (Mod.of_grown h3) (fun b hb => by
    rcases h5 with h5 | h5
    · exact .inl (h5 ▸ hb)
    · rw [h5] at hb
      simp only [Option.some.injEq] at hb
      exact .inr (by omega))
  rw [List.take_of_length_le (Nat.le_refl _), List.drop_of_length_le (Nat.le_refl _), List.append_nil] at h6
  exact ⟨v', w', F', hr, h6, h3, h7⟩
theorem wpl_appR {w : World} {ops : Array Oper} {rest : List Oper} {o : Oper} {a : Act} {Q : Exit → Act → World → Prop} (hgd : o.guard = none) (s x : Operand) (t t' : TypeId)
    (ho : o.op = .call { callee := .builtin .append, args := #[s, x], argTypes := #[t, t'] }) (v u : Value) (hs : a.eval s = v) (hx : a.eval x = u) {v' : Value} {w' : World}
    (hr : (Builtin.append_ #[t, t'] o.type #[v, u]).run Try.prog w = .ok v' w') (h : wpList Try.prog ops Q rest (a.put o.dst v') w') : wpList Try.prog ops Q (o :: rest) a w := by
  refine wpList_plain hgd fun K hK => ?_
  unfold Oper.wp execOp
  simp only [ho, resolve, invoke, builtin, Sem.run_bind, Sem.run_pure, Result.andThen_ok, List.map_toArray, List.map_cons, List.map_nil, hs, hx, hr]
  exact hK _ _ h
theorem wpl_appN (w : World) {α : Type} [Inhabited α] {R : Rep α} {lv : Value → List Value} {ops : Array Oper} {rest : List Oper} {o : Oper} {a : Act} {Q : Exit → Act → World → Prop} (hgd : o.guard = none) (s x : Operand) (t : TypeId)
    (ho : o.op = .call { callee := .builtin .append, args := #[s, x], argTypes := #[t, t] }) (e : TypeId) (i : TypeInfo) (z : Value) (size bytes : Nat) (ht : Try.prog.underlying t = some (.slice e)) (hi : Try.prog.info? e = some i) (hz : i.zero = some z)
    (hsize : i.size = size) (hby : i.bytes = bytes) (hzs : z.cells.size = size) (hsz : 0 < size) (hb1 : bytes ≤ 1000)
    (base : Nat) (F Fu : Nat → Prop) (v u : Value) (xs : List α) (y : α) (ad : Addr) (c : Nat) (hs : a.eval s = v) (hx : a.eval x = .slice (some ad) 1 c) (hown : NO R e size lv w base F v xs) (hu : R.O w base Fu u y) (hl : (lv u).length = size) (h1 : ∀ y ∈ lv u, y.oneCell' = true) (hd : ∀ b, F b → ¬ Fu b)
    (hc : ∀ j y, (lv u)[j]? = some y → w.cell? (ad.add j) = some y) (hn : xs.length ≤ 2000000) (hbase : base ≤ w.heap.size)
    (h : ∀ v' w' F', NO R e size lv w' base F' v' (xs ++ [y]) → Below base w w' → (∀ b, F' b → F b ∨ Fu b ∨ w.heap.size ≤ b) → wpList Try.prog ops Q rest (a.put o.dst v') w') : wpList Try.prog ops Q (o :: rest) a w := by
  obtain ⟨v', w', F', hr, h2, h3, h4⟩ := run_appN w t o.type e i z size bytes ht hi hz hsize hby hzs hsz hb1 base v u xs y hown hu hl h1 hd ad c hc hn hbase
  obtain ⟨cs, us, fs, hp, hF⟩ := hown
  exact wpl_appR hgd s x t t ho v _ hs hx hr (h v' w' F' h2 ((Below.refl base w).grown h3 hbase (fun b e => (hp.row.lt b e).1)) h4)
end Go.Proofs.Ytncmdeijimgchaa

/-
  Rows of Contract. (Written by program: nest.py.)
-/
namespace Go.Proofs.Ytncmdeijimgchaa
open Go.RowKit
set_option linter.unusedSectionVars false
variable [DecidableEq Leg] [Inhabited Leg] [DecidableEq Cont] [Inhabited Cont]
attribute [local go_sem ↓] Go.wp_at_zero Go.wp_at_succ

def contsR : Rep (List Cont) := nRep contR 26 2 lvCont
def wtConts (xs : List Cont) : Nat := wtL wtCont xs
def cntConts (xs : List Cont) : Nat := cntL cntElCont xs
def mkConts (k : Int) (xs : List Cont) : List Cont := mkL mkElCont cntElCont k xs
theorem conts_form {w : World} {v : Value} {xs : List Cont} (h : contsR.V w v xs) : ∃ a c, v = .slice a xs.length c := by
  obtain ⟨a, c, rfl, _⟩ := h
  exact ⟨_, _, rfl⟩
theorem conts_cnt (d : List Cont) : cntConts d ≤ 5 * wtConts d := cntL_le (fun x => cont_cntEl x) d
theorem infoConts : (Try.prog.info? 26).map (fun i => (i.zero, i.size, i.bytes)) = some (some (.agg #[.int .i64 0, .slice none 0 0]), 2, 32) := by kernel_rfl
theorem keepConts {w w' : World} {a0 a1 a2 a3 : Addr} {x0 x1 x2 x3 : Value} (hb : Below w.heap.size w w') (g0 : w.cell? a0 = some x0) (g1 : w.cell? a1 = some x1) (g2 : w.cell? a2 = some x2) (g3 : w.cell? a3 = some x3) : Below w.heap.size w w' ∧ w'.cell? a0 = some x0 ∧ w'.cell? a1 = some x1 ∧ w'.cell? a2 = some x2 ∧ w'.cell? a3 = some x3 :=
  ⟨hb, cell_keep hb g0, cell_keep hb g1, cell_keep hb g2, cell_keep hb g3⟩
set_option maxHeartbeats 1000000 in
theorem eqContractS_u (x y : Value) (xs ys : List Cont) (w : World) (hx : contsR.V w x xs) (hy : contsR.V w y ys) :
    Calls Try.prog 118 #[x, y] w fun e w' => e = .returned (.bool (decide (xs = ys))) ∧ Below w.heap.size w w' := by
  obtain ⟨ax, cx, rfl, hcx, hmx, hx⟩ := hx
  obtain ⟨ay, cy, rfl, hcy, hmy, hy⟩ := hy
  unfold maxLen at hmx hmy
  by_cases hl : ys.length = xs.length
  · rw [hl] at hcy hy ⊢
    have HL : Hid (ys.length = xs.length) := hl
    clear hl
    generalize hn : xs.length = n at *
    have HN : Hid (xs.length = n) := hn
    clear hn
    go_enter Try.func118, Try.ntmps118
    go_wp2
    go_loopw [5] (fun i w' => ∃ k : Nat, k ≤ n ∧ i = .int .i64 k ∧ (∀ j, j < k → xs.getD j default = ys.getD j default) ∧ Below w.heap.size w w') (fun i _ => n - (intOf i).toNat)
    case atStart => exact ⟨0, Nat.zero_le _, rfl, fun j h => absurd h (Nat.not_lt_zero _), Below.refl _ _⟩
    case round =>
      obtain ⟨k, hk, rfl, hpre, hbl⟩ := hrel
      have HP : Hid (∀ j, j < k → xs.getD j default = ys.getD j default) := hpre
      clear hpre
      by_cases hlt : k < n
      · obtain ⟨bx, ox, ux, rfl, _, p1, hvx⟩ := hx k hlt
        obtain ⟨b2, oy, uy, rfl, _, p2, hvy⟩ := hy k hlt
        obtain ⟨l1, hl1⟩ : ∃ l, l = xs.getD k default := ⟨_, rfl⟩
        obtain ⟨l2, hl2⟩ : ∃ l, l = ys.getD k default := ⟨_, rfl⟩
        rw [← hl1] at hvx
        rw [← hl2] at hvy
        have H1 : Hid (l1 = xs.getD k default) := hl1
        have H2 : Hid (l2 = ys.getD k default) := hl2
        have hvx' := hvx
        obtain ⟨ux1, rfl, _⟩ := hvx'
        have hvy' := hvy
        obtain ⟨uy1, rfl, _⟩ := hvy'
        have g0 : w.cell? ⟨bx, ox + k * 2, none⟩ = some (.int .i64 l1.id) := p1 0 (by omega)
        have g1 : w.cell? ⟨bx, ox + k * 2 + 1, none⟩ = some (ux1) := p1 1 (by omega)
        have g2 : w.cell? ⟨b2, oy + k * 2, none⟩ = some (.int .i64 l2.id) := p2 0 (by omega)
        have g3 : w.cell? ⟨b2, oy + k * 2 + 1, none⟩ = some (uy1) := p2 1 (by omega)
        clear hl1 hl2 hx hy p1 p2
        go_wp2
        go_region_held3 (fun w' => Below w.heap.size w w' ∧ w'.cell? ⟨bx, ox + k * 2, none⟩ = some (.int .i64 l1.id) ∧ w'.cell? ⟨bx, ox + k * 2 + 1, none⟩ = some (ux1) ∧ w'.cell? ⟨b2, oy + k * 2, none⟩ = some (.int .i64 l2.id) ∧ w'.cell? ⟨b2, oy + k * 2 + 1, none⟩ = some (uy1)) ((refine keepConts ?_ g0 g1 g2 g3; (repeat (first | exact Below.refl _ _ | assumption | refine Below.drew ?_ | refine balloc ?_ _ | refine bstep ?_ (by assumption))))) (first | (go_at_call 149; refine (eqContract_u (.agg #[.int .i64 l1.id, ux1]) (.agg #[.int .i64 l2.id, uy1]) l1 l2 _ (contR.below hvx (by (repeat (first | exact Below.refl _ _ | assumption | refine Below.drew ?_ | refine balloc ?_ _ | refine bstep ?_ (by assumption))))) (contR.below hvy (by (repeat (first | exact Below.refl _ _ | assumption | refine Below.drew ?_ | refine balloc ?_ _ | refine bstep ?_ (by assumption)))))).mono ?_; rintro e w' ⟨rfl, hb1⟩))
        rename_i hH
        have hB := hH.1
        clear hH
        go_wp2
        · rename_i hle
          go_ret
          refine ⟨?_, hB⟩
          have : ¬ xs = ys := fun h => by
            have : l1 = l2 := by rw [H1.out, H2.out, h]
            simp [this] at hle
          simp [this]
        · rename_i hle
          refine ⟨⟨k + 1, by omega, by go_num, fun j hj => ?_, hB⟩, by simp [intOf]; omega⟩
          by_cases hjk : j < k
          · exact HP.out j hjk
          · have : j = k := by omega
            subst this
            rw [← H1.out, ← H2.out]
            simpa using hle
      · go_wp2
        go_ret
        have : k = n := by omega
        subst this
        refine ⟨?_, hbl⟩
        have : xs = ys := rows_eq_of (by rw [HL.out, HN.out]) (by rw [HN.out]; exact HP.out)
        simp [this]
  · go_enter Try.func118, Try.ntmps118
    have hl' : ((xs.length : Int) == (ys.length : Int)) = false := by simp; omega
    go_wp2
    go_ret
    have : ¬ xs = ys := fun h => hl (by rw [h])
    exact ⟨by simp [this], Below.refl _ _⟩
set_option maxHeartbeats 1000000 in
theorem heldContractS_u (v : Value) (xs : List Cont) (k : Int) (w : World) (hv : contsR.V w v (mkConts k xs)) (hw : wtConts xs ≤ 1048576) (hn : k + cntConts xs ≤ 1073741824) (hk0 : 0 ≤ k) :
    Calls Try.prog 125 #[v, .int .i64 k] w fun r w' => r = .returned (.int .i64 (k + cntConts xs)) ∧ Below w.heap.size w w' := by
  obtain ⟨a, cap, rfl, hnc, hcm, hc⟩ := hv
  unfold mkConts at hnc hc ⊢
  rw [length_mkL] at hnc hc ⊢
  unfold maxLen at hcm
  have hW : ∀ k, k < xs.length → wtCont (xs.getD k default) ≤ 1048576 := fun k hk => (wt_at hw hk).1
  unfold cntConts cntL at hn ⊢
  have HT : Hid (∀ j, j < xs.length → (mkL mkElCont cntElCont k xs).getD j default = mkElCont (k + cntTo cntElCont j xs) (xs.getD j default) ∧ cntTo cntElCont (j + 1) xs = cntTo cntElCont j xs + cntElCont (xs.getD j default) ∧ cntTo cntElCont (j + 1) xs ≤ cntTo cntElCont xs.length xs) :=
    fun j hj => ⟨getD_mkL _ _ _ _ _ hj, cntTo_succ _ j xs hj, cntTo_le _ _ _ _ hj⟩
  clear hw
  generalize xs.length = n at *
  go_enter Try.func125, Try.ntmps125
  go_wp2
  go_loopw [1, 5] (fun q i w' => ∃ j : Nat, j ≤ n ∧ i = .int .i64 j ∧ q = .int .i64 (k + cntTo cntElCont j xs) ∧ Below w.heap.size w w') (fun _ i _ => n - (intOf i).toNat)
  case atStart => exact ⟨0, Nat.zero_le _, rfl, by simp [cntTo], Below.refl _ _⟩
  case round =>
    obtain ⟨j, hj, rfl, rfl, hbl⟩ := hrel
    by_cases hlt : j < n
    · obtain ⟨bx, ox, ux, rfl, _, p1, hvx⟩ := hc j hlt
      obtain ⟨t1, t2, t3⟩ := HT.out j hlt
      have hw1 := hW j hlt
      rw [t1] at hvx
      generalize xs.getD j default = l at *
      have tC : cntElCont l = 1 + cntLegs l.legs := rfl
      rw [tC] at t2
      have tW : wtCont l = wtLegs l.legs := rfl
      rw [tW] at hw1
      clear tC tW
      obtain ⟨q, hq⟩ : ∃ q, q = k + cntTo cntElCont j xs := ⟨_, rfl⟩
      have hq0 : 0 ≤ q := by omega
      rw [← hq] at hvx ⊢
      have T2 : Hid (k + cntTo cntElCont (j + 1) xs = q + 1 + cntLegs l.legs) := by show _ = _; omega
      have hq1 : q + 1 + cntLegs l.legs ≤ 1073741824 := by omega
      obtain ⟨ux1, rfl, hv1⟩ := hvx
      dsimp only [mkElCont] at hv1
      have g0 : w.cell? ⟨bx, ox + j * 2, none⟩ = some (.int .i64 (q)) := p1 0 (by omega)
      replace g0 := cell_keep hbl g0
      have g1 : w.cell? ⟨bx, ox + j * 2 + 1, none⟩ = some (ux1) := p1 1 (by omega)
      replace g1 := cell_keep hbl g1
      clear hc p1 t1 t2 t3 hW hq
      go_wp2_with fail
      refine (heldLegS_u ux1 l.legs (q + 1) _ (legsR.below hv1 (by (repeat (first | exact Below.refl _ _ | assumption | refine Below.drew ?_ | refine balloc ?_ _ | refine bstep ?_ (by assumption))))) (by omega) (by omega) (by omega)).mono ?_
      rintro e wb1 ⟨rfl, b1⟩
      go_wp2
      refine ⟨⟨j + 1, by omega, by go_num, ?_, by (repeat (first | exact Below.refl _ _ | assumption | refine Below.drew ?_ | refine balloc ?_ _ | refine bstep ?_ (by assumption)))⟩, by simp [intOf]; omega⟩
      rw [T2.out]
    · go_wp2
      go_ret
      have hjn : j = n := by omega
      subst hjn
      exact ⟨rfl, hbl⟩
set_option maxHeartbeats 1000000 in
theorem markContractS_u (v : Value) (xs : List Cont) (base : Nat) (F : Nat → Prop) (k : Int) (w : World) (ho : contsR.O w base F v xs) (hw : wtConts xs ≤ 1048576) (hn : k + cntConts xs ≤ 1073741824) (hk0 : 0 ≤ k) :
    Calls Try.prog 121 #[v, .int .i64 k] w fun r w' => r = .returned (.int .i64 (k + cntConts xs)) ∧ contsR.O w' base F v (mkConts k xs) ∧ Mod F w w' := by
  obtain ⟨cs, us, fs, hp, hF⟩ := ho
  have hW : ∀ k, k < xs.length → wtCont (xs.getD k default) ≤ 1048576 := fun k hk => (wt_at hw hk).1
  unfold cntConts cntL at hn ⊢
  have HT : Hid (∀ j, j < xs.length → (mkL mkElCont cntElCont k xs).getD j default = mkElCont (k + cntTo cntElCont j xs) (xs.getD j default) ∧ cntTo cntElCont (j + 1) xs = cntTo cntElCont j xs + cntElCont (xs.getD j default) ∧ cntTo cntElCont (j + 1) xs ≤ cntTo cntElCont xs.length xs) :=
    fun j hj => ⟨getD_mkL _ _ _ _ _ hj, cntTo_succ _ j xs hj, cntTo_le _ _ _ _ hj⟩
  clear hw
  have hcap := hp.len
  obtain ⟨av, cv, hav⟩ := owns_form hp.row
  subst hav
  have HF : Hid (∀ b, F b ↔ ((Value.slice av xs.length cv).ownBlock = some b ∨ ∃ i, i < xs.length ∧ fs i b)) := hF
  have HM : Hid ((mkL mkElCont cntElCont k xs).length = xs.length) := length_mkL _ _ _ _
  clear hF
  generalize hxl : xs.length = n at *
  clear hxl
  go_enter Try.func121, Try.ntmps121
  go_wp2
  go_loopw [1, 5] (fun q i w' => ∃ (j : Nat) (cs : List Value) (us : Nat → Value), j ≤ n ∧ i = .int .i64 j ∧ q = .int .i64 (k + cntTo cntElCont j xs) ∧ PO contR 26 2 lvCont w' base (.slice av n cv) n n (fun i => if i < j then (mkL mkElCont cntElCont k xs).getD i default else xs.getD i default) cs us fs ∧ Mod F w w') (fun _ i _ => n - (intOf i).toNat)
  case atStart => exact ⟨0, cs, us, Nat.zero_le _, rfl, by simp [cntTo], hp.cast (fun i hi => by simp), Mod.refl _ _⟩
  case round =>
    clear hp
    obtain ⟨j, cs, us, hj, rfl, rfl, hp1, hm⟩ := hrel
    by_cases hlt : j < n
    · have he := hp1.el j hlt
      simp only [Nat.lt_irrefl, if_false] at he
      obtain ⟨g, rfl, hcl⟩ := hp1.at hlt hlt
      obtain ⟨t1, t2, t3⟩ := HT.out j hlt
      have hw1 := hW j hlt
      obtain ⟨l, hl⟩ : ∃ l, l = xs.getD j default := ⟨_, rfl⟩
      rw [← hl] at t1 t2 hw1 he
      have tC : cntElCont l = 1 + cntLegs l.legs := rfl
      rw [tC] at t2
      have tW : wtCont l = wtLegs l.legs := rfl
      rw [tW] at hw1
      clear tC tW
      obtain ⟨q, hq⟩ : ∃ q, q = k + cntTo cntElCont j xs := ⟨_, rfl⟩
      have hq0 : 0 ≤ q := by omega
      rw [← hq] at t1 ⊢
      have T1 : Hid ((mkL mkElCont cntElCont k xs).getD j default = mkElCont q l) := t1
      have T2 : Hid (k + cntTo cntElCont (j + 1) xs = q + 1 + cntLegs l.legs) := by show _ = _; omega
      have hq1 : q + 1 + cntLegs l.legs ≤ 1073741824 := by omega
      obtain ⟨ux1, F1, hu, h1, hF⟩ := he
      rw [hu] at hcl
      have g0 : wr.cell? ⟨g, j * 2, none⟩ = some (.int .i64 l.id) := hcl 0 (by omega)
      have g1 : wr.cell? ⟨g, j * 2 + 1, none⟩ = some (ux1) := hcl 1 (by omega)
      have hrow := hp1.row
      have hclen := hrow.1
      have hf := fun j => hrow.frozenAt j
      clear hl t1 t2 t3 hW hq hcl
      go_wp2_with fail
      have st1 := hrow.stored (j * 2) (.int .i64 (q))
      replace h1 := legsR.mod h1 (Mod.of_grown st1.2) (fun b hb he => hp1.out j hlt b ((hF b).2 hb) he)
      have M1 := (Mod.of_grown st1.2).mono (G := fun b => (Value.slice (some ⟨g, 0, none⟩) n cv).ownBlock = some b ∨ fs j b) (fun b hb => .inl hb)
      refine (markLegS_u ux1 l.legs base F1 (q + 1) _ h1 (by omega) (by omega) (by omega)).mono ?_
      rintro e wb1 ⟨rfl, r1, m1⟩
      have rw1 := m1.owns st1.1 (fun b he hb => hp1.out j hlt b ((hF b).2 hb) he)
      have M2 := m1.mono (G := fun b => (Value.slice (some ⟨g, 0, none⟩) n cv).ownBlock = some b ∨ fs j b) (fun b hb => .inr ((hF b).2 hb))
      go_wp2
      have hq := hp1.turn (u := (.agg #[.int .i64 (q), ux1])) (x := mkElCont q l) hlt (M1.trans M2) ⟨ux1, F1, rfl, r1, hF⟩ rfl rw1 ?_ ?_
      · refine ⟨⟨j + 1, _, _, by omega, by go_num, by rw [T2.out], hq.cast fun i hi => ?_, hm.trans ((M1.trans M2).mono fun b hb => (HF.out b).2 ?_)⟩, by simp [intOf]; omega⟩
        · by_cases hij : i = j
          · subst hij
            rw [upd_at, if_pos (by omega)]
            exact T1.out
          · rw [upd_ne _ _ hij]
            by_cases h : i < j
            · rw [if_pos h, if_pos (by omega)]
            · rw [if_neg h, if_neg (by omega)]
        · rcases hb with hb | hb
          · exact .inl hb
          · exact .inr ⟨j, hlt, hb⟩
      · intro i hi hij o ho
        simp only [List.getElem?_set]
        rw [if_neg (by omega)]
      · intro o ho
        have ho' : o = 0 ∨ o = 1 := by omega
        rcases ho' with rfl | rfl
        · rw [show j * 2 + 0 = j * 2 from rfl, List.getElem?_set_self (by (try simp only [List.length_set]); omega)]
          rfl
        · rw [List.getElem?_set_ne (by omega), hp1.cell j hlt 1 (by omega), hu]
          rfl
    · go_wp2
      go_ret
      have hjn : j = n := by omega
      subst hjn
      refine ⟨rfl, ⟨cs, us, fs, ?_, ?_⟩, hm⟩
      · unfold mkConts
        rw [HM.out]
        exact hp1.cast (fun i hi => by rw [if_pos hi])
      · unfold mkConts
        rw [HM.out]
        exact HF.out
end Go.Proofs.Ytncmdeijimgchaa

/-
  Shard. (Written by program: nest.py.)
-/
namespace Go.Proofs.Ytncmdeijimgchaa
open Go.RowKit
set_option linter.unusedSectionVars false
variable [DecidableEq Bal] [Inhabited Bal] [DecidableEq Mrk] [Inhabited Mrk] [DecidableEq Leg] [Inhabited Leg] [DecidableEq Cont] [Inhabited Cont]
attribute [local go_sem ↓] Go.wp_at_zero Go.wp_at_succ

set_option linter.unusedSimpArgs false

structure Shd where
  idx : Int
  bals : List Bal
  votes : List Mrk
  held : List Cont
  done : List Mrk
  appl : List Int
variable [DecidableEq Shd] [Inhabited Shd]

def shdR : Rep Shd where
  V := fun w v x => ∃ u1 u2 u3 u4 u5, v = .agg #[.int .i64 x.idx, u1, u2, u3, u4, u5] ∧ balsR.V w u1 x.bals ∧ mrksR.V w u2 x.votes ∧ contsR.V w u3 x.held ∧ mrksR.V w u4 x.done ∧ intsR.V w u5 x.appl
  O := fun w base F v x => ∃ u1 u2 u3 u4 u5 F1 F2 F3 F4 F5, v = .agg #[.int .i64 x.idx, u1, u2, u3, u4, u5] ∧ balsR.O w base F1 u1 x.bals ∧ mrksR.O w base F2 u2 x.votes ∧ contsR.O w base F3 u3 x.held ∧ mrksR.O w base F4 u4 x.done ∧ intsR.O w base F5 u5 x.appl ∧ (∀ b, F1 b → ¬ F2 b) ∧ (∀ b, F1 b → ¬ F3 b) ∧ (∀ b, F1 b → ¬ F4 b) ∧ (∀ b, F1 b → ¬ F5 b) ∧ (∀ b, F2 b → ¬ F3 b) ∧ (∀ b, F2 b → ¬ F4 b) ∧ (∀ b, F2 b → ¬ F5 b) ∧ (∀ b, F3 b → ¬ F4 b) ∧ (∀ b, F3 b → ¬ F5 b) ∧ (∀ b, F4 b → ¬ F5 b) ∧ (∀ b, F b ↔ (F1 b ∨ F2 b ∨ F3 b ∨ F4 b ∨ F5 b))
  below := fun h hb => by
    obtain ⟨u1, u2, u3, u4, u5, rfl, h1, h2, h3, h4, h5⟩ := h
    exact ⟨u1, u2, u3, u4, u5, rfl, balsR.below h1 hb, mrksR.below h2 hb, contsR.below h3 hb, mrksR.below h4 hb, intsR.below h5 hb⟩
  ofO := fun h => by
    obtain ⟨u1, u2, u3, u4, u5, F1, F2, F3, F4, F5, rfl, h1, h2, h3, h4, h5, _⟩ := h
    exact ⟨u1, u2, u3, u4, u5, rfl, balsR.ofO h1, mrksR.ofO h2, contsR.ofO h3, mrksR.ofO h4, intsR.ofO h5⟩
  mod := fun h hm hd => by
    obtain ⟨u1, u2, u3, u4, u5, F1, F2, F3, F4, F5, rfl, h1, h2, h3, h4, h5, s12, s13, s14, s15, s23, s24, s25, s34, s35, s45, hF⟩ := h
    exact ⟨u1, u2, u3, u4, u5, F1, F2, F3, F4, F5, rfl, balsR.mod h1 hm (fun b hb => hd b ((hF b).2 (.inl hb))), mrksR.mod h2 hm (fun b hb => hd b ((hF b).2 (.inr (.inl hb)))), contsR.mod h3 hm (fun b hb => hd b ((hF b).2 (.inr (.inr (.inl hb))))), mrksR.mod h4 hm (fun b hb => hd b ((hF b).2 (.inr (.inr (.inr (.inl hb)))))), intsR.mod h5 hm (fun b hb => hd b ((hF b).2 (.inr (.inr (.inr (.inr hb)))))), s12, s13, s14, s15, s23, s24, s25, s34, s35, s45, hF⟩
  rng := fun h b hb => by
    obtain ⟨u1, u2, u3, u4, u5, F1, F2, F3, F4, F5, rfl, h1, h2, h3, h4, h5, s12, s13, s14, s15, s23, s24, s25, s34, s35, s45, hF⟩ := h
    rcases (hF b).1 hb with hb | hb | hb | hb | hb
    · exact balsR.rng h1 b hb
    · exact mrksR.rng h2 b hb
    · exact contsR.rng h3 b hb
    · exact mrksR.rng h4 b hb
    · exact intsR.rng h5 b hb
  base := fun h hb => by
    obtain ⟨u1, u2, u3, u4, u5, F1, F2, F3, F4, F5, rfl, h1, h2, h3, h4, h5, s12, s13, s14, s15, s23, s24, s25, s34, s35, s45, hF⟩ := h
    exact ⟨u1, u2, u3, u4, u5, F1, F2, F3, F4, F5, rfl, balsR.base h1 hb, mrksR.base h2 hb, contsR.base h3 hb, mrksR.base h4 hb, intsR.base h5 hb, s12, s13, s14, s15, s23, s24, s25, s34, s35, s45, hF⟩
def wtShd (x : Shd) : Nat := wtBals x.bals + wtMrks x.votes + wtConts x.held + wtMrks x.done + wtInts x.appl
def cntShd (x : Shd) : Nat := cntBals x.bals + cntMrks x.votes + cntConts x.held + cntMrks x.done + cntInts x.appl
def mkShd (k : Int) (x : Shd) : Shd := { x with bals := mkBals k x.bals, votes := mkMrks (k + cntBals x.bals) x.votes, held := mkConts (k + cntBals x.bals + cntMrks x.votes) x.held, done := mkMrks (k + cntBals x.bals + cntMrks x.votes + cntConts x.held) x.done, appl := mkInts (k + cntBals x.bals + cntMrks x.votes + cntConts x.held + cntMrks x.done) x.appl }
theorem shd_form {w : World} {v : Value} {x : Shd} (h : shdR.V w v x) : ∃ a1 a2 a3 a4 a5 c1 c2 c3 c4 c5, v = .agg #[.int .i64 x.idx, .slice a1 x.bals.length c1, .slice a2 x.votes.length c2, .slice a3 x.held.length c3, .slice a4 x.done.length c4, .slice a5 x.appl.length c5] := by
  obtain ⟨u1, u2, u3, u4, u5, rfl, h1, h2, h3, h4, h5⟩ := h
  obtain ⟨a1, c1, rfl⟩ := bals_form h1
  obtain ⟨a2, c2, rfl⟩ := mrks_form h2
  obtain ⟨a3, c3, rfl⟩ := conts_form h3
  obtain ⟨a4, c4, rfl⟩ := mrks_form h4
  obtain ⟨a5, c5, rfl⟩ := ints_form h5
  exact ⟨_, _, _, _, _, _, _, _, _, _, rfl⟩
theorem shd_cnt (d : Shd) : cntShd d ≤ 5 * wtShd d := by
  unfold cntShd wtShd
  have q1 := bals_cnt d.bals
  have q2 := mrks_cnt d.votes
  have q3 := conts_cnt d.held
  have q4 := mrks_cnt d.done
  have q5 := ints_cnt d.appl
  omega
set_option maxHeartbeats 1000000 in
theorem eqShard_u (x y : Value) (d d' : Shd) (w : World) (hx : shdR.V w x d) (hy : shdR.V w y d') :
    Calls Try.prog 79 #[x, y] w fun e w' => e = .returned (.bool (decide (d = d'))) ∧ Below w.heap.size w w' := by
  obtain ⟨u1, u2, u3, u4, u5, rfl, h1, h2, h3, h4, h5⟩ := hx
  obtain ⟨v1, v2, v3, v4, v5, rfl, k1, k2, k3, k4, k5⟩ := hy
  obtain ⟨idx, bals, votes, held, done, appl⟩ := d
  obtain ⟨idx', bals', votes', held', done', appl'⟩ := d'
  dsimp only at h1 k1 h2 k2 h3 k3 h4 k4 h5 k5
  go_enter Try.func79, Try.ntmps79
  go_wp2_with fail
  all_goals try (go_ret; exact ⟨by simp_all, by (repeat (first | exact Below.refl _ _ | assumption | refine Below.drew ?_ | refine balloc ?_ _ | refine bset ?_ (by simp; omega) _ | refine bset ?_ (by simp) _ | refine bstep ?_ (by assumption)))⟩)
  refine (eqBalanceS_u _ _ bals bals' _ (balsR.below h1 (by (repeat (first | exact Below.refl _ _ | assumption | refine Below.drew ?_ | refine balloc ?_ _ | refine bset ?_ (by simp; omega) _ | refine bset ?_ (by simp) _ | refine bstep ?_ (by assumption))))) (balsR.below k1 (by (repeat (first | exact Below.refl _ _ | assumption | refine Below.drew ?_ | refine balloc ?_ _ | refine bset ?_ (by simp; omega) _ | refine bset ?_ (by simp) _ | refine bstep ?_ (by assumption)))))).mono ?_
  rintro e w1 ⟨rfl, b1⟩
  have x0 : w1.cell? ⟨w.heap.size, 0, none⟩ = some (.int .i64 idx) := cell_keep b1 (by simp [go_sem])
  have x1 : w1.cell? ⟨w.heap.size, 1, none⟩ = some (u1) := cell_keep b1 (by simp [go_sem])
  have x2 : w1.cell? ⟨w.heap.size, 2, none⟩ = some (u2) := cell_keep b1 (by simp [go_sem])
  have x3 : w1.cell? ⟨w.heap.size, 3, none⟩ = some (u3) := cell_keep b1 (by simp [go_sem])
  have x4 : w1.cell? ⟨w.heap.size, 4, none⟩ = some (u4) := cell_keep b1 (by simp [go_sem])
  have x5 : w1.cell? ⟨w.heap.size, 5, none⟩ = some (u5) := cell_keep b1 (by simp [go_sem])
  have y0 : w1.cell? ⟨w.heap.size + 1, 0, none⟩ = some (.int .i64 idx') := cell_keep b1 (by simp [go_sem])
  have y1 : w1.cell? ⟨w.heap.size + 1, 1, none⟩ = some (v1) := cell_keep b1 (by simp [go_sem])
  have y2 : w1.cell? ⟨w.heap.size + 1, 2, none⟩ = some (v2) := cell_keep b1 (by simp [go_sem])
  have y3 : w1.cell? ⟨w.heap.size + 1, 3, none⟩ = some (v3) := cell_keep b1 (by simp [go_sem])
  have y4 : w1.cell? ⟨w.heap.size + 1, 4, none⟩ = some (v4) := cell_keep b1 (by simp [go_sem])
  have y5 : w1.cell? ⟨w.heap.size + 1, 5, none⟩ = some (v5) := cell_keep b1 (by simp [go_sem])
  go_wp2_with fail
  all_goals try (go_ret; exact ⟨by simp_all, by (repeat (first | exact Below.refl _ _ | assumption | refine Below.drew ?_ | refine balloc ?_ _ | refine bset ?_ (by simp; omega) _ | refine bset ?_ (by simp) _ | refine bstep ?_ (by assumption)))⟩)
  refine (eqMarkS_u _ _ votes votes' _ (mrksR.below h2 (by (repeat (first | exact Below.refl _ _ | assumption | refine Below.drew ?_ | refine balloc ?_ _ | refine bset ?_ (by simp; omega) _ | refine bset ?_ (by simp) _ | refine bstep ?_ (by assumption))))) (mrksR.below k2 (by (repeat (first | exact Below.refl _ _ | assumption | refine Below.drew ?_ | refine balloc ?_ _ | refine bset ?_ (by simp; omega) _ | refine bset ?_ (by simp) _ | refine bstep ?_ (by assumption)))))).mono ?_
  rintro e w2 ⟨rfl, b2⟩
  replace x0 : w2.cell? ⟨w.heap.size, 0, none⟩ = some (.int .i64 idx) := cell_keep b2 x0
  replace x1 : w2.cell? ⟨w.heap.size, 1, none⟩ = some (u1) := cell_keep b2 x1
  replace x2 : w2.cell? ⟨w.heap.size, 2, none⟩ = some (u2) := cell_keep b2 x2
  replace x3 : w2.cell? ⟨w.heap.size, 3, none⟩ = some (u3) := cell_keep b2 x3
  replace x4 : w2.cell? ⟨w.heap.size, 4, none⟩ = some (u4) := cell_keep b2 x4
  replace x5 : w2.cell? ⟨w.heap.size, 5, none⟩ = some (u5) := cell_keep b2 x5
  replace y0 : w2.cell? ⟨w.heap.size + 1, 0, none⟩ = some (.int .i64 idx') := cell_keep b2 y0
  replace y1 : w2.cell? ⟨w.heap.size + 1, 1, none⟩ = some (v1) := cell_keep b2 y1
  replace y2 : w2.cell? ⟨w.heap.size + 1, 2, none⟩ = some (v2) := cell_keep b2 y2
  replace y3 : w2.cell? ⟨w.heap.size + 1, 3, none⟩ = some (v3) := cell_keep b2 y3
  replace y4 : w2.cell? ⟨w.heap.size + 1, 4, none⟩ = some (v4) := cell_keep b2 y4
  replace y5 : w2.cell? ⟨w.heap.size + 1, 5, none⟩ = some (v5) := cell_keep b2 y5
  go_wp2_with fail
  all_goals try (go_ret; exact ⟨by simp_all, by (repeat (first | exact Below.refl _ _ | assumption | refine Below.drew ?_ | refine balloc ?_ _ | refine bset ?_ (by simp; omega) _ | refine bset ?_ (by simp) _ | refine bstep ?_ (by assumption)))⟩)
  refine (eqContractS_u _ _ held held' _ (contsR.below h3 (by (repeat (first | exact Below.refl _ _ | assumption | refine Below.drew ?_ | refine balloc ?_ _ | refine bset ?_ (by simp; omega) _ | refine bset ?_ (by simp) _ | refine bstep ?_ (by assumption))))) (contsR.below k3 (by (repeat (first | exact Below.refl _ _ | assumption | refine Below.drew ?_ | refine balloc ?_ _ | refine bset ?_ (by simp; omega) _ | refine bset ?_ (by simp) _ | refine bstep ?_ (by assumption)))))).mono ?_
  rintro e w3 ⟨rfl, b3⟩
  replace x0 : w3.cell? ⟨w.heap.size, 0, none⟩ = some (.int .i64 idx) := cell_keep b3 x0
  replace x1 : w3.cell? ⟨w.heap.size, 1, none⟩ = some (u1) := cell_keep b3 x1
  replace x2 : w3.cell? ⟨w.heap.size, 2, none⟩ = some (u2) := cell_keep b3 x2
  replace x3 : w3.cell? ⟨w.heap.size, 3, none⟩ = some (u3) := cell_keep b3 x3
  replace x4 : w3.cell? ⟨w.heap.size, 4, none⟩ = some (u4) := cell_keep b3 x4
  replace x5 : w3.cell? ⟨w.heap.size, 5, none⟩ = some (u5) := cell_keep b3 x5
  replace y0 : w3.cell? ⟨w.heap.size + 1, 0, none⟩ = some (.int .i64 idx') := cell_keep b3 y0
  replace y1 : w3.cell? ⟨w.heap.size + 1, 1, none⟩ = some (v1) := cell_keep b3 y1
  replace y2 : w3.cell? ⟨w.heap.size + 1, 2, none⟩ = some (v2) := cell_keep b3 y2
  replace y3 : w3.cell? ⟨w.heap.size + 1, 3, none⟩ = some (v3) := cell_keep b3 y3
  replace y4 : w3.cell? ⟨w.heap.size + 1, 4, none⟩ = some (v4) := cell_keep b3 y4
  replace y5 : w3.cell? ⟨w.heap.size + 1, 5, none⟩ = some (v5) := cell_keep b3 y5
  go_wp2_with fail
  all_goals try (go_ret; exact ⟨by simp_all, by (repeat (first | exact Below.refl _ _ | assumption | refine Below.drew ?_ | refine balloc ?_ _ | refine bset ?_ (by simp; omega) _ | refine bset ?_ (by simp) _ | refine bstep ?_ (by assumption)))⟩)
  refine (eqMarkS_u _ _ done done' _ (mrksR.below h4 (by (repeat (first | exact Below.refl _ _ | assumption | refine Below.drew ?_ | refine balloc ?_ _ | refine bset ?_ (by simp; omega) _ | refine bset ?_ (by simp) _ | refine bstep ?_ (by assumption))))) (mrksR.below k4 (by (repeat (first | exact Below.refl _ _ | assumption | refine Below.drew ?_ | refine balloc ?_ _ | refine bset ?_ (by simp; omega) _ | refine bset ?_ (by simp) _ | refine bstep ?_ (by assumption)))))).mono ?_
  rintro e w4 ⟨rfl, b4⟩
  replace x0 : w4.cell? ⟨w.heap.size, 0, none⟩ = some (.int .i64 idx) := cell_keep b4 x0
  replace x1 : w4.cell? ⟨w.heap.size, 1, none⟩ = some (u1) := cell_keep b4 x1
  replace x2 : w4.cell? ⟨w.heap.size, 2, none⟩ = some (u2) := cell_keep b4 x2
  replace x3 : w4.cell? ⟨w.heap.size, 3, none⟩ = some (u3) := cell_keep b4 x3
  replace x4 : w4.cell? ⟨w.heap.size, 4, none⟩ = some (u4) := cell_keep b4 x4
  replace x5 : w4.cell? ⟨w.heap.size, 5, none⟩ = some (u5) := cell_keep b4 x5
  replace y0 : w4.cell? ⟨w.heap.size + 1, 0, none⟩ = some (.int .i64 idx') := cell_keep b4 y0
  replace y1 : w4.cell? ⟨w.heap.size + 1, 1, none⟩ = some (v1) := cell_keep b4 y1
  replace y2 : w4.cell? ⟨w.heap.size + 1, 2, none⟩ = some (v2) := cell_keep b4 y2
  replace y3 : w4.cell? ⟨w.heap.size + 1, 3, none⟩ = some (v3) := cell_keep b4 y3
  replace y4 : w4.cell? ⟨w.heap.size + 1, 4, none⟩ = some (v4) := cell_keep b4 y4
  replace y5 : w4.cell? ⟨w.heap.size + 1, 5, none⟩ = some (v5) := cell_keep b4 y5
  go_wp2_with fail
  all_goals try (go_ret; exact ⟨by simp_all, by (repeat (first | exact Below.refl _ _ | assumption | refine Below.drew ?_ | refine balloc ?_ _ | refine bset ?_ (by simp; omega) _ | refine bset ?_ (by simp) _ | refine bstep ?_ (by assumption)))⟩)
  refine (eqInt64S_u _ _ appl appl' _ (intsR.below h5 (by (repeat (first | exact Below.refl _ _ | assumption | refine Below.drew ?_ | refine balloc ?_ _ | refine bset ?_ (by simp; omega) _ | refine bset ?_ (by simp) _ | refine bstep ?_ (by assumption))))) (intsR.below k5 (by (repeat (first | exact Below.refl _ _ | assumption | refine Below.drew ?_ | refine balloc ?_ _ | refine bset ?_ (by simp; omega) _ | refine bset ?_ (by simp) _ | refine bstep ?_ (by assumption)))))).mono ?_
  rintro e w5 ⟨rfl, b5⟩
  go_wp2
  all_goals
    go_ret
    exact ⟨by simp_all, by (repeat (first | exact Below.refl _ _ | assumption | refine Below.drew ?_ | refine balloc ?_ _ | refine bset ?_ (by simp; omega) _ | refine bset ?_ (by simp) _ | refine bstep ?_ (by assumption)))⟩
set_option maxHeartbeats 1000000 in
theorem markShard_u (v : Value) (d : Shd) (base : Nat) (F : Nat → Prop) (k : Int) (w : World) (ho : shdR.O w base F v d) (hw : wtShd d ≤ 1048576) (hn : k + cntShd d ≤ 1073741824) (hk0 : 0 ≤ k) :
    Calls Try.prog 81 #[v, .int .i64 k] w fun r w' => r = .returned (.int .i64 (k + cntShd d)) ∧ shdR.O w' base F v (mkShd k d) ∧ Mod F w w' := by
  obtain ⟨u1, u2, u3, u4, u5, F1, F2, F3, F4, F5, rfl, h1, h2, h3, h4, h5, s12, s13, s14, s15, s23, s24, s25, s34, s35, s45, hF⟩ := ho
  unfold wtShd at hw
  unfold cntShd at hn ⊢
  have HF : Hid (∀ b, F b ↔ (F1 b ∨ F2 b ∨ F3 b ∨ F4 b ∨ F5 b)) := hF
  clear hF
  go_enter Try.func81, Try.ntmps81
  go_wp2_with fail
  refine (markBalanceS_u _ d.bals base F1 k _ (balsR.alloc h1 _) (by omega) (by omega) (by omega)).mono ?_
  rintro e w1 ⟨rfl, r1, m1⟩
  have h2' := mrksR.mod (mrksR.alloc h2 _) m1 (fun b p q => s12 b q p)
  have h3' := contsR.mod (contsR.alloc h3 _) m1 (fun b p q => s13 b q p)
  have h4' := mrksR.mod (mrksR.alloc h4 _) m1 (fun b p q => s14 b q p)
  have h5' := intsR.mod (intsR.alloc h5 _) m1 (fun b p q => s15 b q p)
  have x0 : w1.cell? ⟨w.heap.size, 0, none⟩ = some (.int .i64 d.idx) := m1.cell (by simp [go_sem]) (fun hf => by have := balsR.rng h1 _ hf; dsimp only at this; omega)
  have x1 : w1.cell? ⟨w.heap.size, 1, none⟩ = some (u1) := m1.cell (by simp [go_sem]) (fun hf => by have := balsR.rng h1 _ hf; dsimp only at this; omega)
  have x2 : w1.cell? ⟨w.heap.size, 2, none⟩ = some (u2) := m1.cell (by simp [go_sem]) (fun hf => by have := balsR.rng h1 _ hf; dsimp only at this; omega)
  have x3 : w1.cell? ⟨w.heap.size, 3, none⟩ = some (u3) := m1.cell (by simp [go_sem]) (fun hf => by have := balsR.rng h1 _ hf; dsimp only at this; omega)
  have x4 : w1.cell? ⟨w.heap.size, 4, none⟩ = some (u4) := m1.cell (by simp [go_sem]) (fun hf => by have := balsR.rng h1 _ hf; dsimp only at this; omega)
  have x5 : w1.cell? ⟨w.heap.size, 5, none⟩ = some (u5) := m1.cell (by simp [go_sem]) (fun hf => by have := balsR.rng h1 _ hf; dsimp only at this; omega)
  go_wp2_with fail
  refine (markMarkS_u _ d.votes base F2 (k + cntBals d.bals) _ h2' (by omega) (by omega) (by omega)).mono ?_
  rintro e w2 ⟨rfl, r2, m2⟩
  have h3'' := contsR.mod h3' m2 (fun b p q => s23 b q p)
  have h4'' := mrksR.mod h4' m2 (fun b p q => s24 b q p)
  have h5'' := intsR.mod h5' m2 (fun b p q => s25 b q p)
  replace x0 : w2.cell? ⟨w.heap.size, 0, none⟩ = some (.int .i64 d.idx) := m2.cell x0 (fun hf => by have := mrksR.rng h2 _ hf; dsimp only at this; omega)
  replace x1 : w2.cell? ⟨w.heap.size, 1, none⟩ = some (u1) := m2.cell x1 (fun hf => by have := mrksR.rng h2 _ hf; dsimp only at this; omega)
  replace x2 : w2.cell? ⟨w.heap.size, 2, none⟩ = some (u2) := m2.cell x2 (fun hf => by have := mrksR.rng h2 _ hf; dsimp only at this; omega)
  replace x3 : w2.cell? ⟨w.heap.size, 3, none⟩ = some (u3) := m2.cell x3 (fun hf => by have := mrksR.rng h2 _ hf; dsimp only at this; omega)
  replace x4 : w2.cell? ⟨w.heap.size, 4, none⟩ = some (u4) := m2.cell x4 (fun hf => by have := mrksR.rng h2 _ hf; dsimp only at this; omega)
  replace x5 : w2.cell? ⟨w.heap.size, 5, none⟩ = some (u5) := m2.cell x5 (fun hf => by have := mrksR.rng h2 _ hf; dsimp only at this; omega)
  replace r1 := balsR.mod r1 m2 (fun b p q => s12 b p q)
  go_wp2_with fail
  refine (markContractS_u _ d.held base F3 (k + cntBals d.bals + cntMrks d.votes) _ h3'' (by omega) (by omega) (by omega)).mono ?_
  rintro e w3 ⟨rfl, r3, m3⟩
  have h4''' := mrksR.mod h4'' m3 (fun b p q => s34 b q p)
  have h5''' := intsR.mod h5'' m3 (fun b p q => s35 b q p)
  replace x0 : w3.cell? ⟨w.heap.size, 0, none⟩ = some (.int .i64 d.idx) := m3.cell x0 (fun hf => by have := contsR.rng h3 _ hf; dsimp only at this; omega)
  replace x1 : w3.cell? ⟨w.heap.size, 1, none⟩ = some (u1) := m3.cell x1 (fun hf => by have := contsR.rng h3 _ hf; dsimp only at this; omega)
  replace x2 : w3.cell? ⟨w.heap.size, 2, none⟩ = some (u2) := m3.cell x2 (fun hf => by have := contsR.rng h3 _ hf; dsimp only at this; omega)
  replace x3 : w3.cell? ⟨w.heap.size, 3, none⟩ = some (u3) := m3.cell x3 (fun hf => by have := contsR.rng h3 _ hf; dsimp only at this; omega)
  replace x4 : w3.cell? ⟨w.heap.size, 4, none⟩ = some (u4) := m3.cell x4 (fun hf => by have := contsR.rng h3 _ hf; dsimp only at this; omega)
  replace x5 : w3.cell? ⟨w.heap.size, 5, none⟩ = some (u5) := m3.cell x5 (fun hf => by have := contsR.rng h3 _ hf; dsimp only at this; omega)
  replace r1 := balsR.mod r1 m3 (fun b p q => s13 b p q)
  replace r2 := mrksR.mod r2 m3 (fun b p q => s23 b p q)
  go_wp2_with fail
  refine (markMarkS_u _ d.done base F4 (k + cntBals d.bals + cntMrks d.votes + cntConts d.held) _ h4''' (by omega) (by omega) (by omega)).mono ?_
  rintro e w4 ⟨rfl, r4, m4⟩
  have h5'''' := intsR.mod h5''' m4 (fun b p q => s45 b q p)
  replace x0 : w4.cell? ⟨w.heap.size, 0, none⟩ = some (.int .i64 d.idx) := m4.cell x0 (fun hf => by have := mrksR.rng h4 _ hf; dsimp only at this; omega)
  replace x1 : w4.cell? ⟨w.heap.size, 1, none⟩ = some (u1) := m4.cell x1 (fun hf => by have := mrksR.rng h4 _ hf; dsimp only at this; omega)
  replace x2 : w4.cell? ⟨w.heap.size, 2, none⟩ = some (u2) := m4.cell x2 (fun hf => by have := mrksR.rng h4 _ hf; dsimp only at this; omega)
  replace x3 : w4.cell? ⟨w.heap.size, 3, none⟩ = some (u3) := m4.cell x3 (fun hf => by have := mrksR.rng h4 _ hf; dsimp only at this; omega)
  replace x4 : w4.cell? ⟨w.heap.size, 4, none⟩ = some (u4) := m4.cell x4 (fun hf => by have := mrksR.rng h4 _ hf; dsimp only at this; omega)
  replace x5 : w4.cell? ⟨w.heap.size, 5, none⟩ = some (u5) := m4.cell x5 (fun hf => by have := mrksR.rng h4 _ hf; dsimp only at this; omega)
  replace r1 := balsR.mod r1 m4 (fun b p q => s14 b p q)
  replace r2 := mrksR.mod r2 m4 (fun b p q => s24 b p q)
  replace r3 := contsR.mod r3 m4 (fun b p q => s34 b p q)
  go_wp2_with fail
  refine (markInt64S_u _ d.appl base F5 (k + cntBals d.bals + cntMrks d.votes + cntConts d.held + cntMrks d.done) _ h5'''' (by omega) (by omega) (by omega)).mono ?_
  rintro e w5 ⟨rfl, r5, m5⟩
  replace r1 := balsR.mod r1 m5 (fun b p q => s15 b p q)
  replace r2 := mrksR.mod r2 m5 (fun b p q => s25 b p q)
  replace r3 := contsR.mod r3 m5 (fun b p q => s35 b p q)
  replace r4 := mrksR.mod r4 m5 (fun b p q => s45 b p q)
  go_wp2
  go_ret
  refine ⟨?_, ⟨_, _, _, _, _, F1, F2, F3, F4, F5, rfl, r1, r2, r3, r4, r5, s12, s13, s14, s15, s23, s24, s25, s34, s35, s45, HF.out⟩, ((((((Mod.refl F w).alloc _).trans (m1.mono (fun b hb => (HF.out b).2 (.inl hb)))).trans (m2.mono (fun b hb => (HF.out b).2 (.inr (.inl hb))))).trans (m3.mono (fun b hb => (HF.out b).2 (.inr (.inr (.inl hb)))))).trans (m4.mono (fun b hb => (HF.out b).2 (.inr (.inr (.inr (.inl hb))))))).trans (m5.mono (fun b hb => (HF.out b).2 (.inr (.inr (.inr (.inr hb))))))⟩
  simp
  try omega
set_option maxHeartbeats 1000000 in
theorem heldShard_u (v : Value) (d : Shd) (k : Int) (w : World) (hv : shdR.V w v (mkShd k d)) (hw : wtShd d ≤ 1048576) (hn : k + cntShd d ≤ 1073741824) (hk0 : 0 ≤ k) :
    Calls Try.prog 82 #[v, .int .i64 k] w fun r w' => r = .returned (.int .i64 (k + cntShd d)) ∧ Below w.heap.size w w' := by
  obtain ⟨u1, u2, u3, u4, u5, rfl, h1, h2, h3, h4, h5⟩ := hv
  unfold wtShd at hw
  unfold cntShd at hn ⊢
  go_enter Try.func82, Try.ntmps82
  go_wp2_with fail
  refine (heldBalanceS_u _ d.bals k _ (balsR.below h1 (by (repeat (first | exact Below.refl _ _ | assumption | refine Below.drew ?_ | refine balloc ?_ _ | refine bset ?_ (by simp; omega) _ | refine bset ?_ (by simp) _ | refine bstep ?_ (by assumption))))) (by omega) (by omega) (by omega)).mono ?_
  rintro e w1 ⟨rfl, b1⟩
  have x0 : w1.cell? ⟨w.heap.size, 0, none⟩ = some (.int .i64 d.idx) := cell_keep b1 (by simp [go_sem, mkShd])
  have x1 : w1.cell? ⟨w.heap.size, 1, none⟩ = some (u1) := cell_keep b1 (by simp [go_sem, mkShd])
  have x2 : w1.cell? ⟨w.heap.size, 2, none⟩ = some (u2) := cell_keep b1 (by simp [go_sem, mkShd])
  have x3 : w1.cell? ⟨w.heap.size, 3, none⟩ = some (u3) := cell_keep b1 (by simp [go_sem, mkShd])
  have x4 : w1.cell? ⟨w.heap.size, 4, none⟩ = some (u4) := cell_keep b1 (by simp [go_sem, mkShd])
  have x5 : w1.cell? ⟨w.heap.size, 5, none⟩ = some (u5) := cell_keep b1 (by simp [go_sem, mkShd])
  go_wp2_with fail
  refine (heldMarkS_u _ d.votes (k + cntBals d.bals) _ (mrksR.below h2 (by (repeat (first | exact Below.refl _ _ | assumption | refine Below.drew ?_ | refine balloc ?_ _ | refine bset ?_ (by simp; omega) _ | refine bset ?_ (by simp) _ | refine bstep ?_ (by assumption))))) (by omega) (by omega) (by omega)).mono ?_
  rintro e w2 ⟨rfl, b2⟩
  replace x0 : w2.cell? ⟨w.heap.size, 0, none⟩ = some (.int .i64 d.idx) := cell_keep b2 x0
  replace x1 : w2.cell? ⟨w.heap.size, 1, none⟩ = some (u1) := cell_keep b2 x1
  replace x2 : w2.cell? ⟨w.heap.size, 2, none⟩ = some (u2) := cell_keep b2 x2
  replace x3 : w2.cell? ⟨w.heap.size, 3, none⟩ = some (u3) := cell_keep b2 x3
  replace x4 : w2.cell? ⟨w.heap.size, 4, none⟩ = some (u4) := cell_keep b2 x4
  replace x5 : w2.cell? ⟨w.heap.size, 5, none⟩ = some (u5) := cell_keep b2 x5
  go_wp2_with fail
  refine (heldContractS_u _ d.held (k + cntBals d.bals + cntMrks d.votes) _ (contsR.below h3 (by (repeat (first | exact Below.refl _ _ | assumption | refine Below.drew ?_ | refine balloc ?_ _ | refine bset ?_ (by simp; omega) _ | refine bset ?_ (by simp) _ | refine bstep ?_ (by assumption))))) (by omega) (by omega) (by omega)).mono ?_
  rintro e w3 ⟨rfl, b3⟩
  replace x0 : w3.cell? ⟨w.heap.size, 0, none⟩ = some (.int .i64 d.idx) := cell_keep b3 x0
  replace x1 : w3.cell? ⟨w.heap.size, 1, none⟩ = some (u1) := cell_keep b3 x1
  replace x2 : w3.cell? ⟨w.heap.size, 2, none⟩ = some (u2) := cell_keep b3 x2
  replace x3 : w3.cell? ⟨w.heap.size, 3, none⟩ = some (u3) := cell_keep b3 x3
  replace x4 : w3.cell? ⟨w.heap.size, 4, none⟩ = some (u4) := cell_keep b3 x4
  replace x5 : w3.cell? ⟨w.heap.size, 5, none⟩ = some (u5) := cell_keep b3 x5
  go_wp2_with fail
  refine (heldMarkS_u _ d.done (k + cntBals d.bals + cntMrks d.votes + cntConts d.held) _ (mrksR.below h4 (by (repeat (first | exact Below.refl _ _ | assumption | refine Below.drew ?_ | refine balloc ?_ _ | refine bset ?_ (by simp; omega) _ | refine bset ?_ (by simp) _ | refine bstep ?_ (by assumption))))) (by omega) (by omega) (by omega)).mono ?_
  rintro e w4 ⟨rfl, b4⟩
  replace x0 : w4.cell? ⟨w.heap.size, 0, none⟩ = some (.int .i64 d.idx) := cell_keep b4 x0
  replace x1 : w4.cell? ⟨w.heap.size, 1, none⟩ = some (u1) := cell_keep b4 x1
  replace x2 : w4.cell? ⟨w.heap.size, 2, none⟩ = some (u2) := cell_keep b4 x2
  replace x3 : w4.cell? ⟨w.heap.size, 3, none⟩ = some (u3) := cell_keep b4 x3
  replace x4 : w4.cell? ⟨w.heap.size, 4, none⟩ = some (u4) := cell_keep b4 x4
  replace x5 : w4.cell? ⟨w.heap.size, 5, none⟩ = some (u5) := cell_keep b4 x5
  go_wp2_with fail
  refine (heldInt64S_u _ d.appl (k + cntBals d.bals + cntMrks d.votes + cntConts d.held + cntMrks d.done) _ (intsR.below h5 (by (repeat (first | exact Below.refl _ _ | assumption | refine Below.drew ?_ | refine balloc ?_ _ | refine bset ?_ (by simp; omega) _ | refine bset ?_ (by simp) _ | refine bstep ?_ (by assumption))))) (by omega) (by omega) (by omega)).mono ?_
  rintro e w5 ⟨rfl, b5⟩
  go_wp2
  go_ret
  refine ⟨?_, by (repeat (first | exact Below.refl _ _ | assumption | refine Below.drew ?_ | refine balloc ?_ _ | refine bset ?_ (by simp; omega) _ | refine bset ?_ (by simp) _ | refine bstep ?_ (by assumption)))⟩
  simp
  try omega
end Go.Proofs.Ytncmdeijimgchaa

/-
  A region that draws its order, whose operations only make memory (and one last, number t, that may write): whatever the order, what each of them yields stays as it is, and lies in blocks of its own.
-/
namespace Go.Proofs.Ytncmdeijimgchaa
open Go.RowKit

def over (a : Act) (ds : List Nat) (y : Nat → Value) : Act := { a with tmps := ds.foldl (fun t s => t.setIfInBounds s (y s)) a.tmps }
theorem fold_put : ∀ (ds : List Nat) (T : Array Value) (y : Nat → Value) (d : Nat) (v : Value), d ∉ ds →
    (ds.foldl (fun t s => t.setIfInBounds s (y s)) T).setIfInBounds d v = ds.foldl (fun t s => t.setIfInBounds s (y s)) (T.setIfInBounds d v)
  | [], _, _, _, _, _ => rfl
  | e :: ds, T, y, d, v, h => by
    have h1 : d ≠ e := fun c => h (by rw [c]; exact List.mem_cons_self)
    have h2 : d ∉ ds := fun c => h (List.mem_cons_of_mem _ c)
    simp only [List.foldl_cons]
    rw [fold_put ds _ y d v h2, Array.setIfInBounds_comm _ _ (Ne.symm h1)]
theorem fold_congr : ∀ (ds : List Nat) (T : Array Value) (y y' : Nat → Value), (∀ s ∈ ds, y s = y' s) →
    ds.foldl (fun t s => t.setIfInBounds s (y s)) T = ds.foldl (fun t s => t.setIfInBounds s (y' s)) T
  | [], _, _, _, _ => rfl
  | e :: ds, T, y, y', h => by
    simp only [List.foldl_cons]
    rw [h e List.mem_cons_self]
    exact fold_congr ds _ y y' (fun s hs => h s (List.mem_cons_of_mem _ hs))
def updV (y : Nat → Value) (d : Nat) (v : Value) : Nat → Value := fun s => if s = d then v else y s
theorem fold_upd : ∀ (ds : List Nat) (T : Array Value) (y : Nat → Value) (d : Nat) (v : Value), d ∈ ds → ds.Nodup →
    (ds.foldl (fun t s => t.setIfInBounds s (y s)) T).setIfInBounds d v = ds.foldl (fun t s => t.setIfInBounds s (updV y d v s)) T
  | [], _, _, _, _, h, _ => absurd h List.not_mem_nil
  | e :: ds, T, y, d, v, h, hn => by
    obtain ⟨h1, h2⟩ := List.nodup_cons.1 hn
    simp only [List.foldl_cons]
    by_cases hd : d = e
    · subst hd
      rw [fold_put ds _ y d v h1, Array.setIfInBounds_setIfInBounds]
      have e1 : updV y d v d = v := if_pos rfl
      rw [e1]
      exact fold_congr ds _ _ _ (fun s hs => (if_neg (fun c : s = d => h1 (c ▸ hs))).symm)
    · have hm : d ∈ ds := (List.mem_cons.1 h).resolve_left hd
      have e1 : updV y d v e = y e := if_neg (fun c => hd c.symm)
      rw [e1]
      exact fold_upd ds _ y d v hm h2
theorem over_put {a : Act} {ds : List Nat} {y : Nat → Value} {d : Nat} {v : Value} (h : d ∈ ds) (hn : ds.Nodup) : (over a ds y).put (some d) v = over a ds (updV y d v) := by
  simp only [over, Act.put]
  rw [fold_upd ds _ y d v h hn]
theorem over_self (a : Act) : ∀ ds : List Nat, over a ds (fun s => a.tmps.getD s undef) = a := by
  intro ds
  have H : ∀ ds : List Nat, ds.foldl (fun t s => t.setIfInBounds s (a.tmps.getD s undef)) a.tmps = a.tmps := by
    intro ds
    induction ds with
    | nil => rfl
    | cons d ds ih =>
      simp only [List.foldl_cons]
      have e : a.tmps.setIfInBounds d (a.tmps.getD d undef) = a.tmps := by
        apply Array.ext_getElem?
        intro i
        rw [Array.getElem?_setIfInBounds]
        split
        · rename_i h
          subst h
          split
          · rename_i h; simp [h]
          · rename_i h; simp [Array.getElem?_eq_none (Nat.le_of_not_lt h)]
        · rfl
      rw [e]
      exact ih
  simp only [over]
  rw [H ds]
theorem inj_fst : ∀ (L : List (Nat × Nat)), (L.map Prod.fst).Nodup → ∀ p ∈ L, ∀ q ∈ L, p.1 = q.1 → p = q
  | [], _, p, hp, _, _, _ => absurd hp List.not_mem_nil
  | a :: L, hn, p, hp, q, hq, h => by
    obtain ⟨h1, h2⟩ := List.nodup_cons.1 hn
    rcases List.mem_cons.1 hp with hp1 | hp1
    · rcases List.mem_cons.1 hq with hq1 | hq1
      · rw [hp1, hq1]
      · exact absurd (by rw [← hp1, h]; exact List.mem_map_of_mem hq1) h1
    · rcases List.mem_cons.1 hq with hq1 | hq1
      · exact absurd (by rw [← hq1, ← h]; exact List.mem_map_of_mem hp1) h1
      · exact inj_fst L h2 p hp1 q hq1 h
theorem inj_snd : ∀ (L : List (Nat × Nat)), (L.map Prod.snd).Nodup → ∀ p ∈ L, ∀ q ∈ L, p.2 = q.2 → p = q
  | [], _, p, hp, _, _, _ => absurd hp List.not_mem_nil
  | a :: L, hn, p, hp, q, hq, h => by
    obtain ⟨h1, h2⟩ := List.nodup_cons.1 hn
    rcases List.mem_cons.1 hp with hp1 | hp1
    · rcases List.mem_cons.1 hq with hq1 | hq1
      · rw [hp1, hq1]
      · exact absurd (by rw [← hp1, h]; exact List.mem_map_of_mem hq1) h1
    · rcases List.mem_cons.1 hq with hq1 | hq1
      · exact absurd (by rw [← hq1, ← h]; exact List.mem_map_of_mem hp1) h1
      · exact inj_snd L h2 p hp1 q hq1 h
theorem filter_less {F F' : Nat × Nat → Bool} : ∀ {L : List (Nat × Nat)}, (L.map Prod.fst).Nodup → ∀ {p : Nat × Nat}, p ∈ L → F p = true → F' p = false → (∀ q ∈ L, q ≠ p → F' q = F q) → (L.filter F).length = (L.filter F').length + 1
  | [], _, _, hp, _, _, _ => absurd hp List.not_mem_nil
  | a :: L, hn, p, hp, h1, h2, h3 => by
    obtain ⟨g1, g2⟩ := List.nodup_cons.1 hn
    by_cases e : a = p
    · subst e
      rw [List.filter_cons_of_pos h1, List.filter_cons_of_neg (by rw [h2]; exact Bool.false_ne_true)]
      have h4 : L.filter F = L.filter F' := List.filter_congr (fun q hq => (h3 q (List.mem_cons_of_mem _ hq) (fun c => g1 (c ▸ List.mem_map_of_mem hq))).symm)
      rw [h4, List.length_cons]
    · have hm : p ∈ L := (List.mem_cons.1 hp).resolve_left (fun c => e c.symm)
      have ih := filter_less g2 hm h1 h2 (fun q hq hne => h3 q (List.mem_cons_of_mem _ hq) hne)
      have ha := h3 a List.mem_cons_self e
      cases hF : F a with
      | true => rw [List.filter_cons_of_pos hF, List.filter_cons_of_pos (by rw [ha, hF]), List.length_cons, List.length_cons, ih]
      | false => rw [List.filter_cons_of_neg (by rw [hF]; exact Bool.false_ne_true), List.filter_cons_of_neg (by rw [ha, hF]; exact Bool.false_ne_true), ih]
section
variable {P : Program} {ops : Array Oper} {Q : Exit → Act → World → Prop} {md : Region.Mode} {S : World → Prop} {t : Nat}

def risesB (md : Region.Mode) (ops : Array Oper) : Bool := (List.range ops.size).all fun i => match ops[i]? with | some o => o.after.all fun e => !Region.binds md e || decide (e.on < i) | none => true
theorem ready_some {listed : Array Bool} (hr : risesB md ops = true) (hs : listed.size = ops.size) : ∀ n i, i < n → i < ops.size → listed.getD i true = false → ∃ j, j ∈ Region.ready md ops listed := by
  intro n
  induction n with
  | zero => intro i h; omega
  | succ n ih =>
    intro i hi hlt hun
    by_cases hex : ∃ k, k < i ∧ listed.getD k true = false
    · obtain ⟨k, hk, hku⟩ := hex
      exact ih k (by omega) (by omega) hku
    · refine ⟨i, mem_ready.2 ⟨hun, ops[i], by simp [hlt], fun e he hb => ?_⟩⟩
      have h1 := List.all_eq_true.1 hr i (List.mem_range.2 hlt)
      simp only [Array.getElem?_eq_getElem hlt] at h1
      have h2 := Array.all_eq_true'.1 h1 e he
      simp only [hb, Bool.not_true, Bool.false_or, decide_eq_true_eq] at h2
      have h3 : ¬ listed.getD e.on true = false := fun c => hex ⟨e.on, h2, c⟩
      have h4 : e.on < listed.size := by omega
      simp [h4] at h3 ⊢
      exact h3
def InB (w0 w : World) (lo hi : Nat) : Prop := w0.heap.size ≤ lo ∧ lo ≤ hi ∧ hi ≤ w.heap.size
def ApartB (lo hi : Nat → Nat) (j k : Nat) : Prop := hi j ≤ lo k ∨ hi k ≤ lo j
structure Shut (p : Prop) : Prop where
  out : p
def StepS (P : Program) (md : Region.Mode) (ops : Array Oper) (Q : Exit → Act → World → Prop) (S : World → Prop) (L : List (Nat × Nat)) (G : Nat → (Nat → Value) → Nat → Nat → World → Prop) (a0 : Act) (w0 : World) (p : Nat × Nat) : Prop :=
  ∃ o, ops[p.1]? = some o ∧ o.dst = some p.2 ∧ ∀ (y : Nat → Value) (w : World) (lo hi : Nat → Nat), S w → Below w0.heap.size w0 w →
    (∀ q ∈ L, waitsFor md ops p.1 q.1 = true → InB w0 w (lo q.1) (hi q.1) ∧ G q.1 y (lo q.1) (hi q.1) w) →
    (∀ q ∈ L, ∀ r ∈ L, q.1 ≠ r.1 → waitsFor md ops p.1 q.1 = true → waitsFor md ops p.1 r.1 = true → ApartB lo hi q.1 r.1) →
    ∀ K : Act → World → Prop, (∀ v w', Below w.heap.size w w' → G p.1 (updV y p.2 v) w.heap.size w'.heap.size w' → K ((over a0 (L.map Prod.snd) y).put (some p.2) v) w') →
      Shut (if Region.wanted o (yielded ops (over a0 (L.map Prod.snd) y).tmps) = true then Oper.wp P o (over a0 (L.map Prod.snd) y) w K Q else K ((over a0 (L.map Prod.snd) y).put o.dst undef) w)
theorem upto_stable (L : List (Nat × Nat)) (G : Nat → (Nat → Value) → Nat → Nat → World → Prop) {f : Nat} {listed : Array Bool} {a0 : Act} {w0 : World}
    (hrise : risesB md ops = true) (hsz : listed.size = ops.size) (hot : ∃ ot, ops[t]? = some ot)
    (hall : ∀ i, i < ops.size → listed.getD i true = false → i = t ∨ ∃ p ∈ L, p.1 = i)
    (hun : listed.getD t true = false ∧ ∀ p ∈ L, listed.getD p.1 true = false)
    (hno : (L.map Prod.fst).Nodup) (hnd : (L.map Prod.snd).Nodup) (htl : ∀ p ∈ L, p.1 ≠ t ∧ waitsFor md ops t p.1 = true) (hf : f = L.length + 1)
    (hS : S w0) (hSst : ∀ w w', S w → Below w.heap.size w w' → S w')
    (hG : ∀ p ∈ L, ∀ (y y' : Nat → Value) (lo hi : Nat) (w w' : World), G p.1 y lo hi w → InB w0 w lo hi → Below w.heap.size w w' → y' p.2 = y p.2 → (∀ q ∈ L, waitsFor md ops p.1 q.1 = true → y' q.2 = y q.2) → G p.1 y' lo hi w')
    (hstep : ∀ p ∈ L, StepS P md ops Q S L G a0 w0 p)
    (hlast : ∃ o, ops[t]? = some o ∧ ∀ (y : Nat → Value) (w : World) (lo hi : Nat → Nat), S w → Below w0.heap.size w0 w → (∀ q ∈ L, InB w0 w (lo q.1) (hi q.1) ∧ G q.1 y (lo q.1) (hi q.1) w) → (∀ q ∈ L, ∀ r ∈ L, q.1 ≠ r.1 → ApartB lo hi q.1 r.1) →
      ∀ K : Act → World → Prop, (∀ a' w', Q .normal a' w' → K a' w') → Shut (if Region.wanted o (yielded ops (over a0 (L.map Prod.snd) y).tmps) = true then Oper.wp P o (over a0 (L.map Prod.snd) y) w K Q else K ((over a0 (L.map Prod.snd) y).put o.dst undef) w)) :
    wpUpto P md ops Q S t f listed a0 w0 := by
  -- the same from any state on the way
  have H : ∀ (n f : Nat) (listed : Array Bool) (y : Nat → Value) (w : World) (lo hi : Nat → Nat),
      f = (L.filter fun p => !listed.getD p.1 true).length + 1 → listed.size = ops.size → listed.getD t true = false →
      (∀ i, i < ops.size → listed.getD i true = false → i = t ∨ ∃ p ∈ L, p.1 = i) →
      (∀ p ∈ L, listed.getD p.1 true = true → ∀ q ∈ L, waitsFor md ops p.1 q.1 = true → listed.getD q.1 true = true) →
      S w → Below w0.heap.size w0 w → (∀ q ∈ L, listed.getD q.1 true = true → InB w0 w (lo q.1) (hi q.1) ∧ G q.1 y (lo q.1) (hi q.1) w) →
      (∀ q ∈ L, ∀ r ∈ L, q.1 ≠ r.1 → listed.getD q.1 true = true → listed.getD r.1 true = true → ApartB lo hi q.1 r.1) →
      f ≤ n → wpUpto P md ops Q S t f listed (over a0 (L.map Prod.snd) y) w := by
    intro n
    induction n with
    | zero => intro f listed y w lo hi hf _ _ _ _ _ _ _ _ hn; omega
    | succ n ih =>
      intro f listed y w lo hi hf hsz htun hall hdown hS hB hGs hAp hn
      obtain ⟨ot, hot⟩ := hot
      have htlt : t < ops.size := by
        rcases Nat.lt_or_ge t ops.size with h | h
        · exact h
        · rw [Array.getElem?_eq_none h] at hot; cases hot
      obtain ⟨g, rfl⟩ : ∃ g, f = g + 1 := ⟨_, hf⟩
      have hg : g = (L.filter fun p => !listed.getD p.1 true).length := by omega
      refine ⟨fun h => ?_, fun i hi' => ?_⟩
      · obtain ⟨j, hj⟩ := ready_some hrise hsz (t + 1) t (by omega) htlt htun
        rw [h] at hj
        cases hj
      obtain ⟨hiun, o, hio, hdeps⟩ := mem_ready.1 hi'
      have hilt : i < ops.size := by
        rcases Nat.lt_or_ge i ops.size with h | h
        · exact h
        · rw [Array.getElem?_eq_none h] at hio; cases hio
      have hdep : ∀ k, k < ops.size → waitsFor md ops i k = true → listed.getD k true = true := by
        intro k hk hw
        unfold waitsFor at hw
        rw [hio] at hw
        obtain ⟨e, he, hb⟩ := Array.any_eq_true'.1 hw
        simp only [Bool.and_eq_true, beq_iff_eq] at hb
        have h1 := hdeps e he hb.1
        rw [hb.2] at h1
        have hk' : k < listed.size := by omega
        simp [hk'] at h1 ⊢
        exact h1
      have hLlt : ∀ p ∈ L, p.1 < ops.size := by
        intro p hp
        obtain ⟨o', ho', _⟩ := hstep p hp
        rcases Nat.lt_or_ge p.1 ops.size with h | h
        · exact h
        · rw [Array.getElem?_eq_none h] at ho'; cases ho'
      have key : ∀ K : Act → World → Prop, (if Region.wanted o (yielded ops (over a0 (L.map Prod.snd) y).tmps) = true then Oper.wp P o (over a0 (L.map Prod.snd) y) w K Q else K ((over a0 (L.map Prod.snd) y).put o.dst undef) w) → wpOp P ops Q i K (over a0 (L.map Prod.snd) y) w := by
        intro K h1
        unfold wpOp
        simp only [hio]
        split
        · rename_i hw
          rw [if_pos hw] at h1
          exact .inl h1
        · rename_i hw
          rw [if_neg hw] at h1
          exact h1
      refine key _ ?_
      by_cases hit : i = t
      · subst hit
        have hl : ∀ p ∈ L, listed.getD p.1 true = true := fun p hp => hdep p.1 (hLlt p hp) (htl p hp).2
        obtain ⟨o2, ho2, hlst⟩ := hlast
        rw [hio] at ho2
        cases ho2
        refine (hlst y w lo hi hS hB (fun q hq => hGs q hq (hl q hq)) (fun q hq r hr hne => hAp q hq r hr hne (hl q hq) (hl r hr)) _ (fun a' w' hq => ⟨fun h => absurd rfl h, upto_done ?_ hq⟩)).out
        rw [List.eq_nil_iff_forall_not_mem]
        intro j hj
        obtain ⟨hjun, oj, hjo, _⟩ := mem_ready.1 hj
        have hjl : j < ops.size := by
          rcases Nat.lt_or_ge j ops.size with h | h
          · exact h
          · rw [Array.getElem?_eq_none h] at hjo; cases hjo
        by_cases hji : i = j
        · subst hji
          have hk' : i < listed.size := by omega
          simp [hk'] at hjun
        · rw [getD_set_ne true hji] at hjun
          rcases hall j hjl hjun with h | ⟨p, hp, h⟩
          · exact hji h.symm
          · rw [← h, hl p hp] at hjun; cases hjun
      · obtain ⟨p, hp, hpi⟩ := (hall i hilt hiun).resolve_left hit
        subst hpi
        obtain ⟨o', ho', hdst, hst⟩ := hstep p hp
        rw [hio] at ho'
        cases ho'
        refine (hst y w lo hi hS hB (fun q hq hw => hGs q hq (hdep q.1 (hLlt q hq) hw)) (fun q hq r hr hne h1 h2 => hAp q hq r hr hne (hdep q.1 (hLlt q hq) h1) (hdep r.1 (hLlt r hr) h2)) _ (fun v w' hb hGp => ⟨fun _ => hSst _ _ hS hb, ?_⟩)).out
        rw [over_put (List.mem_map_of_mem hp) hnd]
        have hlt : p.1 < listed.size := by omega
        have hself : (listed.setIfInBounds p.1 true).getD p.1 true = true := by simp [hlt]
        have hoth : ∀ j, p.1 ≠ j → (listed.setIfInBounds p.1 true).getD j true = listed.getD j true := fun j h => getD_set_ne true h
        have hinj : ∀ q ∈ L, q.1 = p.1 → q = p := fun q hq h => inj_fst L hno q hq p hp h
        have hinj2 : ∀ q ∈ L, q.2 = p.2 → q = p := fun q hq h => inj_snd L hnd q hq p hp h
        refine ih g (listed.setIfInBounds p.1 true) (updV y p.2 v) w' (fun j => if j = p.1 then w.heap.size else lo j) (fun j => if j = p.1 then w'.heap.size else hi j) ?_ (by simpa using hsz) ?_ ?_ ?_ (hSst _ _ hS hb) (hB.trans (hb.mono hB.size)) ?_ ?_ (by omega)
        · rw [hg]
          refine filter_less hno hp (by rw [hiun]; rfl) (by rw [hself]; rfl) (fun q hq hne => ?_)
          rw [hoth _ (fun c => hne (hinj q hq c.symm))]
        · rw [hoth _ (fun h => hit h)]; exact htun
        · intro j hj hju
          by_cases e : p.1 = j
          · subst e; rw [hself] at hju; cases hju
          · rw [hoth _ e] at hju; exact hall j hj hju
        · intro q hq hql r hr hw
          by_cases e : p.1 = r.1
          · rw [← e]; exact hself
          · rw [hoth _ e]
            by_cases e2 : p.1 = q.1
            · rw [← e2] at hw; exact hdep r.1 (hLlt r hr) hw
            · rw [hoth _ e2] at hql; exact hdown q hq hql r hr hw
        · intro q hq hql
          by_cases e : q.1 = p.1
          · have e2 := hinj q hq e
            subst e2
            simp only [if_true]
            exact ⟨⟨hB.size, hb.size, Nat.le_refl _⟩, hGp⟩
          · rw [hoth _ (Ne.symm e)] at hql
            simp only [if_neg e]
            obtain ⟨h1, h2⟩ := hGs q hq hql
            refine ⟨⟨h1.1, h1.2.1, Nat.le_trans h1.2.2 hb.size⟩, hG q hq y (updV y p.2 v) _ _ w w' h2 h1 hb ?_ ?_⟩
            · exact if_neg (fun c => e (by rw [hinj2 q hq c]))
            · intro r hr hw
              refine if_neg (fun c => ?_)
              have e3 := hinj2 r hr c
              subst e3
              rw [hdown q hq hql _ hr hw] at hiun
              cases hiun
        · intro q hq r hr hne hql hrl
          unfold ApartB
          by_cases e : q.1 = p.1
          · have e' : r.1 ≠ p.1 := fun c => hne (e.trans c.symm)
            rw [hoth _ (Ne.symm e')] at hrl
            simp only [if_pos e, if_neg e']
            exact .inr (hGs r hr hrl).1.2.2
          · rw [hoth _ (Ne.symm e)] at hql
            by_cases e' : r.1 = p.1
            · simp only [if_neg e, if_pos e']
              exact .inl (hGs q hq hql).1.2.2
            · rw [hoth _ (Ne.symm e')] at hrl
              simp only [if_neg e, if_neg e']
              exact hAp q hq r hr hne hql hrl
  have h0 := H f f listed (fun s => a0.tmps.getD s undef) w0 (fun _ => 0) (fun _ => 0) (by
    rw [hf, List.filter_eq_self.2 (fun p hp => by rw [hun.2 p hp]; rfl)]) hsz hun.1 hall (fun p hp h => by rw [hun.2 p hp] at h; cases h) hS (Below.refl _ _) (fun q hq h => by rw [hun.2 q hq] at h; cases h) (fun q hq r hr hne h => by rw [hun.2 q hq] at h; cases h) (Nat.le_refl _)
  rw [over_self] at h0
  exact h0
def checkS (md : Region.Mode) (ops : Array Oper) (listed : Array Bool) (t f : Nat) (L : List (Nat × Nat)) : Bool :=
  risesB md ops && decide (listed.size = ops.size) && (ops[t]?).isSome && ((List.range ops.size).all fun i => listed.getD i true || decide (i = t) || L.any fun p => decide (p.1 = i)) &&
    !listed.getD t true && (L.all fun p => !listed.getD p.1 true) && decide (L.map Prod.fst).Nodup && decide (L.map Prod.snd).Nodup && (L.all fun p => decide (p.1 ≠ t) && waitsFor md ops t p.1) && decide (f = L.length + 1)
theorem upto_stable' (L : List (Nat × Nat)) (G : Nat → (Nat → Value) → Nat → Nat → World → Prop) {f : Nat} {listed : Array Bool} {a0 : Act} {w0 : World} (hc : checkS md ops listed t f L = true)
    (hS : S w0) (hSst : ∀ w w', S w → Below w.heap.size w w' → S w')
    (hG : ∀ p ∈ L, ∀ (y y' : Nat → Value) (lo hi : Nat) (w w' : World), G p.1 y lo hi w → InB w0 w lo hi → Below w.heap.size w w' → y' p.2 = y p.2 → (∀ q ∈ L, waitsFor md ops p.1 q.1 = true → y' q.2 = y q.2) → G p.1 y' lo hi w')
    (hstep : ∀ p ∈ L, StepS P md ops Q S L G a0 w0 p)
    (hlast : ∃ o, ops[t]? = some o ∧ ∀ (y : Nat → Value) (w : World) (lo hi : Nat → Nat), S w → Below w0.heap.size w0 w → (∀ q ∈ L, InB w0 w (lo q.1) (hi q.1) ∧ G q.1 y (lo q.1) (hi q.1) w) → (∀ q ∈ L, ∀ r ∈ L, q.1 ≠ r.1 → ApartB lo hi q.1 r.1) →
      ∀ K : Act → World → Prop, (∀ a' w', Q .normal a' w' → K a' w') → Shut (if Region.wanted o (yielded ops (over a0 (L.map Prod.snd) y).tmps) = true then Oper.wp P o (over a0 (L.map Prod.snd) y) w K Q else K ((over a0 (L.map Prod.snd) y).put o.dst undef) w)) :
    wpUpto P md ops Q S t f listed a0 w0 := by
  unfold checkS at hc
  simp only [Bool.and_eq_true, decide_eq_true_eq, List.all_eq_true, List.any_eq_true, Bool.or_eq_true, Bool.not_eq_true', List.mem_range] at hc
  obtain ⟨⟨⟨⟨⟨⟨⟨⟨⟨h1, h2⟩, h3⟩, h4⟩, h5⟩, h6⟩, h7⟩, h8⟩, h9⟩, h10⟩ := hc
  refine upto_stable L G h1 h2 (Option.isSome_iff_exists.1 h3) (fun i hi hu => ?_) ⟨h5, h6⟩ h7 h8 h9 h10 hS hSst hG hstep hlast
  rcases h4 i hi with (h | h) | h
  · rw [hu] at h; cases h
  · exact .inl h
  · exact .inr h
end

end Go.Proofs.Ytncmdeijimgchaa


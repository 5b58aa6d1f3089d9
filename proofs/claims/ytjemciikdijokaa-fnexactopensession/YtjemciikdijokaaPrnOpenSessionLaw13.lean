import Derived.Test.YtjemciikdijokaaPrnOpenSessionLaw12
import Derived.Test.YtjemciikdijokaaPrnOpenSessionLaw10
import Derived.Test.YtjemciikdijokaaPrnOpenSessionLaw1
import Derived.Deep.DeepAppendRoom
import Derived.Test.YtjemciikdijokaaPrnOpenSessionLaw3
import Derived.Test.YtjemciikdijokaaPrnOpenSessionLaw5
import Derived.Test.YtjemciikdijokaaPrnOpenSessionLaw4
import Derived.Test.YtjemciikdijokaaPrnOpenSessionLaw11
import Derived.Shelf.Abstract
import Derived.BigQuiet
import Derived.Deep.QuietTactic
import Derived.Deep.RegionHeld3

/-
  slices.Insert of one session, whatever room there is.
-/
namespace Go.Proofs.Ytjemciikdijokaa
open Go.RowKit Go.Shelf
set_option linter.unusedSectionVars false
variable [DecidableEq Leg] [Inhabited Leg] [DecidableEq Ses] [Inhabited Ses] [DecidableEq Bal] [Inhabited Bal] [DecidableEq Ledg] [Inhabited Ledg]
set_option linter.unusedVariables false
set_option linter.unusedSimpArgs false

theorem ses_cells {w : World} {base : Nat} {F : Nat → Prop} {u : Value} {x : Ses} (h : sesR.O w base F u x) : ∃ a c, u = .agg #[.int .i64 x.client, .int .i64 x.next, .slice a x.sent.length c] ∧ lvSes u = [.int .i64 x.client, .int .i64 x.next, .slice a x.sent.length c] := by
  obtain ⟨u1, F1, rfl, h1, _⟩ := h
  obtain ⟨a, c, rfl⟩ := owns_form h1.1
  exact ⟨a, c, rfl, rfl⟩
theorem ses_one3 {w : World} {base : Nat} {F : Nat → Prop} {u : Value} {x : Ses} (h : sesR.O w base F u x) : (lvSes u).length = 3 ∧ ∀ y ∈ lvSes u, y.oneCell' = true := by
  obtain ⟨a, c, rfl, e⟩ := ses_cells h
  rw [e]
  refine ⟨rfl, fun y hy => ?_⟩
  simp at hy
  rcases hy with rfl | rfl | rfl <;> rfl
theorem sess_one {w : World} {base : Nat} {v : Value} {n : Nat} {d : Nat → Ses} {cs : List Value} {us : Nat → Value} {fs : Nat → Nat → Prop} (hp : PO sesR 52 3 lvSes w base v n n d cs us fs) : ∀ y ∈ cs, y.oneCell' = true := by
  intro y hy
  obtain ⟨k, hk, rfl⟩ := List.getElem_of_mem hy
  have hcl : cs.length = n * 3 := hp.row.1
  have h1 := hp.cell (k / 3) (by omega) (k % 3) (by omega)
  have e : k / 3 * 3 + k % 3 = k := by omega
  rw [e, List.getElem?_eq_getElem hk] at h1
  exact (ses_one3 (hp.el (k / 3) (by omega))).2 _ (List.mem_of_getElem? h1.symm)
theorem insertZ_any (base : Nat) (v : Value) (i vb : Nat) (xs : List Ses) (u : Value) (x : Ses) (F Fu : Nat → Prop) (w : World) (hown : sessR.O w base F v xs) (hi : i ≤ xs.length) (hn : xs.length ≤ 1048000) (hbase : base ≤ w.heap.size)
    (hu : sesR.O w base Fu u x) (hd : ∀ b, F b → ¬ Fu b) (hv : w.heap[vb]? = some (.cells (lvSes u).toArray 52 (0, 0))) (hvb : v.ownBlock ≠ some vb) :
    Calls Try.prog 34 #[v, .int .i64 i, .slice (some ⟨vb, 0, none⟩) 1 1] w fun e w' =>
      ∃ v' F', e = .returned v' ∧ sessR.O w' base F' v' (xs.take i ++ [x] ++ xs.drop i) ∧ Mod (fun b => v.ownBlock = some b) w w' ∧ (∀ b, F' b → F b ∨ Fu b ∨ w.heap.size ≤ b) := by
  obtain ⟨cs, us, fs, hp, hF⟩ := hown
  have hcl : cs.length = xs.length * 3 := hp.row.1
  obtain ⟨hul, hu1⟩ := ses_one3 hu
  have h1c := sess_one hp
  have hown := hp.row
  have fin : ∀ (v' : Value) (w' : World), w'.ownsRow base 52 3 v' (xs.length + 1) (cs.take (i * 3) ++ lvSes u ++ cs.drop (i * 3)) → Mod (fun b => v.ownBlock = some b) w w' → (∀ b, v'.ownBlock = some b → v.ownBlock = some b ∨ w.heap.size ≤ b) →
      ∃ F', sessR.O w' base F' v' (xs.take i ++ [x] ++ xs.drop i) ∧ (∀ b, F' b → F b ∨ Fu b ∨ w.heap.size ≤ b) := fun v' w' h1 h2 h3 => NO.ins hp hF hi hu hul hd h1 h2 h3
  by_cases hie : i = xs.length
  · subst hie
    refine (insertZ_end base v xs.length vb cs (lvSes u) w hown (by omega) hbase hul hv hu1).mono ?_
    rintro e w' ⟨v', rfl, h1, h2, h3⟩
    have h4 : ∀ b, v'.ownBlock = some b → v.ownBlock = some b ∨ w.heap.size ≤ b := fun b hb => by
      rcases h3 with h3 | h3
      · exact .inl (h3 ▸ hb)
      · rw [h3] at hb
        simp only [Option.some.injEq] at hb
        exact .inr (by omega)
    obtain ⟨F', h5, h6⟩ := fin v' w' (by rw [List.take_of_length_le (by omega), List.drop_of_length_le (by omega), List.append_nil]; exact h1) (Mod.of_grown h2) h4
    exact ⟨v', F', rfl, h5, Mod.of_grown h2, h6⟩
  · rcases hown.2 with ⟨_, h0⟩ | ⟨g, cap, cur, rfl, hbg, hg, hnc, hcm, hcs, htake⟩
    · omega
    · have hne : vb ≠ g := fun e => hvb (by rw [e]; rfl)
      have hgl : g < w.heap.size := (Array.getElem?_eq_some_iff.1 hg).1
      have hcl2 : (cs.take (i * 3) ++ lvSes u ++ cs.drop (i * 3)).length = (xs.length + 1) * 3 := by
        simp only [List.length_append, List.length_take, List.length_drop, hul, hcl]
        omega
      by_cases hroom : xs.length + 1 ≤ cap
      · refine (insertZ_shift g xs.length cap i vb cs (lvSes u) cur w hg (by omega) hroom (by unfold maxLen at hcm; omega) hne hcs hcl htake hul hv h1c hu1).mono ?_
        rintro e w' ⟨rfl, cur', h1, h2, h3, h4⟩
        obtain ⟨F', h5, h6⟩ := fin (.slice (some ⟨g, 0, none⟩) (xs.length + 1) cap) w' ⟨hcl2, .inr ⟨g, cap, cur', rfl, hbg, h1, hroom, hcm, h2, h3⟩⟩ (h4.mono (fun b h => by rw [h]; rfl)) (fun b hb => .inl hb)
        exact ⟨_, F', rfl, h5, h4.mono (fun b h => by rw [h]; rfl), h6⟩
      · refine (insertZ_grow g xs.length cap i vb cs (lvSes u) w (by omega) hnc (by omega) (by omega) hcl (fun j v hj => ?_) hul hv h1c hu1).mono ?_
        · refine cell_rowZ hg ?_
          rw [← htake, List.getElem?_take] at hj
          split at hj
          · exact hj
          · cases hj
        · rintro e w' ⟨G, rfl, cur', h1, h2, h3, h4, h5, h6⟩
          have h6' : Mod (fun b => (Value.slice (some ⟨g, 0, none⟩) xs.length cap).ownBlock = some b) w w' := h6.mono (fun b h => h.elim)
          obtain ⟨F', h7, h8⟩ := fin (.slice (some ⟨w.heap.size, 0, none⟩) (xs.length + 1) G) w' ⟨hcl2, .inr ⟨w.heap.size, G, cur', rfl, hbase, h1, h2, h3, h4, h5⟩⟩ h6' (fun b hb => by simp only [Value.ownBlock, Option.some.injEq] at hb; exact .inr (by omega))
          exact ⟨_, F', rfl, h7, h6', h8⟩
end Go.Proofs.Ytjemciikdijokaa

/-
  Appending what lies anywhere, or nothing.
-/
namespace Go.Proofs.Ytjemciikdijokaa
open Go.RowKit

def AppAny (w : World) (u : Value) (m : Nat) (news : List Value) : Prop :=
  (∃ c, u = .slice none 0 c ∧ m = 0 ∧ news = []) ∨ ∃ ad c, u = .slice (some ad) m c ∧ ∀ j x, news[j]? = some x → w.cell? (ad.add j) = some x
section
variable {P : Program} (w : World)
theorem run_append_none_any (base : Nat) (t ty e : TypeId) (i : TypeInfo) (size c : Nat) (ht : P.underlying t = some (.slice e)) (hi : P.info? e = some i)
    (v : Value) (n : Nat) (xs : List Value) (hown : w.ownsRow base e size v n xs) :
    (Builtin.append_ #[t, t] ty #[v, .slice none 0 c]).run P w = .ok v w := by
  rcases hown.2 with ⟨rfl, rfl⟩ | ⟨g, cap, cur, rfl, _, _, hnc, _⟩
  · simp [Builtin.append_, run_underlying ht, sizeOf, typeInfo, hi, Builtin.lenOf, Builtin.firstCells]
  · simp [Builtin.append_, run_underlying ht, sizeOf, typeInfo, hi, Builtin.lenOf, Builtin.firstCells, hnc, storeCells]
theorem wp_appAny {o : Oper} {a : Act} {K : Act → World → Prop} {Q : Exit → Act → World → Prop} (s x : Operand) (t : TypeId)
    (ho : o.op = .call { callee := .builtin .append, args := #[s, x], argTypes := #[t, t] })
    (base : Nat) (e : TypeId) (i : TypeInfo) (z : Value) (size bytes : Nat) (ht : P.underlying t = some (.slice e)) (hi : P.info? e = some i) (hz : i.zero = some z)
    (hsize : i.size = size) (hby : i.bytes = bytes) (hzs : z.cells.size = size) (hsz : 0 < size)
    (v : Value) (n : Nat) (xs : List Value) (hs : a.eval s = v) (u : Value) (m : Nat) (news : List Value) (hx : a.eval x = u)
    (hown : w.ownsRow base e size v n xs) (hsrc : AppAny w u m news) (hl : news.length = m * size) (h1 : ∀ u ∈ news, u.oneCell' = true)
    (h63 : n + m ≤ maxLen) (hbytes : (n + m) * bytes ≤ 140737488355328) (hbase : base ≤ w.heap.size)
    (h : ∀ v' w', w'.ownsRow base e size v' (n + m) (xs ++ news) → w.grownBy w' v.ownBlock → (∀ W : World, Below base W w → Below base W w') → K (a.put o.dst v') w') : o.wp P a w K Q := by
  rcases hsrc with ⟨c, rfl, rfl, rfl⟩ | ⟨ad, c, rfl, hnews⟩
  · have hr := run_append_none_any (P := P) w base t o.type e i size c ht hi v n xs hown
    unfold Oper.wp execOp
    simp only [ho, resolve, invoke, builtin, Sem.run_bind, Sem.run_pure, Result.andThen_ok, List.map_toArray, List.map_cons, List.map_nil, hs, hx, hr]
    exact h v w (by simpa using hown) ⟨rfl, rfl, rfl, Nat.le_refl _, fun _ _ _ => rfl⟩ (fun _ hW => hW)
  · exact wp_append_own w s x t ho base e i z size bytes ht hi hz hsize hby hzs hsz v n xs hs hown ad m c news hx hl hnews h1 h63 hbytes hbase (fun v' w' q1 q2 _ => h v' w' q1 q2 (fun W hW => hW.grown q2 hbase (fun k hk => (hown.lt k hk).1)))
theorem wpList_appAny {ops : Array Oper} {rest : List Oper} {o : Oper} {a : Act} {Q : Exit → Act → World → Prop} (hgd : o.guard = none) (s x : Operand) (t : TypeId)
    (ho : o.op = .call { callee := .builtin .append, args := #[s, x], argTypes := #[t, t] })
    (base : Nat) (e : TypeId) (i : TypeInfo) (z : Value) (size bytes : Nat) (ht : P.underlying t = some (.slice e)) (hi : P.info? e = some i) (hz : i.zero = some z)
    (hsize : i.size = size) (hby : i.bytes = bytes) (hzs : z.cells.size = size) (hsz : 0 < size)
    (v : Value) (n : Nat) (xs : List Value) (hs : a.eval s = v) (u : Value) (m : Nat) (news : List Value) (hx : a.eval x = u)
    (hown : w.ownsRow base e size v n xs) (hsrc : AppAny w u m news) (hl : news.length = m * size) (h1 : ∀ u ∈ news, u.oneCell' = true)
    (h63 : n + m ≤ maxLen) (hbytes : (n + m) * bytes ≤ 140737488355328) (hbase : base ≤ w.heap.size)
    (h : ∀ v' w', w'.ownsRow base e size v' (n + m) (xs ++ news) → w.grownBy w' v.ownBlock → (∀ W : World, Below base W w → Below base W w') → wpList P ops Q rest (a.put o.dst v') w') :
    wpList P ops Q (o :: rest) a w := by
  refine wpList_plain hgd fun K' hK' => ?_
  exact wp_appAny w s x t ho base e i z size bytes ht hi hz hsize hby hzs hsz v n xs hs u m news hx hown hsrc hl h1 h63 hbytes hbase (fun v' w' q1 q2 q3 => hK' _ _ (h v' w' q1 q2 q3))
end

end Go.Proofs.Ytjemciikdijokaa

/-
  Appending legs, marks, numbers, balances that lie anywhere.
-/
set_option linter.unusedSimpArgs false
set_option linter.unusedVariables false
namespace Go.Proofs.Ytjemciikdijokaa
open Go.RowKit
set_option linter.unusedSectionVars false
variable [DecidableEq Leg] [Inhabited Leg] [DecidableEq Mrk] [Inhabited Mrk] [DecidableEq Bal] [Inhabited Bal]
attribute [local go_sem ↓] Go.wp_at_zero Go.wp_at_succ

theorem length_intsC' (xs : List Int) : (intsC xs).length = xs.length := by simp [intsC]
theorem appAny_ints {w : World} {v : Value} {xs : List Int} (h : IntsV w v xs) : AppAny w v xs.length (intsC xs) := by
  obtain ⟨a, c, rfl, _, _, hc⟩ := h
  cases a with
  | none =>
    have h0 : xs = [] := by
      cases xs with
      | nil => rfl
      | cons x r => obtain ⟨b, o, e, _⟩ := hc 0 (by simp); cases e
    subst h0
    exact .inl ⟨c, rfl, rfl, rfl⟩
  | some ad =>
    refine .inr ⟨ad, c, rfl, fun j x hj => ?_⟩
    have hi : j < xs.length := by
      have := (List.getElem?_eq_some_iff.1 hj).1
      rw [length_intsC'] at this
      exact this
    obtain ⟨b, o, e, g0⟩ := hc j hi
    simp only [Option.some.injEq] at e
    subst e
    have hadd : (Addr.mk b o none).add j = ⟨b, o + j, none⟩ := by
      by_cases h : j = 0
      · subst h; simp [Addr.add]
      · simp [Addr.add, h]
    rw [hadd, g0]
    simp [intsC, hi] at hj
    simp [List.getD, hi, hj]
theorem ints_one10 (xs : List Int) : ∀ u ∈ intsC xs, u.oneCell' = true := by
  intro u hu
  simp only [intsC, List.mem_map] at hu
  obtain ⟨b, _, rfl⟩ := hu
  rfl
theorem ints_app10 (xs ys : List Int) : intsC (xs ++ ys) = intsC xs ++ intsC ys := by simp [intsC]
theorem wpList_app10I (w : World) {ops : Array Oper} {rest : List Oper} {o : Oper} {a : Act} {Q : Exit → Act → World → Prop} (hgd : o.guard = none) (s x : Operand)
    (ho : o.op = .call { callee := .builtin .append, args := #[s, x], argTypes := #[49, 49] })
    (base : Nat) (v : Value) (xs : List Int) (hs : a.eval s = v) (u : Value) (ys : List Int) (hx : a.eval x = u)
    (hown : w.ownsRow base 2 1 v xs.length (intsC xs)) (hsrc : AppAny w u ys.length (intsC ys)) (hlen : xs.length + ys.length ≤ 1073741824) (hbase : base ≤ w.heap.size)
    (h : ∀ v' w', w'.ownsRow base 2 1 v' (xs ++ ys).length (intsC (xs ++ ys)) → w.grownBy w' v.ownBlock → (∀ W : World, Below base W w → Below base W w') → wpList Try.prog ops Q rest (a.put o.dst v') w') :
    wpList Try.prog ops Q (o :: rest) a w := by
  obtain ⟨i0, hi, hz0, hz1, hz2⟩ := info_parts infoInt
  refine wpList_appAny w hgd s x 49 ho base 2 i0 _ 1 8 Try.underlying49 hi hz0 hz1 hz2 rfl (by decide) v xs.length (intsC xs) hs u ys.length (intsC ys) hx hown hsrc (by rw [length_intsC', Nat.mul_one]) (ints_one10 ys) (by unfold maxLen; omega) (by omega) hbase ?_
  intro v' w' h1 h2 h3
  refine h v' w' ?_ h2 h3
  rw [List.length_append, ints_app10]
  exact h1
end Go.Proofs.Ytjemciikdijokaa

/-
  Sessions copied, the program's.
-/
set_option linter.unusedSimpArgs false
set_option linter.unusedVariables false
namespace Go.Proofs.Ytjemciikdijokaa
open Go.RowKit
set_option linter.unusedSectionVars false
variable [DecidableEq Leg] [Inhabited Leg] [DecidableEq Ses] [Inhabited Ses] [DecidableEq Cont] [Inhabited Cont] [DecidableEq Bal] [Inhabited Bal] [DecidableEq Mrk] [Inhabited Mrk] [DecidableEq Shd] [Inhabited Shd] [DecidableEq Vot] [Inhabited Vot] [DecidableEq Slt] [Inhabited Slt] [DecidableEq Acc] [Inhabited Acc] [DecidableEq Trr] [Inhabited Trr] [DecidableEq Hrd] [Inhabited Hrd] [DecidableEq Ldr] [Inhabited Ldr] [DecidableEq Msg] [Inhabited Msg] [DecidableEq Clu] [Inhabited Clu] [DecidableEq SesR] [Inhabited SesR] [DecidableEq Ledg] [Inhabited Ledg]
attribute [local go_sem ↓] Go.wp_at_zero Go.wp_at_succ

theorem wpl_appZ (w : World) {ops : Array Oper} {rest : List Oper} {o : Oper} {a : Act} {Q : Exit → Act → World → Prop} (hgd : o.guard = none) (s x : Operand)
    (ho : o.op = .call { callee := .builtin .append, args := #[s, x], argTypes := #[25, 25] })
    (base : Nat) (F Fu : Nat → Prop) (v : Value) (xs : List Ses) (y : Ses) (g : Nat) (p : Option Addr) (q : Nat) (hs : a.eval s = v) (hx : a.eval x = .slice (some ⟨g, 0, none⟩) 1 1) (hown : sessR.O w base F v xs) (hu : sesR.O w base Fu (.agg #[.int .i64 y.client, .int .i64 y.next, .slice p y.sent.length q]) y) (hd : ∀ b, F b → ¬ Fu b)
    (hc : w.cell? ⟨g, 0, none⟩ = some (.int .i64 y.client) ∧ w.cell? ⟨g, 1, none⟩ = some (.int .i64 y.next) ∧ w.cell? ⟨g, 2, none⟩ = some (.slice p y.sent.length q)) (hn : xs.length ≤ 2000000) (hbase : base ≤ w.heap.size)
    (h : ∀ v' w' F', sessR.O w' base F' v' (xs ++ [y]) → Below base w w' → (∀ b, F' b → F b ∨ Fu b ∨ w.heap.size ≤ b) → wpList Try.prog ops Q rest (a.put o.dst v') w') : wpList Try.prog ops Q (o :: rest) a w := by
  obtain ⟨i0, hi, hz0, hz1, hz2⟩ := info_parts infoSess
  exact wpl_appN w hgd s x 25 ho 52 i0 _ 3 40 Try.underlying25 hi hz0 hz1 hz2 rfl (by decide) (by decide) base F Fu v _ xs y ⟨g, 0, none⟩ 1 hs hx hown hu rfl (fun z hz => by
    simp [lvSes, one] at hz
    rcases hz with rfl | rfl | rfl <;> rfl) hd (fun j y' hj => by
    match j, hj with
    | 0, hj => simp [lvSes, one] at hj; subst hj; simpa [Addr.add] using hc.1
    | 1, hj => simp [lvSes, one] at hj; subst hj; simpa [Addr.add] using hc.2.1
    | 2, hj => simp [lvSes, one] at hj; subst hj; simpa [Addr.add] using hc.2.2
    | j + 3, hj => simp [lvSes, one] at hj) hn hbase h
theorem sess_nil (w : World) (base : Nat) : sessR.O w base (fun _ => False) (.slice none 0 0) [] :=
  ⟨[], fun _ => default, fun _ _ => False, ⟨World.ownsRow_nil _ _ _ _, fun i hi => absurd hi (Nat.not_lt_zero _), fun i hi => absurd hi (Nat.not_lt_zero _), fun i hi => absurd hi (Nat.not_lt_zero _), fun i hi => absurd hi (Nat.not_lt_zero _), fun i j hi => absurd hi (Nat.not_lt_zero _)⟩, fun b => ⟨fun h => h.elim, fun h => h.elim (fun h => by simp [Value.ownBlock] at h) (fun ⟨i, hi, _⟩ => absurd hi (Nat.not_lt_zero _))⟩⟩
theorem sess_lit (w : World) : sessR.O (w.alloc (.cells #[] 52)) w.heap.size (fun b => (Value.slice (some ⟨w.heap.size, 0, none⟩) 0 0).ownBlock = some b ∨ ∃ i, i < ([] : List Ses).length ∧ (fun _ _ => False : Nat → Nat → Prop) i b) (.slice (some ⟨w.heap.size, 0, none⟩) 0 0) [] :=
  ⟨[], fun _ => default, fun _ _ => False, ⟨World.ownsRow_lit (base := w.heap.size) (e := 52) (size := 3) w #[] 0 (Nat.le_refl _) (by unfold maxLen; omega) rfl, fun i hi => absurd hi (Nat.not_lt_zero _), fun i hi => absurd hi (Nat.not_lt_zero _), fun i hi => absurd hi (Nat.not_lt_zero _), fun i hi => absurd hi (Nat.not_lt_zero _), fun i j hi => absurd hi (Nat.not_lt_zero _)⟩, fun b => Iff.rfl⟩
set_option maxHeartbeats 2000000 in
theorem copiedSes_u (x : Value) (d : Ses) (w : World) (hx : sesR.V w x d) (hn : d.sent.length ≤ 1048576) :
    Calls Try.prog 32 #[x] w fun e w' => ∃ v F, e = .returned v ∧ sesR.O w' w.heap.size F v d ∧ Below w.heap.size w w' := by
  obtain ⟨u1, rfl, hx⟩ := hx
  obtain ⟨ax, cx, rfl⟩ := ints_form hx
  have hs0 : AppAny ((w.alloc (.cells #[.int .i64 d.client, .int .i64 d.next, .slice ax d.sent.length cx] 52)).alloc (.cells #[.int .i64 0, .int .i64 0, .slice none 0 0] 52)) (.slice ax d.sent.length cx) d.sent.length (intsC d.sent) := appAny_ints (intsR.below hx (by (repeat (first | exact Below.refl _ _ | assumption | refine Below.drew ?_ | refine balloc ?_ _ | refine bset ?_ (by simp; omega) _ | refine bset ?_ (by simp) _ | refine bstep ?_ (by assumption)))))
  have ho0 := World.ownsRow_nil ((w.alloc (.cells #[.int .i64 d.client, .int .i64 d.next, .slice ax d.sent.length cx] 52)).alloc (.cells #[.int .i64 0, .int .i64 0, .slice none 0 0] 52)) (w.heap.size + 2) 2 1
  clear hx
  go_enter Try.func32, Try.ntmps32
  go_wp2_with (at_builtin; refine wpList_app10I _ rfl _ _ rfl (w.heap.size + 2) _ [] rfl _ d.sent rfl ho0 hs0 ?c1 ?c2 ?_)
  case c1 => simp; omega
  case c2 => simp
  intro v' w1 ho hg hbel
  clear hs0 ho0 hg
  have hY := hbel _ (Below.refl _ _)
  have hB1 : Below w.heap.size w w1 := Below.trans (by (repeat (first | exact Below.refl _ _ | assumption | refine Below.drew ?_ | refine balloc ?_ _ | refine bset ?_ (by simp; omega) _ | refine bset ?_ (by simp) _ | refine bstep ?_ (by assumption)))) (hY.mono (by omega))
  clear hbel
  have y0 : w1.cell? ⟨w.heap.size, 0, none⟩ = some (.int .i64 d.client) := (hY.cell (p := ⟨w.heap.size, 0, none⟩) (by simp)).trans (by simp [go_sem])
  have y1 : w1.cell? ⟨w.heap.size, 1, none⟩ = some (.int .i64 d.next) := (hY.cell (p := ⟨w.heap.size, 1, none⟩) (by simp)).trans (by simp [go_sem])
  have y2 : w1.cell? ⟨w.heap.size, 2, none⟩ = some (.slice ax d.sent.length cx) := (hY.cell (p := ⟨w.heap.size, 2, none⟩) (by simp)).trans (by simp [go_sem])
  have yf : ∀ o, w1.frozen? ⟨w.heap.size, o, none⟩ = false := fun o => (hY.frozen (p := ⟨w.heap.size, o, none⟩) (by simp)).trans (by simp [go_sem])
  have q0 : w1.cell? ⟨w.heap.size + 1, 0, none⟩ = some (.int .i64 0) := (hY.cell (p := ⟨w.heap.size + 1, 0, none⟩) (by simp)).trans (by simp [go_sem])
  have q1 : w1.cell? ⟨w.heap.size + 1, 1, none⟩ = some (.int .i64 0) := (hY.cell (p := ⟨w.heap.size + 1, 1, none⟩) (by simp)).trans (by simp [go_sem])
  have q2 : w1.cell? ⟨w.heap.size + 1, 2, none⟩ = some (.slice none 0 0) := (hY.cell (p := ⟨w.heap.size + 1, 2, none⟩) (by simp)).trans (by simp [go_sem])
  have qf : ∀ o, w1.frozen? ⟨w.heap.size + 1, o, none⟩ = false := fun o => (hY.frozen (p := ⟨w.heap.size + 1, o, none⟩) (by simp)).trans (by simp [go_sem])
  have hz := hY.size
  try simp at hz
  clear hY
  try simp only [List.nil_append] at ho
  obtain ⟨av, cv, rfl⟩ := owns_form ho
  have o1 : ∃ F, intsR.O w1 (w.heap.size + 2) F (.slice av d.sent.length cv) d.sent := ⟨_, ho, rfl⟩
  obtain ⟨F1, o1⟩ := o1
  clear ho
  go_wp2
  refine bodyPost_ret (v := .agg #[.int .i64 d.client, .int .i64 d.next, .slice av d.sent.length cv]) ?_ rfl ⟨_, fun b => F1 b, rfl, ⟨_, F1, rfl, intsR.base (base := w.heap.size + 2) (by (repeat (first | refine Rep.set _ ?_ _ (by simp; omega) | refine Rep.set _ ?_ _ (by simp) | refine Rep.alloc _ ?_ _ | assumption))) (by omega), fun b => Iff.rfl⟩, by (repeat (first | refine bset ?_ (by simp; omega) _ | refine bset ?_ (by simp) _ | refine balloc ?_ _ | assumption))⟩
  simp [results, Try.results32, go_sem, y0, y1, y2, q0, q1, q2, yf, qf]
set_option maxRecDepth 20000 in
set_option maxHeartbeats 8000000 in
theorem copEachZ_u (x : Value) (xs : List Ses) (w : World) (hx : sessR.V w x xs) (hn : xs.length ≤ 1048576) (hll : ∀ k, k < xs.length → (xs.getD k default).sent.length ≤ 1048576) :
    Calls Try.prog 31 #[x, .func (.func 32) #[] #[]] w fun e w' => ∃ v F, e = .returned v ∧ sessR.O w' w.heap.size F v xs ∧ Below w.heap.size w w' := by
  obtain ⟨a3, c3, e3, hc3, hm3, hx3⟩ := sess_at hx
  subst e3
  unfold maxLen at hm3
  have HX : Hid (∀ k, k < xs.length → ∃ b o p q, a3 = some ⟨b, o, none⟩ ∧ w.cell? ⟨b, o + k * 3, none⟩ = some (.int .i64 (xs.getD k default).client) ∧ w.cell? ⟨b, o + k * 3 + 1, none⟩ = some (.int .i64 (xs.getD k default).next) ∧ w.cell? ⟨b, o + k * 3 + 2, none⟩ = some (.slice p (xs.getD k default).sent.length q) ∧ sesR.V w (.agg #[.int .i64 (xs.getD k default).client, .int .i64 (xs.getD k default).next, .slice p (xs.getD k default).sent.length q]) (xs.getD k default)) := hx3
  have HLl : Hid (∀ k, k < xs.length → (xs.getD k default).sent.length ≤ 1048576) := hll
  clear hx3 hll hx
  obtain ⟨n3, hn3⟩ : ∃ n3, n3 = xs.length := ⟨_, rfl⟩
  have HN : Hid (xs.length = n3) := hn3.symm
  rw [← hn3] at hc3 HX HLl hn ⊢
  clear hn3
  have eg := enters_of Try.func32 (by kernel_rfl) rfl
  go_enter Try.func31, Try.ntmps31
  go_wp2
  go_loopw [5, 10] (fun s i w' => ∃ (k : Nat) (a : Option Addr) (c : Nat) (F : Nat → Prop), k ≤ n3 ∧ i = .int .i64 k ∧ s = .slice a k c ∧ Hid (sessR.O w' w.heap.size F (.slice a k c) (xs.take k)) ∧ Below w.heap.size w w') (fun s i _ => n3 - (intOf i).toNat)
  case atStart => exact ⟨0, none, 0, _, Nat.zero_le _, rfl, rfl, sess_nil _ _, by (repeat (first | exact Below.refl _ _ | assumption | refine Below.drew ?_ | refine balloc ?_ _ | refine bset ?_ (by simp; omega) _ | refine bset ?_ (by simp) _ | refine bstep ?_ (by assumption)))⟩
  case round =>
    obtain ⟨k, as_, cs_, F, hk, rfl, rfl, HO, hbl⟩ := hrel
    have zr := hbl.size
    by_cases hlt : k < n3
    · obtain ⟨bx, ox, pp, qq, rfl, g0, g1, g2, hV⟩ := HX.out k hlt
      have hcw := HLl.out k hlt
      obtain ⟨l, hl⟩ : ∃ l, l = xs.getD k default := ⟨_, rfl⟩
      rw [← hl] at g0 g1 g2 hV hcw
      have HL : Hid (xs.take (k + 1) = xs.take k ++ [l]) := by
        show _ = _
        rw [List.take_succ_eq_append_getElem (by rw [HN.out]; exact hlt), hl]
        simp [List.getD, show k < xs.length by rw [HN.out]; exact hlt]
      clear hl
      have HCp : Hid (∀ W, Below w.heap.size w W → Calls Try.prog 32 #[.agg #[.int .i64 l.client, .int .i64 l.next, .slice pp l.sent.length qq]] W fun e w' => ∃ v F, e = .returned v ∧ sesR.O w' W.heap.size F v l ∧ Below W.heap.size W w') := fun W hW => copiedSes_u _ l W (sesR.below hV hW) hcw
      clear hV
      replace g0 := cell_keep hbl g0
      replace g1 := cell_keep hbl g1
      replace g2 := cell_keep hbl g2
      have zb : bx < wr.heap.size := World.block_lt_of_cell? wr _ g0
      go_wp2_with fail
      refine (HCp.out _ (by (repeat (first | exact Below.refl _ _ | assumption | refine Below.drew ?_ | refine balloc ?_ _ | refine bset ?_ (by simp; omega) _ | refine bset ?_ (by simp) _ | refine bstep ?_ (by assumption))))).mono ?_
      rintro e w2 ⟨v2, F2, rfl, o2, hb2⟩
      obtain ⟨a2', c2', rfl, _⟩ := ses_cells o2
      have hz2 := hb2.size
      simp at hz2
      have hB2 : Below wr.heap.size wr w2 := by (repeat (first | exact Below.refl _ _ | assumption | refine Below.drew ?_ | refine balloc ?_ _ | refine bset ?_ (by simp; omega) _ | refine bset ?_ (by simp) _ | refine bstep ?_ (by assumption)))
      have HO2 : Hid (sessR.O w2 w.heap.size F (.slice as_ k cs_) (xs.take k)) := sessR.keep HO.out hB2
      have HFl : Hid (∀ b, F b → b < wr.heap.size) := fun b hb => (sessR.rng HO.out b hb).2
      have HF2 : Hid (∀ b, F2 b → wr.heap.size + 1 ≤ b) := fun b hb => by have := (sesR.rng o2 b hb).1; simpa using this
      have HU : Hid (sesR.O w2 w.heap.size F2 (.agg #[.int .i64 l.client, .int .i64 l.next, .slice a2' l.sent.length c2']) l) := sesR.base o2 (by simp; omega)
      have hB3 : Below w.heap.size w w2 := bstep hbl hB2
      clear hb2 o2 HCp HO g0 g1 g2 hB2
      go_wp2_with (at_builtin; refine wpl_appZ _ rfl _ _ rfl w.heap.size F F2 _ (xs.take k) l w2.heap.size a2' c2' rfl rfl ?a1 ?a2 ?a3 ?a4 ?a5 ?a6 ?_)
      case a1 => exact sessR.alloc HO2.out _
      case a2 => exact sesR.alloc HU.out _
      case a3 => exact fun b h1 h2 => by have := HFl.out b h1; have := HF2.out b h2; omega
      case a4 => simp [go_sem]
      case a5 => rw [List.length_take, HN.out]; omega
      case a6 => simp; omega
      intro v3 w3 F3 o3 hb3 _
      rw [← HL.out] at o3
      obtain ⟨a3', c3', e3⟩ := sess_form (sessR.ofO o3)
      rw [show (xs.take (k + 1)).length = k + 1 by rw [List.length_take, HN.out]; omega] at e3
      subst e3
      have HO3 : Hid (sessR.O w3 w.heap.size F3 (.slice a3' (k + 1) c3') (xs.take (k + 1))) := o3
      have hB5 : Below w.heap.size w w3 := Below.trans (balloc hB3 _) hb3
      clear o3 hb3
      go_wp2
      exact ⟨⟨k + 1, a3', c3', F3, by omega, by go_num, rfl, HO3, hB5⟩, by simp [intOf]; omega⟩
    · have hkn : k = n3 := by omega
      subst hkn
      have ho := HO.out
      rw [List.take_of_length_le (by rw [HN.out]; exact Nat.le_refl _)] at ho
      go_wp2
      go_ret
      exact ⟨_, F, rfl, ho, hbl⟩
end Go.Proofs.Ytjemciikdijokaa


/-
  A log: its parts on both sides.
-/
import Derived.Test.YtfeolikagceohaaSLoggR
import Derived.Test.YtfeolikagceohaaUnfr2
import Derived.Test.YtfeolikagceohaaRegT
import Derived.Test.YtfeolikagceohaaKeeps
import Derived.Test.YtfeolikagceohaaLeaf
import Derived.Test.YtfeolikagceohaaCut
namespace Go.Proofs.Ytfeolikagceohaa
open Go.RowKit
set_option linter.unusedSectionVars false
variable [DecidableEq Logg] [Inhabited Logg] [DecidableEq LoggR] [Inhabited LoggR] [DecidableEq BytesR] [Inhabited BytesR] [DecidableEq RecsR] [Inhabited RecsR] [DecidableEq Leg] [Inhabited Leg]
set_option linter.unusedSimpArgs false
attribute [local go_sem ↓] Go.wp_at_zero Go.wp_at_succ

theorem step_appB (Y : World) {ops : Array Oper} {o : Oper} {a : Act} {K : Act → World → Prop} {Q : Exit → Act → World → Prop} {E : Prop} (hgd : o.guard = none) (s x : Operand)
    (ho : o.op = .call { callee := .builtin .append, args := #[s, x], argTypes := #[22, 22] })
    (base : Nat) (v : Value) (xs : List Byte) (hs : a.eval s = v) (u : Value) (ys : List Byte) (hx : a.eval x = u)
    (hown : Y.ownsRow base 5 1 v xs.length (bytesC xs)) (hsrc : AppAny Y u ys.length (bytesC ys)) (hlen : xs.length + ys.length ≤ 1073741824) (hbase : base ≤ Y.heap.size)
    (h : ∀ v' w', w'.ownsRow base 5 1 v' (xs ++ ys).length (bytesC (xs ++ ys)) → Y.grownBy w' v.ownBlock → (∀ W : World, Below base W Y → Below base W w') → K (a.put o.dst v') w') :
    if Region.wanted o (yielded ops a.tmps) = true then Oper.wp Try.prog o a Y K Q else E := by
  obtain ⟨i0, hi, hz0, hz1, hz2⟩ := info_parts infoByte
  refine step_appAny Y hgd s x 22 ho base 5 i0 _ 1 1 Try.underlying22 hi hz0 hz1 hz2 rfl (by decide) v xs.length (bytesC xs) hs u ys.length (bytesC ys) hx hown hsrc (by rw [length_bytesC]; omega) (bytesC_one ys) (by unfold maxLen; omega) (by omega) hbase ?_
  intro v' w' h1 h2 h3
  refine h v' w' ?_ h2 h3
  rw [List.length_append, bytesC_append]
  exact h1

theorem nil_owns {W Y : World} {base : Nat} (hb : Below (W.alloc (.cells #[] 5)).heap.size (W.alloc (.cells #[] 5)) Y) (g : Nat) (hg : g = W.heap.size) (h : base ≤ g) : Y.ownsRow base 5 1 (.slice (some ⟨g, 0, none⟩) 0 0) ([] : List Byte).length (bytesC []) := by
  subst hg
  exact owns_below (World.ownsRow_lit (base := base) (e := 5) (size := 1) W #[] 0 h (by unfold maxLen; omega) rfl) hb
theorem bytes_nil (w : World) (base : Nat) : bytesR.O w base none_ (.slice none 0 0) [] :=
  ⟨by simpa [bytesC] using World.ownsRow_nil w base 5 1, by funext b; simp [none_, Value.ownBlock]⟩
theorem logg_one {w : World} {base : Nat} {F : Nat → Prop} {v : Value} {xs : List Byte} (h : bytesR.O w base F v xs) : loggR.O w base F (.agg #[v, .slice none 0 0]) ⟨xs, []⟩ :=
  ⟨_, _, F, none_, rfl, h, bytes_nil w base, fun _ _ h => h.elim, fun b => by simp [none_]⟩
theorem loggR_of {w : World} {base : Nat} {F : Nat → Prop} {u1 u2 : Value} {x : Logg} (h : loggR.O w base F (.agg #[u1, u2]) x) : loggRR.O w base F (.agg #[.int .i64 0, u1, u2]) ⟨0, x⟩ :=
  ⟨_, _, F, rfl, h, fun _ => Iff.rfl⟩
theorem loggR_code (w : World) (base : Nat) (c : Int) : loggRR.O w base none_ (.agg #[.int .i64 c, .slice none 0 0, .slice none 0 0]) ⟨c, ⟨[], []⟩⟩ :=
  ⟨_, _, none_, rfl, logg_one (bytes_nil w base), fun _ => Iff.rfl⟩

theorem recU_le (xs : List Byte) : recU xs ≤ xs.length := by
  have H : ∀ n (xs : List Byte), xs.length ≤ n → recU xs ≤ xs.length := by
    intro n
    induction n with
    | zero => intro xs h; rw [recU_end (frameSz_nil (by omega))]; omega
    | succ n ih =>
      intro xs h
      by_cases hz : frameSz xs = 0
      · rw [recU_end hz]; omega
      · have hp := frameSz_pos hz
        have := ih (xs.drop (frameSz xs)) (by rw [List.length_drop]; omega)
        rw [recU_step hz]
        rw [List.length_drop] at this
        omega
  exact H _ xs (Nat.le_refl _)

def logF (d : Logg) : Int := if 6000 < d.synced.length + d.loose.length then 2 else 0

set_option maxHeartbeats 400000 in
theorem specLogF_any (x : Value) (d : Logg) (w : World) (hx : loggR.V w x d) (hn : wtLogg d ≤ 1048576) :
    Calls Try.prog 36 #[x] w fun e w' => e = .returned (.int .i64 (logF d)) ∧ Below w.heap.size w w' := by
  obtain ⟨a1, a2, c1, c2, rfl⟩ := logg_form hx
  unfold wtLogg wtBytes at hn
  unfold logF
  clear hx
  generalize d.synced.length = n1 at *
  generalize d.loose.length = n2 at *
  have v1 : IntKind.i64.wrap ((n1 : Int) + n2) = n1 + n2 := by rw [IntKind.wrap_i64]; omega
  by_cases h : 6000 < n1 + n2
  · have HV := h
    have v2 : (6000 : Int) < (n1 : Int) + n2 := by omega
    go_enter Try.func36, Try.ntmps36
    go_wp2
    go_ret
    exact ⟨by simp [HV], by (repeat (first | exact Below.refl _ _ | assumption | refine Below.drew ?_ | refine balloc ?_ _ | refine bset ?_ (by simp; omega) _ | refine bset ?_ (by simp) _ | refine bstep ?_ (by assumption)))⟩
  · have HV := h
    have v2 : ¬ (6000 : Int) < (n1 : Int) + n2 := by omega
    go_enter Try.func36, Try.ntmps36
    go_wp2
    go_ret
    exact ⟨by simp [HV], by (repeat (first | exact Below.refl _ _ | assumption | refine Below.drew ?_ | refine balloc ?_ _ | refine bset ?_ (by simp; omega) _ | refine bset ?_ (by simp) _ | refine bstep ?_ (by assumption)))⟩

set_option maxHeartbeats 400000 in
theorem implLogF_any (x : Value) (d : Logg) (w : World) (hx : loggR.V w x d) (hn : wtLogg d ≤ 1048576) :
    Calls Try.prog 32 #[x] w fun e w' => e = .returned (.int .i64 (logF d)) ∧ Below w.heap.size w w' := by
  obtain ⟨a1, a2, c1, c2, rfl⟩ := logg_form hx
  unfold wtLogg wtBytes at hn
  unfold logF
  clear hx
  generalize d.synced.length = n1 at *
  generalize d.loose.length = n2 at *
  have v1 : IntKind.i64.wrap ((n1 : Int) + n2) = n1 + n2 := by rw [IntKind.wrap_i64]; omega
  by_cases h : 6000 < n1 + n2
  · have HV := h
    have v2 : (6000 : Int) < (n1 : Int) + n2 := by omega
    go_enter Try.func32, Try.ntmps32
    go_wp2
    go_ret
    exact ⟨by simp [HV], by (repeat (first | exact Below.refl _ _ | assumption | refine Below.drew ?_ | refine balloc ?_ _ | refine bset ?_ (by simp; omega) _ | refine bset ?_ (by simp) _ | refine bstep ?_ (by assumption)))⟩
  · have HV := h
    have v2 : ¬ (6000 : Int) < (n1 : Int) + n2 := by omega
    go_enter Try.func32, Try.ntmps32
    go_wp2
    go_ret
    exact ⟨by simp [HV], by (repeat (first | exact Below.refl _ _ | assumption | refine Below.drew ?_ | refine balloc ?_ _ | refine bset ?_ (by simp; omega) _ | refine bset ?_ (by simp) _ | refine bstep ?_ (by assumption)))⟩

set_option maxHeartbeats 2000000 in
theorem l4Sync_any (x : Value) (d : Logg) (w : World) (hx : loggR.V w x d) (hn : wtLogg d ≤ 1048576) :
    Calls Try.prog 41 #[x] w fun e w' => ∃ v F, e = .returned v ∧ loggR.O w' w.heap.size F v ⟨d.synced ++ d.loose, []⟩ ∧ Below w.heap.size w w' := by
  have hX := hx
  obtain ⟨u1, u2, rfl, h1, h2⟩ := hx
  obtain ⟨a1, c1, rfl⟩ := bytes_form h1
  obtain ⟨a2, c2, rfl⟩ := bytes_form h2
  unfold wtLogg wtBytes at hn
  go_enter Try.func41, Try.ntmps41
  go_wp2
  refine wp_region_noPanic ?_
  refine region_upto (fun w' => Below w.heap.size w w' ∧ w'.cell? ⟨w.heap.size, 0, none⟩ = some (.slice a1 d.synced.length c1) ∧ w'.cell? ⟨w.heap.size, 1, none⟩ = some (.slice a2 d.loose.length c2)) 8 (by kernel_rfl) ⟨by (repeat (first | exact Below.refl _ _ | assumption | refine Below.drew ?_ | refine balloc ?_ _ | refine bset ?_ (by simp; omega) _ | refine bset ?_ (by simp) _ | refine bstep ?_ (by assumption))), by simp [go_sem], by simp [go_sem]⟩ (fun hS => ?_)
  refine upto_take (i := 1) (v := ?_) rfl (by kernel_rfl) (by kernel_rfl) (by kernel_rfl) (by kernel_rfl) (fun _ _ _ h => h) (by rfl) hS ?_ ?_
  rotate_left
  · intro wS hSw
    try dsimp only at hSw
    first | (go_simp; done) | (go_simp; with_reducible rfl)
  try simp only [Act.put, List.getElem_toArray, List.getElem_cons_zero, List.getElem_cons_succ, List.setIfInBounds_toArray, List.set_cons_zero, List.set_cons_succ]
  refine upto_take (i := 2) (v := ?_) rfl (by kernel_rfl) (by kernel_rfl) (by kernel_rfl) (by kernel_rfl) (fun _ _ _ h => h) (by rfl) hS ?_ ?_
  rotate_left
  · intro wS hSw
    try dsimp only at hSw
    first | (go_simp; done) | (go_simp; with_reducible rfl)
  try simp only [Act.put, List.getElem_toArray, List.getElem_cons_zero, List.getElem_cons_succ, List.setIfInBounds_toArray, List.set_cons_zero, List.set_cons_succ]
  refine upto_take (i := 4) (v := ?_) rfl (by kernel_rfl) (by kernel_rfl) (by kernel_rfl) (by kernel_rfl) (fun _ _ _ h => h) (by rfl) hS ?_ ?_
  rotate_left
  · intro wS hSw
    try dsimp only at hSw
    first | (go_simp; done) | (go_simp; with_reducible rfl)
  try simp only [Act.put, List.getElem_toArray, List.getElem_cons_zero, List.getElem_cons_succ, List.setIfInBounds_toArray, List.set_cons_zero, List.set_cons_succ]
  refine upto_take (i := 5) (v := ?_) rfl (by kernel_rfl) (by kernel_rfl) (by kernel_rfl) (by kernel_rfl) (fun _ _ _ h => h) (by rfl) hS ?_ ?_
  rotate_left
  · intro wS hSw
    try dsimp only at hSw
    first | (go_simp; done) | (go_simp; with_reducible rfl)
  try simp only [Act.put, List.getElem_toArray, List.getElem_cons_zero, List.getElem_cons_succ, List.setIfInBounds_toArray, List.set_cons_zero, List.set_cons_succ]
  refine upto_step (i := 0) (by kernel_rfl) rfl ?_
  intro K hK
  go_simp
  refine hK _ _ (fun _ => ⟨by (repeat (first | exact Below.refl _ _ | assumption | refine Below.drew ?_ | refine balloc ?_ _ | refine bset ?_ (by simp; omega) _ | refine bset ?_ (by simp) _ | refine bstep ?_ (by assumption))), by simp [go_sem], by simp [go_sem]⟩) ?_
  clear hK K
  try simp only [Act.put, List.getElem_toArray, List.getElem_cons_zero, List.getElem_cons_succ, List.setIfInBounds_toArray, List.set_cons_zero, List.set_cons_succ]
  refine upto_step (i := 3) (by kernel_rfl) rfl ?_
  intro K hK
  refine step_appB _ rfl _ _ rfl (w.heap.size + 2) (.slice (some ⟨w.heap.size + 2, 0, none⟩) 0 0) [] rfl _ d.synced rfl (nil_owns (W := (w.alloc _).alloc _) (Below.drew (Below.refl _ _)) _ (by simp) (by omega)) (appAny_bytes (bytesR.below h1 (by (repeat (first | exact Below.refl _ _ | assumption | refine Below.drew ?_ | refine balloc ?_ _ | refine bset ?_ (by simp; omega) _ | refine bset ?_ (by simp) _ | refine bstep ?_ (by assumption)))))) (by simp; omega) (by simp) ?_
  intro v6 w6 o6 hg6 hB6
  have hw6 := hB6 ((w.alloc _).alloc _) (Below.drew (Below.alloc (Below.refl _ _) (by simp) _))
  have hb6 : Below w.heap.size w w6 := Below.trans (by (repeat (first | exact Below.refl _ _ | assumption | refine Below.drew ?_ | refine balloc ?_ _ | refine bset ?_ (by simp; omega) _ | refine bset ?_ (by simp) _ | refine bstep ?_ (by assumption)))) (hw6.mono (by omega))
  clear hB6 hg6
  obtain ⟨p6, q6, rfl⟩ := owns_form o6
  have g6 := hw6.size
  simp at g6
  refine hK _ _ (fun _ => ⟨hb6, (hw6.cell (p := ⟨w.heap.size, 0, none⟩) (by simp)).trans (by simp [go_sem]), (hw6.cell (p := ⟨w.heap.size, 1, none⟩) (by simp)).trans (by simp [go_sem])⟩) ?_
  clear hK K
  try simp only [Act.put, List.getElem_toArray, List.getElem_cons_zero, List.getElem_cons_succ, List.setIfInBounds_toArray, List.set_cons_zero, List.set_cons_succ]
  refine upto_step (i := 6) (by kernel_rfl) rfl ?_
  intro K hK
  have k2 : AppAny w6 _ (d.loose).length (bytesC (d.loose)) := appAny_bytes (bytesR.below h2 hb6)
  refine step_appB _ rfl _ _ rfl (w.heap.size + 2) _ ([] ++ d.synced) rfl _ (d.loose) rfl o6 k2 (by simp; omega) g6 ?_
  intro v9 w9 o9 hg9 hB9
  have hw9 := hB9 _ hw6
  have hb9 : Below w.heap.size w w9 := Below.trans (by (repeat (first | exact Below.refl _ _ | assumption | refine Below.drew ?_ | refine balloc ?_ _ | refine bset ?_ (by simp; omega) _ | refine bset ?_ (by simp) _ | refine bstep ?_ (by assumption)))) (hw9.mono (by omega))
  clear hB9 hg9 k2 hw6 hb6 o6 g6
  obtain ⟨p9, q9, rfl⟩ := owns_form o9
  have g9 := hw9.size
  simp at g9
  refine hK _ _ (fun _ => ⟨hb9, (hw9.cell (p := ⟨w.heap.size, 0, none⟩) (by simp)).trans (by simp [go_sem]), (hw9.cell (p := ⟨w.heap.size, 1, none⟩) (by simp)).trans (by simp [go_sem])⟩) ?_
  clear hK K
  try simp only [Act.put, List.getElem_toArray, List.getElem_cons_zero, List.getElem_cons_succ, List.setIfInBounds_toArray, List.set_cons_zero, List.set_cons_succ]
  have hS9 : (fun w' => Below w.heap.size w w' ∧ w'.cell? ⟨w.heap.size, 0, none⟩ = some (.slice a1 d.synced.length c1) ∧ w'.cell? ⟨w.heap.size, 1, none⟩ = some (.slice a2 d.loose.length c2)) w9 := ⟨hb9, (hw9.cell (p := ⟨w.heap.size, 0, none⟩) (by simp)).trans (by simp [go_sem]), (hw9.cell (p := ⟨w.heap.size, 1, none⟩) (by simp)).trans (by simp [go_sem])⟩
  have r0 : w9.cell? ⟨w.heap.size + 1, 0, none⟩ = some (.slice none 0 0) := (hw9.cell (p := ⟨w.heap.size + 1, 0, none⟩) (by simp)).trans (by simp [go_sem])
  have r1 : w9.cell? ⟨w.heap.size + 1, 1, none⟩ = some (.slice none 0 0) := (hw9.cell (p := ⟨w.heap.size + 1, 1, none⟩) (by simp)).trans (by simp [go_sem])
  have rf : ∀ o, w9.frozen? ⟨w.heap.size + 1, o, none⟩ = false := fun o => (hw9.frozen (p := ⟨w.heap.size + 1, o, none⟩) (by simp)).trans (by simp [go_sem])
  have HO : Hid (World.ownsRow w9 (w.heap.size + 2) 5 1 _ _ _) := o9
  clear o9 hw9
  refine upto_take (i := 7) (v := ?_) rfl (by kernel_rfl) (by kernel_rfl) (by kernel_rfl) (by kernel_rfl) (fun _ _ _ h => h) (by rfl) hS9 ?_ ?_
  rotate_left
  · intro wS hSw
    try dsimp only at hSw
    first | (go_simp; done) | (go_simp; with_reducible rfl)
  try simp only [Act.put, List.getElem_toArray, List.getElem_cons_zero, List.getElem_cons_succ, List.setIfInBounds_toArray, List.set_cons_zero, List.set_cons_succ]
  refine upto_step (i := 8) (by kernel_rfl) rfl ?_
  intro K hK
  go_simp
  refine hK _ _ (fun h => absurd rfl h) ?_
  clear hK K
  refine upto_done (by kernel_rfl) ?_
  refine NoPanic.normal ?_
  clear hS hS9
  go_wp2
  have ho : bytesR.O w9 (w.heap.size + 2) _ (.slice p9 (d.synced.length + d.loose.length) q9) (d.synced ++ d.loose) := ⟨by have h := HO.out; simpa using h, rfl⟩
  refine bodyPost_ret (v := .agg #[.slice p9 (d.synced.length + d.loose.length) q9, .slice none 0 0]) ?_ rfl ⟨_, _, rfl, logg_one (bytesR.base (bytesR.set (bytesR.set ho _ (by simp)) _ (by simp)) (by omega)), by (repeat (first | exact Below.refl _ _ | assumption | refine Below.drew ?_ | refine balloc ?_ _ | refine bset ?_ (by simp; omega) _ | refine bset ?_ (by simp) _ | refine bstep ?_ (by assumption)))⟩
  simp [results, Try.results41, go_sem, r0, r1]

set_option maxHeartbeats 2000000 in
theorem l4Crash_any (x : Value) (d : Logg) (k : Nat) (w : World) (hx : loggR.V w x d) (hn : wtLogg d ≤ 1048576) (hk : k ≤ d.loose.length) :
    Calls Try.prog 38 #[x, .int .i64 k] w fun e w' => ∃ v F, e = .returned v ∧ loggR.O w' w.heap.size F v ⟨d.synced ++ d.loose.take k, []⟩ ∧ Below w.heap.size w w' := by
  have hX := hx
  obtain ⟨u1, u2, rfl, h1, h2⟩ := hx
  obtain ⟨a1, c1, rfl⟩ := bytes_form h1
  obtain ⟨a2, c2, rfl⟩ := bytes_form h2
  unfold wtLogg wtBytes at hn
  obtain ⟨a3, c3, run3, V3⟩ := cutH (a := a2) (n := d.loose.length) (cap := c2) (k : Int) (by omega) (by omega) (by obtain ⟨_, _, e, h, _⟩ := h2; simp only [Value.slice.injEq, true_and] at e; omega)
  have ek : (k : Int).toNat = k := by omega
  have V1 : bytesR.V w (.slice a3 k c3) (d.loose.take k) := by have h := V3 _ d.loose rfl h2; rw [ek] at h; exact h
  rw [ek] at run3
  have hl : (d.loose.take k).length = k := by rw [List.length_take]; omega
  generalize d.loose.take k = ys at *
  clear V3 ek
  go_enter Try.func38, Try.ntmps38
  go_wp2
  refine wp_region_noPanic ?_
  refine region_upto (fun w' => Below w.heap.size w w' ∧ w'.cell? ⟨w.heap.size, 0, none⟩ = some (.slice a1 d.synced.length c1) ∧ w'.cell? ⟨w.heap.size, 1, none⟩ = some (.slice a2 d.loose.length c2)) 10 (by kernel_rfl) ⟨by (repeat (first | exact Below.refl _ _ | assumption | refine Below.drew ?_ | refine balloc ?_ _ | refine bset ?_ (by simp; omega) _ | refine bset ?_ (by simp) _ | refine bstep ?_ (by assumption))), by simp [go_sem], by simp [go_sem]⟩ (fun hS => ?_)
  refine upto_take (i := 1) (v := ?_) rfl (by kernel_rfl) (by kernel_rfl) (by kernel_rfl) (by kernel_rfl) (fun _ _ _ h => h) (by rfl) hS ?_ ?_
  rotate_left
  · intro wS hSw
    try dsimp only at hSw
    first | (go_simp; done) | (go_simp; with_reducible rfl)
  try simp only [Act.put, List.getElem_toArray, List.getElem_cons_zero, List.getElem_cons_succ, List.setIfInBounds_toArray, List.set_cons_zero, List.set_cons_succ]
  refine upto_take (i := 2) (v := ?_) rfl (by kernel_rfl) (by kernel_rfl) (by kernel_rfl) (by kernel_rfl) (fun _ _ _ h => h) (by rfl) hS ?_ ?_
  rotate_left
  · intro wS hSw
    try dsimp only at hSw
    first | (go_simp; done) | (go_simp; with_reducible rfl)
  try simp only [Act.put, List.getElem_toArray, List.getElem_cons_zero, List.getElem_cons_succ, List.setIfInBounds_toArray, List.set_cons_zero, List.set_cons_succ]
  refine upto_take (i := 4) (v := ?_) rfl (by kernel_rfl) (by kernel_rfl) (by kernel_rfl) (by kernel_rfl) (fun _ _ _ h => h) (by rfl) hS ?_ ?_
  rotate_left
  · intro wS hSw
    try dsimp only at hSw
    first | (go_simp; done) | (go_simp; with_reducible rfl)
  try simp only [Act.put, List.getElem_toArray, List.getElem_cons_zero, List.getElem_cons_succ, List.setIfInBounds_toArray, List.set_cons_zero, List.set_cons_succ]
  refine upto_take (i := 5) (v := ?_) rfl (by kernel_rfl) (by kernel_rfl) (by kernel_rfl) (by kernel_rfl) (fun _ _ _ h => h) (by rfl) hS ?_ ?_
  rotate_left
  · intro wS hSw
    try dsimp only at hSw
    first | (go_simp; done) | (go_simp; with_reducible rfl)
  try simp only [Act.put, List.getElem_toArray, List.getElem_cons_zero, List.getElem_cons_succ, List.setIfInBounds_toArray, List.set_cons_zero, List.set_cons_succ]
  refine upto_take (i := 6) (v := ?_) rfl (by kernel_rfl) (by kernel_rfl) (by kernel_rfl) (by kernel_rfl) (fun _ _ _ h => h) (by rfl) hS ?_ ?_
  rotate_left
  · intro wS hSw
    try dsimp only at hSw
    first | (go_simp; done) | (go_simp; with_reducible rfl)
  try simp only [Act.put, List.getElem_toArray, List.getElem_cons_zero, List.getElem_cons_succ, List.setIfInBounds_toArray, List.set_cons_zero, List.set_cons_succ]
  refine upto_take (i := 7) (v := ?_) rfl (by kernel_rfl) (by kernel_rfl) (by kernel_rfl) (by kernel_rfl) (fun _ _ _ h => h) (by rfl) hS ?_ ?_
  rotate_left
  · intro wS hSw
    try dsimp only at hSw
    first | (go_simp; done) | (go_simp; with_reducible rfl)
  try simp only [Act.put, List.getElem_toArray, List.getElem_cons_zero, List.getElem_cons_succ, List.setIfInBounds_toArray, List.set_cons_zero, List.set_cons_succ]
  refine upto_step (i := 0) (by kernel_rfl) rfl ?_
  intro K hK
  go_simp
  refine hK _ _ (fun _ => ⟨by (repeat (first | exact Below.refl _ _ | assumption | refine Below.drew ?_ | refine balloc ?_ _ | refine bset ?_ (by simp; omega) _ | refine bset ?_ (by simp) _ | refine bstep ?_ (by assumption))), by simp [go_sem], by simp [go_sem]⟩) ?_
  clear hK K
  try simp only [Act.put, List.getElem_toArray, List.getElem_cons_zero, List.getElem_cons_succ, List.setIfInBounds_toArray, List.set_cons_zero, List.set_cons_succ]
  refine upto_step (i := 3) (by kernel_rfl) rfl ?_
  intro K hK
  refine step_appB _ rfl _ _ rfl (w.heap.size + 2) (.slice (some ⟨w.heap.size + 2, 0, none⟩) 0 0) [] rfl _ d.synced rfl (nil_owns (W := (w.alloc _).alloc _) (Below.drew (Below.refl _ _)) _ (by simp) (by omega)) (appAny_bytes (bytesR.below h1 (by (repeat (first | exact Below.refl _ _ | assumption | refine Below.drew ?_ | refine balloc ?_ _ | refine bset ?_ (by simp; omega) _ | refine bset ?_ (by simp) _ | refine bstep ?_ (by assumption)))))) (by simp; omega) (by simp) ?_
  intro v6 w6 o6 hg6 hB6
  have hw6 := hB6 ((w.alloc _).alloc _) (Below.drew (Below.alloc (Below.refl _ _) (by simp) _))
  have hb6 : Below w.heap.size w w6 := Below.trans (by (repeat (first | exact Below.refl _ _ | assumption | refine Below.drew ?_ | refine balloc ?_ _ | refine bset ?_ (by simp; omega) _ | refine bset ?_ (by simp) _ | refine bstep ?_ (by assumption)))) (hw6.mono (by omega))
  clear hB6 hg6
  obtain ⟨p6, q6, rfl⟩ := owns_form o6
  have g6 := hw6.size
  simp at g6
  refine hK _ _ (fun _ => ⟨hb6, (hw6.cell (p := ⟨w.heap.size, 0, none⟩) (by simp)).trans (by simp [go_sem]), (hw6.cell (p := ⟨w.heap.size, 1, none⟩) (by simp)).trans (by simp [go_sem])⟩) ?_
  clear hK K
  try simp only [Act.put, List.getElem_toArray, List.getElem_cons_zero, List.getElem_cons_succ, List.setIfInBounds_toArray, List.set_cons_zero, List.set_cons_succ]
  refine upto_step (i := 8) (by kernel_rfl) rfl ?_
  intro K hK
  have k2 : AppAny w6 _ (ys).length (bytesC (ys)) := appAny_bytes (bytesR.below V1 hb6)
  refine step_appB _ rfl _ _ rfl (w.heap.size + 2) _ ([] ++ d.synced) rfl _ (ys) rfl o6 k2 (by simp; omega) g6 ?_
  intro v9 w9 o9 hg9 hB9
  have hw9 := hB9 _ hw6
  have hb9 : Below w.heap.size w w9 := Below.trans (by (repeat (first | exact Below.refl _ _ | assumption | refine Below.drew ?_ | refine balloc ?_ _ | refine bset ?_ (by simp; omega) _ | refine bset ?_ (by simp) _ | refine bstep ?_ (by assumption)))) (hw9.mono (by omega))
  clear hB9 hg9 k2 hw6 hb6 o6 g6
  obtain ⟨p9, q9, rfl⟩ := owns_form o9
  have g9 := hw9.size
  simp at g9
  refine hK _ _ (fun _ => ⟨hb9, (hw9.cell (p := ⟨w.heap.size, 0, none⟩) (by simp)).trans (by simp [go_sem]), (hw9.cell (p := ⟨w.heap.size, 1, none⟩) (by simp)).trans (by simp [go_sem])⟩) ?_
  clear hK K
  try simp only [Act.put, List.getElem_toArray, List.getElem_cons_zero, List.getElem_cons_succ, List.setIfInBounds_toArray, List.set_cons_zero, List.set_cons_succ]
  have hS9 : (fun w' => Below w.heap.size w w' ∧ w'.cell? ⟨w.heap.size, 0, none⟩ = some (.slice a1 d.synced.length c1) ∧ w'.cell? ⟨w.heap.size, 1, none⟩ = some (.slice a2 d.loose.length c2)) w9 := ⟨hb9, (hw9.cell (p := ⟨w.heap.size, 0, none⟩) (by simp)).trans (by simp [go_sem]), (hw9.cell (p := ⟨w.heap.size, 1, none⟩) (by simp)).trans (by simp [go_sem])⟩
  have r0 : w9.cell? ⟨w.heap.size + 1, 0, none⟩ = some (.slice none 0 0) := (hw9.cell (p := ⟨w.heap.size + 1, 0, none⟩) (by simp)).trans (by simp [go_sem])
  have r1 : w9.cell? ⟨w.heap.size + 1, 1, none⟩ = some (.slice none 0 0) := (hw9.cell (p := ⟨w.heap.size + 1, 1, none⟩) (by simp)).trans (by simp [go_sem])
  have rf : ∀ o, w9.frozen? ⟨w.heap.size + 1, o, none⟩ = false := fun o => (hw9.frozen (p := ⟨w.heap.size + 1, o, none⟩) (by simp)).trans (by simp [go_sem])
  have HO : Hid (World.ownsRow w9 (w.heap.size + 2) 5 1 _ _ _) := o9
  clear o9 hw9
  refine upto_take (i := 9) (v := ?_) rfl (by kernel_rfl) (by kernel_rfl) (by kernel_rfl) (by kernel_rfl) (fun _ _ _ h => h) (by rfl) hS9 ?_ ?_
  rotate_left
  · intro wS hSw
    try dsimp only at hSw
    first | (go_simp; done) | (go_simp; with_reducible rfl)
  try simp only [Act.put, List.getElem_toArray, List.getElem_cons_zero, List.getElem_cons_succ, List.setIfInBounds_toArray, List.set_cons_zero, List.set_cons_succ]
  refine upto_step (i := 10) (by kernel_rfl) rfl ?_
  intro K hK
  go_simp
  refine hK _ _ (fun h => absurd rfl h) ?_
  clear hK K
  refine upto_done (by kernel_rfl) ?_
  refine NoPanic.normal ?_
  clear hS hS9
  go_wp2
  have ho : bytesR.O w9 (w.heap.size + 2) _ (.slice p9 (d.synced.length + k) q9) (d.synced ++ ys) := ⟨by have h := HO.out; simpa [hl] using h, rfl⟩
  refine bodyPost_ret (v := .agg #[.slice p9 (d.synced.length + k) q9, .slice none 0 0]) ?_ rfl ⟨_, _, rfl, logg_one (bytesR.base (bytesR.set (bytesR.set ho _ (by simp)) _ (by simp)) (by omega)), by (repeat (first | exact Below.refl _ _ | assumption | refine Below.drew ?_ | refine balloc ?_ _ | refine bset ?_ (by simp; omega) _ | refine bset ?_ (by simp) _ | refine bstep ?_ (by assumption)))⟩
  simp [results, Try.results38, go_sem, r0, r1]

end Go.Proofs.Ytfeolikagceohaa

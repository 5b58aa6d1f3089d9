/-
  The program's GetRow.
-/
import Derived.Test.YtaahmmadcdfcpaaGetR
namespace Go.Proofs.Ytaahmmadcdfcpaa
open Go.RowKit Go.Shelf
set_option linter.unusedSectionVars false
variable [DecidableEq Rw] [Inhabited Rw]
set_option linter.unusedVariables false
set_option linter.unusedSimpArgs false
attribute [local go_sem] Oper.semAt_some
attribute [local go_sem] run_store_func

/-- GetRow's own: the key's box N, the answer's box N + 1 -/
def GetC (k : ByteArray) (cd : Int) (tx : ByteArray) (N : Nat) (w W : World) (Y : Nat → Prop) : Prop :=
  (∀ b, b < N + 2 → ¬ Y b) ∧ N + 2 ≤ W.heap.size ∧ W.cell? ⟨N, 0, none⟩ = some (.string k) ∧ W.cell? ⟨N + 1, 0, none⟩ = some (.int .i64 cd) ∧ W.cell? ⟨N + 1, 1, none⟩ = some (.string tx) ∧ (∀ o, W.frozen? ⟨N + 1, o, none⟩ = false) ∧ Below N w W
theorem GetC_mod {k : ByteArray} {cd : Int} {tx : ByteArray} {N : Nat} {w W W' : World} {Y Y' F : Nat → Prop} (h : GetC k cd tx N w W Y) (hm : Mod F W W') (hF : ∀ b, b < N + 2 → ¬ F b) (hY : ∀ b, b < N + 2 → ¬ Y' b) : GetC k cd tx N w W' Y' := by
  obtain ⟨h1, h2, h3, h4, h5, h6, h7⟩ := h
  have hs := hm.size
  refine ⟨hY, by omega, hm.cell h3 (hF _ (by dsimp only; omega)), hm.cell h4 (hF _ (by dsimp only; omega)), hm.cell h5 (hF _ (by dsimp only; omega)), fun o => (hm.frozen (a := ⟨N + 1, o, none⟩) (by dsimp only; omega) (hF _ (by dsimp only; omega))).trans (h6 o), ?_⟩
  exact ⟨hm.os.trans h7.os, hm.tape.trans h7.tape, hm.output.trans h7.output, Nat.le_trans h7.size hs, fun b hb => (hm.block b (by omega) (hF b (by omega))).trans (h7.block b hb)⟩
theorem GetC_stb {β : Type} {k : ByteArray} {N : Nat} {w : World} {p : β → Int × ByteArray → Prop} : Stb (fun (s : β) W Y => ∃ r, p s r ∧ GetC k r.1 r.2 N w W Y) := by
  rintro s W W' Y Y' ⟨r, hp, h⟩ hm hYY hYn
  refine ⟨r, hp, GetC_mod h hm h.1 (fun b hb h2 => ?_)⟩
  rcases (hYn b h2).1 with h3 | h3
  · exact h.1 b hb h3
  · have := h.2.1
    omega

def GetIn (k : ByteArray) (N : Nat) (w : World) (pre : List Rw) (W : World) (Y : Nat → Prop) : Prop := ∃ r : Int × ByteArray, (r = (0, ⟨#[]⟩) ∧ ∀ y ∈ pre, y.key ≠ k) ∧ GetC k r.1 r.2 N w W Y
def GetOut (k : ByteArray) (N : Nat) (w : World) (c : Code) (pre : List Rw) (W : World) (Y : Nat → Prop) : Prop := ∃ r : Int × ByteArray, (c = .ret ∧ ∃ q y, pre = q ++ [y] ∧ y.key = k ∧ (∀ z ∈ q, z.key ≠ k) ∧ r = (0, y.val)) ∧ GetC k r.1 r.2 N w W Y
theorem GetIn_stb {k : ByteArray} {N : Nat} {w : World} : Stb (GetIn k N w) := GetC_stb
theorem GetOut_stb {k : ByteArray} {N : Nat} {w : World} (c : Code) : Stb (GetOut k N w c) := GetC_stb

/-- the answer is written -/
theorem GetC_set {k : ByteArray} {cd cd' : Int} {tx tx' : ByteArray} {N : Nat} {w W : World} {Y : Nat → Prop} (h : GetC k cd tx N w W Y) :
    GetC k cd' tx' N w ((W.setCell ⟨N + 1, 0, none⟩ (.int .i64 cd')).setCell ⟨N + 1, 1, none⟩ (.string tx')) Y ∧ Mod (fun b => b = N + 1) W ((W.setCell ⟨N + 1, 0, none⟩ (.int .i64 cd')).setCell ⟨N + 1, 1, none⟩ (.string tx')) := by
  obtain ⟨h1, h2, h3, h4, h5, h6, h7⟩ := h
  have m1 : Mod (fun b => b = N + 1) W (W.setCell ⟨N + 1, 0, none⟩ (.int .i64 cd')) := Mod.of_set W ⟨N + 1, 0, none⟩ (.int .i64 cd')
  have m2 : Mod (fun b => b = N + 1) (W.setCell ⟨N + 1, 0, none⟩ (.int .i64 cd')) ((W.setCell ⟨N + 1, 0, none⟩ (.int .i64 cd')).setCell ⟨N + 1, 1, none⟩ (.string tx')) := Mod.of_set _ ⟨N + 1, 1, none⟩ (.string tx')
  have m := m1.trans m2
  have hs := m.size
  have a1 : (W.setCell ⟨N + 1, 0, none⟩ (.int .i64 cd')).cell? ⟨N + 1, 1, none⟩ = some (.string tx) := (set_other (by simp)).trans h5
  have a0 : (W.setCell ⟨N + 1, 0, none⟩ (.int .i64 cd')).cell? ⟨N + 1, 0, none⟩ = some (.int .i64 cd') := set_same h4
  refine ⟨⟨h1, by omega, m.cell h3 (by dsimp only; omega), (set_other (by simp)).trans a0, set_same a1, fun o => by rw [World.frozen?_setCell, World.frozen?_setCell]; exact h6 o, ?_⟩, m⟩
  exact ⟨m.os.trans h7.os, m.tape.trans h7.tape, m.output.trans h7.output, Nat.le_trans h7.size hs, fun b hb => (m.block b (by omega) (by omega)).trans (h7.block b hb)⟩
/-- .. and the book-keeping is shut -/
theorem GetC_put {k : ByteArray} {cd : Int} {tx : ByteArray} {N D : Nat} {w W : World} {Y : Nat → Prop} (h : GetC k cd tx N w W Y) (hD : N + 2 ≤ D) (o : Obj) : GetC k cd tx N w (W.putObj D o) Y :=
  GetC_mod h (mod_put W D o) (fun b hb e => by omega) h.1

theorem find_firstR {L : List Rw} {k : ByteArray} {q : List Rw} {r : Rw} (hp : q ++ [r] <+: L) (hr : r.key = k) (hq : ∀ y ∈ q, y.key ≠ k) : L.find? (fun r => decide (r.key = k)) = some r := by
  obtain ⟨t, rfl⟩ := hp
  rw [List.append_assoc, List.find?_append, List.find?_eq_none.2 (fun y hy => by simpa using hq y hy), Option.none_or, List.singleton_append, List.find?_cons_of_pos (by simpa using hr)]

set_option maxRecDepth 100000 in
set_option maxHeartbeats 4000000 in
theorem implGetRow_any (x : Value) (xs : List Rw) (k : ByteArray) (v : Int) (w : World) (hx : RowsV w x xs) :
    Calls Try.prog 11 #[x, .string k, .int .i64 v] w fun e w' => e = .returned (.agg #[.int .i64 (getCode xs k v), .string (getText xs k v)]) ∧ Below w.heap.size w w' := by
  have hX := hx
  obtain ⟨ax, cx, rfl, hcx, hmx, hx⟩ := hx
  clear hx
  have HX : Hid (RowsV w (.slice ax xs.length cx) xs) := hX
  generalize hN : xs.length = n at *
  have HN : Hid (xs.length = n) := hN
  clear hN
  refine (callsIn_wide (n := 0)).1 ?_
  refine callsIn_of_wp_marks Try.func11 rfl trivial ?_ rfl
  simp only [Try.ntmps11, List.size_toArray, List.length_cons, List.length_nil, Nat.reduceAdd, Nat.reduceSub, Array.replicate_succ, Array.replicate_zero, List.push_toArray, List.append_toArray, List.nil_append, List.cons_append]
  gi_wp2
  refine ⟨trivial, rfl, (callsIn_wide.2 (implTableFault_any _ xs _ (RowsV_below hX (by (repeat (first | exact Below.refl _ _ | assumption | refine Below.drew ?_ | refine balloc ?_ _ | refine bset ?_ (by simp; omega) _ | refine bset ?_ (by simp) _ | refine bstep ?_ (by assumption))))))).mono ?_⟩
  rintro e w1 ⟨rfl, hb1⟩
  have g0 : w1.cell? ⟨w.heap.size, 0, none⟩ = some (.string k) := cell_keep hb1 (by simp [go_sem])
  have g1 : w1.cell? ⟨w.heap.size + 1, 0, none⟩ = some (.int .i64 0) := cell_keep hb1 (by simp [go_sem])
  have g2 : w1.cell? ⟨w.heap.size + 1, 1, none⟩ = some (.string ⟨#[]⟩) := cell_keep hb1 (by simp [go_sem])
  have gf : ∀ o, w1.frozen? ⟨w.heap.size + 1, o, none⟩ = false := fun o => by rw [(bcell hb1).2 _ _ (by simp)]; simp [go_sem]
  have gz := hb1.size
  simp only [World.size_alloc] at gz
  have hB1 : Below w.heap.size w w1 := by (repeat (first | exact Below.refl _ _ | assumption | refine Below.drew ?_ | refine balloc ?_ _ | refine bset ?_ (by simp; omega) _ | refine bset ?_ (by simp) _ | refine bstep ?_ (by assumption)))
  clear hb1
  by_cases h0 : tabF xs = 0
  rotate_left
  · have E1 : Hid (getCode xs k v = tabF xs) := by rw [Hid]; unfold getCode; rw [if_neg h0]
    have E2 : Hid (getText xs k v = ⟨#[]⟩) := by rw [Hid]; unfold getText; rw [if_neg h0]
    have h0' : ((tabF xs : Int) == 0) = false := by rw [beq_eq_false_iff_ne]; exact h0
    generalize tabF xs = c at h0 h0' E1 ⊢
    gi_wp2
    refine ⟨.agg #[.int .i64 c, .string ⟨#[]⟩], by simp [results, Try.results11, go_sem, g1, g2, gf], ?_⟩
    exact ⟨by rw [E1.out, E2.out], by (repeat (first | exact Below.refl _ _ | assumption | refine Below.drew ?_ | refine balloc ?_ _ | refine bset ?_ (by simp; omega) _ | refine bset ?_ (by simp) _ | refine bstep ?_ (by assumption)))⟩
  have HC : Hid (getCode xs k v = ((getRow xs k v).map (fun _ => (0 : Int))).getD 4) := by rw [Hid]; unfold getCode; rw [if_pos h0]
  have HT : Hid (getText xs k v = ((getRow xs k v).map (fun r => r.val)).getD ⟨#[]⟩) := by rw [Hid]; unfold getText; rw [if_pos h0]
  have HG : Hid ((living (lastL v xs)).find? (fun r => decide (r.key = k)) = getRow xs k v) := living_last (sorted_of h0) v k
  have hlen := (tabF_all h0).1
  rw [h0]
  gi_wp2
  refine ⟨trivial, rfl, (callsIn_wide.2 (tableOf_any _ _ _ _)).mono ?_⟩
  rintro e w2 ⟨rfl, hb2⟩
  have hM12 := Mod.of_below (F := fun _ => False) hb2
  unfold cmpF
  gi_wp2
  refine ⟨trivial, rfl, (callsIn_wide.2 (livingAt_any _ _ _ _ _)).mono ?_⟩
  rintro e w3 ⟨rfl, hw3⟩
  have hM23 : Mod (fun _ => False) w2 w3 := by rw [hw3]; exact (mod_alloc _ _ _).alloc _
  have s3 : w3.heap.size = w2.heap.size + 2 := by rw [hw3]; simp
  have d1 : w3.cell? ⟨w2.heap.size, 0, none⟩ = some (.slice ax n cx) := by rw [hw3]; simp [go_sem]
  have d2 : w3.cell? ⟨w2.heap.size, 1, none⟩ = some cmpF := by rw [hw3]; simp [go_sem]
  have d3 : w3.cell? ⟨w2.heap.size + 1, 0, none⟩ = some (.int .i64 v) := by rw [hw3]; simp [go_sem]
  clear hw3
  have z12 := hM12.size
  have hM13 := hM12.trans hM23
  have hB3 : Below w.heap.size w w3 := bstep (bstep hB1 hb2) ⟨hM23.os, hM23.tape, hM23.output, hM23.size, fun b hb => hM23.block b hb (fun h => h)⟩
  obtain ⟨M, hM⟩ : ∃ M, w2.heap.size = M := ⟨_, rfl⟩
  have hgc : GetC k 0 ⟨#[]⟩ w.heap.size w w3 (fun _ => False) := GetC_mod (W := w1) (Y := fun _ => False) ⟨fun _ _ h => h, by omega, g0, g1, g2, gf, hB1⟩ hM13 (fun _ _ h => h) (fun _ _ h => h)
  obtain ⟨N, hNN⟩ : ∃ N, w.heap.size = N := ⟨_, rfl⟩
  rw [hM] at d1 d2 d3 s3 z12 ⊢
  rw [hNN] at hgc gz ⊢
  have hRa : ∀ b, (b < N ∨ b = M ∨ b = M + 1) → b < w3.heap.size := fun b h => by omega
  have hT3 : TabAt (fun b => b < N ∨ b = M ∨ b = M + 1) w3 (.slice ax n cx) xs := by
    have h := TabAt.of (R := fun b => b < N ∨ b = M ∨ b = M + 1) HX.out (fun b hb => .inl (by omega))
    exact h.mod (F := fun b => N ≤ b ∧ b ≠ M ∧ b ≠ M + 1) ⟨hB3.os, hB3.tape, hB3.output, hB3.size, fun b hb hn => hB3.block b (by omega)⟩ (fun b hb h => by omega)
  have hseq := livingAt_seq M (M + 1) (.slice ax n cx) xs v (fun b => b < N ∨ b = M ∨ b = M + 1) w3 hRa d1 d2 d3 (.inr (.inl rfl)) (.inr (.inr rfl)) hT3 hlen
  gi_wp2
  refine wp_rangeX (gf := 71) rfl (enters_of Try.func71 (by kernel_rfl) rfl) hseq hRa
    (GetIn k N w) (GetOut k N w) GetIn_stb GetOut_stb (fun _ => False) (fun _ h => h.elim) ⟨_, ⟨rfl, fun y hy => by simp at hy⟩, hgc⟩
    (fun x => RowBox (N + 2) (fun B => { tmps := #[.slice ax n cx, .string k, .int .i64 v, undef, .pointer (some ⟨N, 0, none⟩), undef, .pointer (some ⟨N + 1, 0, none⟩), .int .i64 0, .pointer (some ⟨B, 0, none⟩), .slice ax n cx, .int .i64 0, .int .i64 0, .bool false, undef, undef, .slice ax n cx, .agg #[.slice ax n cx, .func (.func 70) #[] #[]], .int .i64 v, .func (.func 71) #[] #[.pointer (some ⟨M, 0, none⟩), .pointer (some ⟨M + 1, 0, none⟩)], .agg #[.string x.key, .int .i64 x.ver, .string x.val, .bool x.gone], undef, undef, undef, undef, undef, undef, undef, undef], defers := [] }) x)
    (fun x a' => RowBox_stb _ _ x a') ?assign ?body ?done ?stop
  case assign =>
    rintro l2 pre x W3 Y K ⟨_, _, hgc⟩ hYl hYa hK
    unfold rowV
    gi_wp2
    refine hK _ _ (mod_alloc _ _ _) ⟨W3.heap.size, hgc.2.1, by simp, by unfold rowCells; simp [go_sem], fun h => ?_, rfl⟩
    have := hYa _ h
    omega
  case body =>
    rintro l2 pre x a' W3 Y hYl hYa ⟨_, ⟨rfl, hne⟩, hgc⟩ ⟨B, hlo, hB, hr, hYB, rfl⟩ hpre
    obtain ⟨r0, r1, r2, r3⟩ := hr
    simp only [Nat.zero_add] at r1 r2 r3
    have hgc2 := hgc
    obtain ⟨u1, u2, u3, u4, u5, u6, u7⟩ := hgc
    dsimp only at u4 u5
    have hNB : B ≠ N + 1 := by omega
    have hNB2 : ¬ N + 1 = B := by omega
    by_cases hk : x.key = k
    · have hd : x.key.toList = k.toList := by rw [hk]
      have hd0 : (x.key.toList == k.toList) = true := by rw [hk]; simp
      have HK : Hid (x.key = k) := hk
      have HQ : Hid (∀ y ∈ pre, y.key ≠ k) := hne
      clear hne hk
      gi_wp2
      have hset := GetC_set (cd' := 0) (tx' := x.val) hgc2
      refine ⟨hset.2.mono (fun b h => ?_), (0, x.val), ⟨rfl, pre, x, rfl, HK.out, HQ.out, rfl⟩, hset.1⟩
      rw [h]
      rintro (h2 | h2)
      · omega
      · exact u1 _ (by omega) h2
    · have hd : ¬ x.key.toList = k.toList := by rw [tl_inj]; exact hk
      have hd0 : (x.key.toList == k.toList) = false := by rw [beq_eq_false_iff_ne, Ne, tl_inj]; exact hk
      have HQ : Hid (∀ y ∈ pre ++ [x], y.key ≠ k) := by
        intro y hy
        rcases List.mem_append.1 hy with h | h
        · exact hne y h
        · rw [List.mem_singleton] at h
          rw [h]
          exact hk
      gi_wp2
      exact ⟨Mod.refl _ _, _, ⟨rfl, HQ.out⟩, hgc2⟩
  case done =>
    rintro D W3 Y hD hYD ⟨_, ⟨rfl, hne⟩, hgc⟩ hdef
    have hfin : getRow xs k v = none := by
      rw [← HG.out, List.find?_eq_none]
      intro y hy
      simpa using hne y hy
    have E1 : Hid (getCode xs k v = 4) := by rw [Hid]; rw [HC.out, hfin]; rfl
    have E2 : Hid (getText xs k v = ⟨#[]⟩) := by rw [Hid]; rw [HT.out, hfin]; rfl
    have hset := GetC_put (D := D) (GetC_set (cd' := 4) (tx' := ⟨#[]⟩) hgc).1 (by omega) (.deferred none)
    have hdef2 : ((W3.setCell ⟨N + 1, 0, none⟩ (.int .i64 4)).setCell ⟨N + 1, 1, none⟩ (.string ⟨#[]⟩)).heap[D]? = some (.deferred (some [])) := ((GetC_set (cd' := 4) (tx' := ⟨#[]⟩) hgc).2.block D (Array.getElem?_eq_some_iff.1 hdef).1 (by omega)).trans hdef
    obtain ⟨u1, u2, u3, u4, u5, u6, u7⟩ := hgc
    dsimp only at u4 u5
    obtain ⟨y1, y2, y3, y4, y5, y6, y7⟩ := hset
    gi_wp2
    refine ⟨by simp, .inl ⟨_, _, rfl, run_takeDeferred hdef2, ?_⟩⟩
    refine ⟨.agg #[.int .i64 4, .string ⟨#[]⟩], by simp [results, Try.results11, go_sem, y4, y5], ?_⟩
    try rw [hNN]
    exact ⟨by rw [E1.out, E2.out], y7⟩
  case stop =>
    rintro D c pre W3 Y hD hYD hpre ⟨_, ⟨rfl, q, y, rfl, hyk, hq, rfl⟩, hgc⟩ hdef
    have hfin : getRow xs k v = some y := by
      rw [← HG.out]
      exact find_firstR hpre hyk hq
    have E1 : Hid (getCode xs k v = 0) := by rw [Hid]; rw [HC.out, hfin]; rfl
    have E2 : Hid (getText xs k v = y.val) := by rw [Hid]; rw [HT.out, hfin]; rfl
    obtain ⟨y1, y2, y3, y4, y5, y6, y7⟩ := GetC_put (D := D) hgc (by omega) (.deferred none)
    dsimp only at y4 y5
    gi_wp2
    refine ⟨by simp, .inl ⟨_, _, rfl, run_takeDeferred hdef, ?_⟩⟩
    refine ⟨.agg #[.int .i64 0, .string y.val], by simp [results, Try.results11, go_sem, y4, y5], ?_⟩
    try rw [hNN]
    exact ⟨by rw [E1.out, E2.out], y7⟩

end Go.Proofs.Ytaahmmadcdfcpaa

import Derived.Test.YtdfapehonegeeaaGreatBndEngineFaultLaw11
import Derived.Test.YtdfapehonegeeaaGreatBndEngineFaultLaw5
import Derived.Test.YtdfapehonegeeaaGreatBndEngineFaultLaw32
import Derived.Test.YtdfapehonegeeaaGreatBndEngineFaultLaw31

/-
  GetRow, on both sides.
-/
namespace Go.Proofs.YtdfapehonegeeaaGreat
open Go.RowKit Go.Shelf
set_option linter.unusedSectionVars false
variable [DecidableEq Rw] [Inhabited Rw]
set_option linter.unusedVariables false
set_option linter.unusedSimpArgs false

def getRow (xs : List Rw) (k : ByteArray) (v : Int) : Option Rw := (getAt xs k v).filter (fun r => !r.gone)
def getCode (xs : List Rw) (k : ByteArray) (v : Int) : Int := if tabF xs = 0 then ((getRow xs k v).map (fun _ => (0 : Int))).getD 4 else tabF xs
def getText (xs : List Rw) (k : ByteArray) (v : Int) : ByteArray := if tabF xs = 0 then ((getRow xs k v).map (fun r => r.val)).getD ⟨#[]⟩ else ⟨#[]⟩

section
attribute [local go_sem ↓] Go.wp_at_zero Go.wp_at_succ

theorem getAt_first {xs : List Rw} {k : ByteArray} {v : Int} {m : Nat} (hm : m < xs.length) (hpre : ∀ j, j < m → ¬ ((xs.getD j default).key = k ∧ (xs.getD j default).ver ≤ v)) (h : (xs.getD m default).key = k ∧ (xs.getD m default).ver ≤ v) : getAt xs k v = some (xs.getD m default) := by
  unfold getAt
  rw [List.find?_eq_some_iff_getElem]
  have hx : xs.getD m default = xs[m] := by simp [List.getD, hm]
  rw [hx] at h ⊢
  refine ⟨by simpa using h, m, hm, rfl, fun j hj => ?_⟩
  have := hpre j hj
  rw [show xs.getD j default = xs[j] by simp [List.getD, show j < xs.length by omega]] at this
  simp only [Bool.not_eq_true', decide_eq_false_iff_not]
  exact this
theorem getAt_none {xs : List Rw} {k : ByteArray} {v : Int} (hpre : ∀ j, j < xs.length → ¬ ((xs.getD j default).key = k ∧ (xs.getD j default).ver ≤ v)) : getAt xs k v = none := by
  unfold getAt
  rw [List.find?_eq_none]
  intro y hy
  obtain ⟨i, hi, rfl⟩ := List.mem_iff_getElem.1 hy
  have := hpre i hi
  rw [show xs.getD i default = xs[i] by simp [List.getD, hi]] at this
  simpa using this

set_option maxHeartbeats 2000000 in
theorem l5Get_any (x : Value) (xs : List Rw) (k : ByteArray) (v : Int) (w : World) (hx : RowsV w x xs) :
    Calls Tryz.prog 136 #[x, .string k, .int .i64 v] w fun e w' => (∃ i : Int, e = .returned (.int .i64 i) ∧ ((i = -1 ∧ getRow xs k v = none) ∨ ∃ m : Nat, m < xs.length ∧ i = m ∧ getRow xs k v = some (xs.getD m default))) ∧ w' = w := by
  obtain ⟨ax, cx, rfl, hcx, hmx, hx⟩ := hx
  unfold maxLen at hmx
  have HF : Hid (∀ m, m < xs.length → (∀ j, j < m → ¬ ((xs.getD j default).key = k ∧ (xs.getD j default).ver ≤ v)) → ((xs.getD m default).key = k ∧ (xs.getD m default).ver ≤ v) → getAt xs k v = some (xs.getD m default)) := fun m hm h1 h2 => getAt_first hm h1 h2
  have HN : Hid ((∀ j, j < xs.length → ¬ ((xs.getD j default).key = k ∧ (xs.getD j default).ver ≤ v)) → getAt xs k v = none) := getAt_none
  generalize xs.length = n at *
  go_enter Tryz.func136, Tryz.ntmps136
  go_wp2
  go_loopw [7] (fun i w' => ∃ j : Nat, j ≤ n ∧ i = .int .i64 j ∧ Hid (∀ i, i < j → ¬ ((xs.getD i default).key = k ∧ (xs.getD i default).ver ≤ v)) ∧ w' = w) (fun i _ => n - (intOf i).toNat)
  case atStart => exact ⟨0, Nat.zero_le _, rfl, fun j h => absurd h (Nat.not_lt_zero _), rfl⟩
  case round =>
    obtain ⟨j, hj, rfl, HP, rfl⟩ := hrel
    by_cases hlt : j < n
    · obtain ⟨b, o, rfl, hc⟩ := hx j hlt
      have HF2 : Hid (((xs.getD j default).key = k ∧ (xs.getD j default).ver ≤ v) → getAt xs k v = some (xs.getD j default)) := fun h => HF.out j hlt HP.out h
      obtain ⟨q, hq⟩ : ∃ q, q = xs.getD j default := ⟨_, rfl⟩
      have HQ : Hid (q = xs.getD j default) := hq
      rw [← hq] at hc HF2
      obtain ⟨c0, c1, c2, c3⟩ := hc
      clear hq hx HF HN
      by_cases hk : q.key = k
      · have hd1 : (q.key.toList == k.toList) = true := by rw [hk]; simp
        have hd1' : q.key.toList = k.toList := by rw [hk]
        by_cases hv : q.ver ≤ v
        · have hd2 : decide (q.ver ≤ v) = true := decide_eq_true hv
          have HE : Hid (getAt xs k v = some q) := HF2.out ⟨hk, hv⟩
          cases hg : q.gone
          · rw [hg] at c3
            go_wp2
            go_ret
            refine ⟨⟨(j : Int), rfl, .inr ⟨j, hlt, rfl, ?_⟩⟩, rfl⟩
            unfold getRow
            rw [HE.out, ← HQ.out]
            simp [Option.filter, hg]
          · rw [hg] at c3
            go_wp2
            go_ret
            refine ⟨⟨-1, rfl, .inl ⟨rfl, ?_⟩⟩, rfl⟩
            unfold getRow
            rw [HE.out]
            simp [Option.filter, hg]
        · have hd2 : decide (q.ver ≤ v) = false := decide_eq_false hv
          go_wp2
          refine ⟨⟨j + 1, by omega, by go_num, fun i hi => ?_, trivial⟩, by simp [intOf]; omega⟩
          by_cases hij : i < j
          · exact HP.out i hij
          · have : i = j := by omega
            subst this
            rw [← HQ.out]
            exact fun h => hv h.2
      · have hd1 : (q.key.toList == k.toList) = false := by rw [beq_eq_false_iff_ne, Ne, tl_inj]; exact hk
        have hd1' : ¬ q.key.toList = k.toList := by rw [tl_inj]; exact hk
        go_wp2
        refine ⟨⟨j + 1, by omega, by go_num, fun i hi => ?_, trivial⟩, by simp [intOf]; omega⟩
        by_cases hij : i < j
        · exact HP.out i hij
        · have : i = j := by omega
          subst this
          rw [← HQ.out]
          exact fun h => hk h.1
    · have hjn : j = n := by omega
      subst hjn
      have HE : Hid (getAt xs k v = none) := HN.out HP.out
      go_wp2
      go_ret
      refine ⟨⟨-1, rfl, .inl ⟨rfl, ?_⟩⟩, rfl⟩
      unfold getRow
      rw [HE.out]
      rfl

set_option maxHeartbeats 2000000 in
theorem specGetRow_any (x : Value) (xs : List Rw) (k : ByteArray) (v : Int) (w : World) (hx : RowsV w x xs) :
    Calls Tryz.prog 86 #[x, .string k, .int .i64 v] w fun e w' => e = .returned (.agg #[.int .i64 (getCode xs k v), .string (getText xs k v)]) ∧ Below w.heap.size w w' := by
  have hX := hx
  obtain ⟨ax, cx, rfl, hcx, hmx, hx⟩ := hx
  unfold maxLen at hmx
  have HL : Hid (∀ m, m < xs.length → ∃ b o, ax = some ⟨b, o, none⟩ ∧ rowCells w b (o + m * 4) (xs.getD m default)) := hx
  clear hx
  generalize hN : xs.length = n at *
  have HN : Hid (xs.length = n) := hN
  clear hN
  go_enter Tryz.func86, Tryz.ntmps86
  go_wp2_with fail
  refine (specTableFault_any _ xs _ (RowsV_below hX (by (repeat (first | exact Below.refl _ _ | assumption | refine Below.drew ?_ | refine balloc ?_ _ | refine bset ?_ (by simp; omega) _ | refine bset ?_ (by simp) _ | refine bstep ?_ (by assumption)))))).mono ?_
  rintro e w1 ⟨rfl, hb1⟩
  obtain ⟨g0, g1, gf, gz⟩ := boxNew2 hb1 rfl
  have hB1 : Below w.heap.size w w1 := by (repeat (first | exact Below.refl _ _ | assumption | refine Below.drew ?_ | refine balloc ?_ _ | refine bset ?_ (by simp; omega) _ | refine bset ?_ (by simp) _ | refine bstep ?_ (by assumption)))
  have hX1 := RowsV_below hX hB1
  clear hb1 hX
  by_cases h0 : tabF xs = 0
  rotate_left
  · have E1 : Hid (getCode xs k v = tabF xs) := by rw [Hid]; unfold getCode; rw [if_neg h0]
    have E2 : Hid (getText xs k v = ⟨#[]⟩) := by rw [Hid]; unfold getText; rw [if_neg h0]
    have h0' : ((tabF xs : Int) == 0) = false := by rw [beq_eq_false_iff_ne]; exact h0
    have HX : Hid (tabF xs = tabF xs) := rfl
    generalize tabF xs = c at h0 h0' E1 ⊢
    go_wp2
    exact bodyPost_ret (v := .agg #[.int .i64 c, .string ⟨#[]⟩]) (by simp [results, Tryz.results86, go_sem, g0, g1, gf]) rfl ⟨by rw [E1.out, E2.out], by (repeat (first | exact Below.refl _ _ | assumption | refine Below.drew ?_ | refine balloc ?_ _ | refine bset ?_ (by simp; omega) _ | refine bset ?_ (by simp) _ | refine bstep ?_ (by assumption)))⟩
  · have HC : Hid (getCode xs k v = ((getRow xs k v).map (fun _ => (0 : Int))).getD 4) := by rw [Hid]; unfold getCode; rw [if_pos h0]
    have HT : Hid (getText xs k v = ((getRow xs k v).map (fun r => r.val)).getD ⟨#[]⟩) := by rw [Hid]; unfold getText; rw [if_pos h0]
    rw [h0]
    go_wp2_with fail
    refine (l5Get_any _ xs k v _ hX1).mono ?_
    rintro e w2 ⟨⟨i, rfl, hi⟩, hw2⟩
    obtain rfl : w1 = w2 := hw2.symm
    rcases hi with ⟨rfl, hg⟩ | ⟨m, hm, rfl, hg⟩
    · have E1 : Hid (getCode xs k v = 4) := by rw [Hid]; rw [HC.out, hg]; rfl
      have E2 : Hid (getText xs k v = ⟨#[]⟩) := by rw [Hid]; rw [HT.out, hg]; rfl
      go_wp2
      exact bodyPost_ret (v := .agg #[.int .i64 4, .string ⟨#[]⟩]) (by simp [results, Tryz.results86, go_sem, g0, g1, gf]) rfl ⟨by rw [E1.out, E2.out], by (repeat (first | exact Below.refl _ _ | assumption | refine Below.drew ?_ | refine balloc ?_ _ | refine bset ?_ (by simp; omega) _ | refine bset ?_ (by simp) _ | refine bstep ?_ (by assumption)))⟩
    · have E1 : Hid (getCode xs k v = 0) := by rw [Hid]; rw [HC.out, hg]; rfl
      have E2 : Hid (getText xs k v = (xs.getD m default).val) := by rw [Hid]; rw [HT.out, hg]; rfl
      rw [HN.out] at hm
      obtain ⟨b, o, rfl, hc⟩ := HL.out m hm
      generalize xs.getD m default = q at hc E2
      obtain ⟨c0, c1, c2, c3⟩ := rowCells_below hB1 hc
      have hi1 : ¬ ((m : Int) < 0) := by omega
      clear hg HC HT HL
      go_wp2
      exact bodyPost_ret (v := .agg #[.int .i64 0, .string q.val]) (by simp [results, Tryz.results86, go_sem, g0, g1, gf]) rfl ⟨by rw [E1.out, E2.out], by (repeat (first | exact Below.refl _ _ | assumption | refine Below.drew ?_ | refine balloc ?_ _ | refine bset ?_ (by simp; omega) _ | refine bset ?_ (by simp) _ | refine bstep ?_ (by assumption)))⟩

set_option maxHeartbeats 400000 in
theorem eqTextResult_any (a : Int) (b : ByteArray) (c : Int) (d : ByteArray) (w : World) :
    Calls Tryz.prog 27 #[.agg #[.int .i64 a, .string b], .agg #[.int .i64 c, .string d]] w fun e w' => e = .returned (.bool (decide (a = c ∧ b = d))) ∧ Below w.heap.size w w' := by
  go_enter Tryz.func27, Tryz.ntmps27
  go_wp2
  all_goals
    go_ret
    exact ⟨by simp_all [tl_inj], balloc (balloc (Below.refl _ _) _) _⟩
end

end Go.Proofs.YtdfapehonegeeaaGreat

/-
  The program's GetRow.
-/
namespace Go.Proofs.YtdfapehonegeeaaGreat
open Go.RowKit Go.Shelf
set_option linter.unusedSectionVars false
variable [DecidableEq Rw] [Inhabited Rw]
set_option linter.unusedVariables false
set_option linter.unusedSimpArgs false
attribute [local go_sem] Oper.semAt_some
attribute [local go_sem] run_store_func

/-- GetRow's own: the key's box N, the answer's box N + 1 -/
def GetC (k : ByteArray) (cd : Int) (tx : ByteArray) (N : Nat) (w W : World) (Y : Nat → Prop) : Prop :=
  (∀ b, b < N + 2 → ¬ Y b) ∧ N + 2 ≤ W.heap.size ∧ W.cell? ⟨N, 0, none⟩ = some (.string k) ∧ W.cell? ⟨N + 1, 0, none⟩ = some (.int .i64 cd) ∧ W.cell? ⟨N + 1, 1, none⟩ = some (.string tx) ∧ (∀ o, W.frozen? ⟨N + 1, o, none⟩ = false) ∧ Below N w W
theorem GetC_mod {k : ByteArray} {cd : Int} {tx : ByteArray} {N : Nat} {w W W' : World} {Y Y' F : Nat → Prop} (h : GetC k cd tx N w W Y) (hm : Mod F W W') (hF : ∀ b, b < N + 2 → ¬ F b) (hY : ∀ b, b < N + 2 → ¬ Y' b) : GetC k cd tx N w W' Y' := by
  obtain ⟨h1, h2, h3, h4, h5, h6, h7⟩ := h
  have hs := hm.size
  refine ⟨hY, by omega, hm.cell h3 (hF _ (by dsimp only; omega)), hm.cell h4 (hF _ (by dsimp only; omega)), hm.cell h5 (hF _ (by dsimp only; omega)), fun o => (hm.frozen (a := ⟨N + 1, o, none⟩) (by dsimp only; omega) (hF _ (by dsimp only; omega))).trans (h6 o), ?_⟩
  exact ⟨hm.os.trans h7.os, hm.tape.trans h7.tape, hm.output.trans h7.output, Nat.le_trans h7.size hs, fun b hb => (hm.block b (by omega) (hF b (by omega))).trans (h7.block b hb)⟩
theorem GetC_stb {β : Type} {k : ByteArray} {N : Nat} {w : World} {p : β → Int × ByteArray → Prop} : Stb (fun (s : β) W Y => ∃ r, p s r ∧ GetC k r.1 r.2 N w W Y) := by
  rintro s W W' Y Y' ⟨r, hp, h⟩ hm hYY hYn
  refine ⟨r, hp, GetC_mod h hm h.1 (fun b hb h2 => ?_)⟩
  rcases (hYn b h2).1 with h3 | h3
  · exact h.1 b hb h3
  · have := h.2.1
    omega

def GetIn (k : ByteArray) (N : Nat) (w : World) (pre : List Rw) (W : World) (Y : Nat → Prop) : Prop := ∃ r : Int × ByteArray, (r = (0, ⟨#[]⟩) ∧ ∀ y ∈ pre, y.key ≠ k) ∧ GetC k r.1 r.2 N w W Y
def GetOut (k : ByteArray) (N : Nat) (w : World) (c : Code) (pre : List Rw) (W : World) (Y : Nat → Prop) : Prop := ∃ r : Int × ByteArray, (c = .ret ∧ ∃ q y, pre = q ++ [y] ∧ y.key = k ∧ (∀ z ∈ q, z.key ≠ k) ∧ r = (0, y.val)) ∧ GetC k r.1 r.2 N w W Y
theorem GetIn_stb {k : ByteArray} {N : Nat} {w : World} : Stb (GetIn k N w) := GetC_stb
theorem GetOut_stb {k : ByteArray} {N : Nat} {w : World} (c : Code) : Stb (GetOut k N w c) := GetC_stb

/-- the answer is written -/
theorem GetC_set {k : ByteArray} {cd cd' : Int} {tx tx' : ByteArray} {N : Nat} {w W : World} {Y : Nat → Prop} (h : GetC k cd tx N w W Y) :
    GetC k cd' tx' N w ((W.setCell ⟨N + 1, 0, none⟩ (.int .i64 cd')).setCell ⟨N + 1, 1, none⟩ (.string tx')) Y ∧ Mod (fun b => b = N + 1) W ((W.setCell ⟨N + 1, 0, none⟩ (.int .i64 cd')).setCell ⟨N + 1, 1, none⟩ (.string tx')) := by
  obtain ⟨h1, h2, h3, h4, h5, h6, h7⟩ := h
  have m1 : Mod (fun b => b = N + 1) W (W.setCell ⟨N + 1, 0, none⟩ (.int .i64 cd')) := Mod.of_set W ⟨N + 1, 0, none⟩ (.int .i64 cd')
  have m2 : Mod (fun b => b = N + 1) (W.setCell ⟨N + 1, 0, none⟩ (.int .i64 cd')) ((W.setCell ⟨N + 1, 0, none⟩ (.int .i64 cd')).setCell ⟨N + 1, 1, none⟩ (.string tx')) := Mod.of_set _ ⟨N + 1, 1, none⟩ (.string tx')
  have m := m1.trans m2
  have hs := m.size
  have a1 : (W.setCell ⟨N + 1, 0, none⟩ (.int .i64 cd')).cell? ⟨N + 1, 1, none⟩ = some (.string tx) := (set_other (by simp)).trans h5
  have a0 : (W.setCell ⟨N + 1, 0, none⟩ (.int .i64 cd')).cell? ⟨N + 1, 0, none⟩ = some (.int .i64 cd') := set_same h4
  refine ⟨⟨h1, by omega, m.cell h3 (by dsimp only; omega), (set_other (by simp)).trans a0, set_same a1, fun o => by rw [World.frozen?_setCell, World.frozen?_setCell]; exact h6 o, ?_⟩, m⟩
  exact ⟨m.os.trans h7.os, m.tape.trans h7.tape, m.output.trans h7.output, Nat.le_trans h7.size hs, fun b hb => (m.block b (by omega) (by omega)).trans (h7.block b hb)⟩
/-- .. and the book-keeping is shut -/
theorem GetC_put {k : ByteArray} {cd : Int} {tx : ByteArray} {N D : Nat} {w W : World} {Y : Nat → Prop} (h : GetC k cd tx N w W Y) (hD : N + 2 ≤ D) (o : Obj) : GetC k cd tx N w (W.putObj D o) Y :=
  GetC_mod h (mod_put W D o) (fun b hb e => by omega) h.1

theorem find_firstR {L : List Rw} {k : ByteArray} {q : List Rw} {r : Rw} (hp : q ++ [r] <+: L) (hr : r.key = k) (hq : ∀ y ∈ q, y.key ≠ k) : L.find? (fun r => decide (r.key = k)) = some r := by
  obtain ⟨t, rfl⟩ := hp
  rw [List.append_assoc, List.find?_append, List.find?_eq_none.2 (fun y hy => by simpa using hq y hy), Option.none_or, List.singleton_append, List.find?_cons_of_pos (by simpa using hr)]

set_option maxRecDepth 100000 in
set_option maxHeartbeats 4000000 in
theorem implGetRow_any (x : Value) (xs : List Rw) (k : ByteArray) (v : Int) (w : World) (hx : RowsV w x xs) :
    Calls Tryz.prog 87 #[x, .string k, .int .i64 v] w fun e w' => e = .returned (.agg #[.int .i64 (getCode xs k v), .string (getText xs k v)]) ∧ Below w.heap.size w w' := by
  have hX := hx
  obtain ⟨ax, cx, rfl, hcx, hmx, hx⟩ := hx
  clear hx
  have HX : Hid (RowsV w (.slice ax xs.length cx) xs) := hX
  generalize hN : xs.length = n at *
  have HN : Hid (xs.length = n) := hN
  clear hN
  refine (callsIn_wide (n := 0)).1 ?_
  refine callsIn_of_wp_marks Tryz.func87 rfl trivial ?_ rfl
  simp only [Tryz.ntmps87, List.size_toArray, List.length_cons, List.length_nil, Nat.reduceAdd, Nat.reduceSub, Array.replicate_succ, Array.replicate_zero, List.push_toArray, List.append_toArray, List.nil_append, List.cons_append]
  gi_wp2
  refine ⟨trivial, rfl, (callsIn_wide.2 (implTableFault_any _ xs _ (RowsV_below hX (by (repeat (first | exact Below.refl _ _ | assumption | refine Below.drew ?_ | refine balloc ?_ _ | refine bset ?_ (by simp; omega) _ | refine bset ?_ (by simp) _ | refine bstep ?_ (by assumption))))))).mono ?_⟩
  rintro e w1 ⟨rfl, hb1⟩
  have g0 : w1.cell? ⟨w.heap.size, 0, none⟩ = some (.string k) := cell_keep hb1 (by simp [go_sem])
  have g1 : w1.cell? ⟨w.heap.size + 1, 0, none⟩ = some (.int .i64 0) := cell_keep hb1 (by simp [go_sem])
  have g2 : w1.cell? ⟨w.heap.size + 1, 1, none⟩ = some (.string ⟨#[]⟩) := cell_keep hb1 (by simp [go_sem])
  have gf : ∀ o, w1.frozen? ⟨w.heap.size + 1, o, none⟩ = false := fun o => by rw [(bcell hb1).2 _ _ (by simp)]; simp [go_sem]
  have gz := hb1.size
  simp only [World.size_alloc] at gz
  have hB1 : Below w.heap.size w w1 := by (repeat (first | exact Below.refl _ _ | assumption | refine Below.drew ?_ | refine balloc ?_ _ | refine bset ?_ (by simp; omega) _ | refine bset ?_ (by simp) _ | refine bstep ?_ (by assumption)))
  clear hb1
  by_cases h0 : tabF xs = 0
  rotate_left
  · have E1 : Hid (getCode xs k v = tabF xs) := by rw [Hid]; unfold getCode; rw [if_neg h0]
    have E2 : Hid (getText xs k v = ⟨#[]⟩) := by rw [Hid]; unfold getText; rw [if_neg h0]
    have h0' : ((tabF xs : Int) == 0) = false := by rw [beq_eq_false_iff_ne]; exact h0
    generalize tabF xs = c at h0 h0' E1 ⊢
    gi_wp2
    refine ⟨.agg #[.int .i64 c, .string ⟨#[]⟩], by simp [results, Tryz.results87, go_sem, g1, g2, gf], ?_⟩
    exact ⟨by rw [E1.out, E2.out], by (repeat (first | exact Below.refl _ _ | assumption | refine Below.drew ?_ | refine balloc ?_ _ | refine bset ?_ (by simp; omega) _ | refine bset ?_ (by simp) _ | refine bstep ?_ (by assumption)))⟩
  have HC : Hid (getCode xs k v = ((getRow xs k v).map (fun _ => (0 : Int))).getD 4) := by rw [Hid]; unfold getCode; rw [if_pos h0]
  have HT : Hid (getText xs k v = ((getRow xs k v).map (fun r => r.val)).getD ⟨#[]⟩) := by rw [Hid]; unfold getText; rw [if_pos h0]
  have HG : Hid ((living (lastL v xs)).find? (fun r => decide (r.key = k)) = getRow xs k v) := living_last (sorted_of h0) v k
  have hlen := (tabF_all h0).1
  rw [h0]
  gi_wp2
  refine ⟨trivial, rfl, (callsIn_wide.2 (tableOf_any _ _ _ _)).mono ?_⟩
  rintro e w2 ⟨rfl, hb2⟩
  have hM12 := Mod.of_below (F := fun _ => False) hb2
  unfold cmpF
  gi_wp2
  refine ⟨trivial, rfl, (callsIn_wide.2 (livingAt_any _ _ _ _ _)).mono ?_⟩
  rintro e w3 ⟨rfl, hw3⟩
  have hM23 : Mod (fun _ => False) w2 w3 := by rw [hw3]; exact (mod_alloc _ _ _).alloc _
  have s3 : w3.heap.size = w2.heap.size + 2 := by rw [hw3]; simp
  have d1 : w3.cell? ⟨w2.heap.size, 0, none⟩ = some (.slice ax n cx) := by rw [hw3]; simp [go_sem]
  have d2 : w3.cell? ⟨w2.heap.size, 1, none⟩ = some cmpF := by rw [hw3]; simp [go_sem]
  have d3 : w3.cell? ⟨w2.heap.size + 1, 0, none⟩ = some (.int .i64 v) := by rw [hw3]; simp [go_sem]
  clear hw3
  have z12 := hM12.size
  have hM13 := hM12.trans hM23
  have hB3 : Below w.heap.size w w3 := bstep (bstep hB1 hb2) ⟨hM23.os, hM23.tape, hM23.output, hM23.size, fun b hb => hM23.block b hb (fun h => h)⟩
  obtain ⟨M, hM⟩ : ∃ M, w2.heap.size = M := ⟨_, rfl⟩
  have hgc : GetC k 0 ⟨#[]⟩ w.heap.size w w3 (fun _ => False) := GetC_mod (W := w1) (Y := fun _ => False) ⟨fun _ _ h => h, by omega, g0, g1, g2, gf, hB1⟩ hM13 (fun _ _ h => h) (fun _ _ h => h)
  obtain ⟨N, hNN⟩ : ∃ N, w.heap.size = N := ⟨_, rfl⟩
  rw [hM] at d1 d2 d3 s3 z12 ⊢
  rw [hNN] at hgc gz ⊢
  have hRa : ∀ b, (b < N ∨ b = M ∨ b = M + 1) → b < w3.heap.size := fun b h => by omega
  have hT3 : TabAt (fun b => b < N ∨ b = M ∨ b = M + 1) w3 (.slice ax n cx) xs := by
    have h := TabAt.of (R := fun b => b < N ∨ b = M ∨ b = M + 1) HX.out (fun b hb => .inl (by omega))
    exact h.mod (F := fun b => N ≤ b ∧ b ≠ M ∧ b ≠ M + 1) ⟨hB3.os, hB3.tape, hB3.output, hB3.size, fun b hb hn => hB3.block b (by omega)⟩ (fun b hb h => by omega)
  have hseq := livingAt_seq M (M + 1) (.slice ax n cx) xs v (fun b => b < N ∨ b = M ∨ b = M + 1) w3 hRa d1 d2 d3 (.inr (.inl rfl)) (.inr (.inr rfl)) hT3 hlen
  gi_wp2
  refine wp_rangeX (gf := 163) rfl (enters_of Tryz.func163 (by kernel_rfl) rfl) hseq hRa
    (GetIn k N w) (GetOut k N w) GetIn_stb GetOut_stb (fun _ => False) (fun _ h => h.elim) ⟨_, ⟨rfl, fun y hy => by simp at hy⟩, hgc⟩
    (fun x => RowBox (N + 2) (fun B => { tmps := #[.slice ax n cx, .string k, .int .i64 v, undef, .pointer (some ⟨N, 0, none⟩), undef, .pointer (some ⟨N + 1, 0, none⟩), .int .i64 0, .pointer (some ⟨B, 0, none⟩), .slice ax n cx, .int .i64 0, .int .i64 0, .bool false, undef, undef, .slice ax n cx, .agg #[.slice ax n cx, .func (.func 75) #[] #[]], .int .i64 v, .func (.func 163) #[] #[.pointer (some ⟨M, 0, none⟩), .pointer (some ⟨M + 1, 0, none⟩)], .agg #[.string x.key, .int .i64 x.ver, .string x.val, .bool x.gone], undef, undef, undef, undef, undef, undef, undef, undef], defers := [] }) x)
    (fun x a' => RowBox_stb _ _ x a') ?assign ?body ?done ?stop
  case assign =>
    rintro l2 pre x W3 Y K ⟨_, _, hgc⟩ hYl hYa hK
    unfold rowV
    gi_wp2
    refine hK _ _ (mod_alloc _ _ _) ⟨W3.heap.size, hgc.2.1, by simp, by unfold rowCells; simp [go_sem], fun h => ?_, rfl⟩
    have := hYa _ h
    omega
  case body =>
    rintro l2 pre x a' W3 Y hYl hYa ⟨_, ⟨rfl, hne⟩, hgc⟩ ⟨B, hlo, hB, hr, hYB, rfl⟩ hpre
    obtain ⟨r0, r1, r2, r3⟩ := hr
    simp only [Nat.zero_add] at r1 r2 r3
    have hgc2 := hgc
    obtain ⟨u1, u2, u3, u4, u5, u6, u7⟩ := hgc
    dsimp only at u4 u5
    have hNB : B ≠ N + 1 := by omega
    have hNB2 : ¬ N + 1 = B := by omega
    by_cases hk : x.key = k
    · have hd : x.key.toList = k.toList := by rw [hk]
      have hd0 : (x.key.toList == k.toList) = true := by rw [hk]; simp
      have HK : Hid (x.key = k) := hk
      have HQ : Hid (∀ y ∈ pre, y.key ≠ k) := hne
      clear hne hk
      gi_wp2
      have hset := GetC_set (cd' := 0) (tx' := x.val) hgc2
      refine ⟨hset.2.mono (fun b h => ?_), (0, x.val), ⟨rfl, pre, x, rfl, HK.out, HQ.out, rfl⟩, hset.1⟩
      rw [h]
      rintro (h2 | h2)
      · omega
      · exact u1 _ (by omega) h2
    · have hd : ¬ x.key.toList = k.toList := by rw [tl_inj]; exact hk
      have hd0 : (x.key.toList == k.toList) = false := by rw [beq_eq_false_iff_ne, Ne, tl_inj]; exact hk
      have HQ : Hid (∀ y ∈ pre ++ [x], y.key ≠ k) := by
        intro y hy
        rcases List.mem_append.1 hy with h | h
        · exact hne y h
        · rw [List.mem_singleton] at h
          rw [h]
          exact hk
      gi_wp2
      exact ⟨Mod.refl _ _, _, ⟨rfl, HQ.out⟩, hgc2⟩
  case done =>
    rintro D W3 Y hD hYD ⟨_, ⟨rfl, hne⟩, hgc⟩ hdef
    have hfin : getRow xs k v = none := by
      rw [← HG.out, List.find?_eq_none]
      intro y hy
      simpa using hne y hy
    have E1 : Hid (getCode xs k v = 4) := by rw [Hid]; rw [HC.out, hfin]; rfl
    have E2 : Hid (getText xs k v = ⟨#[]⟩) := by rw [Hid]; rw [HT.out, hfin]; rfl
    have hset := GetC_put (D := D) (GetC_set (cd' := 4) (tx' := ⟨#[]⟩) hgc).1 (by omega) (.deferred none)
    have hdef2 : ((W3.setCell ⟨N + 1, 0, none⟩ (.int .i64 4)).setCell ⟨N + 1, 1, none⟩ (.string ⟨#[]⟩)).heap[D]? = some (.deferred (some [])) := ((GetC_set (cd' := 4) (tx' := ⟨#[]⟩) hgc).2.block D (Array.getElem?_eq_some_iff.1 hdef).1 (by omega)).trans hdef
    obtain ⟨u1, u2, u3, u4, u5, u6, u7⟩ := hgc
    dsimp only at u4 u5
    obtain ⟨y1, y2, y3, y4, y5, y6, y7⟩ := hset
    gi_wp2
    refine ⟨by simp, .inl ⟨_, _, rfl, run_takeDeferred hdef2, ?_⟩⟩
    refine ⟨.agg #[.int .i64 4, .string ⟨#[]⟩], by simp [results, Tryz.results87, go_sem, y4, y5], ?_⟩
    try rw [hNN]
    exact ⟨by rw [E1.out, E2.out], y7⟩
  case stop =>
    rintro D c pre W3 Y hD hYD hpre ⟨_, ⟨rfl, q, y, rfl, hyk, hq, rfl⟩, hgc⟩ hdef
    have hfin : getRow xs k v = some y := by
      rw [← HG.out]
      exact find_firstR hpre hyk hq
    have E1 : Hid (getCode xs k v = 0) := by rw [Hid]; rw [HC.out, hfin]; rfl
    have E2 : Hid (getText xs k v = y.val) := by rw [Hid]; rw [HT.out, hfin]; rfl
    obtain ⟨y1, y2, y3, y4, y5, y6, y7⟩ := GetC_put (D := D) hgc (by omega) (.deferred none)
    dsimp only at y4 y5
    gi_wp2
    refine ⟨by simp, .inl ⟨_, _, rfl, run_takeDeferred hdef, ?_⟩⟩
    refine ⟨.agg #[.int .i64 0, .string y.val], by simp [results, Tryz.results87, go_sem, y4, y5], ?_⟩
    try rw [hNN]
    exact ⟨by rw [E1.out, E2.out], y7⟩

end Go.Proofs.YtdfapehonegeeaaGreat

/-
  AllRows, ReadKey: both sides.
-/
namespace Go.Proofs.YtdfapehonegeeaaGreat
open Go.RowKit
set_option linter.unusedSectionVars false
variable [DecidableEq Wri] [Inhabited Wri] [DecidableEq BytesR] [Inhabited BytesR] [DecidableEq Rw] [Inhabited Rw] [DecidableEq TabR] [Inhabited TabR] [DecidableEq Logg] [Inhabited Logg] [DecidableEq Engn] [Inhabited Engn] [DecidableEq LoggR] [Inhabited LoggR] [DecidableEq RecsR] [Inhabited RecsR] [DecidableEq Leg] [Inhabited Leg]
set_option linter.unusedVariables false
set_option linter.unusedSimpArgs false
attribute [local go_sem ↓] Go.wp_at_zero Go.wp_at_succ

def allD (d : Engn) : TabR := if engF d = 0 then mergeD (d.mem :: d.tables) else ⟨engF d, []⟩
theorem allD_le (d : Engn) : wtTabR (allD d) ≤ 24200 := by
  unfold allD
  split
  · exact mergeD_le _
  · exact Nat.zero_le _
def readC (d : Engn) (k : ByteArray) (v : Int) : Int := if (allD d).code = 0 then getCode (allD d).rows k v else (allD d).code
def readT (d : Engn) (k : ByteArray) (v : Int) : ByteArray := if (allD d).code = 0 then getText (allD d).rows k v else ⟨#[]⟩
theorem engF_inv {e : Engn} (h : engF e = 0) : partsF e = 0 ∧ rangeE e = true ∧ replayL e.log e.next = some e.mem ∧ aboveE e = true := by
  by_cases h1 : partsF e = 0
  · cases h2 : rangeE e
    · rw [engF_range h1 h2] at h; cases h
    · by_cases h3 : replayL e.log e.next = some e.mem
      · cases h4 : aboveE e
        · rw [engF_above h1 h2 h3 h4] at h; cases h
        · exact ⟨h1, rfl, h3, rfl⟩
      · rw [engF_log h1 h2 h3] at h; cases h
  · rw [engF_parts h1] at h
    exact absurd h h1

set_option maxRecDepth 20000 in
set_option maxHeartbeats 4000000 in
theorem specAll_u (x : Value) (d : Engn) (w : World) (hx : engnR.V w x d) (hn : wtEngn d ≤ 1048576) :
    Calls Tryz.prog 34 #[x] w fun e w' => ∃ v F, e = .returned v ∧ tabRR.O w' w.heap.size F v (allD d) ∧ Below w.heap.size w w' := by
  have HX : Hid (engnR.V w x d) := hx
  obtain ⟨a1, a2, a3, a4, c1, c2, c3, c4, rfl⟩ := engn_form hx
  have HC : Hid (¬ engF d = 0 → allD d = ⟨engF d, []⟩) := fun h => by unfold allD; rw [if_neg h]
  have HO : Hid (engF d = 0 → allD d = mergeD (d.mem :: d.tables) ∧ d.tables.length ≤ 6) := fun h => ⟨by unfold allD; rw [if_pos h], (partsF_inv (engF_inv h).1).2.2.1⟩
  clear hx
  go_enter Tryz.func34, Tryz.ntmps34
  go_wp2_with fail
  refine (specEngF_any _ d _ (engnR.below HX.out (by (repeat (first | exact Below.refl _ _ | assumption | refine Below.drew ?_ | refine balloc ?_ _ | refine bset ?_ (by simp; omega) _ | refine bset ?_ (by simp) _ | refine bstep ?_ (by assumption))))) hn).mono ?_
  rintro e w1 ⟨rfl, b1⟩
  have r0 : w1.cell? ⟨w.heap.size, 0, none⟩ = some (.slice a1 d.log.synced.length c1) := cell_keep b1 (by simp [go_sem])
  have r1 : w1.cell? ⟨w.heap.size, 1, none⟩ = some (.slice a2 d.log.loose.length c2) := cell_keep b1 (by simp [go_sem])
  have r2 : w1.cell? ⟨w.heap.size, 2, none⟩ = some (.slice a3 d.mem.length c3) := cell_keep b1 (by simp [go_sem])
  have r3 : w1.cell? ⟨w.heap.size, 3, none⟩ = some (.slice a4 d.tables.length c4) := cell_keep b1 (by simp [go_sem])
  have r4 : w1.cell? ⟨w.heap.size, 4, none⟩ = some (.int .i64 d.next) := cell_keep b1 (by simp [go_sem])
  have q0 : w1.cell? ⟨w.heap.size + 1, 0, none⟩ = some (.int .i64 0) := cell_keep b1 (by simp [go_sem])
  have q1 : w1.cell? ⟨w.heap.size + 1, 1, none⟩ = some (.slice none 0 0) := cell_keep b1 (by simp [go_sem])
  have qf : (∀ o, w1.frozen? ⟨w.heap.size + 1, o, none⟩ = false) ∧ w.heap.size + 1 < w1.heap.size := by
    have h := b1.size
    simp only [World.size_alloc] at h
    exact ⟨fun o => by rw [(bcell b1).2 _ _ (by simp)]; simp [go_sem], by omega⟩
  have hB1 : Below w.heap.size w w1 := by (repeat (first | exact Below.refl _ _ | assumption | refine Below.drew ?_ | refine balloc ?_ _ | refine bset ?_ (by simp; omega) _ | refine bset ?_ (by simp) _ | refine bstep ?_ (by assumption)))
  clear b1 hn
  by_cases h0 : engF d = 0
  rotate_left
  · have HE : Hid (allD d = ⟨engF d, []⟩) := HC.out h0
    have hc : (engF d == 0) = false := by simpa using h0
    obtain ⟨qf1, qz⟩ := qf
    generalize engF d = c at *
    clear HC HO
    go_wp2
    refine bodyPost_ret (v := .agg #[.int .i64 c, .slice none 0 0]) (by simp [results, Tryz.results34, go_sem, q0, q1]) rfl ?_
    rw [HE.out]
    obtain ⟨F, hF⟩ := tabRR_nil ((w1.setCell ⟨w.heap.size + 1, 0, none⟩ (.int .i64 c)).setCell ⟨w.heap.size + 1, 1, none⟩ (.slice none 0 0)) w.heap.size c
    first | exact ⟨_, F, rfl, hF, by (repeat (first | exact Below.refl _ _ | assumption | refine Below.drew ?_ | refine balloc ?_ _ | refine bset ?_ (by simp; omega) _ | refine bset ?_ (by simp) _ | refine bstep ?_ (by assumption)))⟩ | exact ⟨_, rfl, ⟨F, hF⟩, by (repeat (first | exact Below.refl _ _ | assumption | refine Below.drew ?_ | refine balloc ?_ _ | refine bset ?_ (by simp; omega) _ | refine bset ?_ (by simp) _ | refine bstep ?_ (by assumption)))⟩
  rw [h0]
  obtain ⟨hE, h6⟩ := HO.out h0
  have HE : Hid (allD d = mergeD (d.mem :: d.tables)) := hE
  clear hE HC HO h0
  go_wp2_with fail
  refine (l6All_V _ d _ (engnR.below HX.out hB1) (by omega)).mono ?_
  rintro e w2 ⟨v2, rfl, hV2, b2⟩
  obtain ⟨a5, c5, rfl⟩ := rowss_form hV2
  have HC2 : Hid (∀ W, Below w2.heap.size w2 W → Calls Tryz.prog 88 #[.slice a5 (d.mem :: d.tables).length c5] W fun e w' => ∃ v F, e = .returned v ∧ tabRR.O w' W.heap.size F v (mergeD (d.mem :: d.tables)) ∧ Below W.heap.size W w') := fun W hW => specMerge_u _ (d.mem :: d.tables) W (rowssR.below hV2 hW)
  clear hV2
  have p0 := cell_keep b2 q0
  have p1 := cell_keep b2 q1
  have pf := boxKeep qf b2
  have hB2 := bstep hB1 b2
  generalize (d.mem :: d.tables).length = n at *
  generalize mergeD (d.mem :: d.tables) = D at *
  clear q0 q1 qf b2 hB1
  go_wp2_with fail
  refine (HC2.out _ (by (repeat (first | exact Below.refl _ _ | assumption | refine Below.drew ?_ | refine balloc ?_ _ | refine bset ?_ (by simp; omega) _ | refine bset ?_ (by simp) _ | refine bstep ?_ (by assumption))))).mono ?_
  rintro e w3 ⟨v3, F3, rfl, o3, b3⟩
  obtain ⟨a6, c6, rfl⟩ := tabR_form (tabRR.ofO o3)
  have q0 := cell_keep b3 p0
  have q1 := cell_keep b3 p1
  obtain ⟨qf, qz⟩ := boxKeep pf b3
  have hB3 := bstep hB2 b3
  have pz := pf.2
  have HO3 : Hid (tabRR.O w3 w2.heap.size F3 (.agg #[.int .i64 D.code, .slice a6 D.rows.length c6]) D) := o3
  clear p0 p1 pf b3 o3 HC2
  generalize D.rows.length = m at *
  generalize hdc : D.code = dc at *
  clear hdc
  go_wp2
  refine bodyPost_ret (v := .agg #[.int .i64 dc, .slice a6 m c6]) (by simp [results, Tryz.results34, go_sem, q0, q1]) rfl ?_
  rw [HE.out]
  have hfin := tabRR.base (tabRR.set (tabRR.set HO3.out (p := ⟨w.heap.size + 1, 0, none⟩) (.int .i64 dc) pz) (p := ⟨w.heap.size + 1, 1, none⟩) (.slice a6 m c6) pz) hB2.size
  first | exact ⟨_, F3, rfl, hfin, by (repeat (first | exact Below.refl _ _ | assumption | refine Below.drew ?_ | refine balloc ?_ _ | refine bset ?_ (by simp; omega) _ | refine bset ?_ (by simp) _ | refine bstep ?_ (by assumption)))⟩ | exact ⟨_, rfl, ⟨F3, hfin⟩, by (repeat (first | exact Below.refl _ _ | assumption | refine Below.drew ?_ | refine balloc ?_ _ | refine bset ?_ (by simp; omega) _ | refine bset ?_ (by simp) _ | refine bstep ?_ (by assumption)))⟩

set_option maxRecDepth 20000 in
set_option maxHeartbeats 4000000 in
theorem specRead_any (x : Value) (d : Engn) (k : ByteArray) (v : Int) (w : World) (hx : engnR.V w x d) (hn : wtEngn d ≤ 1048576) :
    Calls Tryz.prog 25 #[x, .string k, .int .i64 v] w fun e w' => e = .returned (.agg #[.int .i64 (readC d k v), .string (readT d k v)]) ∧ Below w.heap.size w w' := by
  have HX : Hid (engnR.V w x d) := hx
  obtain ⟨a1, a2, a3, a4, c1, c2, c3, c4, rfl⟩ := engn_form hx
  have HC : Hid (¬ (allD d).code = 0 → readC d k v = (allD d).code ∧ readT d k v = ⟨#[]⟩) := fun h => ⟨by unfold readC; rw [if_neg h], by unfold readT; rw [if_neg h]⟩
  have HO : Hid ((allD d).code = 0 → readC d k v = getCode (allD d).rows k v ∧ readT d k v = getText (allD d).rows k v) := fun h => ⟨by unfold readC; rw [if_pos h], by unfold readT; rw [if_pos h]⟩
  clear hx
  go_enter Tryz.func25, Tryz.ntmps25
  go_wp2_with fail
  refine (specAll_u _ d _ (engnR.below HX.out (by (repeat (first | exact Below.refl _ _ | assumption | refine Below.drew ?_ | refine balloc ?_ _ | refine bset ?_ (by simp; omega) _ | refine bset ?_ (by simp) _ | refine bstep ?_ (by assumption))))) hn).mono ?_
  rintro e w1 ⟨v1, F1, rfl, o1, b1⟩
  have q0 : w1.cell? ⟨w.heap.size + 1, 0, none⟩ = some (.int .i64 0) := cell_keep b1 (by simp [go_sem])
  have q1 : w1.cell? ⟨w.heap.size + 1, 1, none⟩ = some (.string ⟨#[]⟩) := cell_keep b1 (by simp [go_sem])
  have qf : (∀ o, w1.frozen? ⟨w.heap.size + 1, o, none⟩ = false) ∧ w.heap.size + 1 < w1.heap.size := by
    have h := b1.size
    simp only [World.size_alloc] at h
    exact ⟨fun o => by rw [(bcell b1).2 _ _ (by simp)]; simp [go_sem], by omega⟩
  have hB1 : Below w.heap.size w w1 := by (repeat (first | exact Below.refl _ _ | assumption | refine Below.drew ?_ | refine balloc ?_ _ | refine bset ?_ (by simp; omega) _ | refine bset ?_ (by simp) _ | refine bstep ?_ (by assumption)))
  obtain ⟨qf1, qz⟩ := qf
  obtain ⟨a6, c6, rfl⟩ := tabR_form (tabRR.ofO o1)
  obtain ⟨u1, e1, hV⟩ := tabRR.ofO o1
  have HV : Hid (RowsV w1 (.slice a6 (allD d).rows.length c6) (allD d).rows) := by
    simp only [Value.agg.injEq, Array.mk.injEq, List.cons.injEq, and_true, true_and] at e1
    rw [Hid, e1]
    exact hV.1
  clear b1 hn o1 e1 hV HX
  have HG : Hid (∀ W, Below w1.heap.size w1 W → Calls Tryz.prog 86 #[.slice a6 (allD d).rows.length c6, .string k, .int .i64 v] W fun e w' => e = .returned (.agg #[.int .i64 (getCode (allD d).rows k v), .string (getText (allD d).rows k v)]) ∧ Below W.heap.size W w') := fun W hW => specGetRow_any _ (allD d).rows k v W (RowsV_below HV.out hW)
  clear HV
  generalize (allD d).rows.length = m at *
  generalize getCode (allD d).rows k v = gc at *
  generalize getText (allD d).rows k v = gt at *
  generalize (allD d).code = c at *
  by_cases h0 : c = 0
  rotate_left
  · obtain ⟨e1, e2⟩ := HC.out h0
    have HE1 : Hid (readC d k v = c) := e1
    have HE2 : Hid (readT d k v = ⟨#[]⟩) := e2
    have hc : (c == 0) = false := by simpa using h0
    clear HC HO e1 e2
    go_wp2
    refine bodyPost_ret (v := .agg #[.int .i64 c, .string ⟨#[]⟩]) (by simp [results, Tryz.results25, go_sem, q0, q1, qz]) rfl ?_
    rw [HE1.out, HE2.out]
    exact ⟨rfl, by (repeat (first | exact Below.refl _ _ | assumption | refine Below.drew ?_ | refine balloc ?_ _ | refine bset ?_ (by simp; omega) _ | refine bset ?_ (by simp) _ | refine bstep ?_ (by assumption)))⟩
  obtain ⟨e1, e2⟩ := HO.out h0
  have HE1 : Hid (readC d k v = gc) := e1
  have HE2 : Hid (readT d k v = gt) := e2
  subst h0
  clear HC HO e1 e2
  go_wp2_with fail
  refine (HG.out _ (by (repeat (first | exact Below.refl _ _ | assumption | refine Below.drew ?_ | refine balloc ?_ _ | refine bset ?_ (by simp; omega) _ | refine bset ?_ (by simp) _ | refine bstep ?_ (by assumption))))).mono ?_
  rintro e w2 ⟨rfl, b2⟩
  have p0 : w2.cell? ⟨w.heap.size + 1, 0, none⟩ = some (.int .i64 0) := cell_keep b2 (by simp [go_sem, q0, qz])
  have p1 : w2.cell? ⟨w.heap.size + 1, 1, none⟩ = some (.string ⟨#[]⟩) := cell_keep b2 (by simp [go_sem, q1, qz])
  have pf : ∀ o, w2.frozen? ⟨w.heap.size + 1, o, none⟩ = false := fun o => by rw [(bcell b2).2 _ _ (by simp; omega)]; simp [go_sem, qf1, qz]
  have hB2 : Below w.heap.size w w2 := bstep (by (repeat (first | exact Below.refl _ _ | assumption | refine Below.drew ?_ | refine balloc ?_ _ | refine bset ?_ (by simp; omega) _ | refine bset ?_ (by simp) _ | refine bstep ?_ (by assumption)))) b2
  clear b2 HG
  go_wp2
  refine bodyPost_ret (v := .agg #[.int .i64 gc, .string gt]) (by simp [results, Tryz.results25, go_sem, p0, p1]) rfl ?_
  rw [HE1.out, HE2.out]
  exact ⟨rfl, by (repeat (first | exact Below.refl _ _ | assumption | refine Below.drew ?_ | refine balloc ?_ _ | refine bset ?_ (by simp; omega) _ | refine bset ?_ (by simp) _ | refine bstep ?_ (by assumption)))⟩

set_option maxRecDepth 20000 in
set_option maxHeartbeats 4000000 in
theorem implAll_u (x : Value) (d : Engn) (w : World) (hx : engnR.V w x d) (hn : wtEngn d ≤ 1048576) :
    Calls Tryz.prog 35 #[x] w fun e w' => ∃ v F, e = .returned v ∧ tabRR.O w' w.heap.size F v (allD d) ∧ Below w.heap.size w w' := by
  have HX : Hid (engnR.V w x d) := hx
  obtain ⟨a1, a2, a3, a4, c1, c2, c3, c4, rfl⟩ := engn_form hx
  have HC : Hid (¬ engF d = 0 → allD d = ⟨engF d, []⟩) := fun h => by unfold allD; rw [if_neg h]
  have HO : Hid (engF d = 0 → allD d = mergeD (d.mem :: d.tables) ∧ d.tables.length ≤ 6) := fun h => ⟨by unfold allD; rw [if_pos h], (partsF_inv (engF_inv h).1).2.2.1⟩
  clear hx
  go_enter Tryz.func35, Tryz.ntmps35
  go_wp2_with fail
  refine (implEngF_any _ d _ (engnR.below HX.out (by (repeat (first | exact Below.refl _ _ | assumption | refine Below.drew ?_ | refine balloc ?_ _ | refine bset ?_ (by simp; omega) _ | refine bset ?_ (by simp) _ | refine bstep ?_ (by assumption))))) hn).mono ?_
  rintro e w1 ⟨rfl, b1⟩
  have r0 : w1.cell? ⟨w.heap.size, 0, none⟩ = some (.slice a1 d.log.synced.length c1) := cell_keep b1 (by simp [go_sem])
  have r1 : w1.cell? ⟨w.heap.size, 1, none⟩ = some (.slice a2 d.log.loose.length c2) := cell_keep b1 (by simp [go_sem])
  have r2 : w1.cell? ⟨w.heap.size, 2, none⟩ = some (.slice a3 d.mem.length c3) := cell_keep b1 (by simp [go_sem])
  have r3 : w1.cell? ⟨w.heap.size, 3, none⟩ = some (.slice a4 d.tables.length c4) := cell_keep b1 (by simp [go_sem])
  have r4 : w1.cell? ⟨w.heap.size, 4, none⟩ = some (.int .i64 d.next) := cell_keep b1 (by simp [go_sem])
  have q0 : w1.cell? ⟨w.heap.size + 1, 0, none⟩ = some (.int .i64 0) := cell_keep b1 (by simp [go_sem])
  have q1 : w1.cell? ⟨w.heap.size + 1, 1, none⟩ = some (.slice none 0 0) := cell_keep b1 (by simp [go_sem])
  have qf : (∀ o, w1.frozen? ⟨w.heap.size + 1, o, none⟩ = false) ∧ w.heap.size + 1 < w1.heap.size := by
    have h := b1.size
    simp only [World.size_alloc] at h
    exact ⟨fun o => by rw [(bcell b1).2 _ _ (by simp)]; simp [go_sem], by omega⟩
  have hB1 : Below w.heap.size w w1 := by (repeat (first | exact Below.refl _ _ | assumption | refine Below.drew ?_ | refine balloc ?_ _ | refine bset ?_ (by simp; omega) _ | refine bset ?_ (by simp) _ | refine bstep ?_ (by assumption)))
  clear b1 hn
  by_cases h0 : engF d = 0
  rotate_left
  · have HE : Hid (allD d = ⟨engF d, []⟩) := HC.out h0
    have hc : (engF d == 0) = false := by simpa using h0
    obtain ⟨qf1, qz⟩ := qf
    generalize engF d = c at *
    clear HC HO
    go_wp2
    refine bodyPost_ret (v := .agg #[.int .i64 c, .slice none 0 0]) (by simp [results, Tryz.results35, go_sem, q0, q1]) rfl ?_
    rw [HE.out]
    obtain ⟨F, hF⟩ := tabRR_nil ((w1.setCell ⟨w.heap.size + 1, 0, none⟩ (.int .i64 c)).setCell ⟨w.heap.size + 1, 1, none⟩ (.slice none 0 0)) w.heap.size c
    first | exact ⟨_, F, rfl, hF, by (repeat (first | exact Below.refl _ _ | assumption | refine Below.drew ?_ | refine balloc ?_ _ | refine bset ?_ (by simp; omega) _ | refine bset ?_ (by simp) _ | refine bstep ?_ (by assumption)))⟩ | exact ⟨_, rfl, ⟨F, hF⟩, by (repeat (first | exact Below.refl _ _ | assumption | refine Below.drew ?_ | refine balloc ?_ _ | refine bset ?_ (by simp; omega) _ | refine bset ?_ (by simp) _ | refine bstep ?_ (by assumption)))⟩
  rw [h0]
  obtain ⟨hE, h6⟩ := HO.out h0
  have HE : Hid (allD d = mergeD (d.mem :: d.tables)) := hE
  clear hE HC HO h0
  go_wp2_with fail
  refine (layersOf_V _ d _ (engnR.below HX.out hB1) (by omega)).mono ?_
  rintro e w2 ⟨v2, rfl, hV2, b2⟩
  obtain ⟨a5, c5, rfl⟩ := rowss_form hV2
  have HC2 : Hid (∀ W, Below w2.heap.size w2 W → Calls Tryz.prog 90 #[.slice a5 (d.mem :: d.tables).length c5] W fun e w' => ∃ v F, e = .returned v ∧ tabRR.O w' W.heap.size F v (mergeD (d.mem :: d.tables)) ∧ Below W.heap.size W w') := fun W hW => implMerge_u _ (d.mem :: d.tables) W (rowssR.below hV2 hW)
  clear hV2
  have p0 := cell_keep b2 q0
  have p1 := cell_keep b2 q1
  have pf := boxKeep qf b2
  have hB2 := bstep hB1 b2
  generalize (d.mem :: d.tables).length = n at *
  generalize mergeD (d.mem :: d.tables) = D at *
  clear q0 q1 qf b2 hB1
  go_wp2_with fail
  refine (HC2.out _ (by (repeat (first | exact Below.refl _ _ | assumption | refine Below.drew ?_ | refine balloc ?_ _ | refine bset ?_ (by simp; omega) _ | refine bset ?_ (by simp) _ | refine bstep ?_ (by assumption))))).mono ?_
  rintro e w3 ⟨v3, F3, rfl, o3, b3⟩
  obtain ⟨a6, c6, rfl⟩ := tabR_form (tabRR.ofO o3)
  have q0 := cell_keep b3 p0
  have q1 := cell_keep b3 p1
  obtain ⟨qf, qz⟩ := boxKeep pf b3
  have hB3 := bstep hB2 b3
  have pz := pf.2
  have HO3 : Hid (tabRR.O w3 w2.heap.size F3 (.agg #[.int .i64 D.code, .slice a6 D.rows.length c6]) D) := o3
  clear p0 p1 pf b3 o3 HC2
  generalize D.rows.length = m at *
  generalize hdc : D.code = dc at *
  clear hdc
  go_wp2
  refine bodyPost_ret (v := .agg #[.int .i64 dc, .slice a6 m c6]) (by simp [results, Tryz.results35, go_sem, q0, q1]) rfl ?_
  rw [HE.out]
  have hfin := tabRR.base (tabRR.set (tabRR.set HO3.out (p := ⟨w.heap.size + 1, 0, none⟩) (.int .i64 dc) pz) (p := ⟨w.heap.size + 1, 1, none⟩) (.slice a6 m c6) pz) hB2.size
  first | exact ⟨_, F3, rfl, hfin, by (repeat (first | exact Below.refl _ _ | assumption | refine Below.drew ?_ | refine balloc ?_ _ | refine bset ?_ (by simp; omega) _ | refine bset ?_ (by simp) _ | refine bstep ?_ (by assumption)))⟩ | exact ⟨_, rfl, ⟨F3, hfin⟩, by (repeat (first | exact Below.refl _ _ | assumption | refine Below.drew ?_ | refine balloc ?_ _ | refine bset ?_ (by simp; omega) _ | refine bset ?_ (by simp) _ | refine bstep ?_ (by assumption)))⟩

set_option maxRecDepth 20000 in
set_option maxHeartbeats 4000000 in
theorem implRead_any (x : Value) (d : Engn) (k : ByteArray) (v : Int) (w : World) (hx : engnR.V w x d) (hn : wtEngn d ≤ 1048576) :
    Calls Tryz.prog 26 #[x, .string k, .int .i64 v] w fun e w' => e = .returned (.agg #[.int .i64 (readC d k v), .string (readT d k v)]) ∧ Below w.heap.size w w' := by
  have HX : Hid (engnR.V w x d) := hx
  obtain ⟨a1, a2, a3, a4, c1, c2, c3, c4, rfl⟩ := engn_form hx
  have HC : Hid (¬ (allD d).code = 0 → readC d k v = (allD d).code ∧ readT d k v = ⟨#[]⟩) := fun h => ⟨by unfold readC; rw [if_neg h], by unfold readT; rw [if_neg h]⟩
  have HO : Hid ((allD d).code = 0 → readC d k v = getCode (allD d).rows k v ∧ readT d k v = getText (allD d).rows k v) := fun h => ⟨by unfold readC; rw [if_pos h], by unfold readT; rw [if_pos h]⟩
  clear hx
  go_enter Tryz.func26, Tryz.ntmps26
  go_wp2_with fail
  refine (implAll_u _ d _ (engnR.below HX.out (by (repeat (first | exact Below.refl _ _ | assumption | refine Below.drew ?_ | refine balloc ?_ _ | refine bset ?_ (by simp; omega) _ | refine bset ?_ (by simp) _ | refine bstep ?_ (by assumption))))) hn).mono ?_
  rintro e w1 ⟨v1, F1, rfl, o1, b1⟩
  have q0 : w1.cell? ⟨w.heap.size + 1, 0, none⟩ = some (.int .i64 0) := cell_keep b1 (by simp [go_sem])
  have q1 : w1.cell? ⟨w.heap.size + 1, 1, none⟩ = some (.string ⟨#[]⟩) := cell_keep b1 (by simp [go_sem])
  have qf : (∀ o, w1.frozen? ⟨w.heap.size + 1, o, none⟩ = false) ∧ w.heap.size + 1 < w1.heap.size := by
    have h := b1.size
    simp only [World.size_alloc] at h
    exact ⟨fun o => by rw [(bcell b1).2 _ _ (by simp)]; simp [go_sem], by omega⟩
  have hB1 : Below w.heap.size w w1 := by (repeat (first | exact Below.refl _ _ | assumption | refine Below.drew ?_ | refine balloc ?_ _ | refine bset ?_ (by simp; omega) _ | refine bset ?_ (by simp) _ | refine bstep ?_ (by assumption)))
  obtain ⟨qf1, qz⟩ := qf
  obtain ⟨a6, c6, rfl⟩ := tabR_form (tabRR.ofO o1)
  obtain ⟨u1, e1, hV⟩ := tabRR.ofO o1
  have HV : Hid (RowsV w1 (.slice a6 (allD d).rows.length c6) (allD d).rows) := by
    simp only [Value.agg.injEq, Array.mk.injEq, List.cons.injEq, and_true, true_and] at e1
    rw [Hid, e1]
    exact hV.1
  clear b1 hn o1 e1 hV HX
  have HG : Hid (∀ W, Below w1.heap.size w1 W → Calls Tryz.prog 87 #[.slice a6 (allD d).rows.length c6, .string k, .int .i64 v] W fun e w' => e = .returned (.agg #[.int .i64 (getCode (allD d).rows k v), .string (getText (allD d).rows k v)]) ∧ Below W.heap.size W w') := fun W hW => implGetRow_any _ (allD d).rows k v W (RowsV_below HV.out hW)
  clear HV
  generalize (allD d).rows.length = m at *
  generalize getCode (allD d).rows k v = gc at *
  generalize getText (allD d).rows k v = gt at *
  generalize (allD d).code = c at *
  by_cases h0 : c = 0
  rotate_left
  · obtain ⟨e1, e2⟩ := HC.out h0
    have HE1 : Hid (readC d k v = c) := e1
    have HE2 : Hid (readT d k v = ⟨#[]⟩) := e2
    have hc : (c == 0) = false := by simpa using h0
    clear HC HO e1 e2
    go_wp2
    refine bodyPost_ret (v := .agg #[.int .i64 c, .string ⟨#[]⟩]) (by simp [results, Tryz.results26, go_sem, q0, q1, qz]) rfl ?_
    rw [HE1.out, HE2.out]
    exact ⟨rfl, by (repeat (first | exact Below.refl _ _ | assumption | refine Below.drew ?_ | refine balloc ?_ _ | refine bset ?_ (by simp; omega) _ | refine bset ?_ (by simp) _ | refine bstep ?_ (by assumption)))⟩
  obtain ⟨e1, e2⟩ := HO.out h0
  have HE1 : Hid (readC d k v = gc) := e1
  have HE2 : Hid (readT d k v = gt) := e2
  subst h0
  clear HC HO e1 e2
  go_wp2_with fail
  refine (HG.out _ (by (repeat (first | exact Below.refl _ _ | assumption | refine Below.drew ?_ | refine balloc ?_ _ | refine bset ?_ (by simp; omega) _ | refine bset ?_ (by simp) _ | refine bstep ?_ (by assumption))))).mono ?_
  rintro e w2 ⟨rfl, b2⟩
  have p0 : w2.cell? ⟨w.heap.size + 1, 0, none⟩ = some (.int .i64 0) := cell_keep b2 (by simp [go_sem, q0, qz])
  have p1 : w2.cell? ⟨w.heap.size + 1, 1, none⟩ = some (.string ⟨#[]⟩) := cell_keep b2 (by simp [go_sem, q1, qz])
  have pf : ∀ o, w2.frozen? ⟨w.heap.size + 1, o, none⟩ = false := fun o => by rw [(bcell b2).2 _ _ (by simp; omega)]; simp [go_sem, qf1, qz]
  have hB2 : Below w.heap.size w w2 := bstep (by (repeat (first | exact Below.refl _ _ | assumption | refine Below.drew ?_ | refine balloc ?_ _ | refine bset ?_ (by simp; omega) _ | refine bset ?_ (by simp) _ | refine bstep ?_ (by assumption)))) b2
  clear b2 HG
  go_wp2
  refine bodyPost_ret (v := .agg #[.int .i64 gc, .string gt]) (by simp [results, Tryz.results26, go_sem, p0, p1]) rfl ?_
  rw [HE1.out, HE2.out]
  exact ⟨rfl, by (repeat (first | exact Below.refl _ _ | assumption | refine Below.drew ?_ | refine balloc ?_ _ | refine bset ?_ (by simp; omega) _ | refine bset ?_ (by simp) _ | refine bstep ?_ (by assumption)))⟩

end Go.Proofs.YtdfapehonegeeaaGreat


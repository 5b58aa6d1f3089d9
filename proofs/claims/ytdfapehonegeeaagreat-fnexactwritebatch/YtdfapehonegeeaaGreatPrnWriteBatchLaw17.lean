import Derived.Test.YtdfapehonegeeaaGreatPrnWriteBatchLaw3
import Derived.Test.YtdfapehonegeeaaGreatPrnWriteBatchLaw2
import Derived.Test.YtdfapehonegeeaaGreatPrnWriteBatchLaw9
import Derived.Test.YtdfapehonegeeaaGreatPrnWriteBatchLaw5
import Derived.Test.YtdfapehonegeeaaGreatPrnWriteBatchLaw4
import Derived.Test.YtdfapehonegeeaaGreatPrnWriteBatchLaw12
import Derived.Test.YtdfapehonegeeaaGreatPrnWriteBatchLaw8

/-
  PackNumber and UnpackNumber in the uniform form.
-/
namespace Go.Proofs.YtdfapehonegeeaaGreat
open Go.RowKit
attribute [local go_sem ↓] Go.wp_at_zero Go.wp_at_succ

theorem specPack_u (n : Int) (w : World) :
    Calls Tryz.prog 117 #[.int .i64 n] w fun e w' => ∃ v F, e = .returned v ∧ bytesR.O w' w.heap.size F v (hiB n 8) ∧ Below w.heap.size w w' := by
  refine (specPack_any n w).mono ?_
  rintro e w' ⟨v, rfl, ho, hb⟩
  exact ⟨v, _, rfl, ⟨by rw [length_hiB]; exact ho, rfl⟩, hb⟩
theorem implPack_u (n : Int) (w : World) :
    Calls Tryz.prog 122 #[.int .i64 n] w fun e w' => ∃ v F, e = .returned v ∧ bytesR.O w' w.heap.size F v (hiB n 8) ∧ Below w.heap.size w w' := by
  refine (implPack_any n w).mono ?_
  rintro e w' ⟨v, rfl, ho, hb⟩
  exact ⟨v, _, rfl, ⟨by rw [length_hiB]; exact ho, rfl⟩, hb⟩
end Go.Proofs.YtdfapehonegeeaaGreat

/-
  Appending bytes, and where they come to lie.
-/
namespace Go.Proofs.YtdfapehonegeeaaGreat
open Go.RowKit

theorem wpList_appB3 (w : World) {ops : Array Oper} {rest : List Oper} {o : Oper} {a : Act} {Q : Exit → Act → World → Prop} (hgd : o.guard = none) (s x : Operand)
    (ho : o.op = .call { callee := .builtin .append, args := #[s, x], argTypes := #[22, 22] })
    (base : Nat) (v : Value) (xs : List Byte) (hs : a.eval s = v) (u : Value) (ys : List Byte) (hx : a.eval x = u)
    (hown : w.ownsRow base 5 1 v xs.length (bytesC xs)) (hsrc : AppAny w u ys.length (bytesC ys)) (hlen : xs.length + ys.length ≤ 1073741824) (hbase : base ≤ w.heap.size)
    (h : ∀ v' w', w'.ownsRow base 5 1 v' (xs ++ ys).length (bytesC (xs ++ ys)) → w.grownBy w' v.ownBlock → (v'.ownBlock = v.ownBlock ∨ v'.ownBlock = some w.heap.size) → (∀ W : World, Below base W w → Below base W w') → wpList Tryz.prog ops Q rest (a.put o.dst v') w') :
    wpList Tryz.prog ops Q (o :: rest) a w := by
  obtain ⟨i0, hi, hz0, hz1, hz2⟩ := info_parts infoByte
  refine wpList_plain hgd fun K' hK' => ?_
  rcases hsrc with ⟨c, rfl, hm, hnil⟩ | ⟨ad, c, rfl, hnews⟩
  · have hr := run_append_none_any (P := Tryz.prog) w base 22 o.type 5 i0 1 c Tryz.underlying22 hi v xs.length (bytesC xs) hown
    unfold Oper.wp execOp
    simp only [ho, resolve, invoke, builtin, Sem.run_bind, Sem.run_pure, Result.andThen_ok, List.map_toArray, List.map_cons, List.map_nil, hs, hx, hr]
    refine hK' _ _ (h v w ?_ ⟨rfl, rfl, rfl, Nat.le_refl _, fun _ _ _ => rfl⟩ (.inl rfl) (fun _ hW => hW))
    rw [List.length_append, bytesC_append, hm, hnil, List.append_nil]
    exact hown
  · obtain ⟨v', w', hr, h2, h3, _, h5⟩ := run_append_own_at (P := Tryz.prog) w base 22 o.type 5 i0 _ 1 1 Tryz.underlying22 hi hz0 hz1 hz2 rfl (by decide) v xs.length (bytesC xs) hown ad ys.length c (bytesC ys) (by rw [length_bytesC]; omega) hnews (bytesC_one ys) (by unfold maxLen; omega) (by omega) hbase
    unfold Oper.wp execOp
    simp only [ho, resolve, invoke, builtin, Sem.run_bind, Sem.run_pure, Result.andThen_ok, List.map_toArray, List.map_cons, List.map_nil, hs, hx, hr]
    refine hK' _ _ (h v' w' ?_ h3 h5 (fun W hW => hW.grown h3 hbase (fun k hk => (hown.lt k hk).1)))
    rw [List.length_append, bytesC_append]
    exact h2
end Go.Proofs.YtdfapehonegeeaaGreat

/-
  The bytes of writes: the specification's side.
-/
namespace Go.Proofs.YtdfapehonegeeaaGreat
open Go.RowKit
set_option linter.unusedSectionVars false
variable [DecidableEq Wri] [Inhabited Wri] [DecidableEq BytesR] [Inhabited BytesR] [DecidableEq Rw] [Inhabited Rw]
set_option linter.unusedVariables false
set_option linter.unusedSimpArgs false
attribute [local go_sem ↓] Go.wp_at_zero Go.wp_at_succ

theorem bytesField (c : Int) (a : Option Addr) (n k : Nat) (w : World) : (Instr.field 146 (.agg #[.int .i64 c, .slice a n k]) 1).run Tryz.prog w = .ok (.slice a n k) w := by kernel_rfl
set_option maxHeartbeats 4000000 in
theorem l6Pack_any (v : Int) (x : Value) (ws : List Wri) (w : World) (hx : wrisR.V w x ws) (hn : ws.length ≤ 8) :
    Calls Tryz.prog 65 #[.int .i64 v, x] w fun e w' => ∃ r F, e = .returned r ∧ bytesR.O w' w.heap.size F r (packB v ws) ∧ Below w.heap.size w w' := by
  obtain ⟨hx, hfit⟩ := hx
  obtain ⟨ax, cx, rfl, hcx, hmx, hx⟩ := hx
  unfold maxLen at hmx
  have hT := packB_take v ws
  have HA : Hid (ws.take ws.length = ws) := List.take_length
  have HL : Hid (∀ k, k ≤ ws.length → (packB v (ws.take k)).length ≤ 3240) := fun k hk => by
    have := packB_len v (ws.take k)
    have := List.length_take (i := k) (l := ws)
    omega
  have H0 : Hid (packB v (ws.take 0) = hiB v 8) := by simp [Hid, packB, packP]
  have HFT : Hid (∀ k, k < ws.length → (ws.getD k default).key.size ≤ maxLen ∧ (ws.getD k default).val.size ≤ maxLen) := hfit
  clear hfit
  generalize hn' : ws.length = n at *
  have HT : Hid (∀ k, k < n → packB v (ws.take (k + 1)) = packB v (ws.take k) ++ (wrP (ws.getD k default)).flatten) := hT
  clear hn' hT
  go_enter Tryz.func65, Tryz.ntmps65
  go_wp2_with fail
  refine (specPack_u v _).mono ?_
  rintro e w1 ⟨v0, F0, rfl, o0, hB1⟩
  rw [← H0.out] at o0
  have HO0 : Hid (World.ownsRow w1 w.heap.size 5 1 v0 (packB v (ws.take 0)).length (bytesC (packB v (ws.take 0)))) := o0.1
  clear o0
  go_wp2
  go_loopw [5, 6] (fun r i w' => ∃ k : Nat, k ≤ n ∧ i = .int .i64 k ∧ w'.ownsRow w.heap.size 5 1 r (packB v (ws.take k)).length (bytesC (packB v (ws.take k))) ∧ Below w.heap.size w w') (fun _ i _ => n - (intOf i).toNat)
  case atStart => exact ⟨0, Nat.zero_le _, rfl, HO0.out, hB1⟩
  case round =>
    clear hB1 HO0
    obtain ⟨k, hk, rfl, ho, hbl⟩ := hrel
    have hz : w.heap.size ≤ wr.heap.size := hbl.size
    by_cases hlt : k < n
    · obtain ⟨bx, ox, rfl, g1⟩ := hx k hlt
      have e1 := HT.out k hlt
      have hlen := HL.out k (by omega)
      obtain ⟨hf1, hf2⟩ := HFT.out k hlt
      obtain ⟨l, hl⟩ : ∃ l, l = ws.getD k default := ⟨_, rfl⟩
      rw [← hl] at g1 e1 hf1 hf2
      clear hl hx
      obtain ⟨a1, a2, a3⟩ := wriCells_below hbl g1
      have hti : (k : Int) < (n : Int) := by omega
      have HE : Hid (packB v (ws.take (k + 1)) = packB v (ws.take k) ++ (wrP l).flatten) := e1
      generalize packB v (ws.take k) = ys at *
      have hq1 := textD_le l.key
      have hq2 := textD_le l.val
      clear e1 g1
      obtain ⟨lk, lv, lg⟩ := l
      dsimp only at *
      cases lg
      · have HW : Hid ((wrP ⟨lk, lv, false⟩).flatten = [toB 0] ++ (textD lk).bytes ++ (textD lv).bytes) := by simp [Hid, wrP]
        go_wp2_with (at_builtin; refine wpList_appB3 _ rfl _ _ rfl w.heap.size _ ys rfl _ [toB 0] rfl ((ho.alloc _).alloc _) ?c1 ?c2 ?c3 ?_)
        case c1 => exact appAny_one (g := wr.heap.size + 1) (q := 0) (b := toB 0) (by simp [go_sem]) (by rfl)
        case c2 => simp only [List.length_cons, List.length_nil]; omega
        case c3 => simp; omega
        intro v1 w1 o1 hg hp hB
        have hb1 := hB wr ((balloc (balloc (Below.refl wr.heap.size wr) _) _).mono hz)
        have hB1 : Below w.heap.size w w1 := hbl.trans (hb1.mono (by omega))
        have c0 := hg.cell (a := ⟨wr.heap.size, 0, none⟩) (v := .string lk) (by simp [go_sem]) (own_not (own_of ho) (.inr (Nat.le_refl _)))
        have c1 := hg.cell (a := ⟨wr.heap.size, 1, none⟩) (v := .string lv) (by simp [go_sem]) (own_not (own_of ho) (.inr (Nat.le_refl _)))
        have c2 := hg.cell (a := ⟨wr.heap.size, 2, none⟩) (v := .bool false) (by simp [go_sem]) (own_not (own_of ho) (.inr (Nat.le_refl _)))
        have o1' : World.ownsRow w1 w.heap.size 5 1 v1 (ys ++ [toB 0]).length (bytesC (ys ++ [toB 0])) := by simpa using o1
        have hnb : some wr.heap.size ≠ v1.ownBlock := fun e => by
          rcases hp with hp | hp
          · rw [hp] at e
            exact own_not (own_of ho) (.inr (Nat.le_refl _)) e
          · rw [hp] at e
            simp only [Option.some.injEq, World.size_alloc] at e
            omega
        clear hB hg o1 hb1 ho a1 a2 a3 hp
        have hl2 : (ys ++ [toB 0]).length ≤ 3300 := by simp only [List.length_append, List.length_cons, List.length_nil]; omega
        obtain ⟨zs, hzs⟩ : ∃ zs, ys ++ [toB 0] = zs := ⟨_, rfl⟩
        have HZ : Hid (ys ++ [toB 0] = zs) := hzs
        rw [hzs] at o1' hl2
        clear hzs
        go_wp2_with fail
        refine (specText_u lk hf1 _).mono ?_
        rintro e w2 ⟨v2, F2, rfl, o2, hb2⟩
        obtain ⟨u2, F3, rfl, o3, -⟩ := o2
        obtain ⟨p2, r2, rfl⟩ := bytes_form (bytesR.ofO o3)
        have o1'' := owns_below o1' hb2
        have hB2 := bstep hB1 hb2
        have hs2 := hb2.size
        have t2 := appAny_bytes (bytesR.ofO o3)
        have l2 : zs.length + (textD lk).bytes.length ≤ 1073741824 := by omega
        replace c1 := cell_keep hb2 c1
        replace c2 := cell_keep hb2 c2
        have hz1 := World.block_lt_of_cell? _ _ c1
        dsimp only at hz1
        obtain ⟨ds, hds⟩ : ∃ ds, (textD lk).bytes = ds := ⟨_, rfl⟩
        have HDS : Hid ((textD lk).bytes = ds) := hds
        rw [hds] at t2 l2 hq1 ⊢
        clear hds
        generalize (textD lk).code = cd at *
        have hz2 : w.heap.size ≤ w2.heap.size := by omega
        clear o1' o3 hb2 hB1 c0
        have hfd := bytesField
        go_wp2_with (at_builtin; refine wpList_appB3 _ rfl _ _ rfl w.heap.size _ zs rfl _ ds rfl o1'' t2 l2 hz2 ?_)
        intro v4 w4 o4 hg hp hB
        clear hfd
        have hB4 : Below w.heap.size w w4 := hB2.trans ((hB w2 (Below.refl _ _)).mono (by omega))
        have d1 := hg.cell c1 hnb
        have d2 := hg.cell c2 hnb
        have hnb2 : some wr.heap.size ≠ v4.ownBlock := fun e => by
          rcases hp with hp | hp
          · exact hnb (e.trans hp)
          · rw [hp] at e
            simp only [Option.some.injEq] at e
            omega
        have o4' : World.ownsRow w4 w.heap.size 5 1 v4 (zs ++ ds).length (bytesC (zs ++ ds)) := by simpa using o4
        obtain ⟨zz, hzz⟩ : ∃ zz, zs ++ ds = zz := ⟨_, rfl⟩
        have HZ2 : Hid (zs ++ ds = zz) := hzz
        have hl3 : (zs ++ ds).length ≤ 3600 := by simp only [List.length_append]; omega
        rw [hzz] at o4' hl3
        clear hzz o4 hg hB hB2 o1'' t2 l2 hp hnb c1 c2
        go_wp2_with fail
        refine (specText_u lv hf2 _).mono ?_
        rintro e w5 ⟨v5, F5, rfl, o5, hb5⟩
        obtain ⟨u5, F6, rfl, o6, -⟩ := o5
        obtain ⟨p5, r5, rfl⟩ := bytes_form (bytesR.ofO o6)
        have o4'' := owns_below o4' hb5
        have hB5 := bstep hB4 hb5
        have hs5 := hb5.size
        have t5 := appAny_bytes (bytesR.ofO o6)
        have l5 : zz.length + (textD lv).bytes.length ≤ 1073741824 := by omega
        obtain ⟨es, hes⟩ : ∃ es, (textD lv).bytes = es := ⟨_, rfl⟩
        have HES : Hid ((textD lv).bytes = es) := hes
        rw [hes] at t5 l5 hq2 ⊢
        generalize (textD lv).code = ce at *
        have hz5 : w.heap.size ≤ w5.heap.size := by have := hB5.size; omega
        clear o4' o6 hb5 d1 d2 hnb2 hes
        have hfd := bytesField
        go_wp2_with (at_builtin; refine wpList_appB _ rfl _ _ rfl w.heap.size _ zz rfl _ es rfl o4'' t5 l5 hz5 ?_)
        intro v7 w7 o7 hg hB
        clear hfd
        have hB7 : Below w.heap.size w w7 := hB5.trans ((hB w5 (Below.refl _ _)).mono (by omega))
        have HO7 : Hid (World.ownsRow w7 w.heap.size 5 1 v7 (ys ++ ([toB 0] ++ (textD lk).bytes ++ (textD lv).bytes)).length (bytesC (ys ++ ([toB 0] ++ (textD lk).bytes ++ (textD lv).bytes)))) := by
          rw [Hid, ← List.append_assoc, ← List.append_assoc, HZ.out, HDS.out, HES.out, HZ2.out]
          simpa using o7
        clear o7 hg hB hB5 o4'' t5 l5 hB4
        go_wp2
        refine ⟨⟨k + 1, by omega, by go_num, ?_, hB7⟩, by simp [intOf]; omega⟩
        rw [HE.out, HW.out]
        exact HO7.out
      · have HW : Hid ((wrP ⟨lk, lv, true⟩).flatten = [toB 1] ++ (textD lk).bytes) := by simp [Hid, wrP]
        go_wp2_with (at_builtin; refine wpList_appB3 _ rfl _ _ rfl w.heap.size _ ys rfl _ [toB 1] rfl ((ho.alloc _).alloc _) ?c1 ?c2 ?c3 ?_)
        case c1 => exact appAny_one (g := wr.heap.size + 1) (q := 1) (b := toB 1) (by simp [go_sem]) (by rfl)
        case c2 => simp only [List.length_cons, List.length_nil]; omega
        case c3 => simp; omega
        intro v1 w1 o1 hg hp hB
        have hb1 := hB wr ((balloc (balloc (Below.refl wr.heap.size wr) _) _).mono hz)
        have hB1 : Below w.heap.size w w1 := hbl.trans (hb1.mono (by omega))
        have c0 := hg.cell (a := ⟨wr.heap.size, 0, none⟩) (v := .string lk) (by simp [go_sem]) (own_not (own_of ho) (.inr (Nat.le_refl _)))
        have c1 := hg.cell (a := ⟨wr.heap.size, 1, none⟩) (v := .string lv) (by simp [go_sem]) (own_not (own_of ho) (.inr (Nat.le_refl _)))
        have c2 := hg.cell (a := ⟨wr.heap.size, 2, none⟩) (v := .bool true) (by simp [go_sem]) (own_not (own_of ho) (.inr (Nat.le_refl _)))
        have o1' : World.ownsRow w1 w.heap.size 5 1 v1 (ys ++ [toB 1]).length (bytesC (ys ++ [toB 1])) := by simpa using o1
        have hnb : some wr.heap.size ≠ v1.ownBlock := fun e => by
          rcases hp with hp | hp
          · rw [hp] at e
            exact own_not (own_of ho) (.inr (Nat.le_refl _)) e
          · rw [hp] at e
            simp only [Option.some.injEq, World.size_alloc] at e
            omega
        clear hB hg o1 hb1 ho a1 a2 a3 hp
        have hl2 : (ys ++ [toB 1]).length ≤ 3300 := by simp only [List.length_append, List.length_cons, List.length_nil]; omega
        obtain ⟨zs, hzs⟩ : ∃ zs, ys ++ [toB 1] = zs := ⟨_, rfl⟩
        have HZ : Hid (ys ++ [toB 1] = zs) := hzs
        rw [hzs] at o1' hl2
        clear hzs
        go_wp2_with fail
        refine (specText_u lk hf1 _).mono ?_
        rintro e w2 ⟨v2, F2, rfl, o2, hb2⟩
        obtain ⟨u2, F3, rfl, o3, -⟩ := o2
        obtain ⟨p2, r2, rfl⟩ := bytes_form (bytesR.ofO o3)
        have o1'' := owns_below o1' hb2
        have hB2 := bstep hB1 hb2
        have hs2 := hb2.size
        have t2 := appAny_bytes (bytesR.ofO o3)
        have l2 : zs.length + (textD lk).bytes.length ≤ 1073741824 := by omega
        replace c1 := cell_keep hb2 c1
        replace c2 := cell_keep hb2 c2
        have hz1 := World.block_lt_of_cell? _ _ c1
        dsimp only at hz1
        obtain ⟨ds, hds⟩ : ∃ ds, (textD lk).bytes = ds := ⟨_, rfl⟩
        have HDS : Hid ((textD lk).bytes = ds) := hds
        rw [hds] at t2 l2 hq1 ⊢
        clear hds
        generalize (textD lk).code = cd at *
        have hz2 : w.heap.size ≤ w2.heap.size := by omega
        clear o1' o3 hb2 hB1 c0
        have hfd := bytesField
        go_wp2_with (at_builtin; refine wpList_appB3 _ rfl _ _ rfl w.heap.size _ zs rfl _ ds rfl o1'' t2 l2 hz2 ?_)
        intro v4 w4 o4 hg hp hB
        clear hfd
        have hB4 : Below w.heap.size w w4 := hB2.trans ((hB w2 (Below.refl _ _)).mono (by omega))
        have HO4 : Hid (World.ownsRow w4 w.heap.size 5 1 v4 (ys ++ ([toB 1] ++ (textD lk).bytes)).length (bytesC (ys ++ ([toB 1] ++ (textD lk).bytes)))) := by
          rw [Hid, ← List.append_assoc, HZ.out, HDS.out]
          simpa using o4
        have d2 := hg.cell c2 hnb
        clear o4 hg hB hB2 o1'' t2 l2 hp hnb c1 c2
        go_wp2
        refine ⟨⟨k + 1, by omega, by go_num, ?_, hB4⟩, by simp [intOf]; omega⟩
        rw [HE.out, HW.out]
        exact HO4.out
    · have hk2 : k = n := by omega
      subst hk2
      go_wp2
      go_ret
      rw [HA.out] at ho
      first | exact ⟨_, _, rfl, ⟨ho, rfl⟩, hbl⟩ | exact ⟨_, rfl, ⟨_, ⟨ho, rfl⟩⟩, hbl⟩
end Go.Proofs.YtdfapehonegeeaaGreat

/-
  Several rows of bytes more behind rows of bytes, in a region that draws its order.
-/
namespace Go.Proofs.YtdfapehonegeeaaGreat
open Go.RowKit
set_option linter.unusedVariables false
set_option linter.unusedSimpArgs false

theorem getD_app_range {α : Type} [Inhabited α] (out : List α) (D : Nat → α) (m i : Nat) (h : i < out.length + m) :
    (out ++ (List.range m).map D).getD i default = if i < out.length then out.getD i default else D (i - out.length) := by
  by_cases h1 : i < out.length
  · rw [if_pos h1]
    simp [List.getD, List.getElem?_append_left h1]
  · rw [if_neg h1]
    have h2 : i - out.length < m := by omega
    simp [List.getD, List.getElem?_append_right (Nat.le_of_not_lt h1), h2]
theorem step_pushN (w0 Y : World) {ops : Array Oper} {o : Oper} {a : Act} {K : Act → World → Prop} {Q : Exit → Act → World → Prop} {E : Prop} (hgd : o.guard = none) (s x : Operand)
    (ho : o.op = .call { callee := .builtin .append, args := #[s, x], argTypes := #[131, 131] })
    (base : Nat) (v : Value) (out : List (List Byte)) (hs : a.eval s = v) (m : Nat) (g : Nat) (hx : a.eval x = .slice (some ⟨g, 0, none⟩) m m) (hp : RowsB w0 base v out) (hbs : base ≤ w0.heap.size) (hb : Below w0.heap.size w0 Y)
    (U : Nat → Value) (F : Nat → Nat → Prop) (D : Nat → List Byte) (hu : ∀ i, i < m → bytesR.O Y w0.heap.size (F i) (U i) (D i)) (hsep : ∀ i j, i < m → j < m → i ≠ j → ∀ b, F i b → ¬ F j b)
    (hc : ∀ i, i < m → Y.cell? ⟨g, i, none⟩ = some (U i)) (hm : m ≤ 8) (hlen : out.length ≤ 1048576)
    (h : ∀ v' w', RowsB w' base v' (out ++ (List.range m).map D) → Y.grownBy w' v.ownBlock → (∀ W : World, Below base W w0 → Below base W w') → K (a.put o.dst v') w') :
    if Region.wanted o (yielded ops a.tmps) = true then Oper.wp Tryz.prog o a Y K Q else E := by
  obtain ⟨cs, us, fs, hp⟩ := hp
  obtain ⟨i0, hi, hz0, hz1, hz2⟩ := info_parts infoBytess
  have hs0 := hb.size
  have hone : ∀ i, i < m → (U i).oneCell' = true := fun i hi => by
    obtain ⟨a1, c1, e1⟩ := bytes_form (bytesR.ofO (hu i hi))
    rw [e1]; rfl
  refine step_append_at Y hgd s x 131 ho base 22 i0 _ 1 24 Tryz.underlying131 hi hz0 hz1 hz2 rfl (by decide) v out.length cs hs (owns_below hp.row hb) ⟨g, 0, none⟩ m m ((List.range m).map U) hx (by simp) ?_ ?_ (by unfold maxLen; omega) (by omega) (by omega) ?_
  · intro j x hj
    have hjm : j < m := by
      rcases Nat.lt_or_ge j m with h | h
      · exact h
      · rw [List.getElem?_eq_none (by simpa using h)] at hj; cases hj
    rw [List.getElem?_map, List.getElem?_range hjm] at hj
    simp only [Option.map_some, Option.some.injEq] at hj
    subst hj
    have hq := hc j hjm
    by_cases e : j = 0
    · subst e; simpa [Addr.add] using hq
    · simpa [Addr.add, e] using hq
  · intro x hx
    obtain ⟨j, hj, rfl⟩ := List.mem_map.1 hx
    exact hone j (List.mem_range.1 hj)
  · intro v' w' h1 h2 h3
    refine h v' w' ?_ h2 (fun W hW => (hW.trans (hb.mono hbs)).grown h2 (by omega) (fun k hk => ((owns_below hp.row hb).lt k hk).1))
    have hF : ∀ i, i < m → ∀ b, F i b → w0.heap.size ≤ b ∧ b < Y.heap.size := fun i hi b hb => bytesR.rng (hu i hi) b hb
    have hlt : ∀ b, v.ownBlock = some b → b < w0.heap.size := fun b hb => (hp.row.lt b hb).2
    have hfs : ∀ i, i < out.length → ∀ b, fs i b → b < w0.heap.size := fun i hi b hb => (bytesR.rng (hp.el i hi) b hb).2
    have hnew : ∀ b, v'.ownBlock = some b → (v.ownBlock = some b ∨ Y.heap.size ≤ b) := fun b hb => by
      rcases h3 with h3 | h3
      · left; rw [← h3]; exact hb
      · right; rw [h3] at hb; simp only [Option.some.injEq] at hb; omega
    have hlen2 : (out ++ (List.range m).map D).length = out.length + m := by simp
    have hcl : cs.length = out.length * 1 := hp.row.1
    refine ⟨cs ++ (List.range m).map U, fun i => if i < out.length then us i else U (i - out.length), fun i => if i < out.length then fs i else F (i - out.length), ?_, ?_, ?_, ?_, ?_, ?_⟩
    · rw [hlen2]; exact h1
    · intro i hi
      rw [hlen2] at hi
      rw [getD_app_range _ _ _ _ hi]
      by_cases h1' : i < out.length
      · simp only [if_pos h1']
        exact bytesR.mod (bytesR.keep (hp.el i h1') hb) (Mod.of_grown h2) (fun b hb => hp.out i h1' b hb)
      · simp only [if_neg h1']
        exact bytesR.base (bytesR.mod (hu (i - out.length) (by omega)) (Mod.of_grown h2) (fun b hb he => by have := hlt b he; have := (hF _ (by omega) b hb).1; omega)) hbs
    · intro i hi; rfl
    · intro i hi j hj
      rw [hlen2] at hi
      have e0 : j = 0 := by omega
      subst e0
      by_cases h1' : i < out.length
      · simp only [if_pos h1']
        rw [List.getElem?_append_left (by omega)]
        exact hp.cell i h1' 0 (by omega)
      · simp only [if_neg h1']
        rw [List.getElem?_append_right (by omega), hcl, show i * 1 + 0 - out.length * 1 = i - out.length by omega, List.getElem?_map, List.getElem?_range (by omega)]
        rfl
    · intro i hi b hb he
      rw [hlen2] at hi
      have hn := hnew b he
      by_cases h1' : i < out.length
      · simp only [if_pos h1'] at hb
        rcases hn with hn | hn
        · exact hp.out i h1' b hb hn
        · have := hfs i h1' b hb; omega
      · simp only [if_neg h1'] at hb
        have := hF _ (by omega) b hb
        rcases hn with hn | hn
        · have := hlt b hn; omega
        · omega
    · intro i j hi hj hij b p q
      rw [hlen2] at hi hj
      by_cases h1' : i < out.length
      · simp only [if_pos h1'] at p
        by_cases h2' : j < out.length
        · simp only [if_pos h2'] at q
          exact hp.sep i j h1' h2' hij b p q
        · simp only [if_neg h2'] at q
          have := hfs i h1' b p
          have := (hF _ (by omega) b q).1
          omega
      · simp only [if_neg h1'] at p
        by_cases h2' : j < out.length
        · simp only [if_pos h2'] at q
          have := hfs j h2' b q
          have := (hF _ (by omega) b p).1
          omega
        · simp only [if_neg h2'] at q
          exact hsep (i - out.length) (j - out.length) (by omega) (by omega) (by omega) b p q
theorem rowsB_one {Y : World} {base : Nat} {F : Nat → Prop} {u : Value} {d : List Byte} (hu : bytesR.O Y base F u d) (hb : base ≤ Y.heap.size) :
    RowsB (Y.alloc (.cells #[u] 22)) base (.slice (some ⟨Y.heap.size, 0, none⟩) 1 1) [d] := by
  refine ⟨[u], fun _ => u, fun _ => F, World.ownsRow_lit (base := base) (e := 22) (size := 1) Y #[u] 1 hb (by unfold maxLen; omega) rfl, ?_, fun i hi => rfl, ?_, ?_, ?_⟩
  · intro i hi
    have e : i = 0 := by have h1 : i < 1 := hi; omega
    subst e
    exact bytesR.alloc hu _
  · intro i hi j hj
    have e : i = 0 := by have h1 : i < 1 := hi; omega
    have e2 : j = 0 := by omega
    subst e e2
    rfl
  · intro i hi b hb he
    have h2 := (bytesR.rng hu b hb).2
    have h3 : Y.heap.size = b := by injection he
    omega
  · intro i j hi hj hij
    have h1 : i < 1 := hi
    have h2 : j < 1 := hj
    omega
end Go.Proofs.YtdfapehonegeeaaGreat


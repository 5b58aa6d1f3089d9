/-
  The bytes of writes: the specification's side.
-/
import Derived.Test.YtdfapehonegeeaaWrM
import Derived.Test.YtdfapehonegeeaaKeeps
import Derived.Test.YtdfapehonegeeaaNumU
import Derived.Test.YtdfapehonegeeaaApp3
namespace Go.Proofs.Ytdfapehonegeeaa
open Go.RowKit
set_option linter.unusedSectionVars false
variable [DecidableEq Wri] [Inhabited Wri] [DecidableEq BytesR] [Inhabited BytesR] [DecidableEq Rw] [Inhabited Rw]
set_option linter.unusedVariables false
set_option linter.unusedSimpArgs false
attribute [local go_sem ↓] Go.wp_at_zero Go.wp_at_succ

theorem bytesField (c : Int) (a : Option Addr) (n k : Nat) (w : World) : (Instr.field 61 (.agg #[.int .i64 c, .slice a n k]) 1).run Try.prog w = .ok (.slice a n k) w := by kernel_rfl

set_option maxHeartbeats 4000000 in
theorem l6Pack_any (v : Int) (x : Value) (ws : List Wri) (w : World) (hx : wrisR.V w x ws) (hn : ws.length ≤ 8) :
    Calls Try.prog 74 #[.int .i64 v, x] w fun e w' => ∃ r F, e = .returned r ∧ bytesR.O w' w.heap.size F r (packB v ws) ∧ Below w.heap.size w w' := by
  obtain ⟨hx, hfit⟩ := hx
  obtain ⟨ax, cx, rfl, hcx, hmx, hx⟩ := hx
  unfold maxLen at hmx
  have hT := packB_take v ws
  have HA : Hid (ws.take ws.length = ws) := List.take_length
  have HL : Hid (∀ k, k ≤ ws.length → (packB v (ws.take k)).length ≤ 3240) := fun k hk => by
    have := packB_len v (ws.take k)
    have := List.length_take (i := k) (l := ws)
    omega
  have H0 : Hid (packB v (ws.take 0) = hiB v 8) := by simp [Hid, packB, packP]
  have HFT : Hid (∀ k, k < ws.length → (ws.getD k default).key.size ≤ maxLen ∧ (ws.getD k default).val.size ≤ maxLen) := hfit
  clear hfit
  generalize hn' : ws.length = n at *
  have HT : Hid (∀ k, k < n → packB v (ws.take (k + 1)) = packB v (ws.take k) ++ (wrP (ws.getD k default)).flatten) := hT
  clear hn' hT
  go_enter Try.func74, Try.ntmps74
  go_wp2_with fail
  refine (specPack_u v _).mono ?_
  rintro e w1 ⟨v0, F0, rfl, o0, hB1⟩
  rw [← H0.out] at o0
  have HO0 : Hid (World.ownsRow w1 w.heap.size 5 1 v0 (packB v (ws.take 0)).length (bytesC (packB v (ws.take 0)))) := o0.1
  clear o0
  go_wp2
  go_loopw [5, 6] (fun r i w' => ∃ k : Nat, k ≤ n ∧ i = .int .i64 k ∧ w'.ownsRow w.heap.size 5 1 r (packB v (ws.take k)).length (bytesC (packB v (ws.take k))) ∧ Below w.heap.size w w') (fun _ i _ => n - (intOf i).toNat)
  case atStart => exact ⟨0, Nat.zero_le _, rfl, HO0.out, hB1⟩
  case round =>
    clear hB1 HO0
    obtain ⟨k, hk, rfl, ho, hbl⟩ := hrel
    have hz : w.heap.size ≤ wr.heap.size := hbl.size
    by_cases hlt : k < n
    · obtain ⟨bx, ox, rfl, g1⟩ := hx k hlt
      have e1 := HT.out k hlt
      have hlen := HL.out k (by omega)
      obtain ⟨hf1, hf2⟩ := HFT.out k hlt
      obtain ⟨l, hl⟩ : ∃ l, l = ws.getD k default := ⟨_, rfl⟩
      rw [← hl] at g1 e1 hf1 hf2
      clear hl hx
      obtain ⟨a1, a2, a3⟩ := wriCells_below hbl g1
      have hti : (k : Int) < (n : Int) := by omega
      have HE : Hid (packB v (ws.take (k + 1)) = packB v (ws.take k) ++ (wrP l).flatten) := e1
      generalize packB v (ws.take k) = ys at *
      have hq1 := textD_le l.key
      have hq2 := textD_le l.val
      clear e1 g1
      obtain ⟨lk, lv, lg⟩ := l
      dsimp only at *
      cases lg
      · have HW : Hid ((wrP ⟨lk, lv, false⟩).flatten = [toB 0] ++ (textD lk).bytes ++ (textD lv).bytes) := by simp [Hid, wrP]
        go_wp2_with (at_builtin; refine wpList_appB3 _ rfl _ _ rfl w.heap.size _ ys rfl _ [toB 0] rfl ((ho.alloc _).alloc _) ?c1 ?c2 ?c3 ?_)
        case c1 => exact appAny_one (g := wr.heap.size + 1) (q := 0) (b := toB 0) (by simp [go_sem]) (by rfl)
        case c2 => simp only [List.length_cons, List.length_nil]; omega
        case c3 => simp; omega
        intro v1 w1 o1 hg hp hB
        have hb1 := hB wr ((balloc (balloc (Below.refl wr.heap.size wr) _) _).mono hz)
        have hB1 : Below w.heap.size w w1 := hbl.trans (hb1.mono (by omega))
        have c0 := hg.cell (a := ⟨wr.heap.size, 0, none⟩) (v := .string lk) (by simp [go_sem]) (own_not (own_of ho) (.inr (Nat.le_refl _)))
        have c1 := hg.cell (a := ⟨wr.heap.size, 1, none⟩) (v := .string lv) (by simp [go_sem]) (own_not (own_of ho) (.inr (Nat.le_refl _)))
        have c2 := hg.cell (a := ⟨wr.heap.size, 2, none⟩) (v := .bool false) (by simp [go_sem]) (own_not (own_of ho) (.inr (Nat.le_refl _)))
        have o1' : World.ownsRow w1 w.heap.size 5 1 v1 (ys ++ [toB 0]).length (bytesC (ys ++ [toB 0])) := by simpa using o1
        have hnb : some wr.heap.size ≠ v1.ownBlock := fun e => by
          rcases hp with hp | hp
          · rw [hp] at e
            exact own_not (own_of ho) (.inr (Nat.le_refl _)) e
          · rw [hp] at e
            simp only [Option.some.injEq, World.size_alloc] at e
            omega
        clear hB hg o1 hb1 ho a1 a2 a3 hp
        have hl2 : (ys ++ [toB 0]).length ≤ 3300 := by simp only [List.length_append, List.length_cons, List.length_nil]; omega
        obtain ⟨zs, hzs⟩ : ∃ zs, ys ++ [toB 0] = zs := ⟨_, rfl⟩
        have HZ : Hid (ys ++ [toB 0] = zs) := hzs
        rw [hzs] at o1' hl2
        clear hzs
        go_wp2_with fail
        refine (specText_u lk hf1 _).mono ?_
        rintro e w2 ⟨v2, F2, rfl, o2, hb2⟩
        obtain ⟨u2, F3, rfl, o3, -⟩ := o2
        obtain ⟨p2, r2, rfl⟩ := bytes_form (bytesR.ofO o3)
        have o1'' := owns_below o1' hb2
        have hB2 := bstep hB1 hb2
        have hs2 := hb2.size
        have t2 := appAny_bytes (bytesR.ofO o3)
        have l2 : zs.length + (textD lk).bytes.length ≤ 1073741824 := by omega
        replace c1 := cell_keep hb2 c1
        replace c2 := cell_keep hb2 c2
        have hz1 := World.block_lt_of_cell? _ _ c1
        dsimp only at hz1
        obtain ⟨ds, hds⟩ : ∃ ds, (textD lk).bytes = ds := ⟨_, rfl⟩
        have HDS : Hid ((textD lk).bytes = ds) := hds
        rw [hds] at t2 l2 hq1 ⊢
        clear hds
        generalize (textD lk).code = cd at *
        have hz2 : w.heap.size ≤ w2.heap.size := by omega
        clear o1' o3 hb2 hB1 c0
        have hfd := bytesField
        go_wp2_with (at_builtin; refine wpList_appB3 _ rfl _ _ rfl w.heap.size _ zs rfl _ ds rfl o1'' t2 l2 hz2 ?_)
        intro v4 w4 o4 hg hp hB
        clear hfd
        have hB4 : Below w.heap.size w w4 := hB2.trans ((hB w2 (Below.refl _ _)).mono (by omega))
        have d1 := hg.cell c1 hnb
        have d2 := hg.cell c2 hnb
        have hnb2 : some wr.heap.size ≠ v4.ownBlock := fun e => by
          rcases hp with hp | hp
          · exact hnb (e.trans hp)
          · rw [hp] at e
            simp only [Option.some.injEq] at e
            omega
        have o4' : World.ownsRow w4 w.heap.size 5 1 v4 (zs ++ ds).length (bytesC (zs ++ ds)) := by simpa using o4
        obtain ⟨zz, hzz⟩ : ∃ zz, zs ++ ds = zz := ⟨_, rfl⟩
        have HZ2 : Hid (zs ++ ds = zz) := hzz
        have hl3 : (zs ++ ds).length ≤ 3600 := by simp only [List.length_append]; omega
        rw [hzz] at o4' hl3
        clear hzz o4 hg hB hB2 o1'' t2 l2 hp hnb c1 c2
        go_wp2_with fail
        refine (specText_u lv hf2 _).mono ?_
        rintro e w5 ⟨v5, F5, rfl, o5, hb5⟩
        obtain ⟨u5, F6, rfl, o6, -⟩ := o5
        obtain ⟨p5, r5, rfl⟩ := bytes_form (bytesR.ofO o6)
        have o4'' := owns_below o4' hb5
        have hB5 := bstep hB4 hb5
        have hs5 := hb5.size
        have t5 := appAny_bytes (bytesR.ofO o6)
        have l5 : zz.length + (textD lv).bytes.length ≤ 1073741824 := by omega
        obtain ⟨es, hes⟩ : ∃ es, (textD lv).bytes = es := ⟨_, rfl⟩
        have HES : Hid ((textD lv).bytes = es) := hes
        rw [hes] at t5 l5 hq2 ⊢
        generalize (textD lv).code = ce at *
        have hz5 : w.heap.size ≤ w5.heap.size := by have := hB5.size; omega
        clear o4' o6 hb5 d1 d2 hnb2 hes
        have hfd := bytesField
        go_wp2_with (at_builtin; refine wpList_appB _ rfl _ _ rfl w.heap.size _ zz rfl _ es rfl o4'' t5 l5 hz5 ?_)
        intro v7 w7 o7 hg hB
        clear hfd
        have hB7 : Below w.heap.size w w7 := hB5.trans ((hB w5 (Below.refl _ _)).mono (by omega))
        have HO7 : Hid (World.ownsRow w7 w.heap.size 5 1 v7 (ys ++ ([toB 0] ++ (textD lk).bytes ++ (textD lv).bytes)).length (bytesC (ys ++ ([toB 0] ++ (textD lk).bytes ++ (textD lv).bytes)))) := by
          rw [Hid, ← List.append_assoc, ← List.append_assoc, HZ.out, HDS.out, HES.out, HZ2.out]
          simpa using o7
        clear o7 hg hB hB5 o4'' t5 l5 hB4
        go_wp2
        refine ⟨⟨k + 1, by omega, by go_num, ?_, hB7⟩, by simp [intOf]; omega⟩
        rw [HE.out, HW.out]
        exact HO7.out
      · have HW : Hid ((wrP ⟨lk, lv, true⟩).flatten = [toB 1] ++ (textD lk).bytes) := by simp [Hid, wrP]
        go_wp2_with (at_builtin; refine wpList_appB3 _ rfl _ _ rfl w.heap.size _ ys rfl _ [toB 1] rfl ((ho.alloc _).alloc _) ?c1 ?c2 ?c3 ?_)
        case c1 => exact appAny_one (g := wr.heap.size + 1) (q := 1) (b := toB 1) (by simp [go_sem]) (by rfl)
        case c2 => simp only [List.length_cons, List.length_nil]; omega
        case c3 => simp; omega
        intro v1 w1 o1 hg hp hB
        have hb1 := hB wr ((balloc (balloc (Below.refl wr.heap.size wr) _) _).mono hz)
        have hB1 : Below w.heap.size w w1 := hbl.trans (hb1.mono (by omega))
        have c0 := hg.cell (a := ⟨wr.heap.size, 0, none⟩) (v := .string lk) (by simp [go_sem]) (own_not (own_of ho) (.inr (Nat.le_refl _)))
        have c1 := hg.cell (a := ⟨wr.heap.size, 1, none⟩) (v := .string lv) (by simp [go_sem]) (own_not (own_of ho) (.inr (Nat.le_refl _)))
        have c2 := hg.cell (a := ⟨wr.heap.size, 2, none⟩) (v := .bool true) (by simp [go_sem]) (own_not (own_of ho) (.inr (Nat.le_refl _)))
        have o1' : World.ownsRow w1 w.heap.size 5 1 v1 (ys ++ [toB 1]).length (bytesC (ys ++ [toB 1])) := by simpa using o1
        have hnb : some wr.heap.size ≠ v1.ownBlock := fun e => by
          rcases hp with hp | hp
          · rw [hp] at e
            exact own_not (own_of ho) (.inr (Nat.le_refl _)) e
          · rw [hp] at e
            simp only [Option.some.injEq, World.size_alloc] at e
            omega
        clear hB hg o1 hb1 ho a1 a2 a3 hp
        have hl2 : (ys ++ [toB 1]).length ≤ 3300 := by simp only [List.length_append, List.length_cons, List.length_nil]; omega
        obtain ⟨zs, hzs⟩ : ∃ zs, ys ++ [toB 1] = zs := ⟨_, rfl⟩
        have HZ : Hid (ys ++ [toB 1] = zs) := hzs
        rw [hzs] at o1' hl2
        clear hzs
        go_wp2_with fail
        refine (specText_u lk hf1 _).mono ?_
        rintro e w2 ⟨v2, F2, rfl, o2, hb2⟩
        obtain ⟨u2, F3, rfl, o3, -⟩ := o2
        obtain ⟨p2, r2, rfl⟩ := bytes_form (bytesR.ofO o3)
        have o1'' := owns_below o1' hb2
        have hB2 := bstep hB1 hb2
        have hs2 := hb2.size
        have t2 := appAny_bytes (bytesR.ofO o3)
        have l2 : zs.length + (textD lk).bytes.length ≤ 1073741824 := by omega
        replace c1 := cell_keep hb2 c1
        replace c2 := cell_keep hb2 c2
        have hz1 := World.block_lt_of_cell? _ _ c1
        dsimp only at hz1
        obtain ⟨ds, hds⟩ : ∃ ds, (textD lk).bytes = ds := ⟨_, rfl⟩
        have HDS : Hid ((textD lk).bytes = ds) := hds
        rw [hds] at t2 l2 hq1 ⊢
        clear hds
        generalize (textD lk).code = cd at *
        have hz2 : w.heap.size ≤ w2.heap.size := by omega
        clear o1' o3 hb2 hB1 c0
        have hfd := bytesField
        go_wp2_with (at_builtin; refine wpList_appB3 _ rfl _ _ rfl w.heap.size _ zs rfl _ ds rfl o1'' t2 l2 hz2 ?_)
        intro v4 w4 o4 hg hp hB
        clear hfd
        have hB4 : Below w.heap.size w w4 := hB2.trans ((hB w2 (Below.refl _ _)).mono (by omega))
        have HO4 : Hid (World.ownsRow w4 w.heap.size 5 1 v4 (ys ++ ([toB 1] ++ (textD lk).bytes)).length (bytesC (ys ++ ([toB 1] ++ (textD lk).bytes)))) := by
          rw [Hid, ← List.append_assoc, HZ.out, HDS.out]
          simpa using o4
        have d2 := hg.cell c2 hnb
        clear o4 hg hB hB2 o1'' t2 l2 hp hnb c1 c2
        go_wp2
        refine ⟨⟨k + 1, by omega, by go_num, ?_, hB4⟩, by simp [intOf]; omega⟩
        rw [HE.out, HW.out]
        exact HO4.out
    · have hk2 : k = n := by omega
      subst hk2
      go_wp2
      go_ret
      rw [HA.out] at ho
      first | exact ⟨_, _, rfl, ⟨ho, rfl⟩, hbl⟩ | exact ⟨_, rfl, ⟨_, ⟨ho, rfl⟩⟩, hbl⟩

end Go.Proofs.Ytdfapehonegeeaa

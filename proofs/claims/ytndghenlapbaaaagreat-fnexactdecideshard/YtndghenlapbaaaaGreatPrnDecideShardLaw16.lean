import Derived.Test.YtndghenlapbaaaaGreatPrnDecideShardLaw14
import Derived.Test.YtndghenlapbaaaaGreatPrnDecideShardLaw15
import Derived.Test.YtndghenlapbaaaaGreatPrnDecideShardLaw3
import Derived.Test.YtndghenlapbaaaaGreatPrnDecideShardLaw12
import Derived.Test.YtndghenlapbaaaaGreatPrnDecideShardLaw2
import Derived.Test.YtndghenlapbaaaaGreatPrnDecideShardLaw13
import Derived.Test.YtndghenlapbaaaaGreatPrnDecideShardLaw9
import Derived.Test.YtndghenlapbaaaaGreatPrnDecideShardLaw1
set_option linter.unusedSectionVars false
set_option linter.unusedVariables false
set_option linter.unusedSimpArgs false

/-
 (impl.book).ledger: the book's keys, sorted, laid shard by shard.
-/
namespace Go.Proofs.YtndghenlapbaaaaGreat
open Go.RowKit Go.Sort Go.Shelf
variable [DecidableEq Rw] [Inhabited Rw] [DecidableEq Bal] [Inhabited Bal] [DecidableEq Ledg] [Inhabited Ledg] [DecidableEq Leg] [Inhabited Leg] [DecidableEq Cont] [Inhabited Cont] [DecidableEq LedgR] [Inhabited LedgR]
attribute [local go_sem ↓] Go.wp_at_zero Go.wp_at_succ

theorem KDn.perm {f : Int → Int → Int → Option Int} {xs ys : List K3} (h : KDn f xs) (hp : ys.Perm xs) : KDn f ys :=
 ⟨⟨hp.symm.nodup h.1.1, fun x hx => h.1.2 x (hp.mem_iff.1 hx)⟩, fun s a t hk hs => hp.mem_iff.2 (h.2 s a t hk hs)⟩
theorem po_made {W : World} {base G n : Nat} (h : W.ownsRow base 33 1 (.slice (some ⟨G, 0, none⟩) n n) n (madeCells (Value.slice none 0 0).cells (n * 1)).toList) (f : Int → Int → Int → Option Int) :
  PO balsR 33 1 one W base (.slice (some ⟨G, 0, none⟩) n n) n n (fun i => shK f [] i) (List.replicate n (.slice none 0 0)) (fun _ => .slice none 0 0) (fun _ b => (Value.slice none 0 0).ownBlock = some b) := by
 rw [Nat.mul_one, show (Value.slice none 0 0).cells = #[.slice none 0 0] from rfl, toList_madeCells_one] at h
 refine ⟨h, fun i hi => ⟨⟨rfl, .inl ⟨rfl, rfl⟩⟩, rfl⟩, fun _ _ => rfl, fun i hi j hj => ?_, fun i hi b hb => (by cases hb), fun i j hi hj hij b hb => (by cases hb)⟩
 obtain rfl : j = 0 := by omega
 simp [one, hi]
set_option maxRecDepth 20000 in
set_option maxHeartbeats 8000000 in
theorem bookLedger_any (n b m : Nat) (f : Int → Int → Int → Option Int) (w : World) (hb : Book w b m f) (hn0 : 1 ≤ n) (hn : n ≤ 3) (hd : KDom n f) :
  Calls Tryz.prog 97 #[.agg #[.int .i64 n, .map (some b)]] w fun e w' => ∃ v F ys, e = .returned (.agg #[v]) ∧ KDn f ys ∧ ys.Pairwise (fun p q => ltOf cfK q p = false) ∧ balssR.O w' w.heap.size F v ((List.range n).map (shK f ys)) ∧ Go.RowKit.Below w.heap.size w w' := by
 have hbl := hb.lt
 obtain ⟨W0, hW0⟩ : ∃ W0, W0 = (w.alloc (.cells #[.int .i64 n, .map (some b)] 115)).alloc (.cells #[.slice none 0 0] 126) := ⟨_, rfl⟩
 obtain ⟨i0, hi, hz0, hz1, hz2⟩ := info_parts infoBalss
 obtain ⟨w1, hmk, hown, hgr⟩ := run_make_full (P := Tryz.prog) W0 w.heap.size 124 33 i0 _ 1 Tryz.underlying124 hi hz0 hz1 .i64 .i64 n (by rw [hz2]; omega) (by unfold maxLen; omega) (by rw [hW0]; simp; omega)
 have hs0 : W0.heap.size = w.heap.size + 1 + 1 := by rw [hW0]; simp
 have hB1 : Go.RowKit.Below W0.heap.size W0 w1 := (Below.refl _ _).grown hgr (Nat.le_refl _) (fun k h => by cases h)
 have k0 : w1.cell? ⟨w.heap.size, 0, none⟩ = some (.int .i64 n) := cK hB1 (by rw [hW0]; simp [go_sem])
 have k1 : w1.cell? ⟨w.heap.size, 1, none⟩ = some (.map (some b)) := cK hB1 (by rw [hW0]; simp [go_sem])
 have r0 : w1.cell? ⟨w.heap.size + 1, 0, none⟩ = some (.slice none 0 0) := cK hB1 (by rw [hW0]; simp [go_sem])
 have hbw1 : Go.RowKit.Below w.heap.size w w1 := by
  have h1 : Go.RowKit.Below w.heap.size w W0 := by rw [hW0]; (repeat (first | exact bR _ _ | assumption | refine bD ?_ | refine bA ?_ _ | refine bset ?_ (by simp; omega) _ | refine bset ?_ (by simp) _ | refine bS ?_ (by assumption)))
  exact bS h1 hB1
 have z1 : w.heap.size + 1 + 1 < w1.heap.size := by
  have := (hown.lt W0.heap.size rfl).2
  omega
 have z0 : w.heap.size < w1.heap.size := by omega
 have z01 : w.heap.size + 1 < w1.heap.size := by omega
 have fr0 : w1.frozen? ⟨w.heap.size + 1, 0, none⟩ = false := (hB1.frozen (p := ⟨w.heap.size + 1, 0, none⟩) (by rw [hs0]; simp)).trans (by rw [hW0]; simp [go_sem])
 rw [hs0] at hown
 rw [hW0] at hmk
 clear hW0 hgr hB1 hi hz0 hz1 hz2 i0
 go_enter Tryz.func97, Tryz.ntmps97
 go_wp2_with fail
 refine (keysFn_any _ b).mono ?_
 rintro e w2 ⟨rfl, hb2, q2⟩
 have hB12 : Go.RowKit.Below w1.heap.size w1 w2 := bS (bA (Below.refl _ _) _) hb2
 have g2 : w2.cell? ⟨w1.heap.size, 0, none⟩ = some (.slice (some ⟨w.heap.size + 1 + 1, 0, none⟩) n n) := cK hb2 (by simp [go_sem])
 rw [World.size_alloc] at q2
 have hz2 : w1.heap.size + 1 < w2.heap.size := wL _ _ q2
 have hcon := sortedFunc_any sortsK 153 #[.pointer (some ⟨w1.heap.size + 1, 0, none⟩)] (KOk f) (KDn f) (fun i => i = w1.heap.size + 1 ∨ i = b) w2 (enters_of Tryz.func153 (by kernel_rfl) rfl)
  (keys_seqY _ b m f _ w2 q2 (.inl rfl) (.inr rfl) (fun i hi => by rcases hi with rfl | rfl <;> omega) (hb.below (bS hbw1 hB12))) (fun i hi => by rcases hi with rfl | rfl <;> omega) (fun ys h => by have := hd.len h; omega) (fun ys h => by have := hd.len h.1; omega)
 rw [World.size_alloc]
 clear q2 hb2 hmk
 go_wp2_with fail
 refine hcon.mono ?_
 rintro e w3 ⟨v, xs, ys, rfl, hD, hp, hs, hkv, hb3⟩
 clear hcon
 have HD : Hid (KDn f ys) := hD.perm hp
 have HS : Hid (ys.Pairwise (fun p q => ltOf cfK q p = false)) := hs
 have hlen : ys.length ≤ 54 := by have := hd.len HD.out.1; omega
 clear hD hp hs xs
 have hB13 : Go.RowKit.Below w1.heap.size w1 w3 := bS hB12 hb3
 have hB3 : Go.RowKit.Below w.heap.size w w3 := bS hbw1 hB13
 have HBK : Hid (Book w3 b m f) := hb.below hB3
 have e0 : w3.cell? ⟨w.heap.size, 1, none⟩ = some (.map (some b)) := cK hB13 k1
 have e1 : w3.cell? ⟨w.heap.size + 1, 0, none⟩ = some (.slice none 0 0) := cK hB13 r0
 have e2 : w3.cell? ⟨w1.heap.size, 0, none⟩ = some (.slice (some ⟨w.heap.size + 1 + 1, 0, none⟩) n n) := cK hb3 g2
 have e3 : w3.frozen? ⟨w.heap.size + 1, 0, none⟩ = false := (hB13.frozen (p := ⟨w.heap.size + 1, 0, none⟩) z01).trans fr0
 have HP0 := po_made (owns_below hown hB13) f
 have hGc : w3.cell? ⟨w.heap.size + 1 + 1, 0, none⟩ = some (.slice none 0 0) := by
  have h := HP0.row.cellAt 0 (by omega)
  rw [h, List.getElem?_replicate, if_pos (by omega)]
 have hz3 : w1.heap.size < w3.heap.size := wL _ _ e2
 obtain ⟨av, cv, rfl, hkeys⟩ := hkv
 clear hb hb3 hB13 hB12 g2 k0 k1 r0 fr0 hown hbw1 hz2
 have HKE : Hid (∀ i, i < ys.length → ∃ g, av = some ⟨g, 0, none⟩ ∧ keyCells w3 g (i * 3) (ys.getD i default)) := hkeys
 clear hkeys
 generalize hq : ys.length = q at *
 have HN : Hid (ys.length = q) := hq
 clear hq
 go_wp2
 go_loopw [17] (fun i W => ∃ (k : Nat) (cs : List Value) (us : Nat → Value) (fs : Nat → Nat → Prop), k ≤ q ∧ i = .int .i64 k ∧ Hid (PO balsR 33 1 one W w.heap.size (.slice (some ⟨w.heap.size + 1 + 1, 0, none⟩) n n) n n (fun i => shK f (ys.take k) i) cs us fs) ∧ Hid (∀ i, i < n → ∀ b, fs i b → w3.heap.size ≤ b) ∧ Mod (fun b => b = w.heap.size + 1 + 1) w3 W) (fun i _ => q - (intOf i).toNat)
 case atStart => exact ⟨0, _, _, _, Nat.zero_le _, rfl, HP0, fun i hi b hb => (by cases hb), Mod.refl _ _⟩
 case round =>
  obtain ⟨k, cs, us, fs, hk, rfl, HP, HF, hM⟩ := hrel
  rename World => w4
  by_cases hlt : k < q
  ·
   obtain ⟨g, rfl, hc⟩ := HKE.out k hlt
   have hgne : g ≠ w.heap.size + 1 + 1 := fun e => by
    obtain ⟨g', e', h0, _⟩ := HKE.out 0 (by omega)
    simp only [Option.some.injEq, Addr.mk.injEq, and_true] at e'
    rw [← e', e, Nat.zero_mul, hGc] at h0
    cases h0
   have hlk : k < ys.length := by rw [HN.out]; exact hlt
   have hgd : ys.getD k default = ys[k] := by simp [List.getD, hlk]
   have hmem : ys.getD k default ∈ ys := by rw [hgd]; exact List.getElem_mem _
   have htk : ys.take k ++ [ys.getD k default] = ys.take (k + 1) := by rw [hgd, List.take_add_one, List.getElem?_eq_getElem hlk]; rfl
   clear hlk hgd
   obtain ⟨x, hx⟩ : ∃ x, x = ys.getD k default := ⟨_, rfl⟩
   rw [← hx] at hc hmem htk
   clear hx
   have HTK : Hid (ys.take k ++ [x] = ys.take (k + 1)) := htk
   clear htk
   obtain ⟨s, a, t⟩ := x
   have hsome := HD.out.1.2 _ hmem
   dsimp only at hsome
   obtain ⟨⟨hs0', hs1'⟩, hko⟩ := hd s a t hsome
   obtain ⟨⟨ha0, ha1⟩, ht0, ht1⟩ := keyOk_iff.1 hko
   have hkw : kwf s a t := ⟨wf_of (by omega) (by omega), wf_of (by omega) (by omega), wf_of (by omega) (by omega)⟩
   obtain ⟨j, rfl⟩ : ∃ j : Nat, s = (j : Int) := ⟨s.toNat, by omega⟩
   have hjn : j < n := by omega
   obtain ⟨d0, d1, d2⟩ := hc
   dsimp only at d0 d1 d2
   replace d0 := hM.cell d0 hgne
   replace d1 := hM.cell d1 hgne
   replace d2 := hM.cell d2 hgne
   have f0 := hM.cell e0 (by dsimp only; omega)
   have f2 := hM.cell e2 (by dsimp only; omega)
   have hz4 := hM.size
   have HB4 : Hid (Book w4 b m f) := HBK.out.turned hM (by omega)
   obtain ⟨v, hv⟩ : ∃ v, v = (f j a t).getD 0 := ⟨_, rfl⟩
   have HV : Hid (v = (f j a t).getD 0) := hv
   clear hv hmem hsome HP0 e0 e1 e2 hGc
   have hk' : (k : Int) < q := by omega
   have hk0 : (0 : Int) ≤ k := by omega
   have hwk : IntKind.i64.wrap ((k : Int) + 1) = (k : Int) + 1 := wrapId (by omega) (by omega)
   go_wp2
   have HLK : ∀ W, Go.RowKit.Below w4.heap.size w4 W → (Instr.lookup 113 (.map (some b)) (.agg #[.int .i64 j, .int .i64 a, .int .i64 t]) false).run Tryz.prog W = .ok (.int .i64 v) W := fun W hW => by rw [HV.out]; exact ((HB4.out.below hW).look hkw).1
   refine wp_region_noPanic ?_
   refine region_upto (fun W => W.cell? ⟨w.heap.size, 1, none⟩ = some (.map (some b)) ∧ (W.cell? ⟨w4.heap.size, 0, none⟩ = some (.int .i64 j) ∧ W.cell? ⟨w4.heap.size, 1, none⟩ = some (.int .i64 a) ∧ W.cell? ⟨w4.heap.size, 2, none⟩ = some (.int .i64 t)) ∧ (Instr.lookup 113 (.map (some b)) (.agg #[.int .i64 j, .int .i64 a, .int .i64 t]) false).run Tryz.prog W = .ok (.int .i64 v) W) 10 (by kernel_rfl) ⟨cK (qBq) f0, ⟨by simp [go_sem], by simp [go_sem], by simp [go_sem]⟩, HLK _ (qBq)⟩ (fun hS => ?_)
   refine tK (i := 0) (v := ?_) rfl (by kernel_rfl) hS ?_ ?_
   rotate_left
   ·
    intro wS hSw; (try dsimp only at hSw); go_simp; try with_reducible rfl
   try simp only [Act.put, jA, jB, jC, jD, jE, jF]
   refine tK (i := 1) (v := ?_) rfl (by kernel_rfl) hS ?_ ?_
   rotate_left
   ·
    intro wS hSw; (try dsimp only at hSw); go_simp; try with_reducible rfl
   try simp only [Act.put, jA, jB, jC, jD, jE, jF]
   refine tK (i := 2) (v := ?_) rfl (by kernel_rfl) hS ?_ ?_
   rotate_left
   ·
    intro wS hSw; (try dsimp only at hSw); go_simp; try with_reducible rfl
   try simp only [Act.put, jA, jB, jC, jD, jE, jF]
   refine tK (i := 3) (v := ?_) rfl (by kernel_rfl) hS ?_ ?_
   rotate_left
   ·
    intro wS hSw; (try dsimp only at hSw); go_simp; try with_reducible rfl
   try simp only [Act.put, jA, jB, jC, jD, jE, jF]
   refine tK (i := 4) (v := ?_) rfl (by kernel_rfl) hS ?_ ?_
   rotate_left
   ·
    intro wS hSw; (try dsimp only at hSw); go_simp; try with_reducible rfl
   try simp only [Act.put, jA, jB, jC, jD, jE, jF]
   refine tK (i := 5) (v := ?_) rfl (by kernel_rfl) hS ?_ ?_
   rotate_left
   ·
    intro wS hSw; (try dsimp only at hSw); go_simp; try with_reducible rfl
   try simp only [Act.put, jA, jB, jC, jD, jE, jF]
   refine tK (i := 6) (v := ?_) rfl (by kernel_rfl) hS ?_ ?_
   rotate_left
   ·
    intro wS hSw; (try dsimp only at hSw); go_simp; try with_reducible rfl
   try simp only [Act.put, jA, jB, jC, jD, jE, jF]
   refine tK (i := 7) (v := ?_) rfl (by kernel_rfl) hS ?_ ?_
   rotate_left
   ·
    intro wS hSw; (try dsimp only at hSw); go_simp; try with_reducible rfl
   try simp only [Act.put, jA, jB, jC, jD, jE, jF]
   refine tK (i := 8) (v := ?_) rfl (by kernel_rfl) hS ?_ ?_
   rotate_left
   ·
    intro wS hSw; (try dsimp only at hSw); go_simp; try with_reducible rfl
   try simp only [Act.put, jA, jB, jC, jD, jE, jF]
   refine upto_step (i := 9) (by kernel_rfl) rfl ?_
   intro K hK
   go_simp
   refine hK _ _ (fun _ => ⟨cK (bA (Below.refl _ _) _) hS.1, ⟨cK (bA (Below.refl _ _) _) hS.2.1.1, cK (bA (Below.refl _ _) _) hS.2.1.2.1, cK (bA (Below.refl _ _) _) hS.2.1.2.2⟩, HLK _ (qBq)⟩) ?_
   clear hK K
   try simp only [Act.put, jA, jB, jC, jD, jE, jF]
   refine upto_step (i := 10) (by kernel_rfl) rfl ?_
   intro K hK
   go_simp
   refine hK _ _ (fun h => absurd rfl h) ?_
   clear hK K
   refine upto_done (by kernel_rfl) ?_
   refine NoPanic.normal ?_
   have hb5 : Go.RowKit.Below w4.heap.size w4 ((w4.alloc (.cells #[.int .i64 j, .int .i64 a, .int .i64 t] 152)).alloc (.cells #[.int .i64 a, .int .i64 t, .int .i64 v] 99)).drew := qBq
   generalize hw5 : ((w4.alloc (.cells #[.int .i64 j, .int .i64 a, .int .i64 t] 152)).alloc (.cells #[.int .i64 a, .int .i64 t, .int .i64 v] 99)).drew = w5 at *
   have x0 : w5.cell? ⟨w4.heap.size + 1, 0, none⟩ = some (.int .i64 a) := by rw [← hw5]; simp [go_sem]
   have x1 : w5.cell? ⟨w4.heap.size + 1, 1, none⟩ = some (.int .i64 t) := by rw [← hw5]; simp [go_sem]
   have x2 : w5.cell? ⟨w4.heap.size + 1, 2, none⟩ = some (.int .i64 v) := by rw [← hw5]; simp [go_sem]
   clear hw5 hS HLK
   have hp5 := HP.out.keep hb5
   have h2 := cK hb5 f2
   have hM5 := hM.transB' hb5
   have hj0 : (0 : Int) ≤ j := by omega
   have hj1 : (j : Int) < n := by omega
   have hel := hp5.el j hjn
   have hcel : w5.cell? ⟨w.heap.size + 1 + 1, j, none⟩ = some (us j) := by
    have h := hp5.cell j hjn 0 (by omega)
    rw [Nat.mul_one, Nat.add_zero] at h
    rw [hp5.row.cellAt j (by omega), h]
    rfl
   have hrngj : ∀ b, fs j b → b < w4.heap.size := fun b hb => (balsR.rng (HP.out.el j hjn) b hb).2
   have hfrj : w5.frozen? ⟨w.heap.size + 1 + 1, j, none⟩ = false := hp5.row.frozenAt j
   obtain ⟨au, cu, hu⟩ := bals_form (balsR.ofO hel)
   have hol : (shK f (ys.take k) j).length ≤ 54 := by
    unfold shK
    rw [List.length_map]
    refine Nat.le_trans (List.length_filter_le _ _) ?_
    rw [List.length_take]
    omega
   have HP5 : Hid (PO balsR 33 1 one w5 w.heap.size (.slice (some ⟨w.heap.size + 1 + 1, 0, none⟩) n n) n n (fun i => shK f (ys.take k) i) cs us fs) := hp5
   obtain ⟨out, hout⟩ : ∃ out, out = shK f (ys.take k) j := ⟨_, rfl⟩
   rw [← hout] at hel hu hol
   have HOUT : Hid (out = shK f (ys.take k) j) := hout
   obtain ⟨L, hL⟩ : ∃ L, L = out.length := ⟨_, rfl⟩
   obtain ⟨hown5, hfsj⟩ := hel
   rw [hu] at hcel hown5 hfsj
   rw [← hL] at hcel hown5 hol
   have HL : Hid (L = out.length) := hL
   clear hp5 hout hL HP hM
   rw [← HL.out] at hfsj
   have HFJ : Hid (fs j = fun b => (Value.slice au L cu).ownBlock = some b) := hfsj
   clear hfsj hu
   go_wp2
   refine wp_region_noPanic ?_
   refine region_upto (fun W => W.cell? ⟨w1.heap.size, 0, none⟩ = some (.slice (some ⟨w.heap.size + 1 + 1, 0, none⟩) n n) ∧ W.cell? ⟨w.heap.size + 1 + 1, j, none⟩ = some (.slice au L cu) ∧ W.cell? ⟨w4.heap.size + 1, 0, none⟩ = some (.int .i64 a) ∧ W.cell? ⟨w4.heap.size + 1, 1, none⟩ = some (.int .i64 t) ∧ W.cell? ⟨w4.heap.size + 1, 2, none⟩ = some (.int .i64 v)) 12 (by kernel_rfl) ⟨cK (qBq) h2, cK (qBq) hcel, cK (qBq) x0, cK (qBq) x1, cK (qBq) x2⟩ (fun hS => ?_)
   refine tK (i := 0) (v := ?_) rfl (by kernel_rfl) hS ?_ ?_
   rotate_left
   ·
    intro wS hSw; (try dsimp only at hSw); go_simp; try with_reducible rfl
   try simp only [Act.put, jA, jB, jC, jD, jE, jF]
   refine tK (i := 1) (v := ?_) rfl (by kernel_rfl) hS ?_ ?_
   rotate_left
   ·
    intro wS hSw; (try dsimp only at hSw); go_simp; try with_reducible rfl
   try simp only [Act.put, jA, jB, jC, jD, jE, jF]
   refine tK (i := 2) (v := ?_) rfl (by kernel_rfl) hS ?_ ?_
   rotate_left
   ·
    intro wS hSw; (try dsimp only at hSw); go_simp; try with_reducible rfl
   try simp only [Act.put, jA, jB, jC, jD, jE, jF]
   refine tK (i := 3) (v := ?_) rfl (by kernel_rfl) hS ?_ ?_
   rotate_left
   ·
    intro wS hSw; (try dsimp only at hSw); go_simp; try with_reducible rfl
   try simp only [Act.put, jA, jB, jC, jD, jE, jF]
   refine tK (i := 4) (v := ?_) rfl (by kernel_rfl) hS ?_ ?_
   rotate_left
   ·
    intro wS hSw; (try dsimp only at hSw); go_simp; try with_reducible rfl
   try simp only [Act.put, jA, jB, jC, jD, jE, jF]
   refine tK (i := 5) (v := ?_) rfl (by kernel_rfl) hS ?_ ?_
   rotate_left
   ·
    intro wS hSw; (try dsimp only at hSw); go_simp; try with_reducible rfl
   try simp only [Act.put, jA, jB, jC, jD, jE, jF]
   refine tK (i := 6) (v := ?_) rfl (by kernel_rfl) hS ?_ ?_
   rotate_left
   ·
    intro wS hSw; (try dsimp only at hSw); go_simp; try with_reducible rfl
   try simp only [Act.put, jA, jB, jC, jD, jE, jF]
   refine tK (i := 7) (v := ?_) rfl (by kernel_rfl) hS ?_ ?_
   rotate_left
   ·
    intro wS hSw; (try dsimp only at hSw); go_simp; try with_reducible rfl
   try simp only [Act.put, jA, jB, jC, jD, jE, jF]
   refine tK (i := 8) (v := ?_) rfl (by kernel_rfl) hS ?_ ?_
   rotate_left
   ·
    intro wS hSw; (try dsimp only at hSw); go_simp; try with_reducible rfl
   try simp only [Act.put, jA, jB, jC, jD, jE, jF]
   refine upto_step (i := 9) (by kernel_rfl) rfl ?_
   intro K hK
   go_simp
   have hSY := And.intro (cK (bA (Below.refl _ _) (.cells #[.int .i64 a, .int .i64 t, .int .i64 v] 99)) hS.1) (And.intro (cK (bA (Below.refl _ _) (.cells #[.int .i64 a, .int .i64 t, .int .i64 v] 99)) hS.2.1) (And.intro (cK (bA (Below.refl _ _) (.cells #[.int .i64 a, .int .i64 t, .int .i64 v] 99)) hS.2.2.1) (And.intro (cK (bA (Below.refl _ _) (.cells #[.int .i64 a, .int .i64 t, .int .i64 v] 99)) hS.2.2.2.1) (cK (bA (Below.refl _ _) (.cells #[.int .i64 a, .int .i64 t, .int .i64 v] 99)) hS.2.2.2.2))))
   refine hK _ _ (fun _ => hSY) ?_
   clear hK K
   try simp only [Act.put, jA, jB, jC, jD, jE, jF]
   refine upto_step (i := 10) (by kernel_rfl) rfl ?_
   intro K hK
   obtain ⟨i0, hi, hz0, hz1, hz2⟩ := info_parts infoBal
   have hbY : Go.RowKit.Below w5.heap.size w5 (w5.drew.alloc (.cells #[.int .i64 a, .int .i64 t, .int .i64 v] 99)) := qBq
   have hzY := hbY.size
   have hz5 := hb5.size
   refine step_append_at _ rfl _ _ 33 rfl w.heap.size 99 i0 _ 3 24 Tryz.underlying33 hi hz0 hz1 hz2 rfl (by decide) (.slice au L cu) L (balsC out) rfl (owns_below hown5 hbY) ⟨w5.heap.size, 0, none⟩ 1 1 (balC ⟨a, t, v⟩) rfl rfl ?_ (balC_one _) (by unfold maxLen; omega) (by omega) (by simp; omega) ?_
   ·
    refine balC_cells (x := ⟨a, t, v⟩) (o := 0) ?_
    exact ⟨by simp [go_sem], by simp [go_sem], by simp [go_sem]⟩
   intro v6 w6 o6 hg6 hloc
   have hmY : Mod (fs j) (w5.drew.alloc (.cells #[.int .i64 a, .int .i64 t, .int .i64 v] 99)) w6 := by rw [HFJ.out]; exact Mod.of_grown hg6
   have hm6 : Mod (fs j) w5 w6 := (Mod.of_below hbY).trans hmY
   have hn1 : ¬ fs j w1.heap.size := fun h => by have := HF.out j hjn _ h; omega
   have hn2 : ¬ fs j (w.heap.size + 1 + 1) := fun h => HP5.out.out j hjn _ h rfl
   have hn3 : ¬ fs j (w4.heap.size + 1) := fun h => by have := hrngj _ h; omega
   have hS6 := And.intro (hmY.cell hSY.1 hn1) (And.intro (hmY.cell hSY.2.1 hn2) (And.intro (hmY.cell hSY.2.2.1 hn3) (And.intro (hmY.cell hSY.2.2.2.1 hn3) (hmY.cell hSY.2.2.2.2 hn3))))
   have hf6 : w6.frozen? ⟨w.heap.size + 1 + 1, j, none⟩ = false := (mod_frozen hm6 (a := ⟨w.heap.size + 1 + 1, j, none⟩) (show w.heap.size + 1 + 1 < w5.heap.size by omega) hn2).trans hfrj
   have hc6 : w6.cell? ⟨w.heap.size + 1 + 1, j, none⟩ = some (.slice au L cu) := hS6.2.1
   obtain ⟨p6, c6, hv6⟩ := owns_form o6
   subst hv6
   refine hK _ _ (fun _ => hS6) ?_
   clear hK K hSY hS
   try simp only [Act.put, jA, jB, jC, jD, jE, jF]
   refine upto_step (i := 11) (by kernel_rfl) rfl ?_
   intro K hK
   go_simp
   refine hK _ _ (fun _ => hS6) ?_
   clear hK K
   try simp only [Act.put, jA, jB, jC, jD, jE, jF]
   refine upto_step (i := 12) (by kernel_rfl) rfl ?_
   intro K hK
   go_simp
   refine hK _ _ (fun h => absurd rfl h) ?_
   clear hK K
   refine upto_done (by kernel_rfl) ?_
   refine NoPanic.normal ?_
   have hF6 : ∀ b, (Value.slice p6 (L + 1) c6).ownBlock = some b → fs j b ∨ w5.heap.size ≤ b := fun b hb => by
    rw [HFJ.out]
    rcases hloc with h | h
    ·
     exact .inl (h ▸ hb)
    ·
     rw [h] at hb
     simp at hb
     exact .inr (by omega)
   have hO6 : balsR.O w6 w.heap.size (fun b => (Value.slice p6 (L + 1) c6).ownBlock = some b) (.slice p6 (L + 1) c6) (out ++ [⟨a, t, v⟩]) := by
    refine ⟨?_, rfl⟩
    rw [balsC_snoc, List.length_append, ← HL.out]
    exact o6
   have hm7 : Mod (fun b => b = w.heap.size + 1 + 1) w6 (w6.setCell ⟨w.heap.size + 1 + 1, j, none⟩ (.slice p6 (L + 1) c6)) := Mod.of_set w6 ⟨w.heap.size + 1 + 1, j, none⟩ _
   have hr6 := hm6.owns HP5.out.row (fun b hb => by simp [Value.ownBlock] at hb; rw [← hb]; exact hn2)
   have hr7 := (hr6.stored j (.slice p6 (L + 1) c6)).1
   have hp7 := HP5.out.putS hjn hm6 hO6 hF6 hr7 hm7
   have HP7 : Hid (PO balsR 33 1 one (w6.setCell ⟨w.heap.size + 1 + 1, j, none⟩ (.slice p6 (L + 1) c6)) w.heap.size (.slice (some ⟨w.heap.size + 1 + 1, 0, none⟩) n n) n n (fun i => shK f (ys.take (k + 1)) i) (cs.set j (.slice p6 (L + 1) c6)) (upd us j (.slice p6 (L + 1) c6)) (upd fs j (fun b => (Value.slice p6 (L + 1) c6).ownBlock = some b))) := by
    refine hp7.cast (fun i hi => ?_)
    rw [← HTK.out, shK_snoc]
    by_cases hij : i = j
    ·
     subst hij
     rw [upd_at, if_pos rfl, HOUT.out, HV.out]
     rfl
    ·
     rw [upd_ne _ _ hij, if_neg (fun e => hij (by simp only at e; omega))]
   have HF7 : Hid (∀ i, i < n → ∀ b, upd fs j (fun b => (Value.slice p6 (L + 1) c6).ownBlock = some b) i b → w3.heap.size ≤ b) := fun i hi b hb => by
    by_cases hij : i = j
    ·
     subst hij
     rw [upd_at] at hb
     rcases hF6 b hb with h | h
     ·
      exact HF.out i hi b h
     ·
      omega
    ·
     rw [upd_ne _ _ hij] at hb
     exact HF.out i hi b hb
   have hM7 : Mod (fun b => b = w.heap.size + 1 + 1) w3 (w6.setCell ⟨w.heap.size + 1 + 1, j, none⟩ (.slice p6 (L + 1) c6)) := by
    have h36 : Mod (fun b => b = w.heap.size + 1 + 1) w3 w6 := ⟨hm6.os.trans hM5.os, hm6.tape.trans hM5.tape, hm6.output.trans hM5.output, Nat.le_trans hM5.size hm6.size, fun i hi hn => (hm6.block i (Nat.lt_of_lt_of_le hi hM5.size) (fun e => by have := HF.out j hjn i e; omega)).trans (hM5.block i hi hn)⟩
    exact h36.trans hm7
   clear hp7 hr7 hr6 hO6 hF6 hm7 o6 hg6 hloc hmY hm6
   go_wp2
   go_roundw
   case rel => exact ⟨k + 1, _, _, _, by omega, by simp, HP7, HF7, hM7⟩
   case measure => simp [intOf]; omega
  ·
   obtain rfl : k = q := by omega
   have f2 := hM.cell e2 (by dsimp only; omega)
   have f1 := hM.cell e1 (by dsimp only; omega)
   have f3 : w4.frozen? ⟨w.heap.size + 1, 0, none⟩ = false := (mod_frozen hM (a := ⟨w.heap.size + 1, 0, none⟩) (show w.heap.size + 1 < w3.heap.size by omega) (show ¬ (w.heap.size + 1 = w.heap.size + 1 + 1) by omega)).trans e3
   have hz4 := hM.size
   have hy : ys.take k = ys := by rw [← HN.out]; exact List.take_length
   rw [hy] at HP
   clear hy HKE HP0 HBK hGc
   go_wp2
   have hm5 : Mod (fun b => b = w.heap.size + 1) w4 (w4.setCell ⟨w.heap.size + 1, 0, none⟩ (.slice (some ⟨w.heap.size + 1 + 1, 0, none⟩) n n)) := Mod.of_set w4 ⟨w.heap.size + 1, 0, none⟩ _
   have hp5 := HP.out.mod hm5 (fun b hb e => by simp [Value.ownBlock] at hb; omega) (fun i hi b hb e => by have := HF.out i hi b hb; omega)
   have hB5 : Go.RowKit.Below w.heap.size w (w4.setCell ⟨w.heap.size + 1, 0, none⟩ (.slice (some ⟨w.heap.size + 1 + 1, 0, none⟩) n n)) := Mod.below (F := fun b => b = w.heap.size + 1 + 1 ∨ b = w.heap.size + 1) hB3 ((hM.mono (fun b hb => Or.inl hb)).trans (hm5.mono (fun b hb => Or.inr hb))) (by omega) (fun b hb => by omega)
   refine bodyPost_ret (v := .agg #[.slice (some ⟨w.heap.size + 1 + 1, 0, none⟩) n n]) (by simp [results, Tryz.results97, go_sem, f1]) rfl ?_
   exact ⟨_, _, ys, rfl, HD.out, HS.out, ⟨cs, us, fs, by
    rw [List.length_map, List.length_range]
    exact hp5.cast (fun i hi => by simp [List.getD, hi]), fun b => Iff.rfl⟩, hB5⟩
end Go.Proofs.YtndghenlapbaaaaGreat

/-
 What a book holds while legs are added: its bounds.
-/
namespace Go.Proofs.YtndghenlapbaaaaGreat
open Go.RowKit
variable [DecidableEq Rw] [Inhabited Rw] [DecidableEq Bal] [Inhabited Bal] [DecidableEq Ledg] [Inhabited Ledg] [DecidableEq Leg] [Inhabited Leg] [DecidableEq Cont] [Inhabited Cont] [DecidableEq LedgR] [Inhabited LedgR]

theorem addLs_bound {f : Int → Int → Int → Option Int} {M : Int} (hf : ∀ s a t, -M ≤ (f s a t).getD 0 ∧ (f s a t).getD 0 ≤ M) (ls : List Leg) : (∀ l ∈ ls, -1000000000000 ≤ l.am ∧ l.am ≤ 1000000000000) → ∀ s a t, -(M + ls.length * 1000000000000) ≤ (addLs f ls s a t).getD 0 ∧ (addLs f ls s a t).getD 0 ≤ M + ls.length * 1000000000000 := by
 refine snoc_ind (P := fun ls => (∀ l ∈ ls, -1000000000000 ≤ l.am ∧ l.am ≤ 1000000000000) → ∀ s a t, -(M + ls.length * 1000000000000) ≤ (addLs f ls s a t).getD 0 ∧ (addLs f ls s a t).getD 0 ≤ M + ls.length * 1000000000000) ?_ ?_ ls
 ·
  intro _ s a t
  have := hf s a t
  simpa [addLs] using this
 ·
  intro ls l ih hl s a t
  have h1 := ih (fun x hx => hl x (List.mem_append_left _ hx))
  have h2 := hl l (by simp)
  rw [addLs_snoc, List.length_append, List.length_singleton]
  unfold addL upd3
  have h3 := h1 s a t
  have h4 := h1 l.sh l.ac l.ast
  split
  ·
   split
   ·
    simp only [Option.getD_none]
    omega
   ·
    simp only [Option.getD_some]
    omega
  ·
   omega
theorem bookF_bound {g : Ledg} (h : ledFault g = 0) : ∀ s a t, -1000000000000 ≤ (bookF g.shards s a t).getD 0 ∧ (bookF g.shards s a t).getD 0 ≤ 1000000000000 := by
 intro s a t
 unfold bookF
 split
 ·
  rename_i hr
  have hk := (ledOk_of h).2.2 s.toNat (by omega)
  have h1 := hasB_le (a := a) (t := t) hk.ok
  rw [hasB_get] at h1
  omega
 ·
  simp
end Go.Proofs.YtndghenlapbaaaaGreat

/-
 Rows of numbers: compared, marked and read back; and the answers that hold one.
-/
namespace Go.Proofs.YtndghenlapbaaaaGreat
open Go.RowKit
variable [DecidableEq Leg] [Inhabited Leg]
attribute [local go_sem ↓] Go.wp_at_zero Go.wp_at_succ

def intsC (ys : List Int) : List Value := ys.map (Value.int .i64)
theorem infoInt : (Tryz.prog.info? 2).map (fun i => (i.zero, i.size, i.bytes)) = some (some (.int .i64 0), 1, 8) := by kernel_rfl
def IntsV (w : World) (v : Value) (ys : List Int) : Prop :=
 ∃ a cap, v = .slice a ys.length cap ∧ ys.length ≤ cap ∧ cap ≤ maxLen ∧ ∀ i, i < ys.length → ∃ b o, a = some ⟨b, o, none⟩ ∧ w.cell? ⟨b, o + i, none⟩ = some (.int .i64 (ys.getD i 0))
theorem IntsV_below {w w' : World} {v : Value} {ys : List Int} (h : IntsV w v ys) (hb : Below w.heap.size w w') : IntsV w' v ys := by
 obtain ⟨a, cap, rfl, h1, h2, h3⟩ := h
 exact ⟨a, cap, rfl, h1, h2, fun i hi => by
  obtain ⟨b, o, ha, hc⟩ := h3 i hi
  exact ⟨b, o, ha, cK hb hc⟩⟩
theorem IntsV_of_owns {w : World} {base e : Nat} {v : Value} {ys : List Int} (h : w.ownsRow base e 1 v ys.length (intsC ys)) : IntsV w v ys := by
 rcases h.2 with ⟨rfl, hn⟩ | ⟨g, cap, cur, rfl, hb, hg, hnc, hcm, hcs, htake⟩
 ·
  exact ⟨none, 0, by rw [hn], by omega, by unfold maxLen; omega, fun i hi => by omega⟩
 ·
  refine ⟨some ⟨g, 0, none⟩, cap, rfl, hnc, hcm, fun i hi => ⟨g, 0, rfl, ?_⟩⟩
  rw [Nat.zero_add]
  refine (h.cellAt i (by omega)).trans ?_
  simp [intsC, List.getD, hi]
theorem ints_eq_of {xs ys : List Int} (hl : ys.length = xs.length) (h : ∀ j, j < xs.length → xs.getD j 0 = ys.getD j 0) : xs = ys := by
 apply List.ext_getElem (by omega)
 intro i h1 h2
 have := h i h1
 simpa [List.getD, h1, h2] using this
set_option maxHeartbeats 1000000 in
theorem eqInt64S_any (x y : Value) (xs ys : List Int) (w : World) (hx : IntsV w x xs) (hy : IntsV w y ys) :
  Calls Tryz.prog 44 #[x, y] w fun e w' => e = .returned (.bool (decide (xs = ys))) ∧ Below w.heap.size w w' := by
 obtain ⟨ax, cx, rfl, hcx, hmx, hx⟩ := hx
 obtain ⟨ay, cy, rfl, hcy, hmy, hy⟩ := hy
 unfold maxLen at hmx hmy
 by_cases hl : ys.length = xs.length
 ·
  rw [hl] at hcy hy ⊢
  have HL : Hid (ys.length = xs.length) := hl
  clear hl
  generalize hn : xs.length = n at *
  have HN : Hid (xs.length = n) := hn
  clear hn
  go_enter Tryz.func44, Tryz.ntmps44
  go_wp2
  go_loopw [5] (fun i w' => ∃ k : Nat, k ≤ n ∧ i = .int .i64 k ∧ (∀ j, j < k → xs.getD j 0 = ys.getD j 0) ∧ Below w.heap.size w w') (fun i _ => n - (intOf i).toNat)
  case atStart => exact ⟨0, Nat.zero_le _, rfl, fun j h => absurd h (Nat.not_lt_zero _), Below.refl _ _⟩
  case round =>
   obtain ⟨k, hk, rfl, hpre, hbl⟩ := hrel
   have HP : Hid (∀ j, j < k → xs.getD j 0 = ys.getD j 0) := hpre
   clear hpre
   by_cases hlt : k < n
   ·
    obtain ⟨bx, ox, rfl, h1⟩ := hx k hlt
    obtain ⟨b2, oy, rfl, h2⟩ := hy k hlt
    obtain ⟨l1, hl1⟩ : ∃ l, l = xs.getD k 0 := ⟨_, rfl⟩
    obtain ⟨l2, hl2⟩ : ∃ l, l = ys.getD k 0 := ⟨_, rfl⟩
    rw [← hl1] at h1
    rw [← hl2] at h2
    have H1 : Hid (l1 = xs.getD k 0) := hl1
    have H2 : Hid (l2 = ys.getD k 0) := hl2
    clear hl1 hl2 hx hy
    go_wp2
    go_region_held3 (fun w' => Below w.heap.size w w' ∧ w'.cell? ⟨bx, ox + k, none⟩ = some (.int .i64 l1) ∧ w'.cell? ⟨b2, oy + k, none⟩ = some (.int .i64 l2)) ((refine keepC2 ?_ h1 h2; repeat (first | exact bR _ _ | assumption | refine bD ?_ | refine bA ?_ _ | refine bS ?_ (by assumption)))) (fail)
    rename_i hH
    have hB := hH.1
    clear hH
    go_wp2
    ·
     rename_i hle
     go_ret
     refine ⟨?_, hB⟩
     have : ¬ xs = ys := fun h => by
      have : l1 = l2 := by rw [H1.out, H2.out, h]
      simp [this] at hle
     simp [this]
    ·
     rename_i hle
     refine ⟨⟨k + 1, by omega, by go_num, fun j hj => ?_, hB⟩, by simp [intOf]; omega⟩
     by_cases hjk : j < k
     ·
      exact HP.out j hjk
     ·
      have : j = k := by omega
      subst this
      rw [← H1.out, ← H2.out]
      simpa using hle
   ·
    go_wp2
    go_ret
    have : k = n := by omega
    subst this
    refine ⟨?_, hbl⟩
    have : xs = ys := ints_eq_of (by rw [HL.out, HN.out]) (by rw [HN.out]; exact HP.out)
    simp [this]
 ·
  go_enter Tryz.func44, Tryz.ntmps44
  have hl' : ((xs.length : Int) == (ys.length : Int)) = false := by simp; omega
  go_wp2
  go_ret
  have : ¬ xs = ys := fun h => hl (by rw [h])
  exact ⟨by simp [this], Below.refl _ _⟩
def marksI (k : Int) (n : Nat) : List Int := (List.range n).map (fun i : Nat => k + (i : Int))
theorem length_marksI (k : Int) (n : Nat) : (marksI k n).length = n := by simp [marksI]
theorem getD_marksI (k : Int) (n i : Nat) (h : i < n) : (marksI k n).getD i 0 = k + i := by simp [marksI, List.getD, h]
def uptoI (k : Nat) (cs : List Value) (ys : List Int) : Prop := ∀ j, j < k → cs[j]? = (intsC ys)[j]?
theorem uptoI_full {n : Nat} {cs : List Value} {ys : List Int} (h : uptoI n cs ys) (hl : cs.length = n * 1) (hn : ys.length = n) : cs = intsC ys := by
 apply List.ext_getElem?
 intro j
 by_cases hj : j < n
 ·
  exact h j hj
 ·
  rw [List.getElem?_eq_none (by omega), List.getElem?_eq_none (by simp [intsC]; omega)]
theorem uptoI_set {k : Nat} {cs : List Value} {ys : List Int} {l : Int} (h : uptoI k cs ys) (hk : k < ys.length) (hl : cs.length = ys.length * 1) (he : l = ys.getD k 0) : uptoI (k + 1) (cs.set k (.int .i64 l)) ys := by
 intro j hj
 rw [List.getElem?_set]
 by_cases e : k = j
 ·
  subst e
  rw [if_pos rfl, if_pos (by omega)]
  simp [intsC, he, List.getD, hk]
 ·
  rw [if_neg e]
  exact h j (by omega)
set_option maxHeartbeats 1000000 in
theorem markInt64S_any (v : Value) (n : Nat) (cs : List Value) (base e : Nat) (k : Int) (w : World) (ho : w.ownsRow base e 1 v n cs) (hn : n ≤ 1048576) (hk0 : 0 ≤ k) (hk1 : k ≤ 1073741824) :
  Calls Tryz.prog 49 #[v, .int .i64 k] w fun r w' => r = .returned (.int .i64 (k + n)) ∧ w'.ownsRow base e 1 v n (intsC (marksI k n)) ∧ w.grownBy w' v.ownBlock := by
 rcases ho.2 with ⟨rfl, rfl⟩ | ⟨g, cap, cur, rfl, hb, hg, hnc, hcm, _, _⟩
 ·
  go_enter Tryz.func49, Tryz.ntmps49
  go_wp2
  go_loopw [1, 5] (fun q i w' => q = .int .i64 k ∧ i = .int .i64 0 ∧ w' = w) (fun _ _ _ => 0)
  case atStart => exact ⟨rfl, rfl, rfl⟩
  case round =>
   obtain ⟨rfl, rfl, rfl⟩ := hrel
   go_wp2
   go_ret
   exact ⟨by simp, World.ownsRow_nil _ _ _ _, grown_refl _ _⟩
 ·
  unfold maxLen at hcm
  go_enter Tryz.func49, Tryz.ntmps49
  go_wp2
  go_loopw [1, 5] (fun q i w' => ∃ (j : Nat) (cs' : List Value), j ≤ n ∧ i = .int .i64 j ∧ q = .int .i64 (k + j) ∧ w'.ownsRow base e 1 (.slice (some ⟨g, 0, none⟩) n cap) n cs' ∧ uptoI j cs' (marksI k n) ∧ w.grownBy w' (some g)) (fun _ i _ => n - (intOf i).toNat)
  case atStart => exact ⟨0, cs, Nat.zero_le _, rfl, by simp, ho, fun j h => by omega, grown_refl _ _⟩
  case round =>
   obtain ⟨j, cs', hj, rfl, rfl, ho1, hup, hgr⟩ := hrel
   have HU : Hid (uptoI j cs' (marksI k n)) := hup
   clear hup ho hg
   by_cases hlt : j < n
   ·
    obtain ⟨u0, g0⟩ := owns_some ho1 j (by omega)
    have hf := fun j => ho1.frozenAt j
    go_wp2
    have s0 := ho1.stored j (.int .i64 (k + j))
    refine ⟨⟨j + 1, _, by omega, by go_num, ?_, s0.1, uptoI_set HU.out (by rw [length_marksI]; exact hlt) (by rw [length_marksI]; exact ho1.1) (getD_marksI k n j hlt).symm, grown_trans hgr s0.2⟩, by simp [intOf]; omega⟩
    congr 1
    omega
   ·
    go_wp2
    go_ret
    have hjn : j = n := by omega
    subst hjn
    have e' := uptoI_full HU.out ho1.1 (length_marksI k j)
    rw [e'] at ho1
    exact ⟨rfl, ho1, hgr⟩
set_option maxHeartbeats 1000000 in
theorem heldInt64S_any (v : Value) (n : Nat) (k : Int) (w : World) (hv : IntsV w v (marksI k n)) (hn : n ≤ 1048576) (hk0 : 0 ≤ k) (hk1 : k ≤ 1073741824) :
  Calls Tryz.prog 90 #[v, .int .i64 k] w fun r w' => r = .returned (.int .i64 (k + n)) ∧ w' = w := by
 obtain ⟨a, cap, rfl, hnc, hcm, hc⟩ := hv
 rw [length_marksI] at hnc hc ⊢
 unfold maxLen at hcm
 go_enter Tryz.func90, Tryz.ntmps90
 go_wp2
 go_loopw [1, 5] (fun q i w' => ∃ j : Nat, j ≤ n ∧ i = .int .i64 j ∧ q = .int .i64 (k + j) ∧ w' = w) (fun _ i _ => n - (intOf i).toNat)
 case atStart => exact ⟨0, Nat.zero_le _, rfl, by simp, rfl⟩
 case round =>
  obtain ⟨j, hj, rfl, rfl, rfl⟩ := hrel
  by_cases hlt : j < n
  ·
   obtain ⟨b, o, rfl, h1⟩ := hc j hlt
   rw [getD_marksI k n j hlt] at h1
   clear hc
   go_wp2
   refine ⟨⟨j + 1, by omega, by go_num, ?_, trivial⟩, by simp [intOf]; omega⟩
   congr 1
   omega
  ·
   go_wp2
   go_ret
   have hjn : j = n := by omega
   subst hjn
   exact ⟨rfl, rfl⟩
set_option maxHeartbeats 1000000 in
theorem toInt64S_any (x : Value) (xs : List Int) (w : World) (hx : IntsV w x xs) (hn : xs.length ≤ 1048576) :
  Calls Tryz.prog 32 #[x] w fun e w' => ∃ v, e = .returned v ∧ w'.ownsRow w.heap.size 2 1 v xs.length (intsC xs) ∧ Below w.heap.size w w' := by
 obtain ⟨ax, cx, rfl, hcx, hmx, hx⟩ := hx
 unfold maxLen at hmx
 obtain ⟨i0, hi, hz0, hz1, hz2⟩ := info_parts infoInt
 obtain ⟨w1, hmk, hown, hgr⟩ := run_make_full (P := Tryz.prog) w w.heap.size 25 2 i0 _ 1 Tryz.underlying25 hi hz0 hz1 .i64 .i64 xs.length (by rw [hz2]; omega) (by unfold maxLen; omega) (Nat.le_refl _)
 have hbl0 : Below w.heap.size w w1 := (Below.refl _ _).grown hgr (Nat.le_refl _) (fun k h => by cases h)
 generalize hn' : xs.length = n at *
 have HN : Hid (xs.length = n) := hn'
 clear hn'
 go_enter Tryz.func32, Tryz.ntmps32
 go_wp2
 go_loopw [4] (fun i w' => ∃ (k : Nat) (cs : List Value), k ≤ n ∧ i = .int .i64 k ∧ w'.ownsRow w.heap.size 2 1 (.slice (some ⟨w.heap.size, 0, none⟩) n n) n cs ∧ Hid (∀ j, j < k → cs[j]? = (intsC xs)[j]?) ∧ Below w.heap.size w w') (fun i _ => n - (intOf i).toNat)
 case atStart => exact ⟨0, _, Nat.zero_le _, rfl, hown, fun j h => by omega, hbl0⟩
 case round =>
  obtain ⟨k, cs, hk, rfl, ho, HU, hbl⟩ := hrel
  clear hown hmk hgr hbl0
  by_cases hlt : k < n
  ·
   obtain ⟨bx, ox, rfl, h1⟩ := hx k hlt
   obtain ⟨l, hl⟩ : ∃ l, l = xs.getD k 0 := ⟨_, rfl⟩
   rw [← hl] at h1
   have H1 : Hid (l = xs.getD k 0) := hl
   clear hl hx
   have a0 := cK hbl h1
   obtain ⟨u0, g0⟩ := owns_some ho k (by omega)
   have hf := fun j => ho.frozenAt j
   go_wp2
   have s0 := ho.stored k (.int .i64 l)
   refine ⟨⟨k + 1, _, by omega, by go_num, s0.1, fun j hj => ?_, hbl.setCell (Nat.le_refl _) _⟩, by simp [intOf]; omega⟩
   rw [List.getElem?_set]
   split
   ·
    rename_i e
    subst e
    have hl1 := ho.1
    have hl2 := HN.out
    rw [if_pos (by omega), H1.out]
    simp [intsC, List.getD, show k < xs.length by omega]
   ·
    exact HU.out j (by omega)
  ·
   go_wp2
   go_ret
   have hkn : k = n := by omega
   subst hkn
   have e : cs = intsC xs := List.ext_getElem? (fun j => by
    by_cases hj : j < k
    ·
     exact HU.out j hj
    ·
     have h1 := ho.1
     have h2 := HN.out
     rw [List.getElem?_eq_none (by omega), List.getElem?_eq_none (by simp [intsC]; omega)])
   subst e
   exact ⟨_, rfl, ho, hbl⟩
theorem szInt64S_any (x : Value) (xs : List Int) (left : Int) (w : World) (hx : IntsV w x xs) (h0 : 0 ≤ left) (h1 : left ≤ 1048576) :
  Calls Tryz.prog 23 #[x, .int .i64 left] w fun e w' => e = .returned (.int .i64 (szLen left xs.length)) ∧ w' = w := by
 obtain ⟨ax, cx, rfl, hcx, hmx, hx⟩ := hx
 unfold maxLen at hmx
 generalize xs.length = n at *
 clear hx
 by_cases h : left < n
 ·
  have h' : left - (n : Int) < 0 := by omega
  go_enter Tryz.func23, Tryz.ntmps23
  go_wp2
  go_ret
  exact ⟨by simp only [szLen, if_pos h]; rfl, rfl⟩
 ·
  have h' : ¬ left - (n : Int) < 0 := by omega
  go_enter Tryz.func23, Tryz.ntmps23
  go_wp2
  go_ret
  exact ⟨by rw [szLen, if_neg (by omega)]; rfl, rfl⟩
end Go.Proofs.YtndghenlapbaaaaGreat

/-
 Rows of int64: the uniform forms. (Written by program: nest.py.)
-/
namespace Go.Proofs.YtndghenlapbaaaaGreat
open Go.RowKit
variable [DecidableEq Leg] [Inhabited Leg]
attribute [local go_sem ↓] Go.wp_at_zero Go.wp_at_succ

def intsR : Rep (List Int) := fRep 2 1 intsC IntsV IntsV_below IntsV_of_owns
def wtInts (xs : List Int) : Nat := xs.length
def cntInts (xs : List Int) : Nat := xs.length
def mkInts (k : Int) (xs : List Int) : List Int := marksI k xs.length
theorem ints_form {w : World} {v : Value} {xs : List Int} (h : intsR.V w v xs) : ∃ a c, v = .slice a xs.length c := by
 obtain ⟨a, c, rfl, _⟩ := h
 exact ⟨_, _, rfl⟩
theorem ints_cnt (d : List Int) : cntInts d ≤ 1 * wtInts d := by unfold cntInts wtInts; omega
theorem toInt64S_u (x : Value) (d : List Int) (w : World) (hx : intsR.V w x d) (hn : wtInts d ≤ 1048576) :
  Calls Tryz.prog 32 #[x] w fun e w' => ∃ v F, e = .returned v ∧ intsR.O w' w.heap.size F v d ∧ Below w.heap.size w w' := by
 refine (toInt64S_any x d w hx hn).mono ?_
 rintro e w' ⟨v, rfl, ho, hb⟩
 exact ⟨v, _, rfl, ⟨ho, rfl⟩, hb⟩
theorem eqInt64S_u (x y : Value) (d d' : List Int) (w : World) (hx : intsR.V w x d) (hy : intsR.V w y d') :
  Calls Tryz.prog 44 #[x, y] w fun e w' => e = .returned (.bool (decide (d = d'))) ∧ Below w.heap.size w w' := eqInt64S_any x y d d' w hx hy
theorem szInt64S_u (x : Value) (d : List Int) (left : Int) (w : World) (hx : intsR.V w x d) (h0 : 0 ≤ left) (h1 : left ≤ 1048576) :
  Calls Tryz.prog 23 #[x, .int .i64 left] w fun e w' => e = .returned (.int .i64 (szLen left (wtInts d))) ∧ Below w.heap.size w w' := by
 refine (szInt64S_any x d left w hx h0 h1).mono ?_
 rintro e w' ⟨rfl, rfl⟩
 exact ⟨rfl, Below.refl _ _⟩
theorem markInt64S_u (v : Value) (d : List Int) (base : Nat) (F : Nat → Prop) (k : Int) (w : World) (ho : intsR.O w base F v d) (hw : wtInts d ≤ 1048576) (hn : k + cntInts d ≤ 1073741824) (hk0 : 0 ≤ k) :
  Calls Tryz.prog 49 #[v, .int .i64 k] w fun r w' => r = .returned (.int .i64 (k + cntInts d)) ∧ intsR.O w' base F v (mkInts k d) ∧ Mod F w w' := by
 refine (markInt64S_any v d.length _ base _ k w ho.1 hw hk0 (by omega)).mono ?_
 rintro e w' ⟨rfl, h1, h2⟩
 refine ⟨by simp [cntInts], ⟨?_, ho.2⟩, by rw [ho.2]; exact Mod.of_grown h2⟩
 unfold mkInts
 rw [length_marksI]
 exact h1
theorem heldInt64S_u (v : Value) (d : List Int) (k : Int) (w : World) (hv : intsR.V w v (mkInts k d)) (hw : wtInts d ≤ 1048576) (hn : k + cntInts d ≤ 1073741824) (hk0 : 0 ≤ k) :
  Calls Tryz.prog 90 #[v, .int .i64 k] w fun r w' => r = .returned (.int .i64 (k + cntInts d)) ∧ Below w.heap.size w w' := by
 refine (heldInt64S_any v d.length k w hv hw hk0 (by omega)).mono ?_
 rintro e w' ⟨rfl, rfl⟩
 exact ⟨by simp [cntInts], Below.refl _ _⟩
end Go.Proofs.YtndghenlapbaaaaGreat


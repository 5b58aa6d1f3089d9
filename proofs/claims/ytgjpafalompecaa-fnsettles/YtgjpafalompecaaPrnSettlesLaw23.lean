import Derived.Test.YtgjpafalompecaaPrnSettlesLaw11
import Derived.Test.YtgjpafalompecaaPrnSettlesLaw22
import Derived.Shelf.SlSortCmp.NoneTotal
import Derived.Test.YtgjpafalompecaaPrnSettlesLaw13
import Derived.Test.YtgjpafalompecaaPrnSettlesLaw14
import Derived.Test.YtgjpafalompecaaPrnSettlesLaw3
import Derived.Test.YtgjpafalompecaaPrnSettlesLaw15
import Derived.Test.YtgjpafalompecaaPrnSettlesLaw12
import Derived.Test.YtgjpafalompecaaPrnSettlesLaw2
import Derived.Test.YtgjpafalompecaaPrnSettlesLaw10

/-
  slices.SortFunc over keys of a book: both contracts, at this program.
-/
namespace Go.Proofs.Ytgjpafalompecaa
open Go.RowKit Go.Sort Go.Shelf
set_option linter.unusedSectionVars false
variable [DecidableEq Rw] [Inhabited Rw] [DecidableEq Bal] [Inhabited Bal] [DecidableEq Ledg] [Inhabited Ledg] [DecidableEq Leg] [Inhabited Leg] [DecidableEq Cont] [Inhabited Cont]
set_option linter.unusedVariables false

theorem sortsK : SortsK where
  some_ := fun xs g cap base W ho hb hn => sortK_any Try.sortK_ren Try.sortK rfl rfl xs g cap base W ho hb hn
  none_ := fun W => AnyF.slices_SortFunc_none Try.sortK none 0 (.func (.func 47) #[] #[]) W
end Go.Proofs.Ytgjpafalompecaa

/-
  A row of values that own memory: one of them is another, with blocks of its own or new ones.
-/
namespace Go.Proofs.Ytgjpafalompecaa
open Go.RowKit

theorem PO.put {α : Type} {R : Rep α} {e size : Nat} {lv : Value → List Value} {w w' : World} {base : Nat} {v : Value} {n k j : Nat} {d : Nat → α} {cs cs' : List Value} {us : Nat → Value} {fs : Nat → Nat → Prop} {u : Value} {x : α} {F' : Nat → Prop}
    (h : PO R e size lv w base v n k d cs us fs) (hj : j < k) (hm : Mod (fun b => v.ownBlock = some b ∨ fs j b) w w') (hu : R.O w' base F' u x) (hF : ∀ b, F' b → fs j b ∨ w.heap.size ≤ b) (hl : (lv u).length = size)
    (hr : w'.ownsRow base e size v n cs') (hold : ∀ i, i < k → i ≠ j → ∀ o, o < size → cs'[i * size + o]? = cs[i * size + o]?) (hnew : ∀ o, o < size → cs'[j * size + o]? = (lv u)[o]?) :
    PO R e size lv w' base v n k (upd d j x) cs' (upd us j u) (upd fs j F') := by
  have hlt : ∀ b, v.ownBlock = some b → b < w.heap.size := fun b hb => (h.row.lt b hb).2
  have hfs : ∀ i, i < k → ∀ b, fs i b → b < w.heap.size := fun i hi b hb => (R.rng (h.el i hi) b hb).2
  refine ⟨hr, ?_, ?_, ?_, ?_, ?_⟩
  · intro i hi
    by_cases hik : i = j
    · subst hik; rw [upd_at, upd_at, upd_at]; exact hu
    · rw [upd_ne _ _ hik, upd_ne _ _ hik, upd_ne _ _ hik]
      exact R.mod (h.el i hi) hm (fun b hb => by
        rintro (he | he)
        · exact h.out i hi b hb he
        · exact h.sep i j hi hj hik b hb he)
  · intro i hi
    by_cases hik : i = j
    · subst hik; rw [upd_at]; exact hl
    · rw [upd_ne _ _ hik]; exact h.ln i hi
  · intro i hi o ho
    by_cases hik : i = j
    · subst hik; rw [upd_at]; exact hnew o ho
    · rw [upd_ne _ _ hik, hold i hi hik o ho]; exact h.cell i hi o ho
  · intro i hi b hb he
    by_cases hik : i = j
    · subst hik
      rw [upd_at] at hb
      rcases hF b hb with h1 | h1
      · exact h.out i hi b h1 he
      · have := hlt b he; omega
    · rw [upd_ne _ _ hik] at hb
      exact h.out i hi b hb he
  · intro i i' hi hi' hii b h1 h2
    by_cases hik : i = j
    · subst hik
      rw [upd_at] at h1
      rw [upd_ne _ _ (Ne.symm hii)] at h2
      rcases hF b h1 with h3 | h3
      · exact h.sep i i' hi hi' hii b h3 h2
      · have := hfs i' hi' b h2; omega
    · rw [upd_ne _ _ hik] at h1
      by_cases hjk : i' = j
      · subst hjk
        rw [upd_at] at h2
        rcases hF b h2 with h3 | h3
        · exact h.sep i i' hi hi' hii b h1 h3
        · have := hfs i hi b h1; omega
      · rw [upd_ne _ _ hjk] at h2
        exact h.sep i i' hi hi' hii b h1 h2
theorem PO.putS {α : Type} {R : Rep α} {e : Nat} {w w1 w2 : World} {base g cap : Nat} {n j : Nat} {d : Nat → α} {cs : List Value} {us : Nat → Value} {fs : Nat → Nat → Prop} {u : Value} {x : α} {F' : Nat → Prop}
    (h : PO R e 1 one w base (.slice (some ⟨g, 0, none⟩) n cap) n n d cs us fs) (hj : j < n) (hm : Mod (fun b => fs j b) w w1) (hu : R.O w1 base F' u x) (hF : ∀ b, F' b → fs j b ∨ w.heap.size ≤ b)
    (hr : w2.ownsRow base e 1 (.slice (some ⟨g, 0, none⟩) n cap) n (cs.set j u)) (hm2 : Mod (fun b => b = g) w1 w2) :
    PO R e 1 one w2 base (.slice (some ⟨g, 0, none⟩) n cap) n n (upd d j x) (cs.set j u) (upd us j u) (upd fs j F') := by
  have hcl : cs.length = n := by simpa using h.row.1
  have hg : g < w.heap.size := (h.row.lt g rfl).2
  have hgF : ¬ F' g := fun hf => by
    rcases hF g hf with h1 | h1
    · exact h.out j hj g h1 rfl
    · omega
  refine h.put hj (Mod.trans (Mod.mono hm (fun b hb => Or.inr hb)) (Mod.mono hm2 (fun b hb => Or.inl (by rw [hb]; rfl)))) (R.mod hu hm2 (fun b hb e => hgF (e ▸ hb))) hF rfl hr ?_ ?_
  · intro i hi hij o ho
    obtain rfl : o = 0 := by omega
    rw [Nat.mul_one, Nat.add_zero, List.getElem?_set_ne (Ne.symm hij)]
  · intro o ho
    obtain rfl : o = 0 := by omega
    rw [Nat.mul_one, Nat.add_zero, List.getElem?_set_self (by omega)]
    rfl
end Go.Proofs.Ytgjpafalompecaa

/-
  (impl.book).ledger: the book's keys, sorted, laid shard by shard.
-/
namespace Go.Proofs.Ytgjpafalompecaa
open Go.RowKit Go.Sort Go.Shelf
set_option linter.unusedSectionVars false
variable [DecidableEq Rw] [Inhabited Rw] [DecidableEq Bal] [Inhabited Bal] [DecidableEq Ledg] [Inhabited Ledg] [DecidableEq Leg] [Inhabited Leg] [DecidableEq Cont] [Inhabited Cont] [DecidableEq LedgR] [Inhabited LedgR]
set_option linter.unusedVariables false
set_option linter.unusedSimpArgs false
attribute [local go_sem ↓] Go.wp_at_zero Go.wp_at_succ

theorem KDn.perm {f : Int → Int → Int → Option Int} {xs ys : List K3} (h : KDn f xs) (hp : ys.Perm xs) : KDn f ys :=
  ⟨⟨hp.symm.nodup h.1.1, fun x hx => h.1.2 x (hp.mem_iff.1 hx)⟩, fun s a t hk hs => hp.mem_iff.2 (h.2 s a t hk hs)⟩
theorem po_made {W : World} {base G n : Nat} (h : W.ownsRow base 67 1 (.slice (some ⟨G, 0, none⟩) n n) n (madeCells (Value.slice none 0 0).cells (n * 1)).toList) (f : Int → Int → Int → Option Int) :
    PO balsR 67 1 one W base (.slice (some ⟨G, 0, none⟩) n n) n n (fun i => shK f [] i) (List.replicate n (.slice none 0 0)) (fun _ => .slice none 0 0) (fun _ b => (Value.slice none 0 0).ownBlock = some b) := by
  rw [Nat.mul_one, show (Value.slice none 0 0).cells = #[.slice none 0 0] from rfl, toList_madeCells_one] at h
  refine ⟨h, fun i hi => ⟨⟨rfl, .inl ⟨rfl, rfl⟩⟩, rfl⟩, fun _ _ => rfl, fun i hi j hj => ?_, fun i hi b hb => (by cases hb), fun i j hi hj hij b hb => (by cases hb)⟩
  obtain rfl : j = 0 := by omega
  simp [one, hi]
set_option maxRecDepth 20000 in
set_option maxHeartbeats 8000000 in
theorem bookLedger_any (n b m : Nat) (f : Int → Int → Int → Option Int) (w : World) (hb : Book w b m f) (hn0 : 1 ≤ n) (hn : n ≤ 3) (hd : KDom n f) :
    Calls Try.prog 21 #[.agg #[.int .i64 n, .map (some b)]] w fun e w' => ∃ v F ys, e = .returned (.agg #[v]) ∧ KDn f ys ∧ ys.Pairwise (fun p q => ltOf cfK q p = false) ∧ balssR.O w' w.heap.size F v ((List.range n).map (shK f ys)) ∧ Go.RowKit.Below w.heap.size w w' := by
  have hbl := hb.lt
  obtain ⟨W0, hW0⟩ : ∃ W0, W0 = (w.alloc (.cells #[.int .i64 n, .map (some b)] 56)).alloc (.cells #[.slice none 0 0] 26) := ⟨_, rfl⟩
  obtain ⟨i0, hi, hz0, hz1, hz2⟩ := info_parts infoBalss
  obtain ⟨w1, hmk, hown, hgr⟩ := run_make_full (P := Try.prog) W0 w.heap.size 24 67 i0 _ 1 Try.underlying24 hi hz0 hz1 .i64 .i64 n (by rw [hz2]; omega) (by unfold maxLen; omega) (by rw [hW0]; simp; omega)
  have hs0 : W0.heap.size = w.heap.size + 1 + 1 := by rw [hW0]; simp
  have hB1 : Go.RowKit.Below W0.heap.size W0 w1 := (Below.refl _ _).grown hgr (Nat.le_refl _) (fun k h => by cases h)
  have k0 : w1.cell? ⟨w.heap.size, 0, none⟩ = some (.int .i64 n) := cell_keep hB1 (by rw [hW0]; simp [go_sem])
  have k1 : w1.cell? ⟨w.heap.size, 1, none⟩ = some (.map (some b)) := cell_keep hB1 (by rw [hW0]; simp [go_sem])
  have r0 : w1.cell? ⟨w.heap.size + 1, 0, none⟩ = some (.slice none 0 0) := cell_keep hB1 (by rw [hW0]; simp [go_sem])
  have hbw1 : Go.RowKit.Below w.heap.size w w1 := by
    have h1 : Go.RowKit.Below w.heap.size w W0 := by rw [hW0]; (repeat (first | exact Below.refl _ _ | assumption | refine Below.drew ?_ | refine balloc ?_ _ | refine bset ?_ (by simp; omega) _ | refine bset ?_ (by simp) _ | refine bstep ?_ (by assumption)))
    exact bstep h1 hB1
  have z1 : w.heap.size + 1 + 1 < w1.heap.size := by
    have := (hown.lt W0.heap.size rfl).2
    omega
  have z0 : w.heap.size < w1.heap.size := by omega
  have z01 : w.heap.size + 1 < w1.heap.size := by omega
  have fr0 : w1.frozen? ⟨w.heap.size + 1, 0, none⟩ = false := (hB1.frozen (p := ⟨w.heap.size + 1, 0, none⟩) (by rw [hs0]; simp)).trans (by rw [hW0]; simp [go_sem])
  rw [hs0] at hown
  rw [hW0] at hmk
  clear hW0 hgr hB1 hi hz0 hz1 hz2 i0
  go_enter Try.func21, Try.ntmps21
  go_wp2_with fail
  refine (keysFn_any _ b).mono ?_
  rintro e w2 ⟨rfl, hb2, q2⟩
  have hB12 : Go.RowKit.Below w1.heap.size w1 w2 := bstep (balloc (Below.refl _ _) _) hb2
  have g2 : w2.cell? ⟨w1.heap.size, 0, none⟩ = some (.slice (some ⟨w.heap.size + 1 + 1, 0, none⟩) n n) := cell_keep hb2 (by simp [go_sem])
  rw [World.size_alloc] at q2
  have hz2 : w1.heap.size + 1 < w2.heap.size := World.block_lt_of_cell? _ _ q2
  have hcon := sortedFunc_any sortsK 66 #[.pointer (some ⟨w1.heap.size + 1, 0, none⟩)] (KOk f) (KDn f) (fun i => i = w1.heap.size + 1 ∨ i = b) w2 (enters_of Try.func66 (by kernel_rfl) rfl)
    (keys_seqY _ b m f _ w2 q2 (.inl rfl) (.inr rfl) (fun i hi => by rcases hi with rfl | rfl <;> omega) (hb.below (bstep hbw1 hB12))) (fun i hi => by rcases hi with rfl | rfl <;> omega) (fun ys h => by have := hd.len h; omega) (fun ys h => by have := hd.len h.1; omega)
  rw [World.size_alloc]
  clear q2 hb2 hmk
  go_wp2_with fail
  refine hcon.mono ?_
  rintro e w3 ⟨v, xs, ys, rfl, hD, hp, hs, hkv, hb3⟩
  clear hcon
  have HD : Hid (KDn f ys) := hD.perm hp
  have HS : Hid (ys.Pairwise (fun p q => ltOf cfK q p = false)) := hs
  have hlen : ys.length ≤ 54 := by have := hd.len HD.out.1; omega
  clear hD hp hs xs
  have hB13 : Go.RowKit.Below w1.heap.size w1 w3 := bstep hB12 hb3
  have hB3 : Go.RowKit.Below w.heap.size w w3 := bstep hbw1 hB13
  have HBK : Hid (Book w3 b m f) := hb.below hB3
  have e0 : w3.cell? ⟨w.heap.size, 1, none⟩ = some (.map (some b)) := cell_keep hB13 k1
  have e1 : w3.cell? ⟨w.heap.size + 1, 0, none⟩ = some (.slice none 0 0) := cell_keep hB13 r0
  have e2 : w3.cell? ⟨w1.heap.size, 0, none⟩ = some (.slice (some ⟨w.heap.size + 1 + 1, 0, none⟩) n n) := cell_keep hb3 g2
  have e3 : w3.frozen? ⟨w.heap.size + 1, 0, none⟩ = false := (hB13.frozen (p := ⟨w.heap.size + 1, 0, none⟩) z01).trans fr0
  have HP0 := po_made (owns_below hown hB13) f
  have hGc : w3.cell? ⟨w.heap.size + 1 + 1, 0, none⟩ = some (.slice none 0 0) := by
    have h := HP0.row.cellAt 0 (by omega)
    rw [h, List.getElem?_replicate, if_pos (by omega)]
  have hz3 : w1.heap.size < w3.heap.size := World.block_lt_of_cell? _ _ e2
  obtain ⟨av, cv, rfl, hkeys⟩ := hkv
  clear hb hb3 hB13 hB12 g2 k0 k1 r0 fr0 hown hbw1 hz2
  have HKE : Hid (∀ i, i < ys.length → ∃ g, av = some ⟨g, 0, none⟩ ∧ keyCells w3 g (i * 3) (ys.getD i default)) := hkeys
  clear hkeys
  generalize hq : ys.length = q at *
  have HN : Hid (ys.length = q) := hq
  clear hq
  go_wp2
  go_loopw [17] (fun i W => ∃ (k : Nat) (cs : List Value) (us : Nat → Value) (fs : Nat → Nat → Prop), k ≤ q ∧ i = .int .i64 k ∧ Hid (PO balsR 67 1 one W w.heap.size (.slice (some ⟨w.heap.size + 1 + 1, 0, none⟩) n n) n n (fun i => shK f (ys.take k) i) cs us fs) ∧ Hid (∀ i, i < n → ∀ b, fs i b → w3.heap.size ≤ b) ∧ Mod (fun b => b = w.heap.size + 1 + 1) w3 W) (fun i _ => q - (intOf i).toNat)
  case atStart => exact ⟨0, _, _, _, Nat.zero_le _, rfl, HP0, fun i hi b hb => (by cases hb), Mod.refl _ _⟩
  case round =>
    obtain ⟨k, cs, us, fs, hk, rfl, HP, HF, hM⟩ := hrel
    rename World => w4
    by_cases hlt : k < q
    · obtain ⟨g, rfl, hc⟩ := HKE.out k hlt
      have hgne : g ≠ w.heap.size + 1 + 1 := fun e => by
        obtain ⟨g', e', h0, _⟩ := HKE.out 0 (by omega)
        simp only [Option.some.injEq, Addr.mk.injEq, and_true] at e'
        rw [← e', e, Nat.zero_mul, hGc] at h0
        cases h0
      have hlk : k < ys.length := by rw [HN.out]; exact hlt
      have hgd : ys.getD k default = ys[k] := by simp [List.getD, hlk]
      have hmem : ys.getD k default ∈ ys := by rw [hgd]; exact List.getElem_mem _
      have htk : ys.take k ++ [ys.getD k default] = ys.take (k + 1) := by rw [hgd, List.take_add_one, List.getElem?_eq_getElem hlk]; rfl
      clear hlk hgd
      obtain ⟨x, hx⟩ : ∃ x, x = ys.getD k default := ⟨_, rfl⟩
      rw [← hx] at hc hmem htk
      clear hx
      have HTK : Hid (ys.take k ++ [x] = ys.take (k + 1)) := htk
      clear htk
      obtain ⟨s, a, t⟩ := x
      have hsome := HD.out.1.2 _ hmem
      dsimp only at hsome
      obtain ⟨⟨hs0', hs1'⟩, hko⟩ := hd s a t hsome
      obtain ⟨⟨ha0, ha1⟩, ht0, ht1⟩ := keyOk_iff.1 hko
      have hkw : kwf s a t := ⟨wf_of (by omega) (by omega), wf_of (by omega) (by omega), wf_of (by omega) (by omega)⟩
      obtain ⟨j, rfl⟩ : ∃ j : Nat, s = (j : Int) := ⟨s.toNat, by omega⟩
      have hjn : j < n := by omega
      obtain ⟨d0, d1, d2⟩ := hc
      dsimp only at d0 d1 d2
      replace d0 := hM.cell d0 hgne
      replace d1 := hM.cell d1 hgne
      replace d2 := hM.cell d2 hgne
      have f0 := hM.cell e0 (by dsimp only; omega)
      have f2 := hM.cell e2 (by dsimp only; omega)
      have hz4 := hM.size
      have HB4 : Hid (Book w4 b m f) := HBK.out.turned hM (by omega)
      obtain ⟨v, hv⟩ : ∃ v, v = (f j a t).getD 0 := ⟨_, rfl⟩
      have HV : Hid (v = (f j a t).getD 0) := hv
      clear hv hmem hsome HP0 e0 e1 e2 hGc
      have hk' : (k : Int) < q := by omega
      have hk0 : (0 : Int) ≤ k := by omega
      have hwk : IntKind.i64.wrap ((k : Int) + 1) = (k : Int) + 1 := wrapId (by omega) (by omega)
      go_wp2
      have HLK : ∀ W, Go.RowKit.Below w4.heap.size w4 W → (Instr.lookup 54 (.map (some b)) (.agg #[.int .i64 j, .int .i64 a, .int .i64 t]) false).run Try.prog W = .ok (.int .i64 v) W := fun W hW => by rw [HV.out]; exact ((HB4.out.below hW).look hkw).1
      refine wp_region_noPanic ?_
      refine region_upto (fun W => W.cell? ⟨w.heap.size, 1, none⟩ = some (.map (some b)) ∧ (W.cell? ⟨w4.heap.size, 0, none⟩ = some (.int .i64 j) ∧ W.cell? ⟨w4.heap.size, 1, none⟩ = some (.int .i64 a) ∧ W.cell? ⟨w4.heap.size, 2, none⟩ = some (.int .i64 t)) ∧ (Instr.lookup 54 (.map (some b)) (.agg #[.int .i64 j, .int .i64 a, .int .i64 t]) false).run Try.prog W = .ok (.int .i64 v) W) 10 (by kernel_rfl) ⟨cell_keep (by (repeat (first | exact Below.refl _ _ | assumption | refine Below.drew ?_ | refine balloc ?_ _ | refine bset ?_ (by simp; omega) _ | refine bset ?_ (by simp) _ | refine bstep ?_ (by assumption)))) f0, ⟨by simp [go_sem], by simp [go_sem], by simp [go_sem]⟩, HLK _ (by (repeat (first | exact Below.refl _ _ | assumption | refine Below.drew ?_ | refine balloc ?_ _ | refine bset ?_ (by simp; omega) _ | refine bset ?_ (by simp) _ | refine bstep ?_ (by assumption))))⟩ (fun hS => ?_)
      refine upto_take (i := 0) (v := ?_) rfl (by kernel_rfl) (by kernel_rfl) (by kernel_rfl) (by kernel_rfl) (fun _ _ _ h => h) (by rfl) hS ?_ ?_
      rotate_left
      · intro wS hSw
        try dsimp only at hSw
        first | (go_simp; done) | (go_simp; with_reducible rfl)
      try simp only [Act.put, List.getElem_toArray, List.getElem_cons_zero, List.getElem_cons_succ, List.setIfInBounds_toArray, List.set_cons_zero, List.set_cons_succ]
      refine upto_take (i := 1) (v := ?_) rfl (by kernel_rfl) (by kernel_rfl) (by kernel_rfl) (by kernel_rfl) (fun _ _ _ h => h) (by rfl) hS ?_ ?_
      rotate_left
      · intro wS hSw
        try dsimp only at hSw
        first | (go_simp; done) | (go_simp; with_reducible rfl)
      try simp only [Act.put, List.getElem_toArray, List.getElem_cons_zero, List.getElem_cons_succ, List.setIfInBounds_toArray, List.set_cons_zero, List.set_cons_succ]
      refine upto_take (i := 2) (v := ?_) rfl (by kernel_rfl) (by kernel_rfl) (by kernel_rfl) (by kernel_rfl) (fun _ _ _ h => h) (by rfl) hS ?_ ?_
      rotate_left
      · intro wS hSw
        try dsimp only at hSw
        first | (go_simp; done) | (go_simp; with_reducible rfl)
      try simp only [Act.put, List.getElem_toArray, List.getElem_cons_zero, List.getElem_cons_succ, List.setIfInBounds_toArray, List.set_cons_zero, List.set_cons_succ]
      refine upto_take (i := 3) (v := ?_) rfl (by kernel_rfl) (by kernel_rfl) (by kernel_rfl) (by kernel_rfl) (fun _ _ _ h => h) (by rfl) hS ?_ ?_
      rotate_left
      · intro wS hSw
        try dsimp only at hSw
        first | (go_simp; done) | (go_simp; with_reducible rfl)
      try simp only [Act.put, List.getElem_toArray, List.getElem_cons_zero, List.getElem_cons_succ, List.setIfInBounds_toArray, List.set_cons_zero, List.set_cons_succ]
      refine upto_take (i := 4) (v := ?_) rfl (by kernel_rfl) (by kernel_rfl) (by kernel_rfl) (by kernel_rfl) (fun _ _ _ h => h) (by rfl) hS ?_ ?_
      rotate_left
      · intro wS hSw
        try dsimp only at hSw
        first | (go_simp; done) | (go_simp; with_reducible rfl)
      try simp only [Act.put, List.getElem_toArray, List.getElem_cons_zero, List.getElem_cons_succ, List.setIfInBounds_toArray, List.set_cons_zero, List.set_cons_succ]
      refine upto_take (i := 5) (v := ?_) rfl (by kernel_rfl) (by kernel_rfl) (by kernel_rfl) (by kernel_rfl) (fun _ _ _ h => h) (by rfl) hS ?_ ?_
      rotate_left
      · intro wS hSw
        try dsimp only at hSw
        first | (go_simp; done) | (go_simp; with_reducible rfl)
      try simp only [Act.put, List.getElem_toArray, List.getElem_cons_zero, List.getElem_cons_succ, List.setIfInBounds_toArray, List.set_cons_zero, List.set_cons_succ]
      refine upto_take (i := 6) (v := ?_) rfl (by kernel_rfl) (by kernel_rfl) (by kernel_rfl) (by kernel_rfl) (fun _ _ _ h => h) (by rfl) hS ?_ ?_
      rotate_left
      · intro wS hSw
        try dsimp only at hSw
        first | (go_simp; done) | (go_simp; with_reducible rfl)
      try simp only [Act.put, List.getElem_toArray, List.getElem_cons_zero, List.getElem_cons_succ, List.setIfInBounds_toArray, List.set_cons_zero, List.set_cons_succ]
      refine upto_take (i := 7) (v := ?_) rfl (by kernel_rfl) (by kernel_rfl) (by kernel_rfl) (by kernel_rfl) (fun _ _ _ h => h) (by rfl) hS ?_ ?_
      rotate_left
      · intro wS hSw
        try dsimp only at hSw
        first | (go_simp; done) | (go_simp; with_reducible rfl)
      try simp only [Act.put, List.getElem_toArray, List.getElem_cons_zero, List.getElem_cons_succ, List.setIfInBounds_toArray, List.set_cons_zero, List.set_cons_succ]
      refine upto_take (i := 8) (v := ?_) rfl (by kernel_rfl) (by kernel_rfl) (by kernel_rfl) (by kernel_rfl) (fun _ _ _ h => h) (by rfl) hS ?_ ?_
      rotate_left
      · intro wS hSw
        try dsimp only at hSw
        first | (go_simp; done) | (go_simp; with_reducible rfl)
      try simp only [Act.put, List.getElem_toArray, List.getElem_cons_zero, List.getElem_cons_succ, List.setIfInBounds_toArray, List.set_cons_zero, List.set_cons_succ]
      refine upto_step (i := 9) (by kernel_rfl) rfl ?_
      intro K hK
      go_simp
      refine hK _ _ (fun _ => ⟨cell_keep (balloc (Below.refl _ _) _) hS.1, ⟨cell_keep (balloc (Below.refl _ _) _) hS.2.1.1, cell_keep (balloc (Below.refl _ _) _) hS.2.1.2.1, cell_keep (balloc (Below.refl _ _) _) hS.2.1.2.2⟩, HLK _ (by (repeat (first | exact Below.refl _ _ | assumption | refine Below.drew ?_ | refine balloc ?_ _ | refine bset ?_ (by simp; omega) _ | refine bset ?_ (by simp) _ | refine bstep ?_ (by assumption))))⟩) ?_
      clear hK K
      try simp only [Act.put, List.getElem_toArray, List.getElem_cons_zero, List.getElem_cons_succ, List.setIfInBounds_toArray, List.set_cons_zero, List.set_cons_succ]
      refine upto_step (i := 10) (by kernel_rfl) rfl ?_
      intro K hK
      go_simp
      refine hK _ _ (fun h => absurd rfl h) ?_
      clear hK K
      refine upto_done (by kernel_rfl) ?_
      refine NoPanic.normal ?_
      have hb5 : Go.RowKit.Below w4.heap.size w4 ((w4.alloc (.cells #[.int .i64 j, .int .i64 a, .int .i64 t] 64)).alloc (.cells #[.int .i64 a, .int .i64 t, .int .i64 v] 80)).drew := by (repeat (first | exact Below.refl _ _ | assumption | refine Below.drew ?_ | refine balloc ?_ _ | refine bset ?_ (by simp; omega) _ | refine bset ?_ (by simp) _ | refine bstep ?_ (by assumption)))
      generalize hw5 : ((w4.alloc (.cells #[.int .i64 j, .int .i64 a, .int .i64 t] 64)).alloc (.cells #[.int .i64 a, .int .i64 t, .int .i64 v] 80)).drew = w5 at *
      have x0 : w5.cell? ⟨w4.heap.size + 1, 0, none⟩ = some (.int .i64 a) := by rw [← hw5]; simp [go_sem]
      have x1 : w5.cell? ⟨w4.heap.size + 1, 1, none⟩ = some (.int .i64 t) := by rw [← hw5]; simp [go_sem]
      have x2 : w5.cell? ⟨w4.heap.size + 1, 2, none⟩ = some (.int .i64 v) := by rw [← hw5]; simp [go_sem]
      clear hw5 hS HLK
      have hp5 := HP.out.keep hb5
      have h2 := cell_keep hb5 f2
      have hM5 := hM.transB' hb5
      have hj0 : (0 : Int) ≤ j := by omega
      have hj1 : (j : Int) < n := by omega
      have hel := hp5.el j hjn
      have hcel : w5.cell? ⟨w.heap.size + 1 + 1, j, none⟩ = some (us j) := by
        have h := hp5.cell j hjn 0 (by omega)
        rw [Nat.mul_one, Nat.add_zero] at h
        rw [hp5.row.cellAt j (by omega), h]
        rfl
      have hrngj : ∀ b, fs j b → b < w4.heap.size := fun b hb => (balsR.rng (HP.out.el j hjn) b hb).2
      have hfrj : w5.frozen? ⟨w.heap.size + 1 + 1, j, none⟩ = false := hp5.row.frozenAt j
      obtain ⟨au, cu, hu⟩ := bals_form (balsR.ofO hel)
      have hol : (shK f (ys.take k) j).length ≤ 54 := by
        unfold shK
        rw [List.length_map]
        refine Nat.le_trans (List.length_filter_le _ _) ?_
        rw [List.length_take]
        omega
      have HP5 : Hid (PO balsR 67 1 one w5 w.heap.size (.slice (some ⟨w.heap.size + 1 + 1, 0, none⟩) n n) n n (fun i => shK f (ys.take k) i) cs us fs) := hp5
      obtain ⟨out, hout⟩ : ∃ out, out = shK f (ys.take k) j := ⟨_, rfl⟩
      rw [← hout] at hel hu hol
      have HOUT : Hid (out = shK f (ys.take k) j) := hout
      obtain ⟨L, hL⟩ : ∃ L, L = out.length := ⟨_, rfl⟩
      obtain ⟨hown5, hfsj⟩ := hel
      rw [hu] at hcel hown5 hfsj
      rw [← hL] at hcel hown5 hol
      have HL : Hid (L = out.length) := hL
      clear hp5 hout hL HP hM
      rw [← HL.out] at hfsj
      have HFJ : Hid (fs j = fun b => (Value.slice au L cu).ownBlock = some b) := hfsj
      clear hfsj hu
      go_wp2
      refine wp_region_noPanic ?_
      refine region_upto (fun W => W.cell? ⟨w1.heap.size, 0, none⟩ = some (.slice (some ⟨w.heap.size + 1 + 1, 0, none⟩) n n) ∧ W.cell? ⟨w.heap.size + 1 + 1, j, none⟩ = some (.slice au L cu) ∧ W.cell? ⟨w4.heap.size + 1, 0, none⟩ = some (.int .i64 a) ∧ W.cell? ⟨w4.heap.size + 1, 1, none⟩ = some (.int .i64 t) ∧ W.cell? ⟨w4.heap.size + 1, 2, none⟩ = some (.int .i64 v)) 12 (by kernel_rfl) ⟨cell_keep (by (repeat (first | exact Below.refl _ _ | assumption | refine Below.drew ?_ | refine balloc ?_ _ | refine bset ?_ (by simp; omega) _ | refine bset ?_ (by simp) _ | refine bstep ?_ (by assumption)))) h2, cell_keep (by (repeat (first | exact Below.refl _ _ | assumption | refine Below.drew ?_ | refine balloc ?_ _ | refine bset ?_ (by simp; omega) _ | refine bset ?_ (by simp) _ | refine bstep ?_ (by assumption)))) hcel, cell_keep (by (repeat (first | exact Below.refl _ _ | assumption | refine Below.drew ?_ | refine balloc ?_ _ | refine bset ?_ (by simp; omega) _ | refine bset ?_ (by simp) _ | refine bstep ?_ (by assumption)))) x0, cell_keep (by (repeat (first | exact Below.refl _ _ | assumption | refine Below.drew ?_ | refine balloc ?_ _ | refine bset ?_ (by simp; omega) _ | refine bset ?_ (by simp) _ | refine bstep ?_ (by assumption)))) x1, cell_keep (by (repeat (first | exact Below.refl _ _ | assumption | refine Below.drew ?_ | refine balloc ?_ _ | refine bset ?_ (by simp; omega) _ | refine bset ?_ (by simp) _ | refine bstep ?_ (by assumption)))) x2⟩ (fun hS => ?_)
      refine upto_take (i := 0) (v := ?_) rfl (by kernel_rfl) (by kernel_rfl) (by kernel_rfl) (by kernel_rfl) (fun _ _ _ h => h) (by rfl) hS ?_ ?_
      rotate_left
      · intro wS hSw
        try dsimp only at hSw
        first | (go_simp; done) | (go_simp; with_reducible rfl)
      try simp only [Act.put, List.getElem_toArray, List.getElem_cons_zero, List.getElem_cons_succ, List.setIfInBounds_toArray, List.set_cons_zero, List.set_cons_succ]
      refine upto_take (i := 1) (v := ?_) rfl (by kernel_rfl) (by kernel_rfl) (by kernel_rfl) (by kernel_rfl) (fun _ _ _ h => h) (by rfl) hS ?_ ?_
      rotate_left
      · intro wS hSw
        try dsimp only at hSw
        first | (go_simp; done) | (go_simp; with_reducible rfl)
      try simp only [Act.put, List.getElem_toArray, List.getElem_cons_zero, List.getElem_cons_succ, List.setIfInBounds_toArray, List.set_cons_zero, List.set_cons_succ]
      refine upto_take (i := 2) (v := ?_) rfl (by kernel_rfl) (by kernel_rfl) (by kernel_rfl) (by kernel_rfl) (fun _ _ _ h => h) (by rfl) hS ?_ ?_
      rotate_left
      · intro wS hSw
        try dsimp only at hSw
        first | (go_simp; done) | (go_simp; with_reducible rfl)
      try simp only [Act.put, List.getElem_toArray, List.getElem_cons_zero, List.getElem_cons_succ, List.setIfInBounds_toArray, List.set_cons_zero, List.set_cons_succ]
      refine upto_take (i := 3) (v := ?_) rfl (by kernel_rfl) (by kernel_rfl) (by kernel_rfl) (by kernel_rfl) (fun _ _ _ h => h) (by rfl) hS ?_ ?_
      rotate_left
      · intro wS hSw
        try dsimp only at hSw
        first | (go_simp; done) | (go_simp; with_reducible rfl)
      try simp only [Act.put, List.getElem_toArray, List.getElem_cons_zero, List.getElem_cons_succ, List.setIfInBounds_toArray, List.set_cons_zero, List.set_cons_succ]
      refine upto_take (i := 4) (v := ?_) rfl (by kernel_rfl) (by kernel_rfl) (by kernel_rfl) (by kernel_rfl) (fun _ _ _ h => h) (by rfl) hS ?_ ?_
      rotate_left
      · intro wS hSw
        try dsimp only at hSw
        first | (go_simp; done) | (go_simp; with_reducible rfl)
      try simp only [Act.put, List.getElem_toArray, List.getElem_cons_zero, List.getElem_cons_succ, List.setIfInBounds_toArray, List.set_cons_zero, List.set_cons_succ]
      refine upto_take (i := 5) (v := ?_) rfl (by kernel_rfl) (by kernel_rfl) (by kernel_rfl) (by kernel_rfl) (fun _ _ _ h => h) (by rfl) hS ?_ ?_
      rotate_left
      · intro wS hSw
        try dsimp only at hSw
        first | (go_simp; done) | (go_simp; with_reducible rfl)
      try simp only [Act.put, List.getElem_toArray, List.getElem_cons_zero, List.getElem_cons_succ, List.setIfInBounds_toArray, List.set_cons_zero, List.set_cons_succ]
      refine upto_take (i := 6) (v := ?_) rfl (by kernel_rfl) (by kernel_rfl) (by kernel_rfl) (by kernel_rfl) (fun _ _ _ h => h) (by rfl) hS ?_ ?_
      rotate_left
      · intro wS hSw
        try dsimp only at hSw
        first | (go_simp; done) | (go_simp; with_reducible rfl)
      try simp only [Act.put, List.getElem_toArray, List.getElem_cons_zero, List.getElem_cons_succ, List.setIfInBounds_toArray, List.set_cons_zero, List.set_cons_succ]
      refine upto_take (i := 7) (v := ?_) rfl (by kernel_rfl) (by kernel_rfl) (by kernel_rfl) (by kernel_rfl) (fun _ _ _ h => h) (by rfl) hS ?_ ?_
      rotate_left
      · intro wS hSw
        try dsimp only at hSw
        first | (go_simp; done) | (go_simp; with_reducible rfl)
      try simp only [Act.put, List.getElem_toArray, List.getElem_cons_zero, List.getElem_cons_succ, List.setIfInBounds_toArray, List.set_cons_zero, List.set_cons_succ]
      refine upto_take (i := 8) (v := ?_) rfl (by kernel_rfl) (by kernel_rfl) (by kernel_rfl) (by kernel_rfl) (fun _ _ _ h => h) (by rfl) hS ?_ ?_
      rotate_left
      · intro wS hSw
        try dsimp only at hSw
        first | (go_simp; done) | (go_simp; with_reducible rfl)
      try simp only [Act.put, List.getElem_toArray, List.getElem_cons_zero, List.getElem_cons_succ, List.setIfInBounds_toArray, List.set_cons_zero, List.set_cons_succ]
      refine upto_step (i := 9) (by kernel_rfl) rfl ?_
      intro K hK
      go_simp
      have hSY := And.intro (cell_keep (balloc (Below.refl _ _) (.cells #[.int .i64 a, .int .i64 t, .int .i64 v] 80)) hS.1) (And.intro (cell_keep (balloc (Below.refl _ _) (.cells #[.int .i64 a, .int .i64 t, .int .i64 v] 80)) hS.2.1) (And.intro (cell_keep (balloc (Below.refl _ _) (.cells #[.int .i64 a, .int .i64 t, .int .i64 v] 80)) hS.2.2.1) (And.intro (cell_keep (balloc (Below.refl _ _) (.cells #[.int .i64 a, .int .i64 t, .int .i64 v] 80)) hS.2.2.2.1) (cell_keep (balloc (Below.refl _ _) (.cells #[.int .i64 a, .int .i64 t, .int .i64 v] 80)) hS.2.2.2.2))))
      refine hK _ _ (fun _ => hSY) ?_
      clear hK K
      try simp only [Act.put, List.getElem_toArray, List.getElem_cons_zero, List.getElem_cons_succ, List.setIfInBounds_toArray, List.set_cons_zero, List.set_cons_succ]
      refine upto_step (i := 10) (by kernel_rfl) rfl ?_
      intro K hK
      obtain ⟨i0, hi, hz0, hz1, hz2⟩ := info_parts infoBal
      have hbY : Go.RowKit.Below w5.heap.size w5 (w5.drew.alloc (.cells #[.int .i64 a, .int .i64 t, .int .i64 v] 80)) := by (repeat (first | exact Below.refl _ _ | assumption | refine Below.drew ?_ | refine balloc ?_ _ | refine bset ?_ (by simp; omega) _ | refine bset ?_ (by simp) _ | refine bstep ?_ (by assumption)))
      have hzY := hbY.size
      have hz5 := hb5.size
      refine step_append_at _ rfl _ _ 67 rfl w.heap.size 80 i0 _ 3 24 Try.underlying67 hi hz0 hz1 hz2 rfl (by decide) (.slice au L cu) L (balsC out) rfl (owns_below hown5 hbY) ⟨w5.heap.size, 0, none⟩ 1 1 (balC ⟨a, t, v⟩) rfl rfl ?_ (balC_one _) (by unfold maxLen; omega) (by omega) (by simp; omega) ?_
      · refine balC_cells (x := ⟨a, t, v⟩) (o := 0) ?_
        exact ⟨by simp [go_sem], by simp [go_sem], by simp [go_sem]⟩
      intro v6 w6 o6 hg6 hloc
      have hmY : Mod (fs j) (w5.drew.alloc (.cells #[.int .i64 a, .int .i64 t, .int .i64 v] 80)) w6 := by rw [HFJ.out]; exact Mod.of_grown hg6
      have hm6 : Mod (fs j) w5 w6 := (Mod.of_below hbY).trans hmY
      have hn1 : ¬ fs j w1.heap.size := fun h => by have := HF.out j hjn _ h; omega
      have hn2 : ¬ fs j (w.heap.size + 1 + 1) := fun h => HP5.out.out j hjn _ h rfl
      have hn3 : ¬ fs j (w4.heap.size + 1) := fun h => by have := hrngj _ h; omega
      have hS6 := And.intro (hmY.cell hSY.1 hn1) (And.intro (hmY.cell hSY.2.1 hn2) (And.intro (hmY.cell hSY.2.2.1 hn3) (And.intro (hmY.cell hSY.2.2.2.1 hn3) (hmY.cell hSY.2.2.2.2 hn3))))
      have hf6 : w6.frozen? ⟨w.heap.size + 1 + 1, j, none⟩ = false := (mod_frozen hm6 (a := ⟨w.heap.size + 1 + 1, j, none⟩) (show w.heap.size + 1 + 1 < w5.heap.size by omega) hn2).trans hfrj
      have hc6 : w6.cell? ⟨w.heap.size + 1 + 1, j, none⟩ = some (.slice au L cu) := hS6.2.1
      obtain ⟨p6, c6, hv6⟩ := owns_form o6
      subst hv6
      refine hK _ _ (fun _ => hS6) ?_
      clear hK K hSY hS
      try simp only [Act.put, List.getElem_toArray, List.getElem_cons_zero, List.getElem_cons_succ, List.setIfInBounds_toArray, List.set_cons_zero, List.set_cons_succ]
      refine upto_step (i := 11) (by kernel_rfl) rfl ?_
      intro K hK
      go_simp
      refine hK _ _ (fun _ => hS6) ?_
      clear hK K
      try simp only [Act.put, List.getElem_toArray, List.getElem_cons_zero, List.getElem_cons_succ, List.setIfInBounds_toArray, List.set_cons_zero, List.set_cons_succ]
      refine upto_step (i := 12) (by kernel_rfl) rfl ?_
      intro K hK
      go_simp
      refine hK _ _ (fun h => absurd rfl h) ?_
      clear hK K
      refine upto_done (by kernel_rfl) ?_
      refine NoPanic.normal ?_
      have hF6 : ∀ b, (Value.slice p6 (L + 1) c6).ownBlock = some b → fs j b ∨ w5.heap.size ≤ b := fun b hb => by
        rw [HFJ.out]
        rcases hloc with h | h
        · exact .inl (h ▸ hb)
        · rw [h] at hb
          simp at hb
          exact .inr (by omega)
      have hO6 : balsR.O w6 w.heap.size (fun b => (Value.slice p6 (L + 1) c6).ownBlock = some b) (.slice p6 (L + 1) c6) (out ++ [⟨a, t, v⟩]) := by
        refine ⟨?_, rfl⟩
        rw [balsC_snoc, List.length_append, ← HL.out]
        exact o6
      have hm7 : Mod (fun b => b = w.heap.size + 1 + 1) w6 (w6.setCell ⟨w.heap.size + 1 + 1, j, none⟩ (.slice p6 (L + 1) c6)) := Mod.of_set w6 ⟨w.heap.size + 1 + 1, j, none⟩ _
      have hr6 := hm6.owns HP5.out.row (fun b hb => by simp [Value.ownBlock] at hb; rw [← hb]; exact hn2)
      have hr7 := (hr6.stored j (.slice p6 (L + 1) c6)).1
      have hp7 := HP5.out.putS hjn hm6 hO6 hF6 hr7 hm7
      have HP7 : Hid (PO balsR 67 1 one (w6.setCell ⟨w.heap.size + 1 + 1, j, none⟩ (.slice p6 (L + 1) c6)) w.heap.size (.slice (some ⟨w.heap.size + 1 + 1, 0, none⟩) n n) n n (fun i => shK f (ys.take (k + 1)) i) (cs.set j (.slice p6 (L + 1) c6)) (upd us j (.slice p6 (L + 1) c6)) (upd fs j (fun b => (Value.slice p6 (L + 1) c6).ownBlock = some b))) := by
        refine hp7.cast (fun i hi => ?_)
        rw [← HTK.out, shK_snoc]
        by_cases hij : i = j
        · subst hij
          rw [upd_at, if_pos rfl, HOUT.out, HV.out]
          rfl
        · rw [upd_ne _ _ hij, if_neg (fun e => hij (by simp only at e; omega))]
      have HF7 : Hid (∀ i, i < n → ∀ b, upd fs j (fun b => (Value.slice p6 (L + 1) c6).ownBlock = some b) i b → w3.heap.size ≤ b) := fun i hi b hb => by
        by_cases hij : i = j
        · subst hij
          rw [upd_at] at hb
          rcases hF6 b hb with h | h
          · exact HF.out i hi b h
          · omega
        · rw [upd_ne _ _ hij] at hb
          exact HF.out i hi b hb
      have hM7 : Mod (fun b => b = w.heap.size + 1 + 1) w3 (w6.setCell ⟨w.heap.size + 1 + 1, j, none⟩ (.slice p6 (L + 1) c6)) := by
        have h36 : Mod (fun b => b = w.heap.size + 1 + 1) w3 w6 := ⟨hm6.os.trans hM5.os, hm6.tape.trans hM5.tape, hm6.output.trans hM5.output, Nat.le_trans hM5.size hm6.size, fun i hi hn => (hm6.block i (Nat.lt_of_lt_of_le hi hM5.size) (fun e => by have := HF.out j hjn i e; omega)).trans (hM5.block i hi hn)⟩
        exact h36.trans hm7
      clear hp7 hr7 hr6 hO6 hF6 hm7 o6 hg6 hloc hmY hm6
      go_wp2
      go_roundw
      case rel => exact ⟨k + 1, _, _, _, by omega, by simp, HP7, HF7, hM7⟩
      case measure => simp [intOf]; omega
    · obtain rfl : k = q := by omega
      have f2 := hM.cell e2 (by dsimp only; omega)
      have f1 := hM.cell e1 (by dsimp only; omega)
      have f3 : w4.frozen? ⟨w.heap.size + 1, 0, none⟩ = false := (mod_frozen hM (a := ⟨w.heap.size + 1, 0, none⟩) (show w.heap.size + 1 < w3.heap.size by omega) (show ¬ (w.heap.size + 1 = w.heap.size + 1 + 1) by omega)).trans e3
      have hz4 := hM.size
      have hy : ys.take k = ys := by rw [← HN.out]; exact List.take_length
      rw [hy] at HP
      clear hy HKE HP0 HBK hGc
      go_wp2
      have hm5 : Mod (fun b => b = w.heap.size + 1) w4 (w4.setCell ⟨w.heap.size + 1, 0, none⟩ (.slice (some ⟨w.heap.size + 1 + 1, 0, none⟩) n n)) := Mod.of_set w4 ⟨w.heap.size + 1, 0, none⟩ _
      have hp5 := HP.out.mod hm5 (fun b hb e => by simp [Value.ownBlock] at hb; omega) (fun i hi b hb e => by have := HF.out i hi b hb; omega)
      have hB5 : Go.RowKit.Below w.heap.size w (w4.setCell ⟨w.heap.size + 1, 0, none⟩ (.slice (some ⟨w.heap.size + 1 + 1, 0, none⟩) n n)) := Mod.below (F := fun b => b = w.heap.size + 1 + 1 ∨ b = w.heap.size + 1) hB3 ((hM.mono (fun b hb => Or.inl hb)).trans (hm5.mono (fun b hb => Or.inr hb))) (by omega) (fun b hb => by omega)
      refine bodyPost_ret (v := .agg #[.slice (some ⟨w.heap.size + 1 + 1, 0, none⟩) n n]) (by simp [results, Try.results21, go_sem, f1]) rfl ?_
      exact ⟨_, _, ys, rfl, HD.out, HS.out, ⟨cs, us, fs, by
        rw [List.length_map, List.length_range]
        exact hp5.cast (fun i hi => by simp [List.getD, hi]), fun b => Iff.rfl⟩, hB5⟩
end Go.Proofs.Ytgjpafalompecaa

/-
  impl.SettleOne.
-/
namespace Go.Proofs.Ytgjpafalompecaa
open Go.RowKit
set_option linter.unusedSectionVars false
variable [DecidableEq Rw] [Inhabited Rw] [DecidableEq Bal] [Inhabited Bal] [DecidableEq Ledg] [Inhabited Ledg] [DecidableEq Leg] [Inhabited Leg] [DecidableEq Cont] [Inhabited Cont] [DecidableEq LedgR] [Inhabited LedgR]
set_option linter.unusedVariables false
set_option linter.unusedSimpArgs false
attribute [local go_sem ↓] Go.wp_at_zero Go.wp_at_succ

set_option maxRecDepth 20000 in
set_option maxHeartbeats 4000000 in
theorem implSettle_u (x y : Value) (g : Ledg) (c : Cont) (w : World) (hx : ledgR.V w x g) (hy : contR.V w y c) :
    Calls Try.prog 7 #[x, y] w fun e w' => ∃ v F, e = .returned v ∧ ledgRR.O w' w.heap.size F v (settleD g c) ∧ Below w.heap.size w w' := by
  have hX := hx
  have hY := hy
  obtain ⟨ag, cg, rfl⟩ := ledg_form hx
  obtain ⟨ac, cc, rfl⟩ := cont_form hy
  have HX : Hid (∀ W, Below w.heap.size w W → ledgR.V W (.agg #[.slice ag g.shards.length cg]) g) := fun W hW => ledgR.below hX hW
  have HY : Hid (∀ W, Below w.heap.size w W → contR.V W (.agg #[.int .i64 c.id, .slice ac c.legs.length cc]) c) := fun W hW => contR.below hY hW
  have HLG : Hid (∀ W, Below w.heap.size w W → legsR.V W (.slice ac c.legs.length cc) c.legs) := fun W hW => by
    obtain ⟨u, e, hu⟩ := HY.out W hW
    simp only [Value.agg.injEq, Array.mk.injEq, List.cons.injEq, and_true, true_and] at e
    rw [e]
    exact hu
  have HF : Hid (canG g c = 0 → _) := fun h => settle_facts (g := g) (c := c) h
  have HC : Hid (∀ W, Below w.heap.size w W → Calls Try.prog 9 #[.agg #[.slice ag g.shards.length cg], .agg #[.int .i64 c.id, .slice ac c.legs.length cc]] W fun e w' => e = .returned (.int .i64 (canG g c)) ∧ Below W.heap.size W w') := fun W hW => implCan_any _ _ g c W (HX.out W hW) (HY.out W hW)
  have HO : Hid (canG g c = 0 → ∀ W, Below w.heap.size w W → Calls Try.prog 19 #[.agg #[.slice ag g.shards.length cg]] W fun e w' => ∃ b, e = .returned (.agg #[.int .i64 g.shards.length, .map (some b)]) ∧ W.heap.size ≤ b ∧ Book w' b 54 (bookF g.shards) ∧ Below W.heap.size W w') := fun h W hW => bookOf_any _ g W (HX.out W hW) (settle_facts h).1.2.2.2
  have HA : Hid (canG g c = 0 → ∀ W b, Below w.heap.size w W → Book W b 54 (bookF g.shards) → Calls Try.prog 20 #[.agg #[.int .i64 g.shards.length, .map (some b)], .slice ac c.legs.length cc] W fun e w' => e = .returned (.tuple #[]) ∧ ∃ m', Book w' b m' (addLs (bookF g.shards) c.legs) ∧ Mod (fun i => i = b) W w') := fun h W b hW hB => by
    obtain ⟨⟨_, _, h8, _⟩, _, _, _, h5⟩ := settle_facts h
    refine (bookAdd_any g.shards.length b 54 _ _ c.legs W hB (HLG.out W hW) (by omega) h5).mono ?_
    rintro e w' ⟨rfl, m', _, h1, h2⟩
    exact ⟨rfl, m', h1, h2⟩
  have HL : Hid (canG g c = 0 → ∀ W b m, Book W b m (addLs (bookF g.shards) c.legs) → Calls Try.prog 21 #[.agg #[.int .i64 g.shards.length, .map (some b)]] W fun e w' => ∃ v F, e = .returned (.agg #[v]) ∧ balssR.O w' W.heap.size F v (settleL g.shards c.legs) ∧ Below W.heap.size W w') := fun h W b m hB => by
    obtain ⟨⟨h1, h3, h8, _⟩, hr, hk, hs, h5⟩ := settle_facts h
    have hd := kdom_settle hr hk hs
    refine (bookLedger_any g.shards.length b m _ W hB h1 h3 hd).mono ?_
    rintro e w' ⟨v, F, ys, rfl, hD, hP, hO, hb⟩
    refine ⟨v, F, rfl, ?_, hb⟩
    rw [← lay_settled hr hk (by omega) hd hD hP (hs' := (List.range g.shards.length).map (shK (addLs (bookF g.shards) c.legs) ys)) (by simp) (fun i hi => by simp [List.getD, hi])]
    exact hO
  have HD : Hid (settleD g c = if canG g c = 0 then ⟨0, ⟨settleL g.shards c.legs⟩⟩ else ⟨canG g c, ⟨[]⟩⟩) := rfl
  clear hx hy hX hY HF HLG HX HY
  generalize g.shards.length = n at *
  generalize c.legs.length = m at *
  generalize c.id = id at *
  generalize canG g c = q at *
  go_enter Try.func7, Try.ntmps7
  go_wp2_with fail
  refine (HC.out _ (by (repeat (first | exact Below.refl _ _ | assumption | refine Below.drew ?_ | refine balloc ?_ _ | refine bset ?_ (by simp; omega) _ | refine bset ?_ (by simp) _ | refine bstep ?_ (by assumption))))).mono ?_
  rintro e w1 ⟨rfl, hb1⟩
  have g0 : w1.cell? ⟨w.heap.size, 0, none⟩ = some (.slice ag n cg) := cell_keep hb1 (by simp [go_sem])
  have y0 : w1.cell? ⟨w.heap.size + 1, 0, none⟩ = some (.int .i64 id) := cell_keep hb1 (by simp [go_sem])
  have y1 : w1.cell? ⟨w.heap.size + 1, 1, none⟩ = some (.slice ac m cc) := cell_keep hb1 (by simp [go_sem])
  have r0 : w1.cell? ⟨w.heap.size + 1 + 1, 0, none⟩ = some (.int .i64 0) := cell_keep hb1 (by simp [go_sem])
  have r1 : w1.cell? ⟨w.heap.size + 1 + 1, 1, none⟩ = some (.slice none 0 0) := cell_keep hb1 (by simp [go_sem])
  have rf : ∀ o, w1.frozen? ⟨w.heap.size + 1 + 1, o, none⟩ = false := fun o => by rw [(bcell hb1).2 _ _ (by simp)]; simp [go_sem]
  have hB1 : Below w.heap.size w w1 := by (repeat (first | exact Below.refl _ _ | assumption | refine Below.drew ?_ | refine balloc ?_ _ | refine bset ?_ (by simp; omega) _ | refine bset ?_ (by simp) _ | refine bstep ?_ (by assumption)))
  have z1 := hb1.size
  simp only [World.size_alloc] at z1
  clear hb1
  by_cases hq : q = 0
  · subst hq
    go_wp2_with fail
    refine (HO.out (by first | rfl | trivial) _ hB1).mono ?_
    rintro e w2 ⟨b, rfl, hbb, hbk, hb2⟩
    replace y1 := cell_keep hb2 y1
    replace r0 := cell_keep hb2 r0
    replace r1 := cell_keep hb2 r1
    replace rf : ∀ o, w2.frozen? ⟨w.heap.size + 1 + 1, o, none⟩ = false := fun o => by rw [(bcell hb2).2 _ _ (by first | omega | (dsimp only; omega))]; exact rf o
    have hB2 : Below w.heap.size w w2 := bstep hB1 hb2
    have z2 := hb2.size
    have zb := hbk.lt
    have HBK : Hid (Book w2 b 54 (bookF g.shards)) := hbk
    clear hb2 g0 y0 hB1 hbk
    have y1z : w.heap.size + 1 < w2.heap.size := by omega
    have r1z : w.heap.size + 1 + 1 < w2.heap.size := by omega
    go_wp2_with fail
    refine (HA.out (by first | rfl | trivial) _ b (by (repeat (first | exact Below.refl _ _ | assumption | refine Below.drew ?_ | refine balloc ?_ _ | refine bset ?_ (by simp; omega) _ | refine bset ?_ (by simp) _ | refine bstep ?_ (by assumption)))) (HBK.out.below (by (repeat (first | exact Below.refl _ _ | assumption | refine Below.drew ?_ | refine balloc ?_ _ | refine bset ?_ (by simp; omega) _ | refine bset ?_ (by simp) _ | refine bstep ?_ (by assumption)))))).mono ?_
    rintro e w3 ⟨rfl, m3, hbk3, hm3⟩
    have hBA : Below w.heap.size w (w2.alloc (.cells #[.int .i64 n, .map (some b)] 56)) := by (repeat (first | exact Below.refl _ _ | assumption | refine Below.drew ?_ | refine balloc ?_ _ | refine bset ?_ (by simp; omega) _ | refine bset ?_ (by simp) _ | refine bstep ?_ (by assumption)))
    have k0 : w3.cell? ⟨w2.heap.size, 0, none⟩ = some (.int .i64 n) := hm3.cell (by simp [go_sem]) (by dsimp only; omega)
    have k1 : w3.cell? ⟨w2.heap.size, 1, none⟩ = some (.map (some b)) := hm3.cell (by simp [go_sem]) (by dsimp only; omega)
    have z3 := hm3.size
    simp only [World.size_alloc] at z3
    have hB3 : Below w.heap.size w w3 := Mod.below hBA hm3 (by simp; omega) (fun i e => by omega)
    replace rf : ∀ o, w3.frozen? ⟨w.heap.size + 1 + 1, o, none⟩ = false := fun o => (mod_frozen hm3 (a := ⟨w.heap.size + 1 + 1, o, none⟩) (by simp; omega) (by dsimp only; omega)).trans (by rw [(bcell (balloc (Below.refl w2.heap.size w2) _)).2 _ _ (by first | omega | (dsimp only; omega))]; exact rf o)
    replace r0 := hm3.cell (cell_keep (balloc (Below.refl _ _) _) r0) (by dsimp only; omega)
    replace r1 := hm3.cell (cell_keep (balloc (Below.refl _ _) _) r1) (by dsimp only; omega)
    clear hm3 y1 hB2 hBA HBK
    have HB3 : Hid (Book w3 b m3 (addLs (bookF g.shards) c.legs)) := hbk3
    clear hbk3
    go_wp2_with fail
    refine (HL.out (by first | rfl | trivial) _ b m3 HB3.out).mono ?_
    rintro e w4 ⟨v4, F3, rfl, o3, hb4⟩
    obtain ⟨a2, c2, rfl⟩ := balss_form (balssR.ofO o3)
    replace r0 := cell_keep hb4 r0
    replace r1 := cell_keep hb4 r1
    replace rf : ∀ o, w4.frozen? ⟨w.heap.size + 1 + 1, o, none⟩ = false := fun o => by rw [(bcell hb4).2 _ _ (by first | omega | (dsimp only; omega))]; exact rf o
    have hB4 : Below w.heap.size w w4 := bstep hB3 hb4
    have z4 := hb4.size
    have HO3 : Hid (balssR.O w4 w3.heap.size F3 (.slice a2 (settleL g.shards c.legs).length c2) (settleL g.shards c.legs)) := o3
    clear hb4 o3 hB3 k0 k1
    dsimp only
    generalize hLL : (settleL g.shards c.legs).length = L at *
    clear hLL
    go_wp2
    refine bodyPost_ret (v := .agg #[.int .i64 0, .slice a2 L c2]) (by simp [results, Try.results7, go_sem, r0, r1, rf]) rfl ?_
    rw [HD.out, if_pos (by trivial)]
    refine ⟨_, F3, rfl, ⟨_, F3, rfl, ⟨_, F3, rfl, balssR.base (balssR.set (balssR.set HO3.out _ (by first | omega | (dsimp only; omega))) _ (by first | omega | (dsimp only; omega))) (by omega), fun b => Iff.rfl⟩, fun b => Iff.rfl⟩, ?_⟩
    exact (hB4.setCell (by first | omega | (dsimp only; omega)) _).setCell (by first | omega | (dsimp only; omega)) _
  · go_wp2
    refine bodyPost_ret (v := .agg #[.int .i64 q, .slice none 0 0]) (by simp [results, Try.results7, go_sem, r0, r1, rf]) rfl ?_
    rw [HD.out, if_neg hq]
    obtain ⟨F, hO⟩ := balss_nil ((w1.setCell ⟨w.heap.size + 1 + 1, 0, none⟩ (.int .i64 q)).setCell ⟨w.heap.size + 1 + 1, 1, none⟩ (.slice none 0 0)) w.heap.size
    refine ⟨_, F, rfl, ⟨_, F, rfl, ⟨_, F, rfl, hO, fun b => Iff.rfl⟩, fun b => Iff.rfl⟩, ?_⟩
    exact (hB1.setCell (by first | omega | (dsimp only; omega)) _).setCell (by first | omega | (dsimp only; omega)) _
end Go.Proofs.Ytgjpafalompecaa


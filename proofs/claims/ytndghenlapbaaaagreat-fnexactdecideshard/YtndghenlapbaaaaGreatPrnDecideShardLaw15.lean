import Derived.Shelf.SlSortCmp.WholeK
import Derived.Ground.SlsfProg
import Derived.Test.YtndghenlapbaaaaGreatProg
import Derived.Test.YtndghenlapbaaaaGreatPrnDecideShardLaw11
import Derived.Shelf.SlSortCmp.NoneTotal
import Derived.Test.YtndghenlapbaaaaGreatPrnDecideShardLaw13
import Derived.Test.YtndghenlapbaaaaGreatPrnDecideShardLaw14
set_option linter.unusedSectionVars false
set_option linter.unusedVariables false
set_option linter.unusedSimpArgs false

/-
 slices.SortFunc at keys of a book: the library's contract, laid at this program.
-/
namespace Go.Proofs.YtndghenlapbaaaaGreat
open Go.Shelf
def Tryz.sortK_ren : Go.Shelf.Ren := ⟨fun | 6 => 152 | 15 => 164 | 14 => 166 | 28 => 177 | 29 => 178 | 20 => 179 | 21 => 180 | 22 => 181 | 23 => 182 | 24 => 183 | 25 => 184 | 26 => 185 | 27 => 186 | 46 => 192 | 47 => 188 | 48 => 189 | 49 => 193 | 50 => 194 | 57 => 196 | n => n, fun | 22 => 154 | 24 => 152 | 25 => 159 | 3 => 3 | 39 => 166 | 0 => 0 | 53 => 193 | 55 => 195 | 4 => 4 | 46 => 187 | 45 => 186 | 50 => 107 | 5 => 5 | 9 => 9 | 66 => 201 | 70 => 205 | 76 => 209 | 77 => 210 | n => n, fun | n => n⟩
theorem Tryz.sortK : Go.Proofs.SlLaysF0.n6 Tryz.prog Tryz.sortK_ren := {
 mixed := by kernel_rfl
 f6 := ⟨Tryz.f152.name, by decide, Tryz.func152.trans (congrArg some (by kernel_rfl))⟩
 f14 := ⟨Tryz.f166.name, by decide, Tryz.func166.trans (congrArg some (by kernel_rfl))⟩
 f15 := Tryz.func164.trans (congrArg some (by kernel_rfl))
 f20 := ⟨Tryz.f179.name, by decide, Tryz.func179.trans (congrArg some (by kernel_rfl))⟩
 f21 := ⟨Tryz.f180.name, by decide, Tryz.func180.trans (congrArg some (by kernel_rfl))⟩
 f22 := ⟨Tryz.f181.name, by decide, Tryz.func181.trans (congrArg some (by kernel_rfl))⟩
 f23 := ⟨Tryz.f182.name, by decide, Tryz.func182.trans (congrArg some (by kernel_rfl))⟩
 f24 := ⟨Tryz.f183.name, by decide, Tryz.func183.trans (congrArg some (by kernel_rfl))⟩
 f25 := ⟨Tryz.f184.name, by decide, Tryz.func184.trans (congrArg some (by kernel_rfl))⟩
 f26 := ⟨Tryz.f185.name, by decide, Tryz.func185.trans (congrArg some (by kernel_rfl))⟩
 f27 := ⟨Tryz.f186.name, by decide, Tryz.func186.trans (congrArg some (by kernel_rfl))⟩
 f28 := Tryz.func177.trans (congrArg some (by kernel_rfl))
 f29 := Tryz.func178.trans (congrArg some (by kernel_rfl))
 f46 := ⟨Tryz.f192.name, by decide, Tryz.func192.trans (congrArg some (by kernel_rfl))⟩
 f47 := Tryz.func188.trans (congrArg some (by kernel_rfl))
 f48 := Tryz.func189.trans (congrArg some (by kernel_rfl))
 f49 := ⟨Tryz.f193.name, by decide, Tryz.func193.trans (congrArg some (by kernel_rfl))⟩
 f50 := ⟨Tryz.f194.name, by decide, Tryz.func194.trans (congrArg some (by kernel_rfl))⟩
 f57 := ⟨Tryz.f196.name, by decide, Tryz.func196.trans (congrArg some (by kernel_rfl))⟩
 t0 := Tryz.underlying0
 a0 := Tryz.isAgg0
 z0 := Tryz.sizeOf0
 v0 := Tryz.zeroValue0
 t3 := Tryz.underlying3
 a3 := Tryz.isAgg3
 z3 := Tryz.sizeOf3
 v3 := Tryz.zeroValue3
 t4 := Tryz.underlying4
 a4 := Tryz.isAgg4
 z4 := Tryz.sizeOf4
 v4 := Tryz.zeroValue4
 t5 := Tryz.underlying5
 a5 := Tryz.isAgg5
 z5 := Tryz.sizeOf5
 v5 := Tryz.zeroValue5
 t9 := Tryz.underlying9
 a9 := Tryz.isAgg9
 z9 := Tryz.sizeOf9
 v9 := Tryz.zeroValue9
 t22 := Tryz.underlying154
 a22 := Tryz.isAgg154
 z22 := Tryz.sizeOf154
 v22 := Tryz.zeroValue154
 t25 := Tryz.underlying159
 a25 := Tryz.isAgg159
 z25 := Tryz.sizeOf159
 v25 := Tryz.zeroValue159
 t39 := Tryz.underlying166
 a39 := Tryz.isAgg166
 z39 := Tryz.sizeOf166
 v39 := Tryz.zeroValue166
 t45 := Tryz.underlying186
 a45 := Tryz.isAgg186
 z45 := Tryz.sizeOf186
 v45 := Tryz.zeroValue186
 t46 := Tryz.underlying187
 a46 := Tryz.isAgg187
 z46 := Tryz.sizeOf187
 v46 := Tryz.zeroValue187
 t50 := Tryz.underlying107
 a50 := Tryz.isAgg107
 z50 := Tryz.sizeOf107
 v50 := Tryz.zeroValue107
 t53 := Tryz.underlying193
 a53 := Tryz.isAgg193
 z53 := Tryz.sizeOf193
 v53 := Tryz.zeroValue193
 t55 := Tryz.underlying195
 a55 := Tryz.isAgg195
 z55 := Tryz.sizeOf195
 v55 := Tryz.zeroValue195
 t66 := Tryz.underlying201
 a66 := Tryz.isAgg201
 z66 := Tryz.sizeOf201
 v66 := Tryz.zeroValue201
 t70 := Tryz.underlying205
 a70 := Tryz.isAgg205
 z70 := Tryz.sizeOf205
 v70 := Tryz.zeroValue205
 t76 := Tryz.underlying209
 a76 := Tryz.isAgg209
 z76 := Tryz.sizeOf209
 v76 := Tryz.zeroValue209
 t77 := Tryz.underlying210
 a77 := Tryz.isAgg210
 z77 := Tryz.sizeOf210
 v77 := Tryz.zeroValue210 }
end Go.Proofs.YtndghenlapbaaaaGreat

/-
 slices.SortFunc over keys of a book: both contracts, at this program.
-/
namespace Go.Proofs.YtndghenlapbaaaaGreat
open Go.RowKit Go.Sort Go.Shelf
variable [DecidableEq Rw] [Inhabited Rw] [DecidableEq Bal] [Inhabited Bal] [DecidableEq Ledg] [Inhabited Ledg] [DecidableEq Leg] [Inhabited Leg] [DecidableEq Cont] [Inhabited Cont]

theorem sortsK : SortsK where
 some_ := fun xs g cap base W ho hb hn => sortK_any Tryz.sortK_ren Tryz.sortK rfl rfl xs g cap base W ho hb hn
 none_ := fun W => AnyF.slices_SortFunc_none Tryz.sortK none 0 (.func (.func 132) #[] #[]) W
end Go.Proofs.YtndghenlapbaaaaGreat

/-
 A row of values that own memory: one of them is another, with blocks of its own or new ones.
-/
namespace Go.Proofs.YtndghenlapbaaaaGreat
open Go.RowKit

theorem PO.put {α : Type} {R : Rep α} {e size : Nat} {lv : Value → List Value} {w w' : World} {base : Nat} {v : Value} {n k j : Nat} {d : Nat → α} {cs cs' : List Value} {us : Nat → Value} {fs : Nat → Nat → Prop} {u : Value} {x : α} {F' : Nat → Prop}
  (h : PO R e size lv w base v n k d cs us fs) (hj : j < k) (hm : Mod (fun b => v.ownBlock = some b ∨ fs j b) w w') (hu : R.O w' base F' u x) (hF : ∀ b, F' b → fs j b ∨ w.heap.size ≤ b) (hl : (lv u).length = size)
  (hr : w'.ownsRow base e size v n cs') (hold : ∀ i, i < k → i ≠ j → ∀ o, o < size → cs'[i * size + o]? = cs[i * size + o]?) (hnew : ∀ o, o < size → cs'[j * size + o]? = (lv u)[o]?) :
  PO R e size lv w' base v n k (upd d j x) cs' (upd us j u) (upd fs j F') := by
 have hlt : ∀ b, v.ownBlock = some b → b < w.heap.size := fun b hb => (h.row.lt b hb).2
 have hfs : ∀ i, i < k → ∀ b, fs i b → b < w.heap.size := fun i hi b hb => (R.rng (h.el i hi) b hb).2
 refine ⟨hr, ?_, ?_, ?_, ?_, ?_⟩
 ·
  intro i hi
  by_cases hik : i = j
  ·
   subst hik; rw [upd_at, upd_at, upd_at]; exact hu
  ·
   rw [upd_ne _ _ hik, upd_ne _ _ hik, upd_ne _ _ hik]
   exact R.mod (h.el i hi) hm (fun b hb => by
    rintro (he | he)
    ·
     exact h.out i hi b hb he
    ·
     exact h.sep i j hi hj hik b hb he)
 ·
  intro i hi
  by_cases hik : i = j
  ·
   subst hik; rw [upd_at]; exact hl
  ·
   rw [upd_ne _ _ hik]; exact h.ln i hi
 ·
  intro i hi o ho
  by_cases hik : i = j
  ·
   subst hik; rw [upd_at]; exact hnew o ho
  ·
   rw [upd_ne _ _ hik, hold i hi hik o ho]; exact h.cell i hi o ho
 ·
  intro i hi b hb he
  by_cases hik : i = j
  ·
   subst hik
   rw [upd_at] at hb
   rcases hF b hb with h1 | h1
   ·
    exact h.out i hi b h1 he
   ·
    have := hlt b he; omega
  ·
   rw [upd_ne _ _ hik] at hb
   exact h.out i hi b hb he
 ·
  intro i i' hi hi' hii b h1 h2
  by_cases hik : i = j
  ·
   subst hik
   rw [upd_at] at h1
   rw [upd_ne _ _ (Ne.symm hii)] at h2
   rcases hF b h1 with h3 | h3
   ·
    exact h.sep i i' hi hi' hii b h3 h2
   ·
    have := hfs i' hi' b h2; omega
  ·
   rw [upd_ne _ _ hik] at h1
   by_cases hjk : i' = j
   ·
    subst hjk
    rw [upd_at] at h2
    rcases hF b h2 with h3 | h3
    ·
     exact h.sep i i' hi hi' hii b h1 h3
    ·
     have := hfs i hi b h1; omega
   ·
    rw [upd_ne _ _ hjk] at h2
    exact h.sep i i' hi hi' hii b h1 h2
theorem PO.putS {α : Type} {R : Rep α} {e : Nat} {w w1 w2 : World} {base g cap : Nat} {n j : Nat} {d : Nat → α} {cs : List Value} {us : Nat → Value} {fs : Nat → Nat → Prop} {u : Value} {x : α} {F' : Nat → Prop}
  (h : PO R e 1 one w base (.slice (some ⟨g, 0, none⟩) n cap) n n d cs us fs) (hj : j < n) (hm : Mod (fun b => fs j b) w w1) (hu : R.O w1 base F' u x) (hF : ∀ b, F' b → fs j b ∨ w.heap.size ≤ b)
  (hr : w2.ownsRow base e 1 (.slice (some ⟨g, 0, none⟩) n cap) n (cs.set j u)) (hm2 : Mod (fun b => b = g) w1 w2) :
  PO R e 1 one w2 base (.slice (some ⟨g, 0, none⟩) n cap) n n (upd d j x) (cs.set j u) (upd us j u) (upd fs j F') := by
 have hcl : cs.length = n := by simpa using h.row.1
 have hg : g < w.heap.size := (h.row.lt g rfl).2
 have hgF : ¬ F' g := fun hf => by
  rcases hF g hf with h1 | h1
  ·
   exact h.out j hj g h1 rfl
  ·
   omega
 refine h.put hj (Mod.trans (Mod.mono hm (fun b hb => Or.inr hb)) (Mod.mono hm2 (fun b hb => Or.inl (by rw [hb]; rfl)))) (R.mod hu hm2 (fun b hb e => hgF (e ▸ hb))) hF rfl hr ?_ ?_
 ·
  intro i hi hij o ho
  obtain rfl : o = 0 := by omega
  rw [Nat.mul_one, Nat.add_zero, List.getElem?_set_ne (Ne.symm hij)]
 ·
  intro o ho
  obtain rfl : o = 0 := by omega
  rw [Nat.mul_one, Nat.add_zero, List.getElem?_set_self (by omega)]
  rfl
end Go.Proofs.YtndghenlapbaaaaGreat

/-
 The legs of a contract added to a book.
-/
namespace Go.Proofs.YtndghenlapbaaaaGreat
open Go.RowKit Go.Maps
variable [DecidableEq Bal] [Inhabited Bal] [DecidableEq Ledg] [Inhabited Ledg] [DecidableEq Leg] [Inhabited Leg] [DecidableEq Cont] [Inhabited Cont]
attribute [local go_sem ↓] Go.wp_at_zero Go.wp_at_succ

theorem Book.nocell {w : World} {b n : Nat} {f : Int → Int → Int → Option Int} (h : Book w b n f) (o : Nat) (v : Value) : w.cell? ⟨b, o, none⟩ ≠ some v := by
 obtain ⟨D, ⟨es, clock, hb, _⟩, _⟩ := h
 simp [World.cell?, hb]
theorem Mod.transB' {F : Nat → Prop} {w w1 w2 : World} (h : Mod F w w1) (k : Below w1.heap.size w1 w2) : Mod F w w2 := h.trans (Mod.of_below k)
theorem upd3_same (f : Int → Int → Int → Option Int) (s a t : Int) (v : Option Int) : upd3 f s a t v s a t = v := by unfold upd3; rw [if_pos ⟨rfl, rfl, rfl⟩]
theorem upd3_twice (f : Int → Int → Int → Option Int) (s a t : Int) (v u : Option Int) : upd3 (upd3 f s a t v) s a t u = upd3 f s a t u := by
 funext s' a' t'
 unfold upd3
 split
 ·
  rfl
 ·
  rfl
set_option maxRecDepth 20000 in
set_option maxHeartbeats 8000000 in
theorem bookAdd_any (n : Nat) (b m : Nat) (f : Int → Int → Int → Option Int) (y : Value) (ls : List Leg) (w : World) (hb : Book w b m f) (hy : legsR.V w y ls) (hm : m + ls.length < 1000000)
  (hok : ∀ k, k < ls.length → kwf (ls.getD k default).sh (ls.getD k default).ac (ls.getD k default).ast ∧ -9223372036854775808 ≤ (addLs f (ls.take k) (ls.getD k default).sh (ls.getD k default).ac (ls.getD k default).ast).getD 0 + (ls.getD k default).am ∧ (addLs f (ls.take k) (ls.getD k default).sh (ls.getD k default).ac (ls.getD k default).ast).getD 0 + (ls.getD k default).am ≤ 9223372036854775807) :
  Calls Tryz.prog 96 #[.agg #[.int .i64 n, .map (some b)], y] w fun e w' => e = .returned (.tuple #[]) ∧ ∃ m', m' ≤ m + ls.length ∧ Book w' b m' (addLs f ls) ∧ Mod (fun i => i = b) w w' := by
 obtain ⟨ay, cy, rfl, hcy, hmy, hy⟩ := hy
 unfold maxLen at hmy
 have hbl := hb.lt
 have HOK : Hid (∀ k, k < ls.length → kwf (ls.getD k default).sh (ls.getD k default).ac (ls.getD k default).ast ∧ -9223372036854775808 ≤ (addLs f (ls.take k) (ls.getD k default).sh (ls.getD k default).ac (ls.getD k default).ast).getD 0 + (ls.getD k default).am ∧ (addLs f (ls.take k) (ls.getD k default).sh (ls.getD k default).ac (ls.getD k default).ast).getD 0 + (ls.getD k default).am ≤ 9223372036854775807) := hok
 have HCL : Hid (∀ k, k < ls.length → ∃ bx ox, ay = some ⟨bx, ox, none⟩ ∧ bx ≠ b ∧ legCells w bx (ox + k * 4) (ls.getD k default)) := fun k hk => by
  obtain ⟨bx, ox, e, hc⟩ := hy k hk
  refine ⟨bx, ox, e, fun e' => ?_, hc⟩
  subst e'
  exact hb.nocell _ _ hc.1
 clear hok hy
 generalize hq : ls.length = q at *
 have HN : Hid (ls.length = q) := hq
 clear hq
 go_enter Tryz.func96, Tryz.ntmps96
 go_wp2
 go_loopw [9] (fun i W => ∃ k m' : Nat, k ≤ q ∧ i = .int .i64 k ∧ m' ≤ m + k ∧ Hid (Book W b m' (addLs f (ls.take k))) ∧ W.cell? ⟨w.heap.size, 1, none⟩ = some (.map (some b)) ∧ Mod (fun i => i = b) w W) (fun i _ => q - (intOf i).toNat)
 case atStart => exact ⟨0, m, Nat.zero_le _, rfl, by omega, hb.below (qBq), by simp [go_sem], Mod.of_below (qBq)⟩
 case round =>
  obtain ⟨k, m', hk, rfl, hm', HB, c1, hM⟩ := hrel
  rename World => w1
  have hz1 := hM.size
  have hbw : w.heap.size < w1.heap.size := wL _ _ c1
  by_cases hlt : k < q
  ·
   obtain ⟨bx, ox, rfl, hxb, hc⟩ := HCL.out k hlt
   obtain ⟨hkw, hs1, hs2⟩ := HOK.out k hlt
   have hsu := addLs_succ f ls (k := k) (by rw [HN.out]; exact hlt)
   obtain ⟨l, hl⟩ : ∃ l, l = ls.getD k default := ⟨_, rfl⟩
   rw [← hl] at hc hkw hs1 hs2 hsu
   clear hl
   generalize hfk : addLs f (ls.take k) = fk at *
   clear hfk
   have HSU : Hid (addLs f (ls.take (k + 1)) = addL fk l) := hsu
   clear hsu
   have hc' : legCells w1 bx (ox + k * 4) l := ⟨hM.cell hc.1 hxb, hM.cell hc.2.1 hxb, hM.cell hc.2.2.1 hxb, hM.cell hc.2.2.2 hxb⟩
   obtain ⟨a0, a1, a2, a3⟩ := hc'
   have hk' : (k : Int) < q := by omega
   have hk0 : (0 : Int) ≤ k := by omega
   have hwk : IntKind.i64.wrap ((k : Int) + 1) = (k : Int) + 1 := wrapId (by omega) (by omega)
   obtain ⟨v, hv⟩ : ∃ v, v = (fk l.sh l.ac l.ast).getD 0 := ⟨_, rfl⟩
   have HV : Hid (v = (fk l.sh l.ac l.ast).getD 0) := hv
   rw [← hv] at hs1 hs2
   have hws : IntKind.i64.wrap (v + l.am) = v + l.am := wrapId hs1 hs2
   have hwf := wf_of hs1 hs2
   clear hv
   go_wp2_with fail
   refine (keyOfLeg_any l _).mono ?_
   rintro e w2 ⟨rfl, hb2⟩
   have t0 : w2.cell? ⟨w1.heap.size, 3, none⟩ = some (.int .i64 l.am) := cK hb2 (by simp [go_sem])
   have hB12 : Below w1.heap.size w1 w2 := qBq
   have hz12 : w1.heap.size < w2.heap.size := wL _ _ t0
   have c2 := cK hB12 c1
   have HB2 : Hid (Book w2 b m' fk) := HB.out.below hB12
   have hbl1 : b < w1.heap.size := by omega
   clear hb2 HB a0 a1 a2 a3 hc
   unfold kv
   go_wp2
   refine wp_region_noPanic ?_
   have HLK : ∀ W, Below w2.heap.size w2 W → (Instr.lookup 113 (.map (some b)) (.agg #[.int .i64 l.sh, .int .i64 l.ac, .int .i64 l.ast]) false).run Tryz.prog W = .ok (.int .i64 v) W := fun W hW => by rw [HV.out]; exact ((HB2.out.below hW).look hkw).1
   refine region_upto (fun W => W.cell? ⟨w.heap.size, 1, none⟩ = some (.map (some b)) ∧ W.cell? ⟨w1.heap.size, 3, none⟩ = some (.int .i64 l.am) ∧ (W.cell? ⟨w2.heap.size, 0, none⟩ = some (.int .i64 l.sh) ∧ W.cell? ⟨w2.heap.size, 1, none⟩ = some (.int .i64 l.ac) ∧ W.cell? ⟨w2.heap.size, 2, none⟩ = some (.int .i64 l.ast)) ∧ (Instr.lookup 113 (.map (some b)) (.agg #[.int .i64 l.sh, .int .i64 l.ac, .int .i64 l.ast]) false).run Tryz.prog W = .ok (.int .i64 v) W) 9 (by kernel_rfl) ⟨cK (qBq) c2, cK (qBq) t0, ⟨by simp [go_sem], by simp [go_sem], by simp [go_sem]⟩, HLK _ (qBq)⟩ (fun hS => ?_)
   refine tK (i := 0) (v := ?_) rfl (by kernel_rfl) hS ?_ ?_
   rotate_left
   ·
    intro wS hSw; (try dsimp only at hSw); go_simp; try with_reducible rfl
   try simp only [Act.put, jA, jB, jC, jD, jE, jF]
   refine tK (i := 1) (v := ?_) rfl (by kernel_rfl) hS ?_ ?_
   rotate_left
   ·
    intro wS hSw; (try dsimp only at hSw); go_simp; try with_reducible rfl
   try simp only [Act.put, jA, jB, jC, jD, jE, jF]
   refine tK (i := 2) (v := ?_) rfl (by kernel_rfl) hS ?_ ?_
   rotate_left
   ·
    intro wS hSw; (try dsimp only at hSw); go_simp; try with_reducible rfl
   try simp only [Act.put, jA, jB, jC, jD, jE, jF]
   refine tK (i := 3) (v := ?_) rfl (by kernel_rfl) hS ?_ ?_
   rotate_left
   ·
    intro wS hSw; (try dsimp only at hSw); go_simp; try with_reducible rfl
   try simp only [Act.put, jA, jB, jC, jD, jE, jF]
   refine tK (i := 4) (v := ?_) rfl (by kernel_rfl) hS ?_ ?_
   rotate_left
   ·
    intro wS hSw; (try dsimp only at hSw); go_simp; try with_reducible rfl
   try simp only [Act.put, jA, jB, jC, jD, jE, jF]
   refine tK (i := 5) (v := ?_) rfl (by kernel_rfl) hS ?_ ?_
   rotate_left
   ·
    intro wS hSw; (try dsimp only at hSw); go_simp; try with_reducible rfl
   try simp only [Act.put, jA, jB, jC, jD, jE, jF]
   refine tK (i := 6) (v := ?_) rfl (by kernel_rfl) hS ?_ ?_
   rotate_left
   ·
    intro wS hSw; (try dsimp only at hSw); go_simp; try with_reducible rfl
   try simp only [Act.put, jA, jB, jC, jD, jE, jF]
   have hbX : Below w2.heap.size w2 ((w2.alloc (.cells #[.int .i64 l.sh, .int .i64 l.ac, .int .i64 l.ast] 152)).drew) := qBq
   obtain ⟨v0, st, w4, hr, hm4, hB4, hst⟩ := (HB2.out.below hbX).entry2 hkw (by unfold maxLen; omega)
   have hb2 : b < w2.heap.size := HB2.out.lt
   have hne0 : w.heap.size ≠ b := by omega
   have hne1 : w1.heap.size ≠ b := by omega
   have hne2 : w2.heap.size ≠ b := by omega
   unfold kv goInt at hr
   unfold goInt at hst
   have hS4 : (fun W => W.cell? ⟨w.heap.size, 1, none⟩ = some (.map (some b)) ∧ W.cell? ⟨w1.heap.size, 3, none⟩ = some (.int .i64 l.am) ∧ (W.cell? ⟨w2.heap.size, 0, none⟩ = some (.int .i64 l.sh) ∧ W.cell? ⟨w2.heap.size, 1, none⟩ = some (.int .i64 l.ac) ∧ W.cell? ⟨w2.heap.size, 2, none⟩ = some (.int .i64 l.ast)) ∧ (Instr.lookup 113 (.map (some b)) (.agg #[.int .i64 l.sh, .int .i64 l.ac, .int .i64 l.ast]) false).run Tryz.prog W = .ok (.int .i64 v) W) w4 := ⟨hm4.cell hS.1 hne0, hm4.cell hS.2.1 hne1, ⟨hm4.cell hS.2.2.1.1 hne2, hm4.cell hS.2.2.1.2.1 hne2, hm4.cell hS.2.2.1.2.2 hne2⟩, by
    have e := (hB4.look hkw).1
    rw [upd3_same] at e
    rw [HV.out]
    exact e⟩
   clear HLK
   refine upto_step (i := 7) (by kernel_rfl) rfl ?_
   intro K hK
   go_simp
   refine hK _ _ (fun _ => hS4) ?_
   clear hK K
   try simp only [Act.put, jA, jB, jC, jD, jE, jF]
   refine upto_step (i := 8) (by kernel_rfl) rfl ?_
   intro K hK
   go_simp
   refine hK _ _ (fun _ => hS4) ?_
   clear hK K
   try simp only [Act.put, jA, jB, jC, jD, jE, jF]
   obtain ⟨w5, hr5, hB5, hm5⟩ := hst (v + l.am) hwf
   refine upto_step (i := 9) (by kernel_rfl) rfl ?_
   intro K hK
   go_simp
   refine hK _ _ (fun h => absurd rfl h) ?_
   clear hK K
   refine upto_done (by kernel_rfl) ?_
   refine NoPanic.normal ?_
   have c5 := hm5.cell hS.1 hne0
   have k0 := hm5.cell hS.2.2.1.1 hne2
   have k1 := hm5.cell hS.2.2.1.2.1 hne2
   have k2 := hm5.cell hS.2.2.1.2.2 hne2
   have M5 : Mod (fun i => i = b) w w5 := ((hM.transB' hB12).transB' hbX).trans hm5
   have hlk5 := (hB5.look hkw).1
   rw [upd3_same] at hlk5
   unfold kv at hlk5
   simp only [Option.getD_some] at hlk5
   have HB5 : Hid (Book w5 b (m' + 1) (upd3 fk l.sh l.ac l.ast (some (v + l.am)))) := hB5
   clear hS hS4 hr hst hr5 hB5 hB4 hm4 hm5 HB2 t0 c2 c1
   by_cases hz : v + l.am = 0
   ·
    obtain ⟨w6, hr6, hB6, hg6⟩ := HB5.out.del hkw 0
    unfold kv at hr6
    have HB6 : Hid (Book w6 b (m' + 1) (addLs f (ls.take (k + 1)))) := by
     rw [upd3_twice] at hB6
     rw [Hid, HSU.out]
     unfold addL
     rw [← HV.out, if_pos hz]
     exact hB6
    have hM6 : Mod (fun i => i = b) w w6 := M5.trans ((Mod.of_grown hg6).mono (fun i e => by simpa using e.symm))
    have c6 := (Mod.of_grown hg6).cell c5 (fun e => by simp at e; omega)
    clear hB6 hg6
    rw [hz] at hlk5
    go_wp2
    exact ⟨⟨k + 1, m' + 1, by omega, by go_num, by omega, HB6, c6, hM6⟩, by simp [intOf]; omega⟩
   ·
    have HB6 : Hid (Book w5 b (m' + 1) (addLs f (ls.take (k + 1)))) := by
     rw [Hid, HSU.out]
     unfold addL
     rw [← HV.out, if_neg hz]
     exact HB5.out
    go_wp2
    exact ⟨⟨k + 1, m' + 1, by omega, by go_num, by omega, HB6, c5, M5⟩, by simp [intOf]; omega⟩
  ·
   have hkq : k = q := by omega
   subst hkq
   have hk' : ¬ ((k : Int) < k) := by omega
   have HB6 : Hid (∃ m'', m'' ≤ m + k ∧ Book w1 b m'' (addLs f ls) ∧ Mod (fun i => i = b) w w1) := ⟨m', hm', by
    have := HB.out
    rw [List.take_of_length_le (by rw [HN.out]; omega)] at this
    exact this, hM⟩
   go_wp2
   go_end0
   exact ⟨rfl, HB6.out⟩
end Go.Proofs.YtndghenlapbaaaaGreat


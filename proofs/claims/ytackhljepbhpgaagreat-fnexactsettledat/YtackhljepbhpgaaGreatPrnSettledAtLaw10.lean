import Derived.Test.YtackhljepbhpgaaGreatPrnSettledAtLaw9
import Derived.Maps.RangeWalk
import Derived.WalkKit
import Derived.Sort.MapsRangeIn
import Derived.Maps.AppendAt
import Derived.RegionTactic
import Derived.ChangeAlike
import Derived.BigRegion
import Derived.Shelf.SlSortCmp.WholeK
import Derived.WideKeyEntry
set_option maxHeartbeats 2000000
set_option linter.unusedSectionVars false
set_option linter.unusedVariables false
set_option linter.unusedSimpArgs false

namespace Go.Proofs.YtackhljepbhpgaaGreat
open Go.RowKit
variable [DecidableEq Bal] [Inhabited Bal] [DecidableEq Ledg] [Inhabited Ledg] [DecidableEq Leg] [Inhabited Leg] [DecidableEq Cont] [Inhabited Cont]
attribute [local go_sem ↓] Go.wp_at_zero Go.wp_at_succ

theorem keyOfLeg_any (l : Leg) (w : World) : Calls Tryz.prog 224 #[.agg #[.int .i64 l.sh, .int .i64 l.ac, .int .i64 l.ast, .int .i64 l.am]] w fun e w' => e = .returned (kv l.sh l.ac l.ast) ∧ Below w.heap.size w w' := by
 go_enter Tryz.func224, Tryz.ntmps224
 go_wp2_with fail
 refine (keyOf_any _ _ _ _).mono ?_
 rintro e w1 ⟨rfl, hb1⟩
 have hB1 : Below w.heap.size w w1 := qBq
 have r0 : w1.cell? ⟨w.heap.size + 1, 0, none⟩ = some (.int .i64 0) := cK hb1 (by simp [go_sem])
 have r1 : w1.cell? ⟨w.heap.size + 1, 1, none⟩ = some (.int .i64 0) := cK hb1 (by simp [go_sem])
 have r2 : w1.cell? ⟨w.heap.size + 1, 2, none⟩ = some (.int .i64 0) := cK hb1 (by simp [go_sem])
 have hrf : ∀ o, w1.frozen? ⟨w.heap.size + 1, o, none⟩ = false := fun o => by rw [(bcell hb1).2 _ _ (by simp)]; simp [go_sem]
 clear hb1
 unfold kv
 go_wp2
 refine bodyPost_ret (v := .agg #[.int .i64 l.sh, .int .i64 l.ac, .int .i64 l.ast]) ?_ rfl ⟨rfl, qBq⟩
 simp [results, Tryz.results224, go_sem, r0, r1, r2]
def smallF (f : Int → Int → Int → Option Int) : Prop := ∀ s a t, 0 ≤ (f s a t).getD 0 ∧ (f s a t).getD 0 ≤ 1000000000000
theorem smallF_of {g : Ledg} (h : ledFault g = 0) : smallF (bookF g.shards) := fun s a t => by
 unfold bookF
 split
 ·
  rename_i hs
  rw [← hasB_get]
  exact canF_small h s.toNat (by omega) a t
 ·
  simp
theorem amountsFault_any (n : Nat) (b m : Nat) (f : Int → Int → Int → Option Int) (y : Value) (ls : List Leg) (w : World) (hb : Book w b m f) (hy : legsR.V w y ls) (hs : smallF f) (hok : ∀ k, k < ls.length → legFault (ls.getD k default) = 0) :
  Calls Tryz.prog 196 #[.agg #[.int .i64 n, .map (some b)], y] w fun e w' => e = .returned (.int .i64 (scanI (fun k => canL f (ls.getD k default)) ls.length)) ∧ Below w.heap.size w w' := by
 obtain ⟨ay, cy, rfl, hcy, hmy, hy⟩ := hy
 unfold maxLen at hmy
 have HOK : Hid (∀ k, k < ls.length → legFault (ls.getD k default) = 0) := hok
 have HSM : Hid (smallF f) := hs
 clear hs hok
 generalize hn' : ls.length = q at *
 have HN : Hid (ls.length = q) := hn'
 clear hn'
 go_enter Tryz.func196, Tryz.ntmps196
 go_wp2
 go_loopw [10] (fun i w' => ∃ k : Nat, k ≤ q ∧ i = .int .i64 k ∧ scanI (fun k => canL f (ls.getD k default)) k = 0 ∧ w'.cell? ⟨w.heap.size, 1, none⟩ = some (.map (some b)) ∧ Below w.heap.size w w') (fun i _ => q - (intOf i).toNat)
 case atStart => exact ⟨0, Nat.zero_le _, rfl, rfl, by simp [go_sem], qBq⟩
 case round =>
  obtain ⟨k, hk, rfl, hs, hc1, hbl⟩ := hrel
  have HS : Hid (scanI (fun k => canL f (ls.getD k default)) k = 0) := hs
  clear hs
  by_cases hlt : k < q
  ·
   obtain ⟨bx, ox, rfl, g1⟩ := hy k hlt
   have hlf := HOK.out k hlt
   obtain ⟨l, hl⟩ : ∃ l, l = ls.getD k default := ⟨_, rfl⟩
   rw [← hl] at g1 hlf
   have HL : Hid (l = ls.getD k default) := hl
   clear hl hy
   obtain ⟨⟨s0, s1⟩, ⟨t0, t1⟩, ⟨t2, t3⟩, ⟨t4, t5⟩, t6⟩ := legFault_zero hlf
   have hhs := HSM.out l.sh l.ac l.ast
   obtain ⟨a1, a2, a3, a4⟩ := legCells_below hbl g1
   have hw : kwf l.sh l.ac l.ast := ⟨wf_of (by omega) (by omega), wf_of (by omega) (by omega), wf_of (by omega) (by omega)⟩
   obtain ⟨v, hv⟩ : ∃ v, v = (f l.sh l.ac l.ast).getD 0 := ⟨_, rfl⟩
   rw [← hv] at hhs
   have HAT : Hid (canL f (ls.getD k default) = canV (v + l.am)) := by show _ = _; rw [← HL.out, canL, hv]
   have hlk : ∀ W, Below w.heap.size w W → (Instr.lookup 215 (.map (some b)) (kv l.sh l.ac l.ast) false).run Tryz.prog W = .ok (.int .i64 v) W := fun W hW => by rw [hv]; exact ((hb.below hW).look hw).1
   clear hv
   have v1 : IntKind.i64.wrap (v + l.am) = v + l.am := wrapId (by omega) (by omega)
   have hz : w.heap.size < wr.heap.size := wL _ _ hc1
   have h0 : Below w.heap.size w (wr.alloc (.cells #[.int .i64 l.sh, .int .i64 l.ac, .int .i64 l.ast, .int .i64 l.am] 152)) ∧ (wr.alloc (.cells #[.int .i64 l.sh, .int .i64 l.ac, .int .i64 l.ast, .int .i64 l.am] 152)).cell? ⟨w.heap.size, 1, none⟩ = some (.map (some b)) ∧ (wr.alloc (.cells #[.int .i64 l.sh, .int .i64 l.ac, .int .i64 l.ast, .int .i64 l.am] 152)).cell? ⟨wr.heap.size, 0, none⟩ = some (.int .i64 l.sh) ∧ (wr.alloc (.cells #[.int .i64 l.sh, .int .i64 l.ac, .int .i64 l.ast, .int .i64 l.am] 152)).cell? ⟨wr.heap.size, 1, none⟩ = some (.int .i64 l.ac) ∧ (wr.alloc (.cells #[.int .i64 l.sh, .int .i64 l.ac, .int .i64 l.ast, .int .i64 l.am] 152)).cell? ⟨wr.heap.size, 2, none⟩ = some (.int .i64 l.ast) ∧ (wr.alloc (.cells #[.int .i64 l.sh, .int .i64 l.ac, .int .i64 l.ast, .int .i64 l.am] 152)).cell? ⟨wr.heap.size, 3, none⟩ = some (.int .i64 l.am) :=
    ⟨qBq, cK (bA (Below.refl _ _) _) hc1, by simp [go_sem], by simp [go_sem], by simp [go_sem], by simp [go_sem]⟩
   go_wp2
   generalize hW : wr.alloc (.cells #[.int .i64 l.sh, .int .i64 l.ac, .int .i64 l.ast, .int .i64 l.am] 152) = W at *
   clear hW a1 a2 a3 a4 g1 hc1
   go_region_held3 (fun w' => Below w.heap.size w w' ∧ w'.cell? ⟨w.heap.size, 1, none⟩ = some (.map (some b)) ∧ w'.cell? ⟨wr.heap.size, 0, none⟩ = some (.int .i64 l.sh) ∧ w'.cell? ⟨wr.heap.size, 1, none⟩ = some (.int .i64 l.ac) ∧ w'.cell? ⟨wr.heap.size, 2, none⟩ = some (.int .i64 l.ast) ∧ w'.cell? ⟨wr.heap.size, 3, none⟩ = some (.int .i64 l.am))
    ((first | exact keepS5 h0 (Below.drew (Below.refl _ _)) | exact hS3))
    (first | (go_at_call 224; refine (keyOfLeg_any l _).mono ?_; rintro e w3 ⟨rfl, hb5⟩; have hS3 := keepS5 (keepS5 h0 (Below.drew (Below.refl _ _))) hb5; have hl5 := hlk _ hS3.1))
   rename_i hH
   have hB := hH.1
   have hc2 := hH.2.1
   clear hH hS3 hl5 hlk
   generalize v + l.am = z at *
   go_wp2
   ·
    rename_i c1
    go_ret
    refine ⟨?_, hB⟩
    rw [scanI_hit HS.out (by rw [HAT.out, canV, if_pos c1]; omega) _ hlt, HAT.out, canV, if_pos c1]
    rfl
   ·
    rename_i c1 c2
    go_ret
    refine ⟨?_, hB⟩
    rw [scanI_hit HS.out (by rw [HAT.out, canV, if_neg (by omega), if_pos c2]; omega) _ hlt, HAT.out, canV, if_neg (by omega), if_pos c2]
    rfl
   ·
    rename_i c1 c2
    refine ⟨⟨k + 1, by omega, by go_num, scanI_succ HS.out ?_, hc2, hB⟩, by simp [intOf]; omega⟩
    rw [HAT.out, canV, if_neg (by omega), if_neg (by omega)]
  ·
   go_wp2; go_ret
   have hkn : k = q := by omega
   subst hkn
   refine ⟨?_, hbl⟩
   rw [HS.out]
   rfl
end Go.Proofs.YtackhljepbhpgaaGreat

namespace Go.Proofs.YtackhljepbhpgaaGreat
open Go.RowKit Go.Shelf Go.Maps
variable [DecidableEq Bal] [Inhabited Bal] [DecidableEq Ledg] [Inhabited Ledg] [DecidableEq Leg] [Inhabited Leg] [DecidableEq Cont] [Inhabited Cont]
attribute [local go_sem] Oper.semAt_some

def KOk (f : Int → Int → Int → Option Int) (ys : List K3) : Prop := ys.Nodup ∧ ∀ x ∈ ys, (f x.1 x.2.1 x.2.2).isSome = true
end Go.Proofs.YtackhljepbhpgaaGreat

namespace Go.Proofs.YtackhljepbhpgaaGreat
open Go.RowKit
variable [DecidableEq Bal] [Inhabited Bal] [DecidableEq Ledg] [Inhabited Ledg]
attribute [local go_sem ↓] Go.wp_at_zero Go.wp_at_succ


structure LedgR where
 code : Int
 ledger : Ledg
variable [DecidableEq LedgR] [Inhabited LedgR]

end Go.Proofs.YtackhljepbhpgaaGreat

namespace Go.Proofs.YtackhljepbhpgaaGreat
open Go.RowKit

theorem PO.append {α : Type} {R : Rep α} {e size : Nat} {lv : Value → List Value} {w Y w' : World} {base : Nat} {v v' : Value} {n : Nat} {d : Nat → α} {cs : List Value} {us : Nat → Value} {fs : Nat → Nat → Prop} {u : Value} {F' : Nat → Prop}
  (h : PO R e size lv w base v n n d cs us fs) (hbs : base ≤ w.heap.size) (hb : Below w.heap.size w Y) (hu : R.O Y w.heap.size F' u (d n)) (hl : (lv u).length = size)
  (hr : w'.ownsRow base e size v' (n + 1) (cs ++ lv u)) (hg : Y.grownBy w' v.ownBlock) (hloc : v'.ownBlock = v.ownBlock ∨ ∃ g, v'.ownBlock = some g ∧ Y.heap.size ≤ g) :
  PO R e size lv w' base v' (n + 1) (n + 1) d (cs ++ lv u) (upd us n u) (upd fs n F') := by
 have hlt : ∀ b, v.ownBlock = some b → b < w.heap.size := fun b hb => (h.row.lt b hb).2
 have hF : ∀ b, F' b → w.heap.size ≤ b ∧ b < Y.heap.size := fun b hb => R.rng hu b hb
 have hfs : ∀ i, i < n → ∀ b, fs i b → b < w.heap.size := fun i hi b hb => (R.rng (h.el i hi) b hb).2
 have hcl : cs.length = n * size := h.row.1
 refine ⟨hr, ?_, ?_, ?_, ?_, ?_⟩
 ·
  intro i hi
  by_cases hik : i = n
  ·
   subst hik
   rw [upd_at, upd_at]
   exact R.base (R.mod hu (Mod.of_grown hg) (fun b hb he => by have := hlt b he; have := (hF b hb).1; omega)) hbs
  ·
   rw [upd_ne _ _ hik, upd_ne _ _ hik]
   exact R.mod (R.keep (h.el i (by omega)) hb) (Mod.of_grown hg) (fun b hb => h.out i (by omega) b hb)
 ·
  intro i hi
  by_cases hik : i = n
  ·
   subst hik; rw [upd_at]; exact hl
  ·
   rw [upd_ne _ _ hik]; exact h.ln i (by omega)
 ·
  intro i hi j hj
  by_cases hik : i = n
  ·
   subst hik
   rw [upd_at, List.getElem?_append_right (by omega), hcl]
   congr 1
   omega
  ·
   rw [upd_ne _ _ hik, ← h.cell i (by omega) j hj, List.getElem?_append_left]
   rw [hcl]
   have : i * size + size ≤ n * size := by rw [← Nat.succ_mul]; exact Nat.mul_le_mul_right _ (by omega)
   omega
 ·
  intro i hi b hb he
  by_cases hik : i = n
  ·
   subst hik
   rw [upd_at] at hb
   rcases hloc with hloc | ⟨g, hg', hge⟩
   ·
    rw [hloc] at he
    have := hlt b he; have := (hF b hb).1; omega
   ·
    rw [hg'] at he
    simp only [Option.some.injEq] at he
    have := (hF b hb).2; omega
  ·
   rw [upd_ne _ _ hik] at hb
   rcases hloc with hloc | ⟨g, hg', hge⟩
   ·
    rw [hloc] at he
    exact h.out i (by omega) b hb he
   ·
    rw [hg'] at he
    simp only [Option.some.injEq] at he
    have := hfs i (by omega) b hb
    have := hb
    have := h.row
    have := hlt
    have hYw : w.heap.size ≤ Y.heap.size := by
     have := ‹Below w.heap.size w Y›
     exact this.size
    omega
 ·
  intro i j hi hj hij b h1 h2
  by_cases hik : i = n
  ·
   subst hik
   rw [upd_at] at h1
   rw [upd_ne _ _ (Ne.symm hij)] at h2
   have := (hF b h1).1; have := hfs j (by omega) b h2; omega
  ·
   rw [upd_ne _ _ hik] at h1
   by_cases hjk : j = n
   ·
    subst hjk
    rw [upd_at] at h2
    have := (hF b h2).1; have := hfs i (by omega) b h1; omega
   ·
    rw [upd_ne _ _ hjk] at h2
    exact h.sep i j (by omega) (by omega) hij b h1 h2
section
variable {P : Program} (w : World)
end

end Go.Proofs.YtackhljepbhpgaaGreat

namespace Go.Proofs.YtackhljepbhpgaaGreat
open Go.RowKit
variable [DecidableEq Bal] [Inhabited Bal] [DecidableEq Ledg] [Inhabited Ledg] [DecidableEq Leg] [Inhabited Leg] [DecidableEq Cont] [Inhabited Cont] [DecidableEq LedgR] [Inhabited LedgR]
attribute [local go_sem ↓] Go.wp_at_zero Go.wp_at_succ

theorem mod_frozen {F : Nat → Prop} {w w' : World} (h : Mod F w w') {a : Addr} (hl : a.block < w.heap.size) (hn : ¬ F a.block) : w'.frozen? a = w.frozen? a := World.frozen?_of_block (h.block a.block hl hn)
structure StSt (w W : World) (n : Nat) (ag : Option Addr) (cg : Nat) (id : Int) (ac : Option Addr) (m cc : Nat) (v : Value) : Prop where
 g0 : W.cell? ⟨w.heap.size, 0, none⟩ = some (.slice ag n cg)
 y0 : W.cell? ⟨w.heap.size + 1, 0, none⟩ = some (.int .i64 id)
 y1 : W.cell? ⟨w.heap.size + 1, 1, none⟩ = some (.slice ac m cc)
 r0 : W.cell? ⟨w.heap.size + 1 + 1, 0, none⟩ = some (.slice none 0 0)
 o0 : W.cell? ⟨w.heap.size + 1 + 1 + 1, 0, none⟩ = some v
 rf : ∀ o, W.frozen? ⟨w.heap.size + 1 + 1, o, none⟩ = false
 of : ∀ o, W.frozen? ⟨w.heap.size + 1 + 1 + 1, o, none⟩ = false
 sz : w.heap.size + 4 ≤ W.heap.size
 blw : Below w.heap.size w W
theorem StSt.mod {w W W' : World} {n : Nat} {ag : Option Addr} {cg : Nat} {id : Int} {ac : Option Addr} {m cc : Nat} {v : Value} {F : Nat → Prop} (h : StSt w W n ag cg id ac m cc v) (hm : Mod F W W') (hF : ∀ b, F b → w.heap.size + 4 ≤ b) : StSt w W' n ag cg id ac m cc v := by
 have hsz := h.sz
 have hn : ∀ b, b < w.heap.size + 4 → ¬ F b := fun b hb e => by have := hF b e; omega
 exact ⟨hm.cell h.g0 (hn _ (by dsimp only; omega)), hm.cell h.y0 (hn _ (by dsimp only; omega)), hm.cell h.y1 (hn _ (by dsimp only; omega)), hm.cell h.r0 (hn _ (by dsimp only; omega)), hm.cell h.o0 (hn _ (by dsimp only; omega)),
  fun o => (mod_frozen hm (a := ⟨w.heap.size + 1 + 1, o, none⟩) (by dsimp only; omega) (hn _ (by dsimp only; omega))).trans (h.rf o), fun o => (mod_frozen hm (a := ⟨w.heap.size + 1 + 1 + 1, o, none⟩) (by dsimp only; omega) (hn _ (by dsimp only; omega))).trans (h.of o), Nat.le_trans hsz hm.size, hm.below h.blw (by omega) (fun b hb => by have := hF b hb; omega)⟩
theorem StSt.below {w W W' : World} {n : Nat} {ag : Option Addr} {cg : Nat} {id : Int} {ac : Option Addr} {m cc : Nat} {v : Value} (h : StSt w W n ag cg id ac m cc v) (hb : Below W.heap.size W W') : StSt w W' n ag cg id ac m cc v :=
 h.mod (F := fun _ => False) (Mod.of_below hb) (fun _ e => e.elim)
theorem StSt.put {w W : World} {n : Nat} {ag : Option Addr} {cg : Nat} {id : Int} {ac : Option Addr} {m cc : Nat} {v : Value} (h : StSt w W n ag cg id ac m cc v) (v' : Value) : StSt w (W.setCell ⟨w.heap.size + 1 + 1 + 1, 0, none⟩ v') n ag cg id ac m cc v' :=
 ⟨by rw [set_other (by simp)]; exact h.g0, by rw [set_other (by simp)]; exact h.y0, by rw [set_other (by simp)]; exact h.y1, by rw [set_other (by simp)]; exact h.r0, set_same h.o0, fun o => by rw [World.frozen?_setCell]; exact h.rf o, fun o => by rw [World.frozen?_setCell]; exact h.of o, by simpa using h.sz, h.blw.setCell (by dsimp only; omega) _⟩
theorem StSt.all {w W : World} {n : Nat} {ag : Option Addr} {cg : Nat} {id : Int} {ac : Option Addr} {m cc : Nat} {v : Value} {b o k : Nat} {u : Value} (h : StSt w W n ag cg id ac m cc v) (hc : W.cell? ⟨b, o + k, none⟩ = some u) :
  StSt w W n ag cg id ac m cc v ∧ W.cell? ⟨w.heap.size + 1 + 1 + 1, 0, none⟩ = some v ∧ W.cell? ⟨w.heap.size, 0, none⟩ = some (.slice ag n cg) ∧ W.cell? ⟨w.heap.size + 1, 0, none⟩ = some (.int .i64 id) ∧ W.cell? ⟨w.heap.size + 1, 1, none⟩ = some (.slice ac m cc) ∧ W.cell? ⟨b, o + k, none⟩ = some u :=
 ⟨h, h.o0, h.g0, h.y0, h.y1, hc⟩
end Go.Proofs.YtackhljepbhpgaaGreat

namespace Go.Proofs.YtackhljepbhpgaaGreat
open Go.RowKit Go.Sort Go.Shelf
variable [DecidableEq Rw] [Inhabited Rw] [DecidableEq Bal] [Inhabited Bal] [DecidableEq Ledg] [Inhabited Ledg] [DecidableEq Leg] [Inhabited Leg] [DecidableEq Cont] [Inhabited Cont] [DecidableEq LedgR] [Inhabited LedgR]

theorem nodup_lt : ∀ (N : Nat) (l : List Nat), l.Nodup → (∀ x ∈ l, x < N) → l.length ≤ N
 | 0, l, _, h => by
  cases l with
  | nil => simp
  | cons x r => exact absurd (h x (by simp)) (Nat.not_lt_zero _)
 | N + 1, l, hn, h => by
  have h1 := nodup_lt N (l.erase N) (hn.erase N) (fun x hx => by
   obtain ⟨h2, h3⟩ := (hn.mem_erase_iff).1 hx
   have := h x h3
   omega)
  rw [List.length_erase] at h1
  split at h1 <;> omega
def KDom (n : Nat) (f : Int → Int → Int → Option Int) : Prop := ∀ s a t, (f s a t).isSome = true → (0 ≤ s ∧ s < (n : Int)) ∧ keyOk a t = true
theorem KDom.len {n : Nat} {f : Int → Int → Int → Option Int} (h : KDom n f) {ys : List K3} (hy : KOk f ys) : ys.length ≤ n * 18 := by
 have h1 := nodup_lt (n * 18) (ys.map (fun k : K3 => k.1.toNat * 18 + k.2.1.toNat * 3 + k.2.2.toNat)) ?_ ?_
 ·
  simpa using h1
 ·
  rw [List.Nodup, List.pairwise_map]
  refine List.Pairwise.imp_of_mem ?_ hy.1
  rintro ⟨s, a, t⟩ ⟨s', a', t'⟩ hx hx' hne e
  obtain ⟨⟨_, _⟩, hk⟩ := h s a t (hy.2 _ hx)
  obtain ⟨⟨_, _⟩, hk'⟩ := h s' a' t' (hy.2 _ hx')
  obtain ⟨⟨_, _⟩, _, _⟩ := keyOk_iff.1 hk
  obtain ⟨⟨_, _⟩, _, _⟩ := keyOk_iff.1 hk'
  apply hne
  dsimp only at e
  have e1 : s = s' := by omega
  have e2 : a = a' := by omega
  have e3 : t = t' := by omega
  rw [e1, e2, e3]
 ·
  intro x hx
  obtain ⟨⟨s, a, t⟩, hm, rfl⟩ := List.mem_map.1 hx
  obtain ⟨⟨_, _⟩, hk⟩ := h s a t (hy.2 _ hm)
  obtain ⟨⟨_, _⟩, _, _⟩ := keyOk_iff.1 hk
  dsimp only
  omega
end Go.Proofs.YtackhljepbhpgaaGreat

namespace Go.Proofs.YtackhljepbhpgaaGreat
open Go.RowKit

theorem PO.put {α : Type} {R : Rep α} {e size : Nat} {lv : Value → List Value} {w w' : World} {base : Nat} {v : Value} {n k j : Nat} {d : Nat → α} {cs cs' : List Value} {us : Nat → Value} {fs : Nat → Nat → Prop} {u : Value} {x : α} {F' : Nat → Prop}
  (h : PO R e size lv w base v n k d cs us fs) (hj : j < k) (hm : Mod (fun b => v.ownBlock = some b ∨ fs j b) w w') (hu : R.O w' base F' u x) (hF : ∀ b, F' b → fs j b ∨ w.heap.size ≤ b) (hl : (lv u).length = size)
  (hr : w'.ownsRow base e size v n cs') (hold : ∀ i, i < k → i ≠ j → ∀ o, o < size → cs'[i * size + o]? = cs[i * size + o]?) (hnew : ∀ o, o < size → cs'[j * size + o]? = (lv u)[o]?) :
  PO R e size lv w' base v n k (upd d j x) cs' (upd us j u) (upd fs j F') := by
 have hlt : ∀ b, v.ownBlock = some b → b < w.heap.size := fun b hb => (h.row.lt b hb).2
 have hfs : ∀ i, i < k → ∀ b, fs i b → b < w.heap.size := fun i hi b hb => (R.rng (h.el i hi) b hb).2
 refine ⟨hr, ?_, ?_, ?_, ?_, ?_⟩
 ·
  intro i hi
  by_cases hik : i = j
  ·
   subst hik; rw [upd_at, upd_at, upd_at]; exact hu
  ·
   rw [upd_ne _ _ hik, upd_ne _ _ hik, upd_ne _ _ hik]
   exact R.mod (h.el i hi) hm (fun b hb => by
    rintro (he | he)
    ·
     exact h.out i hi b hb he
    ·
     exact h.sep i j hi hj hik b hb he)
 ·
  intro i hi
  by_cases hik : i = j
  ·
   subst hik; rw [upd_at]; exact hl
  ·
   rw [upd_ne _ _ hik]; exact h.ln i hi
 ·
  intro i hi o ho
  by_cases hik : i = j
  ·
   subst hik; rw [upd_at]; exact hnew o ho
  ·
   rw [upd_ne _ _ hik, hold i hi hik o ho]; exact h.cell i hi o ho
 ·
  intro i hi b hb he
  by_cases hik : i = j
  ·
   subst hik
   rw [upd_at] at hb
   rcases hF b hb with h1 | h1
   ·
    exact h.out i hi b h1 he
   ·
    have := hlt b he; omega
  ·
   rw [upd_ne _ _ hik] at hb
   exact h.out i hi b hb he
 ·
  intro i i' hi hi' hii b h1 h2
  by_cases hik : i = j
  ·
   subst hik
   rw [upd_at] at h1
   rw [upd_ne _ _ (Ne.symm hii)] at h2
   rcases hF b h1 with h3 | h3
   ·
    exact h.sep i i' hi hi' hii b h3 h2
   ·
    have := hfs i' hi' b h2; omega
  ·
   rw [upd_ne _ _ hik] at h1
   by_cases hjk : i' = j
   ·
    subst hjk
    rw [upd_at] at h2
    rcases hF b h2 with h3 | h3
    ·
     exact h.sep i i' hi hi' hii b h1 h3
    ·
     have := hfs i hi b h1; omega
   ·
    rw [upd_ne _ _ hjk] at h2
    exact h.sep i i' hi hi' hii b h1 h2
end Go.Proofs.YtackhljepbhpgaaGreat

namespace Go.Proofs.YtackhljepbhpgaaGreat
open Go.RowKit
variable [DecidableEq Leg] [Inhabited Leg] [DecidableEq Bal] [Inhabited Bal] [DecidableEq Ledg] [Inhabited Ledg]
attribute [local go_sem ↓] Go.wp_at_zero Go.wp_at_succ


structure OutcR where
 code : Int
 outcomes : List Int
 ledger : Ledg
variable [DecidableEq OutcR] [Inhabited OutcR]

end Go.Proofs.YtackhljepbhpgaaGreat


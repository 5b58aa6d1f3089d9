import Derived.Test.YtndghenlapbaaaaGreatPrnDecideShardLaw3
import Derived.Test.YtndghenlapbaaaaGreatPrnDecideShardLaw1
import Derived.Maps.AppendAt
import Derived.Test.YtndghenlapbaaaaGreatPrnDecideShardLaw12
import Derived.Test.YtndghenlapbaaaaGreatPrnDecideShardLaw11
import Derived.Test.YtndghenlapbaaaaGreatPrnDecideShardLaw2
import Derived.Test.YtndghenlapbaaaaGreatPrnDecideShardLaw9
set_option linter.unusedSectionVars false
set_option linter.unusedSimpArgs false
set_option linter.unusedVariables false

/-
 LedgerResult. (Written by program: nest.py.)
-/
namespace Go.Proofs.YtndghenlapbaaaaGreat
open Go.RowKit
variable [DecidableEq Bal] [Inhabited Bal] [DecidableEq Ledg] [Inhabited Ledg]
attribute [local go_sem ↓] Go.wp_at_zero Go.wp_at_succ


structure LedgR where
 code : Int
 ledger : Ledg
variable [DecidableEq LedgR] [Inhabited LedgR]

end Go.Proofs.YtndghenlapbaaaaGreat

/-
 A row of values that own memory, and one more appended.
-/
namespace Go.Proofs.YtndghenlapbaaaaGreat
open Go.RowKit

theorem PO.append {α : Type} {R : Rep α} {e size : Nat} {lv : Value → List Value} {w Y w' : World} {base : Nat} {v v' : Value} {n : Nat} {d : Nat → α} {cs : List Value} {us : Nat → Value} {fs : Nat → Nat → Prop} {u : Value} {F' : Nat → Prop}
  (h : PO R e size lv w base v n n d cs us fs) (hbs : base ≤ w.heap.size) (hb : Below w.heap.size w Y) (hu : R.O Y w.heap.size F' u (d n)) (hl : (lv u).length = size)
  (hr : w'.ownsRow base e size v' (n + 1) (cs ++ lv u)) (hg : Y.grownBy w' v.ownBlock) (hloc : v'.ownBlock = v.ownBlock ∨ ∃ g, v'.ownBlock = some g ∧ Y.heap.size ≤ g) :
  PO R e size lv w' base v' (n + 1) (n + 1) d (cs ++ lv u) (upd us n u) (upd fs n F') := by
 have hlt : ∀ b, v.ownBlock = some b → b < w.heap.size := fun b hb => (h.row.lt b hb).2
 have hF : ∀ b, F' b → w.heap.size ≤ b ∧ b < Y.heap.size := fun b hb => R.rng hu b hb
 have hfs : ∀ i, i < n → ∀ b, fs i b → b < w.heap.size := fun i hi b hb => (R.rng (h.el i hi) b hb).2
 have hcl : cs.length = n * size := h.row.1
 refine ⟨hr, ?_, ?_, ?_, ?_, ?_⟩
 ·
  intro i hi
  by_cases hik : i = n
  ·
   subst hik
   rw [upd_at, upd_at]
   exact R.base (R.mod hu (Mod.of_grown hg) (fun b hb he => by have := hlt b he; have := (hF b hb).1; omega)) hbs
  ·
   rw [upd_ne _ _ hik, upd_ne _ _ hik]
   exact R.mod (R.keep (h.el i (by omega)) hb) (Mod.of_grown hg) (fun b hb => h.out i (by omega) b hb)
 ·
  intro i hi
  by_cases hik : i = n
  ·
   subst hik; rw [upd_at]; exact hl
  ·
   rw [upd_ne _ _ hik]; exact h.ln i (by omega)
 ·
  intro i hi j hj
  by_cases hik : i = n
  ·
   subst hik
   rw [upd_at, List.getElem?_append_right (by omega), hcl]
   congr 1
   omega
  ·
   rw [upd_ne _ _ hik, ← h.cell i (by omega) j hj, List.getElem?_append_left]
   rw [hcl]
   have : i * size + size ≤ n * size := by rw [← Nat.succ_mul]; exact Nat.mul_le_mul_right _ (by omega)
   omega
 ·
  intro i hi b hb he
  by_cases hik : i = n
  ·
   subst hik
   rw [upd_at] at hb
   rcases hloc with hloc | ⟨g, hg', hge⟩
   ·
    rw [hloc] at he
    have := hlt b he; have := (hF b hb).1; omega
   ·
    rw [hg'] at he
    simp only [Option.some.injEq] at he
    have := (hF b hb).2; omega
  ·
   rw [upd_ne _ _ hik] at hb
   rcases hloc with hloc | ⟨g, hg', hge⟩
   ·
    rw [hloc] at he
    exact h.out i (by omega) b hb he
   ·
    rw [hg'] at he
    simp only [Option.some.injEq] at he
    have := hfs i (by omega) b hb
    have := hb
    have := h.row
    have := hlt
    have hYw : w.heap.size ≤ Y.heap.size := by
     have := ‹Below w.heap.size w Y›
     exact this.size
    omega
 ·
  intro i j hi hj hij b h1 h2
  by_cases hik : i = n
  ·
   subst hik
   rw [upd_at] at h1
   rw [upd_ne _ _ (Ne.symm hij)] at h2
   have := (hF b h1).1; have := hfs j (by omega) b h2; omega
  ·
   rw [upd_ne _ _ hik] at h1
   by_cases hjk : j = n
   ·
    subst hjk
    rw [upd_at] at h2
    have := (hF b h2).1; have := hfs i (by omega) b h1; omega
   ·
    rw [upd_ne _ _ hjk] at h2
    exact h.sep i j (by omega) (by omega) hij b h1 h2
section
variable {P : Program} (w : World)
theorem step_append_at {ops : Array Oper} {o : Oper} {a : Act} {K : Act → World → Prop} {Q : Exit → Act → World → Prop} {E : Prop} (hgd : o.guard = none) (s x : Operand) (t : TypeId)
  (ho : o.op = .call { callee := .builtin .append, args := #[s, x], argTypes := #[t, t] })
  (base : Nat) (e : TypeId) (i : TypeInfo) (z : Value) (size bytes : Nat) (ht : P.underlying t = some (.slice e)) (hi : P.info? e = some i) (hz : i.zero = some z)
  (hsize : i.size = size) (hby : i.bytes = bytes) (hzs : z.cells.size = size) (hsz : 0 < size)
  (v : Value) (n : Nat) (xs : List Value) (hs : a.eval s = v) (hown : w.ownsRow base e size v n xs)
  (ad : Addr) (m c : Nat) (news : List Value) (hx : a.eval x = .slice (some ad) m c) (hl : news.length = m * size) (hnews : ∀ j u, news[j]? = some u → w.cell? (ad.add j) = some u) (h1 : ∀ u ∈ news, u.oneCell' = true)
  (h63 : n + m ≤ maxLen) (hbytes : (n + m) * bytes ≤ 140737488355328) (hbase : base ≤ w.heap.size)
  (h : ∀ v' w', w'.ownsRow base e size v' (n + m) (xs ++ news) → w.grownBy w' v.ownBlock → (v'.ownBlock = v.ownBlock ∨ v'.ownBlock = some w.heap.size) → K (a.put o.dst v') w') :
  if Region.wanted o (yielded ops a.tmps) = true then Oper.wp P o a w K Q else E := by
 have hw : Region.wanted o (yielded ops a.tmps) = true := by simp [Region.wanted, hgd]
 rw [if_pos hw]
 obtain ⟨v', w', hr, h2, h3, _, h5⟩ := run_append_own_at (P := P) w base t o.type e i z size bytes ht hi hz hsize hby hzs hsz v n xs hown ad m c news hl hnews h1 h63 hbytes hbase
 unfold Oper.wp execOp
 simp only [ho, resolve, invoke, builtin, Sem.run_bind, Sem.run_pure, Result.andThen_ok, List.map_toArray, List.map_cons, List.map_nil, hs, hx, hr]
 exact h v' w' h2 h3 h5
end

end Go.Proofs.YtndghenlapbaaaaGreat

/-
 The specification's l2Settle: legs added, shard by shard.
-/
namespace Go.Proofs.YtndghenlapbaaaaGreat
open Go.RowKit
variable [DecidableEq Bal] [Inhabited Bal] [DecidableEq Ledg] [Inhabited Ledg] [DecidableEq Leg] [Inhabited Leg] [DecidableEq Cont] [Inhabited Cont] [DecidableEq LedgR] [Inhabited LedgR]
attribute [local go_sem ↓] Go.wp_at_zero Go.wp_at_succ

def settleAt (g : List (List Bal)) (ls : List Leg) (i : Nat) : List Bal := addB (g.getD i default) (onSh i ls)
def settleL (g : List (List Bal)) (ls : List Leg) : List (List Bal) := (List.range g.length).map (settleAt g ls)
theorem settleL_len (g : List (List Bal)) (ls : List Leg) : (settleL g ls).length = g.length := by simp [settleL]
theorem settleL_get (g : List (List Bal)) (ls : List Leg) {i : Nat} (h : i < g.length) : (settleL g ls).getD i default = settleAt g ls i := by simp [settleL, List.getD, h]
theorem mod_frozen {F : Nat → Prop} {w w' : World} (h : Mod F w w') {a : Addr} (hl : a.block < w.heap.size) (hn : ¬ F a.block) : w'.frozen? a = w.frozen? a := World.frozen?_of_block (h.block a.block hl hn)
structure StSt (w W : World) (n : Nat) (ag : Option Addr) (cg : Nat) (id : Int) (ac : Option Addr) (m cc : Nat) (v : Value) : Prop where
 g0 : W.cell? ⟨w.heap.size, 0, none⟩ = some (.slice ag n cg)
 y0 : W.cell? ⟨w.heap.size + 1, 0, none⟩ = some (.int .i64 id)
 y1 : W.cell? ⟨w.heap.size + 1, 1, none⟩ = some (.slice ac m cc)
 r0 : W.cell? ⟨w.heap.size + 1 + 1, 0, none⟩ = some (.slice none 0 0)
 o0 : W.cell? ⟨w.heap.size + 1 + 1 + 1, 0, none⟩ = some v
 rf : ∀ o, W.frozen? ⟨w.heap.size + 1 + 1, o, none⟩ = false
 of : ∀ o, W.frozen? ⟨w.heap.size + 1 + 1 + 1, o, none⟩ = false
 sz : w.heap.size + 4 ≤ W.heap.size
 blw : Below w.heap.size w W
theorem StSt.mod {w W W' : World} {n : Nat} {ag : Option Addr} {cg : Nat} {id : Int} {ac : Option Addr} {m cc : Nat} {v : Value} {F : Nat → Prop} (h : StSt w W n ag cg id ac m cc v) (hm : Mod F W W') (hF : ∀ b, F b → w.heap.size + 4 ≤ b) : StSt w W' n ag cg id ac m cc v := by
 have hsz := h.sz
 have hn : ∀ b, b < w.heap.size + 4 → ¬ F b := fun b hb e => by have := hF b e; omega
 exact ⟨hm.cell h.g0 (hn _ (by dsimp only; omega)), hm.cell h.y0 (hn _ (by dsimp only; omega)), hm.cell h.y1 (hn _ (by dsimp only; omega)), hm.cell h.r0 (hn _ (by dsimp only; omega)), hm.cell h.o0 (hn _ (by dsimp only; omega)),
  fun o => (mod_frozen hm (a := ⟨w.heap.size + 1 + 1, o, none⟩) (by dsimp only; omega) (hn _ (by dsimp only; omega))).trans (h.rf o), fun o => (mod_frozen hm (a := ⟨w.heap.size + 1 + 1 + 1, o, none⟩) (by dsimp only; omega) (hn _ (by dsimp only; omega))).trans (h.of o), Nat.le_trans hsz hm.size, hm.below h.blw (by omega) (fun b hb => by have := hF b hb; omega)⟩
theorem StSt.below {w W W' : World} {n : Nat} {ag : Option Addr} {cg : Nat} {id : Int} {ac : Option Addr} {m cc : Nat} {v : Value} (h : StSt w W n ag cg id ac m cc v) (hb : Below W.heap.size W W') : StSt w W' n ag cg id ac m cc v :=
 h.mod (F := fun _ => False) (Mod.of_below hb) (fun _ e => e.elim)
theorem StSt.put {w W : World} {n : Nat} {ag : Option Addr} {cg : Nat} {id : Int} {ac : Option Addr} {m cc : Nat} {v : Value} (h : StSt w W n ag cg id ac m cc v) (v' : Value) : StSt w (W.setCell ⟨w.heap.size + 1 + 1 + 1, 0, none⟩ v') n ag cg id ac m cc v' :=
 ⟨by rw [set_other (by simp)]; exact h.g0, by rw [set_other (by simp)]; exact h.y0, by rw [set_other (by simp)]; exact h.y1, by rw [set_other (by simp)]; exact h.r0, set_same h.o0, fun o => by rw [World.frozen?_setCell]; exact h.rf o, fun o => by rw [World.frozen?_setCell]; exact h.of o, by simpa using h.sz, h.blw.setCell (by dsimp only; omega) _⟩
theorem StSt.all {w W : World} {n : Nat} {ag : Option Addr} {cg : Nat} {id : Int} {ac : Option Addr} {m cc : Nat} {v : Value} {b o k : Nat} {u : Value} (h : StSt w W n ag cg id ac m cc v) (hc : W.cell? ⟨b, o + k, none⟩ = some u) :
  StSt w W n ag cg id ac m cc v ∧ W.cell? ⟨w.heap.size + 1 + 1 + 1, 0, none⟩ = some v ∧ W.cell? ⟨w.heap.size, 0, none⟩ = some (.slice ag n cg) ∧ W.cell? ⟨w.heap.size + 1, 0, none⟩ = some (.int .i64 id) ∧ W.cell? ⟨w.heap.size + 1, 1, none⟩ = some (.slice ac m cc) ∧ W.cell? ⟨b, o + k, none⟩ = some u :=
 ⟨h, h.o0, h.g0, h.y0, h.y1, hc⟩
end Go.Proofs.YtndghenlapbaaaaGreat

/-
 The specification's SettleOne: what it answers.
-/
namespace Go.Proofs.YtndghenlapbaaaaGreat
open Go.RowKit
variable [DecidableEq Bal] [Inhabited Bal] [DecidableEq Ledg] [Inhabited Ledg] [DecidableEq Leg] [Inhabited Leg] [DecidableEq Cont] [Inhabited Cont] [DecidableEq LedgR] [Inhabited LedgR]
attribute [local go_sem ↓] Go.wp_at_zero Go.wp_at_succ

theorem setTo_mem (a t v : Int) (xs : List Bal) : ∀ k, k ≤ xs.length → ∀ x ∈ (setTo a t v xs k).1, x ∈ xs ∨ x = ⟨a, t, v⟩
 | 0, _, x, h => by simp [setTo] at h
 | k + 1, hk, x, h => by
  have ih := setTo_mem a t v xs k (by omega)
  have hm : xs.getD k default ∈ xs := by
   have e : xs.getD k default = xs[k] := by simp [List.getD, show k < xs.length by omega]
   rw [e]
   exact List.getElem_mem _
  rw [setTo_succ a t v xs (by omega)] at h
  unfold setStep at h
  split at h
  ·
   exact ih x h
  ·
   split at h
   ·
    simp only [List.append_assoc, List.mem_append, List.mem_singleton] at h
    rcases h with h | h | h
    ·
     exact ih x h
    ·
     exact .inr h
    ·
     rw [h]; exact .inl hm
   ·
    simp only [List.mem_append, List.mem_singleton] at h
    rcases h with h | h
    ·
     exact ih x h
    ·
     rw [h]; exact .inl hm
theorem setB_mem {a t v : Int} {xs : List Bal} {x : Bal} (h : x ∈ setB a t v xs) : x ∈ xs ∨ x = ⟨a, t, v⟩ := by
 unfold setB at h
 split at h
 ·
  exact setTo_mem a t v xs _ (Nat.le_refl _) x h
 ·
  simp only [List.mem_append, List.mem_singleton] at h
  rcases h with h | h
  ·
   exact setTo_mem a t v xs _ (Nat.le_refl _) x h
  ·
   exact .inr h
theorem setB_le (a t v : Int) (xs : List Bal) : (setB a t v xs).length ≤ 2 * xs.length + 1 := by
 have := setTo_le a t v xs xs.length (Nat.le_refl _)
 unfold setB
 split
 ·
  omega
 ·
  rw [List.length_append]
  simp only [List.length_cons, List.length_nil]
  omega
theorem hasB_bound {M : Int} (hM : 0 ≤ M) {a t : Int} : ∀ {xs : List Bal}, (∀ x ∈ xs, -M ≤ x.am ∧ x.am ≤ M) → -M ≤ hasB a t xs ∧ hasB a t xs ≤ M
 | [], _ => by simp only [hasB]; omega
 | x :: xs, h => by
  have ih := hasB_bound hM (a := a) (t := t) (xs := xs) (fun y hy => h y (List.mem_cons_of_mem _ hy))
  simp only [hasB]
  split
  ·
   exact h x (List.mem_cons_self ..)
  ·
   exact ih
structure AddSt (k : Nat) (xs : List Bal) : Prop where
 len : xs.length + 1 ≤ 19 * 2 ^ k
 key : ∀ x ∈ xs, keyOk x.ac x.ast = true
 am : ∀ x ∈ xs, -((k + 1 : Nat) * 1000000000000 : Int) ≤ x.am ∧ x.am ≤ ((k + 1 : Nat) * 1000000000000 : Int)
theorem addTo_st {xs : List Bal} {ls : List Leg} (hx : BalsOk xs) (hl : ∀ k, k < ls.length → legFault (ls.getD k default) = 0) : ∀ k, k ≤ ls.length → AddSt k (addTo xs ls k)
 | 0, _ => by
  have e : addTo xs ls 0 = xs := by simp [addTo]
  have hm : ∀ x ∈ xs, balOk x = true := fun x h => by
   obtain ⟨i, hi, rfl⟩ := List.mem_iff_getElem.1 h
   have := hx.ok i hi
   simpa [List.getD, hi] using this
  rw [e]
  refine ⟨by have := hx.len; omega, fun x h => balOk_key (hm x h), fun x h => ?_⟩
  have := (balOk_iff.1 (hm x h)).2
  omega
 | k + 1, hk => by
  have ih := addTo_st hx hl k (by omega)
  have hz := legFault_zero (hl k (by omega))
  rw [addTo_succ xs ls (by omega)]
  generalize addTo xs ls k = ys at *
  generalize ls.getD k default = l at *
  unfold addStep
  have hb := hasB_bound (M := ((k + 1 : Nat) * 1000000000000 : Int)) (by omega) (a := l.ac) (t := l.ast) ih.am
  refine ⟨?_, fun x h => ?_, fun x h => ?_⟩
  ·
   have h1 := setB_le l.ac l.ast (hasB l.ac l.ast ys + l.am) ys
   have h2 := ih.len
   rw [Nat.pow_succ]
   omega
  ·
   rcases setB_mem h with h | rfl
   ·
    exact ih.key x h
   ·
    exact keyOk_iff.2 ⟨hz.2.1, hz.2.2.1⟩
  ·
   rcases setB_mem h with h | rfl
   ·
    have := ih.am x h
    omega
   ·
    dsimp only
    have := hz.2.2.2.1
    omega
theorem addOk_of {xs : List Bal} {ls : List Leg} (hx : BalsOk xs) (hl : ∀ x ∈ ls, legFault x = 0) (h8 : ls.length ≤ 8) : AddOk xs ls := by
 have hl' : ∀ k, k < ls.length → legFault (ls.getD k default) = 0 := fun k hk => by
  have e : ls.getD k default = ls[k] := by simp [List.getD, hk]
  rw [e]
  exact hl _ (List.getElem_mem hk)
 have hs := addTo_st hx hl'
 refine ⟨fun k hk => ?_, fun k hk j hj => ?_, fun k hk => ?_, fun k hk => ?_⟩
 ·
  have h1 := (hs k hk).len
  have h2 : 2 ^ k ≤ 2 ^ 8 := Nat.pow_le_pow_right (by omega) (by omega)
  omega
 ·
  have e : (addTo xs ls k).getD j default = (addTo xs ls k)[j] := by simp [List.getD, hj]
  rw [e]
  exact (hs k hk).key _ (List.getElem_mem hj)
 ·
  have hz := legFault_zero (hl' k hk)
  exact keyOk_iff.2 ⟨hz.2.1, hz.2.2.1⟩
 ·
  have hz := legFault_zero (hl' k hk)
  have hb := hasB_bound (M := ((k + 1 : Nat) * 1000000000000 : Int)) (by omega) (a := (ls.getD k default).ac) (t := (ls.getD k default).ast) (hs k (by omega)).am
  omega
end Go.Proofs.YtndghenlapbaaaaGreat


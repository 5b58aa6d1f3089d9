import Derived.Test.YtdfapehonegeeaaGreatBndEngineFaultLaw28
import Derived.Test.YtdfapehonegeeaaGreatBndEngineFaultLaw1
import Derived.Test.YtdfapehonegeeaaGreatBndEngineFaultLaw11
import Derived.Test.YtdfapehonegeeaaGreatBndEngineFaultLaw12
import Derived.Test.YtdfapehonegeeaaGreatBndEngineFaultLaw27
import Derived.Deep.RegionLawGrows

/-
  An engine copied: what is there so far.
-/
namespace Go.Proofs.YtdfapehonegeeaaGreat
open Go.RowKit
set_option linter.unusedSectionVars false
variable [DecidableEq Wri] [Inhabited Wri] [DecidableEq BytesR] [Inhabited BytesR] [DecidableEq Rw] [Inhabited Rw] [DecidableEq TabR] [Inhabited TabR] [DecidableEq Logg] [Inhabited Logg] [DecidableEq Engn] [Inhabited Engn] [DecidableEq LoggR] [Inhabited LoggR] [DecidableEq RecsR] [Inhabited RecsR] [DecidableEq Leg] [Inhabited Leg]
set_option linter.unusedVariables false
set_option linter.unusedSimpArgs false

/-- one row more behind rows: it was made (world W), and it is appended (world W') -/
theorem PO.snoc {α : Type} {R : Rep α} {e : Nat} {W W' : World} {base : Nat} {v v' : Value} {n : Nat} {d : Nat → α} {cs : List Value} {us : Nat → Value} {fs : Nat → Nat → Prop} {u : Value} {Fu : Nat → Prop}
    (h : PO R e 1 one W base v n n d cs us fs) (hu : R.O W base Fu u (d n)) (hd : ∀ i, i < n → ∀ b, fs i b → ¬ Fu b) (hvu : ∀ b, Fu b → v.ownBlock ≠ some b)
    (hr : W'.ownsRow base e 1 v' (n + 1) (cs ++ [u])) (hg : W.grownBy W' v.ownBlock) (hv : v'.ownBlock = v.ownBlock ∨ v'.ownBlock = some W.heap.size) :
    PO R e 1 one W' base v' (n + 1) (n + 1) d (cs ++ [u]) (upd us n u) (upd fs n Fu) := by
  have hcl : cs.length = n := by simpa using h.row.1
  have hm := Mod.of_grown hg
  have hold : ∀ b, b < W.heap.size → v.ownBlock ≠ some b → v'.ownBlock ≠ some b := fun b hb hn => by
    rcases hv with hv | hv
    · rw [hv]; exact hn
    · rw [hv]; intro e; simp only [Option.some.injEq] at e; omega
  refine ⟨hr, ?_, fun _ _ => rfl, ?_, ?_, ?_⟩
  · intro i hi
    by_cases hik : i = n
    · subst hik
      rw [upd_at, upd_at]
      exact R.mod hu hm (fun b hb => hvu b hb)
    · rw [upd_ne _ _ hik, upd_ne _ _ hik]
      exact R.mod (h.el i (by omega)) hm (fun b hb => h.out i (by omega) b hb)
  · intro i hi j hj
    obtain rfl : j = 0 := by omega
    rw [Nat.mul_one, Nat.add_zero]
    by_cases hik : i = n
    · subst hik
      rw [upd_at, List.getElem?_append_right (by omega), hcl]
      simp [one]
    · have h1 := h.cell i (by omega) 0 (by omega)
      rw [Nat.mul_one, Nat.add_zero] at h1
      rw [upd_ne _ _ hik, List.getElem?_append_left (by omega), h1]
  · intro i hi b hb
    by_cases hik : i = n
    · subst hik
      rw [upd_at] at hb
      exact hold b (R.rng hu b hb).2 (hvu b hb)
    · rw [upd_ne _ _ hik] at hb
      exact hold b (R.rng (h.el i (by omega)) b hb).2 (h.out i (by omega) b hb)
  · intro i j hi hj hij b h1 h2
    by_cases hik : i = n
    · subst hik
      rw [upd_at] at h1
      rw [upd_ne _ _ (Ne.symm hij)] at h2
      exact hd j (by omega) b h2 h1
    · rw [upd_ne _ _ hik] at h1
      by_cases hjk : j = n
      · subst hjk
        rw [upd_at] at h2
        exact hd i (by omega) b h1 h2
      · rw [upd_ne _ _ hjk] at h2
        exact h.sep i j (by omega) (by omega) hij b h1 h2

/-- an engine being copied into box B: k tables are there -/
structure CpSt (W0 W : World) (base B : Nat) (d : Engn) (k : Nat) (u1 u2 u3 v : Value) (F1 F2 : Nat → Prop) (cs : List Value) (us : Nat → Value) (fs : Nat → Nat → Prop) : Prop where
  c0 : W.cell? ⟨B, 0, none⟩ = some u1
  c1 : W.cell? ⟨B, 1, none⟩ = some u2
  c2 : W.cell? ⟨B, 2, none⟩ = some u3
  c3 : W.cell? ⟨B, 3, none⟩ = some v
  c4 : W.cell? ⟨B, 4, none⟩ = some (.int .i64 d.next)
  fz : ∀ o, W.frozen? ⟨B, o, none⟩ = false
  lo : base ≤ B
  o1 : loggR.O W base F1 (.agg #[u1, u2]) d.log
  o2 : rowsR.O W base F2 u3 d.mem
  o3 : PO rowsR 32 1 one W base v k k (fun i => d.tables.getD i default) cs us fs
  d12 : ∀ b, F1 b → ¬ F2 b
  d13 : ∀ b, F1 b → v.ownBlock ≠ some b ∧ ∀ i, i < k → ¬ fs i b
  d23 : ∀ b, F2 b → v.ownBlock ≠ some b ∧ ∀ i, i < k → ¬ fs i b
  n1 : ¬ F1 B
  n2 : ¬ F2 B
  n3 : v.ownBlock ≠ some B ∧ ∀ i, i < k → ¬ fs i B
  blw : Below base W0 W

/-- one table more -/
theorem CpSt.push {W0 W W1 W2 : World} {base B : Nat} {d : Engn} {k : Nat} {u1 u2 u3 v v' u : Value} {F1 F2 Fu : Nat → Prop} {cs : List Value} {us : Nat → Value} {fs : Nat → Nat → Prop}
    (h : CpSt W0 W base B d k u1 u2 u3 v F1 F2 cs us fs) (hb : Below W.heap.size W W1) (hu : rowsR.O W1 W.heap.size Fu u (d.tables.getD k default)) (hbs : base ≤ W.heap.size)
    (hr : W2.ownsRow base 32 1 v' (k + 1) (cs ++ [u])) (hg : W1.grownBy W2 v.ownBlock) (hv : v'.ownBlock = v.ownBlock ∨ v'.ownBlock = some W1.heap.size) :
    CpSt W0 (W2.setCell ⟨B, 3, none⟩ v') base B d (k + 1) u1 u2 u3 v' F1 F2 (cs ++ [u]) (upd us k u) (upd fs k Fu) := by
  have hFu : ∀ b, Fu b → W.heap.size ≤ b ∧ b < W1.heap.size := fun b hb' => rowsR.rng hu b hb'
  have hfs : ∀ i, i < k → ∀ b, fs i b → b < W.heap.size := fun i hi b hb' => (rowsR.rng (h.o3.el i hi) b hb').2
  have hvl : ∀ b, v.ownBlock = some b → base ≤ b ∧ b < W.heap.size := fun b hb' => h.o3.row.lt b hb'
  have hBl : B < W.heap.size := World.block_lt_of_cell? _ _ h.c0
  have hs1 := hb.size
  have hs2 := hg.size
  have hm := Mod.of_grown hg
  have hm2 : Mod (fun b => b = B) W2 (W2.setCell ⟨B, 3, none⟩ v') := Mod.of_set W2 ⟨B, 3, none⟩ v'
  have hnB : some B ≠ v.ownBlock := fun e => h.n3.1 e.symm
  have hold : ∀ b, b < W1.heap.size → v.ownBlock ≠ some b → v'.ownBlock ≠ some b := fun b hb hn => by
    rcases hv with hv | hv
    · rw [hv]; exact hn
    · rw [hv]; intro e; simp only [Option.some.injEq] at e; omega
  have cl : ∀ (o : Nat) (x : Value), W.cell? ⟨B, o, none⟩ = some x → W2.cell? ⟨B, o, none⟩ = some x := fun o x hc => cell_grown hg (cell_keep hb hc) hnB
  have k0 := cl 0 _ h.c0
  have k1 := cl 1 _ h.c1
  have k2 := cl 2 _ h.c2
  have k3 := cl 3 _ h.c3
  have k4 := cl 4 _ h.c4
  have hfz : ∀ o, W2.frozen? ⟨B, o, none⟩ = false := fun o => ((Mod.of_grown hg).frozen (a := ⟨B, o, none⟩) (by show B < _; omega) (fun e => hnB e.symm)).trans (by rw [(bcell hb).2 _ _ hBl]; exact h.fz o)
  have hF1 : ∀ b, F1 b → b < W.heap.size := fun b hb' => (loggR.rng h.o1 b hb').2
  have hF2 : ∀ b, F2 b → b < W.heap.size := fun b hb' => (rowsR.rng h.o2 b hb').2
  have hP : PO rowsR 32 1 one W2 base v' (k + 1) (k + 1) (fun i => d.tables.getD i default) (cs ++ [u]) (upd us k u) (upd fs k Fu) :=
    PO.snoc (h.o3.keep hb) (rowsR.base hu hbs) (fun i hi b hb' hf => by have := hfs i hi b hb'; have := (hFu b hf).1; omega) (fun b hb' e => by have := (hvl b e).2; have := (hFu b hb').1; omega) hr hg hv
  have hupd : ∀ b, b < W.heap.size → (∀ i, i < k → ¬ fs i b) → ∀ i, i < k + 1 → ¬ upd fs k Fu i b := fun b hb' hn i hi hf => by
    by_cases e : i = k
    · subst e
      rw [upd_at] at hf
      have := (hFu b hf).1
      omega
    · rw [upd_ne _ _ e] at hf
      exact hn i (by omega) hf
  refine ⟨by simp [go_sem, k0, k3, hfz], by simp [go_sem, k1, k3, hfz], by simp [go_sem, k2, k3, hfz], by simp [go_sem, k3, hfz], by simp [go_sem, k4, k3, hfz], fun o => by simp [go_sem, hfz], h.lo, ?_, ?_, ?_, h.d12, ?_, ?_, h.n1, h.n2, ?_, ?_⟩
  · exact loggR.mod (loggR.mod (loggR.keep h.o1 hb) hm (fun b hb' e => (h.d13 b hb').1 e)) hm2 (fun b hb' e => h.n1 (by rw [← e]; exact hb'))
  · exact rowsR.mod (rowsR.mod (rowsR.keep h.o2 hb) hm (fun b hb' e => (h.d23 b hb').1 e)) hm2 (fun b hb' e => h.n2 (by rw [← e]; exact hb'))
  · refine hP.mod hm2 (fun b hb' e => ?_) (fun i hi b hb' e => ?_)
    · rw [e] at hb'
      exact hold B (by omega) h.n3.1 hb'
    · rw [e] at hb'
      exact hupd B hBl h.n3.2 i hi hb'
  · intro b hb'
    exact ⟨hold b (by have := hF1 b hb'; omega) (h.d13 b hb').1, hupd b (hF1 b hb') (h.d13 b hb').2⟩
  · intro b hb'
    exact ⟨hold b (by have := hF2 b hb'; omega) (h.d23 b hb').1, hupd b (hF2 b hb') (h.d23 b hb').2⟩
  · exact ⟨hold B (by omega) h.n3.1, hupd B hBl h.n3.2⟩
  · have h1 : Below base W0 W2 := (h.blw.trans (hb.mono hbs)).grown hg (by omega) (fun b e => (hvl b e).1)
    refine hm2.below h1 (by omega) (fun b e => ?_)
    rw [e]
    exact h.lo

/-- all tables are there -/
theorem CpSt.engn {W0 W : World} {base B : Nat} {d : Engn} {u1 u2 u3 v : Value} {F1 F2 : Nat → Prop} {cs : List Value} {us : Nat → Value} {fs : Nat → Nat → Prop}
    (h : CpSt W0 W base B d d.tables.length u1 u2 u3 v F1 F2 cs us fs) : ∃ F, engnR.O W base F (.agg #[u1, u2, u3, v, .int .i64 d.next]) d :=
  ⟨_, _, _, _, _, F1, F2, (fun b => v.ownBlock = some b ∨ ∃ i, i < d.tables.length ∧ fs i b), rfl, h.o1, h.o2, ⟨cs, us, fs, h.o3, fun b => Iff.rfl⟩, h.d12,
    fun b hb e => e.elim (h.d13 b hb).1 (fun ⟨i, hi, hf⟩ => (h.d13 b hb).2 i hi hf), fun b hb e => e.elim (h.d23 b hb).1 (fun ⟨i, hi, hf⟩ => (h.d23 b hb).2 i hi hf), fun b => Iff.rfl⟩

end Go.Proofs.YtdfapehonegeeaaGreat

/-
  A log: how much is told.
-/
namespace Go.Proofs.YtdfapehonegeeaaGreat
open Go.RowKit
set_option linter.unusedSectionVars false
variable [DecidableEq Logg] [Inhabited Logg] [DecidableEq LoggR] [Inhabited LoggR] [DecidableEq BytesR] [Inhabited BytesR] [DecidableEq RecsR] [Inhabited RecsR] [DecidableEq Leg] [Inhabited Leg]

theorem codeD_le (c : Int) : wtLoggR (codeD c) ≤ 6000 := by simp [wtLoggR, wtLogg, wtBytes, codeD]
theorem syncD_le (d : Logg) : wtLoggR (syncD d) ≤ 6000 := by
  unfold syncD
  rcases logF_cases d with ⟨h0, hl⟩ | h0
  · rw [if_pos h0]
    simp only [wtLoggR, wtLogg, wtBytes, List.length_append, List.length_nil]
    omega
  · rw [if_neg (by omega)]
    exact codeD_le 2
theorem crashD_le (d : Logg) (k : Int) : wtLoggR (crashD d k) ≤ 6000 := by
  unfold crashD
  rcases logF_cases d with ⟨h0, hl⟩ | h0
  · rw [if_pos h0]
    split
    · simp only [wtLoggR, wtLogg, wtBytes, List.length_append, List.length_nil, List.length_take]
      omega
    · exact codeD_le 3
  · rw [if_neg (by omega)]
    exact codeD_le 2
theorem trimD_le (d : Logg) : wtLoggR (trimD d) ≤ 6000 := by
  unfold trimD
  rcases logF_cases d with ⟨h0, hl⟩ | h0
  · rw [if_pos h0]
    simp only [wtLoggR, wtLogg, wtBytes, List.length_take, List.length_nil]
    omega
  · rw [if_neg (by omega)]
    exact codeD_le 2
theorem readD_le (d : Logg) : wtRecsR (readD d) ≤ 6000 := by
  unfold readD
  rcases logF_cases d with ⟨h0, hl⟩ | h0
  · rw [if_pos h0]
    have h := recsD_wt (d.synced ++ d.loose)
    rw [List.length_append] at h
    omega
  · rw [if_neg (by omega)]
    simp [wtRecsR, wtBytess, wtL, cntTo]

end Go.Proofs.YtdfapehonegeeaaGreat

/-
  One more record in a log: the specification's side.
-/
namespace Go.Proofs.YtdfapehonegeeaaGreat
open Go.RowKit
set_option linter.unusedSectionVars false
variable [DecidableEq Logg] [Inhabited Logg] [DecidableEq LoggR] [Inhabited LoggR] [DecidableEq BytesR] [Inhabited BytesR] [DecidableEq RecsR] [Inhabited RecsR] [DecidableEq Leg] [Inhabited Leg]
set_option linter.unusedSimpArgs false
attribute [local go_sem ↓] Go.wp_at_zero Go.wp_at_succ

theorem run_append_zero {P : Program} (w : World) (t ty e : TypeId) (i : TypeInfo) (ht : P.underlying t = some (.slice e)) (hi : P.info? e = some i) (g c : Nat) (ao : Option Addr) :
    (Builtin.append_ #[t, t] ty #[.slice (some ⟨g, 0, none⟩) 0 0, .slice ao 0 c]).run P w = .ok (.slice (some ⟨g, 0, none⟩) 0 0) w := by
  cases ao with
  | none => simp [Builtin.append_, run_underlying ht, sizeOf, typeInfo, hi, Builtin.lenOf, Builtin.firstCells, storeCells]
  | some ad => simp [Builtin.append_, run_underlying ht, sizeOf, typeInfo, hi, Builtin.lenOf, Builtin.firstCells, storeCells, loadCells, loadCellsFrom]

/-- bytes appended to an empty literal -/
theorem step_litB (Y : World) {ops : Array Oper} {o : Oper} {a : Act} {K : Act → World → Prop} {Q : Exit → Act → World → Prop} {E : Prop} (hgd : o.guard = none) (s x : Operand)
    (ho : o.op = .call { callee := .builtin .append, args := #[s, x], argTypes := #[22, 22] })
    (g : Nat) (hs : a.eval s = .slice (some ⟨g, 0, none⟩) 0 0) (u : Value) (ys : List Byte) (hx : a.eval x = u) (hsrc : AppAny Y u ys.length (bytesC ys)) (hlen : ys.length ≤ 1073741824)
    (h : ∀ v' w', Below Y.heap.size Y w' → ((ys = [] ∧ v' = .slice (some ⟨g, 0, none⟩) 0 0) ∨ w'.ownsRow Y.heap.size 5 1 v' ys.length (bytesC ys)) → K (a.put o.dst v') w') :
    if Region.wanted o (yielded ops a.tmps) = true then Oper.wp Tryz.prog o a Y K Q else E := by
  obtain ⟨i0, hi, hz0, hz1, hz2⟩ := info_parts infoByte
  by_cases hy : ys = []
  · subst hy
    have hu : ∃ ao c, u = .slice ao 0 c := by
      rcases hsrc with ⟨c, rfl, _, _⟩ | ⟨ad, c, rfl, _⟩
      · exact ⟨_, _, rfl⟩
      · exact ⟨_, _, rfl⟩
    obtain ⟨ao, c, rfl⟩ := hu
    have hw : Region.wanted o (yielded ops a.tmps) = true := by simp [Region.wanted, hgd]
    rw [if_pos hw]
    have hr := run_append_zero (P := Tryz.prog) Y 22 o.type 5 i0 Tryz.underlying22 hi g c ao
    unfold Oper.wp execOp
    simp only [ho, resolve, invoke, builtin, Sem.run_bind, Sem.run_pure, Result.andThen_ok, List.map_toArray, List.map_cons, List.map_nil, hs, hx, hr]
    exact h _ _ (Below.refl _ _) (.inl ⟨rfl, rfl⟩)
  · rcases hsrc with ⟨c, rfl, hm, _⟩ | ⟨ad, c, rfl, hc⟩
    · exact absurd (List.eq_nil_of_length_eq_zero hm) hy
    · have hpos : 0 < ys.length := List.length_pos_iff.2 hy
      refine step_append_grows hgd s x 22 ho 5 i0 _ 1 1 Tryz.underlying22 hi hz0 hz1 hz2 rfl (by decide) (some ⟨g, 0, none⟩) 0 0 [] hs (fun e => by cases e) rfl (fun _ _ j v hj => by cases hj) ad ys.length c (bytesC ys) hx (by rw [length_bytesC]; omega) hc (bytesC_one ys) (by omega) (by unfold maxLen; omega) (by omega) ?_
      intro v' w' hown hg
      refine h v' w' ((Below.refl _ _).grown hg (Nat.le_refl _) (fun k e => by cases e)) (.inr ?_)
      simpa using hown

/-- the operations of l4Copy's region, and what each yields -/
def copyG (d : Logg) : Nat → (Nat → Value) → Nat → Nat → World → Prop
  | 0, y, lo, hi, w => y 3 = .slice (some ⟨lo, 0, none⟩) 0 0 ∧ lo < hi ∧ w.ownsRow lo 5 1 (.slice (some ⟨lo, 0, none⟩) 0 0) 0 (bytesC [])
  | 3, y, lo, hi, w => (∃ a c, y 6 = .slice a d.synced.length c) ∧ ((d.synced = [] ∧ y 6 = y 3) ∨ (w.ownsRow lo 5 1 (y 6) d.synced.length (bytesC d.synced) ∧ ∀ b, (y 6).ownBlock = some b → b < hi))
  | 4, y, lo, hi, w => y 7 = .slice (some ⟨lo, 0, none⟩) 0 0 ∧ lo < hi ∧ w.ownsRow lo 5 1 (.slice (some ⟨lo, 0, none⟩) 0 0) 0 (bytesC [])
  | 7, y, lo, hi, w => (∃ a c, y 10 = .slice a d.loose.length c) ∧ ((d.loose = [] ∧ y 10 = y 7) ∨ (w.ownsRow lo 5 1 (y 10) d.loose.length (bytesC d.loose) ∧ ∀ b, (y 10).ownBlock = some b → b < hi))
  | 8, y, _, _, _ => y 11 = .agg #[y 6, y 10]
  | _, _, _, _, _ => True

theorem lit_both {w0 w : World} {xs : List Byte} {v v0 : Value} {l1 h1 l2 h2 : Nat} (b1 : InB w0 w l1 h1) (b2 : InB w0 w l2 h2)
    (g1 : v0 = .slice (some ⟨l1, 0, none⟩) 0 0 ∧ l1 < h1 ∧ w.ownsRow l1 5 1 (.slice (some ⟨l1, 0, none⟩) 0 0) 0 (bytesC []))
    (g2 : (xs = [] ∧ v = v0) ∨ (w.ownsRow l2 5 1 v xs.length (bytesC xs) ∧ ∀ b, v.ownBlock = some b → b < h2)) :
    ∃ F, bytesR.O w w0.heap.size F v xs ∧ ∀ b, F b → (l1 ≤ b ∧ b < h1) ∨ (l2 ≤ b ∧ b < h2) := by
  rcases g2 with ⟨rfl, rfl⟩ | ⟨g2, g3⟩
  · obtain ⟨rfl, g4, g5⟩ := g1
    refine ⟨_, bytesR.base (base := l1) ⟨g5, rfl⟩ b1.1, fun b hb => .inl ?_⟩
    simp [Value.ownBlock] at hb
    omega
  · refine ⟨_, bytesR.base (base := l2) ⟨g2, rfl⟩ b2.1, fun b hb => .inr ⟨?_, g3 b hb⟩⟩
    exact (bytesR.rng (F := fun b => v.ownBlock = some b) (show bytesR.O w l2 _ v xs from ⟨g2, rfl⟩) b hb).1

set_option maxHeartbeats 1000000 in
theorem l4Copy_any (x : Value) (d : Logg) (w : World) (hx : loggR.V w x d) (hn : wtLogg d ≤ 1048576) :
    Calls Tryz.prog 115 #[x] w fun e w' => ∃ v F, e = .returned v ∧ loggR.O w' w.heap.size F v d ∧ Below w.heap.size w w' := by
  have hX := hx
  obtain ⟨u1, u2, rfl, h1, h2⟩ := hx
  obtain ⟨a1, c1, rfl⟩ := bytes_form h1
  obtain ⟨a2, c2, rfl⟩ := bytes_form h2
  unfold wtLogg wtBytes at hn
  go_enter Tryz.func115, Tryz.ntmps115
  go_wp2
  refine wp_region_noPanic ?_
  refine region_upto (fun w' => Below w.heap.size w w' ∧ w'.cell? ⟨w.heap.size, 0, none⟩ = some (.slice a1 d.synced.length c1) ∧ w'.cell? ⟨w.heap.size, 1, none⟩ = some (.slice a2 d.loose.length c2)) 9 (by kernel_rfl) ⟨by (repeat (first | exact Below.refl _ _ | assumption | refine Below.drew ?_ | refine balloc ?_ _ | refine bset ?_ (by simp; omega) _ | refine bset ?_ (by simp) _ | refine bstep ?_ (by assumption))), by simp [go_sem], by simp [go_sem]⟩ (fun hS => ?_)
  refine upto_take (i := 1) (v := ?_) rfl (by kernel_rfl) (by kernel_rfl) (by kernel_rfl) (by kernel_rfl) (fun _ _ _ h => h) (by rfl) hS ?_ ?_
  rotate_left
  · intro wS hSw
    try dsimp only at hSw
    first | (go_simp; done) | (go_simp; with_reducible rfl)
  try simp only [Act.put, List.getElem_toArray, List.getElem_cons_zero, List.getElem_cons_succ, List.setIfInBounds_toArray, List.set_cons_zero, List.set_cons_succ]
  refine upto_take (i := 2) (v := ?_) rfl (by kernel_rfl) (by kernel_rfl) (by kernel_rfl) (by kernel_rfl) (fun _ _ _ h => h) (by rfl) hS ?_ ?_
  rotate_left
  · intro wS hSw
    try dsimp only at hSw
    first | (go_simp; done) | (go_simp; with_reducible rfl)
  try simp only [Act.put, List.getElem_toArray, List.getElem_cons_zero, List.getElem_cons_succ, List.setIfInBounds_toArray, List.set_cons_zero, List.set_cons_succ]
  refine upto_take (i := 5) (v := ?_) rfl (by kernel_rfl) (by kernel_rfl) (by kernel_rfl) (by kernel_rfl) (fun _ _ _ h => h) (by rfl) hS ?_ ?_
  rotate_left
  · intro wS hSw
    try dsimp only at hSw
    first | (go_simp; done) | (go_simp; with_reducible rfl)
  try simp only [Act.put, List.getElem_toArray, List.getElem_cons_zero, List.getElem_cons_succ, List.setIfInBounds_toArray, List.set_cons_zero, List.set_cons_succ]
  refine upto_take (i := 6) (v := ?_) rfl (by kernel_rfl) (by kernel_rfl) (by kernel_rfl) (by kernel_rfl) (fun _ _ _ h => h) (by rfl) hS ?_ ?_
  rotate_left
  · intro wS hSw
    try dsimp only at hSw
    first | (go_simp; done) | (go_simp; with_reducible rfl)
  try simp only [Act.put, List.getElem_toArray, List.getElem_cons_zero, List.getElem_cons_succ, List.setIfInBounds_toArray, List.set_cons_zero, List.set_cons_succ]
  have hB0 : Below (w.heap.size + 2) ((w.alloc (.cells #[.slice a1 d.synced.length c1, .slice a2 d.loose.length c2] 31)).alloc (.cells #[.slice none 0 0, .slice none 0 0] 31)) ((w.alloc (.cells #[.slice a1 d.synced.length c1, .slice a2 d.loose.length c2] 31)).alloc (.cells #[.slice none 0 0, .slice none 0 0] 31)).drew := Below.drew (Below.refl _ _)
  have hs0 : ((w.alloc (.cells #[.slice a1 d.synced.length c1, .slice a2 d.loose.length c2] 31)).alloc (.cells #[.slice none 0 0, .slice none 0 0] 31)).drew.heap.size = w.heap.size + 2 := by simp
  have r0 : ((w.alloc (.cells #[.slice a1 d.synced.length c1, .slice a2 d.loose.length c2] 31)).alloc (.cells #[.slice none 0 0, .slice none 0 0] 31)).drew.cell? ⟨w.heap.size + 1, 0, none⟩ = some (.slice none 0 0) := by simp [go_sem]
  have r1 : ((w.alloc (.cells #[.slice a1 d.synced.length c1, .slice a2 d.loose.length c2] 31)).alloc (.cells #[.slice none 0 0, .slice none 0 0] 31)).drew.cell? ⟨w.heap.size + 1, 1, none⟩ = some (.slice none 0 0) := by simp [go_sem]
  have rf : ∀ o, ((w.alloc (.cells #[.slice a1 d.synced.length c1, .slice a2 d.loose.length c2] 31)).alloc (.cells #[.slice none 0 0, .slice none 0 0] 31)).drew.frozen? ⟨w.heap.size + 1, o, none⟩ = false := fun o => by simp [go_sem]
  have hb0 := hS.1
  clear hB0
  generalize ((w.alloc (.cells #[.slice a1 d.synced.length c1, .slice a2 d.loose.length c2] 31)).alloc (.cells #[.slice none 0 0, .slice none 0 0] 31)).drew = W0 at *
  refine upto_stable' [(0, 3), (3, 6), (4, 7), (7, 10), (8, 11)] (copyG d) (by kernel_rfl) hS (fun W W' h hb => ⟨bstep h.1 hb, cell_keep hb h.2.1, cell_keep hb h.2.2⟩) ?_ ?_ ?_
  · -- what was yielded stays
    intro p hp
    simp only [List.mem_cons, List.not_mem_nil, or_false] at hp
    rcases hp with rfl | rfl | rfl | rfl | rfl
    · intro y y' lo hi W W' h hi' hb e _
      simp only [copyG] at h ⊢
      rw [e]
      exact ⟨h.1, h.2.1, owns_below h.2.2 hb⟩
    · intro y y' lo hi W W' h hi' hb e he
      have e0 := he (0, 3) (by simp) (by kernel_rfl)
      simp only [copyG] at h ⊢
      rw [e, e0]
      exact ⟨h.1, h.2.imp id (fun h => ⟨owns_below h.1 hb, h.2⟩)⟩
    · intro y y' lo hi W W' h hi' hb e _
      simp only [copyG] at h ⊢
      rw [e]
      exact ⟨h.1, h.2.1, owns_below h.2.2 hb⟩
    · intro y y' lo hi W W' h hi' hb e he
      have e0 := he (4, 7) (by simp) (by kernel_rfl)
      simp only [copyG] at h ⊢
      rw [e, e0]
      exact ⟨h.1, h.2.imp id (fun h => ⟨owns_below h.1 hb, h.2⟩)⟩
    · intro y y' lo hi W W' h hi' hb e he
      have e0 := he (3, 6) (by simp) (by kernel_rfl)
      have e1 := he (7, 10) (by simp) (by kernel_rfl)
      simp only [copyG] at h ⊢
      rw [e, e0, e1]
      exact h
  · -- each operation
    intro p hp
    simp only [List.mem_cons, List.not_mem_nil, or_false] at hp
    rcases hp with rfl | rfl | rfl | rfl | rfl
    all_goals
      refine ⟨_, rfl, rfl, ?_⟩
      intro y W lo hi hSW hBW hd hap K hK
      clear hap
    · clear hd
      refine ⟨?_⟩
      simp only [over, Act.put, List.getElem_toArray, List.getElem_cons_zero, List.getElem_cons_succ, List.map_cons, List.map_nil, List.foldl_cons, List.foldl_nil, List.setIfInBounds_toArray, List.set_cons_zero, List.set_cons_succ] at hK ⊢
      go_simp
      refine hK _ _ (by (repeat (first | exact Below.refl _ _ | assumption | refine Below.drew ?_ | refine balloc ?_ _ | refine bset ?_ (by simp; omega) _ | refine bset ?_ (by simp) _ | refine bstep ?_ (by assumption)))) ?_
      simp only [copyG, updV]
      exact ⟨rfl, by simp, nil_owns (Below.refl _ _) _ rfl (Nat.le_refl _)⟩
    · have g0 := (hd (0, 3) (by simp) (by kernel_rfl)).2
      clear hd
      simp only [copyG] at g0
      refine ⟨?_⟩
      refine step_litB W rfl (.tmp 3) (.tmp 5) rfl (lo 0) ?_ (.slice a1 d.synced.length c1) d.synced ?_ (appAny_bytes (bytesR.below h1 hSW.1)) (by omega) ?_
      · exact g0.1
      · rfl
      intro v' w' hb ho
      refine hK _ _ hb ?_
      simp only [copyG, updV]
      rcases ho with ⟨hl, rfl⟩ | ho
      · exact ⟨⟨some ⟨lo 0, 0, none⟩, 0, by simp [hl]⟩, .inl ⟨hl, by simp [g0.1]⟩⟩
      · obtain ⟨av, cv, hv⟩ := owns_form ho
        refine ⟨⟨av, cv, by simpa using hv⟩, .inr ⟨by simpa using ho, fun b hb' => ?_⟩⟩
        exact (bytesR.rng (F := fun b => v'.ownBlock = some b) (show bytesR.O w' _ _ v' d.synced from ⟨ho, rfl⟩) b (by simpa using hb')).2
    · clear hd
      refine ⟨?_⟩
      simp only [over, Act.put, List.getElem_toArray, List.getElem_cons_zero, List.getElem_cons_succ, List.map_cons, List.map_nil, List.foldl_cons, List.foldl_nil, List.setIfInBounds_toArray, List.set_cons_zero, List.set_cons_succ] at hK ⊢
      go_simp
      refine hK _ _ (by (repeat (first | exact Below.refl _ _ | assumption | refine Below.drew ?_ | refine balloc ?_ _ | refine bset ?_ (by simp; omega) _ | refine bset ?_ (by simp) _ | refine bstep ?_ (by assumption)))) ?_
      simp only [copyG, updV]
      exact ⟨rfl, by simp, nil_owns (Below.refl _ _) _ rfl (Nat.le_refl _)⟩
    · have g0 := (hd (4, 7) (by simp) (by kernel_rfl)).2
      clear hd
      simp only [copyG] at g0
      refine ⟨?_⟩
      refine step_litB W rfl (.tmp 7) (.tmp 9) rfl (lo 4) ?_ (.slice a2 d.loose.length c2) d.loose ?_ (appAny_bytes (bytesR.below h2 hSW.1)) (by omega) ?_
      · exact g0.1
      · rfl
      intro v' w' hb ho
      refine hK _ _ hb ?_
      simp only [copyG, updV]
      rcases ho with ⟨hl, rfl⟩ | ho
      · exact ⟨⟨some ⟨lo 4, 0, none⟩, 0, by simp [hl]⟩, .inl ⟨hl, by simp [g0.1]⟩⟩
      · obtain ⟨av, cv, hv⟩ := owns_form ho
        refine ⟨⟨av, cv, by simpa using hv⟩, .inr ⟨by simpa using ho, fun b hb' => ?_⟩⟩
        exact (bytesR.rng (F := fun b => v'.ownBlock = some b) (show bytesR.O w' _ _ v' d.loose from ⟨ho, rfl⟩) b (by simpa using hb')).2
    · have g3 := (hd (3, 6) (by simp) (by kernel_rfl)).2
      have g7 := (hd (7, 10) (by simp) (by kernel_rfl)).2
      clear hd
      simp only [copyG] at g3 g7
      obtain ⟨⟨a6, c6, e6⟩, _⟩ := g3
      obtain ⟨⟨a7, c7, e7⟩, _⟩ := g7
      refine ⟨?_⟩
      simp only [over, Act.put, List.getElem_toArray, List.getElem_cons_zero, List.getElem_cons_succ, List.map_cons, List.map_nil, List.foldl_cons, List.foldl_nil, List.setIfInBounds_toArray, List.set_cons_zero, List.set_cons_succ] at hK ⊢
      simp only [e6, e7] at hK ⊢
      go_simp
      refine hK _ _ (Below.refl _ _) ?_
      simp only [copyG, updV]
      simp [e6, e7]
  · refine ⟨_, rfl, ?_⟩
    intro y W lo hi hSW hBW hd hap K hK
    have h0 := hd (0, 3) (by simp)
    have h3 := hd (3, 6) (by simp)
    have h4 := hd (4, 7) (by simp)
    have h7 := hd (7, 10) (by simp)
    have h8 := hd (8, 11) (by simp)
    clear hd
    simp only [copyG] at h0 h3 h4 h7 h8
    obtain ⟨b0, g0⟩ := h0
    obtain ⟨b3, g3⟩ := h3
    obtain ⟨b4, g4⟩ := h4
    obtain ⟨b7, g7⟩ := h7
    obtain ⟨b8, g8⟩ := h8
    have p04 := hap (0, 3) (by simp) (4, 7) (by simp) (by simp)
    have p07 := hap (0, 3) (by simp) (7, 10) (by simp) (by simp)
    have p34 := hap (3, 6) (by simp) (4, 7) (by simp) (by simp)
    have p37 := hap (3, 6) (by simp) (7, 10) (by simp) (by simp)
    clear hap
    simp only [Apart] at p04 p07 p34 p37
    obtain ⟨F1, o1, f1⟩ := lit_both b0 b3 g0 g3.2
    obtain ⟨F2, o2, f2⟩ := lit_both b4 b7 g4 g7.2
    obtain ⟨⟨a6, c6, e6⟩, _⟩ := g3
    obtain ⟨⟨a7, c7, e7⟩, _⟩ := g7
    have hdis : ∀ b, F1 b → ¬ F2 b := fun b q1 q2 => by
      have := f1 b q1
      have := f2 b q2
      omega
    have q0 := cell_keep hBW r0
    have q1 := cell_keep hBW r1
    have qf : ∀ o, W.frozen? ⟨w.heap.size + 1, o, none⟩ = false := fun o => by rw [(bcell hBW).2 _ _ (by omega)]; exact rf o
    rw [hs0] at o1 o2
    rw [e6] at o1 g8
    rw [e7] at o2 g8
    have hBB := hSW.1
    refine ⟨?_⟩
    simp only [over, Act.put, List.getElem_toArray, List.getElem_cons_zero, List.getElem_cons_succ, List.map_cons, List.map_nil, List.foldl_cons, List.foldl_nil, List.setIfInBounds_toArray, List.set_cons_zero, List.set_cons_succ]
    simp only [g8]
    clear g0 g4 g8 b0 b3 b4 b7 b8 p04 p07 p34 p37 f1 f2 hS hSW hBW
    go_simp
    refine hK _ _ ?_
    clear hK K
    refine NoPanic.normal ?_
    go_wp2
    refine bodyPost_ret (v := .agg #[.slice a6 d.synced.length c6, .slice a7 d.loose.length c7]) ?_ rfl ⟨_, fun b => F1 b ∨ F2 b, rfl, ⟨_, _, F1, F2, rfl, bytesR.base (bytesR.set (bytesR.set o1 _ (by simp)) _ (by simp)) (by omega), bytesR.base (bytesR.set (bytesR.set o2 _ (by simp)) _ (by simp)) (by omega), hdis, fun b => Iff.rfl⟩, by (repeat (first | exact Below.refl _ _ | assumption | refine Below.drew ?_ | refine balloc ?_ _ | refine bset ?_ (by simp; omega) _ | refine bset ?_ (by simp) _ | refine bstep ?_ (by assumption)))⟩
    simp [results, Tryz.results115, go_sem, q0, q1]

end Go.Proofs.YtdfapehonegeeaaGreat


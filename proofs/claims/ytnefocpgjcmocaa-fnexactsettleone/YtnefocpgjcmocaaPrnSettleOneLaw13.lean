import Derived.Test.YtnefocpgjcmocaaPrnSettleOneLaw12
import Derived.Test.YtnefocpgjcmocaaPrnSettleOneLaw10
import Derived.Test.YtnefocpgjcmocaaPrnSettleOneLaw3
import Derived.Test.YtnefocpgjcmocaaPrnSettleOneLaw1
import Derived.Maps.AppendAt
import Derived.Test.YtnefocpgjcmocaaPrnSettleOneLaw2

/-
  The specification's l2Add: legs added to the balances of a shard.
-/
namespace Go.Proofs.Ytnefocpgjcmocaa
open Go.RowKit
set_option linter.unusedSectionVars false
variable [DecidableEq Bal] [Inhabited Bal] [DecidableEq Ledg] [Inhabited Ledg] [DecidableEq Leg] [Inhabited Leg] [DecidableEq Cont] [Inhabited Cont]
attribute [local go_sem ↓] Go.wp_at_zero Go.wp_at_succ

def addStep (xs : List Bal) (l : Leg) : List Bal := setB l.ac l.ast (hasB l.ac l.ast xs + l.am) xs
def addTo (xs : List Bal) (ls : List Leg) (k : Nat) : List Bal := (ls.take k).foldl addStep xs
def addB (xs : List Bal) (ls : List Leg) : List Bal := ls.foldl addStep xs
theorem addTo_succ (xs : List Bal) (ls : List Leg) {k : Nat} (h : k < ls.length) : addTo xs ls (k + 1) = addStep (addTo xs ls k) (ls.getD k default) := by
  unfold addTo
  rw [take_snoc ls k h, List.foldl_append]
  rfl
theorem addTo_end (xs : List Bal) (ls : List Leg) : addTo xs ls ls.length = addB xs ls := by unfold addTo addB; rw [List.take_length]
structure AddOk (xs : List Bal) (ls : List Leg) : Prop where
  len : ∀ k, k ≤ ls.length → (addTo xs ls k).length ≤ 1000000
  keys : ∀ k, k ≤ ls.length → ∀ j, j < (addTo xs ls k).length → keyOk ((addTo xs ls k).getD j default).ac ((addTo xs ls k).getD j default).ast = true
  leg : ∀ k, k < ls.length → keyOk (ls.getD k default).ac (ls.getD k default).ast = true
  sum : ∀ k, k < ls.length → -9223372036854775808 ≤ hasB (ls.getD k default).ac (ls.getD k default).ast (addTo xs ls k) + (ls.getD k default).am ∧ hasB (ls.getD k default).ac (ls.getD k default).ast (addTo xs ls k) + (ls.getD k default).am ≤ 9223372036854775807
set_option maxHeartbeats 2000000 in
theorem l2Add_any (x y : Value) (xs : List Bal) (ls : List Leg) (w : World) (hx : balsR.V w x xs) (hy : legsR.V w y ls) (hok : AddOk xs ls) :
    Calls Try.prog 35 #[x, y] w fun e w' => ∃ u F, e = .returned u ∧ balsR.O w' w.heap.size F u (addB xs ls) ∧ Below w.heap.size w w' := by
  have hX := hx
  obtain ⟨ax, cx, rfl⟩ := bals_form hx
  obtain ⟨ay, cy, rfl, hcy, hmy, hy⟩ := hy
  unfold maxLen at hmy
  obtain ⟨i0, hi, hz0, hz1, hz2⟩ := info_parts infoBal
  have HOK : Hid (AddOk xs ls) := hok
  have hlen : xs.length ≤ 1000000 := hok.len 0 (Nat.zero_le _)
  clear hok hx
  generalize hn' : ls.length = n at *
  have HN : Hid (ls.length = n) := hn'
  clear hn'
  have hs0 : AppAny (w.alloc (.cells #[] 77)) (.slice ax xs.length cx) xs.length (balsC xs) := appAny_bals (balsR.below hX (by (repeat (first | exact Below.refl _ _ | assumption | refine Below.drew ?_ | refine balloc ?_ _ | refine bset ?_ (by simp; omega) _ | refine bset ?_ (by simp) _ | refine bstep ?_ (by assumption)))))
  have ho0 := World.ownsRow_lit (base := w.heap.size) (e := 77) (size := 3) w #[] 0 (by simp) (by unfold maxLen; omega) rfl
  go_enter Try.func35, Try.ntmps35
  go_wp2_with (at_builtin; refine wpList_appAny _ rfl _ _ 67 rfl w.heap.size 77 i0 _ 3 24 Try.underlying67 hi hz0 hz1 hz2 rfl (by decide) _ _ _ rfl _ xs.length (balsC xs) rfl ho0 hs0 ?c1 ?c2 ?c3 ?c4 ?c5 ?_)
  case c1 => rw [length_balsC]
  case c2 =>
    intro u hu
    simp only [balsC, List.mem_flatMap] at hu
    obtain ⟨b, _, hb⟩ := hu
    exact balC_one b u hb
  case c3 => unfold maxLen; omega
  case c4 => omega
  intro v' w1 hown' hgrow hbel
  have hB1 : Below w.heap.size w w1 := hbel w (by (repeat (first | exact Below.refl _ _ | assumption | refine Below.drew ?_ | refine balloc ?_ _ | refine bset ?_ (by simp; omega) _ | refine bset ?_ (by simp) _ | refine bstep ?_ (by assumption))))
  have ho1 : ∃ F, balsR.O w1 w.heap.size F v' xs := ⟨_, hown', rfl⟩
  clear hown' hgrow hbel hs0 ho0 hX
  go_wp2
  go_loopw [5, 6] (fun u i w' => ∃ k : Nat, k ≤ n ∧ i = .int .i64 k ∧ (∃ F, balsR.O w' w.heap.size F u (addTo xs ls k)) ∧ Below w.heap.size w w') (fun _ i _ => n - (intOf i).toNat)
  case atStart => exact ⟨0, Nat.zero_le _, rfl, by simpa [addTo] using ho1, hB1⟩
  case round =>
    obtain ⟨k, hk, rfl, ⟨F, ho⟩, hbl⟩ := hrel
    by_cases hlt : k < n
    · obtain ⟨bx, ox, rfl, g1⟩ := hy k hlt
      have hkl : k < ls.length := by rw [HN.out]; exact hlt
      have HST : Hid (addTo xs ls (k + 1) = addStep (addTo xs ls k) (ls.getD k default)) := addTo_succ xs ls hkl
      have hl1 := HOK.out.len k (by omega)
      have hl2 := HOK.out.keys k (by omega)
      have hl3 := HOK.out.leg k hkl
      have hl4 := HOK.out.sum k hkl
      obtain ⟨l, hl⟩ : ∃ l, l = ls.getD k default := ⟨_, rfl⟩
      rw [← hl] at g1 HST hl3 hl4
      clear hl hy ho1
      obtain ⟨ys, hys⟩ : ∃ ys, ys = addTo xs ls k := ⟨_, rfl⟩
      rw [← hys] at ho HST hl1 hl2 hl4
      clear hys
      have HK2 : Hid (∀ j, j < ys.length → keyOk (ys.getD j default).ac (ys.getD j default).ast = true) := hl2
      clear hl2
      obtain ⟨z, hz⟩ : ∃ z, z = hasB l.ac l.ast ys := ⟨_, rfl⟩
      rw [← hz] at hl4
      have HE : Hid (addTo xs ls (k + 1) = setB l.ac l.ast (z + l.am) ys) := by show _ = _; rw [HST.out, addStep, hz]
      have v1 : IntKind.i64.wrap (z + l.am) = z + l.am := wrapId hl4.1 hl4.2
      have g2 := legCells_below hbl g1
      obtain ⟨au, cu, rfl⟩ := bals_form (balsR.ofO ho)
      have hV := balsR.ofO ho
      have i1 : (k : Int) < (n : Int) := by omega
      obtain ⟨a1, a2, a3, a4⟩ := g2
      have g3 : legCells wr bx (ox + k * 4) l := ⟨a1, a2, a3, a4⟩
      go_wp2
      go_region_held3 (fun w' => Below wr.heap.size wr w' ∧ w'.cell? ⟨bx, ox + k * 4, none⟩ = some (.int .i64 l.sh) ∧ w'.cell? ⟨bx, ox + k * 4 + 1, none⟩ = some (.int .i64 l.ac) ∧ w'.cell? ⟨bx, ox + k * 4 + 2, none⟩ = some (.int .i64 l.ast) ∧ w'.cell? ⟨bx, ox + k * 4 + 3, none⟩ = some (.int .i64 l.am))
        ((refine legKeep ?_ g3; (repeat (first | exact Below.refl _ _ | assumption | refine Below.drew ?_ | refine balloc ?_ _ | refine bstep ?_ (by assumption)))))
        (first | (go_at_call 54; refine (l2Has_any _ ys l.ac l.ast _ (balsR.below hV (Below.drew (Below.refl _ _)))).mono ?_; rw [← hz]; rintro e w3 ⟨rfl, rfl⟩) | (go_at_call 53; (first | rw [← hz, v1] | rw [v1] | skip); refine (l2Set_any _ ys l.ac l.ast (z + l.am) _ (balsR.below hV (Below.drew (Below.refl _ _))) hl1 hl3 HK2.out).mono ?_; rintro e w4 ⟨u4, F4, rfl, o4, hb4⟩))
      rename_i hH
      have hB4 := bstep hbl hH.1
      have hsz := hH.1.size
      have hw0 := hbl.size
      clear hH
      go_wp2
      refine ⟨⟨k + 1, by omega, by go_num, ⟨F4, ?_⟩, hB4⟩, by simp [intOf]; omega⟩
      rw [HE.out]
      exact balsR.base o4 (by simpa using hw0)
    · have hkn : k = n := by omega
      subst hkn
      go_wp2
      go_ret
      refine ⟨_, F, rfl, ?_, hbl⟩
      rw [← HN.out, addTo_end] at ho
      exact ho
end Go.Proofs.Ytnefocpgjcmocaa

/-
  LedgerResult. (Written by program: nest.py.)
-/
namespace Go.Proofs.Ytnefocpgjcmocaa
open Go.RowKit
set_option linter.unusedSectionVars false
variable [DecidableEq Bal] [Inhabited Bal] [DecidableEq Ledg] [Inhabited Ledg]
attribute [local go_sem ↓] Go.wp_at_zero Go.wp_at_succ

set_option linter.unusedSimpArgs false

structure LedgR where
  code : Int
  ledger : Ledg
variable [DecidableEq LedgR] [Inhabited LedgR]

def ledgRR : Rep LedgR where
  V := fun w v x => ∃ u1_1, v = .agg #[.int .i64 x.code, u1_1] ∧ ledgR.V w (.agg #[u1_1]) x.ledger
  O := fun w base F v x => ∃ u1_1 F1, v = .agg #[.int .i64 x.code, u1_1] ∧ ledgR.O w base F1 (.agg #[u1_1]) x.ledger ∧ (∀ b, F b ↔ (F1 b))
  below := fun h hb => by
    obtain ⟨u1_1, rfl, h1⟩ := h
    exact ⟨u1_1, rfl, ledgR.below h1 hb⟩
  ofO := fun h => by
    obtain ⟨u1_1, F1, rfl, h1, _⟩ := h
    exact ⟨u1_1, rfl, ledgR.ofO h1⟩
  mod := fun h hm hd => by
    obtain ⟨u1_1, F1, rfl, h1, hF⟩ := h
    exact ⟨u1_1, F1, rfl, ledgR.mod h1 hm (fun b hb => hd b ((hF b).2 hb)), hF⟩
  rng := fun h b hb => by
    obtain ⟨u1_1, F1, rfl, h1, hF⟩ := h
    rcases (hF b).1 hb with hb
    · exact ledgR.rng h1 b hb
  base := fun h hb => by
    obtain ⟨u1_1, F1, rfl, h1, hF⟩ := h
    exact ⟨u1_1, F1, rfl, ledgR.base h1 hb, hF⟩
def wtLedgR (x : LedgR) : Nat := wtLedg x.ledger
def cntLedgR (x : LedgR) : Nat := cntLedg x.ledger
def mkLedgR (k : Int) (x : LedgR) : LedgR := { x with ledger := mkLedg k x.ledger }
theorem ledgR_form {w : World} {v : Value} {x : LedgR} (h : ledgRR.V w v x) : ∃ a1_1 c1_1, v = .agg #[.int .i64 x.code, .slice a1_1 x.ledger.shards.length c1_1] := by
  obtain ⟨u1_1, rfl, h1⟩ := h
  obtain ⟨a1_1, c1_1, e1⟩ := ledg_form h1
  simp only [Value.agg.injEq, Array.mk.injEq, List.cons.injEq, and_true] at e1
  obtain rfl := e1
  exact ⟨_, _, rfl⟩
theorem ledgR_cnt (d : LedgR) : cntLedgR d ≤ 3 * wtLedgR d := by
  unfold cntLedgR wtLedgR
  have q1 := ledg_cnt d.ledger
  omega
set_option maxHeartbeats 1000000 in
theorem eqLedgerResult_u (x y : Value) (d d' : LedgR) (w : World) (hx : ledgRR.V w x d) (hy : ledgRR.V w y d') :
    Calls Try.prog 10 #[x, y] w fun e w' => e = .returned (.bool (decide (d = d'))) ∧ Below w.heap.size w w' := by
  obtain ⟨u1_1, rfl, h1⟩ := hx
  obtain ⟨v1_1, rfl, k1⟩ := hy
  obtain ⟨code, ledger⟩ := d
  obtain ⟨code', ledger'⟩ := d'
  dsimp only at h1 k1
  go_enter Try.func10, Try.ntmps10
  go_wp2_with fail
  all_goals try (go_ret; exact ⟨by simp_all, by (repeat (first | exact Below.refl _ _ | assumption | refine Below.drew ?_ | refine balloc ?_ _ | refine bset ?_ (by simp; omega) _ | refine bset ?_ (by simp) _ | refine bstep ?_ (by assumption)))⟩)
  refine (eqLedger_u _ _ ledger ledger' _ (ledgR.below h1 (by (repeat (first | exact Below.refl _ _ | assumption | refine Below.drew ?_ | refine balloc ?_ _ | refine bset ?_ (by simp; omega) _ | refine bset ?_ (by simp) _ | refine bstep ?_ (by assumption))))) (ledgR.below k1 (by (repeat (first | exact Below.refl _ _ | assumption | refine Below.drew ?_ | refine balloc ?_ _ | refine bset ?_ (by simp; omega) _ | refine bset ?_ (by simp) _ | refine bstep ?_ (by assumption)))))).mono ?_
  rintro e w1 ⟨rfl, b1⟩
  go_wp2
  all_goals
    go_ret
    exact ⟨by simp_all, by (repeat (first | exact Below.refl _ _ | assumption | refine Below.drew ?_ | refine balloc ?_ _ | refine bset ?_ (by simp; omega) _ | refine bset ?_ (by simp) _ | refine bstep ?_ (by assumption)))⟩
set_option maxHeartbeats 1000000 in
theorem markLedgerResult_u (v : Value) (d : LedgR) (base : Nat) (F : Nat → Prop) (k : Int) (w : World) (ho : ledgRR.O w base F v d) (hw : wtLedgR d ≤ 1048576) (hn : k + cntLedgR d ≤ 1073741824) (hk0 : 0 ≤ k) :
    Calls Try.prog 15 #[v, .int .i64 k] w fun r w' => r = .returned (.int .i64 (k + cntLedgR d)) ∧ ledgRR.O w' base F v (mkLedgR k d) ∧ Mod F w w' := by
  obtain ⟨u1_1, F1, rfl, h1, hF⟩ := ho
  unfold wtLedgR at hw
  unfold cntLedgR at hn ⊢
  have HF : Hid (∀ b, F b ↔ (F1 b)) := hF
  clear hF
  go_enter Try.func15, Try.ntmps15
  go_wp2_with fail
  refine (markLedger_u _ d.ledger base F1 k _ (ledgR.alloc h1 _) (by omega) (by omega) (by omega)).mono ?_
  rintro e w1 ⟨rfl, r1, m1⟩
  go_wp2
  go_ret
  refine ⟨?_, ⟨_, F1, rfl, r1, HF.out⟩, ((Mod.refl F w).alloc _).trans (m1.mono (fun b hb => (HF.out b).2 hb))⟩
  simp
  try omega
set_option maxHeartbeats 1000000 in
theorem heldLedgerResult_u (v : Value) (d : LedgR) (k : Int) (w : World) (hv : ledgRR.V w v (mkLedgR k d)) (hw : wtLedgR d ≤ 1048576) (hn : k + cntLedgR d ≤ 1073741824) (hk0 : 0 ≤ k) :
    Calls Try.prog 16 #[v, .int .i64 k] w fun r w' => r = .returned (.int .i64 (k + cntLedgR d)) ∧ Below w.heap.size w w' := by
  obtain ⟨u1_1, rfl, h1⟩ := hv
  unfold wtLedgR at hw
  unfold cntLedgR at hn ⊢
  go_enter Try.func16, Try.ntmps16
  go_wp2_with fail
  refine (heldLedger_u _ d.ledger k _ (ledgR.below h1 (by (repeat (first | exact Below.refl _ _ | assumption | refine Below.drew ?_ | refine balloc ?_ _ | refine bset ?_ (by simp; omega) _ | refine bset ?_ (by simp) _ | refine bstep ?_ (by assumption))))) (by omega) (by omega) (by omega)).mono ?_
  rintro e w1 ⟨rfl, b1⟩
  go_wp2
  go_ret
  refine ⟨?_, by (repeat (first | exact Below.refl _ _ | assumption | refine Below.drew ?_ | refine balloc ?_ _ | refine bset ?_ (by simp; omega) _ | refine bset ?_ (by simp) _ | refine bstep ?_ (by assumption)))⟩
  simp
  try omega
end Go.Proofs.Ytnefocpgjcmocaa

/-
  A row of values that own memory, and one more appended.
-/
namespace Go.Proofs.Ytnefocpgjcmocaa
open Go.RowKit

theorem PO.append {α : Type} {R : Rep α} {e size : Nat} {lv : Value → List Value} {w Y w' : World} {base : Nat} {v v' : Value} {n : Nat} {d : Nat → α} {cs : List Value} {us : Nat → Value} {fs : Nat → Nat → Prop} {u : Value} {F' : Nat → Prop}
    (h : PO R e size lv w base v n n d cs us fs) (hbs : base ≤ w.heap.size) (hb : Below w.heap.size w Y) (hu : R.O Y w.heap.size F' u (d n)) (hl : (lv u).length = size)
    (hr : w'.ownsRow base e size v' (n + 1) (cs ++ lv u)) (hg : Y.grownBy w' v.ownBlock) (hloc : v'.ownBlock = v.ownBlock ∨ ∃ g, v'.ownBlock = some g ∧ Y.heap.size ≤ g) :
    PO R e size lv w' base v' (n + 1) (n + 1) d (cs ++ lv u) (upd us n u) (upd fs n F') := by
  have hlt : ∀ b, v.ownBlock = some b → b < w.heap.size := fun b hb => (h.row.lt b hb).2
  have hF : ∀ b, F' b → w.heap.size ≤ b ∧ b < Y.heap.size := fun b hb => R.rng hu b hb
  have hfs : ∀ i, i < n → ∀ b, fs i b → b < w.heap.size := fun i hi b hb => (R.rng (h.el i hi) b hb).2
  have hcl : cs.length = n * size := h.row.1
  refine ⟨hr, ?_, ?_, ?_, ?_, ?_⟩
  · intro i hi
    by_cases hik : i = n
    · subst hik
      rw [upd_at, upd_at]
      exact R.base (R.mod hu (Mod.of_grown hg) (fun b hb he => by have := hlt b he; have := (hF b hb).1; omega)) hbs
    · rw [upd_ne _ _ hik, upd_ne _ _ hik]
      exact R.mod (R.keep (h.el i (by omega)) hb) (Mod.of_grown hg) (fun b hb => h.out i (by omega) b hb)
  · intro i hi
    by_cases hik : i = n
    · subst hik; rw [upd_at]; exact hl
    · rw [upd_ne _ _ hik]; exact h.ln i (by omega)
  · intro i hi j hj
    by_cases hik : i = n
    · subst hik
      rw [upd_at, List.getElem?_append_right (by omega), hcl]
      congr 1
      omega
    · rw [upd_ne _ _ hik, ← h.cell i (by omega) j hj, List.getElem?_append_left]
      rw [hcl]
      have : i * size + size ≤ n * size := by rw [← Nat.succ_mul]; exact Nat.mul_le_mul_right _ (by omega)
      omega
  · intro i hi b hb he
    by_cases hik : i = n
    · subst hik
      rw [upd_at] at hb
      rcases hloc with hloc | ⟨g, hg', hge⟩
      · rw [hloc] at he
        have := hlt b he; have := (hF b hb).1; omega
      · rw [hg'] at he
        simp only [Option.some.injEq] at he
        have := (hF b hb).2; omega
    · rw [upd_ne _ _ hik] at hb
      rcases hloc with hloc | ⟨g, hg', hge⟩
      · rw [hloc] at he
        exact h.out i (by omega) b hb he
      · rw [hg'] at he
        simp only [Option.some.injEq] at he
        have := hfs i (by omega) b hb
        have := hb
        have := h.row
        have := hlt
        have hYw : w.heap.size ≤ Y.heap.size := by
          have := ‹Below w.heap.size w Y›
          exact this.size
        omega
  · intro i j hi hj hij b h1 h2
    by_cases hik : i = n
    · subst hik
      rw [upd_at] at h1
      rw [upd_ne _ _ (Ne.symm hij)] at h2
      have := (hF b h1).1; have := hfs j (by omega) b h2; omega
    · rw [upd_ne _ _ hik] at h1
      by_cases hjk : j = n
      · subst hjk
        rw [upd_at] at h2
        have := (hF b h2).1; have := hfs i (by omega) b h1; omega
      · rw [upd_ne _ _ hjk] at h2
        exact h.sep i j (by omega) (by omega) hij b h1 h2
section
variable {P : Program} (w : World)
theorem step_append_at {ops : Array Oper} {o : Oper} {a : Act} {K : Act → World → Prop} {Q : Exit → Act → World → Prop} {E : Prop} (hgd : o.guard = none) (s x : Operand) (t : TypeId)
    (ho : o.op = .call { callee := .builtin .append, args := #[s, x], argTypes := #[t, t] })
    (base : Nat) (e : TypeId) (i : TypeInfo) (z : Value) (size bytes : Nat) (ht : P.underlying t = some (.slice e)) (hi : P.info? e = some i) (hz : i.zero = some z)
    (hsize : i.size = size) (hby : i.bytes = bytes) (hzs : z.cells.size = size) (hsz : 0 < size)
    (v : Value) (n : Nat) (xs : List Value) (hs : a.eval s = v) (hown : w.ownsRow base e size v n xs)
    (ad : Addr) (m c : Nat) (news : List Value) (hx : a.eval x = .slice (some ad) m c) (hl : news.length = m * size) (hnews : ∀ j u, news[j]? = some u → w.cell? (ad.add j) = some u) (h1 : ∀ u ∈ news, u.oneCell' = true)
    (h63 : n + m ≤ maxLen) (hbytes : (n + m) * bytes ≤ 140737488355328) (hbase : base ≤ w.heap.size)
    (h : ∀ v' w', w'.ownsRow base e size v' (n + m) (xs ++ news) → w.grownBy w' v.ownBlock → (v'.ownBlock = v.ownBlock ∨ v'.ownBlock = some w.heap.size) → K (a.put o.dst v') w') :
    if Region.wanted o (yielded ops a.tmps) = true then Oper.wp P o a w K Q else E := by
  have hw : Region.wanted o (yielded ops a.tmps) = true := by simp [Region.wanted, hgd]
  rw [if_pos hw]
  obtain ⟨v', w', hr, h2, h3, _, h5⟩ := run_append_own_at (P := P) w base t o.type e i z size bytes ht hi hz hsize hby hzs hsz v n xs hown ad m c news hl hnews h1 h63 hbytes hbase
  unfold Oper.wp execOp
  simp only [ho, resolve, invoke, builtin, Sem.run_bind, Sem.run_pure, Result.andThen_ok, List.map_toArray, List.map_cons, List.map_nil, hs, hx, hr]
  exact h v' w' h2 h3 h5
end

end Go.Proofs.Ytnefocpgjcmocaa

/-
  The specification's l2Settle: legs added, shard by shard.
-/
namespace Go.Proofs.Ytnefocpgjcmocaa
open Go.RowKit
set_option linter.unusedSectionVars false
variable [DecidableEq Bal] [Inhabited Bal] [DecidableEq Ledg] [Inhabited Ledg] [DecidableEq Leg] [Inhabited Leg] [DecidableEq Cont] [Inhabited Cont] [DecidableEq LedgR] [Inhabited LedgR]
set_option linter.unusedVariables false
set_option linter.unusedSimpArgs false
attribute [local go_sem ↓] Go.wp_at_zero Go.wp_at_succ

def settleAt (g : List (List Bal)) (ls : List Leg) (i : Nat) : List Bal := addB (g.getD i default) (onSh i ls)
def settleL (g : List (List Bal)) (ls : List Leg) : List (List Bal) := (List.range g.length).map (settleAt g ls)
theorem settleL_len (g : List (List Bal)) (ls : List Leg) : (settleL g ls).length = g.length := by simp [settleL]
theorem settleL_get (g : List (List Bal)) (ls : List Leg) {i : Nat} (h : i < g.length) : (settleL g ls).getD i default = settleAt g ls i := by simp [settleL, List.getD, h]
theorem mod_frozen {F : Nat → Prop} {w w' : World} (h : Mod F w w') {a : Addr} (hl : a.block < w.heap.size) (hn : ¬ F a.block) : w'.frozen? a = w.frozen? a := World.frozen?_of_block (h.block a.block hl hn)
structure StSt (w W : World) (n : Nat) (ag : Option Addr) (cg : Nat) (id : Int) (ac : Option Addr) (m cc : Nat) (v : Value) : Prop where
  g0 : W.cell? ⟨w.heap.size, 0, none⟩ = some (.slice ag n cg)
  y0 : W.cell? ⟨w.heap.size + 1, 0, none⟩ = some (.int .i64 id)
  y1 : W.cell? ⟨w.heap.size + 1, 1, none⟩ = some (.slice ac m cc)
  r0 : W.cell? ⟨w.heap.size + 1 + 1, 0, none⟩ = some (.slice none 0 0)
  o0 : W.cell? ⟨w.heap.size + 1 + 1 + 1, 0, none⟩ = some v
  rf : ∀ o, W.frozen? ⟨w.heap.size + 1 + 1, o, none⟩ = false
  of : ∀ o, W.frozen? ⟨w.heap.size + 1 + 1 + 1, o, none⟩ = false
  sz : w.heap.size + 4 ≤ W.heap.size
  blw : Below w.heap.size w W
theorem StSt.mod {w W W' : World} {n : Nat} {ag : Option Addr} {cg : Nat} {id : Int} {ac : Option Addr} {m cc : Nat} {v : Value} {F : Nat → Prop} (h : StSt w W n ag cg id ac m cc v) (hm : Mod F W W') (hF : ∀ b, F b → w.heap.size + 4 ≤ b) : StSt w W' n ag cg id ac m cc v := by
  have hsz := h.sz
  have hn : ∀ b, b < w.heap.size + 4 → ¬ F b := fun b hb e => by have := hF b e; omega
  exact ⟨hm.cell h.g0 (hn _ (by dsimp only; omega)), hm.cell h.y0 (hn _ (by dsimp only; omega)), hm.cell h.y1 (hn _ (by dsimp only; omega)), hm.cell h.r0 (hn _ (by dsimp only; omega)), hm.cell h.o0 (hn _ (by dsimp only; omega)),
    fun o => (mod_frozen hm (a := ⟨w.heap.size + 1 + 1, o, none⟩) (by dsimp only; omega) (hn _ (by dsimp only; omega))).trans (h.rf o), fun o => (mod_frozen hm (a := ⟨w.heap.size + 1 + 1 + 1, o, none⟩) (by dsimp only; omega) (hn _ (by dsimp only; omega))).trans (h.of o), Nat.le_trans hsz hm.size, hm.below h.blw (by omega) (fun b hb => by have := hF b hb; omega)⟩
theorem StSt.below {w W W' : World} {n : Nat} {ag : Option Addr} {cg : Nat} {id : Int} {ac : Option Addr} {m cc : Nat} {v : Value} (h : StSt w W n ag cg id ac m cc v) (hb : Below W.heap.size W W') : StSt w W' n ag cg id ac m cc v :=
  h.mod (F := fun _ => False) (Mod.of_below hb) (fun _ e => e.elim)
theorem StSt.put {w W : World} {n : Nat} {ag : Option Addr} {cg : Nat} {id : Int} {ac : Option Addr} {m cc : Nat} {v : Value} (h : StSt w W n ag cg id ac m cc v) (v' : Value) : StSt w (W.setCell ⟨w.heap.size + 1 + 1 + 1, 0, none⟩ v') n ag cg id ac m cc v' :=
  ⟨by rw [set_other (by simp)]; exact h.g0, by rw [set_other (by simp)]; exact h.y0, by rw [set_other (by simp)]; exact h.y1, by rw [set_other (by simp)]; exact h.r0, set_same h.o0, fun o => by rw [World.frozen?_setCell]; exact h.rf o, fun o => by rw [World.frozen?_setCell]; exact h.of o, by simpa using h.sz, h.blw.setCell (by dsimp only; omega) _⟩
theorem StSt.all {w W : World} {n : Nat} {ag : Option Addr} {cg : Nat} {id : Int} {ac : Option Addr} {m cc : Nat} {v : Value} {b o k : Nat} {u : Value} (h : StSt w W n ag cg id ac m cc v) (hc : W.cell? ⟨b, o + k, none⟩ = some u) :
    StSt w W n ag cg id ac m cc v ∧ W.cell? ⟨w.heap.size + 1 + 1 + 1, 0, none⟩ = some v ∧ W.cell? ⟨w.heap.size, 0, none⟩ = some (.slice ag n cg) ∧ W.cell? ⟨w.heap.size + 1, 0, none⟩ = some (.int .i64 id) ∧ W.cell? ⟨w.heap.size + 1, 1, none⟩ = some (.slice ac m cc) ∧ W.cell? ⟨b, o + k, none⟩ = some u :=
  ⟨h, h.o0, h.g0, h.y0, h.y1, hc⟩
set_option maxRecDepth 20000 in
set_option maxHeartbeats 8000000 in
theorem l2Settle_any (x y : Value) (g : Ledg) (c : Cont) (w : World) (hx : ledgR.V w x g) (hy : contR.V w y c) (hok : ∀ i, i < g.shards.length → AddOk (g.shards.getD i default) (onSh i c.legs)) (hn : g.shards.length ≤ 1000) (hl : c.legs.length ≤ 1048576) :
    Calls Try.prog 20 #[x, y] w fun e w' => ∃ v F, e = .returned v ∧ ledgR.O w' w.heap.size F v ⟨settleL g.shards c.legs⟩ ∧ Below w.heap.size w w' := by
  obtain ⟨u1, rfl, hx⟩ := hx
  obtain ⟨u2, rfl, hy⟩ := hy
  obtain ⟨ag, cg, rfl⟩ := balss_form hx
  obtain ⟨ac, cc, rfl⟩ := legs_form hy
  obtain ⟨i0, hi, hz0, hz1, hz2⟩ := info_parts infoBalss
  obtain ⟨gs⟩ := g
  obtain ⟨id, ls⟩ := c
  dsimp only at *
  have HOK : Hid (∀ i, i < gs.length → AddOk (gs.getD i default) (onSh i ls)) := hok
  have HL : Hid (∀ W, Below w.heap.size w W → LegsV W (.slice ac ls.length cc) ls) := fun W hW => LegsV_below hy hW
  have HLN : Hid (ls.length ≤ 1048576) := hl
  have HB : Hid (∀ k, k < gs.length → ∃ b o u cu, ag = some ⟨b, o, none⟩ ∧ b < w.heap.size ∧ w.cell? ⟨b, o + k, none⟩ = some (.slice u (gs.getD k default).length cu) ∧ balsR.V w (.slice u (gs.getD k default).length cu) (gs.getD k default)) := fun k hk => by
    obtain ⟨a9, c9, e9, _, _, h9⟩ := hx
    simp only [Value.slice.injEq] at e9
    obtain ⟨b, o, u, e, _, hc, hu⟩ := h9 k hk
    obtain ⟨ua, uc, rfl⟩ := bals_form hu
    exact ⟨b, o, ua, uc, e9.1.trans e, World.block_lt_of_cell? _ _ (cells1 hc), cells1 hc, hu⟩
  clear hx hy hok hl
  obtain ⟨n, hn'⟩ : ∃ n, n = gs.length := ⟨_, rfl⟩
  have HN : Hid (gs.length = n) := hn'.symm
  obtain ⟨m, hm'⟩ : ∃ m, m = ls.length := ⟨_, rfl⟩
  rw [← hm'] at HL
  rw [← hn'] at hn
  rw [← hn', ← hm']
  clear hn' hm'
  go_enter Try.func20, Try.ntmps20
  go_wp2
  go_loopw [6] (fun i W => ∃ (k : Nat) (a : Option Addr) (c : Nat) (cs : List Value) (us : Nat → Value) (fs : Nat → Nat → Prop), k ≤ n ∧ i = .int .i64 k ∧ Hid (PO balsR 67 1 one W (w.heap.size + 4) (.slice a k c) k k (settleAt gs ls) cs us fs) ∧ Hid (StSt w W n ag cg id ac m cc (.slice a k c))) (fun i _ => n - (intOf i).toNat)
  case atStart =>
    refine ⟨0, none, 0, [], fun _ => .slice none 0 0, fun _ _ => False, Nat.zero_le _, rfl, ⟨World.ownsRow_nil _ _ _ _, fun i h => absurd h (Nat.not_lt_zero _), fun i h => absurd h (Nat.not_lt_zero _), fun i h => absurd h (Nat.not_lt_zero _), fun i h => absurd h (Nat.not_lt_zero _), fun i j h => absurd h (Nat.not_lt_zero _)⟩, ?_⟩
    exact ⟨by simp [go_sem], by simp [go_sem], by simp [go_sem], by simp [go_sem], by simp [go_sem], fun o => by simp [go_sem], fun o => by simp [go_sem], by simp, by (repeat (first | exact Below.refl _ _ | assumption | refine Below.drew ?_ | refine balloc ?_ _ | refine bset ?_ (by simp; omega) _ | refine bset ?_ (by simp) _ | refine bstep ?_ (by assumption)))⟩
  case round =>
    obtain ⟨k, a, c, cs, us, fs, hk, rfl, HP, HS⟩ := hrel
    rename World => w5
    obtain ⟨g0, y0, y1, r0, o0, rf, of, sz, blw⟩ := HS.out
    by_cases hkn : k < n
    · have hk' : (k : Int) < n := by omega
      have hk0 : (0 : Int) ≤ k := by omega
      have hwk : IntKind.i64.wrap ((k : Int) + 1) = (k : Int) + 1 := wrapId (by omega) (by omega)
      obtain ⟨b, o, u, cu, rfl, hbz, hcu, hBV⟩ := HB.out k (by rw [HN.out]; exact hkn)
      have hAO := HOK.out k (by rw [HN.out]; exact hkn)
      have HAO : Hid (AddOk (gs.getD k default) (onSh k ls)) := hAO
      have HBV : Hid (∀ W, Below w.heap.size w W → balsR.V W (.slice u (gs.getD k default).length cu) (gs.getD k default)) := fun W hW => balsR.below hBV hW
      clear hAO hBV
      obtain ⟨lb, hlb⟩ : ∃ lb, lb = (gs.getD k default).length := ⟨_, rfl⟩
      rw [← hlb] at hcu HBV
      clear hlb
      have hc5 := cell_keep blw hcu
      go_wp2
      refine wp_region_noPanic ?_
      refine region_upto (fun W => StSt w W n (some ⟨b, o, none⟩) cg id ac m cc (.slice a k c) ∧ W.cell? ⟨w.heap.size + 1 + 1 + 1, 0, none⟩ = some (.slice a k c) ∧ W.cell? ⟨w.heap.size, 0, none⟩ = some (.slice (some ⟨b, o, none⟩) n cg) ∧ W.cell? ⟨w.heap.size + 1, 0, none⟩ = some (.int .i64 id) ∧ W.cell? ⟨w.heap.size + 1, 1, none⟩ = some (.slice ac m cc) ∧ W.cell? ⟨b, o + k, none⟩ = some (.slice u lb cu)) 14 (by kernel_rfl) ((HS.out.below (by (repeat (first | exact Below.refl _ _ | assumption | refine Below.drew ?_ | refine balloc ?_ _ | refine bset ?_ (by simp; omega) _ | refine bset ?_ (by simp) _ | refine bstep ?_ (by assumption))))).all (cell_keep (by (repeat (first | exact Below.refl _ _ | assumption | refine Below.drew ?_ | refine balloc ?_ _ | refine bset ?_ (by simp; omega) _ | refine bset ?_ (by simp) _ | refine bstep ?_ (by assumption)))) hc5)) (fun hS => ?_)
      refine upto_take (i := 0) (v := ?_) rfl (by kernel_rfl) (by kernel_rfl) (by kernel_rfl) (by kernel_rfl) (fun _ _ _ h => h) (by rfl) hS ?_ ?_
      rotate_left
      · intro wS hSw
        try dsimp only at hSw
        first | (go_simp; done) | (go_simp; with_reducible rfl)
      try simp only [Act.put, List.getElem_toArray, List.getElem_cons_zero, List.getElem_cons_succ, List.setIfInBounds_toArray, List.set_cons_zero, List.set_cons_succ]
      refine upto_take (i := 1) (v := ?_) rfl (by kernel_rfl) (by kernel_rfl) (by kernel_rfl) (by kernel_rfl) (fun _ _ _ h => h) (by rfl) hS ?_ ?_
      rotate_left
      · intro wS hSw
        try dsimp only at hSw
        first | (go_simp; done) | (go_simp; with_reducible rfl)
      try simp only [Act.put, List.getElem_toArray, List.getElem_cons_zero, List.getElem_cons_succ, List.setIfInBounds_toArray, List.set_cons_zero, List.set_cons_succ]
      refine upto_take (i := 2) (v := ?_) rfl (by kernel_rfl) (by kernel_rfl) (by kernel_rfl) (by kernel_rfl) (fun _ _ _ h => h) (by rfl) hS ?_ ?_
      rotate_left
      · intro wS hSw
        try dsimp only at hSw
        first | (go_simp; done) | (go_simp; with_reducible rfl)
      try simp only [Act.put, List.getElem_toArray, List.getElem_cons_zero, List.getElem_cons_succ, List.setIfInBounds_toArray, List.set_cons_zero, List.set_cons_succ]
      refine upto_take (i := 3) (v := ?_) rfl (by kernel_rfl) (by kernel_rfl) (by kernel_rfl) (by kernel_rfl) (fun _ _ _ h => h) (by rfl) hS ?_ ?_
      rotate_left
      · intro wS hSw
        try dsimp only at hSw
        first | (go_simp; done) | (go_simp; with_reducible rfl)
      try simp only [Act.put, List.getElem_toArray, List.getElem_cons_zero, List.getElem_cons_succ, List.setIfInBounds_toArray, List.set_cons_zero, List.set_cons_succ]
      refine upto_take (i := 4) (v := ?_) rfl (by kernel_rfl) (by kernel_rfl) (by kernel_rfl) (by kernel_rfl) (fun _ _ _ h => h) (by rfl) hS ?_ ?_
      rotate_left
      · intro wS hSw
        try dsimp only at hSw
        first | (go_simp; done) | (go_simp; with_reducible rfl)
      try simp only [Act.put, List.getElem_toArray, List.getElem_cons_zero, List.getElem_cons_succ, List.setIfInBounds_toArray, List.set_cons_zero, List.set_cons_succ]
      refine upto_take (i := 5) (v := ?_) rfl (by kernel_rfl) (by kernel_rfl) (by kernel_rfl) (by kernel_rfl) (fun _ _ _ h => h) (by rfl) hS ?_ ?_
      rotate_left
      · intro wS hSw
        try dsimp only at hSw
        first | (go_simp; done) | (go_simp; with_reducible rfl)
      try simp only [Act.put, List.getElem_toArray, List.getElem_cons_zero, List.getElem_cons_succ, List.setIfInBounds_toArray, List.set_cons_zero, List.set_cons_succ]
      refine upto_take (i := 6) (v := ?_) rfl (by kernel_rfl) (by kernel_rfl) (by kernel_rfl) (by kernel_rfl) (fun _ _ _ h => h) (by rfl) hS ?_ ?_
      rotate_left
      · intro wS hSw
        try dsimp only at hSw
        first | (go_simp; done) | (go_simp; with_reducible rfl)
      try simp only [Act.put, List.getElem_toArray, List.getElem_cons_zero, List.getElem_cons_succ, List.setIfInBounds_toArray, List.set_cons_zero, List.set_cons_succ]
      refine upto_take (i := 7) (v := ?_) rfl (by kernel_rfl) (by kernel_rfl) (by kernel_rfl) (by kernel_rfl) (fun _ _ _ h => h) (by rfl) hS ?_ ?_
      rotate_left
      · intro wS hSw
        try dsimp only at hSw
        first | (go_simp; done) | (go_simp; with_reducible rfl)
      try simp only [Act.put, List.getElem_toArray, List.getElem_cons_zero, List.getElem_cons_succ, List.setIfInBounds_toArray, List.set_cons_zero, List.set_cons_succ]
      refine upto_take (i := 8) (v := ?_) rfl (by kernel_rfl) (by kernel_rfl) (by kernel_rfl) (by kernel_rfl) (fun _ _ _ h => h) (by rfl) hS ?_ ?_
      rotate_left
      · intro wS hSw
        try dsimp only at hSw
        first | (go_simp; done) | (go_simp; with_reducible rfl)
      try simp only [Act.put, List.getElem_toArray, List.getElem_cons_zero, List.getElem_cons_succ, List.setIfInBounds_toArray, List.set_cons_zero, List.set_cons_succ]
      refine upto_step (i := 9) (by kernel_rfl) rfl ?_
      intro K hK
      go_simp
      refine (l1Legs_any id _ ls k _ (HL.out _ hS.1.blw) HLN.out).mono ?_
      rintro e w6 ⟨v6, rfl, o6, hb6⟩
      have hS6 : (fun W => StSt w W n (some ⟨b, o, none⟩) cg id ac m cc (.slice a k c) ∧ W.cell? ⟨w.heap.size + 1 + 1 + 1, 0, none⟩ = some (.slice a k c) ∧ W.cell? ⟨w.heap.size, 0, none⟩ = some (.slice (some ⟨b, o, none⟩) n cg) ∧ W.cell? ⟨w.heap.size + 1, 0, none⟩ = some (.int .i64 id) ∧ W.cell? ⟨w.heap.size + 1, 1, none⟩ = some (.slice ac m cc) ∧ W.cell? ⟨b, o + k, none⟩ = some (.slice u lb cu)) w6 := (hS.1.below hb6).all (cell_keep hb6 hS.2.2.2.2.2)
      obtain ⟨p6, q6, e6⟩ : ∃ p6 q6, v6 = .slice p6 (onSh k ls).length q6 := by
        obtain ⟨p6, q6, e, _⟩ := LegsV_of_owns o6
        exact ⟨p6, q6, e⟩
      subst e6
      have HV6 : Hid (legsR.V w6 (.slice p6 (onSh k ls).length q6) (onSh k ls)) := LegsV_of_owns o6
      clear o6
      have hb56 : Below w5.heap.size w5 w6 := bstep (by (repeat (first | exact Below.refl _ _ | assumption | refine Below.drew ?_ | refine balloc ?_ _ | refine bset ?_ (by simp; omega) _ | refine bset ?_ (by simp) _ | refine bstep ?_ (by assumption)))) hb6
      refine hK _ _ (fun _ => hS6) ?_
      clear hK K hS hb6
      try simp only [Act.put, List.getElem_toArray, List.getElem_cons_zero, List.getElem_cons_succ, List.setIfInBounds_toArray, List.set_cons_zero, List.set_cons_succ]
      refine upto_step (i := 10) (by kernel_rfl) rfl ?_
      intro K hK
      go_simp
      refine (l2Add_any _ _ (gs.getD k default) (onSh k ls) _ (HBV.out _ hS6.1.blw) HV6.out HAO.out).mono ?_
      rintro e w7 ⟨v7, F7, rfl, o7, hb7⟩
      obtain ⟨p7, q7, rfl⟩ := bals_form (balsR.ofO o7)
      have hS7 : (fun W => StSt w W n (some ⟨b, o, none⟩) cg id ac m cc (.slice a k c) ∧ W.cell? ⟨w.heap.size + 1 + 1 + 1, 0, none⟩ = some (.slice a k c) ∧ W.cell? ⟨w.heap.size, 0, none⟩ = some (.slice (some ⟨b, o, none⟩) n cg) ∧ W.cell? ⟨w.heap.size + 1, 0, none⟩ = some (.int .i64 id) ∧ W.cell? ⟨w.heap.size + 1, 1, none⟩ = some (.slice ac m cc) ∧ W.cell? ⟨b, o + k, none⟩ = some (.slice u lb cu)) w7 := (hS6.1.below hb7).all (cell_keep hb7 hS6.2.2.2.2.2)
      have hb57 : Below w5.heap.size w5 w7 := bstep hb56 hb7
      have HO7 : Hid (balsR.O w7 w5.heap.size F7 (.slice p7 (settleAt gs ls k).length q7) (settleAt gs ls k)) := balsR.base o7 (by have := hb56.size; omega)
      refine hK _ _ (fun _ => hS7) ?_
      clear hK K hS6 hb7 o7 HV6 hb56
      have hlL : (addB (gs.getD k default) (onSh k ls)).length = (settleAt gs ls k).length := rfl
      rw [hlL]
      clear hlL
      generalize hq7 : (settleAt gs ls k).length = l7 at *
      have HL7 : Hid ((settleAt gs ls k).length = l7) := hq7
      clear hq7
      try simp only [Act.put, List.getElem_toArray, List.getElem_cons_zero, List.getElem_cons_succ, List.setIfInBounds_toArray, List.set_cons_zero, List.set_cons_succ]
      refine upto_step (i := 11) (by kernel_rfl) rfl ?_
      intro K hK
      go_simp
      have hb58 : Below w5.heap.size w5 (w7.alloc (.cells #[.slice p7 l7 q7] 67)) := balloc hb57 _
      have hS8 : (fun W => StSt w W n (some ⟨b, o, none⟩) cg id ac m cc (.slice a k c) ∧ W.cell? ⟨w.heap.size + 1 + 1 + 1, 0, none⟩ = some (.slice a k c) ∧ W.cell? ⟨w.heap.size, 0, none⟩ = some (.slice (some ⟨b, o, none⟩) n cg) ∧ W.cell? ⟨w.heap.size + 1, 0, none⟩ = some (.int .i64 id) ∧ W.cell? ⟨w.heap.size + 1, 1, none⟩ = some (.slice ac m cc) ∧ W.cell? ⟨b, o + k, none⟩ = some (.slice u lb cu)) (w7.alloc (.cells #[.slice p7 l7 q7] 67)) := (hS7.1.below (balloc (Below.refl _ _) _)).all (cell_keep (balloc (Below.refl _ _) _) hS7.2.2.2.2.2)
      refine hK _ _ (fun _ => hS8) ?_
      clear hK K hS7
      try simp only [Act.put, List.getElem_toArray, List.getElem_cons_zero, List.getElem_cons_succ, List.setIfInBounds_toArray, List.set_cons_zero, List.set_cons_succ]
      have hO8 : balsR.O (w7.alloc (.cells #[.slice p7 l7 q7] 67)) w5.heap.size F7 (.slice p7 l7 q7) (settleAt gs ls k) := balsR.alloc HO7.out _
      refine upto_step (i := 12) (by kernel_rfl) rfl ?_
      intro K hK
      refine step_append_at _ rfl _ _ 30 rfl (w.heap.size + 4) 67 i0 _ 1 24 Try.underlying30 hi hz0 hz1 hz2 rfl (by decide) _ k cs rfl (owns_below HP.out.row hb58) ⟨w7.heap.size, 0, none⟩ 1 1 [.slice p7 l7 q7] rfl rfl ?_ ?_ (by unfold maxLen; omega) (by omega) (by have := hb58.size; omega) ?_
      · intro j u hj
        match j, hj with
        | 0, hj => simp at hj; subst hj; simp [Addr.add, go_sem]
        | j + 1, hj => simp at hj
      · intro u hu
        rw [List.mem_singleton] at hu
        rw [hu]
        rfl
      intro v9 w9 o9 g9 l9
      have hown : ∀ b, (Value.slice a k c).ownBlock = some b → w.heap.size + 4 ≤ b := fun b hb => (HP.out.row.lt b hb).1
      have HP9 : Hid (PO balsR 67 1 one w9 (w.heap.size + 4) v9 (k + 1) (k + 1) (settleAt gs ls) (cs ++ [.slice p7 l7 q7]) (upd us k (.slice p7 l7 q7)) (upd fs k F7)) := HP.out.append sz hb58 hO8 rfl o9 g9 (l9.imp (fun e => e) (fun e => ⟨_, e, Nat.le_refl _⟩))
      have hS9 : (fun W => StSt w W n (some ⟨b, o, none⟩) cg id ac m cc (.slice a k c) ∧ W.cell? ⟨w.heap.size + 1 + 1 + 1, 0, none⟩ = some (.slice a k c) ∧ W.cell? ⟨w.heap.size, 0, none⟩ = some (.slice (some ⟨b, o, none⟩) n cg) ∧ W.cell? ⟨w.heap.size + 1, 0, none⟩ = some (.int .i64 id) ∧ W.cell? ⟨w.heap.size + 1, 1, none⟩ = some (.slice ac m cc) ∧ W.cell? ⟨b, o + k, none⟩ = some (.slice u lb cu)) w9 := (hS8.1.mod (Mod.of_grown g9) hown).all ((Mod.of_grown g9).cell hS8.2.2.2.2.2 (fun e => by have := hown _ e; dsimp only at this; omega))
      obtain ⟨a9, c9, rfl⟩ : ∃ a9 c9, v9 = .slice a9 (k + 1) c9 := by
        rcases o9.2 with ⟨rfl, h⟩ | ⟨g', cap', _, rfl, _⟩
        · omega
        · exact ⟨_, _, rfl⟩
      refine hK _ _ (fun _ => hS9) ?_
      clear hK K hS8 g9 l9 o9 hO8 HO7 hb57 hb58
      try simp only [Act.put, List.getElem_toArray, List.getElem_cons_zero, List.getElem_cons_succ, List.setIfInBounds_toArray, List.set_cons_zero, List.set_cons_succ]
      refine upto_step (i := 13) (by kernel_rfl) rfl ?_
      intro K hK
      go_simp
      refine hK _ _ (fun _ => hS9) ?_
      clear hK K
      try simp only [Act.put, List.getElem_toArray, List.getElem_cons_zero, List.getElem_cons_succ, List.setIfInBounds_toArray, List.set_cons_zero, List.set_cons_succ]
      obtain ⟨o9', of9⟩ : w9.cell? ⟨w.heap.size + 1 + 1 + 1, 0, none⟩ = some (.slice a k c) ∧ ∀ o, w9.frozen? ⟨w.heap.size + 1 + 1 + 1, o, none⟩ = false := ⟨hS9.1.o0, hS9.1.of⟩
      refine upto_step (i := 14) (by kernel_rfl) rfl ?_
      intro K hK
      go_simp
      refine hK _ _ (fun h => absurd rfl h) ?_
      clear hK K
      refine upto_done (by kernel_rfl) ?_
      refine NoPanic.normal ?_
      have HS10 : Hid (StSt w (w9.setCell ⟨w.heap.size + 1 + 1 + 1, 0, none⟩ (.slice a9 (k + 1) c9)) n (some ⟨b, o, none⟩) cg id ac m cc (.slice a9 (k + 1) c9)) := hS9.1.put _
      have HP10 : Hid (PO balsR 67 1 one (w9.setCell ⟨w.heap.size + 1 + 1 + 1, 0, none⟩ (.slice a9 (k + 1) c9)) (w.heap.size + 4) (.slice a9 (k + 1) c9) (k + 1) (k + 1) (settleAt gs ls) (cs ++ [.slice p7 l7 q7]) (upd us k (.slice p7 l7 q7)) (upd fs k F7)) := HP9.out.mod (Mod.of_set _ _ _) (fun b' hb' e => by have := (HP9.out.row.lt b' hb').1; dsimp only at e; omega) (fun i hi b' hb' e => by have := (balsR.rng (HP9.out.el i hi) b' hb').1; dsimp only at e; omega)
      clear hS9 HP9 o9' of9 g0 y0 y1 r0 o0 rf of sz blw
      go_wp2
      exact ⟨⟨k + 1, _, _, _, _, _, by omega, by go_num, HP10, HS10⟩, by simp [intOf]; omega⟩
    · have hkn' : k = n := by omega
      subst hkn'
      have hk' : ¬ ((k : Int) < k) := by omega
      have HO : Hid (∃ F, balssR.O w5 (w.heap.size + 4) F (.slice a k c) (settleL gs ls)) := by
        refine ⟨_, cs, us, fs, ?_, fun b => Iff.rfl⟩
        rw [settleL_len, HN.out]
        exact HP.out.cast (fun i hi => settleL_get gs ls (by rw [HN.out]; exact hi))
      go_wp2
      refine bodyPost_ret (v := .agg #[.slice a k c]) (by simp [results, Try.results20, go_sem, r0, rf, o0]) rfl ?_
      obtain ⟨F, hO⟩ := HO.out
      exact ⟨_, rfl, ⟨F, _, F, rfl, balssR.base (balssR.set hO _ (by dsimp only; omega)) (by omega), fun b => Iff.rfl⟩, blw.setCell (by first | omega | (dsimp only; omega)) _⟩
end Go.Proofs.Ytnefocpgjcmocaa


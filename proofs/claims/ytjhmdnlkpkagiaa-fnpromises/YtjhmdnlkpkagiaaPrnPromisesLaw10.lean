import Derived.Test.YtjhmdnlkpkagiaaPrnPromisesLaw1
import Derived.Maps.AppendAt
import Derived.Test.YtjhmdnlkpkagiaaPrnPromisesLaw9
import Derived.Deep.RegionHeld3
import Derived.Deep.DrawnRows
import Derived.Test.YtjhmdnlkpkagiaaPrnPromisesLaw8
import Derived.Test.YtjhmdnlkpkagiaaPrnPromisesLaw4
import Derived.PlainAid
import Derived.Laws.BitsAllLaws
import Derived.Lib.ConvBytes
import Derived.Test.YtjhmdnlkpkagiaaPrnPromisesLaw7
import Derived.Deep.QuietTactic
import Derived.Test.YtjhmdnlkpkagiaaPrnPromisesLaw6
import Derived.Test.YtjhmdnlkpkagiaaPrnPromisesLaw3
import Derived.Deep.RegionLawGrows

/-
  A row of values that own memory, and one more appended.
-/
namespace Go.Proofs.Ytjhmdnlkpkagiaa
open Go.RowKit

theorem PO.append {α : Type} {R : Rep α} {e size : Nat} {lv : Value → List Value} {w Y w' : World} {base : Nat} {v v' : Value} {n : Nat} {d : Nat → α} {cs : List Value} {us : Nat → Value} {fs : Nat → Nat → Prop} {u : Value} {F' : Nat → Prop}
    (h : PO R e size lv w base v n n d cs us fs) (hbs : base ≤ w.heap.size) (hb : Below w.heap.size w Y) (hu : R.O Y w.heap.size F' u (d n)) (hl : (lv u).length = size)
    (hr : w'.ownsRow base e size v' (n + 1) (cs ++ lv u)) (hg : Y.grownBy w' v.ownBlock) (hloc : v'.ownBlock = v.ownBlock ∨ ∃ g, v'.ownBlock = some g ∧ Y.heap.size ≤ g) :
    PO R e size lv w' base v' (n + 1) (n + 1) d (cs ++ lv u) (upd us n u) (upd fs n F') := by
  have hlt : ∀ b, v.ownBlock = some b → b < w.heap.size := fun b hb => (h.row.lt b hb).2
  have hF : ∀ b, F' b → w.heap.size ≤ b ∧ b < Y.heap.size := fun b hb => R.rng hu b hb
  have hfs : ∀ i, i < n → ∀ b, fs i b → b < w.heap.size := fun i hi b hb => (R.rng (h.el i hi) b hb).2
  have hcl : cs.length = n * size := h.row.1
  refine ⟨hr, ?_, ?_, ?_, ?_, ?_⟩
  · intro i hi
    by_cases hik : i = n
    · subst hik
      rw [upd_at, upd_at]
      exact R.base (R.mod hu (Mod.of_grown hg) (fun b hb he => by have := hlt b he; have := (hF b hb).1; omega)) hbs
    · rw [upd_ne _ _ hik, upd_ne _ _ hik]
      exact R.mod (R.keep (h.el i (by omega)) hb) (Mod.of_grown hg) (fun b hb => h.out i (by omega) b hb)
  · intro i hi
    by_cases hik : i = n
    · subst hik; rw [upd_at]; exact hl
    · rw [upd_ne _ _ hik]; exact h.ln i (by omega)
  · intro i hi j hj
    by_cases hik : i = n
    · subst hik
      rw [upd_at, List.getElem?_append_right (by omega), hcl]
      congr 1
      omega
    · rw [upd_ne _ _ hik, ← h.cell i (by omega) j hj, List.getElem?_append_left]
      rw [hcl]
      have : i * size + size ≤ n * size := by rw [← Nat.succ_mul]; exact Nat.mul_le_mul_right _ (by omega)
      omega
  · intro i hi b hb he
    by_cases hik : i = n
    · subst hik
      rw [upd_at] at hb
      rcases hloc with hloc | ⟨g, hg', hge⟩
      · rw [hloc] at he
        have := hlt b he; have := (hF b hb).1; omega
      · rw [hg'] at he
        simp only [Option.some.injEq] at he
        have := (hF b hb).2; omega
    · rw [upd_ne _ _ hik] at hb
      rcases hloc with hloc | ⟨g, hg', hge⟩
      · rw [hloc] at he
        exact h.out i (by omega) b hb he
      · rw [hg'] at he
        simp only [Option.some.injEq] at he
        have := hfs i (by omega) b hb
        have := hb
        have := h.row
        have := hlt
        have hYw : w.heap.size ≤ Y.heap.size := by
          have := ‹Below w.heap.size w Y›
          exact this.size
        omega
  · intro i j hi hj hij b h1 h2
    by_cases hik : i = n
    · subst hik
      rw [upd_at] at h1
      rw [upd_ne _ _ (Ne.symm hij)] at h2
      have := (hF b h1).1; have := hfs j (by omega) b h2; omega
    · rw [upd_ne _ _ hik] at h1
      by_cases hjk : j = n
      · subst hjk
        rw [upd_at] at h2
        have := (hF b h2).1; have := hfs i (by omega) b h1; omega
      · rw [upd_ne _ _ hjk] at h2
        exact h.sep i j (by omega) (by omega) hij b h1 h2
section
variable {P : Program} (w : World)
theorem step_append_at {ops : Array Oper} {o : Oper} {a : Act} {K : Act → World → Prop} {Q : Exit → Act → World → Prop} {E : Prop} (hgd : o.guard = none) (s x : Operand) (t : TypeId)
    (ho : o.op = .call { callee := .builtin .append, args := #[s, x], argTypes := #[t, t] })
    (base : Nat) (e : TypeId) (i : TypeInfo) (z : Value) (size bytes : Nat) (ht : P.underlying t = some (.slice e)) (hi : P.info? e = some i) (hz : i.zero = some z)
    (hsize : i.size = size) (hby : i.bytes = bytes) (hzs : z.cells.size = size) (hsz : 0 < size)
    (v : Value) (n : Nat) (xs : List Value) (hs : a.eval s = v) (hown : w.ownsRow base e size v n xs)
    (ad : Addr) (m c : Nat) (news : List Value) (hx : a.eval x = .slice (some ad) m c) (hl : news.length = m * size) (hnews : ∀ j u, news[j]? = some u → w.cell? (ad.add j) = some u) (h1 : ∀ u ∈ news, u.oneCell' = true)
    (h63 : n + m ≤ maxLen) (hbytes : (n + m) * bytes ≤ 140737488355328) (hbase : base ≤ w.heap.size)
    (h : ∀ v' w', w'.ownsRow base e size v' (n + m) (xs ++ news) → w.grownBy w' v.ownBlock → (v'.ownBlock = v.ownBlock ∨ v'.ownBlock = some w.heap.size) → K (a.put o.dst v') w') :
    if Region.wanted o (yielded ops a.tmps) = true then Oper.wp P o a w K Q else E := by
  have hw : Region.wanted o (yielded ops a.tmps) = true := by simp [Region.wanted, hgd]
  rw [if_pos hw]
  obtain ⟨v', w', hr, h2, h3, _, h5⟩ := run_append_own_at (P := P) w base t o.type e i z size bytes ht hi hz hsize hby hzs hsz v n xs hown ad m c news hl hnews h1 h63 hbytes hbase
  unfold Oper.wp execOp
  simp only [ho, resolve, invoke, builtin, Sem.run_bind, Sem.run_pure, Result.andThen_ok, List.map_toArray, List.map_cons, List.map_nil, hs, hx, hr]
  exact h v' w' h2 h3 h5
end

end Go.Proofs.Ytjhmdnlkpkagiaa

/-
  RecordsResult. (Written by program: nest.py.)
-/
namespace Go.Proofs.Ytjhmdnlkpkagiaa
open Go.RowKit
set_option linter.unusedSectionVars false
attribute [local go_sem ↓] Go.wp_at_zero Go.wp_at_succ

structure RecsR where
  code : Int
  used : Int
  records : List (List Byte)
variable [DecidableEq RecsR] [Inhabited RecsR]

end Go.Proofs.Ytjhmdnlkpkagiaa

/-
  One more record in a log: the specification's side, and what is told.
-/
namespace Go.Proofs.Ytjhmdnlkpkagiaa
open Go.RowKit
set_option linter.unusedSectionVars false
variable [DecidableEq Logg] [Inhabited Logg] [DecidableEq LoggR] [Inhabited LoggR] [DecidableEq BytesR] [Inhabited BytesR] [DecidableEq RecsR] [Inhabited RecsR] [DecidableEq Leg] [Inhabited Leg]
set_option linter.unusedSimpArgs false
attribute [local go_sem ↓] Go.wp_at_zero Go.wp_at_succ

theorem Mod.frozenAt {F : Nat → Prop} {w w' : World} (h : Mod F w w') {a : Addr} (hl : a.block < w.heap.size) (hn : ¬ F a.block) : w'.frozen? a = w.frozen? a := World.frozen?_of_block (h.block a.block hl hn)
end Go.Proofs.Ytjhmdnlkpkagiaa

/-
  The specification's draws: a number read off the bytes.
-/
namespace Go.Proofs.Ytjhmdnlkpkagiaa
open Go.RowKit
set_option linter.unusedSectionVars false
variable [DecidableEq Logg] [Inhabited Logg] [DecidableEq LoggR] [Inhabited LoggR] [DecidableEq BytesR] [Inhabited BytesR] [DecidableEq RecsR] [Inhabited RecsR] [DecidableEq Leg] [Inhabited Leg]
set_option linter.unusedSimpArgs false
attribute [local go_sem ↓] Go.wp_at_zero Go.wp_at_succ

structure Src (B : Nat) (w : World) (bs : Nat) (a : Option Addr) (k cap : Nat) (t : Nat) : Prop where
  le : B ≤ bs
  lt : bs < w.heap.size
  code : w.cell? ⟨bs, 0, none⟩ = some (.slice a k cap)
  at_ : w.cell? ⟨bs, 1, none⟩ = some (.int .i64 t)
  free : ∀ o, w.frozen? ⟨bs, o, none⟩ = false
  kc : k ≤ cap
  cm : cap ≤ maxLen
  kb : k ≤ 2097152
  byte : ∀ i, i < k → ∃ b o c, a = some ⟨b, o, none⟩ ∧ b < B ∧ (0 : Int) ≤ c ∧ c ≤ 255 ∧ w.cell? ⟨b, o + i, none⟩ = some (.int .u8 c)
theorem Src.mod {B : Nat} {w w' : World} {bs : Nat} {a : Option Addr} {k cap t : Nat} {F : Nat → Prop} (h : Src B w bs a k cap t) (hm : Mod F w w') (hF : ∀ b, F b → bs < b) : Src B w' bs a k cap t := by
  have hb : ¬ F bs := fun e => by have := hF bs e; omega
  refine ⟨h.le, Nat.lt_of_lt_of_le h.lt hm.size, hm.cell h.code hb, hm.cell h.at_ hb, fun o => ?_, h.kc, h.cm, h.kb, fun i hi => ?_⟩
  · rw [hm.frozenAt (a := ⟨bs, o, none⟩) h.lt hb]; exact h.free o
  · obtain ⟨b, o, c, h1, h2, h3, h4, h5⟩ := h.byte i hi
    exact ⟨b, o, c, h1, h2, h3, h4, hm.cell h5 (fun e => by have := hF b e; have := h.le; omega)⟩
theorem Src.below {B : Nat} {w w' : World} {bs : Nat} {a : Option Addr} {k cap t : Nat} (h : Src B w bs a k cap t) (hb : Below w.heap.size w w') : Src B w' bs a k cap t :=
  h.mod (F := fun _ => False) (Mod.of_below hb) (fun _ e => e.elim)
theorem Src.next {B : Nat} {w : World} {bs : Nat} {a : Option Addr} {k cap t : Nat} (h : Src B w bs a k cap t) : Src B (w.setCell ⟨bs, 1, none⟩ (.int .i64 ((t : Int) + 1))) bs a k cap (t + 1) := by
  refine ⟨h.le, by simpa using h.lt, by rw [set_other (by simp)]; exact h.code, by rw [set_same h.at_]; rfl, fun o => by rw [World.frozen?_setCell]; exact h.free o, h.kc, h.cm, h.kb, fun i hi => ?_⟩
  obtain ⟨b, o, c, h1, h2, h3, h4, h5⟩ := h.byte i hi
  exact ⟨b, o, c, h1, h2, h3, h4, by rw [set_other (fun e => by have := h.le; have e' : bs = b := congrArg Addr.block e; omega)]; exact h5⟩
theorem Src.drew' {B : Nat} {w : World} {bs : Nat} {a : Option Addr} {k cap t : Nat} (h : Src B w bs a k cap t) : Src B w.drew bs a k cap t :=
  ⟨h.le, h.lt, h.code, h.at_, h.free, h.kc, h.cm, h.kb, h.byte⟩
theorem wrapI (x : Int) (h0 : -9223372036854775808 ≤ x) (h1 : x ≤ 9223372036854775807) : IntKind.i64.wrap x = x := by rw [IntKind.wrap_i64]; omega
theorem next_mod (w : World) (bs : Nat) (v : Value) : Mod (fun b => b = bs) w (w.setCell ⟨bs, 1, none⟩ v) := Mod.of_set w ⟨bs, 1, none⟩ v
theorem Mod.drew1 {F : Nat → Prop} {w w' : World} (h : Mod F w w') : Mod F w w'.drew := ⟨h.os, h.tape, h.output, h.size, h.block⟩
set_option maxHeartbeats 2000000 in
theorem l1Next_any (B : Nat) (w : World) (bs : Nat) (a : Option Addr) (k cap t : Nat) (n : Int) (h : Src B w bs a k cap t) (ht : t ≤ 100000) (hn1 : 1 ≤ n) (hn2 : n ≤ 100000) :
    Calls Try.prog 14 #[.pointer (some ⟨bs, 0, none⟩), .int .i64 n] w fun e w' => ∃ r : Nat, e = .returned (.int .i64 r) ∧ (r : Int) < n ∧ Src B w' bs a k cap (t + 1) ∧ Mod (fun b => b = bs) w w' := by
  have hc := h.code
  have ha := h.at_
  have hf := h.free
  have hkc := h.kc
  have hcm := h.cm
  have hkb := h.kb
  unfold maxLen at hcm
  have HS : Hid (Src B w bs a k cap t) := h
  have h1 : ¬ n < 1 := by omega
  have hres : ∀ v : Int, 0 ≤ v → ∃ r : Nat, v % n = (r : Int) ∧ (r : Int) < n := fun v hv => by
    refine ⟨(v % n).toNat, ?_, ?_⟩
    · have := Int.emod_nonneg v (b := n) (by omega)
      omega
    · have := Int.emod_nonneg v (b := n) (by omega)
      have := Int.emod_lt_of_pos v (b := n) (by omega)
      omega
  have HR : Hid (∀ v : Int, 0 ≤ v → ∃ r : Nat, v % n = (r : Int) ∧ (r : Int) < n) := hres
  clear h hres
  by_cases hk0 : k = 0
  · subst hk0
    obtain ⟨r, e5, r1⟩ := HR.out ((t : Int) * 7) (by omega)
    have e6 : ((t : Int) * 7).tmod n = (r : Int) := by rw [Int.tmod_eq_emod_of_nonneg (by omega)]; exact e5
    have HE : Hid (((t : Int) * 7) % n = (r : Int)) := e5
    clear e5
    go_enter Try.func14, Try.ntmps14
    go_wp2
    go_ret
    exact ⟨r, by have e := HE.out; first | rfl | (simp [e6]; done) | (simp [e]; done), r1, HS.out.next, next_mod _ _ _⟩
  · have hk : (0 : Int) < (k : Int) := by omega
    obtain ⟨m, hm⟩ : ∃ m, m = t % k := ⟨_, rfl⟩
    obtain ⟨m', hm'⟩ : ∃ m', m' = (t + 1) % k := ⟨_, rfl⟩
    obtain ⟨d, hdv⟩ : ∃ d, d = t / k := ⟨_, rfl⟩
    have hml : m < k := by rw [hm]; exact Nat.mod_lt _ (by omega)
    have hml' : m' < k := by rw [hm']; exact Nat.mod_lt _ (by omega)
    have hdl : d ≤ 100000 := by rw [hdv]; exact Nat.le_trans (Nat.div_le_self _ _) ht
    obtain ⟨b, o, c, rfl, hbB, c0, c1, hcell⟩ := HS.out.byte m hml
    obtain ⟨b', o', c', e', _, c0', c1', hcell'⟩ := HS.out.byte m' hml'
    simp only [Option.some.injEq, Addr.mk.injEq, and_true] at e'
    obtain ⟨rfl, rfl⟩ := e'
    have e1 : (t : Int) % (k : Int) = (m : Int) := by rw [hm]; rfl
    have e2 : (t : Int) / (k : Int) = (d : Int) := by rw [hdv]; rfl
    have e3 : (t : Int).tmod (k : Int) = (m : Int) := by rw [Int.tmod_eq_emod_of_nonneg (by omega)]; exact e1
    have e4 : (t : Int).tdiv (k : Int) = (d : Int) := by rw [Int.tdiv_eq_ediv_of_nonneg (by omega)]; exact e2
    have e7 : ((t : Int) + 1) % (k : Int) = (m' : Int) := by rw [hm']; rfl
    have e8 : ((t : Int) + 1).tmod (k : Int) = (m' : Int) := by rw [Int.tmod_eq_emod_of_nonneg (by omega)]; exact e7
    clear hm hdv hm'
    have hd : ((k : Int) == 0) = false := by simp; omega
    go_enter Try.func14, Try.ntmps14
    have hcW : (w.setCell ⟨bs, 1, none⟩ (.int .i64 (t + 1))).cell? ⟨bs, 0, none⟩ = some (.slice (some ⟨b, o, none⟩) k cap) := by rw [set_other (by simp)]; exact hc
    have hbW : (w.setCell ⟨bs, 1, none⟩ (.int .i64 (t + 1))).cell? ⟨b, o + m, none⟩ = some (.int .u8 c) := by
      rw [set_other (fun e => by have := HS.out.le; have e' : bs = b := congrArg Addr.block e; omega)]; exact hcell
    have hbW' : (w.setCell ⟨bs, 1, none⟩ (.int .i64 (t + 1))).cell? ⟨b, o + m', none⟩ = some (.int .u8 c') := by
      rw [set_other (fun e => by have := HS.out.le; have e' : bs = b := congrArg Addr.block e; omega)]; exact hcell'
    have q2 : (m : Int) < (k : Int) := by omega
    have q2' : (m' : Int) < (k : Int) := by omega
    go_wp2
    go_region_held3 (fun w' => w' = (w.setCell ⟨bs, 1, none⟩ (.int .i64 (t + 1))).drew ∧ w'.cell? ⟨bs, 0, none⟩ = some (.slice (some ⟨b, o, none⟩) k cap) ∧ w'.cell? ⟨b, o + m, none⟩ = some (.int .u8 c)) (exact ⟨rfl, hcW, hbW⟩) (fail)
    rename_i hH
    clear hH
    have hv : IntKind.i64.wrap (IntKind.i64.wrap c + IntKind.i64.wrap (IntKind.i64.wrap d * 37)) = c + d * 37 := by
      rw [wrapI c (by omega) (by omega), wrapI (d : Int) (by omega) (by omega), wrapI ((d : Int) * 37) (by omega) (by omega), wrapI _ (by omega) (by omega)]
    rw [hv]
    obtain ⟨v, hve⟩ : ∃ v, v = c + (d : Int) * 37 := ⟨_, rfl⟩
    have v0 : 0 ≤ v := by omega
    have v1 : v ≤ 4000000 := by omega
    rw [← hve]
    clear hv hve e1 e2 e3 e4
    by_cases h2 : 200 < n
    · have y1 : IntKind.i64.wrap (v * 251) = v * 251 := wrapI _ (by omega) (by omega)
      have y2 : IntKind.i64.wrap ((t : Int) + 1) = t + 1 := wrapI _ (by omega) (by omega)
      have y3 : IntKind.i64.wrap c' = c' := wrapI _ (by omega) (by omega)
      have y4 : IntKind.i64.wrap (c' * 13) = c' * 13 := wrapI _ (by omega) (by omega)
      have y5 : IntKind.i64.wrap (v * 251 + c' * 13) = v * 251 + c' * 13 := wrapI _ (by omega) (by omega)
      have y6 : IntKind.i64.wrap (v * 251 + c' * 13 + t) = v * 251 + c' * 13 + t := wrapI _ (by omega) (by omega)
      obtain ⟨r, e5, r1⟩ := HR.out (v * 251 + c' * 13 + t) (by omega)
      have e6 : (v * 251 + c' * 13 + t).tmod n = (r : Int) := by rw [Int.tmod_eq_emod_of_nonneg (by omega)]; exact e5
      have HE : Hid ((v * 251 + c' * 13 + t) % n = (r : Int)) := e5
      have HE6 : Hid ((v * 251 + c' * 13 + t).tmod n = (r : Int)) := e6
      clear e5 e6
      go_wp2
      go_region_held3 (fun w' => w' = (w.setCell ⟨bs, 1, none⟩ (.int .i64 (t + 1))).drew.drew ∧ w'.cell? ⟨bs, 0, none⟩ = some (.slice (some ⟨b, o, none⟩) k cap) ∧ w'.cell? ⟨b, o + m', none⟩ = some (.int .u8 c')) (exact ⟨rfl, hcW, hbW'⟩) (fail)
      rename_i hH
      clear hH
      obtain ⟨V, hV⟩ : ∃ V, V = v * 251 + c' * 13 + (t : Int) := ⟨_, rfl⟩
      have V0 : 0 ≤ V := by omega
      have HE7 : Hid (V % n = (r : Int)) := by unfold Hid; rw [hV]; exact HE.out
      have HE8 : Hid (V.tmod n = (r : Int)) := by unfold Hid; rw [hV]; exact HE6.out
      first | rw [← hV] | skip
      clear y1 y2 y3 y4 y5 y6 hV
      go_wp2
      go_ret
      exact ⟨r, by have e := HE7.out; have e' := HE8.out; first | rfl | (simp [e']; done) | (simp [e]; done), r1, HS.out.next.drew'.drew', (next_mod _ _ _).drew1.drew1⟩
    · obtain ⟨r, e5, r1⟩ := HR.out v v0
      have e6 : v.tmod n = (r : Int) := by rw [Int.tmod_eq_emod_of_nonneg (by omega)]; exact e5
      have HE : Hid (v % n = (r : Int)) := e5
      clear e5
      go_wp2
      go_ret
      exact ⟨r, by have e := HE.out; first | rfl | (simp [e6]; done) | (simp [e]; done), r1, HS.out.next.drew', (next_mod _ _ _).drew1⟩
end Go.Proofs.Ytjhmdnlkpkagiaa


import Derived.Test.YtndghenlapbaaaaGreatPrnDecideShardLaw20
import Derived.Test.YtndghenlapbaaaaGreatPrnDecideShardLaw10
import Derived.Test.YtndghenlapbaaaaGreatPrnDecideShardLaw2
import Derived.Deep.RegionHeld3
import Derived.Test.YtndghenlapbaaaaGreatPrnDecideShardLaw17
import Derived.Test.YtndghenlapbaaaaGreatPrnDecideShardLaw18
import Derived.Shelf.Abstract
import Derived.BigQuiet
import Derived.Deep.QuietTactic
set_option linter.unusedSimpArgs false
set_option linter.unusedVariables false
set_option linter.unusedSectionVars false

/-
 A contract copied.
-/
namespace Go.Proofs.YtndghenlapbaaaaGreat
open Go.RowKit
variable [DecidableEq Leg] [Inhabited Leg] [DecidableEq Mrk] [Inhabited Mrk] [DecidableEq Bal] [Inhabited Bal] [DecidableEq Cont] [Inhabited Cont]
attribute [local go_sem ↓] Go.wp_at_zero Go.wp_at_succ

set_option maxHeartbeats 2000000 in
theorem copiedCon_u (x : Value) (d : Cont) (w : World) (hx : contR.V w x d) (hn : d.legs.length ≤ 1048576) :
  Calls Tryz.prog 76 #[x] w fun e w' => ∃ v F, e = .returned v ∧ contR.O w' w.heap.size F v d ∧ Below w.heap.size w w' := by
 obtain ⟨u1, rfl, hx⟩ := hx
 obtain ⟨ax, cx, rfl⟩ := legs_form hx
 have hs0 : AppAny ((w.alloc (.cells #[.int .i64 d.id, .slice ax d.legs.length cx] 44)).alloc (.cells #[.int .i64 0, .slice none 0 0] 44)) (.slice ax d.legs.length cx) d.legs.length (legsC d.legs) := appAny_legs10 (legsR.below hx (qBq))
 have ho0 := World.ownsRow_nil ((w.alloc (.cells #[.int .i64 d.id, .slice ax d.legs.length cx] 44)).alloc (.cells #[.int .i64 0, .slice none 0 0] 44)) (w.heap.size + 2) 93 4
 clear hx
 go_enter Tryz.func76, Tryz.ntmps76
 go_wp2_with (at_builtin; refine wpList_app10L _ rfl _ _ rfl (w.heap.size + 2) _ [] rfl _ d.legs rfl ho0 hs0 ?c1 ?c2 ?_)
 case c1 => simp; omega
 case c2 => simp
 intro v' w1 ho hg hbel
 clear hs0 ho0 hg
 have hY := hbel _ (Below.refl _ _)
 have hB1 : Below w.heap.size w w1 := Below.trans (qBq) (hY.mono (by omega))
 clear hbel
 have y0 : w1.cell? ⟨w.heap.size, 0, none⟩ = some (.int .i64 d.id) := (hY.cell (p := ⟨w.heap.size, 0, none⟩) (by simp)).trans (by simp [go_sem])
 have y1 : w1.cell? ⟨w.heap.size, 1, none⟩ = some (.slice ax d.legs.length cx) := (hY.cell (p := ⟨w.heap.size, 1, none⟩) (by simp)).trans (by simp [go_sem])
 have yf : ∀ o, w1.frozen? ⟨w.heap.size, o, none⟩ = false := fun o => (hY.frozen (p := ⟨w.heap.size, o, none⟩) (by simp)).trans (by simp [go_sem])
 have q0 : w1.cell? ⟨w.heap.size + 1, 0, none⟩ = some (.int .i64 0) := (hY.cell (p := ⟨w.heap.size + 1, 0, none⟩) (by simp)).trans (by simp [go_sem])
 have q1 : w1.cell? ⟨w.heap.size + 1, 1, none⟩ = some (.slice none 0 0) := (hY.cell (p := ⟨w.heap.size + 1, 1, none⟩) (by simp)).trans (by simp [go_sem])
 have qf : ∀ o, w1.frozen? ⟨w.heap.size + 1, o, none⟩ = false := fun o => (hY.frozen (p := ⟨w.heap.size + 1, o, none⟩) (by simp)).trans (by simp [go_sem])
 have hz := hY.size
 try simp at hz
 clear hY
 try simp only [List.nil_append] at ho
 obtain ⟨av, cv, rfl⟩ := owns_form ho
 have o1 : ∃ F, legsR.O w1 (w.heap.size + 2) F (.slice av d.legs.length cv) d.legs := ⟨_, ho, rfl⟩
 obtain ⟨F1, o1⟩ := o1
 clear ho
 go_wp2
 refine bodyPost_ret (v := .agg #[.int .i64 d.id, .slice av d.legs.length cv]) ?_ rfl ⟨_, fun b => F1 b, rfl, ⟨_, F1, rfl, legsR.base (base := w.heap.size + 2) (by (repeat (first | refine Rep.set _ ?_ _ (by simp; omega) | refine Rep.set _ ?_ _ (by simp) | refine Rep.alloc _ ?_ _ | assumption))) (by omega), fun b => Iff.rfl⟩, by (repeat (first | refine bset ?_ (by simp; omega) _ | refine bset ?_ (by simp) _ | refine bA ?_ _ | assumption))⟩
 simp [results, Tryz.results76, go_sem, y0, y1, q0, q1, yf, qf]
set_option maxRecDepth 20000 in
set_option maxHeartbeats 2000000 in
theorem l10Contract_u (x : Value) (d : Cont) (w : World) (hx : contR.V w x d) (hn : d.legs.length ≤ 1048576) :
  Calls Tryz.prog 67 #[x] w fun e w' => ∃ v F, e = .returned v ∧ contR.O w' w.heap.size F v d ∧ Below w.heap.size w w' := by
 obtain ⟨u1, rfl, hx⟩ := hx
 have HV : Hid (∀ W, Below w.heap.size w W → AppAny W u1 d.legs.length (legsC d.legs)) := fun W hW => appAny_legs10 (legsR.below hx hW)
 obtain ⟨ax, cx, rfl⟩ := legs_form hx
 clear hx
 go_enter Tryz.func67, Tryz.ntmps67
 go_wp2
 obtain ⟨wq, hwq⟩ : ∃ wq, wq = (w.alloc (.cells #[.int .i64 d.id, .slice ax d.legs.length cx] 44)).alloc (.cells #[.int .i64 0, .slice none 0 0] 44) := ⟨_, rfl⟩
 have y0 : wq.cell? ⟨w.heap.size, 0, none⟩ = some (.int .i64 d.id) := by rw [hwq]; simp [go_sem]
 have y1 : wq.cell? ⟨w.heap.size, 1, none⟩ = some (.slice ax d.legs.length cx) := by rw [hwq]; simp [go_sem]
 have q0 : wq.cell? ⟨w.heap.size + 1, 0, none⟩ = some (.int .i64 0) := by rw [hwq]; simp [go_sem]
 have q1 : wq.cell? ⟨w.heap.size + 1, 1, none⟩ = some (.slice none 0 0) := by rw [hwq]; simp [go_sem]
 have qf : ∀ o, wq.frozen? ⟨w.heap.size + 1, o, none⟩ = false := fun o => by rw [hwq]; simp [go_sem]
 have hBq : Below w.heap.size w wq := by rw [hwq]; (repeat (first | exact bR _ _ | assumption | refine bD ?_ | refine bA ?_ _ | refine bset ?_ (by simp; omega) _ | refine bset ?_ (by simp) _ | refine bS ?_ (by assumption)))
 have zq : w.heap.size + 1 < wq.heap.size := by rw [hwq]; simp
 rw [← hwq]
 clear hwq
 refine wp_region_noPanic ?_
 refine region_upto (fun W => Below wq.heap.size wq W ∧ W.cell? ⟨w.heap.size, 0, none⟩ = some (.int .i64 d.id) ∧ W.cell? ⟨w.heap.size, 1, none⟩ = some (.slice ax d.legs.length cx)) 7 (by kernel_rfl) ⟨qBq, cK (qBq) y0, cK (qBq) y1⟩ (fun hS => ?_)
 refine tK (i := 0) (v := ?_) rfl (by kernel_rfl) hS ?_ ?_
 rotate_left
 ·
  intro wS hSw; (try dsimp only at hSw); go_simp; try with_reducible rfl
 try simp only [Act.put, jA, jB, jC, jD, jE, jF]
 refine tK (i := 1) (v := ?_) rfl (by kernel_rfl) hS ?_ ?_
 rotate_left
 ·
  intro wS hSw; (try dsimp only at hSw); go_simp; try with_reducible rfl
 try simp only [Act.put, jA, jB, jC, jD, jE, jF]
 refine tK (i := 3) (v := ?_) rfl (by kernel_rfl) hS ?_ ?_
 rotate_left
 ·
  intro wS hSw; (try dsimp only at hSw); go_simp; try with_reducible rfl
 try simp only [Act.put, jA, jB, jC, jD, jE, jF]
 refine tK (i := 4) (v := ?_) rfl (by kernel_rfl) hS ?_ ?_
 rotate_left
 ·
  intro wS hSw; (try dsimp only at hSw); go_simp; try with_reducible rfl
 try simp only [Act.put, jA, jB, jC, jD, jE, jF]
 refine upto_step (i := 2) (by kernel_rfl) rfl ?_
 intro K hK
 go_simp
 refine hK _ _ (fun _ => ⟨qBq, cK (qBq) y0, cK (qBq) y1⟩) ?_
 clear hK K
 try simp only [Act.put, jA, jB, jC, jD, jE, jF]
 refine upto_step (i := 5) (by kernel_rfl) rfl ?_
 intro K hK
 refine step_app10L _ rfl _ _ rfl wq.heap.size _ [] rfl _ d.legs rfl ?o1 ?s1 ?c1 ?c2 ?_
 case o1 => exact World.ownsRow_lit (base := wq.heap.size) (e := 93) (size := 4) wq.drew #[] 0 (by simp) (by decide) rfl
 case s1 => exact HV.out _ (bS hBq (qBq))
 case c1 => simp; omega
 case c2 => simp
 intro v5 w5 o5 _ hB5
 try simp only [List.nil_append] at o5
 obtain ⟨av, cv, rfl⟩ := owns_form o5
 have hY : Below wq.heap.size wq w5 := hB5 wq (qBq)
 have hS5 : (fun W => Below wq.heap.size wq W ∧ W.cell? ⟨w.heap.size, 0, none⟩ = some (.int .i64 d.id) ∧ W.cell? ⟨w.heap.size, 1, none⟩ = some (.slice ax d.legs.length cx)) w5 := ⟨hY, cK hY y0, cK hY y1⟩
 refine hK _ _ (fun _ => hS5) ?_
 clear hK K hB5
 replace q0 := cK hY q0
 replace q1 := cK hY q1
 replace qf : ∀ o, w5.frozen? ⟨w.heap.size + 1, o, none⟩ = false := fun o => by rw [(bcell hY).2 _ _ zq]; exact qf o
 have HO : Hid (legsR.O w5 wq.heap.size (fun b => (Value.slice av d.legs.length cv).ownBlock = some b) (.slice av d.legs.length cv) d.legs) := ⟨o5, rfl⟩
 clear o5
 have hB5 : Below w.heap.size w w5 := bS hBq hY
 try simp only [Act.put, jA, jB, jC, jD, jE, jF]
 refine tK (i := 6) (v := ?_) rfl (by kernel_rfl) hS5 ?_ ?_
 rotate_left
 ·
  intro wS hSw; (try dsimp only at hSw); go_simp; try with_reducible rfl
 try simp only [Act.put, jA, jB, jC, jD, jE, jF]
 refine upto_step (i := 7) (by kernel_rfl) rfl ?_
 intro K hK
 go_simp
 refine hK _ _ (fun h => absurd rfl h) ?_
 clear hK K
 refine upto_done (by kernel_rfl) ?_
 refine NoPanic.normal ?_
 clear hS hS5
 go_wp2
 refine bodyPost_ret (v := .agg #[.int .i64 d.id, .slice av d.legs.length cv]) (by simp [results, Tryz.results67, go_sem, q0, q1, qf]) rfl ⟨_, fun b => (Value.slice av d.legs.length cv).ownBlock = some b, rfl, ?_, by (repeat (first | refine bset ?_ (by simp; omega) _ | refine bset ?_ (by simp) _ | refine bA ?_ _ | assumption))⟩
 exact ⟨_, _, rfl, legsR.base (base := wq.heap.size) (legsR.set (legsR.set HO.out _ (by dsimp only; omega)) _ (by dsimp only; omega)) (by omega), fun _ => Iff.rfl⟩
end Go.Proofs.YtndghenlapbaaaaGreat

/-
 A region that draws its order, whose operations only make memory (and one last, number t, that may write): whatever the order, what each of them yields stays as it is, and lies in blocks of its own.
-/
namespace Go.Proofs.YtndghenlapbaaaaGreat
open Go.RowKit

def over (a : Act) (ds : List Nat) (y : Nat → Value) : Act := { a with tmps := ds.foldl (fun t s => t.setIfInBounds s (y s)) a.tmps }
theorem fold_put : ∀ (ds : List Nat) (T : Array Value) (y : Nat → Value) (d : Nat) (v : Value), d ∉ ds →
  (ds.foldl (fun t s => t.setIfInBounds s (y s)) T).setIfInBounds d v = ds.foldl (fun t s => t.setIfInBounds s (y s)) (T.setIfInBounds d v)
 | [], _, _, _, _, _ => rfl
 | e :: ds, T, y, d, v, h => by
  have h1 : d ≠ e := fun c => h (by rw [c]; exact List.mem_cons_self)
  have h2 : d ∉ ds := fun c => h (List.mem_cons_of_mem _ c)
  simp only [List.foldl_cons]
  rw [fold_put ds _ y d v h2, Array.setIfInBounds_comm _ _ (Ne.symm h1)]
theorem fold_congr : ∀ (ds : List Nat) (T : Array Value) (y y' : Nat → Value), (∀ s ∈ ds, y s = y' s) →
  ds.foldl (fun t s => t.setIfInBounds s (y s)) T = ds.foldl (fun t s => t.setIfInBounds s (y' s)) T
 | [], _, _, _, _ => rfl
 | e :: ds, T, y, y', h => by
  simp only [List.foldl_cons]
  rw [h e List.mem_cons_self]
  exact fold_congr ds _ y y' (fun s hs => h s (List.mem_cons_of_mem _ hs))
def updV (y : Nat → Value) (d : Nat) (v : Value) : Nat → Value := fun s => if s = d then v else y s
theorem fold_upd : ∀ (ds : List Nat) (T : Array Value) (y : Nat → Value) (d : Nat) (v : Value), d ∈ ds → ds.Nodup →
  (ds.foldl (fun t s => t.setIfInBounds s (y s)) T).setIfInBounds d v = ds.foldl (fun t s => t.setIfInBounds s (updV y d v s)) T
 | [], _, _, _, _, h, _ => absurd h List.not_mem_nil
 | e :: ds, T, y, d, v, h, hn => by
  obtain ⟨h1, h2⟩ := List.nodup_cons.1 hn
  simp only [List.foldl_cons]
  by_cases hd : d = e
  ·
   subst hd
   rw [fold_put ds _ y d v h1, Array.setIfInBounds_setIfInBounds]
   have e1 : updV y d v d = v := if_pos rfl
   rw [e1]
   exact fold_congr ds _ _ _ (fun s hs => (if_neg (fun c : s = d => h1 (c ▸ hs))).symm)
  ·
   have hm : d ∈ ds := (List.mem_cons.1 h).resolve_left hd
   have e1 : updV y d v e = y e := if_neg (fun c => hd c.symm)
   rw [e1]
   exact fold_upd ds _ y d v hm h2
theorem over_put {a : Act} {ds : List Nat} {y : Nat → Value} {d : Nat} {v : Value} (h : d ∈ ds) (hn : ds.Nodup) : (over a ds y).put (some d) v = over a ds (updV y d v) := by
 simp only [over, Act.put]
 rw [fold_upd ds _ y d v h hn]
theorem over_self (a : Act) : ∀ ds : List Nat, over a ds (fun s => a.tmps.getD s undef) = a := by
 intro ds
 have H : ∀ ds : List Nat, ds.foldl (fun t s => t.setIfInBounds s (a.tmps.getD s undef)) a.tmps = a.tmps := by
  intro ds
  induction ds with
  | nil => rfl
  | cons d ds ih =>
   simp only [List.foldl_cons]
   have e : a.tmps.setIfInBounds d (a.tmps.getD d undef) = a.tmps := by
    apply Array.ext_getElem?
    intro i
    rw [Array.getElem?_setIfInBounds]
    split
    ·
     rename_i h
     subst h
     split
     ·
      rename_i h; simp [h]
     ·
      rename_i h; simp [Array.getElem?_eq_none (Nat.le_of_not_lt h)]
    ·
     rfl
   rw [e]
   exact ih
 simp only [over]
 rw [H ds]
theorem inj_fst : ∀ (L : List (Nat × Nat)), (L.map Prod.fst).Nodup → ∀ p ∈ L, ∀ q ∈ L, p.1 = q.1 → p = q
 | [], _, p, hp, _, _, _ => absurd hp List.not_mem_nil
 | a :: L, hn, p, hp, q, hq, h => by
  obtain ⟨h1, h2⟩ := List.nodup_cons.1 hn
  rcases List.mem_cons.1 hp with hp1 | hp1
  ·
   rcases List.mem_cons.1 hq with hq1 | hq1
   ·
    rw [hp1, hq1]
   ·
    exact absurd (by rw [← hp1, h]; exact List.mem_map_of_mem hq1) h1
  ·
   rcases List.mem_cons.1 hq with hq1 | hq1
   ·
    exact absurd (by rw [← hq1, ← h]; exact List.mem_map_of_mem hp1) h1
   ·
    exact inj_fst L h2 p hp1 q hq1 h
theorem inj_snd : ∀ (L : List (Nat × Nat)), (L.map Prod.snd).Nodup → ∀ p ∈ L, ∀ q ∈ L, p.2 = q.2 → p = q
 | [], _, p, hp, _, _, _ => absurd hp List.not_mem_nil
 | a :: L, hn, p, hp, q, hq, h => by
  obtain ⟨h1, h2⟩ := List.nodup_cons.1 hn
  rcases List.mem_cons.1 hp with hp1 | hp1
  ·
   rcases List.mem_cons.1 hq with hq1 | hq1
   ·
    rw [hp1, hq1]
   ·
    exact absurd (by rw [← hp1, h]; exact List.mem_map_of_mem hq1) h1
  ·
   rcases List.mem_cons.1 hq with hq1 | hq1
   ·
    exact absurd (by rw [← hq1, ← h]; exact List.mem_map_of_mem hp1) h1
   ·
    exact inj_snd L h2 p hp1 q hq1 h
theorem filter_less {F F' : Nat × Nat → Bool} : ∀ {L : List (Nat × Nat)}, (L.map Prod.fst).Nodup → ∀ {p : Nat × Nat}, p ∈ L → F p = true → F' p = false → (∀ q ∈ L, q ≠ p → F' q = F q) → (L.filter F).length = (L.filter F').length + 1
 | [], _, _, hp, _, _, _ => absurd hp List.not_mem_nil
 | a :: L, hn, p, hp, h1, h2, h3 => by
  obtain ⟨g1, g2⟩ := List.nodup_cons.1 hn
  by_cases e : a = p
  ·
   subst e
   rw [List.filter_cons_of_pos h1, List.filter_cons_of_neg (by rw [h2]; exact Bool.false_ne_true)]
   have h4 : L.filter F = L.filter F' := List.filter_congr (fun q hq => (h3 q (List.mem_cons_of_mem _ hq) (fun c => g1 (c ▸ List.mem_map_of_mem hq))).symm)
   rw [h4, List.length_cons]
  ·
   have hm : p ∈ L := (List.mem_cons.1 hp).resolve_left (fun c => e c.symm)
   have ih := filter_less g2 hm h1 h2 (fun q hq hne => h3 q (List.mem_cons_of_mem _ hq) hne)
   have ha := h3 a List.mem_cons_self e
   cases hF : F a with
   | true => rw [List.filter_cons_of_pos hF, List.filter_cons_of_pos (by rw [ha, hF]), List.length_cons, List.length_cons, ih]
   | false => rw [List.filter_cons_of_neg (by rw [hF]; exact Bool.false_ne_true), List.filter_cons_of_neg (by rw [ha, hF]; exact Bool.false_ne_true), ih]
section
variable {P : Program} {ops : Array Oper} {Q : Exit → Act → World → Prop} {md : Region.Mode} {S : World → Prop} {t : Nat}

def risesB (md : Region.Mode) (ops : Array Oper) : Bool := (List.range ops.size).all fun i => match ops[i]? with | some o => o.after.all fun e => !Region.binds md e || decide (e.on < i) | none => true
theorem ready_some {listed : Array Bool} (hr : risesB md ops = true) (hs : listed.size = ops.size) : ∀ n i, i < n → i < ops.size → listed.getD i true = false → ∃ j, j ∈ Region.ready md ops listed := by
 intro n
 induction n with
 | zero => intro i h; omega
 | succ n ih =>
  intro i hi hlt hun
  by_cases hex : ∃ k, k < i ∧ listed.getD k true = false
  ·
   obtain ⟨k, hk, hku⟩ := hex
   exact ih k (by omega) (by omega) hku
  ·
   refine ⟨i, mem_ready.2 ⟨hun, ops[i], by simp [hlt], fun e he hb => ?_⟩⟩
   have h1 := List.all_eq_true.1 hr i (List.mem_range.2 hlt)
   simp only [Array.getElem?_eq_getElem hlt] at h1
   have h2 := Array.all_eq_true'.1 h1 e he
   simp only [hb, Bool.not_true, Bool.false_or, decide_eq_true_eq] at h2
   have h3 : ¬ listed.getD e.on true = false := fun c => hex ⟨e.on, h2, c⟩
   have h4 : e.on < listed.size := by omega
   simp [h4] at h3 ⊢
   exact h3
def InB (w0 w : World) (lo hi : Nat) : Prop := w0.heap.size ≤ lo ∧ lo ≤ hi ∧ hi ≤ w.heap.size
def ApartB (lo hi : Nat → Nat) (j k : Nat) : Prop := hi j ≤ lo k ∨ hi k ≤ lo j
structure Shut (p : Prop) : Prop where
 out : p
def StepS (P : Program) (md : Region.Mode) (ops : Array Oper) (Q : Exit → Act → World → Prop) (S : World → Prop) (L : List (Nat × Nat)) (G : Nat → (Nat → Value) → Nat → Nat → World → Prop) (a0 : Act) (w0 : World) (p : Nat × Nat) : Prop :=
 ∃ o, ops[p.1]? = some o ∧ o.dst = some p.2 ∧ ∀ (y : Nat → Value) (w : World) (lo hi : Nat → Nat), S w → Below w0.heap.size w0 w →
  (∀ q ∈ L, waitsFor md ops p.1 q.1 = true → InB w0 w (lo q.1) (hi q.1) ∧ G q.1 y (lo q.1) (hi q.1) w) →
  (∀ q ∈ L, ∀ r ∈ L, q.1 ≠ r.1 → waitsFor md ops p.1 q.1 = true → waitsFor md ops p.1 r.1 = true → ApartB lo hi q.1 r.1) →
  ∀ K : Act → World → Prop, (∀ v w', Below w.heap.size w w' → G p.1 (updV y p.2 v) w.heap.size w'.heap.size w' → K ((over a0 (L.map Prod.snd) y).put (some p.2) v) w') →
   Shut (if Region.wanted o (yielded ops (over a0 (L.map Prod.snd) y).tmps) = true then Oper.wp P o (over a0 (L.map Prod.snd) y) w K Q else K ((over a0 (L.map Prod.snd) y).put o.dst undef) w)
theorem upto_stable (L : List (Nat × Nat)) (G : Nat → (Nat → Value) → Nat → Nat → World → Prop) {f : Nat} {listed : Array Bool} {a0 : Act} {w0 : World}
  (hrise : risesB md ops = true) (hsz : listed.size = ops.size) (hot : ∃ ot, ops[t]? = some ot)
  (hall : ∀ i, i < ops.size → listed.getD i true = false → i = t ∨ ∃ p ∈ L, p.1 = i)
  (hun : listed.getD t true = false ∧ ∀ p ∈ L, listed.getD p.1 true = false)
  (hno : (L.map Prod.fst).Nodup) (hnd : (L.map Prod.snd).Nodup) (htl : ∀ p ∈ L, p.1 ≠ t ∧ waitsFor md ops t p.1 = true) (hf : f = L.length + 1)
  (hS : S w0) (hSst : ∀ w w', S w → Below w.heap.size w w' → S w')
  (hG : ∀ p ∈ L, ∀ (y y' : Nat → Value) (lo hi : Nat) (w w' : World), G p.1 y lo hi w → InB w0 w lo hi → Below w.heap.size w w' → y' p.2 = y p.2 → (∀ q ∈ L, waitsFor md ops p.1 q.1 = true → y' q.2 = y q.2) → G p.1 y' lo hi w')
  (hstep : ∀ p ∈ L, StepS P md ops Q S L G a0 w0 p)
  (hlast : ∃ o, ops[t]? = some o ∧ ∀ (y : Nat → Value) (w : World) (lo hi : Nat → Nat), S w → Below w0.heap.size w0 w → (∀ q ∈ L, InB w0 w (lo q.1) (hi q.1) ∧ G q.1 y (lo q.1) (hi q.1) w) → (∀ q ∈ L, ∀ r ∈ L, q.1 ≠ r.1 → ApartB lo hi q.1 r.1) →
   ∀ K : Act → World → Prop, (∀ a' w', Q .normal a' w' → K a' w') → Shut (if Region.wanted o (yielded ops (over a0 (L.map Prod.snd) y).tmps) = true then Oper.wp P o (over a0 (L.map Prod.snd) y) w K Q else K ((over a0 (L.map Prod.snd) y).put o.dst undef) w)) :
  wpUpto P md ops Q S t f listed a0 w0 := by
 -- the same from any state on the way
 have H : ∀ (n f : Nat) (listed : Array Bool) (y : Nat → Value) (w : World) (lo hi : Nat → Nat),
   f = (L.filter fun p => !listed.getD p.1 true).length + 1 → listed.size = ops.size → listed.getD t true = false →
   (∀ i, i < ops.size → listed.getD i true = false → i = t ∨ ∃ p ∈ L, p.1 = i) →
   (∀ p ∈ L, listed.getD p.1 true = true → ∀ q ∈ L, waitsFor md ops p.1 q.1 = true → listed.getD q.1 true = true) →
   S w → Below w0.heap.size w0 w → (∀ q ∈ L, listed.getD q.1 true = true → InB w0 w (lo q.1) (hi q.1) ∧ G q.1 y (lo q.1) (hi q.1) w) →
   (∀ q ∈ L, ∀ r ∈ L, q.1 ≠ r.1 → listed.getD q.1 true = true → listed.getD r.1 true = true → ApartB lo hi q.1 r.1) →
   f ≤ n → wpUpto P md ops Q S t f listed (over a0 (L.map Prod.snd) y) w := by
  intro n
  induction n with
  | zero => intro f listed y w lo hi hf _ _ _ _ _ _ _ _ hn; omega
  | succ n ih =>
   intro f listed y w lo hi hf hsz htun hall hdown hS hB hGs hAp hn
   obtain ⟨ot, hot⟩ := hot
   have htlt : t < ops.size := by
    rcases Nat.lt_or_ge t ops.size with h | h
    ·
     exact h
    ·
     rw [Array.getElem?_eq_none h] at hot; cases hot
   obtain ⟨g, rfl⟩ : ∃ g, f = g + 1 := ⟨_, hf⟩
   have hg : g = (L.filter fun p => !listed.getD p.1 true).length := by omega
   refine ⟨fun h => ?_, fun i hi' => ?_⟩
   ·
    obtain ⟨j, hj⟩ := ready_some hrise hsz (t + 1) t (by omega) htlt htun
    rw [h] at hj
    cases hj
   obtain ⟨hiun, o, hio, hdeps⟩ := mem_ready.1 hi'
   have hilt : i < ops.size := by
    rcases Nat.lt_or_ge i ops.size with h | h
    ·
     exact h
    ·
     rw [Array.getElem?_eq_none h] at hio; cases hio
   have hdep : ∀ k, k < ops.size → waitsFor md ops i k = true → listed.getD k true = true := by
    intro k hk hw
    unfold waitsFor at hw
    rw [hio] at hw
    obtain ⟨e, he, hb⟩ := Array.any_eq_true'.1 hw
    simp only [Bool.and_eq_true, beq_iff_eq] at hb
    have h1 := hdeps e he hb.1
    rw [hb.2] at h1
    have hk' : k < listed.size := by omega
    simp [hk'] at h1 ⊢
    exact h1
   have hLlt : ∀ p ∈ L, p.1 < ops.size := by
    intro p hp
    obtain ⟨o', ho', _⟩ := hstep p hp
    rcases Nat.lt_or_ge p.1 ops.size with h | h
    ·
     exact h
    ·
     rw [Array.getElem?_eq_none h] at ho'; cases ho'
   have key : ∀ K : Act → World → Prop, (if Region.wanted o (yielded ops (over a0 (L.map Prod.snd) y).tmps) = true then Oper.wp P o (over a0 (L.map Prod.snd) y) w K Q else K ((over a0 (L.map Prod.snd) y).put o.dst undef) w) → wpOp P ops Q i K (over a0 (L.map Prod.snd) y) w := by
    intro K h1
    unfold wpOp
    simp only [hio]
    split
    ·
     rename_i hw
     rw [if_pos hw] at h1
     exact .inl h1
    ·
     rename_i hw
     rw [if_neg hw] at h1
     exact h1
   refine key _ ?_
   by_cases hit : i = t
   ·
    subst hit
    have hl : ∀ p ∈ L, listed.getD p.1 true = true := fun p hp => hdep p.1 (hLlt p hp) (htl p hp).2
    obtain ⟨o2, ho2, hlst⟩ := hlast
    rw [hio] at ho2
    cases ho2
    refine (hlst y w lo hi hS hB (fun q hq => hGs q hq (hl q hq)) (fun q hq r hr hne => hAp q hq r hr hne (hl q hq) (hl r hr)) _ (fun a' w' hq => ⟨fun h => absurd rfl h, upto_done ?_ hq⟩)).out
    rw [List.eq_nil_iff_forall_not_mem]
    intro j hj
    obtain ⟨hjun, oj, hjo, _⟩ := mem_ready.1 hj
    have hjl : j < ops.size := by
     rcases Nat.lt_or_ge j ops.size with h | h
     ·
      exact h
     ·
      rw [Array.getElem?_eq_none h] at hjo; cases hjo
    by_cases hji : i = j
    ·
     subst hji
     have hk' : i < listed.size := by omega
     simp [hk'] at hjun
    ·
     rw [getD_set_ne true hji] at hjun
     rcases hall j hjl hjun with h | ⟨p, hp, h⟩
     ·
      exact hji h.symm
     ·
      rw [← h, hl p hp] at hjun; cases hjun
   ·
    obtain ⟨p, hp, hpi⟩ := (hall i hilt hiun).resolve_left hit
    subst hpi
    obtain ⟨o', ho', hdst, hst⟩ := hstep p hp
    rw [hio] at ho'
    cases ho'
    refine (hst y w lo hi hS hB (fun q hq hw => hGs q hq (hdep q.1 (hLlt q hq) hw)) (fun q hq r hr hne h1 h2 => hAp q hq r hr hne (hdep q.1 (hLlt q hq) h1) (hdep r.1 (hLlt r hr) h2)) _ (fun v w' hb hGp => ⟨fun _ => hSst _ _ hS hb, ?_⟩)).out
    rw [over_put (List.mem_map_of_mem hp) hnd]
    have hlt : p.1 < listed.size := by omega
    have hself : (listed.setIfInBounds p.1 true).getD p.1 true = true := by simp [hlt]
    have hoth : ∀ j, p.1 ≠ j → (listed.setIfInBounds p.1 true).getD j true = listed.getD j true := fun j h => getD_set_ne true h
    have hinj : ∀ q ∈ L, q.1 = p.1 → q = p := fun q hq h => inj_fst L hno q hq p hp h
    have hinj2 : ∀ q ∈ L, q.2 = p.2 → q = p := fun q hq h => inj_snd L hnd q hq p hp h
    refine ih g (listed.setIfInBounds p.1 true) (updV y p.2 v) w' (fun j => if j = p.1 then w.heap.size else lo j) (fun j => if j = p.1 then w'.heap.size else hi j) ?_ (by simpa using hsz) ?_ ?_ ?_ (hSst _ _ hS hb) (hB.trans (hb.mono hB.size)) ?_ ?_ (by omega)
    ·
     rw [hg]
     refine filter_less hno hp (by rw [hiun]; rfl) (by rw [hself]; rfl) (fun q hq hne => ?_)
     rw [hoth _ (fun c => hne (hinj q hq c.symm))]
    ·
     rw [hoth _ (fun h => hit h)]; exact htun
    ·
     intro j hj hju
     by_cases e : p.1 = j
     ·
      subst e; rw [hself] at hju; cases hju
     ·
      rw [hoth _ e] at hju; exact hall j hj hju
    ·
     intro q hq hql r hr hw
     by_cases e : p.1 = r.1
     ·
      rw [← e]; exact hself
     ·
      rw [hoth _ e]
      by_cases e2 : p.1 = q.1
      ·
       rw [← e2] at hw; exact hdep r.1 (hLlt r hr) hw
      ·
       rw [hoth _ e2] at hql; exact hdown q hq hql r hr hw
    ·
     intro q hq hql
     by_cases e : q.1 = p.1
     ·
      have e2 := hinj q hq e
      subst e2
      simp only [if_true]
      exact ⟨⟨hB.size, hb.size, Nat.le_refl _⟩, hGp⟩
     ·
      rw [hoth _ (Ne.symm e)] at hql
      simp only [if_neg e]
      obtain ⟨h1, h2⟩ := hGs q hq hql
      refine ⟨⟨h1.1, h1.2.1, Nat.le_trans h1.2.2 hb.size⟩, hG q hq y (updV y p.2 v) _ _ w w' h2 h1 hb ?_ ?_⟩
      ·
       exact if_neg (fun c => e (by rw [hinj2 q hq c]))
      ·
       intro r hr hw
       refine if_neg (fun c => ?_)
       have e3 := hinj2 r hr c
       subst e3
       rw [hdown q hq hql _ hr hw] at hiun
       cases hiun
    ·
     intro q hq r hr hne hql hrl
     unfold ApartB
     by_cases e : q.1 = p.1
     ·
      have e' : r.1 ≠ p.1 := fun c => hne (e.trans c.symm)
      rw [hoth _ (Ne.symm e')] at hrl
      simp only [if_pos e, if_neg e']
      exact .inr (hGs r hr hrl).1.2.2
     ·
      rw [hoth _ (Ne.symm e)] at hql
      by_cases e' : r.1 = p.1
      ·
       simp only [if_neg e, if_pos e']
       exact .inl (hGs q hq hql).1.2.2
      ·
       rw [hoth _ (Ne.symm e')] at hrl
       simp only [if_neg e, if_neg e']
       exact hAp q hq r hr hne hql hrl
 have h0 := H f f listed (fun s => a0.tmps.getD s undef) w0 (fun _ => 0) (fun _ => 0) (by
  rw [hf, List.filter_eq_self.2 (fun p hp => by rw [hun.2 p hp]; rfl)]) hsz hun.1 hall (fun p hp h => by rw [hun.2 p hp] at h; cases h) hS (Below.refl _ _) (fun q hq h => by rw [hun.2 q hq] at h; cases h) (fun q hq r hr hne h => by rw [hun.2 q hq] at h; cases h) (Nat.le_refl _)
 rw [over_self] at h0
 exact h0
def checkS (md : Region.Mode) (ops : Array Oper) (listed : Array Bool) (t f : Nat) (L : List (Nat × Nat)) : Bool :=
 risesB md ops && decide (listed.size = ops.size) && (ops[t]?).isSome && ((List.range ops.size).all fun i => listed.getD i true || decide (i = t) || L.any fun p => decide (p.1 = i)) &&
  !listed.getD t true && (L.all fun p => !listed.getD p.1 true) && decide (L.map Prod.fst).Nodup && decide (L.map Prod.snd).Nodup && (L.all fun p => decide (p.1 ≠ t) && waitsFor md ops t p.1) && decide (f = L.length + 1)
theorem upto_stable' (L : List (Nat × Nat)) (G : Nat → (Nat → Value) → Nat → Nat → World → Prop) {f : Nat} {listed : Array Bool} {a0 : Act} {w0 : World} (hc : checkS md ops listed t f L = true)
  (hS : S w0) (hSst : ∀ w w', S w → Below w.heap.size w w' → S w')
  (hG : ∀ p ∈ L, ∀ (y y' : Nat → Value) (lo hi : Nat) (w w' : World), G p.1 y lo hi w → InB w0 w lo hi → Below w.heap.size w w' → y' p.2 = y p.2 → (∀ q ∈ L, waitsFor md ops p.1 q.1 = true → y' q.2 = y q.2) → G p.1 y' lo hi w')
  (hstep : ∀ p ∈ L, StepS P md ops Q S L G a0 w0 p)
  (hlast : ∃ o, ops[t]? = some o ∧ ∀ (y : Nat → Value) (w : World) (lo hi : Nat → Nat), S w → Below w0.heap.size w0 w → (∀ q ∈ L, InB w0 w (lo q.1) (hi q.1) ∧ G q.1 y (lo q.1) (hi q.1) w) → (∀ q ∈ L, ∀ r ∈ L, q.1 ≠ r.1 → ApartB lo hi q.1 r.1) →
   ∀ K : Act → World → Prop, (∀ a' w', Q .normal a' w' → K a' w') → Shut (if Region.wanted o (yielded ops (over a0 (L.map Prod.snd) y).tmps) = true then Oper.wp P o (over a0 (L.map Prod.snd) y) w K Q else K ((over a0 (L.map Prod.snd) y).put o.dst undef) w)) :
  wpUpto P md ops Q S t f listed a0 w0 := by
 unfold checkS at hc
 simp only [Bool.and_eq_true, decide_eq_true_eq, List.all_eq_true, List.any_eq_true, Bool.or_eq_true, Bool.not_eq_true', List.mem_range] at hc
 obtain ⟨⟨⟨⟨⟨⟨⟨⟨⟨h1, h2⟩, h3⟩, h4⟩, h5⟩, h6⟩, h7⟩, h8⟩, h9⟩, h10⟩ := hc
 refine upto_stable L G h1 h2 (Option.isSome_iff_exists.1 h3) (fun i hi hu => ?_) ⟨h5, h6⟩ h7 h8 h9 h10 hS hSst hG hstep hlast
 rcases h4 i hi with (h | h) | h
 ·
  rw [hu] at h; cases h
 ·
  exact .inl h
 ·
  exact .inr h
end

end Go.Proofs.YtndghenlapbaaaaGreat

/-
 A shard copied, the program's.
-/
namespace Go.Proofs.YtndghenlapbaaaaGreat
open Go.RowKit
variable [DecidableEq Leg] [Inhabited Leg] [DecidableEq Mrk] [Inhabited Mrk] [DecidableEq Bal] [Inhabited Bal] [DecidableEq Cont] [Inhabited Cont] [DecidableEq Shd] [Inhabited Shd]
attribute [local go_sem ↓] Go.wp_at_zero Go.wp_at_succ

theorem conts_at10 {w : World} {v : Value} {xs : List Cont} (hx : contsR.V w v xs) : ∃ a c, v = .slice a xs.length c ∧ xs.length ≤ c ∧ c ≤ maxLen ∧ ∀ k, k < xs.length → ∃ b o p q, a = some ⟨b, o, none⟩ ∧ w.cell? ⟨b, o + k * 2, none⟩ = some (.int .i64 (xs.getD k default).id) ∧ w.cell? ⟨b, o + k * 2 + 1, none⟩ = some (.slice p (xs.getD k default).legs.length q) ∧ contR.V w (.agg #[.int .i64 (xs.getD k default).id, .slice p (xs.getD k default).legs.length q]) (xs.getD k default) := by
 obtain ⟨a, c, rfl, h1, h2, h3⟩ := hx
 refine ⟨a, c, rfl, h1, h2, fun k hk => ?_⟩
 obtain ⟨b, o, u, e, _, p, hv⟩ := h3 k hk
 have hV := hv
 obtain ⟨s, rfl, hc⟩ := hv
 obtain ⟨au, cu, rfl⟩ := legs_form hc
 exact ⟨b, o, au, cu, e, p 0 (by omega), p 1 (by omega), hV⟩
theorem wpl_appC (w : World) {ops : Array Oper} {rest : List Oper} {o : Oper} {a : Act} {Q : Exit → Act → World → Prop} (hgd : o.guard = none) (s x : Operand)
  (ho : o.op = .call { callee := .builtin .append, args := #[s, x], argTypes := #[35, 35] })
  (base : Nat) (F Fu : Nat → Prop) (v : Value) (xs : List Cont) (y : Cont) (g : Nat) (p : Option Addr) (q : Nat) (hs : a.eval s = v) (hx : a.eval x = .slice (some ⟨g, 0, none⟩) 1 1) (hown : contsR.O w base F v xs) (hu : contR.O w base Fu (.agg #[.int .i64 y.id, .slice p y.legs.length q]) y) (hd : ∀ b, F b → ¬ Fu b)
  (hc : w.cell? ⟨g, 0, none⟩ = some (.int .i64 y.id) ∧ w.cell? ⟨g, 1, none⟩ = some (.slice p y.legs.length q)) (hn : xs.length ≤ 2000000) (hbase : base ≤ w.heap.size)
  (h : ∀ v' w' F', contsR.O w' base F' v' (xs ++ [y]) → Below base w w' → (∀ b, F' b → F b ∨ Fu b ∨ w.heap.size ≤ b) → wpList Tryz.prog ops Q rest (a.put o.dst v') w') : wpList Tryz.prog ops Q (o :: rest) a w := by
 obtain ⟨i0, hi, hz0, hz1, hz2⟩ := info_parts infoConts
 exact wpl_appN w hgd s x 35 ho 44 i0 _ 2 32 Tryz.underlying35 hi hz0 hz1 hz2 rfl (by decide) (by decide) base F Fu v _ xs y ⟨g, 0, none⟩ 1 hs hx hown hu rfl (fun z hz => by
  simp [lvCont, one] at hz
  rcases hz with rfl | rfl <;> rfl) hd (fun j y' hj => by
  match j, hj with
  | 0, hj => simp [lvCont, one] at hj; subst hj; simpa [Addr.add] using hc.1
  | 1, hj => simp [lvCont, one] at hj; subst hj; simpa [Addr.add] using hc.2
  | j + 2, hj => simp [lvCont, one] at hj) hn hbase h
theorem conts_nil (w : World) (base : Nat) : contsR.O w base (fun _ => False) (.slice none 0 0) [] :=
 ⟨[], fun _ => default, fun _ _ => False, ⟨World.ownsRow_nil _ _ _ _, fun i hi => absurd hi (Nat.not_lt_zero _), fun i hi => absurd hi (Nat.not_lt_zero _), fun i hi => absurd hi (Nat.not_lt_zero _), fun i hi => absurd hi (Nat.not_lt_zero _), fun i j hi => absurd hi (Nat.not_lt_zero _)⟩, fun b => ⟨fun h => h.elim, fun h => h.elim (fun h => by simp [Value.ownBlock] at h) (fun ⟨i, hi, _⟩ => absurd hi (Nat.not_lt_zero _))⟩⟩
theorem cont_cells {w : World} {base : Nat} {F : Nat → Prop} {v : Value} {x : Cont} (h : contR.O w base F v x) : ∃ a c, v = .agg #[.int .i64 x.id, .slice a x.legs.length c] := by
 obtain ⟨u1, F1, rfl, h1, _⟩ := h
 obtain ⟨a, c, rfl⟩ := legs_form (legsR.ofO h1)
 exact ⟨a, c, rfl⟩
theorem set6 {α : Type} (R : Rep α) {W : World} {base B : Nat} {F : Nat → Prop} {v : Value} {x : α} (h : R.O W base F v x) (hB : B < base) (u0 u1 u2 u3 u4 u5 : Value) :
  R.O ((((((W.setCell ⟨B, 0, none⟩ u0).setCell ⟨B, 1, none⟩ u1).setCell ⟨B, 2, none⟩ u2).setCell ⟨B, 3, none⟩ u3).setCell ⟨B, 4, none⟩ u4).setCell ⟨B, 5, none⟩ u5) base F v x :=
 R.set (R.set (R.set (R.set (R.set (R.set h _ hB) _ hB) _ hB) _ hB) _ hB) _ hB
def copG (d : Shd) : Nat → (Nat → Value) → Nat → Nat → World → Prop
 | 4, y, lo, hi, w => (∃ a c, y 7 = .slice a d.bals.length c) ∧ w.ownsRow lo 99 3 (y 7) d.bals.length (balsC d.bals) ∧ ∀ b, (y 7).ownBlock = some b → b < hi
 | 7, y, lo, hi, w => (∃ a c, y 10 = .slice a d.votes.length c) ∧ w.ownsRow lo 89 2 (y 10) d.votes.length (mrksC d.votes) ∧ ∀ b, (y 10).ownBlock = some b → b < hi
 | 10, y, lo, hi, w => (∃ a c, y 13 = .slice a d.held.length c) ∧ ∃ F, contsR.O w lo F (y 13) d.held ∧ ∀ b, F b → b < hi
 | 13, y, lo, hi, w => (∃ a c, y 16 = .slice a d.done.length c) ∧ w.ownsRow lo 89 2 (y 16) d.done.length (mrksC d.done) ∧ ∀ b, (y 16).ownBlock = some b → b < hi
 | 16, y, lo, hi, w => (∃ a c, y 19 = .slice a d.appl.length c) ∧ w.ownsRow lo 2 1 (y 19) d.appl.length (intsC d.appl) ∧ ∀ b, (y 19).ownBlock = some b → b < hi
 | 17, y, _, _, _ => y 20 = .agg #[.int .i64 d.idx, y 7, y 10, y 13, y 16, y 19]
 | _, _, _, _, _ => True
set_option maxRecDepth 20000 in
set_option maxHeartbeats 8000000 in
theorem copEachC_u (x : Value) (xs : List Cont) (w : World) (hx : contsR.V w x xs) (hn : xs.length ≤ 1048576) (hll : ∀ k, k < xs.length → (xs.getD k default).legs.length ≤ 1048576) :
  Calls Tryz.prog 75 #[x, .func (.func 76) #[] #[]] w fun e w' => ∃ v F, e = .returned v ∧ contsR.O w' w.heap.size F v xs ∧ Below w.heap.size w w' := by
 obtain ⟨a3, c3, e3, hc3, hm3, hx3⟩ := conts_at10 hx
 subst e3
 unfold maxLen at hm3
 have HX : Hid (∀ k, k < xs.length → ∃ b o p q, a3 = some ⟨b, o, none⟩ ∧ w.cell? ⟨b, o + k * 2, none⟩ = some (.int .i64 (xs.getD k default).id) ∧ w.cell? ⟨b, o + k * 2 + 1, none⟩ = some (.slice p (xs.getD k default).legs.length q) ∧ contR.V w (.agg #[.int .i64 (xs.getD k default).id, .slice p (xs.getD k default).legs.length q]) (xs.getD k default)) := hx3
 have HLl : Hid (∀ k, k < xs.length → (xs.getD k default).legs.length ≤ 1048576) := hll
 clear hx3 hll hx
 obtain ⟨n3, hn3⟩ : ∃ n3, n3 = xs.length := ⟨_, rfl⟩
 have HN : Hid (xs.length = n3) := hn3.symm
 rw [← hn3] at hc3 HX HLl hn ⊢
 clear hn3
 have eg := enters_of Tryz.func76 (by kernel_rfl) rfl
 go_enter Tryz.func75, Tryz.ntmps75
 go_wp2
 go_loopw [5, 10] (fun s i w' => ∃ (k : Nat) (a : Option Addr) (c : Nat) (F : Nat → Prop), k ≤ n3 ∧ i = .int .i64 k ∧ s = .slice a k c ∧ Hid (contsR.O w' w.heap.size F (.slice a k c) (xs.take k)) ∧ Below w.heap.size w w') (fun s i _ => n3 - (intOf i).toNat)
 case atStart => exact ⟨0, none, 0, _, Nat.zero_le _, rfl, rfl, conts_nil _ _, qBq⟩
 case round =>
  obtain ⟨k, as_, cs_, F, hk, rfl, rfl, HO, hbl⟩ := hrel
  have zr := hbl.size
  by_cases hlt : k < n3
  ·
   obtain ⟨bx, ox, pp, qq, rfl, g0, g1, hV⟩ := HX.out k hlt
   have hcw := HLl.out k hlt
   obtain ⟨l, hl⟩ : ∃ l, l = xs.getD k default := ⟨_, rfl⟩
   rw [← hl] at g0 g1 hV hcw
   have HL : Hid (xs.take (k + 1) = xs.take k ++ [l]) := by
    show _ = _
    rw [List.take_succ_eq_append_getElem (by rw [HN.out]; exact hlt), hl]
    simp [List.getD, show k < xs.length by rw [HN.out]; exact hlt]
   clear hl
   have HCp : Hid (∀ W, Below w.heap.size w W → Calls Tryz.prog 76 #[.agg #[.int .i64 l.id, .slice pp l.legs.length qq]] W fun e w' => ∃ v F, e = .returned v ∧ contR.O w' W.heap.size F v l ∧ Below W.heap.size W w') := fun W hW => copiedCon_u _ l W (contR.below hV hW) hcw
   clear hV
   replace g0 := cK hbl g0
   replace g1 := cK hbl g1
   have zb : bx < wr.heap.size := wL wr _ g0
   go_wp2_with fail
   refine (HCp.out _ (qBq)).mono ?_
   rintro e w2 ⟨v2, F2, rfl, o2, hb2⟩
   obtain ⟨a2', c2', rfl⟩ := cont_cells o2
   have hz2 := hb2.size
   simp at hz2
   have hB2 : Below wr.heap.size wr w2 := qBq
   have HO2 : Hid (contsR.O w2 w.heap.size F (.slice as_ k cs_) (xs.take k)) := contsR.keep HO.out hB2
   have HFl : Hid (∀ b, F b → b < wr.heap.size) := fun b hb => (contsR.rng HO.out b hb).2
   have HF2 : Hid (∀ b, F2 b → wr.heap.size + 1 ≤ b) := fun b hb => by have := (contR.rng o2 b hb).1; simpa using this
   have HU : Hid (contR.O w2 w.heap.size F2 (.agg #[.int .i64 l.id, .slice a2' l.legs.length c2']) l) := contR.base o2 (by simp; omega)
   have hB3 : Below w.heap.size w w2 := bS hbl hB2
   clear hb2 o2 HCp HO g0 g1 hB2
   go_wp2_with (at_builtin; refine wpl_appC _ rfl _ _ rfl w.heap.size F F2 _ (xs.take k) l w2.heap.size a2' c2' rfl rfl ?a1 ?a2 ?a3 ?a4 ?a5 ?a6 ?_)
   case a1 => exact contsR.alloc HO2.out _
   case a2 => exact contR.alloc HU.out _
   case a3 => exact fun b h1 h2 => by have := HFl.out b h1; have := HF2.out b h2; omega
   case a4 => simp [go_sem]
   case a5 => rw [List.length_take, HN.out]; omega
   case a6 => simp; omega
   intro v3 w3 F3 o3 hb3 _
   rw [← HL.out] at o3
   obtain ⟨a3', c3', e3⟩ := conts_form (contsR.ofO o3)
   rw [show (xs.take (k + 1)).length = k + 1 by rw [List.length_take, HN.out]; omega] at e3
   subst e3
   have HO3 : Hid (contsR.O w3 w.heap.size F3 (.slice a3' (k + 1) c3') (xs.take (k + 1))) := o3
   have hB5 : Below w.heap.size w w3 := Below.trans (bA hB3 _) hb3
   clear o3 hb3
   go_wp2
   exact ⟨⟨k + 1, a3', c3', F3, by omega, by go_num, rfl, HO3, hB5⟩, by simp [intOf]; omega⟩
  ·
   have hkn : k = n3 := by omega
   subst hkn
   have ho := HO.out
   rw [List.take_of_length_le (by rw [HN.out]; exact Nat.le_refl _)] at ho
   go_wp2
   go_ret
   exact ⟨_, F, rfl, ho, hbl⟩
set_option maxRecDepth 20000 in
set_option maxHeartbeats 8000000 in
theorem copiedShd_u (x : Value) (d : Shd) (w : World) (hx : shdR.V w x d) (hn : d.bals.length ≤ 1048576 ∧ d.votes.length ≤ 1048576 ∧ d.held.length ≤ 1048576 ∧ d.done.length ≤ 1048576 ∧ d.appl.length ≤ 1048576) (hll : ∀ k, k < d.held.length → (d.held.getD k default).legs.length ≤ 1048576) :
  Calls Tryz.prog 36 #[x] w fun e w' => ∃ v F, e = .returned v ∧ shdR.O w' w.heap.size F v d ∧ Below w.heap.size w w' := by
 obtain ⟨u1, u2, u3, u4, u5, rfl, h1, h2, h3, h4, h5⟩ := hx
 have HA1 : Hid (∀ W, Below w.heap.size w W → AppAny W u1 d.bals.length (balsC d.bals)) := fun W hW => appAny_bals (balsR.below h1 hW)
 have HA2 : Hid (∀ W, Below w.heap.size w W → AppAny W u2 d.votes.length (mrksC d.votes)) := fun W hW => appAny_mrks10 (mrksR.below h2 hW)
 have HA4 : Hid (∀ W, Below w.heap.size w W → AppAny W u4 d.done.length (mrksC d.done)) := fun W hW => appAny_mrks10 (mrksR.below h4 hW)
 have HA5 : Hid (∀ W, Below w.heap.size w W → AppAny W u5 d.appl.length (intsC d.appl)) := fun W hW => appAny_ints (intsR.below h5 hW)
 have HC3 : Hid (∀ W, Below w.heap.size w W → Calls Tryz.prog 75 #[u3, .func (.func 76) #[] #[]] W fun e w' => ∃ v F, e = .returned v ∧ contsR.O w' W.heap.size F v d.held ∧ Below W.heap.size W w') := fun W hW => copEachC_u _ d.held W (contsR.below h3 hW) hn.2.2.1 hll
 obtain ⟨a1, c1, rfl⟩ := bals_form h1
 obtain ⟨a2, c2, rfl⟩ := mrks_form h2
 obtain ⟨a3, c3, rfl⟩ := conts_form h3
 obtain ⟨a4, c4, rfl⟩ := mrks_form h4
 obtain ⟨a5, c5, rfl⟩ := ints_form h5
 have HLn : Hid (d.bals.length ≤ 1048576 ∧ d.votes.length ≤ 1048576 ∧ d.held.length ≤ 1048576 ∧ d.done.length ≤ 1048576 ∧ d.appl.length ≤ 1048576) := hn
 clear h1 h2 h3 h4 h5 hn hll
 go_enter Tryz.func36, Tryz.ntmps36
 go_wp2
 obtain ⟨wq, hwq⟩ : ∃ wq, wq = (w.alloc (.cells #[.int .i64 d.idx, .slice a1 d.bals.length c1, .slice a2 d.votes.length c2, .slice a3 d.held.length c3, .slice a4 d.done.length c4, .slice a5 d.appl.length c5] 37)).alloc (.cells #[.int .i64 0, .slice none 0 0, .slice none 0 0, .slice none 0 0, .slice none 0 0, .slice none 0 0] 37) := ⟨_, rfl⟩
 have y0 : wq.cell? ⟨w.heap.size, 0, none⟩ = some (.int .i64 d.idx) := by rw [hwq]; simp [go_sem]
 have y1 : wq.cell? ⟨w.heap.size, 1, none⟩ = some (.slice a1 d.bals.length c1) := by rw [hwq]; simp [go_sem]
 have y2 : wq.cell? ⟨w.heap.size, 2, none⟩ = some (.slice a2 d.votes.length c2) := by rw [hwq]; simp [go_sem]
 have y3 : wq.cell? ⟨w.heap.size, 3, none⟩ = some (.slice a3 d.held.length c3) := by rw [hwq]; simp [go_sem]
 have y4 : wq.cell? ⟨w.heap.size, 4, none⟩ = some (.slice a4 d.done.length c4) := by rw [hwq]; simp [go_sem]
 have y5 : wq.cell? ⟨w.heap.size, 5, none⟩ = some (.slice a5 d.appl.length c5) := by rw [hwq]; simp [go_sem]
 have r0 : wq.cell? ⟨w.heap.size + 1, 0, none⟩ = some (.int .i64 0) := by rw [hwq]; simp [go_sem]
 have r1 : wq.cell? ⟨w.heap.size + 1, 1, none⟩ = some (.slice none 0 0) := by rw [hwq]; simp [go_sem]
 have r2 : wq.cell? ⟨w.heap.size + 1, 2, none⟩ = some (.slice none 0 0) := by rw [hwq]; simp [go_sem]
 have r3 : wq.cell? ⟨w.heap.size + 1, 3, none⟩ = some (.slice none 0 0) := by rw [hwq]; simp [go_sem]
 have r4 : wq.cell? ⟨w.heap.size + 1, 4, none⟩ = some (.slice none 0 0) := by rw [hwq]; simp [go_sem]
 have r5 : wq.cell? ⟨w.heap.size + 1, 5, none⟩ = some (.slice none 0 0) := by rw [hwq]; simp [go_sem]
 have rf : ∀ o, wq.frozen? ⟨w.heap.size + 1, o, none⟩ = false := fun o => by rw [hwq]; simp [go_sem]
 have hBq : Below w.heap.size w wq := by rw [hwq]; (repeat (first | exact bR _ _ | assumption | refine bD ?_ | refine bA ?_ _ | refine bset ?_ (by simp; omega) _ | refine bset ?_ (by simp) _ | refine bS ?_ (by assumption)))
 have zq : w.heap.size + 1 < wq.heap.size := by rw [hwq]; simp
 rw [← hwq]
 clear hwq
 refine wp_region_noPanic ?_
 refine region_upto (fun W => Below wq.heap.size wq W ∧ W.cell? ⟨w.heap.size, 0, none⟩ = some (.int .i64 d.idx) ∧ W.cell? ⟨w.heap.size, 1, none⟩ = some (.slice a1 d.bals.length c1) ∧ W.cell? ⟨w.heap.size, 2, none⟩ = some (.slice a2 d.votes.length c2) ∧ W.cell? ⟨w.heap.size, 3, none⟩ = some (.slice a3 d.held.length c3) ∧ W.cell? ⟨w.heap.size, 4, none⟩ = some (.slice a4 d.done.length c4) ∧ W.cell? ⟨w.heap.size, 5, none⟩ = some (.slice a5 d.appl.length c5)) 18 (by kernel_rfl) ⟨qBq, cK (qBq) y0, cK (qBq) y1, cK (qBq) y2, cK (qBq) y3, cK (qBq) y4, cK (qBq) y5⟩ (fun hS => ?_)
 refine tK (i := 0) (v := ?_) rfl (by kernel_rfl) hS ?_ ?_
 rotate_left
 ·
  intro wS hSw; (try dsimp only at hSw); go_simp; try with_reducible rfl
 try simp only [Act.put, jA, jB, jC, jD, jE, jF]
 refine tK (i := 1) (v := ?_) rfl (by kernel_rfl) hS ?_ ?_
 rotate_left
 ·
  intro wS hSw; (try dsimp only at hSw); go_simp; try with_reducible rfl
 try simp only [Act.put, jA, jB, jC, jD, jE, jF]
 refine tK (i := 2) (v := ?_) rfl (by kernel_rfl) hS ?_ ?_
 rotate_left
 ·
  intro wS hSw; (try dsimp only at hSw); go_simp; try with_reducible rfl
 try simp only [Act.put, jA, jB, jC, jD, jE, jF]
 refine tK (i := 3) (v := ?_) rfl (by kernel_rfl) hS ?_ ?_
 rotate_left
 ·
  intro wS hSw; (try dsimp only at hSw); go_simp; try with_reducible rfl
 try simp only [Act.put, jA, jB, jC, jD, jE, jF]
 refine tK (i := 5) (v := ?_) rfl (by kernel_rfl) hS ?_ ?_
 rotate_left
 ·
  intro wS hSw; (try dsimp only at hSw); go_simp; try with_reducible rfl
 try simp only [Act.put, jA, jB, jC, jD, jE, jF]
 refine tK (i := 6) (v := ?_) rfl (by kernel_rfl) hS ?_ ?_
 rotate_left
 ·
  intro wS hSw; (try dsimp only at hSw); go_simp; try with_reducible rfl
 try simp only [Act.put, jA, jB, jC, jD, jE, jF]
 refine tK (i := 8) (v := ?_) rfl (by kernel_rfl) hS ?_ ?_
 rotate_left
 ·
  intro wS hSw; (try dsimp only at hSw); go_simp; try with_reducible rfl
 try simp only [Act.put, jA, jB, jC, jD, jE, jF]
 refine tK (i := 9) (v := ?_) rfl (by kernel_rfl) hS ?_ ?_
 rotate_left
 ·
  intro wS hSw; (try dsimp only at hSw); go_simp; try with_reducible rfl
 try simp only [Act.put, jA, jB, jC, jD, jE, jF]
 refine tK (i := 11) (v := ?_) rfl (by kernel_rfl) hS ?_ ?_
 rotate_left
 ·
  intro wS hSw; (try dsimp only at hSw); go_simp; try with_reducible rfl
 try simp only [Act.put, jA, jB, jC, jD, jE, jF]
 refine tK (i := 12) (v := ?_) rfl (by kernel_rfl) hS ?_ ?_
 rotate_left
 ·
  intro wS hSw; (try dsimp only at hSw); go_simp; try with_reducible rfl
 try simp only [Act.put, jA, jB, jC, jD, jE, jF]
 refine tK (i := 14) (v := ?_) rfl (by kernel_rfl) hS ?_ ?_
 rotate_left
 ·
  intro wS hSw; (try dsimp only at hSw); go_simp; try with_reducible rfl
 try simp only [Act.put, jA, jB, jC, jD, jE, jF]
 refine tK (i := 15) (v := ?_) rfl (by kernel_rfl) hS ?_ ?_
 rotate_left
 ·
  intro wS hSw; (try dsimp only at hSw); go_simp; try with_reducible rfl
 try simp only [Act.put, jA, jB, jC, jD, jE, jF]
 have hb0 : Below wq.heap.size wq wq.drew := qBq
 have zw0 : w.heap.size + 1 < wq.drew.heap.size := by simp; omega
 replace r0 := cK hb0 r0
 replace r1 := cK hb0 r1
 replace r2 := cK hb0 r2
 replace r3 := cK hb0 r3
 replace r4 := cK hb0 r4
 replace r5 := cK hb0 r5
 replace rf : ∀ o, wq.drew.frozen? ⟨w.heap.size + 1, o, none⟩ = false := fun o => by rw [(bcell hb0).2 _ _ (by omega)]; exact rf o
 have hBd : Below w.heap.size w wq.drew := bS hBq hb0
 clear hb0
 generalize wq.drew = W0 at *
 refine upto_stable' [(4, 7), (7, 10), (10, 13), (13, 16), (16, 19), (17, 20)] (copG d) (by kernel_rfl) hS (fun W W' h hb => ⟨bS h.1 hb, cK hb h.2.1, cK hb h.2.2.1, cK hb h.2.2.2.1, cK hb h.2.2.2.2.1, cK hb h.2.2.2.2.2.1, cK hb h.2.2.2.2.2.2⟩) ?_ ?_ ?_
 ·
  intro p hp
  simp only [List.mem_cons, List.not_mem_nil, or_false] at hp
  rcases hp with rfl | rfl | rfl | rfl | rfl | rfl
  all_goals intro y y' lo hi W W' h hi' hb e he
  ·
   simp only [copG] at h ⊢
   rw [e]
   exact ⟨h.1, owns_below h.2.1 hb, h.2.2⟩
  ·
   simp only [copG] at h ⊢
   rw [e]
   exact ⟨h.1, owns_below h.2.1 hb, h.2.2⟩
  ·
   simp only [copG] at h ⊢
   rw [e]
   obtain ⟨h1, F, h2, h3⟩ := h
   exact ⟨h1, F, contsR.keep h2 hb, h3⟩
  ·
   simp only [copG] at h ⊢
   rw [e]
   exact ⟨h.1, owns_below h.2.1 hb, h.2.2⟩
  ·
   simp only [copG] at h ⊢
   rw [e]
   exact ⟨h.1, owns_below h.2.1 hb, h.2.2⟩
  ·
   have e1 := he (4, 7) (by simp) (by kernel_rfl)
   have e2 := he (7, 10) (by simp) (by kernel_rfl)
   have e3 := he (10, 13) (by simp) (by kernel_rfl)
   have e4 := he (13, 16) (by simp) (by kernel_rfl)
   have e5 := he (16, 19) (by simp) (by kernel_rfl)
   simp only [copG] at h ⊢
   rw [e, e1, e2, e3, e4, e5]
   exact h
 ·
  intro p hp
  simp only [List.mem_cons, List.not_mem_nil, or_false] at hp
  rcases hp with rfl | rfl | rfl | rfl | rfl | rfl
  all_goals
   refine ⟨_, rfl, rfl, ?_⟩
   intro y W lo hi hSW hBW hd hap K hK
   clear hap
  ·
   clear hd
   refine ⟨?_⟩
   refine step_app10B W rfl (.const (.slice none 0 0)) (.tmp 6) rfl W.heap.size (.slice none 0 0) [] rfl (.slice a1 d.bals.length c1) d.bals rfl (World.ownsRow_nil _ _ _ _) (HA1.out W (bS hBq hSW.1)) (by have := HLn.out; simp; omega) (Nat.le_refl _) ?_
   intro v' w' ho _ hB
   have hb := hB W (Below.refl _ _)
   simp only [List.nil_append] at ho
   refine hK _ _ hb ?_
   simp only [copG, updV]
   obtain ⟨av, cv, hv⟩ := owns_form ho
   refine ⟨⟨av, cv, by simpa using hv⟩, by simpa using ho, fun b hb' => ?_⟩
   exact (ho.lt b (by simpa using hb')).2
  ·
   clear hd
   refine ⟨?_⟩
   refine step_app10M W rfl (.const (.slice none 0 0)) (.tmp 9) rfl W.heap.size (.slice none 0 0) [] rfl (.slice a2 d.votes.length c2) d.votes rfl (World.ownsRow_nil _ _ _ _) (HA2.out W (bS hBq hSW.1)) (by have := HLn.out; simp; omega) (Nat.le_refl _) ?_
   intro v' w' ho _ hB
   have hb := hB W (Below.refl _ _)
   simp only [List.nil_append] at ho
   refine hK _ _ hb ?_
   simp only [copG, updV]
   obtain ⟨av, cv, hv⟩ := owns_form ho
   refine ⟨⟨av, cv, by simpa using hv⟩, by simpa using ho, fun b hb' => ?_⟩
   exact (ho.lt b (by simpa using hb')).2
  ·
   clear hd
   refine ⟨?_⟩
   simp only [over, Act.put, jA, jB, jC, List.map_cons, List.map_nil, List.foldl_cons, List.foldl_nil, jD, jE, jF] at hK ⊢
   go_simp
   refine (HC3.out _ (bS hBq hSW.1)).mono ?_
   rintro e w' ⟨v, F, rfl, o3, hb3⟩
   refine hK _ _ hb3 ?_
   simp only [copG, updV]
   obtain ⟨av, cv, hv⟩ := conts_form (contsR.ofO o3)
   exact ⟨⟨av, cv, by simpa using hv⟩, F, by simpa using o3, fun b hb' => (contsR.rng o3 b hb').2⟩
  ·
   clear hd
   refine ⟨?_⟩
   refine step_app10M W rfl (.const (.slice none 0 0)) (.tmp 15) rfl W.heap.size (.slice none 0 0) [] rfl (.slice a4 d.done.length c4) d.done rfl (World.ownsRow_nil _ _ _ _) (HA4.out W (bS hBq hSW.1)) (by have := HLn.out; simp; omega) (Nat.le_refl _) ?_
   intro v' w' ho _ hB
   have hb := hB W (Below.refl _ _)
   simp only [List.nil_append] at ho
   refine hK _ _ hb ?_
   simp only [copG, updV]
   obtain ⟨av, cv, hv⟩ := owns_form ho
   refine ⟨⟨av, cv, by simpa using hv⟩, by simpa using ho, fun b hb' => ?_⟩
   exact (ho.lt b (by simpa using hb')).2
  ·
   clear hd
   refine ⟨?_⟩
   refine step_app10I W rfl (.const (.slice none 0 0)) (.tmp 18) rfl W.heap.size (.slice none 0 0) [] rfl (.slice a5 d.appl.length c5) d.appl rfl (World.ownsRow_nil _ _ _ _) (HA5.out W (bS hBq hSW.1)) (by have := HLn.out; simp; omega) (Nat.le_refl _) ?_
   intro v' w' ho _ hB
   have hb := hB W (Below.refl _ _)
   simp only [List.nil_append] at ho
   refine hK _ _ hb ?_
   simp only [copG, updV]
   obtain ⟨av, cv, hv⟩ := owns_form ho
   refine ⟨⟨av, cv, by simpa using hv⟩, by simpa using ho, fun b hb' => ?_⟩
   exact (ho.lt b (by simpa using hb')).2
  ·
   have g1 := (hd (4, 7) (by simp) (by kernel_rfl)).2
   have g2 := (hd (7, 10) (by simp) (by kernel_rfl)).2
   have g3 := (hd (10, 13) (by simp) (by kernel_rfl)).2
   have g4 := (hd (13, 16) (by simp) (by kernel_rfl)).2
   have g5 := (hd (16, 19) (by simp) (by kernel_rfl)).2
   clear hd
   simp only [copG] at g1 g2 g3 g4 g5
   obtain ⟨⟨q1, s1, e1⟩, _⟩ := g1
   obtain ⟨⟨q2, s2, e2⟩, _⟩ := g2
   obtain ⟨⟨q3, s3, e3⟩, _⟩ := g3
   obtain ⟨⟨q4, s4, e4⟩, _⟩ := g4
   obtain ⟨⟨q5, s5, e5⟩, _⟩ := g5
   refine ⟨?_⟩
   simp only [over, Act.put, jA, jB, jC, List.map_cons, List.map_nil, List.foldl_cons, List.foldl_nil, jD, jE, jF] at hK ⊢
   simp only [e1, e2, e3, e4, e5] at hK ⊢
   go_simp
   refine hK _ _ (Below.refl _ _) ?_
   simp only [copG, updV]
   simp [e1, e2, e3, e4, e5]
 ·
  refine ⟨_, rfl, ?_⟩
  intro y W lo hi hSW hBW hd hap K hK
  have h1 := hd (4, 7) (by simp)
  have h2 := hd (7, 10) (by simp)
  have h3 := hd (10, 13) (by simp)
  have h4 := hd (13, 16) (by simp)
  have h5 := hd (16, 19) (by simp)
  have h6 := hd (17, 20) (by simp)
  clear hd
  simp only [copG] at h1 h2 h3 h4 h5 h6
  obtain ⟨b1, ⟨q1, s1, e1⟩, o1, l1⟩ := h1
  obtain ⟨b2, ⟨q2, s2, e2⟩, o2, l2⟩ := h2
  obtain ⟨b3, ⟨q3, s3, e3⟩, F3, o3, l3⟩ := h3
  obtain ⟨b4, ⟨q4, s4, e4⟩, o4, l4⟩ := h4
  obtain ⟨b5, ⟨q5, s5, e5⟩, o5, l5⟩ := h5
  obtain ⟨_, g6⟩ := h6
  have p1_2 := hap (4, 7) (by simp) (7, 10) (by simp) (by simp)
  have p1_3 := hap (4, 7) (by simp) (10, 13) (by simp) (by simp)
  have p1_4 := hap (4, 7) (by simp) (13, 16) (by simp) (by simp)
  have p1_5 := hap (4, 7) (by simp) (16, 19) (by simp) (by simp)
  have p2_3 := hap (7, 10) (by simp) (10, 13) (by simp) (by simp)
  have p2_4 := hap (7, 10) (by simp) (13, 16) (by simp) (by simp)
  have p2_5 := hap (7, 10) (by simp) (16, 19) (by simp) (by simp)
  have p3_4 := hap (10, 13) (by simp) (13, 16) (by simp) (by simp)
  have p3_5 := hap (10, 13) (by simp) (16, 19) (by simp) (by simp)
  have p4_5 := hap (13, 16) (by simp) (16, 19) (by simp) (by simp)
  clear hap
  simp only [ApartB] at p1_2 p1_3 p1_4 p1_5 p2_3 p2_4 p2_5 p3_4 p3_5 p4_5
  rw [e1] at o1 l1 g6
  have t1 : ∀ b, (Value.slice q1 _ s1).ownBlock = some b → lo 4 ≤ b ∧ b < hi 4 := fun b h => ⟨(o1.lt b h).1, l1 b h⟩
  have z1 : W0.heap.size ≤ lo 4 := b1.1
  rw [e2] at o2 l2 g6
  have t2 : ∀ b, (Value.slice q2 _ s2).ownBlock = some b → lo 7 ≤ b ∧ b < hi 7 := fun b h => ⟨(o2.lt b h).1, l2 b h⟩
  have z2 : W0.heap.size ≤ lo 7 := b2.1
  rw [e3] at o3 g6
  have t3 : ∀ b, F3 b → lo 10 ≤ b ∧ b < hi 10 := fun b h => ⟨(contsR.rng o3 b h).1, l3 b h⟩
  have z3 : W0.heap.size ≤ lo 10 := b3.1
  rw [e4] at o4 l4 g6
  have t4 : ∀ b, (Value.slice q4 _ s4).ownBlock = some b → lo 13 ≤ b ∧ b < hi 13 := fun b h => ⟨(o4.lt b h).1, l4 b h⟩
  have z4 : W0.heap.size ≤ lo 13 := b4.1
  rw [e5] at o5 l5 g6
  have t5 : ∀ b, (Value.slice q5 _ s5).ownBlock = some b → lo 16 ≤ b ∧ b < hi 16 := fun b h => ⟨(o5.lt b h).1, l5 b h⟩
  have z5 : W0.heap.size ≤ lo 16 := b5.1
  replace r0 := cK hBW r0
  replace r1 := cK hBW r1
  replace r2 := cK hBW r2
  replace r3 := cK hBW r3
  replace r4 := cK hBW r4
  replace r5 := cK hBW r5
  replace rf : ∀ o, W.frozen? ⟨w.heap.size + 1, o, none⟩ = false := fun o => by rw [(bcell hBW).2 _ _ zw0]; exact rf o
  have hBB : Below w.heap.size w W := bS hBd hBW
  have P1 : Hid (balsR.O W (lo 4) (fun b => (Value.slice q1 d.bals.length s1).ownBlock = some b) (.slice q1 d.bals.length s1) d.bals) := ⟨o1, rfl⟩
  have P2 : Hid (mrksR.O W (lo 7) (fun b => (Value.slice q2 d.votes.length s2).ownBlock = some b) (.slice q2 d.votes.length s2) d.votes) := ⟨o2, rfl⟩
  have P3 : Hid (contsR.O W (lo 10) F3 (.slice q3 d.held.length s3) d.held) := o3
  have P4 : Hid (mrksR.O W (lo 13) (fun b => (Value.slice q4 d.done.length s4).ownBlock = some b) (.slice q4 d.done.length s4) d.done) := ⟨o4, rfl⟩
  have P5 : Hid (intsR.O W (lo 16) (fun b => (Value.slice q5 d.appl.length s5).ownBlock = some b) (.slice q5 d.appl.length s5) d.appl) := ⟨o5, rfl⟩
  have HT : Hid ((∀ b, (Value.slice q1 d.bals.length s1).ownBlock = some b → lo 4 ≤ b ∧ b < hi 4) ∧ (∀ b, (Value.slice q2 d.votes.length s2).ownBlock = some b → lo 7 ≤ b ∧ b < hi 7) ∧ (∀ b, F3 b → lo 10 ≤ b ∧ b < hi 10) ∧ (∀ b, (Value.slice q4 d.done.length s4).ownBlock = some b → lo 13 ≤ b ∧ b < hi 13) ∧ (∀ b, (Value.slice q5 d.appl.length s5).ownBlock = some b → lo 16 ≤ b ∧ b < hi 16)) := ⟨t1, t2, t3, t4, t5⟩
  clear o1 o2 o3 o4 o5 l1 l2 l3 l4 l5 t1 t2 t3 t4 t5 e1 e2 e3 e4 e5 b1 b2 b3 b4 b5 hSW
  refine ⟨?_⟩
  simp only [over, Act.put, jA, jB, jC, List.map_cons, List.map_nil, List.foldl_cons, List.foldl_nil, jD, jE, jF]
  simp only [g6]
  clear g6 hS
  go_simp
  refine hK _ _ ?_
  clear hK K
  refine NoPanic.normal ?_
  go_wp2
  refine bodyPost_ret (v := .agg #[.int .i64 d.idx, .slice q1 d.bals.length s1, .slice q2 d.votes.length s2, .slice q3 d.held.length s3, .slice q4 d.done.length s4, .slice q5 d.appl.length s5]) (by simp [results, Tryz.results36, go_sem, r0, r1, r2, r3, r4, r5, rf]) rfl ⟨_, _, rfl, ⟨_, _, _, _, _, _, _, F3, _, _, rfl, balsR.base (set6 balsR P1.out (by omega) _ _ _ _ _ _) (by omega), mrksR.base (set6 mrksR P2.out (by omega) _ _ _ _ _ _) (by omega), contsR.base (set6 contsR P3.out (by omega) _ _ _ _ _ _) (by omega), mrksR.base (set6 mrksR P4.out (by omega) _ _ _ _ _ _) (by omega), intsR.base (set6 intsR P5.out (by omega) _ _ _ _ _ _) (by omega), ?_, ?_, ?_, ?_, ?_, ?_, ?_, ?_, ?_, ?_, fun b => Iff.rfl⟩, by (repeat (first | refine bset ?_ (by simp; omega) _ | refine bset ?_ (by simp) _ | refine bA ?_ _ | assumption))⟩
  all_goals
   intro b h h'
   obtain ⟨t1, t2, t3, t4, t5⟩ := HT.out
   first | (have := t1 b h; have := t2 b h'; omega) | (have := t1 b h; have := t3 b h'; omega) | (have := t1 b h; have := t4 b h'; omega) | (have := t1 b h; have := t5 b h'; omega) | (have := t2 b h; have := t3 b h'; omega) | (have := t2 b h; have := t4 b h'; omega) | (have := t2 b h; have := t5 b h'; omega) | (have := t3 b h; have := t4 b h'; omega) | (have := t3 b h; have := t5 b h'; omega) | (have := t4 b h; have := t5 b h'; omega)
end Go.Proofs.YtndghenlapbaaaaGreat

/-
 What is left of those that are held.
-/
namespace Go.Proofs.YtndghenlapbaaaaGreat
open Go.RowKit
variable [DecidableEq Rw] [Inhabited Rw] [DecidableEq Bal] [Inhabited Bal] [DecidableEq Ledg] [Inhabited Ledg] [DecidableEq Leg] [Inhabited Leg] [DecidableEq Cont] [Inhabited Cont] [DecidableEq LedgR] [Inhabited LedgR] [DecidableEq OutcR] [Inhabited OutcR] [DecidableEq Mrk] [Inhabited Mrk] [DecidableEq Shd] [Inhabited Shd] [DecidableEq ShdR] [Inhabited ShdR]
attribute [local go_sem ↓] Go.wp_at_zero Go.wp_at_succ

theorem dec1_any (bm : Nat) (k id : Int) (u : Value) (a : Option Addr) (n q : Nat) (hu : u = .slice a n q) (w : World) (hm : w.cell? ⟨bm, 0, none⟩ = some (.int .i64 k)) :
  Calls Tryz.prog 99 #[.agg #[.int .i64 id, u], .pointer (some ⟨bm, 0, none⟩)] w fun e w' => e = .returned (.bool (id == k)) ∧ Below w.heap.size w w' := by
 subst hu
 have zb := wL w _ hm
 dsimp only at zb
 go_enter Tryz.func99, Tryz.ntmps99
 go_wp2
 go_ret
 exact ⟨rfl, qBq⟩
set_option maxRecDepth 20000 in
set_option maxHeartbeats 8000000 in
theorem leftOf_u (x : Value) (xs : List Cont) (k : Int) (bm base : Nat) (F : Nat → Prop) (w : World) (hx : contsR.O w base F x xs) (hm : w.cell? ⟨bm, 0, none⟩ = some (.int .i64 k)) (hbase : base ≤ w.heap.size) (hn : xs.length ≤ 1000) :
  Calls Tryz.prog 98 #[x, .func (.func 99) #[] #[.pointer (some ⟨bm, 0, none⟩)]] w fun e w' => ∃ v F', e = .returned v ∧ contsR.O w' base F' v (leftC k xs) ∧ Below w.heap.size w w' ∧ ∀ b, F' b → F b ∨ w.heap.size ≤ b := by
 obtain ⟨a3, c3, e3, hc3, hm3, hx3⟩ := conts_at (contsR.ofO hx)
 subst e3
 unfold maxLen at hm3
 have HX : Hid (∀ j, j < xs.length → ∃ b o p q, a3 = some ⟨b, o, none⟩ ∧ w.cell? ⟨b, o + j * 2, none⟩ = some (.int .i64 (xs.getD j default).id) ∧ w.cell? ⟨b, o + j * 2 + 1, none⟩ = some (.slice p (xs.getD j default).legs.length q) ∧ contR.V w (.agg #[.int .i64 (xs.getD j default).id, .slice p (xs.getD j default).legs.length q]) (xs.getD j default)) := hx3
 obtain ⟨cs, us, fs, hp, hFF⟩ := hx
 have HUs : Hid (∀ j, j < xs.length → ∀ u0 u1, (∀ b o, a3 = some ⟨b, o, none⟩ → w.cell? ⟨b, o + j * 2, none⟩ = some u0 ∧ w.cell? ⟨b, o + j * 2 + 1, none⟩ = some u1) → lvCont (us j) = [u0, u1]) := fun j hj u0 u1 h => by
  rcases hp.row.2 with ⟨_, h0⟩ | ⟨g, cap, cur, hv, _⟩
  ·
   omega
  simp only [Value.slice.injEq] at hv
  obtain ⟨rfl, _, _⟩ := hv
  obtain ⟨g0, g1⟩ := h g 0 rfl
  have hl := hp.ln j hj
  have c0 := hp.cell j hj 0 (by omega)
  have c1 := hp.cell j hj 1 (by omega)
  have hcl : cs.length = xs.length * 2 := hp.row.1
  have r0 := hp.row.cellAt (j * 2) (by omega)
  have r1 := hp.row.cellAt (j * 2 + 1) (by omega)
  rw [Nat.zero_add] at g0 g1
  try rw [Nat.zero_add] at r0 r1
  rw [g0] at r0
  rw [g1] at r1
  rw [Nat.add_zero, ← r0] at c0
  rw [← r1] at c1
  match hlv : lvCont (us j), hl with
  | [p, q], _ =>
   rw [hlv] at c0 c1
   simp at c0 c1
   rw [← c0, ← c1]
 have HEl : Hid ((∀ j, j < xs.length → contR.O w base (fs j) (us j) (xs.getD j default)) ∧ (∀ j, j < xs.length → (lvCont (us j)).length = 2) ∧ (∀ j k, j < xs.length → k < xs.length → j ≠ k → ∀ b, fs j b → ¬ fs k b) ∧ (∀ j, j < xs.length → ∀ b, fs j b → F b ∧ b < w.heap.size)) := ⟨hp.el, hp.ln, hp.sep, fun j hj b hb => ⟨(hFF b).2 (.inr ⟨j, hj, hb⟩), (contR.rng (hp.el j hj) b hb).2⟩⟩
 have HLe : Hid (∀ j, (keepJ xs k j).length ≤ j) := fun j => keepJ_le xs k j
 have HFi : Hid ((keepJ xs k xs.length).map (fun j => xs.getD j default) = leftC k xs) := keepJ_left xs k
 clear hp hFF hx3
 obtain ⟨n, hn'⟩ : ∃ n, n = xs.length := ⟨_, rfl⟩
 have HN : Hid (xs.length = n) := hn'.symm
 rw [← hn'] at HX HUs hc3 hn ⊢
 clear hn'
 obtain ⟨i0, hi, hz0, hz1, hz2⟩ := info_parts infoConts
 have eg := enters_of Tryz.func99 (by kernel_rfl) rfl
 go_enter Tryz.func98, Tryz.ntmps98
 go_wp2
 go_loopw [5, 10] (fun v i w' => ∃ (j : Nat) (a : Option Addr) (m c : Nat), j ≤ n ∧ i = .int .i64 j ∧ v = .slice a m c ∧ Hid (m = (keepJ xs k j).length) ∧ Hid (w'.ownsRow w.heap.size 44 2 (.slice a m c) m ((keepJ xs k j).flatMap (fun q => lvCont (us q)))) ∧ Below w.heap.size w w') (fun _ i _ => n - (intOf i).toNat)
 case atStart => exact ⟨0, none, 0, 0, Nat.zero_le _, rfl, rfl, rfl, World.ownsRow_nil _ _ _ _, Below.refl _ _⟩
 case round =>
  obtain ⟨j, al, m, cl, hj, rfl, rfl, HM, HO, hbl⟩ := hrel
  have zr := hbl.size
  have hml : m ≤ n := by have := HLe.out j; rw [← HM.out] at this; omega
  by_cases hlt : j < n
  ·
   obtain ⟨bx, ox, pp, qq, rfl, g0, g1, _⟩ := HX.out j hlt
   have HU : Hid (lvCont (us j) = [.int .i64 (xs.getD j default).id, .slice pp (xs.getD j default).legs.length qq]) := HUs.out j hlt _ _ (fun b o e => by
    simp only [Option.some.injEq, Addr.mk.injEq, and_true] at e
    obtain ⟨rfl, rfl⟩ := e
    exact ⟨g0, g1⟩)
   have HK : Hid (keepJ xs k (j + 1) = if (xs.getD j default).id = k then keepJ xs k j else keepJ xs k j ++ [j]) := keepJ_succ xs k j
   replace g0 := cK hbl g0
   replace g1 := cK hbl g1
   have zb : bx < wr.heap.size := wL wr _ g0
   generalize (xs.getD j default).legs.length = nl at *
   generalize (xs.getD j default).id = id at *
   have HD1 : Hid (∀ W, Below w.heap.size w W → Calls Tryz.prog 99 #[.agg #[.int .i64 id, .slice pp nl qq], .pointer (some ⟨bm, 0, none⟩)] W fun e w' => e = .returned (.bool (id == k)) ∧ Below W.heap.size W w') := fun W hW => dec1_any bm k id _ pp nl qq rfl W (cK hW hm)
   have k1 : (j : Int) < n := by omega
   have k2 : (0 : Int) ≤ j := by omega
   by_cases hid : id = k
   ·
    have HE : Hid (keepJ xs k (j + 1) = keepJ xs k j) := by show _ = _; rw [HK.out, if_pos hid]
    have hb : (id == k) = true := by simp [hid]
    rw [hb] at HD1
    clear HK HU hid
    go_wp2_with (first | (go_at_call 99; refine (HD1.out _ (qBq)).mono ?_; rintro e w1 ⟨rfl, hb1⟩))
    have hB1 : Below wr.heap.size wr w1 := bS (qBq) hb1
    exact ⟨⟨j + 1, al, m, cl, by omega, by go_num, rfl, by show _ = _; rw [HE.out]; exact HM.out, by show World.ownsRow _ _ _ _ _ _ _; rw [HE.out]; exact owns_below HO.out hB1, bS hbl hB1⟩, by simp [intOf]; omega⟩
   ·
    have HE : Hid (keepJ xs k (j + 1) = keepJ xs k j ++ [j]) := by show _ = _; rw [HK.out, if_neg hid]
    have hb : (id == k) = false := by simpa using hid
    rw [hb] at HD1
    clear HK hid
    go_wp2_with fail
    refine (HD1.out _ (qBq)).mono ?_
    rintro e w1 ⟨rfl, hb1⟩
    have hB1 : Below wr.heap.size wr w1 := bS (qBq) hb1
    have b0 : w1.cell? ⟨wr.heap.size, 0, none⟩ = some (.int .i64 id) := cK hb1 (by simp [go_sem])
    have b1 : w1.cell? ⟨wr.heap.size, 1, none⟩ = some (.slice pp nl qq) := cK hb1 (by simp [go_sem])
    have z1 : wr.heap.size < w1.heap.size := wL w1 _ b0
    have HO1 : Hid (w1.ownsRow w.heap.size 44 2 (.slice al m cl) m ((keepJ xs k j).flatMap (fun q => lvCont (us q)))) := owns_below HO.out hB1
    have hBl : Below w.heap.size w w1 := bS hbl hB1
    clear hb1 HO g0 g1
    go_wp2_with (at_builtin; refine wpList_append_own_at _ rfl _ _ 35 rfl w.heap.size 44 i0 _ 2 32 Tryz.underlying35 hi hz0 hz1 hz2 rfl (by decide) _ m ((keepJ xs k j).flatMap (fun q => lvCont (us q))) rfl (HO1.out.alloc _) ⟨w1.heap.size, 0, none⟩ 1 1 [.int .i64 id, .slice pp nl qq] rfl rfl ?c1 ?c2 ?c3 ?c4 ?c5 ?_)
    case c1 =>
     intro o u ho
     match o, ho with
     | 0, ho => simp at ho; subst ho; simp [Addr.add, go_sem]
     | 1, ho => simp at ho; subst ho; simp [Addr.add, go_sem]
     | o + 2, ho => simp at ho
    case c2 =>
     intro u hu
     simp only [List.mem_cons, List.not_mem_nil, or_false] at hu
     rcases hu with rfl | rfl <;> rfl
    case c3 => unfold maxLen; omega
    case c4 => omega
    case c5 => simp; omega
    intro v2 w2 ho2 hg2 _ _
    have hB2 : Below w.heap.size w w2 := owns_grown (HO1.out.alloc _) (bA hBl _) (by simp; omega) (Nat.le_refl _) hg2
    obtain ⟨a2, c2, rfl⟩ := owns_form ho2
    have HO2 : Hid (w2.ownsRow w.heap.size 44 2 (.slice a2 (m + 1) c2) (m + 1) ((keepJ xs k (j + 1)).flatMap (fun q => lvCont (us q)))) := by
     show World.ownsRow _ _ _ _ _ _ _
     rw [HE.out, List.flatMap_append, List.flatMap_cons, List.flatMap_nil, List.append_nil, HU.out]
     exact ho2
    have HM2 : Hid (m + 1 = (keepJ xs k (j + 1)).length) := by
     show _ = _
     rw [HE.out, List.length_append, ← HM.out]
     rfl
    clear ho2 hg2
    go_wp2
    exact ⟨⟨j + 1, a2, m + 1, c2, by omega, by go_num, rfl, HM2, HO2, hB2⟩, by simp [intOf]; omega⟩
  ·
   have hjn : j = n := by omega
   subst hjn
   have HRes : Hid (∃ F', contsR.O wr base F' (.slice al m cl) (leftC k xs) ∧ ∀ b, F' b → F b ∨ w.heap.size ≤ b) := by
    obtain ⟨hel, hln, hsep, hFs⟩ := HEl.out
    have ho := HO.out
    rw [HM.out] at ho
    obtain ⟨F', h1, h2⟩ := NO.pick (R := contR) (lv := lvCont) (e := 44) (size := 2) (xs := xs) (us := us) (fs := fs) (W := wr) (base := base) (v' := .slice al (keepJ xs k j).length cl) (keepJ xs k j) (fun q hq => contR.keep (hel q hq) hbl) hln hsep (fun q hq => by rw [HN.out]; exact keepJ_lt hq) (keepJ_nodup xs k j) (owns_base ho hbase) (fun b hb q hq h => by have := (ho.lt b hb).1; have := (hFs q hq b h).2; omega)
    have hfi := HFi.out
    rw [HN.out] at hfi
    rw [hfi] at h1
    rw [HM.out]
    exact ⟨F', h1, fun b hb => by
     rcases h2 b hb with h | ⟨q, hq, h⟩
     ·
      exact .inr (ho.lt b h).1
     ·
      exact .inl (hFs q hq b h).1⟩
   clear HO HM
   go_wp2
   go_ret
   obtain ⟨F', h1, h2⟩ := HRes.out
   exact ⟨_, F', rfl, h1, qBq, h2⟩
end Go.Proofs.YtndghenlapbaaaaGreat


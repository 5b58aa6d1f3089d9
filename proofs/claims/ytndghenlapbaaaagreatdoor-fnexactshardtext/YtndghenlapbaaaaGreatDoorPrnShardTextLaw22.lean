import Derived.Shelf.SortM.Plain
import Derived.Shelf.SortM.SortNone
import Derived.Ground.SlgmProg
import Derived.Test.YtndghenlapbaaaaGreatDoorProg
import Derived.Test.YtndghenlapbaaaaGreatDoorPrnShardTextLaw21
import Derived.Test.YtndghenlapbaaaaGreatDoorPrnShardTextLaw13
import Derived.Test.YtndghenlapbaaaaGreatDoorPrnShardTextLaw18
import Derived.Test.YtndghenlapbaaaaGreatDoorPrnShardTextLaw5
import Derived.BigQuiet
import Derived.Deep.QuietTactic
import Derived.Deep.RegionHeld3
import Derived.Test.YtndghenlapbaaaaGreatDoorPrnShardTextLaw17
import Derived.Defers
import Derived.Recover
import Derived.Laws.Pointers

/-
  slices.Sort at numbers: the library's contract, laid at this program.
-/
namespace Go.Proofs.YtndghenlapbaaaaGreatDoor
open Go.Shelf
def Tryz.sortI_ren : Go.Shelf.Ren := ⟨fun | 5 => 94 | 8 => 112 | 7 => 111 | 19 => 135 | 20 => 136 | 10 => 126 | 11 => 127 | 12 => 128 | 13 => 129 | 14 => 130 | 15 => 131 | 16 => 132 | 17 => 133 | 18 => 134 | 30 => 145 | 31 => 146 | 32 => 147 | 33 => 148 | 34 => 149 | 35 => 144 | 40 => 152 | n => n, fun | 23 => 25 | 25 => 2 | 3 => 3 | 32 => 153 | 22 => 25 | 0 => 0 | 44 => 176 | 46 => 156 | 4 => 4 | 36 => 170 | 35 => 169 | 41 => 148 | 5 => 5 | 9 => 9 | 53 => 185 | 57 => 189 | 63 => 191 | 64 => 192 | n => n, fun | n => n⟩
theorem Tryz.sortI : Go.Proofs.SlLaysM.n5 Tryz.prog Tryz.sortI_ren := {
  mixed := by kernel_rfl
  f5 := ⟨Tryz.f94.name, by decide, Tryz.func94.trans (congrArg some (by kernel_rfl))⟩
  f7 := ⟨Tryz.f111.name, by decide, Tryz.func111.trans (congrArg some (by kernel_rfl))⟩
  f8 := Tryz.func112.trans (congrArg some (by kernel_rfl))
  f10 := ⟨Tryz.f126.name, by decide, Tryz.func126.trans (congrArg some (by kernel_rfl))⟩
  f11 := ⟨Tryz.f127.name, by decide, Tryz.func127.trans (congrArg some (by kernel_rfl))⟩
  f12 := ⟨Tryz.f128.name, by decide, Tryz.func128.trans (congrArg some (by kernel_rfl))⟩
  f13 := ⟨Tryz.f129.name, by decide, Tryz.func129.trans (congrArg some (by kernel_rfl))⟩
  f14 := ⟨Tryz.f130.name, by decide, Tryz.func130.trans (congrArg some (by kernel_rfl))⟩
  f15 := ⟨Tryz.f131.name, by decide, Tryz.func131.trans (congrArg some (by kernel_rfl))⟩
  f16 := ⟨Tryz.f132.name, by decide, Tryz.func132.trans (congrArg some (by kernel_rfl))⟩
  f17 := ⟨Tryz.f133.name, by decide, Tryz.func133.trans (congrArg some (by kernel_rfl))⟩
  f18 := ⟨Tryz.f134.name, by decide, Tryz.func134.trans (congrArg some (by kernel_rfl))⟩
  f19 := Tryz.func135.trans (congrArg some (by kernel_rfl))
  f20 := Tryz.func136.trans (congrArg some (by kernel_rfl))
  f30 := ⟨Tryz.f145.name, by decide, Tryz.func145.trans (congrArg some (by kernel_rfl))⟩
  f31 := Tryz.func146.trans (congrArg some (by kernel_rfl))
  f32 := Tryz.func147.trans (congrArg some (by kernel_rfl))
  f33 := ⟨Tryz.f148.name, by decide, Tryz.func148.trans (congrArg some (by kernel_rfl))⟩
  f34 := ⟨Tryz.f149.name, by decide, Tryz.func149.trans (congrArg some (by kernel_rfl))⟩
  f35 := ⟨Tryz.f144.name, by decide, Tryz.func144.trans (congrArg some (by kernel_rfl))⟩
  f40 := ⟨Tryz.f152.name, by decide, Tryz.func152.trans (congrArg some (by kernel_rfl))⟩
  t0 := Tryz.underlying0
  a0 := Tryz.isAgg0
  z0 := Tryz.sizeOf0
  v0 := Tryz.zeroValue0
  t3 := Tryz.underlying3
  a3 := Tryz.isAgg3
  z3 := Tryz.sizeOf3
  v3 := Tryz.zeroValue3
  t4 := Tryz.underlying4
  a4 := Tryz.isAgg4
  z4 := Tryz.sizeOf4
  v4 := Tryz.zeroValue4
  t5 := Tryz.underlying5
  a5 := Tryz.isAgg5
  z5 := Tryz.sizeOf5
  v5 := Tryz.zeroValue5
  t9 := Tryz.underlying9
  a9 := Tryz.isAgg9
  z9 := Tryz.sizeOf9
  v9 := Tryz.zeroValue9
  t22 := Tryz.underlying25
  a22 := Tryz.isAgg25
  z22 := Tryz.sizeOf25
  v22 := Tryz.zeroValue25
  t23 := Tryz.underlying25
  a23 := Tryz.isAgg25
  z23 := Tryz.sizeOf25
  v23 := Tryz.zeroValue25
  t25 := Tryz.underlying2
  a25 := Tryz.isAgg2
  z25 := Tryz.sizeOf2
  v25 := Tryz.zeroValue2
  t32 := Tryz.underlying153
  a32 := Tryz.isAgg153
  z32 := Tryz.sizeOf153
  v32 := Tryz.zeroValue153
  t35 := Tryz.underlying169
  a35 := Tryz.isAgg169
  z35 := Tryz.sizeOf169
  v35 := Tryz.zeroValue169
  t36 := Tryz.underlying170
  a36 := Tryz.isAgg170
  z36 := Tryz.sizeOf170
  v36 := Tryz.zeroValue170
  t41 := Tryz.underlying148
  a41 := Tryz.isAgg148
  z41 := Tryz.sizeOf148
  v41 := Tryz.zeroValue148
  t44 := Tryz.underlying176
  a44 := Tryz.isAgg176
  z44 := Tryz.sizeOf176
  v44 := Tryz.zeroValue176
  t46 := Tryz.underlying156
  a46 := Tryz.isAgg156
  z46 := Tryz.sizeOf156
  v46 := Tryz.zeroValue156
  t53 := Tryz.underlying185
  a53 := Tryz.isAgg185
  z53 := Tryz.sizeOf185
  v53 := Tryz.zeroValue185
  t57 := Tryz.underlying189
  a57 := Tryz.isAgg189
  z57 := Tryz.sizeOf189
  v57 := Tryz.zeroValue189
  t63 := Tryz.underlying191
  a63 := Tryz.isAgg191
  z63 := Tryz.sizeOf191
  v63 := Tryz.zeroValue191
  t64 := Tryz.underlying192
  a64 := Tryz.isAgg192
  z64 := Tryz.sizeOf192
  v64 := Tryz.zeroValue192 }
end Go.Proofs.YtndghenlapbaaaaGreatDoor

/-
  Numbers put in order, the program's.
-/
namespace Go.Proofs.YtndghenlapbaaaaGreatDoor
open Go.RowKit Go.Sort Go.Shelf
set_option linter.unusedSectionVars false
variable [DecidableEq Leg] [Inhabited Leg] [DecidableEq Rw] [Inhabited Rw] [DecidableEq Bal] [Inhabited Bal] [DecidableEq Ledg] [Inhabited Ledg] [DecidableEq Cont] [Inhabited Cont] [DecidableEq LedgR] [Inhabited LedgR] [DecidableEq OutcR] [Inhabited OutcR] [DecidableEq Mrk] [Inhabited Mrk] [DecidableEq Shd] [Inhabited Shd] [DecidableEq ShdR] [Inhabited ShdR]
set_option linter.unusedVariables false
set_option linter.unusedSimpArgs false
attribute [local go_sem ↓] Go.wp_at_zero Go.wp_at_succ

theorem holdsQ {w : World} {g : Nat} {cur : Array Value} {e : TypeId} {ss : List Int} (hb : w.heap[g]? = some (.cells cur e (0, 0))) (ht : cur.toList.take ss.length = ss.map (Value.int .i64)) : Go.Sort.Holds (Value.int .i64) w g 0 ss.toArray := by
  intro j hj
  have hj' : j < ss.length := by simpa using hj
  refine ⟨?_, by simp [World.frozen?, hb]⟩
  have h1 : (cur.toList.take ss.length)[j]? = (ss.map (Value.int .i64))[j]? := by rw [ht]
  rw [List.getElem?_take_of_lt hj'] at h1
  simp only [World.cell?, hb, Nat.zero_add]
  rw [← Array.getElem?_toList, h1]
  simp [hj']
theorem heapQ {w : World} {g n : Nat} {os : Array Obj} {cur : Array Value} {e : TypeId} {fr : Nat × Nat} (d : Array Int) (hb : w.heap[g]? = some (.cells cur e fr)) :
    (grow (putRow (Value.int .i64) (Sort.ahead w n) g 0 d) os).heap[g]? = some (.cells (putCells (Value.int .i64) 0 d cur) e fr) := by
  have hg : g < w.heap.size := (Array.getElem?_eq_some_iff.1 hb).1
  rw [heap_grow_old _ _ (by simpa using hg)]
  simp [putRow, mapBlock, Sort.ahead, Array.getElem?_modify, hb, onCells]
theorem grownQ {w : World} {g n : Nat} {os : Array Obj} (d : Array Int) : w.grownBy (grow (putRow (Value.int .i64) (Sort.ahead w n) g 0 d) os) (some g) := by
  refine ⟨rfl, rfl, rfl, by simp, fun k hk hne => ?_⟩
  rw [heap_grow_old _ _ (by simpa using hk)]
  have : g ≠ k := fun e => hne (by rw [e])
  simp [putRow, mapBlock, Sort.ahead, Array.getElem?_modify, this]
theorem takeQ (cur : Array Value) (ts : List Int) (h : ts.length ≤ cur.size) : (putCells (Value.int .i64) 0 ts.toArray cur).toList.take ts.length = ts.map (Value.int .i64) := by
  apply List.ext_getElem?
  intro j
  by_cases hj : j < ts.length
  · rw [List.getElem?_take_of_lt hj, Array.getElem?_toList]
    simp [putCells, hj, show j < cur.size by omega]
  · rw [List.getElem?_take_eq_none (by omega), List.getElem?_eq_none (by simp; omega)]
theorem ownsQ {w : World} {base g cap n : Nat} {e : TypeId} {os : Array Obj} {cur : Array Value} {ss ts : List Int} (hl : ts.length = ss.length) (hbase : base ≤ g) (hb : w.heap[g]? = some (.cells cur e (0, 0)))
    (h1 : ss.length ≤ cap) (h2 : cap ≤ maxLen) (h3 : cur.size = cap * 1) :
    (grow (putRow (Value.int .i64) (Sort.ahead w n) g 0 ts.toArray) os).ownsRow base e 1 (.slice (some ⟨g, 0, none⟩) ss.length cap) ss.length (ts.map (Value.int .i64)) :=
  ⟨by simp [hl], .inr ⟨g, cap, _, rfl, hbase, heapQ _ hb, h1, h2, by simp [putCells, h3], by rw [Nat.mul_one, ← hl]; exact takeQ cur ts (by omega)⟩⟩
def sortI (xs : List Int) : List Int := xs.mergeSort (fun x y => decide (x ≤ y))
set_option maxRecDepth 20000 in
set_option maxHeartbeats 2000000 in
theorem sortedQ_any (a : Option Addr) (n c : Nat) (xs : List Int) (w : World) (hx : IntsV w (.slice a n c) xs) (Bs : Nat) (hB : w.cell? ⟨Bs, 0, none⟩ = some (.slice a n c)) (hl : xs.length ≤ 100) :
    Calls Tryz.prog 68 #[.func (.func 95) #[] #[.pointer (some ⟨Bs, 0, none⟩)]] w fun e w' => ∃ v, e = .returned v ∧ w'.ownsRow w.heap.size 2 1 v (sortI xs).length (intsC (sortI xs)) ∧ Go.RowKit.Below w.heap.size w w' := by
  have eg := enters_of Tryz.func95 (by kernel_rfl) rfl
  have hc := collectQ_any 95 #[.pointer (some ⟨Bs, 0, none⟩)] _ _ _ w eg (valuesQ_seq Bs _ xs w hB hx) (fun b h => h) (fun ys h => by have := h.length_le; omega)
  clear eg hx hB
  go_enter Tryz.func68, Tryz.ntmps68
  go_wp2_with fail
  refine hc.mono ?_
  rintro e w1 ⟨v, ys, rfl, rfl, ho, hb⟩
  clear hc
  have hlen : (sortI ys).length = ys.length := by unfold sortI; exact (List.mergeSort_perm _ _).length_eq
  rcases ho.2 with ⟨rfl, hn⟩ | ⟨g, cap, cur, rfl, hbg, hg, hnc, hcm, hcs, htake⟩
  · have hx : ys = [] := List.eq_nil_of_length_eq_zero hn
    subst hx
    go_wp2_with fail
    refine (AnyM.slices_Sort_int_none Tryz.sortI none 0 w1).mono ?_
    rintro e w2 ⟨rfl, hw2⟩
    obtain rfl := hw2.symm
    have e0 : sortI [] = [] := by unfold sortI; simp
    go_wp2
    go_ret
    exact ⟨_, rfl, by rw [e0]; exact ho, hb⟩
  · have hgl : g < w1.heap.size := (Array.getElem?_eq_some_iff.1 hg).1
    have hcon := AnyM.slices_Sort_int Tryz.sortI g 0 cap ys w1 (holdsQ hg (by rw [Nat.mul_one] at htake; exact htake)) hgl (by omega)
    have HOw : Hid (∀ k os, (grow (putRow (Value.int .i64) (Sort.ahead w1 k) g 0 (ys.mergeSort fun x y => decide (x ≤ y)).toArray) os).ownsRow w.heap.size 2 1 (.slice (some ⟨g, 0, none⟩) ys.length cap) (sortI ys).length (intsC (sortI ys))) := fun k os => by
      have h := ownsQ (w := w1) (base := w.heap.size) (g := g) (cap := cap) (n := k) (os := os) (ss := ys) (ts := sortI ys) hlen hbg hg hnc hcm hcs
      rw [hlen]
      exact h
    have HBl : Hid (∀ k os, Go.RowKit.Below w.heap.size w (grow (putRow (Value.int .i64) (Sort.ahead w1 k) g 0 (ys.mergeSort fun x y => decide (x ≤ y)).toArray) os)) := fun k os => hb.grown (grownQ _) hb.size (fun b e => by cases e; exact hbg)
    change Calls Tryz.prog 94 _ _ _ at hcon
    obtain ⟨m, hm⟩ : ∃ m, m = ys.length := ⟨_, rfl⟩
    rw [← hm] at hcon HOw ⊢
    clear hm ho hlen htake hnc
    go_wp2_with fail
    refine hcon.mono ?_
    rintro e w2 ⟨rfl, k, os, hw2⟩
    have o2 := HOw.out k os
    have b2 := HBl.out k os
    rw [← hw2] at o2 b2
    have HO2 : Hid (w2.ownsRow w.heap.size 2 1 (.slice (some ⟨g, 0, none⟩) m cap) (sortI ys).length (intsC (sortI ys))) := o2
    clear hcon hw2 o2 HOw HBl
    go_wp2
    go_ret
    exact ⟨_, rfl, HO2.out, b2⟩
end Go.Proofs.YtndghenlapbaaaaGreatDoor

/-
  What is asked of a shard's lists, the program's.
-/
set_option linter.unusedSimpArgs false
set_option linter.unusedVariables false
namespace Go.Proofs.YtndghenlapbaaaaGreatDoor
open Go.RowKit
set_option linter.unusedSectionVars false
variable [DecidableEq Rw] [Inhabited Rw] [DecidableEq Bal] [Inhabited Bal] [DecidableEq Ledg] [Inhabited Ledg] [DecidableEq Leg] [Inhabited Leg] [DecidableEq Cont] [Inhabited Cont] [DecidableEq LedgR] [Inhabited LedgR] [DecidableEq OutcR] [Inhabited OutcR] [DecidableEq Mrk] [Inhabited Mrk] [DecidableEq Shd] [Inhabited Shd] [DecidableEq ShdR] [Inhabited ShdR]
attribute [local go_sem ↓] Go.wp_at_zero Go.wp_at_succ

theorem startFault_any (i : Int) (x : Value) (xs : List Bal) (w : World) (hx : balsR.V w x xs) :
    Calls Tryz.prog 61 #[.int .i64 i, x] w fun e w' => e = .returned (.int .i64 (baseF i xs)) ∧ Below w.heap.size w w' := by
  have HB : Hid (∀ W, Below w.heap.size w W → Calls Tryz.prog 85 #[x] W fun e w' => e = .returned (.int .i64 (balFault xs)) ∧ Below W.heap.size W w') := fun W hW => implBalFault_any x xs W (balsR.below hx hW)
  obtain ⟨a, c, rfl⟩ := bals_form hx
  clear hx
  generalize xs.length = n at *
  unfold baseF
  cases h : inB i 0 2
  · go_enter Tryz.func61, Tryz.ntmps61
    go_wp2_with (first | (go_at_call 84; refine (isShard_any _ _).mono ?_; rintro e w' ⟨rfl, rfl⟩; rw [h]))
    go_ret
    exact ⟨rfl, by (repeat (first | exact Below.refl _ _ | assumption | refine Below.drew ?_ | refine balloc ?_ _ | refine bset ?_ (by simp; omega) _ | refine bset ?_ (by simp) _ | refine bstep ?_ (by assumption)))⟩
  · go_enter Tryz.func61, Tryz.ntmps61
    go_wp2_with (first | (go_at_call 84; refine (isShard_any _ _).mono ?_; rintro e w' ⟨rfl, rfl⟩; rw [h]) | (go_at_call 85; refine (HB.out _ (by (repeat (first | exact Below.refl _ _ | assumption | refine Below.drew ?_ | refine balloc ?_ _ | refine bset ?_ (by simp; omega) _ | refine bset ?_ (by simp) _ | refine bstep ?_ (by assumption))))).mono ?_; rintro e w' ⟨rfl, hb1⟩))
    go_ret
    exact ⟨rfl, by (repeat (first | exact Below.refl _ _ | assumption | refine Below.drew ?_ | refine balloc ?_ _ | refine bset ?_ (by simp; omega) _ | refine bset ?_ (by simp) _ | refine bstep ?_ (by assumption)))⟩
def mx4 (x y z u : Int) : Int := if u > (if z > (if y > x then y else x) then z else (if y > x then y else x)) then u else (if z > (if y > x then y else x) then z else (if y > x then y else x))
theorem mx4_gt {x y z u : Int} : 100 < mx4 x y z u ↔ (100 < x ∨ 100 < y ∨ 100 < z ∨ 100 < u) := by
  unfold mx4
  constructor
  · intro h; (repeat' split at h) <;> omega
  · intro h; (repeat' split) <;> omega
theorem run_max_int4 {P : Program} (w : World) (ts : Array TypeId) (t : TypeId) (k k' k'' k3 : IntKind) (x y z u : Int) : (Builtin.max_ ts t #[.int k x, .int k' y, .int k'' z, .int k3 u]).run P w = .ok (.int k (mx4 x y z u)) w := by
  simp [Builtin.max_, Builtin.max2, mx4]
attribute [local go_sem] run_max_int4

set_option maxRecDepth 20000 in
set_option maxHeartbeats 8000000 in
theorem listsFault_any (x : Value) (d : Shd) (w : World) (hx : shdR.V w x d) :
    Calls Tryz.prog 36 #[x] w fun e w' => e = .returned (.int .i64 (listsF d)) ∧ Below w.heap.size w w' := by
  have HDo : Hid (∀ W, Below w.heap.size w W → LsOk d → Calls Tryz.prog 65 #[x] W fun e w' => e = .returned (.int .i64 (scanI (heldAt d) d.held.length)) ∧ Below W.heap.size W w') := fun W hW ho => inDoubtF_any x d W (shdR.below hx hW) ho
  have HFo : Hid (∀ W, Below w.heap.size w W → LsOk d → HeldOk d → Calls Tryz.prog 66 #[x] W fun e w' => e = .returned (.bool (decide (¬ scanI (lostAt d) d.votes.length = 0))) ∧ Below W.heap.size W w') := fun W hW ho hh => forgotten_any x d W (shdR.below hx hW) ho hh
  have HCd : Hid (∀ W, Below w.heap.size w W → LsOk d → Calls Tryz.prog 70 #[x] W fun e w' => ∃ v, e = .returned v ∧ w'.ownsRow W.heap.size 2 1 v (doneL d.done).length (intsC (doneL d.done)) ∧ Below W.heap.size W w') := fun W hW ho => contractsDone_any x d W (shdR.below hx hW) (by have := ho.nd; omega)
  obtain ⟨u1, u2, u3, u4, u5, rfl, h1, h2, h3, h4, h5⟩ := hx
  have HBa : Hid (∀ W, Below w.heap.size w W → Calls Tryz.prog 61 #[.int .i64 d.idx, u1] W fun e w' => e = .returned (.int .i64 (baseF d.idx d.bals)) ∧ Below W.heap.size W w') := fun W hW => startFault_any _ u1 _ W (balsR.below h1 hW)
  have HVo : Hid (∀ W, Below w.heap.size w W → Calls Tryz.prog 62 #[u2, .func (.func 63) #[] #[]] W fun e w' => e = .returned (.int .i64 (mrkF d.votes)) ∧ Below W.heap.size W w') := fun W hW => marksV_any u2 _ W (mrksR.below h2 hW)
  have HDn : Hid (∀ W, Below w.heap.size w W → Calls Tryz.prog 62 #[u4, .func (.func 64) #[] #[]] W fun e w' => e = .returned (.int .i64 (mrkF d.done)) ∧ Below W.heap.size W w') := fun W hW => marksO_any u4 _ W (mrksR.below h4 hW)
  have HSo : Hid (∀ W Bs, Below w.heap.size w W → LsOk d → W.cell? ⟨Bs, 0, none⟩ = some u5 → Calls Tryz.prog 68 #[.func (.func 95) #[] #[.pointer (some ⟨Bs, 0, none⟩)]] W fun e w' => ∃ v, e = .returned v ∧ w'.ownsRow W.heap.size 2 1 v (sortI d.appl).length (intsC (sortI d.appl)) ∧ Below W.heap.size W w') := fun W Bs hW ho hc => by
    obtain ⟨a5, c5, rfl⟩ := ints_form h5
    exact sortedQ_any a5 _ c5 d.appl W (intsR.below h5 hW) Bs hc ho.na
  obtain ⟨a1, c1, rfl⟩ := bals_form h1
  obtain ⟨a2, c2, rfl⟩ := mrks_form h2
  obtain ⟨a3, c3, rfl⟩ := conts_form h3
  obtain ⟨a4, c4, rfl⟩ := mrks_form h4
  obtain ⟨a5, c5, rfl⟩ := ints_form h5
  obtain ⟨_, _, e2, hc2, hm2, _⟩ := h2
  obtain ⟨_, _, e3, hc3, hm3, _⟩ := conts_at h3
  obtain ⟨_, _, e4, hc4, hm4, _⟩ := h4
  obtain ⟨_, _, e5, hc5, hm5, _⟩ := h5
  simp only [Value.slice.injEq, true_and] at e2 e3 e4 e5
  obtain ⟨rfl, rfl⟩ := e2
  obtain ⟨rfl, rfl⟩ := e3
  obtain ⟨rfl, rfl⟩ := e4
  obtain ⟨rfl, rfl⟩ := e5
  unfold maxLen at hm2 hm3 hm4 hm5
  have HEq : Hid (∀ W x y, IntsV W x (sortI d.appl) → IntsV W y (doneL d.done) → Calls Tryz.prog 67 #[x, y] W fun e w' => e = .returned (.bool (decide (sortI d.appl = doneL d.done))) ∧ Below W.heap.size W w') := fun W x y hx hy => equalI_any x y _ _ W hx hy
  have HD0 : Hid (¬ baseF d.idx d.bals = 0 → listsF d = baseF d.idx d.bals) := fun h => by unfold listsF; rw [if_neg h]
  have HD1 : Hid (baseF d.idx d.bals = 0 → (100 < d.votes.length ∨ 100 < d.held.length ∨ 100 < d.done.length ∨ 100 < d.appl.length) → listsF d = 2) := fun h h1 => by unfold listsF; rw [if_pos h, if_pos h1]
  have HD2 : Hid (baseF d.idx d.bals = 0 → ¬ (100 < d.votes.length ∨ 100 < d.held.length ∨ 100 < d.done.length ∨ 100 < d.appl.length) → ¬ mrkF d.votes = 0 → listsF d = mrkF d.votes) := fun h h1 h2 => by unfold listsF; rw [if_pos h, if_neg h1, if_neg h2]
  have HD3 : Hid (baseF d.idx d.bals = 0 → ¬ (100 < d.votes.length ∨ 100 < d.held.length ∨ 100 < d.done.length ∨ 100 < d.appl.length) → mrkF d.votes = 0 → ¬ mrkF d.done = 0 → listsF d = mrkF d.done) := fun h h1 h2 h3 => by unfold listsF; rw [if_pos h, if_neg h1, if_pos h2, if_neg h3]
  have HD4 : Hid (baseF d.idx d.bals = 0 → ¬ (100 < d.votes.length ∨ 100 < d.held.length ∨ 100 < d.done.length ∨ 100 < d.appl.length) → mrkF d.votes = 0 → mrkF d.done = 0 → ¬ scanI (heldAt d) d.held.length = 0 → listsF d = scanI (heldAt d) d.held.length) := fun h h1 h2 h3 h4 => by unfold listsF; rw [if_pos h, if_neg h1, if_pos h2, if_pos h3, if_neg h4]
  have HD5 : Hid (baseF d.idx d.bals = 0 → ¬ (100 < d.votes.length ∨ 100 < d.held.length ∨ 100 < d.done.length ∨ 100 < d.appl.length) → mrkF d.votes = 0 → mrkF d.done = 0 → scanI (heldAt d) d.held.length = 0 → ¬ scanI (lostAt d) d.votes.length = 0 → listsF d = 1) := fun h h1 h2 h3 h4 h5 => by unfold listsF; rw [if_pos h, if_neg h1, if_pos h2, if_pos h3, if_pos h4, if_neg h5]
  have HD6 : Hid (baseF d.idx d.bals = 0 → ¬ (100 < d.votes.length ∨ 100 < d.held.length ∨ 100 < d.done.length ∨ 100 < d.appl.length) → mrkF d.votes = 0 → mrkF d.done = 0 → scanI (heldAt d) d.held.length = 0 → scanI (lostAt d) d.votes.length = 0 → listsF d = if decide (sortI d.appl = doneL d.done) = true then 0 else 1) := fun h h1 h2 h3 h4 h5 => by
    unfold listsF
    rw [if_pos h, if_neg h1, if_pos h2, if_pos h3, if_pos h4, if_pos h5, applG_sort (mrksOk_of h3)]
    rfl
  have HOk : Hid (¬ (100 < d.votes.length ∨ 100 < d.held.length ∨ 100 < d.done.length ∨ 100 < d.appl.length) → mrkF d.votes = 0 → mrkF d.done = 0 → LsOk d) := fun h h2 h3 => ⟨by omega, by omega, by omega, by omega, mrksOk_of h2, mrksOk_of h3⟩
  have HHk : Hid (scanI (heldAt d) d.held.length = 0 → HeldOk d) := fun h => heldOk_of h
  clear h1 h3
  generalize d.bals.length = n1 at *
  generalize d.votes.length = n2 at *
  generalize d.held.length = n3 at *
  generalize d.done.length = n4 at *
  generalize d.appl.length = n5 at *
  generalize mrkF d.votes = fv at *
  generalize mrkF d.done = fd at *
  generalize hhf : scanI (heldAt d) n3 = fh at *
  generalize hlf : scanI (lostAt d) n2 = fl at *
  generalize hbf : baseF d.idx d.bals = bf at *
  obtain ⟨ga, hga⟩ : ∃ ga, ga = decide (sortI d.appl = doneL d.done) := ⟨_, rfl⟩
  rw [← hga] at HEq HD6
  obtain ⟨Z, hZ⟩ : ∃ Z, Z = listsF d := ⟨_, rfl⟩
  rw [← hZ] at HD0 HD1 HD2 HD3 HD4 HD5 HD6 ⊢
  clear hZ hbf hga hhf hlf
  have HVl : Hid (∀ W, Below w.heap.size w W → Calls Tryz.prog 69 #[.slice a5 n5 c5] W fun e w' => e = .returned (.func (.func 95) #[] #[.pointer (some ⟨W.heap.size, 0, none⟩)]) ∧ w'.cell? ⟨W.heap.size, 0, none⟩ = some (.slice a5 n5 c5) ∧ Below W.heap.size W w') := fun W _ => (valuesQ_any a5 n5 c5 W).mono (by rintro e w' ⟨rfl, rfl⟩; exact ⟨rfl, by simp [go_sem], by (repeat (first | exact Below.refl _ _ | assumption | refine Below.drew ?_ | refine balloc ?_ _ | refine bset ?_ (by simp; omega) _ | refine bset ?_ (by simp) _ | refine bstep ?_ (by assumption)))⟩)
  go_enter Tryz.func36, Tryz.ntmps36
  go_wp2_with fail
  refine (HBa.out _ (by (repeat (first | exact Below.refl _ _ | assumption | refine Below.drew ?_ | refine balloc ?_ _ | refine bset ?_ (by simp; omega) _ | refine bset ?_ (by simp) _ | refine bstep ?_ (by assumption))))).mono ?_
  rintro e w1 ⟨rfl, hb1⟩
  have y0 : w1.cell? ⟨w.heap.size, 0, none⟩ = some (.int .i64 d.idx) := cell_keep hb1 (by simp [go_sem])
  have y1 : w1.cell? ⟨w.heap.size, 1, none⟩ = some (.slice a1 n1 c1) := cell_keep hb1 (by simp [go_sem])
  have y2 : w1.cell? ⟨w.heap.size, 2, none⟩ = some (.slice a2 n2 c2) := cell_keep hb1 (by simp [go_sem])
  have y3 : w1.cell? ⟨w.heap.size, 3, none⟩ = some (.slice a3 n3 c3) := cell_keep hb1 (by simp [go_sem])
  have y4 : w1.cell? ⟨w.heap.size, 4, none⟩ = some (.slice a4 n4 c4) := cell_keep hb1 (by simp [go_sem])
  have y5 : w1.cell? ⟨w.heap.size, 5, none⟩ = some (.slice a5 n5 c5) := cell_keep hb1 (by simp [go_sem])
  have hB1 : Below w.heap.size w w1 := bstep (by (repeat (first | exact Below.refl _ _ | assumption | refine Below.drew ?_ | refine balloc ?_ _ | refine bset ?_ (by simp; omega) _ | refine bset ?_ (by simp) _ | refine bstep ?_ (by assumption)))) hb1
  clear hb1 HBa
  by_cases hbf : bf = 0
  rotate_left
  · have HC := HD0.out hbf
    have hbf' : (bf != 0) = true := by simp [hbf]
    go_wp2
    go_ret
    exact ⟨by rw [HC]; rfl, by (repeat (first | exact Below.refl _ _ | assumption | refine Below.drew ?_ | refine balloc ?_ _ | refine bset ?_ (by simp; omega) _ | refine bset ?_ (by simp) _ | refine bstep ?_ (by assumption)))⟩
  by_cases hmany : (100 < n2 ∨ 100 < n3 ∨ 100 < n4 ∨ 100 < n5)
  · have HC := HD1.out hbf hmany
    have hm4' : (100 : Int) < mx4 n2 n3 n4 n5 := mx4_gt.2 (by omega)
    rw [hbf]
    clear HD0 HD1 HD2 HD3 HD4 HD5 HD6 HOk
    go_wp2
    go_ret
    exact ⟨by rw [HC]; rfl, by (repeat (first | exact Below.refl _ _ | assumption | refine Below.drew ?_ | refine balloc ?_ _ | refine bset ?_ (by simp; omega) _ | refine bset ?_ (by simp) _ | refine bstep ?_ (by assumption)))⟩
  have hm4' : ¬ (100 : Int) < mx4 n2 n3 n4 n5 := fun h => hmany (by have := mx4_gt.1 h; omega)
  have HE2 : Hid (¬ fv = 0 → Z = fv) := fun h => HD2.out hbf hmany h
  have HE3 : Hid (fv = 0 → ¬ fd = 0 → Z = fd) := fun h h2 => HD3.out hbf hmany h h2
  have HE4 : Hid (fv = 0 → fd = 0 → ¬ fh = 0 → Z = fh) := fun h h2 h3 => HD4.out hbf hmany h h2 h3
  have HE5 : Hid (fv = 0 → fd = 0 → fh = 0 → ¬ fl = 0 → Z = 1) := fun h h2 h3 h4 => HD5.out hbf hmany h h2 h3 h4
  have HE6 : Hid (fv = 0 → fd = 0 → fh = 0 → fl = 0 → Z = if ga = true then 0 else 1) := fun h h2 h3 h4 => HD6.out hbf hmany h h2 h3 h4
  have HOk' : Hid (fv = 0 → fd = 0 → LsOk d) := fun h h2 => HOk.out hmany h h2
  rw [hbf]
  clear HD0 HD1 HD2 HD3 HD4 HD5 HD6 HOk hbf hmany
  go_wp2_with fail
  refine (HVo.out _ hB1).mono ?_
  rintro e w2 ⟨rfl, hb2⟩
  have hB2 : Below w.heap.size w w2 := bstep hB1 hb2
  replace y0 := cell_keep hb2 y0
  replace y1 := cell_keep hb2 y1
  replace y2 := cell_keep hb2 y2
  replace y3 := cell_keep hb2 y3
  replace y4 := cell_keep hb2 y4
  replace y5 := cell_keep hb2 y5
  clear hb2
  by_cases hfv : fv = 0
  rotate_left
  · have HC := HE2.out hfv
    have hfv' : (fv != 0) = true := by simp [hfv]
    go_wp2
    go_ret
    exact ⟨by rw [HC]; rfl, by (repeat (first | exact Below.refl _ _ | assumption | refine Below.drew ?_ | refine balloc ?_ _ | refine bset ?_ (by simp; omega) _ | refine bset ?_ (by simp) _ | refine bstep ?_ (by assumption)))⟩
  rw [hfv]
  have HE3' : Hid (¬ fd = 0 → Z = fd) := fun h => HE3.out hfv h
  go_wp2_with fail
  refine (HDn.out _ hB2).mono ?_
  rintro e w3 ⟨rfl, hb3⟩
  have hB3 : Below w.heap.size w w3 := bstep hB2 hb3
  replace y0 := cell_keep hb3 y0
  replace y1 := cell_keep hb3 y1
  replace y2 := cell_keep hb3 y2
  replace y3 := cell_keep hb3 y3
  replace y4 := cell_keep hb3 y4
  replace y5 := cell_keep hb3 y5
  clear hb3
  by_cases hfd : fd = 0
  rotate_left
  · have HC := HE3'.out hfd
    have hfd' : (fd != 0) = true := by simp [hfd]
    go_wp2
    go_ret
    exact ⟨by rw [HC]; rfl, by (repeat (first | exact Below.refl _ _ | assumption | refine Below.drew ?_ | refine balloc ?_ _ | refine bset ?_ (by simp; omega) _ | refine bset ?_ (by simp) _ | refine bstep ?_ (by assumption)))⟩
  have hok : Hid (LsOk d) := HOk'.out hfv hfd
  have HE4' : Hid (¬ fh = 0 → Z = fh) := fun h => HE4.out hfv hfd h
  have HE5' : Hid (fh = 0 → ¬ fl = 0 → Z = 1) := fun h => HE5.out hfv hfd h
  have HE6' : Hid (fh = 0 → fl = 0 → Z = if ga = true then 0 else 1) := fun h => HE6.out hfv hfd h
  clear HE3' HE2 HE3 HE4 HE5 HE6 HOk' hfv HVo HDn
  rw [hfd]
  go_wp2_with fail
  refine (HDo.out _ hB3 hok.out).mono ?_
  rintro e w4 ⟨rfl, hb4⟩
  have hB4 : Below w.heap.size w w4 := bstep hB3 hb4
  replace y0 := cell_keep hb4 y0
  replace y1 := cell_keep hb4 y1
  replace y2 := cell_keep hb4 y2
  replace y3 := cell_keep hb4 y3
  replace y4 := cell_keep hb4 y4
  replace y5 := cell_keep hb4 y5
  clear hb4
  by_cases hfh : fh = 0
  rotate_left
  · have HC := HE4'.out hfh
    have hfh' : (fh != 0) = true := by simp [hfh]
    go_wp2
    go_ret
    exact ⟨by rw [HC]; rfl, by (repeat (first | exact Below.refl _ _ | assumption | refine Below.drew ?_ | refine balloc ?_ _ | refine bset ?_ (by simp; omega) _ | refine bset ?_ (by simp) _ | refine bstep ?_ (by assumption)))⟩
  have HF5 : Hid (¬ fl = 0 → Z = 1) := fun h => HE5'.out hfh h
  have HF6 : Hid (fl = 0 → Z = if ga = true then 0 else 1) := fun h => HE6'.out hfh h
  have hhk : Hid (HeldOk d) := HHk.out hfh
  clear HE4' HE5' HE6' HHk HDo
  rw [hfh]
  clear hfh hfd hm4' hB1 hB2 hB3
  have HFo' : Hid (∀ W, Below w.heap.size w W → Calls Tryz.prog 66 #[.agg #[.int .i64 d.idx, .slice a1 n1 c1, .slice a2 n2 c2, .slice a3 n3 c3, .slice a4 n4 c4, .slice a5 n5 c5]] W fun e w' => e = .returned (.bool (decide (¬ fl = 0))) ∧ Below W.heap.size W w') := fun W hW => HFo.out W hW hok.out hhk.out
  have HSo' : Hid (∀ W Bs, Below w.heap.size w W → W.cell? ⟨Bs, 0, none⟩ = some (.slice a5 n5 c5) → Calls Tryz.prog 68 #[.func (.func 95) #[] #[.pointer (some ⟨Bs, 0, none⟩)]] W fun e w' => ∃ v, e = .returned v ∧ w'.ownsRow W.heap.size 2 1 v (sortI d.appl).length (intsC (sortI d.appl)) ∧ Below W.heap.size W w') := fun W Bs hW => HSo.out W Bs hW hok.out
  have HCd' : Hid (∀ W, Below w.heap.size w W → Calls Tryz.prog 70 #[.agg #[.int .i64 d.idx, .slice a1 n1 c1, .slice a2 n2 c2, .slice a3 n3 c3, .slice a4 n4 c4, .slice a5 n5 c5]] W fun e w' => ∃ v, e = .returned v ∧ w'.ownsRow W.heap.size 2 1 v (doneL d.done).length (intsC (doneL d.done)) ∧ Below W.heap.size W w') := fun W hW => HCd.out W hW hok.out
  clear HFo HSo HCd hok hhk
  by_cases hfl : fl = 0
  rotate_left
  · have HC := HF5.out hfl
    rw [show decide (¬ fl = 0) = true from decide_eq_true hfl] at HFo'
    clear HF5 HF6 HSo' HCd' HEq HVl hfl
    go_wp2
    refine wp_region_noPanic ?_
    refine region_upto (fun W => Below w4.heap.size w4 W ∧ W.cell? ⟨w.heap.size, 0, none⟩ = some (.int .i64 d.idx) ∧ W.cell? ⟨w.heap.size, 1, none⟩ = some (.slice a1 n1 c1) ∧ W.cell? ⟨w.heap.size, 2, none⟩ = some (.slice a2 n2 c2) ∧ W.cell? ⟨w.heap.size, 3, none⟩ = some (.slice a3 n3 c3) ∧ W.cell? ⟨w.heap.size, 4, none⟩ = some (.slice a4 n4 c4) ∧ W.cell? ⟨w.heap.size, 5, none⟩ = some (.slice a5 n5 c5)) 12 (by kernel_rfl) ⟨by (repeat (first | exact Below.refl _ _ | assumption | refine Below.drew ?_ | refine balloc ?_ _ | refine bset ?_ (by simp; omega) _ | refine bset ?_ (by simp) _ | refine bstep ?_ (by assumption))), cell_keep (by (repeat (first | exact Below.refl _ _ | assumption | refine Below.drew ?_ | refine balloc ?_ _ | refine bset ?_ (by simp; omega) _ | refine bset ?_ (by simp) _ | refine bstep ?_ (by assumption)))) y0, cell_keep (by (repeat (first | exact Below.refl _ _ | assumption | refine Below.drew ?_ | refine balloc ?_ _ | refine bset ?_ (by simp; omega) _ | refine bset ?_ (by simp) _ | refine bstep ?_ (by assumption)))) y1, cell_keep (by (repeat (first | exact Below.refl _ _ | assumption | refine Below.drew ?_ | refine balloc ?_ _ | refine bset ?_ (by simp; omega) _ | refine bset ?_ (by simp) _ | refine bstep ?_ (by assumption)))) y2, cell_keep (by (repeat (first | exact Below.refl _ _ | assumption | refine Below.drew ?_ | refine balloc ?_ _ | refine bset ?_ (by simp; omega) _ | refine bset ?_ (by simp) _ | refine bstep ?_ (by assumption)))) y3, cell_keep (by (repeat (first | exact Below.refl _ _ | assumption | refine Below.drew ?_ | refine balloc ?_ _ | refine bset ?_ (by simp; omega) _ | refine bset ?_ (by simp) _ | refine bstep ?_ (by assumption)))) y4, cell_keep (by (repeat (first | exact Below.refl _ _ | assumption | refine Below.drew ?_ | refine balloc ?_ _ | refine bset ?_ (by simp; omega) _ | refine bset ?_ (by simp) _ | refine bstep ?_ (by assumption)))) y5⟩ (fun hS => ?_)
    refine upto_takeN (i := 0) (v := ?_) rfl (by kernel_rfl) (by kernel_rfl) (by kernel_rfl) (by kernel_rfl) (fun _ _ _ h => h) (by rfl) hS ?_ ?_
    rotate_left
    · intro wS hSw
      try dsimp only at hSw
      first | (go_simp; done) | (go_simp; with_reducible rfl)
    try simp only [Act.put, List.getElem_toArray, List.getElem_cons_zero, List.getElem_cons_succ, List.setIfInBounds_toArray, List.set_cons_zero, List.set_cons_succ]
    refine upto_step (i := 1) (by kernel_rfl) rfl ?_
    intro K hK
    go_simp
    refine (HFo'.out _ (bstep hB4 hS.1)).mono ?_
    rintro e wz ⟨rfl, hbz⟩
    have hbz' : Below w4.heap.size w4 wz := bstep hS.1 hbz
    have hS3 := And.intro hbz' (And.intro (cell_keep hbz hS.2.1) (And.intro (cell_keep hbz hS.2.2.1) (And.intro (cell_keep hbz hS.2.2.2.1) (And.intro (cell_keep hbz hS.2.2.2.2.1) (And.intro (cell_keep hbz hS.2.2.2.2.2.1) (cell_keep hbz hS.2.2.2.2.2.2))))))
    refine hK _ _ (fun _ => hS3) ?_
    clear hK K hS hbz
    have hS := hS3
    clear hS3
    try simp only [Act.put, List.getElem_toArray, List.getElem_cons_zero, List.getElem_cons_succ, List.setIfInBounds_toArray, List.set_cons_zero, List.set_cons_succ]
    refine upto_takeN (i := 2) (v := (.bool true)) rfl (by kernel_rfl) (by kernel_rfl) (by kernel_rfl) (by kernel_rfl) (fun _ _ _ h => h) (by rfl) hS ?_ ?_
    · intro wS hSw
      try dsimp only at hSw
      go_simp
    try simp only [Act.put, List.getElem_toArray, List.getElem_cons_zero, List.getElem_cons_succ, List.setIfInBounds_toArray, List.set_cons_zero, List.set_cons_succ]
    refine upto_skipU (i := 3) rfl (by kernel_rfl) (by kernel_rfl) (by kernel_rfl) (by kernel_rfl) (fun _ _ _ h => h) (by rfl) hS ?_
    try simp only [Act.put, List.getElem_toArray, List.getElem_cons_zero, List.getElem_cons_succ, List.setIfInBounds_toArray, List.set_cons_zero, List.set_cons_succ]
    refine upto_skipU (i := 4) rfl (by kernel_rfl) (by kernel_rfl) (by kernel_rfl) (by kernel_rfl) (fun _ _ _ h => h) (by rfl) hS ?_
    try simp only [Act.put, List.getElem_toArray, List.getElem_cons_zero, List.getElem_cons_succ, List.setIfInBounds_toArray, List.set_cons_zero, List.set_cons_succ]
    refine upto_skipU (i := 5) rfl (by kernel_rfl) (by kernel_rfl) (by kernel_rfl) (by kernel_rfl) (fun _ _ _ h => h) (by rfl) hS ?_
    try simp only [Act.put, List.getElem_toArray, List.getElem_cons_zero, List.getElem_cons_succ, List.setIfInBounds_toArray, List.set_cons_zero, List.set_cons_succ]
    refine upto_skipU (i := 6) rfl (by kernel_rfl) (by kernel_rfl) (by kernel_rfl) (by kernel_rfl) (fun _ _ _ h => h) (by rfl) hS ?_
    try simp only [Act.put, List.getElem_toArray, List.getElem_cons_zero, List.getElem_cons_succ, List.setIfInBounds_toArray, List.set_cons_zero, List.set_cons_succ]
    refine upto_skipU (i := 7) rfl (by kernel_rfl) (by kernel_rfl) (by kernel_rfl) (by kernel_rfl) (fun _ _ _ h => h) (by rfl) hS ?_
    try simp only [Act.put, List.getElem_toArray, List.getElem_cons_zero, List.getElem_cons_succ, List.setIfInBounds_toArray, List.set_cons_zero, List.set_cons_succ]
    refine upto_skipU (i := 8) rfl (by kernel_rfl) (by kernel_rfl) (by kernel_rfl) (by kernel_rfl) (fun _ _ _ h => h) (by rfl) hS ?_
    try simp only [Act.put, List.getElem_toArray, List.getElem_cons_zero, List.getElem_cons_succ, List.setIfInBounds_toArray, List.set_cons_zero, List.set_cons_succ]
    refine upto_skipU (i := 9) rfl (by kernel_rfl) (by kernel_rfl) (by kernel_rfl) (by kernel_rfl) (fun _ _ _ h => h) (by rfl) hS ?_
    try simp only [Act.put, List.getElem_toArray, List.getElem_cons_zero, List.getElem_cons_succ, List.setIfInBounds_toArray, List.set_cons_zero, List.set_cons_succ]
    refine upto_skipU (i := 10) rfl (by kernel_rfl) (by kernel_rfl) (by kernel_rfl) (by kernel_rfl) (fun _ _ _ h => h) (by rfl) hS ?_
    try simp only [Act.put, List.getElem_toArray, List.getElem_cons_zero, List.getElem_cons_succ, List.setIfInBounds_toArray, List.set_cons_zero, List.set_cons_succ]
    refine upto_takeN (i := 11) (v := (.bool true)) rfl (by kernel_rfl) (by kernel_rfl) (by kernel_rfl) (by kernel_rfl) (fun _ _ _ h => h) (by rfl) hS ?_ ?_
    · intro wS hSw
      try dsimp only at hSw
      go_simp
    try simp only [Act.put, List.getElem_toArray, List.getElem_cons_zero, List.getElem_cons_succ, List.setIfInBounds_toArray, List.set_cons_zero, List.set_cons_succ]
    refine upto_done (by kernel_rfl) ?_
    refine NoPanic.normal ?_
    go_wp2
    go_ret
    exact ⟨by rw [HC]; rfl, bstep hB4 hS.1⟩
  have HC : Hid (Z = if ga = true then 0 else 1) := HF6.out hfl
  rw [show decide (¬ fl = 0) = false from decide_eq_false (fun h => h hfl)] at HFo'
  clear HF5 HF6 hfl
  go_wp2
  refine wp_region_noPanic ?_
  refine region_upto (fun W => Below w4.heap.size w4 W ∧ W.cell? ⟨w.heap.size, 0, none⟩ = some (.int .i64 d.idx) ∧ W.cell? ⟨w.heap.size, 1, none⟩ = some (.slice a1 n1 c1) ∧ W.cell? ⟨w.heap.size, 2, none⟩ = some (.slice a2 n2 c2) ∧ W.cell? ⟨w.heap.size, 3, none⟩ = some (.slice a3 n3 c3) ∧ W.cell? ⟨w.heap.size, 4, none⟩ = some (.slice a4 n4 c4) ∧ W.cell? ⟨w.heap.size, 5, none⟩ = some (.slice a5 n5 c5)) 12 (by kernel_rfl) ⟨by (repeat (first | exact Below.refl _ _ | assumption | refine Below.drew ?_ | refine balloc ?_ _ | refine bset ?_ (by simp; omega) _ | refine bset ?_ (by simp) _ | refine bstep ?_ (by assumption))), cell_keep (by (repeat (first | exact Below.refl _ _ | assumption | refine Below.drew ?_ | refine balloc ?_ _ | refine bset ?_ (by simp; omega) _ | refine bset ?_ (by simp) _ | refine bstep ?_ (by assumption)))) y0, cell_keep (by (repeat (first | exact Below.refl _ _ | assumption | refine Below.drew ?_ | refine balloc ?_ _ | refine bset ?_ (by simp; omega) _ | refine bset ?_ (by simp) _ | refine bstep ?_ (by assumption)))) y1, cell_keep (by (repeat (first | exact Below.refl _ _ | assumption | refine Below.drew ?_ | refine balloc ?_ _ | refine bset ?_ (by simp; omega) _ | refine bset ?_ (by simp) _ | refine bstep ?_ (by assumption)))) y2, cell_keep (by (repeat (first | exact Below.refl _ _ | assumption | refine Below.drew ?_ | refine balloc ?_ _ | refine bset ?_ (by simp; omega) _ | refine bset ?_ (by simp) _ | refine bstep ?_ (by assumption)))) y3, cell_keep (by (repeat (first | exact Below.refl _ _ | assumption | refine Below.drew ?_ | refine balloc ?_ _ | refine bset ?_ (by simp; omega) _ | refine bset ?_ (by simp) _ | refine bstep ?_ (by assumption)))) y4, cell_keep (by (repeat (first | exact Below.refl _ _ | assumption | refine Below.drew ?_ | refine balloc ?_ _ | refine bset ?_ (by simp; omega) _ | refine bset ?_ (by simp) _ | refine bstep ?_ (by assumption)))) y5⟩ (fun hS => ?_)
  refine upto_takeN (i := 0) (v := ?_) rfl (by kernel_rfl) (by kernel_rfl) (by kernel_rfl) (by kernel_rfl) (fun _ _ _ h => h) (by rfl) hS ?_ ?_
  rotate_left
  · intro wS hSw
    try dsimp only at hSw
    first | (go_simp; done) | (go_simp; with_reducible rfl)
  try simp only [Act.put, List.getElem_toArray, List.getElem_cons_zero, List.getElem_cons_succ, List.setIfInBounds_toArray, List.set_cons_zero, List.set_cons_succ]
  refine upto_step (i := 1) (by kernel_rfl) rfl ?_
  intro K hK
  go_simp
  refine (HFo'.out _ (bstep hB4 hS.1)).mono ?_
  rintro e wz ⟨rfl, hbz⟩
  have hbz' : Below w4.heap.size w4 wz := bstep hS.1 hbz
  have hS3 := And.intro hbz' (And.intro (cell_keep hbz hS.2.1) (And.intro (cell_keep hbz hS.2.2.1) (And.intro (cell_keep hbz hS.2.2.2.1) (And.intro (cell_keep hbz hS.2.2.2.2.1) (And.intro (cell_keep hbz hS.2.2.2.2.2.1) (cell_keep hbz hS.2.2.2.2.2.2))))))
  refine hK _ _ (fun _ => hS3) ?_
  clear hK K hS hbz
  have hS := hS3
  clear hS3
  try simp only [Act.put, List.getElem_toArray, List.getElem_cons_zero, List.getElem_cons_succ, List.setIfInBounds_toArray, List.set_cons_zero, List.set_cons_succ]
  refine upto_takeN (i := 2) (v := (.bool false)) rfl (by kernel_rfl) (by kernel_rfl) (by kernel_rfl) (by kernel_rfl) (fun _ _ _ h => h) (by rfl) hS ?_ ?_
  · intro wS hSw
    try dsimp only at hSw
    go_simp
  try simp only [Act.put, List.getElem_toArray, List.getElem_cons_zero, List.getElem_cons_succ, List.setIfInBounds_toArray, List.set_cons_zero, List.set_cons_succ]
  refine upto_takeN (i := 3) (v := ?_) rfl (by kernel_rfl) (by kernel_rfl) (by kernel_rfl) (by kernel_rfl) (fun _ _ _ h => h) (by rfl) hS ?_ ?_
  rotate_left
  · intro wS hSw
    try dsimp only at hSw
    first | (go_simp; done) | (go_simp; with_reducible rfl)
  try simp only [Act.put, List.getElem_toArray, List.getElem_cons_zero, List.getElem_cons_succ, List.setIfInBounds_toArray, List.set_cons_zero, List.set_cons_succ]
  refine upto_takeN (i := 4) (v := ?_) rfl (by kernel_rfl) (by kernel_rfl) (by kernel_rfl) (by kernel_rfl) (fun _ _ _ h => h) (by rfl) hS ?_ ?_
  rotate_left
  · intro wS hSw
    try dsimp only at hSw
    first | (go_simp; done) | (go_simp; with_reducible rfl)
  try simp only [Act.put, List.getElem_toArray, List.getElem_cons_zero, List.getElem_cons_succ, List.setIfInBounds_toArray, List.set_cons_zero, List.set_cons_succ]
  refine upto_takeN (i := 7) (v := ?_) rfl (by kernel_rfl) (by kernel_rfl) (by kernel_rfl) (by kernel_rfl) (fun _ _ _ h => h) (by rfl) hS ?_ ?_
  rotate_left
  · intro wS hSw
    try dsimp only at hSw
    first | (go_simp; done) | (go_simp; with_reducible rfl)
  try simp only [Act.put, List.getElem_toArray, List.getElem_cons_zero, List.getElem_cons_succ, List.setIfInBounds_toArray, List.set_cons_zero, List.set_cons_succ]
  refine upto_step (i := 5) (by kernel_rfl) rfl ?_
  intro K hK
  go_simp
  refine (HVl.out _ (bstep hB4 hS.1)).mono ?_
  rintro e wz ⟨rfl, gB, hbz⟩
  have hbz' : Below w4.heap.size w4 wz := bstep hS.1 hbz
  have hS3 := And.intro hbz' (And.intro (cell_keep hbz hS.2.1) (And.intro (cell_keep hbz hS.2.2.1) (And.intro (cell_keep hbz hS.2.2.2.1) (And.intro (cell_keep hbz hS.2.2.2.2.1) (And.intro (cell_keep hbz hS.2.2.2.2.2.1) (cell_keep hbz hS.2.2.2.2.2.2))))))
  refine hK _ _ (fun _ => hS3) ?_
  clear hK K hS hbz
  have hS := hS3
  clear hS3
  try simp only [Act.put, List.getElem_toArray, List.getElem_cons_zero, List.getElem_cons_succ, List.setIfInBounds_toArray, List.set_cons_zero, List.set_cons_succ]
  refine upto_step (i := 6) (by kernel_rfl) rfl ?_
  intro K hK
  go_simp
  refine (HSo'.out _ _ (bstep hB4 hS.1) gB).mono ?_
  rintro e wz ⟨vs, rfl, os, hbz⟩
  have V6 : IntsV wz vs (sortI d.appl) := IntsV_of_owns os
  obtain ⟨aS, cS, rfl⟩ := owns_form os
  clear os gB
  have hbz' : Below w4.heap.size w4 wz := bstep hS.1 hbz
  have hS3 := And.intro hbz' (And.intro (cell_keep hbz hS.2.1) (And.intro (cell_keep hbz hS.2.2.1) (And.intro (cell_keep hbz hS.2.2.2.1) (And.intro (cell_keep hbz hS.2.2.2.2.1) (And.intro (cell_keep hbz hS.2.2.2.2.2.1) (cell_keep hbz hS.2.2.2.2.2.2))))))
  refine hK _ _ (fun _ => hS3) ?_
  clear hK K hS hbz
  have hS := hS3
  clear hS3
  try simp only [Act.put, List.getElem_toArray, List.getElem_cons_zero, List.getElem_cons_succ, List.setIfInBounds_toArray, List.set_cons_zero, List.set_cons_succ]
  refine upto_step (i := 8) (by kernel_rfl) rfl ?_
  intro K hK
  go_simp
  refine (HCd'.out _ (bstep hB4 hS.1)).mono ?_
  rintro e wz ⟨vd, rfl, od, hbz⟩
  replace V6 := IntsV_below V6 hbz
  have V8 : IntsV wz vd (doneL d.done) := IntsV_of_owns od
  obtain ⟨ad, cd, rfl⟩ := owns_form od
  clear od
  have hbz' : Below w4.heap.size w4 wz := bstep hS.1 hbz
  have hS3 := And.intro hbz' (And.intro (cell_keep hbz hS.2.1) (And.intro (cell_keep hbz hS.2.2.1) (And.intro (cell_keep hbz hS.2.2.2.1) (And.intro (cell_keep hbz hS.2.2.2.2.1) (And.intro (cell_keep hbz hS.2.2.2.2.2.1) (cell_keep hbz hS.2.2.2.2.2.2))))))
  refine hK _ _ (fun _ => hS3) ?_
  clear hK K hS hbz
  have hS := hS3
  clear hS3
  try simp only [Act.put, List.getElem_toArray, List.getElem_cons_zero, List.getElem_cons_succ, List.setIfInBounds_toArray, List.set_cons_zero, List.set_cons_succ]
  refine upto_step (i := 9) (by kernel_rfl) rfl ?_
  intro K hK
  go_simp
  have hEQ := HEq.out _ _ _ V6 V8
  clear V6 V8
  refine hEQ.mono ?_
  rintro e wz ⟨rfl, hbz⟩
  have hbz' : Below w4.heap.size w4 wz := bstep hS.1 hbz
  have hS3 := And.intro hbz' (And.intro (cell_keep hbz hS.2.1) (And.intro (cell_keep hbz hS.2.2.1) (And.intro (cell_keep hbz hS.2.2.2.1) (And.intro (cell_keep hbz hS.2.2.2.2.1) (And.intro (cell_keep hbz hS.2.2.2.2.2.1) (cell_keep hbz hS.2.2.2.2.2.2))))))
  refine hK _ _ (fun _ => hS3) ?_
  clear hK K hS hbz
  have hS := hS3
  clear hS3
  try simp only [Act.put, List.getElem_toArray, List.getElem_cons_zero, List.getElem_cons_succ, List.setIfInBounds_toArray, List.set_cons_zero, List.set_cons_succ]
  refine upto_takeN (i := 10) (v := (.bool (!ga))) rfl (by kernel_rfl) (by kernel_rfl) (by kernel_rfl) (by kernel_rfl) (fun _ _ _ h => h) (by rfl) hS ?_ ?_
  · intro wS hSw
    try dsimp only at hSw
    go_simp
  try simp only [Act.put, List.getElem_toArray, List.getElem_cons_zero, List.getElem_cons_succ, List.setIfInBounds_toArray, List.set_cons_zero, List.set_cons_succ]
  refine upto_takeN (i := 11) (v := (.bool (!ga))) rfl (by kernel_rfl) (by kernel_rfl) (by kernel_rfl) (by kernel_rfl) (fun _ _ _ h => h) (by rfl) hS ?_ ?_
  · intro wS hSw
    try dsimp only at hSw
    go_simp
  try simp only [Act.put, List.getElem_toArray, List.getElem_cons_zero, List.getElem_cons_succ, List.setIfInBounds_toArray, List.set_cons_zero, List.set_cons_succ]
  refine upto_done (by kernel_rfl) ?_
  refine NoPanic.normal ?_
  cases ga
  · go_wp2
    go_ret
    exact ⟨by rw [HC.out]; rfl, bstep hB4 hS.1⟩
  · go_wp2
    go_ret
    exact ⟨by rw [HC.out]; rfl, bstep hB4 hS.1⟩
end Go.Proofs.YtndghenlapbaaaaGreatDoor

/-
  A panic that is a refusal is a code: the door of ShardFault.
-/
set_option linter.unusedSimpArgs false
set_option linter.unusedVariables false
namespace Go.Proofs.YtndghenlapbaaaaGreatDoor
open Go.RowKit
set_option linter.unusedSectionVars false
variable [DecidableEq Rw] [Inhabited Rw] [DecidableEq Bal] [Inhabited Bal] [DecidableEq Ledg] [Inhabited Ledg] [DecidableEq Leg] [Inhabited Leg] [DecidableEq Cont] [Inhabited Cont] [DecidableEq LedgR] [Inhabited LedgR] [DecidableEq OutcR] [Inhabited OutcR] [DecidableEq Mrk] [Inhabited Mrk] [DecidableEq Shd] [Inhabited Shd] [DecidableEq ShdR] [Inhabited ShdR]
attribute [local go_sem ↓] Go.wp_at_zero Go.wp_at_succ

theorem taRef (c : Int) (w : World) : (Instr.typeAssert (.iface 83 (.int .i64 c)) 20 83 true).run Tryz.prog w = .ok (.tuple #[.int .i64 c, .bool true]) w := by kernel_rfl
theorem taNil (w : World) : (Instr.typeAssert .nilIface 20 83 true).run Tryz.prog w = .ok (.tuple #[.int .i64 0, .bool false]) w := by kernel_rfl
set_option maxRecDepth 20000 in
set_option maxHeartbeats 2000000 in
theorem refusalOf_ref (c : Int) (w : World) : Calls Tryz.prog 38 #[refV c] w fun e w' => e = .returned (.tuple #[.int .i64 c, .bool true]) ∧ Below w.heap.size w w' := by
  unfold refV
  have h1 := taRef c
  go_enter Tryz.func38, Tryz.ntmps38
  go_wp2
  refine bodyPost_ret (v := .tuple #[.int .i64 c, .bool true]) (by simp [results, Tryz.results38, go_sem]) rfl ?_
  exact ⟨rfl, by (repeat (first | exact Below.refl _ _ | assumption | refine Below.drew ?_ | refine balloc ?_ _ | refine bset ?_ (by simp; omega) _ | refine bset ?_ (by simp) _ | refine bstep ?_ (by assumption)))⟩
set_option maxRecDepth 20000 in
set_option maxHeartbeats 2000000 in
theorem refusalOf_nil (w : World) : Calls Tryz.prog 38 #[.nilIface] w fun e w' => e = .returned (.tuple #[.int .i64 0, .bool false]) ∧ Below w.heap.size w w' := by
  have h1 := taNil
  go_enter Tryz.func38, Tryz.ntmps38
  go_wp2
  refine bodyPost_ret (v := .tuple #[.int .i64 0, .bool false]) (by simp [results, Tryz.results38, go_sem]) rfl ?_
  exact ⟨rfl, by (repeat (first | exact Below.refl _ _ | assumption | refine Below.drew ?_ | refine balloc ?_ _ | refine bset ?_ (by simp; omega) _ | refine bset ?_ (by simp) _ | refine bstep ?_ (by assumption)))⟩
theorem catchSF_panicking (p : Addr) (x c : Int) (older : List PanicEntry) (w : World) (hc : w.cell? p = some (.int .i64 x)) (hz : w.frozen? p = false) :
    CallsD Tryz.prog 37 #[.pointer (some p)] (.panicking ({ v := refV c, recovered := false } :: older)) w fun e u' w' =>
      e = .returned (.tuple #[]) ∧ u' = .panicking ({ v := refV c, recovered := true } :: older) ∧ ∃ w1, Below w.heap.size w w1 ∧ w' = w1.setCell p (.int .i64 c) := by
  refine callsD_of_wpS Tryz.func37 rfl fun c₀ cs hu => ?_
  apply wpS_seq
  apply wpS_region
  simp [wpOpsS, go_sem, recoverD, hu, Tryz.ntmps37, Exit.thenS]
  refine (refusalOf_ref c w).mono ?_
  rintro e w1 ⟨rfl, hb⟩
  obtain ⟨_, f1⟩ := bcell hb
  have hp : p.block < w.heap.size := World.block_lt_of_cell? w _ hc
  have hc1 : w1.cell? p = some (.int .i64 x) := cell_keep hb hc
  have hz1 : w1.frozen? p = false := by rw [hb.frozen (p := p) hp]; exact hz
  simp [wpOpsS, go_sem, recoverD, Exit.thenS]
  apply wpS_seq
  apply wpS_region
  simp [wpOpsS, go_sem, recoverD, Exit.thenS]
  refine wpS_cond (t := true) (by simp [Act.eval, Array.replicate]) ?_
  simp only [if_true]
  apply wpS_region
  simp [wpOpsS, go_sem, hc1, hz1, bodyPostS, results, Tryz.results37]
  exact ⟨w1, hb, rfl⟩
theorem catchSF_idle (p : Addr) (w : World) :
    CallsD Tryz.prog 37 #[.pointer (some p)] .returning w fun e u' w' => e = .returned (.tuple #[]) ∧ u' = .returning ∧ Below w.heap.size w w' := by
  refine callsD_of_wpS Tryz.func37 rfl fun c₀ cs hu => ?_
  apply wpS_seq
  apply wpS_region
  simp [wpOpsS, go_sem, recoverD, hu, Tryz.ntmps37, Exit.thenS]
  refine (refusalOf_nil w).mono ?_
  rintro e w1 ⟨rfl, hb⟩
  simp [wpOpsS, go_sem, recoverD, Exit.thenS]
  apply wpS_seq
  apply wpS_region
  simp [wpOpsS, go_sem, recoverD, Exit.thenS]
  refine wpS_cond (t := false) (by simp [Act.eval, Array.replicate]) ?_
  simp only [Bool.false_eq_true, if_false]
  refine wpS_of_wp (wp_skip ?_)
  cases c₀
  simp_all [bodyPostS, results, Tryz.results37]
end Go.Proofs.YtndghenlapbaaaaGreatDoor


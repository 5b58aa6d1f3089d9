import Derived.Test.YtnefocpgjcmocaaPrnSettleOneLaw11
import Derived.Test.YtnefocpgjcmocaaPrnSettleOneLaw14
import Derived.Shelf.SlSortCmp.WholeK
import Derived.Ground.SlsfProg
import Derived.Test.YtnefocpgjcmocaaProg
import Derived.Shelf.SlSortCmp.NoneTotal
import Derived.Test.YtnefocpgjcmocaaPrnSettleOneLaw13

/-
  The keys of a book, sorted and laid shard by shard: what lies there rises and tells the book.
-/
namespace Go.Proofs.Ytnefocpgjcmocaa
open Go.RowKit Go.Sort Go.Shelf
set_option linter.unusedSectionVars false
variable [DecidableEq Rw] [Inhabited Rw] [DecidableEq Bal] [Inhabited Bal] [DecidableEq Ledg] [Inhabited Ledg] [DecidableEq Leg] [Inhabited Leg] [DecidableEq Cont] [Inhabited Cont] [DecidableEq LedgR] [Inhabited LedgR]
set_option linter.unusedVariables false
set_option linter.unusedSimpArgs false

theorem nodup_lt : ∀ (N : Nat) (l : List Nat), l.Nodup → (∀ x ∈ l, x < N) → l.length ≤ N
  | 0, l, _, h => by
    cases l with
    | nil => simp
    | cons x r => exact absurd (h x (by simp)) (Nat.not_lt_zero _)
  | N + 1, l, hn, h => by
    have h1 := nodup_lt N (l.erase N) (hn.erase N) (fun x hx => by
      obtain ⟨h2, h3⟩ := (hn.mem_erase_iff).1 hx
      have := h x h3
      omega)
    rw [List.length_erase] at h1
    split at h1 <;> omega
def KDom (n : Nat) (f : Int → Int → Int → Option Int) : Prop := ∀ s a t, (f s a t).isSome = true → (0 ≤ s ∧ s < (n : Int)) ∧ keyOk a t = true
theorem KDom.len {n : Nat} {f : Int → Int → Int → Option Int} (h : KDom n f) {ys : List K3} (hy : KOk f ys) : ys.length ≤ n * 18 := by
  have h1 := nodup_lt (n * 18) (ys.map (fun k : K3 => k.1.toNat * 18 + k.2.1.toNat * 3 + k.2.2.toNat)) ?_ ?_
  · simpa using h1
  · rw [List.Nodup, List.pairwise_map]
    refine List.Pairwise.imp_of_mem ?_ hy.1
    rintro ⟨s, a, t⟩ ⟨s', a', t'⟩ hx hx' hne e
    obtain ⟨⟨_, _⟩, hk⟩ := h s a t (hy.2 _ hx)
    obtain ⟨⟨_, _⟩, hk'⟩ := h s' a' t' (hy.2 _ hx')
    obtain ⟨⟨_, _⟩, _, _⟩ := keyOk_iff.1 hk
    obtain ⟨⟨_, _⟩, _, _⟩ := keyOk_iff.1 hk'
    apply hne
    dsimp only at e
    have e1 : s = s' := by omega
    have e2 : a = a' := by omega
    have e3 : t = t' := by omega
    rw [e1, e2, e3]
  · intro x hx
    obtain ⟨⟨s, a, t⟩, hm, rfl⟩ := List.mem_map.1 hx
    obtain ⟨⟨_, _⟩, hk⟩ := h s a t (hy.2 _ hm)
    obtain ⟨⟨_, _⟩, _, _⟩ := keyOk_iff.1 hk
    dsimp only
    omega
def balK (f : Int → Int → Int → Option Int) (k : K3) : Bal := ⟨k.2.1, k.2.2, (f k.1 k.2.1 k.2.2).getD 0⟩
def shK (f : Int → Int → Int → Option Int) (ys : List K3) (i : Nat) : List Bal := (ys.filter (fun k => decide (k.1 = (i : Int)))).map (balK f)
theorem shK_snoc (f : Int → Int → Int → Option Int) (ys : List K3) (k : K3) (i : Nat) : shK f (ys ++ [k]) i = if k.1 = (i : Int) then shK f ys i ++ [balK f k] else shK f ys i := by
  unfold shK
  rw [List.filter_append, List.map_append]
  by_cases h : k.1 = (i : Int)
  · simp [h]
  · simp [h]
theorem shK_mem {f : Int → Int → Int → Option Int} {ys : List K3} {i : Nat} {x : Bal} : x ∈ shK f ys i ↔ ∃ k ∈ ys, k.1 = (i : Int) ∧ balK f k = x := by
  unfold shK
  simp only [List.mem_map, List.mem_filter, decide_eq_true_eq]
  constructor
  · rintro ⟨k, ⟨h1, h2⟩, h3⟩
    exact ⟨k, h1, h2, h3⟩
  · rintro ⟨k, h1, h2, h3⟩
    exact ⟨k, ⟨h1, h2⟩, h3⟩
theorem shK_rise {n : Nat} {f : Int → Int → Int → Option Int} (hd : KDom n f) {ys : List K3} (hy : KOk f ys) (hs : ys.Pairwise (fun p q => ltOf cfK q p = false)) (i : Nat) : RiseB (shK f ys i) := by
  refine ⟨?_, fun x hx => ?_⟩
  · unfold shK
    rw [List.pairwise_map]
    have h1 : ys.Pairwise (fun p q => ltOf cfK q p = false ∧ p ≠ q) := hs.and hy.1
    have h2 := h1.filter (fun k => decide (k.1 = (i : Int)))
    refine List.Pairwise.imp_of_mem ?_ h2
    rintro ⟨s, a, t⟩ ⟨s', a', t'⟩ hx hx' ⟨hl, hne⟩
    obtain ⟨hx1, hx2⟩ := List.mem_filter.1 hx
    obtain ⟨hx1', hx2'⟩ := List.mem_filter.1 hx'
    simp only [decide_eq_true_eq] at hx2 hx2'
    obtain ⟨_, hk⟩ := hd s a t (hy.2 _ hx1)
    obtain ⟨_, hk'⟩ := hd s' a' t' (hy.2 _ hx1')
    obtain ⟨⟨_, _⟩, _, _⟩ := keyOk_iff.1 hk
    obtain ⟨⟨_, _⟩, _, _⟩ := keyOk_iff.1 hk'
    rw [← Bool.not_eq_true, ltK_iff] at hl
    dsimp only at hl
    unfold plB balK
    dsimp only
    have hne' : ¬ (a = a' ∧ t = t') := fun e => hne (by rw [hx2, hx2', e.1, e.2])
    omega
  · obtain ⟨k, hk, _, rfl⟩ := shK_mem.1 hx
    exact (hd _ _ _ (hy.2 k hk)).2
theorem shK_get {n : Nat} {f : Int → Int → Int → Option Int} (hn : n ≤ 200) (hd : KDom n f) {ys : List K3} (hy : KDn f ys) (i : Nat) (a t : Int) : getB a t (shK f ys i) = f i a t := by
  cases hf : f i a t with
  | none =>
    refine getB_not (fun x hx e => ?_)
    obtain ⟨k, hk, hi, rfl⟩ := shK_mem.1 hx
    have h1 := hy.1.2 k hk
    unfold balK at e
    dsimp only at e
    rw [hi, e.1, e.2, hf] at h1
    cases h1
  | some v =>
    have hs : (f i a t).isSome = true := by rw [hf]; rfl
    obtain ⟨⟨_, _⟩, hk⟩ := hd i a t hs
    obtain ⟨⟨_, _⟩, _, _⟩ := keyOk_iff.1 hk
    have hm := hy.2 i a t ⟨wf_of (by omega) (by omega), wf_of (by omega) (by omega), wf_of (by omega) (by omega)⟩ hs
    cases hg : getB a t (shK f ys i) with
    | none =>
      have h3 : ∀ (xs : List Bal), getB a t xs = none → ∀ x ∈ xs, ¬ (x.ac = a ∧ x.ast = t) := by
        intro xs
        induction xs with
        | nil => intro _ x hx; cases hx
        | cons y r ih =>
          intro h x hx e
          by_cases hy' : y.ac = a ∧ y.ast = t
          · simp only [getB] at h
            rw [if_pos hy'] at h
            cases h
          · rw [getB_tail hy'] at h
            rcases List.mem_cons.1 hx with rfl | hx
            · exact hy' e
            · exact ih h x hx e
      exact absurd ⟨rfl, rfl⟩ (h3 _ hg (balK f (i, a, t)) (shK_mem.2 ⟨_, hm, rfl, rfl⟩))
    | some u =>
      obtain ⟨x, hx, h1, h2, h3⟩ := getB_mem hg
      obtain ⟨k, hk', hi, rfl⟩ := shK_mem.1 hx
      unfold balK at h1 h2 h3
      dsimp only at h1 h2 h3
      rw [hi, h1, h2, hf] at h3
      rw [← h3]
      rfl
theorem lay_settled {gs : List (List Bal)} {ls : List Leg} (hg : ∀ i, i < gs.length → RiseB (gs.getD i default)) (hk : ∀ l ∈ ls, keyOk l.ac l.ast = true) (hN : gs.length ≤ 200) (hd : KDom gs.length (addLs (bookF gs) ls))
    {ys : List K3} (hy : KDn (addLs (bookF gs) ls) ys) (hs : ys.Pairwise (fun p q => ltOf cfK q p = false)) {hs' : List (List Bal)} (hl : hs'.length = gs.length) (he : ∀ i, i < gs.length → hs'.getD i default = shK (addLs (bookF gs) ls) ys i) : hs' = settleL gs ls :=
  settle_unique hg hk hl (fun i hi => by rw [he i hi]; exact ⟨shK_rise hd hy.1 hs i, fun a t => shK_get hN hd hy i a t⟩)
theorem kdom_settle {gs : List (List Bal)} {ls : List Leg} (hg : ∀ i, i < gs.length → RiseB (gs.getD i default)) (hk : ∀ l ∈ ls, keyOk l.ac l.ast = true) (hl : ∀ l ∈ ls, 0 ≤ l.sh ∧ l.sh < (gs.length : Int)) : KDom gs.length (addLs (bookF gs) ls) := by
  intro s a t h
  by_cases hr : 0 ≤ s ∧ s < (gs.length : Int)
  · refine ⟨hr, ?_⟩
    obtain ⟨i, rfl⟩ : ∃ i : Nat, s = (i : Int) := ⟨s.toNat, by omega⟩
    have hi : i < gs.length := by omega
    obtain ⟨h1, h2⟩ := settle_book hi (hg i hi) ls hk
    rw [← h2] at h
    obtain ⟨v, hv⟩ := Option.isSome_iff_exists.1 h
    obtain ⟨x, hx, rfl, rfl, _⟩ := getB_mem hv
    exact h1.key x hx
  · rw [book_dom ls hl s a t hr] at h
    cases h
end Go.Proofs.Ytnefocpgjcmocaa

/-
  slices.SortFunc at keys of a book: the library's contract, laid at this program.
-/
namespace Go.Proofs.Ytnefocpgjcmocaa
open Go.Shelf
def Try.sortK_ren : Go.Shelf.Ren := ⟨fun | 6 => 61 | 15 => 79 | 14 => 78 | 28 => 94 | 29 => 95 | 20 => 86 | 21 => 87 | 22 => 88 | 23 => 89 | 24 => 90 | 25 => 91 | 26 => 92 | 27 => 93 | 46 => 98 | 47 => 99 | 48 => 100 | 49 => 101 | 50 => 102 | 57 => 103 | n => n, fun | 22 => 82 | 24 => 79 | 25 => 87 | 3 => 3 | 39 => 113 | 0 => 0 | 53 => 128 | 55 => 130 | 4 => 4 | 46 => 121 | 45 => 120 | 50 => 125 | 5 => 5 | 9 => 9 | 66 => 131 | 70 => 135 | 76 => 137 | 77 => 138 | n => n, fun | n => n⟩
theorem Try.sortK : Go.Proofs.SlLaysF0.n6 Try.prog Try.sortK_ren := {
  mixed := by kernel_rfl
  f6 := ⟨Try.f61.name, by decide, Try.func61.trans (congrArg some (by kernel_rfl))⟩
  f14 := ⟨Try.f78.name, by decide, Try.func78.trans (congrArg some (by kernel_rfl))⟩
  f15 := Try.func79.trans (congrArg some (by kernel_rfl))
  f20 := ⟨Try.f86.name, by decide, Try.func86.trans (congrArg some (by kernel_rfl))⟩
  f21 := ⟨Try.f87.name, by decide, Try.func87.trans (congrArg some (by kernel_rfl))⟩
  f22 := ⟨Try.f88.name, by decide, Try.func88.trans (congrArg some (by kernel_rfl))⟩
  f23 := ⟨Try.f89.name, by decide, Try.func89.trans (congrArg some (by kernel_rfl))⟩
  f24 := ⟨Try.f90.name, by decide, Try.func90.trans (congrArg some (by kernel_rfl))⟩
  f25 := ⟨Try.f91.name, by decide, Try.func91.trans (congrArg some (by kernel_rfl))⟩
  f26 := ⟨Try.f92.name, by decide, Try.func92.trans (congrArg some (by kernel_rfl))⟩
  f27 := ⟨Try.f93.name, by decide, Try.func93.trans (congrArg some (by kernel_rfl))⟩
  f28 := Try.func94.trans (congrArg some (by kernel_rfl))
  f29 := Try.func95.trans (congrArg some (by kernel_rfl))
  f46 := ⟨Try.f98.name, by decide, Try.func98.trans (congrArg some (by kernel_rfl))⟩
  f47 := Try.func99.trans (congrArg some (by kernel_rfl))
  f48 := Try.func100.trans (congrArg some (by kernel_rfl))
  f49 := ⟨Try.f101.name, by decide, Try.func101.trans (congrArg some (by kernel_rfl))⟩
  f50 := ⟨Try.f102.name, by decide, Try.func102.trans (congrArg some (by kernel_rfl))⟩
  f57 := ⟨Try.f103.name, by decide, Try.func103.trans (congrArg some (by kernel_rfl))⟩
  t0 := Try.underlying0
  a0 := Try.isAgg0
  z0 := Try.sizeOf0
  v0 := Try.zeroValue0
  t3 := Try.underlying3
  a3 := Try.isAgg3
  z3 := Try.sizeOf3
  v3 := Try.zeroValue3
  t4 := Try.underlying4
  a4 := Try.isAgg4
  z4 := Try.sizeOf4
  v4 := Try.zeroValue4
  t5 := Try.underlying5
  a5 := Try.isAgg5
  z5 := Try.sizeOf5
  v5 := Try.zeroValue5
  t9 := Try.underlying9
  a9 := Try.isAgg9
  z9 := Try.sizeOf9
  v9 := Try.zeroValue9
  t22 := Try.underlying82
  a22 := Try.isAgg82
  z22 := Try.sizeOf82
  v22 := Try.zeroValue82
  t25 := Try.underlying87
  a25 := Try.isAgg87
  z25 := Try.sizeOf87
  v25 := Try.zeroValue87
  t39 := Try.underlying113
  a39 := Try.isAgg113
  z39 := Try.sizeOf113
  v39 := Try.zeroValue113
  t45 := Try.underlying120
  a45 := Try.isAgg120
  z45 := Try.sizeOf120
  v45 := Try.zeroValue120
  t46 := Try.underlying121
  a46 := Try.isAgg121
  z46 := Try.sizeOf121
  v46 := Try.zeroValue121
  t50 := Try.underlying125
  a50 := Try.isAgg125
  z50 := Try.sizeOf125
  v50 := Try.zeroValue125
  t53 := Try.underlying128
  a53 := Try.isAgg128
  z53 := Try.sizeOf128
  v53 := Try.zeroValue128
  t55 := Try.underlying130
  a55 := Try.isAgg130
  z55 := Try.sizeOf130
  v55 := Try.zeroValue130
  t66 := Try.underlying131
  a66 := Try.isAgg131
  z66 := Try.sizeOf131
  v66 := Try.zeroValue131
  t70 := Try.underlying135
  a70 := Try.isAgg135
  z70 := Try.sizeOf135
  v70 := Try.zeroValue135
  t76 := Try.underlying137
  a76 := Try.isAgg137
  z76 := Try.sizeOf137
  v76 := Try.zeroValue137
  t77 := Try.underlying138
  a77 := Try.isAgg138
  z77 := Try.sizeOf138
  v77 := Try.zeroValue138 }
end Go.Proofs.Ytnefocpgjcmocaa

/-
  slices.SortFunc over keys of a book: both contracts, at this program.
-/
namespace Go.Proofs.Ytnefocpgjcmocaa
open Go.RowKit Go.Sort Go.Shelf
set_option linter.unusedSectionVars false
variable [DecidableEq Rw] [Inhabited Rw] [DecidableEq Bal] [Inhabited Bal] [DecidableEq Ledg] [Inhabited Ledg] [DecidableEq Leg] [Inhabited Leg] [DecidableEq Cont] [Inhabited Cont]
set_option linter.unusedVariables false

theorem sortsK : SortsK where
  some_ := fun xs g cap base W ho hb hn => sortK_any Try.sortK_ren Try.sortK rfl rfl xs g cap base W ho hb hn
  none_ := fun W => AnyF.slices_SortFunc_none Try.sortK none 0 (.func (.func 45) #[] #[]) W
end Go.Proofs.Ytnefocpgjcmocaa

/-
  A row of values that own memory: one of them is another, with blocks of its own or new ones.
-/
namespace Go.Proofs.Ytnefocpgjcmocaa
open Go.RowKit

theorem PO.put {α : Type} {R : Rep α} {e size : Nat} {lv : Value → List Value} {w w' : World} {base : Nat} {v : Value} {n k j : Nat} {d : Nat → α} {cs cs' : List Value} {us : Nat → Value} {fs : Nat → Nat → Prop} {u : Value} {x : α} {F' : Nat → Prop}
    (h : PO R e size lv w base v n k d cs us fs) (hj : j < k) (hm : Mod (fun b => v.ownBlock = some b ∨ fs j b) w w') (hu : R.O w' base F' u x) (hF : ∀ b, F' b → fs j b ∨ w.heap.size ≤ b) (hl : (lv u).length = size)
    (hr : w'.ownsRow base e size v n cs') (hold : ∀ i, i < k → i ≠ j → ∀ o, o < size → cs'[i * size + o]? = cs[i * size + o]?) (hnew : ∀ o, o < size → cs'[j * size + o]? = (lv u)[o]?) :
    PO R e size lv w' base v n k (upd d j x) cs' (upd us j u) (upd fs j F') := by
  have hlt : ∀ b, v.ownBlock = some b → b < w.heap.size := fun b hb => (h.row.lt b hb).2
  have hfs : ∀ i, i < k → ∀ b, fs i b → b < w.heap.size := fun i hi b hb => (R.rng (h.el i hi) b hb).2
  refine ⟨hr, ?_, ?_, ?_, ?_, ?_⟩
  · intro i hi
    by_cases hik : i = j
    · subst hik; rw [upd_at, upd_at, upd_at]; exact hu
    · rw [upd_ne _ _ hik, upd_ne _ _ hik, upd_ne _ _ hik]
      exact R.mod (h.el i hi) hm (fun b hb => by
        rintro (he | he)
        · exact h.out i hi b hb he
        · exact h.sep i j hi hj hik b hb he)
  · intro i hi
    by_cases hik : i = j
    · subst hik; rw [upd_at]; exact hl
    · rw [upd_ne _ _ hik]; exact h.ln i hi
  · intro i hi o ho
    by_cases hik : i = j
    · subst hik; rw [upd_at]; exact hnew o ho
    · rw [upd_ne _ _ hik, hold i hi hik o ho]; exact h.cell i hi o ho
  · intro i hi b hb he
    by_cases hik : i = j
    · subst hik
      rw [upd_at] at hb
      rcases hF b hb with h1 | h1
      · exact h.out i hi b h1 he
      · have := hlt b he; omega
    · rw [upd_ne _ _ hik] at hb
      exact h.out i hi b hb he
  · intro i i' hi hi' hii b h1 h2
    by_cases hik : i = j
    · subst hik
      rw [upd_at] at h1
      rw [upd_ne _ _ (Ne.symm hii)] at h2
      rcases hF b h1 with h3 | h3
      · exact h.sep i i' hi hi' hii b h3 h2
      · have := hfs i' hi' b h2; omega
    · rw [upd_ne _ _ hik] at h1
      by_cases hjk : i' = j
      · subst hjk
        rw [upd_at] at h2
        rcases hF b h2 with h3 | h3
        · exact h.sep i i' hi hi' hii b h1 h3
        · have := hfs i hi b h1; omega
      · rw [upd_ne _ _ hjk] at h2
        exact h.sep i i' hi hi' hii b h1 h2
theorem PO.putS {α : Type} {R : Rep α} {e : Nat} {w w1 w2 : World} {base g cap : Nat} {n j : Nat} {d : Nat → α} {cs : List Value} {us : Nat → Value} {fs : Nat → Nat → Prop} {u : Value} {x : α} {F' : Nat → Prop}
    (h : PO R e 1 one w base (.slice (some ⟨g, 0, none⟩) n cap) n n d cs us fs) (hj : j < n) (hm : Mod (fun b => fs j b) w w1) (hu : R.O w1 base F' u x) (hF : ∀ b, F' b → fs j b ∨ w.heap.size ≤ b)
    (hr : w2.ownsRow base e 1 (.slice (some ⟨g, 0, none⟩) n cap) n (cs.set j u)) (hm2 : Mod (fun b => b = g) w1 w2) :
    PO R e 1 one w2 base (.slice (some ⟨g, 0, none⟩) n cap) n n (upd d j x) (cs.set j u) (upd us j u) (upd fs j F') := by
  have hcl : cs.length = n := by simpa using h.row.1
  have hg : g < w.heap.size := (h.row.lt g rfl).2
  have hgF : ¬ F' g := fun hf => by
    rcases hF g hf with h1 | h1
    · exact h.out j hj g h1 rfl
    · omega
  refine h.put hj (Mod.trans (Mod.mono hm (fun b hb => Or.inr hb)) (Mod.mono hm2 (fun b hb => Or.inl (by rw [hb]; rfl)))) (R.mod hu hm2 (fun b hb e => hgF (e ▸ hb))) hF rfl hr ?_ ?_
  · intro i hi hij o ho
    obtain rfl : o = 0 := by omega
    rw [Nat.mul_one, Nat.add_zero, List.getElem?_set_ne (Ne.symm hij)]
  · intro o ho
    obtain rfl : o = 0 := by omega
    rw [Nat.mul_one, Nat.add_zero, List.getElem?_set_self (by omega)]
    rfl
end Go.Proofs.Ytnefocpgjcmocaa


import Derived.Test.YtedcfokhdkljaaaGreatPrnSettleAllLaw11
import Derived.Test.YtedcfokhdkljaaaGreatPrnSettleAllLaw14
import Derived.Shelf.SlSortCmp.WholeK
import Derived.Ground.SlsfProg
import Derived.Test.YtedcfokhdkljaaaGreatProg
import Derived.Shelf.SlSortCmp.NoneTotal
import Derived.Test.YtedcfokhdkljaaaGreatPrnSettleAllLaw13

/-
  The keys of a book, sorted and laid shard by shard: what lies there rises and tells the book.
-/
namespace Go.Proofs.YtedcfokhdkljaaaGreat
open Go.RowKit Go.Sort Go.Shelf
set_option linter.unusedSectionVars false
variable [DecidableEq Rw] [Inhabited Rw] [DecidableEq Bal] [Inhabited Bal] [DecidableEq Ledg] [Inhabited Ledg] [DecidableEq Leg] [Inhabited Leg] [DecidableEq Cont] [Inhabited Cont] [DecidableEq LedgR] [Inhabited LedgR]
set_option linter.unusedVariables false
set_option linter.unusedSimpArgs false

theorem nodup_lt : ∀ (N : Nat) (l : List Nat), l.Nodup → (∀ x ∈ l, x < N) → l.length ≤ N
  | 0, l, _, h => by
    cases l with
    | nil => simp
    | cons x r => exact absurd (h x (by simp)) (Nat.not_lt_zero _)
  | N + 1, l, hn, h => by
    have h1 := nodup_lt N (l.erase N) (hn.erase N) (fun x hx => by
      obtain ⟨h2, h3⟩ := (hn.mem_erase_iff).1 hx
      have := h x h3
      omega)
    rw [List.length_erase] at h1
    split at h1 <;> omega
def KDom (n : Nat) (f : Int → Int → Int → Option Int) : Prop := ∀ s a t, (f s a t).isSome = true → (0 ≤ s ∧ s < (n : Int)) ∧ keyOk a t = true
theorem KDom.len {n : Nat} {f : Int → Int → Int → Option Int} (h : KDom n f) {ys : List K3} (hy : KOk f ys) : ys.length ≤ n * 18 := by
  have h1 := nodup_lt (n * 18) (ys.map (fun k : K3 => k.1.toNat * 18 + k.2.1.toNat * 3 + k.2.2.toNat)) ?_ ?_
  · simpa using h1
  · rw [List.Nodup, List.pairwise_map]
    refine List.Pairwise.imp_of_mem ?_ hy.1
    rintro ⟨s, a, t⟩ ⟨s', a', t'⟩ hx hx' hne e
    obtain ⟨⟨_, _⟩, hk⟩ := h s a t (hy.2 _ hx)
    obtain ⟨⟨_, _⟩, hk'⟩ := h s' a' t' (hy.2 _ hx')
    obtain ⟨⟨_, _⟩, _, _⟩ := keyOk_iff.1 hk
    obtain ⟨⟨_, _⟩, _, _⟩ := keyOk_iff.1 hk'
    apply hne
    dsimp only at e
    have e1 : s = s' := by omega
    have e2 : a = a' := by omega
    have e3 : t = t' := by omega
    rw [e1, e2, e3]
  · intro x hx
    obtain ⟨⟨s, a, t⟩, hm, rfl⟩ := List.mem_map.1 hx
    obtain ⟨⟨_, _⟩, hk⟩ := h s a t (hy.2 _ hm)
    obtain ⟨⟨_, _⟩, _, _⟩ := keyOk_iff.1 hk
    dsimp only
    omega
def balK (f : Int → Int → Int → Option Int) (k : K3) : Bal := ⟨k.2.1, k.2.2, (f k.1 k.2.1 k.2.2).getD 0⟩
def shK (f : Int → Int → Int → Option Int) (ys : List K3) (i : Nat) : List Bal := (ys.filter (fun k => decide (k.1 = (i : Int)))).map (balK f)
theorem shK_snoc (f : Int → Int → Int → Option Int) (ys : List K3) (k : K3) (i : Nat) : shK f (ys ++ [k]) i = if k.1 = (i : Int) then shK f ys i ++ [balK f k] else shK f ys i := by
  unfold shK
  rw [List.filter_append, List.map_append]
  by_cases h : k.1 = (i : Int)
  · simp [h]
  · simp [h]
theorem shK_mem {f : Int → Int → Int → Option Int} {ys : List K3} {i : Nat} {x : Bal} : x ∈ shK f ys i ↔ ∃ k ∈ ys, k.1 = (i : Int) ∧ balK f k = x := by
  unfold shK
  simp only [List.mem_map, List.mem_filter, decide_eq_true_eq]
  constructor
  · rintro ⟨k, ⟨h1, h2⟩, h3⟩
    exact ⟨k, h1, h2, h3⟩
  · rintro ⟨k, h1, h2, h3⟩
    exact ⟨k, ⟨h1, h2⟩, h3⟩
theorem shK_rise {n : Nat} {f : Int → Int → Int → Option Int} (hd : KDom n f) {ys : List K3} (hy : KOk f ys) (hs : ys.Pairwise (fun p q => ltOf cfK q p = false)) (i : Nat) : RiseB (shK f ys i) := by
  refine ⟨?_, fun x hx => ?_⟩
  · unfold shK
    rw [List.pairwise_map]
    have h1 : ys.Pairwise (fun p q => ltOf cfK q p = false ∧ p ≠ q) := hs.and hy.1
    have h2 := h1.filter (fun k => decide (k.1 = (i : Int)))
    refine List.Pairwise.imp_of_mem ?_ h2
    rintro ⟨s, a, t⟩ ⟨s', a', t'⟩ hx hx' ⟨hl, hne⟩
    obtain ⟨hx1, hx2⟩ := List.mem_filter.1 hx
    obtain ⟨hx1', hx2'⟩ := List.mem_filter.1 hx'
    simp only [decide_eq_true_eq] at hx2 hx2'
    obtain ⟨_, hk⟩ := hd s a t (hy.2 _ hx1)
    obtain ⟨_, hk'⟩ := hd s' a' t' (hy.2 _ hx1')
    obtain ⟨⟨_, _⟩, _, _⟩ := keyOk_iff.1 hk
    obtain ⟨⟨_, _⟩, _, _⟩ := keyOk_iff.1 hk'
    rw [← Bool.not_eq_true, ltK_iff] at hl
    dsimp only at hl
    unfold plB balK
    dsimp only
    have hne' : ¬ (a = a' ∧ t = t') := fun e => hne (by rw [hx2, hx2', e.1, e.2])
    omega
  · obtain ⟨k, hk, _, rfl⟩ := shK_mem.1 hx
    exact (hd _ _ _ (hy.2 k hk)).2
theorem shK_get {n : Nat} {f : Int → Int → Int → Option Int} (hn : n ≤ 200) (hd : KDom n f) {ys : List K3} (hy : KDn f ys) (i : Nat) (a t : Int) : getB a t (shK f ys i) = f i a t := by
  cases hf : f i a t with
  | none =>
    refine getB_not (fun x hx e => ?_)
    obtain ⟨k, hk, hi, rfl⟩ := shK_mem.1 hx
    have h1 := hy.1.2 k hk
    unfold balK at e
    dsimp only at e
    rw [hi, e.1, e.2, hf] at h1
    cases h1
  | some v =>
    have hs : (f i a t).isSome = true := by rw [hf]; rfl
    obtain ⟨⟨_, _⟩, hk⟩ := hd i a t hs
    obtain ⟨⟨_, _⟩, _, _⟩ := keyOk_iff.1 hk
    have hm := hy.2 i a t ⟨wf_of (by omega) (by omega), wf_of (by omega) (by omega), wf_of (by omega) (by omega)⟩ hs
    cases hg : getB a t (shK f ys i) with
    | none =>
      have h3 : ∀ (xs : List Bal), getB a t xs = none → ∀ x ∈ xs, ¬ (x.ac = a ∧ x.ast = t) := by
        intro xs
        induction xs with
        | nil => intro _ x hx; cases hx
        | cons y r ih =>
          intro h x hx e
          by_cases hy' : y.ac = a ∧ y.ast = t
          · simp only [getB] at h
            rw [if_pos hy'] at h
            cases h
          · rw [getB_tail hy'] at h
            rcases List.mem_cons.1 hx with rfl | hx
            · exact hy' e
            · exact ih h x hx e
      exact absurd ⟨rfl, rfl⟩ (h3 _ hg (balK f (i, a, t)) (shK_mem.2 ⟨_, hm, rfl, rfl⟩))
    | some u =>
      obtain ⟨x, hx, h1, h2, h3⟩ := getB_mem hg
      obtain ⟨k, hk', hi, rfl⟩ := shK_mem.1 hx
      unfold balK at h1 h2 h3
      dsimp only at h1 h2 h3
      rw [hi, h1, h2, hf] at h3
      rw [← h3]
      rfl
theorem lay_settled {gs : List (List Bal)} {ls : List Leg} (hg : ∀ i, i < gs.length → RiseB (gs.getD i default)) (hk : ∀ l ∈ ls, keyOk l.ac l.ast = true) (hN : gs.length ≤ 200) (hd : KDom gs.length (addLs (bookF gs) ls))
    {ys : List K3} (hy : KDn (addLs (bookF gs) ls) ys) (hs : ys.Pairwise (fun p q => ltOf cfK q p = false)) {hs' : List (List Bal)} (hl : hs'.length = gs.length) (he : ∀ i, i < gs.length → hs'.getD i default = shK (addLs (bookF gs) ls) ys i) : hs' = settleL gs ls :=
  settle_unique hg hk hl (fun i hi => by rw [he i hi]; exact ⟨shK_rise hd hy.1 hs i, fun a t => shK_get hN hd hy i a t⟩)
theorem kdom_settle {gs : List (List Bal)} {ls : List Leg} (hg : ∀ i, i < gs.length → RiseB (gs.getD i default)) (hk : ∀ l ∈ ls, keyOk l.ac l.ast = true) (hl : ∀ l ∈ ls, 0 ≤ l.sh ∧ l.sh < (gs.length : Int)) : KDom gs.length (addLs (bookF gs) ls) := by
  intro s a t h
  by_cases hr : 0 ≤ s ∧ s < (gs.length : Int)
  · refine ⟨hr, ?_⟩
    obtain ⟨i, rfl⟩ : ∃ i : Nat, s = (i : Int) := ⟨s.toNat, by omega⟩
    have hi : i < gs.length := by omega
    obtain ⟨h1, h2⟩ := settle_book hi (hg i hi) ls hk
    rw [← h2] at h
    obtain ⟨v, hv⟩ := Option.isSome_iff_exists.1 h
    obtain ⟨x, hx, rfl, rfl, _⟩ := getB_mem hv
    exact h1.key x hx
  · rw [book_dom ls hl s a t hr] at h
    cases h
end Go.Proofs.YtedcfokhdkljaaaGreat

/-
  slices.SortFunc at keys of a book: the library's contract, laid at this program.
-/
namespace Go.Proofs.YtedcfokhdkljaaaGreat
open Go.Shelf
def Tryz.sortK_ren : Go.Shelf.Ren := ⟨fun | 6 => 71 | 15 => 86 | 14 => 85 | 28 => 99 | 29 => 100 | 20 => 91 | 21 => 92 | 22 => 93 | 23 => 94 | 24 => 95 | 25 => 96 | 26 => 97 | 27 => 98 | 46 => 103 | 47 => 104 | 48 => 105 | 49 => 106 | 50 => 107 | 57 => 108 | n => n, fun | 22 => 88 | 24 => 85 | 25 => 93 | 3 => 3 | 39 => 120 | 0 => 0 | 53 => 135 | 55 => 137 | 4 => 4 | 46 => 128 | 45 => 127 | 50 => 132 | 5 => 5 | 9 => 9 | 66 => 138 | 70 => 142 | 76 => 144 | 77 => 145 | n => n, fun | n => n⟩
theorem Tryz.sortK : Go.Proofs.SlLaysF0.n6 Tryz.prog Tryz.sortK_ren := {
  mixed := by kernel_rfl
  f6 := ⟨Tryz.f71.name, by decide, Tryz.func71.trans (congrArg some (by kernel_rfl))⟩
  f14 := ⟨Tryz.f85.name, by decide, Tryz.func85.trans (congrArg some (by kernel_rfl))⟩
  f15 := Tryz.func86.trans (congrArg some (by kernel_rfl))
  f20 := ⟨Tryz.f91.name, by decide, Tryz.func91.trans (congrArg some (by kernel_rfl))⟩
  f21 := ⟨Tryz.f92.name, by decide, Tryz.func92.trans (congrArg some (by kernel_rfl))⟩
  f22 := ⟨Tryz.f93.name, by decide, Tryz.func93.trans (congrArg some (by kernel_rfl))⟩
  f23 := ⟨Tryz.f94.name, by decide, Tryz.func94.trans (congrArg some (by kernel_rfl))⟩
  f24 := ⟨Tryz.f95.name, by decide, Tryz.func95.trans (congrArg some (by kernel_rfl))⟩
  f25 := ⟨Tryz.f96.name, by decide, Tryz.func96.trans (congrArg some (by kernel_rfl))⟩
  f26 := ⟨Tryz.f97.name, by decide, Tryz.func97.trans (congrArg some (by kernel_rfl))⟩
  f27 := ⟨Tryz.f98.name, by decide, Tryz.func98.trans (congrArg some (by kernel_rfl))⟩
  f28 := Tryz.func99.trans (congrArg some (by kernel_rfl))
  f29 := Tryz.func100.trans (congrArg some (by kernel_rfl))
  f46 := ⟨Tryz.f103.name, by decide, Tryz.func103.trans (congrArg some (by kernel_rfl))⟩
  f47 := Tryz.func104.trans (congrArg some (by kernel_rfl))
  f48 := Tryz.func105.trans (congrArg some (by kernel_rfl))
  f49 := ⟨Tryz.f106.name, by decide, Tryz.func106.trans (congrArg some (by kernel_rfl))⟩
  f50 := ⟨Tryz.f107.name, by decide, Tryz.func107.trans (congrArg some (by kernel_rfl))⟩
  f57 := ⟨Tryz.f108.name, by decide, Tryz.func108.trans (congrArg some (by kernel_rfl))⟩
  t0 := Tryz.underlying0
  a0 := Tryz.isAgg0
  z0 := Tryz.sizeOf0
  v0 := Tryz.zeroValue0
  t3 := Tryz.underlying3
  a3 := Tryz.isAgg3
  z3 := Tryz.sizeOf3
  v3 := Tryz.zeroValue3
  t4 := Tryz.underlying4
  a4 := Tryz.isAgg4
  z4 := Tryz.sizeOf4
  v4 := Tryz.zeroValue4
  t5 := Tryz.underlying5
  a5 := Tryz.isAgg5
  z5 := Tryz.sizeOf5
  v5 := Tryz.zeroValue5
  t9 := Tryz.underlying9
  a9 := Tryz.isAgg9
  z9 := Tryz.sizeOf9
  v9 := Tryz.zeroValue9
  t22 := Tryz.underlying88
  a22 := Tryz.isAgg88
  z22 := Tryz.sizeOf88
  v22 := Tryz.zeroValue88
  t25 := Tryz.underlying93
  a25 := Tryz.isAgg93
  z25 := Tryz.sizeOf93
  v25 := Tryz.zeroValue93
  t39 := Tryz.underlying120
  a39 := Tryz.isAgg120
  z39 := Tryz.sizeOf120
  v39 := Tryz.zeroValue120
  t45 := Tryz.underlying127
  a45 := Tryz.isAgg127
  z45 := Tryz.sizeOf127
  v45 := Tryz.zeroValue127
  t46 := Tryz.underlying128
  a46 := Tryz.isAgg128
  z46 := Tryz.sizeOf128
  v46 := Tryz.zeroValue128
  t50 := Tryz.underlying132
  a50 := Tryz.isAgg132
  z50 := Tryz.sizeOf132
  v50 := Tryz.zeroValue132
  t53 := Tryz.underlying135
  a53 := Tryz.isAgg135
  z53 := Tryz.sizeOf135
  v53 := Tryz.zeroValue135
  t55 := Tryz.underlying137
  a55 := Tryz.isAgg137
  z55 := Tryz.sizeOf137
  v55 := Tryz.zeroValue137
  t66 := Tryz.underlying138
  a66 := Tryz.isAgg138
  z66 := Tryz.sizeOf138
  v66 := Tryz.zeroValue138
  t70 := Tryz.underlying142
  a70 := Tryz.isAgg142
  z70 := Tryz.sizeOf142
  v70 := Tryz.zeroValue142
  t76 := Tryz.underlying144
  a76 := Tryz.isAgg144
  z76 := Tryz.sizeOf144
  v76 := Tryz.zeroValue144
  t77 := Tryz.underlying145
  a77 := Tryz.isAgg145
  z77 := Tryz.sizeOf145
  v77 := Tryz.zeroValue145 }
end Go.Proofs.YtedcfokhdkljaaaGreat

/-
  slices.SortFunc over keys of a book: both contracts, at this program.
-/
namespace Go.Proofs.YtedcfokhdkljaaaGreat
open Go.RowKit Go.Sort Go.Shelf
set_option linter.unusedSectionVars false
variable [DecidableEq Rw] [Inhabited Rw] [DecidableEq Bal] [Inhabited Bal] [DecidableEq Ledg] [Inhabited Ledg] [DecidableEq Leg] [Inhabited Leg] [DecidableEq Cont] [Inhabited Cont]
set_option linter.unusedVariables false

theorem sortsK : SortsK where
  some_ := fun xs g cap base W ho hb hn => sortK_any Tryz.sortK_ren Tryz.sortK rfl rfl xs g cap base W ho hb hn
  none_ := fun W => AnyF.slices_SortFunc_none Tryz.sortK none 0 (.func (.func 51) #[] #[]) W
end Go.Proofs.YtedcfokhdkljaaaGreat

/-
  A row of values that own memory: one of them is another, with blocks of its own or new ones.
-/
namespace Go.Proofs.YtedcfokhdkljaaaGreat
open Go.RowKit

theorem PO.put {α : Type} {R : Rep α} {e size : Nat} {lv : Value → List Value} {w w' : World} {base : Nat} {v : Value} {n k j : Nat} {d : Nat → α} {cs cs' : List Value} {us : Nat → Value} {fs : Nat → Nat → Prop} {u : Value} {x : α} {F' : Nat → Prop}
    (h : PO R e size lv w base v n k d cs us fs) (hj : j < k) (hm : Mod (fun b => v.ownBlock = some b ∨ fs j b) w w') (hu : R.O w' base F' u x) (hF : ∀ b, F' b → fs j b ∨ w.heap.size ≤ b) (hl : (lv u).length = size)
    (hr : w'.ownsRow base e size v n cs') (hold : ∀ i, i < k → i ≠ j → ∀ o, o < size → cs'[i * size + o]? = cs[i * size + o]?) (hnew : ∀ o, o < size → cs'[j * size + o]? = (lv u)[o]?) :
    PO R e size lv w' base v n k (upd d j x) cs' (upd us j u) (upd fs j F') := by
  have hlt : ∀ b, v.ownBlock = some b → b < w.heap.size := fun b hb => (h.row.lt b hb).2
  have hfs : ∀ i, i < k → ∀ b, fs i b → b < w.heap.size := fun i hi b hb => (R.rng (h.el i hi) b hb).2
  refine ⟨hr, ?_, ?_, ?_, ?_, ?_⟩
  · intro i hi
    by_cases hik : i = j
    · subst hik; rw [upd_at, upd_at, upd_at]; exact hu
    · rw [upd_ne _ _ hik, upd_ne _ _ hik, upd_ne _ _ hik]
      exact R.mod (h.el i hi) hm (fun b hb => by
        rintro (he | he)
        · exact h.out i hi b hb he
        · exact h.sep i j hi hj hik b hb he)
  · intro i hi
    by_cases hik : i = j
    · subst hik; rw [upd_at]; exact hl
    · rw [upd_ne _ _ hik]; exact h.ln i hi
  · intro i hi o ho
    by_cases hik : i = j
    · subst hik; rw [upd_at]; exact hnew o ho
    · rw [upd_ne _ _ hik, hold i hi hik o ho]; exact h.cell i hi o ho
  · intro i hi b hb he
    by_cases hik : i = j
    · subst hik
      rw [upd_at] at hb
      rcases hF b hb with h1 | h1
      · exact h.out i hi b h1 he
      · have := hlt b he; omega
    · rw [upd_ne _ _ hik] at hb
      exact h.out i hi b hb he
  · intro i i' hi hi' hii b h1 h2
    by_cases hik : i = j
    · subst hik
      rw [upd_at] at h1
      rw [upd_ne _ _ (Ne.symm hii)] at h2
      rcases hF b h1 with h3 | h3
      · exact h.sep i i' hi hi' hii b h3 h2
      · have := hfs i' hi' b h2; omega
    · rw [upd_ne _ _ hik] at h1
      by_cases hjk : i' = j
      · subst hjk
        rw [upd_at] at h2
        rcases hF b h2 with h3 | h3
        · exact h.sep i i' hi hi' hii b h1 h3
        · have := hfs i hi b h1; omega
      · rw [upd_ne _ _ hjk] at h2
        exact h.sep i i' hi hi' hii b h1 h2
theorem PO.putS {α : Type} {R : Rep α} {e : Nat} {w w1 w2 : World} {base g cap : Nat} {n j : Nat} {d : Nat → α} {cs : List Value} {us : Nat → Value} {fs : Nat → Nat → Prop} {u : Value} {x : α} {F' : Nat → Prop}
    (h : PO R e 1 one w base (.slice (some ⟨g, 0, none⟩) n cap) n n d cs us fs) (hj : j < n) (hm : Mod (fun b => fs j b) w w1) (hu : R.O w1 base F' u x) (hF : ∀ b, F' b → fs j b ∨ w.heap.size ≤ b)
    (hr : w2.ownsRow base e 1 (.slice (some ⟨g, 0, none⟩) n cap) n (cs.set j u)) (hm2 : Mod (fun b => b = g) w1 w2) :
    PO R e 1 one w2 base (.slice (some ⟨g, 0, none⟩) n cap) n n (upd d j x) (cs.set j u) (upd us j u) (upd fs j F') := by
  have hcl : cs.length = n := by simpa using h.row.1
  have hg : g < w.heap.size := (h.row.lt g rfl).2
  have hgF : ¬ F' g := fun hf => by
    rcases hF g hf with h1 | h1
    · exact h.out j hj g h1 rfl
    · omega
  refine h.put hj (Mod.trans (Mod.mono hm (fun b hb => Or.inr hb)) (Mod.mono hm2 (fun b hb => Or.inl (by rw [hb]; rfl)))) (R.mod hu hm2 (fun b hb e => hgF (e ▸ hb))) hF rfl hr ?_ ?_
  · intro i hi hij o ho
    obtain rfl : o = 0 := by omega
    rw [Nat.mul_one, Nat.add_zero, List.getElem?_set_ne (Ne.symm hij)]
  · intro o ho
    obtain rfl : o = 0 := by omega
    rw [Nat.mul_one, Nat.add_zero, List.getElem?_set_self (by omega)]
    rfl
end Go.Proofs.YtedcfokhdkljaaaGreat


/-
  slices.SortedFunc over the keys of a book; maps.Keys.
-/
import Derived.Test.YteebglgbeijolaaSrk
import Derived.Test.YteebglgbeijolaaKseq
namespace Go.Proofs.Yteebglgbeijolaa
open Go.RowKit Go.Sort Go.Shelf
set_option linter.unusedSectionVars false
variable [DecidableEq Rw] [Inhabited Rw] [DecidableEq Bal] [Inhabited Bal] [DecidableEq Ledg] [Inhabited Ledg] [DecidableEq Leg] [Inhabited Leg] [DecidableEq Cont] [Inhabited Cont]
set_option linter.unusedVariables false
set_option linter.unusedSimpArgs false
attribute [local go_sem ↓] Go.wp_at_zero Go.wp_at_succ

/-- what the library's sort answers: the two contracts that are laid at a program -/
structure SortsK : Prop where
  some_ : ∀ (xs : List K3) (g cap base : Nat) (W : World), W.ownsRow base 180 3 (.slice (some ⟨g, 0, none⟩) xs.length cap) xs.length (keysC xs) → base ≤ W.heap.size → xs.length ≤ 200 →
    Calls Try.prog 159 #[.slice (some ⟨g, 0, none⟩) xs.length cap, .func (.func 136) #[] #[]] W fun e w' => e = .returned (.tuple #[]) ∧ ∃ ys : List K3, ys.Perm xs ∧ ys.Pairwise (fun p q => ltOf cfK q p = false) ∧ (∀ i, i < ys.length → keyCells w' g (i * 3) (ys.getD i default)) ∧ Go.RowKit.Below base W w'
  none_ : ∀ W : World, Calls Try.prog 159 #[.slice none 0 0, .func (.func 136) #[] #[]] W fun e w' => e = .returned (.tuple #[]) ∧ w' = W

/-- keys that lie in a row -/
def KeysV (w : World) (v : Value) (ys : List K3) : Prop := ∃ a c, v = .slice a ys.length c ∧ ∀ i, i < ys.length → ∃ g, a = some ⟨g, 0, none⟩ ∧ keyCells w g (i * 3) (ys.getD i default)

set_option maxRecDepth 20000 in
set_option maxHeartbeats 2000000 in
theorem sortedFunc_any (hS : SortsK) (gf : Nat) (lb : Array Value) (Ok Dn : List K3 → Prop) (R : Nat → Prop) (w : World) (eg : ∀ args w, (callFunc gf args).run Try.prog w = .ok (.enter gf args) w) (hseq : Seqy Try.prog gf lb encK Ok Dn R w) (hR : ∀ b, R b → b < w.heap.size) (hlen : ∀ ys, Ok ys → ys.length ≤ 200) (hdl : ∀ ys, Dn ys → ys.length ≤ 200) :
    Calls Try.prog 134 #[.func (.func gf) #[] lb, .func (.func 136) #[] #[]] w fun e w' => ∃ v xs ys, e = .returned v ∧ Dn xs ∧ ys.Perm xs ∧ ys.Pairwise (fun p q => ltOf cfK q p = false) ∧ KeysV w' v ys ∧ Go.RowKit.Below w.heap.size w w' := by
  have hc := collectK_any gf lb Ok Dn R w eg hseq hR hlen
  have HS : Hid SortsK := hS
  have HDL : Hid (∀ ys, Dn ys → ys.length ≤ 200) := hdl
  clear eg hseq hS hdl hlen
  go_enter Try.func134, Try.ntmps134
  go_wp2_with fail
  refine hc.mono ?_
  rintro e w1 ⟨v, xs, rfl, hDn, ho, hb⟩
  clear hc
  have hl := HDL.out xs hDn
  rcases ho.2 with ⟨rfl, hn⟩ | ⟨g, cap, _, rfl, _⟩
  · have hx : xs = [] := List.eq_nil_of_length_eq_zero hn
    subst hx
    go_wp2_with fail
    refine (HS.out.none_ w1).mono ?_
    rintro e w2 ⟨rfl, hw2⟩
    obtain rfl := hw2.symm
    go_wp2
    go_ret
    exact ⟨_, [], [], rfl, hDn, List.Perm.refl _, List.Pairwise.nil, ⟨none, 0, rfl, fun i h => absurd h (Nat.not_lt_zero _)⟩, hb⟩
  · have hcon := HS.out.some_ xs g cap w.heap.size w1 ho hb.size hl
    obtain ⟨n, hn⟩ : ∃ n, n = xs.length := ⟨_, rfl⟩
    rw [← hn] at hcon ⊢
    have HN : Hid (xs.length = n) := hn.symm
    clear hn ho hl
    go_wp2_with fail
    refine hcon.mono ?_
    rintro e w2 ⟨rfl, ys, hp, hs, hk, hb2⟩
    clear hcon
    have HK : Hid (KeysV w2 (.slice (some ⟨g, 0, none⟩) n cap) ys) := ⟨_, _, by rw [hp.length_eq, HN.out], fun i hi => ⟨g, rfl, hk i hi⟩⟩
    have hB2 : Go.RowKit.Below w.heap.size w w2 := hb.trans hb2
    clear hk
    go_wp2
    go_ret
    exact ⟨_, xs, ys, rfl, hDn, hp, hs, HK.out, hB2⟩

end Go.Proofs.Yteebglgbeijolaa

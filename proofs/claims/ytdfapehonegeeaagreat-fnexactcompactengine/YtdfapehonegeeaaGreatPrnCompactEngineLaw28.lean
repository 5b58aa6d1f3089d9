import Derived.Test.YtdfapehonegeeaaGreatPrnCompactEngineLaw27
import Derived.Test.YtdfapehonegeeaaGreatPrnCompactEngineLaw9
import Derived.Test.YtdfapehonegeeaaGreatPrnCompactEngineLaw24
import Derived.Test.YtdfapehonegeeaaGreatPrnCompactEngineLaw11

/-
  CompactEngine: its answer.
-/
namespace Go.Proofs.YtdfapehonegeeaaGreat
open Go.RowKit
set_option linter.unusedSectionVars false
variable [DecidableEq Wri] [Inhabited Wri] [DecidableEq BytesR] [Inhabited BytesR] [DecidableEq Rw] [Inhabited Rw] [DecidableEq TabR] [Inhabited TabR] [DecidableEq Logg] [Inhabited Logg] [DecidableEq Engn] [Inhabited Engn] [DecidableEq LoggR] [Inhabited LoggR] [DecidableEq RecsR] [Inhabited RecsR] [DecidableEq Leg] [Inhabited Leg] [DecidableEq EngR] [Inhabited EngR]
set_option linter.unusedVariables false
set_option linter.unusedSimpArgs false
attribute [local go_sem ↓] Go.wp_at_zero Go.wp_at_succ

theorem bset7 {p : Nat} {w Y : World} (h : Below w.heap.size w Y) (hp : w.heap.size ≤ p) (v0 v1 v2 v3 v4 v5 v6 : Value) : Below w.heap.size w (((((((Y.setCell ⟨p, 0, none⟩ v0).setCell ⟨p, 1, none⟩ v1).setCell ⟨p, 2, none⟩ v2).setCell ⟨p, 3, none⟩ v3).setCell ⟨p, 4, none⟩ v4).setCell ⟨p, 5, none⟩ v5).setCell ⟨p, 6, none⟩ v6) :=
  bset (bset (bset (bset (bset (bset (bset h hp _) hp _) hp _) hp _) hp _) hp _) hp _
theorem mset7 {F : Nat → Prop} {p : Nat} {w Y : World} (h : Mod F w Y) (hp : F p) (v0 v1 v2 v3 v4 v5 v6 : Value) : Mod F w (((((((Y.setCell ⟨p, 0, none⟩ v0).setCell ⟨p, 1, none⟩ v1).setCell ⟨p, 2, none⟩ v2).setCell ⟨p, 3, none⟩ v3).setCell ⟨p, 4, none⟩ v4).setCell ⟨p, 5, none⟩ v5).setCell ⟨p, 6, none⟩ v6) :=
  mset (mset (mset (mset (mset (mset (mset h _ _ hp) _ _ hp) _ _ hp) _ _ hp) _ _ hp) _ _ hp) _ _ hp
def compE (d : Engn) (fl : Int) : EngR :=
  if engF d ≠ 0 then codeE (engF d) else if d.tables.length < 2 then codeE 4 else if (mergeD d.tables).code ≠ 0 then codeE (mergeD d.tables).code else ⟨0, 0, { d with tables := [compL (mergeD d.tables).rows fl] }⟩
theorem tabF_of {xs : List Rw} (hr : Rises xs) (hf : ∀ x ∈ xs, rowFault x = 0) (hl : xs.length ≤ 200) : tabF xs = 0 := by
  refine tabF_zero hl (fun j hj => ?_)
  unfold tabAt
  have e : xs.getD j default = xs[j] := by simp [List.getD, hj]
  rw [if_neg (by rw [e]; simpa using hf _ (List.getElem_mem hj)), if_neg]
  rintro ⟨h0, h1⟩
  have e2 : xs.getD (j - 1) default = xs[j - 1]'(by omega) := by simp [List.getD, show j - 1 < xs.length by omega]
  rw [e, e2] at h1
  have h2 := List.pairwise_iff_getElem.1 hr (j - 1) j (by omega) hj (by omega)
  rw [h2] at h1
  cases h1
theorem merge_ok {xss : List (List Rw)} (h : (mergeD xss).code = 0) (h8 : ¬ 8 < xss.length) : Rises (mergeD xss).rows ∧ tabF (mergeD xss).rows = 0 ∧ (mergeD xss).rows.length ≤ 200 := by
  unfold mergeD at h ⊢
  rw [if_neg h8] at h ⊢
  split at h
  · rename_i h1; exact absurd h h1
  · rename_i h1
    rw [if_neg h1]
    split at h
    · cases h
    · rename_i h2
      rw [if_neg h2]
      have hr : Rises (mergeL xss) := putsL_rises rises_nil
      have hl : (mergeL xss).length ≤ 200 := by omega
      exact ⟨hr, tabF_of hr (mergeL_small (firstF_zero (by simpa using h1))) hl, hl⟩
theorem compE_le (d : Engn) (fl : Int) : wtEngR (compE d fl) ≤ 200000 := by
  unfold compE
  split
  · rw [codeE_le]; omega
  · rename_i h
    have hE : engF d = 0 := by simpa using h
    obtain ⟨h1, h2, h3, h4⟩ := partsF_inv (engF_inv hE).1
    split
    · rw [codeE_le]; omega
    · split
      · rw [codeE_le]; omega
      · rename_i hc
        obtain ⟨hr, ht, hl⟩ := merge_ok (xss := d.tables) (by simpa using hc) (by omega)
        have hw : wtRows (compL (mergeD d.tables).rows fl) ≤ 24200 := by
          have q1 := wt_small (ys := compL (mergeD d.tables).rows fl) (fun x hx => tab_small ht x ((compL_sub _ _).subset hx))
          have q2 := (compL_sub (mergeD d.tables).rows fl).length_le
          omega
        have h6 := wt_log h1
        have h7 := wt_tab h2
        show wtLogg d.log + wtRows d.mem + wtRowss [compL (mergeD d.tables).rows fl] ≤ 200000
        have h8 : wtRowss [compL (mergeD d.tables).rows fl] = 1 + (wtRows (compL (mergeD d.tables).rows fl) + 0) := rfl
        omega
theorem rowss_lit {W : World} {base base' : Nat} {F : Nat → Prop} {u : Value} {l : List Rw} (h : rowsR.O W base' F u l) (hb : base ≤ base') (hw : base ≤ W.heap.size) :
    rowssR.O (W.alloc (.cells #[u] 32)) base (fun b => b = W.heap.size ∨ F b) (.slice (some ⟨W.heap.size, 0, none⟩) 1 1) [l] := by
  have hF : ∀ b, F b → b < W.heap.size := fun b hb' => (rowsR.rng h b hb').2
  refine ⟨[u], fun _ => u, fun _ => F, ⟨World.ownsRow_lit (base := base) (e := 32) (size := 1) W #[u] 1 hw (by unfold maxLen; omega) rfl, fun i hi => ?_, fun _ _ => rfl, fun i hi j hj => ?_, fun i hi b hb' e => ?_, fun i j hi hj hij => ?_⟩, fun b => ?_⟩
  · obtain rfl : i = 0 := by simpa using hi
    exact rowsR.base (rowsR.alloc h _) hb
  · obtain rfl : i = 0 := by simpa using hi
    obtain rfl : j = 0 := by omega
    rfl
  · simp only [Value.ownBlock, Option.map_some, Option.some.injEq] at e
    have := hF b hb'
    omega
  · simp only [List.length_singleton] at hi hj
    omega
  · simp only [Value.ownBlock, Option.map_some, Option.some.injEq, List.length_singleton]
    exact ⟨fun h => h.elim (fun e => .inl e.symm) (fun h => .inr ⟨0, by omega, h⟩), fun h => h.elim (fun e => .inl e.symm) (fun ⟨i, _, h⟩ => .inr h)⟩
theorem eng_tabs {W W' : World} {base : Nat} {F FT G : Nat → Prop} {u1 u2 u3 u4 v : Value} {d : Engn} {ts : List (List Rw)} (h : engnR.O W base F (.agg #[u1, u2, u3, u4, .int .i64 d.next]) d) (hm : Mod G W W') (hG : ∀ b, F b → ¬ G b)
    (hT : rowssR.O W' base FT v ts) (hd : ∀ b, F b → ¬ FT b) : ∃ F', engnR.O W' base F' (.agg #[u1, u2, u3, v, .int .i64 d.next]) { d with tables := ts } := by
  obtain ⟨x1, x2, x3, x4, F1, F2, F3, e, o1, o2, o3, d12, d13, d23, hF⟩ := h
  simp only [Value.agg.injEq, Array.mk.injEq, List.cons.injEq, and_true] at e
  obtain ⟨rfl, rfl, rfl, rfl⟩ := e
  exact ⟨_, _, _, _, _, F1, F2, FT, rfl, loggR.mod o1 hm (fun b hb => hG b ((hF b).2 (.inl hb))), rowsR.mod o2 hm (fun b hb => hG b ((hF b).2 (.inr (.inl hb)))), hT, d12, fun b hb => hd b ((hF b).2 (.inl hb)), fun b hb => hd b ((hF b).2 (.inr (.inl hb))), fun b => Iff.rfl⟩
end Go.Proofs.YtdfapehonegeeaaGreat

/-
  As RegC, where an operation may also store (into what another one made), and yield nothing: its slot is one that there is not.
-/
namespace Go.Proofs.YtdfapehonegeeaaGreat
open Go.RowKit

theorem fold_oob : ∀ (ds : List Nat) (T : Array Value) (y : Nat → Value) (d : Nat) (v : Value), T.size ≤ d →
    ds.foldl (fun t s => t.setIfInBounds s (updV y d v s)) T = ds.foldl (fun t s => t.setIfInBounds s (y s)) T
  | [], _, _, _, _, _ => rfl
  | e :: ds, T, y, d, v, h => by
    simp only [List.foldl_cons]
    by_cases hd : e = d
    · subst hd
      rw [Array.setIfInBounds_eq_of_size_le h, Array.setIfInBounds_eq_of_size_le h]
      exact fold_oob ds T y e v h
    · have e1 : updV y d v e = y e := if_neg hd
      rw [e1]
      exact fold_oob ds _ y d v (by simpa using h)
theorem over_putD {a : Act} {ds : List Nat} {y : Nat → Value} {d : Nat} {v : Value} {dst : Option Nat} (hd : dst = some d ∨ (dst = none ∧ a.tmps.size ≤ d)) (h : d ∈ ds) (hn : ds.Nodup) : (over a ds y).put dst v = over a ds (updV y d v) := by
  rcases hd with rfl | ⟨rfl, hd⟩
  · exact over_put h hn
  · simp only [over, Act.put]
    rw [fold_oob ds _ y d v hd]
section
variable {P : Program} {ops : Array Oper} {Q : Exit → Act → World → Prop} {md : Region.Mode} {S : World → Prop} {t : Nat}

def StepD (P : Program) (md : Region.Mode) (ops : Array Oper) (Q : Exit → Act → World → Prop) (S : World → Prop) (L : List (Nat × Nat)) (cons : Nat → List Nat) (G : Nat → (Nat → Value) → (Nat → Prop) → World → Prop) (a0 : Act) (w0 : World) (p : Nat × Nat) : Prop :=
  ∃ o, ops[p.1]? = some o ∧ (o.dst = some p.2 ∨ (o.dst = none ∧ a0.tmps.size ≤ p.2)) ∧ ∀ (y : Nat → Value) (w : World) (Φ : Nat → Nat → Prop), S w → Below w0.heap.size w0 w →
    (∀ q ∈ L, waitsFor md ops p.1 q.1 = true → (q.1 ∈ cons p.1 ∨ ∀ r ∈ L, q.1 ∉ cons r.1) → FIn w0 w (Φ q.1) ∧ G q.1 y (Φ q.1) w) →
    ∀ K : Act → World → Prop, (∀ v w' F', Mod (Taken cons Φ p.1) w w' → (∀ b, F' b → Taken cons Φ p.1 b ∨ (w.heap.size ≤ b ∧ b < w'.heap.size)) → G p.1 (updV y p.2 v) F' w' → K ((over a0 (L.map Prod.snd) y).put o.dst v) w') →
      Shut (if Region.wanted o (yielded ops (over a0 (L.map Prod.snd) y).tmps) = true then Oper.wp P o (over a0 (L.map Prod.snd) y) w K Q else K ((over a0 (L.map Prod.snd) y).put o.dst undef) w)
theorem upto_dons (L : List (Nat × Nat)) (cons : Nat → List Nat) (G : Nat → (Nat → Value) → (Nat → Prop) → World → Prop) {f : Nat} {listed : Array Bool} {a0 : Act} {w0 : World}
    (hrise : risesB md ops = true) (hsz : listed.size = ops.size) (hot : ∃ ot, ops[t]? = some ot)
    (hall : ∀ i, i < ops.size → listed.getD i true = false → i = t ∨ ∃ p ∈ L, p.1 = i)
    (hun : listed.getD t true = false ∧ ∀ p ∈ L, listed.getD p.1 true = false)
    (hno : (L.map Prod.fst).Nodup) (hnd : (L.map Prod.snd).Nodup) (htl : ∀ p ∈ L, p.1 ≠ t ∧ waitsFor md ops t p.1 = true) (hf : f = L.length + 1)
    (hcons : ∀ p ∈ L, ∀ j ∈ cons p.1, waitsFor md ops p.1 j = true ∧ ∃ q ∈ L, q.1 = j) (huniq : ∀ p ∈ L, ∀ r ∈ L, p.1 ≠ r.1 → ∀ j ∈ cons p.1, j ∉ cons r.1)
    (hS : S w0) (hSst : ∀ (F : Nat → Prop) (w w' : World), S w → Mod F w w' → (∀ b, F b → w0.heap.size ≤ b) → S w')
    (hG : ∀ p ∈ L, ∀ (y y' : Nat → Value) (F F' : Nat → Prop) (w w' : World), G p.1 y F w → FIn w0 w F → Mod F' w w' → FApart F' F → (∀ b, F' b → w0.heap.size ≤ b) → y' p.2 = y p.2 → (∀ q ∈ L, waitsFor md ops p.1 q.1 = true → y' q.2 = y q.2) → G p.1 y' F w')
    (hstep : ∀ p ∈ L, StepD P md ops Q S L cons G a0 w0 p)
    (hlast : ∃ o, ops[t]? = some o ∧ ∀ (y : Nat → Value) (w : World) (Φ : Nat → Nat → Prop), S w → Below w0.heap.size w0 w → (∀ q ∈ L, (∀ r ∈ L, q.1 ∉ cons r.1) → FIn w0 w (Φ q.1) ∧ G q.1 y (Φ q.1) w) → (∀ q ∈ L, ∀ r ∈ L, q.1 ≠ r.1 → (∀ p ∈ L, q.1 ∉ cons p.1) → (∀ p ∈ L, r.1 ∉ cons p.1) → FApart (Φ q.1) (Φ r.1)) →
      ∀ K : Act → World → Prop, (∀ a' w', Q .normal a' w' → K a' w') → Shut (if Region.wanted o (yielded ops (over a0 (L.map Prod.snd) y).tmps) = true then Oper.wp P o (over a0 (L.map Prod.snd) y) w K Q else K ((over a0 (L.map Prod.snd) y).put o.dst undef) w)) :
    wpUpto P md ops Q S t f listed a0 w0 := by
  have H : ∀ (n f : Nat) (listed : Array Bool) (y : Nat → Value) (w : World) (Φ : Nat → Nat → Prop),
      f = (L.filter fun p => !listed.getD p.1 true).length + 1 → listed.size = ops.size → listed.getD t true = false →
      (∀ i, i < ops.size → listed.getD i true = false → i = t ∨ ∃ p ∈ L, p.1 = i) →
      (∀ p ∈ L, listed.getD p.1 true = true → ∀ q ∈ L, waitsFor md ops p.1 q.1 = true → listed.getD q.1 true = true) →
      S w → Below w0.heap.size w0 w → (∀ q ∈ L, Alive L cons listed q.1 → FIn w0 w (Φ q.1) ∧ G q.1 y (Φ q.1) w) →
      (∀ q ∈ L, ∀ r ∈ L, q.1 ≠ r.1 → Alive L cons listed q.1 → Alive L cons listed r.1 → FApart (Φ q.1) (Φ r.1)) →
      f ≤ n → wpUpto P md ops Q S t f listed (over a0 (L.map Prod.snd) y) w := by
    intro n
    induction n with
    | zero => intro f listed y w Φ hf _ _ _ _ _ _ _ _ hn; omega
    | succ n ih =>
      intro f listed y w Φ hf hsz htun hall hdown hS hB hGs hAp hn
      obtain ⟨ot, hot⟩ := hot
      have htlt : t < ops.size := by
        rcases Nat.lt_or_ge t ops.size with h | h
        · exact h
        · rw [Array.getElem?_eq_none h] at hot; cases hot
      obtain ⟨g, rfl⟩ : ∃ g, f = g + 1 := ⟨_, hf⟩
      have hg : g = (L.filter fun p => !listed.getD p.1 true).length := by omega
      refine ⟨fun h => ?_, fun i hi' => ?_⟩
      · obtain ⟨j, hj⟩ := ready_some hrise hsz (t + 1) t (by omega) htlt htun
        rw [h] at hj
        cases hj
      obtain ⟨hiun, o, hio, hdeps⟩ := mem_ready.1 hi'
      have hilt : i < ops.size := by
        rcases Nat.lt_or_ge i ops.size with h | h
        · exact h
        · rw [Array.getElem?_eq_none h] at hio; cases hio
      have hdep : ∀ k, k < ops.size → waitsFor md ops i k = true → listed.getD k true = true := by
        intro k hk hw
        unfold waitsFor at hw
        rw [hio] at hw
        obtain ⟨e, he, hb⟩ := Array.any_eq_true'.1 hw
        simp only [Bool.and_eq_true, beq_iff_eq] at hb
        have h1 := hdeps e he hb.1
        rw [hb.2] at h1
        have hk' : k < listed.size := by omega
        simp [hk'] at h1 ⊢
        exact h1
      have hLlt : ∀ p ∈ L, p.1 < ops.size := by
        intro p hp
        obtain ⟨o', ho', _⟩ := hstep p hp
        rcases Nat.lt_or_ge p.1 ops.size with h | h
        · exact h
        · rw [Array.getElem?_eq_none h] at ho'; cases ho'
      have key : ∀ K : Act → World → Prop, (if Region.wanted o (yielded ops (over a0 (L.map Prod.snd) y).tmps) = true then Oper.wp P o (over a0 (L.map Prod.snd) y) w K Q else K ((over a0 (L.map Prod.snd) y).put o.dst undef) w) → wpOp P ops Q i K (over a0 (L.map Prod.snd) y) w := by
        intro K h1
        unfold wpOp
        simp only [hio]
        split
        · rename_i hw
          rw [if_pos hw] at h1
          exact .inl h1
        · rename_i hw
          rw [if_neg hw] at h1
          exact h1
      refine key _ ?_
      by_cases hit : i = t
      · subst hit
        have hl : ∀ p ∈ L, listed.getD p.1 true = true := fun p hp => hdep p.1 (hLlt p hp) (htl p hp).2
        obtain ⟨o2, ho2, hlst⟩ := hlast
        rw [hio] at ho2
        cases ho2
        refine (hlst y w Φ hS hB (fun q hq hc => hGs q hq ⟨hl q hq, fun p hp _ => hc p hp⟩) (fun q hq r hr hne h1 h2 => hAp q hq r hr hne ⟨hl q hq, fun p hp _ => h1 p hp⟩ ⟨hl r hr, fun p hp _ => h2 p hp⟩) _ (fun a' w' hq => ⟨fun h => absurd rfl h, upto_done ?_ hq⟩)).out
        rw [List.eq_nil_iff_forall_not_mem]
        intro j hj
        obtain ⟨hjun, oj, hjo, _⟩ := mem_ready.1 hj
        have hjl : j < ops.size := by
          rcases Nat.lt_or_ge j ops.size with h | h
          · exact h
          · rw [Array.getElem?_eq_none h] at hjo; cases hjo
        by_cases hji : i = j
        · subst hji
          have hk' : i < listed.size := by omega
          simp [hk'] at hjun
        · rw [getD_set_ne true hji] at hjun
          rcases hall j hjl hjun with h | ⟨p, hp, h⟩
          · exact hji h.symm
          · rw [← h, hl p hp] at hjun; cases hjun
      · obtain ⟨p, hp, hpi⟩ := (hall i hilt hiun).resolve_left hit
        subst hpi
        obtain ⟨o', ho', hdst, hst⟩ := hstep p hp
        rw [hio] at ho'
        cases ho'
        -- what p takes over is there
        have hcal : ∀ q ∈ L, q.1 ∈ cons p.1 → Alive L cons listed q.1 := fun q hq hc => ⟨hdep q.1 (hLlt q hq) (hcons p hp _ hc).1, fun r hr hrl hcr => by
          by_cases e : r.1 = p.1
          · rw [e, hiun] at hrl; cases hrl
          · exact huniq p hp r hr (Ne.symm e) q.1 hc hcr⟩
        refine (hst y w Φ hS hB (fun q hq hw hc => ?_) _ (fun v w' F' hm hF' hGp => ⟨fun _ => hSst _ _ _ hS hm ?_, ?_⟩)).out
        · rcases hc with hc | hc
          · exact hGs q hq (hcal q hq hc)
          · exact hGs q hq ⟨hdep q.1 (hLlt q hq) hw, fun r hr _ => hc r hr⟩
        · rintro b ⟨j, hj, hb⟩
          obtain ⟨_, q, hq, rfl⟩ := hcons p hp j hj
          exact ((hGs q hq (hcal q hq hj)).1 b hb).1
        have hTk : ∀ b, Taken cons Φ p.1 b → w0.heap.size ≤ b ∧ b < w.heap.size := by
          rintro b ⟨j, hj, hb⟩
          obtain ⟨_, q, hq, rfl⟩ := hcons p hp j hj
          exact (hGs q hq (hcal q hq hj)).1 b hb
        rw [over_putD hdst (List.mem_map_of_mem hp) hnd]
        have hlt : p.1 < listed.size := by omega
        have hself' : (listed.setIfInBounds p.1 true).getD p.1 true = true := by simp [hlt]
        have hoth : ∀ j, p.1 ≠ j → (listed.setIfInBounds p.1 true).getD j true = listed.getD j true := fun j h => getD_set_ne true h
        have hinj : ∀ q ∈ L, q.1 = p.1 → q = p := fun q hq h => inj_fst L hno q hq p hp h
        have hinj2 : ∀ q ∈ L, q.2 = p.2 → q = p := fun q hq h => inj_snd L hnd q hq p hp h
        -- who is alive behind p, and is not p, was alive ahead of it, and is not taken over
        have hback : ∀ q ∈ L, q.1 ≠ p.1 → Alive L cons (listed.setIfInBounds p.1 true) q.1 → Alive L cons listed q.1 ∧ q.1 ∉ cons p.1 := fun q hq e ha => by
          refine ⟨⟨by rw [← hoth _ (Ne.symm e)]; exact ha.1, fun r hr hrl => ?_⟩, ha.2 p hp hself'⟩
          by_cases e2 : r.1 = p.1
          · rw [e2, hiun] at hrl; cases hrl
          · exact ha.2 r hr (by rw [hoth _ (Ne.symm e2)]; exact hrl)
        have hTq : ∀ q ∈ L, Alive L cons listed q.1 → q.1 ∉ cons p.1 → FApart (Taken cons Φ p.1) (Φ q.1) := by
          rintro q hq ha hn b ⟨j, hj, hb⟩
          obtain ⟨_, r, hr, rfl⟩ := hcons p hp j hj
          exact hAp r hr q hq (fun e => hn (e ▸ hj)) (hcal r hr hj) ha b hb
        refine ih g (listed.setIfInBounds p.1 true) (updV y p.2 v) w' (fun j => if j = p.1 then F' else Φ j) ?_ (by simpa using hsz) ?_ ?_ ?_ (hSst _ _ _ hS hm (fun b hb => (hTk b hb).1)) (hm.below hB hB.size (fun b hb => (hTk b hb).1)) ?_ ?_ (by omega)
        · rw [hg]
          refine filter_less hno hp (by rw [hiun]; rfl) (by rw [hself']; rfl) (fun q hq hne => ?_)
          rw [hoth _ (fun c => hne (hinj q hq c.symm))]
        · rw [hoth _ (fun h => hit h)]; exact htun
        · intro j hj hju
          by_cases e : p.1 = j
          · subst e; rw [hself'] at hju; cases hju
          · rw [hoth _ e] at hju; exact hall j hj hju
        · intro q hq hql r hr hw
          by_cases e : p.1 = r.1
          · rw [← e]; exact hself'
          · rw [hoth _ e]
            by_cases e2 : p.1 = q.1
            · rw [← e2] at hw; exact hdep r.1 (hLlt r hr) hw
            · rw [hoth _ e2] at hql; exact hdown q hq hql r hr hw
        · intro q hq ha
          by_cases e : q.1 = p.1
          · have e2 := hinj q hq e
            subst e2
            simp only [if_true]
            refine ⟨fun b hb => ?_, hGp⟩
            rcases hF' b hb with h | h
            · have := hTk b h; have := hm.size; omega
            · have := hB.size; omega
          · obtain ⟨h1, h2⟩ := hback q hq e ha
            simp only [if_neg e]
            obtain ⟨g1, g2⟩ := hGs q hq h1
            refine ⟨fun b hb => ⟨(g1 b hb).1, Nat.lt_of_lt_of_le (g1 b hb).2 hm.size⟩, hG q hq y (updV y p.2 v) _ _ w w' g2 g1 hm (hTq q hq h1 h2) (fun b hb => (hTk b hb).1) ?_ ?_⟩
            · exact if_neg (fun c => e (by rw [hinj2 q hq c]))
            · intro r hr hw
              refine if_neg (fun c => ?_)
              have e3 := hinj2 r hr c
              subst e3
              rw [hdown q hq h1.1 _ hr hw] at hiun
              cases hiun
        · intro q hq r hr hne hqa hra
          by_cases e : q.1 = p.1
          · have e' : r.1 ≠ p.1 := fun c => hne (e.trans c.symm)
            obtain ⟨h1, h2⟩ := hback r hr e' hra
            simp only [if_pos e, if_neg e']
            intro b hb hb2
            rcases hF' b hb with h | h
            · exact hTq r hr h1 h2 b h hb2
            · have := ((hGs r hr h1).1 b hb2).2; omega
          · obtain ⟨h1, h2⟩ := hback q hq e hqa
            by_cases e' : r.1 = p.1
            · simp only [if_neg e, if_pos e']
              intro b hb hb2
              rcases hF' b hb2 with h | h
              · exact hTq q hq h1 h2 b h hb
              · have := ((hGs q hq h1).1 b hb).2; omega
            · obtain ⟨h3, _⟩ := hback r hr e' hra
              simp only [if_neg e, if_neg e']
              exact hAp q hq r hr hne h1 h3
  have h0 := H f f listed (fun s => a0.tmps.getD s undef) w0 (fun _ _ => False) (by
    rw [hf, List.filter_eq_self.2 (fun p hp => by rw [hun.2 p hp]; rfl)]) hsz hun.1 hall (fun p hp h => by rw [hun.2 p hp] at h; cases h) hS (Below.refl _ _) (fun q hq h => by have h := h.1; rw [hun.2 q hq] at h; cases h) (fun q hq r hr hne h => by have h := h.1; rw [hun.2 q hq] at h; cases h) (Nat.le_refl _)
  rw [over_self] at h0
  exact h0
def checkD (md : Region.Mode) (ops : Array Oper) (listed : Array Bool) (t f : Nat) (L : List (Nat × Nat)) (cons : Nat → List Nat) : Bool :=
  checkS md ops listed t f L && (L.all fun p => (cons p.1).all fun j => waitsFor md ops p.1 j && L.any fun q => decide (q.1 = j)) && (L.all fun p => L.all fun r => decide (p.1 = r.1) || (cons p.1).all fun j => decide (j ∉ cons r.1))
theorem upto_dons' (L : List (Nat × Nat)) (cons : Nat → List Nat) (G : Nat → (Nat → Value) → (Nat → Prop) → World → Prop) {f : Nat} {listed : Array Bool} {a0 : Act} {w0 : World} (hc : checkD md ops listed t f L cons = true)
    (hS : S w0) (hSst : ∀ (F : Nat → Prop) (w w' : World), S w → Mod F w w' → (∀ b, F b → w0.heap.size ≤ b) → S w')
    (hG : ∀ p ∈ L, ∀ (y y' : Nat → Value) (F F' : Nat → Prop) (w w' : World), G p.1 y F w → FIn w0 w F → Mod F' w w' → FApart F' F → (∀ b, F' b → w0.heap.size ≤ b) → y' p.2 = y p.2 → (∀ q ∈ L, waitsFor md ops p.1 q.1 = true → y' q.2 = y q.2) → G p.1 y' F w')
    (hstep : ∀ p ∈ L, StepD P md ops Q S L cons G a0 w0 p)
    (hlast : ∃ o, ops[t]? = some o ∧ ∀ (y : Nat → Value) (w : World) (Φ : Nat → Nat → Prop), S w → Below w0.heap.size w0 w → (∀ q ∈ L, (∀ r ∈ L, q.1 ∉ cons r.1) → FIn w0 w (Φ q.1) ∧ G q.1 y (Φ q.1) w) → (∀ q ∈ L, ∀ r ∈ L, q.1 ≠ r.1 → (∀ p ∈ L, q.1 ∉ cons p.1) → (∀ p ∈ L, r.1 ∉ cons p.1) → FApart (Φ q.1) (Φ r.1)) →
      ∀ K : Act → World → Prop, (∀ a' w', Q .normal a' w' → K a' w') → Shut (if Region.wanted o (yielded ops (over a0 (L.map Prod.snd) y).tmps) = true then Oper.wp P o (over a0 (L.map Prod.snd) y) w K Q else K ((over a0 (L.map Prod.snd) y).put o.dst undef) w)) :
    wpUpto P md ops Q S t f listed a0 w0 := by
  unfold checkD checkS at hc
  simp only [Bool.and_eq_true, decide_eq_true_eq, List.all_eq_true, List.any_eq_true, Bool.or_eq_true, Bool.not_eq_true', List.mem_range] at hc
  obtain ⟨⟨⟨⟨⟨⟨⟨⟨⟨⟨⟨h1, h2⟩, h3⟩, h4⟩, h5⟩, h6⟩, h7⟩, h8⟩, h9⟩, h10⟩, h11⟩, h13⟩ := hc
  refine upto_dons L cons G h1 h2 (Option.isSome_iff_exists.1 h3) (fun i hi hu => ?_) ⟨h5, h6⟩ h7 h8 h9 h10 h11 (fun p hp r hr hne => (h13 p hp r hr).resolve_left hne) hS hSst hG hstep hlast
  rcases h4 i hi with (h | h) | h
  · rw [hu] at h; cases h
  · exact .inl h
  · exact .inr h
end

end Go.Proofs.YtdfapehonegeeaaGreat

/-
  The program's CompactTable.
-/
namespace Go.Proofs.YtdfapehonegeeaaGreat
open Go.RowKit Go.Shelf
set_option linter.unusedSectionVars false
variable [DecidableEq Rw] [Inhabited Rw] [DecidableEq TabR] [Inhabited TabR]
set_option linter.unusedVariables false
set_option linter.unusedSimpArgs false
attribute [local go_sem ↓] Go.wp_at_zero Go.wp_at_succ
attribute [local go_sem] run_store_func

def ItB (f : Nat) (sv : Value) (v : Int) (y : Value) (lo : Nat) (w : World) : Prop :=
  y = .func (.func f) #[] #[.pointer (some ⟨lo, 0, none⟩), .pointer (some ⟨lo + 1, 0, none⟩)] ∧ w.cell? ⟨lo, 0, none⟩ = some sv ∧ w.cell? ⟨lo, 1, none⟩ = some cmpF ∧ w.cell? ⟨lo + 1, 0, none⟩ = some (.int .i64 v)
theorem ItB.mod {f : Nat} {sv : Value} {v : Int} {y : Value} {lo : Nat} {w w' : World} {F : Nat → Prop} (h : ItB f sv v y lo w) (hm : Mod F w w') (h0 : ¬ F lo) (h1 : ¬ F (lo + 1)) : ItB f sv v y lo w' := ⟨h.1, hm.cell h.2.1 h0, hm.cell h.2.2.1 h0, hm.cell h.2.2.2 h1⟩
theorem ItB.lt {f : Nat} {sv : Value} {v : Int} {y : Value} {lo : Nat} {w : World} (h : ItB f sv v y lo w) : lo + 1 < w.heap.size := World.block_lt_of_cell? _ _ h.2.2.2
def cmpC : Nat → List Nat
  | 8 => [4, 7]
  | 14 => [13]
  | _ => []
def cmpG (sv : Value) (v : Int) (ys : List Rw) (L : Nat) (base : Nat) : Nat → (Nat → Value) → (Nat → Prop) → World → Prop
  | 4, y, F, w => ∃ lo, ItB 165 sv v (y 22) lo w ∧ ∀ b, F b ↔ (b = lo ∨ b = lo + 1)
  | 7, y, F, w => ∃ lo, ItB 163 sv v (y 25) lo w ∧ ∀ b, F b ↔ (b = lo ∨ b = lo + 1)
  | 8, y, F, w => ∃ lo p q u1 u2, y 26 = .slice (some ⟨lo, 0, none⟩) 2 2 ∧ w.cell? ⟨lo, 0, none⟩ = some u1 ∧ w.cell? ⟨lo, 1, none⟩ = some u2 ∧ ItB 165 sv v u1 p w ∧ ItB 163 sv v u2 q w ∧ ∀ b, F b ↔ (b = lo ∨ (b = p ∨ b = p + 1) ∨ (b = q ∨ b = q + 1))
  | 9, y, F, w => ∃ a c, y 27 = .tuple #[.agg #[.slice a L c, cmpF], .bool true] ∧ w.ownsRow base 76 4 (.slice a L c) L (rwsC ys) ∧ ∀ b, F b ↔ (Value.slice a L c).ownBlock = some b
  | 10, y, F, _ => (∃ a c, y 17 = .tuple #[.agg #[.slice a L c, cmpF], .bool true]) ∧ y 17 = y 27 ∧ ∀ b, ¬ F b
  | 11, y, F, _ => (∃ a c, y 28 = .agg #[.slice a L c, cmpF]) ∧ y 17 = .tuple #[y 28, .bool true] ∧ ∀ b, ¬ F b
  | 12, y, F, _ => y 29 = .bool true ∧ ∀ b, ¬ F b
  | 13, y, F, w => ∃ lo, y 7 = .pointer (some ⟨lo, 0, none⟩) ∧ w.cell? ⟨lo, 0, none⟩ = some (.slice none 0 0) ∧ w.cell? ⟨lo, 1, none⟩ = some .nilFunc ∧ (∀ o, w.frozen? ⟨lo, o, none⟩ = false) ∧ ∀ b, F b ↔ b = lo
  | 14, y, F, w => ∃ lo a c, y 7 = .pointer (some ⟨lo, 0, none⟩) ∧ y 28 = .agg #[.slice a L c, cmpF] ∧ w.cell? ⟨lo, 0, none⟩ = some (.slice a L c) ∧ w.cell? ⟨lo, 1, none⟩ = some cmpF ∧ ∀ b, F b ↔ b = lo
  | _, _, _, _ => True
set_option maxRecDepth 100000 in
set_option maxHeartbeats 8000000 in
theorem implCompact_u (x : Value) (xs : List Rw) (v : Int) (w : World) (hx : rowsR.V w x xs) :
    Calls Tryz.prog 91 #[x, .int .i64 v] w fun e w' => ∃ u F, e = .returned u ∧ tabRR.O w' w.heap.size F u (compD xs v) ∧ Below w.heap.size w w' := by
  have hX := hx.1
  have HFIT : Hid (Fit (compL xs v)) := fit_mem.2 (fun y hy => fit_mem.1 hx.2 y ((compL_sub xs v).subset hy))
  obtain ⟨ax, cx, rfl⟩ := rows_form hx
  have hcap : xs.length ≤ cx ∧ cx ≤ 9223372036854775807 := by
    obtain ⟨_, _, e, h1, h2, _⟩ := hX
    simp only [Value.slice.injEq] at e
    unfold maxLen at h2
    omega
  generalize hN : xs.length = n at *
  have HN : Hid (xs.length = n) := hN
  clear hN hx
  go_enter Tryz.func91, Tryz.ntmps91
  go_wp2_with fail
  refine (implTableFault_any _ xs _ (RowsV_below hX (by (repeat (first | exact Below.refl _ _ | assumption | refine Below.drew ?_ | refine balloc ?_ _ | refine bset ?_ (by simp; omega) _ | refine bset ?_ (by simp) _ | refine bstep ?_ (by assumption)))))).mono ?_
  rintro e w1 ⟨rfl, hb1⟩
  obtain ⟨g1, g2, gf, gz⟩ := boxNew2 hb1 rfl
  have hB1 : Below w.heap.size w w1 := by (repeat (first | exact Below.refl _ _ | assumption | refine Below.drew ?_ | refine balloc ?_ _ | refine bset ?_ (by simp; omega) _ | refine bset ?_ (by simp) _ | refine bstep ?_ (by assumption)))
  clear hb1
  by_cases h0 : tabF xs = 0
  rotate_left
  · have E : Hid (compD xs v = ⟨tabF xs, []⟩) := by rw [Hid]; unfold compD; rw [if_neg h0]
    have h0' : ((tabF xs : Int) == 0) = false := by rw [beq_eq_false_iff_ne]; exact h0
    generalize tabF xs = c at h0 h0' E ⊢
    go_wp2
    refine bodyPost_ret (v := .agg #[.int .i64 c, .slice none 0 0]) (by simp [results, Tryz.results91, go_sem, g1, g2]) rfl ?_
    obtain ⟨F, hF⟩ := tabRR_nil ((w1.setCell ⟨w.heap.size, 0, none⟩ (.int .i64 c)).setCell ⟨w.heap.size, 1, none⟩ (.slice none 0 0)) w.heap.size c
    rw [E.out]
    first | exact ⟨_, F, rfl, hF, by (repeat (first | exact Below.refl _ _ | assumption | refine Below.drew ?_ | refine balloc ?_ _ | refine bset ?_ (by simp; omega) _ | refine bset ?_ (by simp) _ | refine bstep ?_ (by assumption)))⟩ | exact ⟨_, rfl, ⟨F, hF⟩, by (repeat (first | exact Below.refl _ _ | assumption | refine Below.drew ?_ | refine balloc ?_ _ | refine bset ?_ (by simp; omega) _ | refine bset ?_ (by simp) _ | refine bstep ?_ (by assumption)))⟩
  have E : Hid (compD xs v = ⟨0, compL xs v⟩) := by rw [Hid]; unfold compD; rw [if_pos h0]
  have HP : Hid (putsL [] (flatTo (fun i => if i = 0 then overV v xs else living (lastL v xs)) 2) = compL xs v) := by
    rw [Hid, ← compL_puts (rises_of h0) (sorted_of h0) v]
    rfl
  have HLE : Hid ((compL xs v).length ≤ xs.length) := (compL_sub xs v).length_le
  have HL2 : Hid ((flatTo (fun i => if i = 0 then overV v xs else living (lastL v xs)) 2).length ≤ 1000000) := by
    have h1 : (overV v xs).length ≤ xs.length := List.length_filter_le ..
    have h2 : (living (lastL v xs)).length ≤ (lastL v xs).length := List.length_filter_le ..
    have h3 : (lastL v xs).length ≤ xs.length := by rw [lastL_eq]; exact lastG_len xs _
    have h4 := (tabF_all h0).1
    have e : flatTo (fun i => if i = 0 then overV v xs else living (lastL v xs)) 2 = overV v xs ++ living (lastL v xs) := rfl
    rw [Hid, e, List.length_append]
    omega
  have hlen := (tabF_all h0).1
  rw [h0]
  have HLN : Hid (xs.length ≤ 200) := hlen
  clear hlen
  generalize compL xs v = ys at *
  go_wp2_with fail
  refine (tableOf_any _ _ _ _).mono ?_
  rintro e w2 ⟨rfl, hb2⟩
  have k1 := cell_keep hb2 g1
  have k2 := cell_keep hb2 g2
  have kf := boxKeep ⟨gf, gz⟩ hb2
  have hB2 := bstep hB1 hb2
  unfold cmpF
  go_wp2
  obtain ⟨w3, hw3⟩ : ∃ w3, w3 = w2.alloc (.cells #[.slice ax n cx, .func (.func 75) #[] #[]] 111) := ⟨_, rfl⟩
  have hb3 : Below w2.heap.size w2 w3 := by rw [hw3]; exact balloc (Below.refl _ _) _
  have c0 : w3.cell? ⟨w2.heap.size, 0, none⟩ = some (.slice ax n cx) := by rw [hw3]; simp [go_sem]
  have c1 : w3.cell? ⟨w2.heap.size, 1, none⟩ = some (.func (.func 75) #[] #[]) := by rw [hw3]; simp [go_sem]
  rw [← hw3]
  have hB3 := bstep hB2 hb3
  have hs23 : w2.heap.size < w3.heap.size := by rw [hw3]; simp
  clear hw3
  refine wp_region_noPanic ?_
  refine region_upto (fun W => Below w3.heap.size w3 W ∧ W.cell? ⟨w2.heap.size, 0, none⟩ = some (.slice ax n cx) ∧ W.cell? ⟨w2.heap.size, 1, none⟩ = some (.func (.func 75) #[] #[])) 15 (by kernel_rfl) ⟨Below.drew (Below.refl _ _), c0, c1⟩ (fun hS => ?_)
  refine upto_take (i := 0) (v := ?_) rfl (by kernel_rfl) (by kernel_rfl) (by kernel_rfl) (by kernel_rfl) (fun _ _ _ h => h) (by rfl) hS ?_ ?_
  rotate_left
  · intro wS hSw
    try dsimp only at hSw
    first | (go_simp; done) | (go_simp; with_reducible rfl)
  try simp only [Act.put, List.getElem_toArray, List.getElem_cons_zero, List.getElem_cons_succ, List.setIfInBounds_toArray, List.set_cons_zero, List.set_cons_succ]
  refine upto_take (i := 1) (v := ?_) rfl (by kernel_rfl) (by kernel_rfl) (by kernel_rfl) (by kernel_rfl) (fun _ _ _ h => h) (by rfl) hS ?_ ?_
  rotate_left
  · intro wS hSw
    try dsimp only at hSw
    first | (go_simp; done) | (go_simp; with_reducible rfl)
  try simp only [Act.put, List.getElem_toArray, List.getElem_cons_zero, List.getElem_cons_succ, List.setIfInBounds_toArray, List.set_cons_zero, List.set_cons_succ]
  refine upto_take (i := 2) (v := ?_) rfl (by kernel_rfl) (by kernel_rfl) (by kernel_rfl) (by kernel_rfl) (fun _ _ _ h => h) (by rfl) hS ?_ ?_
  rotate_left
  · intro wS hSw
    try dsimp only at hSw
    first | (go_simp; done) | (go_simp; with_reducible rfl)
  try simp only [Act.put, List.getElem_toArray, List.getElem_cons_zero, List.getElem_cons_succ, List.setIfInBounds_toArray, List.set_cons_zero, List.set_cons_succ]
  refine upto_take (i := 3) (v := ?_) rfl (by kernel_rfl) (by kernel_rfl) (by kernel_rfl) (by kernel_rfl) (fun _ _ _ h => h) (by rfl) hS ?_ ?_
  rotate_left
  · intro wS hSw
    try dsimp only at hSw
    first | (go_simp; done) | (go_simp; with_reducible rfl)
  try simp only [Act.put, List.getElem_toArray, List.getElem_cons_zero, List.getElem_cons_succ, List.setIfInBounds_toArray, List.set_cons_zero, List.set_cons_succ]
  refine upto_take (i := 5) (v := ?_) rfl (by kernel_rfl) (by kernel_rfl) (by kernel_rfl) (by kernel_rfl) (fun _ _ _ h => h) (by rfl) hS ?_ ?_
  rotate_left
  · intro wS hSw
    try dsimp only at hSw
    first | (go_simp; done) | (go_simp; with_reducible rfl)
  try simp only [Act.put, List.getElem_toArray, List.getElem_cons_zero, List.getElem_cons_succ, List.setIfInBounds_toArray, List.set_cons_zero, List.set_cons_succ]
  refine upto_take (i := 6) (v := ?_) rfl (by kernel_rfl) (by kernel_rfl) (by kernel_rfl) (by kernel_rfl) (fun _ _ _ h => h) (by rfl) hS ?_ ?_
  rotate_left
  · intro wS hSw
    try dsimp only at hSw
    first | (go_simp; done) | (go_simp; with_reducible rfl)
  try simp only [Act.put, List.getElem_toArray, List.getElem_cons_zero, List.getElem_cons_succ, List.setIfInBounds_toArray, List.set_cons_zero, List.set_cons_succ]
  have hb0 : Below w3.heap.size w3 w3.drew := Below.drew (Below.refl _ _)
  have hz0 : w3.drew.heap.size = w3.heap.size := rfl
  generalize w3.drew = W0 at *
  have HBX : Hid (∀ W, Below W0.heap.size W0 W → Below w.heap.size w W) := fun W hW => bstep (bstep hB3 hb0) hW
  refine upto_dons' [(4, 22), (7, 25), (8, 26), (9, 27), (10, 17), (11, 28), (12, 29), (13, 7), (14, 99)] cmpC (cmpG (.slice ax n cx) v ys ys.length W0.heap.size) (by kernel_rfl) hS ?_ ?_ ?_ ?_
  · intro F' W W' h hm hF
    obtain ⟨h1, h3, h4⟩ := h
    refine ⟨hm.below h1 h1.size (fun b hb => by have := hF b hb; omega), hm.cell h3 (fun e => by have := hF _ e; dsimp only at this; omega), hm.cell h4 (fun e => by have := hF _ e; dsimp only at this; omega)⟩
  · intro pp hp
    simp only [List.mem_cons, List.not_mem_nil, or_false] at hp
    rcases hp with rfl | rfl | rfl | rfl | rfl | rfl | rfl | rfl | rfl
    all_goals
      intro y y' F F' W W' h hi hm hap hF e he
      simp only [cmpG] at h ⊢
    · obtain ⟨lo, h1, h2⟩ := h
      rw [e]
      exact ⟨lo, h1.mod hm (fun x => hap _ x ((h2 _).2 (.inl rfl))) (fun x => hap _ x ((h2 _).2 (.inr rfl))), h2⟩
    · obtain ⟨lo, h1, h2⟩ := h
      rw [e]
      exact ⟨lo, h1.mod hm (fun x => hap _ x ((h2 _).2 (.inl rfl))) (fun x => hap _ x ((h2 _).2 (.inr rfl))), h2⟩
    · obtain ⟨lo, p, q, u1, u2, h0, h1, h2, h3, h4, h5⟩ := h
      rw [e]
      exact ⟨lo, p, q, u1, u2, h0, hm.cell h1 (fun x => hap _ x ((h5 _).2 (.inl rfl))), hm.cell h2 (fun x => hap _ x ((h5 _).2 (.inl rfl))), h3.mod hm (fun x => hap _ x ((h5 _).2 (.inr (.inl (.inl rfl))))) (fun x => hap _ x ((h5 _).2 (.inr (.inl (.inr rfl))))),
        h4.mod hm (fun x => hap _ x ((h5 _).2 (.inr (.inr (.inl rfl))))) (fun x => hap _ x ((h5 _).2 (.inr (.inr (.inr rfl))))), h5⟩
    · obtain ⟨a, c, h0, h1, h2⟩ := h
      rw [e]
      exact ⟨a, c, h0, hm.owns h1 (fun b hb x => hap _ x ((h2 b).2 hb)), h2⟩
    · have e9 := he (9, 27) (by simp) (by kernel_rfl)
      rw [e, e9]
      exact h
    · have e9 := he (10, 17) (by simp) (by kernel_rfl)
      rw [e, e9]
      exact h
    · rw [e]
      exact h
    · obtain ⟨lo, h0, h1, h2, h3, h4⟩ := h
      rw [e]
      refine ⟨lo, h0, hm.cell h1 (fun x => hap _ x ((h4 _).2 rfl)), hm.cell h2 (fun x => hap _ x ((h4 _).2 rfl)), fun o => ?_, h4⟩
      exact (hm.frozen (a := ⟨lo, o, none⟩) (by have := World.block_lt_of_cell? _ _ h1; exact this) (fun x => hap _ x ((h4 _).2 rfl))).trans (h3 o)
    · obtain ⟨lo, a, c, h0, h1, h2, h3, h4⟩ := h
      have e13 := he (13, 7) (by simp) (by kernel_rfl)
      have e11 := he (11, 28) (by simp) (by kernel_rfl)
      rw [e13, e11]
      exact ⟨lo, a, c, h0, h1, hm.cell h2 (fun x => hap _ x ((h4 _).2 rfl)), hm.cell h3 (fun x => hap _ x ((h4 _).2 rfl)), h4⟩
  · intro pp hp
    simp only [List.mem_cons, List.not_mem_nil, or_false] at hp
    rcases hp with rfl | rfl | rfl | rfl | rfl | rfl | rfl | rfl | rfl
    · refine ⟨_, rfl, .inl rfl, ?_⟩
      intro y W Φ hSW hBW hd K hK
      clear hd
      refine ⟨?_⟩
      simp only [over, Act.put, List.getElem_toArray, List.getElem_cons_zero, List.getElem_cons_succ, List.map_cons, List.map_nil, List.foldl_cons, List.foldl_nil, List.setIfInBounds_toArray, List.set_cons_zero, List.set_cons_succ, List.set_nil] at hK ⊢
      go_simp
      refine (above_any ax n cx v W).mono ?_
      rintro e w' ⟨rfl, hw'⟩
      have hbw : Below W.heap.size W w' := by rw [hw']; exact balloc (balloc (Below.refl _ _) _) _
      refine hK _ _ (fun b => b = W.heap.size ∨ b = W.heap.size + 1) (Mod.of_below hbw) (fun b hb => .inr ?_) ?_
      · rw [hw']
        simp only [World.size_alloc]
        rcases hb with rfl | rfl <;> omega
      · simp only [cmpG, updV]
        refine ⟨W.heap.size, ⟨by simp, ?_, ?_, ?_⟩, fun b => Iff.rfl⟩
        all_goals (rw [hw']; simp [go_sem])
    · refine ⟨_, rfl, .inl rfl, ?_⟩
      intro y W Φ hSW hBW hd K hK
      clear hd
      refine ⟨?_⟩
      simp only [over, Act.put, List.getElem_toArray, List.getElem_cons_zero, List.getElem_cons_succ, List.map_cons, List.map_nil, List.foldl_cons, List.foldl_nil, List.setIfInBounds_toArray, List.set_cons_zero, List.set_cons_succ, List.set_nil] at hK ⊢
      go_simp
      refine (livingAt_any ax n cx v W).mono ?_
      rintro e w' ⟨rfl, hw'⟩
      have hbw : Below W.heap.size W w' := by rw [hw']; exact balloc (balloc (Below.refl _ _) _) _
      refine hK _ _ (fun b => b = W.heap.size ∨ b = W.heap.size + 1) (Mod.of_below hbw) (fun b hb => .inr ?_) ?_
      · rw [hw']
        simp only [World.size_alloc]
        rcases hb with rfl | rfl <;> omega
      · simp only [cmpG, updV]
        refine ⟨W.heap.size, ⟨by simp, ?_, ?_, ?_⟩, fun b => Iff.rfl⟩
        all_goals (rw [hw']; simp [go_sem])
    · refine ⟨_, rfl, .inl rfl, ?_⟩
      intro y W Φ hSW hBW hd K hK
      have g4 := hd (4, 22) (by simp) (by kernel_rfl) (.inl (by simp [cmpC]))
      have g7 := hd (7, 25) (by simp) (by kernel_rfl) (.inl (by simp [cmpC]))
      clear hd
      simp only [cmpG] at g4 g7
      obtain ⟨_, p, hp, fp⟩ := g4
      obtain ⟨_, q, hq, fq⟩ := g7
      refine ⟨?_⟩
      simp only [over, Act.put, List.getElem_toArray, List.getElem_cons_zero, List.getElem_cons_succ, List.map_cons, List.map_nil, List.foldl_cons, List.foldl_nil, List.setIfInBounds_toArray, List.set_cons_zero, List.set_cons_succ, List.set_nil] at hK ⊢
      simp only [hp.1, hq.1] at hK ⊢
      have zp := hp.lt
      have zq := hq.lt
      go_simp
      refine hK _ _ (fun b => b = W.heap.size ∨ (b = p ∨ b = p + 1) ∨ (b = q ∨ b = q + 1)) (Mod.of_below (by (repeat (first | exact Below.refl _ _ | assumption | refine Below.drew ?_ | refine balloc ?_ _ | refine bset ?_ (by simp; omega) _ | refine bset ?_ (by simp) _ | refine bstep ?_ (by assumption))))) (fun b hb => ?_) ?_
      · rcases hb with rfl | hb | hb
        · exact .inr (by simp)
        · exact .inl ⟨4, by simp [cmpC], (fp b).2 hb⟩
        · exact .inl ⟨7, by simp [cmpC], (fq b).2 hb⟩
      · have hbA : Below W.heap.size W (W.alloc (.cells #[y 22, y 25] 109)) := balloc (Below.refl _ _) _
        simp only [hp.1, hq.1] at hbA
        have hpA := hp.mod (Mod.of_below (F := fun _ => False) hbA) (fun h => h) (fun h => h)
        have hqA := hq.mod (Mod.of_below (F := fun _ => False) hbA) (fun h => h) (fun h => h)
        simp only [cmpG, updV]
        refine ⟨W.heap.size, p, q, y 22, y 25, by simp, ?_, ?_, hpA, hqA, fun b => Iff.rfl⟩
        · rw [hp.1]
          simp [go_sem]
        · rw [hq.1]
          simp [go_sem]
    · refine ⟨_, rfl, .inl rfl, ?_⟩
      intro y W Φ hSW hBW hd K hK
      have g8 := hd (8, 26) (by simp) (by kernel_rfl) (.inr (by simp [cmpC]))
      clear hd
      simp only [cmpG] at g8
      obtain ⟨_, lo, p, q, u1, u2, e0, e1, e2, hp, hq, _⟩ := g8
      have hBw := HBX.out W hBW
      have hC := merged_any (.slice (some ⟨lo, 0, none⟩) 2 2) 2 n (fun i => if i = 0 then 165 else 163) (fun i => if i = 0 then #[.pointer (some ⟨p, 0, none⟩), .pointer (some ⟨p + 1, 0, none⟩)] else #[.pointer (some ⟨q, 0, none⟩), .pointer (some ⟨q + 1, 0, none⟩)]) (fun i => if i = 0 then overV v xs else living (lastL v xs)) W
        ⟨_, 2, rfl, Nat.le_refl _, by unfold maxLen; omega, fun i hi => ⟨lo, 0, rfl, by
          match i, hi with
          | 0, _ => simpa [hp.1] using e1
          | 1, _ => simpa [hq.1] using e2⟩⟩ (by have := HLN.out; have := HN.out; omega) HL2.out (fun i hi => by
          match i, hi with
          | 0, _ => exact enters_of Tryz.func165 (by kernel_rfl) rfl
          | 1, _ => exact enters_of Tryz.func163 (by kernel_rfl) rfl) (fun i hi => by
          have hT : TabAt (fun b => b < W.heap.size) W (.slice ax n cx) xs := TabAt.of (RowsV_below hX hBw) (fun b hb => hb)
          have zp := hp.lt
          have zq := hq.lt
          match i, hi with
          | 0, _ => exact above_seq p (p + 1) (.slice ax n cx) xs v _ W (fun b hb => hb) hp.2.1 hp.2.2.1 hp.2.2.2 (by omega) (by omega) hT HLN.out
          | 1, _ => exact livingAt_seq q (q + 1) (.slice ax n cx) xs v _ W (fun b hb => hb) hq.2.1 hq.2.2.1 hq.2.2.2 (by omega) (by omega) hT HLN.out)
      rw [HP.out] at hC
      unfold cmpF at hC
      refine ⟨?_⟩
      simp only [over, Act.put, List.getElem_toArray, List.getElem_cons_zero, List.getElem_cons_succ, List.map_cons, List.map_nil, List.foldl_cons, List.foldl_nil, List.setIfInBounds_toArray, List.set_cons_zero, List.set_cons_succ, List.set_nil] at hK ⊢
      simp only [e0] at hK ⊢
      go_simp
      refine hC.mono ?_
      rintro e w' ⟨u, f, rfl, ⟨a1, n1, c1, rfl⟩, hb1, ht, hf⟩
      have hft : f = true := by
        cases f with
        | true => rfl
        | false =>
          have h1 := hf rfl
          have h2 := HLE.out
          have h3 := HN.out
          omega
      subst hft
      obtain ⟨ho, _⟩ := ht rfl
      have hn1 : n1 = ys.length := by
        obtain ⟨a', c', e⟩ := owns_form ho
        simp only [Value.slice.injEq] at e
        exact e.2.1
      subst hn1
      refine hK _ _ (fun b => (Value.slice a1 ys.length c1).ownBlock = some b) (Mod.of_below hb1) (fun b hb => .inr (ho.lt b hb)) ?_
      simp only [cmpG, updV]
      exact ⟨a1, c1, by simp [cmpF], owns_base ho hBW.size, fun b => Iff.rfl⟩
    · refine ⟨_, rfl, .inl rfl, ?_⟩
      intro y W Φ hSW hBW hd K hK
      have g9 := hd (9, 27) (by simp) (by kernel_rfl) (.inr (by simp [cmpC]))
      clear hd
      simp only [cmpG] at g9
      obtain ⟨-, a, c, e0, -⟩ := g9
      refine ⟨?_⟩
      simp only [over, Act.put, List.getElem_toArray, List.getElem_cons_zero, List.getElem_cons_succ, List.map_cons, List.map_nil, List.foldl_cons, List.foldl_nil, List.setIfInBounds_toArray, List.set_cons_zero, List.set_cons_succ, List.set_nil] at hK ⊢
      simp only [e0] at hK ⊢
      go_simp
      refine hK _ _ (fun _ => False) (Mod.refl _ _) (fun b hb => hb.elim) ?_
      simp only [cmpG, updV]
      exact ⟨⟨a, c, by simp⟩, by simp [e0], fun b hb => hb⟩
    · refine ⟨_, rfl, .inl rfl, ?_⟩
      intro y W Φ hSW hBW hd K hK
      have g9 := hd (10, 17) (by simp) (by kernel_rfl) (.inr (by simp [cmpC]))
      clear hd
      simp only [cmpG] at g9
      obtain ⟨-, ⟨a, c, e0⟩, -⟩ := g9
      refine ⟨?_⟩
      simp only [over, Act.put, List.getElem_toArray, List.getElem_cons_zero, List.getElem_cons_succ, List.map_cons, List.map_nil, List.foldl_cons, List.foldl_nil, List.setIfInBounds_toArray, List.set_cons_zero, List.set_cons_succ, List.set_nil] at hK ⊢
      simp only [e0] at hK ⊢
      go_simp
      refine hK _ _ (fun _ => False) (Mod.refl _ _) (fun b hb => hb.elim) ?_
      simp only [cmpG, updV]
      exact ⟨⟨a, c, by simp⟩, by simp [e0], fun b hb => hb⟩
    · refine ⟨_, rfl, .inl rfl, ?_⟩
      intro y W Φ hSW hBW hd K hK
      have g9 := hd (10, 17) (by simp) (by kernel_rfl) (.inr (by simp [cmpC]))
      clear hd
      simp only [cmpG] at g9
      obtain ⟨-, ⟨a, c, e0⟩, -⟩ := g9
      refine ⟨?_⟩
      simp only [over, Act.put, List.getElem_toArray, List.getElem_cons_zero, List.getElem_cons_succ, List.map_cons, List.map_nil, List.foldl_cons, List.foldl_nil, List.setIfInBounds_toArray, List.set_cons_zero, List.set_cons_succ, List.set_nil] at hK ⊢
      simp only [e0] at hK ⊢
      go_simp
      refine hK _ _ (fun _ => False) (Mod.refl _ _) (fun b hb => hb.elim) ?_
      simp only [cmpG, updV]
      exact ⟨by simp, fun b hb => hb⟩
    · refine ⟨_, rfl, .inl rfl, ?_⟩
      intro y W Φ hSW hBW hd K hK
      clear hd
      refine ⟨?_⟩
      simp only [over, Act.put, List.getElem_toArray, List.getElem_cons_zero, List.getElem_cons_succ, List.map_cons, List.map_nil, List.foldl_cons, List.foldl_nil, List.setIfInBounds_toArray, List.set_cons_zero, List.set_cons_succ, List.set_nil] at hK ⊢
      go_simp
      refine hK _ _ (fun b => b = W.heap.size) (Mod.of_below (by (repeat (first | exact Below.refl _ _ | assumption | refine Below.drew ?_ | refine balloc ?_ _ | refine bset ?_ (by simp; omega) _ | refine bset ?_ (by simp) _ | refine bstep ?_ (by assumption))))) (fun b hb => .inr (by simp; omega)) ?_
      simp only [cmpG, updV]
      exact ⟨W.heap.size, by simp, by simp [go_sem], by simp [go_sem], fun o => by simp [go_sem], fun b => Iff.rfl⟩
    · refine ⟨_, rfl, .inr ⟨rfl, by simp⟩, ?_⟩
      intro y W Φ hSW hBW hd K hK
      have g11 := hd (11, 28) (by simp) (by kernel_rfl) (.inr (by simp [cmpC]))
      have g13 := hd (13, 7) (by simp) (by kernel_rfl) (.inl (by simp [cmpC]))
      clear hd
      simp only [cmpG] at g11 g13
      obtain ⟨-, ⟨a, c, e0⟩, -⟩ := g11
      obtain ⟨_, lo, e1, k0, k1, kf, fl⟩ := g13
      unfold cmpF at e0
      refine ⟨?_⟩
      simp only [over, Act.put, List.getElem_toArray, List.getElem_cons_zero, List.getElem_cons_succ, List.map_cons, List.map_nil, List.foldl_cons, List.foldl_nil, List.setIfInBounds_toArray, List.set_cons_zero, List.set_cons_succ, List.set_nil] at hK ⊢
      simp only [e0, e1] at hK ⊢
      go_simp
      refine hK undef _ (fun b => b = lo) (((Mod.of_set W ⟨lo, 0, none⟩ _).trans (Mod.of_set _ ⟨lo, 1, none⟩ _)).mono (fun b hb => ⟨13, by simp [cmpC], (fl b).2 hb⟩)) (fun b hb => .inl ⟨13, by simp [cmpC], (fl b).2 hb⟩) ?_
      simp only [cmpG, updV]
      exact ⟨lo, a, c, by simp [e1], by simp [e0, cmpF], (set_other (by simp)).trans (set_same k0), set_same ((set_other (by simp)).trans k1), fun b => Iff.rfl⟩
  · refine ⟨_, rfl, ?_⟩
    intro y W Φ hSW hBW hd hap K hK
    have g9 := (hd (9, 27) (by simp) (by simp [cmpC])).2
    have g10 := (hd (10, 17) (by simp) (by simp [cmpC])).2
    have g11 := (hd (11, 28) (by simp) (by simp [cmpC])).2
    have g12 := (hd (12, 29) (by simp) (by simp [cmpC])).2
    have g14 := hd (14, 99) (by simp) (by simp [cmpC])
    have hap' := hap (9, 27) (by simp) (14, 99) (by simp) (by simp) (by simp [cmpC]) (by simp [cmpC])
    clear hd hap
    simp only [cmpG] at g9 g10 g11 g12 g14
    obtain ⟨a, c, e27, ho, f9⟩ := g9
    obtain ⟨-, e17, -⟩ := g10
    obtain ⟨-, e28, -⟩ := g11
    obtain ⟨e29, -⟩ := g12
    obtain ⟨hin, lo, a', c', e7, e28', kk0, kk1, f14⟩ := g14
    rw [e17, e27] at e28
    simp only [Value.tuple.injEq, Array.mk.injEq, List.cons.injEq, and_true] at e28
    rw [← e28] at e28'
    simp only [Value.agg.injEq, Array.mk.injEq, List.cons.injEq, and_true, Value.slice.injEq, true_and] at e28'
    obtain ⟨rfl, rfl⟩ := e28'
    have hne : (Value.slice a ys.length c).ownBlock ≠ some lo := fun h => hap' lo ((f9 lo).2 h) ((f14 lo).2 rfl)
    have hlo := hin lo ((f14 lo).2 rfl)
    have hBw := HBX.out W hBW
    have hW2 : Below w2.heap.size w2 W := bstep (bstep hb3 hb0) hBW
    have q0 := cell_keep hW2 k1
    have q1 := cell_keep hW2 k2
    have qf := (boxKeep kf hW2).1
    have qz := (boxKeep kf hW2).2
    have hzw : w.heap.size < W0.heap.size := by
      have h1 := kf.2
      omega
    have HZW : Hid (w.heap.size < W0.heap.size) := hzw
    refine ⟨?_⟩
    simp only [over, Act.put, List.getElem_toArray, List.getElem_cons_zero, List.getElem_cons_succ, List.map_cons, List.map_nil, List.foldl_cons, List.foldl_nil, List.setIfInBounds_toArray, List.set_cons_zero, List.set_cons_succ, List.set_nil]
    simp only [e29, e7]
    clear e17 e27 e28 e7 e29 hap' f9 f14 hin hS hSW hb0 hb3 c0 c1 k1 k2 kf
    go_simp
    refine hK _ _ ?_
    clear hK K
    refine NoPanic.normal ?_
    obtain ⟨L, hL⟩ : ∃ L, ys.length = L := ⟨_, rfl⟩
    have HL : Hid (ys.length = L) := hL
    rw [hL] at ho kk0 hne
    clear hL
    go_wp2
    refine bodyPost_ret (v := .agg #[.int .i64 0, .slice a L c]) (by simp [results, Tryz.results91, go_sem, q0, q1]) rfl ?_
    have ho2 : ((W.setCell ⟨w.heap.size, 0, none⟩ (.int .i64 0)).setCell ⟨w.heap.size, 1, none⟩ (.slice a L c)).ownsRow w.heap.size 76 4 (.slice a L c) ys.length (rwsC ys) := by
      rw [HL.out]
      exact owns_base (owns_setCell (owns_setCell ho HZW.out _) HZW.out _) (Nat.le_of_lt HZW.out)
    obtain ⟨F, hF⟩ := tabRR_of (c := 0) ho2 HFIT.out
    rw [E.out]
    first | exact ⟨_, F, rfl, hF, by (repeat (first | exact Below.refl _ _ | assumption | refine Below.drew ?_ | refine balloc ?_ _ | refine bset ?_ (by simp; omega) _ | refine bset ?_ (by simp) _ | refine bstep ?_ (by assumption)))⟩ | exact ⟨_, rfl, ⟨F, hF⟩, by (repeat (first | exact Below.refl _ _ | assumption | refine Below.drew ?_ | refine balloc ?_ _ | refine bset ?_ (by simp; omega) _ | refine bset ?_ (by simp) _ | refine bstep ?_ (by assumption)))⟩
end Go.Proofs.YtdfapehonegeeaaGreat

/-
  CompactEngine: the program's side.
-/
namespace Go.Proofs.YtdfapehonegeeaaGreat
open Go.RowKit
set_option linter.unusedSectionVars false
variable [DecidableEq Wri] [Inhabited Wri] [DecidableEq BytesR] [Inhabited BytesR] [DecidableEq Rw] [Inhabited Rw] [DecidableEq TabR] [Inhabited TabR] [DecidableEq Logg] [Inhabited Logg] [DecidableEq Engn] [Inhabited Engn] [DecidableEq LoggR] [Inhabited LoggR] [DecidableEq RecsR] [Inhabited RecsR] [DecidableEq Leg] [Inhabited Leg] [DecidableEq EngR] [Inhabited EngR]
set_option linter.unusedVariables false
set_option linter.unusedSimpArgs false
attribute [local go_sem ↓] Go.wp_at_zero Go.wp_at_succ

set_option maxRecDepth 20000 in
set_option maxHeartbeats 2000000 in
theorem implCompE_u (x : Value) (d : Engn) (fl : Int) (w : World) (hx : engnR.V w x d) (hn : wtEngn d ≤ 1048576) :
    Calls Tryz.prog 31 #[x, .int .i64 fl] w fun e w' => ∃ v F, e = .returned v ∧ engRR.O w' w.heap.size F v (compE d fl) ∧ Below w.heap.size w w' := by
  have HX : Hid (engnR.V w x d) := hx
  obtain ⟨a1, a2, a3, a4, c1, c2, c3, c4, rfl⟩ := engn_form hx
  have HWT : Hid (wtEngn d ≤ 1048576) := hn
  clear hx
  go_enter Tryz.func31, Tryz.ntmps31
  go_wp2_with fail
  refine (implEngF_any _ d _ (engnR.below HX.out (by (repeat (first | exact Below.refl _ _ | assumption | refine Below.drew ?_ | refine balloc ?_ _ | refine bset ?_ (by simp; omega) _ | refine bset ?_ (by simp) _ | refine bstep ?_ (by assumption))))) hn).mono ?_
  rintro e w1 ⟨rfl, b1⟩
  have r0 : w1.cell? ⟨w.heap.size, 0, none⟩ = some (.slice a1 d.log.synced.length c1) := cell_keep b1 (by simp [go_sem])
  have r1 : w1.cell? ⟨w.heap.size, 1, none⟩ = some (.slice a2 d.log.loose.length c2) := cell_keep b1 (by simp [go_sem])
  have r2 : w1.cell? ⟨w.heap.size, 2, none⟩ = some (.slice a3 d.mem.length c3) := cell_keep b1 (by simp [go_sem])
  have r3 : w1.cell? ⟨w.heap.size, 3, none⟩ = some (.slice a4 d.tables.length c4) := cell_keep b1 (by simp [go_sem])
  have r4 : w1.cell? ⟨w.heap.size, 4, none⟩ = some (.int .i64 d.next) := cell_keep b1 (by simp [go_sem])
  have q0 : w1.cell? ⟨w.heap.size + 1, 0, none⟩ = some (.int .i64 0) := cell_keep b1 (by simp [go_sem])
  have q1 : w1.cell? ⟨w.heap.size + 1, 1, none⟩ = some (.int .i64 0) := cell_keep b1 (by simp [go_sem])
  have q2 : w1.cell? ⟨w.heap.size + 1, 2, none⟩ = some (.slice none 0 0) := cell_keep b1 (by simp [go_sem])
  have q3 : w1.cell? ⟨w.heap.size + 1, 3, none⟩ = some (.slice none 0 0) := cell_keep b1 (by simp [go_sem])
  have q4 : w1.cell? ⟨w.heap.size + 1, 4, none⟩ = some (.slice none 0 0) := cell_keep b1 (by simp [go_sem])
  have q5 : w1.cell? ⟨w.heap.size + 1, 5, none⟩ = some (.slice none 0 0) := cell_keep b1 (by simp [go_sem])
  have q6 : w1.cell? ⟨w.heap.size + 1, 6, none⟩ = some (.int .i64 0) := cell_keep b1 (by simp [go_sem])
  obtain ⟨qf, qz⟩ : (∀ o, w1.frozen? ⟨w.heap.size + 1, o, none⟩ = false) ∧ w.heap.size + 1 < w1.heap.size := by
    have h := b1.size
    simp only [World.size_alloc] at h
    exact ⟨fun o => by rw [(bcell b1).2 _ _ (by simp)]; simp [go_sem], by omega⟩
  have hB1 : Below w.heap.size w w1 := by (repeat (first | exact Below.refl _ _ | assumption | refine Below.drew ?_ | refine balloc ?_ _ | refine bset ?_ (by simp; omega) _ | refine bset ?_ (by simp) _ | refine bstep ?_ (by assumption)))
  clear b1 hn
  by_cases h0 : engF d = 0
  rotate_left
  · have HE : Hid (compE d fl = codeE (engF d)) := by unfold Hid compE; rw [if_pos (by simpa using h0)]
    have hc : (engF d == 0) = false := by simpa using h0
    generalize engF d = c at *
    go_wp2
    refine bodyPost_ret (v := .agg #[.int .i64 c, .int .i64 0, .slice none 0 0, .slice none 0 0, .slice none 0 0, .slice none 0 0, .int .i64 0]) (by simp [results, Tryz.results31, go_sem, q0, q1, q2, q3, q4, q5, q6, qf, qz]) rfl ?_
    rw [HE.out]
    first | exact ⟨_, rfl, ⟨_, engR_nil _ _ c 0 0⟩, by (repeat (first | refine bset ?_ (by simp; omega) _ | refine bset ?_ (by simp) _ | refine balloc ?_ _ | assumption))⟩ | exact ⟨_, _, rfl, engR_nil _ _ c 0 0, by (repeat (first | refine bset ?_ (by simp; omega) _ | refine bset ?_ (by simp) _ | refine balloc ?_ _ | assumption))⟩
  rw [h0]
  have HEF : Hid (engF d = 0) := h0
  clear h0
  have h6 : d.tables.length ≤ 6 := (partsF_inv (engF_inv HEF.out).1).2.2.1
  have H2 : Hid (d.tables.length < 2 → compE d fl = codeE 4) := fun h => by unfold compE; rw [if_neg (by simpa using HEF.out), if_pos h]
  have HC : Hid (¬ d.tables.length < 2 → ¬ (mergeD d.tables).code = 0 → compE d fl = codeE (mergeD d.tables).code) := fun h h1 => by unfold compE; rw [if_neg (by simpa using HEF.out), if_neg h, if_pos h1]
  have HOK : Hid (¬ d.tables.length < 2 → (mergeD d.tables).code = 0 → compE d fl = ⟨0, 0, { d with tables := [compL (mergeD d.tables).rows fl] }⟩) := fun h h1 => by unfold compE; rw [if_neg (by simpa using HEF.out), if_neg h, if_neg (by simpa using h1)]
  have HMO : Hid ((mergeD d.tables).code = 0 → Rises (mergeD d.tables).rows ∧ tabF (mergeD d.tables).rows = 0 ∧ (mergeD d.tables).rows.length ≤ 200) := fun h => merge_ok h (by omega)
  by_cases h2 : d.tables.length < 2
  · have HE : Hid (compE d fl = codeE 4) := H2.out h2
    have h3 : (d.tables.length : Int) < 2 := by omega
    clear H2 HC HOK HMO
    generalize d.tables.length = lt at *
    go_wp2
    refine bodyPost_ret (v := .agg #[.int .i64 4, .int .i64 0, .slice none 0 0, .slice none 0 0, .slice none 0 0, .slice none 0 0, .int .i64 0]) (by simp [results, Tryz.results31, go_sem, q0, q1, q2, q3, q4, q5, q6, qf, qz]) rfl ?_
    rw [HE.out]
    first | exact ⟨_, rfl, ⟨_, engR_nil _ _ 4 0 0⟩, by (repeat (first | refine bset ?_ (by simp; omega) _ | refine bset ?_ (by simp) _ | refine balloc ?_ _ | assumption))⟩ | exact ⟨_, _, rfl, engR_nil _ _ 4 0 0, by (repeat (first | refine bset ?_ (by simp; omega) _ | refine bset ?_ (by simp) _ | refine balloc ?_ _ | assumption))⟩
  have h3 : ¬ (d.tables.length : Int) < 2 := by omega
  have HT : Hid (rowssR.V w (.slice a4 d.tables.length c4) d.tables) := by
    obtain ⟨u1, u2, u3, u4, e, _, _, h⟩ := HX.out
    simp only [Value.agg.injEq, Array.mk.injEq, List.cons.injEq, and_true] at e
    obtain ⟨_, _, _, rfl⟩ := e
    exact h
  go_wp2_with fail
  refine (implMerge_u _ d.tables _ (rowssR.below HT.out hB1)).mono ?_
  rintro e w2 ⟨v2, F2, rfl, o2, b2⟩
  replace r0 := cell_keep b2 r0
  replace r1 := cell_keep b2 r1
  replace r2 := cell_keep b2 r2
  replace r3 := cell_keep b2 r3
  replace r4 := cell_keep b2 r4
  replace q0 := cell_keep b2 q0
  replace q1 := cell_keep b2 q1
  replace q2 := cell_keep b2 q2
  replace q3 := cell_keep b2 q3
  replace q4 := cell_keep b2 q4
  replace q5 := cell_keep b2 q5
  replace q6 := cell_keep b2 q6
  obtain ⟨qf, qz⟩ := boxKeep ⟨qf, qz⟩ b2
  have hB2 := bstep hB1 b2
  have zr2 := World.block_lt_of_cell? _ _ r0
  dsimp only at zr2
  obtain ⟨a5, c5, rfl⟩ := tabR_form (tabRR.ofO o2)
  obtain ⟨u5, e5, hV5⟩ := tabRR.ofO o2
  simp only [Value.agg.injEq, Array.mk.injEq, List.cons.injEq, and_true, true_and] at e5
  subst e5
  have HV5 : Hid (rowsR.V w2 (.slice a5 (mergeD d.tables).rows.length c5) (mergeD d.tables).rows) := hV5
  have HC2 : Hid (¬ (mergeD d.tables).code = 0 → compE d fl = codeE (mergeD d.tables).code) := HC.out h2
  have HOK2 : Hid ((mergeD d.tables).code = 0 → compE d fl = ⟨0, 0, { d with tables := [compL (mergeD d.tables).rows fl] }⟩) := HOK.out h2
  clear b2 o2 hV5 HC HOK H2 h2 h3 hB1
  generalize (mergeD d.tables).code = mc at *
  by_cases hmc : mc = 0
  rotate_left
  · have HE : Hid (compE d fl = codeE mc) := HC2.out hmc
    have hc : (mc == 0) = false := by simpa using hmc
    clear HC2 HOK2 HMO HV5
    generalize (mergeD d.tables).rows.length = lr at *
    go_wp2
    refine bodyPost_ret (v := .agg #[.int .i64 mc, .int .i64 0, .slice none 0 0, .slice none 0 0, .slice none 0 0, .slice none 0 0, .int .i64 0]) (by simp [results, Tryz.results31, go_sem, q0, q1, q2, q3, q4, q5, q6, qf, qz]) rfl ?_
    rw [HE.out]
    first | exact ⟨_, rfl, ⟨_, engR_nil _ _ mc 0 0⟩, balloc (bset7 hB2 (by omega) _ _ _ _ _ _ _) _⟩ | exact ⟨_, _, rfl, engR_nil _ _ mc 0 0, balloc (bset7 hB2 (by omega) _ _ _ _ _ _ _) _⟩
  have HE : Hid (compE d fl = ⟨0, 0, { d with tables := [compL (mergeD d.tables).rows fl] }⟩) := HOK2.out hmc
  obtain ⟨hri, htf, hrl⟩ := HMO.out hmc
  have HRI : Hid (Rises (mergeD d.tables).rows) := hri
  have HTF : Hid (tabF (mergeD d.tables).rows = 0) := htf
  subst hmc
  clear HC2 HOK2 HMO hri htf
  generalize (mergeD d.tables).rows = rows at *
  go_wp2_with fail
  refine (copied_u _ d _ (engnR.below HX.out (balloc hB2 _)) HWT.out).mono ?_
  rintro e w3 ⟨v3, F3, rfl, o3, b3⟩
  have s0 : w3.cell? ⟨w2.heap.size, 0, none⟩ = some (.int .i64 0) := cell_keep b3 (by simp [go_sem])
  have s1 : w3.cell? ⟨w2.heap.size, 1, none⟩ = some (.slice a5 rows.length c5) := cell_keep b3 (by simp [go_sem])
  have hb23 : Below w2.heap.size w2 w3 := bstep (by (repeat (first | exact Below.refl _ _ | assumption | refine Below.drew ?_ | refine balloc ?_ _ | refine bset ?_ (by simp; omega) _ | refine bset ?_ (by simp) _ | refine bstep ?_ (by assumption)))) b3
  have hz23 := b3.size
  simp only [World.size_alloc] at hz23
  replace r0 := cell_keep hb23 r0
  replace r1 := cell_keep hb23 r1
  replace r2 := cell_keep hb23 r2
  replace r3 := cell_keep hb23 r3
  replace r4 := cell_keep hb23 r4
  replace q0 := cell_keep hb23 q0
  replace q1 := cell_keep hb23 q1
  replace q2 := cell_keep hb23 q2
  replace q3 := cell_keep hb23 q3
  replace q4 := cell_keep hb23 q4
  replace q5 := cell_keep hb23 q5
  replace q6 := cell_keep hb23 q6
  obtain ⟨qf, qz⟩ := boxKeep ⟨qf, qz⟩ hb23
  have hB3 := bstep hB2 hb23
  have HO3 : Hid (engnR.O w3 w2.heap.size F3 v3 d) := engnR.base o3 (by simp)
  obtain ⟨p1, p2, p3, p4, k1, k2, k3, k4, rfl⟩ := engn_form (engnR.ofO o3)
  have HV6 : Hid (rowsR.V w3 (.slice a5 rows.length c5) rows) := rowsR.below HV5.out hb23
  clear o3 b3 hB2 HV5 r0 r1 r2 r3 r4
  have hn3 : rows.length ≤ 200 := hrl
  have zs3 : w2.heap.size < w3.heap.size := by omega
  have HCT : Hid (∀ W, Below w3.heap.size w3 W → Calls Tryz.prog 91 #[.slice a5 rows.length c5, .int .i64 fl] W fun e w' => ∃ a c F, e = .returned (.agg #[.int .i64 0, .slice a (compL rows fl).length c]) ∧ rowsR.O w' W.heap.size F (.slice a (compL rows fl).length c) (compL rows fl) ∧ Below W.heap.size W w') := fun W hW => by
    refine (implCompact_u _ rows fl W (rowsR.below HV6.out hW)).mono ?_
    rintro e w' ⟨v, F, rfl, h, hb⟩
    have hD : compD rows fl = ⟨0, compL rows fl⟩ := by unfold compD; rw [if_pos HTF.out]
    rw [hD] at h
    obtain ⟨u, F1, rfl, h1, _⟩ := h
    obtain ⟨a, c, rfl⟩ := rows_form (rowsR.ofO h1)
    exact ⟨a, c, F1, rfl, h1, hb⟩
  clear HV6 HRI HTF
  generalize rows.length = lr at *
  go_wp2_with fail
  refine (HCT.out _ (by (repeat (first | exact Below.refl _ _ | assumption | refine Below.drew ?_ | refine balloc ?_ _ | refine bset ?_ (by simp; omega) _ | refine bset ?_ (by simp) _ | refine bstep ?_ (by assumption))))).mono ?_
  rintro e w4 hh
  obtain ⟨a6, c6, F6, rfl, o6, b6⟩ := hh
  have x0 : w4.cell? ⟨w3.heap.size, 0, none⟩ = some (.slice p1 d.log.synced.length k1) := cell_keep b6 (by simp [go_sem])
  have x1 : w4.cell? ⟨w3.heap.size, 1, none⟩ = some (.slice p2 d.log.loose.length k2) := cell_keep b6 (by simp [go_sem])
  have x2 : w4.cell? ⟨w3.heap.size, 2, none⟩ = some (.slice p3 d.mem.length k3) := cell_keep b6 (by simp [go_sem])
  have x3 : w4.cell? ⟨w3.heap.size, 3, none⟩ = some (.slice p4 d.tables.length k4) := cell_keep b6 (by simp [go_sem])
  have x4 : w4.cell? ⟨w3.heap.size, 4, none⟩ = some (.int .i64 d.next) := cell_keep b6 (by simp [go_sem])
  obtain ⟨xf, xz⟩ : (∀ o, w4.frozen? ⟨w3.heap.size, o, none⟩ = false) ∧ w3.heap.size < w4.heap.size := by
    have h := b6.size
    simp only [World.size_alloc] at h
    exact ⟨fun o => by rw [(bcell b6).2 _ _ (by simp)]; simp [go_sem], by omega⟩
  have hb34 : Below w3.heap.size w3 w4 := bstep (by (repeat (first | exact Below.refl _ _ | assumption | refine Below.drew ?_ | refine balloc ?_ _ | refine bset ?_ (by simp; omega) _ | refine bset ?_ (by simp) _ | refine bstep ?_ (by assumption)))) b6
  replace q0 := cell_keep hb34 q0
  replace q1 := cell_keep hb34 q1
  replace q2 := cell_keep hb34 q2
  replace q3 := cell_keep hb34 q3
  replace q4 := cell_keep hb34 q4
  replace q5 := cell_keep hb34 q5
  replace q6 := cell_keep hb34 q6
  obtain ⟨qf, qz4⟩ := boxKeep ⟨qf, qz⟩ hb34
  have hB4 := bstep hB3 hb34
  have HO6 : Hid (rowsR.O w4 (w3.heap.size + 1) F6 (.slice a6 (compL rows fl).length c6) (compL rows fl)) := rowsR.base o6 (by simp)
  have HO4 : Hid (engnR.O w4 w2.heap.size F3 (.agg #[.slice p1 d.log.synced.length k1, .slice p2 d.log.loose.length k2, .slice p3 d.mem.length k3, .slice p4 d.tables.length k4, .int .i64 d.next]) d) := engnR.keep HO3.out hb34
  have HF3 : Hid (∀ b, F3 b → b < w3.heap.size) := fun b hb => (engnR.rng HO3.out b hb).2
  have hB2z : w.heap.size ≤ w2.heap.size := by omega
  clear o6 b6 HCT HO3 hb34 hb23 hB3 s0 s1
  generalize hlc : (compL rows fl).length = lc at *
  have HLC : Hid ((compL rows fl).length = lc) := hlc
  clear hlc
  have hfd : ∀ w, (Instr.field 61 (.agg #[.int .i64 0, .slice a6 lc c6]) 1).run Tryz.prog w = .ok (.slice a6 lc c6) w := fun w => by kernel_rfl
  have hne : ¬ w.heap.size + 1 = w3.heap.size := by omega
  have hz5 : w.heap.size + 1 < w2.heap.size := by assumption
  go_wp2
  refine bodyPost_ret (v := .agg #[.int .i64 0, .int .i64 0, .slice p1 d.log.synced.length k1, .slice p2 d.log.loose.length k2, .slice p3 d.mem.length k3, .slice (some ⟨w4.heap.size, 0, none⟩) 1 1, .int .i64 d.next]) (by simp [results, Tryz.results31, go_sem, q0, q1, q2, q3, q4, q5, q6, qf, qz4, hne]) rfl ?_
  rw [HE.out]
  have hMm : Mod (fun b => b = w3.heap.size ∨ b = w.heap.size + 1) w4 ((((((((w4.setCell ⟨w3.heap.size, 3, none⟩ (.slice (some ⟨w4.heap.size, 0, none⟩) 1 1)).setCell ⟨w.heap.size + 1, 0, none⟩ (.int .i64 0)).setCell ⟨w.heap.size + 1, 1, none⟩ (.int .i64 0)).setCell ⟨w.heap.size + 1, 2, none⟩ (.slice p1 d.log.synced.length k1)).setCell ⟨w.heap.size + 1, 3, none⟩ (.slice p2 d.log.loose.length k2)).setCell ⟨w.heap.size + 1, 4, none⟩ (.slice p3 d.mem.length k3)).setCell ⟨w.heap.size + 1, 5, none⟩ (.slice (some ⟨w4.heap.size, 0, none⟩) 1 1)).setCell ⟨w.heap.size + 1, 6, none⟩ (.int .i64 d.next)) := mset7 (mset (Mod.refl _ _) ⟨w3.heap.size, 3, none⟩ _ (.inl rfl)) (.inr rfl) _ _ _ _ _ _ _
  have hsz : ((((((((w4.setCell ⟨w3.heap.size, 3, none⟩ (.slice (some ⟨w4.heap.size, 0, none⟩) 1 1)).setCell ⟨w.heap.size + 1, 0, none⟩ (.int .i64 0)).setCell ⟨w.heap.size + 1, 1, none⟩ (.int .i64 0)).setCell ⟨w.heap.size + 1, 2, none⟩ (.slice p1 d.log.synced.length k1)).setCell ⟨w.heap.size + 1, 3, none⟩ (.slice p2 d.log.loose.length k2)).setCell ⟨w.heap.size + 1, 4, none⟩ (.slice p3 d.mem.length k3)).setCell ⟨w.heap.size + 1, 5, none⟩ (.slice (some ⟨w4.heap.size, 0, none⟩) 1 1)).setCell ⟨w.heap.size + 1, 6, none⟩ (.int .i64 d.next)).heap.size = w4.heap.size := by simp
  generalize (((((((w4.setCell ⟨w3.heap.size, 3, none⟩ (.slice (some ⟨w4.heap.size, 0, none⟩) 1 1)).setCell ⟨w.heap.size + 1, 0, none⟩ (.int .i64 0)).setCell ⟨w.heap.size + 1, 1, none⟩ (.int .i64 0)).setCell ⟨w.heap.size + 1, 2, none⟩ (.slice p1 d.log.synced.length k1)).setCell ⟨w.heap.size + 1, 3, none⟩ (.slice p2 d.log.loose.length k2)).setCell ⟨w.heap.size + 1, 4, none⟩ (.slice p3 d.mem.length k3)).setCell ⟨w.heap.size + 1, 5, none⟩ (.slice (some ⟨w4.heap.size, 0, none⟩) 1 1)).setCell ⟨w.heap.size + 1, 6, none⟩ (.int .i64 d.next) = Wm at *
  have h6' := rowsR.mod HO6.out hMm (fun b hb e => by
    have := (rowsR.rng HO6.out b hb).1
    omega)
  have hTL := rowss_lit (base := w2.heap.size) h6' (by omega) (by omega)
  rw [hsz] at hTL
  obtain ⟨FE, hEN⟩ := eng_tabs HO4.out (hMm.alloc (.cells #[.slice a6 lc c6] 32)) (fun b hb e => by have := HF3.out b hb; have := (engnR.rng HO4.out b hb).1; omega) hTL (fun b hb h => by
    have := HF3.out b hb
    rcases h with h | h
    · omega
    · have := (rowsR.rng HO6.out b h).1
      omega)
  have hfin := engR_of (e := { d with tables := [compL rows fl] }) 0 0 hEN
  have hBm : Below w.heap.size w Wm := hMm.below hB4 hB4.size (fun b e => by omega)
  first | exact ⟨_, FE, rfl, engRR.base hfin hB2z, balloc hBm _⟩ | exact ⟨_, rfl, ⟨FE, engRR.base hfin hB2z⟩, balloc hBm _⟩
end Go.Proofs.YtdfapehonegeeaaGreat


import Derived.Test.YtpibfdebfacooaaGreatPrnCrashJournalLaw18
import Derived.Laws.CopyRow
import Derived.Laws.Externs
import Derived.Lib.Overlaps
import Derived.Lib.AppendZerosOnto
import Derived.Deep.RegionLaw
set_option maxHeartbeats 4000000
set_option maxRecDepth 100000
set_option linter.unusedSimpArgs false
set_option linter.unusedVariables false
set_option linter.unusedSectionVars false
namespace Go.Proofs.YtpibfdebfacooaaGreat
open Go.RowKit
attribute [local go_sem ↓] Go.wp_at_zero Go.wp_at_succ
section
variable [dQ Leg] [iH Leg] [dQ Mrk] [iH Mrk] [dQ Bal] [iH Bal] [dQ Cont] [iH Cont] [dQ Shd] [iH Shd] [dQ ShdR] [iH ShdR]
theorem fO8 {w:World} {base:Nat} {F:Nat→Prop} {u1 u2 u3 u4 u5:Value} {d:Shd} (h:shdR.O w base F (.agg #[.int .i64 d.idx,u1,u2,u3,u4,u5]) d) :
  ∃Fj,balsR.O w base Fj u1 d.bals∧(∀b,Fj b→F b)∧∀(w':World) (Fj':Nat→Prop) (v:Value) (ys:List Bal),balsR.O w' base Fj' v ys→Mod Fj w w'→(∀b,Fj' b→Fj b∨w.heap.size≤b) →
   ∃F',shdR.O w' base F' (.agg #[.int .i64 d.idx,v,u2,u3,u4,u5]) ⟨d.idx,ys,d.votes,d.held,d.done,d.appl⟩∧∀b,F' b→F b∨w.heap.size≤b:=by
 obtain⟨v1,v2,v3,v4,v5,F1,F2,F3,F4,F5,e,h1,h2,h3,h4,h5,s12,s13,s14,s15,s23,s24,s25,s34,s35,s45,hF⟩:=h;simp only[Value.agg.injEq,Array.mk.injEq,List.cons.injEq,and_true,true_and] at e;obtain⟨rfl,rfl,rfl,rfl,rfl⟩:=e;refine⟨F1,h1,fun b hb=>(hF b).2 (.inl (hb)),fun w' Fj' v ys ho hm hn=>⟨fun b=>Fj' b∨F2 b∨F3 b∨F4 b∨F5 b,⟨_,_,_,_,_,Fj',F2,F3,F4,F5,rfl,ho,mrksR.mod h2 hm (fun b hb hj=>s12 b hj hb),contsR.mod h3 hm (fun b hb hj=>s13 b hj hb),mrksR.mod h4 hm (fun b hb hj=>s14 b hj hb),intsR.mod h5 hm (fun b hb hj=>s15 b hj hb),fun b hj hi=>(hn b hj).elim (fun h=>s12 b h hi) (fun h=>by have:=(mrksR.rng h2 b hi).2;omega),fun b hj hi=>(hn b hj).elim (fun h=>s13 b h hi) (fun h=>by have:=(contsR.rng h3 b hi).2;omega),fun b hj hi=>(hn b hj).elim (fun h=>s14 b h hi) (fun h=>by have:=(mrksR.rng h4 b hi).2;omega),fun b hj hi=>(hn b hj).elim (fun h=>s15 b h hi) (fun h=>by have:=(intsR.rng h5 b hi).2;omega),s23,s24,s25,s34,s35,s45,fun b=>Iff.rfl⟩,fun b hb=>?_⟩⟩;rcases hb with hb|hb|hb|hb|hb
 ·exact(hn b hb).imp (fun h=>(hF b).2 (.inl (h))) id
 ·exact .inl ((hF b).2 (.inr (.inl (hb))))
 ·exact .inl ((hF b).2 (.inr (.inr (.inl (hb)))))
 ·exact .inl ((hF b).2 (.inr (.inr (.inr (.inl (hb))))))
 exact .inl ((hF b).2 (.inr (.inr (.inr (.inr (hb))))))
theorem fFp {w:World} {base:Nat} {F:Nat→Prop} {u1 u2 u3 u4 u5:Value} {d:Shd} (h:shdR.O w base F (.agg #[.int .i64 d.idx,u1,u2,u3,u4,u5]) d) :
  ∃Fj,mrksR.O w base Fj u2 d.votes∧(∀b,Fj b→F b)∧∀(w':World) (Fj':Nat→Prop) (v:Value) (ys:List Mrk),mrksR.O w' base Fj' v ys→Mod Fj w w'→(∀b,Fj' b→Fj b∨w.heap.size≤b) →
   ∃F',shdR.O w' base F' (.agg #[.int .i64 d.idx,u1,v,u3,u4,u5]) ⟨d.idx,d.bals,ys,d.held,d.done,d.appl⟩∧∀b,F' b→F b∨w.heap.size≤b:=by
 obtain⟨v1,v2,v3,v4,v5,F1,F2,F3,F4,F5,e,h1,h2,h3,h4,h5,s12,s13,s14,s15,s23,s24,s25,s34,s35,s45,hF⟩:=h;simp only[Value.agg.injEq,Array.mk.injEq,List.cons.injEq,and_true,true_and] at e;obtain⟨rfl,rfl,rfl,rfl,rfl⟩:=e;refine⟨F2,h2,fun b hb=>(hF b).2 (.inr (.inl (hb))),fun w' Fj' v ys ho hm hn=>⟨fun b=>F1 b∨Fj' b∨F3 b∨F4 b∨F5 b,⟨_,_,_,_,_,F1,Fj',F3,F4,F5,rfl,balsR.mod h1 hm (fun b hb hj=>s12 b hb hj),ho,contsR.mod h3 hm (fun b hb hj=>s23 b hj hb),mrksR.mod h4 hm (fun b hb hj=>s24 b hj hb),intsR.mod h5 hm (fun b hb hj=>s25 b hj hb),fun b hi hj=>(hn b hj).elim (fun h=>s12 b hi h) (fun h=>by have:=(balsR.rng h1 b hi).2;omega),s13,s14,s15,fun b hj hi=>(hn b hj).elim (fun h=>s23 b h hi) (fun h=>by have:=(contsR.rng h3 b hi).2;omega),fun b hj hi=>(hn b hj).elim (fun h=>s24 b h hi) (fun h=>by have:=(mrksR.rng h4 b hi).2;omega),fun b hj hi=>(hn b hj).elim (fun h=>s25 b h hi) (fun h=>by have:=(intsR.rng h5 b hi).2;omega),s34,s35,s45,fun b=>Iff.rfl⟩,fun b hb=>?_⟩⟩;rcases hb with hb|hb|hb|hb|hb
 ·exact .inl ((hF b).2 (.inl (hb)))
 ·exact(hn b hb).imp (fun h=>(hF b).2 (.inr (.inl (h)))) id
 ·exact .inl ((hF b).2 (.inr (.inr (.inl (hb)))))
 ·exact .inl ((hF b).2 (.inr (.inr (.inr (.inl (hb))))))
 exact .inl ((hF b).2 (.inr (.inr (.inr (.inr (hb))))))
theorem vQ {w:World} {base:Nat} {F:Nat→Prop} {u1 u2 u3 u4 u5:Value} {d:Shd} (h:shdR.O w base F (.agg #[.int .i64 d.idx,u1,u2,u3,u4,u5]) d) :
  ∃Fj,contsR.O w base Fj u3 d.held∧(∀b,Fj b→F b)∧∀(w':World) (Fj':Nat→Prop) (v:Value) (ys:List Cont),contsR.O w' base Fj' v ys→Mod Fj w w'→(∀b,Fj' b→Fj b∨w.heap.size≤b) →
   ∃F',shdR.O w' base F' (.agg #[.int .i64 d.idx,u1,u2,v,u4,u5]) ⟨d.idx,d.bals,d.votes,ys,d.done,d.appl⟩∧∀b,F' b→F b∨w.heap.size≤b:=by
 obtain⟨v1,v2,v3,v4,v5,F1,F2,F3,F4,F5,e,h1,h2,h3,h4,h5,s12,s13,s14,s15,s23,s24,s25,s34,s35,s45,hF⟩:=h;simp only[Value.agg.injEq,Array.mk.injEq,List.cons.injEq,and_true,true_and] at e;obtain⟨rfl,rfl,rfl,rfl,rfl⟩:=e;refine⟨F3,h3,fun b hb=>(hF b).2 (.inr (.inr (.inl (hb)))),fun w' Fj' v ys ho hm hn=>⟨fun b=>F1 b∨F2 b∨Fj' b∨F4 b∨F5 b,⟨_,_,_,_,_,F1,F2,Fj',F4,F5,rfl,balsR.mod h1 hm (fun b hb hj=>s13 b hb hj),mrksR.mod h2 hm (fun b hb hj=>s23 b hb hj),ho,mrksR.mod h4 hm (fun b hb hj=>s34 b hj hb),intsR.mod h5 hm (fun b hb hj=>s35 b hj hb),s12,fun b hi hj=>(hn b hj).elim (fun h=>s13 b hi h) (fun h=>by have:=(balsR.rng h1 b hi).2;omega),s14,s15,fun b hi hj=>(hn b hj).elim (fun h=>s23 b hi h) (fun h=>by have:=(mrksR.rng h2 b hi).2;omega),s24,s25,fun b hj hi=>(hn b hj).elim (fun h=>s34 b h hi) (fun h=>by have:=(mrksR.rng h4 b hi).2;omega),fun b hj hi=>(hn b hj).elim (fun h=>s35 b h hi) (fun h=>by have:=(intsR.rng h5 b hi).2;omega),s45,fun b=>Iff.rfl⟩,fun b hb=>?_⟩⟩;rcases hb with hb|hb|hb|hb|hb
 ·exact .inl ((hF b).2 (.inl (hb)))
 ·exact .inl ((hF b).2 (.inr (.inl (hb))))
 ·exact(hn b hb).imp (fun h=>(hF b).2 (.inr (.inr (.inl (h))))) id
 ·exact .inl ((hF b).2 (.inr (.inr (.inr (.inl (hb))))))
 exact .inl ((hF b).2 (.inr (.inr (.inr (.inr (hb))))))
theorem fO9 {w:World} {base:Nat} {F:Nat→Prop} {u1 u2 u3 u4 u5:Value} {d:Shd} (h:shdR.O w base F (.agg #[.int .i64 d.idx,u1,u2,u3,u4,u5]) d) :
  ∃Fj,mrksR.O w base Fj u4 d.done∧(∀b,Fj b→F b)∧∀(w':World) (Fj':Nat→Prop) (v:Value) (ys:List Mrk),mrksR.O w' base Fj' v ys→Mod Fj w w'→(∀b,Fj' b→Fj b∨w.heap.size≤b) →
   ∃F',shdR.O w' base F' (.agg #[.int .i64 d.idx,u1,u2,u3,v,u5]) ⟨d.idx,d.bals,d.votes,d.held,ys,d.appl⟩∧∀b,F' b→F b∨w.heap.size≤b:=by
 obtain⟨v1,v2,v3,v4,v5,F1,F2,F3,F4,F5,e,h1,h2,h3,h4,h5,s12,s13,s14,s15,s23,s24,s25,s34,s35,s45,hF⟩:=h;simp only[Value.agg.injEq,Array.mk.injEq,List.cons.injEq,and_true,true_and] at e;obtain⟨rfl,rfl,rfl,rfl,rfl⟩:=e;refine⟨F4,h4,fun b hb=>(hF b).2 (.inr (.inr (.inr (.inl (hb))))),fun w' Fj' v ys ho hm hn=>⟨fun b=>F1 b∨F2 b∨F3 b∨Fj' b∨F5 b,⟨_,_,_,_,_,F1,F2,F3,Fj',F5,rfl,balsR.mod h1 hm (fun b hb hj=>s14 b hb hj),mrksR.mod h2 hm (fun b hb hj=>s24 b hb hj),contsR.mod h3 hm (fun b hb hj=>s34 b hb hj),ho,intsR.mod h5 hm (fun b hb hj=>s45 b hj hb),s12,s13,fun b hi hj=>(hn b hj).elim (fun h=>s14 b hi h) (fun h=>by have:=(balsR.rng h1 b hi).2;omega),s15,s23,fun b hi hj=>(hn b hj).elim (fun h=>s24 b hi h) (fun h=>by have:=(mrksR.rng h2 b hi).2;omega),s25,fun b hi hj=>(hn b hj).elim (fun h=>s34 b hi h) (fun h=>by have:=(contsR.rng h3 b hi).2;omega),s35,fun b hj hi=>(hn b hj).elim (fun h=>s45 b h hi) (fun h=>by have:=(intsR.rng h5 b hi).2;omega),fun b=>Iff.rfl⟩,fun b hb=>?_⟩⟩;rcases hb with hb|hb|hb|hb|hb
 ·exact .inl ((hF b).2 (.inl (hb)))
 ·exact .inl ((hF b).2 (.inr (.inl (hb))))
 ·exact .inl ((hF b).2 (.inr (.inr (.inl (hb)))))
 ·exact(hn b hb).imp (fun h=>(hF b).2 (.inr (.inr (.inr (.inl (h)))))) id
 exact .inl ((hF b).2 (.inr (.inr (.inr (.inr (hb))))))
theorem fD0 {w:World} {base:Nat} {F:Nat→Prop} {u1 u2 u3 u4 u5:Value} {d:Shd} (h:shdR.O w base F (.agg #[.int .i64 d.idx,u1,u2,u3,u4,u5]) d) :
  ∃Fj,intsR.O w base Fj u5 d.appl∧(∀b,Fj b→F b)∧∀(w':World) (Fj':Nat→Prop) (v:Value) (ys:List Int),intsR.O w' base Fj' v ys→Mod Fj w w'→(∀b,Fj' b→Fj b∨w.heap.size≤b) →
   ∃F',shdR.O w' base F' (.agg #[.int .i64 d.idx,u1,u2,u3,u4,v]) ⟨d.idx,d.bals,d.votes,d.held,d.done,ys⟩∧∀b,F' b→F b∨w.heap.size≤b:=by
 obtain⟨v1,v2,v3,v4,v5,F1,F2,F3,F4,F5,e,h1,h2,h3,h4,h5,s12,s13,s14,s15,s23,s24,s25,s34,s35,s45,hF⟩:=h;simp only[Value.agg.injEq,Array.mk.injEq,List.cons.injEq,and_true,true_and] at e;obtain⟨rfl,rfl,rfl,rfl,rfl⟩:=e;refine⟨F5,h5,fun b hb=>(hF b).2 (.inr (.inr (.inr (.inr (hb))))),fun w' Fj' v ys ho hm hn=>⟨fun b=>F1 b∨F2 b∨F3 b∨F4 b∨Fj' b,⟨_,_,_,_,_,F1,F2,F3,F4,Fj',rfl,balsR.mod h1 hm (fun b hb hj=>s15 b hb hj),mrksR.mod h2 hm (fun b hb hj=>s25 b hb hj),contsR.mod h3 hm (fun b hb hj=>s35 b hb hj),mrksR.mod h4 hm (fun b hb hj=>s45 b hb hj),ho,s12,s13,s14,fun b hi hj=>(hn b hj).elim (fun h=>s15 b hi h) (fun h=>by have:=(balsR.rng h1 b hi).2;omega),s23,s24,fun b hi hj=>(hn b hj).elim (fun h=>s25 b hi h) (fun h=>by have:=(mrksR.rng h2 b hi).2;omega),s34,fun b hi hj=>(hn b hj).elim (fun h=>s35 b hi h) (fun h=>by have:=(contsR.rng h3 b hi).2;omega),fun b hi hj=>(hn b hj).elim (fun h=>s45 b hi h) (fun h=>by have:=(mrksR.rng h4 b hi).2;omega),fun b=>Iff.rfl⟩,fun b hb=>?_⟩⟩;rcases hb with hb|hb|hb|hb|hb
 ·exact .inl ((hF b).2 (.inl (hb)))
 ·exact .inl ((hF b).2 (.inr (.inl (hb))))
 ·exact .inl ((hF b).2 (.inr (.inr (.inl (hb)))))
 ·exact .inl ((hF b).2 (.inr (.inr (.inr (.inl (hb))))))
 exact(hn b hb).imp (fun h=>(hF b).2 (.inr (.inr (.inr (.inr (h)))))) id
theorem uZ {w:World} {base:Nat} {F:Nat→Prop} {u1 u2 u3 u4 u5:Value} {d:Shd} (c v:Int) (h:shdR.O w base F (.agg #[.int .i64 d.idx,u1,u2,u3,u4,u5]) d):shdRR.O w base F (.agg #[.int .i64 c,.int .i64 v,.int .i64 d.idx,u1,u2,u3,u4,u5]) ⟨c,v,d⟩:=
 ⟨_,_,_,_,_,F,rfl,h,fun _=>Iff.rfl⟩
theorem mF {w:World} {base:Nat} {F:Nat→Prop} {v:Value} {x:Shd} (h:shdR.O w base F v x):∃a1 a2 a3 a4 a5 c1 c2 c3 c4 c5,v =.agg #[.int .i64 x.idx,.slice a1 x.bals.length c1,.slice a2 x.votes.length c2,.slice a3 x.held.length c3,.slice a4 x.done.length c4,.slice a5 x.appl.length c5]:=fB0 (shdR.ofO h)
theorem fJe (w:World) (base:Nat):∃F,shdR.O w base F (.agg #[.int .i64 0,.slice none 0 0,.slice none 0 0,.slice none 0 0,.slice none 0 0,.slice none 0 0]) ⟨0,[],[],[],[],[]⟩:=
 ⟨fun _=>False,_,_,_,_,_,(fun _=>False),(fun _=>False),(fun _=>False),(fun _=>False),(fun _=>False),rfl,⟨World.ownsRow_nil _ _ _ _,by funext b;simp[Value.ownBlock]⟩,⟨World.ownsRow_nil _ _ _ _,by funext b;simp[Value.ownBlock]⟩,xH w base,⟨World.ownsRow_nil _ _ _ _,by funext b;simp[Value.ownBlock]⟩,⟨World.ownsRow_nil _ _ _ _,by funext b;simp[Value.ownBlock]⟩,fun _ h _=>h,fun _ h _=>h,fun _ h _=>h,fun _ h _=>h,fun _ h _=>h,fun _ h _=>h,fun _ h _=>h,fun _ h _=>h,fun _ h _=>h,fun _ h _=>h,fun b=>by simp⟩
theorem vD {α:Type} (R:Rep α) {W:World} {base B:Nat} {F:Nat→Prop} {v:Value} {x:α} (h:R.O W base F v x) (hB:¬F B) (u0 u1 u2 u3 u4 u5 u6 u7:Value) :
  R.O ((((((((W.setCell ⟨B,0,none⟩ u0).setCell ⟨B,1,none⟩ u1).setCell ⟨B,2,none⟩ u2).setCell ⟨B,3,none⟩ u3).setCell ⟨B,4,none⟩ u4).setCell ⟨B,5,none⟩ u5).setCell ⟨B,6,none⟩ u6).setCell ⟨B,7,none⟩ u7) base F v x:=
 have hn:∀b,F b→¬(b=B):=fun b hb e=>hB (e▸hb)
 R.mod (R.mod (R.mod (R.mod (R.mod (R.mod (R.mod (R.mod h (Mod.of_set W ⟨B,0,none⟩ u0) hn) (Mod.of_set _ ⟨B,1,none⟩ u1) hn) (Mod.of_set _ ⟨B,2,none⟩ u2) hn) (Mod.of_set _ ⟨B,3,none⟩ u3) hn) (Mod.of_set _ ⟨B,4,none⟩ u4) hn) (Mod.of_set _ ⟨B,5,none⟩ u5) hn) (Mod.of_set _ ⟨B,6,none⟩ u6) hn) (Mod.of_set _ ⟨B,7,none⟩ u7) hn
theorem fVw {α:Type} (R:Rep α) {W:World} {base B:Nat} {F:Nat→Prop} {v:Value} {x:α} (h:R.O W base F v x) (hB:¬F B) (u0 u1 u2 u3 u4 u5:Value) :
  R.O ((((((W.setCell ⟨B,0,none⟩ u0).setCell ⟨B,1,none⟩ u1).setCell ⟨B,2,none⟩ u2).setCell ⟨B,3,none⟩ u3).setCell ⟨B,4,none⟩ u4).setCell ⟨B,5,none⟩ u5) base F v x:=
 have hn:∀b,F b→¬(b=B):=fun b hb e=>hB (e▸hb)
 R.mod (R.mod (R.mod (R.mod (R.mod (R.mod h (Mod.of_set W ⟨B,0,none⟩ u0) hn) (Mod.of_set _ ⟨B,1,none⟩ u1) hn) (Mod.of_set _ ⟨B,2,none⟩ u2) hn) (Mod.of_set _ ⟨B,3,none⟩ u3) hn) (Mod.of_set _ ⟨B,4,none⟩ u4) hn) (Mod.of_set _ ⟨B,5,none⟩ u5) hn
theorem fRa {α:Type} (R:Rep α) {W:World} {base B o:Nat} {F:Nat→Prop} {v:Value} {x:α} (h:R.O W base F v x) (hB:¬F B) (u:Value):R.O (W.setCell ⟨B,o,none⟩ u) base F v x:=
 have hn:∀b,F b→¬(b=B):=fun b hb e=>hB (e▸hb)
 R.mod h (Mod.of_set W ⟨B,o,none⟩ u) hn
end
section
open Go.Shelf
variable [dQ Mrk] [iH Mrk] [dQ Bal] [iH Bal] [dQ Ledg] [iH Ledg] [dQ Leg] [iH Leg]
theorem fBx (w:World) (dT sT ty elem:TypeId) (sz g o dLen dCap:Nat) (a:Addr) (sLen sCap m:Nat) (cur:Array Value) (t:TypeId) (cs:List Value)
  (hu:Tryz.prog.underlying dT=some (.slice elem)) (hs:(Tryz.prog.info? elem).map (·.size)=some sz)
  (hg:w.heap[g]? = some (.cells cur t (0,0))) (hm:Nat.min sLen dLen=m) (hn:cs.length=m*sz)
  (hsrc:∀j v,cs[j]? = some v→w.cell? (a.add j)=some v) (hfit:o+cs.length≤cur.size) (h1:∀v ∈ cs,v.oneCell'=true) :
  (Builtin.copy_ #[dT,sT] ty #[.slice (some ⟨g,o,none⟩) dLen dCap,.slice (some a) sLen sCap]).run Tryz.prog w =
   .ok (goInt m) (w.setRow g (cur.toList.take o++cs++cur.toList.drop (o+cs.length)).toArray):=by
 have hl:=run_loadCells_list (P:=Tryz.prog) w a cs hsrc;have hst:=run_storeCells_at Tryz.prog g o t cs 0 cur w hg (by simpa using hfit) h1;cases hq:Tryz.prog.info? elem with
 | none=>simp[hq] at hs
 | some i=>
  have hi:i.size=sz:=by simpa [hq] using hs
  rw[hn] at hl;simp[Builtin.copy_,run_underlying hu,Builtin.lenOf,Builtin.firstCells,sizeOf,typeInfo,hq,hi,hm,hl,hst]
theorem fLs (w:World) {ops:Array Oper} {rest:List Oper} {o:Oper} {a:Act} {Q:Exit→Act→World→Prop} (hgd:o.guard=none) (d s:Operand) (t t':TypeId)
  (ho:o.op =.call {callee:=.builtin .copy,args:=#[d,s],argTypes:=#[t,t']}) (v u:Value) (hd:a.eval d=v) (hs:a.eval s=u) {v':Value} {w':World}
  (hr:(Builtin.copy_ #[t,t'] o.type #[v,u]).run Tryz.prog w =.ok v' w') (h:wpList Tryz.prog ops Q rest (a.put o.dst v') w'):wpList Tryz.prog ops Q (o::rest) a w:=by
 refine wpList_plain hgd fun K hK=>?_
 unfold Oper.wp execOp;simp only[ho,resolve,invoke,builtin,Sem.run_bind,Sem.run_pure,Result.andThen_ok,List.map_toArray,List.map_cons,List.map_nil,hd,hs,hr];exact hK _ _ h
theorem fHx {ops:Array Oper} {o:Oper} {a:Act} {w:World} {K:Act→World→Prop} {Q:Exit→Act→World→Prop} {E:Prop} (hgd:o.guard=none) (d s:Operand) (t t':TypeId)
  (ho:o.op =.call {callee:=.builtin .copy,args:=#[d,s],argTypes:=#[t,t']}) (v u:Value) (hd:a.eval d=v) (hs:a.eval s=u) {v':Value} {w':World}
  (hr:(Builtin.copy_ #[t,t'] o.type #[v,u]).run Tryz.prog w =.ok v' w') (hK:K (a.put o.dst v') w') :
  if Region.wanted o (yielded ops a.tmps)=true then Oper.wp Tryz.prog o a w K Q else E:=by
 have hw:Region.wanted o (yielded ops a.tmps)=true:=by simp[Region.wanted,hgd]
 rw[if_pos hw];unfold Oper.wp execOp;simp only[ho,resolve,invoke,builtin,Sem.run_bind,Sem.run_pure,Result.andThen_ok,List.map_toArray,List.map_cons,List.map_nil,hd,hs,hr];exact hK
theorem uX (w:World) (g:Nat) (cs:Array Value):Mod (fun b=>b=g) w (w.setRow g cs):=
 ⟨rfl,rfl,rfl,by simp[World.setRow],fun k _ hn=>setRow_other w g k cs hn⟩
theorem xB (b o j:Nat):(⟨b,o,none⟩:Addr).add j=⟨b,o+j,none⟩:=by
 by_cases hj0:j=0
 ·subst hj0;simp[Addr.add]
 simp[Addr.add,hj0]
theorem yZ {w:World} {g j:Nat} {cur:Array Value} {t:TypeId} {fr:Nat × Nat} {v:Value} (hg:w.heap[g]? = some (.cells cur t fr)) (h:cur.toList[j]? = some v):w.cell? ⟨g,j,none⟩=some v:=by
 have:cur[j]? = some v:=by rw[←Array.getElem?_toList];exact h
 simp[World.cell?,hg,this]
theorem fSq (w:World) (o:Obj):(w.alloc o).heap[w.heap.size]? = some o:=by
 show(w.heap.push o)[w.heap.size]? = some o;simp[Array.getElem?_push]
theorem fRc {cur cs vs:List Value} {k m:Nat} (hk:k≤cs.length) (hc:cur.take cs.length=cs) (hl:cs.length+m≤cur.length) (hv:vs.length=m) :
  ((((cur.take (k+m)++cs.drop k++cur.drop (k+m+(cs.drop k).length)).take k++vs++(cur.take (k+m)++cs.drop k++cur.drop (k+m+(cs.drop k).length)).drop (k+vs.length)).length=cur.length) ∧
  ((cur.take (k+m)++cs.drop k++cur.drop (k+m+(cs.drop k).length)).take k++vs++(cur.take (k+m)++cs.drop k++cur.drop (k+m+(cs.drop k).length)).drop (k+vs.length)).take (cs.length+m)=cs.take k++vs++cs.drop k):=by
 subst hv;have h1:(cur.take (k+vs.length)++cs.drop k++cur.drop (k+vs.length+(cs.drop k).length)).take k=cs.take k:=by
  rw[List.append_assoc,List.take_append_of_le_length (by rw[List.length_take];omega),List.take_take];conv=>rhs;rw[←hc,List.take_take]
  congr 1
  omega
 have h2:(cur.take (k+vs.length)++cs.drop k++cur.drop (k+vs.length+(cs.drop k).length)).drop (k+vs.length)=cs.drop k++cur.drop (k+vs.length+(cs.drop k).length):=by
  rw[List.append_assoc,List.drop_append_of_le_length (by rw[List.length_take];omega),List.drop_take];simp
 rw[h1,h2];have hd:(cs.drop k).length=cs.length-k:=List.length_drop ..;constructor
 ·simp only[List.length_append,List.length_take,List.length_drop];omega
 rw[←List.append_assoc,List.take_append_of_le_length (by simp only[List.length_append,List.length_take,List.length_drop];omega),List.take_of_length_le (by simp only[List.length_append,List.length_take,List.length_drop];omega)]
theorem fIw (g n c i vb:Nat) (cs vs:List Value) (cur:Array Value) (w:World) (hg:w.heap[g]? = some (.cells cur 166 (0,0))) (hi:i<n) (hroom:n+1≤c) (hc63:c≤9223372036854775807) (hvb:vb≠g)
  (hcur:cur.size=c*2) (hcl:cs.length=n*2) (ht:cur.toList.take (n*2)=cs) (hvl:vs.length=2) (hv:w.heap[vb]? = some (.cells vs.toArray 166 (0,0))) (h1c:∀v ∈ cs,v.oneCell'=true) (h1v:∀v ∈ vs,v.oneCell'=true) :
  Calls Tryz.prog 211 #[.slice (some ⟨g,0,none⟩) n c,.int .i64 i,.slice (some ⟨vb,0,none⟩) 1 1] w fun e w'=>
   e =.returned (.slice (some ⟨g,0,none⟩) (n+1) c)∧∃cur':Array Value,w'.heap[g]? = some (.cells cur' 166 (0,0))∧cur'.size=c*2∧cur'.toList.take ((n+1)*2)=cs.take (i*2)++vs++cs.drop (i*2)∧Mod (fun b=>b=g) w w':=by
 have hz2:¬((i:Int)=(n:Int)):=oM;have hsz:(Tryz.prog.info? 166).map (·.size)=some 2:=by
  obtain⟨i0,hi0,_,h1,_⟩:=info_parts fCm;rw[hi0];simp[h1]
 have hzz:∀w,(Go.sizeOf 166).run Tryz.prog w =.ok 2 w:=fun w=>by
  obtain⟨i0,hi0,_,h1,_⟩:=info_parts fCm;simp[sizeOf,typeInfo,hi0,h1]
 have hov:∀lb cb,(callFunc 231 #[.slice (some ⟨vb,0,none⟩) 1 1,.slice (some ⟨g,(i+1)*2,none⟩) lb cb]).run Tryz.prog w =.ok (.value (.bool false)) w:=fun lb cb=>by
  rw[run_callFunc_extern Tryz.func231 kF kF kF (e:=Extern.SlicesOverlaps.overlaps #[37,37] #[4]) kF,
   Lib.run_overlaps_apart w 37 4 166 Tryz.underlying37 2 hzz ⟨vb,0,none⟩ ⟨g,(i+1)*2,none⟩ 1 1 lb cb hvb 166 166 2 (c*2) (by simp[World.shape?,hv,hvl]) (by simp[World.shape?,hg,hcur]) oM (by simp[World.frozen?,hv]) (by simp[World.frozen?,hv])]
  rfl
 have hdl:(cs.drop (i*2)).length=(n-i)*2:=by rw[List.length_drop,hcl];omega
 have hb1:(0:Int)≤(i:Int)+1:=oM;have hw1:IntKind.i64.wrap ((i:Int)+1)=(i:Int)+1:=by rw[IntKind.wrap_i64];omega
 have htn:((i:Int)+1).toNat=i+1:=oM;have hin:i≤n:=oM;have hb2:¬(c=i+1):=oM;have hb3:(i:Int)≤(n:Int)+1:=oM;have hb4:¬(c=i):=oM;obtain⟨A1,hA1⟩:∃A1:Array Value,A1=(cur.toList.take ((i+1)*2)++cs.drop (i*2)++cur.toList.drop ((i+1)*2+(cs.drop (i*2)).length)).toArray:=⟨_,rfl⟩
 have hcp1:∀ty dl dc sl sc,dl=n-i→sl=n+1-i→(Builtin.copy_ #[37,37] ty #[.slice (some ⟨g,(i+1)*2,none⟩) dl dc,.slice (some ⟨g,i*2,none⟩) sl sc]).run Tryz.prog w.drew =.ok (goInt ((n-i:Nat):Int)) (w.drew.setRow g A1):=fun ty dl dc sl sc e1 e2=>by
  rw[hA1];refine fBx w.drew _ _ ty 166 2 g ((i+1)*2) dl dc ⟨g,i*2,none⟩ sl sc (n-i) cur 166 (cs.drop (i*2)) Tryz.underlying37 hsz hg (by simp only[Nat.min_def];split <;> omega) hdl (fun j v hj=>?_) (by rw[hdl,hcur];omega) (fun v hv=>h1c v (List.mem_of_mem_drop hv))
  rw[xB];refine yZ hg ?_;rw[List.getElem?_drop,←ht,List.getElem?_take] at hj;split at hj
  ·exact hj
  cases hj
 have hA1s:A1.size=c*2:=by
  rw[hA1];simp only[List.size_toArray,List.length_append,List.length_take,List.length_drop,Array.length_toList];rw[hcl];omega
 have hg1:(w.drew.setRow g A1).heap[g]? = some (.cells A1 166 (0,0)):=setRow_heap w.drew g cur A1 _ _ hg;have hv1:(w.drew.setRow g A1).heap[vb]? = some (.cells vs.toArray 166 (0,0)):=(setRow_other w.drew g vb A1 hvb).trans hv;obtain⟨W1,hW1⟩:∃W1,W1=w.drew.setRow g A1:=⟨_,rfl⟩
 rw[←hW1] at hg1 hv1 hcp1;have hm1:Mod (fun b=>b=g) w W1:=by
  rw[hW1];exact(Mod.of_below (Below.drew (bR _ _))).trans (uX _ _ _)
 obtain⟨A2,hA2⟩:∃A2:Array Value,A2=(A1.toList.take (i*2)++vs++A1.toList.drop (i*2+vs.length)).toArray:=⟨_,rfl⟩
 have hcp2:∀(W:World),W.heap[g]? = some (.cells A1 166 (0,0))→W.heap[vb]? = some (.cells vs.toArray 166 (0,0))→∀ty dc,(Builtin.copy_ #[37,37] ty #[.slice (some ⟨g,i*2,none⟩) (n+1-i) dc,.slice (some ⟨vb,0,none⟩) 1 1]).run Tryz.prog W =.ok (goInt 1) (W.setRow g A2):=fun W hW1 hW2 ty dc=>by
  rw[hA2];refine fBx W _ _ ty 166 2 g (i*2) (n+1-i) dc ⟨vb,0,none⟩ 1 1 1 A1 166 vs Tryz.underlying37 hsz hW1 (by simp only[Nat.min_def];split <;> omega) oM (fun j v hj=>?_) (by rw[hvl,hA1s];omega) h1v
  rw[xB];exact yZ hW2 (by simpa using hj)
 have hfin:A2.size=c*2∧A2.toList.take ((n+1)*2)=cs.take (i*2)++vs++cs.drop (i*2):=by
  have h:=fRc (cur:=cur.toList) (cs:=cs) (vs:=vs) (k:=i*2) (m:=2) (by rw[hcl];omega) (by rw[hcl];exact ht) (by rw[hcl,Array.length_toList,hcur];omega) hvl;rw[hA2,hA1];rw[show(i+1)*2=i*2+2 by omega,show(n+1)*2=cs.length+2 by rw[hcl];omega];refine⟨?_,h.2⟩;rw[List.size_toArray];have h1:=h.1;have h2:cur.toList.length=c*2:=by rw[Array.length_toList,hcur]
  rw[h2] at h1;exact h1
 clear hA1 hA2 hW1;have HF:Hid (A2.size=c*2∧A2.toList.take ((n+1)*2)=cs.take (i*2)++vs++cs.drop (i*2)):=hfin;clear hfin;go_enter Tryz.func211,Tryz.ntmps211;go_wp2_with (simp only[hov]);go_region_law (refine fHx rfl (.tmp 73) (.tmp 76) 37 37 rfl _ _ (by simp[Act.eval,Act.put]) (by simp[Act.eval,Act.put]) (hcp1 _ _ _ _ _ oM oM) ?_);go_wp2_with (at_builtin;refine fLs _ rfl _ _ 37 37 rfl _ _ rfl rfl (hcp2 _ hg1 hv1 _ _) ?_);go_ret;refine⟨rfl,A2,setRow_heap _ g A1 A2 _ _ hg1,HF.out.1,HF.out.2,hm1.trans (uX _ _ _)⟩
theorem fMl (base:Nat) (v:Value) (n vb:Nat) (cs vs:List Value) (w:World) (hown:w.ownsRow base 166 2 v n cs) (hn:n≤1048576) (hbase:base≤w.heap.size)
  (hvl:vs.length=2) (hv:w.heap[vb]? = some (.cells vs.toArray 166 (0,0))) (h1v:∀v ∈ vs,v.oneCell'=true) :
  Calls Tryz.prog 211 #[v,.int .i64 n,.slice (some ⟨vb,0,none⟩) 1 1] w fun e w'=>
   ∃v',e =.returned v'∧w'.ownsRow base 166 2 v' (n+1) (cs++vs)∧w.grownBy w' v.ownBlock∧(v'.ownBlock=v.ownBlock∨v'.ownBlock=some w.heap.size):=by
 obtain⟨i0,hi,hz0,hz1,hz2⟩:=info_parts fCm;have HV:Hid (∀j u,vs[j]? = some u→w.cell? ((⟨vb,0,none⟩:Addr).add j)=some u):=fun j u hj=>by
  rw[xB];exact yZ hv (by simpa using hj)
 obtain⟨a,c,rfl⟩:=fD hown;have hnc:n≤c:=by
  rcases hown.2 with ⟨_,h⟩|⟨g,cap,cur,h,_,_,h2,_⟩
  ·omega
  simp only[Value.slice.injEq] at h;omega
 have hcm:c≤9223372036854775807:=by
  rcases hown.2 with ⟨h,_⟩|⟨g,cap,cur,h,_,_,h2,h3,_⟩
  ·simp only[Value.slice.injEq] at h;omega
  simp only[Value.slice.injEq] at h;unfold maxLen at h3;omega
 rcases Nat.eq_or_lt_of_le hnc with rfl|h0
 all_goals
  try (have hck:¬c=n:=by omega)
  go_enter Tryz.func211,Tryz.ntmps211;go_wp2_with (at_builtin;refine wpList_append_own_at w rfl (.tmp 23) (.tmp 24) 37 rfl base 166 i0 _ 2 16 Tryz.underlying37 hi hz0 hz1 hz2 rfl (by decide) _ n cs rfl hown ⟨vb,0,none⟩ 1 1 vs rfl hvl HV.out h1v ?_ ?_ hbase ?_)
  ·unfold maxLen;omega
  ·omega
  intro v' w' h1 h2 h3 h4;obtain⟨a',c',rfl⟩:=fD h1;go_wp2;go_ret;exact⟨_,rfl,h1,h2,h4⟩
theorem fKm (g n c i vb:Nat) (cs vs:List Value) (w:World) (hi:i<n) (hnc:n≤c) (hroom:c<n+1) (hbig:n≤1048576)
  (hcl:cs.length=n*2) (hcs:∀j v,cs[j]? = some v→w.cell? ⟨g,j,none⟩=some v) (hvl:vs.length=2) (hv:w.heap[vb]? = some (.cells vs.toArray 166 (0,0))) (h1c:∀v ∈ cs,v.oneCell'=true) (h1v:∀v ∈ vs,v.oneCell'=true) :
  Calls Tryz.prog 211 #[.slice (some ⟨g,0,none⟩) n c,.int .i64 i,.slice (some ⟨vb,0,none⟩) 1 1] w fun e w'=>
   ∃G,e =.returned (.slice (some ⟨w.heap.size,0,none⟩) (n+1) G)∧∃cur':Array Value,w'.heap[w.heap.size]? = some (.cells cur' 166 (0,0))∧n+1≤G∧G≤maxLen∧cur'.size=G*2∧cur'.toList.take ((n+1)*2)=cs.take (i*2)++vs++cs.drop (i*2)∧Mod (fun _=>False) w w':=by
 obtain⟨i0,hi0,hz0,hzs,hzb⟩:=info_parts fCm;have hsz:(Tryz.prog.info? 166).map (·.size)=some 2:=by rw[hi0];simp[hzs]
 have hz2:¬((i:Int)=(n:Int)):=oM;have hz3:(c:Int)<(n:Int)+1:=oM;have hgw:g<w.heap.size:=wL w ⟨g,0,none⟩ (hcs 0 _ (List.getElem?_eq_getElem oM));have hvw:vb<w.heap.size:=(Array.getElem?_eq_some_iff.1 hv).1;have hkk:(n:Int)+1-(i:Int)=((n+1-i:Nat):Int):=oM;have hik:i+(n+1-i)=n+1:=oM;obtain⟨Z,hZ⟩:∃Z:Value,Z =.agg #[.int .i64 0,.int .i64 0]:=⟨_,rfl⟩
 rw[←hZ] at hz0;have hZs:Z.cells.size=2:=by rw[hZ];rfl
 have hold:(Builtin.firstCells i0.size i (.slice (some ⟨g,0,none⟩) i c)).run Tryz.prog w.drew =.ok (cs.take (i*2)).toArray w.drew:=by
  rw[hzs];exact run_firstCells_some w.drew 2 i ⟨g,0,none⟩ i c (cs.take (i*2)) (by rw[List.length_take];omega) (fun j v hj=>by
   rw[xB,Nat.zero_add];rw[List.getElem?_take] at hj;split at hj
   ·exact hcs j v hj
   cases hj)
 have hrz:∀ty,(Builtin.append_ #[37,3] ty #[.slice (some ⟨g,0,none⟩) i c,.int .i64 ((n:Int)+1-(i:Int))]).run Tryz.prog w =
   .ok (.slice (some ⟨w.heap.size,0,none⟩) (n+1) (grownCap w (n+1) c 166)) (w.drew.alloc (.cells ((cs.take (i*2)).toArray++Builtin.zeroCells Z.cells (n+1-i)++Builtin.zeroCells Z.cells (grownCap w (n+1) c 166-(n+1))) 166)):=fun ty=>by
  have h:=Lib.run_append_grow_zeros w 37 3 ty 166 i0 _ .i64 .i64 Tryz.underlying37 Tryz.underlying3 hi0 hz0 (some ⟨g,0,none⟩) i c (cs.take (i*2)) hold (n+1-i) oM oM oM oM (by rw[hzb];omega) (by rw[hzb,hik];exact growslice_fits hroom oM);rw[hik] at h;rw[hkk];exact h
 obtain⟨G,hG⟩:∃G,G=grownCap w (n+1) c 166:=⟨_,rfl⟩
 obtain⟨ROW,hROW⟩:∃ROW:Array Value,ROW=(cs.take (i*2)).toArray++Builtin.zeroCells Z.cells (n+1-i)++Builtin.zeroCells Z.cells (G-(n+1)):=⟨_,rfl⟩
 rw[←hG] at hrz;rw[←hROW] at hrz;have hGn:n+1≤G:=by rw[hG];exact grownCap_ge w _ _ _
 have hGm:G≤maxLen:=by
  rw[hG];exact grownCap_le_maxLen w (n+1) c 166 (by unfold maxLen;omega)
 have hRl:ROW.size=G*2:=by
  rw[hROW];simp[Builtin.zeroCells,hZs,List.length_take,hcl];omega
 have hR1:ROW.toList.take (i*2)=cs.take (i*2):=by
  rw[hROW];simp only[Array.toList_append,List.append_assoc];rw[List.take_append_of_le_length (by simp[hcl];omega)];rw[List.take_of_length_le (by simp;omega)]
 obtain⟨W1,hW1⟩:∃W1,W1=w.drew.alloc (.cells ROW 166):=⟨_,rfl⟩
 rw[←hW1] at hrz;have hg1:W1.heap[w.heap.size]? = some (.cells ROW 166 (0,0)):=by rw[hW1];exact fSq w.drew _
 have hm1:Mod (fun b=>b=w.heap.size) w W1:=by
  rw[hW1];exact(Mod.of_below (Below.drew (bR _ _))).trans ((Mod.refl _ _).alloc _)
 have hv1:W1.heap[vb]? = some (.cells vs.toArray 166 (0,0)):=(hm1.block vb hvw oM).trans hv;have hcs1:∀j v,cs[j]? = some v→W1.cell? ⟨g,j,none⟩=some v:=fun j v hj=>hm1.cell (hcs j v hj) (by dsimp only;omega)
 obtain⟨A1,hA1⟩:∃A1:Array Value,A1=(ROW.toList.take (i*2)++vs++ROW.toList.drop (i*2+vs.length)).toArray:=⟨_,rfl⟩
 have hcpA:∀(W:World),W.heap[w.heap.size]? = some (.cells ROW 166 (0,0))→W.heap[vb]? = some (.cells vs.toArray 166 (0,0))→∀ty dc,(Builtin.copy_ #[37,37] ty #[.slice (some ⟨w.heap.size,i*2,none⟩) (n+1-i) dc,.slice (some ⟨vb,0,none⟩) 1 1]).run Tryz.prog W =.ok (goInt 1) (W.setRow w.heap.size A1):=fun W hWa hWb ty dc=>by
  rw[hA1];refine fBx W _ _ ty 166 2 w.heap.size (i*2) (n+1-i) dc ⟨vb,0,none⟩ 1 1 1 ROW 166 vs Tryz.underlying37 hsz hWa (by simp only[Nat.min_def];split <;> omega) oM (fun j v hj=>?_) (by rw[hvl,hRl];omega) h1v
  rw[xB];exact yZ hWb (by simpa using hj)
 have hA1s:A1.size=G*2:=by
  rw[hA1];simp only[List.size_toArray,List.length_append,List.length_take,List.length_drop,Array.length_toList];rw[hRl,hvl];omega
 have hdl:(cs.drop (i*2)).length=(n-i)*2:=by rw[List.length_drop,hcl];omega
 obtain⟨A2,hA2⟩:∃A2:Array Value,A2=(A1.toList.take ((i+1)*2)++cs.drop (i*2)++A1.toList.drop ((i+1)*2+(cs.drop (i*2)).length)).toArray:=⟨_,rfl⟩
 have hcpB:∀(W:World),W.heap[w.heap.size]? = some (.cells A1 166 (0,0))→(∀j v,cs[j]? = some v→W.cell? ⟨g,j,none⟩=some v)→∀ty dl dc sl sc,dl=n-i→sl=n-i→(Builtin.copy_ #[37,37] ty #[.slice (some ⟨w.heap.size,(i+1)*2,none⟩) dl dc,.slice (some ⟨g,i*2,none⟩) sl sc]).run Tryz.prog W =.ok (goInt ((n-i:Nat):Int)) (W.setRow w.heap.size A2):=fun W hWa hWc ty dl dc sl sc e1 e2=>by
  rw[hA2];refine fBx W _ _ ty 166 2 w.heap.size ((i+1)*2) dl dc ⟨g,i*2,none⟩ sl sc (n-i) A1 166 (cs.drop (i*2)) Tryz.underlying37 hsz hWa (by simp only[Nat.min_def];split <;> omega) hdl (fun j v hj=>?_) (by rw[hdl,hA1s];omega) (fun v hv=>h1c v (List.mem_of_mem_drop hv))
  rw[xB];rw[List.getElem?_drop] at hj;exact hWc _ v hj
 have hfin:A2.size=G*2∧A2.toList.take ((n+1)*2)=cs.take (i*2)++vs++cs.drop (i*2):=by
  have hA1t:A1.toList.take ((i+1)*2)=cs.take (i*2)++vs:=by
   rw[hA1,hR1];simp only[];rw[List.take_append_of_le_length (by simp only[List.length_append,List.length_take,hcl,hvl];omega),List.take_of_length_le (by simp only[List.length_append,List.length_take,hcl,hvl];omega)]
  constructor
  ·rw[hA2];simp only[List.size_toArray,List.length_append,List.length_take,List.length_drop,Array.length_toList];rw[hA1s,hcl];omega
  rw[hA2,hA1t];simp only[];rw[List.take_append_of_le_length (by simp only[List.length_append,List.length_take,List.length_drop,hcl,hvl];omega),List.take_of_length_le (by simp only[List.length_append,List.length_take,List.length_drop,hcl,hvl];omega)]
 have HF:Hid (A2.size=G*2∧A2.toList.take ((n+1)*2)=cs.take (i*2)++vs++cs.drop (i*2)):=hfin;have HG:Hid (n+1≤G∧G≤maxLen):=⟨hGn,hGm⟩;have HM:Hid (Mod (fun b=>b=w.heap.size) w W1):=hm1;have hG63:G≤9223372036854775807:=by unfold maxLen at hGm;omega
 clear hfin hA1 hA2 hW1 hROW hG hold hRl hR1 hGm hm1 hkk hik hi0 hz0 hZ hZs hzs hzb;have hGi:¬(G=i):=oM;have hGim:¬(G=i+1):=oM;have hci:¬(c=i):=oM;have hw1:IntKind.i64.wrap ((i:Int)+1)=(i:Int)+1:=by rw[IntKind.wrap_i64];omega
 have htn:((i:Int)+1).toNat=i+1:=oM;have hb1:(0:Int)≤(i:Int)+1:=oM;have hin:i≤n:=oM;have hb3:(i:Int)≤(n:Int):=oM;have hb5:(i:Int)≤(n:Int)+1:=oM;have hb6:(i:Int)+1≤(n:Int)+1:=oM;obtain⟨N,hN⟩:∃N,N=w.heap.size:=⟨_,rfl⟩
 rw[←hN] at hrz hg1 hcpA hcpB ⊢;have HN:Hid (N=w.heap.size):=hN;clear hN;have hg2:(W1.setRow N A1).heap[N]? = some (.cells A1 166 (0,0)):=setRow_heap W1 N ROW A1 _ _ hg1;have hcs2:∀j v,cs[j]? = some v→(W1.setRow N A1).cell? ⟨g,j,none⟩=some v:=fun j v hj=>(uX W1 N A1).cell (hcs1 j v hj) (by dsimp only;have:=HN.out;omega)
 obtain⟨W2,hW2⟩:∃W2,W2=W1.setRow N A1:=⟨_,rfl⟩
 rw[←hW2] at hg2 hcs2;have HM2:Hid (Mod (fun b=>b=N) w W2):=by
  rw[Hid,hW2,HN.out];exact HM.out.trans (uX _ _ _)
 have hcpA':=hcpA W1 hg1 hv1;rw[←hW2] at hcpA';clear hW2 hcpA;have hcpB':=hcpB W2.drew hg2 hcs2;clear hcpB;have hg3:(W2.drew.setRow N A2).heap[N]? = some (.cells A2 166 (0,0)):=setRow_heap W2.drew N A1 A2 _ _ hg2;obtain⟨W3,hW3⟩:∃W3,W3=W2.drew.setRow N A2:=⟨_,rfl⟩
 rw[←hW3] at hg3 hcpB';have HM3:Hid (Mod (fun _=>False) w W3):=by
  have h:Mod (fun b=>b=N) w W3:=by
   rw[hW3];exact(HM2.out.trans (Mod.of_below (Below.drew (bR _ _)))).trans (uX _ _ _)
  exact⟨h.os,h.tape,h.output,h.size,fun k hk _=>h.block k hk (by have:=HN.out;omega)⟩
 clear hW3;go_enter Tryz.func211,Tryz.ntmps211;go_wp2_with (first
  | (at_builtin;refine Lib.wpList_append_run _ rfl _ _ _ _ rfl _ _ rfl rfl _ _ (hrz _) ?_)
  | (at_builtin;refine fLs _ rfl _ _ 37 37 rfl _ _ rfl rfl (hcpA' _ _) ?_))
 go_region_law (refine fHx rfl (.tmp 50) (.tmp 53) 37 37 rfl _ _ (by simp[Act.eval,Act.put]) (by simp[Act.eval,Act.put]) (hcpB' _ _ _ _ _ oM oM) ?_)
 go_wp2;go_ret;exact⟨G,rfl,A2,hg3,HG.out.1,HG.out.2,HF.out.1,HF.out.2,HM3.out⟩
theorem fK0 (xs ys:List Mrk):gK (xs++ys)=gK xs++gK ys:=by simp[gK]
theorem fFb (xs:List Mrk):(gK xs).length=xs.length*2:=by
 induction xs with
 | nil=>rfl
 | cons x xs ih=>
  have e:gK (x::xs)=mrkC x++gK xs:=by simp[gK]
  have hl:(mrkC x).length=2:=rfl;rw[e,List.length_append,ih,hl,List.length_cons];omega
theorem fDu (x:Mrk):∀u ∈ mrkC x,u.oneCell'=true:=by
 intro u hu;simp[mrkC] at hu;rcases hu with rfl|rfl <;> rfl
theorem fHl (xs:List Mrk):∀u ∈ gK xs,u.oneCell'=true:=by
 intro u hu;unfold gK at hu;obtain⟨x,_,h⟩:=List.mem_flatMap.1 hu;exact fDu x u h
theorem fHm (xs:List Mrk) (i:Nat):gK (xs.take i)=(gK xs).take (i*2):=by
 induction xs generalizing i with
 | nil=>simp[gK]
 | cons x xs ih=>
  cases i with
  | zero=>simp[gK]
  | succ i=>
   have e:gK (x::xs)=mrkC x++gK xs:=by simp[gK]
   have e2:gK ((x::xs).take (i+1))=mrkC x++gK (xs.take i):=by simp[gK]
   have hl:(mrkC x).length=2:=rfl;rw[e,e2,ih,List.take_append];rw[List.take_of_length_le (l:=mrkC x) oM,hl,show(i+1)*2-2=i*2 by omega]
theorem fHk (xs:List Mrk) (i:Nat):gK (xs.drop i)=(gK xs).drop (i*2):=by
 induction xs generalizing i with
 | nil=>simp[gK]
 | cons x xs ih=>
  cases i with
  | zero=>simp[gK]
  | succ i=>
   have e:gK (x::xs)=mrkC x++gK xs:=by simp[gK]
   have e2:gK ((x::xs).drop (i+1))=gK (xs.drop i):=by simp[gK]
   have hl:(mrkC x).length=2:=rfl;rw[e,e2,ih,List.drop_append];rw[List.drop_of_length_le (l:=mrkC x) oM,hl,show(i+1)*2-2=i*2 by omega,List.nil_append]
def InsM (base:Nat) (v:Value) (ys:List Mrk) (w:World) (e:Ending) (w':World):Prop:=
 ∃v',e =.returned v'∧w'.ownsRow base 166 2 v' ys.length (gK ys)∧Mod (fun b=>v.ownBlock=some b) w w'∧(∀b,v'.ownBlock=some b→v.ownBlock=some b∨(w.heap.size≤b∧b<w'.heap.size))
theorem fMk (base:Nat) (v:Value) (i vb:Nat) (xs:List Mrk) (r:Mrk) (w:World) (hown:w.ownsRow base 166 2 v xs.length (gK xs)) (hi:i≤xs.length) (hn:xs.length≤1048000) (hbase:base≤w.heap.size)
  (hv:w.heap[vb]? = some (.cells (mrkC r).toArray 166 (0,0))) (hvb:v.ownBlock≠some vb) :
  Calls Tryz.prog 211 #[v,.int .i64 i,.slice (some ⟨vb,0,none⟩) 1 1] w (InsM base v (xs.take i++[r]++xs.drop i) w):=by
 have hl:(xs.take i++[r]++xs.drop i).length=xs.length+1:=by simp only[List.length_append,List.length_take,List.length_drop,List.length_cons,List.length_nil];omega
 have hcc:gK (xs.take i++[r]++xs.drop i)=(gK xs).take (i*2)++mrkC r++(gK xs).drop (i*2):=by
  rw[fK0,fK0,fHm,fHk];simp[gK]
 have hcl:(gK xs).length=xs.length*2:=fFb xs;unfold InsM;rw[hl,hcc];by_cases hie:i=xs.length
 ·
  subst hie;refine(fMl base v xs.length vb (gK xs) (mrkC r) w hown oM hbase rfl hv (fDu r)).mono ?_;rintro e w' ⟨v',rfl,h1,h2,h3⟩;refine⟨v',rfl,?_,Mod.of_grown h2,fun b hb=>?_⟩
  ·rw[List.take_of_length_le oM,List.drop_of_length_le oM,List.append_nil];exact h1
  rcases h3 with h3|h3
  ·exact .inl (h3▸hb)
  rw[h3] at hb;simp only[Option.some.injEq] at hb;have:=(h1.lt b (by rw[h3,hb])).2;exact .inr ⟨oM,this⟩
 rcases hown.2 with ⟨_,h0⟩|⟨g,cap,cur,rfl,hbg,hg,hnc,hcm,hcs,htake⟩
 ·omega
 have hne:vb≠g:=fun e=>hvb (by rw[e];rfl)
 have hgl:g<w.heap.size:=(Array.getElem?_eq_some_iff.1 hg).1;by_cases hroom:xs.length+1≤cap
 ·refine(fIw g xs.length cap i vb (gK xs) (mrkC r) cur w hg oM hroom (by unfold maxLen at hcm;omega) hne hcs hcl htake rfl hv (fHl xs) (fDu r)).mono ?_;rintro e w' ⟨rfl,cur',h1,h2,h3,h4⟩;refine⟨_,rfl,⟨?_,.inr ⟨g,cap,cur',rfl,hbg,h1,hroom,hcm,h2,h3⟩⟩,h4.mono (fun b h=>by rw[h];rfl),fun b hb=>.inl hb⟩;rw[←hcc,fFb,hl]
 refine(fKm g xs.length cap i vb (gK xs) (mrkC r) w oM hnc oM oM hcl (fun j v hj=>?_) rfl hv (fHl xs) (fDu r)).mono ?_
 ·
  refine yZ hg ?_;rw[←htake,List.getElem?_take] at hj;split at hj
  ·exact hj
  cases hj
 rintro e w' ⟨G,rfl,cur',h1,h2,h3,h4,h5,h6⟩;have hlt:=(Array.getElem?_eq_some_iff.1 h1).1;refine⟨_,rfl,⟨?_,.inr ⟨w.heap.size,G,cur',rfl,hbase,h1,h2,h3,h4,h5⟩⟩,h6.mono (fun b h=>h.elim),fun b hb=>?_⟩
 ·rw[←hcc,fFb,hl]
 simp only[Value.ownBlock,Option.some.injEq] at hb;exact .inr ⟨oM,by omega⟩
end
section
variable [dQ Leg] [iH Leg] [dQ Mrk] [iH Mrk] [dQ Bal] [iH Bal] [dQ Cont] [iH Cont] [dQ Shd] [iH Shd] [dQ ShdR] [iH ShdR] [dQ Rw] [iH Rw] [dQ Ledg] [iH Ledg] [dQ LedgR] [iH LedgR] [dQ OutcR] [iH OutcR]
theorem fIa (x:Value) (xs:List Mrk) (m:Mrk) (base:Nat) (F:Nat→Prop) (w:World) (hx:mrksR.O w base F x xs) (hbase:base≤w.heap.size) (hn:xs.length≤1000) (hr:∀i j,i<j→j<xs.length→(xs.getD i default).con<(xs.getD j default).con) :
  Calls Tryz.prog 194 #[x,.agg #[.int .i64 m.con,.int .i64 m.val]] w fun e w'=>∃v F',e =.returned v∧mrksR.O w' base F' v (putM xs m)∧Mod F w w'∧∀b,F' b→F b∨w.heap.size≤b:=by
 have HP:Hid (bW w fun W=>Calls Tryz.prog 193 #[x,.int .i64 m.con] W (PlM xs m.con W)):=fun W hW=>fBp x xs m.con W (mrksR.below (mrksR.ofO hx) hW) oM hr
 obtain⟨ho,hF⟩:=hx;have HI:Hid (∀W i vb,Below w.heap.size w W→i≤xs.length→W.heap[vb]? = some (.cells (mrkC m).toArray 166 (0,0))→w.heap.size≤vb→Calls Tryz.prog 211 #[x,.int .i64 i,.slice (some ⟨vb,0,none⟩) 1 1] W (InsM base x (xs.take i++[m]++xs.drop i) W)):=fun W i vb hW hi hv hl=>fMk base x i vb xs m W (fV ho hW) hi oM (Nat.le_trans hbase hW.size) hv (fun e=>by have:=(ho.lt _ e).2;omega)
 have HQ:Hid (∀i,i≤xs.length→(∀k,k<i→(xs.getD k default).con<m.con)→(∀k,i≤k→k<xs.length→m.con≤(xs.getD k default).con)→putM xs m=xs.take i++[m]++xs.drop i):=fun i hi h1 h2=>by
  unfold putM;rw[fM9 hi h1 (fun h=>by have:=h2 i (Nat.le_refl _) h;omega)]
 have HF:Hid (F=fun b=>x.ownBlock=some b):=hF;obtain⟨ax,cx,rfl⟩:=fD ho;clear ho hF hr;obtain⟨n,hn'⟩:∃n,n=xs.length:=⟨_,rfl⟩
 rw[←hn'] at HP HI HQ HF hn ⊢;have HN:Hid (xs.length=n):=hn'.symm;clear hn';go_enter Tryz.func194,Tryz.ntmps194;go_wp2_with fail;refine(HP.out _ qBq).mono ?_;rintro e w1 ⟨i,hi,rfl,p1,p2,hb1⟩;have HE:Hid (putM xs m=xs.take i++[m]++xs.drop i):=HQ.out i (by rw[←HN.out];exact hi) p1 (by rw[HN.out] at p2;exact p2);have hi':i≤n:=by rw[←HN.out];exact hi
 have hB1:=bT w hb1;have x0:w1.cell? ⟨w.heap.size,0,none⟩=some (.int .i64 m.con):=cK hb1 sG;have x1:w1.cell? ⟨w.heap.size,1,none⟩=some (.int .i64 m.val):=cK hb1 sG;have hz1:=hB1.size;generalize decide (i<xs.length∧(xs.getD i default).con=m.con)=fd at *;clear HP HQ p1 p2 hb1 hi;go_wp2_with fail;refine(HI.out _ i w1.heap.size qBq hi' (World.alloc_heap_new w1 _) hz1).mono ?_;rintro e w2 ⟨v2,rfl,o2,m2,l2⟩;go_wp2;go_ret;refine⟨_,_,rfl,⟨?_,rfl⟩,?_,fun b hb=>?_⟩
 ·rw[HE.out];exact o2
 ·rw[HF.out];exact(Mod.of_below qBq).trans m2
 rw[HF.out];exact(l2 b hb).imp id (fun h=>by have:=h.1;simp at this;omega)
theorem fPf (x:Value) (d:Shd) (k v:Int) (base:Nat) (F:Nat→Prop) (w:World) (hx:shdR.O w base F x d) (hbase:base≤w.heap.size) (hn:d.votes.length≤1000) (hr:∀i j,i<j→j<d.votes.length→(d.votes.getD i default).con<(d.votes.getD j default).con) :
  Calls Tryz.prog 177 #[x,.int .i64 k,.int .i64 v] w fun e w'=>∃u F',e =.returned u∧shdRR.O w' base F' u ⟨0,v,⟨d.idx,d.bals,putM d.votes ⟨k,v⟩,d.held,d.done,d.appl⟩⟩∧Below base w w'∧∀b,F' b→F b∨w.heap.size≤b:=by
 obtain⟨a1,a2,a3,a4,a5,c1,c2,c3,c4,c5,rfl⟩:=mF hx;have HR:Hid (∀b,F b→base≤b∧b<w.heap.size):=fun b hb=>shdR.rng hx b hb
 have HX:Hid (shdR.O w base F (.agg #[.int .i64 d.idx,.slice a1 d.bals.length c1,.slice a2 d.votes.length c2,.slice a3 d.held.length c3,.slice a4 d.done.length c4,.slice a5 d.appl.length c5]) d):=hx;have HW:Hid (∀W Fj,Below w.heap.size w W→mrksR.O W base Fj (.slice a2 d.votes.length c2) d.votes→Calls Tryz.prog 194 #[.slice a2 d.votes.length c2,.agg #[.int .i64 k,.int .i64 v]] W fun e w'=>∃u F',e =.returned u∧mrksR.O w' base F' u (putM d.votes ⟨k,v⟩)∧Mod Fj W w'∧∀b,F' b→Fj b∨W.heap.size≤b):=fun W Fj hW ho=>fIa _ d.votes ⟨k,v⟩ base Fj W ho (Nat.le_trans hbase hW.size) hn hr
 clear hx hr;generalize d.bals.length=n1 at *;generalize d.votes.length=n2 at *;generalize d.held.length=n3 at *;generalize d.done.length=n4 at *;generalize d.appl.length=n5 at *;obtain⟨wq,hwq⟩:∃wq,wq=(w.alloc (.cells #[.int .i64 d.idx,.slice a1 n1 c1,.slice a2 n2 c2,.slice a3 n3 c3,.slice a4 n4 c4,.slice a5 n5 c5] 41)).alloc (.cells #[.int .i64 0,.int .i64 0,.int .i64 0,.slice none 0 0,.slice none 0 0,.slice none 0 0,.slice none 0 0,.slice none 0 0] 76):=⟨_,rfl⟩
 have hBq:Below w.heap.size w wq:=by rw[hwq];exact qBq
 obtain⟨F2,o2,hF2,LN⟩:=fFp (shdR.keep HX.out hBq);have HLN:Hid (∀(w':World) (Fj':Nat→Prop) (v:Value) (ys:List Mrk),mrksR.O w' base Fj' v ys→Mod F2 wq w'→(∀b,Fj' b→F2 b∨wq.heap.size≤b)→∃F',shdR.O w' base F' (.agg #[.int .i64 d.idx,.slice a1 n1 c1,v,.slice a3 n3 c3,.slice a4 n4 c4,.slice a5 n5 c5]) ⟨d.idx,d.bals,ys,d.held,d.done,d.appl⟩∧∀b,F' b→F b∨wq.heap.size≤b):=LN;have HF2:Hid (∀b,F2 b→base≤b∧b<w.heap.size):=fun b hb=>HR.out b (hF2 b hb)
 have HO2:Hid (mrksR.O wq base F2 (.slice a2 n2 c2) d.votes):=o2;have zq:wq.heap.size=w.heap.size+2:=by rw[hwq];simp
 have HZ:Hid (wq.heap.size=w.heap.size+2):=zq;have y0:wq.cell? ⟨w.heap.size,0,none⟩=some (.int .i64 d.idx):=by rw[hwq];simp[go_sem]
 have y1:wq.cell? ⟨w.heap.size,1,none⟩=some (.slice a1 n1 c1):=by rw[hwq];simp[go_sem]
 have y2:wq.cell? ⟨w.heap.size,2,none⟩=some (.slice a2 n2 c2):=by rw[hwq];simp[go_sem]
 have y3:wq.cell? ⟨w.heap.size,3,none⟩=some (.slice a3 n3 c3):=by rw[hwq];simp[go_sem]
 have y4:wq.cell? ⟨w.heap.size,4,none⟩=some (.slice a4 n4 c4):=by rw[hwq];simp[go_sem]
 have y5:wq.cell? ⟨w.heap.size,5,none⟩=some (.slice a5 n5 c5):=by rw[hwq];simp[go_sem]
 have r0:wq.cell? ⟨w.heap.size+1,0,none⟩=some (.int .i64 0):=by rw[hwq];simp[go_sem]
 have r1:wq.cell? ⟨w.heap.size+1,1,none⟩=some (.int .i64 0):=by rw[hwq];simp[go_sem]
 have r2:wq.cell? ⟨w.heap.size+1,2,none⟩=some (.int .i64 0):=by rw[hwq];simp[go_sem]
 have r3:wq.cell? ⟨w.heap.size+1,3,none⟩=some (.slice none 0 0):=by rw[hwq];simp[go_sem]
 have r4:wq.cell? ⟨w.heap.size+1,4,none⟩=some (.slice none 0 0):=by rw[hwq];simp[go_sem]
 have r5:wq.cell? ⟨w.heap.size+1,5,none⟩=some (.slice none 0 0):=by rw[hwq];simp[go_sem]
 have r6:wq.cell? ⟨w.heap.size+1,6,none⟩=some (.slice none 0 0):=by rw[hwq];simp[go_sem]
 have r7:wq.cell? ⟨w.heap.size+1,7,none⟩=some (.slice none 0 0):=by rw[hwq];simp[go_sem]
 have yf:∀o,wq.frozen? ⟨w.heap.size,o,none⟩=false:=fun o=>by rw[hwq];simp[go_sem]
 have rf:∀o,wq.frozen? ⟨w.heap.size+1,o,none⟩=false:=fun o=>by rw[hwq];simp[go_sem]
 clear LN o2 hF2 HX zq;go_enter Tryz.func177,Tryz.ntmps177;go_wp2_with fail;rw[←hwq];clear hwq;refine(HW.out _ F2 hBq HO2.out).mono ?_;rintro e w1 ⟨v2,F2',rfl,o1,m1,l1⟩;have nA:¬F2 w.heap.size:=fun h=>by have:=(HF2.out _ h).2;omega
 have nB:¬F2 (w.heap.size+1):=fun h=>by have:=(HF2.out _ h).2;omega
 replace y0:=m1.cell y0 nA;replace y1:=m1.cell y1 nA;replace y2:=m1.cell y2 nA;replace y3:=m1.cell y3 nA;replace y4:=m1.cell y4 nA;replace y5:=m1.cell y5 nA;replace r0:=m1.cell r0 nB;replace r1:=m1.cell r1 nB;replace r2:=m1.cell r2 nB;replace r3:=m1.cell r3 nB;replace r4:=m1.cell r4 nB;replace r5:=m1.cell r5 nB;replace r6:=m1.cell r6 nB;replace r7:=m1.cell r7 nB;replace yf:∀o,w1.frozen? ⟨w.heap.size,o,none⟩=false:=fun o=>(m1.frz10 (a:=⟨w.heap.size,o,none⟩) (by have:=HZ.out;dsimp only;omega) nA).trans (yf o)
 replace rf:∀o,w1.frozen? ⟨w.heap.size+1,o,none⟩=false:=fun o=>(m1.frz10 (a:=⟨w.heap.size+1,o,none⟩) (by have:=HZ.out;dsimp only;omega) nB).trans (rf o)
 obtain⟨q2,s2,rfl⟩:=fD o1.1;obtain⟨F',o',hF'⟩:=HLN.out w1 F2' _ _ o1 m1 l1;have HO':Hid (shdRR.O w1 base F' (.agg #[.int .i64 0,.int .i64 v,.int .i64 d.idx,.slice a1 n1 c1,.slice q2 (putM d.votes ⟨k,v⟩).length s2,.slice a3 n3 c3,.slice a4 n4 c4,.slice a5 n5 c5]) ⟨0,v,⟨d.idx,d.bals,putM d.votes ⟨k,v⟩,d.held,d.done,d.appl⟩⟩):=uZ (d:=⟨d.idx,d.bals,putM d.votes ⟨k,v⟩,d.held,d.done,d.appl⟩) 0 v o';have HF':Hid (∀b,F' b→F b∨wq.heap.size≤b):=hF';have hB1:Below base w w1:=m1.below (hBq.mono hbase) (by have:=hBq.size;omega) (fun b hb=>(HF2.out b hb).1);have hB1w:Mod (fun b=>base≤b∧b<w.heap.size) w w1:=(Mod.of_below hBq).trans (m1.mono (fun b hb=>HF2.out b hb));clear o1 m1 l1 o' hF' HLN HO2 HW nA nB;generalize (putM d.votes ⟨k,v⟩).length=np at *;go_wp2;refine bodyPost_ret (v:=.agg #[.int .i64 0,.int .i64 v,.int .i64 d.idx,.slice a1 n1 c1,.slice q2 np s2,.slice a3 n3 c3,.slice a4 n4 c4,.slice a5 n5 c5]) (by simp[results,Tryz.results177,go_sem,r0,r1,r2,r3,r4,r5,r6,r7,rf]) rfl ⟨_,F',rfl,?_,?_,fun b hb=>(HF'.out b hb).imp id (fun h=>by have:=HZ.out;omega)⟩
 ·
  refine vD shdRR (fRa shdRR HO'.out ?_ _) ?_ _ _ _ _ _ _ _ _
  ·
   exact fun h=>by
    rcases HF'.out _ h with h|h
    ·have:=(HR.out _ h).2;omega
    have:=HZ.out;omega
  exact fun h=>by
   rcases HF'.out _ h with h|h
   ·have:=(HR.out _ h).2;omega
   have:=HZ.out;omega
 have e0:base≤w.heap.size:=hbase;have e1:base≤w.heap.size+1:=oM;exact((((((((hB1.setCell (p:=⟨w.heap.size,2,none⟩) e0 _).setCell (p:=⟨w.heap.size+1,0,none⟩) e1 _).setCell (p:=⟨w.heap.size+1,1,none⟩) e1 _).setCell (p:=⟨w.heap.size+1,2,none⟩) e1 _).setCell (p:=⟨w.heap.size+1,3,none⟩) e1 _).setCell (p:=⟨w.heap.size+1,4,none⟩) e1 _).setCell (p:=⟨w.heap.size+1,5,none⟩) e1 _).setCell (p:=⟨w.heap.size+1,6,none⟩) e1 _).setCell (p:=⟨w.heap.size+1,7,none⟩) e1 _
end
section
open Go.Shelf
variable [dQ Leg] [iH Leg] [dQ Cont] [iH Cont] [dQ Bal] [iH Bal] [dQ Ledg] [iH Ledg]
theorem fBw (w:World) (dT sT ty elem:TypeId) (sz g o dLen dCap:Nat) (a:Addr) (sLen sCap m:Nat) (cur:Array Value) (t:TypeId) (cs:List Value)
  (hu:Tryz.prog.underlying dT=some (.slice elem)) (hs:(Tryz.prog.info? elem).map (·.size)=some sz)
  (hg:w.heap[g]? = some (.cells cur t (0,0))) (hm:Nat.min sLen dLen=m) (hn:cs.length=m*sz)
  (hsrc:∀j v,cs[j]? = some v→w.cell? (a.add j)=some v) (hfit:o+cs.length≤cur.size) (h1:∀v ∈ cs,v.oneCell'=true) :
  (Builtin.copy_ #[dT,sT] ty #[.slice (some ⟨g,o,none⟩) dLen dCap,.slice (some a) sLen sCap]).run Tryz.prog w =
   .ok (goInt m) (w.setRow g (cur.toList.take o++cs++cur.toList.drop (o+cs.length)).toArray):=by
 have hl:=run_loadCells_list (P:=Tryz.prog) w a cs hsrc;have hst:=run_storeCells_at Tryz.prog g o t cs 0 cur w hg (by simpa using hfit) h1;cases hq:Tryz.prog.info? elem with
 | none=>simp[hq] at hs
 | some i=>
  have hi:i.size=sz:=by simpa [hq] using hs
  rw[hn] at hl;simp[Builtin.copy_,run_underlying hu,Builtin.lenOf,Builtin.firstCells,sizeOf,typeInfo,hq,hi,hm,hl,hst]
theorem fLr (w:World) {ops:Array Oper} {rest:List Oper} {o:Oper} {a:Act} {Q:Exit→Act→World→Prop} (hgd:o.guard=none) (d s:Operand) (t t':TypeId)
  (ho:o.op =.call {callee:=.builtin .copy,args:=#[d,s],argTypes:=#[t,t']}) (v u:Value) (hd:a.eval d=v) (hs:a.eval s=u) {v':Value} {w':World}
  (hr:(Builtin.copy_ #[t,t'] o.type #[v,u]).run Tryz.prog w =.ok v' w') (h:wpList Tryz.prog ops Q rest (a.put o.dst v') w'):wpList Tryz.prog ops Q (o::rest) a w:=by
 refine wpList_plain hgd fun K hK=>?_
 unfold Oper.wp execOp;simp only[ho,resolve,invoke,builtin,Sem.run_bind,Sem.run_pure,Result.andThen_ok,List.map_toArray,List.map_cons,List.map_nil,hd,hs,hr];exact hK _ _ h
theorem fHw {ops:Array Oper} {o:Oper} {a:Act} {w:World} {K:Act→World→Prop} {Q:Exit→Act→World→Prop} {E:Prop} (hgd:o.guard=none) (d s:Operand) (t t':TypeId)
  (ho:o.op =.call {callee:=.builtin .copy,args:=#[d,s],argTypes:=#[t,t']}) (v u:Value) (hd:a.eval d=v) (hs:a.eval s=u) {v':Value} {w':World}
  (hr:(Builtin.copy_ #[t,t'] o.type #[v,u]).run Tryz.prog w =.ok v' w') (hK:K (a.put o.dst v') w') :
  if Region.wanted o (yielded ops a.tmps)=true then Oper.wp Tryz.prog o a w K Q else E:=by
 have hw:Region.wanted o (yielded ops a.tmps)=true:=by simp[Region.wanted,hgd]
 rw[if_pos hw];unfold Oper.wp execOp;simp only[ho,resolve,invoke,builtin,Sem.run_bind,Sem.run_pure,Result.andThen_ok,List.map_toArray,List.map_cons,List.map_nil,hd,hs,hr];exact hK
theorem uW (w:World) (g:Nat) (cs:Array Value):Mod (fun b=>b=g) w (w.setRow g cs):=
 ⟨rfl,rfl,rfl,by simp[World.setRow],fun k _ hn=>setRow_other w g k cs hn⟩
theorem xA (b o j:Nat):(⟨b,o,none⟩:Addr).add j=⟨b,o+j,none⟩:=by
 by_cases hj0:j=0
 ·subst hj0;simp[Addr.add]
 simp[Addr.add,hj0]
theorem yY {w:World} {g j:Nat} {cur:Array Value} {t:TypeId} {fr:Nat × Nat} {v:Value} (hg:w.heap[g]? = some (.cells cur t fr)) (h:cur.toList[j]? = some v):w.cell? ⟨g,j,none⟩=some v:=by
 have:cur[j]? = some v:=by rw[←Array.getElem?_toList];exact h
 simp[World.cell?,hg,this]
theorem fSp (w:World) (o:Obj):(w.alloc o).heap[w.heap.size]? = some o:=by
 show(w.heap.push o)[w.heap.size]? = some o;simp[Array.getElem?_push]
theorem fRb {cur cs vs:List Value} {k m:Nat} (hk:k≤cs.length) (hc:cur.take cs.length=cs) (hl:cs.length+m≤cur.length) (hv:vs.length=m) :
  ((((cur.take (k+m)++cs.drop k++cur.drop (k+m+(cs.drop k).length)).take k++vs++(cur.take (k+m)++cs.drop k++cur.drop (k+m+(cs.drop k).length)).drop (k+vs.length)).length=cur.length) ∧
  ((cur.take (k+m)++cs.drop k++cur.drop (k+m+(cs.drop k).length)).take k++vs++(cur.take (k+m)++cs.drop k++cur.drop (k+m+(cs.drop k).length)).drop (k+vs.length)).take (cs.length+m)=cs.take k++vs++cs.drop k):=by
 subst hv;have h1:(cur.take (k+vs.length)++cs.drop k++cur.drop (k+vs.length+(cs.drop k).length)).take k=cs.take k:=by
  rw[List.append_assoc,List.take_append_of_le_length (by rw[List.length_take];omega),List.take_take];conv=>rhs;rw[←hc,List.take_take]
  congr 1
  omega
 have h2:(cur.take (k+vs.length)++cs.drop k++cur.drop (k+vs.length+(cs.drop k).length)).drop (k+vs.length)=cs.drop k++cur.drop (k+vs.length+(cs.drop k).length):=by
  rw[List.append_assoc,List.drop_append_of_le_length (by rw[List.length_take];omega),List.drop_take];simp
 rw[h1,h2];have hd:(cs.drop k).length=cs.length-k:=List.length_drop ..;constructor
 ·simp only[List.length_append,List.length_take,List.length_drop];omega
 rw[←List.append_assoc,List.take_append_of_le_length (by simp only[List.length_append,List.length_take,List.length_drop];omega),List.take_of_length_le (by simp only[List.length_append,List.length_take,List.length_drop];omega)]
theorem fIv (g n c i vb:Nat) (cs vs:List Value) (cur:Array Value) (w:World) (hg:w.heap[g]? = some (.cells cur 57 (0,0))) (hi:i<n) (hroom:n+1≤c) (hc63:c≤9223372036854775807) (hvb:vb≠g)
  (hcur:cur.size=c*2) (hcl:cs.length=n*2) (ht:cur.toList.take (n*2)=cs) (hvl:vs.length=2) (hv:w.heap[vb]? = some (.cells vs.toArray 57 (0,0))) (h1c:∀v ∈ cs,v.oneCell'=true) (h1v:∀v ∈ vs,v.oneCell'=true) :
  Calls Tryz.prog 200 #[.slice (some ⟨g,0,none⟩) n c,.int .i64 i,.slice (some ⟨vb,0,none⟩) 1 1] w fun e w'=>
   e =.returned (.slice (some ⟨g,0,none⟩) (n+1) c)∧∃cur':Array Value,w'.heap[g]? = some (.cells cur' 57 (0,0))∧cur'.size=c*2∧cur'.toList.take ((n+1)*2)=cs.take (i*2)++vs++cs.drop (i*2)∧Mod (fun b=>b=g) w w':=by
 have hz2:¬((i:Int)=(n:Int)):=oM;have hsz:(Tryz.prog.info? 57).map (·.size)=some 2:=by
  obtain⟨i0,hi0,_,h1,_⟩:=info_parts qZ;rw[hi0];simp[h1]
 have hzz:∀w,(Go.sizeOf 57).run Tryz.prog w =.ok 2 w:=fun w=>by
  obtain⟨i0,hi0,_,h1,_⟩:=info_parts qZ;simp[sizeOf,typeInfo,hi0,h1]
 have hov:∀lb cb,(callFunc 216 #[.slice (some ⟨vb,0,none⟩) 1 1,.slice (some ⟨g,(i+1)*2,none⟩) lb cb]).run Tryz.prog w =.ok (.value (.bool false)) w:=fun lb cb=>by
  rw[run_callFunc_extern Tryz.func216 kF kF kF (e:=Extern.SlicesOverlaps.overlaps #[38,38] #[4]) kF,
   Lib.run_overlaps_apart w 38 4 57 Tryz.underlying38 2 hzz ⟨vb,0,none⟩ ⟨g,(i+1)*2,none⟩ 1 1 lb cb hvb 57 57 2 (c*2) (by simp[World.shape?,hv,hvl]) (by simp[World.shape?,hg,hcur]) oM (by simp[World.frozen?,hv]) (by simp[World.frozen?,hv])]
  rfl
 have hdl:(cs.drop (i*2)).length=(n-i)*2:=by rw[List.length_drop,hcl];omega
 have hb1:(0:Int)≤(i:Int)+1:=oM;have hw1:IntKind.i64.wrap ((i:Int)+1)=(i:Int)+1:=by rw[IntKind.wrap_i64];omega
 have htn:((i:Int)+1).toNat=i+1:=oM;have hin:i≤n:=oM;have hb2:¬(c=i+1):=oM;have hb3:(i:Int)≤(n:Int)+1:=oM;have hb4:¬(c=i):=oM;obtain⟨A1,hA1⟩:∃A1:Array Value,A1=(cur.toList.take ((i+1)*2)++cs.drop (i*2)++cur.toList.drop ((i+1)*2+(cs.drop (i*2)).length)).toArray:=⟨_,rfl⟩
 have hcp1:∀ty dl dc sl sc,dl=n-i→sl=n+1-i→(Builtin.copy_ #[38,38] ty #[.slice (some ⟨g,(i+1)*2,none⟩) dl dc,.slice (some ⟨g,i*2,none⟩) sl sc]).run Tryz.prog w.drew =.ok (goInt ((n-i:Nat):Int)) (w.drew.setRow g A1):=fun ty dl dc sl sc e1 e2=>by
  rw[hA1];refine fBw w.drew _ _ ty 57 2 g ((i+1)*2) dl dc ⟨g,i*2,none⟩ sl sc (n-i) cur 57 (cs.drop (i*2)) Tryz.underlying38 hsz hg (by simp only[Nat.min_def];split <;> omega) hdl (fun j v hj=>?_) (by rw[hdl,hcur];omega) (fun v hv=>h1c v (List.mem_of_mem_drop hv))
  rw[xA];refine yY hg ?_;rw[List.getElem?_drop,←ht,List.getElem?_take] at hj;split at hj
  ·exact hj
  cases hj
 have hA1s:A1.size=c*2:=by
  rw[hA1];simp only[List.size_toArray,List.length_append,List.length_take,List.length_drop,Array.length_toList];rw[hcl];omega
 have hg1:(w.drew.setRow g A1).heap[g]? = some (.cells A1 57 (0,0)):=setRow_heap w.drew g cur A1 _ _ hg;have hv1:(w.drew.setRow g A1).heap[vb]? = some (.cells vs.toArray 57 (0,0)):=(setRow_other w.drew g vb A1 hvb).trans hv;obtain⟨W1,hW1⟩:∃W1,W1=w.drew.setRow g A1:=⟨_,rfl⟩
 rw[←hW1] at hg1 hv1 hcp1;have hm1:Mod (fun b=>b=g) w W1:=by
  rw[hW1];exact(Mod.of_below (Below.drew (bR _ _))).trans (uW _ _ _)
 obtain⟨A2,hA2⟩:∃A2:Array Value,A2=(A1.toList.take (i*2)++vs++A1.toList.drop (i*2+vs.length)).toArray:=⟨_,rfl⟩
 have hcp2:∀(W:World),W.heap[g]? = some (.cells A1 57 (0,0))→W.heap[vb]? = some (.cells vs.toArray 57 (0,0))→∀ty dc,(Builtin.copy_ #[38,38] ty #[.slice (some ⟨g,i*2,none⟩) (n+1-i) dc,.slice (some ⟨vb,0,none⟩) 1 1]).run Tryz.prog W =.ok (goInt 1) (W.setRow g A2):=fun W hW1 hW2 ty dc=>by
  rw[hA2];refine fBw W _ _ ty 57 2 g (i*2) (n+1-i) dc ⟨vb,0,none⟩ 1 1 1 A1 57 vs Tryz.underlying38 hsz hW1 (by simp only[Nat.min_def];split <;> omega) oM (fun j v hj=>?_) (by rw[hvl,hA1s];omega) h1v
  rw[xA];exact yY hW2 (by simpa using hj)
 have hfin:A2.size=c*2∧A2.toList.take ((n+1)*2)=cs.take (i*2)++vs++cs.drop (i*2):=by
  have h:=fRb (cur:=cur.toList) (cs:=cs) (vs:=vs) (k:=i*2) (m:=2) (by rw[hcl];omega) (by rw[hcl];exact ht) (by rw[hcl,Array.length_toList,hcur];omega) hvl;rw[hA2,hA1];rw[show(i+1)*2=i*2+2 by omega,show(n+1)*2=cs.length+2 by rw[hcl];omega];refine⟨?_,h.2⟩;rw[List.size_toArray];have h1:=h.1;have h2:cur.toList.length=c*2:=by rw[Array.length_toList,hcur]
  rw[h2] at h1;exact h1
 clear hA1 hA2 hW1;have HF:Hid (A2.size=c*2∧A2.toList.take ((n+1)*2)=cs.take (i*2)++vs++cs.drop (i*2)):=hfin;clear hfin;go_enter Tryz.func200,Tryz.ntmps200;go_wp2_with (simp only[hov]);go_region_law (refine fHw rfl (.tmp 73) (.tmp 76) 38 38 rfl _ _ (by simp[Act.eval,Act.put]) (by simp[Act.eval,Act.put]) (hcp1 _ _ _ _ _ oM oM) ?_);go_wp2_with (at_builtin;refine fLr _ rfl _ _ 38 38 rfl _ _ rfl rfl (hcp2 _ hg1 hv1 _ _) ?_);go_ret;refine⟨rfl,A2,setRow_heap _ g A1 A2 _ _ hg1,HF.out.1,HF.out.2,hm1.trans (uW _ _ _)⟩
theorem fMj (base:Nat) (v:Value) (n vb:Nat) (cs vs:List Value) (w:World) (hown:w.ownsRow base 57 2 v n cs) (hn:n≤1048576) (hbase:base≤w.heap.size)
  (hvl:vs.length=2) (hv:w.heap[vb]? = some (.cells vs.toArray 57 (0,0))) (h1v:∀v ∈ vs,v.oneCell'=true) :
  Calls Tryz.prog 200 #[v,.int .i64 n,.slice (some ⟨vb,0,none⟩) 1 1] w fun e w'=>
   ∃v',e =.returned v'∧w'.ownsRow base 57 2 v' (n+1) (cs++vs)∧w.grownBy w' v.ownBlock∧(v'.ownBlock=v.ownBlock∨v'.ownBlock=some w.heap.size):=by
 obtain⟨i0,hi,hz0,hz1,hz2⟩:=info_parts qZ;have HV:Hid (∀j u,vs[j]? = some u→w.cell? ((⟨vb,0,none⟩:Addr).add j)=some u):=fun j u hj=>by
  rw[xA];exact yY hv (by simpa using hj)
 obtain⟨a,c,rfl⟩:=fD hown;have hnc:n≤c:=by
  rcases hown.2 with ⟨_,h⟩|⟨g,cap,cur,h,_,_,h2,_⟩
  ·omega
  simp only[Value.slice.injEq] at h;omega
 have hcm:c≤9223372036854775807:=by
  rcases hown.2 with ⟨h,_⟩|⟨g,cap,cur,h,_,_,h2,h3,_⟩
  ·simp only[Value.slice.injEq] at h;omega
  simp only[Value.slice.injEq] at h;unfold maxLen at h3;omega
 rcases Nat.eq_or_lt_of_le hnc with rfl|h0
 all_goals
  try (have hck:¬c=n:=by omega)
  go_enter Tryz.func200,Tryz.ntmps200;go_wp2_with (at_builtin;refine wpList_append_own_at w rfl (.tmp 23) (.tmp 24) 38 rfl base 57 i0 _ 2 32 Tryz.underlying38 hi hz0 hz1 hz2 rfl (by decide) _ n cs rfl hown ⟨vb,0,none⟩ 1 1 vs rfl hvl HV.out h1v ?_ ?_ hbase ?_)
  ·unfold maxLen;omega
  ·omega
  intro v' w' h1 h2 h3 h4;obtain⟨a',c',rfl⟩:=fD h1;go_wp2;go_ret;exact⟨_,rfl,h1,h2,h4⟩
end
end Go.Proofs.YtpibfdebfacooaaGreat

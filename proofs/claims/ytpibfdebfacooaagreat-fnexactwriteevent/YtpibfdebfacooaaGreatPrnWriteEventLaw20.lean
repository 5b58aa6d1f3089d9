import Derived.Test.YtpibfdebfacooaaGreatPrnWriteEventLaw19
import Derived.Laws.CopyRow
import Derived.Laws.Externs
import Derived.Lib.Overlaps
import Derived.Lib.AppendZerosOnto
import Derived.Deep.RegionLaw
set_option maxHeartbeats 4000000
set_option maxRecDepth 100000
set_option linter.all false
namespace Go.Proofs.YtpibfdebfacooaaGreat
open Go.RowKit
attribute [local go_sem ↓] Go.wp_at_zero Go.wp_at_succ
attribute [local go_sem] cI ah cN iV aj
section
variable [dQ Leg] [iH Leg] [dQ Mrk] [iH Mrk] [dQ Bal] [iH Bal] [dQ Cont] [iH Cont] [dQ Shd] [iH Shd] [dQ ShdR] [iH ShdR]
theorem fQx {w:World} {base:Nat} {F:Nat→Prop} {u1 u2 u3 u4 u5:Value} {d:Shd} (h:shdR.O w base F (.agg #[iV d.idx,u1,u2,u3,u4,u5]) d) :
  ∃Fj,balsR.O w base Fj u1 d.bals∧(∀b,Fj b→F b)∧∀(w':World) (Fj':Nat→Prop) (v:Value) (ys:List Bal),balsR.O w' base Fj' v ys→Mod Fj w w'→(∀b,Fj' b→Fj b∨w.heap.size≤b) →
   ∃F',shdR.O w' base F' (.agg #[iV d.idx,v,u2,u3,u4,u5]) ⟨d.idx,ys,d.votes,d.held,d.done,d.appl⟩∧∀b,F' b→F b∨w.heap.size≤b:=by
 obtain⟨M,N,R,T,U,K,C,D,E,G,e,h1,h2,H,I,J,l,m,n,p,s,x,y,z,A,B,k⟩:=h;simp only[Value.agg.injEq,Array.mk.injEq,List.cons.injEq,and_true,true_and] at e;obtain⟨rfl,rfl,rfl,rfl,rfl⟩:=e;refine⟨K,h1,fun b hb=>(k b).2 (.inl (hb)),fun w' Fj' v ys L r q=>⟨fun b=>Fj' b∨C b∨D b∨E b∨G b,⟨_,_,_,_,_,Fj',C,D,E,G,rfl,L,mrksR.mod h2 r (fun b hb g=>l b g hb),contsR.mod H r (fun b hb g=>m b g hb),mrksR.mod I r (fun b hb g=>n b g hb),intsR.mod J r (fun b hb g=>p b g hb),fun b g j=>(q b g).elim (fun h=>l b h j) (fun h=>by have:=(mrksR.rng h2 b j).2;omega),fun b g j=>(q b g).elim (fun h=>m b h j) (fun h=>by have:=(contsR.rng H b j).2;omega),fun b g j=>(q b g).elim (fun h=>n b h j) (fun h=>by have:=(mrksR.rng I b j).2;omega),fun b g j=>(q b g).elim (fun h=>p b h j) (fun h=>by have:=(intsR.rng J b j).2;omega),s,x,y,z,A,B,fun b=>Iff.rfl⟩,fun b hb=>?_⟩⟩;rcases hb with hb|hb|hb|hb|hb
 ·exact(q b hb).imp (fun h=>(k b).2 (.inl (h))) id
 ·exact .inl ((k b).2 (.inr (.inl (hb))))
 ·exact .inl ((k b).2 (.inr (.inr (.inl (hb)))))
 ·exact .inl ((k b).2 (.inr (.inr (.inr (.inl (hb))))))
 exact .inl ((k b).2 (.inr (.inr (.inr (.inr (hb))))))
theorem fF8 {w:World} {base:Nat} {F:Nat→Prop} {u1 u2 u3 u4 u5:Value} {d:Shd} (h:shdR.O w base F (.agg #[iV d.idx,u1,u2,u3,u4,u5]) d) :
  ∃Fj,mrksR.O w base Fj u2 d.votes∧(∀b,Fj b→F b)∧∀(w':World) (Fj':Nat→Prop) (v:Value) (ys:List Mrk),mrksR.O w' base Fj' v ys→Mod Fj w w'→(∀b,Fj' b→Fj b∨w.heap.size≤b) →
   ∃F',shdR.O w' base F' (.agg #[iV d.idx,u1,v,u3,u4,u5]) ⟨d.idx,d.bals,ys,d.held,d.done,d.appl⟩∧∀b,F' b→F b∨w.heap.size≤b:=by
 obtain⟨M,N,R,T,U,C,K,D,E,G,e,h1,h2,H,I,J,l,s,x,y,m,n,p,z,A,B,k⟩:=h;simp only[Value.agg.injEq,Array.mk.injEq,List.cons.injEq,and_true,true_and] at e;obtain⟨rfl,rfl,rfl,rfl,rfl⟩:=e;refine⟨K,h2,fun b hb=>(k b).2 (.inr (.inl (hb))),fun w' Fj' v ys L r q=>⟨fun b=>C b∨Fj' b∨D b∨E b∨G b,⟨_,_,_,_,_,C,Fj',D,E,G,rfl,balsR.mod h1 r (fun b hb g=>l b hb g),L,contsR.mod H r (fun b hb g=>m b g hb),mrksR.mod I r (fun b hb g=>n b g hb),intsR.mod J r (fun b hb g=>p b g hb),fun b j g=>(q b g).elim (fun h=>l b j h) (fun h=>by have:=(balsR.rng h1 b j).2;omega),s,x,y,fun b g j=>(q b g).elim (fun h=>m b h j) (fun h=>by have:=(contsR.rng H b j).2;omega),fun b g j=>(q b g).elim (fun h=>n b h j) (fun h=>by have:=(mrksR.rng I b j).2;omega),fun b g j=>(q b g).elim (fun h=>p b h j) (fun h=>by have:=(intsR.rng J b j).2;omega),z,A,B,fun b=>Iff.rfl⟩,fun b hb=>?_⟩⟩;rcases hb with hb|hb|hb|hb|hb
 ·exact .inl ((k b).2 (.inl (hb)))
 ·exact(q b hb).imp (fun h=>(k b).2 (.inr (.inl (h)))) id
 ·exact .inl ((k b).2 (.inr (.inr (.inl (hb)))))
 ·exact .inl ((k b).2 (.inr (.inr (.inr (.inl (hb))))))
 exact .inl ((k b).2 (.inr (.inr (.inr (.inr (hb))))))
theorem xI {w:World} {base:Nat} {F:Nat→Prop} {u1 u2 u3 u4 u5:Value} {d:Shd} (h:shdR.O w base F (.agg #[iV d.idx,u1,u2,u3,u4,u5]) d) :
  ∃Fj,contsR.O w base Fj u3 d.held∧(∀b,Fj b→F b)∧∀(w':World) (Fj':Nat→Prop) (v:Value) (ys:List Cont),contsR.O w' base Fj' v ys→Mod Fj w w'→(∀b,Fj' b→Fj b∨w.heap.size≤b) →
   ∃F',shdR.O w' base F' (.agg #[iV d.idx,u1,u2,v,u4,u5]) ⟨d.idx,d.bals,d.votes,ys,d.done,d.appl⟩∧∀b,F' b→F b∨w.heap.size≤b:=by
 obtain⟨M,N,R,T,U,C,D,J,E,G,e,h1,h2,K,H,I,s,l,x,y,m,z,A,n,p,B,k⟩:=h;simp only[Value.agg.injEq,Array.mk.injEq,List.cons.injEq,and_true,true_and] at e;obtain⟨rfl,rfl,rfl,rfl,rfl⟩:=e;refine⟨J,K,fun b hb=>(k b).2 (.inr (.inr (.inl (hb)))),fun w' Fj' v ys L r q=>⟨fun b=>C b∨D b∨Fj' b∨E b∨G b,⟨_,_,_,_,_,C,D,Fj',E,G,rfl,balsR.mod h1 r (fun b hb g=>l b hb g),mrksR.mod h2 r (fun b hb g=>m b hb g),L,mrksR.mod H r (fun b hb g=>n b g hb),intsR.mod I r (fun b hb g=>p b g hb),s,fun b j g=>(q b g).elim (fun h=>l b j h) (fun h=>by have:=(balsR.rng h1 b j).2;omega),x,y,fun b j g=>(q b g).elim (fun h=>m b j h) (fun h=>by have:=(mrksR.rng h2 b j).2;omega),z,A,fun b g j=>(q b g).elim (fun h=>n b h j) (fun h=>by have:=(mrksR.rng H b j).2;omega),fun b g j=>(q b g).elim (fun h=>p b h j) (fun h=>by have:=(intsR.rng I b j).2;omega),B,fun b=>Iff.rfl⟩,fun b hb=>?_⟩⟩;rcases hb with hb|hb|hb|hb|hb
 ·exact .inl ((k b).2 (.inl (hb)))
 ·exact .inl ((k b).2 (.inr (.inl (hb))))
 ·exact(q b hb).imp (fun h=>(k b).2 (.inr (.inr (.inl (h))))) id
 ·exact .inl ((k b).2 (.inr (.inr (.inr (.inl (hb))))))
 exact .inl ((k b).2 (.inr (.inr (.inr (.inr (hb))))))
theorem fQy {w:World} {base:Nat} {F:Nat→Prop} {u1 u2 u3 u4 u5:Value} {d:Shd} (h:shdR.O w base F (.agg #[iV d.idx,u1,u2,u3,u4,u5]) d) :
  ∃Fj,mrksR.O w base Fj u4 d.done∧(∀b,Fj b→F b)∧∀(w':World) (Fj':Nat→Prop) (v:Value) (ys:List Mrk),mrksR.O w' base Fj' v ys→Mod Fj w w'→(∀b,Fj' b→Fj b∨w.heap.size≤b) →
   ∃F',shdR.O w' base F' (.agg #[iV d.idx,u1,u2,u3,v,u5]) ⟨d.idx,d.bals,d.votes,d.held,ys,d.appl⟩∧∀b,F' b→F b∨w.heap.size≤b:=by
 obtain⟨M,N,R,T,U,C,D,E,J,G,e,h1,h2,H,K,I,s,x,l,y,z,m,A,n,B,p,k⟩:=h;simp only[Value.agg.injEq,Array.mk.injEq,List.cons.injEq,and_true,true_and] at e;obtain⟨rfl,rfl,rfl,rfl,rfl⟩:=e;refine⟨J,K,fun b hb=>(k b).2 (.inr (.inr (.inr (.inl (hb))))),fun w' Fj' v ys L r q=>⟨fun b=>C b∨D b∨E b∨Fj' b∨G b,⟨_,_,_,_,_,C,D,E,Fj',G,rfl,balsR.mod h1 r (fun b hb g=>l b hb g),mrksR.mod h2 r (fun b hb g=>m b hb g),contsR.mod H r (fun b hb g=>n b hb g),L,intsR.mod I r (fun b hb g=>p b g hb),s,x,fun b j g=>(q b g).elim (fun h=>l b j h) (fun h=>by have:=(balsR.rng h1 b j).2;omega),y,z,fun b j g=>(q b g).elim (fun h=>m b j h) (fun h=>by have:=(mrksR.rng h2 b j).2;omega),A,fun b j g=>(q b g).elim (fun h=>n b j h) (fun h=>by have:=(contsR.rng H b j).2;omega),B,fun b g j=>(q b g).elim (fun h=>p b h j) (fun h=>by have:=(intsR.rng I b j).2;omega),fun b=>Iff.rfl⟩,fun b hb=>?_⟩⟩;rcases hb with hb|hb|hb|hb|hb
 ·exact .inl ((k b).2 (.inl (hb)))
 ·exact .inl ((k b).2 (.inr (.inl (hb))))
 ·exact .inl ((k b).2 (.inr (.inr (.inl (hb)))))
 ·exact(q b hb).imp (fun h=>(k b).2 (.inr (.inr (.inr (.inl (h)))))) id
 exact .inl ((k b).2 (.inr (.inr (.inr (.inr (hb))))))
theorem fEl {w:World} {base:Nat} {F:Nat→Prop} {u1 u2 u3 u4 u5:Value} {d:Shd} (h:shdR.O w base F (.agg #[iV d.idx,u1,u2,u3,u4,u5]) d) :
  ∃Fj,intsR.O w base Fj u5 d.appl∧(∀b,Fj b→F b)∧∀(w':World) (Fj':Nat→Prop) (v:Value) (ys:List Int),intsR.O w' base Fj' v ys→Mod Fj w w'→(∀b,Fj' b→Fj b∨w.heap.size≤b) →
   ∃F',shdR.O w' base F' (.agg #[iV d.idx,u1,u2,u3,u4,v]) ⟨d.idx,d.bals,d.votes,d.held,d.done,ys⟩∧∀b,F' b→F b∨w.heap.size≤b:=by
 obtain⟨M,N,R,T,U,C,D,E,G,J,e,h1,h2,H,I,K,s,x,y,l,z,A,m,B,n,p,k⟩:=h;simp only[Value.agg.injEq,Array.mk.injEq,List.cons.injEq,and_true,true_and] at e;obtain⟨rfl,rfl,rfl,rfl,rfl⟩:=e;refine⟨J,K,fun b hb=>(k b).2 (.inr (.inr (.inr (.inr (hb))))),fun w' Fj' v ys L r q=>⟨fun b=>C b∨D b∨E b∨G b∨Fj' b,⟨_,_,_,_,_,C,D,E,G,Fj',rfl,balsR.mod h1 r (fun b hb g=>l b hb g),mrksR.mod h2 r (fun b hb g=>m b hb g),contsR.mod H r (fun b hb g=>n b hb g),mrksR.mod I r (fun b hb g=>p b hb g),L,s,x,y,fun b j g=>(q b g).elim (fun h=>l b j h) (fun h=>by have:=(balsR.rng h1 b j).2;omega),z,A,fun b j g=>(q b g).elim (fun h=>m b j h) (fun h=>by have:=(mrksR.rng h2 b j).2;omega),B,fun b j g=>(q b g).elim (fun h=>n b j h) (fun h=>by have:=(contsR.rng H b j).2;omega),fun b j g=>(q b g).elim (fun h=>p b j h) (fun h=>by have:=(mrksR.rng I b j).2;omega),fun b=>Iff.rfl⟩,fun b hb=>?_⟩⟩;rcases hb with hb|hb|hb|hb|hb
 ·exact .inl ((k b).2 (.inl (hb)))
 ·exact .inl ((k b).2 (.inr (.inl (hb))))
 ·exact .inl ((k b).2 (.inr (.inr (.inl (hb)))))
 ·exact .inl ((k b).2 (.inr (.inr (.inr (.inl (hb))))))
 exact(q b hb).imp (fun h=>(k b).2 (.inr (.inr (.inr (.inr (h)))))) id
theorem vX {w:World} {base:Nat} {F:Nat→Prop} {u1 u2 u3 u4 u5:Value} {d:Shd} (c v:Int) (h:shdR.O w base F (.agg #[iV d.idx,u1,u2,u3,u4,u5]) d):shdRR.O w base F (.agg #[iV c,iV v,iV d.idx,u1,u2,u3,u4,u5]) ⟨c,v,d⟩:=
 ⟨_,_,_,_,_,F,rfl,h,fun _=>Iff.rfl⟩
theorem mW {w:World} {base:Nat} {F:Nat→Prop} {v:Value} {x:Shd} (h:shdR.O w base F v x):∃a1 a2 a3 a4 a5 c1 c2 c3 c4 c5,v =.agg #[iV x.idx,.slice a1 x.bals.length c1,.slice a2 x.votes.length c2,.slice a3 x.held.length c3,.slice a4 x.done.length c4,.slice a5 x.appl.length c5]:=fCe (shdR.ofO h)
theorem fKn (w:World) (base:Nat):∃F,shdR.O w base F (.agg #[iV 0,aj,aj,aj,aj,aj]) ⟨0,[],[],[],[],[]⟩:=
 ⟨fun _=>False,_,_,_,_,_,(fun _=>False),(fun _=>False),(fun _=>False),(fun _=>False),(fun _=>False),rfl,⟨World.ownsRow_nil _ _ _ _,by funext b;simp[Value.ownBlock]⟩,⟨World.ownsRow_nil _ _ _ _,by funext b;simp[Value.ownBlock]⟩,xX w base,⟨World.ownsRow_nil _ _ _ _,by funext b;simp[Value.ownBlock]⟩,⟨World.ownsRow_nil _ _ _ _,by funext b;simp[Value.ownBlock]⟩,fun _ h _=>h,fun _ h _=>h,fun _ h _=>h,fun _ h _=>h,fun _ h _=>h,fun _ h _=>h,fun _ h _=>h,fun _ h _=>h,fun _ h _=>h,fun _ h _=>h,fun b=>by simp⟩
theorem vZ {α:Type} (R:Rep α) {W:World} {base B:Nat} {F:Nat→Prop} {v:Value} {x:α} (h:R.O W base F v x) (hB:¬F B) (u0 u1 u2 u3 u4 u5 u6 u7:Value) :
  R.O ((((((((W.setCell ⟨B,0,none⟩ u0).setCell ⟨B,1,none⟩ u1).setCell ⟨B,2,none⟩ u2).setCell ⟨B,3,none⟩ u3).setCell ⟨B,4,none⟩ u4).setCell ⟨B,5,none⟩ u5).setCell ⟨B,6,none⟩ u6).setCell ⟨B,7,none⟩ u7) base F v x:=
 have d:∀b,F b→¬(b=B):=fun b hb e=>hB (e▸hb)
 R.mod (R.mod (R.mod (R.mod (R.mod (R.mod (R.mod (R.mod h (Mod.of_set W ⟨B,0,none⟩ u0) d) (Mod.of_set _ ⟨B,1,none⟩ u1) d) (Mod.of_set _ ⟨B,2,none⟩ u2) d) (Mod.of_set _ ⟨B,3,none⟩ u3) d) (Mod.of_set _ ⟨B,4,none⟩ u4) d) (Mod.of_set _ ⟨B,5,none⟩ u5) d) (Mod.of_set _ ⟨B,6,none⟩ u6) d) (Mod.of_set _ ⟨B,7,none⟩ u7) d
theorem fYb {α:Type} (R:Rep α) {W:World} {base B:Nat} {F:Nat→Prop} {v:Value} {x:α} (h:R.O W base F v x) (hB:¬F B) (u0 u1 u2 u3 u4 u5:Value) :
  R.O ((((((W.setCell ⟨B,0,none⟩ u0).setCell ⟨B,1,none⟩ u1).setCell ⟨B,2,none⟩ u2).setCell ⟨B,3,none⟩ u3).setCell ⟨B,4,none⟩ u4).setCell ⟨B,5,none⟩ u5) base F v x:=
 have d:∀b,F b→¬(b=B):=fun b hb e=>hB (e▸hb)
 R.mod (R.mod (R.mod (R.mod (R.mod (R.mod h (Mod.of_set W ⟨B,0,none⟩ u0) d) (Mod.of_set _ ⟨B,1,none⟩ u1) d) (Mod.of_set _ ⟨B,2,none⟩ u2) d) (Mod.of_set _ ⟨B,3,none⟩ u3) d) (Mod.of_set _ ⟨B,4,none⟩ u4) d) (Mod.of_set _ ⟨B,5,none⟩ u5) d
theorem fSz {α:Type} (R:Rep α) {W:World} {base B o:Nat} {F:Nat→Prop} {v:Value} {x:α} (h:R.O W base F v x) (hB:¬F B) (u:Value):R.O (W.setCell ⟨B,o,none⟩ u) base F v x:=
 have d:∀b,F b→¬(b=B):=fun b hb e=>hB (e▸hb)
 R.mod h (Mod.of_set W ⟨B,o,none⟩ u) d
end
section
open Go.Shelf
variable [dQ Mrk] [iH Mrk] [dQ Bal] [iH Bal] [dQ Ledg] [iH Ledg] [dQ Leg] [iH Leg]
theorem fCb (w:World) (dT sT ty elem:TypeId) (sz g o dLen dCap:Nat) (a:Addr) (sLen sCap m:Nat) (cur:Array Value) (t:TypeId) (cs:List Value)
  (hu:Tryz.prog.underlying dT=some (.slice elem)) (hs:(Tryz.prog.info? elem).map (·.size)=some sz)
  (hg:w.heap[g]? = some (.cells cur t (0,0))) (hm:Nat.min sLen dLen=m) (hn:cs.length=m*sz)
  (hsrc:∀j v,cs[j]? = some v→w.cell? (a.add j)=some v) (hfit:o+cs.length≤cur.size) (h1:∀v ∈ cs,v.oneCell'=true) :
  (Builtin.copy_ #[dT,sT] ty #[.slice (some ⟨g,o,none⟩) dLen dCap,.slice (some a) sLen sCap]).run Tryz.prog w =
   .ok (goInt m) (w.setRow g (cur.toList.take o++cs++cur.toList.drop (o+cs.length)).toArray):=by
 have k:=run_loadCells_list (P:=Tryz.prog) w a cs hsrc;have d:=run_storeCells_at Tryz.prog g o t cs 0 cur w hg (by simpa using hfit) h1;cases e:Tryz.prog.info? elem with
 | none=>simp[e] at hs
 | some i=>
  have l:i.size=sz:=by simpa [e] using hs
  rw[hn] at k;simp[Builtin.copy_,run_underlying hu,Builtin.lenOf,Builtin.firstCells,sizeOf,typeInfo,e,l,hm,k,d]
theorem fNb (w:World) {ops:Array Oper} {rest:List Oper} {o:Oper} {a:Act} {Q:Exit→Act→World→Prop} (hgd:o.guard=none) (d s:Operand) (t t':TypeId)
  (ho:o.op =.call {callee:=.builtin .copy,args:=#[d,s],argTypes:=#[t,t']}) (v u:Value) (hd:a.eval d=v) (hs:a.eval s=u) {v':Value} {w':World}
  (hr:(Builtin.copy_ #[t,t'] o.type #[v,u]).run Tryz.prog w =.ok v' w') (h:wpList Tryz.prog ops Q rest (a.put o.dst v') w'):wpList Tryz.prog ops Q (o::rest) a w:=by
 refine wpList_plain hgd fun K e=>?_
 unfold Oper.wp execOp;simp only[ho,resolve,invoke,builtin,Sem.run_bind,Sem.run_pure,Result.andThen_ok,List.map_toArray,List.map_cons,List.map_nil,hd,hs,hr];exact e _ _ h
theorem fIz {ops:Array Oper} {o:Oper} {a:Act} {w:World} {K:Act→World→Prop} {Q:Exit→Act→World→Prop} {E:Prop} (hgd:o.guard=none) (d s:Operand) (t t':TypeId)
  (ho:o.op =.call {callee:=.builtin .copy,args:=#[d,s],argTypes:=#[t,t']}) (v u:Value) (hd:a.eval d=v) (hs:a.eval s=u) {v':Value} {w':World}
  (hr:(Builtin.copy_ #[t,t'] o.type #[v,u]).run Tryz.prog w =.ok v' w') (hK:K (a.put o.dst v') w') :
  if Region.wanted o (yielded ops a.tmps)=true then Oper.wp Tryz.prog o a w K Q else E:=by
 have e:Region.wanted o (yielded ops a.tmps)=true:=by simp[Region.wanted,hgd]
 rw[if_pos e];unfold Oper.wp execOp;simp only[ho,resolve,invoke,builtin,Sem.run_bind,Sem.run_pure,Result.andThen_ok,List.map_toArray,List.map_cons,List.map_nil,hd,hs,hr];exact hK
theorem vV (w:World) (g:Nat) (cs:Array Value):Mod (fun b=>b=g) w (w.setRow g cs):=
 ⟨rfl,rfl,rfl,by simp[World.setRow],fun k _ d=>setRow_other w g k cs d⟩
theorem xQ (b o j:Nat):(⟨b,o,none⟩:Addr).add j=⟨b,o+j,none⟩:=by
 by_cases d:j=0
 ·subst d;simp[Addr.add]
 simp[Addr.add,d]
theorem zQ {w:World} {g j:Nat} {cur:Array Value} {t:TypeId} {fr:Nat × Nat} {v:Value} (hg:w.heap[g]? = some (.cells cur t fr)) (h:cur.toList[j]? = some v):w.cell? ⟨g,j,none⟩=some v:=by
 have:cur[j]? = some v:=by rw[←Array.getElem?_toList];exact h
 simp[World.cell?,hg,this]
theorem fUp (w:World) (o:Obj):(w.alloc o).heap[w.heap.size]? = some o:=by
 show(w.heap.push o)[w.heap.size]? = some o;simp[Array.getElem?_push]
theorem fS1 {cur cs vs:List Value} {k m:Nat} (hk:k≤cs.length) (hc:cur.take cs.length=cs) (hl:cs.length+m≤cur.length) (hv:vs.length=m) :
  ((((cur.take (k+m)++cs.drop k++cur.drop (k+m+(cs.drop k).length)).take k++vs++(cur.take (k+m)++cs.drop k++cur.drop (k+m+(cs.drop k).length)).drop (k+vs.length)).length=cur.length) ∧
  ((cur.take (k+m)++cs.drop k++cur.drop (k+m+(cs.drop k).length)).take k++vs++(cur.take (k+m)++cs.drop k++cur.drop (k+m+(cs.drop k).length)).drop (k+vs.length)).take (cs.length+m)=cs.take k++vs++cs.drop k):=by
 subst hv;have h1:(cur.take (k+vs.length)++cs.drop k++cur.drop (k+vs.length+(cs.drop k).length)).take k=cs.take k:=by
  rw[List.append_assoc,List.take_append_of_le_length (by rw[List.length_take];omega),List.take_take];conv=>rhs;rw[←hc,List.take_take]
  congr 1
  omega
 have h2:(cur.take (k+vs.length)++cs.drop k++cur.drop (k+vs.length+(cs.drop k).length)).drop (k+vs.length)=cs.drop k++cur.drop (k+vs.length+(cs.drop k).length):=by
  rw[List.append_assoc,List.drop_append_of_le_length (by rw[List.length_take];omega),List.drop_take];simp
 rw[h1,h2];have d:(cs.drop k).length=cs.length-k:=List.length_drop ..;constructor
 ·simp only[List.length_append,List.length_take,List.length_drop];omega
 rw[←List.append_assoc,List.take_append_of_le_length (by simp only[List.length_append,List.length_take,List.length_drop];omega),List.take_of_length_le (by simp only[List.length_append,List.length_take,List.length_drop];omega)]
theorem fJ4 (g n c i vb:Nat) (cs vs:List Value) (cur:Array Value) (w:World) (hg:w.heap[g]? = some (.cells cur 166 (0,0))) (hi:i<n) (hroom:n+1≤c) (hc63:c≤9223372036854775807) (hvb:vb≠g)
  (hcur:cur.size=c*2) (hcl:cs.length=n*2) (ht:cur.toList.take (n*2)=cs) (hvl:vs.length=2) (hv:w.heap[vb]? = some (.cells vs.toArray 166 (0,0))) (h1c:∀v ∈ cs,v.oneCell'=true) (h1v:∀v ∈ vs,v.oneCell'=true) :
  cL 211 #[.slice (some ⟨g,0,none⟩) n c,iV i,.slice (some ⟨vb,0,none⟩) 1 1] w fun e w'=>
   e =.returned (.slice (some ⟨g,0,none⟩) (n+1) c)∧∃cur':Array Value,w'.heap[g]? = some (.cells cur' 166 (0,0))∧cur'.size=c*2∧cur'.toList.take ((n+1)*2)=cs.take (i*2)++vs++cs.drop (i*2)∧Mod (fun b=>b=g) w w':=by
 have X:¬((i:Int)=(n:Int)):=oM;have D:(Tryz.prog.info? 166).map (·.size)=some 2:=by
  obtain⟨Y,x,_,h1,_⟩:=info_parts fC4;rw[x];simp[h1]
 have K:∀w,(Go.sizeOf 166).run Tryz.prog w =.ok 2 w:=fun w=>by
  obtain⟨Y,x,_,h1,_⟩:=info_parts fC4;simp[sizeOf,typeInfo,x,h1]
 have L:∀M N,(callFunc 231 #[.slice (some ⟨vb,0,none⟩) 1 1,.slice (some ⟨g,(i+1)*2,none⟩) M N]).run Tryz.prog w =.ok (.value (.bool false)) w:=fun M N=>by
  rw[run_callFunc_extern Tryz.func231 kF kF kF (e:=Extern.SlicesOverlaps.overlaps #[37,37] #[4]) kF,
   Lib.run_overlaps_apart w 37 4 166 Tryz.underlying37 2 K ⟨vb,0,none⟩ ⟨g,(i+1)*2,none⟩ 1 1 M N hvb 166 166 2 (c*2) (by simp[World.shape?,hv,hvl]) (by simp[World.shape?,hg,hcur]) oM (by simp[World.frozen?,hv]) (by simp[World.frozen?,hv])]
  rfl
 have E:(cs.drop (i*2)).length=(n-i)*2:=by rw[List.length_drop,hcl];omega
 have Z:(0:Int)≤(i:Int)+1:=oM;have a0:IntKind.i64.wrap ((i:Int)+1)=(i:Int)+1:=by rw[IntKind.wrap_i64];omega
 have a1:((i:Int)+1).toNat=i+1:=oM;have a2:i≤n:=oM;have a3:¬(c=i+1):=oM;have a4:(i:Int)≤(n:Int)+1:=oM;have a5:¬(c=i):=oM;obtain⟨d,p⟩:∃d:Array Value,d=(cur.toList.take ((i+1)*2)++cs.drop (i*2)++cur.toList.drop ((i+1)*2+(cs.drop (i*2)).length)).toArray:=⟨_,rfl⟩
 have r:∀y I z J O,I=n-i→J=n+1-i→(Builtin.copy_ #[37,37] y #[.slice (some ⟨g,(i+1)*2,none⟩) I z,.slice (some ⟨g,i*2,none⟩) J O]).run Tryz.prog w.drew =.ok (goInt ((n-i:Nat):Int)) (w.drew.setRow g d):=fun y I z J O e1 e2=>by
  rw[p];refine fCb w.drew _ _ y 166 2 g ((i+1)*2) I z ⟨g,i*2,none⟩ J O (n-i) cur 166 (cs.drop (i*2)) Tryz.underlying37 D hg (by simp only[Nat.min_def];split <;> omega) E (fun j v C=>?_) (by rw[E,hcur];omega) (fun v hv=>h1c v (List.mem_of_mem_drop hv))
  rw[xQ];refine zQ hg ?_;rw[List.getElem?_drop,←ht,List.getElem?_take] at C;split at C
  ·exact C
  cases C
 have F:d.size=c*2:=by
  rw[p];simp only[List.size_toArray,List.length_append,List.length_take,List.length_drop,Array.length_toList];rw[hcl];omega
 have A:(w.drew.setRow g d).heap[g]? = some (.cells d 166 (0,0)):=setRow_heap w.drew g cur d _ _ hg;have G:(w.drew.setRow g d).heap[vb]? = some (.cells vs.toArray 166 (0,0)):=(setRow_other w.drew g vb d hvb).trans hv;obtain⟨R,l⟩:∃R,R=w.drew.setRow g d:=⟨_,rfl⟩
 rw[←l] at A G r;have T:Mod (fun b=>b=g) w R:=by
  rw[l];exact(Mod.of_below (Below.drew (bR _ _))).trans (vV _ _ _)
 obtain⟨q,B⟩:∃q:Array Value,q=(d.toList.take (i*2)++vs++d.toList.drop (i*2+vs.length)).toArray:=⟨_,rfl⟩
 have H:∀(W:World),W.heap[g]? = some (.cells d 166 (0,0))→W.heap[vb]? = some (.cells vs.toArray 166 (0,0))→∀y z,(Builtin.copy_ #[37,37] y #[.slice (some ⟨g,i*2,none⟩) (n+1-i) z,.slice (some ⟨vb,0,none⟩) 1 1]).run Tryz.prog W =.ok (goInt 1) (W.setRow g q):=fun W l U y z=>by
  rw[B];refine fCb W _ _ y 166 2 g (i*2) (n+1-i) z ⟨vb,0,none⟩ 1 1 1 d 166 vs Tryz.underlying37 D l (by simp only[Nat.min_def];split <;> omega) oM (fun j v C=>?_) (by rw[hvl,F];omega) h1v
  rw[xQ];exact zQ U (by simpa using C)
 have s:q.size=c*2∧q.toList.take ((n+1)*2)=cs.take (i*2)++vs++cs.drop (i*2):=by
  have h:=fS1 (cur:=cur.toList) (cs:=cs) (vs:=vs) (k:=i*2) (m:=2) (by rw[hcl];omega) (by rw[hcl];exact ht) (by rw[hcl,Array.length_toList,hcur];omega) hvl;rw[B,p];rw[show(i+1)*2=i*2+2 by omega,show(n+1)*2=cs.length+2 by rw[hcl];omega];refine⟨?_,h.2⟩;rw[List.size_toArray];have h1:=h.1;have h2:cur.toList.length=c*2:=by rw[Array.length_toList,hcur]
  rw[h2] at h1;exact h1
 clear p B l;have V:Hid (q.size=c*2∧q.toList.take ((n+1)*2)=cs.take (i*2)++vs++cs.drop (i*2)):=s;clear s;go_enter Tryz.func211,Tryz.ntmps211;go_wp2_with (simp only[L]);go_region_law (refine fIz rfl (.tmp 73) (.tmp 76) 37 37 rfl _ _ (by simp[Act.eval,Act.put]) (by simp[Act.eval,Act.put]) (r _ _ _ _ _ oM oM) ?_);go_wp2_with (at_builtin;refine fNb _ rfl _ _ 37 37 rfl _ _ rfl rfl (H _ A G _ _) ?_);go_ret;refine⟨rfl,q,setRow_heap _ g d q _ _ A,V.out.1,V.out.2,T.trans (vV _ _ _)⟩
theorem fN9 (base:Nat) (v:Value) (n vb:Nat) (cs vs:List Value) (w:World) (hown:w.ownsRow base 166 2 v n cs) (hn:n≤1048576) (hbase:base≤w.heap.size)
  (hvl:vs.length=2) (hv:w.heap[vb]? = some (.cells vs.toArray 166 (0,0))) (h1v:∀v ∈ vs,v.oneCell'=true) :
  cL 211 #[v,iV n,.slice (some ⟨vb,0,none⟩) 1 1] w fun e w'=>
   ∃v',e =.returned v'∧w'.ownsRow base 166 2 v' (n+1) (cs++vs)∧w.grownBy w' v.ownBlock∧(v'.ownBlock=v.ownBlock∨v'.ownBlock=some w.heap.size):=by
 obtain⟨q,r,d,k,l⟩:=info_parts fC4;have s:Hid (∀j u,vs[j]? = some u→w.cell? ((⟨vb,0,none⟩:Addr).add j)=some u):=fun j u x=>by
  rw[xQ];exact zQ hv (by simpa using x)
 obtain⟨a,c,rfl⟩:=fD hown;have m:n≤c:=by
  rcases hown.2 with ⟨_,h⟩|⟨g,cap,cur,h,_,_,h2,_⟩
  ·omega
  simp only[Value.slice.injEq] at h;omega
 have y:c≤9223372036854775807:=by
  rcases hown.2 with ⟨h,_⟩|⟨g,cap,cur,h,_,_,h2,p,_⟩
  ·simp only[Value.slice.injEq] at h;omega
  simp only[Value.slice.injEq] at h;unfold maxLen at p;omega
 rcases Nat.eq_or_lt_of_le m with rfl|h0
 all_goals
  try (have z:¬c=n:=by omega)
  go_enter Tryz.func211,Tryz.ntmps211;go_wp2_with (at_builtin;refine wpList_append_own_at w rfl (.tmp 23) (.tmp 24) 37 rfl base 166 q _ 2 16 Tryz.underlying37 r d k l rfl (by decide) _ n cs rfl hown ⟨vb,0,none⟩ 1 1 vs rfl hvl s.out h1v ?_ ?_ hbase ?_)
  ·unfold maxLen;omega
  ·omega
  intro v' w' h1 h2 p A;obtain⟨a',B,rfl⟩:=fD h1;go_wp2;go_ret;exact⟨_,rfl,h1,h2,A⟩
theorem fLx (g n c i vb:Nat) (cs vs:List Value) (w:World) (hi:i<n) (hnc:n≤c) (hroom:c<n+1) (hbig:n≤1048576)
  (hcl:cs.length=n*2) (hcs:∀j v,cs[j]? = some v→w.cell? ⟨g,j,none⟩=some v) (hvl:vs.length=2) (hv:w.heap[vb]? = some (.cells vs.toArray 166 (0,0))) (h1c:∀v ∈ cs,v.oneCell'=true) (h1v:∀v ∈ vs,v.oneCell'=true) :
  cL 211 #[.slice (some ⟨g,0,none⟩) n c,iV i,.slice (some ⟨vb,0,none⟩) 1 1] w fun e w'=>
   ∃G,e =.returned (.slice (some ⟨w.heap.size,0,none⟩) (n+1) G)∧∃cur':Array Value,w'.heap[w.heap.size]? = some (.cells cur' 166 (0,0))∧n+1≤G∧G≤maxLen∧cur'.size=G*2∧cur'.toList.take ((n+1)*2)=cs.take (i*2)++vs++cs.drop (i*2)∧Mod (fun _=>False) w w':=by
 obtain⟨i0,M,O,R,T⟩:=info_parts fC4;have a3:(Tryz.prog.info? 166).map (·.size)=some 2:=by rw[M];simp[R]
 have ar:¬((i:Int)=(n:Int)):=oM;have au:(c:Int)<(n:Int)+1:=oM;have av:g<w.heap.size:=wL w ⟨g,0,none⟩ (hcs 0 _ (List.getElem?_eq_getElem oM));have ac:vb<w.heap.size:=(Array.getElem?_eq_some_iff.1 hv).1;have a4:(n:Int)+1-(i:Int)=((n+1-i:Nat):Int):=oM;have U:i+(n+1-i)=n+1:=oM;obtain⟨Z,hZ⟩:∃Z:Value,Z =.agg #[iV 0,iV 0]:=⟨_,rfl⟩
 rw[←hZ] at O;have a5:Z.cells.size=2:=by rw[hZ];rfl
 have I:(Builtin.firstCells i0.size i (.slice (some ⟨g,0,none⟩) i c)).run Tryz.prog w.drew =.ok (cs.take (i*2)).toArray w.drew:=by
  rw[R];exact run_firstCells_some w.drew 2 i ⟨g,0,none⟩ i c (cs.take (i*2)) (by rw[List.length_take];omega) (fun j v p=>by
   rw[xQ,Nat.zero_add];rw[List.getElem?_take] at p;split at p
   ·exact hcs j v p
   cases p)
 have s:∀x,(Builtin.append_ #[37,3] x #[.slice (some ⟨g,0,none⟩) i c,iV ((n:Int)+1-(i:Int))]).run Tryz.prog w =
   .ok (.slice (some ⟨w.heap.size,0,none⟩) (n+1) (grownCap w (n+1) c 166)) (w.drew.alloc (.cells ((cs.take (i*2)).toArray++Builtin.zeroCells Z.cells (n+1-i)++Builtin.zeroCells Z.cells (grownCap w (n+1) c 166-(n+1))) 166)):=fun x=>by
  have h:=Lib.run_append_grow_zeros w 37 3 x 166 i0 _ .i64 .i64 Tryz.underlying37 Tryz.underlying3 M O (some ⟨g,0,none⟩) i c (cs.take (i*2)) I (n+1-i) oM oM oM oM (by rw[T];omega) (by rw[T,U];exact growslice_fits hroom oM);rw[U] at h;rw[a4];exact h
 obtain⟨G,hG⟩:∃G,G=grownCap w (n+1) c 166:=⟨_,rfl⟩
 obtain⟨d,m⟩:∃d:Array Value,d=(cs.take (i*2)).toArray++Builtin.zeroCells Z.cells (n+1-i)++Builtin.zeroCells Z.cells (G-(n+1)):=⟨_,rfl⟩
 rw[←hG] at s;rw[←m] at s;have ad:n+1≤G:=by rw[hG];exact grownCap_ge w _ _ _
 have V:G≤maxLen:=by
  rw[hG];exact grownCap_le_maxLen w (n+1) c 166 (by unfold maxLen;omega)
 have X:d.size=G*2:=by
  rw[m];simp[Builtin.zeroCells,a5,List.length_take,hcl];omega
 have a6:d.toList.take (i*2)=cs.take (i*2):=by
  rw[m];simp only[Array.toList_append,List.append_assoc];rw[List.take_append_of_le_length (by simp[hcl];omega)];rw[List.take_of_length_le (by simp;omega)]
 obtain⟨q,C⟩:∃q,q=w.drew.alloc (.cells d 166):=⟨_,rfl⟩
 rw[←C] at s;have Y:q.heap[w.heap.size]? = some (.cells d 166 (0,0)):=by rw[C];exact fUp w.drew _
 have D:Mod (fun b=>b=w.heap.size) w q:=by
  rw[C];exact(Mod.of_below (Below.drew (bR _ _))).trans ((Mod.refl _ _).alloc _)
 have ae:q.heap[vb]? = some (.cells vs.toArray 166 (0,0)):=(D.block vb ac oM).trans hv;have a7:∀j v,cs[j]? = some v→q.cell? ⟨g,j,none⟩=some v:=fun j v p=>D.cell (hcs j v p) (by dsimp only;omega)
 obtain⟨l,E⟩:∃l:Array Value,l=(d.toList.take (i*2)++vs++d.toList.drop (i*2+vs.length)).toArray:=⟨_,rfl⟩
 have y:∀(W:World),W.heap[w.heap.size]? = some (.cells d 166 (0,0))→W.heap[vb]? = some (.cells vs.toArray 166 (0,0))→∀x dc,(Builtin.copy_ #[37,37] x #[.slice (some ⟨w.heap.size,i*2,none⟩) (n+1-i) dc,.slice (some ⟨vb,0,none⟩) 1 1]).run Tryz.prog W =.ok (goInt 1) (W.setRow w.heap.size l):=fun W a0 af x dc=>by
  rw[E];refine fCb W _ _ x 166 2 w.heap.size (i*2) (n+1-i) dc ⟨vb,0,none⟩ 1 1 1 d 166 vs Tryz.underlying37 a3 a0 (by simp only[Nat.min_def];split <;> omega) oM (fun j v p=>?_) (by rw[hvl,X];omega) h1v
  rw[xQ];exact zQ af (by simpa using p)
 have J:l.size=G*2:=by
  rw[E];simp only[List.size_toArray,List.length_append,List.length_take,List.length_drop,Array.length_toList];rw[X,hvl];omega
 have a8:(cs.drop (i*2)).length=(n-i)*2:=by rw[List.length_drop,hcl];omega
 obtain⟨r,F⟩:∃r:Array Value,r=(l.toList.take ((i+1)*2)++cs.drop (i*2)++l.toList.drop ((i+1)*2+(cs.drop (i*2)).length)).toArray:=⟨_,rfl⟩
 have z:∀(W:World),W.heap[w.heap.size]? = some (.cells l 166 (0,0))→(∀j v,cs[j]? = some v→W.cell? ⟨g,j,none⟩=some v)→∀x dl dc sl sc,dl=n-i→sl=n-i→(Builtin.copy_ #[37,37] x #[.slice (some ⟨w.heap.size,(i+1)*2,none⟩) dl dc,.slice (some ⟨g,i*2,none⟩) sl sc]).run Tryz.prog W =.ok (goInt ((n-i:Nat):Int)) (W.setRow w.heap.size r):=fun W a0 ag x dl dc sl sc e1 e2=>by
  rw[F];refine fCb W _ _ x 166 2 w.heap.size ((i+1)*2) dl dc ⟨g,i*2,none⟩ sl sc (n-i) l 166 (cs.drop (i*2)) Tryz.underlying37 a3 a0 (by simp only[Nat.min_def];split <;> omega) a8 (fun j v p=>?_) (by rw[a8,J];omega) (fun v hv=>h1c v (List.mem_of_mem_drop hv))
  rw[xQ];rw[List.getElem?_drop] at p;exact ag _ v p
 have K:r.size=G*2∧r.toList.take ((n+1)*2)=cs.take (i*2)++vs++cs.drop (i*2):=by
  have a9:l.toList.take ((i+1)*2)=cs.take (i*2)++vs:=by
   rw[E,a6];simp only[];rw[List.take_append_of_le_length (by simp only[List.length_append,List.length_take,hcl,hvl];omega),List.take_of_length_le (by simp only[List.length_append,List.length_take,hcl,hvl];omega)]
  constructor
  ·rw[F];simp only[List.size_toArray,List.length_append,List.length_take,List.length_drop,Array.length_toList];rw[J,hcl];omega
  rw[F,a9];simp only[];rw[List.take_append_of_le_length (by simp only[List.length_append,List.length_take,List.length_drop,hcl,hvl];omega),List.take_of_length_le (by simp only[List.length_append,List.length_take,List.length_drop,hcl,hvl];omega)]
 have HF:Hid (r.size=G*2∧r.toList.take ((n+1)*2)=cs.take (i*2)++vs++cs.drop (i*2)):=K;have HG:Hid (n+1≤G∧G≤maxLen):=⟨ad,V⟩;have HM:Hid (Mod (fun b=>b=w.heap.size) w q):=D;have am:G≤9223372036854775807:=by unfold maxLen at V;omega
 clear K E F C m hG I X a6 V D a4 U M O hZ a5 R T;have aw:¬(G=i):=oM;have ao:¬(G=i+1):=oM;have ax:¬(c=i):=oM;have ay:IntKind.i64.wrap ((i:Int)+1)=(i:Int)+1:=by rw[IntKind.wrap_i64];omega
 have az:((i:Int)+1).toNat=i+1:=oM;have aA:(0:Int)≤(i:Int)+1:=oM;have aB:i≤n:=oM;have aC:(i:Int)≤(n:Int):=oM;have aD:(i:Int)≤(n:Int)+1:=oM;have aE:(i:Int)+1≤(n:Int)+1:=oM;obtain⟨N,hN⟩:∃N,N=w.heap.size:=⟨_,rfl⟩
 rw[←hN] at s Y y z ⊢;have HN:Hid (N=w.heap.size):=hN;clear hN;have a1:(q.setRow N l).heap[N]? = some (.cells l 166 (0,0)):=setRow_heap q N d l _ _ Y;have L:∀j v,cs[j]? = some v→(q.setRow N l).cell? ⟨g,j,none⟩=some v:=fun j v p=>(vV q N l).cell (a7 j v p) (by dsimp only;have:=HN.out;omega)
 obtain⟨W2,H⟩:∃W2,W2=q.setRow N l:=⟨_,rfl⟩
 rw[←H] at a1 L;have ak:Hid (Mod (fun b=>b=N) w W2):=by
  rw[Hid,H,HN.out];exact HM.out.trans (vV _ _ _)
 have A:=y q Y ae;rw[←H] at A;clear H y;have B:=z W2.drew a1 L;clear z;have ab:(W2.drew.setRow N r).heap[N]? = some (.cells r 166 (0,0)):=setRow_heap W2.drew N l r _ _ a1;obtain⟨W3,a2⟩:∃W3,W3=W2.drew.setRow N r:=⟨_,rfl⟩
 rw[←a2] at ab B;have al:Hid (Mod (fun _=>False) w W3):=by
  have h:Mod (fun b=>b=N) w W3:=by
   rw[a2];exact(ak.out.trans (Mod.of_below (Below.drew (bR _ _)))).trans (vV _ _ _)
  exact⟨h.os,h.tape,h.output,h.size,fun k hk _=>h.block k hk (by have:=HN.out;omega)⟩
 clear a2;go_enter Tryz.func211,Tryz.ntmps211;go_wp2_with (first
  | (at_builtin;refine Lib.wpList_append_run _ rfl _ _ _ _ rfl _ _ rfl rfl _ _ (s _) ?_)
  | (at_builtin;refine fNb _ rfl _ _ 37 37 rfl _ _ rfl rfl (A _ _) ?_))
 go_region_law (refine fIz rfl (.tmp 50) (.tmp 53) 37 37 rfl _ _ (by simp[Act.eval,Act.put]) (by simp[Act.eval,Act.put]) (B _ _ _ _ _ oM oM) ?_)
 go_wp2;go_ret;exact⟨G,rfl,r,ab,HG.out.1,HG.out.2,HF.out.1,HF.out.2,al.out⟩
theorem fMd (xs ys:List Mrk):gM (xs++ys)=gM xs++gM ys:=by simp[gM]
theorem fFw (xs:List Mrk):(gM xs).length=xs.length*2:=by
 induction xs with
 | nil=>rfl
 | cons x xs ih=>
  have e:gM (x::xs)=mrkC x++gM xs:=by simp[gM]
  have d:(mrkC x).length=2:=rfl;rw[e,List.length_append,ih,d,List.length_cons];omega
theorem fEf (x:Mrk):∀u ∈ mrkC x,u.oneCell'=true:=by
 intro u d;simp[mrkC] at d;rcases d with rfl|rfl <;> rfl
theorem fIn (xs:List Mrk):∀u ∈ gM xs,u.oneCell'=true:=by
 intro u d;unfold gM at d;obtain⟨x,_,h⟩:=List.mem_flatMap.1 d;exact fEf x u h
theorem fIo (xs:List Mrk) (i:Nat):gM (xs.take i)=(gM xs).take (i*2):=by
 induction xs generalizing i with
 | nil=>simp[gM]
 | cons x xs ih=>
  cases i with
  | zero=>simp[gM]
  | succ i=>
   have e:gM (x::xs)=mrkC x++gM xs:=by simp[gM]
   have d:gM ((x::xs).take (i+1))=mrkC x++gM (xs.take i):=by simp[gM]
   have g:(mrkC x).length=2:=rfl;rw[e,d,ih,List.take_append];rw[List.take_of_length_le (l:=mrkC x) oM,g,show(i+1)*2-2=i*2 by omega]
theorem fIm (xs:List Mrk) (i:Nat):gM (xs.drop i)=(gM xs).drop (i*2):=by
 induction xs generalizing i with
 | nil=>simp[gM]
 | cons x xs ih=>
  cases i with
  | zero=>simp[gM]
  | succ i=>
   have e:gM (x::xs)=mrkC x++gM xs:=by simp[gM]
   have d:gM ((x::xs).drop (i+1))=gM (xs.drop i):=by simp[gM]
   have g:(mrkC x).length=2:=rfl;rw[e,d,ih,List.drop_append];rw[List.drop_of_length_le (l:=mrkC x) oM,g,show(i+1)*2-2=i*2 by omega,List.nil_append]
def InsM (base:Nat) (v:Value) (ys:List Mrk) (w:World) (e:Ending) (w':World):Prop:=
 ∃v',e =.returned v'∧w'.ownsRow base 166 2 v' ys.length (gM ys)∧Mod (fun b=>v.ownBlock=some b) w w'∧(∀b,v'.ownBlock=some b→v.ownBlock=some b∨(w.heap.size≤b∧b<w'.heap.size))
theorem fN8 (base:Nat) (v:Value) (i vb:Nat) (xs:List Mrk) (r:Mrk) (w:World) (hown:w.ownsRow base 166 2 v xs.length (gM xs)) (hi:i≤xs.length) (hn:xs.length≤1048000) (hbase:base≤w.heap.size)
  (hv:w.heap[vb]? = some (.cells (mrkC r).toArray 166 (0,0))) (hvb:v.ownBlock≠some vb) :
  cL 211 #[v,iV i,.slice (some ⟨vb,0,none⟩) 1 1] w (InsM base v (xs.take i++[r]++xs.drop i) w):=by
 have x:(xs.take i++[r]++xs.drop i).length=xs.length+1:=by simp only[List.length_append,List.length_take,List.length_drop,List.length_cons,List.length_nil];omega
 have n:gM (xs.take i++[r]++xs.drop i)=(gM xs).take (i*2)++mrkC r++(gM xs).drop (i*2):=by
  rw[fMd,fMd,fIo,fIm];simp[gM]
 have p:(gM xs).length=xs.length*2:=fFw xs;unfold InsM;rw[x,n];by_cases y:i=xs.length
 ·
  subst y;refine(fN9 base v xs.length vb (gM xs) (mrkC r) w hown oM hbase rfl hv (fEf r)).mono ?_;rintro e w' ⟨v',rfl,h1,h2,m⟩;refine⟨v',rfl,?_,Mod.of_grown h2,fun b hb=>?_⟩
  ·rw[List.take_of_length_le oM,List.drop_of_length_le oM,List.append_nil];exact h1
  rcases m with m|m
  ·exact .inl (m▸hb)
  rw[m] at hb;simp only[Option.some.injEq] at hb;have:=(h1.lt b (by rw[m,hb])).2;exact .inr ⟨oM,this⟩
 rcases hown.2 with ⟨_,h0⟩|⟨g,cap,cur,rfl,z,A,B,q,C,d⟩
 ·omega
 have D:vb≠g:=fun e=>hvb (by rw[e];rfl)
 have F:g<w.heap.size:=(Array.getElem?_eq_some_iff.1 A).1;by_cases k:xs.length+1≤cap
 ·refine(fJ4 g xs.length cap i vb (gM xs) (mrkC r) cur w A oM k (by unfold maxLen at q;omega) D C p d rfl hv (fIn xs) (fEf r)).mono ?_;rintro e w' ⟨rfl,l,h1,h2,m,E⟩;refine⟨_,rfl,⟨?_,.inr ⟨g,cap,l,rfl,z,h1,k,q,h2,m⟩⟩,E.mono (fun b h=>by rw[h];rfl),fun b hb=>.inl hb⟩;rw[←n,fFw,x]
 refine(fLx g xs.length cap i vb (gM xs) (mrkC r) w oM B oM oM p (fun j v s=>?_) rfl hv (fIn xs) (fEf r)).mono ?_
 ·
  refine zQ A ?_;rw[←d,List.getElem?_take] at s;split at s
  ·exact s
  cases s
 rintro e w' ⟨G,rfl,l,h1,h2,m,E,H,I⟩;have J:=(Array.getElem?_eq_some_iff.1 h1).1;refine⟨_,rfl,⟨?_,.inr ⟨w.heap.size,G,l,rfl,hbase,h1,h2,m,E,H⟩⟩,I.mono (fun b h=>h.elim),fun b hb=>?_⟩
 ·rw[←n,fFw,x]
 simp only[Value.ownBlock,Option.some.injEq] at hb;exact .inr ⟨oM,by omega⟩
end
section
variable [dQ Leg] [iH Leg] [dQ Mrk] [iH Mrk] [dQ Bal] [iH Bal] [dQ Cont] [iH Cont] [dQ Shd] [iH Shd] [dQ ShdR] [iH ShdR] [dQ Rw] [iH Rw] [dQ Ledg] [iH Ledg] [dQ LedgR] [iH LedgR] [dQ OutcR] [iH OutcR]
theorem fJb (x:Value) (xs:List Mrk) (m:Mrk) (base:Nat) (F:Nat→Prop) (w:World) (hx:mrksR.O w base F x xs) (hbase:base≤w.heap.size) (hn:xs.length≤1000) (hr:∀i j,i<j→j<xs.length→(xs.getD i default).con<(xs.getD j default).con) :
  cL 194 #[x,.agg #[iV m.con,iV m.val]] w fun e w'=>∃v F',e =.returned v∧mrksR.O w' base F' v (putM xs m)∧Mod F w w'∧∀b,F' b→F b∨w.heap.size≤b:=by
 have y:Hid (bW w fun W=>cL 193 #[x,iV m.con] W (PlM xs m.con W)):=fun W q=>fB3 x xs m.con W (mrksR.below (mrksR.ofO hx) q) oM hr
 obtain⟨r,H⟩:=hx;have I:Hid (∀W i p,aa w W→i≤xs.length→W.heap[p]? = some (.cells (mrkC m).toArray 166 (0,0))→w.heap.size≤p→cL 211 #[x,iV i,.slice (some ⟨p,0,none⟩) 1 1] W (InsM base x (xs.take i++[m]++xs.drop i) W)):=fun W i p q g K T=>fN8 base x i p xs m W (fO r q) g oM (Nat.le_trans hbase q.size) K (fun e=>by have:=(r.lt _ e).2;omega)
 have z:Hid (∀i,i≤xs.length→(∀k,k<i→(xs.getD k default).con<m.con)→(∀k,i≤k→k<xs.length→m.con≤(xs.getD k default).con)→putM xs m=xs.take i++[m]++xs.drop i):=fun i g h1 h2=>by
  unfold putM;rw[fO1 g h1 (fun h=>by have:=h2 i (Nat.le_refl _) h;omega)]
 have A:Hid (F=fun b=>x.ownBlock=some b):=H;obtain⟨U,V,rfl⟩:=fD r;clear r H hr;obtain⟨n,l⟩:∃n,n=xs.length:=⟨_,rfl⟩
 rw[←l] at y I z A hn ⊢;have B:Hid (xs.length=n):=l.symm;clear l;go_enter Tryz.func194,Tryz.ntmps194;go_wp2_with fail;refine(y.out _ hE).mono ?_;rintro e s ⟨i,g,rfl,J,C,d⟩;have L:Hid (putM xs m=xs.take i++[m]++xs.drop i):=z.out i (by rw[←B.out];exact g) J (by rw[B.out] at C;exact C);have D:i≤n:=by rw[←B.out];exact g
 have E:=bT w d;have X:cI s w.heap.size 0 m.con:=cK d sG;have Y:cI s w.heap.size 1 m.val:=cK d sG;have G:=E.size;generalize decide (i<xs.length∧(xs.getD i default).con=m.con)=Z at *;clear y z J C d g;go_wp2_with fail;refine(I.out _ i s.heap.size hE D (World.alloc_heap_new s _) G).mono ?_;rintro e w2 ⟨v2,rfl,M,N,R⟩;go_wp2;go_ret;refine⟨_,_,rfl,⟨?_,rfl⟩,?_,fun b hb=>?_⟩
 ·rw[L.out];exact M
 ·rw[A.out];exact(Mod.of_below hE).trans N
 rw[A.out];exact(R b hb).imp id (fun h=>by have:=h.1;simp at this;omega)
theorem fQ4 (x:Value) (d:Shd) (k v:Int) (base:Nat) (F:Nat→Prop) (w:World) (hx:shdR.O w base F x d) (hbase:base≤w.heap.size) (hn:d.votes.length≤1000) (hr:∀i j,i<j→j<d.votes.length→(d.votes.getD i default).con<(d.votes.getD j default).con) :
  cL 177 #[x,iV k,iV v] w fun e w'=>∃u F',e =.returned u∧shdRR.O w' base F' u ⟨0,v,⟨d.idx,d.bals,putM d.votes ⟨k,v⟩,d.held,d.done,d.appl⟩⟩∧Below base w w'∧∀b,F' b→F b∨w.heap.size≤b:=by
 obtain⟨z,A,B,C,D,E,G,H,I,J,rfl⟩:=mW hx;have HR:Hid (∀b,F b→base≤b∧b<w.heap.size):=fun b hb=>shdR.rng hx b hb
 have HX:Hid (shdR.O w base F (.agg #[iV d.idx,.slice z d.bals.length E,.slice A d.votes.length G,.slice B d.held.length H,.slice C d.done.length I,.slice D d.appl.length J]) d):=hx;have HW:Hid (∀W L,aa w W→mrksR.O W base L (.slice A d.votes.length G) d.votes→cL 194 #[.slice A d.votes.length G,.agg #[iV k,iV v]] W fun e w'=>∃u F',e =.returned u∧mrksR.O w' base F' u (putM d.votes ⟨k,v⟩)∧Mod L W w'∧∀b,F' b→L b∨W.heap.size≤b):=fun W L hW ho=>fJb _ d.votes ⟨k,v⟩ base L W ho (Nat.le_trans hbase hW.size) hn hr
 clear hx hr;generalize d.bals.length=M at *;generalize d.votes.length=n2 at *;generalize d.held.length=N at *;generalize d.done.length=R at *;generalize d.appl.length=T at *;obtain⟨l,g⟩:∃l,l=(w.alloc (.cells #[iV d.idx,.slice z M E,.slice A n2 G,.slice B N H,.slice C R I,.slice D T J] 41)).alloc (.cells #[iV 0,iV 0,iV 0,aj,aj,aj,aj,aj] 76):=⟨_,rfl⟩
 have m:aa w l:=by rw[g];exact hE
 obtain⟨s,o2,U,LN⟩:=fF8 (shdR.keep HX.out m);have V:Hid (∀(w':World) (X:Nat→Prop) (v:Value) (ys:List Mrk),mrksR.O w' base X v ys→Mod s l w'→(∀b,X b→s b∨l.heap.size≤b)→∃F',shdR.O w' base F' (.agg #[iV d.idx,.slice z M E,v,.slice B N H,.slice C R I,.slice D T J]) ⟨d.idx,d.bals,ys,d.held,d.done,d.appl⟩∧∀b,F' b→F b∨l.heap.size≤b):=LN;have n:Hid (∀b,s b→base≤b∧b<w.heap.size):=fun b hb=>HR.out b (U b hb)
 have Y:Hid (mrksR.O l base s (.slice A n2 G) d.votes):=o2;have zq:l.heap.size=w.heap.size+2:=by rw[g];simp
 have Z:Hid (l.heap.size=w.heap.size+2):=zq;have y0:cI l w.heap.size 0 d.idx:=cQ g;have y1:ah l w.heap.size 1 z M E:=cQ g;have y2:ah l w.heap.size 2 A n2 G:=cQ g;have y3:ah l w.heap.size 3 B N H:=cQ g;have y4:ah l w.heap.size 4 C R I:=cQ g;have y5:ah l w.heap.size 5 D T J:=cQ g;have r0:cI l (w.heap.size+1) 0 0:=cQ g;have r1:cI l (w.heap.size+1) 1 0:=cQ g;have r2:cI l (w.heap.size+1) 2 0:=cQ g;have r3:cN l (w.heap.size+1) 3:=cQ g;have r4:cN l (w.heap.size+1) 4:=cQ g;have r5:cN l (w.heap.size+1) 5:=cQ g;have r6:cN l (w.heap.size+1) 6:=cQ g;have r7:cN l (w.heap.size+1) 7:=cQ g;have yf:aq l w.heap.size:=fun o=>by rw[g];simp[go_sem]
 have rf:aq l (w.heap.size+1):=fun o=>by rw[g];simp[go_sem]
 clear LN o2 U HX zq;go_enter Tryz.func177,Tryz.ntmps177;go_wp2_with fail;rw[←g];clear g;refine(HW.out _ s m Y.out).mono ?_;rintro e K ⟨v2,a6,rfl,o1,q,l1⟩;have nA:¬s w.heap.size:=fun h=>by have:=(n.out _ h).2;omega
 have nB:¬s (w.heap.size+1):=fun h=>by have:=(n.out _ h).2;omega
 refine kM6 q nA ?_ y0 y1 y2 y3 y4 y5;clear y0 y1 y2 y3 y4 y5;intro y0 y1 y2 y3 y4 y5;refine kM8 q nB ?_ r0 r1 r2 r3 r4 r5 r6 r7;clear r0 r1 r2 r3 r4 r5 r6 r7;intro r0 r1 r2 r3 r4 r5 r6 r7;replace yf:aq K w.heap.size:=fun o=>(q.frz10 (a:=⟨w.heap.size,o,none⟩) (by have:=Z.out;dsimp only;omega) nA).trans (yf o)
 replace rf:aq K (w.heap.size+1):=fun o=>(q.frz10 (a:=⟨w.heap.size+1,o,none⟩) (by have:=Z.out;dsimp only;omega) nB).trans (rf o)
 obtain⟨q2,s2,rfl⟩:=fD o1.1;obtain⟨F',o',a0⟩:=V.out K a6 _ _ o1 q l1;have a7:Hid (shdRR.O K base F' (.agg #[iV 0,iV v,iV d.idx,.slice z M E,.slice q2 (putM d.votes ⟨k,v⟩).length s2,.slice B N H,.slice C R I,.slice D T J]) ⟨0,v,⟨d.idx,d.bals,putM d.votes ⟨k,v⟩,d.held,d.done,d.appl⟩⟩):=vX (d:=⟨d.idx,d.bals,putM d.votes ⟨k,v⟩,d.held,d.done,d.appl⟩) 0 v o';have y:Hid (∀b,F' b→F b∨l.heap.size≤b):=a0;have a8:Below base w K:=q.below (m.mono hbase) (by have:=m.size;omega) (fun b hb=>(n.out b hb).1);have a9:Mod (fun b=>base≤b∧b<w.heap.size) w K:=(Mod.of_below m).trans (q.mono (fun b hb=>n.out b hb));clear o1 q l1 o' a0 V Y HW nA nB;generalize (putM d.votes ⟨k,v⟩).length=np at *;go_wp2;refine bodyPost_ret (v:=.agg #[iV 0,iV v,iV d.idx,.slice z M E,.slice q2 np s2,.slice B N H,.slice C R I,.slice D T J]) (by simp[results,Tryz.results177,go_sem,r0,r1,r2,r3,r4,r5,r6,r7,rf]) rfl ⟨_,F',rfl,?_,?_,fun b hb=>(y.out b hb).imp id (fun h=>by have:=Z.out;omega)⟩
 ·
  refine vZ shdRR (fSz shdRR a7.out ?_ _) ?_ _ _ _ _ _ _ _ _
  ·
   exact fun h=>by
    rcases y.out _ h with h|h
    ·have:=(HR.out _ h).2;omega
    have:=Z.out;omega
  exact fun h=>by
   rcases y.out _ h with h|h
   ·have:=(HR.out _ h).2;omega
   have:=Z.out;omega
 have e0:base≤w.heap.size:=hbase;have r:base≤w.heap.size+1:=oM;exact((((((((a8.setCell (p:=⟨w.heap.size,2,none⟩) e0 _).setCell (p:=⟨w.heap.size+1,0,none⟩) r _).setCell (p:=⟨w.heap.size+1,1,none⟩) r _).setCell (p:=⟨w.heap.size+1,2,none⟩) r _).setCell (p:=⟨w.heap.size+1,3,none⟩) r _).setCell (p:=⟨w.heap.size+1,4,none⟩) r _).setCell (p:=⟨w.heap.size+1,5,none⟩) r _).setCell (p:=⟨w.heap.size+1,6,none⟩) r _).setCell (p:=⟨w.heap.size+1,7,none⟩) r _
end
section
open Go.Shelf
variable [dQ Leg] [iH Leg] [dQ Cont] [iH Cont] [dQ Bal] [iH Bal] [dQ Ledg] [iH Ledg]
theorem fCa (w:World) (dT sT ty elem:TypeId) (sz g o dLen dCap:Nat) (a:Addr) (sLen sCap m:Nat) (cur:Array Value) (t:TypeId) (cs:List Value)
  (hu:Tryz.prog.underlying dT=some (.slice elem)) (hs:(Tryz.prog.info? elem).map (·.size)=some sz)
  (hg:w.heap[g]? = some (.cells cur t (0,0))) (hm:Nat.min sLen dLen=m) (hn:cs.length=m*sz)
  (hsrc:∀j v,cs[j]? = some v→w.cell? (a.add j)=some v) (hfit:o+cs.length≤cur.size) (h1:∀v ∈ cs,v.oneCell'=true) :
  (Builtin.copy_ #[dT,sT] ty #[.slice (some ⟨g,o,none⟩) dLen dCap,.slice (some a) sLen sCap]).run Tryz.prog w =
   .ok (goInt m) (w.setRow g (cur.toList.take o++cs++cur.toList.drop (o+cs.length)).toArray):=by
 have k:=run_loadCells_list (P:=Tryz.prog) w a cs hsrc;have d:=run_storeCells_at Tryz.prog g o t cs 0 cur w hg (by simpa using hfit) h1;cases e:Tryz.prog.info? elem with
 | none=>simp[e] at hs
 | some i=>
  have l:i.size=sz:=by simpa [e] using hs
  rw[hn] at k;simp[Builtin.copy_,run_underlying hu,Builtin.lenOf,Builtin.firstCells,sizeOf,typeInfo,e,l,hm,k,d]
theorem fNa (w:World) {ops:Array Oper} {rest:List Oper} {o:Oper} {a:Act} {Q:Exit→Act→World→Prop} (hgd:o.guard=none) (d s:Operand) (t t':TypeId)
  (ho:o.op =.call {callee:=.builtin .copy,args:=#[d,s],argTypes:=#[t,t']}) (v u:Value) (hd:a.eval d=v) (hs:a.eval s=u) {v':Value} {w':World}
  (hr:(Builtin.copy_ #[t,t'] o.type #[v,u]).run Tryz.prog w =.ok v' w') (h:wpList Tryz.prog ops Q rest (a.put o.dst v') w'):wpList Tryz.prog ops Q (o::rest) a w:=by
 refine wpList_plain hgd fun K e=>?_
 unfold Oper.wp execOp;simp only[ho,resolve,invoke,builtin,Sem.run_bind,Sem.run_pure,Result.andThen_ok,List.map_toArray,List.map_cons,List.map_nil,hd,hs,hr];exact e _ _ h
theorem fIy {ops:Array Oper} {o:Oper} {a:Act} {w:World} {K:Act→World→Prop} {Q:Exit→Act→World→Prop} {E:Prop} (hgd:o.guard=none) (d s:Operand) (t t':TypeId)
  (ho:o.op =.call {callee:=.builtin .copy,args:=#[d,s],argTypes:=#[t,t']}) (v u:Value) (hd:a.eval d=v) (hs:a.eval s=u) {v':Value} {w':World}
  (hr:(Builtin.copy_ #[t,t'] o.type #[v,u]).run Tryz.prog w =.ok v' w') (hK:K (a.put o.dst v') w') :
  if Region.wanted o (yielded ops a.tmps)=true then Oper.wp Tryz.prog o a w K Q else E:=by
 have e:Region.wanted o (yielded ops a.tmps)=true:=by simp[Region.wanted,hgd]
 rw[if_pos e];unfold Oper.wp execOp;simp only[ho,resolve,invoke,builtin,Sem.run_bind,Sem.run_pure,Result.andThen_ok,List.map_toArray,List.map_cons,List.map_nil,hd,hs,hr];exact hK
theorem vU (w:World) (g:Nat) (cs:Array Value):Mod (fun b=>b=g) w (w.setRow g cs):=
 ⟨rfl,rfl,rfl,by simp[World.setRow],fun k _ d=>setRow_other w g k cs d⟩
theorem xP (b o j:Nat):(⟨b,o,none⟩:Addr).add j=⟨b,o+j,none⟩:=by
 by_cases d:j=0
 ·subst d;simp[Addr.add]
 simp[Addr.add,d]
theorem zP {w:World} {g j:Nat} {cur:Array Value} {t:TypeId} {fr:Nat × Nat} {v:Value} (hg:w.heap[g]? = some (.cells cur t fr)) (h:cur.toList[j]? = some v):w.cell? ⟨g,j,none⟩=some v:=by
 have:cur[j]? = some v:=by rw[←Array.getElem?_toList];exact h
 simp[World.cell?,hg,this]
theorem fUo (w:World) (o:Obj):(w.alloc o).heap[w.heap.size]? = some o:=by
 show(w.heap.push o)[w.heap.size]? = some o;simp[Array.getElem?_push]
theorem fS0 {cur cs vs:List Value} {k m:Nat} (hk:k≤cs.length) (hc:cur.take cs.length=cs) (hl:cs.length+m≤cur.length) (hv:vs.length=m) :
  ((((cur.take (k+m)++cs.drop k++cur.drop (k+m+(cs.drop k).length)).take k++vs++(cur.take (k+m)++cs.drop k++cur.drop (k+m+(cs.drop k).length)).drop (k+vs.length)).length=cur.length) ∧
  ((cur.take (k+m)++cs.drop k++cur.drop (k+m+(cs.drop k).length)).take k++vs++(cur.take (k+m)++cs.drop k++cur.drop (k+m+(cs.drop k).length)).drop (k+vs.length)).take (cs.length+m)=cs.take k++vs++cs.drop k):=by
 subst hv;have h1:(cur.take (k+vs.length)++cs.drop k++cur.drop (k+vs.length+(cs.drop k).length)).take k=cs.take k:=by
  rw[List.append_assoc,List.take_append_of_le_length (by rw[List.length_take];omega),List.take_take];conv=>rhs;rw[←hc,List.take_take]
  congr 1
  omega
 have h2:(cur.take (k+vs.length)++cs.drop k++cur.drop (k+vs.length+(cs.drop k).length)).drop (k+vs.length)=cs.drop k++cur.drop (k+vs.length+(cs.drop k).length):=by
  rw[List.append_assoc,List.drop_append_of_le_length (by rw[List.length_take];omega),List.drop_take];simp
 rw[h1,h2];have d:(cs.drop k).length=cs.length-k:=List.length_drop ..;constructor
 ·simp only[List.length_append,List.length_take,List.length_drop];omega
 rw[←List.append_assoc,List.take_append_of_le_length (by simp only[List.length_append,List.length_take,List.length_drop];omega),List.take_of_length_le (by simp only[List.length_append,List.length_take,List.length_drop];omega)]
theorem fJ3 (g n c i vb:Nat) (cs vs:List Value) (cur:Array Value) (w:World) (hg:w.heap[g]? = some (.cells cur 57 (0,0))) (hi:i<n) (hroom:n+1≤c) (hc63:c≤9223372036854775807) (hvb:vb≠g)
  (hcur:cur.size=c*2) (hcl:cs.length=n*2) (ht:cur.toList.take (n*2)=cs) (hvl:vs.length=2) (hv:w.heap[vb]? = some (.cells vs.toArray 57 (0,0))) (h1c:∀v ∈ cs,v.oneCell'=true) (h1v:∀v ∈ vs,v.oneCell'=true) :
  cL 200 #[.slice (some ⟨g,0,none⟩) n c,iV i,.slice (some ⟨vb,0,none⟩) 1 1] w fun e w'=>
   e =.returned (.slice (some ⟨g,0,none⟩) (n+1) c)∧∃cur':Array Value,w'.heap[g]? = some (.cells cur' 57 (0,0))∧cur'.size=c*2∧cur'.toList.take ((n+1)*2)=cs.take (i*2)++vs++cs.drop (i*2)∧Mod (fun b=>b=g) w w':=by
 have X:¬((i:Int)=(n:Int)):=oM;have D:(Tryz.prog.info? 57).map (·.size)=some 2:=by
  obtain⟨Y,x,_,h1,_⟩:=info_parts rQ;rw[x];simp[h1]
 have K:∀w,(Go.sizeOf 57).run Tryz.prog w =.ok 2 w:=fun w=>by
  obtain⟨Y,x,_,h1,_⟩:=info_parts rQ;simp[sizeOf,typeInfo,x,h1]
 have L:∀M N,(callFunc 216 #[.slice (some ⟨vb,0,none⟩) 1 1,.slice (some ⟨g,(i+1)*2,none⟩) M N]).run Tryz.prog w =.ok (.value (.bool false)) w:=fun M N=>by
  rw[run_callFunc_extern Tryz.func216 kF kF kF (e:=Extern.SlicesOverlaps.overlaps #[38,38] #[4]) kF,
   Lib.run_overlaps_apart w 38 4 57 Tryz.underlying38 2 K ⟨vb,0,none⟩ ⟨g,(i+1)*2,none⟩ 1 1 M N hvb 57 57 2 (c*2) (by simp[World.shape?,hv,hvl]) (by simp[World.shape?,hg,hcur]) oM (by simp[World.frozen?,hv]) (by simp[World.frozen?,hv])]
  rfl
 have E:(cs.drop (i*2)).length=(n-i)*2:=by rw[List.length_drop,hcl];omega
 have Z:(0:Int)≤(i:Int)+1:=oM;have a0:IntKind.i64.wrap ((i:Int)+1)=(i:Int)+1:=by rw[IntKind.wrap_i64];omega
 have a1:((i:Int)+1).toNat=i+1:=oM;have a2:i≤n:=oM;have a3:¬(c=i+1):=oM;have a4:(i:Int)≤(n:Int)+1:=oM;have a5:¬(c=i):=oM;obtain⟨d,p⟩:∃d:Array Value,d=(cur.toList.take ((i+1)*2)++cs.drop (i*2)++cur.toList.drop ((i+1)*2+(cs.drop (i*2)).length)).toArray:=⟨_,rfl⟩
 have r:∀y I z J O,I=n-i→J=n+1-i→(Builtin.copy_ #[38,38] y #[.slice (some ⟨g,(i+1)*2,none⟩) I z,.slice (some ⟨g,i*2,none⟩) J O]).run Tryz.prog w.drew =.ok (goInt ((n-i:Nat):Int)) (w.drew.setRow g d):=fun y I z J O e1 e2=>by
  rw[p];refine fCa w.drew _ _ y 57 2 g ((i+1)*2) I z ⟨g,i*2,none⟩ J O (n-i) cur 57 (cs.drop (i*2)) Tryz.underlying38 D hg (by simp only[Nat.min_def];split <;> omega) E (fun j v C=>?_) (by rw[E,hcur];omega) (fun v hv=>h1c v (List.mem_of_mem_drop hv))
  rw[xP];refine zP hg ?_;rw[List.getElem?_drop,←ht,List.getElem?_take] at C;split at C
  ·exact C
  cases C
 have F:d.size=c*2:=by
  rw[p];simp only[List.size_toArray,List.length_append,List.length_take,List.length_drop,Array.length_toList];rw[hcl];omega
 have A:(w.drew.setRow g d).heap[g]? = some (.cells d 57 (0,0)):=setRow_heap w.drew g cur d _ _ hg;have G:(w.drew.setRow g d).heap[vb]? = some (.cells vs.toArray 57 (0,0)):=(setRow_other w.drew g vb d hvb).trans hv;obtain⟨R,l⟩:∃R,R=w.drew.setRow g d:=⟨_,rfl⟩
 rw[←l] at A G r;have T:Mod (fun b=>b=g) w R:=by
  rw[l];exact(Mod.of_below (Below.drew (bR _ _))).trans (vU _ _ _)
 obtain⟨q,B⟩:∃q:Array Value,q=(d.toList.take (i*2)++vs++d.toList.drop (i*2+vs.length)).toArray:=⟨_,rfl⟩
 have H:∀(W:World),W.heap[g]? = some (.cells d 57 (0,0))→W.heap[vb]? = some (.cells vs.toArray 57 (0,0))→∀y z,(Builtin.copy_ #[38,38] y #[.slice (some ⟨g,i*2,none⟩) (n+1-i) z,.slice (some ⟨vb,0,none⟩) 1 1]).run Tryz.prog W =.ok (goInt 1) (W.setRow g q):=fun W l U y z=>by
  rw[B];refine fCa W _ _ y 57 2 g (i*2) (n+1-i) z ⟨vb,0,none⟩ 1 1 1 d 57 vs Tryz.underlying38 D l (by simp only[Nat.min_def];split <;> omega) oM (fun j v C=>?_) (by rw[hvl,F];omega) h1v
  rw[xP];exact zP U (by simpa using C)
 have s:q.size=c*2∧q.toList.take ((n+1)*2)=cs.take (i*2)++vs++cs.drop (i*2):=by
  have h:=fS0 (cur:=cur.toList) (cs:=cs) (vs:=vs) (k:=i*2) (m:=2) (by rw[hcl];omega) (by rw[hcl];exact ht) (by rw[hcl,Array.length_toList,hcur];omega) hvl;rw[B,p];rw[show(i+1)*2=i*2+2 by omega,show(n+1)*2=cs.length+2 by rw[hcl];omega];refine⟨?_,h.2⟩;rw[List.size_toArray];have h1:=h.1;have h2:cur.toList.length=c*2:=by rw[Array.length_toList,hcur]
  rw[h2] at h1;exact h1
 clear p B l;have V:Hid (q.size=c*2∧q.toList.take ((n+1)*2)=cs.take (i*2)++vs++cs.drop (i*2)):=s;clear s;go_enter Tryz.func200,Tryz.ntmps200;go_wp2_with (simp only[L]);go_region_law (refine fIy rfl (.tmp 73) (.tmp 76) 38 38 rfl _ _ (by simp[Act.eval,Act.put]) (by simp[Act.eval,Act.put]) (r _ _ _ _ _ oM oM) ?_);go_wp2_with (at_builtin;refine fNa _ rfl _ _ 38 38 rfl _ _ rfl rfl (H _ A G _ _) ?_);go_ret;refine⟨rfl,q,setRow_heap _ g d q _ _ A,V.out.1,V.out.2,T.trans (vU _ _ _)⟩
theorem fN7 (base:Nat) (v:Value) (n vb:Nat) (cs vs:List Value) (w:World) (hown:w.ownsRow base 57 2 v n cs) (hn:n≤1048576) (hbase:base≤w.heap.size)
  (hvl:vs.length=2) (hv:w.heap[vb]? = some (.cells vs.toArray 57 (0,0))) (h1v:∀v ∈ vs,v.oneCell'=true) :
  cL 200 #[v,iV n,.slice (some ⟨vb,0,none⟩) 1 1] w fun e w'=>
   ∃v',e =.returned v'∧w'.ownsRow base 57 2 v' (n+1) (cs++vs)∧w.grownBy w' v.ownBlock∧(v'.ownBlock=v.ownBlock∨v'.ownBlock=some w.heap.size):=by
 obtain⟨q,r,d,k,l⟩:=info_parts rQ;have s:Hid (∀j u,vs[j]? = some u→w.cell? ((⟨vb,0,none⟩:Addr).add j)=some u):=fun j u x=>by
  rw[xP];exact zP hv (by simpa using x)
 obtain⟨a,c,rfl⟩:=fD hown;have m:n≤c:=by
  rcases hown.2 with ⟨_,h⟩|⟨g,cap,cur,h,_,_,h2,_⟩
  ·omega
  simp only[Value.slice.injEq] at h;omega
 have y:c≤9223372036854775807:=by
  rcases hown.2 with ⟨h,_⟩|⟨g,cap,cur,h,_,_,h2,p,_⟩
  ·simp only[Value.slice.injEq] at h;omega
  simp only[Value.slice.injEq] at h;unfold maxLen at p;omega
 rcases Nat.eq_or_lt_of_le m with rfl|h0
 all_goals
  try (have z:¬c=n:=by omega)
  go_enter Tryz.func200,Tryz.ntmps200;go_wp2_with (at_builtin;refine wpList_append_own_at w rfl (.tmp 23) (.tmp 24) 38 rfl base 57 q _ 2 32 Tryz.underlying38 r d k l rfl (by decide) _ n cs rfl hown ⟨vb,0,none⟩ 1 1 vs rfl hvl s.out h1v ?_ ?_ hbase ?_)
  ·unfold maxLen;omega
  ·omega
  intro v' w' h1 h2 p A;obtain⟨a',B,rfl⟩:=fD h1;go_wp2;go_ret;exact⟨_,rfl,h1,h2,A⟩
end
end Go.Proofs.YtpibfdebfacooaaGreat

import Derived.Test.YtpibfdebfacooaaGreatPrnReplayJournalLaw26
set_option linter.unusedSectionVars false
namespace Go.Proofs.YtpibfdebfacooaaGreat
open Go.RowKit
section
open Go.ChangeShapes Go.WideShapes Go.ChangeAt Go.RowKit Go.Joins
variable [dQ Bal] [iH Bal] [dQ Ledg] [iH Ledg] [dQ Leg] [iH Leg] [dQ Cont] [iH Cont]
theorem fT5:Tryz.prog.cellsOf 105=3:=kF
theorem fWb {H:Type} {enc:TypeId × Value→H} {W:World} {sp:Nat→Bool} {held:Bool} {n:Nat} {cs:List Value} {y:DataW H × List MemPlace}
  (ht:DataW.trod enc Tryz.prog W 0 sp held n 105 cs=some y) (hl:cs.length=3):∃x:Bal,cs=balC x:=by
 obtain⟨y0,y1,y2,m,hy,hlen,h0,h1,h2⟩:=Go.Deep.trod_struct3 Tryz.underlying105 ht;simp only[fRk] at h0 h1 h2;match cs,hl with
 | [c0,c1,c2],_=>
  obtain⟨x0,e0,_⟩:=DataW.trod_int Tryz.underlying2 h0;obtain⟨x1,e1,_⟩:=DataW.trod_int Tryz.underlying2 h1;obtain⟨x2,e2,_⟩:=DataW.trod_int Tryz.underlying2 h2;simp at e0 e1 e2;subst e0 e1 e2;exact⟨⟨x0,x1,x2⟩,rfl⟩
theorem fU4 {H:Type} {enc:TypeId × Value→H} {W:World} {sp:Nat→Bool} {held:Bool} {n:Nat} {v:Value} {y:DataW H × List MemPlace}
  (ht:DataW.trod enc Tryz.prog W 0 sp held n 22 [v]=some y):∃xs:List Bal,balsR.V W v xs:=by
 obtain⟨a,cap,xs,cs,rfl,h1,h2,h3⟩:=fSt (q:=fun cs x=>cs=balC x) Tryz.underlying22 fT5 oM (fun n cs y h hl=>fWb h hl) ht;refine⟨xs,a,cap,rfl,h1,h2,fun i hi=>?_⟩;obtain⟨g1,g3,b,o,g4,g5⟩:=h3 i hi;rw[g1] at g5;exact⟨b,o,g4,g5 0 oM,g5 1 oM,g5 2 oM⟩
end
section
open Go.ChangeShapes Go.WideShapes Go.ChangeAt Go.RowKit Go.Joins
theorem cellsByte:Tryz.prog.cellsOf 5=1:=kF
theorem fU5 {H:Type} {enc:TypeId × Value→H} {W:World} {sp:Nat→Bool} {held:Bool} {n:Nat} {cs:List Value} {y:DataW H × List MemPlace}
  (ht:DataW.trod enc Tryz.prog W 0 sp held n 5 cs=some y):∃x:Byte,cs=[.int .u8 (x.val:Int)]:=by
 obtain⟨x0,e0,_,hw⟩:=DataW.trod_int Tryz.underlying5 ht;have hb:=bounds_u8 hw;refine⟨toB x0,?_⟩;rw[e0,fTi];congr 2;omega
theorem fKl {H:Type} {enc:TypeId × Value→H} {W:World} {sp:Nat→Bool} {held:Bool} {n:Nat} {v:Value} {y:DataW H × List MemPlace}
  (ht:DataW.trod enc Tryz.prog W 0 sp held n 23 [v]=some y):∃xs:List Byte,bytesR.V W v xs:=by
 obtain⟨a,cap,xs,cs,rfl,h1,h2,h3⟩:=fSt (q:=fun cs x=>cs=[.int .u8 ((x:Byte).val:Int)]) Tryz.underlying23 cellsByte oM (fun n cs y h _=>fU5 h) ht;refine⟨xs,a,cap,rfl,h1,h2,fun i hi=>?_⟩;obtain⟨g1,g3,b,o,g4,g5⟩:=h3 i hi;rw[g1] at g5;refine⟨b,o,g4,?_⟩;have h:=g5 0 oM;have e:xs.getD i default=xs.getD i 0:=rfl;rw[e] at h;simpa using h
variable [dQ Leg] [iH Leg] [dQ Cont] [iH Cont] [dQ Bal] [iH Bal] [dQ Ledg] [iH Ledg] [dQ Logg] [iH Logg] [dQ Evt] [iH Evt] [dQ Jrn] [iH Jrn]
theorem fI3 {H:Type} {enc:TypeId × Value→H} {P:Program} {w:World} {base:Nat} {spare:Nat→Bool} {held:Bool} {t:TypeId} {f0 f1 f2:Field} {fuel:Nat} {cs:List Value} {x:DataW H × List MemPlace} (ht:P.underlying t=some (.struct #[f0,f1,f2])) (h:DataW.trod enc P w base spare held fuel t cs=some x) :
  ∃y0 y1 y2 n,cs.length=P.cellsOf t∧DataW.trod enc P w base spare held n f0.type ((cs.drop f0.offset).take (P.cellsOf f0.type))=some y0 ∧
   DataW.trod enc P w base spare held n f1.type ((cs.drop f1.offset).take (P.cellsOf f1.type))=some y1∧DataW.trod enc P w base spare held n f2.type ((cs.drop f2.offset).take (P.cellsOf f2.type))=some y2:=by
 obtain⟨xs,n,_,rfl,hl,hlen,hf⟩:=DataW.trod_struct ht h;match xs,hlen with
 | [y0,y1,y2],_=>exact⟨y0,y1,y2,n,hl,by simpa using hf 0 f0 rfl,by simpa using hf 1 f1 rfl,by simpa using hf 2 f2 rfl⟩
theorem fI2 {H:Type} {enc:TypeId × Value→H} {P:Program} {w:World} {base:Nat} {spare:Nat→Bool} {held:Bool} {t:TypeId} {f0 f1:Field} {fuel:Nat} {cs:List Value} {x:DataW H × List MemPlace} (ht:P.underlying t=some (.struct #[f0,f1])) (h:DataW.trod enc P w base spare held fuel t cs=some x) :
  ∃y0 y1 n,cs.length=P.cellsOf t∧DataW.trod enc P w base spare held n f0.type ((cs.drop f0.offset).take (P.cellsOf f0.type))=some y0 ∧
   DataW.trod enc P w base spare held n f1.type ((cs.drop f1.offset).take (P.cellsOf f1.type))=some y1:=by
 obtain⟨xs,n,_,rfl,hl,hlen,hf⟩:=DataW.trod_struct ht h;match xs,hlen with
 | [y0,y1],_=>exact⟨y0,y1,n,hl,by simpa using hf 0 f0 rfl,by simpa using hf 1 f1 rfl⟩
set_option maxRecDepth 100000 in
theorem fWc {H:Type} {enc:TypeId × Value→H} {W:World} {sp:Nat→Bool} {held:Bool} {v:Value} {d:DataW H} {p:List MemPlace} {base:Nat} {r:Reach}
  (hv:Value.okWide Tryz.prog W r base 27 v) (h:DataW.Trod enc Tryz.prog W 0 sp held 27 v d p):∃x,jrnR.V W v x:=by
 obtain⟨cs,rfl,hsz⟩:=okWide_struct Tryz.underlying27 hv;have hC:Tryz.prog.cellsOf 27=4:=kF;have z0:Tryz.prog.cellsOf 2=1:=kF;have z1:Tryz.prog.cellsOf 22=1:=kF;have z2:Tryz.prog.cellsOf 25=2:=kF;have z3:Tryz.prog.cellsOf 23=1:=kF;obtain⟨l⟩:=cs;match l,hsz.trans hC with
 | [c0,c1,c2,c3],_=>
  obtain⟨fuel,hf⟩:=h;obtain⟨y0,y1,y2,m,_,h0,h1,h2⟩:=fI3 Tryz.underlying27 hf;have h0':DataW.trod enc Tryz.prog W 0 sp held m 2 [c0]=some y0:=by simpa [Value.cells,z0] using h0
  have h1':DataW.trod enc Tryz.prog W 0 sp held m 22 [c1]=some y1:=by simpa [Value.cells,z1] using h1
  have h2':DataW.trod enc Tryz.prog W 0 sp held m 25 [c2,c3]=some y2:=by simpa [Value.cells,z2] using h2
  obtain⟨i,ei,_⟩:=DataW.trod_int Tryz.underlying2 h0';simp at ei;subst ei;obtain⟨bs,hb⟩:=fU4 h1';obtain⟨x0,x1,m1,_,g0,g1⟩:=fI2 Tryz.underlying25 h2';have g0':DataW.trod enc Tryz.prog W 0 sp held m1 23 [c2]=some x0:=by simpa [z3] using g0
  have g1':DataW.trod enc Tryz.prog W 0 sp held m1 23 [c3]=some x1:=by simpa [z3] using g1
  obtain⟨xs,hx⟩:=fKl g0';obtain⟨ys,hy⟩:=fKl g1';exact⟨⟨i,bs,⟨xs,ys⟩⟩,c1,c2,c3,rfl,hb,⟨c2,c3,rfl,hx,hy⟩⟩
end
end Go.Proofs.YtpibfdebfacooaaGreat

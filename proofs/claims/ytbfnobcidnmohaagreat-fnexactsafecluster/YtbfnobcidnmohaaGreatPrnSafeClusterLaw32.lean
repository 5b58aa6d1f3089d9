import Derived.Test.YtbfnobcidnmohaaGreatPrnSafeClusterLaw31
set_option linter.unusedSectionVars false
set_option linter.unusedSimpArgs false
namespace Go.Proofs.YtbfnobcidnmohaaGreat
open Go.RowKit
section
open Go.ChangeShapes Go.WideShapes Go.ChangeAt Go.RowKit Go.Joins
variable [dQ Bal] [iH Bal] [dQ Ledg] [iH Ledg] [dQ Leg] [iH Leg] [dQ Cont] [iH Cont] [dQ Mrk] [iH Mrk] [dQ Shd] [iH Shd]
theorem fTp:Tryz.prog.cellsOf 285=2:=kF
theorem fWx {H:Type} {enc:TypeId × Value→H} {W:World} {sp:Nat→Bool} {held:Bool} {n:Nat} {cs:List Value} {y:DataW H × List MemPlace}
  (ht:DataW.trod enc Tryz.prog W 0 sp held n 285 cs=some y) (hl:cs.length=2):∃x:Mrk,cs=mrkC x:=by
 obtain⟨y0,y1,m,hy,hlen,h0,h1⟩:=trod_struct2 Tryz.underlying285 ht;simp only[fQ9] at h0 h1;match cs,hl with
 | [c0,c1],_=>
  obtain⟨x0,e0,_⟩:=DataW.trod_int Tryz.underlying2 h0;obtain⟨x1,e1,_⟩:=DataW.trod_int Tryz.underlying2 h1;simp at e0 e1;subst e0 e1;exact⟨⟨x0,x1⟩,rfl⟩
theorem fNq {H:Type} {enc:TypeId × Value→H} {W:World} {sp:Nat→Bool} {held:Bool} {n:Nat} {v:Value} {y:DataW H × List MemPlace}
  (ht:DataW.trod enc Tryz.prog W 0 sp held n 111 [v]=some y):∃xs:List Mrk,mrksR.V W v xs:=by
 obtain⟨a,cap,xs,cs,rfl,h1,h2,h3⟩:=xM (q:=fun cs x=>cs=mrkC x) Tryz.underlying111 fTp oM (fun n cs y h hl=>fWx h hl) ht;refine⟨xs,a,cap,rfl,h1,h2,fun i hi=>?_⟩;obtain⟨g1,g3,b,o,g4,g5⟩:=h3 i hi;rw[g1] at g5;exact⟨b,o,g4,g5 0 oM,g5 1 oM⟩
end
section
open Go.ChangeShapes Go.WideShapes Go.ChangeAt Go.RowKit Go.Joins
variable [dQ Vot] [iH Vot] [dQ Slt] [iH Slt]
theorem uI:Tryz.prog.cellsOf 2=1:=kF
theorem uJ:Tryz.prog.cellsOf 152=2:=kF
theorem fRa:Tryz.prog.cellsOf 270=1:=kF
theorem fKc {H:Type} {enc:TypeId × Value→H} {P:Program} {w:World} {base:Nat} {spare:Nat→Bool} {held:Bool} {t:TypeId} {f0 f1 f2 f3 f4:Field} {fuel:Nat} {cs:List Value} {x:DataW H × List MemPlace} (ht:P.underlying t=some (.struct #[f0,f1,f2,f3,f4])) (h:DataW.trod enc P w base spare held fuel t cs=some x) :
  ∃y0 y1 y2 y3 y4 n,cs.length=P.cellsOf t∧DataW.trod enc P w base spare held n f0.type ((cs.drop f0.offset).take (P.cellsOf f0.type))=some y0 ∧
   DataW.trod enc P w base spare held n f1.type ((cs.drop f1.offset).take (P.cellsOf f1.type))=some y1∧DataW.trod enc P w base spare held n f2.type ((cs.drop f2.offset).take (P.cellsOf f2.type))=some y2 ∧
   DataW.trod enc P w base spare held n f3.type ((cs.drop f3.offset).take (P.cellsOf f3.type))=some y3∧DataW.trod enc P w base spare held n f4.type ((cs.drop f4.offset).take (P.cellsOf f4.type))=some y4:=by
 obtain⟨xs,n,_,rfl,hl,hlen,hf⟩:=DataW.trod_struct ht h;match xs,hlen with
 | [y0,y1,y2,y3,y4],_=>exact⟨y0,y1,y2,y3,y4,n,hl,by simpa using hf 0 f0 rfl,by simpa using hf 1 f1 rfl,by simpa using hf 2 f2 rfl,by simpa using hf 3 f3 rfl,by simpa using hf 4 f4 rfl⟩
theorem fL0 {H:Type} {enc:TypeId × Value→H} {W:World} {sp:Nat→Bool} {held:Bool} {n:Nat} {cs:List Value} {y:DataW H × List MemPlace}
  (ht:DataW.trod enc Tryz.prog W 0 sp held n 152 cs=some y) (hl:cs.length=2):∃x:Vot,cs=votC x:=by
 obtain⟨y0,y1,m,hy,hlen,h0,h1⟩:=trod_struct2 Tryz.underlying152 ht;simp only[uI] at h0 h1;match cs,hl with
 | [c0,c1],_=>
  obtain⟨x0,e0,_⟩:=DataW.trod_int Tryz.underlying2 h0;obtain⟨x1,e1,_⟩:=DataW.trod_int Tryz.underlying2 h1;simp at e0 e1;subst e0 e1;exact⟨⟨x0,x1⟩,rfl⟩
theorem fNr {H:Type} {enc:TypeId × Value→H} {W:World} {sp:Nat→Bool} {held:Bool} {n:Nat} {v:Value} {y:DataW H × List MemPlace}
  (ht:DataW.trod enc Tryz.prog W 0 sp held n 270 [v]=some y):∃xs:List Vot,votsR.V W v xs:=by
 obtain⟨a,cap,xs,cs,rfl,h1,h2,h3⟩:=xM (q:=fun cs x=>cs=votC x) Tryz.underlying270 uJ oM (fun n cs y h hl=>fL0 h hl) ht;refine⟨xs,a,cap,rfl,h1,h2,fun i hi=>?_⟩;obtain⟨g1,g3,b,o,g4,g5⟩:=h3 i hi;rw[g1] at g5;exact⟨b,o,g4,g5 0 oM,g5 1 oM⟩
theorem fWz {H:Type} {enc:TypeId × Value→H} {W:World} {sp:Nat→Bool} {held:Bool} {n:Nat} {cs:List Value} {y:DataW H × List MemPlace}
  (ht:DataW.trod enc Tryz.prog W 0 sp held n 272 cs=some y) (hl:cs.length=6):∃(x:Slt) (u:Value),cs=[.int .i64 x.con,.int .i64 x.sh,.int .i64 x.pr,.int .i64 x.lb,.int .i64 x.lv,u]∧votsR.V W u x.cast:=by
 obtain⟨y0,y1,y2,y3,y4,m,hlen,h0,h1,h2,h3,h4⟩:=fKc Tryz.underlying272 ht;simp only[uI,uJ,fRa] at h0 h1 h2 h3 h4;match cs,hl with
 | [c0,c1,c2,c3,c4,c5],_=>
  obtain⟨x0,e0,_⟩:=DataW.trod_int Tryz.underlying2 h0;obtain⟨x1,e1,_⟩:=DataW.trod_int Tryz.underlying2 h1;obtain⟨x2,e2,_⟩:=DataW.trod_int Tryz.underlying2 h2;obtain⟨l,el⟩:=fL0 h3 rfl;obtain⟨xs,hx⟩:=fNr h4;simp at e0 e1 e2;simp[votC] at el;obtain⟨rfl,rfl⟩:=el;subst e0 e1 e2;exact⟨⟨x0,x1,x2,l.bal,l.val,xs⟩,c5,rfl,hx⟩
theorem fU4 {H:Type} {enc:TypeId × Value→H} {W:World} {sp:Nat→Bool} {held:Bool} {n:Nat} {v:Value} {y:DataW H × List MemPlace}
  (ht:DataW.trod enc Tryz.prog W 0 sp held n 115 [v]=some y):∃xs,sltsR.V W v xs:=by
 refine fP7 Tryz.underlying115 kF oM (fun n cs y h hl=>?_) ht;obtain⟨x,u,rfl,hx⟩:=fWz h hl;exact⟨x,.agg #[.int .i64 x.con,.int .i64 x.sh,.int .i64 x.pr,.int .i64 x.lb,.int .i64 x.lv,u],rfl,u,rfl,hx⟩
variable [dQ Acc] [iH Acc]
theorem fWt {H:Type} {enc:TypeId × Value→H} {W:World} {sp:Nat→Bool} {held:Bool} {n:Nat} {cs:List Value} {y:DataW H × List MemPlace}
  (ht:DataW.trod enc Tryz.prog W 0 sp held n 117 cs=some y) (hl:cs.length=1):∃(x:Acc) (u:Value),cs=[u]∧sltsR.V W u x.slots:=by
 match cs,hl with
 | [c],_=>
  obtain⟨y0,m,hx,_,h0⟩:=trod_struct1 Tryz.underlying117 ht;have hz:Tryz.prog.cellsOf 115=1:=kF;have h0':DataW.trod enc Tryz.prog W 0 sp held m 115 [c]=some y0:=by simpa [Value.cells,hz] using h0
  obtain⟨xs,hxs⟩:=fU4 h0';exact⟨⟨xs⟩,c,rfl,hxs⟩
theorem fUu {H:Type} {enc:TypeId × Value→H} {W:World} {sp:Nat→Bool} {held:Bool} {n:Nat} {v:Value} {y:DataW H × List MemPlace}
  (ht:DataW.trod enc Tryz.prog W 0 sp held n 24 [v]=some y):∃xs,accsR.V W v xs:=by
 refine fP7 Tryz.underlying24 kF oM (fun n cs y h hl=>?_) ht;obtain⟨x,u,rfl,hx⟩:=fWt h hl;exact⟨x,.agg #[u],rfl,u,rfl,hx⟩
end
section
set_option maxRecDepth 100000
open Go.ChangeShapes Go.WideShapes Go.ChangeAt Go.RowKit Go.Joins
variable [dQ Bal] [iH Bal] [dQ Ledg] [iH Ledg] [dQ Leg] [iH Leg] [dQ Cont] [iH Cont] [dQ Mrk] [iH Mrk] [dQ Shd] [iH Shd] [dQ Vot] [iH Vot] [dQ Slt] [iH Slt] [dQ Acc] [iH Acc] [dQ Trr] [iH Trr] [dQ Hrd] [iH Hrd] [dQ Ldr] [iH Ldr] [dQ Msg] [iH Msg] [dQ Clu] [iH Clu]
theorem fG5 {H:Type} {enc:TypeId × Value→H} {P:Program} {w:World} {base:Nat} {spare:Nat→Bool} {held:Bool} {t:TypeId} {f0 f1 f2:Field} {fuel:Nat} {cs:List Value} {x:DataW H × List MemPlace} (ht:P.underlying t=some (.struct #[f0,f1,f2])) (h:DataW.trod enc P w base spare held fuel t cs=some x) :
  ∃y0 y1 y2 n,cs.length=P.cellsOf t∧DataW.trod enc P w base spare held n f0.type ((cs.drop f0.offset).take (P.cellsOf f0.type))=some y0∧DataW.trod enc P w base spare held n f1.type ((cs.drop f1.offset).take (P.cellsOf f1.type))=some y1∧DataW.trod enc P w base spare held n f2.type ((cs.drop f2.offset).take (P.cellsOf f2.type))=some y2:=by
 obtain⟨xs,n,_,rfl,hl,hlen,hf⟩:=DataW.trod_struct ht h;match xs,hlen with
 | [y0,y1,y2],_=>exact⟨y0,y1,y2,n,hl,by simpa using hf 0 f0 rfl,by simpa using hf 1 f1 rfl,by simpa using hf 2 f2 rfl⟩
theorem fAt {H:Type} {enc:TypeId × Value→H} {P:Program} {w:World} {base:Nat} {spare:Nat→Bool} {held:Bool} {t:TypeId} {f0 f1 f2 f3 f4:Field} {fuel:Nat} {cs:List Value} {x:DataW H × List MemPlace} (ht:P.underlying t=some (.struct #[f0,f1,f2,f3,f4])) (h:DataW.trod enc P w base spare held fuel t cs=some x) :
  ∃y0 y1 y2 y3 y4 n,cs.length=P.cellsOf t∧DataW.trod enc P w base spare held n f0.type ((cs.drop f0.offset).take (P.cellsOf f0.type))=some y0∧DataW.trod enc P w base spare held n f1.type ((cs.drop f1.offset).take (P.cellsOf f1.type))=some y1∧DataW.trod enc P w base spare held n f2.type ((cs.drop f2.offset).take (P.cellsOf f2.type))=some y2∧DataW.trod enc P w base spare held n f3.type ((cs.drop f3.offset).take (P.cellsOf f3.type))=some y3∧DataW.trod enc P w base spare held n f4.type ((cs.drop f4.offset).take (P.cellsOf f4.type))=some y4:=by
 obtain⟨xs,n,_,rfl,hl,hlen,hf⟩:=DataW.trod_struct ht h;match xs,hlen with
 | [y0,y1,y2,y3,y4],_=>exact⟨y0,y1,y2,y3,y4,n,hl,by simpa using hf 0 f0 rfl,by simpa using hf 1 f1 rfl,by simpa using hf 2 f2 rfl,by simpa using hf 3 f3 rfl,by simpa using hf 4 f4 rfl⟩
theorem fAu {H:Type} {enc:TypeId × Value→H} {P:Program} {w:World} {base:Nat} {spare:Nat→Bool} {held:Bool} {t:TypeId} {f0 f1 f2 f3 f4 f5:Field} {fuel:Nat} {cs:List Value} {x:DataW H × List MemPlace} (ht:P.underlying t=some (.struct #[f0,f1,f2,f3,f4,f5])) (h:DataW.trod enc P w base spare held fuel t cs=some x) :
  ∃y0 y1 y2 y3 y4 y5 n,cs.length=P.cellsOf t∧DataW.trod enc P w base spare held n f0.type ((cs.drop f0.offset).take (P.cellsOf f0.type))=some y0∧DataW.trod enc P w base spare held n f1.type ((cs.drop f1.offset).take (P.cellsOf f1.type))=some y1∧DataW.trod enc P w base spare held n f2.type ((cs.drop f2.offset).take (P.cellsOf f2.type))=some y2∧DataW.trod enc P w base spare held n f3.type ((cs.drop f3.offset).take (P.cellsOf f3.type))=some y3∧DataW.trod enc P w base spare held n f4.type ((cs.drop f4.offset).take (P.cellsOf f4.type))=some y4∧DataW.trod enc P w base spare held n f5.type ((cs.drop f5.offset).take (P.cellsOf f5.type))=some y5:=by
 obtain⟨xs,n,_,rfl,hl,hlen,hf⟩:=DataW.trod_struct ht h;match xs,hlen with
 | [y0,y1,y2,y3,y4,y5],_=>exact⟨y0,y1,y2,y3,y4,y5,n,hl,by simpa using hf 0 f0 rfl,by simpa using hf 1 f1 rfl,by simpa using hf 2 f2 rfl,by simpa using hf 3 f3 rfl,by simpa using hf 4 f4 rfl,by simpa using hf 5 f5 rfl⟩
theorem fG6 {H:Type} {enc:TypeId × Value→H} {P:Program} {w:World} {base:Nat} {spare:Nat→Bool} {held:Bool} {t:TypeId} {f0 f1 f2 f3 f4 f5 f6 f7:Field} {fuel:Nat} {cs:List Value} {x:DataW H × List MemPlace} (ht:P.underlying t=some (.struct #[f0,f1,f2,f3,f4,f5,f6,f7])) (h:DataW.trod enc P w base spare held fuel t cs=some x) :
  ∃y0 y1 y2 y3 y4 y5 y6 y7 n,cs.length=P.cellsOf t∧DataW.trod enc P w base spare held n f0.type ((cs.drop f0.offset).take (P.cellsOf f0.type))=some y0∧DataW.trod enc P w base spare held n f1.type ((cs.drop f1.offset).take (P.cellsOf f1.type))=some y1∧DataW.trod enc P w base spare held n f2.type ((cs.drop f2.offset).take (P.cellsOf f2.type))=some y2∧DataW.trod enc P w base spare held n f3.type ((cs.drop f3.offset).take (P.cellsOf f3.type))=some y3∧DataW.trod enc P w base spare held n f4.type ((cs.drop f4.offset).take (P.cellsOf f4.type))=some y4∧DataW.trod enc P w base spare held n f5.type ((cs.drop f5.offset).take (P.cellsOf f5.type))=some y5∧DataW.trod enc P w base spare held n f6.type ((cs.drop f6.offset).take (P.cellsOf f6.type))=some y6∧DataW.trod enc P w base spare held n f7.type ((cs.drop f7.offset).take (P.cellsOf f7.type))=some y7:=by
 obtain⟨xs,n,_,rfl,hl,hlen,hf⟩:=DataW.trod_struct ht h;match xs,hlen with
 | [y0,y1,y2,y3,y4,y5,y6,y7],_=>exact⟨y0,y1,y2,y3,y4,y5,y6,y7,n,hl,by simpa using hf 0 f0 rfl,by simpa using hf 1 f1 rfl,by simpa using hf 2 f2 rfl,by simpa using hf 3 f3 rfl,by simpa using hf 4 f4 rfl,by simpa using hf 5 f5 rfl,by simpa using hf 6 f6 rfl,by simpa using hf 7 f7 rfl⟩
theorem fWv {H:Type} {enc:TypeId × Value→H} {W:World} {sp:Nat→Bool} {held:Bool} {n:Nat} {cs:List Value} {y:DataW H × List MemPlace}
  (ht:DataW.trod enc Tryz.prog W 0 sp held n 289 cs=some y) (hl:cs.length=5):∃x:Hrd,cs=hrdC x:=by
 obtain⟨y0,y1,y2,y3,y4,m,hlen,h0,h1,h2,h3,h4⟩:=fAt Tryz.underlying289 ht;simp only[uI,uJ] at h0 h1 h2 h3 h4;match cs,hl with
 | [c0,c1,c2,c3,c4],_=>
  obtain⟨x0,e0,_⟩:=DataW.trod_int Tryz.underlying2 h0;obtain⟨x1,e1,_⟩:=DataW.trod_int Tryz.underlying2 h1;obtain⟨x2,e2,_⟩:=DataW.trod_int Tryz.underlying2 h2;obtain⟨x3,e3,_⟩:=DataW.trod_int Tryz.underlying2 h3;obtain⟨x4,e4,_⟩:=DataW.trod_int Tryz.underlying2 h4;simp at e0 e1 e2 e3 e4;subst e0 e1 e2 e3 e4;exact⟨⟨x0,x1,x2,x3,x4⟩,rfl⟩
theorem fWy {H:Type} {enc:TypeId × Value→H} {W:World} {sp:Nat→Bool} {held:Bool} {n:Nat} {cs:List Value} {y:DataW H × List MemPlace}
  (ht:DataW.trod enc Tryz.prog W 0 sp held n 154 cs=some y) (hl:cs.length=9):∃x:Msg,cs=msgC x:=by
 obtain⟨y0,y1,y2,y3,y4,y5,y6,y7,m,hlen,h0,h1,h2,h3,h4,h5,h6,h7⟩:=fG6 Tryz.underlying154 ht;simp only[uI,uJ] at h0 h1 h2 h3 h4 h5 h6 h7;match cs,hl with
 | [c0,c1,c2,c3,c4,c5,c6,c7,c7'],_=>
  obtain⟨x0,e0,_⟩:=DataW.trod_int Tryz.underlying2 h0;obtain⟨x1,e1,_⟩:=DataW.trod_int Tryz.underlying2 h1;obtain⟨x2,e2,_⟩:=DataW.trod_int Tryz.underlying2 h2;obtain⟨x3,e3,_⟩:=DataW.trod_int Tryz.underlying2 h3;obtain⟨x4,e4,_⟩:=DataW.trod_int Tryz.underlying2 h4;obtain⟨x5,e5,_⟩:=DataW.trod_int Tryz.underlying2 h5;obtain⟨x6,e6,_⟩:=DataW.trod_int Tryz.underlying2 h6;obtain⟨l7,e7⟩:=fL0 h7 rfl;simp at e0 e1 e2 e3 e4 e5 e6;simp[votC] at e7;obtain⟨rfl,rfl⟩:=e7;subst e0 e1 e2 e3 e4 e5 e6;exact⟨⟨x0,x1,x2,x3,x4,x5,x6,l7.bal,l7.val⟩,rfl⟩
theorem fUy {H:Type} {enc:TypeId × Value→H} {W:World} {sp:Nat→Bool} {held:Bool} {n:Nat} {v:Value} {y:DataW H × List MemPlace}
  (ht:DataW.trod enc Tryz.prog W 0 sp held n 120 [v]=some y):∃xs:List Hrd,hrdsR.V W v xs:=by
 obtain⟨a,cap,xs,cs,rfl,h1,h2,h3⟩:=xM (q:=fun cs x=>cs=hrdC x) Tryz.underlying120 kF (size:=5) oM (fun n cs y h hl=>fWv h hl) ht;refine⟨xs,a,cap,rfl,h1,h2,fun i hi=>?_⟩;obtain⟨g1,g3,b,o,g4,g5⟩:=h3 i hi;rw[g1] at g5;exact⟨b,o,g4,g5 0 oM,g5 1 oM,g5 2 oM,g5 3 oM,g5 4 oM⟩
theorem fU1 {H:Type} {enc:TypeId × Value→H} {W:World} {sp:Nat→Bool} {held:Bool} {n:Nat} {v:Value} {y:DataW H × List MemPlace}
  (ht:DataW.trod enc Tryz.prog W 0 sp held n 26 [v]=some y):∃xs:List Msg,msgsR.V W v xs:=by
 obtain⟨a,cap,xs,cs,rfl,h1,h2,h3⟩:=xM (q:=fun cs x=>cs=msgC x) Tryz.underlying26 kF (size:=9) oM (fun n cs y h hl=>fWy h hl) ht;refine⟨xs,a,cap,rfl,h1,h2,fun i hi=>?_⟩;obtain⟨g1,g3,b,o,g4,g5⟩:=h3 i hi;rw[g1] at g5;exact⟨b,o,g4,g5 0 oM,g5 1 oM,g5 2 oM,g5 3 oM,g5 4 oM,g5 5 oM,g5 6 oM,g5 7 oM,g5 8 oM⟩
theorem fW0 {H:Type} {enc:TypeId × Value→H} {W:World} {sp:Nat→Bool} {held:Bool} {n:Nat} {cs:List Value} {y:DataW H × List MemPlace}
  (ht:DataW.trod enc Tryz.prog W 0 sp held n 275 cs=some y) (hl:cs.length=6):∃(x:Trr) (u1 u2:Value),cs=[.int .i64 x.con,.int .i64 x.sh,.int .i64 x.bal,.int .i64 x.val,u1,u2]∧intsR.V W u1 x.frm∧votsR.V W u2 x.olds:=by
 obtain⟨y0,y1,y2,y3,y4,y5,m,hlen,h0,h1,h2,h3,h4,h5⟩:=fAu Tryz.underlying275 ht;have z0:Tryz.prog.cellsOf 61=1:=kF;have z1:Tryz.prog.cellsOf 270=1:=kF;simp only[uI,uJ,z0,z1] at h0 h1 h2 h3 h4 h5;match cs,hl with
 | [c0,c1,c2,c3,c4,c5],_=>
  obtain⟨x0,e0,_⟩:=DataW.trod_int Tryz.underlying2 h0;obtain⟨x1,e1,_⟩:=DataW.trod_int Tryz.underlying2 h1;obtain⟨x2,e2,_⟩:=DataW.trod_int Tryz.underlying2 h2;obtain⟨x3,e3,_⟩:=DataW.trod_int Tryz.underlying2 h3;obtain⟨x4,g4⟩:=fSf h4;obtain⟨x5,g5⟩:=fNr h5;simp at e0 e1 e2 e3;subst e0 e1 e2 e3;exact⟨⟨x0,x1,x2,x3,x4,x5⟩,c4,c5,rfl,g4,g5⟩
theorem fU5 {H:Type} {enc:TypeId × Value→H} {W:World} {sp:Nat→Bool} {held:Bool} {n:Nat} {v:Value} {y:DataW H × List MemPlace}
  (ht:DataW.trod enc Tryz.prog W 0 sp held n 119 [v]=some y):∃xs,trysR.V W v xs:=by
 refine fP7 Tryz.underlying119 kF oM (fun n cs y h hl=>?_) ht;obtain⟨x,u1,u2,rfl,h1,h2⟩:=fW0 h hl;exact⟨x,.agg #[.int .i64 x.con,.int .i64 x.sh,.int .i64 x.bal,.int .i64 x.val,u1,u2],rfl,u1,u2,rfl,h1,h2⟩
theorem fWw {H:Type} {enc:TypeId × Value→H} {W:World} {sp:Nat→Bool} {held:Bool} {n:Nat} {cs:List Value} {y:DataW H × List MemPlace}
  (ht:DataW.trod enc Tryz.prog W 0 sp held n 122 cs=some y) (hl:cs.length=3):∃(x:Ldr) (u1 u2:Value),cs=[.int .i64 x.count,u1,u2]∧trysR.V W u1 x.tries∧hrdsR.V W u2 x.known:=by
 obtain⟨y0,y1,y2,m,hlen,h0,h1,h2⟩:=fG5 Tryz.underlying122 ht;have z0:Tryz.prog.cellsOf 120=1:=kF;have z1:Tryz.prog.cellsOf 119=1:=kF;simp only[uI,uJ,z0,z1] at h0 h1 h2;match cs,hl with
 | [c0,c1,c2],_=>
  obtain⟨x0,e0,_⟩:=DataW.trod_int Tryz.underlying2 h0;obtain⟨x1,g1⟩:=fU5 h1;obtain⟨x2,g2⟩:=fUy h2;simp at e0;subst e0;exact⟨⟨x0,x1,x2⟩,c1,c2,rfl,g1,g2⟩
theorem fUz {H:Type} {enc:TypeId × Value→H} {W:World} {sp:Nat→Bool} {held:Bool} {n:Nat} {v:Value} {y:DataW H × List MemPlace}
  (ht:DataW.trod enc Tryz.prog W 0 sp held n 25 [v]=some y):∃xs,ldrsR.V W v xs:=by
 refine fP7 Tryz.underlying25 kF oM (fun n cs y h hl=>?_) ht;obtain⟨x,u1,u2,rfl,h1,h2⟩:=fWw h hl;exact⟨x,.agg #[.int .i64 x.count,u1,u2],rfl,u1,u2,rfl,h1,h2⟩
theorem fU2 {H:Type} {enc:TypeId × Value→H} {W:World} {sp:Nat→Bool} {held:Bool} {n:Nat} {cs:List Value} {y:DataW H × List MemPlace}
  (ht:DataW.trod enc Tryz.prog W 0 sp held n 113 cs=some y) (hl:cs.length=6):∃(x:Shd) (u1 u2 u3 u4 u5:Value),cs=[.int .i64 x.idx,u1,u2,u3,u4,u5]∧balsR.V W u1 x.bals∧mrksR.V W u2 x.votes∧contsR.V W u3 x.held∧mrksR.V W u4 x.done∧intsR.V W u5 x.appl:=by
 obtain⟨y0,y1,y2,y3,y4,y5,m,hlen,h0,h1,h2,h3,h4,h5⟩:=fAu Tryz.underlying113 ht;have z0:Tryz.prog.cellsOf 61=1:=kF;have z1:Tryz.prog.cellsOf 110=1:=kF;have z2:Tryz.prog.cellsOf 22=1:=kF;have z3:Tryz.prog.cellsOf 111=1:=kF;simp only[uI,uJ,z0,z1,z2,z3] at h0 h1 h2 h3 h4 h5;match cs,hl with
 | [c0,c1,c2,c3,c4,c5],_=>
  obtain⟨x0,e0,_⟩:=DataW.trod_int Tryz.underlying2 h0;obtain⟨x1,g1⟩:=fUv h1;obtain⟨x2,g2⟩:=fNq h2;obtain⟨x3,g3⟩:=fAg h3;obtain⟨x4,g4⟩:=fNq h4;obtain⟨x5,g5⟩:=fSf h5;simp at e0;subst e0;exact⟨⟨x0,x1,x2,x3,x4,x5⟩,c1,c2,c3,c4,c5,rfl,g1,g2,g3,g4,g5⟩
theorem fU3 {H:Type} {enc:TypeId × Value→H} {W:World} {sp:Nat→Bool} {held:Bool} {n:Nat} {v:Value} {y:DataW H × List MemPlace}
  (ht:DataW.trod enc Tryz.prog W 0 sp held n 23 [v]=some y):∃xs,shdsR.V W v xs:=by
 refine fP7 Tryz.underlying23 kF oM (fun n cs y h hl=>?_) ht;obtain⟨x,u1,u2,u3,u4,u5,rfl,h1,h2,h3,h4,h5⟩:=fU2 h hl;exact⟨x,.agg #[.int .i64 x.idx,u1,u2,u3,u4,u5],rfl,u1,u2,u3,u4,u5,rfl,h1,h2,h3,h4,h5⟩
theorem fUw {H:Type} {enc:TypeId × Value→H} {W:World} {sp:Nat→Bool} {held:Bool} {n:Nat} {cs:List Value} {y:DataW H × List MemPlace}
  (ht:DataW.trod enc Tryz.prog W 0 sp held n 28 cs=some y) (hl:cs.length=5):∃x:Clu,cluR.V W (.agg cs.toArray) x:=by
 obtain⟨y0,y1,y2,y3,y4,m,hlen,h0,h1,h2,h3,h4⟩:=fAt Tryz.underlying28 ht;have z0:Tryz.prog.cellsOf 24=1:=kF;have z1:Tryz.prog.cellsOf 22=1:=kF;have z2:Tryz.prog.cellsOf 25=1:=kF;have z3:Tryz.prog.cellsOf 26=1:=kF;have z4:Tryz.prog.cellsOf 23=1:=kF;simp only[uI,uJ,z0,z1,z2,z3,z4] at h0 h1 h2 h3 h4;match cs,hl with
 | [c0,c1,c2,c3,c4],_=>
  obtain⟨x0,g0⟩:=fAg h0;obtain⟨x1,g1⟩:=fU3 h1;obtain⟨x2,g2⟩:=fUu h2;obtain⟨x3,g3⟩:=fUz h3;obtain⟨x4,g4⟩:=fU1 h4;exact⟨⟨x0,x1,x2,x3,x4⟩,c0,c1,c2,c3,c4,rfl,g0,g1,g2,g3,g4⟩
set_option maxRecDepth 100000 in
theorem fUx {H:Type} {enc:TypeId × Value→H} {W:World} {sp:Nat→Bool} {held:Bool} {v:Value} {d:DataW H} {p:List MemPlace} {base:Nat} {r:Reach}
  (hv:Value.okWide Tryz.prog W r base 28 v) (h:DataW.Trod enc Tryz.prog W 0 sp held 28 v d p):∃x,cluR.V W v x:=by
 obtain⟨cs,rfl,hsz⟩:=okWide_struct Tryz.underlying28 hv;have hC:Tryz.prog.cellsOf 28=5:=kF;obtain⟨l⟩:=cs;obtain⟨fuel,hf⟩:=h;obtain⟨x,hx⟩:=fUw (cs:=l) (by simpa [Value.cells] using hf) (hsz.trans hC);exact⟨x,hx⟩
end
end Go.Proofs.YtbfnobcidnmohaaGreat

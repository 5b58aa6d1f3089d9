import Derived.Test.YtpibfdebfacooaaGreatPrnJournalFaultLaw27
set_option linter.unusedSectionVars false
namespace Go.Proofs.YtpibfdebfacooaaGreat
open Go.ChangeShapes Go.WideShapes Go.ChangeAt Go.RowKit Go.Joins
variable [dQ Leg] [iH Leg] [dQ Cont] [iH Cont] [dQ Bal] [iH Bal] [dQ Ledg] [iH Ledg] [dQ Logg] [iH Logg] [dQ Evt] [iH Evt] [dQ Jrn] [iH Jrn]
theorem fF8 {H:Type} {enc:TypeId × Value→H} {P:Program} {w:World} {base:Nat} {spare:Nat→Bool} {held:Bool} {t:TypeId} {f0 f1 f2:Field} {fuel:Nat} {cs:List Value} {x:DataW H × List MemPlace} (ht:P.underlying t=some (.struct #[f0,f1,f2])) (h:DataW.trod enc P w base spare held fuel t cs=some x) :
  ∃y0 y1 y2 n,cs.length=P.cellsOf t∧DataW.trod enc P w base spare held n f0.type ((cs.drop f0.offset).take (P.cellsOf f0.type))=some y0 ∧
   DataW.trod enc P w base spare held n f1.type ((cs.drop f1.offset).take (P.cellsOf f1.type))=some y1∧DataW.trod enc P w base spare held n f2.type ((cs.drop f2.offset).take (P.cellsOf f2.type))=some y2:=by
 obtain⟨xs,n,_,rfl,hl,hlen,hf⟩:=DataW.trod_struct ht h;match xs,hlen with
 | [y0,y1,y2],_=>exact⟨y0,y1,y2,n,hl,by simpa using hf 0 f0 rfl,by simpa using hf 1 f1 rfl,by simpa using hf 2 f2 rfl⟩
theorem fF7 {H:Type} {enc:TypeId × Value→H} {P:Program} {w:World} {base:Nat} {spare:Nat→Bool} {held:Bool} {t:TypeId} {f0 f1:Field} {fuel:Nat} {cs:List Value} {x:DataW H × List MemPlace} (ht:P.underlying t=some (.struct #[f0,f1])) (h:DataW.trod enc P w base spare held fuel t cs=some x) :
  ∃y0 y1 n,cs.length=P.cellsOf t∧DataW.trod enc P w base spare held n f0.type ((cs.drop f0.offset).take (P.cellsOf f0.type))=some y0 ∧
   DataW.trod enc P w base spare held n f1.type ((cs.drop f1.offset).take (P.cellsOf f1.type))=some y1:=by
 obtain⟨xs,n,_,rfl,hl,hlen,hf⟩:=DataW.trod_struct ht h;match xs,hlen with
 | [y0,y1],_=>exact⟨y0,y1,n,hl,by simpa using hf 0 f0 rfl,by simpa using hf 1 f1 rfl⟩
set_option maxRecDepth 100000 in
theorem fRf {H:Type} {enc:TypeId × Value→H} {W:World} {sp:Nat→Bool} {held:Bool} {v:Value} {d:DataW H} {p:List MemPlace} {base:Nat} {r:Reach}
  (hv:Value.okWide Tryz.prog W r base 27 v) (h:DataW.Trod enc Tryz.prog W 0 sp held 27 v d p):∃x,jrnR.V W v x:=by
 obtain⟨cs,rfl,hsz⟩:=okWide_struct Tryz.underlying27 hv;have hC:Tryz.prog.cellsOf 27=4:=kF;have z0:Tryz.prog.cellsOf 2=1:=kF;have z1:Tryz.prog.cellsOf 22=1:=kF;have z2:Tryz.prog.cellsOf 25=2:=kF;have z3:Tryz.prog.cellsOf 23=1:=kF;obtain⟨l⟩:=cs;match l,hsz.trans hC with
 | [c0,c1,c2,c3],_=>
  obtain⟨fuel,hf⟩:=h;obtain⟨y0,y1,y2,m,_,h0,h1,h2⟩:=fF8 Tryz.underlying27 hf;have h0':DataW.trod enc Tryz.prog W 0 sp held m 2 [c0]=some y0:=by simpa [Value.cells,z0] using h0
  have h1':DataW.trod enc Tryz.prog W 0 sp held m 22 [c1]=some y1:=by simpa [Value.cells,z1] using h1
  have h2':DataW.trod enc Tryz.prog W 0 sp held m 25 [c2,c3]=some y2:=by simpa [Value.cells,z2] using h2
  obtain⟨i,ei,_⟩:=DataW.trod_int Tryz.underlying2 h0';simp at ei;subst ei;obtain⟨bs,hb⟩:=fQg h1';obtain⟨x0,x1,m1,_,g0,g1⟩:=fF7 Tryz.underlying25 h2';have g0':DataW.trod enc Tryz.prog W 0 sp held m1 23 [c2]=some x0:=by simpa [z3] using g0
  have g1':DataW.trod enc Tryz.prog W 0 sp held m1 23 [c3]=some x1:=by simpa [z3] using g1
  obtain⟨xs,hx⟩:=fHg g0';obtain⟨ys,hy⟩:=fHg g1';exact⟨⟨i,bs,⟨xs,ys⟩⟩,c1,c2,c3,rfl,hb,⟨c2,c3,rfl,hx,hy⟩⟩
end Go.Proofs.YtpibfdebfacooaaGreat

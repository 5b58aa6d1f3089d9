import Derived.Test.YtpibfdebfacooaaGreatPrnJournalFaultLaw1
set_option linter.unusedSectionVars false
namespace Go.Proofs.YtpibfdebfacooaaGreat
open Go.RowKit
attribute [local go_sem ↓] Go.wp_at_zero Go.wp_at_succ
section
structure Mrk where
 con:Int
 val:Int
variable [dQ Mrk] [iH Mrk]
def qK (w:World) (b o:Nat) (x:Mrk):Prop:=w.cell? ⟨b,o,none⟩=some (.int .i64 x.con)∧w.cell? ⟨b,o+1,none⟩=some (.int .i64 x.val)
def fPg (w:World) (v:Value) (xs:List Mrk):Prop:=
 ∃a cap,v =.slice a xs.length cap∧xs.length≤cap∧cap≤maxLen∧∀i,i<xs.length→∃b o,a=some ⟨b,o,none⟩∧qK w b (o+i*2) (xs.getD i default)
theorem fU {w w':World} {b o:Nat} {x:Mrk} (hb:Below w.heap.size w w') (h:qK w b o x):qK w' b o x:=by
 obtain⟨h0,h1⟩:=h;exact⟨cK hb h0,cK hb h1⟩
theorem fH8 {w w':World} {v:Value} {xs:List Mrk} (h:fPg w v xs) (hb:Below w.heap.size w w'):fPg w' v xs:=by
 obtain⟨a,cap,rfl,h1,h2,h3⟩:=h;exact⟨a,cap,rfl,h1,h2,fun i hi=>by
  obtain⟨b,o,ha,hc⟩:=h3 i hi;exact⟨b,o,ha,fU hb hc⟩⟩
def mrkC (x:Mrk):List Value:=[.int .i64 x.con,.int .i64 x.val]
def fZ (xs:List Mrk):List Value:=xs.flatMap mrkC
theorem fAm:(Tryz.prog.info? 166).map (fun i=>(i.zero,i.size,i.bytes))=some (some (.agg #[.int .i64 0,.int .i64 0]),2,16):=kF
theorem xJ (xs:List Mrk):(fZ xs).length=xs.length*2:=by
 induction xs with
 | nil=>rfl
 | cons x r ih=>
  have e:fZ (x::r)=mrkC x++fZ r:=by simp[fZ]
  have l4:(mrkC x).length=2:=rfl;rw[e,List.length_append,l4,ih,List.length_cons];omega
theorem fGx (xs:List Mrk):∀i,i<xs.length→(fZ xs)[i*2]? = some (.int .i64 (xs.getD i default).con)∧(fZ xs)[i*2+1]? = some (.int .i64 (xs.getD i default).val):=by
 induction xs with
 | nil=>intro i h;simp at h
 | cons x r ih=>
  intro i h;cases i with
  | zero=>simp[fZ,mrkC]
  | succ i=>
   have:=ih i (by simpa using h);have e:fZ (x::r)=mrkC x++fZ r:=by simp[fZ]
   have l4:(mrkC x).length=2:=rfl;rw[e];refine⟨?_,?_⟩;all_goals rw[List.getElem?_append_right oM,l4]
   ·rw[show(i+1)*2-2=i*2 by omega];simpa using this.1
   rw[show(i+1)*2+1-2=i*2+1 by omega];simpa using this.2
theorem fFa {w:World} {base e:Nat} {v:Value} {xs:List Mrk} (h:w.ownsRow base e 2 v xs.length (fZ xs)):fPg w v xs:=by
 rcases h.2 with ⟨rfl,hn⟩|⟨g,cap,cur,rfl,hb,hg,hnc,hcm,hcs,htake⟩
 ·exact⟨none,0,by rw[hn],oM,by unfold maxLen;omega,fun i hi=>oM⟩
 refine⟨some ⟨g,0,none⟩,cap,rfl,hnc,hcm,fun i hi=>⟨g,0,rfl,?_⟩⟩;obtain⟨h0,h1⟩:=fGx xs i hi;simp only[Nat.zero_add,qK];exact⟨(h.cellAt _ oM).trans h0,(h.cellAt _ oM).trans h1⟩
variable [dQ Mrk] [iH Mrk]
def mrksR:Rep (List Mrk):=fRep 166 2 fZ fPg fH8 fFa
theorem fE {w:World} {v:Value} {xs:List Mrk} (h:mrksR.V w v xs):∃a c,v =.slice a xs.length c:=by
 obtain⟨a,c,rfl,_⟩:=h;exact⟨_,_,rfl⟩
end
section
structure Leg where
 sh:Int
 ac:Int
 ast:Int
 am:Int
variable [dQ Leg] [iH Leg]
def legV (l:Leg):Value:=.agg #[.int .i64 l.sh,.int .i64 l.ac,.int .i64 l.ast,.int .i64 l.am]
end
section
variable [dQ Leg] [iH Leg]
def kW (w:World) (b o:Nat) (l:Leg):Prop:=
 w.cell? ⟨b,o,none⟩=some (.int .i64 l.sh)∧w.cell? ⟨b,o+1,none⟩=some (.int .i64 l.ac)∧w.cell? ⟨b,o+2,none⟩=some (.int .i64 l.ast)∧w.cell? ⟨b,o+3,none⟩=some (.int .i64 l.am)
def uX (w:World) (v:Value) (xs:List Leg):Prop:=
 ∃a cap,v =.slice a xs.length cap∧xs.length≤cap∧cap≤maxLen∧∀i,i<xs.length→∃b o,a=some ⟨b,o,none⟩∧kW w b (o+i*4) (xs.getD i default)
theorem fK {w w':World} {b o:Nat} {l:Leg} (hb:Below w.heap.size w w') (h:kW w b o l):kW w' b o l:=by
 obtain⟨h1,h2,h3,h4⟩:=h;have hlt:b<w.heap.size:=wL w _ h1;exact⟨(hb.cell (p:=⟨b,o,none⟩) hlt).trans h1,(hb.cell (p:=⟨b,o+1,none⟩) hlt).trans h2,(hb.cell (p:=⟨b,o+2,none⟩) hlt).trans h3,(hb.cell (p:=⟨b,o+3,none⟩) hlt).trans h4⟩
theorem keep2 {w w':World} {b o b' o':Nat} {l l':Leg} (hb:Below w.heap.size w w') (h:kW w b o l) (h':kW w b' o' l') :
  Below w.heap.size w w'∧(w'.cell? ⟨b,o,none⟩=some (.int .i64 l.sh)∧w'.cell? ⟨b,o+1,none⟩=some (.int .i64 l.ac)∧w'.cell? ⟨b,o+2,none⟩=some (.int .i64 l.ast)∧w'.cell? ⟨b,o+3,none⟩=some (.int .i64 l.am)) ∧
   (w'.cell? ⟨b',o',none⟩=some (.int .i64 l'.sh)∧w'.cell? ⟨b',o'+1,none⟩=some (.int .i64 l'.ac)∧w'.cell? ⟨b',o'+2,none⟩=some (.int .i64 l'.ast)∧w'.cell? ⟨b',o'+3,none⟩=some (.int .i64 l'.am)):=
 ⟨hb,fK hb h,fK hb h'⟩
def legC (l:Leg):List Value:=[.int .i64 l.sh,.int .i64 l.ac,.int .i64 l.ast,.int .i64 l.am]
def gM (xs:List Leg):List Value:=xs.flatMap legC
theorem fB8:(Tryz.prog.info? 168).map (fun i=>(i.zero,i.size,i.bytes))=some (some (.agg #[.int .i64 0,.int .i64 0,.int .i64 0,.int .i64 0]),4,32):=kF
theorem xI (xs:List Leg):(gM xs).length=xs.length*4:=by
 induction xs with
 | nil=>rfl
 | cons x r ih=>
  have e:gM (x::r)=legC x++gM r:=by simp[gM]
  have l4:(legC x).length=4:=rfl;rw[e,List.length_append,l4,ih,List.length_cons];omega
theorem fKk (xs:List Leg):∀i,i<xs.length→(gM xs)[i*4]? = some (.int .i64 (xs.getD i default).sh)∧(gM xs)[i*4+1]? = some (.int .i64 (xs.getD i default).ac) ∧
  (gM xs)[i*4+2]? = some (.int .i64 (xs.getD i default).ast)∧(gM xs)[i*4+3]? = some (.int .i64 (xs.getD i default).am):=by
 induction xs with
 | nil=>intro i h;simp at h
 | cons x r ih=>
  intro i h;cases i with
  | zero=>simp[gM,legC]
  | succ i=>
   have:=ih i (by simpa using h);have e:gM (x::r)=legC x++gM r:=by simp[gM]
   have l4:(legC x).length=4:=rfl;rw[e];refine⟨?_,?_,?_,?_⟩;all_goals rw[List.getElem?_append_right oM,l4]
   ·rw[show(i+1)*4-4=i*4 by omega];simpa using this.1
   ·rw[show(i+1)*4+1-4=i*4+1 by omega];simpa using this.2.1
   ·rw[show(i+1)*4+2-4=i*4+2 by omega];simpa using this.2.2.1
   rw[show(i+1)*4+3-4=i*4+3 by omega];simpa using this.2.2.2
theorem gK {w:World} {base e:Nat} {v:Value} {xs:List Leg} (h:w.ownsRow base e 4 v xs.length (gM xs)):uX w v xs:=by
 rcases h.2 with ⟨rfl,hn⟩|⟨g,cap,cur,rfl,hb,hg,hnc,hcm,hcs,htake⟩
 ·exact⟨none,0,by rw[hn],oM,by unfold maxLen;omega,fun i hi=>oM⟩
 refine⟨some ⟨g,0,none⟩,cap,rfl,hnc,hcm,fun i hi=>⟨g,0,rfl,?_⟩⟩;obtain⟨h0,h1,h2,h3⟩:=fKk xs i hi;simp only[Nat.zero_add,kW];exact⟨(h.cellAt _ oM).trans h0,(h.cellAt _ oM).trans h1,(h.cellAt _ oM).trans h2,(h.cellAt _ oM).trans h3⟩
theorem kE {w w':World} {v:Value} {xs:List Leg} (h:uX w v xs) (hb:Below w.heap.size w w'):uX w' v xs:=by
 obtain⟨a,cap,rfl,h1,h2,h3⟩:=h;exact⟨a,cap,rfl,h1,h2,fun i hi=>by
  obtain⟨b,o,ha,hc⟩:=h3 i hi;exact⟨b,o,ha,fK hb hc⟩⟩
def legsR:Rep (List Leg):=fRep 168 4 gM uX kE gK
theorem kC {w:World} {v:Value} {xs:List Leg} (h:legsR.V w v xs):∃a c,v =.slice a xs.length c:=by
 obtain⟨a,c,rfl,_⟩:=h;exact⟨_,_,rfl⟩
structure Cont where
 id:Int
 legs:List Leg
variable [dQ Cont] [iH Cont]
def contR:Rep Cont where
 V:=fun w v x=>∃u1,v =.agg #[.int .i64 x.id,u1]∧legsR.V w u1 x.legs
 O:=fun w base F v x=>∃u1 F1,v =.agg #[.int .i64 x.id,u1]∧legsR.O w base F1 u1 x.legs∧(∀b,F b↔(F1 b))
 below:=fun h hb=>by
  obtain⟨u1,rfl,h1⟩:=h;exact⟨u1,rfl,legsR.below h1 hb⟩
 ofO:=fun h=>by
  obtain⟨u1,F1,rfl,h1,_⟩:=h;exact⟨u1,rfl,legsR.ofO h1⟩
 mod:=fun h hm hd=>by
  obtain⟨u1,F1,rfl,h1,hF⟩:=h;exact⟨u1,F1,rfl,legsR.mod h1 hm (fun b hb=>hd b ((hF b).2 hb)),hF⟩
 rng:=fun h b hb=>by
  obtain⟨u1,F1,rfl,h1,hF⟩:=h;rcases(hF b).1 hb with hb
  exact legsR.rng h1 b hb
 base:=fun h hb=>by
  obtain⟨u1,F1,rfl,h1,hF⟩:=h;exact⟨u1,F1,rfl,legsR.base h1 hb,hF⟩
def gZ (v:Value):List Value:=match v with | .agg a=>one (a.getD 0 (.int .i64 0))++one (a.getD 1 (.int .i64 0))|_=>[]
end
end Go.Proofs.YtpibfdebfacooaaGreat

import Derived.Test.YtpibfdebfacooaaGreatPrnJournalFaultLaw2
set_option linter.unusedSectionVars false
set_option linter.unusedSimpArgs false
namespace Go.Proofs.YtpibfdebfacooaaGreat
open Go.RowKit
attribute [local go_sem ↓] Go.wp_at_zero Go.wp_at_succ
section
variable [dQ Leg] [iH Leg] [dQ Cont] [iH Cont]
def contsR:Rep (List Cont):=nRep contR 57 2 gZ
theorem fG {w:World} {v:Value} {xs:List Cont} (h:contsR.V w v xs):∃a c,v =.slice a xs.length c:=by
 obtain⟨a,c,rfl,_⟩:=h;exact⟨_,_,rfl⟩
theorem qI:(Tryz.prog.info? 57).map (fun i=>(i.zero,i.size,i.bytes))=some (some (.agg #[.int .i64 0,.slice none 0 0]),2,32):=kF
end
section
variable [dQ Leg] [iH Leg]
def kS (ys:List Int):List Value:=ys.map (Value.int .i64)
theorem fAl:(Tryz.prog.info? 2).map (fun i=>(i.zero,i.size,i.bytes))=some (some (.int .i64 0),1,8):=kF
def vV (w:World) (v:Value) (ys:List Int):Prop:=
 ∃a cap,v =.slice a ys.length cap∧ys.length≤cap∧cap≤maxLen∧∀i,i<ys.length→∃b o,a=some ⟨b,o,none⟩∧w.cell? ⟨b,o+i,none⟩=some (.int .i64 (ys.getD i 0))
theorem yJ {w w':World} {v:Value} {ys:List Int} (h:vV w v ys) (hb:Below w.heap.size w w'):vV w' v ys:=by
 obtain⟨a,cap,rfl,h1,h2,h3⟩:=h;exact⟨a,cap,rfl,h1,h2,fun i hi=>by
  obtain⟨b,o,ha,hc⟩:=h3 i hi;exact⟨b,o,ha,cK hb hc⟩⟩
theorem uW {w:World} {base e:Nat} {v:Value} {ys:List Int} (h:w.ownsRow base e 1 v ys.length (kS ys)):vV w v ys:=by
 rcases h.2 with ⟨rfl,hn⟩|⟨g,cap,cur,rfl,hb,hg,hnc,hcm,hcs,htake⟩
 ·exact⟨none,0,by rw[hn],oM,by unfold maxLen;omega,fun i hi=>oM⟩
 refine⟨some ⟨g,0,none⟩,cap,rfl,hnc,hcm,fun i hi=>⟨g,0,rfl,?_⟩⟩;rw[Nat.zero_add];refine(h.cellAt i oM).trans ?_;simp[kS,List.getD,hi]
theorem fMb {xs ys:List Int} (hl:ys.length=xs.length) (h:∀j,j<xs.length→xs.getD j 0=ys.getD j 0):xs=ys:=by
 apply List.ext_getElem oM;intro i h1 h2;have:=h i h1;simpa [List.getD,h1,h2] using this
def intsR:Rep (List Int):=fRep 2 1 kS vV yJ uW
theorem gF {w:World} {v:Value} {xs:List Int} (h:intsR.V w v xs):∃a c,v =.slice a xs.length c:=by
 obtain⟨a,c,rfl,_⟩:=h;exact⟨_,_,rfl⟩
variable [dQ Bal] [iH Bal] [dQ Mrk] [iH Mrk] [dQ Cont] [iH Cont]
structure Shd where
 idx:Int
 bals:List Bal
 votes:List Mrk
 held:List Cont
 done:List Mrk
 appl:List Int
variable [dQ Shd] [iH Shd]
def shdR:Rep Shd where
 V:=fun w v x=>∃u1 u2 u3 u4 u5,v =.agg #[.int .i64 x.idx,u1,u2,u3,u4,u5]∧balsR.V w u1 x.bals∧mrksR.V w u2 x.votes∧contsR.V w u3 x.held∧mrksR.V w u4 x.done∧intsR.V w u5 x.appl
 O:=fun w base F v x=>∃u1 u2 u3 u4 u5 F1 F2 F3 F4 F5,v =.agg #[.int .i64 x.idx,u1,u2,u3,u4,u5]∧balsR.O w base F1 u1 x.bals∧mrksR.O w base F2 u2 x.votes∧contsR.O w base F3 u3 x.held∧mrksR.O w base F4 u4 x.done∧intsR.O w base F5 u5 x.appl∧(∀b,F1 b→¬F2 b)∧(∀b,F1 b→¬F3 b)∧(∀b,F1 b→¬F4 b)∧(∀b,F1 b→¬F5 b)∧(∀b,F2 b→¬F3 b)∧(∀b,F2 b→¬F4 b)∧(∀b,F2 b→¬F5 b)∧(∀b,F3 b→¬F4 b)∧(∀b,F3 b→¬F5 b)∧(∀b,F4 b→¬F5 b)∧(∀b,F b↔(F1 b∨F2 b∨F3 b∨F4 b∨F5 b))
 below:=fun h hb=>by
  obtain⟨u1,u2,u3,u4,u5,rfl,h1,h2,h3,h4,h5⟩:=h;exact⟨u1,u2,u3,u4,u5,rfl,balsR.below h1 hb,mrksR.below h2 hb,contsR.below h3 hb,mrksR.below h4 hb,intsR.below h5 hb⟩
 ofO:=fun h=>by
  obtain⟨u1,u2,u3,u4,u5,F1,F2,F3,F4,F5,rfl,h1,h2,h3,h4,h5,_⟩:=h;exact⟨u1,u2,u3,u4,u5,rfl,balsR.ofO h1,mrksR.ofO h2,contsR.ofO h3,mrksR.ofO h4,intsR.ofO h5⟩
 mod:=fun h hm hd=>by
  obtain⟨u1,u2,u3,u4,u5,F1,F2,F3,F4,F5,rfl,h1,h2,h3,h4,h5,s12,s13,s14,s15,s23,s24,s25,s34,s35,s45,hF⟩:=h;exact⟨u1,u2,u3,u4,u5,F1,F2,F3,F4,F5,rfl,balsR.mod h1 hm (fun b hb=>hd b ((hF b).2 (.inl hb))),mrksR.mod h2 hm (fun b hb=>hd b ((hF b).2 (.inr (.inl hb)))),contsR.mod h3 hm (fun b hb=>hd b ((hF b).2 (.inr (.inr (.inl hb))))),mrksR.mod h4 hm (fun b hb=>hd b ((hF b).2 (.inr (.inr (.inr (.inl hb)))))),intsR.mod h5 hm (fun b hb=>hd b ((hF b).2 (.inr (.inr (.inr (.inr hb)))))),s12,s13,s14,s15,s23,s24,s25,s34,s35,s45,hF⟩
 rng:=fun h b hb=>by
  obtain⟨u1,u2,u3,u4,u5,F1,F2,F3,F4,F5,rfl,h1,h2,h3,h4,h5,s12,s13,s14,s15,s23,s24,s25,s34,s35,s45,hF⟩:=h;rcases(hF b).1 hb with hb|hb|hb|hb|hb
  ·exact balsR.rng h1 b hb
  ·exact mrksR.rng h2 b hb
  ·exact contsR.rng h3 b hb
  ·exact mrksR.rng h4 b hb
  exact intsR.rng h5 b hb
 base:=fun h hb=>by
  obtain⟨u1,u2,u3,u4,u5,F1,F2,F3,F4,F5,rfl,h1,h2,h3,h4,h5,s12,s13,s14,s15,s23,s24,s25,s34,s35,s45,hF⟩:=h;exact⟨u1,u2,u3,u4,u5,F1,F2,F3,F4,F5,rfl,balsR.base h1 hb,mrksR.base h2 hb,contsR.base h3 hb,mrksR.base h4 hb,intsR.base h5 hb,s12,s13,s14,s15,s23,s24,s25,s34,s35,s45,hF⟩
theorem fBl {w:World} {v:Value} {x:Shd} (h:shdR.V w v x):∃a1 a2 a3 a4 a5 c1 c2 c3 c4 c5,v =.agg #[.int .i64 x.idx,.slice a1 x.bals.length c1,.slice a2 x.votes.length c2,.slice a3 x.held.length c3,.slice a4 x.done.length c4,.slice a5 x.appl.length c5]:=by
 obtain⟨u1,u2,u3,u4,u5,rfl,h1,h2,h3,h4,h5⟩:=h;obtain⟨a1,c1,rfl⟩:=fM h1;obtain⟨a2,c2,rfl⟩:=fE h2;obtain⟨a3,c3,rfl⟩:=fG h3;obtain⟨a4,c4,rfl⟩:=fE h4;obtain⟨a5,c5,rfl⟩:=gF h5;exact⟨_,_,_,_,_,_,_,_,_,_,rfl⟩
variable [dQ Logg] [iH Logg] [dQ Jrn] [iH Jrn] [dQ Shd] [iH Shd]
structure JrnR where
 code:Int
 jrn:Jrn
 shard:Shd
variable [dQ JrnR] [iH JrnR]
def jrnRR:Rep JrnR where
 V:=fun w v x=>∃u1_1 u1_2_1 u1_2_2 u2_1 u2_2 u2_3 u2_4 u2_5,v =.agg #[.int .i64 x.code,.int .i64 x.jrn.idx,u1_1,u1_2_1,u1_2_2,.int .i64 x.shard.idx,u2_1,u2_2,u2_3,u2_4,u2_5]∧jrnR.V w (.agg #[.int .i64 x.jrn.idx,u1_1,u1_2_1,u1_2_2]) x.jrn∧shdR.V w (.agg #[.int .i64 x.shard.idx,u2_1,u2_2,u2_3,u2_4,u2_5]) x.shard
 O:=fun w base F v x=>∃u1_1 u1_2_1 u1_2_2 u2_1 u2_2 u2_3 u2_4 u2_5 F1 F2,v =.agg #[.int .i64 x.code,.int .i64 x.jrn.idx,u1_1,u1_2_1,u1_2_2,.int .i64 x.shard.idx,u2_1,u2_2,u2_3,u2_4,u2_5]∧jrnR.O w base F1 (.agg #[.int .i64 x.jrn.idx,u1_1,u1_2_1,u1_2_2]) x.jrn∧shdR.O w base F2 (.agg #[.int .i64 x.shard.idx,u2_1,u2_2,u2_3,u2_4,u2_5]) x.shard∧(∀b,F1 b→¬F2 b)∧(∀b,F b↔(F1 b∨F2 b))
 below:=fun h hb=>by
  obtain⟨u1_1,u1_2_1,u1_2_2,u2_1,u2_2,u2_3,u2_4,u2_5,rfl,h1,h2⟩:=h;exact⟨u1_1,u1_2_1,u1_2_2,u2_1,u2_2,u2_3,u2_4,u2_5,rfl,jrnR.below h1 hb,shdR.below h2 hb⟩
 ofO:=fun h=>by
  obtain⟨u1_1,u1_2_1,u1_2_2,u2_1,u2_2,u2_3,u2_4,u2_5,F1,F2,rfl,h1,h2,_⟩:=h;exact⟨u1_1,u1_2_1,u1_2_2,u2_1,u2_2,u2_3,u2_4,u2_5,rfl,jrnR.ofO h1,shdR.ofO h2⟩
 mod:=fun h hm hd=>by
  obtain⟨u1_1,u1_2_1,u1_2_2,u2_1,u2_2,u2_3,u2_4,u2_5,F1,F2,rfl,h1,h2,s12,hF⟩:=h;exact⟨u1_1,u1_2_1,u1_2_2,u2_1,u2_2,u2_3,u2_4,u2_5,F1,F2,rfl,jrnR.mod h1 hm (fun b hb=>hd b ((hF b).2 (.inl hb))),shdR.mod h2 hm (fun b hb=>hd b ((hF b).2 (.inr hb))),s12,hF⟩
 rng:=fun h b hb=>by
  obtain⟨u1_1,u1_2_1,u1_2_2,u2_1,u2_2,u2_3,u2_4,u2_5,F1,F2,rfl,h1,h2,s12,hF⟩:=h;rcases(hF b).1 hb with hb|hb
  ·exact jrnR.rng h1 b hb
  exact shdR.rng h2 b hb
 base:=fun h hb=>by
  obtain⟨u1_1,u1_2_1,u1_2_2,u2_1,u2_2,u2_3,u2_4,u2_5,F1,F2,rfl,h1,h2,s12,hF⟩:=h;exact⟨u1_1,u1_2_1,u1_2_2,u2_1,u2_2,u2_3,u2_4,u2_5,F1,F2,rfl,jrnR.base h1 hb,shdR.base h2 hb,s12,hF⟩
end
section
variable [dQ Leg] [iH Leg] [dQ Cont] [iH Cont]
structure Evt where
 vote:Bool
 con:Cont
 out:Int
variable [dQ Evt] [iH Evt]
def evtR:Rep Evt where
 V:=fun w v x=>∃u1_1,v =.agg #[.bool x.vote,.int .i64 x.con.id,u1_1,.int .i64 x.out]∧contR.V w (.agg #[.int .i64 x.con.id,u1_1]) x.con
 O:=fun w base F v x=>∃u1_1 F1,v =.agg #[.bool x.vote,.int .i64 x.con.id,u1_1,.int .i64 x.out]∧contR.O w base F1 (.agg #[.int .i64 x.con.id,u1_1]) x.con∧(∀b,F b↔(F1 b))
 below:=fun h hb=>by
  obtain⟨u1_1,rfl,h1⟩:=h;exact⟨u1_1,rfl,contR.below h1 hb⟩
 ofO:=fun h=>by
  obtain⟨u1_1,F1,rfl,h1,_⟩:=h;exact⟨u1_1,rfl,contR.ofO h1⟩
 mod:=fun h hm hd=>by
  obtain⟨u1_1,F1,rfl,h1,hF⟩:=h;exact⟨u1_1,F1,rfl,contR.mod h1 hm (fun b hb=>hd b ((hF b).2 hb)),hF⟩
 rng:=fun h b hb=>by
  obtain⟨u1_1,F1,rfl,h1,hF⟩:=h;rcases(hF b).1 hb with hb
  exact contR.rng h1 b hb
 base:=fun h hb=>by
  obtain⟨u1_1,F1,rfl,h1,hF⟩:=h;exact⟨u1_1,F1,rfl,contR.base h1 hb,hF⟩
def fJf (v:Value):List Value:=match v with | .agg a=>one (a.getD 0 (.int .i64 0))++one (a.getD 1 (.int .i64 0))++one (a.getD 2 (.int .i64 0))++one (a.getD 3 (.int .i64 0))|_=>[]
variable [dQ Evt] [iH Evt]
def evtfR:Rep Evt where
 V:=fun w v x=>∃u1,v =.agg #[.bool x.vote,.int .i64 x.con.id,u1,.int .i64 x.out]∧legsR.V w u1 x.con.legs
 O:=fun w base F v x=>∃u1 F1,v =.agg #[.bool x.vote,.int .i64 x.con.id,u1,.int .i64 x.out]∧legsR.O w base F1 u1 x.con.legs∧(∀b,F b↔(F1 b))
 below:=fun h hb=>by
  obtain⟨u1,rfl,h1⟩:=h;exact⟨u1,rfl,legsR.below h1 hb⟩
 ofO:=fun h=>by
  obtain⟨u1,F1,rfl,h1,_⟩:=h;exact⟨u1,rfl,legsR.ofO h1⟩
 mod:=fun h hm hd=>by
  obtain⟨u1,F1,rfl,h1,hF⟩:=h;exact⟨u1,F1,rfl,legsR.mod h1 hm (fun b hb=>hd b ((hF b).2 hb)),hF⟩
 rng:=fun h b hb=>by
  obtain⟨u1,F1,rfl,h1,hF⟩:=h;exact legsR.rng h1 b ((hF b).1 hb)
 base:=fun h hb=>by
  obtain⟨u1,F1,rfl,h1,hF⟩:=h;exact⟨u1,F1,rfl,legsR.base h1 hb,hF⟩
theorem evtf_V {w:World} {v:Value} {x:Evt}:evtfR.V w v x↔evtR.V w v x:=by
 constructor
 ·rintro⟨u1,rfl,h1⟩;exact⟨u1,rfl,⟨u1,rfl,h1⟩⟩
 rintro⟨u1,rfl,⟨u2,he,h1⟩⟩;simp only[Value.agg.injEq,Array.mk.injEq,List.cons.injEq,and_true,true_and] at he;subst he;exact⟨_,rfl,h1⟩
theorem evtf_O {w:World} {base:Nat} {F:Nat→Prop} {v:Value} {x:Evt}:evtfR.O w base F v x↔evtR.O w base F v x:=by
 constructor
 ·rintro⟨u1,F1,rfl,h1,hF⟩;exact⟨u1,F,rfl,⟨u1,F1,rfl,h1,hF⟩,fun _=>Iff.rfl⟩
 rintro⟨u1,F1,rfl,⟨u2,F2,he,h1,h2⟩,hF⟩;simp only[Value.agg.injEq,Array.mk.injEq,List.cons.injEq,and_true,true_and] at he;subst he;exact⟨_,F2,rfl,h1,fun b=>(hF b).trans (h2 b)⟩
def evtsR:Rep (List Evt):=nRep evtfR 59 4 fJf
theorem xC {w:World} {v:Value} {xs:List Evt} (h:evtsR.V w v xs):∃a c,v =.slice a xs.length c:=by
 obtain⟨a,c,rfl,_⟩:=h;exact⟨_,_,rfl⟩
theorem fP8:(Tryz.prog.info? 59).map (fun i=>(i.zero,i.size,i.bytes))=some (some (.agg #[.bool false,.int .i64 0,.slice none 0 0,.int .i64 0]),4,48):=kF
end
end Go.Proofs.YtpibfdebfacooaaGreat

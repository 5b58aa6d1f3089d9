import Derived.Test.YtbfnobcidnmohaaGreatPrnSafeClusterLaw30
import Derived.Ground.SlsfProg
import Derived.Shelf.SlSortCmp.NoneTotal
import Derived.Deep.Slices
import Derived.Deep.Strs
set_option maxHeartbeats 8000000
set_option maxRecDepth 20000
set_option linter.unusedSimpArgs false
set_option linter.unusedVariables false
set_option linter.unusedSectionVars false
namespace Go.Proofs.YtbfnobcidnmohaaGreat
open Go.RowKit
variable [dQ Leg] [iH Leg] [dQ Cont] [iH Cont] [dQ Bal] [iH Bal] [dQ Mrk] [iH Mrk] [dQ Shd] [iH Shd] [dQ Vot] [iH Vot] [dQ Slt] [iH Slt] [dQ Acc] [iH Acc] [dQ Trr] [iH Trr] [dQ Hrd] [iH Hrd] [dQ Ldr] [iH Ldr] [dQ Msg] [iH Msg] [dQ Clu] [iH Clu] [dQ Ledg] [iH Ledg] [dQ SltR] [iH SltR] [dQ AccR] [iH AccR] [dQ AccsR] [iH AccsR] [dQ SltsR] [iH SltsR] [dQ Rw] [iH Rw] [dQ LedgR] [iH LedgR] [dQ OutcR] [iH OutcR] [dQ ShdR] [iH ShdR] [dQ CluR] [iH CluR]
attribute [local go_sem ↓] Go.wp_at_zero Go.wp_at_succ
theorem fSj (c:Clu) (l:Cont) (B:Nat) (item:Value) (w:World) (R:Bool) (a0 a1 a2 a3 a4:Option Addr) (n0 n1 n2 n3 n4 c0 c1 c2 c3 c4:Nat) (hY:w.cell? ⟨B,0,none⟩=some (.slice a0 n0 c0)∧w.cell? ⟨B,1,none⟩=some (.slice a1 n1 c1)∧w.cell? ⟨B,2,none⟩=some (.slice a2 n2 c2)∧w.cell? ⟨B,3,none⟩=some (.slice a3 n3 c3)∧w.cell? ⟨B,4,none⟩=some (.slice a4 n4 c4)) (hi:contR.V w item l)
  (hp:∀W,Below w.heap.size w W→RI 35 #[.agg #[.slice a0 n0 c0,.slice a1 n1 c1,.slice a2 n2 c2,.slice a3 n3 c3,.slice a4 n4 c4],item] W (.bool R)) :
  RI 34 #[item,.pointer (some ⟨B,0,none⟩)] w (.bool (!R)):=by
 obtain⟨y0,y1,y2,y3,y4⟩:=hY;have zB:B<w.heap.size:=wL w _ y0;have HP:Hid _:=hp;clear hp;obtain⟨u,rfl,hl⟩:=hi;obtain⟨p,q,rfl⟩:=mM hl;generalize l.legs.length=ml at *;generalize l.id=id at *;clear hl;go_enter Tryz.func34,Tryz.ntmps34;go_wp2_with fail;refine(HP.out _ qBq).mono ?_;rintro e w1 ⟨rfl,hb1⟩;have hB1:Below w.heap.size w w1:=qBq;clear hb1 HP;cases R;all_goals
  go_wp2;go_ret;exact⟨rfl,hB1⟩
theorem fQ0 {α:Type} (f:α→Bool):∀xs:List α,(!(xs.any (fun x=>!f x)))=xs.all f
 | []=>rfl
 | x::r=>by
  have:=fQ0 f r;simp only[List.any_cons,List.all_cons,Bool.not_or,Bool.not_not,this]
theorem fIl (hSV:SortsV) (x:Value) (c:Clu) (ysf:Int→Int→List Vot) (w:World) (hx:cluR.V w x c) (hys:∀i s,freC c.accs i s=0→Chs (fQ c.accs i s) (ysf i s)) (hneed:∀k,k<c.ldrs.length→∀i,i<(c.ldrs.getD k default).tries.length→((c.ldrs.getD k default).tries.getD i default).frm.length≤1048576) :
  RI 8 #[x] w (.bool (fDe c ysf)):=by
 have HF:Hid (bW w fun W=>RI 32 #[x] W (.int .i64 (cluF c))):=fun W hW=>fIk x c W (cluR.below hx hW) hneed
 have HV:Hid (bW w fun W=>cluR.V W x c):=fun W hW=>cluR.below hx hW
 have hx':=hx;obtain⟨a0,a1,a2,a3,a4,c0,c1,c2,c3,c4,n0,n1,n2,n3,n4,rfl,e0,e1,e2,e3,e4,L0,L1,L2,L3,L4⟩:=gP hx;obtain⟨u1,u2,u3,u4,u5,eq,h1,h2,h3,h4,h5⟩:=hx';simp only[Value.agg.injEq,Array.mk.injEq,List.cons.injEq,and_true] at eq;obtain⟨rfl,rfl,rfl,rfl,rfl⟩:=eq;have eg:=enters_of Tryz.func34 kF rfl;have HCC:Hid (cluF c=0→∀(W:World),Below w.heap.size w W→(W.cell? ⟨w.heap.size,0,none⟩=some (.slice a0 n0 c0)∧W.cell? ⟨w.heap.size,1,none⟩=some (.slice a1 n1 c1)∧W.cell? ⟨w.heap.size,2,none⟩=some (.slice a2 n2 c2)∧W.cell? ⟨w.heap.size,3,none⟩=some (.slice a3 n3 c3)∧W.cell? ⟨w.heap.size,4,none⟩=some (.slice a4 n4 c4))→RI 33 #[.slice a0 n0 c0,.func (.func 34) #[] #[.pointer (some ⟨w.heap.size,0,none⟩)]] W (.bool (c.cons.any (fun l=>!fAi c ysf l)))):=fun h0 W hW hY=>yJ 34 _ (fun l=>!fAi c ysf l) _ c.cons W (contsR.below h1 hW) eg (fun k W' hk hW' item hi=>fSj c _ _ item W' _ a0 a1 a2 a3 a4 n0 n1 n2 n3 n4 c0 c1 c2 c3 c4 (ykeep hW' hY) hi (fun W2 hW2=>fPm hSV _ item c _ ysf W2 (HV.out W2 (bS (bS hW hW') hW2)) (contR.below hi hW2) (yQ h0 hk).1 (zM h0) (yQ h0 hk).2 (fun k' hk'=>fRe h0 hk') (fun s hs=>hys _ s hs)))
 have H0:Hid (¬cluF c=0→fDe c ysf=false):=fun h=>by unfold fDe;rw[decide_eq_false h];rfl
 have H1:Hid (cluF c=0→fDe c ysf = !(c.cons.any (fun l=>!fAi c ysf l))):=fun h=>by unfold fDe;rw[decide_eq_true h,Bool.true_and,fQ0]
 clear hx h1 h2 h3 h4 h5 hneed hys e0 e1 e2 e3 e4 L0 L1 L2 L3 L4 eg HV;generalize fDe c ysf=R at *;generalize c.cons.any (fun l=>!fAi c ysf l)=A at *;generalize cluF c=cf at *;go_enter Tryz.func8,Tryz.ntmps8;go_wp2_with fail;refine(HF.out _ qBq).mono ?_;rintro e w1 ⟨rfl,hb1⟩;have hB1:Below w.heap.size w w1:=qBq;have y0:w1.cell? ⟨w.heap.size,0,none⟩=some (.slice a0 n0 c0):=cK hb1 sG;have y1:w1.cell? ⟨w.heap.size,1,none⟩=some (.slice a1 n1 c1):=cK hb1 sG;have y2:w1.cell? ⟨w.heap.size,2,none⟩=some (.slice a2 n2 c2):=cK hb1 sG;have y3:w1.cell? ⟨w.heap.size,3,none⟩=some (.slice a3 n3 c3):=cK hb1 sG;have y4:w1.cell? ⟨w.heap.size,4,none⟩=some (.slice a4 n4 c4):=cK hb1 sG;clear hb1 HF;by_cases hcf:cf=0;rotate_left
 ·
  have HC:Hid _:=H0.out hcf;have hcf':(cf !=0)=true:=by simp[hcf]
  clear H0 H1 HCC;go_wp2;go_ret;exact⟨rH,hB1⟩
 have HC:Hid _:=H1.out hcf;have HC2:Hid _:=HCC.out hcf;clear H0 H1 HCC;subst hcf;go_wp2_with fail;refine(HC2.out _ qBq ⟨by first|exact y0|exact cK qBq y0,by first|exact y1|exact cK qBq y1,by first|exact y2|exact cK qBq y2,by first|exact y3|exact cK qBq y3,by first|exact y4|exact cK qBq y4⟩).mono ?_;rintro e w2 ⟨rfl,hb2⟩;have hB2:=bT w hb2;clear hb2 HC2;cases A;all_goals
  go_wp2;go_ret;exact⟨rH,hB2⟩
end Go.Proofs.YtbfnobcidnmohaaGreat
namespace Go.Proofs.YtbfnobcidnmohaaGreat
open Go.Shelf
def Tryz.sortV_ren:Go.Shelf.Ren:=⟨fun|6=>286|15=>257|14=>310|28=>302|29=>303|20=>326|21=>327|22=>328|23=>329|24=>330|25=>331|26=>332|27=>333|46=>340|47=>312|48=>313|49=>341|50=>342|57=>344|n=>n,fun|22=>133|24=>126|25=>346|3=>3|39=>330|0=>0|53=>360|55=>362|4=>4|46=>354|45=>353|50=>251|5=>5|9=>9|66=>368|70=>372|76=>385|77=>386|n=>n,fun|n=>n⟩
theorem Tryz.sortV:Go.Proofs.SlLaysF0.n6 Tryz.prog Tryz.sortV_ren:={
 mixed:=kF
 f6:=⟨Tryz.f286.name,by decide,Tryz.func286.trans (congrArg some kF)⟩
 f14:=⟨Tryz.f310.name,by decide,Tryz.func310.trans (congrArg some kF)⟩
 f15:=Tryz.func257.trans (congrArg some kF)
 f20:=⟨Tryz.f326.name,by decide,Tryz.func326.trans (congrArg some kF)⟩
 f21:=⟨Tryz.f327.name,by decide,Tryz.func327.trans (congrArg some kF)⟩
 f22:=⟨Tryz.f328.name,by decide,Tryz.func328.trans (congrArg some kF)⟩
 f23:=⟨Tryz.f329.name,by decide,Tryz.func329.trans (congrArg some kF)⟩
 f24:=⟨Tryz.f330.name,by decide,Tryz.func330.trans (congrArg some kF)⟩
 f25:=⟨Tryz.f331.name,by decide,Tryz.func331.trans (congrArg some kF)⟩
 f26:=⟨Tryz.f332.name,by decide,Tryz.func332.trans (congrArg some kF)⟩
 f27:=⟨Tryz.f333.name,by decide,Tryz.func333.trans (congrArg some kF)⟩
 f28:=Tryz.func302.trans (congrArg some kF)
 f29:=Tryz.func303.trans (congrArg some kF)
 f46:=⟨Tryz.f340.name,by decide,Tryz.func340.trans (congrArg some kF)⟩
 f47:=Tryz.func312.trans (congrArg some kF)
 f48:=Tryz.func313.trans (congrArg some kF)
 f49:=⟨Tryz.f341.name,by decide,Tryz.func341.trans (congrArg some kF)⟩
 f50:=⟨Tryz.f342.name,by decide,Tryz.func342.trans (congrArg some kF)⟩
 f57:=⟨Tryz.f344.name,by decide,Tryz.func344.trans (congrArg some kF)⟩
 t0:=Tryz.underlying0
 a0:=Tryz.isAgg0
 z0:=Tryz.sizeOf0
 v0:=Tryz.zeroValue0
 t3:=Tryz.underlying3
 a3:=Tryz.isAgg3
 z3:=Tryz.sizeOf3
 v3:=Tryz.zeroValue3
 t4:=Tryz.underlying4
 a4:=Tryz.isAgg4
 z4:=Tryz.sizeOf4
 v4:=Tryz.zeroValue4
 t5:=Tryz.underlying5
 a5:=Tryz.isAgg5
 z5:=Tryz.sizeOf5
 v5:=Tryz.zeroValue5
 t9:=Tryz.underlying9
 a9:=Tryz.isAgg9
 z9:=Tryz.sizeOf9
 v9:=Tryz.zeroValue9
 t22:=Tryz.underlying133
 a22:=Tryz.isAgg133
 z22:=Tryz.sizeOf133
 v22:=Tryz.zeroValue133
 t25:=Tryz.underlying346
 a25:=Tryz.isAgg346
 z25:=Tryz.sizeOf346
 v25:=Tryz.zeroValue346
 t39:=Tryz.underlying330
 a39:=Tryz.isAgg330
 z39:=Tryz.sizeOf330
 v39:=Tryz.zeroValue330
 t45:=Tryz.underlying353
 a45:=Tryz.isAgg353
 z45:=Tryz.sizeOf353
 v45:=Tryz.zeroValue353
 t46:=Tryz.underlying354
 a46:=Tryz.isAgg354
 z46:=Tryz.sizeOf354
 v46:=Tryz.zeroValue354
 t50:=Tryz.underlying251
 a50:=Tryz.isAgg251
 z50:=Tryz.sizeOf251
 v50:=Tryz.zeroValue251
 t53:=Tryz.underlying360
 a53:=Tryz.isAgg360
 z53:=Tryz.sizeOf360
 v53:=Tryz.zeroValue360
 t55:=Tryz.underlying362
 a55:=Tryz.isAgg362
 z55:=Tryz.sizeOf362
 v55:=Tryz.zeroValue362
 t66:=Tryz.underlying368
 a66:=Tryz.isAgg368
 z66:=Tryz.sizeOf368
 v66:=Tryz.zeroValue368
 t70:=Tryz.underlying372
 a70:=Tryz.isAgg372
 z70:=Tryz.sizeOf372
 v70:=Tryz.zeroValue372
 t76:=Tryz.underlying385
 a76:=Tryz.isAgg385
 z76:=Tryz.sizeOf385
 v76:=Tryz.zeroValue385
 t77:=Tryz.underlying386
 a77:=Tryz.isAgg386
 z77:=Tryz.sizeOf386
 v77:=Tryz.zeroValue386}
end Go.Proofs.YtbfnobcidnmohaaGreat
namespace Go.Proofs.YtbfnobcidnmohaaGreat
open Go.RowKit Go.Sort Go.Shelf
variable [dQ Vot] [iH Vot] [dQ Slt] [iH Slt] [dQ SltR] [iH SltR] [dQ Bal] [iH Bal] [dQ Ledg] [iH Ledg] [dQ Leg] [iH Leg]
theorem fX1:SortsV where
 some_:=fun xs g cap base W ho hb hn=>fSv Tryz.sortV_ren Tryz.sortV rfl rfl xs g cap base W ho hb hn
 none_:=fun W=>AnyF.slices_SortFunc_none Tryz.sortV none 0 (.func (.func 287) #[] #[]) W
end Go.Proofs.YtbfnobcidnmohaaGreat
namespace Go.Proofs.YtbfnobcidnmohaaGreat
open Go.ChangeShapes Go.WideShapes Go.ChangeAt Go.RowKit Go.Joins
theorem fSw {W:World} {base k:Nat} {a:Addr} {cs:List Value} (hk:0<k) (hc:W.cells? base a k=some cs):a.spot=none:=by
 obtain⟨hb,hl,hcell⟩:=World.cells?_some hc;have q0:=hcell 0 hk;obtain⟨b,o,s⟩:=a;cases s with
 | none=>rfl
 | some s=>
  have:0<cs.length:=oM;simp[Addr.add,World.cell?,this] at q0;split at q0 <;> simp at q0
theorem add_plain (b o i:Nat):(Addr.mk b o none).add i=⟨b,o+i,none⟩:=by
 by_cases h:i=0
 ·subst h;simp[Addr.add]
 simp[Addr.add,h]
theorem xM {H:Type} {enc:TypeId × Value→H} {W:World} {sp:Nat→Bool} {held:Bool} {n:Nat} {v:Value} {y:DataW H × List MemPlace} {t e size:Nat} {α:Type} [Inhabited α] {q:List Value→α→Prop}
  (ht:Tryz.prog.underlying t=some (.slice e)) (hz:Tryz.prog.cellsOf e=size) (hs:0<size)
  (hq:∀n cs y,DataW.trod enc Tryz.prog W 0 sp held n e cs=some y→cs.length=size→∃x,q cs x) (h:DataW.trod enc Tryz.prog W 0 sp held n t [v]=some y) :
  ∃(a:Option Addr) (cap:Nat) (xs:List α) (cs:Nat→List Value),v =.slice a xs.length cap∧xs.length≤cap∧cap≤maxLen∧∀i,i<xs.length→q (cs i) (xs.getD i default)∧(cs i).length=size∧∃b o,a=some ⟨b,o,none⟩∧∀j,j<size→W.cell? ⟨b,o+i*size+j,none⟩=(cs i)[j]?:=by
 rcases Go.Deep.open_slice ht h with ⟨hcs,_⟩|⟨a,len,cap,m,n',D,Pl,hcs,hb,hl,hm,hmm,_,hc⟩
 ·simp at hcs;subst hcs;exact⟨none,0,[],fun _=>[],rfl,by simp,by unfold maxLen;omega,fun i hi=>by simp at hi⟩
 simp at hcs;subst hcs;have hlm:len≤m:=by rw[hmm];split <;> omega
 rw[hz] at hc;have h1:∀i,i<len→∃z:List Value × α,q z.1 z.2∧z.1.length=size∧∃b o,a=⟨b,o,none⟩∧∀j,j<size→W.cell? ⟨b,o+i*size+j,none⟩=z.1[j]?:=by
  intro i hi;obtain⟨cs',h1,h2⟩:=hc i oM;obtain⟨_,hl',hcell⟩:=World.cells?_some h1;obtain⟨x,hx⟩:=hq _ _ _ h2 hl';obtain⟨cs0,k1,_⟩:=hc 0 oM;have hsp:=fSw hs k1;obtain⟨b,o,s⟩:=a;have hs0:s=none:=by simpa [Addr.add] using hsp
  subst hs0;refine⟨(cs',x),hx,hl',b,o,rfl,fun j hj=>?_⟩;have:=hcell j hj;rw[add_plain,add_plain] at this;exact this
 obtain⟨f,hf⟩:=Go.Deep.choose_lt h1;refine⟨some a,cap,(List.range len).map (fun i=>(f i).2),fun i=>(f i).1,by simp,by simpa using hl,hm,fun i hi=>?_⟩;simp at hi;obtain⟨g1,g2,b,o,rfl,g3⟩:=hf i hi;have e:(List.map (fun i=>(f i).2) (List.range len)).getD i default=(f i).2:=by simp[List.getD,hi]
 rw[e];exact⟨g1,g2,b,o,rfl,g3⟩
theorem fP7 {H:Type} {enc:TypeId × Value→H} {W:World} {sp:Nat→Bool} {held:Bool} {n:Nat} {v:Value} {y:DataW H × List MemPlace} {t e size:Nat} {α:Type} [Inhabited α] {R:Rep α} {te:Nat} {lv:Value→List Value}
  (ht:Tryz.prog.underlying t=some (.slice e)) (hz:Tryz.prog.cellsOf e=size) (hs:0<size)
  (hq:∀n cs y,DataW.trod enc Tryz.prog W 0 sp held n e cs=some y→cs.length=size→∃x u,lv u=cs∧R.V W u x) (h:DataW.trod enc Tryz.prog W 0 sp held n t [v]=some y) :
  ∃xs:List α,(nRep R te size lv).V W v xs:=by
 obtain⟨a,cap,xs,cs,rfl,h1,h2,h3⟩:=xM (q:=fun cs x=>∃u,lv u=cs∧R.V W u x) ht hz hs hq h;refine⟨xs,a,cap,rfl,h1,h2,fun i hi=>?_⟩;obtain⟨⟨u,g1,g2⟩,g3,b,o,g4,g5⟩:=h3 i hi;exact⟨b,o,u,g4,by rw[g1];exact g3,fun j hj=>by rw[g1];exact g5 j hj,g2⟩
variable [dQ Leg] [iH Leg] [dQ Cont] [iH Cont]
theorem fCj:Tryz.prog.cellsOf 2=1:=kF
theorem fQ8:Tryz.prog.cellsOf 283=4:=kF
theorem fU0 {H:Type} {enc:TypeId × Value→H} {W:World} {sp:Nat→Bool} {held:Bool} {n:Nat} {cs:List Value} {y:DataW H × List MemPlace}
  (ht:DataW.trod enc Tryz.prog W 0 sp held n 283 cs=some y) (hl:cs.length=4):∃x:Leg,cs=legC x:=by
 obtain⟨y0,y1,y2,y3,m,hy,hlen,h0,h1,h2,h3⟩:=trod_struct4 Tryz.underlying283 ht;simp only[fCj] at h0 h1 h2 h3;match cs,hl with
 | [c0,c1,c2,c3],_=>
  obtain⟨x0,e0,_⟩:=DataW.trod_int Tryz.underlying2 h0;obtain⟨x1,e1,_⟩:=DataW.trod_int Tryz.underlying2 h1;obtain⟨x2,e2,_⟩:=DataW.trod_int Tryz.underlying2 h2;obtain⟨x3,e3,_⟩:=DataW.trod_int Tryz.underlying2 h3;simp at e0 e1 e2 e3;subst e0 e1 e2 e3;exact⟨⟨x0,x1,x2,x3⟩,rfl⟩
theorem fSe {H:Type} {enc:TypeId × Value→H} {W:World} {sp:Nat→Bool} {held:Bool} {n:Nat} {v:Value} {y:DataW H × List MemPlace}
  (ht:DataW.trod enc Tryz.prog W 0 sp held n 106 [v]=some y):∃xs:List Leg,legsR.V W v xs:=by
 obtain⟨a,cap,xs,cs,rfl,h1,h2,h3⟩:=xM (q:=fun cs x=>cs=legC x) Tryz.underlying106 fQ8 oM (fun n cs y h hl=>fU0 h hl) ht;refine⟨xs,a,cap,rfl,h1,h2,fun i hi=>?_⟩;obtain⟨g1,g3,b,o,g4,g5⟩:=h3 i hi;rw[g1] at g5;exact⟨b,o,g4,g5 0 oM,g5 1 oM,g5 2 oM,g5 3 oM⟩
variable [dQ Bal] [iH Bal] [dQ Ledg] [iH Ledg]
theorem fTo:Tryz.prog.cellsOf 262=3:=kF
theorem fWu {H:Type} {enc:TypeId × Value→H} {W:World} {sp:Nat→Bool} {held:Bool} {n:Nat} {cs:List Value} {y:DataW H × List MemPlace}
  (ht:DataW.trod enc Tryz.prog W 0 sp held n 262 cs=some y) (hl:cs.length=3):∃x:Bal,cs=balC x:=by
 obtain⟨y0,y1,y2,m,hy,hlen,h0,h1,h2⟩:=Go.Deep.trod_struct3 Tryz.underlying262 ht;simp only[fCj] at h0 h1 h2;match cs,hl with
 | [c0,c1,c2],_=>
  obtain⟨x0,e0,_⟩:=DataW.trod_int Tryz.underlying2 h0;obtain⟨x1,e1,_⟩:=DataW.trod_int Tryz.underlying2 h1;obtain⟨x2,e2,_⟩:=DataW.trod_int Tryz.underlying2 h2;simp at e0 e1 e2;subst e0 e1 e2;exact⟨⟨x0,x1,x2⟩,rfl⟩
theorem fUv {H:Type} {enc:TypeId × Value→H} {W:World} {sp:Nat→Bool} {held:Bool} {n:Nat} {v:Value} {y:DataW H × List MemPlace}
  (ht:DataW.trod enc Tryz.prog W 0 sp held n 110 [v]=some y):∃xs:List Bal,balsR.V W v xs:=by
 obtain⟨a,cap,xs,cs,rfl,h1,h2,h3⟩:=xM (q:=fun cs x=>cs=balC x) Tryz.underlying110 fTo oM (fun n cs y h hl=>fWu h hl) ht;refine⟨xs,a,cap,rfl,h1,h2,fun i hi=>?_⟩;obtain⟨g1,g3,b,o,g4,g5⟩:=h3 i hi;rw[g1] at g5;exact⟨b,o,g4,g5 0 oM,g5 1 oM,g5 2 oM⟩
theorem fAg {H:Type} {enc:TypeId × Value→H} {W:World} {sp:Nat→Bool} {held:Bool} {n:Nat} {v:Value} {y:DataW H × List MemPlace}
  (ht:DataW.trod enc Tryz.prog W 0 sp held n 22 [v]=some y):∃xs,contsR.V W v xs:=by
 refine fP7 Tryz.underlying22 kF oM (fun n cs y h hl=>?_) ht;obtain⟨y0,y1,m,hy,hlen,h0,h1⟩:=trod_struct2 Tryz.underlying108 h;have hz:Tryz.prog.cellsOf 106=1:=kF;match cs,hl with
 | [c0,c1],_=>
  simp only[fCj,hz] at h0 h1;obtain⟨x0,e0,_⟩:=DataW.trod_int Tryz.underlying2 h0;simp at e0;subst e0;obtain⟨xs,hx⟩:=fSe h1;exact⟨⟨x0,xs⟩,.agg #[.int .i64 x0,c1],rfl,c1,rfl,hx⟩
end Go.Proofs.YtbfnobcidnmohaaGreat
namespace Go.Proofs.YtbfnobcidnmohaaGreat
open Go.ChangeShapes Go.WideShapes Go.ChangeAt Go.RowKit Go.Joins
variable [dQ Leg] [iH Leg]
theorem fQ9:Tryz.prog.cellsOf 2=1:=kF
theorem fXw {H:Type} {enc:TypeId × Value→H} {W:World} {sp:Nat→Bool} {held:Bool} {n:Nat} {cs:List Value} {y:DataW H × List MemPlace}
  (ht:DataW.trod enc Tryz.prog W 0 sp held n 2 cs=some y) (hl:cs.length=1):∃x:Int,cs=[.int .i64 x]:=by
 match cs,hl with
 | [c],_=>
  obtain⟨x,e,_⟩:=DataW.trod_int Tryz.underlying2 ht;simp at e;exact⟨x,by rw[e]⟩
theorem fSf {H:Type} {enc:TypeId × Value→H} {W:World} {sp:Nat→Bool} {held:Bool} {n:Nat} {v:Value} {y:DataW H × List MemPlace}
  (ht:DataW.trod enc Tryz.prog W 0 sp held n 61 [v]=some y):∃xs:List Int,intsR.V W v xs:=by
 obtain⟨a,cap,xs,cs,rfl,h1,h2,h3⟩:=xM (q:=fun cs x=>cs=[.int .i64 x]) Tryz.underlying61 fQ9 oM (fun n cs y h hl=>fXw h hl) ht;refine⟨xs,a,cap,rfl,h1,h2,fun i hi=>?_⟩;obtain⟨g1,g3,b,o,g4,g5⟩:=h3 i hi;rw[g1] at g5;have h:=g5 0 oM;exact⟨b,o,g4,by simpa [List.getD] using h⟩
end Go.Proofs.YtbfnobcidnmohaaGreat

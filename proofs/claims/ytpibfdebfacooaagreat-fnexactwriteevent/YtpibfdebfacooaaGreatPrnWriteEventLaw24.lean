import Derived.Test.YtpibfdebfacooaaGreatPrnWriteEventLaw23
set_option maxHeartbeats 16000000
set_option maxRecDepth 20000
set_option linter.all false
namespace Go.Proofs.YtpibfdebfacooaaGreat
open Go.RowKit
attribute [local go_sem ↓] Go.wp_at_zero Go.wp_at_succ
attribute [local go_sem] cW cI ah cN iV aj
section
variable [dQ Rw] [iH Rw] [dQ Bal] [iH Bal] [dQ Ledg] [iH Ledg] [dQ Leg] [iH Leg] [dQ Cont] [iH Cont] [dQ LedgR] [iH LedgR] [dQ OutcR] [iH OutcR] [dQ Mrk] [iH Mrk] [dQ Shd] [iH Shd] [dQ ShdR] [iH ShdR]
theorem fWm (w:World) {ops:Array Oper} {rest:List Oper} {o:Oper} {a:Act} {Q:Exit→Act→World→Prop} (hgd:o.guard=none) (s x:Operand)
  (ho:o.op =.call {callee:=.builtin .append,args:=#[s,x],argTypes:=#[38,38]})
  (base:Nat) (F Fu:Nat→Prop) (v:Value) (xs:List Cont) (y:Cont) (g:Nat) (p:Option Addr) (q:Nat) (hs:a.eval s=v) (hx:a.eval x =.slice (some ⟨g,0,none⟩) 1 1) (hown:contsR.O w base F v xs) (hu:contR.O w base Fu (.agg #[iV y.id,.slice p y.legs.length q]) y) (hd:∀b,F b→¬Fu b)
  (hc:w.cell? ⟨g,0,none⟩=some (iV y.id)∧w.cell? ⟨g,1,none⟩=some (.slice p y.legs.length q)) (hn:xs.length≤2000000) (hbase:base≤w.heap.size)
  (h:∀v' w' F',contsR.O w' base F' v' (xs++[y])→Mod F w w'→(∀b,F' b→F b∨Fu b∨w.heap.size≤b)→wpList Tryz.prog ops Q rest (a.put o.dst v') w'):wpList Tryz.prog ops Q (o::rest) a w:=by
 obtain⟨r,A,k,l,m⟩:=info_parts rQ;obtain⟨v',w',F',B,h2,C,D⟩:=fKh w 38 o.type 57 r _ 2 32 Tryz.underlying38 A k l m rfl (by decide) (by decide) base v _ xs y hown hu rfl (fun z n=>by
  simp[kS,one] at n;rcases n with rfl|rfl <;> rfl) hd ⟨g,0,none⟩ 1 (fun j E d=>by
  match j,d with
  | 0,d=>simp[kS,one] at d;subst d;simpa [Addr.add] using hc.1
  | 1,d=>simp[kS,one] at d;subst d;simpa [Addr.add] using hc.2
  | j+2,d=>simp[kS,one] at d) hn hbase
 exact fQ6 hgd s x 38 38 ho v _ hs hx B (h v' w' F' h2 ((Mod.of_grown C).mono (fun b e=>fEv hown e)) D)
def fCc (d:Shd) (k o:Int) (j:Nat):Bool:=decide (o=1)&&fP (d.held.take j) k
def dJ (d:Shd) (k o:Int) (j:Nat):Shd:=⟨d.idx,if fCc d k o j=true then addB d.bals (onSh d.idx (vS k d.held)) else d.bals,d.votes,kU k (d.held.take j),putM d.done ⟨k,o⟩,if fCc d k o j=true then d.appl++[k] else d.appl⟩
theorem fY9 (d:Shd) (k o:Int):dJ d k o 0=⟨d.idx,d.bals,d.votes,[],putM d.done ⟨k,o⟩,d.appl⟩:=by
 have h:fCc d k o 0=false:=by unfold fCc fP;simp
 unfold dJ;rw[h];rfl
theorem fGi {hs:List Cont} {j:Nat} (hj:j<hs.length):hs.take (j+1)=hs.take j++[hs.getD j default]:=by rw[List.take_add_one];simp[List.getD,hj]
theorem fW8 {d:Shd} {k o:Int} {j:Nat} (hj:j<d.held.length) (h:¬(d.held.getD j default).id=k):dJ d k o (j+1)=⟨d.idx,(dJ d k o j).bals,d.votes,kU k (d.held.take j)++[d.held.getD j default],putM d.done ⟨k,o⟩,(dJ d k o j).appl⟩:=by
 have e:fCc d k o (j+1)=fCc d k o j:=by
  unfold fCc;rw[fA9 hj,decide_eq_false h,Bool.or_false]
 have g:kU k (d.held.take (j+1))=kU k (d.held.take j)++[d.held.getD j default]:=by
  unfold kU;rw[fGi hj,List.filter_append,List.filter_cons_of_pos (by simp only[Bool.not_eq_true',beq_eq_false_iff_ne];exact h)];rfl
 unfold dJ;rw[e,g]
theorem fId {d:Shd} {k:Int} {j:Nat} (hj:j<d.held.length) (h:(d.held.getD j default).id=k):kU k (d.held.take (j+1))=kU k (d.held.take j):=by
 unfold kU;rw[fGi hj,List.filter_append,List.filter_cons_of_neg (by simp only[h];simp)];simp
theorem fZ7 {d:Shd} {k o:Int} {j:Nat} (hj:j<d.held.length) (h:(d.held.getD j default).id=k) (ho:¬o=1):dJ d k o (j+1)=dJ d k o j:=by
 have e:∀i,fCc d k o i=false:=fun i=>by unfold fCc;rw[decide_eq_false ho];rfl
 unfold dJ;rw[e,e,fId hj h]
theorem fZ8 {d:Shd} {k o:Int} {j:Nat} (hr:∀i j,i<j→j<d.held.length→(d.held.getD i default).id<(d.held.getD j default).id) (hj:j<d.held.length) (h:(d.held.getD j default).id=k) (ho:o=1) :
  (dJ d k o j).bals=d.bals∧(dJ d k o j).appl=d.appl∧dJ d k o (j+1)=⟨d.idx,addB d.bals (onSh d.idx (d.held.getD j default).legs),d.votes,kU k (d.held.take j),putM d.done ⟨k,o⟩,d.appl++[k]⟩:=by
 have m:fP (d.held.take j) k=false:=by
  unfold fP;rw[List.any_eq_false];intro c n;obtain⟨i,g,e⟩:=List.mem_take_iff_getElem.1 n;have h1:=hr i j oM hj;have p:d.held.getD i default=c:=by rw[←e];simp[List.getD,show i<d.held.length by omega]
  rw[p,h] at h1;simp;omega
 have l:fCc d k o j=false:=by unfold fCc;rw[m,Bool.and_false]
 have q:fCc d k o (j+1)=true:=by unfold fCc;rw[fA9 hj,decide_eq_true h,decide_eq_true ho,Bool.or_true];rfl
 have r:vS k d.held=(d.held.getD j default).legs:=fFe hj h (fun i g=>by have:=hr i j g hj;rw[h] at this;exact this);refine⟨by unfold dJ;rw[l];rfl,by unfold dJ;rw[l];rfl,?_⟩;unfold dJ;rw[q,fId hj h,r];rfl
theorem fZ6 {d:Shd} {k o:Int} (hh:¬(o=1∧fP d.held k=false)):dJ d k o d.held.length=decS d k o:=by
 unfold dJ decS fCc;rw[List.take_length];by_cases g:o=1
 ·
  have h1:fP d.held k=true:=by
   cases e:fP d.held k with
   | true=>rfl
   | false=>exact absurd ⟨g,e⟩ hh
  rw[if_pos g,h1,decide_eq_true g];rfl
 rw[if_neg g,decide_eq_false g];rfl
theorem fOh (x:Value) (d:Shd) (k o:Int) (w:World) (hx:shdR.V w x d) (hok:ShdOk d) (ho12:o=1∨o=2) :
  cL 129 #[x,iV k,iV o] w (rJ w (qQ d k o)):=by
 have b6:Hid (bW w fun W=>RI 157 #[x,iV k] W (.bool (fP d.held k))):=fun W hW=>fBy x d k W (shdR.below hx hW)
 have aJ:Hid (bW w fun W=>cL 152 #[x] W fun e w'=>∃v F,e =.returned v∧shdR.O w' W.heap.size F v d∧aa W w'):=fun W hW=>fL0 x d W (shdR.below hx hW) ⟨by have:=fAg (pE hok.base).2;omega,by have:=hok.ls.nv;omega,by have:=hok.ls.nh;omega,by have:=hok.ls.nd;omega,by have:=hok.ls.na;omega⟩ (fun q hq=>by have:=hok.held.len hq;omega)
 have b1:Hid (∀W base F x,mrksR.O W base F x d.done→cL 156 #[x,iV k,iV o] W fun e w'=>∃u F',e =.returned u∧mrksR.O w' W.heap.size F' u (putM d.done ⟨k,o⟩)∧aa W w'):=fun W base F x h=>fL1 x d.done ⟨k,o⟩ base F W h (by have:=hok.ls.nd;omega)
 have aO:Hid (∀q,q<d.held.length→∀W v,contR.V W v (d.held.getD q default)→cL 155 #[v] W fun e w'=>∃u F,e =.returned u∧contR.O w' W.heap.size F u (d.held.getD q default)∧aa W w'):=fun q hq W v hv=>yV v _ W hv (by have:=hok.held.len hq;omega)
 have bl:Hid (ShdOk d):=hok;have d2:Hid (d.held.length≤100):=hok.ls.nh;have aP:Hid (∀j,j<d.held.length→¬(d.held.getD j default).id=k→dJ d k o (j+1)=⟨d.idx,(dJ d k o j).bals,d.votes,kU k (d.held.take j)++[d.held.getD j default],putM d.done ⟨k,o⟩,(dJ d k o j).appl⟩):=fun j hj h=>fW8 hj h
 have aQ:Hid (∀j,j<d.held.length→(d.held.getD j default).id=k→¬o=1→dJ d k o (j+1)=dJ d k o j):=fun j hj h h1=>fZ7 hj h h1
 have aR:Hid (∀j,j<d.held.length→(d.held.getD j default).id=k→o=1→(dJ d k o j).bals=d.bals∧(dJ d k o j).appl=d.appl∧dJ d k o (j+1)=⟨d.idx,addB d.bals (onSh d.idx (d.held.getD j default).legs),d.votes,kU k (d.held.take j),putM d.done ⟨k,o⟩,d.appl++[k]⟩):=fun j hj h h1=>fZ8 hok.held.rise hj h h1
 have aB:Hid (¬(o=1∧fP d.held k=false)→dJ d k o d.held.length=decS d k o):=fun h=>fZ6 h
 obtain⟨u1,u2,u3,u4,u5,rfl,h1,h2,h3,h4,h5⟩:=hx;have c9:Hid (∃a c,u3 =.slice a d.held.length c∧d.held.length≤c∧c≤maxLen∧∀k,k<d.held.length→∃b o p q,a=some ⟨b,o,none⟩∧w.cell? ⟨b,o+k*2,none⟩=some (iV (d.held.getD k default).id)∧w.cell? ⟨b,o+k*2+1,none⟩=some (.slice p (d.held.getD k default).legs.length q)∧contR.V w (.agg #[iV (d.held.getD k default).id,.slice p (d.held.getD k default).legs.length q]) (d.held.getD k default)):=qN h3;have ca:Hid (bW w fun W=>RI 153 #[u4,iV k] W (iV (fK k d.done))):=fun W hW=>uA u4 _ k W (mrksR.below h4 hW)
 obtain⟨a1,c1,rfl⟩:=fQ h1;obtain⟨a2,c2,rfl⟩:=fH h2;obtain⟨a3,c3,rfl⟩:=fM h3;obtain⟨a4,c4,rfl⟩:=fH h4;obtain⟨a5,c5,rfl⟩:=gL h5;obtain⟨_,_,e3,d3,aS,cb⟩:=c9.out;simp only[Value.slice.injEq,true_and] at e3;obtain⟨rfl,rfl⟩:=e3;unfold maxLen at aS;have HX:Hid (∀k,k<d.held.length→∃b o p q,a3=some ⟨b,o,none⟩∧w.cell? ⟨b,o+k*2,none⟩=some (iV (d.held.getD k default).id)∧w.cell? ⟨b,o+k*2+1,none⟩=some (.slice p (d.held.getD k default).legs.length q)∧contR.V w (.agg #[iV (d.held.getD k default).id,.slice p (d.held.getD k default).legs.length q]) (d.held.getD k default)):=cb;clear h1 h2 h3 h4 h5 c9 cb;have bm:Hid (¬fK k d.done=0→fK k d.done=o→qQ d k o=⟨0,0,d⟩):=fun h h1=>fI4 h h1
 have bn:Hid (¬fK k d.done=0→¬fK k d.done=o→qQ d k o=errH 7):=fun h h1=>fGk h h1
 have bo:Hid (fK k d.done=0→o=1∧fP d.held k=false→qQ d k o=errH 1):=fun h h1=>fI2 h h1
 have bp:Hid (fK k d.done=0→¬(o=1∧fP d.held k=false)→100≤d.done.length→qQ d k o=errH 2):=fun h h1 h2=>fI3 h h1 h2
 have bq:Hid (fK k d.done=0→¬(o=1∧fP d.held k=false)→¬100≤d.done.length→qQ d k o=⟨0,0,decS d k o⟩):=fun h h1 h2=>fQ1 h h1 h2
 have cc:Hid (¬(o=1∧fP d.held k=false)→o=1→fP d.held k=true):=fun h h1=>by
  cases e:fP d.held k with
  | true=>rfl
  | false=>exact absurd ⟨h1,e⟩ h
 clear hok;generalize cd:d.bals.length=n1 at *;generalize ce:d.votes.length=n2 at *;generalize cf:d.done.length=n4 at *;generalize cg:d.appl.length=n5 at *;have dr:Hid (d.bals.length=n1∧d.votes.length=n2∧d.done.length=n4∧d.appl.length=n5):=⟨cd,ce,cf,cg⟩;clear cd ce cf cg;obtain⟨n3,bK⟩:∃n3,n3=d.held.length:=⟨_,rfl⟩
 have ch:Hid (d.held.length=n3):=bK.symm;rw[←bK] at HX aO aP aQ aR aB d3 b6 aJ ⊢;clear bK;generalize qQ d k o=Z at *;generalize fK k d.done=fd at *;go_enter Tryz.func129,Tryz.ntmps129;go_wp2_with fail;refine(ca.out _ hE).mono ?_;rintro e w1 ⟨rfl,a0⟩;have b7:=bT w a0;have br:=a0.size;simp at br;have G:cI w1 w.heap.size 0 d.idx:=cK a0 sG;have H:ah w1 w.heap.size 1 a1 n1 c1:=cK a0 sG;have I:ah w1 w.heap.size 2 a2 n2 c2:=cK a0 sG;have J:ah w1 w.heap.size 3 a3 n3 c3:=cK a0 sG;have L:ah w1 w.heap.size 4 a4 n4 c4:=cK a0 sG;have M:ah w1 w.heap.size 5 a5 n5 c5:=cK a0 sG;have r:cI w1 (w.heap.size+1) 0 0:=cK a0 sG;have s:cI w1 (w.heap.size+1) 1 0:=cK a0 sG;have y:cI w1 (w.heap.size+1) 2 0:=cK a0 sG;have z:cN w1 (w.heap.size+1) 3:=cK a0 sG;have A:cN w1 (w.heap.size+1) 4:=cK a0 sG;have B:cN w1 (w.heap.size+1) 5:=cK a0 sG;have C:cN w1 (w.heap.size+1) 6:=cK a0 sG;have D:cN w1 (w.heap.size+1) 7:=cK a0 sG;have R:aq w1 (w.heap.size+1):=ap a0;clear a0 ca;by_cases aK:fd=0;rotate_left
 ·
  have ci:(fd !=0)=true:=by simp[aK]
  by_cases bs:fd=o
  rotate_left
  ·
   have HC:Hid (Z=errH 7):=bn.out aK bs;have cj:(fd !=o)=true:=by simpa using bs
   clear bm bn bo bp bq b6 aJ b1 aO aP aQ aR aB;go_wp2;refine bodyPost_ret (v:=.agg #[iV 7,iV 0,iV 0,aj,aj,aj,aj,aj]) (by simp[results,Tryz.results129,go_sem,r,s,y,z,A,B,C,D,R]) rfl (mO HC.out ?_);exact qS
  have HC:Hid (Z=⟨0,0,d⟩):=bm.out aK bs;have cj:(fd !=o)=false:=by simpa using bs
  clear bm bn bo bp bq b6 b1 aO aP aQ aR aB;go_wp2_with fail;refine(aJ.out _ b7).mono ?_;rintro e g ⟨v3,F3,rfl,o3,ax⟩;obtain⟨s1,U,s3,s4,s5,f1,X,f3,f4,f5,rfl⟩:=mW o3;obtain⟨m1,b8⟩:∃m,m=d.bals.length:=⟨_,rfl⟩
  obtain⟨Y,aT⟩:∃m,m=d.votes.length:=⟨_,rfl⟩
  obtain⟨m3,aS⟩:∃m,m=d.held.length:=⟨_,rfl⟩
  obtain⟨m4,b9⟩:∃m,m=d.done.length:=⟨_,rfl⟩
  obtain⟨N,ba⟩:∃m,m=d.appl.length:=⟨_,rfl⟩
  rw[←b8,←aT,←aS,←b9,←ba] at o3 ⊢;have aF:Hid (shdR.O g w1.heap.size F3 (.agg #[iV d.idx,.slice s1 m1 f1,.slice U Y X,.slice s3 m3 f3,.slice s4 m4 f4,.slice s5 N f5]) d):=o3;clear o3 b8 aT aS b9 ba;have bL:aa w g:=bS b7 ax;refine kR8 ax ?_ r s y z A B C D;clear r s y z A B C D;intro r s y z A B C D;replace R:=ai ax oM R;clear ax aJ;go_wp2;refine bodyPost_ret (v:=.agg #[iV 0,iV 0,iV d.idx,.slice s1 m1 f1,.slice U Y X,.slice s3 m3 f3,.slice s4 m4 f4,.slice s5 N f5]) (by simp[results,Tryz.results129,go_sem,r,s,y,z,A,B,C,D,R]) rfl ?_;rw[HC.out];have a8:w.heap.size≤w.heap.size+1:=oM;exact⟨_,F3,rfl,shdRR.base (vZ shdRR (vX (d:=d) 0 0 aF.out) (fun h=>by have:=(shdR.rng aF.out _ h).1;omega) _ _ _ _ _ _ _ _) oM,bset (p:=⟨w.heap.size+1,7,none⟩) (bset (p:=⟨w.heap.size+1,6,none⟩) (bset (p:=⟨w.heap.size+1,5,none⟩) (bset (p:=⟨w.heap.size+1,4,none⟩) (bset (p:=⟨w.heap.size+1,3,none⟩) (bset (p:=⟨w.heap.size+1,2,none⟩) (bset (p:=⟨w.heap.size+1,1,none⟩) (bset (p:=⟨w.heap.size+1,0,none⟩) (bL) a8 _) a8 _) a8 _) a8 _) a8 _) a8 _) a8 _) a8 _⟩
 have ci:(fd !=0)=false:=by simp[aK]
 have bb:Hid (o=1∧fP d.held k=false→Z=errH 1):=fun h=>bo.out aK h
 have bc:Hid (¬(o=1∧fP d.held k=false)→100≤n4→Z=errH 2):=fun h h1=>bp.out aK h h1
 have bd:Hid (¬(o=1∧fP d.held k=false)→¬100≤n4→Z=⟨0,0,decS d k o⟩):=fun h h1=>bq.out aK h h1
 clear bm bn bo bp bq aK;go_wp2_with fail;refine(b6.out _ b7).mono ?_;rintro e w2 ⟨rfl,be⟩;have bM:aa w w2:=bS b7 be;refine kR14 be ?_ G H I J L M r s y z A B C D;clear G H I J L M r s y z A B C D;intro G H I J L M r s y z A B C D;replace R:=ai be oM R;have ck:w.heap.size+1<w2.heap.size:=by have:=be.size;omega
 clear be b7 br b6;by_cases aG:o=1∧fP d.held k=false
 ·
  have HC:Hid (Z=errH 1):=bb.out aG;have b0:(o==1)=true:=by simp[aG.1]
  rw[aG.2];clear bb bc bd aJ b1 aO aP aQ aR aB;go_wp2;refine bodyPost_ret (v:=.agg #[iV 1,iV 0,iV 0,aj,aj,aj,aj,aj]) (by simp[results,Tryz.results129,go_sem,r,s,y,z,A,B,C,D,R]) rfl (mO HC.out ?_);exact qS
 have ds:Hid (¬(o=1∧fP d.held k=false)):=aG;have bN:Hid (dJ d k o n3=decS d k o):=aB.out aG;have aU:Hid (100≤n4→Z=errH 2):=fun h=>bc.out aG h
 have aV:Hid (¬100≤n4→Z=⟨0,0,dJ d k o n3⟩):=fun h=>by rw[bN.out];exact bd.out aG h
 clear bb bc bd aB;obtain⟨hh,bO⟩:∃hh,hh=fP d.held k:=⟨_,rfl⟩
 have cm:Hid (o=1→hh=true):=fun h=>by rw[bO];exact cc.out aG h
 rw[←bO];clear aG cc bO;go_upto_region 7 with fail
 go_cut [33] from 28 to 33 (fun c wx=>c =.bool false∧wx=w2)
 case first=>
  by_cases am:o=1
  ·
   have b0:(o==1)=true:=by simp[am]
   have d4:=cm.out am;subst d4;clear am;go_wp2;go_meet;exact⟨rfl,rfl⟩
  have b0:(o==1)=false:=by simpa using am
  clear am;go_wp2;go_meet;exact⟨rfl,rfl⟩
 case rest=>
  obtain⟨d5,d6⟩:=hcut;obtain rfl:=d6.symm;subst d5;clear cm;by_cases hm:100≤n4
  ·have HC:Hid (Z=errH 2):=aU.out hm;have aT:(100:Int)≤n4:=oM;clear aU aV aJ b1 aO aP aQ aR;go_wp2;refine bodyPost_ret (v:=.agg #[iV 2,iV 0,iV 0,aj,aj,aj,aj,aj]) (by simp[results,Tryz.results129,go_sem,r,s,y,z,A,B,C,D,R]) rfl (mO HC.out ?_);exact qS
  have HC:Hid (Z=⟨0,0,dJ d k o n3⟩):=aV.out hm;have aT:¬(100:Int)≤n4:=oM;clear aU aV hm;go_wp2_with fail;refine(aJ.out _ bM).mono ?_;rintro e g ⟨v3,F3,rfl,o3,ax⟩;obtain⟨s1,U,s3,s4,s5,f1,X,f3,f4,f5,rfl⟩:=mW o3;obtain⟨m1,b8⟩:∃m,m=d.bals.length:=⟨_,rfl⟩
  obtain⟨Y,aT⟩:∃m,m=d.votes.length:=⟨_,rfl⟩
  obtain⟨m3,aS⟩:∃m,m=d.held.length:=⟨_,rfl⟩
  obtain⟨m4,b9⟩:∃m,m=d.done.length:=⟨_,rfl⟩
  obtain⟨N,ba⟩:∃m,m=d.appl.length:=⟨_,rfl⟩
  rw[←b8,←aT,←aS,←b9,←ba] at o3 ⊢;have aF:Hid (shdR.O g w2.heap.size F3 (.agg #[iV d.idx,.slice s1 m1 f1,.slice U Y X,.slice s3 m3 f3,.slice s4 m4 f4,.slice s5 N f5]) d):=o3;clear o3 b8 aT aS b9 ba;have bL:aa w g:=bS bM ax;refine kR14 ax ?_ G H I J L M r s y z A B C D;clear G H I J L M r s y z A B C D;intro G H I J L M r s y z A B C D;replace R:=ai ax oM R;have dt:w.heap.size+1<g.heap.size:=by have:=ax.size;omega
  have cn:Hid (∀b,F3 b→w.heap.size+2≤b∧b<g.heap.size):=fun b hb=>by have:=shdR.rng aF.out b hb;omega
  have bB:Hid (shdR.O g w.heap.size F3 (.agg #[iV d.idx,.slice s1 m1 f1,.slice U Y X,.slice s3 m3 f3,.slice s4 m4 f4,.slice s5 N f5]) d):=shdR.base aF.out bM.size;clear ax aJ aF;obtain⟨wb,ay⟩:∃wb,wb=g.alloc (.cells #[iV d.idx,.slice s1 m1 f1,.slice U Y X,.slice s3 m3 f3,.slice s4 m4 f4,.slice s5 N f5] 41):=⟨_,rfl⟩
  have bf:aa g wb:=by rw[ay];exact hE
  have t0:cI wb g.heap.size 0 d.idx:=cQ ay;have T:ah wb g.heap.size 1 s1 m1 f1:=cQ ay;have t2:ah wb g.heap.size 2 U Y X:=cQ ay;have t3:ah wb g.heap.size 3 s3 m3 f3:=cQ ay;have t4:ah wb g.heap.size 4 s4 m4 f4:=cQ ay;have t5:ah wb g.heap.size 5 s5 N f5:=cQ ay;have n:aq wb g.heap.size:=fun o=>by rw[ay];simp[go_sem]
  obtain⟨G4,co,d7,cp⟩:=fQy (shdR.keep bB.out bf);have cq:Hid (mrksR.O wb w.heap.size G4 (.slice s4 m4 f4) d.done):=co;have bC:Hid (∀(w':World) (ao:Nat→Prop) (v:Value) (ys:List Mrk),mrksR.O w' w.heap.size ao v ys→Mod G4 wb w'→(∀b,ao b→G4 b∨wb.heap.size≤b)→∃F',shdR.O w' w.heap.size F' (.agg #[iV d.idx,.slice s1 m1 f1,.slice U Y X,.slice s3 m3 f3,v,.slice s5 N f5]) ⟨d.idx,d.bals,d.votes,d.held,ys,d.appl⟩∧∀b,F' b→F3 b∨wb.heap.size≤b):=cp;clear co d7 cp;go_wp2_with fail;rw[←ay];refine(b1.out wb w.heap.size G4 _ cq.out).mono ?_;rintro e w4 ⟨v4,F4,rfl,o4,ar⟩;obtain⟨p4,q4,rfl⟩:=fD o4.1;have du:g.heap.size<wb.heap.size:=wL wb _ t0;obtain⟨F5,o5,cr⟩:=bC.out w4 F4 _ _ (mrksR.base o4 oM) (Mod.of_below ar) (fun b hb=>.inr (mrksR.rng o4 b hb).1);have bP:aa w w4:=bS bL (bS bf ar);have dv:=ar.size;have cs:Hid (shdR.O w4 w.heap.size F5 (.agg #[iV d.idx,.slice s1 m1 f1,.slice U Y X,.slice s3 m3 f3,.slice p4 (putM d.done ⟨k,o⟩).length q4,.slice s5 N f5]) ⟨d.idx,d.bals,d.votes,d.held,putM d.done ⟨k,o⟩,d.appl⟩):=o5;have bt:Hid (∀b,F5 b→b≠g.heap.size∧w.heap.size+2≤b):=fun b hb=>(cr b hb).elim (fun h=>by have:=cn.out b h;exact⟨oM,by omega⟩) (fun h=>⟨oM,by omega⟩)
  clear ay;refine kR14 bf ?_ G H I J L M r s y z A B C D;clear G H I J L M r s y z A B C D;intro G H I J L M r s y z A B C D;replace R:=ai bf oM R;refine kR12 ar ?_ t0 T t2 t3 t4 t5 G H I J L M;clear t0 T t2 t3 t4 t5 G H I J L M;intro t0 T t2 t3 t4 t5 G H I J L M;refine kR8 ar ?_ r s y z A B C D;clear r s y z A B C D;intro r s y z A B C D;replace n:=ai ar oM n;replace R:=ai ar oM R;generalize (putM d.done ⟨k,o⟩).length=np at *;clear o4 o5 cr bC cq b1 ar bf bB cn;have bg:w.heap.size≠g.heap.size:=oM;have az:w.heap.size+1≠g.heap.size:=oM;go_wp2;obtain⟨V4,ab⟩:∃W,W=w4.setCell ⟨g.heap.size,4,none⟩ (.slice p4 np q4):=⟨_,rfl⟩
  rw[←ab];have au:Mod (fun b=>b=g.heap.size) w4 V4:=by rw[ab];exact Mod.of_set w4 ⟨g.heap.size,4,none⟩ _
  replace t0:V4.cell? ⟨g.heap.size,0,none⟩=some (iV d.idx):=by rw[ab];simp[go_sem,t0,n]
  replace T:V4.cell? ⟨g.heap.size,1,none⟩=some (.slice s1 m1 f1):=by rw[ab];simp[go_sem,T,n]
  replace t2:V4.cell? ⟨g.heap.size,2,none⟩=some (.slice U Y X):=by rw[ab];simp[go_sem,t2,n]
  replace t3:V4.cell? ⟨g.heap.size,3,none⟩=some (.slice s3 m3 f3):=by rw[ab];simp[go_sem,t3,n]
  replace t4:V4.cell? ⟨g.heap.size,4,none⟩=some (.slice p4 np q4):=by rw[ab];simp[go_sem,t4,n]
  replace t5:V4.cell? ⟨g.heap.size,5,none⟩=some (.slice s5 N f5):=by rw[ab];simp[go_sem,t5,n]
  replace n:aq V4 g.heap.size:=fun o=>by rw[ab];simp[go_sem,n]
  clear ab;refine kM6 au bg ?_ G H I J L M;clear G H I J L M;intro G H I J L M;refine kM8 au az ?_ r s y z A B C D;clear r s y z A B C D;intro r s y z A B C D;replace R:aq V4 (w.heap.size+1):=fun o=>(au.frz10 (a:=⟨w.heap.size+1,o,none⟩) (by dsimp only;omega) az).trans (R o)
  have di:w4.heap.size≤V4.heap.size:=au.size;obtain⟨V5,ac⟩:∃W,W=V4.setCell ⟨g.heap.size,3,none⟩ aj:=⟨_,rfl⟩
  rw[←ac];have av:Mod (fun b=>b=g.heap.size) V4 V5:=by rw[ac];exact Mod.of_set V4 ⟨g.heap.size,3,none⟩ _
  replace t0:V5.cell? ⟨g.heap.size,0,none⟩=some (iV d.idx):=by rw[ac];simp[go_sem,t0,n]
  replace T:V5.cell? ⟨g.heap.size,1,none⟩=some (.slice s1 m1 f1):=by rw[ac];simp[go_sem,T,n]
  replace t2:V5.cell? ⟨g.heap.size,2,none⟩=some (.slice U Y X):=by rw[ac];simp[go_sem,t2,n]
  replace t3:V5.cell? ⟨g.heap.size,3,none⟩=some aj:=by rw[ac];simp[go_sem,t3,n]
  replace t4:V5.cell? ⟨g.heap.size,4,none⟩=some (.slice p4 np q4):=by rw[ac];simp[go_sem,t4,n]
  replace t5:V5.cell? ⟨g.heap.size,5,none⟩=some (.slice s5 N f5):=by rw[ac];simp[go_sem,t5,n]
  replace n:aq V5 g.heap.size:=fun o=>by rw[ac];simp[go_sem,n]
  clear ac;refine kM6 av bg ?_ G H I J L M;clear G H I J L M;intro G H I J L M;refine kM8 av az ?_ r s y z A B C D;clear r s y z A B C D;intro r s y z A B C D;replace R:aq V5 (w.heap.size+1):=fun o=>(av.frz10 (a:=⟨w.heap.size+1,o,none⟩) (by dsimp only;omega) az).trans (R o)
  have dj:V4.heap.size≤V5.heap.size:=av.size;have ct:Hid (∃F6,shdR.O V5 w.heap.size F6 (.agg #[iV d.idx,.slice s1 m1 f1,.slice U Y X,aj,.slice p4 np q4,.slice s5 N f5]) (dJ d k o 0)∧∀b,F6 b→b≠g.heap.size∧w.heap.size+2≤b):=by
   have h4:shdR.O V4 w.heap.size F5 (.agg #[iV d.idx,.slice s1 m1 f1,.slice U Y X,.slice s3 m3 f3,.slice p4 np q4,.slice s5 N f5]) ⟨d.idx,d.bals,d.votes,d.held,putM d.done ⟨k,o⟩,d.appl⟩:=shdR.mod cs.out au (fun b hb e=>(bt.out b hb).1 e);have h5:shdR.O V5 w.heap.size F5 (.agg #[iV d.idx,.slice s1 m1 f1,.slice U Y X,.slice s3 m3 f3,.slice p4 np q4,.slice s5 N f5]) ⟨d.idx,d.bals,d.votes,d.held,putM d.done ⟨k,o⟩,d.appl⟩:=shdR.mod h4 av (fun b hb e=>(bt.out b hb).1 e);obtain⟨G3,_,_,bu⟩:=xI (d:=⟨d.idx,d.bals,d.votes,d.held,putM d.done ⟨k,o⟩,d.appl⟩) h5;obtain⟨F6,h6,aW⟩:=bu V5 (fun _=>False) aj [] (xX _ _) (Mod.refl _ _) (fun b hb=>hb.elim);rw[fY9];exact⟨F6,h6,fun b hb=>(aW b hb).elim (fun h=>bt.out b h) (fun h=>⟨oM,by omega⟩)⟩
  have d8:aa w V5:=av.below (au.below bP bP.size (fun b e=>by rw[e];omega)) oM (fun b e=>by rw[e];omega);obtain⟨F6,cu,aW⟩:=ct.out;have bh:Hid (shdR.O V5 w.heap.size F6 (.agg #[iV d.idx,.slice s1 m1 f1,.slice U Y X,aj,.slice p4 np q4,.slice s5 N f5]) (dJ d k o 0)):=cu;have aX:Hid (∀b,F6 b→b≠g.heap.size∧w.heap.size+2≤b):=aW;clear au av ct cu aW cs bt bP;go_loopw [10] (fun i w'=>∃(j:Nat) (s1 U s3 s4 s5:Option Addr) (m1 Y m3 m4 N f1 X f3 f4 f5:Nat) (F:Nat→Prop),j≤n3∧i =.int .i64 j∧Hid (shdR.O w' w.heap.size F (.agg #[.int .i64 d.idx,.slice s1 m1 f1,.slice U Y X,.slice s3 m3 f3,.slice s4 m4 f4,.slice s5 N f5]) (dJ d k o j))∧Hid (∀b,F b→b≠g.heap.size∧w.heap.size+2≤b)∧(w'.cell? ⟨g.heap.size,0,none⟩=some (.int .i64 d.idx)∧w'.cell? ⟨g.heap.size,1,none⟩=some (.slice s1 m1 f1)∧w'.cell? ⟨g.heap.size,2,none⟩=some (.slice U Y X)∧w'.cell? ⟨g.heap.size,3,none⟩=some (.slice s3 m3 f3)∧w'.cell? ⟨g.heap.size,4,none⟩=some (.slice s4 m4 f4)∧w'.cell? ⟨g.heap.size,5,none⟩=some (.slice s5 N f5))∧(∀o,w'.frozen? ⟨g.heap.size,o,none⟩=false)∧(w'.cell? ⟨w.heap.size,0,none⟩=some (.int .i64 d.idx)∧w'.cell? ⟨w.heap.size,1,none⟩=some (.slice a1 n1 c1)∧w'.cell? ⟨w.heap.size,2,none⟩=some (.slice a2 n2 c2)∧w'.cell? ⟨w.heap.size,3,none⟩=some (.slice a3 n3 c3)∧w'.cell? ⟨w.heap.size,4,none⟩=some (.slice a4 n4 c4)∧w'.cell? ⟨w.heap.size,5,none⟩=some (.slice a5 n5 c5))∧(w'.cell? ⟨w.heap.size+1,0,none⟩=some (.int .i64 0)∧w'.cell? ⟨w.heap.size+1,1,none⟩=some (.int .i64 0)∧w'.cell? ⟨w.heap.size+1,2,none⟩=some (.int .i64 0)∧w'.cell? ⟨w.heap.size+1,3,none⟩=some (.slice none 0 0)∧w'.cell? ⟨w.heap.size+1,4,none⟩=some (.slice none 0 0)∧w'.cell? ⟨w.heap.size+1,5,none⟩=some (.slice none 0 0)∧w'.cell? ⟨w.heap.size+1,6,none⟩=some (.slice none 0 0)∧w'.cell? ⟨w.heap.size+1,7,none⟩=some (.slice none 0 0))∧(∀o,w'.frozen? ⟨w.heap.size+1,o,none⟩=false)∧g.heap.size<w'.heap.size∧aa w w') (fun i _=>n3-(intOf i).toNat)
  case atStart=>exact⟨0,s1,U,none,p4,s5,m1,Y,0,np,N,f1,X,0,q4,f5,F6,Nat.zero_le _,rfl,bh,aX,⟨t0,T,t2,t3,t4,t5⟩,n,⟨G,H,I,J,L,M⟩,⟨r,s,y,z,A,B,C,D⟩,R,by omega,d8⟩
  clear t0 T t2 t3 t4 t5 n G H I J L M r s y z A B C D R bh aX;obtain⟨j,s1,U,s3,s4,s5,m1,Y,m3,m4,N,f1,X,f3,f4,f5,F,hj,rfl,HO,HF,⟨t0,T,t2,t3,t4,t5⟩,n,⟨G,H,I,J,L,M⟩,⟨r,s,y,z,A,B,C,D⟩,R,d9,aH⟩:=hrel;have dw:=aH.size;by_cases aY:j<n3
  ·
   obtain⟨bx,ox,pp,qq,rfl,g0,g1,hV⟩:=HX.out j aY;have bi:=aO.out j aY;obtain⟨l,hl⟩:∃l,l=d.held.getD j default:=⟨_,rfl⟩
   rw[←hl] at g0 g1 hV bi;have b2:Hid (l=d.held.getD j default):=hl;clear hl;have bQ:Hid (bW w fun W=>cL 155 #[.agg #[iV l.id,.slice pp l.legs.length qq]] W fun e w'=>∃u F,e =.returned u∧contR.O w' W.heap.size F u l∧aa W w'):=fun W hW=>bi W _ (contR.below hV hW)
   clear hV bi;replace g0:=cK aH g0;replace g1:=cK aH g1;have zb:bx<wr.heap.size:=wL wr _ g0;have k1:(j:Int)<n3:=oM;have k2:(0:Int)≤j:=oM;obtain⟨nl,bU⟩:∃nl,nl=l.legs.length:=⟨_,rfl⟩
   rw[←bU] at g1 bQ;have bV:Hid (nl=l.legs.length):=bU;clear bU;go_wp2_with fail;refine(bQ.out _ aH).mono ?_;rintro e wc ⟨vc,Fu,rfl,ou,ag⟩;obtain⟨a7,c7,rfl⟩:=xW ou;rw[←bV.out] at ou ⊢;have HU:Hid (contR.O wc wr.heap.size Fu (.agg #[iV l.id,.slice a7 nl c7]) l):=ou;have bX:Hid (∀b,Fu b→wr.heap.size≤b∧b<wc.heap.size):=fun b hb=>contR.rng ou b hb
   have dx:=ag.size;clear ou bQ g0 g1;refine kR12 ag ?_ t0 T t2 t3 t4 t5 G H I J L M;clear t0 T t2 t3 t4 t5 G H I J L M;intro t0 T t2 t3 t4 t5 G H I J L M;refine kR8 ag ?_ r s y z A B C D;clear r s y z A B C D;intro r s y z A B C D;replace n:=ai ag oM n;replace R:=ai ag oM R;have dy:g.heap.size<wc.heap.size:=oM;have dz:w.heap.size+1<wc.heap.size:=oM;have dk:w.heap.size<wc.heap.size:=oM;by_cases aL:l.id=k;rotate_left
   ·
    have b3:Hid (dJ d k o (j+1)=⟨d.idx,(dJ d k o j).bals,d.votes,kU k (d.held.take j)++[l],putM d.done ⟨k,o⟩,(dJ d k o j).appl⟩):=by
     show _=_;rw[b2.out];exact aP.out j aY (by rw[←b2.out];exact aL)
    have bE:(l.id !=k)=true:=by simpa using aL
    obtain⟨G3,o3,cv,bu⟩:=xI (d:=dJ d k o j) HO.out;have bF:Hid (∀(w':World) (ao:Nat→Prop) (v:Value) (ys:List Cont),contsR.O w' w.heap.size ao v ys→Mod G3 wr w'→(∀b,ao b→G3 b∨wr.heap.size≤b)→∃F',shdR.O w' w.heap.size F' (.agg #[iV d.idx,.slice s1 m1 f1,.slice U Y X,v,.slice s4 m4 f4,.slice s5 N f5]) ⟨d.idx,(dJ d k o j).bals,d.votes,ys,putM d.done ⟨k,o⟩,(dJ d k o j).appl⟩∧∀b,F' b→F b∨wr.heap.size≤b):=bu;have aF:Hid (contsR.O wr w.heap.size G3 (.slice s3 m3 f3) (kU k (d.held.take j))):=o3;have b4:Hid (∀b,G3 b→(b≠g.heap.size∧w.heap.size+2≤b)∧b<wr.heap.size):=fun b hb=>⟨HF.out b (cv b hb),(contsR.rng o3 b hb).2⟩
    have cw:Hid ((kU k (d.held.take j)).length=m3∧m3≤2000):=by
     obtain⟨a',c',e'⟩:=fM (contsR.ofO o3);simp only[Value.slice.injEq] at e';have h1:(kU k (d.held.take j)).length=m3:=e'.2.1.symm;have h2:(kU k (d.held.take j)).length≤(d.held.take j).length:=List.length_filter_le _ _;rw[List.length_take] at h2;exact⟨h1,by have:=d2.out;omega⟩
    clear bu o3 cv;go_wp2_with (at_builtin;refine fWm _ rfl _ _ rfl w.heap.size G3 Fu _ (kU k (d.held.take j)) l (wc.heap.size+1) a7 c7 rfl rfl ?a1 ?a2 ?a3 ?a4 ?a5 ?a6 ?_)
    case a1=>exact contsR.alloc (contsR.alloc (contsR.keep aF.out ag) _) _
    case a2=>rw[←bV.out];exact contR.alloc (contR.alloc (contR.base HU.out oM) _) _
    case a3=>exact fun b h1 h2=>by have:=(b4.out b h1).2;have:=(bX.out b h2).1;omega
    case a4=>rw[←bV.out];exact⟨sG,by simp[go_sem]⟩
    case a5=>have:=cw.out;omega
    case a6=>simp;omega
    intro v8 w8 F8 o8 m8 l8;have bv:Mod G3 wr w8:=(Mod.of_below (bA (bA ag _) _)).trans m8;obtain⟨F9,o9,cx⟩:=bF.out w8 F8 v8 _ o8 bv (fun b hb=>by
     rcases l8 b hb with h|h|h
     ·exact .inl h
     ·exact .inr (bX.out b h).1
     exact .inr (by first|omega|(simp at h;omega)))
    obtain⟨p8,q8,e8⟩:=fM (contsR.ofO o8);rw[List.length_append,cw.out.1] at e8;subst e8;have nB:¬G3 g.heap.size:=fun h=>(b4.out g.heap.size h).1.1 rfl
    have nN:¬G3 w.heap.size:=fun h=>by have:=(b4.out _ h).1.2;omega
    have nR:¬G3 (w.heap.size+1):=fun h=>by have:=(b4.out _ h).1.2;omega
    have da:Hid (shdR.O w8 w.heap.size F9 (.agg #[iV d.idx,.slice s1 m1 f1,.slice U Y X,.slice p8 (m3+1) q8,.slice s4 m4 f4,.slice s5 N f5]) (dJ d k o (j+1))):=by
     show shdR.O _ _ _ _ _;rw[b3.out];exact o9
    have cy:Hid (∀b,F9 b→b≠g.heap.size∧w.heap.size+2≤b):=fun b hb=>(cx b hb).elim (fun h=>HF.out b h) (fun h=>⟨oM,by omega⟩)
    have aC:Mod G3 wc w8:=(Mod.of_below (bA (bA (bR _ _) _) _)).trans m8;have cz:aa w w8:=bv.below aH aH.size (fun b hb=>by have:=(b4.out b hb).1.2;omega);refine kM6 aC nB ?_ t0 T t2 t3 t4 t5;clear t0 T t2 t3 t4 t5;intro t0 T t2 t3 t4 t5;refine kM6 aC nN ?_ G H I J L M;clear G H I J L M;intro G H I J L M;refine kM8 aC nR ?_ r s y z A B C D;clear r s y z A B C D;intro r s y z A B C D;replace n:∀o,World.frozen? w8 ⟨g.heap.size,o,none⟩=false:=fun o=>(aC.frz10 (a:=⟨g.heap.size,o,none⟩) (by dsimp only;omega) nB).trans (n o)
    replace R:∀o,World.frozen? w8 ⟨w.heap.size+1,o,none⟩=false:=fun o=>(aC.frz10 (a:=⟨w.heap.size+1,o,none⟩) (by dsimp only;omega) nR).trans (R o)
    have dA:g.heap.size<w8.heap.size:=Nat.lt_of_lt_of_le d9 bv.size;clear o8 m8 l8 bv aC o9 cx bF aF b4 HO HF nB nN nR b3 HU bX;go_wp2;obtain⟨W8,ad⟩:∃W,W=w8.setCell ⟨g.heap.size,3,none⟩ (.slice p8 (m3+1) q8):=⟨_,rfl⟩
    rw[←ad];have aD:Mod (fun b=>b=g.heap.size) w8 W8:=by rw[ad];exact Mod.of_set w8 ⟨g.heap.size,3,none⟩ _
    replace t0:W8.cell? ⟨g.heap.size,0,none⟩=some (iV d.idx):=by rw[ad];simp[go_sem,t0,n]
    replace T:W8.cell? ⟨g.heap.size,1,none⟩=some (.slice s1 m1 f1):=by rw[ad];simp[go_sem,T,n]
    replace t2:W8.cell? ⟨g.heap.size,2,none⟩=some (.slice U Y X):=by rw[ad];simp[go_sem,t2,n]
    replace t3:W8.cell? ⟨g.heap.size,3,none⟩=some (.slice p8 (m3+1) q8):=by rw[ad];simp[go_sem,t3,n]
    replace t4:W8.cell? ⟨g.heap.size,4,none⟩=some (.slice s4 m4 f4):=by rw[ad];simp[go_sem,t4,n]
    replace t5:W8.cell? ⟨g.heap.size,5,none⟩=some (.slice s5 N f5):=by rw[ad];simp[go_sem,t5,n]
    replace n:aq W8 g.heap.size:=fun o=>by rw[ad];simp[go_sem,n]
    clear ad;refine kM6 aD bg ?_ G H I J L M;clear G H I J L M;intro G H I J L M;refine kM8 aD az ?_ r s y z A B C D;clear r s y z A B C D;intro r s y z A B C D;replace R:aq W8 (w.heap.size+1):=fun o=>(aD.frz10 (a:=⟨w.heap.size+1,o,none⟩) (by dsimp only;omega) az).trans (R o)
    have dl:w8.heap.size≤W8.heap.size:=aD.size;have b5:Hid (shdR.O W8 w.heap.size F9 (.agg #[iV d.idx,.slice s1 m1 f1,.slice U Y X,.slice p8 (m3+1) q8,.slice s4 m4 f4,.slice s5 N f5]) (dJ d k o (j+1))):=shdR.mod da.out aD (fun b hb e=>(cy.out b hb).1 e);have bj:aa w W8:=aD.below cz cz.size (fun b e=>by rw[e];omega);exact⟨⟨j+1,s1,U,p8,s4,s5,m1,Y,(m3+1),m4,N,f1,X,q8,f4,f5,F9,by omega,by go_num,b5,cy,⟨t0,T,t2,t3,t4,t5⟩,n,⟨G,H,I,J,L,M⟩,⟨r,s,y,z,A,B,C,D⟩,R,by omega,bj⟩,mI⟩
   by_cases am:o=1
   ·
    have bk:=aR.out j aY (by rw[←b2.out];exact aL) am;rw[←b2.out] at bk;have cA:Hid ((dJ d k o j).bals=d.bals):=bk.1;have cB:Hid ((dJ d k o j).appl=d.appl):=bk.2.1;have b3:Hid (dJ d k o (j+1)=⟨d.idx,addB d.bals (onSh d.idx l.legs),d.votes,kU k (d.held.take j),putM d.done ⟨k,o⟩,d.appl++[k]⟩):=bk.2.2;have cC:Hid (dJ d k o j=⟨d.idx,d.bals,d.votes,kU k (d.held.take j),putM d.done ⟨k,o⟩,d.appl⟩):=by
     have e1:=cA.out;have e2:=cB.out;show _=_;unfold dJ at e1 e2 ⊢;dsimp only at e1 e2;rw[e1,e2]
    clear bk;have bE:(l.id !=k)=false:=by simpa using aL
    clear aL;have b0:(o==1)=true:=by simp[am]
    clear am;have bG:=bl.out.held.len (show j<d.held.length by rw[ch.out];exact aY);have bH:=bl.out.held.fault (show j<d.held.length by rw[ch.out];exact aY);rw[←b2.out] at bG bH;have db:Hid (AddOk d.bals (onSh d.idx l.legs)):=fWy (uK (pE bl.out.base).2) (fun x hx=>bH x (List.mem_filter.1 hx).1) (Nat.le_trans (List.length_filter_le _ _) bG);have cD:Hid (bW wc fun W=>cL 127 #[.agg #[iV l.id,.slice a7 nl c7],iV d.idx] W fun e w'=>∃v,e =.returned v∧w'.ownsRow W.heap.size 168 4 v (onSh d.idx l.legs).length (gT (onSh d.idx l.legs))∧aa W w'):=fun W hW=>by
     obtain⟨u,e,hu⟩:=contR.below (contR.ofO HU.out) hW;simp only[Value.agg.injEq,Array.mk.injEq,List.cons.injEq,and_true,true_and] at e;rw[e];exact xZ _ _ _ _ W hu oM
    have a9:aa wr (wc.alloc (.cells #[iV l.id,.slice a7 nl c7] 57)):=bA ag _;obtain⟨we,aM⟩:∃we,we=wc.alloc (.cells #[iV l.id,.slice a7 nl c7] 57):=⟨_,rfl⟩
    go_wp2;rw[←aM] at a9 ⊢;have aA:aa wc we:=by rw[aM];exact hE
    have q0:cI we wc.heap.size 0 l.id:=cQ aM;have q1:ah we wc.heap.size 1 a7 nl c7:=cQ aM;clear aM;have b5:Hid (shdR.O we w.heap.size F (.agg #[iV d.idx,.slice s1 m1 f1,.slice U Y X,.slice s3 m3 f3,.slice s4 m4 f4,.slice s5 N f5]) ⟨d.idx,d.bals,d.votes,kU k (d.held.take j),putM d.done ⟨k,o⟩,d.appl⟩):=by
     show shdR.O _ _ _ _ _;rw[←cC.out];exact shdR.keep HO.out a9
    have bj:aa w we:=bS aH a9;have cE:g.heap.size<we.heap.size:=by have:=a9.size;omega
    have dB:wr.heap.size≤we.heap.size:=a9.size;refine kR12 aA ?_ t0 T t2 t3 t4 t5 G H I J L M;clear t0 T t2 t3 t4 t5 G H I J L M;intro t0 T t2 t3 t4 t5 G H I J L M;refine kR8 aA ?_ r s y z A B C D;clear r s y z A B C D;intro r s y z A B C D;replace n:=ai aA oM n;replace R:=ai aA oM R;clear HO cA cB cC a9;obtain⟨G1,cF,dc,cG⟩:=fQx (d:=⟨d.idx,d.bals,d.votes,kU k (d.held.take j),putM d.done ⟨k,o⟩,d.appl⟩) b5.out;have cH:Hid (bW we fun W=>balsR.V W (.slice s1 m1 f1) d.bals):=fun W hW=>balsR.below (balsR.ofO cF) hW
    have bI:Hid (∀(w':World) (ao:Nat→Prop) (v:Value) (ys:List Bal),balsR.O w' w.heap.size ao v ys→Mod G1 we w'→(∀b,ao b→G1 b∨we.heap.size≤b)→∃F',shdR.O w' w.heap.size F' (.agg #[iV d.idx,v,.slice U Y X,.slice s3 m3 f3,.slice s4 m4 f4,.slice s5 N f5]) ⟨d.idx,ys,d.votes,kU k (d.held.take j),putM d.done ⟨k,o⟩,d.appl⟩∧∀b,F' b→F b∨we.heap.size≤b):=cG;clear cF dc cG;refine wp_region_noPanic ?_;have aZ:aa we we.drew:=hE;refine fB (fun W=>aa we W∧ah W g.heap.size 1 s1 m1 f1∧cI W wc.heap.size 0 l.id∧ah W wc.heap.size 1 a7 nl c7∧cI W w.heap.size 0 d.idx) 8 kF ⟨aZ,cK aZ T,cK aZ q0,cK aZ q1,cK aZ G⟩ (fun hS=>?_);refine tY 0 ?_;refine tY 1 ?_;refine tY 2 ?_;refine tY 3 ?_;refine tY 4 ?_;refine uS 5 rfl (fun K hK=>?_);go_simp;refine(cD.out _ (bS aA aZ)).mono ?_;rintro e w4 ⟨v4,rfl,o4,ar⟩;obtain⟨al,cl,rfl⟩:=fD o4;have ak:aa we w4:=bS aZ ar;have cJ:Hid (legsR.V w4 (.slice al (onSh d.idx l.legs).length cl) (onSh d.idx l.legs)):=gX o4;refine hK _ _ (fun _=>⟨ak,cK ak T,cK ak q0,cK ak q1,cK ak G⟩) ?_;clear hK K hS o4 ar cD;try simp only[jX]
    refine uS 6 rfl (fun K hK=>?_);go_simp;refine(fU8 _ _ d.bals (onSh d.idx l.legs) w4 (cH.out w4 ak) cJ.out db.out).mono ?_;rintro e w5 ⟨v5,F5,rfl,o5,cM⟩;obtain⟨pb,qb,e5⟩:=fD o5.1;have E:aa we w5:=bS ak cM;have dm:=ak.size;obtain⟨mb,cO⟩:∃mb,mb=(addB d.bals (onSh d.idx l.legs)).length:=⟨_,rfl⟩
    rw[←cO] at e5;subst e5;refine hK _ _ (fun _=>⟨E,cK E T,cK E q0,cK E q1,cK E G⟩) ?_;clear hK K;obtain⟨F6,o6,aW⟩:=bI.out w5 F5 _ _ (balsR.base o5 oM) (Mod.of_below E) (fun b hb=>.inr (by have:=(balsR.rng o5 b hb).1;omega));have bh:Hid (shdR.O w5 w.heap.size F6 (.agg #[iV d.idx,.slice pb mb qb,.slice U Y X,.slice s3 m3 f3,.slice s4 m4 f4,.slice s5 N f5]) ⟨d.idx,addB d.bals (onSh d.idx l.legs),d.votes,kU k (d.held.take j),putM d.done ⟨k,o⟩,d.appl⟩):=o6;have aX:Hid (∀b,F6 b→b≠g.heap.size∧w.heap.size+2≤b):=fun b hb=>(aW b hb).elim (fun h=>HF.out b h) (fun h=>⟨oM,by omega⟩)
    have bY:aa w w5:=bS bj E;have cP:=And.intro E (And.intro (cK E T) (And.intro (cK E q0) (And.intro (cK E q1) (cK E G))));refine kR12 E ?_ t0 T t2 t3 t4 t5 G H I J L M;clear t0 T t2 t3 t4 t5 G H I J L M;intro t0 T t2 t3 t4 t5 G H I J L M;refine kR8 E ?_ r s y z A B C D;clear r s y z A B C D;intro r s y z A B C D;replace n:=ai E oM n;replace R:=ai E oM R;have dC:g.heap.size<w5.heap.size:=by have:=E.size;omega
    have dD:we.heap.size≤w5.heap.size:=E.size;clear o5 cM o6 aW bI cH cJ ak E b5 HF cO q0 q1;try simp only[jX]
    refine uS 7 rfl (fun K hK=>?_);go_simp;refine hK _ _ (fun _=>cP) ?_;clear hK K;try simp only[jX]
    refine uS 8 rfl (fun K hK=>?_);go_simp;refine hK _ _ (fun h=>absurd rfl h) ?_;clear hK K cP;refine dP ?_;obtain⟨W6,ae⟩:∃W,W=w5.setCell ⟨g.heap.size,1,none⟩ (.slice pb mb qb):=⟨_,rfl⟩
    rw[←ae];have aw:Mod (fun b=>b=g.heap.size) w5 W6:=by rw[ae];exact Mod.of_set w5 ⟨g.heap.size,1,none⟩ _
    replace t0:W6.cell? ⟨g.heap.size,0,none⟩=some (iV d.idx):=by rw[ae];simp[go_sem,t0,n]
    replace T:W6.cell? ⟨g.heap.size,1,none⟩=some (.slice pb mb qb):=by rw[ae];simp[go_sem,T,n]
    replace t2:W6.cell? ⟨g.heap.size,2,none⟩=some (.slice U Y X):=by rw[ae];simp[go_sem,t2,n]
    replace t3:W6.cell? ⟨g.heap.size,3,none⟩=some (.slice s3 m3 f3):=by rw[ae];simp[go_sem,t3,n]
    replace t4:W6.cell? ⟨g.heap.size,4,none⟩=some (.slice s4 m4 f4):=by rw[ae];simp[go_sem,t4,n]
    replace t5:W6.cell? ⟨g.heap.size,5,none⟩=some (.slice s5 N f5):=by rw[ae];simp[go_sem,t5,n]
    replace n:aq W6 g.heap.size:=fun o=>by rw[ae];simp[go_sem,n]
    clear ae;refine kM6 aw bg ?_ G H I J L M;clear G H I J L M;intro G H I J L M;refine kM8 aw az ?_ r s y z A B C D;clear r s y z A B C D;intro r s y z A B C D;replace R:aq W6 (w.heap.size+1):=fun o=>(aw.frz10 (a:=⟨w.heap.size+1,o,none⟩) (by dsimp only;omega) az).trans (R o)
    have dn:w5.heap.size≤W6.heap.size:=aw.size;have cR:Hid (shdR.O W6 w.heap.size F6 (.agg #[iV d.idx,.slice pb mb qb,.slice U Y X,.slice s3 m3 f3,.slice s4 m4 f4,.slice s5 N f5]) ⟨d.idx,addB d.bals (onSh d.idx l.legs),d.votes,kU k (d.held.take j),putM d.done ⟨k,o⟩,d.appl⟩):=shdR.mod bh.out aw (fun b hb e=>(aX.out b hb).1 e);have bZ:aa w W6:=aw.below bY bY.size (fun b e=>by rw[e];omega);clear aw bh bY;obtain⟨G5,bw,cS,cT⟩:=fEl (d:=⟨d.idx,addB d.bals (onSh d.idx l.legs),d.votes,kU k (d.held.take j),putM d.done ⟨k,o⟩,d.appl⟩) cR.out;have c0:Hid (G5=fun b'=>(Value.slice s5 N f5).ownBlock=some b'):=bw.2;have aN:Hid (∀b,G5 b→(b≠g.heap.size∧w.heap.size+2≤b)):=fun b hb=>aX.out b (cS b hb)
    have c6:Hid (d.appl.length=N∧N≤100):=by
     obtain⟨a',c',e'⟩:=fD bw.1;simp only[Value.slice.injEq] at e';have h1:N=d.appl.length:=e'.2.1;exact⟨h1.symm,by have:=bl.out.ls.na;omega⟩
    have cU:Hid (W6.ownsRow w.heap.size 2 1 (.slice s5 N f5) N (kT d.appl)):=by have h:=bw.1;dsimp only at h;rw[c6.out.1] at h;exact h
    have bJ:Hid (∀(w':World) (ao:Nat→Prop) (v:Value) (ys:List Int),intsR.O w' w.heap.size ao v ys→Mod G5 W6 w'→(∀b,ao b→G5 b∨W6.heap.size≤b)→∃F',shdR.O w' w.heap.size F' (.agg #[iV d.idx,.slice pb mb qb,.slice U Y X,.slice s3 m3 f3,.slice s4 m4 f4,v]) ⟨d.idx,addB d.bals (onSh d.idx l.legs),d.votes,kU k (d.held.take j),putM d.done ⟨k,o⟩,ys⟩∧∀b,F' b→F6 b∨W6.heap.size≤b):=cT;clear bw cS cT cR;obtain⟨i0,dd,de,br,ck⟩:=info_parts fC2;have dp:=c6.out.2;go_wp2_with (at_builtin;refine wpList_append_own_at _ rfl _ _ 39 rfl w.heap.size 2 i0 _ 1 8 Tryz.underlying39 dd de br ck rfl (by decide) _ N (kT d.appl) rfl (cU.out.alloc _) ⟨W6.heap.size,0,none⟩ 1 1 [iV k] rfl rfl ?c1 ?c2 ?c3 ?c4 ?c5 ?_)
    case c1=>
     intro q u hq;match q,hq with
     | 0,hq=>simp at hq;subst hq;simp[Addr.add,go_sem]
     | q+1,hq=>simp at hq
    case c2=>
     intro u hu;rw[List.mem_singleton] at hu;rw[hu];rfl
    case c3=>unfold maxLen;omega
    case c4=>omega
    case c5=>first|omega|(simp;omega)
    intro v7 w7 c8 cV _ cX;obtain⟨pa,qa,rfl⟩:=fD c8;have aI:Mod G5 W6 w7:=by
     rw[c0.out];exact(Mod.of_below hE).trans (Mod.of_grown cV)
    obtain⟨Fa,oa,cY⟩:=bJ.out w7 (fun b'=>(Value.slice pa (N+1) qa).ownBlock=some b') (.slice pa (N+1) qa) (d.appl++[k]) ⟨by
     rw[List.length_append,c6.out.1,fAm];exact c8,rfl⟩ aI (fun b' bz=>by
     rw[c0.out];rcases cX with h|h
     ·exact .inl (h▸bz)
     rw[h] at bz;simp only[Option.some.injEq] at bz;exact .inr (by first|omega|(simp at bz;omega)))
    have nB:¬G5 g.heap.size:=fun h=>(aN.out g.heap.size h).1 rfl
    have nN:¬G5 w.heap.size:=fun h=>by have:=(aN.out _ h).2;omega
    have nR:¬G5 (w.heap.size+1):=fun h=>by have:=(aN.out _ h).2;omega
    have cZ:Hid (shdR.O w7 w.heap.size Fa (.agg #[iV d.idx,.slice pb mb qb,.slice U Y X,.slice s3 m3 f3,.slice s4 m4 f4,.slice pa (N+1) qa]) (dJ d k o (j+1))):=by
     show shdR.O _ _ _ _ _;rw[b3.out];exact oa
    have d0:Hid (∀b,Fa b→b≠g.heap.size∧w.heap.size+2≤b):=fun b hb=>(cY b hb).elim (fun h=>aX.out b h) (fun h=>⟨oM,by omega⟩)
    have d1:aa w w7:=aI.below bZ bZ.size (fun b hb=>by have:=(aN.out b hb).2;omega);refine kM6 aI nB ?_ t0 T t2 t3 t4 t5;clear t0 T t2 t3 t4 t5;intro t0 T t2 t3 t4 t5;refine kM6 aI nN ?_ G H I J L M;clear G H I J L M;intro G H I J L M;refine kM8 aI nR ?_ r s y z A B C D;clear r s y z A B C D;intro r s y z A B C D;replace n:∀o,World.frozen? w7 ⟨g.heap.size,o,none⟩=false:=fun o=>(aI.frz10 (a:=⟨g.heap.size,o,none⟩) (by dsimp only;omega) nB).trans (n o)
    replace R:∀o,World.frozen? w7 ⟨w.heap.size+1,o,none⟩=false:=fun o=>(aI.frz10 (a:=⟨w.heap.size+1,o,none⟩) (by dsimp only;omega) nR).trans (R o)
    have dE:g.heap.size<w7.heap.size:=Nat.lt_of_lt_of_le oM aI.size;clear oa cY bJ c8 cV cX aI nB nN nR c0 aN cU aX bZ;go_wp2;obtain⟨W7,af⟩:∃W,W=w7.setCell ⟨g.heap.size,5,none⟩ (.slice pa (N+1) qa):=⟨_,rfl⟩
    rw[←af];have aE:Mod (fun b=>b=g.heap.size) w7 W7:=by rw[af];exact Mod.of_set w7 ⟨g.heap.size,5,none⟩ _
    replace t0:W7.cell? ⟨g.heap.size,0,none⟩=some (iV d.idx):=by rw[af];simp[go_sem,t0,n]
    replace T:W7.cell? ⟨g.heap.size,1,none⟩=some (.slice pb mb qb):=by rw[af];simp[go_sem,T,n]
    replace t2:W7.cell? ⟨g.heap.size,2,none⟩=some (.slice U Y X):=by rw[af];simp[go_sem,t2,n]
    replace t3:W7.cell? ⟨g.heap.size,3,none⟩=some (.slice s3 m3 f3):=by rw[af];simp[go_sem,t3,n]
    replace t4:W7.cell? ⟨g.heap.size,4,none⟩=some (.slice s4 m4 f4):=by rw[af];simp[go_sem,t4,n]
    replace t5:W7.cell? ⟨g.heap.size,5,none⟩=some (.slice pa (N+1) qa):=by rw[af];simp[go_sem,t5,n]
    replace n:aq W7 g.heap.size:=fun o=>by rw[af];simp[go_sem,n]
    clear af;refine kM6 aE bg ?_ G H I J L M;clear G H I J L M;intro G H I J L M;refine kM8 aE az ?_ r s y z A B C D;clear r s y z A B C D;intro r s y z A B C D;replace R:aq W7 (w.heap.size+1):=fun o=>(aE.frz10 (a:=⟨w.heap.size+1,o,none⟩) (by dsimp only;omega) az).trans (R o)
    have dq:w7.heap.size≤W7.heap.size:=aE.size;have df:Hid (shdR.O W7 w.heap.size Fa (.agg #[iV d.idx,.slice pb mb qb,.slice U Y X,.slice s3 m3 f3,.slice s4 m4 f4,.slice pa (N+1) qa]) (dJ d k o (j+1))):=shdR.mod cZ.out aE (fun b hb e=>(d0.out b hb).1 e);have dg:aa w W7:=aE.below d1 d1.size (fun b e=>by rw[e];omega);exact⟨⟨j+1,pb,U,s3,s4,pa,mb,Y,m3,m4,(N+1),qb,X,f3,f4,qa,Fa,by omega,by go_num,df,d0,⟨t0,T,t2,t3,t4,t5⟩,n,⟨G,H,I,J,L,M⟩,⟨r,s,y,z,A,B,C,D⟩,R,by omega,dg⟩,mI⟩
   have b3:Hid (dJ d k o (j+1)=dJ d k o j):=aQ.out j aY (by rw[←b2.out];exact aL) am;have bE:(l.id !=k)=false:=by simpa using aL
   clear aL;have b0:(o==1)=false:=by simpa using am
   clear am;have a9:aa wr (wc.alloc (.cells #[iV l.id,.slice a7 nl c7] 57)):=bA ag _;obtain⟨we,aM⟩:∃we,we=wc.alloc (.cells #[iV l.id,.slice a7 nl c7] 57):=⟨_,rfl⟩
   go_wp2;rw[←aM] at a9 ⊢;have b5:Hid (shdR.O we w.heap.size F (.agg #[iV d.idx,.slice s1 m1 f1,.slice U Y X,.slice s3 m3 f3,.slice s4 m4 f4,.slice s5 N f5]) (dJ d k o (j+1))):=by
    show shdR.O _ _ _ _ _;rw[b3.out];exact shdR.keep HO.out a9
   have bj:aa w we:=bS aH a9;have cE:g.heap.size<we.heap.size:=by have:=a9.size;omega
   have aA:aa wc we:=by rw[aM];exact hE
   refine kR12 aA ?_ t0 T t2 t3 t4 t5 G H I J L M;clear t0 T t2 t3 t4 t5 G H I J L M;intro t0 T t2 t3 t4 t5 G H I J L M;refine kR8 aA ?_ r s y z A B C D;clear r s y z A B C D;intro r s y z A B C D;replace n:=ai aA oM n;replace R:=ai aA oM R;exact⟨⟨j+1,s1,U,s3,s4,s5,m1,Y,m3,m4,N,f1,X,f3,f4,f5,F,by omega,by go_num,b5,HF,⟨t0,T,t2,t3,t4,t5⟩,n,⟨G,H,I,J,L,M⟩,⟨r,s,y,z,A,B,C,D⟩,R,cE,bj⟩,mI⟩
  have dh:j=n3:=oM;subst dh;clear aO aP aQ aR HX;go_wp2;refine bodyPost_ret (v:=.agg #[iV 0,iV 0,iV d.idx,.slice s1 m1 f1,.slice U Y X,.slice s3 m3 f3,.slice s4 m4 f4,.slice s5 N f5]) (by simp[results,Tryz.results129,go_sem,r,s,y,z,A,B,C,D,R]) rfl ?_;rw[HC.out];have a8:w.heap.size≤w.heap.size+1:=oM;exact⟨_,F,rfl,vZ shdRR (vX (d:=dJ d k o j) 0 0 HO.out) (fun h=>by have:=(HF.out _ h).2;omega) _ _ _ _ _ _ _ _,bset (p:=⟨w.heap.size+1,7,none⟩) (bset (p:=⟨w.heap.size+1,6,none⟩) (bset (p:=⟨w.heap.size+1,5,none⟩) (bset (p:=⟨w.heap.size+1,4,none⟩) (bset (p:=⟨w.heap.size+1,3,none⟩) (bset (p:=⟨w.heap.size+1,2,none⟩) (bset (p:=⟨w.heap.size+1,1,none⟩) (bset (p:=⟨w.heap.size+1,0,none⟩) (aH) a8 _) a8 _) a8 _) a8 _) a8 _) a8 _) a8 _) a8 _⟩
theorem fMq (x:Value) (d:Shd) (k o:Int) (w:World) (hx:shdR.V w x d) :
  cL 90 #[x,iV k,iV o] w (rJ w (kZ d k o)):=by
 have T:Hid (bW w fun W=>RI 126 #[x] W (iV (shdF d))):=fun W U=>fDw x d W (shdR.below hx U)
 have A:Hid (bW w fun W=>shdF d=0→(o=1∨o=2)→cL 129 #[x,iV k,iV o] W (rJ W (qQ d k o))):=fun W U h1 h2=>fOh x d k o W (shdR.below hx U) (xH h1) h2
 obtain⟨u1,u2,u3,u4,u5,rfl,h1,h2,h3,h4,h5⟩:=hx;obtain⟨a1,c1,rfl⟩:=fQ h1;obtain⟨a2,c2,rfl⟩:=fH h2;obtain⟨a3,c3,rfl⟩:=fM h3;obtain⟨a4,c4,rfl⟩:=fH h4;obtain⟨a5,c5,rfl⟩:=gL h5;clear h1 h2 h3 h4 h5;have B:Hid (¬shdF d=0→kZ d k o=errH (shdF d)):=fun h=>fEx h
 have C:Hid (shdF d=0→(inB k 1 1000000000&&inB o 1 2)=false→kZ d k o=errH 3):=fun h h1=>fBp h h1
 have D:Hid (shdF d=0→(inB k 1 1000000000&&inB o 1 2)=true→kZ d k o=qQ d k o):=fun h h1=>fHv h h1
 generalize X:d.bals.length=n1 at *;generalize Y:d.votes.length=n2 at *;generalize a0:d.held.length=n3 at *;generalize a6:d.done.length=n4 at *;generalize a7:d.appl.length=n5 at *;have af:Hid (d.bals.length=n1∧d.votes.length=n2∧d.held.length=n3∧d.done.length=n4∧d.appl.length=n5):=⟨X,Y,a0,a6,a7⟩;clear X Y a0 a6 a7;generalize kZ d k o=Z at *;generalize shdF d=sf at *;go_enter Tryz.func90,Tryz.ntmps90;go_wp2_with fail;refine(T.out _ hE).mono ?_;rintro e l ⟨rfl,g⟩;have a8:=bT w g;have ad:=g.size;simp at ad;have y0:cI l w.heap.size 0 d.idx:=cK g sG;have y1:ah l w.heap.size 1 a1 n1 c1:=cK g sG;have y2:ah l w.heap.size 2 a2 n2 c2:=cK g sG;have y3:ah l w.heap.size 3 a3 n3 c3:=cK g sG;have y4:ah l w.heap.size 4 a4 n4 c4:=cK g sG;have y5:ah l w.heap.size 5 a5 n5 c5:=cK g sG;have E:cI l (w.heap.size+1) 0 0:=cK g sG;have F:cI l (w.heap.size+1) 1 0:=cK g sG;have G:cI l (w.heap.size+1) 2 0:=cK g sG;have H:cN l (w.heap.size+1) 3:=cK g sG;have I:cN l (w.heap.size+1) 4:=cK g sG;have J:cN l (w.heap.size+1) 5:=cK g sG;have K:cN l (w.heap.size+1) 6:=cK g sG;have L:cN l (w.heap.size+1) 7:=cK g sG
 have R:aq l (w.heap.size+1):=ap g;clear g T;by_cases m:sf=0;rotate_left
 ·
  have HC:Hid _:=B.out m;have a9:(sf !=0)=true:=by simp[m]
  clear B C D A;go_wp2;refine bodyPost_ret (v:=.agg #[iV sf,iV 0,iV 0,aj,aj,aj,aj,aj]) (by simp[results,Tryz.results90,go_sem,E,F,G,H,I,J,K,L,R]) rfl (mO HC.out ?_);exact qS
 have a9:(sf !=0)=false:=by simp[m]
 have n:Hid ((inB k 1 1000000000&&inB o 1 2)=false→Z=errH 3):=fun h=>C.out m h
 have q:Hid ((inB k 1 1000000000&&inB o 1 2)=true→Z=qQ d k o):=fun h=>D.out m h
 have r:Hid (bW w fun W=>(o=1∨o=2)→cL 129 #[.agg #[iV d.idx,.slice a1 n1 c1,.slice a2 n2 c2,.slice a3 n3 c3,.slice a4 n4 c4,.slice a5 n5 c5],iV k,iV o] W (rJ W (qQ d k o))):=fun W U h=>A.out W U m h
 clear B C D A m;have M:Hid (inB o 1 2=true→o=1∨o=2):=fun h=>by have:=inBi.1 h;omega
 by_cases z:(inB k 1 1000000000&&inB o 1 2)=true
 rotate_left
 ·
  have N:(inB k 1 1000000000&&inB o 1 2)=false:=by simpa using z
  have HC:Hid (Z=errH 3):=n.out N;clear n q r M z;cases hk:inB k 1 1000000000
  ·
   go_wp2_with (first|(go_at_call 87;refine(pI _ _).mono ?_;rintro e w' ⟨rfl,rfl⟩;rw[hk]))
   refine bodyPost_ret (v:=.agg #[iV 3,iV 0,iV 0,aj,aj,aj,aj,aj]) (by simp[results,Tryz.results90,go_sem,E,F,G,H,I,J,K,L,R]) rfl (mO HC.out ?_);exact qS
  have s:inB o 1 2=false:=by rw[hk] at N;simpa using N
  go_wp2_with (first|(go_at_call 87;refine(pI _ _).mono ?_;rintro e w' ⟨rfl,rfl⟩;rw[hk])|(go_at_call 88;refine(mF _ _ _ _).mono ?_;rintro e w' ⟨rfl,rfl⟩;rw[s]))
  refine bodyPost_ret (v:=.agg #[iV 3,iV 0,iV 0,aj,aj,aj,aj,aj]) (by simp[results,Tryz.results90,go_sem,E,F,G,H,I,J,K,L,R]) rfl (mO HC.out ?_);exact qS
 have hk:inB k 1 1000000000=true:=by simp only[Bool.and_eq_true] at z;exact z.1
 have s:inB o 1 2=true:=by simp only[Bool.and_eq_true] at z;exact z.2
 have HC:Hid (Z=qQ d k o):=q.out z;have ab:Hid _:=M.out s;clear n q M z;go_wp2_with (first|(go_at_call 87;refine(pI _ _).mono ?_;rintro e w' ⟨rfl,hw⟩;obtain rfl:=hw.symm;rw[hk])|(go_at_call 88;refine(mF _ _ _ _).mono ?_;rintro e w' ⟨rfl,hw⟩;obtain rfl:=hw.symm;rw[s])|fail);refine(r.out _ a8 ab.out).mono ?_;rintro e w4 ⟨v4,F4,rfl,o4,y⟩;generalize qQ d k o=VD at *;obtain⟨cd,vt,sd⟩:=VD;obtain⟨p1,p2,p3,p4,p5,m1,m2,m3,m4,m5,q1,q2,q3,q4,q5,rfl⟩:=kR o4;have ac:Hid (shdRR.O w4 l.heap.size F4 (.agg #[iV cd,iV vt,iV sd.idx,.slice p1 m1 q1,.slice p2 m2 q2,.slice p3 m3 q3,.slice p4 m4 q4,.slice p5 m5 q5]) ⟨cd,vt,sd⟩):=o4;have ae:aa w w4:=bS a8 y;refine kR8 y ?_ E F G H I J K L;clear E F G H I J K L;intro E F G H I J K L;replace R:=ai y oM R;clear o4 y r;go_wp2;refine bodyPost_ret (v:=.agg #[iV cd,iV vt,iV sd.idx,.slice p1 m1 q1,.slice p2 m2 q2,.slice p3 m3 q3,.slice p4 m4 q4,.slice p5 m5 q5]) (by simp[results,Tryz.results90,go_sem,E,F,G,H,I,J,K,L,R]) rfl ?_;rw[HC.out];have j:w.heap.size≤w.heap.size+1:=oM;exact⟨_,F4,rfl,shdRR.base (vZ shdRR ac.out (fun h=>by have:=(shdRR.rng ac.out _ h).1;omega) _ _ _ _ _ _ _ _) oM,bset (p:=⟨w.heap.size+1,7,none⟩) (bset (p:=⟨w.heap.size+1,6,none⟩) (bset (p:=⟨w.heap.size+1,5,none⟩) (bset (p:=⟨w.heap.size+1,4,none⟩) (bset (p:=⟨w.heap.size+1,3,none⟩) (bset (p:=⟨w.heap.size+1,2,none⟩) (bset (p:=⟨w.heap.size+1,1,none⟩) (bset (p:=⟨w.heap.size+1,0,none⟩) (ae) j _) j _) j _) j _) j _) j _) j _) j _⟩
theorem fMr (x:Value) (d:Shd) (k o:Int) (w:World) (hx:shdR.V w x d) :
  cL 90 #[x,iV k,iV o] w fun e w'=>∃v F,e =.returned v∧shdRR.O w' w.heap.size F v (kZ d k o)∧aa w w':=fMq x d k o w hx
theorem fLs (x:Value) (d:Shd) (k o:Int) (w:World) (hx:shdR.V w x d) :
  cL 149 #[x,iV k,iV o] w fun e w'=>∃v F,e =.returned v∧shdRR.O w' w.heap.size F v (kZ d k o)∧aa w w':=fLr x d k o w hx
end
section
variable [dQ Rw] [iH Rw] [dQ Bal] [iH Bal] [dQ Ledg] [iH Ledg] [dQ Leg] [iH Leg] [dQ Cont] [iH Cont] [dQ LedgR] [iH LedgR] [dQ OutcR] [iH OutcR] [dQ Mrk] [iH Mrk] [dQ Shd] [iH Shd] [dQ ShdR] [iH ShdR]
theorem fWx (ls:List Leg):∀xs:List Bal,(addB xs ls).length+1≤2 ^ ls.length*(xs.length+1):=by
 induction ls with
 | nil=>intro xs;simp[addB]
 | cons l r ih=>
  intro xs;have h:=ih (tO xs l);have h2:(tO xs l).length+1≤2*(xs.length+1):=by
   have:=fV0 l.ac l.ast (hasB l.ac l.ast xs+l.am) xs;unfold tO;omega
  have e:addB xs (l::r)=addB (tO xs l) r:=rfl;have d:2 ^ r.length*((tO xs l).length+1)≤2 ^ r.length*(2*(xs.length+1)):=Nat.mul_le_mul_left _ h2;have g:2 ^ r.length*(2*(xs.length+1))=2 ^ (r.length+1)*(xs.length+1):=by rw[←Nat.mul_assoc,Nat.pow_succ]
  rw[e,List.length_cons];omega
theorem fWw {xs:List Bal} {ls:List Leg} (h1:xs.length≤18) (h2:ls.length≤8):(addB xs ls).length≤10000:=by
 have h:=fWx ls xs;have d:2 ^ ls.length≤2 ^ 8:=Nat.pow_le_pow_right oM h2;have e:2 ^ ls.length*(xs.length+1)≤2 ^ 8*19:=Nat.mul_le_mul d oM;omega
theorem fO5 {d:Shd} (h1:d.bals.length≤10000) (h2:d.votes.length≤101) (h3:d.held.length≤101) (h4:d.done.length≤101) (h5:d.appl.length≤101) (h:∀k,k<d.held.length→(d.held.getD k default).legs.length≤8):fAt d≤12000:=by
 have:=fPu h3 h;unfold fAt qZ fDz fGu;omega
theorem fIg (k:Int):∀hs:List Cont,(∀c ∈ hs,c.legs.length≤8)→(vS k hs).length≤8
 | [],_=>by simp[vS]
 | c::r,h=>by
  unfold vS;split
  ·exact h c (List.mem_cons_self ..)
  exact fIg k r (fun x hx=>h x (List.mem_cons_of_mem _ hx))
theorem fQh {hs:List Cont} (h:∀k,k<hs.length→(hs.getD k default).legs.length≤8):∀c ∈ hs,c.legs.length≤8:=fun c e=>by
 obtain⟨i,d,rfl⟩:=List.getElem_of_mem e;have:=h i d;simpa [List.getD,d] using this
theorem fIc {hs:List Cont} (k:Int) (h:∀k,k<hs.length→(hs.getD k default).legs.length≤8):∀j,j<(kU k hs).length→((kU k hs).getD j default).legs.length≤8:=fun j d=>by
 have e:(kU k hs).getD j default=(kU k hs)[j]:=by simp[List.getD,d]
 rw[e];exact fQh h _ ((List.mem_filter.1 (List.getElem_mem d)).1)
theorem fVb (k:Int) (hs:List Cont):(kU k hs).length≤hs.length:=List.length_filter_le _ _
theorem fX6 (s:Int) (ls:List Leg):(onSh s ls).length≤ls.length:=List.length_filter_le _ _
theorem fRq (d:Shd) (k o:Int):fCl (kZ d k o)≤12000:=by
 by_cases h0:shdF d=0
 ·
  have e:=xH h0;have hb:=(uK (pE e.base).2).len;have q:=e.ls.nv;have r:=e.ls.nh;have s:=e.ls.nd;have x:=e.ls.na;have g:∀k,k<d.held.length→(d.held.getD k default).legs.length≤8:=fun k j=>e.held.len j
  have l:=fVb k d.held;have m:=fIg k d.held (fQh g);have n:=fX6 d.idx (vS k d.held);have p:(addB d.bals (onSh d.idx (vS k d.held))).length≤10000:=fWw oM oM;unfold kZ;rw[if_pos h0];split
  ·
   unfold qQ;split
   ·
    split
    ·rw[yN];omega
    split
    ·rw[yN];omega
    unfold decS;split
    ·exact fO5 (d:=⟨d.idx,addB d.bals (onSh d.idx (vS k d.held)),d.votes,kU k d.held,putM d.done ⟨k,o⟩,d.appl++[k]⟩) (by show(addB d.bals _).length≤10000;omega) (by show d.votes.length≤101;omega) (by show(kU k d.held).length≤101;omega) (by show(putM d.done _).length≤101;rw[fEh];omega) (by show(d.appl++[k]).length≤101;rw[List.length_append];simp;omega) (fIc k g)
    exact fO5 (d:=⟨d.idx,d.bals,d.votes,kU k d.held,putM d.done ⟨k,o⟩,d.appl⟩) (by show d.bals.length≤10000;omega) (by show d.votes.length≤101;omega) (by show(kU k d.held).length≤101;omega) (by show(putM d.done _).length≤101;rw[fEh];omega) (by show d.appl.length≤101;omega) (fIc k g)
   split
   ·exact fO5 (d:=d) oM oM oM oM oM g
   rw[yN];omega
  rw[yN];omega
 unfold kZ;rw[if_neg h0,yN];omega
end
section
variable [dQ Leg] [iH Leg] [dQ Cont] [iH Cont] [dQ Evt] [iH Evt] [dQ EvtR] [iH EvtR] [dQ BytesR] [iH BytesR] [dQ ContR] [iH ContR] [dQ Logg] [iH Logg] [dQ LoggR] [iH LoggR] [dQ RecsR] [iH RecsR] [dQ Rw] [iH Rw] [dQ Bal] [iH Bal] [dQ Ledg] [iH Ledg] [dQ LedgR] [iH LedgR] [dQ OutcR] [iH OutcR] [dQ Mrk] [iH Mrk] [dQ Shd] [iH Shd] [dQ ShdR] [iH ShdR]
theorem fS8 {P:Program} {w:World} {a:Addr} {m:Mode} (fn:Fn) (first captured:Array Value):(store a (.func fn first captured) m).run P w=stored P w a (.func fn first captured) m:=run_store P w a _ m rfl
attribute [local go_sem] fS8
theorem fH7 (f g h:Nat) (w:World):(Instr.field 122 (.agg #[.func (.func f) #[] #[],.func (.func g) #[] #[],.func (.func h) #[] #[]]) 0).run Tryz.prog w =.ok (.func (.func f) #[] #[]) w:=kF
theorem fH8 (f g h:Nat) (w:World):(Instr.field 122 (.agg #[.func (.func f) #[] #[],.func (.func g) #[] #[],.func (.func h) #[] #[]]) 1).run Tryz.prog w =.ok (.func (.func g) #[] #[]) w:=kF
theorem fSj (f g h:Nat) (w:World):(Instr.field 122 (.agg #[.func (.func f) #[] #[],.func (.func g) #[] #[],.func (.func h) #[] #[]]) 2).run Tryz.prog w =.ok (.func (.func h) #[] #[]) w:=kF
theorem fBe (x:Value) (d:Evt) (w:World) (hx:evtR.V w x d) (hv:d.vote=true) :
  RI 71 #[x] w (.agg #[.func (.func 116) #[] #[],.func (.func 117) #[] #[],.func (.func 118) #[] #[]]):=by
 obtain⟨a,c,rfl,e⟩:=pF hx;rw[hv];clear hx e hv;go_enter Tryz.func71,Tryz.ntmps71;go_wp2;exact bodyPost_ret (v:=.agg #[.func (.func 116) #[] #[],.func (.func 117) #[] #[],.func (.func 118) #[] #[]]) (by simp[results,Tryz.results71,go_sem]) rfl ⟨rfl,hE⟩
theorem fC6 (x:Value) (d:Evt) (w:World) (hx:evtR.V w x d) (hv:d.vote=false) :
  RI 71 #[x] w (.agg #[.func (.func 119) #[] #[],.func (.func 120) #[] #[],.func (.func 121) #[] #[]]):=by
 obtain⟨a,c,rfl,e⟩:=pF hx;rw[hv];clear hx e hv;go_enter Tryz.func71,Tryz.ntmps71;go_wp2;exact bodyPost_ret (v:=.agg #[.func (.func 119) #[] #[],.func (.func 120) #[] #[],.func (.func 121) #[] #[]]) (by simp[results,Tryz.results71,go_sem]) rfl ⟨rfl,hE⟩
theorem fKu (x:Value) (d:Evt) (w:World) (hx:evtR.V w x d) (hv:d.vote=true) :
  RI 116 #[x] w (iV (evtF d)):=by
 obtain⟨a,c,rfl,p⟩:=pF hx;obtain⟨b,⟨id,ls⟩,o⟩:=d;dsimp only at p hv ⊢;subst hv;clear hx;have g:Hid (evtF ⟨true,⟨id,ls⟩,o⟩=if fA id ls=0 then (if o=0 then 0 else 1) else fA id ls):=rfl;have HC:Hid (bW w fun W=>RI 142 #[.agg #[iV id,.slice a ls.length c]] W (iV (fA id ls))):=fun W y=>rP id _ ls W (kE p y)
 generalize evtF ⟨true,⟨id,ls⟩,o⟩=R at *;clear p;generalize fA id ls=q at *;generalize ls.length=n at *;go_enter Tryz.func116,Tryz.ntmps116;go_wp2_with fail;refine(HC.out _ hE).mono ?_;rintro e s ⟨rfl,l⟩;have z:aa w s:=hE;have B:cI s w.heap.size 3 o:=cK l sG;clear l HC;by_cases j:q=0
 ·
  rw[j] at g ⊢;by_cases k:o=0
  ·
   have m:Hid (R=0):=by show _=_;rw[g.out,k];rfl
   have r:(o !=0)=false:=by simp[k]
   clear g k j;go_wp2;go_ret;exact⟨by rw[m.out];rfl,hE⟩
  have m:Hid (R=1):=by show _=_;rw[g.out,if_neg k];rfl
  have r:(o !=0)=true:=by simp[k]
  clear g k j;go_wp2;go_ret;exact⟨by rw[m.out];rfl,hE⟩
 have m:Hid (R=q):=by show _=_;rw[g.out,if_neg j]
 have A:(q !=0)=true:=by simp[j]
 clear g j;go_wp2;go_ret;exact⟨by rw[m.out];rfl,hE⟩
theorem fD6 (x:Value) (d:Evt) (w:World) (hx:evtR.V w x d) (hv:d.vote=false) :
  RI 119 #[x] w (iV (evtF d)):=by
 obtain⟨a,c,rfl,r⟩:=pF hx;obtain⟨b,⟨id,ls⟩,o⟩:=d;dsimp only at r hv ⊢;subst hv;clear hx;have j:Hid (evtF ⟨false,⟨id,ls⟩,o⟩=if (inB id 1 1000000000&&inB o 1 2)=true then (if ls.length=0 then 0 else 1) else 3):=rfl;generalize evtF ⟨false,⟨id,ls⟩,o⟩=R at *;generalize ls.length=n at *;clear r;cases k:inB id 1 1000000000
 ·rw[k] at j;go_enter Tryz.func119,Tryz.ntmps119;go_wp2_with (first|(go_at_call 146;refine(kX _ _).mono ?_;rintro e w' ⟨rfl,g⟩;obtain rfl:=g.symm;rw[k]));go_ret;exact⟨by rw[j.out];rfl,hE⟩
 cases l:inB o 1 2
 ·rw[k,l] at j;go_enter Tryz.func119,Tryz.ntmps119;go_wp2_with (first|(go_at_call 146;refine(kX _ _).mono ?_;rintro e w' ⟨rfl,g⟩;obtain rfl:=g.symm;rw[k])|(go_at_call 147;refine(kY _ _).mono ?_;rintro e w' ⟨rfl,g⟩;obtain rfl:=g.symm;rw[l]));go_ret;exact⟨by rw[j.out];rfl,hE⟩
 rw[k,l] at j;by_cases m:n=0
 ·
  have p:Hid (R=0):=by show _=_;rw[j.out,m];rfl
  have q:¬(0:Int)<(n:Int):=oM;clear j m;go_enter Tryz.func119,Tryz.ntmps119;go_wp2_with (first|(go_at_call 146;refine(kX _ _).mono ?_;rintro e w' ⟨rfl,g⟩;obtain rfl:=g.symm;rw[k])|(go_at_call 147;refine(kY _ _).mono ?_;rintro e w' ⟨rfl,g⟩;obtain rfl:=g.symm;rw[l]));go_ret;exact⟨by rw[p.out];rfl,hE⟩
 have p:Hid (R=1):=by show _=_;rw[j.out,if_neg m];rfl
 have q:(0:Int)<(n:Int):=oM;clear j m;go_enter Tryz.func119,Tryz.ntmps119;go_wp2_with (first|(go_at_call 146;refine(kX _ _).mono ?_;rintro e w' ⟨rfl,g⟩;obtain rfl:=g.symm;rw[k])|(go_at_call 147;refine(kY _ _).mono ?_;rintro e w' ⟨rfl,g⟩;obtain rfl:=g.symm;rw[l]));go_ret;exact⟨by rw[p.out];rfl,hE⟩
theorem fFi (x:Value) (d:Evt) (w:World) (hx:evtR.V w x d) :
  RI 52 #[x] w (iV (evtF d)):=by
 have s:Hid (bW w fun W=>evtR.V W x d):=fun W q=>evtR.below hx q
 obtain⟨a,c,rfl,C⟩:=pF hx;clear hx C;generalize d.con.legs.length=n at *;cases p:d.vote
 ·
  have y:Hid (bW w fun W=>RI 71 #[.agg #[.bool false,iV d.con.id,.slice a n c,iV d.out]] W (.agg #[.func (.func 119) #[] #[],.func (.func 120) #[] #[],.func (.func 121) #[] #[]])):=fun W q=>by have h:=fC6 _ d W (s.out W q) p;rw[p] at h;exact h
  have z:Hid (bW w fun W=>RI 119 #[.agg #[.bool false,iV d.con.id,.slice a n c,iV d.out]] W (iV (evtF d))):=fun W q=>by have h:=fD6 _ d W (s.out W q) p;rw[p] at h;exact h
  have A:=fH7;have D:=enters_of Tryz.func119 kF rfl;generalize evtF d=R at *;clear s p;go_enter Tryz.func52,Tryz.ntmps52;go_wp2;refine wp_region_noPanic ?_;refine fB (fun W=>aa w W∧cW W w.heap.size 0 (.bool false)∧cI W w.heap.size 1 d.con.id∧ah W w.heap.size 2 a n c∧cI W w.heap.size 3 d.out) 5 kF ⟨hE,by simp[go_sem],sG,by simp[go_sem],sG⟩ (fun hS=>?_);refine tY 0 ?_;refine tY 3 ?_;refine uS 1 rfl (fun K k=>?_);go_simp;refine(y.out _ hS.1).mono ?_;rintro e E ⟨rfl,l⟩;have g:=And.intro (bS hS.1 l) (kS4 l hS.2);refine k _ _ (fun _=>g) ?_;clear k K l y hS;try simp only[jX]
  refine tY 2 ?_;refine uS 4 rfl (fun K k=>?_);go_simp;refine(z.out _ g.1).mono ?_;rintro e B ⟨rfl,j⟩;have r:aa w B:=bS g.1 j;have m:=And.intro (bS g.1 j) (kS4 j g.2);refine k _ _ (fun _=>m) ?_;clear k K j z g;try simp only[jX]
  refine uS 5 rfl (fun K k=>?_);go_simp;refine k _ _ (fun h=>absurd rfl h) ?_;clear k K m;refine dP ?_;go_wp2;go_ret;exact⟨rfl,r⟩
 have y:Hid (bW w fun W=>RI 71 #[.agg #[.bool true,iV d.con.id,.slice a n c,iV d.out]] W (.agg #[.func (.func 116) #[] #[],.func (.func 117) #[] #[],.func (.func 118) #[] #[]])):=fun W q=>by have h:=fBe _ d W (s.out W q) p;rw[p] at h;exact h
 have z:Hid (bW w fun W=>RI 116 #[.agg #[.bool true,iV d.con.id,.slice a n c,iV d.out]] W (iV (evtF d))):=fun W q=>by have h:=fKu _ d W (s.out W q) p;rw[p] at h;exact h
 have A:=fH7;have D:=enters_of Tryz.func116 kF rfl;generalize evtF d=R at *;clear s p;go_enter Tryz.func52,Tryz.ntmps52;go_wp2;refine wp_region_noPanic ?_;refine fB (fun W=>aa w W∧cW W w.heap.size 0 (.bool true)∧cI W w.heap.size 1 d.con.id∧ah W w.heap.size 2 a n c∧cI W w.heap.size 3 d.out) 5 kF ⟨hE,by simp[go_sem],sG,by simp[go_sem],sG⟩ (fun hS=>?_);refine tY 0 ?_;refine tY 3 ?_;refine uS 1 rfl (fun K k=>?_);go_simp;refine(y.out _ hS.1).mono ?_;rintro e E ⟨rfl,l⟩;have g:=And.intro (bS hS.1 l) (kS4 l hS.2);refine k _ _ (fun _=>g) ?_;clear k K l y hS;try simp only[jX]
 refine tY 2 ?_;refine uS 4 rfl (fun K k=>?_);go_simp;refine(z.out _ g.1).mono ?_;rintro e B ⟨rfl,j⟩;have r:aa w B:=bS g.1 j;have m:=And.intro (bS g.1 j) (kS4 j g.2);refine k _ _ (fun _=>m) ?_;clear k K j z g;try simp only[jX]
 refine uS 5 rfl (fun K k=>?_);go_simp;refine k _ _ (fun h=>absurd rfl h) ?_;clear k K m;refine dP ?_;go_wp2;go_ret;exact⟨rfl,r⟩
theorem fY4 (co:Int) (a:Option Addr) (n c:Nat) (w:World):(Instr.field 178 (.agg #[iV co,.slice a n c]) 1).run Tryz.prog w =.ok (.slice a n c) w:=kF
theorem fUg (id:Int) (ls:List Leg) (o:Int):evtB ⟨true,⟨id,ls⟩,o⟩=[[toB 1],kP id ls].flatten:=by
 rw[show evtB ⟨true,⟨id,ls⟩,o⟩=[toB 1]++kP id ls from rfl];simp
theorem fXj (id:Int) (ls:List Leg) (o:Int):evtB ⟨false,⟨id,ls⟩,o⟩=[[toB 2],hiB id 8,[toB o]].flatten:=by
 rw[show evtB ⟨false,⟨id,ls⟩,o⟩=[toB 2]++hiB id 8++[toB o] from rfl];simp
theorem fPk (x:Value) (d:Evt) (w:World) (hx:evtR.V w x d) (hv:d.vote=true) (hok:evtF d=0) :
  cL 117 #[x] w fun e w'=>∃v F,e =.returned v∧bytesR.O w' w.heap.size F v (evtB d)∧aa w w':=by
 obtain⟨a,c,rfl,G⟩:=pF hx;obtain⟨b,⟨id,ls⟩,o⟩:=d;dsimp only at G hv ⊢;subst hv;clear hx;have s:=(zR hok).1;have Z:ls.length≤8:=(fAu s).2.2.1;have HD:Hid (evtB ⟨true,⟨id,ls⟩,o⟩=[[toB 1],kP id ls].flatten):=fUg id ls o;have a0:(kP id ls).length≤96:=by rw[rT];omega
 have H:Hid ([[toB 1],kP id ls].flatten.length≤1073741824):=by simp only[Hid,List.flatten_cons,List.flatten_nil,List.length_append,List.length_cons,List.length_nil];omega
 have HC:Hid (bW w fun W=>cL 144 #[.agg #[iV id,.slice a ls.length c]] W fun e w'=>∃v F,e =.returned (.agg #[iV 0,v])∧bytesR.O w' W.heap.size F v (kP id ls)∧aa W w'):=fun W hW=>by
  refine(fN5 _ ⟨id,ls⟩ W ⟨_,rfl,kE G hW⟩).mono ?_;rintro e w' ⟨v,F,rfl,M,hb⟩;have e1:fYa ⟨id,ls⟩=⟨0,kP id ls⟩:=if_pos s;rw[e1] at M;obtain⟨u,F1,rfl,h1,h2⟩:=M;exact⟨_,F1,rfl,h1,hb⟩
 generalize evtB ⟨true,⟨id,ls⟩,o⟩=R at *;clear hok s Z G;generalize kP id ls=I at *;generalize ls.length=n at *;have a1:=fY4;go_enter Tryz.func117,Tryz.ntmps117;go_wp2;refine wp_region_noPanic ?_;refine fB (fun W=>aa w W∧cW W w.heap.size 0 (.bool true)∧cI W w.heap.size 1 id∧ah W w.heap.size 2 a n c∧cI W w.heap.size 3 o) 8 kF ⟨hE,by simp[go_sem],sG,by simp[go_sem],sG⟩ (fun hS=>?_);refine tY 2 ?_;refine tY 3 ?_;obtain⟨D,y⟩:∃D,D=(w.alloc (.cells #[.bool true,iV id,.slice a n c,iV o] 124)).drew:=⟨_,rfl⟩
 have a2:w.heap.size<D.heap.size:=by rw[y];simp
 rw[←y] at hS ⊢;clear y;refine uS 0 rfl (fun K k=>?_);go_simp;have j:aa D (D.alloc (.cells #[iV 1] 2)):=hE;have p:=And.intro (bS hS.1 j) (kS4 j hS.2);refine k _ _ (fun _=>p) ?_;clear k K;try simp only[jX]
 refine uS 1 rfl (fun K k=>?_);go_simp;refine(zD _ [1] _ (fZo (g:=D.heap.size) sG) (by simp)).mono ?_;rintro e w2 ⟨v2,F2,rfl,N,z⟩;have l:=And.intro (bS p.1 z) (kS4 z p.2);have A:bytesR.V w2 v2 [toB 1]:=bytesR.ofO N;obtain⟨p2,q2,rfl⟩:=fF A;refine k _ _ (fun _=>l) ?_;clear k K p z N j hS;try simp only[jX]
 refine uS 4 rfl (fun K k=>?_);go_simp;refine(HC.out _ l.1).mono ?_;rintro e J ⟨v3,F3,rfl,T,q⟩;have r:=And.intro (bS l.1 q) (kS4 q l.2);replace A:=bytesR.below A q;have E:=bytesR.ofO T;obtain⟨p3,q3,rfl⟩:=fF E;refine k _ _ (fun _=>r) ?_;clear k K l q T HC;try simp only[jX]
 refine tY 5 ?_;refine uS 6 rfl (fun K k=>?_);go_simp;have j:aa J (J.alloc (.cells #[.slice p2 [toB 1].length q2,.slice p3 I.length q3] 23)):=hE;have m:=And.intro (bS r.1 j) (kS4 j r.2);replace A:=bytesR.below A j;replace E:=bytesR.below E j;refine k _ _ (fun _=>m) ?_;clear k K r j;try simp only[jX]
 refine uS 7 rfl (fun K k=>?_);go_simp;refine(pR _ [[toB 1],I] _ (fNm (g:=J.heap.size) sG sG A E) H.out).mono ?_;rintro e U ⟨v5,X,rfl,Y,B⟩;have C:=And.intro (bS m.1 B) (kS4 B m.2);have L:aa w U:=C.1;have HO:Hid (bytesR.O U w.heap.size X v5 [[toB 1],I].flatten):=bytesR.base Y (m.1.size);refine k _ _ (fun _=>C) ?_;clear k K m B Y A E;try simp only[jX]
 refine uS 8 rfl (fun K k=>?_);go_simp;refine k _ _ (fun h=>absurd rfl h) ?_;clear k K C;refine dP ?_;go_wp2;go_ret;exact⟨_,X,rfl,by rw[HD.out];exact HO.out,L⟩
def fB7 (id o:Int):Nat→(Nat→Value)→Nat→Nat→World→Prop
 | 0,y,_,_,w=>∃B,y 3 =.slice (some ⟨B,0,none⟩) 1 1∧w.cell? ⟨B,0,none⟩=some (.int .i64 2)
 | 1,y,_,_,w=>bytesR.V w (y 4) [toB 2]
 | 5,y,_,_,w=>bytesR.V w (y 8) (hiB id 8)
 | 8,y,_,_,w=>∃B,y 11 =.slice (some ⟨B,0,none⟩) 1 1∧w.cell? ⟨B,0,none⟩=some (.int .i64 o)
 | 9,y,_,_,w=>bytesR.V w (y 12) [toB o]
 | 10,y,_,_,w=>bytessR.V w (y 13) [[toB 2],hiB id 8,[toB o]]
 | 11,y,lo,_,w=>∃F,bytesR.O w lo F (y 14) [[toB 2],hiB id 8,[toB o]].flatten
 | _,_,_,_,_=>True
theorem fHa (x:Value) (d:Evt) (w:World) (hx:evtR.V w x d) (hv:d.vote=false) :
  cL 120 #[x] w fun e w'=>∃v F,e =.returned v∧bytesR.O w' w.heap.size F v (evtB d)∧aa w w':=by
 obtain⟨a,c,rfl,Y⟩:=pF hx;obtain⟨b,⟨id,ls⟩,o⟩:=d;dsimp only at Y hv ⊢;subst hv;clear hx Y;have HD:Hid (evtB ⟨false,⟨id,ls⟩,o⟩=[[toB 2],hiB id 8,[toB o]].flatten):=fXj id ls o;have M:Hid ([[toB 2],hiB id 8,[toB o]].flatten.length≤1073741824):=by simp only[Hid,List.flatten_cons,List.flatten_nil,List.length_append,gH,List.length_cons,List.length_nil];omega
 generalize evtB ⟨false,⟨id,ls⟩,o⟩=R at *;generalize ls.length=n at *;go_enter Tryz.func120,Tryz.ntmps120;go_wp2;obtain⟨q,k⟩:∃q,q=w.alloc (.cells #[.bool false,iV id,.slice a n c,iV o] 124):=⟨_,rfl⟩
 have y0:cW q w.heap.size 0 (.bool false):=cQ k;have y1:cI q w.heap.size 1 id:=cQ k;have y2:ah q w.heap.size 2 a n c:=cQ k;have y3:cI q w.heap.size 3 o:=cQ k;have N:aa w q:=by rw[k];exact hE
 have zq:w.heap.size<q.heap.size:=by rw[k];simp
 rw[←k];clear k;refine wp_region_noPanic ?_;refine fB (fun W=>aa q W∧cW W w.heap.size 0 (.bool false)∧cI W w.heap.size 1 id∧ah W w.heap.size 2 a n c∧cI W w.heap.size 3 o) 12 kF ⟨hE,cK hE y0,cK hE y1,cK hE y2,cK hE y3⟩ (fun hS=>?_);refine tY 2 ?_;refine tY 3 ?_;refine tY 4 ?_;refine tY 6 ?_;refine tY 7 ?_;have D:aa q q.drew:=Below.drew (bR _ _);generalize q.drew=W0 at *;have Z:=D.size;have a0:w.heap.size<W0.heap.size:=oM;refine uT [(0,3),(1,4),(5,8),(8,11),(9,12),(10,13),(11,14)] (fB7 id o) kF hS (fun W W' h hb=>⟨bS h.1 hb,cK hb h.2.1,cK hb h.2.2.1,cK hb h.2.2.2.1,cK hb h.2.2.2.2⟩) ?_ ?_ ?_
 ·
  intro p E;simp only[List.mem_cons,List.not_mem_nil,or_false] at E;rcases E with rfl|rfl|rfl|rfl|rfl|rfl|rfl
  all_goals
   intro y y' lo hi W W' h a2 hb e he;simp only[fB7] at h ⊢;rw[e]
  ·exact⟨h.choose,h.choose_spec.1,cK hb h.choose_spec.2⟩
  ·exact bytesR.below h hb
  ·exact bytesR.below h hb
  ·exact⟨h.choose,h.choose_spec.1,cK hb h.choose_spec.2⟩
  ·exact bytesR.below h hb
  ·exact bytessR.below h hb
  exact⟨h.choose,bytesR.keep h.choose_spec hb⟩
 ·
  intro p E;simp only[List.mem_cons,List.not_mem_nil,or_false] at E;rcases E with rfl|rfl|rfl|rfl|rfl|rfl|rfl
  all_goals
   refine⟨_,rfl,rfl,?_⟩;intro y W lo hi G s l z K j;clear z
  ·clear l;refine⟨?_⟩;simp only[over,jX,lZ] at j ⊢;go_simp;refine j _ _ hE ?_;simp only[fB7,updV];exact⟨_,rfl,by simp[go_sem]⟩
  ·have r:=(l (0,3) (by simp) kF).2;clear l;simp only[fB7] at r;obtain⟨B,C,r⟩:=r;refine⟨?_⟩;simp only[over,jX,lZ] at j ⊢;simp only[C] at j ⊢;go_simp;refine(zD _ [2] _ (fZo (g:=B) r) (by simp)).mono ?_;rintro e T ⟨U,H,rfl,A,m⟩;refine j _ _ m ?_;simp only[fB7,updV];exact bytesR.ofO (by simpa using A)
  ·clear l;refine⟨?_⟩;simp only[over,jX,lZ] at j ⊢;go_simp;refine(fCz id _).mono ?_;rintro e T ⟨U,H,rfl,A,m⟩;refine j _ _ m ?_;simp only[fB7,updV];exact bytesR.ofO (by simpa using A)
  ·clear l;refine⟨?_⟩;simp only[over,jX,lZ] at j ⊢;go_simp;refine j _ _ hE ?_;simp only[fB7,updV];exact⟨_,rfl,by simp[go_sem]⟩
  ·have r:=(l (8,11) (by simp) kF).2;clear l;simp only[fB7] at r;obtain⟨B,C,r⟩:=r;refine⟨?_⟩;simp only[over,jX,lZ] at j ⊢;simp only[C] at j ⊢;go_simp;refine(zD _ [o] _ (fZo (g:=B) r) (by simp)).mono ?_;rintro e T ⟨U,H,rfl,A,m⟩;refine j _ _ m ?_;simp only[fB7,updV];exact bytesR.ofO (by simpa using A)
  ·have I:=(l (1,4) (by simp) kF).2;have J:=(l (5,8) (by simp) kF).2;have L:=(l (9,12) (by simp) kF).2;clear l;simp only[fB7] at I J L;refine⟨?_⟩;simp only[over,jX,lZ] at j ⊢;obtain⟨a1,n1,C⟩:=fF I;obtain⟨a5,n5,e5⟩:=fF J;obtain⟨a9,n9,e9⟩:=fF L;rw[C] at I;rw[e5] at J;rw[e9] at L;simp only[C,e5,e9] at j ⊢;go_simp;refine j _ _ hE ?_;simp only[fB7,updV];exact fTz (g:=W.heap.size) sG sG sG (bytesR.below I hE) (bytesR.below J hE) (bytesR.below L hE)
  have r:=(l (10,13) (by simp) kF).2;clear l;simp only[fB7] at r;refine⟨?_⟩;simp only[over,jX,lZ] at j ⊢;go_simp;refine(pR _ _ _ r M.out).mono ?_;rintro e T ⟨U,H,rfl,A,m⟩;refine j _ _ m ?_;simp only[fB7,updV];exact⟨H,by simpa using A⟩
 refine⟨_,rfl,?_⟩;intro y W lo hi G s l z K j;have h1:=l (11,14) (by simp);clear l z;simp only[fB7] at h1;obtain⟨b1,F,o1⟩:=h1;have HO:Hid (bytesR.O W w.heap.size F (y 14) [[toB 2],hiB id 8,[toB o]].flatten):=bytesR.base o1 (by have:=b1.1;omega);have X:aa w W:=bS N (bS D s);clear o1 b1 G hS s;refine⟨?_⟩;simp only[over,jX,lZ];go_simp;refine j _ _ ?_;clear j K;refine NoPanic.normal ?_;go_wp2;go_ret;exact⟨_,F,rfl,by rw[HD.out];exact HO.out,X⟩
theorem fTy (x:Value) (d:Evt) (w:World) (hx:evtR.V w x d) (hok:evtF d=0) :
  cL 100 #[x] w fun e w'=>∃v F,e =.returned v∧bytesR.O w' w.heap.size F v (evtB d)∧aa w w':=by
 have s:Hid (bW w fun W=>evtR.V W x d):=fun W q=>evtR.below hx q
 obtain⟨a,c,rfl,H⟩:=pF hx;clear hx H;generalize d.con.legs.length=n at *;cases p:d.vote;rotate_left
 ·
  have y:Hid (bW w fun W=>RI 71 #[.agg #[.bool true,iV d.con.id,.slice a n c,iV d.out]] W (.agg #[.func (.func 116) #[] #[],.func (.func 117) #[] #[],.func (.func 118) #[] #[]])):=fun W q=>by have h:=fBe _ d W (s.out W q) p;rw[p] at h;exact h
  have z:Hid (bW w fun W=>cL 117 #[.agg #[.bool true,iV d.con.id,.slice a n c,iV d.out]] W fun e w'=>∃v F,e =.returned v∧bytesR.O w' W.heap.size F v (evtB d)∧aa W w'):=fun W q=>by have h:=fPk _ d W (s.out W q) p hok;rw[p] at h;exact h
  have D:=fH8;have I:=enters_of Tryz.func117 kF rfl;clear hok;generalize evtB d=R at *;clear s p;go_enter Tryz.func100,Tryz.ntmps100;go_wp2;refine wp_region_noPanic ?_;refine fB (fun W=>aa w W∧cW W w.heap.size 0 (.bool true)∧cI W w.heap.size 1 d.con.id∧ah W w.heap.size 2 a n c∧cI W w.heap.size 3 d.out) 5 kF ⟨hE,by simp[go_sem],sG,by simp[go_sem],sG⟩ (fun hS=>?_);refine tY 0 ?_;refine tY 3 ?_;refine uS 1 rfl (fun K k=>?_);go_simp;refine(y.out _ hS.1).mono ?_;rintro e J ⟨rfl,l⟩;have g:=And.intro (bS hS.1 l) (kS4 l hS.2);refine k _ _ (fun _=>g) ?_;clear k K l y hS;try simp only[jX]
  refine tY 2 ?_;refine uS 4 rfl (fun K k=>?_);go_simp;refine(z.out _ g.1).mono ?_;rintro e A ⟨E,B,rfl,C,j⟩;have r:aa w A:=bS g.1 j;have G:Hid (bytesR.O A w.heap.size B E R):=bytesR.base C g.1.size;have m:=And.intro (bS g.1 j) (kS4 j g.2);refine k _ _ (fun _=>m) ?_;clear k K j z g C;try simp only[jX]
  refine uS 5 rfl (fun K k=>?_);go_simp;refine k _ _ (fun h=>absurd rfl h) ?_;clear k K m;refine dP ?_;go_wp2;go_ret;exact⟨_,B,rfl,G.out,r⟩
 have y:Hid (bW w fun W=>RI 71 #[.agg #[.bool false,iV d.con.id,.slice a n c,iV d.out]] W (.agg #[.func (.func 119) #[] #[],.func (.func 120) #[] #[],.func (.func 121) #[] #[]])):=fun W q=>by have h:=fC6 _ d W (s.out W q) p;rw[p] at h;exact h
 have z:Hid (bW w fun W=>cL 120 #[.agg #[.bool false,iV d.con.id,.slice a n c,iV d.out]] W fun e w'=>∃v F,e =.returned v∧bytesR.O w' W.heap.size F v (evtB d)∧aa W w'):=fun W q=>by have h:=fHa _ d W (s.out W q) p;rw[p] at h;exact h
 have D:=fH8;have I:=enters_of Tryz.func120 kF rfl;clear hok;generalize evtB d=R at *;clear s p;go_enter Tryz.func100,Tryz.ntmps100;go_wp2;refine wp_region_noPanic ?_;refine fB (fun W=>aa w W∧cW W w.heap.size 0 (.bool false)∧cI W w.heap.size 1 d.con.id∧ah W w.heap.size 2 a n c∧cI W w.heap.size 3 d.out) 5 kF ⟨hE,by simp[go_sem],sG,by simp[go_sem],sG⟩ (fun hS=>?_);refine tY 0 ?_;refine tY 3 ?_;refine uS 1 rfl (fun K k=>?_);go_simp;refine(y.out _ hS.1).mono ?_;rintro e J ⟨rfl,l⟩;have g:=And.intro (bS hS.1 l) (kS4 l hS.2);refine k _ _ (fun _=>g) ?_;clear k K l y hS;try simp only[jX]
 refine tY 2 ?_;refine uS 4 rfl (fun K k=>?_);go_simp;refine(z.out _ g.1).mono ?_;rintro e A ⟨E,B,rfl,C,j⟩;have r:aa w A:=bS g.1 j;have G:Hid (bytesR.O A w.heap.size B E R):=bytesR.base C g.1.size;have m:=And.intro (bS g.1 j) (kS4 j g.2);refine k _ _ (fun _=>m) ?_;clear k K j z g C;try simp only[jX]
 refine uS 5 rfl (fun K k=>?_);go_simp;refine k _ _ (fun h=>absurd rfl h) ?_;clear k K m;refine dP ?_;go_wp2;go_ret;exact⟨_,B,rfl,G.out,r⟩
end
end Go.Proofs.YtpibfdebfacooaaGreat

import Derived.Test.YtpibfdebfacooaaGreatPrnWriteEventLaw27
import Derived.Deep.Slices
import Derived.Deep.Strs
set_option maxHeartbeats 16000000
set_option maxRecDepth 100000
set_option linter.all false
namespace Go.Proofs.YtpibfdebfacooaaGreat
open Go.RowKit
attribute [local go_sem ↓] Go.wp_at_zero Go.wp_at_succ
attribute [local go_sem] cW cI ah cN iV aj
section
variable [dQ Bal] [iH Bal] [dQ Logg] [iH Logg] [dQ Jrn] [iH Jrn] [dQ Mrk] [iH Mrk] [dQ Leg] [iH Leg] [dQ Cont] [iH Cont] [dQ Shd] [iH Shd] [dQ JrnR] [iH JrnR] [dQ Evt] [iH Evt] [dQ EvtsR] [iH EvtsR] [dQ EvtR] [iH EvtR] [dQ BytesR] [iH BytesR] [dQ ContR] [iH ContR] [dQ LoggR] [iH LoggR] [dQ RecsR] [iH RecsR] [dQ Rw] [iH Rw] [dQ Ledg] [iH Ledg] [dQ LedgR] [iH LedgR] [dQ OutcR] [iH OutcR] [dQ ShdR] [iH ShdR]
theorem fZb {xs:List Byte} (h:(evsR xs).code=0):(evsR xs).evts.length≤60:=by
 unfold evsR at h ⊢;split at h
 ·
  rename_i h0;split at h
  ·rename_i h1;rw[if_pos h0,if_pos h1];unfold evL;rw[List.length_map];exact h1
  exact absurd h (by decide)
 exact absurd h (by decide)
theorem fUd {l:Logg} (h:(evsD l).code=0):(evsD l).evts.length≤60:=by
 unfold evsD at h ⊢;split at h
 ·rename_i h0;rw[if_pos h0];exact fZb h
 exact absurd h (by decide)
theorem gAn {l:Logg} {e:Evt} {b:Bool} (h0:logF l=0) (he:1≤(evtB e).length∧(evtB e).length≤500) (h:logF (uM l e)=0):lgZ b (appD l (evtB e))=⟨0,fG5 (uM l e) b⟩:=by
 have h2:logF ⟨l.synced,l.loose++gK (evtB e)⟩=0:=h;have h1:appD l (evtB e)=⟨0,uM l e⟩:=by unfold appD;rw[if_pos h0,if_pos he,if_pos h2];rfl
 rw[h1];unfold lgZ fG5;cases b with
 | false=>rw[if_neg (fun h=>absurd h.1 Bool.false_ne_true),if_neg Bool.false_ne_true]
 | true=>rw[if_pos ⟨rfl,rfl⟩,if_pos rfl];unfold fHh;rw[if_pos h]
theorem fYq {l:Logg} {e:Evt} {b:Bool} (h0:logF l=0) (he:1≤(evtB e).length∧(evtB e).length≤500) (h:¬logF (uM l e)=0):lgZ b (appD l (evtB e))=fA5 2:=by
 have h2:¬logF ⟨l.synced,l.loose++gK (evtB e)⟩=0:=h;have h1:appD l (evtB e)=fA5 2:=by unfold appD;rw[if_pos h0,if_pos he,if_neg h2]
 rw[h1];unfold lgZ;exact if_neg (fun h=>absurd h.2 (by decide))
theorem fBq {l:Logg} (h:(evsD l).code=0):logF l=0:=by
 have:=fP0 h;unfold logF;exact if_neg oM
theorem fQa (x z:Value) (d:Jrn) (ev:Evt) (b:Bool) (w:World) (hx:jrnR.V w x d) (hz:evtR.V w z ev) (hn:pM d≤1048576) :
  cL 21 #[x,z,.bool b] w (JrE w (wrtD d ev b)):=by
 have HR:Hid (bW w fun W=>cL 13 #[x] W (JrE W (repD d))):=fun W hW=>fUt x d W (jrnR.below hx hW) hn
 have HF:Hid (bW w fun W=>RI 52 #[z] W (iV (evtF ev))):=fun W hW=>fFi z ev W (evtR.below hz hW)
 have a6:Hid (∀W y s,aa w W→shdR.V W y s→cL 36 #[y,z] W (rJ W (doE s ev))):=fun W y s hW h1=>fPx y z s ev W h1 (evtR.below hz hW)
 obtain⟨a0,c0,b1,d1,b2,d2,rfl,bb,b3⟩:=vC hx;have aP:gJ d.log≤1048576:=by unfold pM at hn;omega
 have a5:Hid (bW w fun W=>cL 35 #[.agg #[iV d.idx,.slice a0 d.start.length c0,.slice b1 d.log.synced.length d1,.slice b2 d.log.loose.length d2]] W fun e w'=>∃v F,e =.returned v∧evtsRR.O w' W.heap.size F v (evsD d.log)∧aa W w'):=fun W hW=>fLt _ d W (jrnR.below hx hW) aP
 have a9:Hid (evtF ev=0→∀W,aa w W→cL 53 #[.agg #[.slice b1 d.log.synced.length d1,.slice b2 d.log.loose.length d2],z,.bool b] W (LgE W (lgZ b (appD d.log (evtB ev))))):=fun h W hW=>fX2 _ z d.log ev b W (loggR.below b3 hW) (evtR.below hz hW) h aP
 have ab:Hid (¬(repT d).code=0→wrtD d ev b=repD d):=fun h=>(gAw rfl h).trans (fQq rfl h).symm
 have ac:Hid ((repT d).code=0→¬evtF ev=0→wrtD d ev b=errJ (evtF ev)):=fun h h1=>gAx h h1
 have B:Hid (∀s c,(repT d).code=0→evtF ev=0→(repT d).shard=s→(doE s ev).code=c→¬c=0→wrtD d ev b=errJ c):=fun s c h h1 h2 E J=>gAy h h1 h2 E J
 have C:Hid (∀s,(repT d).code=0→evtF ev=0→(repT d).shard=s→(doE s ev).code=0→(evsD d.log).evts.length=60→wrtD d ev b=errJ 2):=fun s h h1 h2 E J=>gAz h h1 h2 E oM
 have l:Hid (∀s,(repT d).code=0→evtF ev=0→(repT d).shard=s→(doE s ev).code=0→¬(evsD d.log).evts.length=60→¬(lgZ b (appD d.log (evtB ev))).code=0→wrtD d ev b=errJ (lgZ b (appD d.log (evtB ev))).code):=fun s h h1 h2 E J h5=>by
  have K:=(fAq h).2;have e1:=fUd K;have N:1≤(evtB ev).length∧(evtB ev).length≤500:=⟨(fJl h1).1,(fBr h1).2⟩;by_cases L:logF (uM d.log ev)=0
  ·rw[gAn (fBq K) N L] at h5;exact absurd rfl h5
  rw[fYq (fBq K) N L];exact gA0 h h1 h2 E oM L
 have m:Hid (∀s t,(repT d).code=0→evtF ev=0→(repT d).shard=s→(doE s ev).code=0→(doE s ev).shard=t→¬(evsD d.log).evts.length=60→(lgZ b (appD d.log (evtB ev))).code=0→wrtD d ev b=⟨0,⟨d.idx,d.start,(lgZ b (appD d.log (evtB ev))).log⟩,t⟩):=fun s t h h1 h2 E J h5 h6=>by
  have K:=(fAq h).2;have e1:=fUd K;have N:1≤(evtB ev).length∧(evtB ev).length≤500:=⟨(fJl h1).1,(fBr h1).2⟩;by_cases L:logF (uM d.log ev)=0
  ·rw[gAn (fBq K) N L];exact gA1 h h1 h2 E J oM L
  rw[fYq (fBq K) N L] at h6;exact absurd h6 (by decide)
 have ad:Hid (¬(repT d).code=0→¬(repD d).code=0):=fun h h1=>h ((fVt d).symm.trans h1)
 have ag:Hid ((repT d).code=0→repD d=⟨0,d,(repT d).shard⟩):=fun h=>fVu h rfl
 obtain⟨ae,ce,rfl,_⟩:=pF hz;clear hx hz hn bb b3 aP;obtain⟨n0,aQ⟩:∃n0,d.start.length=n0:=⟨_,rfl⟩
 obtain⟨n1,ax⟩:∃n1,d.log.synced.length=n1:=⟨_,rfl⟩
 obtain⟨n2,ay⟩:∃n2,d.log.loose.length=n2:=⟨_,rfl⟩
 obtain⟨ne,aR⟩:∃ne,ev.con.legs.length=ne:=⟨_,rfl⟩
 have HN:Hid (d.start.length=n0∧d.log.synced.length=n1∧d.log.loose.length=n2):=⟨aQ,ax,ay⟩;rw[aQ,ax,ay] at HR a5 ⊢;rw[ax,ay,aR] at a9;rw[aR] at HF a6 ⊢;clear aQ ax ay aR;generalize wrtD d ev b=Z at *;generalize evtF ev=ef at *;generalize evsD d.log=ES at *;generalize lgZ b (appD d.log (evtB ev))=LZ at *;obtain⟨R0,b4⟩:∃R0,repT d=R0:=⟨_,rfl⟩
 rw[b4] at ab ac B C l m ag ad;clear b4;obtain⟨rc,rv,s⟩:=R0;dsimp only at ab ac B C l m ag ad;generalize repD d=R at *;go_enter Tryz.func21,Tryz.ntmps21;go_wp2_with fail;refine(HR.out _ hE).mono ?_;rintro e g ⟨v1,F1,rfl,o1,j⟩;have az:=bT w j;have y0:cI g w.heap.size 0 d.idx:=cK j sG;have y1:ah g w.heap.size 1 a0 n0 c0:=cK j sG;have y2:ah g w.heap.size 2 b1 n1 d1:=cK j sG;have y3:ah g w.heap.size 3 b2 n2 d2:=cK j sG;have K:cW g (w.heap.size+1) 0 (.bool ev.vote):=cK j sG;have e1:cI g (w.heap.size+1) 1 ev.con.id:=cK j sG;have N:ah g (w.heap.size+1) 2 ae ne ce:=cK j sG;have L:cI g (w.heap.size+1) 3 ev.out:=cK j sG;have Y:cI g (w.heap.size+2) 0 0:=cK j sG;have r1:cI g (w.heap.size+2) 1 0:=cK j sG;have r2:cN g (w.heap.size+2) 2:=cK j sG;have r3:cN g (w.heap.size+2) 3:=cK j sG;have r4:cN g (w.heap.size+2) 4:=cK j sG;have r5:cI g (w.heap.size+2) 5 0:=cK j sG;have r6:cN g (w.heap.size+2) 6:=cK j sG;have r7:cN g (w.heap.size+2) 7:=cK j sG;have r8:cN g (w.heap.size+2) 8:=cK j sG
 have r9:cN g (w.heap.size+2) 9:=cK j sG;have k:cN g (w.heap.size+2) 10:=cK j sG;have rf:aq g (w.heap.size+2):=ap j;have hz:w.heap.size+3≤g.heap.size:=by have:=j.size;simp at this;omega
 replace o1:jrnRR.O g (w.heap.size+3) F1 v1 R:=jrnRR.base o1 (by simp);clear j HR;have z2:w.heap.size+2<g.heap.size:=oM;have bo:w.heap.size<g.heap.size:=oM;have bp:w.heap.size+1<g.heap.size:=oM;have a2:w.heap.size≤w.heap.size+2:=oM;by_cases aA:rc=0;rotate_left
 ·
  have HD:Hid (Z=R∧¬R.code=0):=⟨ab.out aA,ad.out aA⟩;clear ab ac B C l m HF a6 a5 a9 ag ad aA;obtain⟨u0,u1,u2,x1,x2,x3,x4,x5,i0,i1,i2,j1,j2,j3,j4,j5,rfl⟩:=zT (jrnRR.ofO o1);have b5:Hid (jrnRR.O g (w.heap.size+3) F1 (.agg #[iV R.code,iV R.jrn.idx,.slice u0 R.jrn.start.length i0,.slice u1 R.jrn.log.synced.length i1,.slice u2 R.jrn.log.loose.length i2,iV R.shard.idx,.slice x1 R.shard.bals.length j1,.slice x2 R.shard.votes.length j2,.slice x3 R.shard.held.length j3,.slice x4 R.shard.done.length j4,.slice x5 R.shard.appl.length j5]) R):=o1;have hd:(R.code !=0)=true:=by simp[HD.out.2]
  have HZ:Hid (Z=R):=HD.out.1;clear o1 HD;generalize R.code=k0 at *;generalize R.jrn.idx=k1 at *;generalize R.shard.idx=k2 at *;generalize R.jrn.start.length=bc at *;generalize R.jrn.log.synced.length=bd at *;generalize R.jrn.log.loose.length=be at *;generalize R.shard.bals.length=v1 at *;generalize R.shard.votes.length=v2 at *;generalize R.shard.held.length=v3 at *;generalize R.shard.done.length=v4 at *;generalize R.shard.appl.length=v5 at *;have e1:¬g.heap.size=w.heap.size+2:=oM;have N:¬w.heap.size+2=g.heap.size:=oM;go_wp2;refine bodyPost_ret (v:=.agg #[iV k0,iV k1,.slice u0 bc i0,.slice u1 bd i1,.slice u2 be i2,iV k2,.slice x1 v1 j1,.slice x2 v2 j2,.slice x3 v3 j3,.slice x4 v4 j4,.slice x5 v5 j5]) (by simp[results,Tryz.results21,go_sem,Y,r1,r2,r3,r4,r5,r6,r7,r8,r9,k,rf,z2]) rfl ?_;rw[HZ.out];first
   | exact⟨_,F1,rfl,jrnRR.base (jrnRR.alloc (fSy jrnRR b5.out oM _ _ _ _ _ _ _ _ _ _ _) _) oM,bA (qU az a2 _ _ _ _ _ _ _ _ _ _ _) _⟩
   | exact⟨_,F1,rfl,jrnRR.base (fSy jrnRR (jrnRR.alloc b5.out _) oM _ _ _ _ _ _ _ _ _ _ _) oM,qU (bA az _) a2 _ _ _ _ _ _ _ _ _ _ _⟩
 subst aA;have hR:=ag.out rfl;rw[hR] at o1;have ak:Hid _:=ac.out rfl;have al:Hid (∀c,ef=0→(doE s ev).code=c→¬c=0→Z=errJ c):=fun c h1 E J=>B.out s c rfl h1 rfl E J
 have p:Hid (ef=0→(doE s ev).code=0→ES.evts.length=60→Z=errJ 2):=fun h1 E J=>C.out s rfl h1 rfl E J
 have q:Hid (ef=0→(doE s ev).code=0→¬ES.evts.length=60→¬LZ.code=0→Z=errJ LZ.code):=fun h1 E J h5=>l.out s rfl h1 rfl E J h5
 have r:Hid (ef=0→(doE s ev).code=0→¬ES.evts.length=60→LZ.code=0→Z=⟨0,⟨d.idx,d.start,LZ.log⟩,(doE s ev).shard⟩):=fun h1 E J h5=>m.out s _ rfl h1 rfl E rfl J h5
 clear ab ac B C l m ag ad hR;obtain⟨k0,l0,l1,p1,p2,p3,p4,p5,i0,j0,j1,q1,q2,q3,q4,q5,rfl⟩:=zT (jrnRR.ofO o1);obtain⟨_,_,_,_,_,_,_,_,FJ,FS,he,oj,os,b6,bf⟩:=o1;simp only[Value.agg.injEq,Array.mk.injEq,List.cons.injEq,and_true,true_and] at he;obtain⟨rfl,rfl,rfl,rfl,rfl,rfl,rfl,rfl⟩:=he;obtain⟨_,_,_,FB,FL,he,ob,_,_,b7⟩:=oj;simp only[Value.agg.injEq,Array.mk.injEq,List.cons.injEq,and_true,true_and] at he;obtain⟨rfl,rfl,rfl⟩:=he;dsimp only at ob os ⊢;have am:Hid (∀b,FB b→¬FS b):=fun b h1 h2=>b6 b ((b7 b).2 (.inl h1)) h2
 have aB:Hid (balsR.O g (w.heap.size+3) FB (.slice k0 d.start.length i0) d.start):=ob;have b8:Hid (shdR.O g (w.heap.size+3) FS (.agg #[iV s.idx,.slice p1 s.bals.length q1,.slice p2 s.votes.length q2,.slice p3 s.held.length q3,.slice p4 s.done.length q4,.slice p5 s.appl.length q5]) s):=os;clear ob os b6 bf b7;rw[HN.out.1] at aB ⊢;rw[HN.out.2.1,HN.out.2.2];generalize s.bals.length=m1 at *;generalize s.votes.length=m2 at *;generalize s.held.length=m3 at *;generalize s.done.length=m4 at *;generalize s.appl.length=m5 at *;go_wp2_with fail;refine(HF.out _ hE).mono ?_;rintro e G ⟨rfl,n⟩;have D:=bT g n;have aC:aa w G:=bS az D;have t0:cI G g.heap.size 0 0:=cK n sG;have t1:cI G g.heap.size 1 d.idx:=cK n sG;have t2:ah G g.heap.size 2 k0 n0 i0:=cK n sG;have t3:ah G g.heap.size 3 l0 n1 j0:=cK n sG;have t4:ah G g.heap.size 4 l1 n2 j1:=cK n sG;have t5:cI G g.heap.size 5 s.idx:=cK n sG;have t6:ah G g.heap.size 6 p1 m1 q1:=cK n sG;have t7:ah G g.heap.size 7 p2 m2 q2:=cK n sG;have t8:ah G g.heap.size 8 p3 m3 q3:=cK n sG;have t9:ah G g.heap.size 9 p4 m4 q4:=cK n sG;have U:ah G g.heap.size 10 p5 m5 q5:=cK n sG;have z3:g.heap.size<G.heap.size:=wL _ _ t0
 refine kR12 D ?_ y0 y1 y2 y3 K e1 N L Y r1 r2 r3;clear y0 y1 y2 y3 K e1 N L Y r1 r2 r3;intro y0 y1 y2 y3 K e1 N L Y r1 r2 r3;refine kR7 D ?_ r4 r5 r6 r7 r8 r9 k;clear r4 r5 r6 r7 r8 r9 k;intro r4 r5 r6 r7 r8 r9 k;replace rf:=ai D z2 rf;have ao:Hid (balsR.O G (w.heap.size+3) FB (.slice k0 n0 i0) d.start):=balsR.keep aB.out D;have ar:Hid (shdR.O G (w.heap.size+3) FS (.agg #[iV s.idx,.slice p1 m1 q1,.slice p2 m2 q2,.slice p3 m3 q3,.slice p4 m4 q4,.slice p5 m5 q5]) s):=shdR.keep b8.out D;have a3:Hid (∀b,FB b→b<g.heap.size):=fun b hb=>(balsR.rng aB.out b hb).2
 clear n HF az aB b8 D;have z4:w.heap.size+2<G.heap.size:=oM;have bq:w.heap.size<G.heap.size:=oM;have br:w.heap.size+1<G.heap.size:=oM;by_cases aD:ef=0;rotate_left
 ·
  have hd:(ef !=0)=true:=by simp[aD]
  have HD:Hid (Z=errJ ef):=ak.out aD;clear ak al p q r a6 a5 a9 ao ar a3 am aD;go_wp2;refine bodyPost_ret (v:=.agg #[iV ef,iV 0,aj,aj,aj,iV 0,aj,aj,aj,aj,aj]) (by simp[results,Tryz.results21,go_sem,Y,r1,r2,r3,r4,r5,r6,r7,r8,r9,k,rf,z4]) rfl (uV HD.out ?_);exact qU aC a2 _ _ _ _ _ _ _ _ _ _ _
 subst aD;have B:Hid _:=fun c=>al.out c rfl
 have C:Hid _:=p.out rfl;have l:Hid _:=q.out rfl;have m:Hid _:=r.out rfl;have a4:Hid _:=a9.out rfl;clear ak al p q r a9;go_wp2_with fail;refine(a6.out _ _ s aC (shdR.ofO ar.out)).mono ?_;rintro e M ⟨v3,F3,rfl,o3,a1⟩;obtain⟨T,hT⟩:∃T,doE s ev=T:=⟨_,rfl⟩
 rw[hT] at o3 B C l m;clear hT a6 ar;obtain⟨tc,tv,ts⟩:=T;dsimp only at B C l m;obtain⟨x1,x2,x3,x4,x5,h1,h2,E,J,h5,g1,g2,g3,g4,g5,rfl⟩:=kR o3;have aE:Hid (shdR.O M G.heap.size F3 (.agg #[iV ts.idx,.slice x1 h1 g1,.slice x2 h2 g2,.slice x3 E g3,.slice x4 J g4,.slice x5 h5 g5]) ts):=uC o3;have aS:aa w M:=bS aC a1;refine kR12 a1 ?_ y0 y1 y2 y3 K e1 N L Y r1 r2 r3;clear y0 y1 y2 y3 K e1 N L Y r1 r2 r3;intro y0 y1 y2 y3 K e1 N L Y r1 r2 r3;refine kR7 a1 ?_ r4 r5 r6 r7 r8 r9 k;clear r4 r5 r6 r7 r8 r9 k;intro r4 r5 r6 r7 r8 r9 k;replace rf:=ai a1 z4 rf;refine kR11 a1 ?_ t0 t1 t2 t3 t4 t5 t6 t7 t8 t9 U;clear t0 t1 t2 t3 t4 t5 t6 t7 t8 t9 U;intro t0 t1 t2 t3 t4 t5 t6 t7 t8 t9 U;have au:Hid (balsR.O M (w.heap.size+3) FB (.slice k0 n0 i0) d.start):=balsR.keep ao.out a1;have bs:G.heap.size≤M.heap.size:=a1.size;have z5:w.heap.size+2<M.heap.size:=oM;have bt:w.heap.size<M.heap.size:=oM;have bu:w.heap.size+1<M.heap.size:=oM;have bv:g.heap.size<M.heap.size:=oM;clear a1 o3 aC ao;by_cases aF:tc=0;rotate_left
 ·
  have hd:(tc !=0)=true:=by simp[aF]
  have HD:Hid (Z=errJ tc):=B.out tc rfl aF;clear B C l m aE a5 a4 au a3 am aF;go_wp2;refine bodyPost_ret (v:=.agg #[iV tc,iV 0,aj,aj,aj,iV 0,aj,aj,aj,aj,aj]) (by simp[results,Tryz.results21,go_sem,Y,r1,r2,r3,r4,r5,r6,r7,r8,r9,k,rf,z5]) rfl (uV HD.out ?_);exact bA (qU aS a2 _ _ _ _ _ _ _ _ _ _ _) _
 subst aF;have p:Hid _:=C.out rfl;have q:Hid _:=l.out rfl;have r:Hid _:=m.out rfl;clear B C l m;go_wp2_with fail;refine(a5.out _ hE).mono ?_;rintro e X ⟨v4,F4,rfl,o4,H⟩;obtain⟨ec,es⟩:=ES;obtain⟨u4,F5,rfl,o4,_⟩:=o4;dsimp only at o4 p q r ⊢;obtain⟨af,cf,rfl⟩:=vO (evtsR.ofO o4);have A:=bT M H;have aG:aa w X:=bS aS A;have aH:cI X M.heap.size 0 0:=cK H sG;have aT:cI X M.heap.size 1 tv:=cK H sG;have aU:cI X M.heap.size 2 ts.idx:=cK H sG;have aV:ah X M.heap.size 3 x1 h1 g1:=cK H sG;have aW:ah X M.heap.size 4 x2 h2 g2:=cK H sG;have aX:ah X M.heap.size 5 x3 E g3:=cK H sG;have aY:ah X M.heap.size 6 x4 J g4:=cK H sG;have aZ:ah X M.heap.size 7 x5 h5 g5:=cK H sG;have z6:M.heap.size<X.heap.size:=wL _ _ aH;refine kR12 A ?_ y0 y1 y2 y3 K e1 N L Y r1 r2 r3;clear y0 y1 y2 y3 K e1 N L Y r1 r2 r3;intro y0 y1 y2 y3 K e1 N L Y r1 r2 r3;refine kR7 A ?_ r4 r5 r6 r7 r8 r9 k;clear r4 r5 r6 r7 r8 r9 k;intro r4 r5 r6 r7 r8 r9 k;replace rf:=ai A z5 rf;refine kR11 A ?_ t0 t1 t2 t3 t4 t5 t6 t7 t8 t9 U;clear t0 t1 t2 t3 t4 t5 t6 t7 t8 t9 U;intro t0 t1 t2 t3 t4 t5 t6 t7 t8 t9 U;have aI:Hid (shdR.O X G.heap.size F3 (.agg #[iV ts.idx,.slice x1 h1 g1,.slice x2 h2 g2,.slice x3 E g3,.slice x4 J g4,.slice x5 h5 g5]) ts):=shdR.keep aE.out A;have aJ:Hid (∀b,F3 b→b<M.heap.size):=fun b hb=>(shdR.rng aE.out b hb).2
 have av:Hid (balsR.O X (w.heap.size+3) FB (.slice k0 n0 i0) d.start):=balsR.keep au.out A;clear H o4 a5 aE aS au A;have z7:w.heap.size+2<X.heap.size:=oM;have bw:w.heap.size<X.heap.size:=oM;have bx:w.heap.size+1<X.heap.size:=oM;have bz:g.heap.size<X.heap.size:=oM;generalize es.length=nn at *;have bg:∀w:World,(Instr.field 80 (.agg #[iV ec,.slice af nn cf]) 1).run Tryz.prog w =.ok (.slice af nn cf) w:=fun _=>kF
 by_cases aw:nn=60
 ·
  have b9:Z=errJ 2:=p.out aw;have bh:Hid (Z=errJ 2):=b9;clear b9;have hd:(nn:Int)=60:=oM;have bi:((nn:Int)==60)=true:=by simp;omega
  clear aw;have HD:Hid (Z=errJ 2):=bh.out;clear p q r aI a4 av a3 aJ am;go_wp2;refine bodyPost_ret (v:=.agg #[iV 2,iV 0,aj,aj,aj,iV 0,aj,aj,aj,aj,aj]) (by simp[results,Tryz.results21,go_sem,Y,r1,r2,r3,r4,r5,r6,r7,r8,r9,k,rf,z7]) rfl (uV HD.out ?_);exact qU aG a2 _ _ _ _ _ _ _ _ _ _ _
 have hd:¬(nn:Int)=60:=oM;have bi:((nn:Int)==60)=false:=by simp;omega
 have l:Hid _:=q.out aw;have m:Hid _:=r.out aw;clear p q r aw;go_wp2_with fail;refine(a4.out _ aG).mono ?_;rintro e w5 ⟨v5,F6,rfl,o5,I⟩;obtain⟨lc,lg⟩:=LZ;dsimp only at l m;obtain⟨a7,a8,c7,c8,rfl⟩:=fAo (loggRR.ofO o5);dsimp only;have b0:Hid (loggR.O w5 X.heap.size F6 (.agg #[.slice a7 lg.synced.length c7,.slice a8 lg.loose.length c8]) lg):=by
  obtain⟨_,_,FX,he,h,hF⟩:=o5;simp only[Value.agg.injEq,Array.mk.injEq,List.cons.injEq,and_true,true_and] at he;obtain⟨rfl,rfl⟩:=he;have e:FX=F6:=by funext b;exact(propext (hF b)).symm
  rw[e] at h;exact h
 have ba:aa w w5:=bS aG I;refine kR12 I ?_ y0 y1 y2 y3 K e1 N L Y r1 r2 r3;clear y0 y1 y2 y3 K e1 N L Y r1 r2 r3;intro y0 y1 y2 y3 K e1 N L Y r1 r2 r3;refine kR7 I ?_ r4 r5 r6 r7 r8 r9 k;clear r4 r5 r6 r7 r8 r9 k;intro r4 r5 r6 r7 r8 r9 k;replace rf:=ai I z7 rf;refine kR12 I ?_ t0 t1 t2 t3 t4 t5 t6 t7 t8 t9 U aH;clear t0 t1 t2 t3 t4 t5 t6 t7 t8 t9 U aH;intro t0 t1 t2 t3 t4 t5 t6 t7 t8 t9 U aH;refine kR7 I ?_ aT aU aV aW aX aY aZ;clear aT aU aV aW aX aY aZ;intro aT aU aV aW aX aY aZ;have aM:Hid (shdR.O w5 (w.heap.size+3) F3 (.agg #[iV ts.idx,.slice x1 h1 g1,.slice x2 h2 g2,.slice x3 E g3,.slice x4 J g4,.slice x5 h5 g5]) ts):=shdR.base (shdR.keep aI.out I) oM;have aN:Hid (balsR.O w5 (w.heap.size+3) FB (.slice k0 n0 i0) d.start):=balsR.keep av.out I;have bB:X.heap.size≤w5.heap.size:=I.size;have aK:Hid (∀b,F6 b→X.heap.size≤b):=fun b hb=>(loggR.rng b0.out b hb).1
 have aO:Hid (loggR.O w5 (w.heap.size+3) F6 (.agg #[.slice a7 lg.synced.length c7,.slice a8 lg.loose.length c8]) lg):=loggR.base b0.out oM;have H3:Hid (∀b,F3 b→G.heap.size≤b):=fun b hb=>(shdR.rng aI.out b hb).1
 clear I o5 aI b0 av a4 aG bg;have z8:w.heap.size+2<w5.heap.size:=oM;have bC:w.heap.size<w5.heap.size:=oM;have bE:g.heap.size<w5.heap.size:=oM;have bF:M.heap.size<w5.heap.size:=oM;generalize lg.synced.length=f1 at *;generalize lg.loose.length=f2 at *;by_cases aL:lc=0;rotate_left
 ·
  have hd:(lc !=0)=true:=by simp[aL]
  have HD:Hid _:=l.out aL;clear l m aM aN aO aK H3 a3 aJ am aL;go_wp2;refine bodyPost_ret (v:=.agg #[iV lc,iV 0,aj,aj,aj,iV 0,aj,aj,aj,aj,aj]) (by simp[results,Tryz.results21,go_sem,Y,r1,r2,r3,r4,r5,r6,r7,r8,r9,k,rf,z8]) rfl (uV HD.out ?_);exact bA (qU ba a2 _ _ _ _ _ _ _ _ _ _ _) _
 subst aL;have HD:Hid _:=m.out rfl;have bj:Hid (∀b,FB b→¬F6 b):=fun b h1 h2=>by have:=a3.out b h1;have:=aK.out b h2;omega
 have bk:Hid (∀b,(FB b∨F6 b)→¬F3 b):=fun b h1 h2=>by
  have E:=aJ.out b h2;have J:=H3.out b h2;rcases h1 with h1|h1
  ·have:=a3.out b h1;omega
  have:=aK.out b h1;omega
 clear l m aK H3 a3 aJ am;have bl:w.heap.size+1<w5.heap.size:=oM;have bm:¬w.heap.size+1=w5.heap.size:=oM;have bn:¬w.heap.size+2=w5.heap.size:=oM;go_wp2;refine bodyPost_ret (v:=.agg #[iV 0,iV d.idx,.slice k0 n0 i0,.slice a7 f1 c7,.slice a8 f2 c8,iV ts.idx,.slice x1 h1 g1,.slice x2 h2 g2,.slice x3 E g3,.slice x4 J g4,.slice x5 h5 g5]) (by simp[results,Tryz.results21,go_sem,Y,r1,r2,r3,r4,r5,r6,r7,r8,r9,k,rf,z8,bl,bm,bn]) rfl ?_;rw[HD.out];exact⟨_,_,rfl,jrnRR.base (jrnRR.alloc (jrnRR.alloc (fSy jrnRR (fBw (c:=0) (fH6 aN.out aO.out bj.out) aM.out bk.out) oM _ _ _ _ _ _ _ _ _ _ _) _) _) oM,bA (bA (qU ba a2 _ _ _ _ _ _ _ _ _ _ _) _) _⟩
end
section
theorem fUz {w w':World} {a0:Addr} {x0:Value} {a1:Addr} {x1:Value} {a2:Addr} {x2:Value} {a3:Addr} {x3:Value} {a4:Addr} {x4:Value} {a5:Addr} {x5:Value} {a6:Addr} {x6:Value} {a7:Addr} {x7:Value} {a8:Addr} {x8:Value} {a9:Addr} {x9:Value} {a10:Addr} {x10:Value} {a11:Addr} {x11:Value} {a12:Addr} {x12:Value} {a13:Addr} {x13:Value} {a14:Addr} {x14:Value} {a15:Addr} {x15:Value} {a16:Addr} {x16:Value} {a17:Addr} {x17:Value} {a18:Addr} {x18:Value} {a19:Addr} {x19:Value} {a20:Addr} {x20:Value} {a21:Addr} {x21:Value} {a22:Addr} {x22:Value} {a23:Addr} {x23:Value} {a24:Addr} {x24:Value} {a25:Addr} {x25:Value} {a26:Addr} {x26:Value} {a27:Addr} {x27:Value} {a28:Addr} {x28:Value} {a29:Addr} {x29:Value} {a30:Addr} {x30:Value} {a31:Addr} {x31:Value} {a32:Addr} {x32:Value} {a33:Addr} {x33:Value} {a34:Addr} {x34:Value} {a35:Addr} {x35:Value} {a36:Addr} {x36:Value} {a37:Addr} {x37:Value} (hb:aa w w') (g0:w.cell? a0=some x0) (g1:w.cell? a1=some x1) (g2:w.cell? a2=some x2) (g3:w.cell? a3=some x3) (g4:w.cell? a4=some x4) (g5:w.cell? a5=some x5) (g6:w.cell? a6=some x6) (g7:w.cell? a7=some x7) (g8:w.cell? a8=some x8) (g9:w.cell? a9=some x9) (g10:w.cell? a10=some x10) (g11:w.cell? a11=some x11) (g12:w.cell? a12=some x12) (g13:w.cell? a13=some x13) (g14:w.cell? a14=some x14) (g15:w.cell? a15=some x15) (g16:w.cell? a16=some x16) (g17:w.cell? a17=some x17) (g18:w.cell? a18=some x18) (g19:w.cell? a19=some x19) (g20:w.cell? a20=some x20) (g21:w.cell? a21=some x21) (g22:w.cell? a22=some x22) (g23:w.cell? a23=some x23) (g24:w.cell? a24=some x24) (g25:w.cell? a25=some x25) (g26:w.cell? a26=some x26) (g27:w.cell? a27=some x27) (g28:w.cell? a28=some x28) (g29:w.cell? a29=some x29) (g30:w.cell? a30=some x30) (g31:w.cell? a31=some x31) (g32:w.cell? a32=some x32) (g33:w.cell? a33=some x33) (g34:w.cell? a34=some x34) (g35:w.cell? a35=some x35) (g36:w.cell? a36=some x36) (g37:w.cell? a37=some x37):aa w w'∧w'.cell? a0=some x0∧w'.cell? a1=some x1∧w'.cell? a2=some x2∧w'.cell? a3=some x3∧w'.cell? a4=some x4∧w'.cell? a5=some x5∧w'.cell? a6=some x6∧w'.cell? a7=some x7∧w'.cell? a8=some x8∧w'.cell? a9=some x9∧w'.cell? a10=some x10∧w'.cell? a11=some x11∧w'.cell? a12=some x12∧w'.cell? a13=some x13∧w'.cell? a14=some x14∧w'.cell? a15=some x15∧w'.cell? a16=some x16∧w'.cell? a17=some x17∧w'.cell? a18=some x18∧w'.cell? a19=some x19∧w'.cell? a20=some x20∧w'.cell? a21=some x21∧w'.cell? a22=some x22∧w'.cell? a23=some x23∧w'.cell? a24=some x24∧w'.cell? a25=some x25∧w'.cell? a26=some x26∧w'.cell? a27=some x27∧w'.cell? a28=some x28∧w'.cell? a29=some x29∧w'.cell? a30=some x30∧w'.cell? a31=some x31∧w'.cell? a32=some x32∧w'.cell? a33=some x33∧w'.cell? a34=some x34∧w'.cell? a35=some x35∧w'.cell? a36=some x36∧w'.cell? a37=some x37:=
 ⟨hb,cK hb g0,cK hb g1,cK hb g2,cK hb g3,cK hb g4,cK hb g5,cK hb g6,cK hb g7,cK hb g8,cK hb g9,cK hb g10,cK hb g11,cK hb g12,cK hb g13,cK hb g14,cK hb g15,cK hb g16,cK hb g17,cK hb g18,cK hb g19,cK hb g20,cK hb g21,cK hb g22,cK hb g23,cK hb g24,cK hb g25,cK hb g26,cK hb g27,cK hb g28,cK hb g29,cK hb g30,cK hb g31,cK hb g32,cK hb g33,cK hb g34,cK hb g35,cK hb g36,cK hb g37⟩
end
section
open Go.ChangeShapes Go.WideShapes Go.ChangeAt Go.RowKit Go.Joins
theorem fV8 {W:World} {base k:Nat} {a:Addr} {cs:List Value} (hk:0<k) (hc:W.cells? base a k=some cs):a.spot=none:=by
 obtain⟨hb,e,d⟩:=World.cells?_some hc;have q0:=d 0 hk;obtain⟨b,o,s⟩:=a;cases s with
 | none=>rfl
 | some s=>
  have:0<cs.length:=oM;simp[Addr.add,World.cell?,this] at q0;split at q0 <;> simp at q0
theorem add_plain (b o i:Nat):(Addr.mk b o none).add i=⟨b,o+i,none⟩:=by
 by_cases h:i=0
 ·subst h;simp[Addr.add]
 simp[Addr.add,h]
theorem fOw {H:Type} {enc:TypeId × Value→H} {W:World} {sp:Nat→Bool} {held:Bool} {n:Nat} {v:Value} {y:DataW H × List MemPlace} {t e size:Nat} {α:Type} [Inhabited α] {q:List Value→α→Prop}
  (ht:Tryz.prog.underlying t=some (.slice e)) (hz:Tryz.prog.cellsOf e=size) (hs:0<size)
  (hq:∀n cs y,DataW.trod enc Tryz.prog W 0 sp held n e cs=some y→cs.length=size→∃x,q cs x) (h:DataW.trod enc Tryz.prog W 0 sp held n t [v]=some y) :
  ∃(a:Option Addr) (cap:Nat) (xs:List α) (cs:Nat→List Value),v =.slice a xs.length cap∧xs.length≤cap∧cap≤maxLen∧∀i,i<xs.length→q (cs i) (xs.getD i default)∧(cs i).length=size∧∃b o,a=some ⟨b,o,none⟩∧∀j,j<size→W.cell? ⟨b,o+i*size+j,none⟩=(cs i)[j]?:=by
 rcases Go.Deep.open_slice ht h with ⟨d,_⟩|⟨a,len,cap,m,T,D,U,d,hb,E,F,p,_,r⟩
 ·simp at d;subst d;exact⟨none,0,[],fun _=>[],rfl,by simp,by unfold maxLen;omega,fun i k=>by simp at k⟩
 simp at d;subst d;have G:len≤m:=by rw[p];split <;> omega
 rw[hz] at r;have h1:∀i,i<len→∃z:List Value × α,q z.1 z.2∧z.1.length=size∧∃b o,a=⟨b,o,none⟩∧∀j,j<size→W.cell? ⟨b,o+i*size+j,none⟩=z.1[j]?:=by
  intro i k;obtain⟨A,h1,h2⟩:=r i oM;obtain⟨_,l,g⟩:=World.cells?_some h1;obtain⟨x,I⟩:=hq _ _ _ h2 l;obtain⟨J,K,_⟩:=r 0 oM;have B:=fV8 hs K;obtain⟨b,o,s⟩:=a;have C:s=none:=by simpa [Addr.add] using B
  subst C;refine⟨(A,x),I,l,b,o,rfl,fun j L=>?_⟩;have:=g j L;rw[add_plain,add_plain] at this;exact this
 obtain⟨f,M⟩:=Go.Deep.choose_lt h1;refine⟨some a,cap,(List.range len).map (fun i=>(f i).2),fun i=>(f i).1,by simp,by simpa using E,F,fun i k=>?_⟩;simp at k;obtain⟨N,O,b,o,rfl,R⟩:=M i k;have e:(List.map (fun i=>(f i).2) (List.range len)).getD i default=(f i).2:=by simp[List.getD,k]
 rw[e];exact⟨N,O,b,o,rfl,R⟩
variable [dQ Leg] [iH Leg] [dQ Cont] [iH Cont]
theorem fK5:Tryz.prog.cellsOf 2=1:=kF
theorem fT2:Tryz.prog.cellsOf 176=4:=kF
theorem fX9 {H:Type} {enc:TypeId × Value→H} {W:World} {sp:Nat→Bool} {held:Bool} {n:Nat} {cs:List Value} {y:DataW H × List MemPlace}
  (ht:DataW.trod enc Tryz.prog W 0 sp held n 176 cs=some y) (hl:cs.length=4):∃x:Leg,cs=legC x:=by
 obtain⟨z,A,B,C,m,hy,d,h0,h1,h2,e⟩:=trod_struct4 Tryz.underlying176 ht;simp only[fK5] at h0 h1 h2 e;match cs,hl with
 | [c0,c1,c2,c3],_=>
  obtain⟨p,g,_⟩:=DataW.trod_int Tryz.underlying2 h0;obtain⟨q,j,_⟩:=DataW.trod_int Tryz.underlying2 h1;obtain⟨r,k,_⟩:=DataW.trod_int Tryz.underlying2 h2;obtain⟨s,l,_⟩:=DataW.trod_int Tryz.underlying2 e;simp at g j k l;subst g j k l;exact⟨⟨p,q,r,s⟩,rfl⟩
theorem fVm {H:Type} {enc:TypeId × Value→H} {W:World} {sp:Nat→Bool} {held:Bool} {n:Nat} {v:Value} {y:DataW H × List MemPlace}
  (ht:DataW.trod enc Tryz.prog W 0 sp held n 48 [v]=some y):∃xs:List Leg,legsR.V W v xs:=by
 obtain⟨a,cap,xs,cs,rfl,h1,h2,e⟩:=fOw (q:=fun cs x=>cs=legC x) Tryz.underlying48 fT2 oM (fun n cs y h g=>fX9 h g) ht;refine⟨xs,a,cap,rfl,h1,h2,fun i j=>?_⟩;obtain⟨k,m,b,o,l,d⟩:=e i j;rw[k] at d;exact⟨b,o,l,d 0 oM,d 1 oM,d 2 oM,d 3 oM⟩
variable [dQ Bal] [iH Bal] [dQ Ledg] [iH Ledg]
theorem fW3:Tryz.prog.cellsOf 105=3:=kF
theorem fZp {H:Type} {enc:TypeId × Value→H} {W:World} {sp:Nat→Bool} {held:Bool} {n:Nat} {cs:List Value} {y:DataW H × List MemPlace}
  (ht:DataW.trod enc Tryz.prog W 0 sp held n 105 cs=some y) (hl:cs.length=3):∃x:Bal,cs=balC x:=by
 obtain⟨q,r,s,m,hy,d,h0,h1,h2⟩:=Go.Deep.trod_struct3 Tryz.underlying105 ht;simp only[fK5] at h0 h1 h2;match cs,hl with
 | [c0,c1,c2],_=>
  obtain⟨k,e,_⟩:=DataW.trod_int Tryz.underlying2 h0;obtain⟨l,g,_⟩:=DataW.trod_int Tryz.underlying2 h1;obtain⟨p,j,_⟩:=DataW.trod_int Tryz.underlying2 h2;simp at e g j;subst e g j;exact⟨⟨k,l,p⟩,rfl⟩
theorem fX7 {H:Type} {enc:TypeId × Value→H} {W:World} {sp:Nat→Bool} {held:Bool} {n:Nat} {v:Value} {y:DataW H × List MemPlace}
  (ht:DataW.trod enc Tryz.prog W 0 sp held n 22 [v]=some y):∃xs:List Bal,balsR.V W v xs:=by
 obtain⟨a,cap,xs,cs,rfl,h1,h2,e⟩:=fOw (q:=fun cs x=>cs=balC x) Tryz.underlying22 fW3 oM (fun n cs y h g=>fZp h g) ht;refine⟨xs,a,cap,rfl,h1,h2,fun i j=>?_⟩;obtain⟨k,m,b,o,l,d⟩:=e i j;rw[k] at d;exact⟨b,o,l,d 0 oM,d 1 oM,d 2 oM⟩
end
section
open Go.ChangeShapes Go.WideShapes Go.ChangeAt Go.RowKit Go.Joins
theorem cellsByte:Tryz.prog.cellsOf 5=1:=kF
theorem fX8 {H:Type} {enc:TypeId × Value→H} {W:World} {sp:Nat→Bool} {held:Bool} {n:Nat} {cs:List Value} {y:DataW H × List MemPlace}
  (ht:DataW.trod enc Tryz.prog W 0 sp held n 5 cs=some y):∃x:Byte,cs=[.int .u8 (x.val:Int)]:=by
 obtain⟨d,e,_,g⟩:=DataW.trod_int Tryz.underlying5 ht;have hb:=bounds_u8 g;refine⟨toB d,?_⟩;rw[e,fDf];congr 2;omega
theorem fMf {H:Type} {enc:TypeId × Value→H} {W:World} {sp:Nat→Bool} {held:Bool} {n:Nat} {v:Value} {y:DataW H × List MemPlace}
  (ht:DataW.trod enc Tryz.prog W 0 sp held n 23 [v]=some y):∃xs:List Byte,bytesR.V W v xs:=by
 obtain⟨a,cap,xs,cs,rfl,h1,h2,g⟩:=fOw (q:=fun cs x=>cs=[.int .u8 ((x:Byte).val:Int)]) Tryz.underlying23 cellsByte oM (fun n cs y h _=>fX8 h) ht;refine⟨xs,a,cap,rfl,h1,h2,fun i j=>?_⟩;obtain⟨k,m,b,o,l,d⟩:=g i j;rw[k] at d;refine⟨b,o,l,?_⟩;have h:=d 0 oM;have e:xs.getD i default=xs.getD i 0:=rfl;rw[e] at h;simpa using h
variable [dQ Leg] [iH Leg] [dQ Cont] [iH Cont] [dQ Bal] [iH Bal] [dQ Ledg] [iH Ledg] [dQ Logg] [iH Logg] [dQ Evt] [iH Evt] [dQ Jrn] [iH Jrn]
theorem fCi {H:Type} {enc:TypeId × Value→H} {P:Program} {w:World} {base:Nat} {spare:Nat→Bool} {held:Bool} {t:TypeId} {f0 f1 f2:Field} {fuel:Nat} {cs:List Value} {x:DataW H × List MemPlace} (ht:P.underlying t=some (.struct #[f0,f1,f2])) (h:DataW.trod enc P w base spare held fuel t cs=some x) :
  ∃y0 y1 y2 n,cs.length=P.cellsOf t∧DataW.trod enc P w base spare held n f0.type ((cs.drop f0.offset).take (P.cellsOf f0.type))=some y0 ∧
   DataW.trod enc P w base spare held n f1.type ((cs.drop f1.offset).take (P.cellsOf f1.type))=some y1∧DataW.trod enc P w base spare held n f2.type ((cs.drop f2.offset).take (P.cellsOf f2.type))=some y2:=by
 obtain⟨xs,n,_,rfl,g,d,e⟩:=DataW.trod_struct ht h;match xs,d with
 | [y0,y1,y2],_=>exact⟨y0,y1,y2,n,g,by simpa using e 0 f0 rfl,by simpa using e 1 f1 rfl,by simpa using e 2 f2 rfl⟩
theorem fCh {H:Type} {enc:TypeId × Value→H} {P:Program} {w:World} {base:Nat} {spare:Nat→Bool} {held:Bool} {t:TypeId} {f0 f1:Field} {fuel:Nat} {cs:List Value} {x:DataW H × List MemPlace} (ht:P.underlying t=some (.struct #[f0,f1])) (h:DataW.trod enc P w base spare held fuel t cs=some x) :
  ∃y0 y1 n,cs.length=P.cellsOf t∧DataW.trod enc P w base spare held n f0.type ((cs.drop f0.offset).take (P.cellsOf f0.type))=some y0 ∧
   DataW.trod enc P w base spare held n f1.type ((cs.drop f1.offset).take (P.cellsOf f1.type))=some y1:=by
 obtain⟨xs,n,_,rfl,g,d,e⟩:=DataW.trod_struct ht h;match xs,d with
 | [y0,y1],_=>exact⟨y0,y1,n,g,by simpa using e 0 f0 rfl,by simpa using e 1 f1 rfl⟩
theorem fZq {H:Type} {enc:TypeId × Value→H} {W:World} {sp:Nat→Bool} {held:Bool} {v:Value} {d:DataW H} {p:List MemPlace} {base:Nat} {r:Reach}
  (hv:Value.okWide Tryz.prog W r base 52 v) (h:DataW.Trod enc Tryz.prog W 0 sp held 52 v d p):∃x,evtR.V W v x:=by
 obtain⟨cs,rfl,e⟩:=okWide_struct Tryz.underlying52 hv;have D:Tryz.prog.cellsOf 52=4:=kF;have E:Tryz.prog.cellsOf 4=1:=kF;have F:Tryz.prog.cellsOf 50=2:=kF;have s:Tryz.prog.cellsOf 2=1:=kF;have G:Tryz.prog.cellsOf 48=1:=kF;obtain⟨l⟩:=cs;match l,e.trans D with
 | [c0,c1,c2,c3],_=>
  obtain⟨y,I⟩:=h;obtain⟨J,K,L,m,_,h0,h1,h2⟩:=fCi Tryz.underlying52 I;have g:DataW.trod enc Tryz.prog W 0 sp held m 4 [c0]=some J:=by simpa [Value.cells,E] using h0
  have j:DataW.trod enc Tryz.prog W 0 sp held m 50 [c1,c2]=some K:=by simpa [Value.cells,F] using h1
  have k:DataW.trod enc Tryz.prog W 0 sp held m 2 [c3]=some L:=by simpa [Value.cells,s] using h2
  obtain⟨b,z,_⟩:=DataW.trod_bool Tryz.underlying4 g;obtain⟨o,A,_⟩:=DataW.trod_int Tryz.underlying2 k;simp at z A;subst z A;obtain⟨M,N,B,_,O,R⟩:=fCh Tryz.underlying50 j;have n:DataW.trod enc Tryz.prog W 0 sp held B 2 [c1]=some M:=by simpa [s] using O
  have q:DataW.trod enc Tryz.prog W 0 sp held B 48 [c2]=some N:=by simpa [G] using R
  obtain⟨i,C,_⟩:=DataW.trod_int Tryz.underlying2 n;simp at C;subst C;obtain⟨ls,T⟩:=fVm q;exact⟨⟨b,⟨i,ls⟩,o⟩,evtf_V.1 ⟨c2,rfl,T⟩⟩
theorem fZr {H:Type} {enc:TypeId × Value→H} {W:World} {sp:Nat→Bool} {held:Bool} {v:Value} {d:DataW H} {p:List MemPlace} {base:Nat} {r:Reach}
  (hv:Value.okWide Tryz.prog W r base 27 v) (h:DataW.Trod enc Tryz.prog W 0 sp held 27 v d p):∃x,jrnR.V W v x:=by
 obtain⟨cs,rfl,e⟩:=okWide_struct Tryz.underlying27 hv;have B:Tryz.prog.cellsOf 27=4:=kF;have C:Tryz.prog.cellsOf 2=1:=kF;have D:Tryz.prog.cellsOf 22=1:=kF;have E:Tryz.prog.cellsOf 25=2:=kF;have s:Tryz.prog.cellsOf 23=1:=kF;obtain⟨l⟩:=cs;match l,e.trans B with
 | [c0,c1,c2,c3],_=>
  obtain⟨y,F⟩:=h;obtain⟨G,I,J,m,_,h0,h1,h2⟩:=fCi Tryz.underlying27 F;have g:DataW.trod enc Tryz.prog W 0 sp held m 2 [c0]=some G:=by simpa [Value.cells,C] using h0
  have j:DataW.trod enc Tryz.prog W 0 sp held m 22 [c1]=some I:=by simpa [Value.cells,D] using h1
  have k:DataW.trod enc Tryz.prog W 0 sp held m 25 [c2,c3]=some J:=by simpa [Value.cells,E] using h2
  obtain⟨i,z,_⟩:=DataW.trod_int Tryz.underlying2 g;simp at z;subst z;obtain⟨bs,hb⟩:=fX7 j;obtain⟨K,L,A,_,M,N⟩:=fCh Tryz.underlying25 k;have n:DataW.trod enc Tryz.prog W 0 sp held A 23 [c2]=some K:=by simpa [s] using M
  have q:DataW.trod enc Tryz.prog W 0 sp held A 23 [c3]=some L:=by simpa [s] using N
  obtain⟨xs,O⟩:=fMf n;obtain⟨ys,hy⟩:=fMf q;exact⟨⟨i,bs,⟨xs,ys⟩⟩,c1,c2,c3,rfl,hb,⟨c2,c3,rfl,O,hy⟩⟩
end
end Go.Proofs.YtpibfdebfacooaaGreat

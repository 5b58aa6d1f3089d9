import Derived.Test.YtpibfdebfacooaaGreatPrnWriteEventLaw24
import Derived.Deep.RegionLawGrows
set_option maxHeartbeats 8000000
set_option maxRecDepth 20000
set_option linter.all false
namespace Go.Proofs.YtpibfdebfacooaaGreat
open Go.RowKit
attribute [local go_sem ↓] Go.wp_at_zero Go.wp_at_succ
attribute [local go_sem] cW cI ah cN iV aj
section
variable [dQ Bal] [iH Bal] [dQ Logg] [iH Logg] [dQ Jrn] [iH Jrn] [dQ Mrk] [iH Mrk] [dQ Leg] [iH Leg] [dQ Cont] [iH Cont] [dQ Shd] [iH Shd] [dQ JrnR] [iH JrnR] [dQ Evt] [iH Evt] [dQ EvtsR] [iH EvtsR] [dQ EvtR] [iH EvtR] [dQ BytesR] [iH BytesR] [dQ ContR] [iH ContR] [dQ LoggR] [iH LoggR] [dQ RecsR] [iH RecsR] [dQ Rw] [iH Rw] [dQ Ledg] [iH Ledg] [dQ LedgR] [iH LedgR] [dQ OutcR] [iH OutcR] [dQ ShdR] [iH ShdR]
theorem fPv {s:Shd} {e:Evt} (h:e.vote=true):doE s e=tH s e.con:=if_pos h
theorem fT7 {s:Shd} {e:Evt} (h:e.vote=false):doE s e=kZ s e.con.id e.out:=if_neg (by rw[h];exact Bool.false_ne_true)
theorem fU5 (x y:Value) (s:Shd) (e:Evt) (w:World) (hx:shdR.V w x s) (hy:evtR.V w y e):cL 46 #[x,y] w (rJ w (doE s e)):=by
 have k:Hid (e.vote=true→∀W z,aa w W→contR.V W z e.con→cL 89 #[x,z] W (rJ W (doE s e))):=fun h W z C hz=>by rw[fPv h];exact fS4 x z s e.con W (shdR.below hx C) hz
 have l:Hid (e.vote=false→∀W,aa w W→cL 90 #[x,iV e.con.id,iV e.out] W (rJ W (doE s e))):=fun h W C=>by rw[fT7 h];exact fMr x s _ _ W (shdR.below hx C)
 obtain⟨u1,u2,u3,u4,u5,rfl,h1,h2,h3,h4,h5⟩:=hx;obtain⟨a1,c1,rfl⟩:=fQ h1;obtain⟨a2,c2,rfl⟩:=fH h2;obtain⟨a3,c3,rfl⟩:=fM h3;obtain⟨a4,c4,rfl⟩:=fH h4;obtain⟨a5,c5,rfl⟩:=gL h5;clear h1 h2 h3 h4 h5;obtain⟨ae,ce,rfl,hl⟩:=pF hy;clear hy;have m:Hid (bW w fun W=>contR.V W (.agg #[iV e.con.id,.slice ae e.con.legs.length ce]) e.con):=fun W C=>⟨_,rfl,kE hl C⟩
 clear hl;generalize s.bals.length=n1 at *;generalize s.votes.length=n2 at *;generalize s.held.length=n3 at *;generalize s.done.length=n4 at *;generalize s.appl.length=n5 at *;generalize e.con.legs.length=ne at *;generalize doE s e=Z at *;cases hv:e.vote
 ·
  have D:Hid _:=l.out hv;clear k l m hv;go_enter Tryz.func46,Tryz.ntmps46;go_wp2_with fail;refine(D.out _ hE).mono ?_;rintro e' j ⟨v1,E,rfl,n,d⟩;generalize Z=VD at *;obtain⟨q,r,A⟩:=VD;obtain⟨F,G,H,I,J,K,L,M,N,R,q1,q2,T,U,X,rfl⟩:=kR n;have B:=bT w d;have hz:w.heap.size+3≤j.heap.size:=by have:=d.size;simp at this;omega
  have Y:Hid (shdRR.O j (w.heap.size+3) E (.agg #[iV q,iV r,iV A.idx,.slice F K q1,.slice G L q2,.slice H M T,.slice I N U,.slice J R X]) ⟨q,r,A⟩):=shdRR.base n (by simp);have r0:cI j (w.heap.size+2) 0 0:=cK d sG;have r1:cI j (w.heap.size+2) 1 0:=cK d sG;have r2:cI j (w.heap.size+2) 2 0:=cK d sG;have r3:cN j (w.heap.size+2) 3:=cK d sG;have r4:cN j (w.heap.size+2) 4:=cK d sG;have r5:cN j (w.heap.size+2) 5:=cK d sG;have r6:cN j (w.heap.size+2) 6:=cK d sG;have r7:cN j (w.heap.size+2) 7:=cK d sG;have rf:aq j (w.heap.size+2):=ap d;clear n d D;go_wp2;refine bodyPost_ret (v:=.agg #[iV q,iV r,iV A.idx,.slice F K q1,.slice G L q2,.slice H M T,.slice I N U,.slice J R X]) (by simp[results,Tryz.results46,go_sem,r0,r1,r2,r3,r4,r5,r6,r7,rf]) rfl ?_;have g:w.heap.size≤w.heap.size+2:=oM;exact⟨_,E,rfl,shdRR.base (vZ shdRR Y.out (fun h=>by have:=(shdRR.rng Y.out _ h).1;omega) _ _ _ _ _ _ _ _) oM,bset (p:=⟨w.heap.size+2,7,none⟩) (bset (p:=⟨w.heap.size+2,6,none⟩) (bset (p:=⟨w.heap.size+2,5,none⟩) (bset (p:=⟨w.heap.size+2,4,none⟩) (bset (p:=⟨w.heap.size+2,3,none⟩) (bset (p:=⟨w.heap.size+2,2,none⟩) (bset (p:=⟨w.heap.size+2,1,none⟩) (bset (p:=⟨w.heap.size+2,0,none⟩) (B) g _) g _) g _) g _) g _) g _) g _) g _⟩
 have D:Hid _:=k.out hv;clear k l hv;go_enter Tryz.func46,Tryz.ntmps46;go_wp2_with fail;refine(D.out _ _ hE (m.out _ hE)).mono ?_;rintro e' j ⟨v1,E,rfl,n,d⟩;generalize Z=VD at *;obtain⟨q,r,A⟩:=VD;obtain⟨F,G,H,I,J,K,L,M,N,R,q1,q2,T,U,X,rfl⟩:=kR n;have B:=bT w d;have hz:w.heap.size+3≤j.heap.size:=by have:=d.size;simp at this;omega
 have Y:Hid (shdRR.O j (w.heap.size+3) E (.agg #[iV q,iV r,iV A.idx,.slice F K q1,.slice G L q2,.slice H M T,.slice I N U,.slice J R X]) ⟨q,r,A⟩):=shdRR.base n (by simp);have r0:cI j (w.heap.size+2) 0 0:=cK d sG;have r1:cI j (w.heap.size+2) 1 0:=cK d sG;have r2:cI j (w.heap.size+2) 2 0:=cK d sG;have r3:cN j (w.heap.size+2) 3:=cK d sG;have r4:cN j (w.heap.size+2) 4:=cK d sG;have r5:cN j (w.heap.size+2) 5:=cK d sG;have r6:cN j (w.heap.size+2) 6:=cK d sG;have r7:cN j (w.heap.size+2) 7:=cK d sG;have rf:aq j (w.heap.size+2):=ap d;clear n d D m;go_wp2;refine bodyPost_ret (v:=.agg #[iV q,iV r,iV A.idx,.slice F K q1,.slice G L q2,.slice H M T,.slice I N U,.slice J R X]) (by simp[results,Tryz.results46,go_sem,r0,r1,r2,r3,r4,r5,r6,r7,rf]) rfl ?_;have g:w.heap.size≤w.heap.size+2:=oM;exact⟨_,E,rfl,shdRR.base (vZ shdRR Y.out (fun h=>by have:=(shdRR.rng Y.out _ h).1;omega) _ _ _ _ _ _ _ _) oM,bset (p:=⟨w.heap.size+2,7,none⟩) (bset (p:=⟨w.heap.size+2,6,none⟩) (bset (p:=⟨w.heap.size+2,5,none⟩) (bset (p:=⟨w.heap.size+2,4,none⟩) (bset (p:=⟨w.heap.size+2,3,none⟩) (bset (p:=⟨w.heap.size+2,2,none⟩) (bset (p:=⟨w.heap.size+2,1,none⟩) (bset (p:=⟨w.heap.size+2,0,none⟩) (B) g _) g _) g _) g _) g _) g _) g _) g _⟩
theorem fZ0 (y x:Value) (s:Shd) (e:Evt) (w:World) (hx:shdR.V w x s) (hy:evtR.V w y e) (hv:e.vote=true):cL 118 #[y,x] w (rJ w (doE s e)):=by
 have B:Hid (∀W z,aa w W→contR.V W z e.con→cL 145 #[x,z] W (rJ W (doE s e))):=fun W z l C=>by rw[fPv hv];exact fSb x z s e.con W (shdR.below hx l) C
 obtain⟨u1,u2,u3,u4,u5,rfl,h1,h2,D,E,F⟩:=hx;obtain⟨a1,c1,rfl⟩:=fQ h1;obtain⟨a2,c2,rfl⟩:=fH h2;obtain⟨a3,c3,rfl⟩:=fM D;obtain⟨a4,c4,rfl⟩:=fH E;obtain⟨a5,c5,rfl⟩:=gL F;clear h1 h2 D E F;obtain⟨ae,ce,rfl,G⟩:=pF hy;clear hy;have k:Hid (bW w fun W=>contR.V W (.agg #[iV e.con.id,.slice ae e.con.legs.length ce]) e.con):=fun W l=>⟨_,rfl,kE G l⟩
 clear G hv;generalize s.bals.length=n1 at *;generalize s.votes.length=n2 at *;generalize s.held.length=n3 at *;generalize s.done.length=n4 at *;generalize s.appl.length=n5 at *;generalize e.con.legs.length=ne at *;generalize doE s e=Z at *;go_enter Tryz.func118,Tryz.ntmps118;go_wp2_with fail;refine(B.out _ _ hE (k.out _ hE)).mono ?_;rintro e' j ⟨v1,H,rfl,m,d⟩;generalize Z=VD at *;obtain⟨n,q,r⟩:=VD;obtain⟨I,J,K,L,M,N,R,T,U,X,q1,q2,Y,q4,q5,rfl⟩:=kR m;have A:=bT w d;have C:w.heap.size+3≤j.heap.size:=by have:=d.size;simp at this;omega
 have HO:Hid (shdRR.O j (w.heap.size+3) H (.agg #[iV n,iV q,iV r.idx,.slice I N q1,.slice J R q2,.slice K T Y,.slice L U q4,.slice M X q5]) ⟨n,q,r⟩):=shdRR.base m (by simp);have r0:cI j (w.heap.size+2) 0 0:=cK d sG;have r1:cI j (w.heap.size+2) 1 0:=cK d sG;have r2:cI j (w.heap.size+2) 2 0:=cK d sG;have r3:cN j (w.heap.size+2) 3:=cK d sG;have r4:cN j (w.heap.size+2) 4:=cK d sG;have r5:cN j (w.heap.size+2) 5:=cK d sG;have r6:cN j (w.heap.size+2) 6:=cK d sG;have r7:cN j (w.heap.size+2) 7:=cK d sG;have rf:aq j (w.heap.size+2):=ap d;clear m d B k;go_wp2;refine bodyPost_ret (v:=.agg #[iV n,iV q,iV r.idx,.slice I N q1,.slice J R q2,.slice K T Y,.slice L U q4,.slice M X q5]) (by simp[results,Tryz.results118,go_sem,r0,r1,r2,r3,r4,r5,r6,r7,rf]) rfl ?_;have g:w.heap.size≤w.heap.size+2:=oM;exact⟨_,H,rfl,shdRR.base (vZ shdRR HO.out (fun h=>by have:=(shdRR.rng HO.out _ h).1;omega) _ _ _ _ _ _ _ _) oM,bset (p:=⟨w.heap.size+2,7,none⟩) (bset (p:=⟨w.heap.size+2,6,none⟩) (bset (p:=⟨w.heap.size+2,5,none⟩) (bset (p:=⟨w.heap.size+2,4,none⟩) (bset (p:=⟨w.heap.size+2,3,none⟩) (bset (p:=⟨w.heap.size+2,2,none⟩) (bset (p:=⟨w.heap.size+2,1,none⟩) (bset (p:=⟨w.heap.size+2,0,none⟩) (A) g _) g _) g _) g _) g _) g _) g _) g _⟩
theorem fT6 (y x:Value) (s:Shd) (e:Evt) (w:World) (hx:shdR.V w x s) (hy:evtR.V w y e) (hv:e.vote=false):cL 121 #[y,x] w (rJ w (doE s e)):=by
 have A:Hid (bW w fun W=>cL 149 #[x,iV e.con.id,iV e.out] W (rJ W (doE s e))):=fun W k=>by rw[fT7 hv];exact fLs x s _ _ W (shdR.below hx k)
 obtain⟨u1,u2,u3,u4,u5,rfl,h1,h2,B,C,D⟩:=hx;obtain⟨a1,c1,rfl⟩:=fQ h1;obtain⟨a2,c2,rfl⟩:=fH h2;obtain⟨a3,c3,rfl⟩:=fM B;obtain⟨a4,c4,rfl⟩:=fH C;obtain⟨a5,c5,rfl⟩:=gL D;clear h1 h2 B C D;obtain⟨ae,ce,rfl,E⟩:=pF hy;clear hy;have l:Hid (bW w fun W=>contR.V W (.agg #[iV e.con.id,.slice ae e.con.legs.length ce]) e.con):=fun W k=>⟨_,rfl,kE E k⟩
 clear E hv;generalize s.bals.length=n1 at *;generalize s.votes.length=n2 at *;generalize s.held.length=n3 at *;generalize s.done.length=n4 at *;generalize s.appl.length=n5 at *;generalize e.con.legs.length=ne at *;generalize doE s e=Z at *;go_enter Tryz.func121,Tryz.ntmps121;go_wp2_with fail;refine(A.out _ hE).mono ?_;rintro e' j ⟨v1,F,rfl,m,d⟩;generalize Z=VD at *;obtain⟨n,q,r⟩:=VD;obtain⟨G,H,I,J,K,L,M,N,R,T,q1,q2,U,X,Y,rfl⟩:=kR m;have z:=bT w d;have hz:w.heap.size+3≤j.heap.size:=by have:=d.size;simp at this;omega
 have HO:Hid (shdRR.O j (w.heap.size+3) F (.agg #[iV n,iV q,iV r.idx,.slice G L q1,.slice H M q2,.slice I N U,.slice J R X,.slice K T Y]) ⟨n,q,r⟩):=shdRR.base m (by simp);have r0:cI j (w.heap.size+2) 0 0:=cK d sG;have r1:cI j (w.heap.size+2) 1 0:=cK d sG;have r2:cI j (w.heap.size+2) 2 0:=cK d sG;have r3:cN j (w.heap.size+2) 3:=cK d sG;have r4:cN j (w.heap.size+2) 4:=cK d sG;have r5:cN j (w.heap.size+2) 5:=cK d sG;have r6:cN j (w.heap.size+2) 6:=cK d sG;have r7:cN j (w.heap.size+2) 7:=cK d sG;have rf:aq j (w.heap.size+2):=ap d;clear m d A l;go_wp2;refine bodyPost_ret (v:=.agg #[iV n,iV q,iV r.idx,.slice G L q1,.slice H M q2,.slice I N U,.slice J R X,.slice K T Y]) (by simp[results,Tryz.results121,go_sem,r0,r1,r2,r3,r4,r5,r6,r7,rf]) rfl ?_;have g:w.heap.size≤w.heap.size+2:=oM;exact⟨_,F,rfl,shdRR.base (vZ shdRR HO.out (fun h=>by have:=(shdRR.rng HO.out _ h).1;omega) _ _ _ _ _ _ _ _) oM,bset (p:=⟨w.heap.size+2,7,none⟩) (bset (p:=⟨w.heap.size+2,6,none⟩) (bset (p:=⟨w.heap.size+2,5,none⟩) (bset (p:=⟨w.heap.size+2,4,none⟩) (bset (p:=⟨w.heap.size+2,3,none⟩) (bset (p:=⟨w.heap.size+2,2,none⟩) (bset (p:=⟨w.heap.size+2,1,none⟩) (bset (p:=⟨w.heap.size+2,0,none⟩) (z) g _) g _) g _) g _) g _) g _) g _) g _⟩
theorem fPx (x y:Value) (s:Shd) (e:Evt) (w:World) (hx:shdR.V w x s) (hy:evtR.V w y e):cL 36 #[x,y] w (rJ w (doE s e)):=by
 have HX:Hid (bW w fun W=>evtR.V W y e):=fun W z=>evtR.below hy z
 have T:Hid (e.vote=true→∀W,aa w W→cL 118 #[y,x] W (rJ W (doE s e))):=fun h W z=>fZ0 y x s e W (shdR.below hx z) (evtR.below hy z) h
 have U:Hid (e.vote=false→∀W,aa w W→cL 121 #[y,x] W (rJ W (doE s e))):=fun h W z=>fT6 y x s e W (shdR.below hx z) (evtR.below hy z) h
 obtain⟨u1,u2,u3,u4,u5,rfl,h1,h2,h3,h4,h5⟩:=hx;obtain⟨a1,c1,rfl⟩:=fQ h1;obtain⟨a2,c2,rfl⟩:=fH h2;obtain⟨a3,c3,rfl⟩:=fM h3;obtain⟨a4,c4,rfl⟩:=fH h4;obtain⟨a5,c5,rfl⟩:=gL h5;clear h1 h2 h3 h4 h5;obtain⟨M,N,rfl,hl⟩:=pF hy;clear hy hl;generalize s.bals.length=n1 at *;generalize s.votes.length=n2 at *;generalize s.held.length=n3 at *;generalize s.done.length=n4 at *;generalize s.appl.length=n5 at *;generalize e.con.legs.length=R at *;generalize doE s e=Z at *;have a6:=fSj;cases B:e.vote
 ·
  have X:Hid _:=U.out B;have HK:Hid (bW w fun W=>RI 71 #[.agg #[.bool false,iV e.con.id,.slice M R N,iV e.out]] W (.agg #[.func (.func 119) #[] #[],.func (.func 120) #[] #[],.func (.func 121) #[] #[]])):=fun W z=>by have h:=fC6 _ e W (HX.out W z) B;rw[B] at h;exact h
  rw[B] at X;have eg:=enters_of Tryz.func121 kF rfl;clear T U HX B;go_enter Tryz.func36,Tryz.ntmps36;go_wp2;obtain⟨g,d⟩:∃g,g=((w.alloc (.cells #[iV s.idx,.slice a1 n1 c1,.slice a2 n2 c2,.slice a3 n3 c3,.slice a4 n4 c4,.slice a5 n5 c5] 41)).alloc (.cells #[.bool false,iV e.con.id,.slice M R N,iV e.out] 59)).alloc (.cells #[iV 0,iV 0,iV 0,aj,aj,aj,aj,aj] 76):=⟨_,rfl⟩
  have y0:cI g w.heap.size 0 s.idx:=cQ d;have y1:ah g w.heap.size 1 a1 n1 c1:=cQ d;have y2:ah g w.heap.size 2 a2 n2 c2:=cQ d;have y3:ah g w.heap.size 3 a3 n3 c3:=cQ d;have y4:ah g w.heap.size 4 a4 n4 c4:=cQ d;have y5:ah g w.heap.size 5 a5 n5 c5:=cQ d;have g0:cW g (w.heap.size+1) 0 (.bool false):=cQ d;have g1:cI g (w.heap.size+1) 1 e.con.id:=cQ d;have g2:ah g (w.heap.size+1) 2 M R N:=cQ d;have g3:cI g (w.heap.size+1) 3 e.out:=cQ d;have C:cI g (w.heap.size+2) 0 0:=cQ d;have D:cI g (w.heap.size+2) 1 0:=cQ d;have E:cI g (w.heap.size+2) 2 0:=cQ d;have F:cN g (w.heap.size+2) 3:=cQ d;have G:cN g (w.heap.size+2) 4:=cQ d;have H:cN g (w.heap.size+2) 5:=cQ d;have I:cN g (w.heap.size+2) 6:=cQ d;have J:cN g (w.heap.size+2) 7:=cQ d;have Y:aq g (w.heap.size+2):=fun o=>by rw[d];simp[go_sem]
  have q:aa w g:=by rw[d];exact hE
  have zq:w.heap.size+2<g.heap.size:=by rw[d];simp
  rw[←d];clear d;refine wp_region_noPanic ?_;refine fB (fun W=>aa g W∧cI W w.heap.size 0 s.idx∧ah W w.heap.size 1 a1 n1 c1∧ah W w.heap.size 2 a2 n2 c2∧ah W w.heap.size 3 a3 n3 c3∧ah W w.heap.size 4 a4 n4 c4∧ah W w.heap.size 5 a5 n5 c5∧cW W (w.heap.size+1) 0 (.bool false)∧cI W (w.heap.size+1) 1 e.con.id∧ah W (w.heap.size+1) 2 M R N∧cI W (w.heap.size+1) 3 e.out) 6 kF ⟨hE,cK hE y0,cK hE y1,cK hE y2,cK hE y3,cK hE y4,cK hE y5,cK hE g0,cK hE g1,cK hE g2,cK hE g3⟩ (fun hS=>?_);refine tY 0 ?_;refine tY 3 ?_;refine tY 4 ?_;refine uS 1 rfl (fun K n=>?_);go_simp;refine(HK.out _ (bS q hS.1)).mono ?_;rintro e' w2 ⟨rfl,r⟩;have l:=And.intro (bS hS.1 r) (kS10 r hS.2);refine n _ _ (fun _=>l) ?_;clear n K r HK hS;try simp only[jX]
  refine tY 2 ?_;refine uS 5 rfl (fun K n=>?_);go_simp;refine(X.out _ (bS q l.1)).mono ?_;rintro e' L ⟨v1,F1,rfl,o1,m⟩;generalize Z=VD at *;obtain⟨cd,vt,sd⟩:=VD;obtain⟨p1,p2,p3,p4,p5,m1,m2,m3,m4,m5,q1,q2,q3,q4,q5,rfl⟩:=kR o1;have j:aa g L:=bS l.1 m;have a0:aa w L:=bS q j;have hz:w.heap.size+3≤L.heap.size:=by have:=j.size;omega
  have HO:Hid (shdRR.O L (w.heap.size+3) F1 (.agg #[iV cd,iV vt,iV sd.idx,.slice p1 m1 q1,.slice p2 m2 q2,.slice p3 m3 q3,.slice p4 m4 q4,.slice p5 m5 q5]) ⟨cd,vt,sd⟩):=shdRR.base o1 (by have:=l.1.size;omega);have A:=And.intro (bS l.1 m) (kS10 m l.2);refine kR8 j ?_ C D E F G H I J;clear C D E F G H I J;intro C D E F G H I J;replace Y:=ai j zq Y;refine n _ _ (fun _=>A) ?_;clear n K m X l o1 y0 y1 y2 y3 y4 y5 g0 g1 g2 g3;try simp only[jX]
  refine uS 6 rfl (fun K n=>?_);go_simp;refine n _ _ (fun h=>absurd rfl h) ?_;clear n K A j;refine dP ?_;go_wp2;refine bodyPost_ret (v:=.agg #[iV cd,iV vt,iV sd.idx,.slice p1 m1 q1,.slice p2 m2 q2,.slice p3 m3 q3,.slice p4 m4 q4,.slice p5 m5 q5]) (by simp[results,Tryz.results36,go_sem,C,D,E,F,G,H,I,J,Y]) rfl ?_;have k:w.heap.size≤w.heap.size+2:=oM;exact⟨_,F1,rfl,shdRR.base (vZ shdRR HO.out (fun h=>by have:=(shdRR.rng HO.out _ h).1;omega) _ _ _ _ _ _ _ _) oM,bset (p:=⟨w.heap.size+2,7,none⟩) (bset (p:=⟨w.heap.size+2,6,none⟩) (bset (p:=⟨w.heap.size+2,5,none⟩) (bset (p:=⟨w.heap.size+2,4,none⟩) (bset (p:=⟨w.heap.size+2,3,none⟩) (bset (p:=⟨w.heap.size+2,2,none⟩) (bset (p:=⟨w.heap.size+2,1,none⟩) (bset (p:=⟨w.heap.size+2,0,none⟩) (a0) k _) k _) k _) k _) k _) k _) k _) k _⟩
 have X:Hid _:=T.out B;have HK:Hid (bW w fun W=>RI 71 #[.agg #[.bool true,iV e.con.id,.slice M R N,iV e.out]] W (.agg #[.func (.func 116) #[] #[],.func (.func 117) #[] #[],.func (.func 118) #[] #[]])):=fun W z=>by have h:=fBe _ e W (HX.out W z) B;rw[B] at h;exact h
 rw[B] at X;have eg:=enters_of Tryz.func118 kF rfl;clear T U HX B;go_enter Tryz.func36,Tryz.ntmps36;go_wp2;obtain⟨g,d⟩:∃g,g=((w.alloc (.cells #[iV s.idx,.slice a1 n1 c1,.slice a2 n2 c2,.slice a3 n3 c3,.slice a4 n4 c4,.slice a5 n5 c5] 41)).alloc (.cells #[.bool true,iV e.con.id,.slice M R N,iV e.out] 59)).alloc (.cells #[iV 0,iV 0,iV 0,aj,aj,aj,aj,aj] 76):=⟨_,rfl⟩
 have y0:cI g w.heap.size 0 s.idx:=cQ d;have y1:ah g w.heap.size 1 a1 n1 c1:=cQ d;have y2:ah g w.heap.size 2 a2 n2 c2:=cQ d;have y3:ah g w.heap.size 3 a3 n3 c3:=cQ d;have y4:ah g w.heap.size 4 a4 n4 c4:=cQ d;have y5:ah g w.heap.size 5 a5 n5 c5:=cQ d;have g0:cW g (w.heap.size+1) 0 (.bool true):=cQ d;have g1:cI g (w.heap.size+1) 1 e.con.id:=cQ d;have g2:ah g (w.heap.size+1) 2 M R N:=cQ d;have g3:cI g (w.heap.size+1) 3 e.out:=cQ d;have C:cI g (w.heap.size+2) 0 0:=cQ d;have D:cI g (w.heap.size+2) 1 0:=cQ d;have E:cI g (w.heap.size+2) 2 0:=cQ d;have F:cN g (w.heap.size+2) 3:=cQ d;have G:cN g (w.heap.size+2) 4:=cQ d;have H:cN g (w.heap.size+2) 5:=cQ d;have I:cN g (w.heap.size+2) 6:=cQ d;have J:cN g (w.heap.size+2) 7:=cQ d;have Y:aq g (w.heap.size+2):=fun o=>by rw[d];simp[go_sem]
 have q:aa w g:=by rw[d];exact hE
 have zq:w.heap.size+2<g.heap.size:=by rw[d];simp
 rw[←d];clear d;refine wp_region_noPanic ?_;refine fB (fun W=>aa g W∧cI W w.heap.size 0 s.idx∧ah W w.heap.size 1 a1 n1 c1∧ah W w.heap.size 2 a2 n2 c2∧ah W w.heap.size 3 a3 n3 c3∧ah W w.heap.size 4 a4 n4 c4∧ah W w.heap.size 5 a5 n5 c5∧cW W (w.heap.size+1) 0 (.bool true)∧cI W (w.heap.size+1) 1 e.con.id∧ah W (w.heap.size+1) 2 M R N∧cI W (w.heap.size+1) 3 e.out) 6 kF ⟨hE,cK hE y0,cK hE y1,cK hE y2,cK hE y3,cK hE y4,cK hE y5,cK hE g0,cK hE g1,cK hE g2,cK hE g3⟩ (fun hS=>?_);refine tY 0 ?_;refine tY 3 ?_;refine tY 4 ?_;refine uS 1 rfl (fun K n=>?_);go_simp;refine(HK.out _ (bS q hS.1)).mono ?_;rintro e' w2 ⟨rfl,r⟩;have l:=And.intro (bS hS.1 r) (kS10 r hS.2);refine n _ _ (fun _=>l) ?_;clear n K r HK hS;try simp only[jX]
 refine tY 2 ?_;refine uS 5 rfl (fun K n=>?_);go_simp;refine(X.out _ (bS q l.1)).mono ?_;rintro e' L ⟨v1,F1,rfl,o1,m⟩;generalize Z=VD at *;obtain⟨cd,vt,sd⟩:=VD;obtain⟨p1,p2,p3,p4,p5,m1,m2,m3,m4,m5,q1,q2,q3,q4,q5,rfl⟩:=kR o1;have j:aa g L:=bS l.1 m;have a0:aa w L:=bS q j;have hz:w.heap.size+3≤L.heap.size:=by have:=j.size;omega
 have HO:Hid (shdRR.O L (w.heap.size+3) F1 (.agg #[iV cd,iV vt,iV sd.idx,.slice p1 m1 q1,.slice p2 m2 q2,.slice p3 m3 q3,.slice p4 m4 q4,.slice p5 m5 q5]) ⟨cd,vt,sd⟩):=shdRR.base o1 (by have:=l.1.size;omega);have A:=And.intro (bS l.1 m) (kS10 m l.2);refine kR8 j ?_ C D E F G H I J;clear C D E F G H I J;intro C D E F G H I J;replace Y:=ai j zq Y;refine n _ _ (fun _=>A) ?_;clear n K m X l o1 y0 y1 y2 y3 y4 y5 g0 g1 g2 g3;try simp only[jX]
 refine uS 6 rfl (fun K n=>?_);go_simp;refine n _ _ (fun h=>absurd rfl h) ?_;clear n K A j;refine dP ?_;go_wp2;refine bodyPost_ret (v:=.agg #[iV cd,iV vt,iV sd.idx,.slice p1 m1 q1,.slice p2 m2 q2,.slice p3 m3 q3,.slice p4 m4 q4,.slice p5 m5 q5]) (by simp[results,Tryz.results36,go_sem,C,D,E,F,G,H,I,J,Y]) rfl ?_;have k:w.heap.size≤w.heap.size+2:=oM;exact⟨_,F1,rfl,shdRR.base (vZ shdRR HO.out (fun h=>by have:=(shdRR.rng HO.out _ h).1;omega) _ _ _ _ _ _ _ _) oM,bset (p:=⟨w.heap.size+2,7,none⟩) (bset (p:=⟨w.heap.size+2,6,none⟩) (bset (p:=⟨w.heap.size+2,5,none⟩) (bset (p:=⟨w.heap.size+2,4,none⟩) (bset (p:=⟨w.heap.size+2,3,none⟩) (bset (p:=⟨w.heap.size+2,2,none⟩) (bset (p:=⟨w.heap.size+2,1,none⟩) (bset (p:=⟨w.heap.size+2,0,none⟩) (a0) k _) k _) k _) k _) k _) k _) k _) k _⟩
end
section
variable [dQ Logg] [iH Logg] [dQ LoggR] [iH LoggR] [dQ BytesR] [iH BytesR] [dQ RecsR] [iH RecsR] [dQ Leg] [iH Leg]
theorem fJi (c:Int):fKx (fA5 c)≤6000:=by simp[fKx,gJ,kM,fA5]
end
section
variable [dQ Logg] [iH Logg] [dQ LoggR] [iH LoggR] [dQ BytesR] [iH BytesR] [dQ RecsR] [iH RecsR] [dQ Leg] [iH Leg]
theorem fF4 {P:Program} (w:World) (t ty e:TypeId) (i:TypeInfo) (ht:P.underlying t=some (.slice e)) (hi:P.info? e=some i) (g c:Nat) (ao:Option Addr) :
  (Builtin.append_ #[t,t] ty #[.slice (some ⟨g,0,none⟩) 0 0,.slice ao 0 c]).run P w =.ok (.slice (some ⟨g,0,none⟩) 0 0) w:=by
 cases ao with
 | none=>simp[Builtin.append_,run_underlying ht,sizeOf,typeInfo,hi,Builtin.lenOf,Builtin.firstCells,storeCells]
 | some ad=>simp[Builtin.append_,run_underlying ht,sizeOf,typeInfo,hi,Builtin.lenOf,Builtin.firstCells,storeCells,loadCells,loadCellsFrom]
theorem fMu (Y:World) {ops:Array Oper} {o:Oper} {a:Act} {K:Act→World→Prop} {Q:Exit→Act→World→Prop} {E:Prop} (hgd:o.guard=none) (s x:Operand)
  (ho:o.op =.call {callee:=.builtin .append,args:=#[s,x],argTypes:=#[23,23]})
  (g:Nat) (hs:a.eval s =.slice (some ⟨g,0,none⟩) 0 0) (u:Value) (ys:List Byte) (hx:a.eval x=u) (hsrc:gP Y u ys.length (fT ys)) (hlen:ys.length≤1073741824)
  (h:∀v' w',aa Y w'→((ys=[]∧v' =.slice (some ⟨g,0,none⟩) 0 0)∨w'.ownsRow Y.heap.size 5 1 v' ys.length (fT ys))→K (a.put o.dst v') w') :
  if Region.wanted o (yielded ops a.tmps)=true then Oper.wp Tryz.prog o a Y K Q else E:=by
 obtain⟨q,r,l,m,n⟩:=info_parts infoByte;by_cases hy:ys=[]
 ·
  subst hy;have A:∃p c,u =.slice p 0 c:=by
   rcases hsrc with ⟨c,rfl,_,_⟩|⟨y,c,rfl,_⟩
   ·exact⟨_,_,rfl⟩
   exact⟨_,_,rfl⟩
  obtain⟨p,c,rfl⟩:=A;have B:Region.wanted o (yielded ops a.tmps)=true:=by simp[Region.wanted,hgd]
  rw[if_pos B];have C:=fF4 (P:=Tryz.prog) Y 23 o.type 5 q Tryz.underlying23 r g c p;unfold Oper.wp execOp;simp only[ho,resolve,invoke,builtin,Sem.run_bind,Sem.run_pure,Result.andThen_ok,List.map_toArray,List.map_cons,List.map_nil,hs,hx,C];exact h _ _ (bR _ _) (.inl ⟨rfl,rfl⟩)
 rcases hsrc with ⟨c,rfl,D,_⟩|⟨y,c,rfl,F⟩
 ·exact absurd (List.eq_nil_of_length_eq_zero D) hy
 have z:0<ys.length:=List.length_pos_iff.2 hy;refine step_append_grows hgd s x 23 ho 5 q _ 1 1 Tryz.underlying23 r l m n rfl (by decide) (some ⟨g,0,none⟩) 0 0 [] hs (fun e=>by cases e) rfl (fun _ _ j v G=>by cases G) y ys.length c (fT ys) hx (by rw[qO];omega) F (xU ys) oM (by unfold maxLen;omega) oM ?_;intro v' w' d H;refine h v' w' ((bR _ _).grown H (Nat.le_refl _) (fun k e=>by cases e)) (.inr ?_);simpa using d
def fA7 (d:Logg):Nat→(Nat→Value)→Nat→Nat→World→Prop
 | 0,y,lo,hi,w=>y 3 =.slice (some ⟨lo,0,none⟩) 0 0∧lo<hi∧w.ownsRow lo 5 1 (.slice (some ⟨lo,0,none⟩) 0 0) 0 (fT [])
 | 3,y,lo,hi,w=>(∃a c,y 6 =.slice a d.synced.length c)∧((d.synced=[]∧y 6=y 3)∨(w.ownsRow lo 5 1 (y 6) d.synced.length (fT d.synced)∧∀b,(y 6).ownBlock=some b→b<hi))
 | 4,y,lo,hi,w=>y 7 =.slice (some ⟨lo,0,none⟩) 0 0∧lo<hi∧w.ownsRow lo 5 1 (.slice (some ⟨lo,0,none⟩) 0 0) 0 (fT [])
 | 7,y,lo,hi,w=>(∃a c,y 10 =.slice a d.loose.length c)∧((d.loose=[]∧y 10=y 7)∨(w.ownsRow lo 5 1 (y 10) d.loose.length (fT d.loose)∧∀b,(y 10).ownBlock=some b→b<hi))
 | 8,y,_,_,_=>y 11 =.agg #[y 6,y 10]
 | _,_,_,_,_=>True
theorem fQi {w0 w:World} {xs:List Byte} {v v0:Value} {l1 h1 l2 h2:Nat} (b1:InB w0 w l1 h1) (b2:InB w0 w l2 h2)
  (g1:v0 =.slice (some ⟨l1,0,none⟩) 0 0∧l1<h1∧w.ownsRow l1 5 1 (.slice (some ⟨l1,0,none⟩) 0 0) 0 (fT []))
  (g2:(xs=[]∧v=v0)∨(w.ownsRow l2 5 1 v xs.length (fT xs)∧∀b,v.ownBlock=some b→b<h2)) :
  ∃F,bytesR.O w w0.heap.size F v xs∧∀b,F b→(l1≤b∧b<h1)∨(l2≤b∧b<h2):=by
 rcases g2 with ⟨rfl,rfl⟩|⟨g2,d⟩
 ·obtain⟨rfl,g,e⟩:=g1;refine⟨_,bytesR.base (base:=l1) ⟨e,rfl⟩ b1.1,fun b hb=>.inl ?_⟩;simp[Value.ownBlock] at hb;omega
 refine⟨_,bytesR.base (base:=l2) ⟨g2,rfl⟩ b2.1,fun b hb=>.inr ⟨?_,d b hb⟩⟩;exact(bytesR.rng (F:=fun b=>v.ownBlock=some b) (show bytesR.O w l2 _ v xs from ⟨g2,rfl⟩) b hb).1
theorem fIa (x:Value) (d:Logg) (w:World) (hx:loggR.V w x d) (hn:gJ d≤1048576) :
  cL 66 #[x] w fun e w'=>∃v F,e =.returned v∧loggR.O w' w.heap.size F v d∧aa w w':=by
 have hX:=hx;obtain⟨u1,u2,rfl,h1,h2⟩:=hx;obtain⟨s,z,rfl⟩:=fF h1;obtain⟨A,B,rfl⟩:=fF h2;unfold gJ kM at hn;go_enter Tryz.func66,Tryz.ntmps66;go_wp2;refine wp_region_noPanic ?_;refine fB (fun w'=>aa w w'∧ah w' w.heap.size 0 s d.synced.length z∧ah w' w.heap.size 1 A d.loose.length B) 9 kF ⟨hE,by simp[go_sem],sG⟩ (fun hS=>?_);refine tY 1 ?_;refine tY 2 ?_;refine tY 5 ?_;refine tY 6 ?_;have a0:Below (w.heap.size+2) ((w.alloc (.cells #[.slice s d.synced.length z,.slice A d.loose.length B] 31)).alloc (.cells #[aj,aj] 31)) ((w.alloc (.cells #[.slice s d.synced.length z,.slice A d.loose.length B] 31)).alloc (.cells #[aj,aj] 31)).drew:=Below.drew (bR _ _);have a3:((w.alloc (.cells #[.slice s d.synced.length z,.slice A d.loose.length B] 31)).alloc (.cells #[aj,aj] 31)).drew.heap.size=w.heap.size+2:=by simp
 have r0:((w.alloc (.cells #[.slice s d.synced.length z,.slice A d.loose.length B] 31)).alloc (.cells #[aj,aj] 31)).drew.cell? ⟨w.heap.size+1,0,none⟩=some aj:=sG;have r1:((w.alloc (.cells #[.slice s d.synced.length z,.slice A d.loose.length B] 31)).alloc (.cells #[aj,aj] 31)).drew.cell? ⟨w.heap.size+1,1,none⟩=some aj:=sG;have rf:∀o,((w.alloc (.cells #[.slice s d.synced.length z,.slice A d.loose.length B] 31)).alloc (.cells #[aj,aj] 31)).drew.frozen? ⟨w.heap.size+1,o,none⟩=false:=fun o=>sG
 have a4:=hS.1;clear a0;generalize ((w.alloc (.cells #[.slice s d.synced.length z,.slice A d.loose.length B] 31)).alloc (.cells #[aj,aj] 31)).drew=W0 at *;refine uT [(0,3),(3,6),(4,7),(7,10),(8,11)] (fA7 d) kF hS (fun W G h hb=>⟨bS h.1 hb,cK hb h.2.1,cK hb h.2.2⟩) ?_ ?_ ?_
 ·
  intro p H;simp only[List.mem_cons,List.not_mem_nil,or_false] at H;rcases H with rfl|rfl|rfl|rfl|rfl
  ·intro y Y q E W G h C hb e _;simp only[fA7] at h ⊢;rw[e];exact⟨h.1,h.2.1,fO h.2.2 hb⟩
  ·intro y Y q E W G h C hb e he;have I:=he (0,3) (by simp) kF;simp only[fA7] at h ⊢;rw[e,I];exact⟨h.1,h.2.imp id (fun h=>⟨fO h.1 hb,h.2⟩)⟩
  ·intro y Y q E W G h C hb e _;simp only[fA7] at h ⊢;rw[e];exact⟨h.1,h.2.1,fO h.2.2 hb⟩
  ·intro y Y q E W G h C hb e he;have I:=he (4,7) (by simp) kF;simp only[fA7] at h ⊢;rw[e,I];exact⟨h.1,h.2.imp id (fun h=>⟨fO h.1 hb,h.2⟩)⟩
  intro y Y q E W G h C hb e he;have I:=he (3,6) (by simp) kF;have e1:=he (7,10) (by simp) kF;simp only[fA7] at h ⊢;rw[e,I,e1];exact h
 ·
  intro p H;simp only[List.mem_cons,List.not_mem_nil,or_false] at H;rcases H with rfl|rfl|rfl|rfl|rfl
  all_goals
   refine⟨_,rfl,rfl,?_⟩;intro y W q E l m g j K k;clear j
  ·clear g;refine⟨?_⟩;simp only[over,jX,lZ] at k ⊢;go_simp;refine k _ _ hE ?_;simp only[fA7,updV];exact⟨rfl,by simp,fKb (bR _ _) _ rfl (Nat.le_refl _)⟩
  ·
   have r:=(g (0,3) (by simp) kF).2;clear g;simp only[fA7] at r;refine⟨?_⟩;refine fMu W rfl (.tmp 3) (.tmp 5) rfl (q 0) ?_ (.slice s d.synced.length z) d.synced ?_ (kN (bytesR.below h1 l.1)) oM ?_
   ·exact r.1
   ·rfl
   intro v' w' hb n;refine k _ _ hb ?_;simp only[fA7,updV];rcases n with ⟨J,rfl⟩|n
   ·exact⟨⟨some ⟨q 0,0,none⟩,0,by simp[J]⟩,.inl ⟨J,by simp[r.1]⟩⟩
   obtain⟨av,cv,hv⟩:=fD n;refine⟨⟨av,cv,by simpa using hv⟩,.inr ⟨by simpa using n,fun b D=>?_⟩⟩;exact(bytesR.rng (F:=fun b=>v'.ownBlock=some b) (show bytesR.O w' _ _ v' d.synced from ⟨n,rfl⟩) b (by simpa using D)).2
  ·clear g;refine⟨?_⟩;simp only[over,jX,lZ] at k ⊢;go_simp;refine k _ _ hE ?_;simp only[fA7,updV];exact⟨rfl,by simp,fKb (bR _ _) _ rfl (Nat.le_refl _)⟩
  ·
   have r:=(g (4,7) (by simp) kF).2;clear g;simp only[fA7] at r;refine⟨?_⟩;refine fMu W rfl (.tmp 7) (.tmp 9) rfl (q 4) ?_ (.slice A d.loose.length B) d.loose ?_ (kN (bytesR.below h2 l.1)) oM ?_
   ·exact r.1
   ·rfl
   intro v' w' hb n;refine k _ _ hb ?_;simp only[fA7,updV];rcases n with ⟨J,rfl⟩|n
   ·exact⟨⟨some ⟨q 4,0,none⟩,0,by simp[J]⟩,.inl ⟨J,by simp[r.1]⟩⟩
   obtain⟨av,cv,hv⟩:=fD n;refine⟨⟨av,cv,by simpa using hv⟩,.inr ⟨by simpa using n,fun b D=>?_⟩⟩;exact(bytesR.rng (F:=fun b=>v'.ownBlock=some b) (show bytesR.O w' _ _ v' d.loose from ⟨n,rfl⟩) b (by simpa using D)).2
  have L:=(g (3,6) (by simp) kF).2;have M:=(g (7,10) (by simp) kF).2;clear g;simp only[fA7] at L M;obtain⟨⟨a6,c6,Z⟩,_⟩:=L;obtain⟨⟨a7,c7,e7⟩,_⟩:=M;refine⟨?_⟩;simp only[over,jX,lZ] at k ⊢;simp only[Z,e7] at k ⊢;go_simp;refine k _ _ (bR _ _) ?_;simp only[fA7,updV];simp[Z,e7]
 refine⟨_,rfl,?_⟩;intro y W q E l m g j K k;have h0:=g (0,3) (by simp);have h3:=g (3,6) (by simp);have h4:=g (4,7) (by simp);have h7:=g (7,10) (by simp);have h8:=g (8,11) (by simp);clear g;simp only[fA7] at h0 h3 h4 h7 h8;obtain⟨b0,r⟩:=h0;obtain⟨b3,L⟩:=h3;obtain⟨b4,g4⟩:=h4;obtain⟨b7,M⟩:=h7;obtain⟨b8,g8⟩:=h8;have N:=j (0,3) (by simp) (4,7) (by simp) (by simp);have R:=j (0,3) (by simp) (7,10) (by simp) (by simp);have T:=j (3,6) (by simp) (4,7) (by simp) (by simp);have U:=j (3,6) (by simp) (7,10) (by simp) (by simp);clear j;simp only[fBi] at N R T U;obtain⟨F1,o1,f1⟩:=fQi b0 b3 r L.2;obtain⟨F2,o2,f2⟩:=fQi b4 b7 g4 M.2;obtain⟨⟨a6,c6,Z⟩,_⟩:=L;obtain⟨⟨a7,c7,e7⟩,_⟩:=M;have X:∀b,F1 b→¬F2 b:=fun b q1 q2=>by
  have:=f1 b q1;have:=f2 b q2;omega
 have q0:=cK m r0;have q1:=cK m r1;have qf:aq W (w.heap.size+1):=fun o=>by rw[(bcell m).2 _ _ oM];exact rf o
 rw[a3] at o1 o2;rw[Z] at o1 g8;rw[e7] at o2 g8;have a5:=l.1;refine⟨?_⟩;simp only[over,jX,lZ];simp only[g8];clear r g4 g8 b0 b3 b4 b7 b8 N R T U f1 f2 hS l m;go_simp;refine k _ _ ?_;clear k K;refine NoPanic.normal ?_;go_wp2;refine bodyPost_ret (v:=.agg #[.slice a6 d.synced.length c6,.slice a7 d.loose.length c7]) ?_ rfl ⟨_,fun b=>F1 b∨F2 b,rfl,⟨_,_,F1,F2,rfl,bytesR.base (bytesR.set (bytesR.set o1 _ (by simp)) _ (by simp)) oM,bytesR.base (bytesR.set (bytesR.set o2 _ (by simp)) _ (by simp)) oM,X,fun b=>Iff.rfl⟩,hE⟩;simp[results,Tryz.results66,go_sem,q0,q1]
variable [dQ Cont] [iH Cont] [dQ Evt] [iH Evt] [dQ EvtsR] [iH EvtsR] [dQ EvtR] [iH EvtR] [dQ ContR] [iH ContR] [dQ Bal] [iH Bal] [dQ Jrn] [iH Jrn]
theorem fOj (x:Value) (d:Logg) (w:World) (hx:loggR.V w x d) (h0:logF d=0) :
  cL 92 #[x] w fun e w'=>∃v F,e =.returned (.tuple #[v,iV (evsR (d.synced++d.loose)).code])∧evtsR.O w' w.heap.size F v (evsR (d.synced++d.loose)).evts∧aa w w':=by
 have aR:d.synced.length+d.loose.length≤6000:=by
  rcases rE d with ⟨_,h⟩|h
  ·exact h
  rw[h0] at h;cases h
 have HS:Hid (bW w fun W=>cL 50 #[x] W fun e w'=>∃v F,e =.returned v∧loggR.O w' W.heap.size F v ⟨d.synced++d.loose,[]⟩∧aa W w'):=fun W hW=>fIb x d W (loggR.below hx hW) (by unfold gJ kM;omega)
 obtain⟨a1,a2,c1,c2,rfl⟩:=mJ hx;have l:(d.synced++d.loose).length=d.synced.length+d.loose.length:=List.length_append;have HR:Hid (∀W v,mP W v (d.synced++d.loose)→cL 104 #[v] W fun e w'=>∃v F,e =.returned (.tuple #[v,iV (recU (d.synced++d.loose))])∧bytessR.O w' W.heap.size F v (recL (d.synced++d.loose))∧aa W w'):=fun W v hv=>fJ5 v _ W hv oM
 have aB:recU (d.synced++d.loose)≤(d.synced++d.loose).length:=fVr _;have aC:=fIt (d.synced++d.loose);clear hx h0;generalize aD:d.synced.length=H at *;generalize aE:d.loose.length=I at *;clear aD aE;generalize d.synced++d.loose=xs at *;have B:Hid (allE (recL xs)=false∨¬recU xs=xs.length→evsR xs=⟨5,[]⟩):=fP1;have J:Hid (allE (recL xs)=true→recU xs=xs.length→¬(recL xs).length≤60→evsR xs=⟨2,[]⟩):=fLh;have K:Hid (allE (recL xs)=true→recU xs=xs.length→(recL xs).length≤60→evsR xs=⟨0,evL (recL xs)⟩):=fUf;generalize evsR xs=Z at *;generalize aF:recU xs=us at *;clear aF;generalize recL xs=g at *;have ad:Hid (xs.length=H+I):=l;have ae:Hid (us≤H+I∧g.length≤H+I):=by show _∧_;omega
 clear l aB aC;go_enter Tryz.func92,Tryz.ntmps92;go_wp2_with fail;refine(HS.out _ hE).mono ?_;rintro e w1 ⟨v1,F1,rfl,o1,L⟩;obtain⟨u3,u4,rfl,V3,V4⟩:=loggR.ofO o1;obtain⟨a3,c3,rfl⟩:=fF V3;obtain⟨a4,c4,rfl⟩:=fF V4;have af:=bT w L;have x0:ah w1 w.heap.size 0 a1 H c1:=cK L sG;have x1:ah w1 w.heap.size 1 a2 I c2:=cK L sG;have aG:∀w:World,(Instr.field 31 (.agg #[.slice a3 xs.length c3,.slice a4 0 c4]) 0).run Tryz.prog w =.ok (.slice a3 xs.length c3) w:=fun _=>kF
 clear L o1 HS V4;go_wp2_with fail;refine(HR.out _ _ V3).mono ?_;rintro e y ⟨v2,F2,rfl,o2,M⟩;obtain⟨ar,cr,rfl,aQ,aH,ag⟩:=fVs (bytessR.ofO o2);unfold maxLen at aH;have aI:aa w y:=bS af M;replace x0:=cK M x0;replace x1:=cK M x1;have z0:w.heap.size<y.heap.size:=wL y _ x0;have HX:Hid (∀k,k<g.length→∃b o u,ar=some ⟨b,o,none⟩∧y.cell? ⟨b,o+k,none⟩=some u∧bytesR.V y u (g.getD k default)):=ag;clear M o2 HR V3 aG af ag;have HU:Hid (∀k,k<g.length→evL (g.take (k+1))=evL (g.take k)++[(unpE (g.getD k default)).evt]):=fun k hk=>fPy hk
 have HA:Hid ((∀j,j<g.length→(unpE (g.getD j default)).code=0)→allE g=true):=fTq;have N:Hid (∀k,k<g.length→¬(unpE (g.getD k default)).code=0→allE g=false):=fun k hk h=>fTp hk h
 have C:Hid (∀k,k≤g.length→(evL (g.take k)).length=k):=fun k hk=>by show _=_;rw[fUb,List.length_take];omega
 have HT:Hid (evL (g.take g.length)=evL g):=by show _=_;rw[List.take_length]
 generalize hn:g.length=n at *;clear hn;have T:=fXm y y.heap.size (Nat.le_refl _);go_wp2;go_loopw [6,7] (fun s i w'=>∃(k:Nat) (a:Option Addr) (c:Nat) (F:Nat→Prop),k≤n∧i =.int .i64 k∧s =.slice a k c∧Hid (evtsR.O w' y.heap.size F (.slice a k c) (evL (g.take k)))∧Hid (∀j,j<k→(unpE (g.getD j default)).code=0)∧aa y w') (fun s i _=>n-(intOf i).toNat)
 case atStart=>exact⟨0,_,0,_,Nat.zero_le _,rfl,rfl,T,fun j hj=>absurd hj oM,hE⟩
 clear T;obtain⟨k,Y,a0,F,hk,rfl,rfl,U,HK,l⟩:=hrel;have zr:=l.size;have z:aa w wr:=aI.trans (l.mono oM);have y0:=cK l x0;have y1:=cK l x1;have aS:w.heap.size<wr.heap.size:=oM;by_cases a7:k<n
 ·
  obtain⟨bx,ox,ux,rfl,g0,hV⟩:=HX.out k a7;have a8:=HU.out k a7;have a9:=N.out k a7;obtain⟨r,hr⟩:∃r,r=g.getD k default:=⟨_,rfl⟩
  rw[←hr] at hV a8 a9;have ab:Hid (r=g.getD k default):=hr;have HE:Hid (evL (g.take (k+1))=evL (g.take k)++[(unpE r).evt]):=a8;have D:Hid (¬(unpE r).code=0→allE g=false):=a9;clear hr a8 a9;have zb:bx<y.heap.size:=wL y _ g0;replace g0:=cK l g0;have ac:Hid (bW y fun W=>cL 130 #[ux] W (fKy W r)):=fun W hW=>fOl ux r W (bytesR.below hV hW)
  clear hV;have k1:(k:Int)<n:=oM;go_wp2_with fail;refine(ac.out _ hE).mono ?_;rintro e w3 ⟨v3,F3,E,rfl,o3,hy,A⟩;obtain⟨p,q,rfl⟩:=fE1 o3;have aT:aa y w3:=l.trans (A.mono zr);have aU:=A.size;by_cases hc:(unpE r).code=0
  ·
   have ak:unpE r=⟨0,E⟩:=hy hc;have e1:decide ((unpE r).code=0)=true:=decide_eq_true hc;have aJ:Hid (evL (g.take (k+1))=evL (g.take k)++[E]):=by show _=_;rw[HE.out,ak]
   have aK:Hid (∀j,j<k+1→(unpE (g.getD j default)).code=0):=fun j hj=>by
    by_cases e:j=k
    ·rw[e,←ab.out];exact hc
    exact HK.out j oM
   rw[e1];have G:Hid (evtsR.O w3 y.heap.size F (.slice Y k a0) (evL (g.take k))):=evtsR.keep U.out A;have al:Hid (∀b,F b→b<wr.heap.size):=fun b hb=>(evtsR.rng U.out b hb).2
   have am:Hid (∀b,F3 b→wr.heap.size≤b):=fun b hb=>(evtR.rng o3 b hb).1
   have ao:Hid (evtR.O w3 y.heap.size F3 (.agg #[.bool E.vote,iV E.con.id,.slice p E.con.legs.length q,iV E.out]) E):=evtR.base o3 zr;have au:=C.out k hk;clear A o3 ac U g0 e1 hc ak hy HE HK D ab;generalize hm:E.con.legs.length=m at *;have HM:Hid (E.con.legs.length=m):=hm;clear hm;go_wp2_with (at_builtin;refine fM9 _ rfl _ _ rfl y.heap.size F F3 _ (evL (g.take k)) E (w3.heap.size+1) p q rfl rfl ?a1 ?a2 ?a3 ?a4 ?a5 ?a6 ?_)
   case a1=>exact evtsR.alloc (evtsR.alloc G.out _) _
   case a2=>rw[HM.out];exact evtR.alloc (evtR.alloc ao.out _) _
   case a3=>exact fun b h1 h2=>by have:=al.out b h1;have:=am.out b h2;omega
   case a4=>rw[HM.out];simp[go_sem]
   case a5=>have:=ae.out;rw[au];omega
   case a6=>simp;omega
   intro v4 w4 F4 o4 av _;rw[←aJ.out] at o4;obtain⟨aw,ax,e4⟩:=vO (evtsR.ofO o4);rw[C.out (k+1) oM] at e4;subst e4;have aL:Hid (evtsR.O w4 y.heap.size F4 (.slice aw (k+1) ax) (evL (g.take (k+1)))):=o4;have aM:aa y w4:=Below.trans hE av;clear o4 av G ao al am au;go_wp2;exact⟨⟨k+1,aw,ax,F4,by omega,by go_num,rfl,aL,aK,aM⟩,mI⟩
  have e1:decide ((unpE r).code=0)=false:=decide_eq_false hc;have HD:Hid (Z=⟨5,[]⟩):=B.out (.inl (D.out hc));rw[e1];have aN:aa w w3:=z.trans (A.mono oM);clear A o3 ac U g0 e1 hc hy HE HK D ab;generalize E.con.legs.length=m at *;go_wp2;refine bodyPost_ret (v:=.tuple #[aj,iV 5]) (by simp[results,Tryz.results92,go_sem]) rfl ?_;rw[HD.out];have X:=fun o=>bA aN o
  first|exact⟨_,fun _=>False,rfl,xB _ _,X _⟩|exact⟨_,rfl,⟨fun _=>False,xB _ _⟩,X _⟩
 have aO:k=n:=oM;subst aO;have ay:allE g=true:=HA.out HK.out;have ho:=U.out;rw[HT.out] at ho;have k1:¬(k:Int)<(k:Int):=oM;have aV:IntKind.i64.wrap ((H:Int)+I)=H+I:=by rw[IntKind.wrap_i64];omega
 by_cases hu:us=H+I
 ·
  have az:¬(us:Int)<(H:Int)+I:=oM;have R:us=xs.length:=by rw[ad.out];exact hu
  by_cases aA:k≤60
  ·have HD:Hid (Z=⟨0,evL g⟩):=K.out ay R aA;have aP:¬(60:Int)<(k:Int):=oM;have G:Hid (evtsR.O wr w.heap.size F (.slice Y k a0) (evL g)):=evtsR.base ho oM;clear ho U HX HU N C HK B J K HA HT hu R;go_wp2;refine bodyPost_ret (v:=.tuple #[.slice Y k a0,iV 0]) (by simp[results,Tryz.results92,go_sem]) rfl ?_;rw[HD.out];first|exact⟨_,F,rfl,G.out,z⟩|exact⟨_,rfl,⟨F,G.out⟩,z⟩
  have HD:Hid (Z=⟨2,[]⟩):=J.out ay R aA;have aP:(60:Int)<(k:Int):=oM;clear ho U HX HU N C HK B J K HA HT hu R;go_wp2;refine bodyPost_ret (v:=.tuple #[aj,iV 2]) (by simp[results,Tryz.results92,go_sem]) rfl ?_;rw[HD.out];first|exact⟨_,fun _=>False,rfl,xB _ _,z⟩|exact⟨_,rfl,⟨fun _=>False,xB _ _⟩,z⟩
 have HD:Hid (Z=⟨5,[]⟩):=B.out (.inr (by rw[ad.out];exact hu));have az:(us:Int)<(H:Int)+I:=by have:=ae.out;omega
 clear ho U HX HU N C HK B J K HA HT hu;go_wp2;refine bodyPost_ret (v:=.tuple #[aj,iV 5]) (by simp[results,Tryz.results92,go_sem]) rfl ?_;rw[HD.out];first|exact⟨_,fun _=>False,rfl,xB _ _,z⟩|exact⟨_,rfl,⟨fun _=>False,xB _ _⟩,z⟩
end
section
variable [dQ Leg] [iH Leg] [dQ Cont] [iH Cont] [dQ Evt] [iH Evt] [dQ EvtR] [iH EvtR] [dQ BytesR] [iH BytesR] [dQ ContR] [iH ContR] [dQ Logg] [iH Logg] [dQ LoggR] [iH LoggR] [dQ RecsR] [iH RecsR] [dQ Rw] [iH Rw] [dQ Bal] [iH Bal] [dQ Ledg] [iH Ledg] [dQ LedgR] [iH LedgR] [dQ OutcR] [iH OutcR] [dQ Mrk] [iH Mrk] [dQ Shd] [iH Shd] [dQ ShdR] [iH ShdR]
def yZ (ys:List Byte):Value:=.tuple (if ys.length=9 then #[.agg #[.bool false,.int .i64 (IntKind.i64.wrap (hiN (ys.take 8))),.slice none 0 0,.int .i64 ((ys.getD 8 0).val:Int)],.bool (evtF ⟨false,⟨IntKind.i64.wrap (hiN (ys.take 8)),[]⟩,((ys.getD 8 0).val:Int)⟩==0)] else #[.agg #[.bool false,.int .i64 0,.slice none 0 0,.int .i64 0],.bool false])
theorem fOx (x:Value) (ys:List Byte) (w:World) (hx:bytesR.V w x ys) :
  RI 141 #[x] w (yZ ys):=by
 have A:=hx;obtain⟨L,M,rfl,r,B,hx⟩:=hx;unfold maxLen at B;by_cases s:ys.length=9
 ·
  have y:Hid (yZ ys =.tuple #[.agg #[.bool false,iV (IntKind.i64.wrap (hiN (ys.take 8))),aj,iV ((ys.getD 8 0).val:Int)],.bool (evtF ⟨false,⟨IntKind.i64.wrap (hiN (ys.take 8)),[]⟩,((ys.getD 8 0).val:Int)⟩==0)]):=by show _=_;unfold yZ;rw[if_pos s]
  obtain⟨a',N,m,I⟩:=cutH (a:=L) (n:=ys.length) (cap:=M) 8 oM oM r;have p:=I w ys rfl A;rw[show(8:Int).toNat=8 by omega] at p m;obtain⟨z,C,rfl,q⟩:=hx 8 oM;have O:IntKind.i64.wrap ((ys.getD 8 0).val:Int)=((ys.getD 8 0).val:Int):=by rw[IntKind.wrap_i64];have:=(ys.getD 8 0).isLt;omega
  have J:Hid (bW w fun W=>cL 169 #[.slice a' 8 N] W fun e w'=>e =.returned (iV (IntKind.i64.wrap (hiN (ys.take 8))))∧w'=W):=fun W D=>uO _ _ W (gF p D)
  generalize IntKind.i64.wrap (hiN (ys.take 8))=id at *;generalize ((ys.getD 8 0).val:Int)=k at *;have R:z<w.heap.size:=wL w _ q;have K:Hid (∀W,RI 52 #[.agg #[.bool false,iV id,aj,iV k]] W (iV (evtF ⟨false,⟨id,[]⟩,k⟩))):=fun W=>fFi _ ⟨false,⟨id,[]⟩,k⟩ W (evtR.ofO (xY W 0 false id k))
  clear hx A I p;rw[s] at r m ⊢;rw[y.out];clear y s;generalize evtF ⟨false,⟨id,[]⟩,k⟩=T at *;go_enter Tryz.func141,Tryz.ntmps141;go_wp2;have E:∀W,aa w W→W.cell? ⟨z,C+8,none⟩=some (.int .u8 k):=fun W D=>cK D q
  have U:(w.alloc (.cells #[.bool false,iV 0,aj,iV 0] 59)).cell? ⟨z,C+8,none⟩=some (.int .u8 k):=E _ hE;go_region_held3 (fun W=>aa w W∧cW W z (C+8) (.int .u8 k)) ((refine⟨hE,?_⟩;refine E _ hE)) (first|(go_at_call 169;refine(J.out _ hE).mono ?_;rintro e w2 ⟨rfl,X⟩;obtain rfl:=X.symm));all_goals
   go_wp2;obtain⟨j,d⟩:∃j,j=((w.alloc (.cells #[.bool false,iV 0,aj,iV 0] 59)).alloc (.cells #[.bool false,iV id,aj,iV k] 59)).drew:=⟨_,rfl⟩
   have h0:aa w j∧j.cell? ⟨w.heap.size+1,0,none⟩=some (.bool false)∧j.cell? ⟨w.heap.size+1,1,none⟩=some (iV id)∧j.cell? ⟨w.heap.size+1,2,none⟩=some aj∧j.cell? ⟨w.heap.size+1,3,none⟩=some (iV k):=by
    rw[d];exact⟨hE,by simp[go_sem],sG,by simp[go_sem],sG⟩
   have Y:cW j w.heap.size 0 (.bool false):=cQ d;have Z:cI j w.heap.size 1 0:=cQ d;have r2:cN j w.heap.size 2:=cQ d;have r3:cI j w.heap.size 3 0:=cQ d;have rf:aq j w.heap.size:=fun o=>by rw[d];simp[go_sem]
   have F:w.heap.size<j.drew.heap.size:=by show w.heap.size<j.heap.size;rw[d];simp;omega
   rw[←d];clear d R m E q U J;go_region_held3 (fun W=>aa w W∧cW W (w.heap.size+1) 0 (.bool false)∧cI W (w.heap.size+1) 1 id∧cN W (w.heap.size+1) 2∧cI W (w.heap.size+1) 3 k)
    ((first|exact uL h0 (Below.drew (bR _ _))|exact l|exact fI5 l _ _ _ _))
    (first|(go_at_call 52;refine(K.out _).mono ?_;rintro e w3 ⟨rfl,g⟩;have l:=uL (uL h0 (Below.drew (bR _ _))) g;have e0:=cK g (cK (Below.drew (bR _ _)) Y);have e1:=cK g (cK (Below.drew (bR _ _)) Z);have e2:=cK g (cK (Below.drew (bR _ _)) r2);have e3:=cK g (cK (Below.drew (bR _ _)) r3);have G:=fun o=>((bcell g).2 w.heap.size o F).trans (rf o)))
   have H:aa w w3:=l.1;clear l g h0 K;go_wp2;refine bodyPost_ret (v:=.tuple #[.agg #[.bool false,iV id,aj,iV k],.bool (T==0)]) (by simp[results,Tryz.results141,go_sem,e0,e1,e2,e3,G]) rfl ⟨rfl,?_⟩;iterate 4 (refine bset ?_ (by simp) _)
   exact H
 have y:Hid (yZ ys =.tuple #[.agg #[.bool false,iV 0,aj,iV 0],.bool false]):=by show _=_;unfold yZ;rw[if_neg s]
 have hd:((ys.length:Int) !=9)=true:=by simp only[bne_iff_ne,ne_eq];omega
 clear hx A s;rw[y.out];generalize ys.length=n at *;go_enter Tryz.func141,Tryz.ntmps141;go_wp2;exact bodyPost_ret (v:=.tuple #[.agg #[.bool false,iV 0,aj,iV 0],.bool false]) (by simp[results,Tryz.results141,go_sem]) rfl ⟨rfl,hE⟩
theorem fRt {xs:List Byte} (h:1≤xs.length):(xs.drop 1).length=xs.length-1∧(xs.drop 1).getD 8 0=xs.getD 9 0:=⟨by rw[List.length_drop],by simp[List.getD]⟩
theorem fUc (x:Value) (xs:List Byte) (w:World) (hx:bytesR.V w x xs) :
  cL 115 #[x] w (fKy w xs):=by
 have M:=hx;obtain⟨ax,cx,rfl,X,a2,hx⟩:=hx;unfold maxLen at a2;by_cases h0:xs.length=0
 ·have C:Hid (unpE xs=errE):=fI7 h0;clear hx M;rw[h0] at X ⊢;go_enter Tryz.func115,Tryz.ntmps115;go_wp2;exact bodyPost_ret (v:=.tuple #[.agg #[.bool false,iV 0,aj,iV 0],.bool false]) (by simp[results,Tryz.results115,go_sem]) rfl (yF C.out hE)
 have Y:1≤xs.length:=Nat.pos_of_ne_zero h0;obtain⟨bb,I,rfl,r⟩:=hx 0 oM;rw[Nat.add_zero] at r;have a9:((xs.length:Int)==0)=false:=beq_eq_false_iff_ne.2 oM;have ab:(0:Int)<(xs.length:Int):=oM;have zb:bb<w.heap.size:=wL w _ r;obtain⟨a',c',J,Z⟩:=cutL (a:=some ⟨bb,I,none⟩) (n:=xs.length) (cap:=cx) 1 oM oM X;by_cases h1:(xs.getD 0 0).val=1
 ·
  have C:Hid (unpE xs=if (unpD (xs.drop 1)).code=0 then ⟨0,⟨true,(unpD (xs.drop 1)).contract,0⟩⟩ else errE):=fGn h0 h1;have HC:Hid (bW w fun W=>cL 140 #[.slice a' (xs.length-(1:Int).toNat) c'] W fun e w'=>∃v F,e =.returned v∧contRR.O w' W.heap.size F v (unpD (xs.drop 1))∧aa W w'):=fun W hW=>fR8 _ (xs.drop 1) W (Z W xs rfl (bytesR.below M hW))
  have g0:w.cell? ⟨bb,I,none⟩=some (.int .u8 1):=by have h:=r;rw[h1] at h;exact h
  clear hx M Z r h1;obtain⟨D,hD⟩:∃D,unpD (xs.drop 1)=D:=⟨_,rfl⟩
  rw[hD] at HC C;clear hD;obtain⟨z,k⟩:=D;dsimp only at HC C;go_enter Tryz.func115,Tryz.ntmps115;go_wp2_with fail;refine(HC.out _ hE).mono ?_;rintro e g ⟨v1,F1,rfl,o1,d⟩;obtain⟨u1,F2,rfl,o2,a3⟩:=o1;have HO:Hid (contR.O g (w.heap.size+1) F2 (.agg #[iV k.id,u1]) k):=contR.base o2 (by simp);obtain⟨p,q,E⟩:=fHt o2;simp only[Value.agg.injEq,Array.mk.injEq,List.cons.injEq,and_true,true_and] at E;subst E;have A:=bT w d;have N:cW g w.heap.size 0 (.bool false):=cK d sG;have R:cI g w.heap.size 1 0:=cK d sG;have T:cN g w.heap.size 2:=cK d sG;have U:cI g w.heap.size 3 0:=cK d sG;have rf:aq g w.heap.size:=ap d;have z1:w.heap.size<g.heap.size:=by have:=d.size;simp at this;omega
  clear o2 d HC J a3;generalize hm:k.legs.length=m at *;clear hm;go_wp2;have j:(g.alloc (.cells #[iV z,iV k.id,.slice p m q] 184)).cell? ⟨g.heap.size,0,none⟩=some (iV z)∧(g.alloc (.cells #[iV z,iV k.id,.slice p m q] 184)).cell? ⟨g.heap.size,1,none⟩=some (iV k.id)∧(g.alloc (.cells #[iV z,iV k.id,.slice p m q] 184)).cell? ⟨g.heap.size,2,none⟩=some (.slice p m q):=⟨sG,by simp[go_sem],sG⟩;obtain⟨G,B⟩:∃G,G=g.alloc (.cells #[iV z,iV k.id,.slice p m q] 184):=⟨_,rfl⟩
  rw[←B] at j;have s:aa g G:=by rw[B];exact hE
  rw[←B];clear B;refine kR4 s ?_ N R T U;clear N R T U;intro N R T U;replace rf:=ai s z1 rf;have a4:Hid (contR.O G (w.heap.size+1) F2 (.agg #[iV k.id,.slice p m q]) k):=contR.keep HO.out s;have a5:aa w G:=bS A s;have z2:w.heap.size<G.heap.size:=Nat.lt_of_lt_of_le z1 s.size;have K:aa G G.drew:=Below.drew (bR _ _);have L:¬g.heap.size=w.heap.size:=oM;have y:¬w.heap.size=g.heap.size:=oM;clear HO A s;go_region_held3 (fun W=>cI W g.heap.size 0 z∧cI W g.heap.size 1 k.id∧ah W g.heap.size 2 p m q)
   ((first|exact⟨cK K j.1,cK K j.2.1,cK K j.2.2⟩|exact⟨by simp[go_sem,j,L,y],by simp[go_sem,j,L,y],by simp[go_sem,j,L,y]⟩)) (first|fail)
  all_goals
   clear j;go_wp2;refine bodyPost_ret (v:=.tuple #[.agg #[.bool true,iV k.id,.slice p m q,iV 0],.bool (z==0)]) (by simp[results,Tryz.results115,go_sem,N,R,T,U,rf,z2]) rfl ?_;refine⟨.agg #[.bool true,iV k.id,.slice p m q,iV 0],F2,⟨true,k,0⟩,?_,fE2 (i:=k.id) (u:=.slice p m q) (contR.base (base:=w.heap.size+1) ?_ oM) true 0,?_,?_⟩
   ·
    rw[C.out];by_cases l:z=0
    ·rw[if_pos l,l];rfl
    rw[if_neg l];have:(z==0)=false:=by simpa using l
    rw[this];rfl
   ·
    refine contR.keep ?_ (Below.drew (bR _ _));iterate 4 (refine contR.set ?_ _ (by simp))
    exact a4.out
   ·
    intro h;rw[C.out] at h ⊢;by_cases l:z=0
    ·rw[if_pos l]
    rw[if_neg l] at h;cases h
   refine Below.drew ?_;iterate 4 (refine bset ?_ (by simp) _)
   exact a5
 by_cases h2:(xs.getD 0 0).val=2
 ·
  obtain⟨a6,a0⟩:=fRt Y;have HC:Hid (bW w fun W=>RI 141 #[.slice a' (xs.length-(1:Int).toNat) c'] W (yZ (xs.drop 1))):=fun W hW=>fOx _ (xs.drop 1) W (Z W xs rfl (bytesR.below M hW))
  have g0:w.cell? ⟨bb,I,none⟩=some (.int .u8 2):=by have h:=r;rw[h2] at h;exact h
  have HV:Hid (∃(i o:Int) (b:Bool),yZ (xs.drop 1) =.tuple #[.agg #[.bool false,iV i,aj,iV o],.bool b]∧b=decide ((unpE xs).code=0)∧((unpE xs).code=0→unpE xs=⟨0,⟨false,⟨i,[]⟩,o⟩⟩)):=by
   show ∃_,_
   by_cases a1:xs.length=10
   ·
    have H:unpE xs=if evtF (outE xs)=0 then ⟨0,outE xs⟩ else errE:=fI8 h0 h1 ⟨h2,a1⟩
    have E:outE xs=⟨false,⟨IntKind.i64.wrap (hiN ((xs.drop 1).take 8)),[]⟩,((xs.getD 9 0).val:Int)⟩:=rfl;refine⟨IntKind.i64.wrap (hiN ((xs.drop 1).take 8)),((xs.getD 9 0).val:Int),evtF (outE xs)==0,?_,?_,?_⟩
    ·unfold yZ;rw[if_pos oM,a0,←E]
    ·
     rw[H];by_cases l:evtF (outE xs)=0
     ·rw[if_pos l,l];rfl
     rw[if_neg l];have:(evtF (outE xs)==0)=false:=by simpa using l
     rw[this];rfl
    intro h;rw[H] at h ⊢;by_cases l:evtF (outE xs)=0
    ·rw[if_pos l,E]
    rw[if_neg l] at h;cases h
   have H:unpE xs=errE:=fGm h0 h1 (fun h=>a1 h.2);refine⟨0,0,false,?_,?_,?_⟩
   ·unfold yZ;rw[if_neg oM]
   ·rw[H];rfl
   intro h;rw[H] at h;cases h
  obtain⟨i,o,b,H,E,e3⟩:=HV.out;have a7:Hid (b=decide ((unpE xs).code=0)):=E;have a8:Hid ((unpE xs).code=0→unpE xs=⟨0,⟨false,⟨i,[]⟩,o⟩⟩):=e3;rw[H] at HC;clear hx M Z r h1 h2 a6 a0 HV H E e3;go_enter Tryz.func115,Tryz.ntmps115;go_wp2_with fail;refine(HC.out _ hE).mono ?_;rintro e g ⟨rfl,d⟩;have A:=bT w d;have N:cW g w.heap.size 0 (.bool false):=cK d sG;have R:cI g w.heap.size 1 0:=cK d sG;have T:cN g w.heap.size 2:=cK d sG;have U:cI g w.heap.size 3 0:=cK d sG;have rf:aq g w.heap.size:=ap d;have z1:w.heap.size<g.heap.size:=by have:=d.size;simp at this;omega
  clear d HC J;go_wp2;refine bodyPost_ret (v:=.tuple #[.agg #[.bool false,iV i,aj,iV o],.bool b]) (by simp[results,Tryz.results115,go_sem,N,R,T,U,rf,z1]) rfl ?_;refine⟨_,none_,⟨false,⟨i,[]⟩,o⟩,by rw[a7.out],xY _ _ _ _ _,a8.out,?_⟩;iterate 4 (refine bset ?_ (by simp) _)
  exact A
 have C:Hid (unpE xs=errE):=fGm h0 h1 (fun h=>h2 h.1);have ac:(((xs.getD 0 0).val:Int)==1)=false:=beq_eq_false_iff_ne.2 oM;have ad:(((xs.getD 0 0).val:Int)==2)=false:=beq_eq_false_iff_ne.2 oM;clear hx M Z J h0 h1 h2 Y;generalize ((xs.getD 0 0).val:Int)=q at *;generalize xs.length=n at *;go_enter Tryz.func115,Tryz.ntmps115;go_wp2;exact bodyPost_ret (v:=.tuple #[.agg #[.bool false,iV 0,aj,iV 0],.bool false]) (by simp[results,Tryz.results115,go_sem]) rfl (yF C.out hE)
theorem fR9 (x:Value) (xs:List Byte) (w:World) (hx:bytesR.V w x xs) :
  cL 70 #[x] w fun e w'=>∃v F,e =.returned v∧evtRR.O w' w.heap.size F v (unpE xs)∧aa w w':=by
 have z:Hid (bW w fun W=>cL 115 #[x] W (fKy W xs)):=fun W J=>fUc x xs W (bytesR.below hx J)
 have r:Hid (¬(unpE xs).code=0→unpE xs=errE):=fI6;obtain⟨L,M,rfl,_⟩:=hx;go_enter Tryz.func70,Tryz.ntmps70;go_wp2_with fail;refine(z.out _ hE).mono ?_;rintro e j ⟨N,A,g,rfl,s,hy,d⟩;obtain⟨p,q,rfl⟩:=fE1 s;have l:=bT w d;have B:cI j w.heap.size 0 0:=cK d sG;have C:cW j w.heap.size 1 (.bool false):=cK d sG;have D:cI j w.heap.size 2 0:=cK d sG;have E:cN j w.heap.size 3:=cK d sG;have G:cI j w.heap.size 4 0:=cK d sG;have H:aq j w.heap.size:=ap d;have I:w.heap.size<j.heap.size:=by have:=d.size;simp at this;omega
 have K:Hid (evtR.O j (w.heap.size+1) A (.agg #[.bool g.vote,iV g.con.id,.slice p g.con.legs.length q,iV g.out]) g):=evtR.base s (by simp);clear s d z;by_cases k:(unpE xs).code=0
 ·
  have y:Hid (unpE xs=⟨0,g⟩):=hy k;have n:decide ((unpE xs).code=0)=true:=decide_eq_true k;rw[n];clear n k hy r;generalize g.con.legs.length=m at *;go_wp2;refine bodyPost_ret (v:=.agg #[iV 0,.bool g.vote,iV g.con.id,.slice p m q,iV g.out]) (by simp[results,Tryz.results70,go_sem,B,C,D,E,G,H,I]) rfl ⟨_,A,rfl,?_,?_⟩
  ·
   rw[y.out];refine fLi (evtR.base (base:=w.heap.size+1) ?_ oM);refine evtR.alloc ?_ _;iterate 5 (refine evtR.set ?_ _ (by simp))
   exact K.out
  refine bA ?_ _;iterate 5 (refine bset ?_ (by simp) _)
  exact l
 have y:Hid _:=r.out k;have n:decide ((unpE xs).code=0)=false:=decide_eq_false k;rw[n];clear n k hy r;generalize g.con.legs.length=m at *;go_wp2;refine bodyPost_ret (v:=.agg #[iV 5,.bool false,iV 0,aj,iV 0]) (by simp[results,Tryz.results70,go_sem,B,C,D,E,G,H,I]) rfl ⟨_,none_,rfl,?_,?_⟩
 ·rw[y.out];exact fXi _ _
 refine bA ?_ _;iterate 5 (refine bset ?_ (by simp) _)
 exact l
variable [dQ EvtsR] [iH EvtsR] [dQ Jrn] [iH Jrn]
theorem vC {w:World} {x:Value} {d:Jrn} (hx:jrnR.V w x d):∃a0 c0 a1 c1 a2 c2,x =.agg #[iV d.idx,.slice a0 d.start.length c0,.slice a1 d.log.synced.length c1,.slice a2 d.log.loose.length c2]∧balsR.V w (.slice a0 d.start.length c0) d.start∧loggR.V w (.agg #[.slice a1 d.log.synced.length c1,.slice a2 d.log.loose.length c2]) d.log:=by
 obtain⟨u0,u1,u2,rfl,h0,h1⟩:=hx;obtain⟨a0,c0,rfl⟩:=fQ h0;obtain⟨a1,a2,c1,c2,e⟩:=mJ h1;simp only[Value.agg.injEq,Array.mk.injEq,List.cons.injEq,and_true] at e;obtain⟨rfl,rfl⟩:=e;exact⟨a0,c0,a1,c1,a2,c2,rfl,h0,h1⟩
theorem gV (w:World) (base:Nat) (c:Int):evtsRR.O w base (fun _=>False) (.agg #[iV c,aj]) ⟨c,[]⟩:=⟨_,_,rfl,xB w base,fun _=>Iff.rfl⟩
theorem fPz {d:Logg} (h:¬logF d=0):evsD d=⟨logF d,[]⟩:=by
 rcases rE d with ⟨h0,_⟩|h0
 ·exact absurd h0 h
 unfold evsD;rw[if_neg h,h0]
theorem fUe {d:Logg} (h:logF d=0):evsD d=evsR (d.synced++d.loose):=by unfold evsD;rw[if_pos h]
theorem fMs (x:Value) (d:Jrn) (w:World) (hx:jrnR.V w x d) (hn:gJ d.log≤1048576) :
  cL 47 #[x] w fun e w'=>∃v F,e =.returned v∧evtsRR.O w' w.heap.size F v (evsD d.log)∧aa w w':=by
 obtain⟨U,X,A,B,C,D,rfl,E,l⟩:=vC hx;have R:Hid (bW w fun W=>RI 91 #[.agg #[.slice A d.log.synced.length B,.slice C d.log.loose.length D]] W (iV (logF d.log))):=fun W G=>fDv _ d.log W (loggR.below l G) hn
 have H:Hid (logF d.log=0→∀W,aa w W→cL 92 #[.agg #[.slice A d.log.synced.length B,.slice C d.log.loose.length D]] W fun e w'=>∃v F,e =.returned (.tuple #[v,iV (evsD d.log).code])∧evtsR.O w' W.heap.size F v (evsD d.log).evts∧aa W w'):=fun h W G=>by rw[fUe h];exact fOj _ d.log W (loggR.below l G) h
 have I:Hid (¬logF d.log=0→evsD d.log=⟨logF d.log,[]⟩):=fPz;clear hx E l hn;generalize evsD d.log=Z at *;generalize logF d.log=J at *;generalize d.log.synced.length=Y at *;generalize d.log.loose.length=n2 at *;generalize d.start.length=n0 at *;generalize d.idx=ix at *;go_enter Tryz.func47,Tryz.ntmps47;go_wp2_with fail;refine(R.out _ hE).mono ?_;rintro e k ⟨rfl,g⟩;have K:=bT w g;have y0:cI k w.heap.size 0 ix:=cK g sG;have y1:ah k w.heap.size 1 U n0 X:=cK g sG;have y2:ah k w.heap.size 2 A Y B:=cK g sG;have y3:ah k w.heap.size 3 C n2 D:=cK g sG;have y:cI k (w.heap.size+1) 0 0:=cK g sG;have z:cN k (w.heap.size+1) 1:=cK g sG;have n:(∀o,k.frozen? ⟨w.heap.size+1,o,none⟩=false)∧w.heap.size+1<k.heap.size:=(fJg g (by simp)).2.2;clear g R;by_cases r:J=0
 ·have s:Hid _:=H.out r;have hz:=n.2;clear H I;subst r;go_wp2_with fail;refine(s.out _ hE).mono ?_;rintro e T ⟨v2,L,rfl,M,j⟩;have a3:aa w T:=bS K j;replace y:=cK j y;replace z:=cK j z;obtain⟨N,rz⟩:=pJ n j;obtain⟨p,q,rfl⟩:=vO (evtsR.ofO M);have HO:Hid (evtsR.O T (w.heap.size+2) L (.slice p Z.evts.length q) Z.evts):=evtsR.base M oM;clear M j s;generalize Z.evts.length=m at *;go_wp2;refine bodyPost_ret (v:=.agg #[iV Z.code,.slice p m q]) (by simp[results,Tryz.results47,go_sem,y,z,N]) rfl ⟨_,L,rfl,?_,hE⟩;exact⟨_,L,rfl,evtsR.base (base:=w.heap.size+2) (evtsR.set (evtsR.set HO.out _ (by simp)) _ (by simp)) oM,fun b=>Iff.rfl⟩
 have HD:Hid _:=I.out r;have a4:(J !=0)=true:=by simp[r]
 obtain⟨N,rz⟩:=n;clear H I r;go_wp2;refine bodyPost_ret (v:=.agg #[iV J,aj]) (by simp[results,Tryz.results47,go_sem,y,z,N]) rfl ?_;rw[HD.out];first|exact⟨_,fun _=>False,rfl,gV _ _ _,hE⟩|exact⟨_,rfl,⟨fun _=>False,gV _ _ _⟩,hE⟩
theorem fLt (x:Value) (d:Jrn) (w:World) (hx:jrnR.V w x d) (hn:gJ d.log≤1048576) :
  cL 35 #[x] w fun e w'=>∃v F,e =.returned v∧evtsRR.O w' w.heap.size F v (evsD d.log)∧aa w w':=by
 obtain⟨a0,c0,a1,c1,a2,c2,rfl,aV,ay⟩:=vC hx;have HR:Hid (bW w fun W=>cL 69 #[.agg #[.slice a1 d.log.synced.length c1,.slice a2 d.log.loose.length c2]] W fun e w'=>∃v F,e =.returned v∧recsRR.O w' W.heap.size F v (zY d.log)∧aa W w'):=fun W hW=>fR6 _ d.log W (loggR.below ay hW) hn
 have HZ:Hid ((¬(zY d.log).code=0→evsD d.log=⟨(zY d.log).code,[]⟩)∧((zY d.log).code=0→zY d.log=⟨0,recU (d.log.synced++d.log.loose),recL (d.log.synced++d.log.loose)⟩∧evsD d.log=evsR (d.log.synced++d.log.loose)∧d.log.synced.length+d.log.loose.length≤6000)):=by
  show _∧_;rcases rE d.log with ⟨h0,hl⟩|h0
  ·
   have e1:zY d.log=⟨0,recU (d.log.synced++d.log.loose),recL (d.log.synced++d.log.loose)⟩:=by
    unfold zY fHd;rw[if_pos h0,if_pos (by rw[List.length_append];omega)]
   refine⟨fun h=>?_,fun _=>⟨e1,fUe h0,hl⟩⟩;rw[e1] at h;exact absurd rfl h
  have e1:zY d.log=⟨2,0,[]⟩:=by unfold zY;rw[if_neg oM]
  refine⟨fun h=>?_,fun h=>?_⟩
  ·rw[e1,fPz oM,h0]
  rw[e1] at h;cases h
 have aW:=fVr (d.log.synced++d.log.loose);have aX:=fIt (d.log.synced++d.log.loose);have z:(d.log.synced++d.log.loose).length=d.log.synced.length+d.log.loose.length:=List.length_append;clear hx aV ay hn;generalize aY:d.log.synced.length=n1 at *;generalize aZ:d.log.loose.length=n2 at *;clear aY aZ;generalize d.log.synced++d.log.loose=xs at *;have H:Hid (allE (recL xs)=false∨¬recU xs=xs.length→evsR xs=⟨5,[]⟩):=fP1;have a7:Hid (allE (recL xs)=true→recU xs=xs.length→¬(recL xs).length≤60→evsR xs=⟨2,[]⟩):=fLh;have a8:Hid (allE (recL xs)=true→recU xs=xs.length→(recL xs).length≤60→evsR xs=⟨0,evL (recL xs)⟩):=fUf;generalize evsD d.log=Z at *;generalize evsR xs=Z' at *;generalize b0:recU xs=us at *;clear b0;generalize recL xs=g at *;obtain⟨D,hD⟩:∃D,zY d.log=D:=⟨_,rfl⟩
 rw[hD] at HR HZ;clear hD;obtain⟨dc,du,dr⟩:=D;dsimp only at HR HZ;have az:Hid (xs.length=n1+n2):=z;have aA:Hid (us≤n1+n2∧g.length≤n1+n2):=by show _∧_;omega
 clear z aW aX;generalize d.start.length=n0 at *;generalize d.idx=ix at *;go_enter Tryz.func35,Tryz.ntmps35;go_wp2_with fail;refine(HR.out _ hE).mono ?_;rintro e l ⟨v1,F1,rfl,o1,A⟩;obtain⟨u1,Fr,rfl,o1,_⟩:=o1;dsimp only at o1;obtain⟨ar,cr,rfl,aB,b1,a9⟩:=fVs (bytessR.ofO o1);unfold maxLen at b1;have I:=bT w A;have y0:cI l w.heap.size 0 ix:=cK A sG;have y1:ah l w.heap.size 1 a0 n0 c0:=cK A sG;have y2:ah l w.heap.size 2 a1 n1 c1:=cK A sG;have E:ah l w.heap.size 3 a2 n2 c2:=cK A sG;have X:cI l (w.heap.size+1) 0 0:=cK A sG;have Y:cN l (w.heap.size+1) 1:=cK A sG;have ab:(∀o,l.frozen? ⟨w.heap.size+1,o,none⟩=false)∧w.heap.size+1<l.heap.size:=(fJg A (by simp)).2.2;have hz:=ab.2;have b9:w.heap.size<l.heap.size:=oM;clear A HR o1;by_cases J:dc=0;rotate_left
 ·
  have HD:Hid (Z=⟨dc,[]⟩):=HZ.out.1 J;have ba:(dc !=0)=true:=by simp[J]
  obtain⟨rf,rz⟩:=ab;clear J HZ a9 H a7 a8;generalize dr.length=m at *;go_wp2;refine bodyPost_ret (v:=.agg #[iV dc,aj]) (by simp[results,Tryz.results35,go_sem,X,Y,rf,hz]) rfl ?_;rw[HD.out];have C:∀(o:Obj),aa w (((l.alloc o).setCell ⟨w.heap.size+1,0,none⟩ (iV dc)).setCell ⟨w.heap.size+1,1,none⟩ aj):=fun o=>bset (bset (bA I o) (by simp) _) (by simp) _
  have y:∀(o:Obj),aa w (((l.setCell ⟨w.heap.size+1,0,none⟩ (iV dc)).setCell ⟨w.heap.size+1,1,none⟩ aj).alloc o):=fun o=>bA (bset (bset I (by simp) _) (by simp) _) o
  first|exact⟨_,fun _=>False,rfl,gV _ _ _,y _⟩|exact⟨_,rfl,⟨fun _=>False,gV _ _ _⟩,y _⟩|exact⟨_,fun _=>False,rfl,gV _ _ _,C _⟩|exact⟨_,rfl,⟨fun _=>False,gV _ _ _⟩,C _⟩
 obtain⟨hd,aC,bb⟩:=HZ.out.2 J;simp only[RecsR.mk.injEq] at hd;obtain⟨_,aD,aE⟩:=hd;subst J;rw[aE] at a9 aB ⊢;rw[aD];have K:Hid (Z=Z'):=aC;clear HZ aC aD aE;have HX:Hid (∀k,k<g.length→∃b o u,ar=some ⟨b,o,none⟩∧l.cell? ⟨b,o+k,none⟩=some u∧bytesR.V l u (g.getD k default)):=a9;clear a9;have HU:Hid (∀k,k<g.length→evL (g.take (k+1))=evL (g.take k)++[(unpE (g.getD k default)).evt]):=fun k hk=>fPy hk
 have HA:Hid ((∀j,j<g.length→(unpE (g.getD j default)).code=0)→allE g=true):=fTq;have ac:Hid (∀k,k<g.length→¬(unpE (g.getD k default)).code=0→allE g=false):=fun k hk h=>fTp hk h
 have G:Hid (∀k,k≤g.length→(evL (g.take k)).length=k):=fun k hk=>by show _=_;rw[fUb,List.length_take];omega
 have HT:Hid (evL (g.take g.length)=evL g):=by show _=_;rw[List.take_length]
 generalize hn:g.length=n at *;clear hn;have bc:IntKind.i64.wrap ((n1:Int)+n2)=n1+n2:=by rw[IntKind.wrap_i64];omega
 by_cases hu:us=n1+n2
 rotate_left
 ·
  have HD:Hid (Z=⟨5,[]⟩):=by show _=_;rw[K.out];exact H.out (.inr (by rw[az.out];exact hu))
  have hd:((us:Int) !=(n1:Int)+n2)=true:=by simp only[bne_iff_ne,ne_eq];omega
  obtain⟨rf,rz⟩:=ab;clear hu HX HU HA ac G HT H a7 a8 aA;go_wp2;refine bodyPost_ret (v:=.agg #[iV 5,aj]) (by simp[results,Tryz.results35,go_sem,X,Y,rf,hz]) rfl ?_;rw[HD.out];have C:∀(o:Obj),aa w (((l.alloc o).setCell ⟨w.heap.size+1,0,none⟩ (iV 5)).setCell ⟨w.heap.size+1,1,none⟩ aj):=fun o=>bset (bset (bA I o) (by simp) _) (by simp) _
  have y:∀(o:Obj),aa w (((l.setCell ⟨w.heap.size+1,0,none⟩ (iV 5)).setCell ⟨w.heap.size+1,1,none⟩ aj).alloc o):=fun o=>bA (bset (bset I (by simp) _) (by simp) _) o
  first|exact⟨_,fun _=>False,rfl,gV _ _ _,y _⟩|exact⟨_,rfl,⟨fun _=>False,gV _ _ _⟩,y _⟩|exact⟨_,fun _=>False,rfl,gV _ _ _,C _⟩|exact⟨_,rfl,⟨fun _=>False,gV _ _ _⟩,C _⟩
 have al:us=xs.length:=by rw[az.out];exact hu
 have L:Hid (allE g=false→Z=⟨5,[]⟩):=fun h=>by rw[K.out];exact H.out (.inl h)
 have M:Hid (allE g=true→¬n≤60→Z=⟨2,[]⟩):=fun h h1=>by rw[K.out];exact a7.out h al h1
 have N:Hid (allE g=true→n≤60→Z=⟨0,evL g⟩):=fun h h1=>by rw[K.out];exact a8.out h al h1
 have hd:((us:Int) !=(n1:Int)+n2)=false:=by simp only[bne_eq_false_iff_eq];omega
 clear hu al H a7 a8 K;go_wp2;go_loopw [4,33] (fun s i w'=>∃(k:Nat) (a:Option Addr) (c:Nat) (F:Nat→Prop),k≤n∧i =.int .i64 k∧s =.slice a k c∧Hid (evtsR.O w' l.heap.size F (.slice a k c) (evL (g.take k)))∧Hid (∀j,j<k→(unpE (g.getD j default)).code=0)∧aa l w') (fun s i _=>n-(intOf i).toNat)
 case atStart=>exact⟨0,none,0,_,Nat.zero_le _,rfl,rfl,xB _ _,fun j hj=>absurd hj oM,hE⟩
 obtain⟨k,ad,ae,F,hk,rfl,rfl,HO,HK,z⟩:=hrel;have zr:=z.size;have b2:aa w wr:=I.trans (z.mono oM);replace X:=cK z X;replace Y:=cK z Y;have ak:=pJ ab z;by_cases am:k<n
 ·
  obtain⟨bx,ox,ux,rfl,g0,hV⟩:=HX.out k am;have ao:=HU.out k am;have au:=ac.out k am;obtain⟨r,hr⟩:∃r,r=g.getD k default:=⟨_,rfl⟩
  rw[←hr] at hV ao au;have av:Hid (r=g.getD k default):=hr;have HE:Hid (evL (g.take (k+1))=evL (g.take k)++[(unpE r).evt]):=ao;have R:Hid (¬(unpE r).code=0→allE g=false):=au;clear hr ao au;have zb:bx<l.heap.size:=wL l _ g0;replace g0:=cK z g0;have aw:Hid (bW l fun W=>cL 70 #[ux] W fun e w'=>∃v F,e =.returned v∧evtRR.O w' W.heap.size F v (unpE r)∧aa W w'):=fun W hW=>fR9 ux r W (bytesR.below hV hW)
  clear hV;have k1:(k:Int)<n:=oM;go_wp2_with fail;refine(aw.out _ hE).mono ?_;rintro e w3 ⟨v3,F3,rfl,o3,B⟩;obtain⟨u3,af,rfl,o3,aF⟩:=o3;have T:Hid (evtR.O w3 wr.heap.size af (.agg #[.bool (unpE r).evt.vote,iV (unpE r).evt.con.id,u3,iV (unpE r).evt.out]) (unpE r).evt):=o3;obtain⟨p,q,e4⟩:=fE1 o3;simp only[Value.agg.injEq,Array.mk.injEq,List.cons.injEq,and_true,true_and] at e4;subst e4;have bd:aa l w3:=z.trans (B.mono zr);have be:=B.size;replace X:=cK B X;replace Y:=cK B Y;obtain⟨aG,aH⟩:=pJ ak B;clear o3;have U:Hid (unpE r=⟨(unpE r).code,(unpE r).evt⟩):=rfl;generalize (unpE r).code=aI at *;obtain⟨E,ax⟩:∃E,E=(unpE r).evt:=⟨_,rfl⟩
  rw[←ax] at HE T ⊢;have aJ:Hid (E=(unpE r).evt):=ax;clear ax;by_cases J:aI=0
  ·
   have b3:Hid (∀j,j<k+1→(unpE (g.getD j default)).code=0):=fun j hj=>by
    by_cases e:j=k
    ·rw[e,←av.out,U.out];exact J
    exact HK.out j oM
   have ag:Hid (evtsR.O w3 l.heap.size F (.slice ad k ae) (evL (g.take k))):=evtsR.keep HO.out B;have aK:Hid (∀b,F b→b<wr.heap.size):=fun b hb=>(evtsR.rng HO.out b hb).2
   have aL:Hid (∀b,af b→wr.heap.size≤b):=fun b hb=>(evtR.rng T.out b hb).1
   have aM:Hid (evtR.O w3 l.heap.size af (.agg #[.bool E.vote,iV E.con.id,.slice p E.con.legs.length q,iV E.out]) E):=evtR.base T.out zr;have aN:=G.out k hk;subst J;clear B T aw HO g0 HK R av U aJ aF;generalize hm:E.con.legs.length=m at *;have HM:Hid (E.con.legs.length=m):=hm;clear hm;go_wp2_with (at_builtin;refine fM9 _ rfl _ _ rfl l.heap.size F af _ (evL (g.take k)) E (w3.heap.size+1) p q rfl rfl ?a1 ?a2 ?a3 ?a4 ?a5 ?a6 ?_)
   case a1=>exact evtsR.alloc (evtsR.alloc ag.out _) _
   case a2=>rw[HM.out];exact evtR.alloc (evtR.alloc aM.out _) _
   case a3=>exact fun b h1 h2=>by have:=aK.out b h1;have:=aL.out b h2;omega
   case a4=>rw[HM.out];simp[go_sem]
   case a5=>have:=aA.out;rw[aN];omega
   case a6=>simp;omega
   intro v4 w4 F4 o4 aO _;rw[←HE.out] at o4;obtain⟨aP,aQ,e4⟩:=vO (evtsR.ofO o4);rw[G.out (k+1) oM] at e4;subst e4;have b4:Hid (evtsR.O w4 l.heap.size F4 (.slice aP (k+1) aQ) (evL (g.take (k+1)))):=o4;have b5:aa l w4:=Below.trans hE aO;clear o4 aO ag aM aK aL aN X Y aG aH;go_wp2;exact⟨⟨k+1,aP,aQ,F4,by omega,by go_num,rfl,b4,b3,b5⟩,mI⟩
  have HD:Hid (Z=⟨5,[]⟩):=L.out (R.out J);have h5:aI=5:=by
   have:=fI6 (xs:=r) (by rw[U.out];exact J);rw[U.out] at this;exact congrArg EvtR.code this
  subst h5;have aR:aa w w3:=b2.trans (B.mono oM);clear B aw HO g0 HK R av U aJ aF T J HE;generalize E.con.legs.length=m at *;go_wp2;refine bodyPost_ret (v:=.agg #[iV 5,aj]) (by simp[results,Tryz.results35,go_sem,X,Y,aG,aH]) rfl ?_;rw[HD.out];have C:∀(o:Obj),aa w (((w3.alloc o).setCell ⟨w.heap.size+1,0,none⟩ (iV 5)).setCell ⟨w.heap.size+1,1,none⟩ aj):=fun o=>bset (bset (bA aR o) (by simp) _) (by simp) _
  have y:∀(o:Obj),aa w (((w3.setCell ⟨w.heap.size+1,0,none⟩ (iV 5)).setCell ⟨w.heap.size+1,1,none⟩ aj).alloc o):=fun o=>bA (bset (bset aR (by simp) _) (by simp) _) o
  first|exact⟨_,fun _=>False,rfl,gV _ _ _,y _⟩|exact⟨_,rfl,⟨fun _=>False,gV _ _ _⟩,y _⟩|exact⟨_,fun _=>False,rfl,gV _ _ _,C _⟩|exact⟨_,rfl,⟨fun _=>False,gV _ _ _⟩,C _⟩
 have b6:k=n:=oM;subst b6;have aS:allE g=true:=HA.out HK.out;have ho:=HO.out;rw[HT.out] at ho;have k1:¬(k:Int)<(k:Int):=oM;obtain⟨rf,rz⟩:=ak;by_cases aT:k≤60
 ·
  have HD:Hid (Z=⟨0,evL g⟩):=N.out aS aT;have b7:¬(60:Int)<(k:Int):=oM;have b8:(evL g).length=k:=by rw[←HT.out];exact G.out k (Nat.le_refl _)
  have ag:Hid (evtsR.O wr (w.heap.size+2) F (.slice ad k ae) (evL g)):=evtsR.base ho oM;clear ho HO HX HU ac G HK L M N HA HT b8;go_wp2;refine bodyPost_ret (v:=.agg #[iV 0,.slice ad k ae]) (by simp[results,Tryz.results35,go_sem,X,Y,rf,rz]) rfl ?_;rw[HD.out];have aU:=evtsR.base (base:=w.heap.size+2) (base':=w.heap.size) (evtsR.set (evtsR.set ag.out (iV 0) (p:=⟨w.heap.size+1,0,none⟩) (by simp)) (.slice ad k ae) (p:=⟨w.heap.size+1,1,none⟩) (by simp)) oM;first|exact⟨_,F,rfl,⟨_,F,rfl,aU,fun b=>Iff.rfl⟩,hE⟩|exact⟨_,rfl,⟨F,_,F,rfl,aU,fun b=>Iff.rfl⟩,hE⟩
 have HD:Hid (Z=⟨2,[]⟩):=M.out aS aT;have b7:(60:Int)<(k:Int):=oM;clear ho HO HX HU ac G HK L M N HA HT;go_wp2;refine bodyPost_ret (v:=.agg #[iV 2,aj]) (by simp[results,Tryz.results35,go_sem,X,Y,rf,rz]) rfl ?_;rw[HD.out];first|exact⟨_,fun _=>False,rfl,gV _ _ _,hE⟩|exact⟨_,rfl,⟨fun _=>False,gV _ _ _⟩,hE⟩
end
end Go.Proofs.YtpibfdebfacooaaGreat

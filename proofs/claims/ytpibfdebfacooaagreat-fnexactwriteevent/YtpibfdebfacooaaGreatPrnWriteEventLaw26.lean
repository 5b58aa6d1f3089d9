import Derived.Test.YtpibfdebfacooaaGreatPrnWriteEventLaw25
set_option maxHeartbeats 8000000
set_option maxRecDepth 20000
set_option linter.all false
namespace Go.Proofs.YtpibfdebfacooaaGreat
open Go.RowKit
attribute [local go_sem ↓] Go.wp_at_zero Go.wp_at_succ
attribute [local go_sem] cW cI ah cN iV aj
section
variable [dQ Bal] [iH Bal] [dQ Logg] [iH Logg] [dQ Jrn] [iH Jrn] [dQ Mrk] [iH Mrk] [dQ Leg] [iH Leg] [dQ Cont] [iH Cont] [dQ Shd] [iH Shd] [dQ JrnR] [iH JrnR] [dQ Evt] [iH Evt] [dQ EvtsR] [iH EvtsR] [dQ EvtR] [iH EvtR] [dQ BytesR] [iH BytesR] [dQ ContR] [iH ContR] [dQ LoggR] [iH LoggR] [dQ RecsR] [iH RecsR] [dQ Rw] [iH Rw] [dQ Ledg] [iH Ledg] [dQ LedgR] [iH LedgR] [dQ OutcR] [iH OutcR] [dQ ShdR] [iH ShdR]
def fXv:Nat→List Nat
 | 5=>[2]
 | _=>[]
def fC5 (base:Nat) (d:Jrn):Nat→(Nat→Value)→(Nat→Prop)→World→Prop
 | 2,y,F,w=>balsR.O w base F (y 5) []
 | 5,y,F,w=>(∃a c,y 8 =.slice a d.start.length c)∧balsR.O w base F (y 8) d.start
 | 8,y,F,w=>(∃a c a' c',y 11 =.agg #[.slice a d.log.synced.length c,.slice a' d.log.loose.length c'])∧loggR.O w base F (y 11) d.log
 | 9,y,_,_=>∃a c p q p' q',y 8 =.slice a d.start.length c∧y 11 =.agg #[.slice p d.log.synced.length q,.slice p' d.log.loose.length q']∧y 12 =.agg #[.int .i64 d.idx,.slice a d.start.length c,.slice p d.log.synced.length q,.slice p' d.log.loose.length q']
 | _,_,_,_=>True
theorem fH6 {w:World} {base:Nat} {F1 F2:Nat→Prop} {i:Int} {u0 u1 u2:Value} {b:List Bal} {l:Logg} (h1:balsR.O w base F1 u0 b) (h2:loggR.O w base F2 (.agg #[u1,u2]) l) (hd:∀k,F1 k→¬F2 k):jrnR.O w base (fun k=>F1 k∨F2 k) (.agg #[iV i,u0,u1,u2]) ⟨i,b,l⟩:=
 ⟨u0,u1,u2,F1,F2,rfl,h1,h2,hd,fun _=>Iff.rfl⟩
theorem fYu {α:Type} (R:Rep α) {W:World} {base B:Nat} {F:Nat→Prop} {v:Value} {x:α} (h:R.O W base F v x) (hB:B<base) (u0 u1 u2 u3:Value) :
  R.O ((((W.setCell ⟨B,0,none⟩ u0).setCell ⟨B,1,none⟩ u1).setCell ⟨B,2,none⟩ u2).setCell ⟨B,3,none⟩ u3) base F v x:=R.set (R.set (R.set (R.set h _ hB) _ hB) _ hB) _ hB
theorem fSm {w:World} {base:Nat} {F:Nat→Prop} {v:Value} {l:Logg} (h:loggR.O w base F v l):∃a c a' c',v =.agg #[.slice a l.synced.length c,.slice a' l.loose.length c']:=by
 obtain⟨d,e,g,j,rfl⟩:=mJ (loggR.ofO h);exact⟨_,_,_,_,rfl⟩
theorem fU4 (x:Value) (d:Jrn) (w:World) (hx:jrnR.V w x d) (hn:pM d≤1048576) :
  cL 33 #[x] w fun e w'=>∃v F,e =.returned v∧jrnR.O w' w.heap.size F v d∧aa w w':=by
 obtain⟨U,X,a1,c1,a2,c2,rfl,Y,Z⟩:=vC hx;have l:d.start.length≤1048576:=by unfold pM qZ at hn;omega
 have a3:gJ d.log≤1048576:=by unfold pM at hn;omega
 have HA:Hid (bW w fun W=>gP W (.slice U d.start.length X) d.start.length (mD d.start)):=fun W hW=>tQ (balsR.below Y hW)
 have HC:Hid (bW w fun W=>cL 66 #[.agg #[.slice a1 d.log.synced.length c1,.slice a2 d.log.loose.length c2]] W fun e w'=>∃v F,e =.returned v∧loggR.O w' W.heap.size F v d.log∧aa W w'):=fun W hW=>fIa _ d.log W (loggR.below Z hW) a3
 have a6:Hid (d.start.length≤1048576):=l;clear Y Z hn l a3 hx;have HG:Hid (fC5=fC5):=rfl;obtain⟨H,l⟩:∃H,d.start.length=H:=⟨_,rfl⟩
 obtain⟨I,B⟩:∃I,d.log.synced.length=I:=⟨_,rfl⟩
 obtain⟨J,C⟩:∃J,d.log.loose.length=J:=⟨_,rfl⟩
 have HN:Hid (d.start.length=H∧d.log.synced.length=I∧d.log.loose.length=J):=⟨l,B,C⟩;rw[l] at HA;rw[B,C] at HC;rw[l,B,C];clear l B C;go_enter Tryz.func33,Tryz.ntmps33;go_wp2;obtain⟨j,g⟩:∃j,j=(w.alloc (.cells #[iV d.idx,.slice U H X,.slice a1 I c1,.slice a2 J c2] 33)).alloc (.cells #[iV 0,aj,aj,aj] 33):=⟨_,rfl⟩
 have y0:cI j w.heap.size 0 d.idx:=cQ g;have y1:ah j w.heap.size 1 U H X:=cQ g;have y2:ah j w.heap.size 2 a1 I c1:=cQ g;have y3:ah j w.heap.size 3 a2 J c2:=cQ g;have r0:cI j (w.heap.size+1) 0 0:=cQ g;have r1:cN j (w.heap.size+1) 1:=cQ g;have r2:cN j (w.heap.size+1) 2:=cQ g;have r3:cN j (w.heap.size+1) 3:=cQ g;have rf:aq j (w.heap.size+1):=fun o=>by rw[g];simp[go_sem]
 have L:aa w j:=by rw[g];exact hE
 have zq:w.heap.size+1<j.heap.size:=by rw[g];simp
 rw[←g];clear g;refine wp_region_noPanic ?_;refine fB (fun W=>aa j W∧cI W w.heap.size 0 d.idx∧ah W w.heap.size 1 U H X∧ah W w.heap.size 2 a1 I c1∧ah W w.heap.size 3 a2 J c2) 10 kF ⟨hE,cK hE y0,cK hE y1,cK hE y2,cK hE y3⟩ (fun hS=>?_);refine tY 0 ?_;refine tY 1 ?_;refine tY 3 ?_;refine tY 4 ?_;refine tY 6 ?_;refine tY 7 ?_;have a4:aa j j.drew:=Below.drew (bR _ _);generalize j.drew=W0 at *;have a9:=a4.size;have ab:w.heap.size+1<W0.heap.size:=oM;refine uE [(2,5),(5,8),(8,11),(9,12)] fXv (fC5 W0.heap.size d) kF hS ?_ ?_ ?_ ?_
 ·
  intro F W W' h A hF;have D:¬F w.heap.size:=fun e=>by have:=hF _ e;omega
  exact⟨A.below h.1 h.1.size (fun b hb=>by have:=hF b hb;omega),A.cell h.2.1 D,A.cell h.2.2.1 D,A.cell h.2.2.2.1 D,A.cell h.2.2.2.2 D⟩
 ·
  intro p hp;simp only[List.mem_cons,List.not_mem_nil,or_false] at hp;rcases hp with rfl|rfl|rfl|rfl
  all_goals
   intro y y' F F' W W' h hF A n ac e he
  ·simp only[fC5] at h ⊢;rw[e];exact balsR.mod h A (fun b hb hf=>n b hf hb)
  ·simp only[fC5] at h ⊢;rw[e];exact⟨h.1,balsR.mod h.2 A (fun b hb hf=>n b hf hb)⟩
  ·simp only[fC5] at h ⊢;rw[e];exact⟨h.1,loggR.mod h.2 A (fun b hb hf=>n b hf hb)⟩
  have M:=he (5,8) (by simp) kF;have N:=he (8,11) (by simp) kF;simp only[fC5] at h ⊢;rw[e,M,N];exact h
 ·
  intro p hp;simp only[List.mem_cons,List.not_mem_nil,or_false] at hp;rcases hp with rfl|rfl|rfl|rfl
  all_goals
   refine⟨_,rfl,rfl,?_⟩;intro y W Φ E r s K z
  ·clear s;refine⟨?_⟩;simp only[over,jX,lZ] at z ⊢;go_simp;refine z _ _ (fun b=>b=W.heap.size) (Mod.of_below hE) (fun b hb=>.inr (by rw[hb];simp)) ?_;simp only[fC5,updV];exact fYr W _ r.size
  ·
   have g0:=(s (2,5) (by simp) kF (.inl (by simp[fXv]))).2;clear s;simp only[fC5] at g0;refine⟨?_⟩;simp only[over,jX,lZ] at z ⊢;refine kW rfl ?_;refine fM5 W ?hg1 (.tmp 5) (.tmp 7) ?ho1 W0.heap.size (y 5) (Φ 2) [] ?hs1 (.slice U H X) d.start ?hx1 g0 (by have:=HA.out W (bS L E.1);rw[←HN.out.1] at this ⊢;exact this) (by have:=a6.out;simp;omega) r.size ?_
   case hg1=>rfl
   case ho1=>rfl
   case hs1=>rfl
   case hx1=>rfl
   intro v' w' F' hO A hl;simp only[List.nil_append] at hO;refine z _ _ F' (A.mono (fun b hb=>⟨2,by simp[fXv],hb⟩)) (fun b hb=>(hl b hb).imp (fun h=>⟨2,by simp[fXv],h⟩) (fun h=>h)) ?_;simp only[fC5,updV];obtain⟨av,cv,hv⟩:=fQ (balsR.ofO hO);exact⟨⟨av,cv,by simpa using hv⟩,by simpa using hO⟩
  ·clear s;refine⟨?_⟩;simp only[over,jX,lZ] at z ⊢;go_simp;refine(HC.out W (bS L E.1)).mono ?_;rintro e w' ⟨v,F,rfl,o4,a7⟩;refine z _ _ F (Mod.of_below a7) (fun b hb=>.inr (loggR.rng o4 b hb)) ?_;simp only[fC5,updV];obtain⟨p,q,R,T,hv⟩:=fSm o4;exact⟨⟨p,q,R,T,by simpa using hv⟩,loggR.base (by simpa using o4) r.size⟩
  have g1:=(s (5,8) (by simp) kF (.inr (by decide))).2.1;have g2:=(s (8,11) (by simp) kF (.inr (by decide))).2.1;clear s;obtain⟨a,c,M⟩:=g1;obtain⟨p,q,R,T,N⟩:=g2;refine⟨?_⟩;simp only[over,jX,lZ] at z ⊢;simp only[M,N] at z ⊢;go_simp;refine z _ _ (fun _=>False) (Mod.refl _ _) (fun b hb=>hb.elim) ?_;simp only[fC5,updV];exact⟨a,c,p,q,R,T,by simpa using M,by simpa using N,by simp⟩
 refine⟨_,rfl,?_⟩;intro y W Φ E r s n K z;have g1:=s (5,8) (by simp) (by decide);have g2:=s (8,11) (by simp) (by decide);have g3:=(s (9,12) (by simp) (by decide)).2;have a5:=n (5,8) (by simp) (8,11) (by simp) (by simp) (by decide) (by decide);clear s n;simp only[fC5] at g1 g2 g3;obtain⟨a,c,p,q,R,T,M,N,e3⟩:=g3;obtain⟨i1,_,o1⟩:=g1;obtain⟨i2,_,o2⟩:=g2;rw[M] at o1;rw[N] at o2;have m:aa j W:=bS a4 r;refine⟨?_⟩;simp only[over,jX,lZ];simp only[e3];have HO:Hid (jrnR.O W (w.heap.size+2) (fun k=>Φ 5 k ∨ Φ 8 k) (.agg #[iV d.idx,.slice a d.start.length c,.slice p d.log.synced.length q,.slice R d.log.loose.length T]) d):=jrnR.base (fH6 (i:=d.idx) o1 o2 a5) oM;rw[HN.out.1,HN.out.2.1,HN.out.2.2] at HO ⊢;clear M N e3 i1 i2 o1 o2 a5 E hS;refine kR4 m ?_ r0 r1 r2 r3;clear r0 r1 r2 r3;intro r0 r1 r2 r3;replace rf:=ai m zq rf;have a8:aa w W:=bS L m;clear r m;go_simp;refine z _ _ ?_;clear z K;refine NoPanic.normal ?_;go_wp2;refine bodyPost_ret (v:=.agg #[iV d.idx,.slice a H c,.slice p I q,.slice R J T]) (by simp[results,Tryz.results33,go_sem,r0,r1,r2,r3,rf]) rfl ?_;have G:w.heap.size≤w.heap.size+1:=oM;exact⟨_,_,rfl,jrnR.base (fYu jrnR HO.out oM _ _ _ _) oM,bset (p:=⟨w.heap.size+1,3,none⟩) (bset (p:=⟨w.heap.size+1,2,none⟩) (bset (p:=⟨w.heap.size+1,1,none⟩) (bset (p:=⟨w.heap.size+1,0,none⟩) a8 G _) G _) G _) G _⟩
def yT (d:Jrn) (a1 a2:Option Addr) (c1 c2:Nat):Nat→(Nat→Value)→Nat→Nat→World→Prop
 | 4,y,lo,hi,w=>(∃a c,y 7 =.slice a d.start.length c)∧∃F,balsR.O w lo F (y 7) d.start∧∀b,F b→b<hi
 | 8,y,_,_,w=>∃B,y 11 =.slice (some ⟨B,0,none⟩) 1 1∧w.cell? ⟨B,0,none⟩=some (.slice a1 d.log.synced.length c1)
 | 9,y,lo,hi,w=>(∃a c,y 12 =.slice a d.log.synced.length c)∧∃F,bytesR.O w lo F (y 12) d.log.synced∧∀b,F b→b<hi
 | 13,y,_,_,w=>∃B,y 16 =.slice (some ⟨B,0,none⟩) 1 1∧w.cell? ⟨B,0,none⟩=some (.slice a2 d.log.loose.length c2)
 | 14,y,lo,hi,w=>(∃a c,y 17 =.slice a d.log.loose.length c)∧∃F,bytesR.O w lo F (y 17) d.log.loose∧∀b,F b→b<hi
 | 15,y,_,_,_=>∃p q p' q',y 12 =.slice p d.log.synced.length q∧y 17 =.slice p' d.log.loose.length q'∧y 18 =.agg #[.slice p d.log.synced.length q,.slice p' d.log.loose.length q']
 | 16,y,_,_,_=>∃a c p q p' q',y 7 =.slice a d.start.length c∧y 18 =.agg #[.slice p d.log.synced.length q,.slice p' d.log.loose.length q']∧y 19 =.agg #[.int .i64 d.idx,.slice a d.start.length c,.slice p d.log.synced.length q,.slice p' d.log.loose.length q']
 | _,_,_,_,_=>True
theorem fRj {w:World} {g:Nat} {u1:Value} {d1:List Byte} (h1:w.cell? ⟨g,0,none⟩=some u1) (v1:bytesR.V w u1 d1):bytessR.V w (.slice (some ⟨g,0,none⟩) 1 1) [d1]:=by
 refine⟨_,_,rfl,by simp,by unfold maxLen;omega,fun i d=>?_⟩;match i,d with
 | 0,_=>exact⟨g,0,u1,rfl,rfl,fAi h1,v1⟩
theorem fH5 {w:World} {g:Nat} {u:Value} {d:List Byte} (h1:w.cell? ⟨g,0,none⟩=some u) (v1:bytesR.V w u d) (hn:d.length≤1048576) :
  cL 72 #[.slice (some ⟨g,0,none⟩) 1 1] w fun e w'=>∃v F,e =.returned v∧bytesR.O w' w.heap.size F v d∧aa w w':=by
 have h:=pR _ [d] w (fRj h1 v1) (by simp;omega);rw[show [d].flatten=d by simp] at h;exact h
theorem fNq (x:Value) (d:Jrn) (w:World) (hx:jrnR.V w x d) (hn:pM d≤1048576) :
  cL 37 #[x] w fun e w'=>∃v F,e =.returned v∧jrnR.O w' w.heap.size F v d∧aa w w':=by
 obtain⟨a0,c0,a1,c1,a2,c2,rfl,a3,ab⟩:=vC hx;have r:d.start.length≤1048576:=by unfold pM qZ at hn;omega
 have L:gJ d.log≤1048576:=by unfold pM at hn;omega
 have HA:Hid (bW w fun W=>gP W (.slice a0 d.start.length c0) d.start.length (mD d.start)):=fun W hW=>tQ (balsR.below a3 hW)
 obtain⟨t1,t2,et,a4,a5⟩:=ab;simp only[Value.agg.injEq,Array.mk.injEq,List.cons.injEq,and_true] at et;obtain⟨rfl,rfl⟩:=et;have ac:Hid (∀W B,aa w W→W.cell? ⟨B,0,none⟩=some (.slice a1 d.log.synced.length c1)→cL 72 #[.slice (some ⟨B,0,none⟩) 1 1] W fun e w'=>∃v F,e =.returned v∧bytesR.O w' W.heap.size F v d.log.synced∧aa W w'):=fun W B hW h=>fH5 h (bytesR.below a4 hW) (by unfold gJ kM at L;omega)
 have ad:Hid (∀W B,aa w W→W.cell? ⟨B,0,none⟩=some (.slice a2 d.log.loose.length c2)→cL 72 #[.slice (some ⟨B,0,none⟩) 1 1] W fun e w'=>∃v F,e =.returned v∧bytesR.O w' W.heap.size F v d.log.loose∧aa W w'):=fun W B hW h=>fH5 h (bytesR.below a5 hW) (by unfold gJ kM at L;omega)
 have ae:Hid (d.start.length≤1048576):=r;clear a3 a4 a5 hn r L hx;obtain⟨I,r⟩:∃I,d.start.length=I:=⟨_,rfl⟩
 obtain⟨M,N⟩:∃M,d.log.synced.length=M:=⟨_,rfl⟩
 obtain⟨R,T⟩:∃R,d.log.loose.length=R:=⟨_,rfl⟩
 have Z:Hid (d.start.length=I∧d.log.synced.length=M∧d.log.loose.length=R):=⟨r,N,T⟩;rw[r] at HA;rw[r,N,T];clear r N T;go_enter Tryz.func37,Tryz.ntmps37;go_wp2;obtain⟨m,g⟩:∃m,m=(w.alloc (.cells #[iV d.idx,.slice a0 I c0,.slice a1 M c1,.slice a2 R c2] 33)).alloc (.cells #[iV 0,aj,aj,aj] 33):=⟨_,rfl⟩
 have y0:cI m w.heap.size 0 d.idx:=cQ g;have y1:ah m w.heap.size 1 a0 I c0:=cQ g;have y2:ah m w.heap.size 2 a1 M c1:=cQ g;have y3:ah m w.heap.size 3 a2 R c2:=cQ g;have r0:cI m (w.heap.size+1) 0 0:=cQ g;have r1:cN m (w.heap.size+1) 1:=cQ g;have r2:cN m (w.heap.size+1) 2:=cQ g;have r3:cN m (w.heap.size+1) 3:=cQ g;have rf:aq m (w.heap.size+1):=fun o=>by rw[g];simp[go_sem]
 have E:aa w m:=by rw[g];exact hE
 have zq:w.heap.size+1<m.heap.size:=by rw[g];simp
 rw[←g];clear g;refine wp_region_noPanic ?_;refine fB (fun W=>aa m W∧cI W w.heap.size 0 d.idx∧ah W w.heap.size 1 a0 I c0∧ah W w.heap.size 2 a1 M c1∧ah W w.heap.size 3 a2 R c2) 17 kF ⟨hE,cK hE y0,cK hE y1,cK hE y2,cK hE y3⟩ (fun hS=>?_);refine tY 0 ?_;refine tY 1 ?_;refine tY 2 ?_;refine tY 3 ?_;refine tY 5 ?_;refine tY 6 ?_;refine tY 7 ?_;refine tY 10 ?_;refine tY 11 ?_;refine tY 12 ?_;have a6:aa m m.drew:=Below.drew (bR _ _);generalize m.drew=W0 at *;have ak:=a6.size;have al:w.heap.size+1<W0.heap.size:=oM;refine uT [(4,7),(8,11),(9,12),(13,16),(14,17),(15,18),(16,19)] (yT d a1 a2 c1 c2) kF hS (fun W W' h hb=>⟨bS h.1 hb,cK hb h.2.1,cK hb h.2.2.1,cK hb h.2.2.2.1,cK hb h.2.2.2.2⟩) ?_ ?_ ?_
 ·
  intro p hp;simp only[List.mem_cons,List.not_mem_nil,or_false] at hp;rcases hp with rfl|rfl|rfl|rfl|rfl|rfl|rfl
  all_goals
   intro y y' lo hi W W' h am hb e he
  ·simp only[yT] at h ⊢;rw[e];obtain⟨h1,F,h2,J⟩:=h;exact⟨h1,F,balsR.keep h2 hb,J⟩
  ·simp only[yT] at h ⊢;rw[e];exact⟨h.choose,h.choose_spec.1,cK hb h.choose_spec.2⟩
  ·simp only[yT] at h ⊢;rw[e];obtain⟨h1,F,h2,J⟩:=h;exact⟨h1,F,bytesR.keep h2 hb,J⟩
  ·simp only[yT] at h ⊢;rw[e];exact⟨h.choose,h.choose_spec.1,cK hb h.choose_spec.2⟩
  ·simp only[yT] at h ⊢;rw[e];obtain⟨h1,F,h2,J⟩:=h;exact⟨h1,F,bytesR.keep h2 hb,J⟩
  ·have n:=he (9,12) (by simp) kF;have A:=he (14,17) (by simp) kF;simp only[yT] at h ⊢;rw[e,n,A];exact h
  have n:=he (4,7) (by simp) kF;have A:=he (15,18) (by simp) kF;simp only[yT] at h ⊢;rw[e,n,A];exact h
 ·
  intro p hp;simp only[List.mem_cons,List.not_mem_nil,or_false] at hp;rcases hp with rfl|rfl|rfl|rfl|rfl|rfl|rfl
  all_goals
   refine⟨_,rfl,rfl,?_⟩;intro y W lo hi D U j z K l;clear z
  ·clear j;refine⟨?_⟩;refine fGf W rfl (.const aj) (.tmp 6) rfl W.heap.size aj [] rfl (.slice a0 I c0) d.start rfl (World.ownsRow_nil _ _ _ _) (by have:=HA.out W (bS E D.1);rw[←Z.out.1] at this ⊢;exact this) (by have:=ae.out;simp;omega) (Nat.le_refl _) ?_;intro v' w' ho _ hB;have hb:=hB W (bR _ _);simp only[List.nil_append] at ho;refine l _ _ hb ?_;simp only[yT,updV];obtain⟨av,cv,hv⟩:=fD ho;exact⟨⟨av,cv,by simpa using hv⟩,_,⟨by simpa using ho,rfl⟩,fun b af=>(ho.lt b (by simpa using af)).2⟩
  ·clear j;refine⟨?_⟩;simp only[over,jX,lZ] at l ⊢;go_simp;refine l _ _ hE ?_;simp only[yT,updV];rw[Z.out.2.1];exact⟨_,rfl,by simp[go_sem]⟩
  ·have G:=(j (8,11) (by simp) kF).2;clear j;simp only[yT] at G;obtain⟨B,n,G⟩:=G;refine⟨?_⟩;simp only[over,jX,lZ] at l ⊢;simp only[n] at l ⊢;go_simp;refine(ac.out W B (bS E D.1) G).mono ?_;rintro e w2 ⟨v2,F2,rfl,C,X⟩;refine l _ _ X ?_;simp only[yT,updV];obtain⟨av,cv,hv⟩:=fF (bytesR.ofO C);exact⟨⟨av,cv,by simpa using hv⟩,F2,by simpa using C,fun b hb=>(bytesR.rng C b hb).2⟩
  ·clear j;refine⟨?_⟩;simp only[over,jX,lZ] at l ⊢;go_simp;refine l _ _ hE ?_;simp only[yT,updV];rw[Z.out.2.2];exact⟨_,rfl,by simp[go_sem]⟩
  ·have G:=(j (13,16) (by simp) kF).2;clear j;simp only[yT] at G;obtain⟨B,n,G⟩:=G;refine⟨?_⟩;simp only[over,jX,lZ] at l ⊢;simp only[n] at l ⊢;go_simp;refine(ad.out W B (bS E D.1) G).mono ?_;rintro e w2 ⟨v2,F2,rfl,C,X⟩;refine l _ _ X ?_;simp only[yT,updV];obtain⟨av,cv,hv⟩:=fF (bytesR.ofO C);exact⟨⟨av,cv,by simpa using hv⟩,F2,by simpa using C,fun b hb=>(bytesR.rng C b hb).2⟩
  ·have g1:=(j (9,12) (by simp) kF).2.1;have Y:=(j (14,17) (by simp) kF).2.1;clear j;obtain⟨p,q,n⟩:=g1;obtain⟨p',q',A⟩:=Y;refine⟨?_⟩;simp only[over,jX,lZ] at l ⊢;simp only[n,A] at l ⊢;go_simp;refine l _ _ (bR _ _) ?_;simp only[yT,updV];exact⟨p,q,p',q',by simpa using n,by simpa using A,by simp⟩
  have g1:=(j (4,7) (by simp) kF).2.1;have Y:=(j (15,18) (by simp) kF).2;clear j;simp only[yT] at Y;obtain⟨a,c,n⟩:=g1;obtain⟨p,q,p',q',e8,e9,A⟩:=Y;clear e8 e9;refine⟨?_⟩;simp only[over,jX,lZ] at l ⊢;simp only[n,A] at l ⊢;go_simp;refine l _ _ (bR _ _) ?_;simp only[yT,updV];exact⟨a,c,p,q,p',q',by simpa using n,by simpa using A,by simp⟩
 refine⟨_,rfl,?_⟩;intro y W lo hi D U j z K l;have g1:=j (4,7) (by simp);have Y:=j (9,12) (by simp);have g3:=j (14,17) (by simp);have g4:=(j (15,18) (by simp)).2;have g5:=(j (16,19) (by simp)).2;have a7:=z (4,7) (by simp) (9,12) (by simp) (by simp);have a8:=z (4,7) (by simp) (14,17) (by simp) (by simp);have a9:=z (9,12) (by simp) (14,17) (by simp) (by simp);clear j z;simp only[yT] at g1 Y g3 g4 g5;simp only[fBi] at a7 a8 a9;obtain⟨a,c,p,q,p',q',n,A,e3⟩:=g5;obtain⟨s1,t1,s2,t2,e4,e5,e6⟩:=g4;rw[A] at e6;simp only[Value.agg.injEq,Array.mk.injEq,List.cons.injEq,and_true,Value.slice.injEq,true_and] at e6;obtain⟨⟨rfl,rfl⟩,rfl,rfl⟩:=e6;obtain⟨i1,_,F1,o1,l1⟩:=g1;obtain⟨i2,_,F2,C,l2⟩:=Y;obtain⟨i3,_,F3,o3,l3⟩:=g3;rw[n] at o1;rw[e4] at C;rw[e5] at o3;have k1:=fun b hb=>(balsR.rng o1 b hb).1
 have k2:=fun b hb=>(bytesR.rng C b hb).1
 have k3:=fun b hb=>(bytesR.rng o3 b hb).1
 have s:aa m W:=bS a6 U;refine⟨?_⟩;simp only[over,jX,lZ];simp only[e3];have HO:Hid (jrnR.O W (w.heap.size+2) (fun k=>F1 k∨(F2 k∨F3 k)) (.agg #[iV d.idx,.slice a d.start.length c,.slice p d.log.synced.length q,.slice p' d.log.loose.length q']) d):=
  fH6 (i:=d.idx) (balsR.base o1 (by have:=i1.1;omega)) ⟨_,_,F2,F3,rfl,bytesR.base C (by have:=i2.1;omega),bytesR.base o3 (by have:=i3.1;omega),fun b h2 J=>(by have:=k2 b h2;have:=k3 b J;have:=l2 b h2;have:=l3 b J;omega),fun _=>Iff.rfl⟩
   (fun b h1 h2=>by
    have:=k1 b h1;have:=l1 b h1;rcases h2 with h2|h2
    ·have:=k2 b h2;have:=l2 b h2;omega
    have:=k3 b h2;have:=l3 b h2;omega)
 rw[Z.out.1,Z.out.2.1,Z.out.2.2] at HO ⊢;clear n A e3 e4 e5 i1 i2 i3 o1 C o3 l1 l2 l3 k1 k2 k3 a7 a8 a9 D hS;refine kR4 s ?_ r0 r1 r2 r3;clear r0 r1 r2 r3;intro r0 r1 r2 r3;replace rf:=ai s zq rf;have ag:aa w W:=bS E s;clear U s;go_simp;refine l _ _ ?_;clear l K;refine NoPanic.normal ?_;go_wp2;refine bodyPost_ret (v:=.agg #[iV d.idx,.slice a I c,.slice p M q,.slice p' R q']) (by simp[results,Tryz.results37,go_sem,r0,r1,r2,r3,rf]) rfl ?_;have H:w.heap.size≤w.heap.size+1:=oM;exact⟨_,_,rfl,jrnR.base (fYu jrnR HO.out oM _ _ _ _) oM,bset (p:=⟨w.heap.size+1,3,none⟩) (bset (p:=⟨w.heap.size+1,2,none⟩) (bset (p:=⟨w.heap.size+1,1,none⟩) (bset (p:=⟨w.heap.size+1,0,none⟩) ag H _) H _) H _) H _⟩
theorem fJn {w:World} {v:Value} {es:List Evt} (h:evtsR.V w v es):∃a c,v =.slice a es.length c∧es.length≤c∧c≤maxLen∧∀k,k<es.length→∃b o p q,a=some ⟨b,o,none⟩∧(w.cell? ⟨b,o+k*4,none⟩=some (.bool (es.getD k default).vote)∧w.cell? ⟨b,o+k*4+1,none⟩=some (iV (es.getD k default).con.id)∧w.cell? ⟨b,o+k*4+2,none⟩=some (.slice p (es.getD k default).con.legs.length q)∧w.cell? ⟨b,o+k*4+3,none⟩=some (iV (es.getD k default).out))∧evtR.V w (.agg #[.bool (es.getD k default).vote,iV (es.getD k default).con.id,.slice p (es.getD k default).con.legs.length q,iV (es.getD k default).out]) (es.getD k default):=by
 obtain⟨a,c,rfl,h1,h2,g⟩:=h;refine⟨a,c,rfl,h1,h2,fun k j=>?_⟩;obtain⟨b,o,u,e,_,p,l⟩:=g k j;obtain⟨u1,rfl,d⟩:=l;obtain⟨m,n,rfl⟩:=kK d;exact⟨b,o,m,n,e,⟨p 0 oM,p 1 oM,p 2 oM,p 3 oM⟩,evtf_V.1 ⟨_,rfl,d⟩⟩
theorem uC {w:World} {base:Nat} {F:Nat→Prop} {c v i c' v':Int} {u1 u2 u3 u4 u5:Value} {d:Shd} (h:shdRR.O w base F (.agg #[iV c,iV v,iV i,u1,u2,u3,u4,u5]) ⟨c',v',d⟩):shdR.O w base F (.agg #[iV i,u1,u2,u3,u4,u5]) d:=by
 obtain⟨l,m,n,p,q,g,he,j,k⟩:=h;simp only[Value.agg.injEq,Array.mk.injEq,List.cons.injEq,and_true,Value.int.injEq,true_and] at he;obtain⟨rfl,rfl,rfl,rfl,rfl,rfl,rfl,rfl⟩:=he;have e:F=g:=funext fun b=>propext (k b)
 subst e;exact j
def fTm (w:World) (j:Jrn) (e:Ending) (w':World):Prop:=∃v F s,e =.returned (.tuple #[v,.int .i64 (repT j).code])∧shdR.O w' w.heap.size F v s∧((repT j).code=0→(repT j).shard=s)∧aa w w'
theorem fF3 {w W:World} {j:Jrn} {c:Int} (h:(repT j).code=c) (hc:¬c=0) (hb:aa w W):fTm w j (.returned (.tuple #[.agg #[iV 0,aj,aj,aj,aj,aj],iV c])) W:=by
 obtain⟨F,d⟩:=fKn W w.heap.size;exact⟨_,F,_,by rw[h],d,fun h0=>absurd (h▸h0) hc,hb⟩
theorem fOk (x:Value) (d:Jrn) (w:World) (hx:jrnR.V w x d) (hn:pM d≤1048576) :
  cL 28 #[x] w (fTm w d):=by
 obtain⟨a0,c0,b1,d1,b2,d2,rfl,aK,b4⟩:=vC hx;have aL:gJ d.log≤1048576:=by unfold pM at hn;omega
 have HN:Hid (bW w fun W=>cL 61 #[iV d.idx,.slice a0 d.start.length c0] W fun e w'=>∃v F,e =.returned v∧shdRR.O w' W.heap.size F v (newD d.idx d.start)∧aa W w'):=fun W hW=>fO8 _ _ d.start W (balsR.below aK hW) (by unfold pM qZ at hn;omega)
 have HE:Hid (bW w fun W=>cL 47 #[.agg #[iV d.idx,.slice a0 d.start.length c0,.slice b1 d.log.synced.length d1,.slice b2 d.log.loose.length d2]] W fun e w'=>∃v F,e =.returned v∧evtsRR.O w' W.heap.size F v (evsD d.log)∧aa W w'):=fun W hW=>fMs _ d W (jrnR.below hx hW) aL
 have aA:Hid (∀W y z s e,shdR.V W y s→evtR.V W z e→cL 46 #[y,z] W (rJ W (doE s e))):=fun W y z s e h1 h2=>fU5 y z s e W h1 h2
 have ab:Hid (¬(newD d.idx d.start).code=0→(repT d).code=(newD d.idx d.start).code):=fun h=>by show _=_;unfold repT;rw[if_neg h]
 have a7:Hid ((newD d.idx d.start).code=0→¬(evsD d.log).code=0→(repT d).code=(evsD d.log).code):=fun h h1=>by show _=_;unfold repT;rw[if_pos h,if_neg h1];rfl
 have a8:Hid ((newD d.idx d.start).code=0→(evsD d.log).code=0→repT d=repE (newD d.idx d.start) (evsD d.log).evts):=fun h h1=>by show _=_;unfold repT;rw[if_pos h,if_pos h1]
 clear aK b4 hn aL hx;generalize d.start.length=n0 at *;generalize d.log.synced.length=n1 at *;generalize d.log.loose.length=n2 at *;obtain⟨R,a9⟩:∃R,newD d.idx d.start=R:=⟨_,rfl⟩
 rw[a9] at HN ab a7 a8;clear a9;obtain⟨E0,aM⟩:∃E0,evsD d.log=E0:=⟨_,rfl⟩
 rw[aM] at HE a7 a8;clear aM;obtain⟨ec,r⟩:=E0;obtain⟨nc,nv,ns⟩:=R;dsimp only at ab a7 a8;go_enter Tryz.func28,Tryz.ntmps28;go_wp2_with fail;refine(HN.out _ hE).mono ?_;rintro e g ⟨v1,F1,rfl,o1,A⟩;obtain⟨p1,p2,p3,p4,p5,m1,m2,m3,m4,m5,q1,q2,q3,q4,q5,rfl⟩:=kR o1;have au:=bT w A;have y0:cI g w.heap.size 0 d.idx:=cK A sG;have y1:ah g w.heap.size 1 a0 n0 c0:=cK A sG;have y2:ah g w.heap.size 2 b1 n1 d1:=cK A sG;have y3:ah g w.heap.size 3 b2 n2 d2:=cK A sG;have H:cI g (w.heap.size+1) 0 0:=cK A sG;have I:cN g (w.heap.size+1) 1:=cK A sG;have J:cN g (w.heap.size+1) 2:=cK A sG;have L:cN g (w.heap.size+1) 3:=cK A sG;have M:cN g (w.heap.size+1) 4:=cK A sG;have N:cN g (w.heap.size+1) 5:=cK A sG;have rf:aq g (w.heap.size+1):=ap A;have hz:w.heap.size+2≤g.heap.size:=by have:=A.size;simp at this;omega
 have av:Hid (shdR.O g (w.heap.size+2) F1 (.agg #[iV ns.idx,.slice p1 m1 q1,.slice p2 m2 q2,.slice p3 m3 q3,.slice p4 m4 q4,.slice p5 m5 q5]) ns):=shdR.base (uC o1) (by simp);clear o1 A HN;have z0:w.heap.size<g.heap.size:=oM;have z1:w.heap.size+1<g.heap.size:=oM;by_cases ac:nc=0;rotate_left
 ·
  have HD:Hid _:=ab.out ac;have hd:(nc !=0)=true:=by simp[ac]
  have ad:Hid (¬nc=0):=ac;have bj:aa w g:=au;clear ab a7 a8 HE aA av ac;go_wp2;have a4:(g.alloc (.cells #[iV nc,iV nv,iV ns.idx,.slice p1 m1 q1,.slice p2 m2 q2,.slice p3 m3 q3,.slice p4 m4 q4,.slice p5 m5 q5] 76)).cell? ⟨g.heap.size,0,none⟩=some (iV nc):=sG;obtain⟨wq,U⟩:∃wq,wq=g.alloc (.cells #[iV nc,iV nv,iV ns.idx,.slice p1 m1 q1,.slice p2 m2 q2,.slice p3 m3 q3,.slice p4 m4 q4,.slice p5 m5 q5] 76):=⟨_,rfl⟩
  rw[←U] at a4;have X:aa g wq:=by rw[U];exact hE
  rw[←U];clear U;refine kR6 X ?_ H I J L M N;clear H I J L M N;intro H I J L M N;replace rf:=ai X z1 rf;have aB:aa w wq:=bS au X;have m:aa wq wq.drew:=Below.drew (bR _ _);have a1:¬g.heap.size=w.heap.size+1:=oM;have a2:¬w.heap.size+1=g.heap.size:=oM;clear X au;refine wp_region_noPanic ?_;refine fB (fun W=>cI W g.heap.size 0 nc) 4 kF (cK m a4) (fun hS=>?_);refine tY 0 ?_;refine tY 1 ?_;refine tY 2 ?_;refine uS 3 rfl (fun K E=>?_);go_simp;refine E _ _ (fun _=>by simp[go_sem,a4,a1,a2]) ?_;clear E K;try simp only[jX]
  refine uS 4 rfl (fun K E=>?_);go_simp;refine E _ _ (fun h=>absurd rfl h) ?_;clear E K hS;refine dP ?_;go_wp2;refine bodyPost_ret (v:=.tuple #[.agg #[iV 0,aj,aj,aj,aj,aj],iV nc]) (by simp[results,Tryz.results28,go_sem,H,I,J,L,M,N,rf]) rfl (fF3 HD.out ad.out ?_);have j:w.heap.size≤w.heap.size+1:=oM;refine Below.drew ?_;exact bset (p:=⟨w.heap.size+1,5,none⟩) (bset (p:=⟨w.heap.size+1,4,none⟩) (bset (p:=⟨w.heap.size+1,3,none⟩) (bset (p:=⟨w.heap.size+1,2,none⟩) (bset (p:=⟨w.heap.size+1,1,none⟩) (bset (p:=⟨w.heap.size+1,0,none⟩) (aB) j _) j _) j _) j _) j _) j _
 subst ac;have af:Hid _:=a7.out rfl;have ag:Hid _:=a8.out rfl;clear ab a7 a8;go_wp2_with fail;refine(HE.out _ hE).mono ?_;rintro e n ⟨v2,F2,rfl,o2,B⟩;obtain⟨u2,F3,rfl,o2,_⟩:=o2;dsimp only at o2;obtain⟨ae,ce,rfl⟩:=vO (evtsR.ofO o2);have aw:=bT w B;have a3:=bT g B;have Y:cI n g.heap.size 0 0:=cK B sG;have Z:cI n g.heap.size 1 nv:=cK B sG;have t2:cI n g.heap.size 2 ns.idx:=cK B sG;have t3:ah n g.heap.size 3 p1 m1 q1:=cK B sG;have t4:ah n g.heap.size 4 p2 m2 q2:=cK B sG;have t5:ah n g.heap.size 5 p3 m3 q3:=cK B sG;have t6:ah n g.heap.size 6 p4 m4 q4:=cK B sG;have t7:ah n g.heap.size 7 p5 m5 q5:=cK B sG;have tf:aq n g.heap.size:=ap B;have z4:g.heap.size<n.heap.size:=by have:=B.size;simp at this;omega
 have ak:Hid (evtsR.O n (g.heap.size+1) F3 (.slice ae r.length ce) r):=evtsR.base o2 (by simp);have aC:Hid (shdR.O n (w.heap.size+2) F1 (.agg #[iV ns.idx,.slice p1 m1 q1,.slice p2 m2 q2,.slice p3 m3 q3,.slice p4 m4 q4,.slice p5 m5 q5]) ns):=shdR.keep av.out a3;have aN:Hid (∀b,F1 b→b<g.heap.size):=fun b hb=>(shdR.rng av.out b hb).2
 refine kR6 a3 ?_ H I J L M N;clear H I J L M N;intro H I J L M N;replace rf:=ai a3 z1 rf;clear o2 B HE av au y0 y1 y2 y3;have aO:w.heap.size+1<n.heap.size:=oM;by_cases al:ec=0;rotate_left
 ·
  have HD:Hid ((repT d).code=ec):=af.out al;have ad:Hid (¬ec=0):=al;have hd:(ec !=0)=true:=by simp[al]
  clear af ag aA aC ak aN al;generalize r.length=ne at *;go_wp2;have a4:(n.alloc (.cells #[iV ec,.slice ae ne ce] 80)).cell? ⟨n.heap.size,0,none⟩=some (iV ec):=sG;obtain⟨wq,U⟩:∃wq,wq=n.alloc (.cells #[iV ec,.slice ae ne ce] 80):=⟨_,rfl⟩
  rw[←U] at a4;have X:aa n wq:=by rw[U];exact hE
  rw[←U];clear U;refine kR6 X ?_ H I J L M N;clear H I J L M N;intro H I J L M N;replace rf:=ai X aO rf;have aB:aa w wq:=bS aw X;have m:aa wq wq.drew:=Below.drew (bR _ _);have a1:¬n.heap.size=w.heap.size+1:=oM;have a2:¬w.heap.size+1=n.heap.size:=oM;clear X aw a3;refine wp_region_noPanic ?_;refine fB (fun W=>cI W n.heap.size 0 ec) 4 kF (cK m a4) (fun hS=>?_);refine tY 0 ?_;refine tY 1 ?_;refine tY 2 ?_;refine uS 3 rfl (fun K E=>?_);go_simp;refine E _ _ (fun _=>by simp[go_sem,a4,a1,a2]) ?_;clear E K;try simp only[jX]
  refine uS 4 rfl (fun K E=>?_);go_simp;refine E _ _ (fun h=>absurd rfl h) ?_;clear E K hS;refine dP ?_;go_wp2;refine bodyPost_ret (v:=.tuple #[.agg #[iV 0,aj,aj,aj,aj,aj],iV ec]) (by simp[results,Tryz.results28,go_sem,H,I,J,L,M,N,rf]) rfl (fF3 HD.out ad.out ?_);have j:w.heap.size≤w.heap.size+1:=oM;refine Below.drew ?_;exact bset (p:=⟨w.heap.size+1,5,none⟩) (bset (p:=⟨w.heap.size+1,4,none⟩) (bset (p:=⟨w.heap.size+1,3,none⟩) (bset (p:=⟨w.heap.size+1,2,none⟩) (bset (p:=⟨w.heap.size+1,1,none⟩) (bset (p:=⟨w.heap.size+1,0,none⟩) (aB) j _) j _) j _) j _) j _) j _
 subst al;have HT:Hid (repT d=repE ⟨0,nv,ns⟩ r):=ag.out rfl;clear af ag a3;obtain⟨R,a9⟩:∃R:ShdR,R=⟨0,nv,ns⟩:=⟨_,rfl⟩
 have aD:Hid (R=⟨0,nv,ns⟩):=a9;rw[←a9] at HT;clear a9;have aE:Hid (∀k,k<r.length→(repE R (r.take k)).code=0→repE R (r.take (k+1))=doE (repE R (r.take k)).shard (r.getD k default)):=fun k hk h=>fMl hk (by rw[aD.out]) h
 have aP:Hid (∀k,¬(repE R (r.take k)).code=0→repE R r=repE R (r.take k)):=fun k h=>fQr (by rw[aD.out]) h
 have aQ:Hid (repE R (r.take r.length)=repE R r):=by show _=_;rw[List.take_length]
 have b5:Hid (repE R (r.take 0)=R):=rfl;have aF:Hid (∀W,Mod (fun b=>b=g.heap.size) n W→∀k,k<r.length→∃b o p q,ae=some ⟨b,o,none⟩∧(W.cell? ⟨b,o+k*4,none⟩=some (.bool (r.getD k default).vote)∧W.cell? ⟨b,o+k*4+1,none⟩=some (iV (r.getD k default).con.id)∧W.cell? ⟨b,o+k*4+2,none⟩=some (.slice p (r.getD k default).con.legs.length q)∧W.cell? ⟨b,o+k*4+3,none⟩=some (iV (r.getD k default).out))∧evtR.V W (.agg #[.bool (r.getD k default).vote,iV (r.getD k default).con.id,.slice p (r.getD k default).con.legs.length q,iV (r.getD k default).out]) (r.getD k default)):=fun W hW=>by
  have h:=evtsR.ofO (evtsR.mod ak.out hW (fun b hb e=>by have:=(evtsR.rng ak.out b hb).1;omega));obtain⟨a,c,e1,_,_,h2⟩:=fJn h;simp only[Value.slice.injEq,true_and] at e1;obtain⟨rfl,rfl⟩:=e1;exact h2
 obtain⟨ne,a1⟩:∃ne,r.length=ne:=⟨_,rfl⟩
 have aR:ne≤ce∧ce≤maxLen:=by
  obtain⟨a,c,e1,h1,h2,_⟩:=fJn (evtsR.ofO ak.out);simp only[Value.slice.injEq,true_and] at e1;obtain⟨rfl,rfl⟩:=e1;exact⟨oM,h2⟩
 unfold maxLen at aR;rw[a1] at aE aQ aF ⊢;clear ak a1;go_wp2;have e0:(n.alloc (.cells #[iV 0,.slice ae ne ce] 80)).cell? ⟨n.heap.size,0,none⟩=some (iV 0):=sG;have e1:(n.alloc (.cells #[iV 0,.slice ae ne ce] 80)).cell? ⟨n.heap.size,1,none⟩=some (.slice ae ne ce):=sG;obtain⟨W1,am⟩:∃W1,W1=n.alloc (.cells #[iV 0,.slice ae ne ce] 80):=⟨_,rfl⟩
 rw[←am] at e0 e1;have D:aa n W1:=by rw[am];exact hE
 have bk:n.heap.size<W1.heap.size:=by rw[am];simp
 rw[←am];clear am;refine kR8 D ?_ Y Z t2 t3 t4 t5 t6 t7;clear Y Z t2 t3 t4 t5 t6 t7;intro Y Z t2 t3 t4 t5 t6 t7;replace tf:=ai D z4 tf;refine kR6 D ?_ H I J L M N;clear H I J L M N;intro H I J L M N;replace rf:=ai D aO rf;have aS:Hid (shdR.O W1 (w.heap.size+2) F1 (.agg #[iV ns.idx,.slice p1 m1 q1,.slice p2 m2 q2,.slice p3 m3 q3,.slice p4 m4 q4,.slice p5 m5 q5]) ns):=shdR.keep aC.out D;have ax:aa w W1:=bS aw D;have aT:Hid (Mod (fun b=>b=g.heap.size) n W1):=Mod.of_below D;clear D aC aw;go_loopw [6] (fun i w'=>∃(k:Nat) (T:ShdR) (p1 p2 p3 p4 p5:Option Addr) (m1 q1 m2 q2 m3 q3 m4 q4 m5 q5:Nat) (F:Nat→Prop),k≤ne∧i =.int .i64 k∧Hid (repE R (r.take k)=T∧T.code=0)∧Hid (shdR.O w' (w.heap.size+2) F (.agg #[.int .i64 T.shard.idx,.slice p1 m1 q1,.slice p2 m2 q2,.slice p3 m3 q3,.slice p4 m4 q4,.slice p5 m5 q5]) T.shard∧∀b,F b→¬b=g.heap.size)∧Hid (Mod (fun b=>b=g.heap.size) W1 w')∧w'.cell? ⟨g.heap.size,0,none⟩=some (.int .i64 0)∧w'.cell? ⟨g.heap.size,1,none⟩=some (.int .i64 T.vote)∧w'.cell? ⟨g.heap.size,2,none⟩=some (.int .i64 T.shard.idx)∧w'.cell? ⟨g.heap.size,3,none⟩=some (.slice p1 m1 q1)∧w'.cell? ⟨g.heap.size,4,none⟩=some (.slice p2 m2 q2)∧w'.cell? ⟨g.heap.size,5,none⟩=some (.slice p3 m3 q3)∧w'.cell? ⟨g.heap.size,6,none⟩=some (.slice p4 m4 q4)∧w'.cell? ⟨g.heap.size,7,none⟩=some (.slice p5 m5 q5)∧(∀o,w'.frozen? ⟨g.heap.size,o,none⟩=false)) (fun i _=>ne-(intOf i).toNat)
 case atStart=>exact⟨0,⟨0,nv,ns⟩,p1,p2,p3,p4,p5,m1,q1,m2,q2,m3,q3,m4,q4,m5,q5,F1,Nat.zero_le _,rfl,⟨by rw[b5.out,aD.out],rfl⟩,⟨aS.out,fun b hb=>by have:=aN.out b hb;omega⟩,Mod.refl _ _,Y,Z,t2,t3,t4,t5,t6,t7,tf⟩
 clear aS Y Z t2 t3 t4 t5 t6 t7 tf;obtain⟨k,T,p1,p2,p3,p4,p5,m1,q1,m2,q2,m3,q3,m4,q4,m5,q5,F,hk,rfl,a5,ay,HM,Y,Z,t2,t3,t4,t5,t6,t7,tf⟩:=hrel;have zr:W1.heap.size≤wr.heap.size:=HM.out.size;have aU:aa w wr:=HM.out.below ax ax.size (fun b e=>by rw[e];omega);have s1:=HM.out.cell e1 (by dsimp only;omega);have zt:g.heap.size<wr.heap.size:=oM;have bl:n.heap.size<wr.heap.size:=oM;by_cases aV:k<ne
 ·
  obtain⟨bx,ox,pe,qe,rfl,⟨g0,g1,g2,g3⟩,aG⟩:=aF.out wr (aT.out.trans HM.out) k aV;have aH:=aE.out k aV;obtain⟨l,hl⟩:∃l,l=r.getD k default:=⟨_,rfl⟩
  rw[←hl] at g0 g1 g2 g3 aG aH;clear hl;have ao:Hid (repE R (r.take (k+1))=doE T.shard l):=by show _=_;rw[aH (by rw[a5.out.1];exact a5.out.2),a5.out.1]
  clear aH;have aW:Hid (bW wr fun W=>cL 46 #[.agg #[iV T.shard.idx,.slice p1 m1 q1,.slice p2 m2 q2,.slice p3 m3 q3,.slice p4 m4 q4,.slice p5 m5 q5],.agg #[.bool l.vote,iV l.con.id,.slice pe l.con.legs.length qe,iV l.out]] W (rJ W (doE T.shard l))):=fun W hW=>aA.out W _ _ _ _ (shdR.below (shdR.ofO ay.out.1) hW) (evtR.below aG hW)
  clear aG;generalize b6:l.con.legs.length=le at *;clear b6;have zb:bx<wr.heap.size:=wL wr _ g0;have k1:(k:Int)<ne:=oM;have k2:(0:Int)≤k:=oM;have m:aa wr wr.drew:=Below.drew (bR _ _);go_wp2;refine wp_region_noPanic ?_;refine fB (fun W=>aa wr W∧cI W g.heap.size 0 0∧cI W g.heap.size 1 T.vote∧cI W g.heap.size 2 T.shard.idx∧ah W g.heap.size 3 p1 m1 q1∧ah W g.heap.size 4 p2 m2 q2∧ah W g.heap.size 5 p3 m3 q3∧ah W g.heap.size 6 p4 m4 q4∧ah W g.heap.size 7 p5 m5 q5∧ah W n.heap.size 1 (some ⟨bx,ox,none⟩) ne ce∧cW W bx (ox+k*4) (.bool l.vote)∧cI W bx (ox+k*4+1) l.con.id∧ah W bx (ox+k*4+2) pe le qe∧cI W bx (ox+k*4+3) l.out) 8 kF ⟨m,cK m Y,cK m Z,cK m t2,cK m t3,cK m t4,cK m t5,cK m t6,cK m t7,cK m s1,cK m g0,cK m g1,cK m g2,cK m g3⟩ (fun hS=>?_);refine tY 0 ?_;refine tY 1 ?_;refine tY 2 ?_;refine tY 3 ?_;refine tY 4 ?_;refine tY 5 ?_;refine tY 6 ?_;refine uS 7 rfl (fun K E=>?_);go_simp;refine(aW.out _ hS.1).mono ?_;rintro e' w3 ⟨v3,F4,rfl,o3,az⟩;obtain⟨T2,aX⟩:∃T2,doE T.shard l=T2:=⟨_,rfl⟩
  rw[aX] at o3 ao;clear aX;obtain⟨tc,tv,ts⟩:=T2;obtain⟨x1,x2,x3,x4,x5,h1,h2,h3,h4,h5,i1,i2,i3,i4,i5,rfl⟩:=kR o3;have a6:aa wr w3:=bS hS.1 az;have aY:=And.intro (bS hS.1 az) (kS13 az hS.2);have aZ:Hid (shdR.O w3 (w.heap.size+2) F4 (.agg #[iV ts.idx,.slice x1 h1 i1,.slice x2 h2 i2,.slice x3 h3 i3,.slice x4 h4 i4,.slice x5 h5 i5]) ts):=shdR.base (uC o3) (by have:=hS.1.size;omega);have aI:Hid (∀b,F4 b→¬b=g.heap.size):=fun b hb=>by have:=(shdRR.rng o3 b hb).1;have:=hS.1.size;omega
  refine kR8 a6 ?_ Y Z t2 t3 t4 t5 t6 t7;clear Y Z t2 t3 t4 t5 t6 t7;intro Y Z t2 t3 t4 t5 t6 t7;replace tf:=ai a6 zt tf;refine E _ _ (fun _=>aY) ?_;clear E K az o3 hS aW g0 g1 g2 g3;try simp only[jX]
  refine uS 8 rfl (fun K E=>?_);go_simp;refine E _ _ (fun h=>absurd rfl h) ?_;clear E K aY;refine dP ?_;obtain⟨W2,C⟩:∃W2,W2=((((((((w3.setCell ⟨g.heap.size,0,none⟩ (iV tc)).setCell ⟨g.heap.size,1,none⟩ (iV tv)).setCell ⟨g.heap.size,2,none⟩ (iV ts.idx)).setCell ⟨g.heap.size,3,none⟩ (.slice x1 h1 i1)).setCell ⟨g.heap.size,4,none⟩ (.slice x2 h2 i2)).setCell ⟨g.heap.size,5,none⟩ (.slice x3 h3 i3)).setCell ⟨g.heap.size,6,none⟩ (.slice x4 h4 i4)).setCell ⟨g.heap.size,7,none⟩ (.slice x5 h5 i5)):=⟨_,rfl⟩
  rw[←C];have G:Hid (Mod (fun b=>b=g.heap.size) W1 W2):=by
   rw[C];exact(HM.out.trans (Mod.of_below a6)).trans ((((((((Mod.of_set w3 ⟨g.heap.size,0,none⟩ _).trans (Mod.of_set _ ⟨g.heap.size,1,none⟩ _)).trans (Mod.of_set _ ⟨g.heap.size,2,none⟩ _)).trans (Mod.of_set _ ⟨g.heap.size,3,none⟩ _)).trans (Mod.of_set _ ⟨g.heap.size,4,none⟩ _)).trans (Mod.of_set _ ⟨g.heap.size,5,none⟩ _)).trans (Mod.of_set _ ⟨g.heap.size,6,none⟩ _)).trans (Mod.of_set _ ⟨g.heap.size,7,none⟩ _))
  have b0:Hid (shdR.O W2 (w.heap.size+2) F4 (.agg #[iV ts.idx,.slice x1 h1 i1,.slice x2 h2 i2,.slice x3 h3 i3,.slice x4 h4 i4,.slice x5 h5 i5]) ts):=by
   rw[C];exact vZ shdR aZ.out (fun h=>aI.out _ h rfl) _ _ _ _ _ _ _ _
  have aJ:W2.cell? ⟨g.heap.size,0,none⟩=some (iV tc):=by rw[C];simp[go_sem,Y,Z,t2,t3,t4,t5,t6,t7,tf]
  have b7:W2.cell? ⟨g.heap.size,1,none⟩=some (iV tv):=by rw[C];simp[go_sem,Y,Z,t2,t3,t4,t5,t6,t7,tf]
  have b8:W2.cell? ⟨g.heap.size,2,none⟩=some (iV ts.idx):=by rw[C];simp[go_sem,Y,Z,t2,t3,t4,t5,t6,t7,tf]
  have b9:W2.cell? ⟨g.heap.size,3,none⟩=some (.slice x1 h1 i1):=by rw[C];simp[go_sem,Y,Z,t2,t3,t4,t5,t6,t7,tf]
  have ba:W2.cell? ⟨g.heap.size,4,none⟩=some (.slice x2 h2 i2):=by rw[C];simp[go_sem,Y,Z,t2,t3,t4,t5,t6,t7,tf]
  have bb:W2.cell? ⟨g.heap.size,5,none⟩=some (.slice x3 h3 i3):=by rw[C];simp[go_sem,Y,Z,t2,t3,t4,t5,t6,t7,tf]
  have bc:W2.cell? ⟨g.heap.size,6,none⟩=some (.slice x4 h4 i4):=by rw[C];simp[go_sem,Y,Z,t2,t3,t4,t5,t6,t7,tf]
  have bd:W2.cell? ⟨g.heap.size,7,none⟩=some (.slice x5 h5 i5):=by rw[C];simp[go_sem,Y,Z,t2,t3,t4,t5,t6,t7,tf]
  have be:aq W2 g.heap.size:=fun o=>by rw[C];simp[go_sem,tf]
  have z3:g.heap.size<W2.heap.size:=by have:=G.out.size;omega
  clear C Y Z t2 t3 t4 t5 t6 t7 tf aZ a6 s1;by_cases ar:tc=0
  ·subst ar;go_wp2;exact⟨⟨k+1,⟨0,tv,ts⟩,x1,x2,x3,x4,x5,h1,i1,h2,i2,h3,i3,h4,i4,h5,i5,F4,by omega,by go_num,⟨ao.out,rfl⟩,⟨b0.out,aI.out⟩,G,aJ,b7,b8,b9,ba,bb,bc,bd,be⟩,mI⟩
  have HD:Hid ((repT d).code=tc):=by
   show _=_;rw[HT.out,aP.out (k+1) (by rw[ao.out];exact ar),ao.out]
  have ad:Hid (¬tc=0):=ar;have hd:(tc !=0)=true:=by simp[ar]
  have bf:aa w W2:=G.out.below ax ax.size (fun b e=>by rw[e];omega);replace H:=G.out.cell H (by dsimp only;omega);replace I:=G.out.cell I (by dsimp only;omega);replace J:=G.out.cell J (by dsimp only;omega);replace L:=G.out.cell L (by dsimp only;omega);replace M:=G.out.cell M (by dsimp only;omega);replace N:=G.out.cell N (by dsimp only;omega);replace rf:aq W2 (w.heap.size+1):=fun o=>by rw[G.out.frz10 (a:=⟨w.heap.size+1,o,none⟩) (by dsimp only;omega) (by dsimp only;omega)];exact rf o
  have b3:aa W2 W2.drew:=Below.drew (bR _ _);have a1:¬g.heap.size=w.heap.size+1:=oM;have a2:¬w.heap.size+1=g.heap.size:=oM;clear ar ao b0 aI G a5 ay HM aU;go_wp2;refine wp_region_noPanic ?_;refine fB (fun W=>cI W g.heap.size 0 tc) 4 kF (cK b3 aJ) (fun hS=>?_);refine tY 0 ?_;refine tY 1 ?_;refine tY 2 ?_;refine uS 3 rfl (fun K E=>?_);go_simp;refine E _ _ (fun _=>by simp[go_sem,aJ,a1,a2]) ?_;clear E K;try simp only[jX]
  refine uS 4 rfl (fun K E=>?_);go_simp;refine E _ _ (fun h=>absurd rfl h) ?_;clear E K hS;refine dP ?_;go_wp2;refine bodyPost_ret (v:=.tuple #[.agg #[iV 0,aj,aj,aj,aj,aj],iV tc]) (by simp[results,Tryz.results28,go_sem,H,I,J,L,M,N,rf]) rfl (fF3 HD.out ad.out ?_);have j:w.heap.size≤w.heap.size+1:=oM;refine Below.drew ?_;exact bset (p:=⟨w.heap.size+1,5,none⟩) (bset (p:=⟨w.heap.size+1,4,none⟩) (bset (p:=⟨w.heap.size+1,3,none⟩) (bset (p:=⟨w.heap.size+1,2,none⟩) (bset (p:=⟨w.heap.size+1,1,none⟩) (bset (p:=⟨w.heap.size+1,0,none⟩) (bf) j _) j _) j _) j _) j _) j _
 have bg:k=ne:=oM;subst bg;have HD:Hid (repT d=T):=by show _=_;rw[HT.out,←aQ.out,a5.out.1]
 have bh:Hid (T.code=0):=a5.out.2;have k1:¬(k:Int)<(k:Int):=oM;replace H:=HM.out.cell H (by dsimp only;omega);replace I:=HM.out.cell I (by dsimp only;omega);replace J:=HM.out.cell J (by dsimp only;omega);replace L:=HM.out.cell L (by dsimp only;omega);replace M:=HM.out.cell M (by dsimp only;omega);replace N:=HM.out.cell N (by dsimp only;omega);replace rf:aq wr (w.heap.size+1):=fun o=>by rw[HM.out.frz10 (a:=⟨w.heap.size+1,o,none⟩) (by dsimp only;omega) (by dsimp only;omega)];exact rf o
 have bi:Hid (shdR.O wr (w.heap.size+2) F (.agg #[iV T.shard.idx,.slice p1 m1 q1,.slice p2 m2 q2,.slice p3 m3 q3,.slice p4 m4 q4,.slice p5 m5 q5]) T.shard):=ay.out.1;clear a5 ay HM aF aE aP;go_wp2;refine bodyPost_ret (v:=.tuple #[.agg #[iV T.shard.idx,.slice p1 m1 q1,.slice p2 m2 q2,.slice p3 m3 q3,.slice p4 m4 q4,.slice p5 m5 q5],iV 0]) (by simp[results,Tryz.results28,go_sem,H,I,J,L,M,N,rf]) rfl ?_;have j:w.heap.size≤w.heap.size+1:=oM;exact⟨_,F,T.shard,by rw[HD.out,bh.out],shdR.base (set6 shdR bi.out oM _ _ _ _ _ _) oM,fun _=>by rw[HD.out],bset (p:=⟨w.heap.size+1,5,none⟩) (bset (p:=⟨w.heap.size+1,4,none⟩) (bset (p:=⟨w.heap.size+1,3,none⟩) (bset (p:=⟨w.heap.size+1,2,none⟩) (bset (p:=⟨w.heap.size+1,1,none⟩) (bset (p:=⟨w.heap.size+1,0,none⟩) (aU) j _) j _) j _) j _) j _) j _⟩
theorem fSy {α:Type} (R:Rep α) {W:World} {base B:Nat} {F:Nat→Prop} {v:Value} {x:α} (h:R.O W base F v x) (hB:B<base) (u0 u1 u2 u3 u4 u5 u6 u7 u8 u9 u10:Value) :
  R.O ((((((((((((W.setCell ⟨B,0,none⟩ u0).setCell ⟨B,1,none⟩ u1).setCell ⟨B,2,none⟩ u2).setCell ⟨B,3,none⟩ u3).setCell ⟨B,4,none⟩ u4).setCell ⟨B,5,none⟩ u5).setCell ⟨B,6,none⟩ u6).setCell ⟨B,7,none⟩ u7).setCell ⟨B,8,none⟩ u8).setCell ⟨B,9,none⟩ u9).setCell ⟨B,10,none⟩ u10)) base F v x:=by
 iterate 11 (refine R.set ?_ _ hB)
 exact h
theorem qU {w Y:World} (h:aa w Y) {B:Nat} (hp:w.heap.size≤B) (u0 u1 u2 u3 u4 u5 u6 u7 u8 u9 u10:Value):Below w.heap.size w ((((((((((((Y.setCell ⟨B,0,none⟩ u0).setCell ⟨B,1,none⟩ u1).setCell ⟨B,2,none⟩ u2).setCell ⟨B,3,none⟩ u3).setCell ⟨B,4,none⟩ u4).setCell ⟨B,5,none⟩ u5).setCell ⟨B,6,none⟩ u6).setCell ⟨B,7,none⟩ u7).setCell ⟨B,8,none⟩ u8).setCell ⟨B,9,none⟩ u9).setCell ⟨B,10,none⟩ u10)):=by
 iterate 11 (refine bset ?_ hp _)
 exact h
theorem fBw {w:World} {base:Nat} {F1 F2:Nat→Prop} {c i k:Int} {t0 t1 t2 u1 u2 u3 u4 u5:Value} {j:Jrn} {s:Shd} (h1:jrnR.O w base F1 (.agg #[iV i,t0,t1,t2]) j) (h2:shdR.O w base F2 (.agg #[iV k,u1,u2,u3,u4,u5]) s) (hd:∀b,F1 b→¬F2 b) :
  jrnRR.O w base (fun b=>F1 b∨F2 b) (.agg #[iV c,iV i,t0,t1,t2,iV k,u1,u2,u3,u4,u5]) ⟨c,j,s⟩:=by
 have d:i=j.idx:=by
  obtain⟨_,_,_,_,_,he,_⟩:=h1;simp only[Value.agg.injEq,Array.mk.injEq,List.cons.injEq,Value.int.injEq,true_and] at he;exact he.1
 have e:k=s.idx:=by
  obtain⟨_,_,_,_,_,_,_,_,_,_,he,_⟩:=h2;simp only[Value.agg.injEq,Array.mk.injEq,List.cons.injEq,Value.int.injEq,true_and] at he;exact he.1
 subst d e;exact⟨_,_,_,_,_,_,_,_,F1,F2,rfl,h1,h2,hd,fun _=>Iff.rfl⟩
theorem fFl {w:World} {base:Nat} {F:Nat→Prop} {v:Value} {j:Jrn} (h:jrnR.O w base F v j):∃a0 c0 a1 c1 a2 c2,v =.agg #[iV j.idx,.slice a0 j.start.length c0,.slice a1 j.log.synced.length c1,.slice a2 j.log.loose.length c2]:=by
 obtain⟨a0,c0,a1,c1,a2,c2,rfl,_⟩:=vC (jrnR.ofO h);exact⟨_,_,_,_,_,_,rfl⟩
theorem fUx (w:World) (base:Nat):∃F,jrnR.O w base F (.agg #[iV 0,aj,aj,aj]) ⟨0,[],⟨[],[]⟩⟩:=
 ⟨_,fH6 (i:=0) ⟨World.ownsRow_nil _ _ _ _,rfl⟩ (fEe (fEr w base)) (fun k h=>by simp[Value.ownBlock] at h)⟩
theorem fYe (w:World) (base:Nat):shdR.O w base (fun _=>False) (.agg #[iV 0,aj,aj,aj,aj,aj]) ⟨0,[],[],[],[],[]⟩:=by
 obtain⟨F,h⟩:=fKn w (w.heap.size+base);have e:F=(fun _=>False):=by
  funext b
  refine propext ⟨fun hb=>?_,fun hb=>hb.elim⟩;have:=shdR.rng h b hb;omega
 subst e;exact shdR.base h oM
theorem gAf (w:World) (base:Nat) (c:Int):∃F,jrnRR.O w base F (.agg #[iV c,iV 0,aj,aj,aj,iV 0,aj,aj,aj,aj,aj]) (errJ c):=by
 obtain⟨d,h1⟩:=fUx w base;obtain⟨j,h2⟩:=fKn w base;have e:∀b,d b→¬(fun _=>False) b:=fun _ _ h=>h
 have g:shdR.O w base (fun _=>False) (.agg #[iV 0,aj,aj,aj,aj,aj]) ⟨0,[],[],[],[],[]⟩:=fYe w base;exact⟨_,fBw (c:=c) h1 g e⟩
def JrE (w:World) (Z:JrnR) (e:Ending) (w':World):Prop:=∃v F,e =.returned v∧jrnRR.O w' w.heap.size F v Z∧aa w w'
theorem uV {w W:World} {Z:JrnR} {c:Int} (h:Z=errJ c) (hb:aa w W):JrE w Z (.returned (.agg #[iV c,iV 0,aj,aj,aj,iV 0,aj,aj,aj,aj,aj])) W:=by
 obtain⟨F,d⟩:=gAf W w.heap.size c;exact⟨_,F,rfl,by rw[h];exact d,hb⟩
theorem fQq {j:Jrn} {c:Int} (h:(repT j).code=c) (hc:¬c=0):repD j=errJ c:=by unfold repD;rw[if_neg (by rw[h];exact hc),h]
theorem fVu {j:Jrn} {s:Shd} (h:(repT j).code=0) (hs:(repT j).shard=s):repD j=⟨0,j,s⟩:=by unfold repD;rw[if_pos h,hs]
theorem fUt (x:Value) (d:Jrn) (w:World) (hx:jrnR.V w x d) (hn:pM d≤1048576) :
  cL 13 #[x] w (JrE w (repD d)):=by
 obtain⟨a0,c0,b1,d1,b2,d2,rfl,aT,bk⟩:=vC hx;have aU:gJ d.log≤1048576:=by unfold pM at hn;omega
 have HN:Hid (bW w fun W=>cL 34 #[iV d.idx,.slice a0 d.start.length c0] W fun e w'=>∃v F,e =.returned v∧shdRR.O w' W.heap.size F v (newD d.idx d.start)∧aa W w'):=fun W hW=>fN4 _ _ d.start W (balsR.below aT hW) (by unfold pM qZ at hn;omega)
 have HE:Hid (bW w fun W=>cL 35 #[.agg #[iV d.idx,.slice a0 d.start.length c0,.slice b1 d.log.synced.length d1,.slice b2 d.log.loose.length d2]] W fun e w'=>∃v F,e =.returned v∧evtsRR.O w' W.heap.size F v (evsD d.log)∧aa W w'):=fun W hW=>fLt _ d W (jrnR.below hx hW) aU
 have HC:Hid (bW w fun W=>cL 37 #[.agg #[iV d.idx,.slice a0 d.start.length c0,.slice b1 d.log.synced.length d1,.slice b2 d.log.loose.length d2]] W fun e w'=>∃v F,e =.returned v∧jrnR.O w' W.heap.size F v d∧aa W w'):=fun W hW=>fNq _ d W (jrnR.below hx hW) hn
 have au:Hid (∀W y z s e,shdR.V W y s→evtR.V W z e→cL 36 #[y,z] W (rJ W (doE s e))):=fun W y z s e h1 h2=>fPx y z s e W h1 h2
 have a6:Hid (∀c,(repT d).code=c→¬c=0→repD d=errJ c):=fun c h hc=>fQq h hc
 have av:Hid (∀T:ShdR,repT d=T→T.code=0→repD d=⟨0,d,T.shard⟩):=fun T h h0=>fVu (by rw[h];exact h0) (by rw[h])
 obtain⟨n0,aw⟩:∃n0,d.start.length=n0:=⟨_,rfl⟩
 obtain⟨n1,aE⟩:∃n1,d.log.synced.length=n1:=⟨_,rfl⟩
 obtain⟨n2,aF⟩:∃n2,d.log.loose.length=n2:=⟨_,rfl⟩
 have aG:Hid (d.start.length=n0∧d.log.synced.length=n1∧d.log.loose.length=n2):=⟨aw,aE,aF⟩;generalize repD d=Z at *;have ac:Hid (¬(newD d.idx d.start).code=0→(repT d).code=(newD d.idx d.start).code):=fun h=>by show _=_;unfold repT;rw[if_neg h]
 have a7:Hid ((newD d.idx d.start).code=0→¬(evsD d.log).code=0→(repT d).code=(evsD d.log).code):=fun h h1=>by show _=_;unfold repT;rw[if_pos h,if_neg h1];rfl
 have a8:Hid ((newD d.idx d.start).code=0→(evsD d.log).code=0→repT d=repE (newD d.idx d.start) (evsD d.log).evts):=fun h h1=>by show _=_;unfold repT;rw[if_pos h,if_pos h1]
 clear aT bk hn aU hx;rw[aw,aE,aF] at HE HC ⊢;rw[aw] at HN;clear aw aE aF;obtain⟨G,a9⟩:∃G,newD d.idx d.start=G:=⟨_,rfl⟩
 rw[a9] at HN ac a7 a8;clear a9;obtain⟨E0,aV⟩:∃E0,evsD d.log=E0:=⟨_,rfl⟩
 rw[aV] at HE a7 a8;clear aV;obtain⟨ec,n⟩:=E0;obtain⟨nc,nv,ns⟩:=G;dsimp only at ac a7 a8;go_enter Tryz.func13,Tryz.ntmps13;go_wp2_with fail;refine(HN.out _ hE).mono ?_;rintro e g ⟨v1,F1,rfl,o1,j⟩;obtain⟨p1,p2,p3,p4,p5,m1,m2,m3,m4,m5,q1,q2,q3,q4,q5,rfl⟩:=kR o1;have aH:=bT w j;have y0:cI g w.heap.size 0 d.idx:=cK j sG;have y1:ah g w.heap.size 1 a0 n0 c0:=cK j sG;have y2:ah g w.heap.size 2 b1 n1 d1:=cK j sG;have y3:ah g w.heap.size 3 b2 n2 d2:=cK j sG;have Y:cI g (w.heap.size+1) 0 0:=cK j sG;have r1:cI g (w.heap.size+1) 1 0:=cK j sG;have r2:cN g (w.heap.size+1) 2:=cK j sG;have r3:cN g (w.heap.size+1) 3:=cK j sG;have r4:cN g (w.heap.size+1) 4:=cK j sG;have r5:cI g (w.heap.size+1) 5 0:=cK j sG;have r6:cN g (w.heap.size+1) 6:=cK j sG;have r7:cN g (w.heap.size+1) 7:=cK j sG;have r8:cN g (w.heap.size+1) 8:=cK j sG;have r9:cN g (w.heap.size+1) 9:=cK j sG;have m:cN g (w.heap.size+1) 10:=cK j sG;have rf:aq g (w.heap.size+1):=ap j;have hz:w.heap.size+2≤g.heap.size:=by have:=j.size;simp at this;omega
 have ax:Hid (shdR.O g (w.heap.size+2) F1 (.agg #[iV ns.idx,.slice p1 m1 q1,.slice p2 m2 q2,.slice p3 m3 q3,.slice p4 m4 q4,.slice p5 m5 q5]) ns):=shdR.base (uC o1) (by simp);clear o1 j HN;have z0:w.heap.size<g.heap.size:=oM;have z1:w.heap.size+1<g.heap.size:=oM;by_cases ad:nc=0;rotate_left
 ·
  have HD:Hid (Z=errJ nc):=a6.out _ (ac.out ad) ad;have hd:(nc !=0)=true:=by simp[ad]
  clear ac a7 a8 HE HC au ax a6 av ad;go_wp2;refine bodyPost_ret (v:=.agg #[iV nc,iV 0,aj,aj,aj,iV 0,aj,aj,aj,aj,aj]) (by simp[results,Tryz.results13,go_sem,Y,r1,r2,r3,r4,r5,r6,r7,r8,r9,m,rf,z1]) rfl (uV HD.out ?_);have a3:w.heap.size≤w.heap.size+1:=oM;first|exact bA (qU aH a3 _ _ _ _ _ _ _ _ _ _ _) _|exact qU (bA aH _) a3 _ _ _ _ _ _ _ _ _ _ _
 subst ad;have af:Hid _:=a7.out rfl;have ag:Hid _:=a8.out rfl;clear ac a7 a8;go_wp2_with fail;refine(HE.out _ hE).mono ?_;rintro e H ⟨v2,F2,rfl,o2,B⟩;obtain⟨u2,F3,rfl,o2,_⟩:=o2;dsimp only at o2;obtain⟨ae,ce,rfl⟩:=vO (evtsR.ofO o2);have ay:=bT w B;have a1:=bT g B;have I:cI H g.heap.size 0 0:=cK B sG;have J:cI H g.heap.size 1 nv:=cK B sG;have L:cI H g.heap.size 2 ns.idx:=cK B sG;have M:ah H g.heap.size 3 p1 m1 q1:=cK B sG;have N:ah H g.heap.size 4 p2 m2 q2:=cK B sG;have R:ah H g.heap.size 5 p3 m3 q3:=cK B sG;have U:ah H g.heap.size 6 p4 m4 q4:=cK B sG;have X:ah H g.heap.size 7 p5 m5 q5:=cK B sG;have tf:aq H g.heap.size:=ap B;have z4:g.heap.size<H.heap.size:=by have:=B.size;simp at this;omega
 have ak:Hid (evtsR.O H (g.heap.size+1) F3 (.slice ae n.length ce) n):=evtsR.base o2 (by simp);have aI:Hid (shdR.O H (w.heap.size+2) F1 (.agg #[iV ns.idx,.slice p1 m1 q1,.slice p2 m2 q2,.slice p3 m3 q3,.slice p4 m4 q4,.slice p5 m5 q5]) ns):=shdR.keep ax.out a1;have aW:Hid (∀b,F1 b→b<g.heap.size):=fun b hb=>(shdR.rng ax.out b hb).2
 refine kR12 a1 ?_ y0 y1 y2 y3 Y r1 r2 r3 r4 r5 r6 r7;clear y0 y1 y2 y3 Y r1 r2 r3 r4 r5 r6 r7;intro y0 y1 y2 y3 Y r1 r2 r3 r4 r5 r6 r7;refine kR3 a1 ?_ r8 r9 m;clear r8 r9 m;intro r8 r9 m;replace rf:=ai a1 z1 rf;clear o2 B HE ax aH;have aX:w.heap.size+1<H.heap.size:=oM;by_cases al:ec=0;rotate_left
 ·
  have HD:Hid (Z=errJ ec):=a6.out _ (af.out al) al;have hd:(ec !=0)=true:=by simp[al]
  clear af ag au aI ak aW HC a6 av al;generalize n.length=ne at *;go_wp2;refine bodyPost_ret (v:=.agg #[iV ec,iV 0,aj,aj,aj,iV 0,aj,aj,aj,aj,aj]) (by simp[results,Tryz.results13,go_sem,Y,r1,r2,r3,r4,r5,r6,r7,r8,r9,m,rf,aX]) rfl (uV HD.out ?_);have a3:w.heap.size≤w.heap.size+1:=oM;first|exact bA (qU ay a3 _ _ _ _ _ _ _ _ _ _ _) _|exact qU (bA ay _) a3 _ _ _ _ _ _ _ _ _ _ _
 subst al;have HT:Hid (repT d=repE ⟨0,nv,ns⟩ n):=ag.out rfl;clear af ag a1;obtain⟨G,a9⟩:∃G:ShdR,G=⟨0,nv,ns⟩:=⟨_,rfl⟩
 have aJ:Hid (G=⟨0,nv,ns⟩):=a9;rw[←a9] at HT;clear a9;have aK:Hid (∀k,k<n.length→(repE G (n.take k)).code=0→repE G (n.take (k+1))=doE (repE G (n.take k)).shard (n.getD k default)):=fun k hk h=>fMl hk (by rw[aJ.out]) h
 have aY:Hid (∀k,¬(repE G (n.take k)).code=0→repE G n=repE G (n.take k)):=fun k h=>fQr (by rw[aJ.out]) h
 have aZ:Hid (repE G (n.take n.length)=repE G n):=by show _=_;rw[List.take_length]
 have bl:Hid (repE G (n.take 0)=G):=rfl;have aL:Hid (∀W,Mod (fun b=>b=g.heap.size) H W→∀k,k<n.length→∃b o p q,ae=some ⟨b,o,none⟩∧(W.cell? ⟨b,o+k*4,none⟩=some (.bool (n.getD k default).vote)∧W.cell? ⟨b,o+k*4+1,none⟩=some (iV (n.getD k default).con.id)∧W.cell? ⟨b,o+k*4+2,none⟩=some (.slice p (n.getD k default).con.legs.length q)∧W.cell? ⟨b,o+k*4+3,none⟩=some (iV (n.getD k default).out))∧evtR.V W (.agg #[.bool (n.getD k default).vote,iV (n.getD k default).con.id,.slice p (n.getD k default).con.legs.length q,iV (n.getD k default).out]) (n.getD k default)):=fun W hW=>by
  have h:=evtsR.ofO (evtsR.mod ak.out hW (fun b hb e=>by have:=(evtsR.rng ak.out b hb).1;omega));obtain⟨a,c,e1,_,_,h2⟩:=fJn h;simp only[Value.slice.injEq,true_and] at e1;obtain⟨rfl,rfl⟩:=e1;exact h2
 obtain⟨ne,az⟩:∃ne,n.length=ne:=⟨_,rfl⟩
 have b0:ne≤ce∧ce≤maxLen:=by
  obtain⟨a,c,e1,h1,h2,_⟩:=fJn (evtsR.ofO ak.out);simp only[Value.slice.injEq,true_and] at e1;obtain⟨rfl,rfl⟩:=e1;exact⟨oM,h2⟩
 unfold maxLen at b0;rw[az] at aK aZ aL ⊢;clear ak az;go_wp2;obtain⟨W1,aA⟩:∃W1,W1=H.alloc (.cells #[iV 0,.slice ae ne ce] 80):=⟨_,rfl⟩
 have r:aa H W1:=by rw[aA];exact hE
 have bt:H.heap.size<W1.heap.size:=by rw[aA];simp
 rw[←aA];clear aA;refine kR8 r ?_ I J L M N R U X;clear I J L M N R U X;intro I J L M N R U X;replace tf:=ai r z4 tf;refine kR12 r ?_ y0 y1 y2 y3 Y r1 r2 r3 r4 r5 r6 r7;clear y0 y1 y2 y3 Y r1 r2 r3 r4 r5 r6 r7;intro y0 y1 y2 y3 Y r1 r2 r3 r4 r5 r6 r7;refine kR3 r ?_ r8 r9 m;clear r8 r9 m;intro r8 r9 m;replace rf:=ai r aX rf;have b3:Hid (shdR.O W1 (w.heap.size+2) F1 (.agg #[iV ns.idx,.slice p1 m1 q1,.slice p2 m2 q2,.slice p3 m3 q3,.slice p4 m4 q4,.slice p5 m5 q5]) ns):=shdR.keep aI.out r;have aB:aa w W1:=bS ay r;have b4:Hid (Mod (fun b=>b=g.heap.size) H W1):=Mod.of_below r;clear r aI ay;go_loopw [29] (fun i w'=>∃(k:Nat) (T:ShdR) (p1 p2 p3 p4 p5:Option Addr) (m1 q1 m2 q2 m3 q3 m4 q4 m5 q5:Nat) (F:Nat→Prop),k≤ne∧i =.int .i64 k∧Hid (repE G (n.take k)=T∧T.code=0)∧Hid (shdR.O w' (w.heap.size+2) F (.agg #[.int .i64 T.shard.idx,.slice p1 m1 q1,.slice p2 m2 q2,.slice p3 m3 q3,.slice p4 m4 q4,.slice p5 m5 q5]) T.shard∧∀b,F b→¬b=g.heap.size)∧Hid (Mod (fun b=>b=g.heap.size) W1 w')∧w'.cell? ⟨g.heap.size,0,none⟩=some (.int .i64 0)∧w'.cell? ⟨g.heap.size,1,none⟩=some (.int .i64 T.vote)∧w'.cell? ⟨g.heap.size,2,none⟩=some (.int .i64 T.shard.idx)∧w'.cell? ⟨g.heap.size,3,none⟩=some (.slice p1 m1 q1)∧w'.cell? ⟨g.heap.size,4,none⟩=some (.slice p2 m2 q2)∧w'.cell? ⟨g.heap.size,5,none⟩=some (.slice p3 m3 q3)∧w'.cell? ⟨g.heap.size,6,none⟩=some (.slice p4 m4 q4)∧w'.cell? ⟨g.heap.size,7,none⟩=some (.slice p5 m5 q5)∧(∀o,w'.frozen? ⟨g.heap.size,o,none⟩=false)) (fun i _=>ne-(intOf i).toNat)
 case atStart=>exact⟨0,⟨0,nv,ns⟩,p1,p2,p3,p4,p5,m1,q1,m2,q2,m3,q3,m4,q4,m5,q5,F1,Nat.zero_le _,rfl,⟨by rw[bl.out,aJ.out],rfl⟩,⟨b3.out,fun b hb=>by have:=aW.out b hb;omega⟩,Mod.refl _ _,I,J,L,M,N,R,U,X,tf⟩
 clear b3 I J L M N R U X tf;obtain⟨k,T,p1,p2,p3,p4,p5,m1,q1,m2,q2,m3,q3,m4,q4,m5,q5,F,hk,rfl,a4,aC,E,I,J,L,M,N,R,U,X,tf⟩:=hrel;have zr:W1.heap.size≤wr.heap.size:=E.out.size;have aM:aa w wr:=E.out.below aB aB.size (fun b e=>by rw[e];omega);have zt:g.heap.size<wr.heap.size:=oM;have bu:H.heap.size<wr.heap.size:=oM;by_cases b5:k<ne
 ·
  obtain⟨bx,ox,pe,qe,rfl,⟨g0,g1,g2,g3⟩,aN⟩:=aL.out wr (b4.out.trans E.out) k b5;have aO:=aK.out k b5;obtain⟨l,hl⟩:∃l,l=n.getD k default:=⟨_,rfl⟩
  rw[←hl] at g0 g1 g2 g3 aN aO;clear hl;have am:Hid (repE G (n.take (k+1))=doE T.shard l):=by show _=_;rw[aO (by rw[a4.out.1];exact a4.out.2),a4.out.1]
  clear aO;have b6:Hid (bW wr fun W=>cL 36 #[.agg #[iV T.shard.idx,.slice p1 m1 q1,.slice p2 m2 q2,.slice p3 m3 q3,.slice p4 m4 q4,.slice p5 m5 q5],.agg #[.bool l.vote,iV l.con.id,.slice pe l.con.legs.length qe,iV l.out]] W (rJ W (doE T.shard l))):=fun W hW=>au.out W _ _ _ _ (shdR.below (shdR.ofO aC.out.1) hW) (evtR.below aN hW)
  clear aN;generalize bm:l.con.legs.length=le at *;clear bm;have zb:bx<wr.heap.size:=wL wr _ g0;have k1:(k:Int)<ne:=oM;have k2:(0:Int)≤k:=oM;go_wp2_with fail;refine(b6.out _ hE).mono ?_;rintro e' w3 ⟨v3,F4,rfl,o3,ab⟩;obtain⟨T2,b7⟩:∃T2,doE T.shard l=T2:=⟨_,rfl⟩
  rw[b7] at o3 am;clear b7;obtain⟨tc,tv,ts⟩:=T2;obtain⟨x1,x2,x3,x4,x5,h1,h2,h3,h4,h5,i1,i2,i3,i4,i5,rfl⟩:=kR o3;have a2:=bT wr ab;have ao:Hid (shdR.O w3 (w.heap.size+2) F4 (.agg #[iV ts.idx,.slice x1 h1 i1,.slice x2 h2 i2,.slice x3 h3 i3,.slice x4 h4 i4,.slice x5 h5 i5]) ts):=shdR.base (uC o3) (by simp;omega);have aP:Hid (∀b,F4 b→¬b=g.heap.size):=fun b hb=>by have:=(shdRR.rng o3 b hb).1;simp at this;omega
  refine kR8 a2 ?_ I J L M N R U X;clear I J L M N R U X;intro I J L M N R U X;replace tf:=ai a2 zt tf;clear ab o3 b6 g0 g1 g2 g3;obtain⟨W2,C⟩:∃W2,W2=((((((((w3.setCell ⟨g.heap.size,0,none⟩ (iV tc)).setCell ⟨g.heap.size,1,none⟩ (iV tv)).setCell ⟨g.heap.size,2,none⟩ (iV ts.idx)).setCell ⟨g.heap.size,3,none⟩ (.slice x1 h1 i1)).setCell ⟨g.heap.size,4,none⟩ (.slice x2 h2 i2)).setCell ⟨g.heap.size,5,none⟩ (.slice x3 h3 i3)).setCell ⟨g.heap.size,6,none⟩ (.slice x4 h4 i4)).setCell ⟨g.heap.size,7,none⟩ (.slice x5 h5 i5)):=⟨_,rfl⟩
  have aQ:Hid (Mod (fun b=>b=g.heap.size) W1 W2):=by
   rw[C];exact(E.out.trans (Mod.of_below a2)).trans ((((((((Mod.of_set w3 ⟨g.heap.size,0,none⟩ _).trans (Mod.of_set _ ⟨g.heap.size,1,none⟩ _)).trans (Mod.of_set _ ⟨g.heap.size,2,none⟩ _)).trans (Mod.of_set _ ⟨g.heap.size,3,none⟩ _)).trans (Mod.of_set _ ⟨g.heap.size,4,none⟩ _)).trans (Mod.of_set _ ⟨g.heap.size,5,none⟩ _)).trans (Mod.of_set _ ⟨g.heap.size,6,none⟩ _)).trans (Mod.of_set _ ⟨g.heap.size,7,none⟩ _))
  have aD:Hid (shdR.O W2 (w.heap.size+2) F4 (.agg #[iV ts.idx,.slice x1 h1 i1,.slice x2 h2 i2,.slice x3 h3 i3,.slice x4 h4 i4,.slice x5 h5 i5]) ts):=by
   rw[C];exact vZ shdR ao.out (fun h=>aP.out _ h rfl) _ _ _ _ _ _ _ _
  have b8:W2.cell? ⟨g.heap.size,0,none⟩=some (iV tc):=by rw[C];simp[go_sem,I,J,L,M,N,R,U,X,tf]
  have b9:W2.cell? ⟨g.heap.size,1,none⟩=some (iV tv):=by rw[C];simp[go_sem,I,J,L,M,N,R,U,X,tf]
  have ba:W2.cell? ⟨g.heap.size,2,none⟩=some (iV ts.idx):=by rw[C];simp[go_sem,I,J,L,M,N,R,U,X,tf]
  have bb:W2.cell? ⟨g.heap.size,3,none⟩=some (.slice x1 h1 i1):=by rw[C];simp[go_sem,I,J,L,M,N,R,U,X,tf]
  have bc:W2.cell? ⟨g.heap.size,4,none⟩=some (.slice x2 h2 i2):=by rw[C];simp[go_sem,I,J,L,M,N,R,U,X,tf]
  have bd:W2.cell? ⟨g.heap.size,5,none⟩=some (.slice x3 h3 i3):=by rw[C];simp[go_sem,I,J,L,M,N,R,U,X,tf]
  have be:W2.cell? ⟨g.heap.size,6,none⟩=some (.slice x4 h4 i4):=by rw[C];simp[go_sem,I,J,L,M,N,R,U,X,tf]
  have bf:W2.cell? ⟨g.heap.size,7,none⟩=some (.slice x5 h5 i5):=by rw[C];simp[go_sem,I,J,L,M,N,R,U,X,tf]
  have bg:aq W2 g.heap.size:=fun o=>by rw[C];simp[go_sem,tf]
  have z3:g.heap.size<W2.heap.size:=by have:=aQ.out.size;omega
  have bh:Hid (W2=((((((((w3.setCell ⟨g.heap.size,0,none⟩ (iV tc)).setCell ⟨g.heap.size,1,none⟩ (iV tv)).setCell ⟨g.heap.size,2,none⟩ (iV ts.idx)).setCell ⟨g.heap.size,3,none⟩ (.slice x1 h1 i1)).setCell ⟨g.heap.size,4,none⟩ (.slice x2 h2 i2)).setCell ⟨g.heap.size,5,none⟩ (.slice x3 h3 i3)).setCell ⟨g.heap.size,6,none⟩ (.slice x4 h4 i4)).setCell ⟨g.heap.size,7,none⟩ (.slice x5 h5 i5))):=C;clear C ao;by_cases ar:tc=0
  ·subst ar;go_wp2;rw[←bh.out];exact⟨⟨k+1,⟨0,tv,ts⟩,x1,x2,x3,x4,x5,h1,i1,h2,i2,h3,i3,h4,i4,h5,i5,F4,by omega,by go_num,⟨am.out,rfl⟩,⟨aD.out,aP.out⟩,aQ,b8,b9,ba,bb,bc,bd,be,bf,bg⟩,mI⟩
  have HD:Hid (Z=errJ tc):=a6.out _ (by rw[HT.out,aY.out (k+1) (by rw[am.out];exact ar),am.out]) ar;have hd:(tc !=0)=true:=by simp[ar]
  have bn:aa w w3:=E.out.below aB aB.size (fun b e=>by rw[e];omega) |>.trans (a2.mono oM)
  have A:Mod (fun b=>b=g.heap.size) W1 w3:=E.out.trans (Mod.of_below a2);replace Y:=A.cell Y (by dsimp only;omega);replace r1:=A.cell r1 (by dsimp only;omega);replace r2:=A.cell r2 (by dsimp only;omega);replace r3:=A.cell r3 (by dsimp only;omega);replace r4:=A.cell r4 (by dsimp only;omega);replace r5:=A.cell r5 (by dsimp only;omega);replace r6:=A.cell r6 (by dsimp only;omega);replace r7:=A.cell r7 (by dsimp only;omega);replace r8:=A.cell r8 (by dsimp only;omega);replace r9:=A.cell r9 (by dsimp only;omega);replace m:=A.cell m (by dsimp only;omega);replace rf:aq w3 (w.heap.size+1):=fun o=>by rw[A.frz10 (a:=⟨w.heap.size+1,o,none⟩) (by dsimp only;omega) (by dsimp only;omega)];exact rf o
  have bo:w.heap.size+1<w3.heap.size:=by have:=A.size;omega
  have az:¬g.heap.size=w.heap.size+1:=oM;have bi:¬w.heap.size+1=g.heap.size:=oM;clear ar am aD aP aQ a4 aC E aM bh b8 b9 ba bb bc bd be bf bg z3 A;go_wp2;refine bodyPost_ret (v:=.agg #[iV tc,iV 0,aj,aj,aj,iV 0,aj,aj,aj,aj,aj]) (by simp[results,Tryz.results13,go_sem,Y,r1,r2,r3,r4,r5,r6,r7,r8,r9,m,rf,bo,az,bi,zt]) rfl (uV HD.out ?_);have a3:w.heap.size≤w.heap.size+1:=oM;have bp:w.heap.size≤g.heap.size:=oM;refine qU ?_ a3 _ _ _ _ _ _ _ _ _ _ _;iterate 8 (refine bset ?_ bp _)
  exact bn
 have bq:k=ne:=oM;subst bq;have HD:Hid (Z=⟨0,d,T.shard⟩):=av.out T (by rw[HT.out,←aZ.out,a4.out.1]) a4.out.2;have k1:¬(k:Int)<(k:Int):=oM;replace Y:=E.out.cell Y (by dsimp only;omega);replace r1:=E.out.cell r1 (by dsimp only;omega);replace r2:=E.out.cell r2 (by dsimp only;omega);replace r3:=E.out.cell r3 (by dsimp only;omega);replace r4:=E.out.cell r4 (by dsimp only;omega);replace r5:=E.out.cell r5 (by dsimp only;omega);replace r6:=E.out.cell r6 (by dsimp only;omega);replace r7:=E.out.cell r7 (by dsimp only;omega);replace r8:=E.out.cell r8 (by dsimp only;omega);replace r9:=E.out.cell r9 (by dsimp only;omega);replace m:=E.out.cell m (by dsimp only;omega);replace y0:=E.out.cell y0 (by dsimp only;omega);replace y1:=E.out.cell y1 (by dsimp only;omega);replace y2:=E.out.cell y2 (by dsimp only;omega);replace y3:=E.out.cell y3 (by dsimp only;omega);replace rf:aq wr (w.heap.size+1):=fun o=>by rw[E.out.frz10 (a:=⟨w.heap.size+1,o,none⟩) (by dsimp only;omega) (by dsimp only;omega)];exact rf o
 have aR:Hid (shdR.O wr (w.heap.size+2) F (.agg #[iV T.shard.idx,.slice p1 m1 q1,.slice p2 m2 q2,.slice p3 m3 q3,.slice p4 m4 q4,.slice p5 m5 q5]) T.shard):=aC.out.1;have bj:Hid (∀b,F b→b<wr.heap.size):=fun b hb=>(shdR.rng aR.out b hb).2
 have D:aa wr wr.drew:=Below.drew (bR _ _);clear a4 aC E aL aK aY a6 av au;go_wp2;refine wp_region_noPanic ?_;refine fB (fun W=>aa wr W∧cI W w.heap.size 0 d.idx∧ah W w.heap.size 1 a0 n0 c0∧ah W w.heap.size 2 b1 n1 d1∧ah W w.heap.size 3 b2 n2 d2∧cI W g.heap.size 0 0∧cI W g.heap.size 1 T.vote∧cI W g.heap.size 2 T.shard.idx∧ah W g.heap.size 3 p1 m1 q1∧ah W g.heap.size 4 p2 m2 q2∧ah W g.heap.size 5 p3 m3 q3∧ah W g.heap.size 6 p4 m4 q4∧ah W g.heap.size 7 p5 m5 q5) 5 kF ⟨D,cK D y0,cK D y1,cK D y2,cK D y3,cK D I,cK D J,cK D L,cK D M,cK D N,cK D R,cK D U,cK D X⟩ (fun hS=>?_);refine tY 0 ?_;refine tY 2 ?_;refine tY 3 ?_;refine uS 1 rfl (fun K hK=>?_);go_simp;refine(HC.out _ (bS aM hS.1)).mono ?_;rintro e' w3 ⟨v3,F6,rfl,o3,ab⟩;obtain⟨g0,h0,g1,h1,g2,h2,rfl⟩:=fFl o3;have aS:=And.intro (bS hS.1 ab) (kS12 ab hS.2);have a5:aa wr w3:=aS.1;have ao:Hid (jrnR.O w3 (w.heap.size+2) F6 (.agg #[iV d.idx,.slice g0 d.start.length h0,.slice g1 d.log.synced.length h1,.slice g2 d.log.loose.length h2]) d):=jrnR.base o3 (by have:=hS.1.size;omega);have br:Hid (∀b,F6 b→¬F b):=fun b h1 h2=>by have:=(jrnR.rng o3 b h1).1;have:=bj.out b h2;have:=hS.1.size;omega
 have aD:Hid (shdR.O w3 (w.heap.size+2) F (.agg #[iV T.shard.idx,.slice p1 m1 q1,.slice p2 m2 q2,.slice p3 m3 q3,.slice p4 m4 q4,.slice p5 m5 q5]) T.shard):=shdR.keep aR.out a5;rw[aG.out.1,aG.out.2.1,aG.out.2.2] at ao ⊢;refine kR11 a5 ?_ Y r1 r2 r3 r4 r5 r6 r7 r8 r9 m;clear Y r1 r2 r3 r4 r5 r6 r7 r8 r9 m;intro Y r1 r2 r3 r4 r5 r6 r7 r8 r9 m;replace rf:=ai a5 oM rf;have bs:aa w w3:=aM.trans (a5.mono oM);refine hK _ _ (fun _=>aS) ?_;clear hK K hS ab o3 HC aR bj;try simp only[jX]
 refine tY 4 ?_;refine uS 5 rfl (fun K hK=>?_);go_simp;refine hK _ _ (fun h=>absurd rfl h) ?_;clear hK K aS y0 y1 y2 y3 I J L M N R U X tf;refine dP ?_;go_wp2;refine bodyPost_ret (v:=.agg #[iV 0,iV d.idx,.slice g0 n0 h0,.slice g1 n1 h1,.slice g2 n2 h2,iV T.shard.idx,.slice p1 m1 q1,.slice p2 m2 q2,.slice p3 m3 q3,.slice p4 m4 q4,.slice p5 m5 q5]) (by simp[results,Tryz.results13,go_sem,Y,r1,r2,r3,r4,r5,r6,r7,r8,r9,m,rf]) rfl ?_;rw[HD.out];exact⟨_,_,rfl,jrnRR.base (fSy jrnRR (fBw (c:=0) ao.out aD.out br.out) oM _ _ _ _ _ _ _ _ _ _ _) oM,qU bs oM _ _ _ _ _ _ _ _ _ _ _⟩
theorem fVt (d:Jrn):(repD d).code=(repT d).code:=by
 unfold repD;split
 ·rename_i h;rw[h]
 rfl
end
section
variable [dQ Bal] [iH Bal] [dQ Logg] [iH Logg] [dQ Jrn] [iH Jrn] [dQ Mrk] [iH Mrk] [dQ Leg] [iH Leg] [dQ Cont] [iH Cont] [dQ Shd] [iH Shd] [dQ JrnR] [iH JrnR] [dQ Evt] [iH Evt] [dQ EvtsR] [iH EvtsR] [dQ EvtR] [iH EvtR] [dQ BytesR] [iH BytesR] [dQ ContR] [iH ContR] [dQ LoggR] [iH LoggR] [dQ RecsR] [iH RecsR] [dQ Rw] [iH Rw] [dQ Ledg] [iH Ledg] [dQ LedgR] [iH LedgR] [dQ OutcR] [iH OutcR] [dQ ShdR] [iH ShdR]
theorem fZ9 (s:Shd) (e:Evt):fAt (doE s e).shard≤12000:=by
 unfold doE;split
 ·
  have h:fCl (tH s e.con)≤2000:=fYj _ _;have h2:fAt (tH s e.con).shard≤fCl (tH s e.con):=by unfold fCl;omega
  omega
 have h:fCl (kZ s e.con.id e.out)≤12000:=fRq _ _ _;have h2:fAt (kZ s e.con.id e.out).shard≤fCl (kZ s e.con.id e.out):=by unfold fCl;omega
 omega
theorem fVh {i:Int} {bs:List Bal} (h:(newD i bs).code=0):bs.length≤18:=by
 obtain⟨_,_,hb⟩|hb:=fSs i bs
 ·
  unfold yJ at hb;split at hb
  ·exact(uK hb).len
  omega
 exact absurd h hb
theorem fAq {d:Jrn} (h:(repT d).code=0):(newD d.idx d.start).code=0∧(evsD d.log).code=0:=by
 by_cases h0:(newD d.idx d.start).code=0
 ·
  refine⟨h0,?_⟩;by_cases h1:(evsD d.log).code=0
  ·exact h1
  exfalso
  unfold repT at h;rw[if_pos h0,if_neg h1] at h;exact h1 h
 exfalso
 unfold repT at h;rw[if_neg h0] at h;exact h0 h
theorem fP0 {l:Logg} (h:(evsD l).code=0):l.synced.length+l.loose.length≤6000:=by
 by_cases h0:logF l=0
 ·
  unfold logF at h0;split at h0
  ·omega
  omega
 exfalso
 unfold evsD at h;rw[if_neg h0] at h;exact absurd h (by decide)
theorem fE0 (c:Int):fCk (errJ c)=0:=rfl
theorem fVa (l:Logg) (b:Bool):(fG5 l b).synced.length+(fG5 l b).loose.length=l.synced.length+l.loose.length:=by
 unfold fG5;split
 ·simp
 rfl
theorem fWn (d:Jrn) (e:Evt) (b:Bool):fCk (wrtD d e b)≤20000:=by
 unfold wrtD;split
 ·
  rename_i h;split
  ·
   split
   ·
    split
    ·rw[fE0];omega
    split
    ·
     rename_i g;have a:=fVh (fAq h).1;have j:=fZ9 (repT d).shard e;have k:=fVa (uM d.log e) b;have l:(uM d.log e).synced.length+(uM d.log e).loose.length≤6000:=by
      unfold logF at g;split at g
      ·omega
      omega
     show qZ d.start+gJ (fG5 (uM d.log e) b)+fAt (doE (repT d).shard e).shard≤_;unfold qZ gJ kM;omega
    rw[fE0];omega
   rw[fE0];omega
  rw[fE0];omega
 rw[fE0];omega
end
section
variable [dQ Leg] [iH Leg] [dQ Cont] [iH Cont] [dQ Evt] [iH Evt] [dQ EvtR] [iH EvtR] [dQ BytesR] [iH BytesR] [dQ ContR] [iH ContR] [dQ Logg] [iH Logg] [dQ LoggR] [iH LoggR] [dQ RecsR] [iH RecsR] [dQ Mrk] [iH Mrk] [dQ Bal] [iH Bal]
theorem fM6 (Y:World) {o:Oper} {a:Act} {K:Act→World→Prop} {Q:Exit→Act→World→Prop} (hgd:o.guard=none) (s x:Operand)
  (ho:o.op =.call {callee:=.builtin .append,args:=#[s,x],argTypes:=#[23,23]})
  (base:Nat) (v:Value) (F1:Nat→Prop) (xs:List Byte) (hs:a.eval s=v) (u:Value) (ys:List Byte) (hx:a.eval x=u)
  (hown:bytesR.O Y base F1 v xs) (hsrc:gP Y u ys.length (fT ys)) (hlen:xs.length+ys.length≤1073741824) (hbase:base≤Y.heap.size)
  (h:∀v' w' F',bytesR.O w' base F' v' (xs++ys)→Mod F1 Y w'→(∀b,F' b→F1 b∨(Y.heap.size≤b∧b<w'.heap.size))→K (a.put o.dst v') w'):Oper.wp Tryz.prog o a Y K Q:=by
 obtain⟨j,k,d,e,g⟩:=info_parts infoByte;refine fGs Y hgd s x 23 ho 5 j _ 1 1 Tryz.underlying23 k d e g rfl (by decide) (by decide) base v F1 xs.length (fT xs) hs u ys.length (fT ys) hx hown hsrc (by rw[qO];omega) (xU ys) hlen hbase ?_;intro v' w' h1 h2 l;refine h v' w' _ ⟨?_,rfl⟩ h2 l;rw[List.length_append,uZ];exact h1.1
theorem fYs (Y:World) (base:Nat) (hb:base≤Y.heap.size) (q:Int) (b:Byte) (hq:q=(b.val:Int)):bytesR.O (Y.alloc (.cells #[.int .u8 q] 5)) base (fun b=>b=Y.heap.size) (.slice (some ⟨Y.heap.size,0,none⟩) 1 1) [b]:=by
 subst hq;exact⟨World.ownsRow_lit (base:=base) (e:=5) (size:=1) Y #[.int .u8 (b.val:Int)] 1 hb (by decide) rfl,by funext b;simp[Value.ownBlock,eq_comm]⟩
def fNt:Nat→List Nat
 | 5=>[0]
 | 10=>[5]
 | _=>[]
def fLg (base:Nat) (id o:Int):Nat→(Nat→Value)→(Nat→Prop)→World→Prop
 | 0,y,F,w=>(∃a c,y 10 =.slice a 1 c)∧bytesR.O w base F (y 10) [toB 2]
 | 4,y,F,w=>(∃a c,y 14 =.slice a 8 c)∧bytesR.O w base F (y 14) (hiB id 8)
 | 5,y,F,w=>(∃a c,y 15 =.slice a 9 c)∧bytesR.O w base F (y 15) ([toB 2]++hiB id 8)
 | 9,y,F,w=>(∃a c,y 19 =.slice a 1 c)∧bytesR.O w base F (y 19) [toB o]
 | 10,y,F,w=>(∃a c,y 20 =.slice a 10 c)∧bytesR.O w base F (y 20) ([toB 2]++hiB id 8++[toB o])
 | _,_,_,_=>True
theorem fU6 (x:Value) (d:Evt) (w:World) (hx:evtR.V w x d) (h8:d.con.legs.length≤8) :
  cL 49 #[x] w fun e w'=>∃v F,e =.returned v∧bytesR.O w' w.heap.size F v (evtB d)∧aa w w':=by
 obtain⟨a,c,rfl,C⟩:=pF hx;obtain⟨b,⟨id,ls⟩,o⟩:=d;dsimp only at C h8 ⊢;clear hx;cases b
 ·
  have HD:Hid (evtB ⟨false,⟨id,ls⟩,o⟩=[toB 2]++hiB id 8++[toB o]):=rfl;have HP:Hid (bW w fun W=>cL 95 #[iV id] W fun e w'=>∃v F,e =.returned v∧bytesR.O w' W.heap.size F v (hiB id 8)∧aa W w'):=fun W _=>fS2 id W
  have a0:Hid (IntKind.u8.wrap o=((toB o).val:Int)):=fGt _;generalize evtB ⟨false,⟨id,ls⟩,o⟩=R at *;generalize ls.length=n at *;clear C h8;go_enter Tryz.func49,Tryz.ntmps49;go_wp2;obtain⟨r,j⟩:∃r,r=w.alloc (.cells #[.bool false,iV id,.slice a n c,iV o] 59):=⟨_,rfl⟩
  have y0:cW r w.heap.size 0 (.bool false):=cQ j;have y1:cI r w.heap.size 1 id:=cQ j;have y2:ah r w.heap.size 2 a n c:=cQ j;have y3:cI r w.heap.size 3 o:=cQ j;have L:aa w r:=by rw[j];exact hE
  have zq:w.heap.size<r.heap.size:=by rw[j];simp
  rw[←j];clear j;refine wp_region_noPanic ?_;refine fB (fun W=>aa r W∧cW W w.heap.size 0 (.bool false)∧cI W w.heap.size 1 id∧ah W w.heap.size 2 a n c∧cI W w.heap.size 3 o) 11 kF ⟨hE,cK hE y0,cK hE y1,cK hE y2,cK hE y3⟩ (fun hS=>?_);refine tY 1 ?_;refine tY 2 ?_;refine tY 3 ?_;refine tY 6 ?_;refine tY 7 ?_;refine tY 8 ?_;have M:aa r r.drew:=Below.drew (bR _ _);generalize r.drew=N at *;have a4:=M.size;have a5:w.heap.size<N.heap.size:=oM;refine uE [(0,10),(4,14),(5,15),(9,19),(10,20)] fNt (fLg N.heap.size id o) kF hS ?_ ?_ ?_ ?_
  ·
   intro F W W' h A hF;have B:¬F w.heap.size:=fun e=>by have:=hF _ e;omega
   exact⟨A.below h.1 h.1.size (fun b hb=>by have:=hF b hb;omega),A.cell h.2.1 B,A.cell h.2.2.1 B,A.cell h.2.2.2.1 B,A.cell h.2.2.2.2 B⟩
  ·
   intro p T;simp only[List.mem_cons,List.not_mem_nil,or_false] at T;rcases T with rfl|rfl|rfl|rfl|rfl
   all_goals
    intro y y' F F' W W' h hF A E a6 e he;simp only[fLg] at h ⊢;rw[e];exact⟨h.1,bytesR.mod h.2 A (fun b hb hf=>E b hf hb)⟩
  ·
   intro p T;simp only[List.mem_cons,List.not_mem_nil,or_false] at T;rcases T with rfl|rfl|rfl|rfl|rfl
   all_goals
    refine⟨_,rfl,rfl,?_⟩;intro y W Φ G l z K m
   ·clear z;refine⟨?_⟩;simp only[over,jX,lZ] at m ⊢;go_simp;refine m _ _ (fun b=>b=W.heap.size) (Mod.of_below hE) (fun b hb=>.inr (by rw[hb];simp)) ?_;simp only[fLg,updV];exact⟨⟨_,_,rfl⟩,fYs W _ l.size _ _ rfl⟩
   ·clear z;refine⟨?_⟩;simp only[over,jX,lZ] at m ⊢;go_simp;refine(HP.out W (bS L G.1)).mono ?_;rintro e w' ⟨v,F,rfl,o4,a1⟩;refine m _ _ F (Mod.of_below a1) (fun b hb=>.inr (bytesR.rng o4 b hb)) ?_;simp only[fLg,updV];obtain⟨U,X,D⟩:=fF (bytesR.ofO o4);rw[gH] at D;exact⟨⟨U,X,by simpa using D⟩,bytesR.base (by simpa using o4) l.size⟩
   ·
    have g0:=(z (0,10) (by simp) kF (.inl (by simp[fNt]))).2.2;have g4:=(z (4,14) (by simp) kF (.inr (by decide))).2.2;clear z;refine⟨?_⟩;simp only[over,jX,lZ] at m ⊢;refine kW rfl ?_;refine fM6 W ?hg1 (.tmp 10) (.tmp 14) ?ho1 N.heap.size (y 10) (Φ 0) [toB 2] ?hs1 (y 14) (hiB id 8) ?hx1 g0 (kN (bytesR.ofO g4)) (by rw[gH];simp) l.size ?_
    case hg1=>rfl
    case ho1=>rfl
    case hs1=>rfl
    case hx1=>rfl
    intro v' w' F' Y A C;refine m _ _ F' (A.mono (fun b hb=>⟨0,by simp[fNt],hb⟩)) (fun b hb=>(C b hb).imp (fun h=>⟨0,by simp[fNt],h⟩) (fun h=>h)) ?_;simp only[fLg,updV];obtain⟨U,X,D⟩:=fF (bytesR.ofO Y);rw[List.length_append,gH] at D;exact⟨⟨U,X,by simpa using D⟩,by simpa using Y⟩
   ·clear z;refine⟨?_⟩;simp only[over,jX,lZ] at m ⊢;go_simp;refine m _ _ (fun b=>b=W.heap.size) (Mod.of_below hE) (fun b hb=>.inr (by rw[hb];simp)) ?_;simp only[fLg,updV];exact⟨⟨_,_,rfl⟩,fYs W _ l.size _ _ a0.out⟩
   have g5:=(z (5,15) (by simp) kF (.inl (by simp[fNt]))).2.2;have g9:=(z (9,19) (by simp) kF (.inr (by decide))).2.2;clear z;refine⟨?_⟩;simp only[over,jX,lZ] at m ⊢;refine kW rfl ?_;refine fM6 W ?hg1 (.tmp 15) (.tmp 19) ?ho1 N.heap.size (y 15) (Φ 5) ([toB 2]++hiB id 8) ?hs1 (y 19) [toB o] ?hx1 g5 (kN (bytesR.ofO g9)) (by rw[List.length_append,gH];simp) l.size ?_
   case hg1=>rfl
   case ho1=>rfl
   case hs1=>rfl
   case hx1=>rfl
   intro v' w' F' Y A C;refine m _ _ F' (A.mono (fun b hb=>⟨5,by simp[fNt],hb⟩)) (fun b hb=>(C b hb).imp (fun h=>⟨5,by simp[fNt],h⟩) (fun h=>h)) ?_;simp only[fLg,updV];obtain⟨U,X,D⟩:=fF (bytesR.ofO Y);rw[List.length_append,List.length_append,gH] at D;exact⟨⟨U,X,by simpa using D⟩,by simpa using Y⟩
  refine⟨_,rfl,?_⟩;intro y W Φ G l z E K m;have g:=(z (10,20) (by simp) (by decide)).2;clear z E;simp only[fLg] at g;obtain⟨⟨q,s,e⟩,H⟩:=g;rw[e] at H;refine⟨?_⟩;simp only[over,jX,lZ];simp only[e];go_simp;refine m _ _ ?_;clear m K e;refine NoPanic.normal ?_;have HO:Hid (bytesR.O W N.heap.size (Φ 10) (.slice q 10 s) ([toB 2]++hiB id 8++[toB o])):=H;have Z:aa w W:=bS L (bS M l);clear H G hS l;go_wp2;go_ret;exact⟨_,_,rfl,by rw[HD.out];exact bytesR.base HO.out oM,Z⟩
 have HD:Hid (evtB ⟨true,⟨id,ls⟩,o⟩=[toB 1]++kP id ls):=rfl;have HC:Hid (bW w fun W=>cL 94 #[.agg #[iV id,.slice a ls.length c]] W fun e w'=>∃v F,e =.returned v∧bytesR.O w' W.heap.size F v (kP id ls)∧aa W w'):=fun W hW=>fG4 id _ ls W (kE C hW) h8
 have a7:(kP id ls).length≤96:=by rw[rT];omega
 generalize evtB ⟨true,⟨id,ls⟩,o⟩=R at *;generalize kP id ls=cb at *;clear C h8;generalize ls.length=n at *;go_enter Tryz.func49,Tryz.ntmps49;go_wp2_with fail;refine(HC.out _ hE).mono ?_;rintro e w1 ⟨v1,F1,rfl,o1,I⟩;have J:aa w w1:=hE;have r0:=World.ownsRow_lit (base:=w.heap.size+1) (e:=5) (size:=1) (w.alloc (.cells #[.bool true,iV id,.slice a n c,iV o] 59)) #[.int .u8 1] 1 (by simp) (by unfold maxLen;omega) rfl;have r1:World.ownsRow w1 (w.heap.size+1) 5 1 (.slice (some ⟨w.heap.size+1,0,none⟩) 1 1) [toB 1].length (fT [toB 1]):=by
  have r2:=fO r0 I;simp only[World.size_alloc] at r2;exact r2
 clear r0;have t1:=kN (bytesR.ofO o1);have hz:w.heap.size+1≤w1.heap.size:=by have:=I.size;simp at this;omega
 obtain⟨p1,q1,rfl⟩:=fF (bytesR.ofO o1);clear o1 I HC;go_wp2_with (at_builtin;refine qL _ rfl _ _ rfl (w.heap.size+1) _ [toB 1] rfl _ cb rfl r1 t1 (by simp;omega) hz ?_);intro v' w2 a2 hg hB;have a3:aa w w2:=J.grown hg J.size (fun k hk=>by have:=r1.lt k hk;omega);clear hg hB r1 t1 J;go_wp2;go_ret;exact⟨_,_,rfl,by rw[HD.out];exact⟨qI a2 oM,rfl⟩,a3⟩
variable [dQ Jrn] [iH Jrn] [dQ Shd] [iH Shd] [dQ JrnR] [iH JrnR] [dQ EvtsR] [iH EvtsR] [dQ Rw] [iH Rw] [dQ Ledg] [iH Ledg] [dQ LedgR] [iH LedgR] [dQ OutcR] [iH OutcR] [dQ ShdR] [iH ShdR]
theorem gAw {d:Jrn} {e:Evt} {b:Bool} {c:Int} (h:(repT d).code=c) (hc:¬c=0):wrtD d e b=errJ c:=by unfold wrtD;rw[if_neg (by rw[h];exact hc),h]
theorem gAx {d:Jrn} {e:Evt} {b:Bool} (h:(repT d).code=0) (h1:¬evtF e=0):wrtD d e b=errJ (evtF e):=by unfold wrtD;rw[if_pos h,if_neg h1]
theorem gAy {d:Jrn} {e:Evt} {b:Bool} {s:Shd} {c:Int} (h:(repT d).code=0) (h1:evtF e=0) (hs:(repT d).shard=s) (h2:(doE s e).code=c) (hc:¬c=0):wrtD d e b=errJ c:=by
 subst hs;unfold wrtD;rw[if_pos h,if_pos h1,if_neg (by rw[h2];exact hc),h2]
theorem gAz {d:Jrn} {e:Evt} {b:Bool} {s:Shd} (h:(repT d).code=0) (h1:evtF e=0) (hs:(repT d).shard=s) (h2:(doE s e).code=0) (h3:60≤(evsD d.log).evts.length):wrtD d e b=errJ 2:=by
 subst hs;unfold wrtD;rw[if_pos h,if_pos h1,if_pos h2,if_pos h3]
theorem gA0 {d:Jrn} {e:Evt} {b:Bool} {s:Shd} (h:(repT d).code=0) (h1:evtF e=0) (hs:(repT d).shard=s) (h2:(doE s e).code=0) (h3:¬60≤(evsD d.log).evts.length) (h4:¬logF (uM d.log e)=0):wrtD d e b=errJ 2:=by
 subst hs;unfold wrtD;rw[if_pos h,if_pos h1,if_pos h2,if_neg h3,if_neg h4]
theorem gA1 {d:Jrn} {e:Evt} {b:Bool} {s t:Shd} (h:(repT d).code=0) (h1:evtF e=0) (hs:(repT d).shard=s) (h2:(doE s e).code=0) (ht:(doE s e).shard=t) (h3:¬60≤(evsD d.log).evts.length) (h4:logF (uM d.log e)=0):wrtD d e b=⟨0,⟨d.idx,d.start,fG5 (uM d.log e) b⟩,t⟩:=by
 subst hs ht;unfold wrtD;rw[if_pos h,if_pos h1,if_pos h2,if_neg h3,if_pos h4]
theorem gAp {l:Logg} (h:¬logF l=0):logF l=2:=by
 unfold logF at h ⊢;split
 ·rfl
 rename_i h1;rw[if_neg h1] at h;exact absurd rfl h
theorem fBr {e:Evt} (h:evtF e=0):e.con.legs.length≤8∧(evtB e).length≤500:=by
 exact⟨fXl h,by have:=(fJl h).2;omega⟩
end
end Go.Proofs.YtpibfdebfacooaaGreat

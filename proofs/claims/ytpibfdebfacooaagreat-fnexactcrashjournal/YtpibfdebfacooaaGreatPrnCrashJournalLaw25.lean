import Derived.Test.YtpibfdebfacooaaGreatPrnCrashJournalLaw24
set_option maxHeartbeats 8000000
set_option maxRecDepth 20000
set_option linter.unusedSimpArgs false
set_option linter.unusedVariables false
set_option linter.unusedSectionVars false
namespace Go.Proofs.YtpibfdebfacooaaGreat
open Go.RowKit
attribute [local go_sem ↓] Go.wp_at_zero Go.wp_at_succ
section
variable [dQ Bal] [iH Bal] [dQ Logg] [iH Logg] [dQ Jrn] [iH Jrn] [dQ Mrk] [iH Mrk] [dQ Leg] [iH Leg] [dQ Cont] [iH Cont] [dQ Shd] [iH Shd] [dQ JrnR] [iH JrnR] [dQ Evt] [iH Evt] [dQ EvtsR] [iH EvtsR] [dQ EvtR] [iH EvtR] [dQ BytesR] [iH BytesR] [dQ ContR] [iH ContR] [dQ LoggR] [iH LoggR] [dQ RecsR] [iH RecsR] [dQ Rw] [iH Rw] [dQ Ledg] [iH Ledg] [dQ LedgR] [iH LedgR] [dQ OutcR] [iH OutcR] [dQ ShdR] [iH ShdR]
def fVh:Nat→List Nat
 | 5=>[2]
 | _=>[]
def fCn (base:Nat) (d:Jrn):Nat→(Nat→Value)→(Nat→Prop)→World→Prop
 | 2,y,F,w=>balsR.O w base F (y 5) []
 | 5,y,F,w=>(∃a c,y 8 =.slice a d.start.length c)∧balsR.O w base F (y 8) d.start
 | 8,y,F,w=>(∃a c a' c',y 11 =.agg #[.slice a d.log.synced.length c,.slice a' d.log.loose.length c'])∧loggR.O w base F (y 11) d.log
 | 9,y,_,_=>∃a c p q p' q',y 8 =.slice a d.start.length c∧y 11 =.agg #[.slice p d.log.synced.length q,.slice p' d.log.loose.length q']∧y 12 =.agg #[.int .i64 d.idx,.slice a d.start.length c,.slice p d.log.synced.length q,.slice p' d.log.loose.length q']
 | _,_,_,_=>True
theorem fSz {w:World} {base:Nat} {F1 F2:Nat→Prop} {i:Int} {u0 u1 u2:Value} {b:List Bal} {l:Logg} (h1:balsR.O w base F1 u0 b) (h2:loggR.O w base F2 (.agg #[u1,u2]) l) (hd:∀k,F1 k→¬F2 k):jrnR.O w base (fun k=>F1 k∨F2 k) (.agg #[.int .i64 i,u0,u1,u2]) ⟨i,b,l⟩:=
 ⟨u0,u1,u2,F1,F2,rfl,h1,h2,hd,fun _=>Iff.rfl⟩
theorem fWa {α:Type} (R:Rep α) {W:World} {base B:Nat} {F:Nat→Prop} {v:Value} {x:α} (h:R.O W base F v x) (hB:B<base) (u0 u1 u2 u3:Value) :
  R.O ((((W.setCell ⟨B,0,none⟩ u0).setCell ⟨B,1,none⟩ u1).setCell ⟨B,2,none⟩ u2).setCell ⟨B,3,none⟩ u3) base F v x:=R.set (R.set (R.set (R.set h _ hB) _ hB) _ hB) _ hB
theorem fQz {w:World} {base:Nat} {F:Nat→Prop} {v:Value} {l:Logg} (h:loggR.O w base F v l):∃a c a' c',v =.agg #[.slice a l.synced.length c,.slice a' l.loose.length c']:=by
 obtain⟨a1,a2,c1,c2,rfl⟩:=mU (loggR.ofO h);exact⟨_,_,_,_,rfl⟩
theorem fKs (x:Value) (d:Jrn) (w:World) (hx:jrnR.V w x d) (hn:mP d≤1048576) :
  Calls Tryz.prog 33 #[x] w fun e w'=>∃v F,e =.returned v∧jrnR.O w' w.heap.size F v d∧Below w.heap.size w w':=by
 obtain⟨a0,c0,a1,c1,a2,c2,rfl,hbs,hlg⟩:=qI hx;have hn0:d.start.length≤1048576:=by unfold mP pM at hn;omega
 have hnl:gM d.log≤1048576:=by unfold mP at hn;omega
 have HA:Hid (bW w fun W=>gU W (.slice a0 d.start.length c0) d.start.length (kX d.start)):=fun W hW=>rR (balsR.below hbs hW)
 have HC:Hid (bW w fun W=>Calls Tryz.prog 66 #[.agg #[.slice a1 d.log.synced.length c1,.slice a2 d.log.loose.length c2]] W fun e w'=>∃v F,e =.returned v∧loggR.O w' W.heap.size F v d.log∧Below W.heap.size W w'):=fun W hW=>fQu _ d.log W (loggR.below hlg hW) hnl
 have HLn:Hid (d.start.length≤1048576):=hn0;clear hbs hlg hn hn0 hnl hx;have HG:Hid (fCn=fCn):=rfl;obtain⟨n0,hn0⟩:∃n0,d.start.length=n0:=⟨_,rfl⟩
 obtain⟨n1,hn1⟩:∃n1,d.log.synced.length=n1:=⟨_,rfl⟩
 obtain⟨n2,hn2⟩:∃n2,d.log.loose.length=n2:=⟨_,rfl⟩
 have HN:Hid (d.start.length=n0∧d.log.synced.length=n1∧d.log.loose.length=n2):=⟨hn0,hn1,hn2⟩;rw[hn0] at HA;rw[hn1,hn2] at HC;rw[hn0,hn1,hn2];clear hn0 hn1 hn2;go_enter Tryz.func33,Tryz.ntmps33;go_wp2;obtain⟨wq,hwq⟩:∃wq,wq=(w.alloc (.cells #[.int .i64 d.idx,.slice a0 n0 c0,.slice a1 n1 c1,.slice a2 n2 c2] 33)).alloc (.cells #[.int .i64 0,.slice none 0 0,.slice none 0 0,.slice none 0 0] 33):=⟨_,rfl⟩
 have y0:wq.cell? ⟨w.heap.size,0,none⟩=some (.int .i64 d.idx):=by rw[hwq];simp[go_sem]
 have y1:wq.cell? ⟨w.heap.size,1,none⟩=some (.slice a0 n0 c0):=by rw[hwq];simp[go_sem]
 have y2:wq.cell? ⟨w.heap.size,2,none⟩=some (.slice a1 n1 c1):=by rw[hwq];simp[go_sem]
 have y3:wq.cell? ⟨w.heap.size,3,none⟩=some (.slice a2 n2 c2):=by rw[hwq];simp[go_sem]
 have r0:wq.cell? ⟨w.heap.size+1,0,none⟩=some (.int .i64 0):=by rw[hwq];simp[go_sem]
 have r1:wq.cell? ⟨w.heap.size+1,1,none⟩=some (.slice none 0 0):=by rw[hwq];simp[go_sem]
 have r2:wq.cell? ⟨w.heap.size+1,2,none⟩=some (.slice none 0 0):=by rw[hwq];simp[go_sem]
 have r3:wq.cell? ⟨w.heap.size+1,3,none⟩=some (.slice none 0 0):=by rw[hwq];simp[go_sem]
 have rf:∀o,wq.frozen? ⟨w.heap.size+1,o,none⟩=false:=fun o=>by rw[hwq];simp[go_sem]
 have hBq:Below w.heap.size w wq:=by rw[hwq];exact qBq
 have zq:w.heap.size+1<wq.heap.size:=by rw[hwq];simp
 rw[←hwq];clear hwq;refine wp_region_noPanic ?_;refine fB (fun W=>Below wq.heap.size wq W∧W.cell? ⟨w.heap.size,0,none⟩=some (.int .i64 d.idx)∧W.cell? ⟨w.heap.size,1,none⟩=some (.slice a0 n0 c0)∧W.cell? ⟨w.heap.size,2,none⟩=some (.slice a1 n1 c1)∧W.cell? ⟨w.heap.size,3,none⟩=some (.slice a2 n2 c2)) 10 kF ⟨qBq,cK qBq y0,cK qBq y1,cK qBq y2,cK qBq y3⟩ (fun hS=>?_);refine tY 0 ?_;refine tY 1 ?_;refine tY 3 ?_;refine tY 4 ?_;refine tY 6 ?_;refine tY 7 ?_;have hb0:Below wq.heap.size wq wq.drew:=Below.drew (bR _ _);generalize wq.drew=W0 at *;have hs10:=hb0.size;have hz0:w.heap.size+1<W0.heap.size:=oM;refine fAd [(2,5),(5,8),(8,11),(9,12)] fVh (fCn W0.heap.size d) kF hS ?_ ?_ ?_ ?_
 ·
  intro F W W' h hm hF;have hne:¬F w.heap.size:=fun e=>by have:=hF _ e;omega
  exact⟨hm.below h.1 h.1.size (fun b hb=>by have:=hF b hb;omega),hm.cell h.2.1 hne,hm.cell h.2.2.1 hne,hm.cell h.2.2.2.1 hne,hm.cell h.2.2.2.2 hne⟩
 ·
  intro p hp;simp only[List.mem_cons,List.not_mem_nil,or_false] at hp;rcases hp with rfl|rfl|rfl|rfl
  all_goals
   intro y y' F F' W W' h hF hm hap hF' e he
  ·simp only[fCn] at h ⊢;rw[e];exact balsR.mod h hm (fun b hb hf=>hap b hf hb)
  ·simp only[fCn] at h ⊢;rw[e];exact⟨h.1,balsR.mod h.2 hm (fun b hb hf=>hap b hf hb)⟩
  ·simp only[fCn] at h ⊢;rw[e];exact⟨h.1,loggR.mod h.2 hm (fun b hb hf=>hap b hf hb)⟩
  have e1:=he (5,8) (by simp) kF;have e2:=he (8,11) (by simp) kF;simp only[fCn] at h ⊢;rw[e,e1,e2];exact h
 ·
  intro p hp;simp only[List.mem_cons,List.not_mem_nil,or_false] at hp;rcases hp with rfl|rfl|rfl|rfl
  all_goals
   refine⟨_,rfl,rfl,?_⟩;intro y W Φ hSW hBW hd K hK
  ·clear hd;refine⟨?_⟩;simp only[over,jX,lZ] at hK ⊢;go_simp;refine hK _ _ (fun b=>b=W.heap.size) (Mod.of_below qBq) (fun b hb=>.inr (by rw[hb];simp)) ?_;simp only[fCn,updV];exact fV9 W _ hBW.size
  ·
   have g0:=(hd (2,5) (by simp) kF (.inl (by simp[fVh]))).2;clear hd;simp only[fCn] at g0;refine⟨?_⟩;simp only[over,jX,lZ] at hK ⊢;refine mR rfl ?_;refine fLn W ?hg1 (.tmp 5) (.tmp 7) ?ho1 W0.heap.size (y 5) (Φ 2) [] ?hs1 (.slice a0 n0 c0) d.start ?hx1 g0 (by have:=HA.out W (bS hBq hSW.1);rw[←HN.out.1] at this ⊢;exact this) (by have:=HLn.out;simp;omega) hBW.size ?_
   case hg1=>rfl
   case ho1=>rfl
   case hs1=>rfl
   case hx1=>rfl
   intro v' w' F' hO hm hl;simp only[List.nil_append] at hO;refine hK _ _ F' (hm.mono (fun b hb=>⟨2,by simp[fVh],hb⟩)) (fun b hb=>(hl b hb).imp (fun h=>⟨2,by simp[fVh],h⟩) (fun h=>h)) ?_;simp only[fCn,updV];obtain⟨av,cv,hv⟩:=fP (balsR.ofO hO);exact⟨⟨av,cv,by simpa using hv⟩,by simpa using hO⟩
  ·clear hd;refine⟨?_⟩;simp only[over,jX,lZ] at hK ⊢;go_simp;refine(HC.out W (bS hBq hSW.1)).mono ?_;rintro e w' ⟨v,F,rfl,o4,hb4⟩;refine hK _ _ F (Mod.of_below hb4) (fun b hb=>.inr (loggR.rng o4 b hb)) ?_;simp only[fCn,updV];obtain⟨p,q,p',q',hv⟩:=fQz o4;exact⟨⟨p,q,p',q',by simpa using hv⟩,loggR.base (by simpa using o4) hBW.size⟩
  have g1:=(hd (5,8) (by simp) kF (.inr (by decide))).2.1;have g2:=(hd (8,11) (by simp) kF (.inr (by decide))).2.1;clear hd;obtain⟨a,c,e1⟩:=g1;obtain⟨p,q,p',q',e2⟩:=g2;refine⟨?_⟩;simp only[over,jX,lZ] at hK ⊢;simp only[e1,e2] at hK ⊢;go_simp;refine hK _ _ (fun _=>False) (Mod.refl _ _) (fun b hb=>hb.elim) ?_;simp only[fCn,updV];exact⟨a,c,p,q,p',q',by simpa using e1,by simpa using e2,by simp⟩
 refine⟨_,rfl,?_⟩;intro y W Φ hSW hBW hd hap K hK;have g1:=hd (5,8) (by simp) (by decide);have g2:=hd (8,11) (by simp) (by decide);have g3:=(hd (9,12) (by simp) (by decide)).2;have p12:=hap (5,8) (by simp) (8,11) (by simp) (by simp) (by decide) (by decide);clear hd hap;simp only[fCn] at g1 g2 g3;obtain⟨a,c,p,q,p',q',e1,e2,e3⟩:=g3;obtain⟨i1,_,o1⟩:=g1;obtain⟨i2,_,o2⟩:=g2;rw[e1] at o1;rw[e2] at o2;have hBW1:Below wq.heap.size wq W:=bS hb0 hBW;refine⟨?_⟩;simp only[over,jX,lZ];simp only[e3];have HO:Hid (jrnR.O W (w.heap.size+2) (fun k=>Φ 5 k ∨ Φ 8 k) (.agg #[.int .i64 d.idx,.slice a d.start.length c,.slice p d.log.synced.length q,.slice p' d.log.loose.length q']) d):=jrnR.base (fSz (i:=d.idx) o1 o2 p12) oM;rw[HN.out.1,HN.out.2.1,HN.out.2.2] at HO ⊢;clear e1 e2 e3 i1 i2 o1 o2 p12 hSW hS;replace r0:=cK hBW1 r0;replace r1:=cK hBW1 r1;replace r2:=cK hBW1 r2;replace r3:=cK hBW1 r3;replace rf:∀o,W.frozen? ⟨w.heap.size+1,o,none⟩=false:=fun o=>by rw[(bcell hBW1).2 _ _ zq];exact rf o
 have hBw:Below w.heap.size w W:=bS hBq hBW1;clear hBW hBW1;go_simp;refine hK _ _ ?_;clear hK K;refine NoPanic.normal ?_;go_wp2;refine bodyPost_ret (v:=.agg #[.int .i64 d.idx,.slice a n0 c,.slice p n1 q,.slice p' n2 q']) (by simp[results,Tryz.results33,go_sem,r0,r1,r2,r3,rf]) rfl ?_;have hbR:w.heap.size≤w.heap.size+1:=oM;exact⟨_,_,rfl,jrnR.base (fWa jrnR HO.out oM _ _ _ _) oM,bset (p:=⟨w.heap.size+1,3,none⟩) (bset (p:=⟨w.heap.size+1,2,none⟩) (bset (p:=⟨w.heap.size+1,1,none⟩) (bset (p:=⟨w.heap.size+1,0,none⟩) hBw hbR _) hbR _) hbR _) hbR _⟩
def yE (d:Jrn) (a1 a2:Option Addr) (c1 c2:Nat):Nat→(Nat→Value)→Nat→Nat→World→Prop
 | 4,y,lo,hi,w=>(∃a c,y 7 =.slice a d.start.length c)∧∃F,balsR.O w lo F (y 7) d.start∧∀b,F b→b<hi
 | 8,y,_,_,w=>∃B,y 11 =.slice (some ⟨B,0,none⟩) 1 1∧w.cell? ⟨B,0,none⟩=some (.slice a1 d.log.synced.length c1)
 | 9,y,lo,hi,w=>(∃a c,y 12 =.slice a d.log.synced.length c)∧∃F,bytesR.O w lo F (y 12) d.log.synced∧∀b,F b→b<hi
 | 13,y,_,_,w=>∃B,y 16 =.slice (some ⟨B,0,none⟩) 1 1∧w.cell? ⟨B,0,none⟩=some (.slice a2 d.log.loose.length c2)
 | 14,y,lo,hi,w=>(∃a c,y 17 =.slice a d.log.loose.length c)∧∃F,bytesR.O w lo F (y 17) d.log.loose∧∀b,F b→b<hi
 | 15,y,_,_,_=>∃p q p' q',y 12 =.slice p d.log.synced.length q∧y 17 =.slice p' d.log.loose.length q'∧y 18 =.agg #[.slice p d.log.synced.length q,.slice p' d.log.loose.length q']
 | 16,y,_,_,_=>∃a c p q p' q',y 7 =.slice a d.start.length c∧y 18 =.agg #[.slice p d.log.synced.length q,.slice p' d.log.loose.length q']∧y 19 =.agg #[.int .i64 d.idx,.slice a d.start.length c,.slice p d.log.synced.length q,.slice p' d.log.loose.length q']
 | _,_,_,_,_=>True
theorem fPt {w:World} {g:Nat} {u1:Value} {d1:List Byte} (h1:w.cell? ⟨g,0,none⟩=some u1) (v1:bytesR.V w u1 d1):bytessR.V w (.slice (some ⟨g,0,none⟩) 1 1) [d1]:=by
 refine⟨_,_,rfl,by simp,by unfold maxLen;omega,fun i hi=>?_⟩;match i,hi with
 | 0,_=>exact⟨g,0,u1,rfl,rfl,fIf h1,v1⟩
theorem fG7 {w:World} {g:Nat} {u:Value} {d:List Byte} (h1:w.cell? ⟨g,0,none⟩=some u) (v1:bytesR.V w u d) (hn:d.length≤1048576) :
  Calls Tryz.prog 72 #[.slice (some ⟨g,0,none⟩) 1 1] w fun e w'=>∃v F,e =.returned v∧bytesR.O w' w.heap.size F v d∧Below w.heap.size w w':=by
 have h:=zZ _ [d] w (fPt h1 v1) (by simp;omega);rw[show [d].flatten=d by simp] at h;exact h
theorem fL2 (x:Value) (d:Jrn) (w:World) (hx:jrnR.V w x d) (hn:mP d≤1048576) :
  Calls Tryz.prog 37 #[x] w fun e w'=>∃v F,e =.returned v∧jrnR.O w' w.heap.size F v d∧Below w.heap.size w w':=by
 obtain⟨a0,c0,a1,c1,a2,c2,rfl,hbs,hlg⟩:=qI hx;have hn0:d.start.length≤1048576:=by unfold mP pM at hn;omega
 have hnl:gM d.log≤1048576:=by unfold mP at hn;omega
 have HA:Hid (bW w fun W=>gU W (.slice a0 d.start.length c0) d.start.length (kX d.start)):=fun W hW=>rR (balsR.below hbs hW)
 obtain⟨t1,t2,et,hv1,hv2⟩:=hlg;simp only[Value.agg.injEq,Array.mk.injEq,List.cons.injEq,and_true] at et;obtain⟨rfl,rfl⟩:=et;have HJ1:Hid (∀W B,Below w.heap.size w W→W.cell? ⟨B,0,none⟩=some (.slice a1 d.log.synced.length c1)→Calls Tryz.prog 72 #[.slice (some ⟨B,0,none⟩) 1 1] W fun e w'=>∃v F,e =.returned v∧bytesR.O w' W.heap.size F v d.log.synced∧Below W.heap.size W w'):=fun W B hW h=>fG7 h (bytesR.below hv1 hW) (by unfold gM kK at hnl;omega)
 have HJ2:Hid (∀W B,Below w.heap.size w W→W.cell? ⟨B,0,none⟩=some (.slice a2 d.log.loose.length c2)→Calls Tryz.prog 72 #[.slice (some ⟨B,0,none⟩) 1 1] W fun e w'=>∃v F,e =.returned v∧bytesR.O w' W.heap.size F v d.log.loose∧Below W.heap.size W w'):=fun W B hW h=>fG7 h (bytesR.below hv2 hW) (by unfold gM kK at hnl;omega)
 have HLn:Hid (d.start.length≤1048576):=hn0;clear hbs hv1 hv2 hn hn0 hnl hx;obtain⟨n0,hn0⟩:∃n0,d.start.length=n0:=⟨_,rfl⟩
 obtain⟨n1,hn1⟩:∃n1,d.log.synced.length=n1:=⟨_,rfl⟩
 obtain⟨n2,hn2⟩:∃n2,d.log.loose.length=n2:=⟨_,rfl⟩
 have HN:Hid (d.start.length=n0∧d.log.synced.length=n1∧d.log.loose.length=n2):=⟨hn0,hn1,hn2⟩;rw[hn0] at HA;rw[hn0,hn1,hn2];clear hn0 hn1 hn2;go_enter Tryz.func37,Tryz.ntmps37;go_wp2;obtain⟨wq,hwq⟩:∃wq,wq=(w.alloc (.cells #[.int .i64 d.idx,.slice a0 n0 c0,.slice a1 n1 c1,.slice a2 n2 c2] 33)).alloc (.cells #[.int .i64 0,.slice none 0 0,.slice none 0 0,.slice none 0 0] 33):=⟨_,rfl⟩
 have y0:wq.cell? ⟨w.heap.size,0,none⟩=some (.int .i64 d.idx):=by rw[hwq];simp[go_sem]
 have y1:wq.cell? ⟨w.heap.size,1,none⟩=some (.slice a0 n0 c0):=by rw[hwq];simp[go_sem]
 have y2:wq.cell? ⟨w.heap.size,2,none⟩=some (.slice a1 n1 c1):=by rw[hwq];simp[go_sem]
 have y3:wq.cell? ⟨w.heap.size,3,none⟩=some (.slice a2 n2 c2):=by rw[hwq];simp[go_sem]
 have r0:wq.cell? ⟨w.heap.size+1,0,none⟩=some (.int .i64 0):=by rw[hwq];simp[go_sem]
 have r1:wq.cell? ⟨w.heap.size+1,1,none⟩=some (.slice none 0 0):=by rw[hwq];simp[go_sem]
 have r2:wq.cell? ⟨w.heap.size+1,2,none⟩=some (.slice none 0 0):=by rw[hwq];simp[go_sem]
 have r3:wq.cell? ⟨w.heap.size+1,3,none⟩=some (.slice none 0 0):=by rw[hwq];simp[go_sem]
 have rf:∀o,wq.frozen? ⟨w.heap.size+1,o,none⟩=false:=fun o=>by rw[hwq];simp[go_sem]
 have hBq:Below w.heap.size w wq:=by rw[hwq];exact qBq
 have zq:w.heap.size+1<wq.heap.size:=by rw[hwq];simp
 rw[←hwq];clear hwq;refine wp_region_noPanic ?_;refine fB (fun W=>Below wq.heap.size wq W∧W.cell? ⟨w.heap.size,0,none⟩=some (.int .i64 d.idx)∧W.cell? ⟨w.heap.size,1,none⟩=some (.slice a0 n0 c0)∧W.cell? ⟨w.heap.size,2,none⟩=some (.slice a1 n1 c1)∧W.cell? ⟨w.heap.size,3,none⟩=some (.slice a2 n2 c2)) 17 kF ⟨qBq,cK qBq y0,cK qBq y1,cK qBq y2,cK qBq y3⟩ (fun hS=>?_);refine tY 0 ?_;refine tY 1 ?_;refine tY 2 ?_;refine tY 3 ?_;refine tY 5 ?_;refine tY 6 ?_;refine tY 7 ?_;refine tY 10 ?_;refine tY 11 ?_;refine tY 12 ?_;have hb0:Below wq.heap.size wq wq.drew:=Below.drew (bR _ _);generalize wq.drew=W0 at *;have hs10:=hb0.size;have hz0:w.heap.size+1<W0.heap.size:=oM;refine zO [(4,7),(8,11),(9,12),(13,16),(14,17),(15,18),(16,19)] (yE d a1 a2 c1 c2) kF hS (fun W W' h hb=>⟨bS h.1 hb,cK hb h.2.1,cK hb h.2.2.1,cK hb h.2.2.2.1,cK hb h.2.2.2.2⟩) ?_ ?_ ?_
 ·
  intro p hp;simp only[List.mem_cons,List.not_mem_nil,or_false] at hp;rcases hp with rfl|rfl|rfl|rfl|rfl|rfl|rfl
  all_goals
   intro y y' lo hi W W' h hi' hb e he
  ·simp only[yE] at h ⊢;rw[e];obtain⟨h1,F,h2,h3⟩:=h;exact⟨h1,F,balsR.keep h2 hb,h3⟩
  ·simp only[yE] at h ⊢;rw[e];exact⟨h.choose,h.choose_spec.1,cK hb h.choose_spec.2⟩
  ·simp only[yE] at h ⊢;rw[e];obtain⟨h1,F,h2,h3⟩:=h;exact⟨h1,F,bytesR.keep h2 hb,h3⟩
  ·simp only[yE] at h ⊢;rw[e];exact⟨h.choose,h.choose_spec.1,cK hb h.choose_spec.2⟩
  ·simp only[yE] at h ⊢;rw[e];obtain⟨h1,F,h2,h3⟩:=h;exact⟨h1,F,bytesR.keep h2 hb,h3⟩
  ·have e1:=he (9,12) (by simp) kF;have e2:=he (14,17) (by simp) kF;simp only[yE] at h ⊢;rw[e,e1,e2];exact h
  have e1:=he (4,7) (by simp) kF;have e2:=he (15,18) (by simp) kF;simp only[yE] at h ⊢;rw[e,e1,e2];exact h
 ·
  intro p hp;simp only[List.mem_cons,List.not_mem_nil,or_false] at hp;rcases hp with rfl|rfl|rfl|rfl|rfl|rfl|rfl
  all_goals
   refine⟨_,rfl,rfl,?_⟩;intro y W lo hi hSW hBW hd hap K hK;clear hap
  ·clear hd;refine⟨?_⟩;refine fFu W rfl (.const (.slice none 0 0)) (.tmp 6) rfl W.heap.size (.slice none 0 0) [] rfl (.slice a0 n0 c0) d.start rfl (World.ownsRow_nil _ _ _ _) (by have:=HA.out W (bS hBq hSW.1);rw[←HN.out.1] at this ⊢;exact this) (by have:=HLn.out;simp;omega) (Nat.le_refl _) ?_;intro v' w' ho _ hB;have hb:=hB W (bR _ _);simp only[List.nil_append] at ho;refine hK _ _ hb ?_;simp only[yE,updV];obtain⟨av,cv,hv⟩:=fD ho;exact⟨⟨av,cv,by simpa using hv⟩,_,⟨by simpa using ho,rfl⟩,fun b hb'=>(ho.lt b (by simpa using hb')).2⟩
  ·clear hd;refine⟨?_⟩;simp only[over,jX,lZ] at hK ⊢;go_simp;refine hK _ _ qBq ?_;simp only[yE,updV];rw[HN.out.2.1];exact⟨_,rfl,by simp[go_sem]⟩
  ·have g0:=(hd (8,11) (by simp) kF).2;clear hd;simp only[yE] at g0;obtain⟨B,e1,g0⟩:=g0;refine⟨?_⟩;simp only[over,jX,lZ] at hK ⊢;simp only[e1] at hK ⊢;go_simp;refine(HJ1.out W B (bS hBq hSW.1) g0).mono ?_;rintro e w2 ⟨v2,F2,rfl,o2,hb2⟩;refine hK _ _ hb2 ?_;simp only[yE,updV];obtain⟨av,cv,hv⟩:=fZ (bytesR.ofO o2);exact⟨⟨av,cv,by simpa using hv⟩,F2,by simpa using o2,fun b hb=>(bytesR.rng o2 b hb).2⟩
  ·clear hd;refine⟨?_⟩;simp only[over,jX,lZ] at hK ⊢;go_simp;refine hK _ _ qBq ?_;simp only[yE,updV];rw[HN.out.2.2];exact⟨_,rfl,by simp[go_sem]⟩
  ·have g0:=(hd (13,16) (by simp) kF).2;clear hd;simp only[yE] at g0;obtain⟨B,e1,g0⟩:=g0;refine⟨?_⟩;simp only[over,jX,lZ] at hK ⊢;simp only[e1] at hK ⊢;go_simp;refine(HJ2.out W B (bS hBq hSW.1) g0).mono ?_;rintro e w2 ⟨v2,F2,rfl,o2,hb2⟩;refine hK _ _ hb2 ?_;simp only[yE,updV];obtain⟨av,cv,hv⟩:=fZ (bytesR.ofO o2);exact⟨⟨av,cv,by simpa using hv⟩,F2,by simpa using o2,fun b hb=>(bytesR.rng o2 b hb).2⟩
  ·have g1:=(hd (9,12) (by simp) kF).2.1;have g2:=(hd (14,17) (by simp) kF).2.1;clear hd;obtain⟨p,q,e1⟩:=g1;obtain⟨p',q',e2⟩:=g2;refine⟨?_⟩;simp only[over,jX,lZ] at hK ⊢;simp only[e1,e2] at hK ⊢;go_simp;refine hK _ _ (bR _ _) ?_;simp only[yE,updV];exact⟨p,q,p',q',by simpa using e1,by simpa using e2,by simp⟩
  have g1:=(hd (4,7) (by simp) kF).2.1;have g2:=(hd (15,18) (by simp) kF).2;clear hd;simp only[yE] at g2;obtain⟨a,c,e1⟩:=g1;obtain⟨p,q,p',q',e8,e9,e2⟩:=g2;clear e8 e9;refine⟨?_⟩;simp only[over,jX,lZ] at hK ⊢;simp only[e1,e2] at hK ⊢;go_simp;refine hK _ _ (bR _ _) ?_;simp only[yE,updV];exact⟨a,c,p,q,p',q',by simpa using e1,by simpa using e2,by simp⟩
 refine⟨_,rfl,?_⟩;intro y W lo hi hSW hBW hd hap K hK;have g1:=hd (4,7) (by simp);have g2:=hd (9,12) (by simp);have g3:=hd (14,17) (by simp);have g4:=(hd (15,18) (by simp)).2;have g5:=(hd (16,19) (by simp)).2;have q12:=hap (4,7) (by simp) (9,12) (by simp) (by simp);have q13:=hap (4,7) (by simp) (14,17) (by simp) (by simp);have q23:=hap (9,12) (by simp) (14,17) (by simp) (by simp);clear hd hap;simp only[yE] at g1 g2 g3 g4 g5;simp only[fCz] at q12 q13 q23;obtain⟨a,c,p,q,p',q',e1,e2,e3⟩:=g5;obtain⟨s1,t1,s2,t2,e4,e5,e6⟩:=g4;rw[e2] at e6;simp only[Value.agg.injEq,Array.mk.injEq,List.cons.injEq,and_true,Value.slice.injEq,true_and] at e6;obtain⟨⟨rfl,rfl⟩,rfl,rfl⟩:=e6;obtain⟨i1,_,F1,o1,l1⟩:=g1;obtain⟨i2,_,F2,o2,l2⟩:=g2;obtain⟨i3,_,F3,o3,l3⟩:=g3;rw[e1] at o1;rw[e4] at o2;rw[e5] at o3;have k1:=fun b hb=>(balsR.rng o1 b hb).1
 have k2:=fun b hb=>(bytesR.rng o2 b hb).1
 have k3:=fun b hb=>(bytesR.rng o3 b hb).1
 have hBW1:Below wq.heap.size wq W:=bS hb0 hBW;refine⟨?_⟩;simp only[over,jX,lZ];simp only[e3];have HO:Hid (jrnR.O W (w.heap.size+2) (fun k=>F1 k∨(F2 k∨F3 k)) (.agg #[.int .i64 d.idx,.slice a d.start.length c,.slice p d.log.synced.length q,.slice p' d.log.loose.length q']) d):=
  fSz (i:=d.idx) (balsR.base o1 (by have:=i1.1;omega)) ⟨_,_,F2,F3,rfl,bytesR.base o2 (by have:=i2.1;omega),bytesR.base o3 (by have:=i3.1;omega),fun b h2 h3=>(by have:=k2 b h2;have:=k3 b h3;have:=l2 b h2;have:=l3 b h3;omega),fun _=>Iff.rfl⟩
   (fun b h1 h2=>by
    have:=k1 b h1;have:=l1 b h1;rcases h2 with h2|h2
    ·have:=k2 b h2;have:=l2 b h2;omega
    have:=k3 b h2;have:=l3 b h2;omega)
 rw[HN.out.1,HN.out.2.1,HN.out.2.2] at HO ⊢;clear e1 e2 e3 e4 e5 i1 i2 i3 o1 o2 o3 l1 l2 l3 k1 k2 k3 q12 q13 q23 hSW hS;replace r0:=cK hBW1 r0;replace r1:=cK hBW1 r1;replace r2:=cK hBW1 r2;replace r3:=cK hBW1 r3;replace rf:∀o,W.frozen? ⟨w.heap.size+1,o,none⟩=false:=fun o=>by rw[(bcell hBW1).2 _ _ zq];exact rf o
 have hBw:Below w.heap.size w W:=bS hBq hBW1;clear hBW hBW1;go_simp;refine hK _ _ ?_;clear hK K;refine NoPanic.normal ?_;go_wp2;refine bodyPost_ret (v:=.agg #[.int .i64 d.idx,.slice a n0 c,.slice p n1 q,.slice p' n2 q']) (by simp[results,Tryz.results37,go_sem,r0,r1,r2,r3,rf]) rfl ?_;have hbR:w.heap.size≤w.heap.size+1:=oM;exact⟨_,_,rfl,jrnR.base (fWa jrnR HO.out oM _ _ _ _) oM,bset (p:=⟨w.heap.size+1,3,none⟩) (bset (p:=⟨w.heap.size+1,2,none⟩) (bset (p:=⟨w.heap.size+1,1,none⟩) (bset (p:=⟨w.heap.size+1,0,none⟩) hBw hbR _) hbR _) hbR _) hbR _⟩
theorem fIi {w:World} {v:Value} {es:List Evt} (h:evtsR.V w v es):∃a c,v =.slice a es.length c∧es.length≤c∧c≤maxLen∧∀k,k<es.length→∃b o p q,a=some ⟨b,o,none⟩∧(w.cell? ⟨b,o+k*4,none⟩=some (.bool (es.getD k default).vote)∧w.cell? ⟨b,o+k*4+1,none⟩=some (.int .i64 (es.getD k default).con.id)∧w.cell? ⟨b,o+k*4+2,none⟩=some (.slice p (es.getD k default).con.legs.length q)∧w.cell? ⟨b,o+k*4+3,none⟩=some (.int .i64 (es.getD k default).out))∧evtR.V w (.agg #[.bool (es.getD k default).vote,.int .i64 (es.getD k default).con.id,.slice p (es.getD k default).con.legs.length q,.int .i64 (es.getD k default).out]) (es.getD k default):=by
 obtain⟨a,c,rfl,h1,h2,h3⟩:=h;refine⟨a,c,rfl,h1,h2,fun k hk=>?_⟩;obtain⟨b,o,u,e,_,p,hv⟩:=h3 k hk;obtain⟨u1,rfl,hl⟩:=hv;obtain⟨au,cu,rfl⟩:=kP hl;exact⟨b,o,au,cu,e,⟨p 0 oM,p 1 oM,p 2 oM,p 3 oM⟩,evtf_V.1 ⟨_,rfl,hl⟩⟩
theorem yL {w:World} {base:Nat} {F:Nat→Prop} {c v i c' v':Int} {u1 u2 u3 u4 u5:Value} {d:Shd} (h:shdRR.O w base F (.agg #[.int .i64 c,.int .i64 v,.int .i64 i,u1,u2,u3,u4,u5]) ⟨c',v',d⟩):shdR.O w base F (.agg #[.int .i64 i,u1,u2,u3,u4,u5]) d:=by
 obtain⟨t1,t2,t3,t4,t5,F1,he,ho,hF⟩:=h;simp only[Value.agg.injEq,Array.mk.injEq,List.cons.injEq,and_true,Value.int.injEq,true_and] at he;obtain⟨rfl,rfl,rfl,rfl,rfl,rfl,rfl,rfl⟩:=he;have e:F=F1:=funext fun b=>propext (hF b)
 subst e;exact ho
def fNw (w:World) (j:Jrn) (e:Ending) (w':World):Prop:=∃v F s,e =.returned (.tuple #[v,.int .i64 (repT j).code])∧shdR.O w' w.heap.size F v s∧((repT j).code=0→(repT j).shard=s)∧Below w.heap.size w w'
theorem fFk {w W:World} {j:Jrn} {c:Int} (h:(repT j).code=c) (hc:¬c=0) (hb:Below w.heap.size w W):fNw w j (.returned (.tuple #[.agg #[.int .i64 0,.slice none 0 0,.slice none 0 0,.slice none 0 0,.slice none 0 0,.slice none 0 0],.int .i64 c])) W:=by
 obtain⟨F,hF⟩:=fJe W w.heap.size;exact⟨_,F,_,by rw[h],hF,fun h0=>absurd (h▸h0) hc,hb⟩
theorem fE1 (x:Value) (d:Jrn) (w:World) (hx:jrnR.V w x d) (hn:mP d≤1048576) :
  Calls Tryz.prog 28 #[x] w (fNw w d):=by
 obtain⟨a0,c0,b1,d1,b2,d2,rfl,hbs,hlg⟩:=qI hx;have hnl:gM d.log≤1048576:=by unfold mP at hn;omega
 have HN:Hid (bW w fun W=>Calls Tryz.prog 61 #[.int .i64 d.idx,.slice a0 d.start.length c0] W fun e w'=>∃v F,e =.returned v∧shdRR.O w' W.heap.size F v (newD d.idx d.start)∧Below W.heap.size W w'):=fun W hW=>fNi _ _ d.start W (balsR.below hbs hW) (by unfold mP pM at hn;omega)
 have HE:Hid (bW w fun W=>Calls Tryz.prog 47 #[.agg #[.int .i64 d.idx,.slice a0 d.start.length c0,.slice b1 d.log.synced.length d1,.slice b2 d.log.loose.length d2]] W fun e w'=>∃v F,e =.returned v∧evtsRR.O w' W.heap.size F v (evsD d.log)∧Below W.heap.size W w'):=fun W hW=>fT1 _ d W (jrnR.below hx hW) hnl
 have HDo:Hid (∀W y z s e,shdR.V W y s→evtR.V W z e→Calls Tryz.prog 46 #[y,z] W (rP W (doE s e))):=fun W y z s e h1 h2=>fWw y z s e W h1 h2
 have HT1:Hid (¬(newD d.idx d.start).code=0→(repT d).code=(newD d.idx d.start).code):=fun h=>by show _=_;unfold repT;rw[if_neg h]
 have HT2:Hid ((newD d.idx d.start).code=0→¬(evsD d.log).code=0→(repT d).code=(evsD d.log).code):=fun h h1=>by show _=_;unfold repT;rw[if_pos h,if_neg h1];rfl
 have HT3:Hid ((newD d.idx d.start).code=0→(evsD d.log).code=0→repT d=repE (newD d.idx d.start) (evsD d.log).evts):=fun h h1=>by show _=_;unfold repT;rw[if_pos h,if_pos h1]
 clear hbs hlg hn hnl hx;generalize d.start.length=n0 at *;generalize d.log.synced.length=n1 at *;generalize d.log.loose.length=n2 at *;obtain⟨N0,hN0⟩:∃N0,newD d.idx d.start=N0:=⟨_,rfl⟩
 rw[hN0] at HN HT1 HT2 HT3;clear hN0;obtain⟨E0,hE0⟩:∃E0,evsD d.log=E0:=⟨_,rfl⟩
 rw[hE0] at HE HT2 HT3;clear hE0;obtain⟨ec,es⟩:=E0;obtain⟨nc,nv,ns⟩:=N0;dsimp only at HT1 HT2 HT3;go_enter Tryz.func28,Tryz.ntmps28;go_wp2_with fail;refine(HN.out _ qBq).mono ?_;rintro e w1 ⟨v1,F1,rfl,o1,hb1⟩;obtain⟨p1,p2,p3,p4,p5,m1,m2,m3,m4,m5,q1,q2,q3,q4,q5,rfl⟩:=mD o1;have hB1:=bT w hb1;have y0:w1.cell? ⟨w.heap.size,0,none⟩=some (.int .i64 d.idx):=cK hb1 sG;have y1:w1.cell? ⟨w.heap.size,1,none⟩=some (.slice a0 n0 c0):=cK hb1 sG;have y2:w1.cell? ⟨w.heap.size,2,none⟩=some (.slice b1 n1 d1):=cK hb1 sG;have y3:w1.cell? ⟨w.heap.size,3,none⟩=some (.slice b2 n2 d2):=cK hb1 sG;have r0:w1.cell? ⟨w.heap.size+1,0,none⟩=some (.int .i64 0):=cK hb1 sG;have r1:w1.cell? ⟨w.heap.size+1,1,none⟩=some (.slice none 0 0):=cK hb1 sG;have r2:w1.cell? ⟨w.heap.size+1,2,none⟩=some (.slice none 0 0):=cK hb1 sG;have r3:w1.cell? ⟨w.heap.size+1,3,none⟩=some (.slice none 0 0):=cK hb1 sG;have r4:w1.cell? ⟨w.heap.size+1,4,none⟩=some (.slice none 0 0):=cK hb1 sG;have r5:w1.cell? ⟨w.heap.size+1,5,none⟩=some (.slice none 0 0):=cK hb1 sG;have rf:∀o,w1.frozen? ⟨w.heap.size+1,o,none⟩=false:=fun o=>by rw[(bcell hb1).2 _ _ (by simp;try omega)];simp[go_sem]
 have hz:w.heap.size+2≤w1.heap.size:=by have:=hb1.size;simp at this;omega
 have HO1:Hid (shdR.O w1 (w.heap.size+2) F1 (.agg #[.int .i64 ns.idx,.slice p1 m1 q1,.slice p2 m2 q2,.slice p3 m3 q3,.slice p4 m4 q4,.slice p5 m5 q5]) ns):=shdR.base (yL o1) (by simp);clear o1 hb1 HN;have z0:w.heap.size<w1.heap.size:=oM;have z1:w.heap.size+1<w1.heap.size:=oM;by_cases hnc:nc=0;rotate_left
 ·
  have HD:Hid _:=HT1.out hnc;have hd:(nc !=0)=true:=by simp[hnc]
  have HNc:Hid (¬nc=0):=hnc;have hbn:Below w.heap.size w w1:=hB1;clear HT1 HT2 HT3 HE HDo HO1 hnc;go_wp2;have hS0:(w1.alloc (.cells #[.int .i64 nc,.int .i64 nv,.int .i64 ns.idx,.slice p1 m1 q1,.slice p2 m2 q2,.slice p3 m3 q3,.slice p4 m4 q4,.slice p5 m5 q5] 76)).cell? ⟨w1.heap.size,0,none⟩=some (.int .i64 nc):=sG;obtain⟨wq,hwq⟩:∃wq,wq=w1.alloc (.cells #[.int .i64 nc,.int .i64 nv,.int .i64 ns.idx,.slice p1 m1 q1,.slice p2 m2 q2,.slice p3 m3 q3,.slice p4 m4 q4,.slice p5 m5 q5] 76):=⟨_,rfl⟩
  rw[←hwq] at hS0;have hbq:Below w1.heap.size w1 wq:=by rw[hwq];exact qBq
  rw[←hwq];clear hwq;replace r0:=cK hbq r0;replace r1:=cK hbq r1;replace r2:=cK hbq r2;replace r3:=cK hbq r3;replace r4:=cK hbq r4;replace r5:=cK hbq r5;replace rf:∀o,wq.frozen? ⟨w.heap.size+1,o,none⟩=false:=fun o=>by rw[(bcell hbq).2 _ _ z1];exact rf o
  have hBq:Below w.heap.size w wq:=bS hB1 hbq;have hbd:Below wq.heap.size wq wq.drew:=Below.drew (bR _ _);have hne:¬w1.heap.size=w.heap.size+1:=oM;have hne':¬w.heap.size+1=w1.heap.size:=oM;clear hbq hB1;refine wp_region_noPanic ?_;refine fB (fun W=>W.cell? ⟨w1.heap.size,0,none⟩=some (.int .i64 nc)) 4 kF (cK hbd hS0) (fun hS=>?_);refine tY 0 ?_;refine tY 1 ?_;refine tY 2 ?_;refine uS 3 rfl (fun K hK=>?_);go_simp;refine hK _ _ (fun _=>by simp[go_sem,hS0,hne,hne']) ?_;clear hK K;try simp only[jX]
  refine uS 4 rfl (fun K hK=>?_);go_simp;refine hK _ _ (fun h=>absurd rfl h) ?_;clear hK K hS;refine dP ?_;go_wp2;refine bodyPost_ret (v:=.tuple #[.agg #[.int .i64 0,.slice none 0 0,.slice none 0 0,.slice none 0 0,.slice none 0 0,.slice none 0 0],.int .i64 nc]) (by simp[results,Tryz.results28,go_sem,r0,r1,r2,r3,r4,r5,rf]) rfl (fFk HD.out HNc.out ?_);have hbR:w.heap.size≤w.heap.size+1:=oM;refine Below.drew ?_;exact bset (p:=⟨w.heap.size+1,5,none⟩) (bset (p:=⟨w.heap.size+1,4,none⟩) (bset (p:=⟨w.heap.size+1,3,none⟩) (bset (p:=⟨w.heap.size+1,2,none⟩) (bset (p:=⟨w.heap.size+1,1,none⟩) (bset (p:=⟨w.heap.size+1,0,none⟩) (hBq) hbR _) hbR _) hbR _) hbR _) hbR _) hbR _
 subst hnc;have HT2':Hid _:=HT2.out rfl;have HT3':Hid _:=HT3.out rfl;clear HT1 HT2 HT3;go_wp2_with fail;refine(HE.out _ qBq).mono ?_;rintro e w2 ⟨v2,F2,rfl,o2,hb2⟩;obtain⟨u2,F3,rfl,o2,_⟩:=o2;dsimp only at o2;obtain⟨ae,ce,rfl⟩:=zA (evtsR.ofO o2);have hB2:=bT w hb2;have hb12:=bT w1 hb2;have t0:w2.cell? ⟨w1.heap.size,0,none⟩=some (.int .i64 0):=cK hb2 sG;have t1:w2.cell? ⟨w1.heap.size,1,none⟩=some (.int .i64 nv):=cK hb2 sG;have t2:w2.cell? ⟨w1.heap.size,2,none⟩=some (.int .i64 ns.idx):=cK hb2 sG;have t3:w2.cell? ⟨w1.heap.size,3,none⟩=some (.slice p1 m1 q1):=cK hb2 sG;have t4:w2.cell? ⟨w1.heap.size,4,none⟩=some (.slice p2 m2 q2):=cK hb2 sG;have t5:w2.cell? ⟨w1.heap.size,5,none⟩=some (.slice p3 m3 q3):=cK hb2 sG;have t6:w2.cell? ⟨w1.heap.size,6,none⟩=some (.slice p4 m4 q4):=cK hb2 sG;have t7:w2.cell? ⟨w1.heap.size,7,none⟩=some (.slice p5 m5 q5):=cK hb2 sG;have tf:∀o,w2.frozen? ⟨w1.heap.size,o,none⟩=false:=fun o=>by rw[(bcell hb2).2 _ _ (by simp;try omega)];simp[go_sem]
 have z4:w1.heap.size<w2.heap.size:=by have:=hb2.size;simp at this;omega
 have HOE:Hid (evtsR.O w2 (w1.heap.size+1) F3 (.slice ae es.length ce) es):=evtsR.base o2 (by simp);have HO2:Hid (shdR.O w2 (w.heap.size+2) F1 (.agg #[.int .i64 ns.idx,.slice p1 m1 q1,.slice p2 m2 q2,.slice p3 m3 q3,.slice p4 m4 q4,.slice p5 m5 q5]) ns):=shdR.keep HO1.out hb12;have HF1:Hid (∀b,F1 b→b<w1.heap.size):=fun b hb=>(shdR.rng HO1.out b hb).2
 replace r0:=cK hb12 r0;replace r1:=cK hb12 r1;replace r2:=cK hb12 r2;replace r3:=cK hb12 r3;replace r4:=cK hb12 r4;replace r5:=cK hb12 r5;replace rf:∀o,w2.frozen? ⟨w.heap.size+1,o,none⟩=false:=fun o=>by rw[(bcell hb12).2 _ _ z1];exact rf o
 clear o2 hb2 HE HO1 hB1 y0 y1 y2 y3;have zz1:w.heap.size+1<w2.heap.size:=oM;by_cases hec:ec=0;rotate_left
 ·
  have HD:Hid ((repT d).code=ec):=HT2'.out hec;have HNc:Hid (¬ec=0):=hec;have hd:(ec !=0)=true:=by simp[hec]
  clear HT2' HT3' HDo HO2 HOE HF1 hec;generalize es.length=ne at *;go_wp2;have hS0:(w2.alloc (.cells #[.int .i64 ec,.slice ae ne ce] 80)).cell? ⟨w2.heap.size,0,none⟩=some (.int .i64 ec):=sG;obtain⟨wq,hwq⟩:∃wq,wq=w2.alloc (.cells #[.int .i64 ec,.slice ae ne ce] 80):=⟨_,rfl⟩
  rw[←hwq] at hS0;have hbq:Below w2.heap.size w2 wq:=by rw[hwq];exact qBq
  rw[←hwq];clear hwq;replace r0:=cK hbq r0;replace r1:=cK hbq r1;replace r2:=cK hbq r2;replace r3:=cK hbq r3;replace r4:=cK hbq r4;replace r5:=cK hbq r5;replace rf:∀o,wq.frozen? ⟨w.heap.size+1,o,none⟩=false:=fun o=>by rw[(bcell hbq).2 _ _ zz1];exact rf o
  have hBq:Below w.heap.size w wq:=bS hB2 hbq;have hbd:Below wq.heap.size wq wq.drew:=Below.drew (bR _ _);have hne:¬w2.heap.size=w.heap.size+1:=oM;have hne':¬w.heap.size+1=w2.heap.size:=oM;clear hbq hB2 hb12;refine wp_region_noPanic ?_;refine fB (fun W=>W.cell? ⟨w2.heap.size,0,none⟩=some (.int .i64 ec)) 4 kF (cK hbd hS0) (fun hS=>?_);refine tY 0 ?_;refine tY 1 ?_;refine tY 2 ?_;refine uS 3 rfl (fun K hK=>?_);go_simp;refine hK _ _ (fun _=>by simp[go_sem,hS0,hne,hne']) ?_;clear hK K;try simp only[jX]
  refine uS 4 rfl (fun K hK=>?_);go_simp;refine hK _ _ (fun h=>absurd rfl h) ?_;clear hK K hS;refine dP ?_;go_wp2;refine bodyPost_ret (v:=.tuple #[.agg #[.int .i64 0,.slice none 0 0,.slice none 0 0,.slice none 0 0,.slice none 0 0,.slice none 0 0],.int .i64 ec]) (by simp[results,Tryz.results28,go_sem,r0,r1,r2,r3,r4,r5,rf]) rfl (fFk HD.out HNc.out ?_);have hbR:w.heap.size≤w.heap.size+1:=oM;refine Below.drew ?_;exact bset (p:=⟨w.heap.size+1,5,none⟩) (bset (p:=⟨w.heap.size+1,4,none⟩) (bset (p:=⟨w.heap.size+1,3,none⟩) (bset (p:=⟨w.heap.size+1,2,none⟩) (bset (p:=⟨w.heap.size+1,1,none⟩) (bset (p:=⟨w.heap.size+1,0,none⟩) (hBq) hbR _) hbR _) hbR _) hbR _) hbR _) hbR _
 subst hec;have HT:Hid (repT d=repE ⟨0,nv,ns⟩ es):=HT3'.out rfl;clear HT2' HT3' hb12;obtain⟨N0,hN0⟩:∃N0:ShdR,N0=⟨0,nv,ns⟩:=⟨_,rfl⟩
 have HN0:Hid (N0=⟨0,nv,ns⟩):=hN0;rw[←hN0] at HT;clear hN0;have HTk:Hid (∀k,k<es.length→(repE N0 (es.take k)).code=0→repE N0 (es.take (k+1))=doE (repE N0 (es.take k)).shard (es.getD k default)):=fun k hk h=>fK7 hk (by rw[HN0.out]) h
 have HTc:Hid (∀k,¬(repE N0 (es.take k)).code=0→repE N0 es=repE N0 (es.take k)):=fun k h=>fO1 (by rw[HN0.out]) h
 have HTe:Hid (repE N0 (es.take es.length)=repE N0 es):=by show _=_;rw[List.take_length]
 have HTz:Hid (repE N0 (es.take 0)=N0):=rfl;have HEv:Hid (∀W,Mod (fun b=>b=w1.heap.size) w2 W→∀k,k<es.length→∃b o p q,ae=some ⟨b,o,none⟩∧(W.cell? ⟨b,o+k*4,none⟩=some (.bool (es.getD k default).vote)∧W.cell? ⟨b,o+k*4+1,none⟩=some (.int .i64 (es.getD k default).con.id)∧W.cell? ⟨b,o+k*4+2,none⟩=some (.slice p (es.getD k default).con.legs.length q)∧W.cell? ⟨b,o+k*4+3,none⟩=some (.int .i64 (es.getD k default).out))∧evtR.V W (.agg #[.bool (es.getD k default).vote,.int .i64 (es.getD k default).con.id,.slice p (es.getD k default).con.legs.length q,.int .i64 (es.getD k default).out]) (es.getD k default)):=fun W hW=>by
  have h:=evtsR.ofO (evtsR.mod HOE.out hW (fun b hb e=>by have:=(evtsR.rng HOE.out b hb).1;omega));obtain⟨a,c,e1,_,_,h2⟩:=fIi h;simp only[Value.slice.injEq,true_and] at e1;obtain⟨rfl,rfl⟩:=e1;exact h2
 obtain⟨ne,hne⟩:∃ne,es.length=ne:=⟨_,rfl⟩
 have hnec:ne≤ce∧ce≤maxLen:=by
  obtain⟨a,c,e1,h1,h2,_⟩:=fIi (evtsR.ofO HOE.out);simp only[Value.slice.injEq,true_and] at e1;obtain⟨rfl,rfl⟩:=e1;exact⟨oM,h2⟩
 unfold maxLen at hnec;rw[hne] at HTk HTe HEv ⊢;clear HOE hne;go_wp2;have e0:(w2.alloc (.cells #[.int .i64 0,.slice ae ne ce] 80)).cell? ⟨w2.heap.size,0,none⟩=some (.int .i64 0):=sG;have e1:(w2.alloc (.cells #[.int .i64 0,.slice ae ne ce] 80)).cell? ⟨w2.heap.size,1,none⟩=some (.slice ae ne ce):=sG;obtain⟨W1,hW1⟩:∃W1,W1=w2.alloc (.cells #[.int .i64 0,.slice ae ne ce] 80):=⟨_,rfl⟩
 rw[←hW1] at e0 e1;have hb21:Below w2.heap.size w2 W1:=by rw[hW1];exact qBq
 have hz2:w2.heap.size<W1.heap.size:=by rw[hW1];simp
 rw[←hW1];clear hW1;replace t0:=cK hb21 t0;replace t1:=cK hb21 t1;replace t2:=cK hb21 t2;replace t3:=cK hb21 t3;replace t4:=cK hb21 t4;replace t5:=cK hb21 t5;replace t6:=cK hb21 t6;replace t7:=cK hb21 t7;replace tf:∀o,W1.frozen? ⟨w1.heap.size,o,none⟩=false:=fun o=>by rw[(bcell hb21).2 _ _ z4];exact tf o
 replace r0:=cK hb21 r0;replace r1:=cK hb21 r1;replace r2:=cK hb21 r2;replace r3:=cK hb21 r3;replace r4:=cK hb21 r4;replace r5:=cK hb21 r5;replace rf:∀o,W1.frozen? ⟨w.heap.size+1,o,none⟩=false:=fun o=>by rw[(bcell hb21).2 _ _ zz1];exact rf o
 have HOs:Hid (shdR.O W1 (w.heap.size+2) F1 (.agg #[.int .i64 ns.idx,.slice p1 m1 q1,.slice p2 m2 q2,.slice p3 m3 q3,.slice p4 m4 q4,.slice p5 m5 q5]) ns):=shdR.keep HO2.out hb21;have hBW:Below w.heap.size w W1:=bS hB2 hb21;have HM21:Hid (Mod (fun b=>b=w1.heap.size) w2 W1):=Mod.of_below hb21;clear hb21 HO2 hB2;go_loopw [6] (fun i w'=>∃(k:Nat) (T:ShdR) (p1 p2 p3 p4 p5:Option Addr) (m1 q1 m2 q2 m3 q3 m4 q4 m5 q5:Nat) (F:Nat→Prop),k≤ne∧i =.int .i64 k∧Hid (repE N0 (es.take k)=T∧T.code=0)∧Hid (shdR.O w' (w.heap.size+2) F (.agg #[.int .i64 T.shard.idx,.slice p1 m1 q1,.slice p2 m2 q2,.slice p3 m3 q3,.slice p4 m4 q4,.slice p5 m5 q5]) T.shard∧∀b,F b→¬b=w1.heap.size)∧Hid (Mod (fun b=>b=w1.heap.size) W1 w')∧w'.cell? ⟨w1.heap.size,0,none⟩=some (.int .i64 0)∧w'.cell? ⟨w1.heap.size,1,none⟩=some (.int .i64 T.vote)∧w'.cell? ⟨w1.heap.size,2,none⟩=some (.int .i64 T.shard.idx)∧w'.cell? ⟨w1.heap.size,3,none⟩=some (.slice p1 m1 q1)∧w'.cell? ⟨w1.heap.size,4,none⟩=some (.slice p2 m2 q2)∧w'.cell? ⟨w1.heap.size,5,none⟩=some (.slice p3 m3 q3)∧w'.cell? ⟨w1.heap.size,6,none⟩=some (.slice p4 m4 q4)∧w'.cell? ⟨w1.heap.size,7,none⟩=some (.slice p5 m5 q5)∧(∀o,w'.frozen? ⟨w1.heap.size,o,none⟩=false)) (fun i _=>ne-(intOf i).toNat)
 case atStart=>exact⟨0,⟨0,nv,ns⟩,p1,p2,p3,p4,p5,m1,q1,m2,q2,m3,q3,m4,q4,m5,q5,F1,Nat.zero_le _,rfl,⟨by rw[HTz.out,HN0.out],rfl⟩,⟨HOs.out,fun b hb=>by have:=HF1.out b hb;omega⟩,Mod.refl _ _,t0,t1,t2,t3,t4,t5,t6,t7,tf⟩
 clear HOs t0 t1 t2 t3 t4 t5 t6 t7 tf;obtain⟨k,T,p1,p2,p3,p4,p5,m1,q1,m2,q2,m3,q3,m4,q4,m5,q5,F,hk,rfl,HTT,HOT,HM,t0,t1,t2,t3,t4,t5,t6,t7,tf⟩:=hrel;have zr:W1.heap.size≤wr.heap.size:=HM.out.size;have hBr:Below w.heap.size w wr:=HM.out.below hBW hBW.size (fun b e=>by rw[e];omega);have s1:=HM.out.cell e1 (by dsimp only;omega);have zt:w1.heap.size<wr.heap.size:=oM;have z2r:w2.heap.size<wr.heap.size:=oM;by_cases hlt:k<ne
 ·
  obtain⟨bx,ox,pe,qe,rfl,⟨g0,g1,g2,g3⟩,hVe⟩:=HEv.out wr (HM21.out.trans HM.out) k hlt;have hTk:=HTk.out k hlt;obtain⟨l,hl⟩:∃l,l=es.getD k default:=⟨_,rfl⟩
  rw[←hl] at g0 g1 g2 g3 hVe hTk;clear hl;have HTn:Hid (repE N0 (es.take (k+1))=doE T.shard l):=by show _=_;rw[hTk (by rw[HTT.out.1];exact HTT.out.2),HTT.out.1]
  clear hTk;have HCd:Hid (bW wr fun W=>Calls Tryz.prog 46 #[.agg #[.int .i64 T.shard.idx,.slice p1 m1 q1,.slice p2 m2 q2,.slice p3 m3 q3,.slice p4 m4 q4,.slice p5 m5 q5],.agg #[.bool l.vote,.int .i64 l.con.id,.slice pe l.con.legs.length qe,.int .i64 l.out]] W (rP W (doE T.shard l))):=fun W hW=>HDo.out W _ _ _ _ (shdR.below (shdR.ofO HOT.out.1) hW) (evtR.below hVe hW)
  clear hVe;generalize hle:l.con.legs.length=le at *;clear hle;have zb:bx<wr.heap.size:=wL wr _ g0;have k1:(k:Int)<ne:=oM;have k2:(0:Int)≤k:=oM;have hbd:Below wr.heap.size wr wr.drew:=Below.drew (bR _ _);go_wp2;refine wp_region_noPanic ?_;refine fB (fun W=>Below wr.heap.size wr W∧W.cell? ⟨w1.heap.size,0,none⟩=some (.int .i64 0)∧W.cell? ⟨w1.heap.size,1,none⟩=some (.int .i64 T.vote)∧W.cell? ⟨w1.heap.size,2,none⟩=some (.int .i64 T.shard.idx)∧W.cell? ⟨w1.heap.size,3,none⟩=some (.slice p1 m1 q1)∧W.cell? ⟨w1.heap.size,4,none⟩=some (.slice p2 m2 q2)∧W.cell? ⟨w1.heap.size,5,none⟩=some (.slice p3 m3 q3)∧W.cell? ⟨w1.heap.size,6,none⟩=some (.slice p4 m4 q4)∧W.cell? ⟨w1.heap.size,7,none⟩=some (.slice p5 m5 q5)∧W.cell? ⟨w2.heap.size,1,none⟩=some (.slice (some ⟨bx,ox,none⟩) ne ce)∧W.cell? ⟨bx,ox+k*4,none⟩=some (.bool l.vote)∧W.cell? ⟨bx,ox+k*4+1,none⟩=some (.int .i64 l.con.id)∧W.cell? ⟨bx,ox+k*4+2,none⟩=some (.slice pe le qe)∧W.cell? ⟨bx,ox+k*4+3,none⟩=some (.int .i64 l.out)) 8 kF ⟨hbd,cK hbd t0,cK hbd t1,cK hbd t2,cK hbd t3,cK hbd t4,cK hbd t5,cK hbd t6,cK hbd t7,cK hbd s1,cK hbd g0,cK hbd g1,cK hbd g2,cK hbd g3⟩ (fun hS=>?_);refine tY 0 ?_;refine tY 1 ?_;refine tY 2 ?_;refine tY 3 ?_;refine tY 4 ?_;refine tY 5 ?_;refine tY 6 ?_;refine uS 7 rfl (fun K hK=>?_);go_simp;refine(HCd.out _ hS.1).mono ?_;rintro e' w3 ⟨v3,F4,rfl,o3,hb3⟩;obtain⟨T2,hT2⟩:∃T2,doE T.shard l=T2:=⟨_,rfl⟩
  rw[hT2] at o3 HTn;clear hT2;obtain⟨tc,tv,ts⟩:=T2;obtain⟨x1,x2,x3,x4,x5,h1,h2,h3,h4,h5,i1,i2,i3,i4,i5,rfl⟩:=mD o3;have hbr3:Below wr.heap.size wr w3:=bS hS.1 hb3;have hS2:=And.intro (bS hS.1 hb3) (kS13 hb3 hS.2);have HO3:Hid (shdR.O w3 (w.heap.size+2) F4 (.agg #[.int .i64 ts.idx,.slice x1 h1 i1,.slice x2 h2 i2,.slice x3 h3 i3,.slice x4 h4 i4,.slice x5 h5 i5]) ts):=shdR.base (yL o3) (by have:=hS.1.size;omega);have HF4:Hid (∀b,F4 b→¬b=w1.heap.size):=fun b hb=>by have:=(shdRR.rng o3 b hb).1;have:=hS.1.size;omega
  replace t0:=cK hbr3 t0;replace t1:=cK hbr3 t1;replace t2:=cK hbr3 t2;replace t3:=cK hbr3 t3;replace t4:=cK hbr3 t4;replace t5:=cK hbr3 t5;replace t6:=cK hbr3 t6;replace t7:=cK hbr3 t7;replace tf:∀o,w3.frozen? ⟨w1.heap.size,o,none⟩=false:=fun o=>by rw[(bcell hbr3).2 _ _ zt];exact tf o
  refine hK _ _ (fun _=>hS2) ?_;clear hK K hb3 o3 hS HCd g0 g1 g2 g3;try simp only[jX]
  refine uS 8 rfl (fun K hK=>?_);go_simp;refine hK _ _ (fun h=>absurd rfl h) ?_;clear hK K hS2;refine dP ?_;obtain⟨W2,hW2⟩:∃W2,W2=((((((((w3.setCell ⟨w1.heap.size,0,none⟩ (.int .i64 tc)).setCell ⟨w1.heap.size,1,none⟩ (.int .i64 tv)).setCell ⟨w1.heap.size,2,none⟩ (.int .i64 ts.idx)).setCell ⟨w1.heap.size,3,none⟩ (.slice x1 h1 i1)).setCell ⟨w1.heap.size,4,none⟩ (.slice x2 h2 i2)).setCell ⟨w1.heap.size,5,none⟩ (.slice x3 h3 i3)).setCell ⟨w1.heap.size,6,none⟩ (.slice x4 h4 i4)).setCell ⟨w1.heap.size,7,none⟩ (.slice x5 h5 i5)):=⟨_,rfl⟩
  rw[←hW2];have HM3:Hid (Mod (fun b=>b=w1.heap.size) W1 W2):=by
   rw[hW2];exact(HM.out.trans (Mod.of_below hbr3)).trans ((((((((Mod.of_set w3 ⟨w1.heap.size,0,none⟩ _).trans (Mod.of_set _ ⟨w1.heap.size,1,none⟩ _)).trans (Mod.of_set _ ⟨w1.heap.size,2,none⟩ _)).trans (Mod.of_set _ ⟨w1.heap.size,3,none⟩ _)).trans (Mod.of_set _ ⟨w1.heap.size,4,none⟩ _)).trans (Mod.of_set _ ⟨w1.heap.size,5,none⟩ _)).trans (Mod.of_set _ ⟨w1.heap.size,6,none⟩ _)).trans (Mod.of_set _ ⟨w1.heap.size,7,none⟩ _))
  have HO4:Hid (shdR.O W2 (w.heap.size+2) F4 (.agg #[.int .i64 ts.idx,.slice x1 h1 i1,.slice x2 h2 i2,.slice x3 h3 i3,.slice x4 h4 i4,.slice x5 h5 i5]) ts):=by
   rw[hW2];exact vD shdR HO3.out (fun h=>HF4.out _ h rfl) _ _ _ _ _ _ _ _
  have nt0:W2.cell? ⟨w1.heap.size,0,none⟩=some (.int .i64 tc):=by rw[hW2];simp[go_sem,t0,t1,t2,t3,t4,t5,t6,t7,tf]
  have nt1:W2.cell? ⟨w1.heap.size,1,none⟩=some (.int .i64 tv):=by rw[hW2];simp[go_sem,t0,t1,t2,t3,t4,t5,t6,t7,tf]
  have nt2:W2.cell? ⟨w1.heap.size,2,none⟩=some (.int .i64 ts.idx):=by rw[hW2];simp[go_sem,t0,t1,t2,t3,t4,t5,t6,t7,tf]
  have nt3:W2.cell? ⟨w1.heap.size,3,none⟩=some (.slice x1 h1 i1):=by rw[hW2];simp[go_sem,t0,t1,t2,t3,t4,t5,t6,t7,tf]
  have nt4:W2.cell? ⟨w1.heap.size,4,none⟩=some (.slice x2 h2 i2):=by rw[hW2];simp[go_sem,t0,t1,t2,t3,t4,t5,t6,t7,tf]
  have nt5:W2.cell? ⟨w1.heap.size,5,none⟩=some (.slice x3 h3 i3):=by rw[hW2];simp[go_sem,t0,t1,t2,t3,t4,t5,t6,t7,tf]
  have nt6:W2.cell? ⟨w1.heap.size,6,none⟩=some (.slice x4 h4 i4):=by rw[hW2];simp[go_sem,t0,t1,t2,t3,t4,t5,t6,t7,tf]
  have nt7:W2.cell? ⟨w1.heap.size,7,none⟩=some (.slice x5 h5 i5):=by rw[hW2];simp[go_sem,t0,t1,t2,t3,t4,t5,t6,t7,tf]
  have tf2:∀o,W2.frozen? ⟨w1.heap.size,o,none⟩=false:=fun o=>by rw[hW2];simp[go_sem,tf]
  have z3:w1.heap.size<W2.heap.size:=by have:=HM3.out.size;omega
  clear hW2 t0 t1 t2 t3 t4 t5 t6 t7 tf HO3 hbr3 s1;by_cases htc:tc=0
  ·subst htc;go_wp2;exact⟨⟨k+1,⟨0,tv,ts⟩,x1,x2,x3,x4,x5,h1,i1,h2,i2,h3,i3,h4,i4,h5,i5,F4,by omega,by go_num,⟨HTn.out,rfl⟩,⟨HO4.out,HF4.out⟩,HM3,nt0,nt1,nt2,nt3,nt4,nt5,nt6,nt7,tf2⟩,mI⟩
  have HD:Hid ((repT d).code=tc):=by
   show _=_;rw[HT.out,HTc.out (k+1) (by rw[HTn.out];exact htc),HTn.out]
  have HNc:Hid (¬tc=0):=htc;have hd:(tc !=0)=true:=by simp[htc]
  have hBz:Below w.heap.size w W2:=HM3.out.below hBW hBW.size (fun b e=>by rw[e];omega);replace r0:=HM3.out.cell r0 (by dsimp only;omega);replace r1:=HM3.out.cell r1 (by dsimp only;omega);replace r2:=HM3.out.cell r2 (by dsimp only;omega);replace r3:=HM3.out.cell r3 (by dsimp only;omega);replace r4:=HM3.out.cell r4 (by dsimp only;omega);replace r5:=HM3.out.cell r5 (by dsimp only;omega);replace rf:∀o,W2.frozen? ⟨w.heap.size+1,o,none⟩=false:=fun o=>by rw[HM3.out.frz10 (a:=⟨w.heap.size+1,o,none⟩) (by dsimp only;omega) (by dsimp only;omega)];exact rf o
  have hbd2:Below W2.heap.size W2 W2.drew:=Below.drew (bR _ _);have hne:¬w1.heap.size=w.heap.size+1:=oM;have hne':¬w.heap.size+1=w1.heap.size:=oM;clear htc HTn HO4 HF4 HM3 HTT HOT HM hBr;go_wp2;refine wp_region_noPanic ?_;refine fB (fun W=>W.cell? ⟨w1.heap.size,0,none⟩=some (.int .i64 tc)) 4 kF (cK hbd2 nt0) (fun hS=>?_);refine tY 0 ?_;refine tY 1 ?_;refine tY 2 ?_;refine uS 3 rfl (fun K hK=>?_);go_simp;refine hK _ _ (fun _=>by simp[go_sem,nt0,hne,hne']) ?_;clear hK K;try simp only[jX]
  refine uS 4 rfl (fun K hK=>?_);go_simp;refine hK _ _ (fun h=>absurd rfl h) ?_;clear hK K hS;refine dP ?_;go_wp2;refine bodyPost_ret (v:=.tuple #[.agg #[.int .i64 0,.slice none 0 0,.slice none 0 0,.slice none 0 0,.slice none 0 0,.slice none 0 0],.int .i64 tc]) (by simp[results,Tryz.results28,go_sem,r0,r1,r2,r3,r4,r5,rf]) rfl (fFk HD.out HNc.out ?_);have hbR:w.heap.size≤w.heap.size+1:=oM;refine Below.drew ?_;exact bset (p:=⟨w.heap.size+1,5,none⟩) (bset (p:=⟨w.heap.size+1,4,none⟩) (bset (p:=⟨w.heap.size+1,3,none⟩) (bset (p:=⟨w.heap.size+1,2,none⟩) (bset (p:=⟨w.heap.size+1,1,none⟩) (bset (p:=⟨w.heap.size+1,0,none⟩) (hBz) hbR _) hbR _) hbR _) hbR _) hbR _) hbR _
 have hkn:k=ne:=oM;subst hkn;have HD:Hid (repT d=T):=by show _=_;rw[HT.out,←HTe.out,HTT.out.1]
 have HT0:Hid (T.code=0):=HTT.out.2;have k1:¬(k:Int)<(k:Int):=oM;replace r0:=HM.out.cell r0 (by dsimp only;omega);replace r1:=HM.out.cell r1 (by dsimp only;omega);replace r2:=HM.out.cell r2 (by dsimp only;omega);replace r3:=HM.out.cell r3 (by dsimp only;omega);replace r4:=HM.out.cell r4 (by dsimp only;omega);replace r5:=HM.out.cell r5 (by dsimp only;omega);replace rf:∀o,wr.frozen? ⟨w.heap.size+1,o,none⟩=false:=fun o=>by rw[HM.out.frz10 (a:=⟨w.heap.size+1,o,none⟩) (by dsimp only;omega) (by dsimp only;omega)];exact rf o
 have HO5:Hid (shdR.O wr (w.heap.size+2) F (.agg #[.int .i64 T.shard.idx,.slice p1 m1 q1,.slice p2 m2 q2,.slice p3 m3 q3,.slice p4 m4 q4,.slice p5 m5 q5]) T.shard):=HOT.out.1;clear HTT HOT HM HEv HTk HTc;go_wp2;refine bodyPost_ret (v:=.tuple #[.agg #[.int .i64 T.shard.idx,.slice p1 m1 q1,.slice p2 m2 q2,.slice p3 m3 q3,.slice p4 m4 q4,.slice p5 m5 q5],.int .i64 0]) (by simp[results,Tryz.results28,go_sem,r0,r1,r2,r3,r4,r5,rf]) rfl ?_;have hbR:w.heap.size≤w.heap.size+1:=oM;exact⟨_,F,T.shard,by rw[HD.out,HT0.out],shdR.base (set6 shdR HO5.out oM _ _ _ _ _ _) oM,fun _=>by rw[HD.out],bset (p:=⟨w.heap.size+1,5,none⟩) (bset (p:=⟨w.heap.size+1,4,none⟩) (bset (p:=⟨w.heap.size+1,3,none⟩) (bset (p:=⟨w.heap.size+1,2,none⟩) (bset (p:=⟨w.heap.size+1,1,none⟩) (bset (p:=⟨w.heap.size+1,0,none⟩) (hBr) hbR _) hbR _) hbR _) hbR _) hbR _) hbR _⟩
theorem fVv {α:Type} (R:Rep α) {W:World} {base B:Nat} {F:Nat→Prop} {v:Value} {x:α} (h:R.O W base F v x) (hB:B<base) (u0 u1 u2 u3 u4 u5 u6 u7 u8 u9 u10:Value) :
  R.O ((((((((((((W.setCell ⟨B,0,none⟩ u0).setCell ⟨B,1,none⟩ u1).setCell ⟨B,2,none⟩ u2).setCell ⟨B,3,none⟩ u3).setCell ⟨B,4,none⟩ u4).setCell ⟨B,5,none⟩ u5).setCell ⟨B,6,none⟩ u6).setCell ⟨B,7,none⟩ u7).setCell ⟨B,8,none⟩ u8).setCell ⟨B,9,none⟩ u9).setCell ⟨B,10,none⟩ u10)) base F v x:=by
 iterate 11 (refine R.set ?_ _ hB)
 exact h
theorem qO {w Y:World} (h:Below w.heap.size w Y) {B:Nat} (hp:w.heap.size≤B) (u0 u1 u2 u3 u4 u5 u6 u7 u8 u9 u10:Value):Below w.heap.size w ((((((((((((Y.setCell ⟨B,0,none⟩ u0).setCell ⟨B,1,none⟩ u1).setCell ⟨B,2,none⟩ u2).setCell ⟨B,3,none⟩ u3).setCell ⟨B,4,none⟩ u4).setCell ⟨B,5,none⟩ u5).setCell ⟨B,6,none⟩ u6).setCell ⟨B,7,none⟩ u7).setCell ⟨B,8,none⟩ u8).setCell ⟨B,9,none⟩ u9).setCell ⟨B,10,none⟩ u10)):=by
 iterate 11 (refine bset ?_ hp _)
 exact h
theorem fIx {w:World} {base:Nat} {F1 F2:Nat→Prop} {c i k:Int} {t0 t1 t2 u1 u2 u3 u4 u5:Value} {j:Jrn} {s:Shd} (h1:jrnR.O w base F1 (.agg #[.int .i64 i,t0,t1,t2]) j) (h2:shdR.O w base F2 (.agg #[.int .i64 k,u1,u2,u3,u4,u5]) s) (hd:∀b,F1 b→¬F2 b) :
  jrnRR.O w base (fun b=>F1 b∨F2 b) (.agg #[.int .i64 c,.int .i64 i,t0,t1,t2,.int .i64 k,u1,u2,u3,u4,u5]) ⟨c,j,s⟩:=by
 have e1:i=j.idx:=by
  obtain⟨_,_,_,_,_,he,_⟩:=h1;simp only[Value.agg.injEq,Array.mk.injEq,List.cons.injEq,Value.int.injEq,true_and] at he;exact he.1
 have e2:k=s.idx:=by
  obtain⟨_,_,_,_,_,_,_,_,_,_,he,_⟩:=h2;simp only[Value.agg.injEq,Array.mk.injEq,List.cons.injEq,Value.int.injEq,true_and] at he;exact he.1
 subst e1 e2;exact⟨_,_,_,_,_,_,_,_,F1,F2,rfl,h1,h2,hd,fun _=>Iff.rfl⟩
theorem fEz {w:World} {base:Nat} {F:Nat→Prop} {v:Value} {j:Jrn} (h:jrnR.O w base F v j):∃a0 c0 a1 c1 a2 c2,v =.agg #[.int .i64 j.idx,.slice a0 j.start.length c0,.slice a1 j.log.synced.length c1,.slice a2 j.log.loose.length c2]:=by
 obtain⟨a0,c0,a1,c1,a2,c2,rfl,_⟩:=qI (jrnR.ofO h);exact⟨_,_,_,_,_,_,rfl⟩
theorem fSy (w:World) (base:Nat):∃F,jrnR.O w base F (.agg #[.int .i64 0,.slice none 0 0,.slice none 0 0,.slice none 0 0]) ⟨0,[],⟨[],[]⟩⟩:=
 ⟨_,fSz (i:=0) ⟨World.ownsRow_nil _ _ _ _,rfl⟩ (yI (fA9 w base)) (fun k h=>by simp[Value.ownBlock] at h)⟩
theorem fVz (w:World) (base:Nat):shdR.O w base (fun _=>False) (.agg #[.int .i64 0,.slice none 0 0,.slice none 0 0,.slice none 0 0,.slice none 0 0,.slice none 0 0]) ⟨0,[],[],[],[],[]⟩:=by
 obtain⟨F,h⟩:=fJe w (w.heap.size+base);have e:F=(fun _=>False):=by
  funext b
  refine propext ⟨fun hb=>?_,fun hb=>hb.elim⟩;have:=shdR.rng h b hb;omega
 subst e;exact shdR.base h oM
theorem fXr (w:World) (base:Nat) (c:Int):∃F,jrnRR.O w base F (.agg #[.int .i64 c,.int .i64 0,.slice none 0 0,.slice none 0 0,.slice none 0 0,.int .i64 0,.slice none 0 0,.slice none 0 0,.slice none 0 0,.slice none 0 0,.slice none 0 0]) (errJ c):=by
 obtain⟨F1,h1⟩:=fSy w base;obtain⟨F2,h2⟩:=fJe w base;have hd:∀b,F1 b→¬(fun _=>False) b:=fun _ _ h=>h
 have h3:shdR.O w base (fun _=>False) (.agg #[.int .i64 0,.slice none 0 0,.slice none 0 0,.slice none 0 0,.slice none 0 0,.slice none 0 0]) ⟨0,[],[],[],[],[]⟩:=fVz w base;exact⟨_,fIx (c:=c) h1 h3 hd⟩
def JrE (w:World) (Z:JrnR) (e:Ending) (w':World):Prop:=∃v F,e =.returned v∧jrnRR.O w' w.heap.size F v Z∧Below w.heap.size w w'
theorem zF {w W:World} {Z:JrnR} {c:Int} (h:Z=errJ c) (hb:Below w.heap.size w W):JrE w Z (.returned (.agg #[.int .i64 c,.int .i64 0,.slice none 0 0,.slice none 0 0,.slice none 0 0,.int .i64 0,.slice none 0 0,.slice none 0 0,.slice none 0 0,.slice none 0 0,.slice none 0 0])) W:=by
 obtain⟨F,hF⟩:=fXr W w.heap.size c;exact⟨_,F,rfl,by rw[h];exact hF,hb⟩
theorem fO0 {j:Jrn} {c:Int} (h:(repT j).code=c) (hc:¬c=0):repD j=errJ c:=by unfold repD;rw[if_neg (by rw[h];exact hc),h]
theorem fTo {j:Jrn} {s:Shd} (h:(repT j).code=0) (hs:(repT j).shard=s):repD j=⟨0,j,s⟩:=by unfold repD;rw[if_pos h,hs]
theorem fRd (x:Value) (d:Jrn) (w:World) (hx:jrnR.V w x d) (hn:mP d≤1048576) :
  RI 8 #[x] w (.int .i64 (repT d).code):=by
 have HR:Hid (bW w fun W=>Calls Tryz.prog 28 #[x] W (fNw W d)):=fun W hW=>fE1 x d W (jrnR.below hx hW) hn
 obtain⟨a0,c0,b1,d1,b2,d2,rfl,_,_⟩:=qI hx;clear hx hn;generalize d.start.length=n0 at *;generalize d.log.synced.length=n1 at *;generalize d.log.loose.length=n2 at *;go_enter Tryz.func8,Tryz.ntmps8;go_wp2_with fail;refine(HR.out _ qBq).mono ?_;rintro e w1 ⟨v1,F1,s,rfl,o1,hs,hb1⟩;obtain⟨p1,p2,p3,p4,p5,q1,q2,q3,q4,q5,rfl⟩:=mF o1;have hB1:=bT w hb1;clear o1 hb1 HR hs;go_wp2;go_ret;exact⟨rfl,bA hB1 _⟩
theorem fT2 (x:Value) (d:Jrn) (w:World) (hx:jrnR.V w x d) (hn:mP d≤1048576) :
  Calls Tryz.prog 12 #[x] w (JrE w (repD d)):=by
 have HR:Hid (bW w fun W=>Calls Tryz.prog 28 #[x] W (fNw W d)):=fun W hW=>fE1 x d W (jrnR.below hx hW) hn
 have HC:Hid (bW w fun W=>Calls Tryz.prog 33 #[x] W fun e w'=>∃v F,e =.returned v∧jrnR.O w' W.heap.size F v d∧Below W.heap.size W w'):=fun W hW=>fKs x d W (jrnR.below hx hW) hn
 obtain⟨a0,c0,b1,d1,b2,d2,rfl,_,_⟩:=qI hx;have HE1:Hid (¬(repT d).code=0→repD d=errJ (repT d).code):=fun h=>fO0 rfl h
 have HE2:Hid (∀s,(repT d).code=0→(repT d).shard=s→repD d=⟨0,d,s⟩):=fun s h hs=>fTo h hs
 clear hx hn;obtain⟨n0,hn0⟩:∃n0,d.start.length=n0:=⟨_,rfl⟩
 obtain⟨n1,hn1⟩:∃n1,d.log.synced.length=n1:=⟨_,rfl⟩
 obtain⟨n2,hn2⟩:∃n2,d.log.loose.length=n2:=⟨_,rfl⟩
 have HN:Hid (d.start.length=n0∧d.log.synced.length=n1∧d.log.loose.length=n2):=⟨hn0,hn1,hn2⟩;rw[hn0,hn1,hn2] at HR HC ⊢;clear hn0 hn1 hn2;generalize repD d=Z at *;go_enter Tryz.func12,Tryz.ntmps12;go_wp2_with fail;refine(HR.out _ qBq).mono ?_;rintro e w1 ⟨v1,F1,s,rfl,o1,hs,hb1⟩;obtain⟨p1,p2,p3,p4,p5,q1,q2,q3,q4,q5,rfl⟩:=mF o1;have hB1:=bT w hb1;have y0:w1.cell? ⟨w.heap.size,0,none⟩=some (.int .i64 d.idx):=cK hb1 sG;have y1:w1.cell? ⟨w.heap.size,1,none⟩=some (.slice a0 n0 c0):=cK hb1 sG;have y2:w1.cell? ⟨w.heap.size,2,none⟩=some (.slice b1 n1 d1):=cK hb1 sG;have y3:w1.cell? ⟨w.heap.size,3,none⟩=some (.slice b2 n2 d2):=cK hb1 sG;have r0:w1.cell? ⟨w.heap.size+1,0,none⟩=some (.int .i64 0):=cK hb1 sG;have r1:w1.cell? ⟨w.heap.size+1,1,none⟩=some (.int .i64 0):=cK hb1 sG;have r2:w1.cell? ⟨w.heap.size+1,2,none⟩=some (.slice none 0 0):=cK hb1 sG;have r3:w1.cell? ⟨w.heap.size+1,3,none⟩=some (.slice none 0 0):=cK hb1 sG;have r4:w1.cell? ⟨w.heap.size+1,4,none⟩=some (.slice none 0 0):=cK hb1 sG;have r5:w1.cell? ⟨w.heap.size+1,5,none⟩=some (.int .i64 0):=cK hb1 sG;have r6:w1.cell? ⟨w.heap.size+1,6,none⟩=some (.slice none 0 0):=cK hb1 sG;have r7:w1.cell? ⟨w.heap.size+1,7,none⟩=some (.slice none 0 0):=cK hb1 sG;have r8:w1.cell? ⟨w.heap.size+1,8,none⟩=some (.slice none 0 0):=cK hb1 sG;have r9:w1.cell? ⟨w.heap.size+1,9,none⟩=some (.slice none 0 0):=cK hb1 sG;have r10:w1.cell? ⟨w.heap.size+1,10,none⟩=some (.slice none 0 0):=cK hb1 sG;have rf:∀o,w1.frozen? ⟨w.heap.size+1,o,none⟩=false:=fun o=>by rw[(bcell hb1).2 _ _ (by simp;try omega)];simp[go_sem]
 have hz:w.heap.size+2≤w1.heap.size:=by have:=hb1.size;simp at this;omega
 have HO1:Hid (shdR.O w1 (w.heap.size+2) F1 (.agg #[.int .i64 s.idx,.slice p1 s.bals.length q1,.slice p2 s.votes.length q2,.slice p3 s.held.length q3,.slice p4 s.done.length q4,.slice p5 s.appl.length q5]) s):=shdR.base o1 (by simp);have HS:Hid ((repT d).code=0→(repT d).shard=s):=hs;clear o1 hb1 HR hs;have z0:w.heap.size<w1.heap.size:=oM;have z1:w.heap.size+1<w1.heap.size:=oM;generalize (repT d).code=rc at *;generalize hm1:s.bals.length=m1 at *;generalize hm2:s.votes.length=m2 at *;generalize hm3:s.held.length=m3 at *;generalize hm4:s.done.length=m4 at *;generalize hm5:s.appl.length=m5 at *;clear hm1 hm2 hm3 hm4 hm5;by_cases hrc:rc=0;rotate_left
 ·
  have HD:Hid _:=HE1.out hrc;have hd:(rc !=0)=true:=by simp[hrc]
  clear HE1 HE2 HS HC HO1 hrc;go_wp2;refine bodyPost_ret (v:=.agg #[.int .i64 rc,.int .i64 0,.slice none 0 0,.slice none 0 0,.slice none 0 0,.int .i64 0,.slice none 0 0,.slice none 0 0,.slice none 0 0,.slice none 0 0,.slice none 0 0]) (by simp[results,Tryz.results12,go_sem,r0,r1,r2,r3,r4,r5,r6,r7,r8,r9,r10,rf,z1]) rfl (zF HD.out ?_);have hbR:w.heap.size≤w.heap.size+1:=oM;first|exact bA (qO hB1 hbR _ _ _ _ _ _ _ _ _ _ _) _|exact qO (bA hB1 _) hbR _ _ _ _ _ _ _ _ _ _ _
 subst hrc;have HD:Hid (Z=⟨0,d,s⟩):=HE2.out s rfl (HS.out rfl);clear HE1 HE2 HS;go_wp2;have t0:(w1.alloc (.cells #[.int .i64 s.idx,.slice p1 m1 q1,.slice p2 m2 q2,.slice p3 m3 q3,.slice p4 m4 q4,.slice p5 m5 q5] 41)).cell? ⟨w1.heap.size,0,none⟩=some (.int .i64 s.idx):=sG;have t1:(w1.alloc (.cells #[.int .i64 s.idx,.slice p1 m1 q1,.slice p2 m2 q2,.slice p3 m3 q3,.slice p4 m4 q4,.slice p5 m5 q5] 41)).cell? ⟨w1.heap.size,1,none⟩=some (.slice p1 m1 q1):=sG;have t2:(w1.alloc (.cells #[.int .i64 s.idx,.slice p1 m1 q1,.slice p2 m2 q2,.slice p3 m3 q3,.slice p4 m4 q4,.slice p5 m5 q5] 41)).cell? ⟨w1.heap.size,2,none⟩=some (.slice p2 m2 q2):=sG;have t3:(w1.alloc (.cells #[.int .i64 s.idx,.slice p1 m1 q1,.slice p2 m2 q2,.slice p3 m3 q3,.slice p4 m4 q4,.slice p5 m5 q5] 41)).cell? ⟨w1.heap.size,3,none⟩=some (.slice p3 m3 q3):=sG;have t4:(w1.alloc (.cells #[.int .i64 s.idx,.slice p1 m1 q1,.slice p2 m2 q2,.slice p3 m3 q3,.slice p4 m4 q4,.slice p5 m5 q5] 41)).cell? ⟨w1.heap.size,4,none⟩=some (.slice p4 m4 q4):=sG;have t5:(w1.alloc (.cells #[.int .i64 s.idx,.slice p1 m1 q1,.slice p2 m2 q2,.slice p3 m3 q3,.slice p4 m4 q4,.slice p5 m5 q5] 41)).cell? ⟨w1.heap.size,5,none⟩=some (.slice p5 m5 q5):=sG;obtain⟨wq,hwq⟩:∃wq,wq=w1.alloc (.cells #[.int .i64 s.idx,.slice p1 m1 q1,.slice p2 m2 q2,.slice p3 m3 q3,.slice p4 m4 q4,.slice p5 m5 q5] 41):=⟨_,rfl⟩
 rw[←hwq] at t0 t1 t2 t3 t4 t5;have hbq:Below w1.heap.size w1 wq:=by rw[hwq];exact qBq
 have z4:w1.heap.size<wq.heap.size:=by rw[hwq];simp
 rw[←hwq];clear hwq;replace y0:=cK hbq y0;replace y1:=cK hbq y1;replace y2:=cK hbq y2;replace y3:=cK hbq y3;replace r0:=cK hbq r0;replace r1:=cK hbq r1;replace r2:=cK hbq r2;replace r3:=cK hbq r3;replace r4:=cK hbq r4;replace r5:=cK hbq r5;replace r6:=cK hbq r6;replace r7:=cK hbq r7;replace r8:=cK hbq r8;replace r9:=cK hbq r9;replace r10:=cK hbq r10;replace rf:∀o,wq.frozen? ⟨w.heap.size+1,o,none⟩=false:=fun o=>by rw[(bcell hbq).2 _ _ z1];exact rf o
 have HO2:Hid (shdR.O wq (w.heap.size+2) F1 (.agg #[.int .i64 s.idx,.slice p1 m1 q1,.slice p2 m2 q2,.slice p3 m3 q3,.slice p4 m4 q4,.slice p5 m5 q5]) s):=shdR.keep HO1.out hbq;have HF1:Hid (∀b,F1 b→b<wq.heap.size):=fun b hb=>(shdR.rng HO2.out b hb).2
 have hBq:Below w.heap.size w wq:=bS hB1 hbq;have hbd:Below wq.heap.size wq wq.drew:=Below.drew (bR _ _);clear HO1 hB1 hbq;refine wp_region_noPanic ?_;refine fB (fun W=>Below wq.heap.size wq W∧W.cell? ⟨w.heap.size,0,none⟩=some (.int .i64 d.idx)∧W.cell? ⟨w.heap.size,1,none⟩=some (.slice a0 n0 c0)∧W.cell? ⟨w.heap.size,2,none⟩=some (.slice b1 n1 d1)∧W.cell? ⟨w.heap.size,3,none⟩=some (.slice b2 n2 d2)∧W.cell? ⟨w1.heap.size,0,none⟩=some (.int .i64 s.idx)∧W.cell? ⟨w1.heap.size,1,none⟩=some (.slice p1 m1 q1)∧W.cell? ⟨w1.heap.size,2,none⟩=some (.slice p2 m2 q2)∧W.cell? ⟨w1.heap.size,3,none⟩=some (.slice p3 m3 q3)∧W.cell? ⟨w1.heap.size,4,none⟩=some (.slice p4 m4 q4)∧W.cell? ⟨w1.heap.size,5,none⟩=some (.slice p5 m5 q5)) 4 kF ⟨hbd,cK hbd y0,cK hbd y1,cK hbd y2,cK hbd y3,cK hbd t0,cK hbd t1,cK hbd t2,cK hbd t3,cK hbd t4,cK hbd t5⟩ (fun hS=>?_);refine tY 0 ?_;refine tY 2 ?_;refine uS 1 rfl (fun K hK=>?_);go_simp;refine(HC.out _ (bS hBq hS.1)).mono ?_;rintro e' w3 ⟨v3,F3,rfl,o3,hb3⟩;obtain⟨g0,h0,g1,h1,g2,h2,rfl⟩:=fEz o3;have hS2:=And.intro (bS hS.1 hb3) (kS10 hb3 hS.2);have hbq3:Below wq.heap.size wq w3:=hS2.1;have HO3:Hid (jrnR.O w3 (w.heap.size+2) F3 (.agg #[.int .i64 d.idx,.slice g0 d.start.length h0,.slice g1 d.log.synced.length h1,.slice g2 d.log.loose.length h2]) d):=jrnR.base o3 (by have:=hS.1.size;omega);have HF3:Hid (∀b,F3 b→¬F1 b):=fun b h1 h2=>by have:=(jrnR.rng o3 b h1).1;have:=HF1.out b h2;have:=hS.1.size;omega
 have HO4:Hid (shdR.O w3 (w.heap.size+2) F1 (.agg #[.int .i64 s.idx,.slice p1 m1 q1,.slice p2 m2 q2,.slice p3 m3 q3,.slice p4 m4 q4,.slice p5 m5 q5]) s):=shdR.keep HO2.out hbq3;rw[HN.out.1,HN.out.2.1,HN.out.2.2] at HO3 ⊢;replace r0:=cK hbq3 r0;replace r1:=cK hbq3 r1;replace r2:=cK hbq3 r2;replace r3:=cK hbq3 r3;replace r4:=cK hbq3 r4;replace r5:=cK hbq3 r5;replace r6:=cK hbq3 r6;replace r7:=cK hbq3 r7;replace r8:=cK hbq3 r8;replace r9:=cK hbq3 r9;replace r10:=cK hbq3 r10;replace rf:∀o,w3.frozen? ⟨w.heap.size+1,o,none⟩=false:=fun o=>by rw[(bcell hbq3).2 _ _ oM];exact rf o
 have hB3:Below w.heap.size w w3:=bS hBq hbq3;refine hK _ _ (fun _=>hS2) ?_;clear hK K hS hb3 o3 HC HO2 HF1;try simp only[jX]
 refine tY 3 ?_;refine uS 4 rfl (fun K hK=>?_);go_simp;refine hK _ _ (fun h=>absurd rfl h) ?_;clear hK K hS2 y0 y1 y2 y3 t0 t1 t2 t3 t4 t5;refine dP ?_;go_wp2;refine bodyPost_ret (v:=.agg #[.int .i64 0,.int .i64 d.idx,.slice g0 n0 h0,.slice g1 n1 h1,.slice g2 n2 h2,.int .i64 s.idx,.slice p1 m1 q1,.slice p2 m2 q2,.slice p3 m3 q3,.slice p4 m4 q4,.slice p5 m5 q5]) (by simp[results,Tryz.results12,go_sem,r0,r1,r2,r3,r4,r5,r6,r7,r8,r9,r10,rf]) rfl ?_;rw[HD.out];exact⟨_,_,rfl,jrnRR.base (fVv jrnRR (fIx (c:=0) HO3.out HO4.out HF3.out) oM _ _ _ _ _ _ _ _ _ _ _) oM,qO hB3 oM _ _ _ _ _ _ _ _ _ _ _⟩
theorem fKj (x:Value) (d:Jrn) (w:World) (hx:jrnR.V w x d) (hn:mP d≤1048576) :
  Calls Tryz.prog 13 #[x] w (JrE w (repD d)):=by
 obtain⟨a0,c0,b1,d1,b2,d2,rfl,hbs,hlg⟩:=qI hx;have hnl:gM d.log≤1048576:=by unfold mP at hn;omega
 have HN:Hid (bW w fun W=>Calls Tryz.prog 34 #[.int .i64 d.idx,.slice a0 d.start.length c0] W fun e w'=>∃v F,e =.returned v∧shdRR.O w' W.heap.size F v (newD d.idx d.start)∧Below W.heap.size W w'):=fun W hW=>fMf _ _ d.start W (balsR.below hbs hW) (by unfold mP pM at hn;omega)
 have HE:Hid (bW w fun W=>Calls Tryz.prog 35 #[.agg #[.int .i64 d.idx,.slice a0 d.start.length c0,.slice b1 d.log.synced.length d1,.slice b2 d.log.loose.length d2]] W fun e w'=>∃v F,e =.returned v∧evtsRR.O w' W.heap.size F v (evsD d.log)∧Below W.heap.size W w'):=fun W hW=>fSt _ d W (jrnR.below hx hW) hnl
 have HC:Hid (bW w fun W=>Calls Tryz.prog 37 #[.agg #[.int .i64 d.idx,.slice a0 d.start.length c0,.slice b1 d.log.synced.length d1,.slice b2 d.log.loose.length d2]] W fun e w'=>∃v F,e =.returned v∧jrnR.O w' W.heap.size F v d∧Below W.heap.size W w'):=fun W hW=>fL2 _ d W (jrnR.below hx hW) hn
 have HDo:Hid (∀W y z s e,shdR.V W y s→evtR.V W z e→Calls Tryz.prog 36 #[y,z] W (rP W (doE s e))):=fun W y z s e h1 h2=>fU3 y z s e W h1 h2
 have HE1:Hid (∀c,(repT d).code=c→¬c=0→repD d=errJ c):=fun c h hc=>fO0 h hc
 have HE2:Hid (∀T:ShdR,repT d=T→T.code=0→repD d=⟨0,d,T.shard⟩):=fun T h h0=>fTo (by rw[h];exact h0) (by rw[h])
 obtain⟨n0,hn0⟩:∃n0,d.start.length=n0:=⟨_,rfl⟩
 obtain⟨n1,hn1⟩:∃n1,d.log.synced.length=n1:=⟨_,rfl⟩
 obtain⟨n2,hn2⟩:∃n2,d.log.loose.length=n2:=⟨_,rfl⟩
 have HNN:Hid (d.start.length=n0∧d.log.synced.length=n1∧d.log.loose.length=n2):=⟨hn0,hn1,hn2⟩;generalize repD d=Z at *;have HT1:Hid (¬(newD d.idx d.start).code=0→(repT d).code=(newD d.idx d.start).code):=fun h=>by show _=_;unfold repT;rw[if_neg h]
 have HT2:Hid ((newD d.idx d.start).code=0→¬(evsD d.log).code=0→(repT d).code=(evsD d.log).code):=fun h h1=>by show _=_;unfold repT;rw[if_pos h,if_neg h1];rfl
 have HT3:Hid ((newD d.idx d.start).code=0→(evsD d.log).code=0→repT d=repE (newD d.idx d.start) (evsD d.log).evts):=fun h h1=>by show _=_;unfold repT;rw[if_pos h,if_pos h1]
 clear hbs hlg hn hnl hx;rw[hn0,hn1,hn2] at HE HC ⊢;rw[hn0] at HN;clear hn0 hn1 hn2;obtain⟨N0,hN0⟩:∃N0,newD d.idx d.start=N0:=⟨_,rfl⟩
 rw[hN0] at HN HT1 HT2 HT3;clear hN0;obtain⟨E0,hE0⟩:∃E0,evsD d.log=E0:=⟨_,rfl⟩
 rw[hE0] at HE HT2 HT3;clear hE0;obtain⟨ec,es⟩:=E0;obtain⟨nc,nv,ns⟩:=N0;dsimp only at HT1 HT2 HT3;go_enter Tryz.func13,Tryz.ntmps13;go_wp2_with fail;refine(HN.out _ qBq).mono ?_;rintro e w1 ⟨v1,F1,rfl,o1,hb1⟩;obtain⟨p1,p2,p3,p4,p5,m1,m2,m3,m4,m5,q1,q2,q3,q4,q5,rfl⟩:=mD o1;have hB1:=bT w hb1;have y0:w1.cell? ⟨w.heap.size,0,none⟩=some (.int .i64 d.idx):=cK hb1 sG;have y1:w1.cell? ⟨w.heap.size,1,none⟩=some (.slice a0 n0 c0):=cK hb1 sG;have y2:w1.cell? ⟨w.heap.size,2,none⟩=some (.slice b1 n1 d1):=cK hb1 sG;have y3:w1.cell? ⟨w.heap.size,3,none⟩=some (.slice b2 n2 d2):=cK hb1 sG;have r0:w1.cell? ⟨w.heap.size+1,0,none⟩=some (.int .i64 0):=cK hb1 sG;have r1:w1.cell? ⟨w.heap.size+1,1,none⟩=some (.int .i64 0):=cK hb1 sG;have r2:w1.cell? ⟨w.heap.size+1,2,none⟩=some (.slice none 0 0):=cK hb1 sG;have r3:w1.cell? ⟨w.heap.size+1,3,none⟩=some (.slice none 0 0):=cK hb1 sG;have r4:w1.cell? ⟨w.heap.size+1,4,none⟩=some (.slice none 0 0):=cK hb1 sG;have r5:w1.cell? ⟨w.heap.size+1,5,none⟩=some (.int .i64 0):=cK hb1 sG;have r6:w1.cell? ⟨w.heap.size+1,6,none⟩=some (.slice none 0 0):=cK hb1 sG;have r7:w1.cell? ⟨w.heap.size+1,7,none⟩=some (.slice none 0 0):=cK hb1 sG;have r8:w1.cell? ⟨w.heap.size+1,8,none⟩=some (.slice none 0 0):=cK hb1 sG;have r9:w1.cell? ⟨w.heap.size+1,9,none⟩=some (.slice none 0 0):=cK hb1 sG;have r10:w1.cell? ⟨w.heap.size+1,10,none⟩=some (.slice none 0 0):=cK hb1 sG;have rf:∀o,w1.frozen? ⟨w.heap.size+1,o,none⟩=false:=fun o=>by rw[(bcell hb1).2 _ _ (by simp;try omega)];simp[go_sem]
 have hz:w.heap.size+2≤w1.heap.size:=by have:=hb1.size;simp at this;omega
 have HO1:Hid (shdR.O w1 (w.heap.size+2) F1 (.agg #[.int .i64 ns.idx,.slice p1 m1 q1,.slice p2 m2 q2,.slice p3 m3 q3,.slice p4 m4 q4,.slice p5 m5 q5]) ns):=shdR.base (yL o1) (by simp);clear o1 hb1 HN;have z0:w.heap.size<w1.heap.size:=oM;have z1:w.heap.size+1<w1.heap.size:=oM;by_cases hnc:nc=0;rotate_left
 ·
  have HD:Hid (Z=errJ nc):=HE1.out _ (HT1.out hnc) hnc;have hd:(nc !=0)=true:=by simp[hnc]
  clear HT1 HT2 HT3 HE HC HDo HO1 HE1 HE2 hnc;go_wp2;refine bodyPost_ret (v:=.agg #[.int .i64 nc,.int .i64 0,.slice none 0 0,.slice none 0 0,.slice none 0 0,.int .i64 0,.slice none 0 0,.slice none 0 0,.slice none 0 0,.slice none 0 0,.slice none 0 0]) (by simp[results,Tryz.results13,go_sem,r0,r1,r2,r3,r4,r5,r6,r7,r8,r9,r10,rf,z1]) rfl (zF HD.out ?_);have hbR:w.heap.size≤w.heap.size+1:=oM;first|exact bA (qO hB1 hbR _ _ _ _ _ _ _ _ _ _ _) _|exact qO (bA hB1 _) hbR _ _ _ _ _ _ _ _ _ _ _
 subst hnc;have HT2':Hid _:=HT2.out rfl;have HT3':Hid _:=HT3.out rfl;clear HT1 HT2 HT3;go_wp2_with fail;refine(HE.out _ qBq).mono ?_;rintro e w2 ⟨v2,F2,rfl,o2,hb2⟩;obtain⟨u2,F3,rfl,o2,_⟩:=o2;dsimp only at o2;obtain⟨ae,ce,rfl⟩:=zA (evtsR.ofO o2);have hB2:=bT w hb2;have hb12:=bT w1 hb2;have t0:w2.cell? ⟨w1.heap.size,0,none⟩=some (.int .i64 0):=cK hb2 sG;have t1:w2.cell? ⟨w1.heap.size,1,none⟩=some (.int .i64 nv):=cK hb2 sG;have t2:w2.cell? ⟨w1.heap.size,2,none⟩=some (.int .i64 ns.idx):=cK hb2 sG;have t3:w2.cell? ⟨w1.heap.size,3,none⟩=some (.slice p1 m1 q1):=cK hb2 sG;have t4:w2.cell? ⟨w1.heap.size,4,none⟩=some (.slice p2 m2 q2):=cK hb2 sG;have t5:w2.cell? ⟨w1.heap.size,5,none⟩=some (.slice p3 m3 q3):=cK hb2 sG;have t6:w2.cell? ⟨w1.heap.size,6,none⟩=some (.slice p4 m4 q4):=cK hb2 sG;have t7:w2.cell? ⟨w1.heap.size,7,none⟩=some (.slice p5 m5 q5):=cK hb2 sG;have tf:∀o,w2.frozen? ⟨w1.heap.size,o,none⟩=false:=fun o=>by rw[(bcell hb2).2 _ _ (by simp;try omega)];simp[go_sem]
 have z4:w1.heap.size<w2.heap.size:=by have:=hb2.size;simp at this;omega
 have HOE:Hid (evtsR.O w2 (w1.heap.size+1) F3 (.slice ae es.length ce) es):=evtsR.base o2 (by simp);have HO2:Hid (shdR.O w2 (w.heap.size+2) F1 (.agg #[.int .i64 ns.idx,.slice p1 m1 q1,.slice p2 m2 q2,.slice p3 m3 q3,.slice p4 m4 q4,.slice p5 m5 q5]) ns):=shdR.keep HO1.out hb12;have HF1:Hid (∀b,F1 b→b<w1.heap.size):=fun b hb=>(shdR.rng HO1.out b hb).2
 replace y0:=cK hb12 y0;replace y1:=cK hb12 y1;replace y2:=cK hb12 y2;replace y3:=cK hb12 y3;replace r0:=cK hb12 r0;replace r1:=cK hb12 r1;replace r2:=cK hb12 r2;replace r3:=cK hb12 r3;replace r4:=cK hb12 r4;replace r5:=cK hb12 r5;replace r6:=cK hb12 r6;replace r7:=cK hb12 r7;replace r8:=cK hb12 r8;replace r9:=cK hb12 r9;replace r10:=cK hb12 r10;replace rf:∀o,w2.frozen? ⟨w.heap.size+1,o,none⟩=false:=fun o=>by rw[(bcell hb12).2 _ _ z1];exact rf o
 clear o2 hb2 HE HO1 hB1;have zz1:w.heap.size+1<w2.heap.size:=oM;by_cases hec:ec=0;rotate_left
 ·
  have HD:Hid (Z=errJ ec):=HE1.out _ (HT2'.out hec) hec;have hd:(ec !=0)=true:=by simp[hec]
  clear HT2' HT3' HDo HO2 HOE HF1 HC HE1 HE2 hec;generalize es.length=ne at *;go_wp2;refine bodyPost_ret (v:=.agg #[.int .i64 ec,.int .i64 0,.slice none 0 0,.slice none 0 0,.slice none 0 0,.int .i64 0,.slice none 0 0,.slice none 0 0,.slice none 0 0,.slice none 0 0,.slice none 0 0]) (by simp[results,Tryz.results13,go_sem,r0,r1,r2,r3,r4,r5,r6,r7,r8,r9,r10,rf,zz1]) rfl (zF HD.out ?_);have hbR:w.heap.size≤w.heap.size+1:=oM;first|exact bA (qO hB2 hbR _ _ _ _ _ _ _ _ _ _ _) _|exact qO (bA hB2 _) hbR _ _ _ _ _ _ _ _ _ _ _
 subst hec;have HT:Hid (repT d=repE ⟨0,nv,ns⟩ es):=HT3'.out rfl;clear HT2' HT3' hb12;obtain⟨N0,hN0⟩:∃N0:ShdR,N0=⟨0,nv,ns⟩:=⟨_,rfl⟩
 have HN0:Hid (N0=⟨0,nv,ns⟩):=hN0;rw[←hN0] at HT;clear hN0;have HTk:Hid (∀k,k<es.length→(repE N0 (es.take k)).code=0→repE N0 (es.take (k+1))=doE (repE N0 (es.take k)).shard (es.getD k default)):=fun k hk h=>fK7 hk (by rw[HN0.out]) h
 have HTc:Hid (∀k,¬(repE N0 (es.take k)).code=0→repE N0 es=repE N0 (es.take k)):=fun k h=>fO1 (by rw[HN0.out]) h
 have HTe:Hid (repE N0 (es.take es.length)=repE N0 es):=by show _=_;rw[List.take_length]
 have HTz:Hid (repE N0 (es.take 0)=N0):=rfl;have HEv:Hid (∀W,Mod (fun b=>b=w1.heap.size) w2 W→∀k,k<es.length→∃b o p q,ae=some ⟨b,o,none⟩∧(W.cell? ⟨b,o+k*4,none⟩=some (.bool (es.getD k default).vote)∧W.cell? ⟨b,o+k*4+1,none⟩=some (.int .i64 (es.getD k default).con.id)∧W.cell? ⟨b,o+k*4+2,none⟩=some (.slice p (es.getD k default).con.legs.length q)∧W.cell? ⟨b,o+k*4+3,none⟩=some (.int .i64 (es.getD k default).out))∧evtR.V W (.agg #[.bool (es.getD k default).vote,.int .i64 (es.getD k default).con.id,.slice p (es.getD k default).con.legs.length q,.int .i64 (es.getD k default).out]) (es.getD k default)):=fun W hW=>by
  have h:=evtsR.ofO (evtsR.mod HOE.out hW (fun b hb e=>by have:=(evtsR.rng HOE.out b hb).1;omega));obtain⟨a,c,e1,_,_,h2⟩:=fIi h;simp only[Value.slice.injEq,true_and] at e1;obtain⟨rfl,rfl⟩:=e1;exact h2
 obtain⟨ne,hne⟩:∃ne,es.length=ne:=⟨_,rfl⟩
 have hnec:ne≤ce∧ce≤maxLen:=by
  obtain⟨a,c,e1,h1,h2,_⟩:=fIi (evtsR.ofO HOE.out);simp only[Value.slice.injEq,true_and] at e1;obtain⟨rfl,rfl⟩:=e1;exact⟨oM,h2⟩
 unfold maxLen at hnec;rw[hne] at HTk HTe HEv ⊢;clear HOE hne;go_wp2;obtain⟨W1,hW1⟩:∃W1,W1=w2.alloc (.cells #[.int .i64 0,.slice ae ne ce] 80):=⟨_,rfl⟩
 have hb21:Below w2.heap.size w2 W1:=by rw[hW1];exact qBq
 have hz2:w2.heap.size<W1.heap.size:=by rw[hW1];simp
 rw[←hW1];clear hW1;replace t0:=cK hb21 t0;replace t1:=cK hb21 t1;replace t2:=cK hb21 t2;replace t3:=cK hb21 t3;replace t4:=cK hb21 t4;replace t5:=cK hb21 t5;replace t6:=cK hb21 t6;replace t7:=cK hb21 t7;replace tf:∀o,W1.frozen? ⟨w1.heap.size,o,none⟩=false:=fun o=>by rw[(bcell hb21).2 _ _ z4];exact tf o
 replace y0:=cK hb21 y0;replace y1:=cK hb21 y1;replace y2:=cK hb21 y2;replace y3:=cK hb21 y3;replace r0:=cK hb21 r0;replace r1:=cK hb21 r1;replace r2:=cK hb21 r2;replace r3:=cK hb21 r3;replace r4:=cK hb21 r4;replace r5:=cK hb21 r5;replace r6:=cK hb21 r6;replace r7:=cK hb21 r7;replace r8:=cK hb21 r8;replace r9:=cK hb21 r9;replace r10:=cK hb21 r10;replace rf:∀o,W1.frozen? ⟨w.heap.size+1,o,none⟩=false:=fun o=>by rw[(bcell hb21).2 _ _ zz1];exact rf o
 have HOs:Hid (shdR.O W1 (w.heap.size+2) F1 (.agg #[.int .i64 ns.idx,.slice p1 m1 q1,.slice p2 m2 q2,.slice p3 m3 q3,.slice p4 m4 q4,.slice p5 m5 q5]) ns):=shdR.keep HO2.out hb21;have hBW:Below w.heap.size w W1:=bS hB2 hb21;have HM21:Hid (Mod (fun b=>b=w1.heap.size) w2 W1):=Mod.of_below hb21;clear hb21 HO2 hB2;go_loopw [29] (fun i w'=>∃(k:Nat) (T:ShdR) (p1 p2 p3 p4 p5:Option Addr) (m1 q1 m2 q2 m3 q3 m4 q4 m5 q5:Nat) (F:Nat→Prop),k≤ne∧i =.int .i64 k∧Hid (repE N0 (es.take k)=T∧T.code=0)∧Hid (shdR.O w' (w.heap.size+2) F (.agg #[.int .i64 T.shard.idx,.slice p1 m1 q1,.slice p2 m2 q2,.slice p3 m3 q3,.slice p4 m4 q4,.slice p5 m5 q5]) T.shard∧∀b,F b→¬b=w1.heap.size)∧Hid (Mod (fun b=>b=w1.heap.size) W1 w')∧w'.cell? ⟨w1.heap.size,0,none⟩=some (.int .i64 0)∧w'.cell? ⟨w1.heap.size,1,none⟩=some (.int .i64 T.vote)∧w'.cell? ⟨w1.heap.size,2,none⟩=some (.int .i64 T.shard.idx)∧w'.cell? ⟨w1.heap.size,3,none⟩=some (.slice p1 m1 q1)∧w'.cell? ⟨w1.heap.size,4,none⟩=some (.slice p2 m2 q2)∧w'.cell? ⟨w1.heap.size,5,none⟩=some (.slice p3 m3 q3)∧w'.cell? ⟨w1.heap.size,6,none⟩=some (.slice p4 m4 q4)∧w'.cell? ⟨w1.heap.size,7,none⟩=some (.slice p5 m5 q5)∧(∀o,w'.frozen? ⟨w1.heap.size,o,none⟩=false)) (fun i _=>ne-(intOf i).toNat)
 case atStart=>exact⟨0,⟨0,nv,ns⟩,p1,p2,p3,p4,p5,m1,q1,m2,q2,m3,q3,m4,q4,m5,q5,F1,Nat.zero_le _,rfl,⟨by rw[HTz.out,HN0.out],rfl⟩,⟨HOs.out,fun b hb=>by have:=HF1.out b hb;omega⟩,Mod.refl _ _,t0,t1,t2,t3,t4,t5,t6,t7,tf⟩
 clear HOs t0 t1 t2 t3 t4 t5 t6 t7 tf;obtain⟨k,T,p1,p2,p3,p4,p5,m1,q1,m2,q2,m3,q3,m4,q4,m5,q5,F,hk,rfl,HTT,HOT,HM,t0,t1,t2,t3,t4,t5,t6,t7,tf⟩:=hrel;have zr:W1.heap.size≤wr.heap.size:=HM.out.size;have hBr:Below w.heap.size w wr:=HM.out.below hBW hBW.size (fun b e=>by rw[e];omega);have zt:w1.heap.size<wr.heap.size:=oM;have z2r:w2.heap.size<wr.heap.size:=oM;by_cases hlt:k<ne
 ·
  obtain⟨bx,ox,pe,qe,rfl,⟨g0,g1,g2,g3⟩,hVe⟩:=HEv.out wr (HM21.out.trans HM.out) k hlt;have hTk:=HTk.out k hlt;obtain⟨l,hl⟩:∃l,l=es.getD k default:=⟨_,rfl⟩
  rw[←hl] at g0 g1 g2 g3 hVe hTk;clear hl;have HTn:Hid (repE N0 (es.take (k+1))=doE T.shard l):=by show _=_;rw[hTk (by rw[HTT.out.1];exact HTT.out.2),HTT.out.1]
  clear hTk;have HCd:Hid (bW wr fun W=>Calls Tryz.prog 36 #[.agg #[.int .i64 T.shard.idx,.slice p1 m1 q1,.slice p2 m2 q2,.slice p3 m3 q3,.slice p4 m4 q4,.slice p5 m5 q5],.agg #[.bool l.vote,.int .i64 l.con.id,.slice pe l.con.legs.length qe,.int .i64 l.out]] W (rP W (doE T.shard l))):=fun W hW=>HDo.out W _ _ _ _ (shdR.below (shdR.ofO HOT.out.1) hW) (evtR.below hVe hW)
  clear hVe;generalize hle:l.con.legs.length=le at *;clear hle;have zb:bx<wr.heap.size:=wL wr _ g0;have k1:(k:Int)<ne:=oM;have k2:(0:Int)≤k:=oM;go_wp2_with fail;refine(HCd.out _ qBq).mono ?_;rintro e' w3 ⟨v3,F4,rfl,o3,hb3⟩;obtain⟨T2,hT2⟩:∃T2,doE T.shard l=T2:=⟨_,rfl⟩
  rw[hT2] at o3 HTn;clear hT2;obtain⟨tc,tv,ts⟩:=T2;obtain⟨x1,x2,x3,x4,x5,h1,h2,h3,h4,h5,i1,i2,i3,i4,i5,rfl⟩:=mD o3;have hbr3:=bT wr hb3;have HO3:Hid (shdR.O w3 (w.heap.size+2) F4 (.agg #[.int .i64 ts.idx,.slice x1 h1 i1,.slice x2 h2 i2,.slice x3 h3 i3,.slice x4 h4 i4,.slice x5 h5 i5]) ts):=shdR.base (yL o3) (by simp;omega);have HF4:Hid (∀b,F4 b→¬b=w1.heap.size):=fun b hb=>by have:=(shdRR.rng o3 b hb).1;simp at this;omega
  replace t0:=cK hbr3 t0;replace t1:=cK hbr3 t1;replace t2:=cK hbr3 t2;replace t3:=cK hbr3 t3;replace t4:=cK hbr3 t4;replace t5:=cK hbr3 t5;replace t6:=cK hbr3 t6;replace t7:=cK hbr3 t7;replace tf:∀o,w3.frozen? ⟨w1.heap.size,o,none⟩=false:=fun o=>by rw[(bcell hbr3).2 _ _ zt];exact tf o
  clear hb3 o3 HCd g0 g1 g2 g3;obtain⟨W2,hW2⟩:∃W2,W2=((((((((w3.setCell ⟨w1.heap.size,0,none⟩ (.int .i64 tc)).setCell ⟨w1.heap.size,1,none⟩ (.int .i64 tv)).setCell ⟨w1.heap.size,2,none⟩ (.int .i64 ts.idx)).setCell ⟨w1.heap.size,3,none⟩ (.slice x1 h1 i1)).setCell ⟨w1.heap.size,4,none⟩ (.slice x2 h2 i2)).setCell ⟨w1.heap.size,5,none⟩ (.slice x3 h3 i3)).setCell ⟨w1.heap.size,6,none⟩ (.slice x4 h4 i4)).setCell ⟨w1.heap.size,7,none⟩ (.slice x5 h5 i5)):=⟨_,rfl⟩
  have HM3:Hid (Mod (fun b=>b=w1.heap.size) W1 W2):=by
   rw[hW2];exact(HM.out.trans (Mod.of_below hbr3)).trans ((((((((Mod.of_set w3 ⟨w1.heap.size,0,none⟩ _).trans (Mod.of_set _ ⟨w1.heap.size,1,none⟩ _)).trans (Mod.of_set _ ⟨w1.heap.size,2,none⟩ _)).trans (Mod.of_set _ ⟨w1.heap.size,3,none⟩ _)).trans (Mod.of_set _ ⟨w1.heap.size,4,none⟩ _)).trans (Mod.of_set _ ⟨w1.heap.size,5,none⟩ _)).trans (Mod.of_set _ ⟨w1.heap.size,6,none⟩ _)).trans (Mod.of_set _ ⟨w1.heap.size,7,none⟩ _))
  have HO4:Hid (shdR.O W2 (w.heap.size+2) F4 (.agg #[.int .i64 ts.idx,.slice x1 h1 i1,.slice x2 h2 i2,.slice x3 h3 i3,.slice x4 h4 i4,.slice x5 h5 i5]) ts):=by
   rw[hW2];exact vD shdR HO3.out (fun h=>HF4.out _ h rfl) _ _ _ _ _ _ _ _
  have nt0:W2.cell? ⟨w1.heap.size,0,none⟩=some (.int .i64 tc):=by rw[hW2];simp[go_sem,t0,t1,t2,t3,t4,t5,t6,t7,tf]
  have nt1:W2.cell? ⟨w1.heap.size,1,none⟩=some (.int .i64 tv):=by rw[hW2];simp[go_sem,t0,t1,t2,t3,t4,t5,t6,t7,tf]
  have nt2:W2.cell? ⟨w1.heap.size,2,none⟩=some (.int .i64 ts.idx):=by rw[hW2];simp[go_sem,t0,t1,t2,t3,t4,t5,t6,t7,tf]
  have nt3:W2.cell? ⟨w1.heap.size,3,none⟩=some (.slice x1 h1 i1):=by rw[hW2];simp[go_sem,t0,t1,t2,t3,t4,t5,t6,t7,tf]
  have nt4:W2.cell? ⟨w1.heap.size,4,none⟩=some (.slice x2 h2 i2):=by rw[hW2];simp[go_sem,t0,t1,t2,t3,t4,t5,t6,t7,tf]
  have nt5:W2.cell? ⟨w1.heap.size,5,none⟩=some (.slice x3 h3 i3):=by rw[hW2];simp[go_sem,t0,t1,t2,t3,t4,t5,t6,t7,tf]
  have nt6:W2.cell? ⟨w1.heap.size,6,none⟩=some (.slice x4 h4 i4):=by rw[hW2];simp[go_sem,t0,t1,t2,t3,t4,t5,t6,t7,tf]
  have nt7:W2.cell? ⟨w1.heap.size,7,none⟩=some (.slice x5 h5 i5):=by rw[hW2];simp[go_sem,t0,t1,t2,t3,t4,t5,t6,t7,tf]
  have tf2:∀o,W2.frozen? ⟨w1.heap.size,o,none⟩=false:=fun o=>by rw[hW2];simp[go_sem,tf]
  have z3:w1.heap.size<W2.heap.size:=by have:=HM3.out.size;omega
  have HW2:Hid (W2=((((((((w3.setCell ⟨w1.heap.size,0,none⟩ (.int .i64 tc)).setCell ⟨w1.heap.size,1,none⟩ (.int .i64 tv)).setCell ⟨w1.heap.size,2,none⟩ (.int .i64 ts.idx)).setCell ⟨w1.heap.size,3,none⟩ (.slice x1 h1 i1)).setCell ⟨w1.heap.size,4,none⟩ (.slice x2 h2 i2)).setCell ⟨w1.heap.size,5,none⟩ (.slice x3 h3 i3)).setCell ⟨w1.heap.size,6,none⟩ (.slice x4 h4 i4)).setCell ⟨w1.heap.size,7,none⟩ (.slice x5 h5 i5))):=hW2;clear hW2 HO3;by_cases htc:tc=0
  ·subst htc;go_wp2;rw[←HW2.out];exact⟨⟨k+1,⟨0,tv,ts⟩,x1,x2,x3,x4,x5,h1,i1,h2,i2,h3,i3,h4,i4,h5,i5,F4,by omega,by go_num,⟨HTn.out,rfl⟩,⟨HO4.out,HF4.out⟩,HM3,nt0,nt1,nt2,nt3,nt4,nt5,nt6,nt7,tf2⟩,mI⟩
  have HD:Hid (Z=errJ tc):=HE1.out _ (by rw[HT.out,HTc.out (k+1) (by rw[HTn.out];exact htc),HTn.out]) htc;have hd:(tc !=0)=true:=by simp[htc]
  have hBz:Below w.heap.size w w3:=HM.out.below hBW hBW.size (fun b e=>by rw[e];omega) |>.trans (hbr3.mono oM)
  have hM3:Mod (fun b=>b=w1.heap.size) W1 w3:=HM.out.trans (Mod.of_below hbr3);replace r0:=hM3.cell r0 (by dsimp only;omega);replace r1:=hM3.cell r1 (by dsimp only;omega);replace r2:=hM3.cell r2 (by dsimp only;omega);replace r3:=hM3.cell r3 (by dsimp only;omega);replace r4:=hM3.cell r4 (by dsimp only;omega);replace r5:=hM3.cell r5 (by dsimp only;omega);replace r6:=hM3.cell r6 (by dsimp only;omega);replace r7:=hM3.cell r7 (by dsimp only;omega);replace r8:=hM3.cell r8 (by dsimp only;omega);replace r9:=hM3.cell r9 (by dsimp only;omega);replace r10:=hM3.cell r10 (by dsimp only;omega);replace rf:∀o,w3.frozen? ⟨w.heap.size+1,o,none⟩=false:=fun o=>by rw[hM3.frz10 (a:=⟨w.heap.size+1,o,none⟩) (by dsimp only;omega) (by dsimp only;omega)];exact rf o
  have z31:w.heap.size+1<w3.heap.size:=by have:=hM3.size;omega
  have hne:¬w1.heap.size=w.heap.size+1:=oM;have hne':¬w.heap.size+1=w1.heap.size:=oM;clear htc HTn HO4 HF4 HM3 HTT HOT HM hBr HW2 nt0 nt1 nt2 nt3 nt4 nt5 nt6 nt7 tf2 z3 hM3;go_wp2;refine bodyPost_ret (v:=.agg #[.int .i64 tc,.int .i64 0,.slice none 0 0,.slice none 0 0,.slice none 0 0,.int .i64 0,.slice none 0 0,.slice none 0 0,.slice none 0 0,.slice none 0 0,.slice none 0 0]) (by simp[results,Tryz.results13,go_sem,r0,r1,r2,r3,r4,r5,r6,r7,r8,r9,r10,rf,z31,hne,hne',zt]) rfl (zF HD.out ?_);have hbR:w.heap.size≤w.heap.size+1:=oM;have hbT:w.heap.size≤w1.heap.size:=oM;refine qO ?_ hbR _ _ _ _ _ _ _ _ _ _ _;iterate 8 (refine bset ?_ hbT _)
  exact hBz
 have hkn:k=ne:=oM;subst hkn;have HD:Hid (Z=⟨0,d,T.shard⟩):=HE2.out T (by rw[HT.out,←HTe.out,HTT.out.1]) HTT.out.2;have k1:¬(k:Int)<(k:Int):=oM;replace r0:=HM.out.cell r0 (by dsimp only;omega);replace r1:=HM.out.cell r1 (by dsimp only;omega);replace r2:=HM.out.cell r2 (by dsimp only;omega);replace r3:=HM.out.cell r3 (by dsimp only;omega);replace r4:=HM.out.cell r4 (by dsimp only;omega);replace r5:=HM.out.cell r5 (by dsimp only;omega);replace r6:=HM.out.cell r6 (by dsimp only;omega);replace r7:=HM.out.cell r7 (by dsimp only;omega);replace r8:=HM.out.cell r8 (by dsimp only;omega);replace r9:=HM.out.cell r9 (by dsimp only;omega);replace r10:=HM.out.cell r10 (by dsimp only;omega);replace y0:=HM.out.cell y0 (by dsimp only;omega);replace y1:=HM.out.cell y1 (by dsimp only;omega);replace y2:=HM.out.cell y2 (by dsimp only;omega);replace y3:=HM.out.cell y3 (by dsimp only;omega);replace rf:∀o,wr.frozen? ⟨w.heap.size+1,o,none⟩=false:=fun o=>by rw[HM.out.frz10 (a:=⟨w.heap.size+1,o,none⟩) (by dsimp only;omega) (by dsimp only;omega)];exact rf o
 have HO5:Hid (shdR.O wr (w.heap.size+2) F (.agg #[.int .i64 T.shard.idx,.slice p1 m1 q1,.slice p2 m2 q2,.slice p3 m3 q3,.slice p4 m4 q4,.slice p5 m5 q5]) T.shard):=HOT.out.1;have HF5:Hid (∀b,F b→b<wr.heap.size):=fun b hb=>(shdR.rng HO5.out b hb).2
 have hbd:Below wr.heap.size wr wr.drew:=Below.drew (bR _ _);clear HTT HOT HM HEv HTk HTc HE1 HE2 HDo;go_wp2;refine wp_region_noPanic ?_;refine fB (fun W=>Below wr.heap.size wr W∧W.cell? ⟨w.heap.size,0,none⟩=some (.int .i64 d.idx)∧W.cell? ⟨w.heap.size,1,none⟩=some (.slice a0 n0 c0)∧W.cell? ⟨w.heap.size,2,none⟩=some (.slice b1 n1 d1)∧W.cell? ⟨w.heap.size,3,none⟩=some (.slice b2 n2 d2)∧W.cell? ⟨w1.heap.size,0,none⟩=some (.int .i64 0)∧W.cell? ⟨w1.heap.size,1,none⟩=some (.int .i64 T.vote)∧W.cell? ⟨w1.heap.size,2,none⟩=some (.int .i64 T.shard.idx)∧W.cell? ⟨w1.heap.size,3,none⟩=some (.slice p1 m1 q1)∧W.cell? ⟨w1.heap.size,4,none⟩=some (.slice p2 m2 q2)∧W.cell? ⟨w1.heap.size,5,none⟩=some (.slice p3 m3 q3)∧W.cell? ⟨w1.heap.size,6,none⟩=some (.slice p4 m4 q4)∧W.cell? ⟨w1.heap.size,7,none⟩=some (.slice p5 m5 q5)) 5 kF ⟨hbd,cK hbd y0,cK hbd y1,cK hbd y2,cK hbd y3,cK hbd t0,cK hbd t1,cK hbd t2,cK hbd t3,cK hbd t4,cK hbd t5,cK hbd t6,cK hbd t7⟩ (fun hS=>?_);refine tY 0 ?_;refine tY 2 ?_;refine tY 3 ?_;refine uS 1 rfl (fun K hK=>?_);go_simp;refine(HC.out _ (bS hBr hS.1)).mono ?_;rintro e' w3 ⟨v3,F6,rfl,o3,hb3⟩;obtain⟨g0,h0,g1,h1,g2,h2,rfl⟩:=fEz o3;have hS2:=And.intro (bS hS.1 hb3) (kS12 hb3 hS.2);have hbq3:Below wr.heap.size wr w3:=hS2.1;have HO3:Hid (jrnR.O w3 (w.heap.size+2) F6 (.agg #[.int .i64 d.idx,.slice g0 d.start.length h0,.slice g1 d.log.synced.length h1,.slice g2 d.log.loose.length h2]) d):=jrnR.base o3 (by have:=hS.1.size;omega);have HF3:Hid (∀b,F6 b→¬F b):=fun b h1 h2=>by have:=(jrnR.rng o3 b h1).1;have:=HF5.out b h2;have:=hS.1.size;omega
 have HO4:Hid (shdR.O w3 (w.heap.size+2) F (.agg #[.int .i64 T.shard.idx,.slice p1 m1 q1,.slice p2 m2 q2,.slice p3 m3 q3,.slice p4 m4 q4,.slice p5 m5 q5]) T.shard):=shdR.keep HO5.out hbq3;rw[HNN.out.1,HNN.out.2.1,HNN.out.2.2] at HO3 ⊢;replace r0:=cK hbq3 r0;replace r1:=cK hbq3 r1;replace r2:=cK hbq3 r2;replace r3:=cK hbq3 r3;replace r4:=cK hbq3 r4;replace r5:=cK hbq3 r5;replace r6:=cK hbq3 r6;replace r7:=cK hbq3 r7;replace r8:=cK hbq3 r8;replace r9:=cK hbq3 r9;replace r10:=cK hbq3 r10;replace rf:∀o,w3.frozen? ⟨w.heap.size+1,o,none⟩=false:=fun o=>by rw[(bcell hbq3).2 _ _ oM];exact rf o
 have hB3:Below w.heap.size w w3:=hBr.trans (hbq3.mono oM);refine hK _ _ (fun _=>hS2) ?_;clear hK K hS hb3 o3 HC HO5 HF5;try simp only[jX]
 refine tY 4 ?_;refine uS 5 rfl (fun K hK=>?_);go_simp;refine hK _ _ (fun h=>absurd rfl h) ?_;clear hK K hS2 y0 y1 y2 y3 t0 t1 t2 t3 t4 t5 t6 t7 tf;refine dP ?_;go_wp2;refine bodyPost_ret (v:=.agg #[.int .i64 0,.int .i64 d.idx,.slice g0 n0 h0,.slice g1 n1 h1,.slice g2 n2 h2,.int .i64 T.shard.idx,.slice p1 m1 q1,.slice p2 m2 q2,.slice p3 m3 q3,.slice p4 m4 q4,.slice p5 m5 q5]) (by simp[results,Tryz.results13,go_sem,r0,r1,r2,r3,r4,r5,r6,r7,r8,r9,r10,rf]) rfl ?_;rw[HD.out];exact⟨_,_,rfl,jrnRR.base (fVv jrnRR (fIx (c:=0) HO3.out HO4.out HF3.out) oM _ _ _ _ _ _ _ _ _ _ _) oM,qO hB3 oM _ _ _ _ _ _ _ _ _ _ _⟩
theorem fMo {w:World} {base:Nat} {F:Nat→Prop} {v:Value} {r:JrnR} (h:jrnRR.O w base F v r):∃u0 u1 u2 s1 s2 s3 s4 s5,v =.agg #[.int .i64 r.code,.int .i64 r.jrn.idx,u0,u1,u2,.int .i64 r.shard.idx,s1,s2,s3,s4,s5]:=by
 obtain⟨u0,u1,u2,s1,s2,s3,s4,s5,F1,F2,rfl,_⟩:=h;exact⟨_,_,_,_,_,_,_,_,rfl⟩
theorem fTn (d:Jrn):(repD d).code=(repT d).code:=by
 unfold repD;split
 ·rename_i h;rw[h]
 rfl
theorem fQe (x:Value) (d:Jrn) (w:World) (hx:jrnR.V w x d) (hn:mP d≤1048576) :
  RI 10 #[x] w (.int .i64 (repT d).code):=by
 have HR:Hid (bW w fun W=>Calls Tryz.prog 13 #[x] W (JrE W (repD d))):=fun W hW=>fKj x d W (jrnR.below hx hW) hn
 obtain⟨a0,c0,b1,d1,b2,d2,rfl,_,_⟩:=qI hx;clear hx hn;generalize d.start.length=n0 at *;generalize d.log.synced.length=n1 at *;generalize d.log.loose.length=n2 at *;go_enter Tryz.func10,Tryz.ntmps10;go_wp2_with fail;refine(HR.out _ qBq).mono ?_;rintro e w1 ⟨v1,F1,rfl,o1,hb1⟩;obtain⟨u0,u1,u2,s1,s2,s3,s4,s5,rfl⟩:=fMo o1;have hB1:=bT w hb1;rw[fTn];have hfd:∀w:World,(Instr.field 43 (.agg #[.int .i64 (repT d).code,.int .i64 (repD d).jrn.idx,u0,u1,u2,.int .i64 (repD d).shard.idx,s1,s2,s3,s4,s5]) 0).run Tryz.prog w =.ok (.int .i64 (repT d).code) w:=fun _=>kF
 clear o1 hb1 HR;go_wp2;go_ret;exact⟨rfl,hB1⟩
end
section
variable [dQ Bal] [iH Bal] [dQ Logg] [iH Logg] [dQ Jrn] [iH Jrn] [dQ Mrk] [iH Mrk] [dQ Leg] [iH Leg] [dQ Cont] [iH Cont] [dQ Shd] [iH Shd] [dQ JrnR] [iH JrnR] [dQ Evt] [iH Evt] [dQ EvtsR] [iH EvtsR] [dQ EvtR] [iH EvtR] [dQ BytesR] [iH BytesR] [dQ ContR] [iH ContR] [dQ LoggR] [iH LoggR] [dQ RecsR] [iH RecsR] [dQ Rw] [iH Rw] [dQ Ledg] [iH Ledg] [dQ LedgR] [iH LedgR] [dQ OutcR] [iH OutcR] [dQ ShdR] [iH ShdR]
theorem fV7 (s:Shd) (e:Evt):vY (doE s e).shard≤12000:=by
 unfold doE;split
 ·
  have h:vT (rO s e.con)≤2000:=fV2 _ _;have h2:vY (rO s e.con).shard≤vT (rO s e.con):=by unfold vT;omega
  omega
 have h:vT (kW s e.con.id e.out)≤12000:=fP0 _ _ _;have h2:vY (kW s e.con.id e.out).shard≤vT (kW s e.con.id e.out):=by unfold vT;omega
 omega
theorem fW6 (es:List Evt):∀r:ShdR,vY r.shard≤12000→vY (repE r es).shard≤12000:=by
 induction es with
 | nil=>intro r h;exact h
 | cons e es ih=>
  intro r h;have h1:(repE r (e::es))=if (doE r.shard e).code=0 then repE (doE r.shard e) es else doE r.shard e:=rfl
  rw[h1];split
  ·exact ih _ (fV7 _ _)
  exact fV7 _ _
theorem fFc {i:Int} {bs:List Bal} (h:(newD i bs).code=0):bs.length≤18:=by
 obtain⟨_,_,hb⟩|hb:=fQ5 i bs
 ·
  unfold xV at hb;split at hb
  ·exact(tQ hb).len
  omega
 exact absurd h hb
theorem fCv {d:Jrn} (h:(repT d).code=0):(newD d.idx d.start).code=0∧(evsD d.log).code=0:=by
 by_cases h0:(newD d.idx d.start).code=0
 ·
  refine⟨h0,?_⟩;by_cases h1:(evsD d.log).code=0
  ·exact h1
  exfalso
  unfold repT at h;rw[if_pos h0,if_neg h1] at h;exact h1 h
 exfalso
 unfold repT at h;rw[if_neg h0] at h;exact h0 h
theorem fU9 {l:Logg} (h:(evsD l).code=0):l.synced.length+l.loose.length≤6000:=by
 by_cases h0:logF l=0
 ·
  unfold logF at h0;split at h0
  ·omega
  omega
 exfalso
 unfold evsD at h;rw[if_neg h0] at h;exact absurd h (by decide)
theorem fW7 {d:Jrn} (h:(repT d).code=0):mP d≤6018∧vY (repT d).shard≤12000:=by
 obtain⟨h0,h1⟩:=fCv h;have a:=fFc h0;have b:=fU9 h1;refine⟨by unfold mP pM gM kK;omega,?_⟩;unfold repT;rw[if_pos h0,if_pos h1];refine fW6 _ _ ?_;have e:vT (newD d.idx d.start)≤pM d.start:=fW0 _ _;have e2:vY (newD d.idx d.start).shard≤vT (newD d.idx d.start):=by unfold vT;omega
 unfold pM at e;omega
theorem fL5 (c:Int):fAo (errJ c)=0:=rfl
theorem fW5 (d:Jrn):fAo (repD d)≤20000:=by
 unfold repD;split
 ·rename_i h;have:=fW7 h;show mP d+vY (repT d).shard≤_;omega
 rw[fL5];omega
theorem fSc (d:Jrn) (k:Int):fAo (crsD d k)≤20000:=by
 unfold crsD;split
 ·
  split
  ·exact fW5 _
  rw[fL5];omega
 rw[fL5];omega
end
end Go.Proofs.YtpibfdebfacooaaGreat

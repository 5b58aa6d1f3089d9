import Derived.Test.YtpibfdebfacooaaGreatPrnCrashJournalLaw25
import Derived.Deep.Slices
import Derived.Deep.Strs
set_option maxHeartbeats 8000000
set_option maxRecDepth 100000
set_option linter.unusedSimpArgs false
set_option linter.unusedVariables false
set_option linter.unusedSectionVars false
namespace Go.Proofs.YtpibfdebfacooaaGreat
open Go.RowKit
attribute [local go_sem ↓] Go.wp_at_zero Go.wp_at_succ
section
variable [dQ Bal] [iH Bal] [dQ Logg] [iH Logg] [dQ Jrn] [iH Jrn] [dQ Mrk] [iH Mrk] [dQ Leg] [iH Leg] [dQ Cont] [iH Cont] [dQ Shd] [iH Shd] [dQ JrnR] [iH JrnR] [dQ Evt] [iH Evt] [dQ EvtsR] [iH EvtsR] [dQ EvtR] [iH EvtR] [dQ BytesR] [iH BytesR] [dQ ContR] [iH ContR] [dQ LoggR] [iH LoggR] [dQ RecsR] [iH RecsR] [dQ Rw] [iH Rw] [dQ Ledg] [iH Ledg] [dQ LedgR] [iH LedgR] [dQ OutcR] [iH OutcR] [dQ ShdR] [iH ShdR]
theorem zV {l:Logg} {k:Int} (h:(gD l k).code=0):(gD l k).log.synced.length≤6000∧(fA1 (gD l k).log).code=0∧(fA1 (gD l k).log).log=⟨(gD l k).log.synced.take (recU (gD l k).log.synced),[]⟩:=by
 unfold gD at h ⊢;by_cases h0:logF l=0
 ·
  rw[if_pos h0] at h ⊢;have h0':=h0;unfold logF at h0';by_cases h1:0≤k∧k≤l.loose.length
  ·
   rw[if_pos h1] at h ⊢;have h2:(l.synced++l.loose.take k.toNat).length≤6000:=by
    rw[List.length_append,List.length_take];split at h0'
    ·omega
    omega
   have h3:logF ⟨l.synced++l.loose.take k.toNat,[]⟩=0:=by
    unfold logF;rw[if_neg (by show ¬6000<(l.synced++l.loose.take k.toNat).length+0;omega)]
   refine⟨h2,?_,?_⟩
   ·unfold fA1;rw[if_pos h3]
   unfold fA1;rw[if_pos h3]
  rw[if_neg h1] at h;exact absurd h (by decide)
 rw[if_neg h0] at h;exact absurd h (by decide)
theorem fN6 {l:Logg} {i:Int} {bs:List Bal} {k:Int} (hn:pM bs+gM l≤1048576) (h0:bs.length≤18) (h:(gD l k).code=0):mP ⟨i,bs,⟨(gD l k).log.synced.take (recU (gD l k).log.synced),[]⟩⟩≤1048576:=by
 have h1:=(zV h).1;have h2:((gD l k).log.synced.take (recU (gD l k).log.synced)).length≤6000:=Nat.le_trans (List.length_take_le' _ _) h1;show bs.length+(((gD l k).log.synced.take (recU (gD l k).log.synced)).length+0)≤_;omega
theorem fN7 {d:Jrn} {k c:Int} (h:(repT d).code=c) (hc:¬c=0):crsD d k=errJ c:=by unfold crsD;rw[if_neg (by rw[h];exact hc),h]
theorem fN8 {d:Jrn} {k c:Int} (h:(repT d).code=0) (h1:(gD d.log k).code=c) (hc:¬c=0):crsD d k=errJ c:=by unfold crsD;rw[if_pos h,if_neg (by rw[h1];exact hc),h1]
theorem fSb {d:Jrn} {k:Int} (h:(repT d).code=0) (h1:(gD d.log k).code=0):crsD d k=repD ⟨d.idx,d.start,⟨(gD d.log k).log.synced.take (recU (gD d.log k).log.synced),[]⟩⟩:=by unfold crsD;rw[if_pos h,if_pos h1,(zV h1).2.2]
theorem fSw {w:World} {i:Int} {t0 t1 t2:Value} {bs:List Bal} {l:Logg} (h0:balsR.V w t0 bs) (h1:loggR.V w (.agg #[t1,t2]) l):jrnR.V w (.agg #[.int .i64 i,t0,t1,t2]) ⟨i,bs,l⟩:=⟨t0,t1,t2,rfl,h0,h1⟩
theorem fEa {l:Logg} {k:Int} (h:(gD l k).code=0):(gD l k).log.loose.length=0:=by
 unfold gD at h ⊢;by_cases h0:logF l=0
 ·
  rw[if_pos h0] at h ⊢;by_cases h1:0≤k∧k≤l.loose.length
  ·rw[if_pos h1];rfl
  rw[if_neg h1] at h;exact absurd h (by decide)
 rw[if_neg h0] at h;exact absurd h (by decide)
theorem fT0 (x:Value) (d:Jrn) (k:Int) (w:World) (hx:jrnR.V w x d) (hn:mP d≤1048576) :
  Calls Tryz.prog 24 #[x,.int .i64 k] w (JrE w (crsD d k)):=by
 have HRp:Hid (∀W y j,jrnR.V W y j→mP j≤1048576→Calls Tryz.prog 12 #[y] W (JrE W (repD j))):=fun W y j h1 h2=>fT2 y j W h1 h2
 have HTr:Hid (∀W y l,loggR.V W y l→l.synced.length≤6000→Calls Tryz.prog 57 #[y] W fun e w'=>∃v F,e =.returned v∧loggR.O w' W.heap.size F v ⟨l.synced.take (recU l.synced),[]⟩∧Below W.heap.size W w'):=fun W y l h1 h2=>fQw y l W h1 h2
 obtain⟨a0,c0,b1,d1,b2,d2,rfl,hbs,hlg⟩:=qI hx;have hnl:gM d.log≤1048576:=by unfold mP at hn;omega
 have HF:Hid (bW w fun W=>RI 8 #[.agg #[.int .i64 d.idx,.slice a0 d.start.length c0,.slice b1 d.log.synced.length d1,.slice b2 d.log.loose.length d2]] W (.int .i64 (repT d).code)):=fun W hW=>fRd _ d W (jrnR.below hx hW) hn
 have HCr:Hid (bW w fun W=>Calls Tryz.prog 56 #[.agg #[.slice b1 d.log.synced.length d1,.slice b2 d.log.loose.length d2],.int .i64 k] W fun e w'=>∃v F,e =.returned v∧loggRR.O w' W.heap.size F v (gD d.log k)∧Below W.heap.size W w'):=fun W hW=>fNg _ d.log k W (loggR.below hlg hW) hnl
 have HC:Hid (bW w fun W=>Calls Tryz.prog 33 #[.agg #[.int .i64 d.idx,.slice a0 d.start.length c0,.slice b1 d.log.synced.length d1,.slice b2 d.log.loose.length d2]] W fun e w'=>∃v F,e =.returned v∧jrnR.O w' W.heap.size F v d∧Below W.heap.size W w'):=fun W hW=>fKs _ d W (jrnR.below hx hW) hn
 have HB:Hid (balsR.V w (.slice a0 d.start.length c0) d.start):=hbs;have HE1:Hid (¬(repT d).code=0→crsD d k=errJ (repT d).code):=fun h=>fN7 rfl h
 have HE2:Hid ((repT d).code=0→¬(gD d.log k).code=0→crsD d k=errJ (gD d.log k).code):=fun h h1=>fN8 h rfl h1
 have HE3:Hid ((repT d).code=0→(gD d.log k).code=0→crsD d k=repD ⟨d.idx,d.start,⟨(gD d.log k).log.synced.take (recU (gD d.log k).log.synced),[]⟩⟩):=fun h h1=>fSb h h1
 have HK:Hid ((repT d).code=0→(gD d.log k).code=0→(gD d.log k).log.synced.length≤6000∧mP ⟨d.idx,d.start,⟨(gD d.log k).log.synced.take (recU (gD d.log k).log.synced),[]⟩⟩≤1048576∧(fA1 (gD d.log k).log)=⟨0,⟨(gD d.log k).log.synced.take (recU (gD d.log k).log.synced),[]⟩⟩∧gM (gD d.log k).log≤1048576):=fun h h1=>by
  have e:=zV h1;refine⟨e.1,fN6 (by unfold mP at hn;exact hn) (fFc (fCv h).1) h1,?_,?_⟩
  ·have e3:=e.2.1;have e4:=e.2.2;generalize fA1 (gD d.log k).log=T at *;obtain⟨tc,tl⟩:=T;dsimp only at e3 e4;rw[e3,e4]
  have:=fEa h1;have:=e.1;unfold gM kK;omega
 clear hx hn hbs hlg hnl;obtain⟨n0,hn0⟩:∃n0,d.start.length=n0:=⟨_,rfl⟩
 obtain⟨n1,hn1⟩:∃n1,d.log.synced.length=n1:=⟨_,rfl⟩
 obtain⟨n2,hn2⟩:∃n2,d.log.loose.length=n2:=⟨_,rfl⟩
 have HN:Hid (d.start.length=n0∧d.log.synced.length=n1∧d.log.loose.length=n2):=⟨hn0,hn1,hn2⟩;rw[hn0,hn1,hn2] at HF ⊢;rw[hn1,hn2] at HCr;rw[hn0] at HB;rw[hn0,hn1,hn2] at HC;clear hn0 hn1 hn2;generalize crsD d k=Z at *;generalize gD d.log k=cl at *;obtain⟨cc,cg⟩:=cl;dsimp only at HE2 HE3 HK;generalize (repT d).code=rc at *;go_enter Tryz.func24,Tryz.ntmps24;go_wp2_with fail;refine(HF.out _ qBq).mono ?_;rintro e w1 ⟨rfl,hb1⟩;have hB1:=bT w hb1;have y0:w1.cell? ⟨w.heap.size,0,none⟩=some (.int .i64 d.idx):=cK hb1 sG;have y1:w1.cell? ⟨w.heap.size,1,none⟩=some (.slice a0 n0 c0):=cK hb1 sG;have y2:w1.cell? ⟨w.heap.size,2,none⟩=some (.slice b1 n1 d1):=cK hb1 sG;have y3:w1.cell? ⟨w.heap.size,3,none⟩=some (.slice b2 n2 d2):=cK hb1 sG;have r0:w1.cell? ⟨w.heap.size+1,0,none⟩=some (.int .i64 0):=cK hb1 sG;have r1:w1.cell? ⟨w.heap.size+1,1,none⟩=some (.int .i64 0):=cK hb1 sG;have r2:w1.cell? ⟨w.heap.size+1,2,none⟩=some (.slice none 0 0):=cK hb1 sG;have r3:w1.cell? ⟨w.heap.size+1,3,none⟩=some (.slice none 0 0):=cK hb1 sG;have r4:w1.cell? ⟨w.heap.size+1,4,none⟩=some (.slice none 0 0):=cK hb1 sG;have r5:w1.cell? ⟨w.heap.size+1,5,none⟩=some (.int .i64 0):=cK hb1 sG;have r6:w1.cell? ⟨w.heap.size+1,6,none⟩=some (.slice none 0 0):=cK hb1 sG;have r7:w1.cell? ⟨w.heap.size+1,7,none⟩=some (.slice none 0 0):=cK hb1 sG;have r8:w1.cell? ⟨w.heap.size+1,8,none⟩=some (.slice none 0 0):=cK hb1 sG;have r9:w1.cell? ⟨w.heap.size+1,9,none⟩=some (.slice none 0 0):=cK hb1 sG;have r10:w1.cell? ⟨w.heap.size+1,10,none⟩=some (.slice none 0 0):=cK hb1 sG
 have rf:∀o,w1.frozen? ⟨w.heap.size+1,o,none⟩=false:=fun o=>by rw[(bcell hb1).2 _ _ (by simp;try omega)];simp[go_sem]
 have yf:∀o,w1.frozen? ⟨w.heap.size,o,none⟩=false:=fun o=>by rw[(bcell hb1).2 _ _ (by simp;try omega)];simp[go_sem]
 have hz:w.heap.size+2≤w1.heap.size:=by have:=hb1.size;simp at this;omega
 clear hb1 HF;have z0:w.heap.size<w1.heap.size:=oM;have z1:w.heap.size+1<w1.heap.size:=oM;have hbR:w.heap.size≤w.heap.size+1:=oM;by_cases hrc:rc=0;rotate_left
 ·
  have HD:Hid _:=HE1.out hrc;have hd:(rc !=0)=true:=by simp[hrc]
  clear HE1 HE2 HE3 HK HTr HRp HCr HB HC hrc;go_wp2;refine bodyPost_ret (v:=.agg #[.int .i64 rc,.int .i64 0,.slice none 0 0,.slice none 0 0,.slice none 0 0,.int .i64 0,.slice none 0 0,.slice none 0 0,.slice none 0 0,.slice none 0 0,.slice none 0 0]) (by simp[results,Tryz.results24,go_sem,r0,r1,r2,r3,r4,r5,r6,r7,r8,r9,r10,rf,z1]) rfl (zF HD.out ?_);first|exact qO hB1 hbR _ _ _ _ _ _ _ _ _ _ _|exact bA (qO hB1 hbR _ _ _ _ _ _ _ _ _ _ _) _|exact qO (bA hB1 _) hbR _ _ _ _ _ _ _ _ _ _ _
 subst hrc;have HE2':Hid (¬cc=0→Z=errJ cc):=HE2.out rfl;have HE3':Hid (cc=0→Z=repD ⟨d.idx,d.start,⟨cg.synced.take (recU cg.synced),[]⟩⟩):=HE3.out rfl;have HK':Hid _:=HK.out rfl;clear HE1 HE2 HE3 HK;go_wp2_with fail;refine(HCr.out _ hB1).mono ?_;rintro e w2 ⟨v2,F2,rfl,o2,hb2⟩;obtain⟨e1,e2,g1,g2,rfl⟩:=fCo (loggRR.ofO o2);dsimp only at o2 ⊢;have hB2:Below w.heap.size w w2:=bS hB1 hb2;replace y0:=cK hb2 y0;replace y1:=cK hb2 y1;replace y2:=cK hb2 y2;replace y3:=cK hb2 y3;replace yf:∀o,w2.frozen? ⟨w.heap.size,o,none⟩=false:=fun o=>by rw[(bcell hb2).2 _ _ z0];exact yf o
 replace r0:=cK hb2 r0;replace r1:=cK hb2 r1;replace r2:=cK hb2 r2;replace r3:=cK hb2 r3;replace r4:=cK hb2 r4;replace r5:=cK hb2 r5;replace r6:=cK hb2 r6;replace r7:=cK hb2 r7;replace r8:=cK hb2 r8;replace r9:=cK hb2 r9;replace r10:=cK hb2 r10;replace rf:∀o,w2.frozen? ⟨w.heap.size+1,o,none⟩=false:=fun o=>by rw[(bcell hb2).2 _ _ z1];exact rf o
 have HV2:Hid (loggR.V w2 (.agg #[.slice e1 cg.synced.length g1,.slice e2 cg.loose.length g2]) cg):=by
  obtain⟨u1,u2,e,h⟩:=loggRR.ofO o2;simp only[Value.agg.injEq,Array.mk.injEq,List.cons.injEq,and_true,true_and] at e;obtain⟨rfl,rfl⟩:=e;exact h
 have zz0:w.heap.size<w2.heap.size:=Nat.lt_of_lt_of_le z0 hb2.size;have zz1:w.heap.size+1<w2.heap.size:=Nat.lt_of_lt_of_le z1 hb2.size;clear hb2 o2 HCr hB1;obtain⟨m1,hm1⟩:∃m1,cg.synced.length=m1:=⟨_,rfl⟩
 obtain⟨m2,hm2⟩:∃m2,cg.loose.length=m2:=⟨_,rfl⟩
 rw[hm1,hm2] at HV2 ⊢;clear hm1 hm2;by_cases hcc:cc=0;rotate_left
 ·
  have HD:Hid (Z=errJ cc):=HE2'.out hcc;have hd:(cc !=0)=true:=by simp[hcc]
  clear HE2' HE3' HK' HTr HRp HV2 HB HC hcc;go_wp2;refine bodyPost_ret (v:=.agg #[.int .i64 cc,.int .i64 0,.slice none 0 0,.slice none 0 0,.slice none 0 0,.int .i64 0,.slice none 0 0,.slice none 0 0,.slice none 0 0,.slice none 0 0,.slice none 0 0]) (by simp[results,Tryz.results24,go_sem,r0,r1,r2,r3,r4,r5,r6,r7,r8,r9,r10,rf,zz1]) rfl (zF HD.out ?_);first|exact bA (qO hB2 hbR _ _ _ _ _ _ _ _ _ _ _) _|exact qO (bA hB2 _) hbR _ _ _ _ _ _ _ _ _ _ _
 subst hcc;have HD:Hid (Z=repD ⟨d.idx,d.start,⟨cg.synced.take (recU cg.synced),[]⟩⟩):=HE3'.out rfl;have HK2:Hid _:=HK'.out rfl;clear HE2' HE3' HK';go_wp2_with fail;refine(HC.out _ qBq).mono ?_;rintro e w3 ⟨v3,F3,rfl,o3,hb3⟩;obtain⟨q0,h0,q1,h1,q2,h2,rfl⟩:=fEz o3;have HB3:Hid (balsR.V w3 (.slice q0 d.start.length h0) d.start):=by
  obtain⟨_,_,_,_,_,_,e,h,_⟩:=qI (jrnR.ofO o3);simp only[Value.agg.injEq,Array.mk.injEq,List.cons.injEq,and_true,true_and,Value.slice.injEq] at e;obtain⟨⟨rfl,rfl⟩,_⟩:=e;exact h
 rw[HN.out.1] at HB3 ⊢;rw[HN.out.2.1,HN.out.2.2];have hb23:=bT w2 hb3;have hB3:Below w.heap.size w w3:=bS hB2 hb23;have t0:w3.cell? ⟨w2.heap.size,0,none⟩=some (.int .i64 0):=cK hb3 sG;have t1:w3.cell? ⟨w2.heap.size,1,none⟩=some (.slice e1 m1 g1):=cK hb3 sG;have t2:w3.cell? ⟨w2.heap.size,2,none⟩=some (.slice e2 m2 g2):=cK hb3 sG;have z2:w2.heap.size<w3.heap.size:=wL _ _ t0;replace r0:=cK hb23 r0;replace r1:=cK hb23 r1;replace r2:=cK hb23 r2;replace r3:=cK hb23 r3;replace r4:=cK hb23 r4;replace r5:=cK hb23 r5;replace r6:=cK hb23 r6;replace r7:=cK hb23 r7;replace r8:=cK hb23 r8;replace r9:=cK hb23 r9;replace r10:=cK hb23 r10;replace rf:∀o,w3.frozen? ⟨w.heap.size+1,o,none⟩=false:=fun o=>by rw[(bcell hb23).2 _ _ zz1];exact rf o
 clear hb3 o3 HC y0 y1 y2 y3 yf HB;have zw1:w.heap.size+1<w3.heap.size:=oM;go_wp2_with fail;have HV3:Hid (bW w2 fun W=>loggR.V W (.agg #[.slice e1 m1 g1,.slice e2 m2 g2]) cg):=fun W hW=>loggR.below HV2.out hW
 refine(HTr.out _ _ cg (HV3.out _ (bS hb23 qBq)) HK2.out.1).mono ?_;rintro e w4 ⟨v4,F4,rfl,o4,hb4⟩;obtain⟨p1,p2,f1,f2,rfl⟩:=mU (loggR.ofO o4);have hb34:=bT w3 hb4;have s0:w4.cell? ⟨w3.heap.size,0,none⟩=some (.int .i64 d.idx):=cK hb4 sG;have s1:w4.cell? ⟨w3.heap.size,1,none⟩=some (.slice q0 n0 h0):=cK hb4 sG;have s2:w4.cell? ⟨w3.heap.size,2,none⟩=some (.slice q1 n1 h1):=cK hb4 sG;have s3:w4.cell? ⟨w3.heap.size,3,none⟩=some (.slice q2 n2 h2):=cK hb4 sG;have sf:∀o,w4.frozen? ⟨w3.heap.size,o,none⟩=false:=fun o=>by rw[(bcell hb4).2 _ _ (by simp;try omega)];simp[go_sem]
 have z3:w3.heap.size<w4.heap.size:=wL _ _ s0;replace r0:=cK hb34 r0;replace r1:=cK hb34 r1;replace r2:=cK hb34 r2;replace r3:=cK hb34 r3;replace r4:=cK hb34 r4;replace r5:=cK hb34 r5;replace r6:=cK hb34 r6;replace r7:=cK hb34 r7;replace r8:=cK hb34 r8;replace r9:=cK hb34 r9;replace r10:=cK hb34 r10;replace rf:∀o,w4.frozen? ⟨w.heap.size+1,o,none⟩=false:=fun o=>by rw[(bcell hb34).2 _ _ zw1];exact rf o
 have HO4:Hid (loggR.O w4 (w3.heap.size+1) F4 (.agg #[.slice p1 (cg.synced.take (recU cg.synced)).length f1,.slice p2 0 f2]) ⟨cg.synced.take (recU cg.synced),[]⟩):=by have h:=o4;simp only[World.size_alloc] at h;exact h
 have hB4:Below w.heap.size w w4:=bS hB3 hb34;have zw4:w.heap.size+1<w4.heap.size:=oM;have HV4:Hid (∀u v,balsR.V ((w4.setCell ⟨w3.heap.size,2,none⟩ u).setCell ⟨w3.heap.size,3,none⟩ v) (.slice q0 n0 h0) d.start):=fun u v=>balsR.below HB3.out (bset (bset hb34 (Nat.le_refl _) _) (Nat.le_refl _) _)
 have HRp':Hid (∀W y l,balsR.V W (.slice q0 n0 h0) d.start→loggR.V W y l→l=⟨cg.synced.take (recU cg.synced),[]⟩→∀u v,y =.agg #[u,v]→Calls Tryz.prog 12 #[.agg #[.int .i64 d.idx,.slice q0 n0 h0,u,v]] W (JrE W (repD ⟨d.idx,d.start,l⟩))):=fun W y l h1 h2 he u v hy=>HRp.out W _ _ (fSw h1 (by rw[←hy];exact h2)) (by rw[he];exact HK2.out.2.1)
 have HLs:Hid (∀u v,loggR.V ((w4.setCell ⟨w3.heap.size,2,none⟩ u).setCell ⟨w3.heap.size,3,none⟩ v) (.agg #[.slice p1 (cg.synced.take (recU cg.synced)).length f1,.slice p2 0 f2]) ⟨cg.synced.take (recU cg.synced),[]⟩):=fun u v=>loggR.ofO (loggR.set (loggR.set HO4.out _ (by show w3.heap.size<_;omega)) _ (by show w3.heap.size<_;omega))
 clear hb4 o4 HO4 HRp HTr HV2 HV3 HK2 HB3 hb34 hb23 HN t0 t1 t2;simp only[List.length_nil];generalize (cg.synced.take (recU cg.synced)).length=mt at *;go_wp2_with fail;refine(HRp'.out _ _ _ (HV4.out _ _) (HLs.out _ _) rfl _ _ rfl).mono ?_;rintro e w6 ⟨v6,F6,rfl,o6,hb6⟩;have hb5:Below w.heap.size w ((w4.setCell ⟨w3.heap.size,2,none⟩ (.slice p1 mt f1)).setCell ⟨w3.heap.size,3,none⟩ (.slice p2 0 f2)):=bset (bset hB4 (by show w.heap.size≤w3.heap.size;omega) _) (by show w.heap.size≤w3.heap.size;omega) _;have hne:¬w3.heap.size=w.heap.size+1:=oM;have hne':¬w.heap.size+1=w3.heap.size:=oM;replace r0:w6.cell? ⟨w.heap.size+1,0,none⟩=some (.int .i64 0):=cK hb6 (by simp[go_sem,r0,hne,hne']);replace r1:w6.cell? ⟨w.heap.size+1,1,none⟩=some (.int .i64 0):=cK hb6 (by simp[go_sem,r1,hne,hne']);replace r2:w6.cell? ⟨w.heap.size+1,2,none⟩=some (.slice none 0 0):=cK hb6 (by simp[go_sem,r2,hne,hne']);replace r3:w6.cell? ⟨w.heap.size+1,3,none⟩=some (.slice none 0 0):=cK hb6 (by simp[go_sem,r3,hne,hne']);replace r4:w6.cell? ⟨w.heap.size+1,4,none⟩=some (.slice none 0 0):=cK hb6 (by simp[go_sem,r4,hne,hne']);replace r5:w6.cell? ⟨w.heap.size+1,5,none⟩=some (.int .i64 0):=cK hb6 (by simp[go_sem,r5,hne,hne']);replace r6:w6.cell? ⟨w.heap.size+1,6,none⟩=some (.slice none 0 0):=cK hb6 (by simp[go_sem,r6,hne,hne']);replace r7:w6.cell? ⟨w.heap.size+1,7,none⟩=some (.slice none 0 0):=cK hb6 (by simp[go_sem,r7,hne,hne']);replace r8:w6.cell? ⟨w.heap.size+1,8,none⟩=some (.slice none 0 0):=cK hb6 (by simp[go_sem,r8,hne,hne'])
 replace r9:w6.cell? ⟨w.heap.size+1,9,none⟩=some (.slice none 0 0):=cK hb6 (by simp[go_sem,r9,hne,hne']);replace r10:w6.cell? ⟨w.heap.size+1,10,none⟩=some (.slice none 0 0):=cK hb6 (by simp[go_sem,r10,hne,hne']);replace rf:∀o,w6.frozen? ⟨w.heap.size+1,o,none⟩=false:=fun o=>by rw[(bcell hb6).2 _ _ (by simp;omega)];simp[go_sem,rf,hne,hne']
 have hB6:Below w.heap.size w w6:=bS hb5 hb6;have hz6:=hb6.size;simp only[World.size_setCell] at hz6;obtain⟨R,hR⟩:∃R,R=repD ⟨d.idx,d.start,⟨cg.synced.take (recU cg.synced),[]⟩⟩:=⟨_,rfl⟩
 have HR:Hid (R=repD ⟨d.idx,d.start,⟨cg.synced.take (recU cg.synced),[]⟩⟩):=hR;clear hR;rw[←HR.out] at o6;obtain⟨u0,u1,u2,x1,x2,x3,x4,x5,i0,i1,i2,j1,j2,j3,j4,j5,rfl⟩:=zG (jrnRR.ofO o6);have HO6:Hid (jrnRR.O w6 w4.heap.size F6 (.agg #[.int .i64 R.code,.int .i64 R.jrn.idx,.slice u0 R.jrn.start.length i0,.slice u1 R.jrn.log.synced.length i1,.slice u2 R.jrn.log.loose.length i2,.int .i64 R.shard.idx,.slice x1 R.shard.bals.length j1,.slice x2 R.shard.votes.length j2,.slice x3 R.shard.held.length j3,.slice x4 R.shard.done.length j4,.slice x5 R.shard.appl.length j5]) Z):=by rw[HD.out,←HR.out];exact jrnRR.base o6 (by simp)
 clear o6 hb6 hb5 HV4 HLs HRp' HD HR;generalize R.code=k0 at *;generalize R.jrn.idx=k1 at *;generalize R.shard.idx=k2 at *;generalize R.jrn.start.length=y0 at *;generalize R.jrn.log.synced.length=y1 at *;generalize R.jrn.log.loose.length=y2 at *;generalize R.shard.bals.length=v1 at *;generalize R.shard.votes.length=v2 at *;generalize R.shard.held.length=v3 at *;generalize R.shard.done.length=v4 at *;generalize R.shard.appl.length=v5 at *;go_wp2;refine bodyPost_ret (v:=.agg #[.int .i64 k0,.int .i64 k1,.slice u0 y0 i0,.slice u1 y1 i1,.slice u2 y2 i2,.int .i64 k2,.slice x1 v1 j1,.slice x2 v2 j2,.slice x3 v3 j3,.slice x4 v4 j4,.slice x5 v5 j5]) (by simp[results,Tryz.results24,go_sem,r0,r1,r2,r3,r4,r5,r6,r7,r8,r9,r10,rf]) rfl ?_;exact⟨_,F6,rfl,jrnRR.base (fVv jrnRR HO6.out oM _ _ _ _ _ _ _ _ _ _ _) oM,qO hB6 oM _ _ _ _ _ _ _ _ _ _ _⟩
theorem fKg (x:Value) (d:Jrn) (k:Int) (w:World) (hx:jrnR.V w x d) (hn:mP d≤1048576) :
  Calls Tryz.prog 25 #[x,.int .i64 k] w (JrE w (crsD d k)):=by
 have HRp:Hid (∀W y j,jrnR.V W y j→mP j≤1048576→Calls Tryz.prog 13 #[y] W (JrE W (repD j))):=fun W y j h1 h2=>fKj y j W h1 h2
 have HTr:Hid (∀W y l,loggR.V W y l→gM l≤1048576→Calls Tryz.prog 59 #[y] W fun e w'=>∃v F,e =.returned v∧loggRR.O w' W.heap.size F v (fA1 l)∧Below W.heap.size W w'):=fun W y l h1 h2=>fQg y l W h1 h2
 obtain⟨a0,c0,b1,d1,b2,d2,rfl,hbs,hlg⟩:=qI hx;have hnl:gM d.log≤1048576:=by unfold mP at hn;omega
 have HF:Hid (bW w fun W=>RI 10 #[.agg #[.int .i64 d.idx,.slice a0 d.start.length c0,.slice b1 d.log.synced.length d1,.slice b2 d.log.loose.length d2]] W (.int .i64 (repT d).code)):=fun W hW=>fQe _ d W (jrnR.below hx hW) hn
 have HCr:Hid (bW w fun W=>Calls Tryz.prog 58 #[.agg #[.slice b1 d.log.synced.length d1,.slice b2 d.log.loose.length d2],.int .i64 k] W fun e w'=>∃v F,e =.returned v∧loggRR.O w' W.heap.size F v (gD d.log k)∧Below W.heap.size W w'):=fun W hW=>fMd _ d.log k W (loggR.below hlg hW) hnl
 have HB:Hid (balsR.V w (.slice a0 d.start.length c0) d.start):=hbs;have HE1:Hid (¬(repT d).code=0→crsD d k=errJ (repT d).code):=fun h=>fN7 rfl h
 have HE2:Hid ((repT d).code=0→¬(gD d.log k).code=0→crsD d k=errJ (gD d.log k).code):=fun h h1=>fN8 h rfl h1
 have HE3:Hid ((repT d).code=0→(gD d.log k).code=0→crsD d k=repD ⟨d.idx,d.start,⟨(gD d.log k).log.synced.take (recU (gD d.log k).log.synced),[]⟩⟩):=fun h h1=>fSb h h1
 have HK:Hid ((repT d).code=0→(gD d.log k).code=0→(gD d.log k).log.synced.length≤6000∧mP ⟨d.idx,d.start,⟨(gD d.log k).log.synced.take (recU (gD d.log k).log.synced),[]⟩⟩≤1048576∧(fA1 (gD d.log k).log)=⟨0,⟨(gD d.log k).log.synced.take (recU (gD d.log k).log.synced),[]⟩⟩∧gM (gD d.log k).log≤1048576):=fun h h1=>by
  have e:=zV h1;refine⟨e.1,fN6 (by unfold mP at hn;exact hn) (fFc (fCv h).1) h1,?_,?_⟩
  ·have e3:=e.2.1;have e4:=e.2.2;generalize fA1 (gD d.log k).log=T at *;obtain⟨tc,tl⟩:=T;dsimp only at e3 e4;rw[e3,e4]
  have:=fEa h1;have:=e.1;unfold gM kK;omega
 clear hx hn hbs hlg hnl;obtain⟨n0,hn0⟩:∃n0,d.start.length=n0:=⟨_,rfl⟩
 obtain⟨n1,hn1⟩:∃n1,d.log.synced.length=n1:=⟨_,rfl⟩
 obtain⟨n2,hn2⟩:∃n2,d.log.loose.length=n2:=⟨_,rfl⟩
 have HN:Hid (d.start.length=n0∧d.log.synced.length=n1∧d.log.loose.length=n2):=⟨hn0,hn1,hn2⟩;rw[hn0,hn1,hn2] at HF ⊢;rw[hn1,hn2] at HCr;rw[hn0] at HB;clear hn0 hn1 hn2;generalize crsD d k=Z at *;generalize gD d.log k=cl at *;obtain⟨cc,cg⟩:=cl;dsimp only at HE2 HE3 HK;generalize (repT d).code=rc at *;go_enter Tryz.func25,Tryz.ntmps25;go_wp2_with fail;refine(HF.out _ qBq).mono ?_;rintro e w1 ⟨rfl,hb1⟩;have hB1:=bT w hb1;have y0:w1.cell? ⟨w.heap.size,0,none⟩=some (.int .i64 d.idx):=cK hb1 sG;have y1:w1.cell? ⟨w.heap.size,1,none⟩=some (.slice a0 n0 c0):=cK hb1 sG;have y2:w1.cell? ⟨w.heap.size,2,none⟩=some (.slice b1 n1 d1):=cK hb1 sG;have y3:w1.cell? ⟨w.heap.size,3,none⟩=some (.slice b2 n2 d2):=cK hb1 sG;have r0:w1.cell? ⟨w.heap.size+1,0,none⟩=some (.int .i64 0):=cK hb1 sG;have r1:w1.cell? ⟨w.heap.size+1,1,none⟩=some (.int .i64 0):=cK hb1 sG;have r2:w1.cell? ⟨w.heap.size+1,2,none⟩=some (.slice none 0 0):=cK hb1 sG;have r3:w1.cell? ⟨w.heap.size+1,3,none⟩=some (.slice none 0 0):=cK hb1 sG;have r4:w1.cell? ⟨w.heap.size+1,4,none⟩=some (.slice none 0 0):=cK hb1 sG;have r5:w1.cell? ⟨w.heap.size+1,5,none⟩=some (.int .i64 0):=cK hb1 sG;have r6:w1.cell? ⟨w.heap.size+1,6,none⟩=some (.slice none 0 0):=cK hb1 sG;have r7:w1.cell? ⟨w.heap.size+1,7,none⟩=some (.slice none 0 0):=cK hb1 sG;have r8:w1.cell? ⟨w.heap.size+1,8,none⟩=some (.slice none 0 0):=cK hb1 sG;have r9:w1.cell? ⟨w.heap.size+1,9,none⟩=some (.slice none 0 0):=cK hb1 sG;have r10:w1.cell? ⟨w.heap.size+1,10,none⟩=some (.slice none 0 0):=cK hb1 sG
 have rf:∀o,w1.frozen? ⟨w.heap.size+1,o,none⟩=false:=fun o=>by rw[(bcell hb1).2 _ _ (by simp;try omega)];simp[go_sem]
 have yf:∀o,w1.frozen? ⟨w.heap.size,o,none⟩=false:=fun o=>by rw[(bcell hb1).2 _ _ (by simp;try omega)];simp[go_sem]
 have hz:w.heap.size+2≤w1.heap.size:=by have:=hb1.size;simp at this;omega
 clear hb1 HF;have z0:w.heap.size<w1.heap.size:=oM;have z1:w.heap.size+1<w1.heap.size:=oM;have hbR:w.heap.size≤w.heap.size+1:=oM;by_cases hrc:rc=0;rotate_left
 ·
  have HD:Hid _:=HE1.out hrc;have hd:(rc !=0)=true:=by simp[hrc]
  clear HE1 HE2 HE3 HK HTr HRp HCr HB  hrc;go_wp2;refine bodyPost_ret (v:=.agg #[.int .i64 rc,.int .i64 0,.slice none 0 0,.slice none 0 0,.slice none 0 0,.int .i64 0,.slice none 0 0,.slice none 0 0,.slice none 0 0,.slice none 0 0,.slice none 0 0]) (by simp[results,Tryz.results25,go_sem,r0,r1,r2,r3,r4,r5,r6,r7,r8,r9,r10,rf,z1]) rfl (zF HD.out ?_);first|exact qO hB1 hbR _ _ _ _ _ _ _ _ _ _ _|exact bA (qO hB1 hbR _ _ _ _ _ _ _ _ _ _ _) _|exact qO (bA hB1 _) hbR _ _ _ _ _ _ _ _ _ _ _
 subst hrc;have HE2':Hid (¬cc=0→Z=errJ cc):=HE2.out rfl;have HE3':Hid (cc=0→Z=repD ⟨d.idx,d.start,⟨cg.synced.take (recU cg.synced),[]⟩⟩):=HE3.out rfl;have HK':Hid _:=HK.out rfl;clear HE1 HE2 HE3 HK;go_wp2_with fail;refine(HCr.out _ hB1).mono ?_;rintro e w2 ⟨v2,F2,rfl,o2,hb2⟩;obtain⟨e1,e2,g1,g2,rfl⟩:=fCo (loggRR.ofO o2);dsimp only at o2 ⊢;have hB2:Below w.heap.size w w2:=bS hB1 hb2;replace y0:=cK hb2 y0;replace y1:=cK hb2 y1;replace y2:=cK hb2 y2;replace y3:=cK hb2 y3;replace yf:∀o,w2.frozen? ⟨w.heap.size,o,none⟩=false:=fun o=>by rw[(bcell hb2).2 _ _ z0];exact yf o
 replace r0:=cK hb2 r0;replace r1:=cK hb2 r1;replace r2:=cK hb2 r2;replace r3:=cK hb2 r3;replace r4:=cK hb2 r4;replace r5:=cK hb2 r5;replace r6:=cK hb2 r6;replace r7:=cK hb2 r7;replace r8:=cK hb2 r8;replace r9:=cK hb2 r9;replace r10:=cK hb2 r10;replace rf:∀o,w2.frozen? ⟨w.heap.size+1,o,none⟩=false:=fun o=>by rw[(bcell hb2).2 _ _ z1];exact rf o
 have HV2:Hid (loggR.V w2 (.agg #[.slice e1 cg.synced.length g1,.slice e2 cg.loose.length g2]) cg):=by
  obtain⟨u1,u2,e,h⟩:=loggRR.ofO o2;simp only[Value.agg.injEq,Array.mk.injEq,List.cons.injEq,and_true,true_and] at e;obtain⟨rfl,rfl⟩:=e;exact h
 have zz0:w.heap.size<w2.heap.size:=Nat.lt_of_lt_of_le z0 hb2.size;have zz1:w.heap.size+1<w2.heap.size:=Nat.lt_of_lt_of_le z1 hb2.size;clear hb2 o2 HCr hB1;obtain⟨m1,hm1⟩:∃m1,cg.synced.length=m1:=⟨_,rfl⟩
 obtain⟨m2,hm2⟩:∃m2,cg.loose.length=m2:=⟨_,rfl⟩
 rw[hm1,hm2] at HV2 ⊢;clear hm1 hm2;by_cases hcc:cc=0;rotate_left
 ·
  have HD:Hid (Z=errJ cc):=HE2'.out hcc;have hd:(cc !=0)=true:=by simp[hcc]
  clear HE2' HE3' HK' HTr HRp HV2 HB  hcc;go_wp2;refine bodyPost_ret (v:=.agg #[.int .i64 cc,.int .i64 0,.slice none 0 0,.slice none 0 0,.slice none 0 0,.int .i64 0,.slice none 0 0,.slice none 0 0,.slice none 0 0,.slice none 0 0,.slice none 0 0]) (by simp[results,Tryz.results25,go_sem,r0,r1,r2,r3,r4,r5,r6,r7,r8,r9,r10,rf,zz1]) rfl (zF HD.out ?_);first|exact bA (qO hB2 hbR _ _ _ _ _ _ _ _ _ _ _) _|exact qO (bA hB2 _) hbR _ _ _ _ _ _ _ _ _ _ _
 subst hcc;have HD:Hid (Z=repD ⟨d.idx,d.start,⟨cg.synced.take (recU cg.synced),[]⟩⟩):=HE3'.out rfl;have HK2:Hid _:=HK'.out rfl;clear HE2' HE3' HK';have HV3:Hid (bW w2 fun W=>loggR.V W (.agg #[.slice e1 m1 g1,.slice e2 m2 g2]) cg):=fun W hW=>loggR.below HV2.out hW
 go_wp2_with fail;refine(HTr.out _ _ cg (HV3.out _ qBq) HK2.out.2.2.2).mono ?_;rintro e w4 ⟨v4,F4,rfl,o4,hb4⟩;rw[HK2.out.2.2.1] at o4;obtain⟨p1,p2,f1,f2,rfl⟩:=fCo (loggRR.ofO o4);have hb24:=bT w2 hb4;replace y0:=cK hb24 y0;replace y1:=cK hb24 y1;replace y2:=cK hb24 y2;replace y3:=cK hb24 y3;replace yf:∀o,w4.frozen? ⟨w.heap.size,o,none⟩=false:=fun o=>by rw[(bcell hb24).2 _ _ zz0];exact yf o
 replace r0:=cK hb24 r0;replace r1:=cK hb24 r1;replace r2:=cK hb24 r2;replace r3:=cK hb24 r3;replace r4:=cK hb24 r4;replace r5:=cK hb24 r5;replace r6:=cK hb24 r6;replace r7:=cK hb24 r7;replace r8:=cK hb24 r8;replace r9:=cK hb24 r9;replace r10:=cK hb24 r10;replace rf:∀o,w4.frozen? ⟨w.heap.size+1,o,none⟩=false:=fun o=>by rw[(bcell hb24).2 _ _ zz1];exact rf o
 have HO4:Hid (loggR.O w4 w2.heap.size F4 (.agg #[.slice p1 (cg.synced.take (recU cg.synced)).length f1,.slice p2 0 f2]) ⟨cg.synced.take (recU cg.synced),[]⟩):=by
  obtain⟨u1,u2,F,e,h,hF⟩:=o4;simp only[Value.agg.injEq,Array.mk.injEq,List.cons.injEq,and_true,true_and] at e;obtain⟨rfl,rfl⟩:=e;have e:F=F4:=by funext b;exact(propext (hF b)).symm
  rw[e] at h;exact loggR.base h (by simp)
 have hB4:Below w.heap.size w w4:=bS hB2 hb24;have zw4:w.heap.size+1<w4.heap.size:=Nat.lt_of_lt_of_le zz1 hb24.size;have HV4:Hid (∀u v,balsR.V ((w4.setCell ⟨w.heap.size,2,none⟩ u).setCell ⟨w.heap.size,3,none⟩ v) (.slice a0 n0 c0) d.start):=fun u v=>balsR.below HB.out (bset (bset hB4 (Nat.le_refl _) _) (Nat.le_refl _) _)
 have HRp':Hid (∀W y l,balsR.V W (.slice a0 n0 c0) d.start→loggR.V W y l→l=⟨cg.synced.take (recU cg.synced),[]⟩→∀u v,y =.agg #[u,v]→Calls Tryz.prog 13 #[.agg #[.int .i64 d.idx,.slice a0 n0 c0,u,v]] W (JrE W (repD ⟨d.idx,d.start,l⟩))):=fun W y l h1 h2 he u v hy=>HRp.out W _ _ (fSw h1 (by rw[←hy];exact h2)) (by rw[he];exact HK2.out.2.1)
 have HLs:Hid (∀u v,loggR.V ((w4.setCell ⟨w.heap.size,2,none⟩ u).setCell ⟨w.heap.size,3,none⟩ v) (.agg #[.slice p1 (cg.synced.take (recU cg.synced)).length f1,.slice p2 0 f2]) ⟨cg.synced.take (recU cg.synced),[]⟩):=fun u v=>loggR.ofO (loggR.set (loggR.set HO4.out _ (by show w.heap.size<_;omega)) _ (by show w.heap.size<_;omega))
 clear hb4 o4 HO4 HRp HTr HV2 HV3 HK2 HB hb24 HN;simp only[List.length_nil];generalize (cg.synced.take (recU cg.synced)).length=mt at *;have hfd:∀w:World,(Instr.field 95 (.agg #[.int .i64 0,.slice p1 mt f1,.slice p2 0 f2]) 1).run Tryz.prog w =.ok (.agg #[.slice p1 mt f1,.slice p2 0 f2]) w:=fun _=>kF
 go_wp2_with fail;refine(HRp'.out _ _ _ (HV4.out _ _) (HLs.out _ _) rfl _ _ rfl).mono ?_;rintro e w6 ⟨v6,F6,rfl,o6,hb6⟩;have hb5:Below w.heap.size w ((w4.setCell ⟨w.heap.size,2,none⟩ (.slice p1 mt f1)).setCell ⟨w.heap.size,3,none⟩ (.slice p2 0 f2)):=bset (bset hB4 (Nat.le_refl _) _) (Nat.le_refl _) _;have hne:¬w.heap.size=w.heap.size+1:=oM;have hne':¬w.heap.size+1=w.heap.size:=oM;replace r0:w6.cell? ⟨w.heap.size+1,0,none⟩=some (.int .i64 0):=cK hb6 (by simp[go_sem,r0,hne,hne']);replace r1:w6.cell? ⟨w.heap.size+1,1,none⟩=some (.int .i64 0):=cK hb6 (by simp[go_sem,r1,hne,hne']);replace r2:w6.cell? ⟨w.heap.size+1,2,none⟩=some (.slice none 0 0):=cK hb6 (by simp[go_sem,r2,hne,hne']);replace r3:w6.cell? ⟨w.heap.size+1,3,none⟩=some (.slice none 0 0):=cK hb6 (by simp[go_sem,r3,hne,hne']);replace r4:w6.cell? ⟨w.heap.size+1,4,none⟩=some (.slice none 0 0):=cK hb6 (by simp[go_sem,r4,hne,hne']);replace r5:w6.cell? ⟨w.heap.size+1,5,none⟩=some (.int .i64 0):=cK hb6 (by simp[go_sem,r5,hne,hne']);replace r6:w6.cell? ⟨w.heap.size+1,6,none⟩=some (.slice none 0 0):=cK hb6 (by simp[go_sem,r6,hne,hne']);replace r7:w6.cell? ⟨w.heap.size+1,7,none⟩=some (.slice none 0 0):=cK hb6 (by simp[go_sem,r7,hne,hne']);replace r8:w6.cell? ⟨w.heap.size+1,8,none⟩=some (.slice none 0 0):=cK hb6 (by simp[go_sem,r8,hne,hne']);replace r9:w6.cell? ⟨w.heap.size+1,9,none⟩=some (.slice none 0 0):=cK hb6 (by simp[go_sem,r9,hne,hne']);replace r10:w6.cell? ⟨w.heap.size+1,10,none⟩=some (.slice none 0 0):=cK hb6 (by simp[go_sem,r10,hne,hne'])
 replace rf:∀o,w6.frozen? ⟨w.heap.size+1,o,none⟩=false:=fun o=>by rw[(bcell hb6).2 _ _ (by simp;omega)];simp[go_sem,rf,hne,hne']
 have hB6:Below w.heap.size w w6:=bS hb5 hb6;have hz6:=hb6.size;simp only[World.size_setCell] at hz6;obtain⟨R,hR⟩:∃R,R=repD ⟨d.idx,d.start,⟨cg.synced.take (recU cg.synced),[]⟩⟩:=⟨_,rfl⟩
 have HR:Hid (R=repD ⟨d.idx,d.start,⟨cg.synced.take (recU cg.synced),[]⟩⟩):=hR;clear hR;rw[←HR.out] at o6;obtain⟨u0,u1,u2,x1,x2,x3,x4,x5,i0,i1,i2,j1,j2,j3,j4,j5,rfl⟩:=zG (jrnRR.ofO o6);have HO6:Hid (jrnRR.O w6 w4.heap.size F6 (.agg #[.int .i64 R.code,.int .i64 R.jrn.idx,.slice u0 R.jrn.start.length i0,.slice u1 R.jrn.log.synced.length i1,.slice u2 R.jrn.log.loose.length i2,.int .i64 R.shard.idx,.slice x1 R.shard.bals.length j1,.slice x2 R.shard.votes.length j2,.slice x3 R.shard.held.length j3,.slice x4 R.shard.done.length j4,.slice x5 R.shard.appl.length j5]) Z):=by rw[HD.out,←HR.out];exact jrnRR.base o6 (by simp)
 clear o6 hb6 hb5 HV4 HLs HRp' HD HR;generalize R.code=k0 at *;generalize R.jrn.idx=k1 at *;generalize R.shard.idx=k2 at *;generalize R.jrn.start.length=y0 at *;generalize R.jrn.log.synced.length=y1 at *;generalize R.jrn.log.loose.length=y2 at *;generalize R.shard.bals.length=v1 at *;generalize R.shard.votes.length=v2 at *;generalize R.shard.held.length=v3 at *;generalize R.shard.done.length=v4 at *;generalize R.shard.appl.length=v5 at *;go_wp2;refine bodyPost_ret (v:=.agg #[.int .i64 k0,.int .i64 k1,.slice u0 y0 i0,.slice u1 y1 i1,.slice u2 y2 i2,.int .i64 k2,.slice x1 v1 j1,.slice x2 v2 j2,.slice x3 v3 j3,.slice x4 v4 j4,.slice x5 v5 j5]) (by simp[results,Tryz.results25,go_sem,r0,r1,r2,r3,r4,r5,r6,r7,r8,r9,r10,rf]) rfl ?_;exact⟨_,F6,rfl,jrnRR.base (fVv jrnRR HO6.out oM _ _ _ _ _ _ _ _ _ _ _) oM,qO hB6 oM _ _ _ _ _ _ _ _ _ _ _⟩
end
section
theorem fWu {w w':World} {a0:Addr} {x0:Value} {a1:Addr} {x1:Value} {a2:Addr} {x2:Value} {a3:Addr} {x3:Value} {a4:Addr} {x4:Value} {a5:Addr} {x5:Value} {a6:Addr} {x6:Value} {a7:Addr} {x7:Value} {a8:Addr} {x8:Value} {a9:Addr} {x9:Value} {a10:Addr} {x10:Value} {a11:Addr} {x11:Value} {a12:Addr} {x12:Value} {a13:Addr} {x13:Value} {a14:Addr} {x14:Value} {a15:Addr} {x15:Value} {a16:Addr} {x16:Value} {a17:Addr} {x17:Value} {a18:Addr} {x18:Value} {a19:Addr} {x19:Value} {a20:Addr} {x20:Value} {a21:Addr} {x21:Value} {a22:Addr} {x22:Value} {a23:Addr} {x23:Value} {a24:Addr} {x24:Value} {a25:Addr} {x25:Value} {a26:Addr} {x26:Value} {a27:Addr} {x27:Value} {a28:Addr} {x28:Value} {a29:Addr} {x29:Value} (hb:Below w.heap.size w w') (g0:w.cell? a0=some x0) (g1:w.cell? a1=some x1) (g2:w.cell? a2=some x2) (g3:w.cell? a3=some x3) (g4:w.cell? a4=some x4) (g5:w.cell? a5=some x5) (g6:w.cell? a6=some x6) (g7:w.cell? a7=some x7) (g8:w.cell? a8=some x8) (g9:w.cell? a9=some x9) (g10:w.cell? a10=some x10) (g11:w.cell? a11=some x11) (g12:w.cell? a12=some x12) (g13:w.cell? a13=some x13) (g14:w.cell? a14=some x14) (g15:w.cell? a15=some x15) (g16:w.cell? a16=some x16) (g17:w.cell? a17=some x17) (g18:w.cell? a18=some x18) (g19:w.cell? a19=some x19) (g20:w.cell? a20=some x20) (g21:w.cell? a21=some x21) (g22:w.cell? a22=some x22) (g23:w.cell? a23=some x23) (g24:w.cell? a24=some x24) (g25:w.cell? a25=some x25) (g26:w.cell? a26=some x26) (g27:w.cell? a27=some x27) (g28:w.cell? a28=some x28) (g29:w.cell? a29=some x29):Below w.heap.size w w'∧w'.cell? a0=some x0∧w'.cell? a1=some x1∧w'.cell? a2=some x2∧w'.cell? a3=some x3∧w'.cell? a4=some x4∧w'.cell? a5=some x5∧w'.cell? a6=some x6∧w'.cell? a7=some x7∧w'.cell? a8=some x8∧w'.cell? a9=some x9∧w'.cell? a10=some x10∧w'.cell? a11=some x11∧w'.cell? a12=some x12∧w'.cell? a13=some x13∧w'.cell? a14=some x14∧w'.cell? a15=some x15∧w'.cell? a16=some x16∧w'.cell? a17=some x17∧w'.cell? a18=some x18∧w'.cell? a19=some x19∧w'.cell? a20=some x20∧w'.cell? a21=some x21∧w'.cell? a22=some x22∧w'.cell? a23=some x23∧w'.cell? a24=some x24∧w'.cell? a25=some x25∧w'.cell? a26=some x26∧w'.cell? a27=some x27∧w'.cell? a28=some x28∧w'.cell? a29=some x29:=
 ⟨hb,cK hb g0,cK hb g1,cK hb g2,cK hb g3,cK hb g4,cK hb g5,cK hb g6,cK hb g7,cK hb g8,cK hb g9,cK hb g10,cK hb g11,cK hb g12,cK hb g13,cK hb g14,cK hb g15,cK hb g16,cK hb g17,cK hb g18,cK hb g19,cK hb g20,cK hb g21,cK hb g22,cK hb g23,cK hb g24,cK hb g25,cK hb g26,cK hb g27,cK hb g28,cK hb g29⟩
end
section
open Go.ChangeShapes Go.WideShapes Go.ChangeAt Go.RowKit Go.Joins
theorem fT3 {W:World} {base k:Nat} {a:Addr} {cs:List Value} (hk:0<k) (hc:W.cells? base a k=some cs):a.spot=none:=by
 obtain⟨hb,hl,hcell⟩:=World.cells?_some hc;have q0:=hcell 0 hk;obtain⟨b,o,s⟩:=a;cases s with
 | none=>rfl
 | some s=>
  have:0<cs.length:=oM;simp[Addr.add,World.cell?,this] at q0;split at q0 <;> simp at q0
theorem add_plain (b o i:Nat):(Addr.mk b o none).add i=⟨b,o+i,none⟩:=by
 by_cases h:i=0
 ·subst h;simp[Addr.add]
 simp[Addr.add,h]
theorem fTi {H:Type} {enc:TypeId × Value→H} {W:World} {sp:Nat→Bool} {held:Bool} {n:Nat} {v:Value} {y:DataW H × List MemPlace} {t e size:Nat} {α:Type} [Inhabited α] {q:List Value→α→Prop}
  (ht:Tryz.prog.underlying t=some (.slice e)) (hz:Tryz.prog.cellsOf e=size) (hs:0<size)
  (hq:∀n cs y,DataW.trod enc Tryz.prog W 0 sp held n e cs=some y→cs.length=size→∃x,q cs x) (h:DataW.trod enc Tryz.prog W 0 sp held n t [v]=some y) :
  ∃(a:Option Addr) (cap:Nat) (xs:List α) (cs:Nat→List Value),v =.slice a xs.length cap∧xs.length≤cap∧cap≤maxLen∧∀i,i<xs.length→q (cs i) (xs.getD i default)∧(cs i).length=size∧∃b o,a=some ⟨b,o,none⟩∧∀j,j<size→W.cell? ⟨b,o+i*size+j,none⟩=(cs i)[j]?:=by
 rcases Go.Deep.open_slice ht h with ⟨hcs,_⟩|⟨a,len,cap,m,n',D,Pl,hcs,hb,hl,hm,hmm,_,hc⟩
 ·simp at hcs;subst hcs;exact⟨none,0,[],fun _=>[],rfl,by simp,by unfold maxLen;omega,fun i hi=>by simp at hi⟩
 simp at hcs;subst hcs;have hlm:len≤m:=by rw[hmm];split <;> omega
 rw[hz] at hc;have h1:∀i,i<len→∃z:List Value × α,q z.1 z.2∧z.1.length=size∧∃b o,a=⟨b,o,none⟩∧∀j,j<size→W.cell? ⟨b,o+i*size+j,none⟩=z.1[j]?:=by
  intro i hi;obtain⟨cs',h1,h2⟩:=hc i oM;obtain⟨_,hl',hcell⟩:=World.cells?_some h1;obtain⟨x,hx⟩:=hq _ _ _ h2 hl';obtain⟨cs0,k1,_⟩:=hc 0 oM;have hsp:=fT3 hs k1;obtain⟨b,o,s⟩:=a;have hs0:s=none:=by simpa [Addr.add] using hsp
  subst hs0;refine⟨(cs',x),hx,hl',b,o,rfl,fun j hj=>?_⟩;have:=hcell j hj;rw[add_plain,add_plain] at this;exact this
 obtain⟨f,hf⟩:=Go.Deep.choose_lt h1;refine⟨some a,cap,(List.range len).map (fun i=>(f i).2),fun i=>(f i).1,by simp,by simpa using hl,hm,fun i hi=>?_⟩;simp at hi;obtain⟨g1,g2,b,o,rfl,g3⟩:=hf i hi;have e:(List.map (fun i=>(f i).2) (List.range len)).getD i default=(f i).2:=by simp[List.getD,hi]
 rw[e];exact⟨g1,g2,b,o,rfl,g3⟩
variable [dQ Leg] [iH Leg] [dQ Cont] [iH Cont]
theorem fR7:Tryz.prog.cellsOf 2=1:=kF
variable [dQ Bal] [iH Bal] [dQ Ledg] [iH Ledg]
theorem fUu:Tryz.prog.cellsOf 105=3:=kF
theorem fW1 {H:Type} {enc:TypeId × Value→H} {W:World} {sp:Nat→Bool} {held:Bool} {n:Nat} {cs:List Value} {y:DataW H × List MemPlace}
  (ht:DataW.trod enc Tryz.prog W 0 sp held n 105 cs=some y) (hl:cs.length=3):∃x:Bal,cs=balC x:=by
 obtain⟨y0,y1,y2,m,hy,hlen,h0,h1,h2⟩:=Go.Deep.trod_struct3 Tryz.underlying105 ht;simp only[fR7] at h0 h1 h2;match cs,hl with
 | [c0,c1,c2],_=>
  obtain⟨x0,e0,_⟩:=DataW.trod_int Tryz.underlying2 h0;obtain⟨x1,e1,_⟩:=DataW.trod_int Tryz.underlying2 h1;obtain⟨x2,e2,_⟩:=DataW.trod_int Tryz.underlying2 h2;simp at e0 e1 e2;subst e0 e1 e2;exact⟨⟨x0,x1,x2⟩,rfl⟩
theorem fVt {H:Type} {enc:TypeId × Value→H} {W:World} {sp:Nat→Bool} {held:Bool} {n:Nat} {v:Value} {y:DataW H × List MemPlace}
  (ht:DataW.trod enc Tryz.prog W 0 sp held n 22 [v]=some y):∃xs:List Bal,balsR.V W v xs:=by
 obtain⟨a,cap,xs,cs,rfl,h1,h2,h3⟩:=fTi (q:=fun cs x=>cs=balC x) Tryz.underlying22 fUu oM (fun n cs y h hl=>fW1 h hl) ht;refine⟨xs,a,cap,rfl,h1,h2,fun i hi=>?_⟩;obtain⟨g1,g3,b,o,g4,g5⟩:=h3 i hi;rw[g1] at g5;exact⟨b,o,g4,g5 0 oM,g5 1 oM,g5 2 oM⟩
end
section
open Go.ChangeShapes Go.WideShapes Go.ChangeAt Go.RowKit Go.Joins
theorem cellsByte:Tryz.prog.cellsOf 5=1:=kF
theorem fVu {H:Type} {enc:TypeId × Value→H} {W:World} {sp:Nat→Bool} {held:Bool} {n:Nat} {cs:List Value} {y:DataW H × List MemPlace}
  (ht:DataW.trod enc Tryz.prog W 0 sp held n 5 cs=some y):∃x:Byte,cs=[.int .u8 (x.val:Int)]:=by
 obtain⟨x0,e0,_,hw⟩:=DataW.trod_int Tryz.underlying5 ht;have hb:=bounds_u8 hw;refine⟨toB x0,?_⟩;rw[e0,fT7];congr 2;omega
theorem fK2 {H:Type} {enc:TypeId × Value→H} {W:World} {sp:Nat→Bool} {held:Bool} {n:Nat} {v:Value} {y:DataW H × List MemPlace}
  (ht:DataW.trod enc Tryz.prog W 0 sp held n 23 [v]=some y):∃xs:List Byte,bytesR.V W v xs:=by
 obtain⟨a,cap,xs,cs,rfl,h1,h2,h3⟩:=fTi (q:=fun cs x=>cs=[.int .u8 ((x:Byte).val:Int)]) Tryz.underlying23 cellsByte oM (fun n cs y h _=>fVu h) ht;refine⟨xs,a,cap,rfl,h1,h2,fun i hi=>?_⟩;obtain⟨g1,g3,b,o,g4,g5⟩:=h3 i hi;rw[g1] at g5;refine⟨b,o,g4,?_⟩;have h:=g5 0 oM;have e:xs.getD i default=xs.getD i 0:=rfl;rw[e] at h;simpa using h
variable [dQ Leg] [iH Leg] [dQ Cont] [iH Cont] [dQ Bal] [iH Bal] [dQ Ledg] [iH Ledg] [dQ Logg] [iH Logg] [dQ Evt] [iH Evt] [dQ Jrn] [iH Jrn]
theorem fJk {H:Type} {enc:TypeId × Value→H} {P:Program} {w:World} {base:Nat} {spare:Nat→Bool} {held:Bool} {t:TypeId} {f0 f1 f2:Field} {fuel:Nat} {cs:List Value} {x:DataW H × List MemPlace} (ht:P.underlying t=some (.struct #[f0,f1,f2])) (h:DataW.trod enc P w base spare held fuel t cs=some x) :
  ∃y0 y1 y2 n,cs.length=P.cellsOf t∧DataW.trod enc P w base spare held n f0.type ((cs.drop f0.offset).take (P.cellsOf f0.type))=some y0 ∧
   DataW.trod enc P w base spare held n f1.type ((cs.drop f1.offset).take (P.cellsOf f1.type))=some y1∧DataW.trod enc P w base spare held n f2.type ((cs.drop f2.offset).take (P.cellsOf f2.type))=some y2:=by
 obtain⟨xs,n,_,rfl,hl,hlen,hf⟩:=DataW.trod_struct ht h;match xs,hlen with
 | [y0,y1,y2],_=>exact⟨y0,y1,y2,n,hl,by simpa using hf 0 f0 rfl,by simpa using hf 1 f1 rfl,by simpa using hf 2 f2 rfl⟩
theorem fJj {H:Type} {enc:TypeId × Value→H} {P:Program} {w:World} {base:Nat} {spare:Nat→Bool} {held:Bool} {t:TypeId} {f0 f1:Field} {fuel:Nat} {cs:List Value} {x:DataW H × List MemPlace} (ht:P.underlying t=some (.struct #[f0,f1])) (h:DataW.trod enc P w base spare held fuel t cs=some x) :
  ∃y0 y1 n,cs.length=P.cellsOf t∧DataW.trod enc P w base spare held n f0.type ((cs.drop f0.offset).take (P.cellsOf f0.type))=some y0 ∧
   DataW.trod enc P w base spare held n f1.type ((cs.drop f1.offset).take (P.cellsOf f1.type))=some y1:=by
 obtain⟨xs,n,_,rfl,hl,hlen,hf⟩:=DataW.trod_struct ht h;match xs,hlen with
 | [y0,y1],_=>exact⟨y0,y1,n,hl,by simpa using hf 0 f0 rfl,by simpa using hf 1 f1 rfl⟩
theorem fW2 {H:Type} {enc:TypeId × Value→H} {W:World} {sp:Nat→Bool} {held:Bool} {v:Value} {d:DataW H} {p:List MemPlace} {base:Nat} {r:Reach}
  (hv:Value.okWide Tryz.prog W r base 27 v) (h:DataW.Trod enc Tryz.prog W 0 sp held 27 v d p):∃x,jrnR.V W v x:=by
 obtain⟨cs,rfl,hsz⟩:=okWide_struct Tryz.underlying27 hv;have hC:Tryz.prog.cellsOf 27=4:=kF;have z0:Tryz.prog.cellsOf 2=1:=kF;have z1:Tryz.prog.cellsOf 22=1:=kF;have z2:Tryz.prog.cellsOf 25=2:=kF;have z3:Tryz.prog.cellsOf 23=1:=kF;obtain⟨l⟩:=cs;match l,hsz.trans hC with
 | [c0,c1,c2,c3],_=>
  obtain⟨fuel,hf⟩:=h;obtain⟨y0,y1,y2,m,_,h0,h1,h2⟩:=fJk Tryz.underlying27 hf;have h0':DataW.trod enc Tryz.prog W 0 sp held m 2 [c0]=some y0:=by simpa [Value.cells,z0] using h0
  have h1':DataW.trod enc Tryz.prog W 0 sp held m 22 [c1]=some y1:=by simpa [Value.cells,z1] using h1
  have h2':DataW.trod enc Tryz.prog W 0 sp held m 25 [c2,c3]=some y2:=by simpa [Value.cells,z2] using h2
  obtain⟨i,ei,_⟩:=DataW.trod_int Tryz.underlying2 h0';simp at ei;subst ei;obtain⟨bs,hb⟩:=fVt h1';obtain⟨x0,x1,m1,_,g0,g1⟩:=fJj Tryz.underlying25 h2';have g0':DataW.trod enc Tryz.prog W 0 sp held m1 23 [c2]=some x0:=by simpa [z3] using g0
  have g1':DataW.trod enc Tryz.prog W 0 sp held m1 23 [c3]=some x1:=by simpa [z3] using g1
  obtain⟨xs,hx⟩:=fK2 g0';obtain⟨ys,hy⟩:=fK2 g1';exact⟨⟨i,bs,⟨xs,ys⟩⟩,c1,c2,c3,rfl,hb,⟨c2,c3,rfl,hx,hy⟩⟩
end
end Go.Proofs.YtpibfdebfacooaaGreat

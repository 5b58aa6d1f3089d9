import Derived.Test.YtbfnobcidnmohaaGreatPrnSafeClusterLaw21
set_option maxHeartbeats 16000000
set_option maxRecDepth 20000
set_option linter.unusedSimpArgs false
set_option linter.unusedVariables false
set_option linter.unusedSectionVars false
namespace Go.Proofs.YtbfnobcidnmohaaGreat
open Go.RowKit
variable [dQ Leg] [iH Leg] [dQ Cont] [iH Cont] [dQ Bal] [iH Bal] [dQ Mrk] [iH Mrk] [dQ Shd] [iH Shd] [dQ Vot] [iH Vot] [dQ Slt] [iH Slt] [dQ Acc] [iH Acc] [dQ Trr] [iH Trr] [dQ Hrd] [iH Hrd] [dQ Ldr] [iH Ldr] [dQ Msg] [iH Msg] [dQ Clu] [iH Clu] [dQ Ledg] [iH Ledg] [dQ SltR] [iH SltR] [dQ AccR] [iH AccR] [dQ AccsR] [iH AccsR] [dQ SltsR] [iH SltsR] [dQ Rw] [iH Rw] [dQ LedgR] [iH LedgR] [dQ OutcR] [iH OutcR] [dQ ShdR] [iH ShdR]
attribute [local go_sem ↓] Go.wp_at_zero Go.wp_at_succ
def tryD (c:Clu) (t:Trr) (bh:Bool):Int:=if hasL c t.con t.sh=true then (if inB t.bal 1 1000=true∧inB t.val 0 2=true then (if bh=true∧t.olds.length=t.frm.length then orF (fC (kY c.accs.length t) t.frm.length) (if dupB t.frm=true then 7 else 0) else 1) else 3) else 4
theorem fN1 (c:Clu) (ts:List Trr) (k:Nat):xV c ts k=tryD c (ts.getD k default) (decide (k=0)||decide (cmpT (ts.getD (k-1) default) (ts.getD k default)<0)):=by
 unfold xV tryD;simp only[Bool.or_eq_true,decide_eq_true_eq]
theorem fN8 {w:World} {a:Option Addr} {n c:Nat} {xs:List Vot} (hx:votsR.V w (.slice a n c) xs):xs.length=n∧n≤c∧c≤maxLen∧∀k,k<n→∃b o,a=some ⟨b,o,none⟩∧w.cell? ⟨b,o+k*2,none⟩=some (.int .i64 (xs.getD k default).bal)∧w.cell? ⟨b,o+k*2+1,none⟩=some (.int .i64 (xs.getD k default).val):=by
 obtain⟨a',c',e,h1,h2,h3⟩:=hx;simp only[Value.slice.injEq] at e;obtain⟨rfl,rfl,rfl⟩:=e;exact⟨rfl,h1,h2,fun k hk=>h3 k hk⟩
theorem fNi {w:World} {a:Option Addr} {n c:Nat} {xs:List Int} (hx:intsR.V w (.slice a n c) xs):xs.length=n∧n≤c∧c≤maxLen∧∀k,k<n→∃b o,a=some ⟨b,o,none⟩∧w.cell? ⟨b,o+k,none⟩=some (.int .i64 (xs.getD k 0)):=by
 obtain⟨a',c',e,h1,h2,h3⟩:=hx;simp only[Value.slice.injEq] at e;obtain⟨rfl,rfl,rfl⟩:=e;exact⟨rfl,h1,h2,fun k hk=>h3 k hk⟩
theorem fN2 (x:Value) (c:Clu) (t y:Trr) (item u' v':Value) (a:Option Addr) (k cc:Nat) (w:World) (hx:cluR.V w x c) (hi:trrR.V w item t) (hm:t.frm.length≤1048576) (hk:k≤9223372036854775807) (h:∀p,k=p+1→∃b o,a=some ⟨b,o,none⟩∧w.cell? ⟨b,o+p*6,none⟩=some (.int .i64 y.con)∧w.cell? ⟨b,o+p*6+1,none⟩=some (.int .i64 y.sh)∧w.cell? ⟨b,o+p*6+2,none⟩=some (.int .i64 y.bal)∧w.cell? ⟨b,o+p*6+3,none⟩=some (.int .i64 y.val)∧w.cell? ⟨b,o+p*6+4,none⟩=some (u')∧w.cell? ⟨b,o+p*6+5,none⟩=some (v')) :
  RI 154 #[x,.slice a k cc,item] w (.int .i64 (tryD c t (decide (k=0)||decide (cmpT y t<0)))):=by
 have HP:Hid (bW w fun W=>RI 151 #[x,.int .i64 t.con,.int .i64 t.sh] W (.bool (hasL c t.con t.sh))):=fun W hW=>vI x c _ _ W (cluR.below hx hW)
 obtain⟨u,v,rfl,hu,hv⟩:=hi;have HB:Hid (bW w fun W=>RI 222 #[.agg #[.int .i64 t.con,.int .i64 t.sh,.int .i64 t.bal,.int .i64 t.val,u,v],.slice a k cc,.func (.func 223) #[] #[]] W (.bool (decide (k=0)||decide (cmpT y t<0)))):=fun W hW=>fKu t y u v u' v' a k cc W hk (fun p hp=>by
  obtain⟨b,o,h0,h1,h2,h3,h4,h5,h6⟩:=h p hp;exact⟨b,o,h0,cK hW h1,cK hW h2,cK hW h3,cK hW h4,cK hW h5,cK hW h6⟩)
 clear h;have HIv:Hid (bW w fun W=>qN W u t.frm):=fun W hW=>intsR.below hu hW
 obtain⟨p,q,rfl⟩:=gZ hu;obtain⟨p',q',rfl⟩:=gJ hv;obtain⟨_,hnu,hmu,HU⟩:=fNi hu;obtain⟨_,hnv,hmv,HW⟩:=fN8 hv;unfold maxLen at hmu hmv;have HU':Hid _:=HU;have HW':Hid _:=HW;clear HU HW hu hv;obtain⟨a0,a1,a2,a3,a4,c0,c1,c2,c3,c4,n0,n1,n2,n3,n4,rfl,e0,e1,e2,e3,e4,L0,L1,L2,L3,L4⟩:=gP hx;clear hx;have HD:Hid (tryD c t (decide (k=0)||decide (cmpT y t<0))=if hasL c t.con t.sh=true then (if inB t.bal 1 1000=true∧inB t.val 0 2=true then (if (decide (k=0)||decide (cmpT y t<0))=true∧t.olds.length=t.frm.length then orF (fC (kY n2 t) t.frm.length) (if dupB t.frm=true then 7 else 0) else 1) else 3) else 4):=by show _=_;unfold tryD;rw[e2]
 clear e0 e1 e2 e3 e4 L0 L1 L3 L4;have HDu:Hid ((Lib.compact (sortI t.frm)).length<t.frm.length↔dupB t.frm=true):=fKz t.frm;have HLe:Hid ((Lib.compact (sortI t.frm)).length≤1048576):=by show _≤_;have h1:=fOw (sortI t.frm);rw[fJm] at h1;omega
 have HSl:Hid ((sortI t.frm).length=t.frm.length):=fJm _;generalize tryD c t (decide (k=0)||decide (cmpT y t<0))=R at *;generalize (decide (k=0)||decide (cmpT y t<0))=bh at *;generalize hasL c t.con t.sh=hl at *;obtain⟨m,hm0⟩:∃m,m=t.frm.length:=⟨_,rfl⟩
 have HM:Hid (m=t.frm.length):=hm0;obtain⟨m',hm1⟩:∃m',m'=t.olds.length:=⟨_,rfl⟩
 rw[←hm0] at hnu HU' HD HDu HSl hm ⊢;rw[←hm1] at hnv HW' HD ⊢;rw[←hm0,←hm1] at HB;clear hm0 hm1;go_enter Tryz.func154,Tryz.ntmps154;go_wp2_with fail;refine(HP.out _ qBq).mono ?_;rintro e w1 ⟨rfl,hb1⟩;have hB1:Below w.heap.size w w1:=qBq;have y2:w1.cell? ⟨w.heap.size,2,none⟩=some (.slice a2 n2 c2):=cK hb1 sG;have t0:w1.cell? ⟨w.heap.size+1,0,none⟩=some (.int .i64 t.con):=cK hb1 sG;have t1:w1.cell? ⟨w.heap.size+1,1,none⟩=some (.int .i64 t.sh):=cK hb1 sG;have t2:w1.cell? ⟨w.heap.size+1,2,none⟩=some (.int .i64 t.bal):=cK hb1 sG;have t3:w1.cell? ⟨w.heap.size+1,3,none⟩=some (.int .i64 t.val):=cK hb1 sG;have t4:w1.cell? ⟨w.heap.size+1,4,none⟩=some (.slice p m q):=cK hb1 sG;have t5:w1.cell? ⟨w.heap.size+1,5,none⟩=some (.slice p' m' q'):=cK hb1 sG;have zt:w.heap.size+1<w1.heap.size:=wL w1 _ t0;clear hb1 HP;cases hl
 ·
  have HC:Hid (R=4):=by show _=_;rw[HD.out];rfl
  clear HD;go_wp2;go_ret;exact⟨rH,hB1⟩
 have HD2:Hid (R=if inB t.bal 1 1000=true∧inB t.val 0 2=true then (if bh=true∧m'=m then orF (fC (kY n2 t) m) (if dupB t.frm=true then 7 else 0) else 1) else 3):=by show _=_;rw[HD.out,if_pos rfl]
 clear HD;cases hb:inB t.bal 1 1000
 ·
  have HC:Hid (R=3):=by show _=_;rw[HD2.out,if_neg (fun h=>by rw[hb] at h;cases h.1)]
  clear HD2;go_wp2_with (first|(go_at_call 152;refine(fO _ _ _ _).mono ?_;rintro e w' ⟨rfl,hw⟩;obtain rfl:=hw.symm;rw[hb]));go_ret;exact⟨rH,hB1⟩
 cases hv:inB t.val 0 2
 ·
  have HC:Hid (R=3):=by show _=_;rw[HD2.out,if_neg (fun h=>by rw[hv] at h;cases h.2)]
  clear HD2;go_wp2_with (first|(go_at_call 152;refine(fO _ _ _ _).mono ?_;rintro e w' ⟨rfl,hw⟩;obtain rfl:=hw.symm;first|rw[hb]|rw[hv]));go_ret;exact⟨rH,hB1⟩
 have HD3:Hid (R=if bh=true∧m'=m then orF (fC (kY n2 t) m) (if dupB t.frm=true then 7 else 0) else 1):=by show _=_;rw[HD2.out,if_pos ⟨hb,hv⟩]
 clear HD2;go_wp2_with (first|(go_at_call 152;refine(fO _ _ _ _).mono ?_;rintro e w' ⟨rfl,hw⟩;obtain rfl:=hw.symm;first|rw[hb]|rw[hv]));refine(HB.out _ qBq).mono ?_;rintro e w2 ⟨rfl,hb2⟩;have hB2:=bT w hb2;replace y2:=cK hb2 (cK qBq y2);replace t0:=cK hb2 (cK qBq t0);replace t1:=cK hb2 (cK qBq t1);replace t2:=cK hb2 (cK qBq t2);replace t3:=cK hb2 (cK qBq t3);replace t4:=cK hb2 (cK qBq t4);replace t5:=cK hb2 (cK qBq t5);replace zt:w.heap.size+1<w2.heap.size:=wL w2 _ t0;clear hb2 HB hB1 hb hv;cases bh
 ·
  have HC:Hid (R=1):=by show _=_;rw[HD3.out,if_neg (fun h=>by cases h.1)]
  clear HD3;go_wp2;go_ret;exact⟨rH,hB2⟩
 by_cases hmm:m'=m
 rotate_left
 ·
  have HC:Hid (R=1):=by show _=_;rw[HD3.out,if_neg (fun h=>hmm h.2)]
  have hmm':((m':Int) !=(m:Int))=true:=by simp;omega
  clear HD3;go_wp2;go_ret;exact⟨rH,hB2⟩
 have HD4:Hid (R=orF (fC (kY n2 t) m) (if dupB t.frm=true then 7 else 0)):=by show _=_;rw[HD3.out,if_pos ⟨rfl,hmm⟩]
 clear HD3;subst hmm;have H1:Hid (∀i,i<m'→fC (kY n2 t) i=0→¬kY n2 t i=0→R=kY n2 t i):=fun i hi hs h0=>by
  have e:=fK hs h0 m' hi;show _=_;rw[HD4.out,e,xN h0]
 have H2:Hid (fC (kY n2 t) m'=0→R=if dupB t.frm=true then 7 else 0):=fun h=>by show _=_;rw[HD4.out,vS h]
 clear HD4;go_wp2;go_loopw [42] (fun i w'=>∃k:Nat,k≤m'∧i =.int .i64 k∧Hid (fC (kY n2 t) k=0)∧Below w2.heap.size w2 w') (fun i _=>m'-(intOf i).toNat)
 case atStart=>exact⟨0,oM,rfl,rfl,bR _ _⟩
 obtain⟨i,hi,rfl,HS,hbl⟩:=hrel;have hblw:=bS hB2 hbl;replace y2:=cK hbl y2;replace t0:=cK hbl t0;replace t1:=cK hbl t1;replace t2:=cK hbl t2;replace t3:=cK hbl t3;replace t4:=cK hbl t4;replace t5:=cK hbl t5;replace zt:w.heap.size+1<wr.heap.size:=wL wr _ t0;by_cases hlt:i<m'
 ·
  obtain⟨b,o,rfl,g0⟩:=HU'.out i hlt;obtain⟨b',o',rfl,k0,k1⟩:=HW'.out i hlt;have HD5:Hid (kY n2 t i=if inB (t.frm.getD i 0) 0 ((n2:Int)-1)=true∧oldB (t.olds.getD i default).bal (t.olds.getD i default).val=true then 0 else 3):=rfl;have HH:Hid (¬kY n2 t i=0→R=kY n2 t i):=fun h=>H1.out i hlt HS.out h
  have HZ:Hid (kY n2 t i=0→fC (kY n2 t) (i+1)=0):=fun h=>fE HS.out h
  replace g0:=cK hblw g0;replace k0:=cK hblw k0;replace k1:=cK hblw k1;generalize kY n2 t i=z at *;generalize t.frm.getD i 0=fr at *;generalize (t.olds.getD i default).bal=ob at *;generalize (t.olds.getD i default).val=ov at *;have zb:b<wr.heap.size:=wL wr _ g0;have zb':b'<wr.heap.size:=wL wr _ k0;have hti:(i:Int)<(m':Int):=oM;have hi0:(0:Int)≤(i:Int):=oM;cases hp:inB fr 0 ((n2:Int)-1)
  ·
   have hz:z=3:=by rw[HD5.out,if_neg (fun h=>by rw[hp] at h;cases h.1)]
   have HC:Hid (R=3):=by show _=_;rw[←hz];exact HH.out (by rw[hz];omega)
   clear HH HZ HD5 hz;go_wp2_with (first|(go_at_call 224;refine(qI _ _ _ _ _ L2).mono ?_;rintro e w' ⟨rfl,hw⟩;obtain rfl:=hw.symm;rw[hp]));go_ret;exact⟨rH,qBq⟩
  go_wp2_with (first|(go_at_call 224;refine(qI _ _ _ _ _ L2).mono ?_;rintro e w' ⟨rfl,hw⟩;obtain rfl:=hw.symm;rw[hp]))
  refine(fIs _ _ _).mono ?_;rintro e w3 ⟨rfl,hb3⟩;have hB3:=bT w2 hb3;clear hb3;cases ho:oldB ob ov
  ·
   have hz:z=3:=by rw[HD5.out,if_neg (fun h=>by rw[ho] at h;cases h.2)]
   have HC:Hid (R=3):=by show _=_;rw[←hz];exact HH.out (by rw[hz];omega)
   have hB4:=bS hB2 hB3;clear HH HZ HD5 hz;go_wp2;go_ret;exact⟨rH,hB4⟩
  have hz:z=0:=by rw[HD5.out,if_pos ⟨hp,ho⟩]
  have HQ:Hid _:=HZ.out hz;clear HH HZ HD5 hz;go_wp2;exact⟨⟨i+1,by omega,by go_num,HQ,hB3⟩,mI⟩
 obtain rfl:i=m':=oM;have hti:¬(i:Int)<(i:Int):=oM;have HR:Hid (R=if dupB t.frm=true then 7 else 0):=H2.out HS.out;have HI2:Hid (bW wr fun W=>qN W (.slice p i q) t.frm):=fun W hW=>by
  have:=HIv.out W (bS hblw hW);rw[←HM.out] at this;exact this
 clear H1 H2 HU' HW' HIv;go_wp2;refine wp_region_noPanic ?_;refine fB (fun W=>W.cell? ⟨w.heap.size+1,0,none⟩=some (.int .i64 t.con)∧W.cell? ⟨w.heap.size+1,1,none⟩=some (.int .i64 t.sh)∧W.cell? ⟨w.heap.size+1,2,none⟩=some (.int .i64 t.bal)∧W.cell? ⟨w.heap.size+1,3,none⟩=some (.int .i64 t.val)∧W.cell? ⟨w.heap.size+1,4,none⟩=some (.slice p i q)∧W.cell? ⟨w.heap.size+1,5,none⟩=some (.slice p' i q')) 10 kF ⟨cK qBq t0,cK qBq t1,cK qBq t2,cK qBq t3,cK qBq t4,cK qBq t5⟩ (fun hS=>?_);refine tX 0 ?_;refine tX 1 ?_;refine tX 6 ?_;refine tX 7 ?_;refine tX 8 ?_;refine uS 2 rfl (fun K hK=>?_);go_simp;refine(fDr _ _ _ _).mono ?_;rintro e w3 ⟨rfl,hw3⟩;have hcv:w3.cell? ⟨wr.drew.heap.size,0,none⟩=some (.slice p i q):=by rw[hw3];simp[go_sem]
 have hb3:Below wr.drew.heap.size wr.drew w3:=by rw[hw3];(repeat (first|exact bR _ _|assumption|refine bD ?_|refine bA ?_ _|refine bset ?_ (by simp;omega) _|refine bset ?_ (by simp) _|refine bS ?_ (by assumption)))
 clear hw3;have hB3:=bT wr hb3;have hS3:=kS6 hb3 hS;clear hb3;refine hK _ _ (fun _=>hS3) ?_;clear hK K;try simp only[jX]
 refine uS 3 rfl (fun K hK=>?_);go_simp;refine(fDk p i q t.frm w3 (HI2.out w3 hB3) _ (by simpa using hcv) (by rw[←HM.out];exact hm)).mono ?_;rintro e w4 ⟨v4,rfl,ho4,hb4⟩;have hB4:Below wr.heap.size wr w4:=bS hB3 hb4;have hS4:=kS6 hb4 hS3;have hz4:=hb4.size;clear hb4;refine hK _ _ (fun _=>hS4) ?_;clear hK K;try simp only[jX]
 refine uS 4 rfl (fun K hK=>?_);go_simp;refine(fHx v4 (sortI t.frm) w4 w3.heap.size ho4 hz4 (by rw[HSl.out];exact hm)).mono ?_;rintro e w5 ⟨⟨a5,c5,rfl⟩,hb5⟩;have hB5:Below wr.heap.size wr w5:=hB4.trans (hb5.mono hB3.size);have hS5:(fun W=>W.cell? ⟨w.heap.size+1,0,none⟩=some (.int .i64 t.con)∧W.cell? ⟨w.heap.size+1,1,none⟩=some (.int .i64 t.sh)∧W.cell? ⟨w.heap.size+1,2,none⟩=some (.int .i64 t.bal)∧W.cell? ⟨w.heap.size+1,3,none⟩=some (.int .i64 t.val)∧W.cell? ⟨w.heap.size+1,4,none⟩=some (.slice p i q)∧W.cell? ⟨w.heap.size+1,5,none⟩=some (.slice p' i q')) w5:=⟨(cK hB5 t0),(cK hB5 t1),(cK hB5 t2),(cK hB5 t3),(cK hB5 t4),(cK hB5 t5)⟩;clear hb5 ho4 hz4;refine hK _ _ (fun _=>hS5) ?_;clear hK K;try simp only[jX]
 have hBw:=bS hblw hB5;have hle:=HLe.out;have HDu':Hid ((Lib.compact (sortI t.frm)).length<i↔dupB t.frm=true):=HDu.out;clear HDu HLe HSl;generalize (Lib.compact (sortI t.frm)).length=d at *;by_cases hd:d<i
 ·
  have HC:Hid (R=7):=by show _=_;rw[HR.out,if_pos (HDu'.out.1 hd)]
  have hd':(d:Int)<(i:Int):=oM;refine tX 5 ?_;refine tX 9 (v:=(.bool true)) ?_;refine dP ?_;go_wp2;go_ret;exact⟨rH,hBw⟩
 have HC:Hid (R=0):=by show _=_;rw[HR.out,if_neg (fun h=>hd (HDu'.out.2 h))]
 have hd':¬(d:Int)<(i:Int):=oM;refine tX 5 ?_;refine tX 9 (v:=(.bool false)) ?_;refine dP ?_;go_wp2;go_ret;exact⟨rH,hBw⟩
theorem fQu (x:Value) (c:Clu) (w:World) (hx:cluR.V w x c)
  (hneed:∀k,k<c.ldrs.length→∀i,i<(c.ldrs.getD k default).tries.length→((c.ldrs.getD k default).tries.getD i default).frm.length≤1048576) :
  RI 81 #[x] w (.int .i64 (fEm c)):=by
 have HV:Hid (bW w fun W=>cluR.V W x c):=fun W hW=>cluR.below hx hW
 have hx':=hx;obtain⟨a0,a1,a2,a3,a4,c0,c1,c2,c3,c4,n0,n1,n2,n3,n4,rfl,e0,e1,e2,e3,e4,L0,L1,L2,L3,L4⟩:=gP hx;obtain⟨u1,u2,u3,u4,u5,eq,h1,h2,h3,h4,h5⟩:=hx';simp only[Value.agg.injEq,Array.mk.injEq,List.cons.injEq,and_true] at eq;obtain⟨rfl,rfl,rfl,rfl,rfl⟩:=eq;obtain⟨_,hnc,hmc,HA⟩:=fGb h4;unfold maxLen at hmc;have HX:Hid _:=HA;clear HA h1 h2 h3 h4 h5 hx;have H1:Hid (∀k,k<n3→fC (fun k=>qA c (c.ldrs.getD k default)) k=0→¬qA c (c.ldrs.getD k default)=0→fEm c=qA c (c.ldrs.getD k default)):=fun k hk hs h0=>by unfold fEm;exact fK (f:=fun k=>qA c (c.ldrs.getD k default)) hs h0 _ (by rw[e3];exact hk)
 have H2:Hid (fC (fun k=>qA c (c.ldrs.getD k default)) n3=0→fEm c=0):=fun h=>by unfold fEm;rw[e3];exact h
 have HN:Hid _:=hneed;clear hneed;rw[e3] at HN;clear e0 e1 e2 e3 e4 L0 L1 L2 L4;generalize fEm c=R at *;go_enter Tryz.func81,Tryz.ntmps81;go_wp2;go_loopw [9] (fun i w'=>∃k:Nat,k≤n3∧i =.int .i64 k∧Hid (fC (fun k=>qA c (c.ldrs.getD k default)) k=0)∧(w'.cell? ⟨w.heap.size,0,none⟩=some (.slice a0 n0 c0)∧w'.cell? ⟨w.heap.size,1,none⟩=some (.slice a1 n1 c1)∧w'.cell? ⟨w.heap.size,2,none⟩=some (.slice a2 n2 c2)∧w'.cell? ⟨w.heap.size,3,none⟩=some (.slice a3 n3 c3)∧w'.cell? ⟨w.heap.size,4,none⟩=some (.slice a4 n4 c4))∧Below w.heap.size w w') (fun i _=>n3-(intOf i).toNat)
 case atStart=>exact⟨0,oM,rfl,rfl,⟨sG,by simp[go_sem],sG,by simp[go_sem],sG⟩,qBq⟩
 obtain⟨k,hk,rfl,HS,⟨y0,y1,y2,y3,y4⟩,hbl⟩:=hrel;have zq:w.heap.size<wr.heap.size:=wL wr _ y0;by_cases hlt:k<n3
 ·
  have HA:=HX.out k hlt;have HNk:=HN.out k hlt;have HH:Hid (¬qA c (c.ldrs.getD k default)=0→R=qA c (c.ldrs.getD k default)):=fun h=>H1.out k hlt HS.out h
  have HZ:Hid (qA c (c.ldrs.getD k default)=0→fC (fun k=>qA c (c.ldrs.getD k default)) (k+1)=0):=fun h=>fE (f:=fun k=>qA c (c.ldrs.getD k default)) HS.out h
  obtain⟨l,hl0⟩:∃l,l=c.ldrs.getD k default:=⟨_,rfl⟩
  rw[←hl0] at HA HH HZ HNk;clear hl0;obtain⟨b,o,p,q,p',q',rfl,g0,g1,g2,ht,hh⟩:=HA;have HF:Hid (bW w fun W=>RI 153 #[.agg #[.slice a0 n0 c0,.slice a1 n1 c1,.slice a2 n2 c2,.slice (some ⟨b,o,none⟩) n3 c3,.slice a4 n4 c4],.slice p l.tries.length q,.func (.func 154) #[] #[]] W (.int .i64 (qA c l))):=fun W hW=>by
   have HX2:Hid _:=(fDp ht).2.2.2;have hmx:=(fDp ht).2.2.1;have hnx:=(fDp ht).2.1;unfold maxLen at hmx;exact fPa _ c 154 (xV c l.tries) p _ q l.tries W (HV.out W hW) (enters_of Tryz.func154 kF rfl) (trysR.below ht hW) rfl (fun k hk W' item hW' hi=>by
    rw[fN1];by_cases hk0:k=0
    ·exact fN2 _ c _ _ item (.int .i64 0) (.int .i64 0) p k q W' (HV.out W' (bS hW hW')) hi (HNk k hk) oM (fun p hp=>oM)
    obtain⟨b,o,_,_,_,_,ha,k0,k1,k2,k3,k4,k5,_,_⟩:=HX2.out (k-1) oM;exact fN2 _ c _ _ item _ _ p k q W' (HV.out W' (bS hW hW')) hi (HNk k hk) oM (fun p hp=>⟨b,o,ha,cK (bS hW hW') (by rw[show p=k-1 by omega];exact k0),cK (bS hW hW') (by rw[show p=k-1 by omega];exact k1),cK (bS hW hW') (by rw[show p=k-1 by omega];exact k2),cK (bS hW hW') (by rw[show p=k-1 by omega];exact k3),cK (bS hW hW') (by rw[show p=k-1 by omega];exact k4),cK (bS hW hW') (by rw[show p=k-1 by omega];exact k5)⟩))
  clear ht hh;replace g0:=cK hbl g0;replace g1:=cK hbl g1;replace g2:=cK hbl g2;have zb:b<wr.heap.size:=wL wr _ g0;have hti:(k:Int)<(n3:Int):=oM;generalize qA c l=z at *;generalize l.count=ct at *;generalize l.tries.length=mt at *;generalize l.known.length=mk at *;go_wp2_with fail;refine(HF.out _ qBq).mono ?_;rintro e w1 ⟨rfl,hb1⟩;have hB1:=bT w hb1;have Y1:=And.intro (cK hb1 (cK qBq y0)) (And.intro (cK hb1 (cK qBq y1)) (And.intro (cK hb1 (cK qBq y2)) (And.intro (cK hb1 (cK qBq y3)) (cK hb1 (cK qBq y4)))));clear hb1 HF g0 g1 g2;by_cases hz:z=0
  ·have HQ:Hid _:=HZ.out hz;subst hz;clear HH HZ;go_wp2;exact⟨⟨k+1,by omega,by go_num,HQ,Y1,hB1⟩,mI⟩
  have HC:Hid _:=HH.out hz;have hz':(z !=0)=true:=by simp[hz]
  clear HH HZ;go_wp2;go_ret;exact⟨rH,hB1⟩
 obtain rfl:k=n3:=oM;have hti:¬(k:Int)<(k:Int):=oM;have HC:Hid (R=0):=H2.out HS.out;go_wp2;go_ret;exact⟨rH,hbl⟩
end Go.Proofs.YtbfnobcidnmohaaGreat

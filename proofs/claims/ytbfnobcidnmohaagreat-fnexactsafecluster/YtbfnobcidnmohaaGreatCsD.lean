import Derived.Test.YtbfnobcidnmohaaGreatCfH
set_option maxHeartbeats 32000000
set_option maxRecDepth 20000
set_option linter.unusedSimpArgs false
set_option linter.unusedVariables false
set_option linter.unusedSectionVars false
namespace Go.Proofs.YtbfnobcidnmohaaGreat
open Go.RowKit
variable [dQ Leg] [iH Leg] [dQ Cont] [iH Cont] [dQ Bal] [iH Bal] [dQ Mrk] [iH Mrk] [dQ Shd] [iH Shd] [dQ Vot] [iH Vot] [dQ Slt] [iH Slt] [dQ Acc] [iH Acc] [dQ Trr] [iH Trr] [dQ Hrd] [iH Hrd] [dQ Ldr] [iH Ldr] [dQ Msg] [iH Msg] [dQ Clu] [iH Clu] [dQ Ledg] [iH Ledg] [dQ SltR] [iH SltR] [dQ AccR] [iH AccR] [dQ AccsR] [iH AccsR] [dQ SltsR] [iH SltsR] [dQ Rw] [iH Rw] [dQ LedgR] [iH LedgR] [dQ OutcR] [iH OutcR] [dQ ShdR] [iH ShdR]
attribute [local go_sem ↓] Go.wp_at_zero Go.wp_at_succ
theorem fRk {xs:List Int} {i:Nat} (hi:i<xs.length) (h:xs.getD i 0 ∈ xs.take i):dupB xs=true:=by
 unfold dupB;rw[decide_eq_true_iff];intro hn;obtain⟨j,hj,e⟩:=List.getElem_of_mem h;rw[List.length_take] at hj;rw[List.getElem_take] at e;have:=List.pairwise_iff_getElem.1 hn j i oM hi oM;apply this;rw[e];simp[List.getD,hi]
theorem fM8 {xs:List Int} (h:∀i,i<xs.length→¬xs.getD i 0 ∈ xs.take i):dupB xs=false:=by
 unfold dupB;rw[decide_eq_false_iff_not,Classical.not_not,List.Nodup,List.pairwise_iff_getElem];intro i j hi hj hij e;apply h j hj;rw[show xs.getD j 0=xs[i] by simp[List.getD,hj,e]];rw[List.mem_take_iff_getElem];exact⟨i,by omega,rfl⟩
theorem fIq {w:World} {p:Option Addr} {n q i:Nat} {xs:List Int} (h:qN w (.slice p n q) xs) (hi:i≤n):qN w (.slice p i q) (xs.take i):=by
 obtain⟨a,cap,e,h1,h2,h3⟩:=h;simp only[Value.slice.injEq] at e;obtain⟨rfl,rfl,rfl⟩:=e;have hl:(xs.take i).length=i:=by rw[List.length_take];omega
 refine⟨p,q,by rw[hl],by rw[hl];omega,h2,fun j hj=>?_⟩;rw[hl] at hj;obtain⟨b,o,ha,hc⟩:=h3 j oM;refine⟨b,o,ha,?_⟩;rw[hc];simp[List.getD,List.getElem?_take_of_lt hj]
theorem fPq (B:Nat) (c:Clu) (ts:List Trr) (a:Option Addr) (n cc k:Nat) (w:World) (h:CluB w B c) (hlen:∀k,k<c.cons.length→(c.cons.getD k default).legs.length≤1048576) (hx:trysR.V w (.slice a n cc) ts) (hk:k<n) (hm1:(ts.getD k default).frm.length≤1048576) :
  RI 124 #[.pointer (some ⟨B,0,none⟩),.slice a n cc,.int .i64 k] w (.int .i64 (xV c ts k)):=by
 rw[fN1];have HHas:Hid (∀(a s:Int) W,Below w.heap.size w W→RI 120 #[.pointer (some ⟨B,0,none⟩),.int .i64 a,.int .i64 s] W (.bool (hasL c a s))):=fun a s W hW=>uR B c a s W ((h.below hW).p) hlen
 obtain⟨a0,a1,a2,a3,a4,c0,c1,c2,c3,c4,n0,n1,n2,n3,n4,⟨y0w,y1w,y2w,y3w,y4w⟩,hcx⟩:=h;obtain⟨e0,e1,e2,e3,e4,L0,L1,L2,L3,L4⟩:=vG hcx;have zB:B<w.heap.size:=wL w _ y0w;obtain⟨_,hnc,hmc,HA⟩:=fDp hx;unfold maxLen at hmc;have HAll:Hid _:=HA;clear hcx hlen hx HA y0w y1w y3w y4w e0 e1 e3 e4 L0 L1 L3 L4;obtain⟨b9,o9,p,q,p',q',ha,g0,g1,g2,g3,g4,g5,hu,hv⟩:=HAll.out k hk;obtain⟨t,ht0⟩:∃t,t=ts.getD k default:=⟨_,rfl⟩
 rw[←ht0] at g0 g1 g2 g3 g4 g5 hu hv hm1;rw[←ht0];have HIv:Hid (bW w fun W=>qN W (.slice p t.frm.length q) t.frm):=fun W hW=>intsR.below hu hW
 obtain⟨_,hnu,hmu,HU⟩:=fNi hu;obtain⟨_,hnv,hmv,HW⟩:=fN8 hv;unfold maxLen at hmu hmv;have HU':Hid _:=HU;have HW':Hid _:=HW;clear HU HW hu hv ht0;obtain⟨y,hy0⟩:∃y,y=ts.getD (k-1) default:=⟨_,rfl⟩
 rw[←hy0];have HPr:Hid (∀p1,k=p1+1→w.cell? ⟨b9,o9+p1*6,none⟩=some (.int .i64 y.con)∧w.cell? ⟨b9,o9+p1*6+1,none⟩=some (.int .i64 y.sh)):=fun p1 hp1=>by
  obtain⟨b8,o8,_,_,_,_,ha',f0,f1,_⟩:=HAll.out (k-1) oM;rw[ha] at ha';simp only[Option.some.injEq,Addr.mk.injEq,and_true] at ha';obtain⟨rfl,rfl⟩:=ha';rw[←hy0] at f0 f1;rw[show p1=k-1 by omega];exact⟨f0,f1⟩
 clear hy0 HAll;subst ha;have HD:Hid (tryD c t (decide (k=0)||decide (cmpT y t<0))=if hasL c t.con t.sh=true then (if inB t.bal 1 1000=true∧inB t.val 0 2=true then (if (decide (k=0)||decide (cmpT y t<0))=true∧t.olds.length=t.frm.length then orF (fC (kY n2 t) t.frm.length) (if dupB t.frm=true then 7 else 0) else 1) else 3) else 4):=by show _=_;unfold tryD;rw[e2]
 clear e2;generalize tryD c t (decide (k=0)||decide (cmpT y t<0))=R at *;have HC1:Hid _:=HHas.out t.con t.sh;clear HHas;generalize hasL c t.con t.sh=hl at *;obtain⟨m,hm0⟩:∃m,m=t.frm.length:=⟨_,rfl⟩
 have HM:Hid (m=t.frm.length):=hm0;obtain⟨m',hm2⟩:∃m',m'=t.olds.length:=⟨_,rfl⟩
 rw[←hm0] at hnu HU' HD hm1 g4 HIv;rw[←hm2] at hnv HW' HD g5;clear hm0 hm2;have zb9:b9<w.heap.size:=wL w _ g0;have hkn:(k:Int)<(n:Int):=oM;have hk0:(0:Int)≤(k:Int):=oM;go_enter Tryz.func124,Tryz.ntmps124;go_wp2_with fail;refine(HC1.out _ qBq).mono ?_;rintro e w1 ⟨rfl,hb1⟩;have hB1:Below w.heap.size w w1:=qBq;have t0:w1.cell? ⟨w.heap.size,0,none⟩=some (.int .i64 t.con):=cK hb1 sG;have t1:w1.cell? ⟨w.heap.size,1,none⟩=some (.int .i64 t.sh):=cK hb1 sG;have t2:w1.cell? ⟨w.heap.size,2,none⟩=some (.int .i64 t.bal):=cK hb1 sG;have t3:w1.cell? ⟨w.heap.size,3,none⟩=some (.int .i64 t.val):=cK hb1 sG;have t4:w1.cell? ⟨w.heap.size,4,none⟩=some (.slice p m q):=cK hb1 sG;have t5:w1.cell? ⟨w.heap.size,5,none⟩=some (.slice p' m' q'):=cK hb1 sG;have zt:w.heap.size<w1.heap.size:=wL w1 _ t0;clear hb1 HC1 g0 g1 g2 g3 g4 g5;cases hl
 ·
  have HC:Hid (R=4):=by show _=_;rw[HD.out];rfl
  clear HD;go_wp2;go_ret;exact⟨rH,hB1⟩
 have HD2:Hid (R=if inB t.bal 1 1000=true∧inB t.val 0 2=true then (if (decide (k=0)||decide (cmpT y t<0))=true∧m'=m then orF (fC (kY n2 t) m) (if dupB t.frm=true then 7 else 0) else 1) else 3):=by show _=_;rw[HD.out,if_pos rfl]
 clear HD;cases hb:inB t.bal 1 1000
 ·
  have HC:Hid (R=3):=by show _=_;rw[HD2.out,if_neg (fun h=>by rw[hb] at h;cases h.1)]
  clear HD2;go_wp2_with (first|(go_at_call 123;refine(fM _ _ _ _).mono ?_;rintro e w' ⟨rfl,hw⟩;obtain rfl:=hw.symm;rw[hb]));go_ret;exact⟨rH,hB1⟩
 cases hv:inB t.val 0 2
 ·
  have HC:Hid (R=3):=by show _=_;rw[HD2.out,if_neg (fun h=>by rw[hv] at h;cases h.2)]
  clear HD2;go_wp2_with (first|(go_at_call 123;refine(fM _ _ _ _).mono ?_;rintro e w' ⟨rfl,hw⟩;obtain rfl:=hw.symm;first|rw[hb]|rw[hv]));go_ret;exact⟨rH,hB1⟩
 cases k with
 | zero=>
  have HD3:Hid (R=if true=true∧m'=m then orF (fC (kY n2 t) m) (if dupB t.frm=true then 7 else 0) else 1):=by show _=_;rw[HD2.out,if_pos ⟨hb,hv⟩];simp
  clear HD2 HPr;go_wp2_with (first|(go_at_call 123;refine(fM _ _ _ _).mono ?_;rintro e w' ⟨rfl,hw⟩;obtain rfl:=hw.symm;first|rw[hb]|rw[hv]));refine wp_region_noPanic ?_;refine fB (fun W=>W.cell? ⟨w.heap.size,0,none⟩=some (.int .i64 t.con)∧W.cell? ⟨w.heap.size,1,none⟩=some (.int .i64 t.sh)∧W.cell? ⟨w.heap.size,2,none⟩=some (.int .i64 t.bal)∧W.cell? ⟨w.heap.size,3,none⟩=some (.int .i64 t.val)∧W.cell? ⟨w.heap.size,4,none⟩=some (.slice p m q)∧W.cell? ⟨w.heap.size,5,none⟩=some (.slice p' m' q')) 33 kF ⟨cK qBq t0,cK qBq t1,cK qBq t2,cK qBq t3,cK qBq t4,cK qBq t5⟩ (fun hS=>?_);clear hb hv;refine tX 0 ?_;refine tX 1 (v:=(.bool false)) ?_;refine tX 2 ?_;refine sX 3 fun _=>?_
  refine sX 4 fun _=>?_
  refine sX 5 fun _=>?_
  refine sX 6 fun _=>?_
  refine sX 7 fun _=>?_
  refine sX 8 fun _=>?_
  refine sX 9 fun _=>?_
  refine sX 10 fun _=>?_
  refine sX 11 fun _=>?_
  refine sX 12 fun _=>?_
  refine sX 13 fun _=>?_
  refine sX 14 fun _=>?_
  refine sX 15 fun _=>?_
  refine sX 16 fun _=>?_
  refine sX 17 fun _=>?_
  refine sX 18 fun _=>?_
  refine sX 19 fun _=>?_
  refine sX 20 fun _=>?_
  refine sX 21 fun _=>?_
  refine sX 22 fun _=>?_
  refine tX 23 ?_;refine tX 24 ?_;refine tX 25 ?_;refine tX 26 ?_;refine tX 27 ?_;refine tX 28 ?_;refine tX 29 ?_;refine tX 30 ?_;by_cases hmm:m'=m;rotate_left
  ·
   have HC:Hid (R=1):=by show _=_;rw[HD3.out,if_neg (fun h=>hmm h.2)]
   have hmm':((m:Int) !=(m':Int))=true:=by simp;omega
   clear HD3;refine tX 31 (v:=(.bool true)) ?_;refine tX 32 ?_;refine dP ?_;go_wp2;go_ret;exact⟨rH,qBq⟩
  have HD4:Hid (R=orF (fC (kY n2 t) m) (if dupB t.frm=true then 7 else 0)):=by show _=_;rw[HD3.out,if_pos ⟨by first|rfl|trivial,hmm⟩]
  clear HD3;subst hmm;have hmm':((m':Int) !=(m':Int))=false:=by simp
  refine tX 31 (v:=(.bool false)) ?_;refine tX 32 ?_;refine dP ?_;have hBx:Below w.heap.size w w1.drew:=qBq;have y2':(w1.drew).cell? ⟨B,2,none⟩=some (.slice a2 n2 c2):=cK hBx y2w;have tt:(w1.drew).cell? ⟨w.heap.size,0,none⟩=some (.int .i64 t.con)∧(w1.drew).cell? ⟨w.heap.size,1,none⟩=some (.int .i64 t.sh)∧(w1.drew).cell? ⟨w.heap.size,2,none⟩=some (.int .i64 t.bal)∧(w1.drew).cell? ⟨w.heap.size,3,none⟩=some (.int .i64 t.val)∧(w1.drew).cell? ⟨w.heap.size,4,none⟩=some (.slice p m' q)∧(w1.drew).cell? ⟨w.heap.size,5,none⟩=some (.slice p' m' q'):=hS;obtain⟨t0',t1',t2',t3',t4',t5'⟩:=tt;generalize w1.drew=wx at *;have zx:w.heap.size<wx.heap.size:=wL wx _ t0';have H1:Hid (∀i,i<m'→fC (kY n2 t) i=0→¬kY n2 t i=0→R=kY n2 t i):=fun i hi hs h0=>by
   have e:=fK hs h0 m' hi;show _=_;rw[HD4.out,e,xN h0]
  have H2:Hid (fC (kY n2 t) m'=0→R=if dupB t.frm=true then 7 else 0):=fun h=>by show _=_;rw[HD4.out,vS h]
  clear HD4;go_wp2;go_loopw [8] (fun i w'=>∃i':Nat,i'≤m'∧i =.int .i64 i'∧Hid (fC (kY n2 t) i'=0)∧Below wx.heap.size wx w') (fun i _=>m'-(intOf i).toNat)
  case atStart=>exact⟨0,oM,rfl,rfl,bR _ _⟩
  obtain⟨i,hi,rfl,HS,hbl⟩:=hrel;have hblw:=bS hBx hbl;replace y2':=cK hbl y2';replace t0':=cK hbl t0';replace t1':=cK hbl t1';replace t2':=cK hbl t2';replace t3':=cK hbl t3';replace t4':=cK hbl t4';replace t5':=cK hbl t5';by_cases hlt:i<m'
  ·
   obtain⟨b,o,rfl,g0⟩:=HU'.out i hlt;obtain⟨b',o',rfl,k0,k1⟩:=HW'.out i hlt;have HD5:Hid (kY n2 t i=if inB (t.frm.getD i 0) 0 ((n2:Int)-1)=true∧oldB (t.olds.getD i default).bal (t.olds.getD i default).val=true then 0 else 3):=rfl;have HH:Hid (¬kY n2 t i=0→R=kY n2 t i):=fun h=>H1.out i hlt HS.out h
   have HZ:Hid (kY n2 t i=0→fC (kY n2 t) (i+1)=0):=fun h=>fE HS.out h
   replace g0:=cK hblw g0;replace k0:=cK hblw k0;replace k1:=cK hblw k1;generalize kY n2 t i=z at *;generalize t.frm.getD i 0=fr at *;generalize (t.olds.getD i default).bal=ob at *;generalize (t.olds.getD i default).val=ov at *;have hti:(i:Int)<(m':Int):=oM;have hi0:(0:Int)≤(i:Int):=oM;have i4:IntKind.i64.wrap ((n2:Int)-1)=(n2:Int)-1:=kD oM oM;have i5:IntKind.i64.wrap (n2:Int)=(n2:Int):=kD oM oM;go_wp2;refine wp_region_noPanic ?_;refine fB (fun W=>W.cell? ⟨w.heap.size,4,none⟩=some (.slice (some ⟨b,o,none⟩) m' q)∧W.cell? ⟨w.heap.size,5,none⟩=some (.slice (some ⟨b',o',none⟩) m' q')∧W.cell? ⟨B,2,none⟩=some (.slice a2 n2 c2)∧W.cell? ⟨b,o+i,none⟩=some (.int .i64 fr)∧W.cell? ⟨b',o'+i*2,none⟩=some (.int .i64 ob)∧W.cell? ⟨b',o'+i*2+1,none⟩=some (.int .i64 ov)) 31 kF ⟨cK qBq t4',cK qBq t5',cK qBq y2',cK qBq g0,cK qBq k0,cK qBq k1⟩ (fun hS=>?_);refine tX 0 ?_;refine tX 1 ?_;refine tX 2 ?_;refine tX 3 ?_;refine tX 4 ?_;refine tX 5 ?_;refine tX 6 ?_;refine tX 7 ?_;refine tX 8 ?_;refine tX 9 ?_;refine tX 10 ?_;refine uS 11 rfl (fun K hK=>?_);go_simp;refine(fM _ _ _ _).mono ?_;rintro e w' ⟨rfl,hw⟩;obtain rfl:=hw.symm;refine hK _ _ (fun _=>hS) ?_;clear hK K;try simp only[jX]
   cases hp:inB fr 0 ((n2:Int)-1)
   ·
    have hz:z=3:=by rw[HD5.out,if_neg (fun h=>by rw[hp] at h;cases h.1)]
    have HC:Hid (R=3):=by show _=_;rw[←hz];exact HH.out (by rw[hz];omega)
    clear HH HZ HD5 hz;refine tX 12 ?_;refine tX 13 ?_;refine sX 14 fun _=>?_
    refine sX 15 fun _=>?_
    refine sX 16 fun _=>?_
    refine sX 17 fun _=>?_
    refine sX 18 fun _=>?_
    refine sX 19 fun _=>?_
    refine sX 20 fun _=>?_
    refine sY 21 ?_;refine sX 22 fun _=>?_
    refine sX 23 fun _=>?_
    refine sX 24 fun _=>?_
    refine sX 25 fun _=>?_
    refine sX 26 fun _=>?_
    refine sX 27 fun _=>?_
    refine sX 28 fun _=>?_
    refine sX 29 fun _=>?_
    refine tX 30 ?_;refine dP ?_;go_wp2;go_ret;exact⟨rH,qBq⟩
   refine tX 12 ?_;refine tX 13 ?_;refine tX 14 ?_;refine tX 15 ?_;refine tX 16 ?_;refine tX 17 ?_;refine tX 18 ?_;refine uS 19 rfl (fun K hK=>?_);go_simp;refine(rC _).mono ?_;rintro e w4 ⟨rfl,hb4⟩;have hB4:=bT wx hb4;have hS4:=kS6 hb4 hS;refine hK _ _ (fun _=>hS4) ?_;clear hK K hb4;try simp only[jX]
   have hne:=uW ob ov (-1) 0;cases hno:(decide (ob = -1)&&decide (ov=0))
   ·
    rw[hno] at hne;refine tX 20 (v:=(.bool true)) ?_;refine tX 21 ?_;refine tX 22 ?_;refine tX 23 ?_;refine tX 24 ?_;refine tX 25 ?_;refine tX 26 ?_;refine uS 27 rfl (fun K hK=>?_);go_simp;refine(uM _ _ _).mono ?_;rintro e w5 ⟨rfl,hb5⟩;have hB5:Below wx.heap.size wx w5:=bS hB4 hb5;have hS5:=kS6 hb5 hS4;refine hK _ _ (fun _=>hS5) ?_;clear hK K hb5;try simp only[jX]
    have hold:oldB ob ov=(inB ob 0 1000&&inB ov 1 2):=by unfold oldB;rw[hno];rfl
    rw[hold] at HD5;generalize (inB ob 0 1000&&inB ov 1 2)=rb at *;cases rb
    ·
     have hz:z=3:=by rw[HD5.out,if_neg (fun h=>by cases h.2)]
     have HC:Hid (R=3):=by show _=_;rw[←hz];exact HH.out (by rw[hz];omega)
     have hB6:=bS hBx hB5;clear HH HZ HD5 hz;refine tX 28 ?_;refine tX 29 ?_;refine tX 30 ?_;refine dP ?_;go_wp2;go_ret;exact⟨rH,hB6⟩
    have hz:z=0:=by rw[HD5.out,if_pos ⟨hp,rfl⟩]
    have HQ:Hid _:=HZ.out hz;clear HH HZ HD5 hz;refine tX 28 ?_;refine tX 29 ?_;refine tX 30 ?_;refine dP ?_;go_wp2;exact⟨⟨i+1,by omega,by go_num,HQ,hB5⟩,mI⟩
   rw[hno] at hne;have hold:oldB ob ov=true:=by unfold oldB;rw[hno];rfl
   have hz:z=0:=by rw[HD5.out,if_pos ⟨hp,hold⟩]
   have HQ:Hid _:=HZ.out hz;clear HH HZ HD5 hz;refine tX 20 (v:=(.bool false)) ?_;refine tX 21 ?_;refine sX 22 fun _=>?_
   refine sX 23 fun _=>?_
   refine sX 24 fun _=>?_
   refine sX 25 fun _=>?_
   refine sX 26 fun _=>?_
   refine sX 27 fun _=>?_
   refine sX 28 fun _=>?_
   refine tX 29 ?_;refine tX 30 ?_;refine dP ?_;go_wp2;exact⟨⟨i+1,by omega,by go_num,HQ,hB4⟩,mI⟩
  obtain rfl:i=m':=oM;have hti:¬(i:Int)<(i:Int):=oM;have HR:Hid (R=if dupB t.frm=true then 7 else 0):=H2.out HS.out;clear H1 H2 HW' y2';have hBy:Below w.heap.size w wr:=hblw;go_wp2;generalize wr=wz at *;have zz:w.heap.size<wz.heap.size:=wL wz _ t0';go_loopw [9] (fun v w'=>∃i':Nat,i'≤i∧v =.int .i64 i'∧Hid (∀j,j<i'→¬t.frm.getD j 0 ∈ t.frm.take j)∧Below wz.heap.size wz w') (fun v _=>i-(intOf v).toNat)
  case atStart=>exact⟨0,oM,rfl,fun j hj=>absurd hj oM,bR _ _⟩
  obtain⟨j,hj,rfl,HS2,hbl2⟩:=hrel;have hbl2w:=bS hBy hbl2;replace t4':=cK hbl2 t4';by_cases hlt2:j<i
  ·
   obtain⟨b,o,hpe,g0⟩:=HU'.out j hlt2;have HI2:Hid (bW w fun W=>qN W (.slice p j q) (t.frm.take j)):=fun W hW=>fIq (HIv.out W hW) oM
   have HDp:Hid (t.frm.getD j 0 ∈ t.frm.take j→R=7):=fun h=>by
    show _=_;rw[HR.out,if_pos (fRk (by rw[←HM.out];exact hlt2) h)]
   have HNp:Hid (¬t.frm.getD j 0 ∈ t.frm.take j→∀j',j'<j+1→¬t.frm.getD j' 0 ∈ t.frm.take j'):=fun h j' hj'=>by
    by_cases e:j'=j
    ·rw[e];exact h
    exact HS2.out j' oM
   subst hpe;replace g0:=cK hbl2w g0;obtain⟨ti,hti0⟩:∃ti,ti=t.frm.take j:=⟨_,rfl⟩
   rw[←hti0] at HI2 HDp HNp;clear hti0;generalize t.frm.getD j 0=fj at *;have hti2:(j:Int)<(i:Int):=oM;have hj0:(0:Int)≤(j:Int):=oM;have hj1:(j:Int)≤(q:Int):=oM;have j5:IntKind.i64.wrap (j:Int)=(j:Int):=kD oM oM;go_wp2;refine wp_region_noPanic ?_;refine fB (fun W=>W.cell? ⟨w.heap.size,4,none⟩=some (.slice (some ⟨b,o,none⟩) i q)∧W.cell? ⟨b,o+j,none⟩=some (.int .i64 fj)) 10 kF ⟨cK qBq t4',cK qBq g0⟩ (fun hS=>?_);refine tX 0 ?_;refine tX 1 ?_;refine tX 2 ?_;refine tX 3 ?_;refine tX 4 ?_;refine tX 5 ?_;refine tX 6 ?_;refine tX 7 ?_;refine tX 8 ?_;refine uS 9 rfl (fun K hK=>?_);go_simp;refine(fA3 _ ti fj _ (HI2.out _ qBq)).mono ?_;rintro e w' ⟨rfl,hw⟩;obtain rfl:=hw.symm;refine hK _ _ (fun _=>hS) ?_;clear hK K;try simp only[jX]
   by_cases hin:fj ∈ ti
   ·have HC:Hid _:=HDp.out hin;rw[decide_eq_true hin];clear HDp HNp;refine dP ?_;go_wp2;go_ret;exact⟨rH,qBq⟩
   have HQ:Hid _:=HNp.out hin;rw[decide_eq_false hin];clear HDp HNp;refine dP ?_;go_wp2;exact⟨⟨j+1,by omega,by go_num,HQ,qBq⟩,mI⟩
  obtain rfl:j=i:=oM;have hti2:¬(j:Int)<(j:Int):=oM;have HC:Hid (R=0):=by
   show _=_;rw[HR.out,fM8 (fun i' hi'=>HS2.out i' (by rw[HM.out];exact hi'))];rfl
  go_wp2;go_ret;exact⟨rH,hbl2w⟩
 | succ p1=>
  have HD3':Hid (R=if decide (cmpT y t<0)=true∧m'=m then orF (fC (kY n2 t) m) (if dupB t.frm=true then 7 else 0) else 1):=by show _=_;rw[HD2.out,if_pos ⟨hb,hv⟩];simp
  clear HD2;obtain⟨f0,f1⟩:=HPr.out p1 rfl;replace f0:=cK hB1 f0;replace f1:=cK hB1 f1;clear HPr;have j1:(0:Int)<((p1+1:Nat):Int):=oM;have j2:(0:Int)<(p1:Int)+1:=oM;have j3:IntKind.i64.wrap (((p1+1:Nat):Int)-1)=(p1:Int):=by rw[IntKind.wrap_i64];omega
  have j4:IntKind.i64.wrap ((p1:Int)+1-1)=(p1:Int):=by rw[IntKind.wrap_i64];omega
  have j5:(0:Int)≤(p1:Int):=oM;have j6:(p1:Int)<(n:Int):=oM;have j7:IntKind.i64.wrap (p1:Int)=(p1:Int):=kD oM oM;have HAh:Hid (kX ⟨y.con,y.sh,0,0,0,[]⟩ ⟨t.con,t.sh,0,0,0,[]⟩=decide (cmpT y t<0)):=rfl;go_wp2_with (first|(go_at_call 123;refine(fM _ _ _ _).mono ?_;rintro e w' ⟨rfl,hw⟩;obtain rfl:=hw.symm;first|rw[hb]|rw[hv]));refine wp_region_noPanic ?_;refine fB (fun W=>W.cell? ⟨w.heap.size,0,none⟩=some (.int .i64 t.con)∧W.cell? ⟨w.heap.size,1,none⟩=some (.int .i64 t.sh)∧W.cell? ⟨w.heap.size,2,none⟩=some (.int .i64 t.bal)∧W.cell? ⟨w.heap.size,3,none⟩=some (.int .i64 t.val)∧W.cell? ⟨w.heap.size,4,none⟩=some (.slice p m q)∧W.cell? ⟨w.heap.size,5,none⟩=some (.slice p' m' q')∧W.cell? ⟨b9,o9+p1*6,none⟩=some (.int .i64 y.con)∧W.cell? ⟨b9,o9+p1*6+1,none⟩=some (.int .i64 y.sh)) 33 kF ⟨cK qBq t0,cK qBq t1,cK qBq t2,cK qBq t3,cK qBq t4,cK qBq t5,cK qBq f0,cK qBq f1⟩ (fun hS=>?_);clear hb hv;refine tX 0 ?_;refine tX 1 (v:=(.bool true)) ?_;refine tX 2 ?_;refine tX 3 ?_;refine tX 4 ?_;refine tX 5 ?_;refine tX 6 ?_;refine tX 7 ?_;refine tX 8 ?_;refine tX 9 ?_;refine tX 10 ?_;refine tX 11 ?_;refine tX 12 ?_;refine tX 13 ?_;refine tX 14 ?_;refine tX 15 ?_;refine tX 16 ?_;refine tX 17 ?_;refine tX 18 ?_;refine tX 19 ?_;refine tX 20 ?_;refine uS 21 rfl (fun K hK=>?_);go_simp;refine(yU ⟨y.con,y.sh,0,0,0,[]⟩ ⟨t.con,t.sh,0,0,0,[]⟩ (.slice none 0 0) (.slice none 0 0) _).mono ?_;rintro e w2 ⟨rfl,hb2⟩;rw[HAh.out];have hB2:=bT w hb2;have hS2:=kS8 hb2 hS;refine hK _ _ (fun _=>hS2) ?_;clear hK K hb2;try simp only[jX]
  generalize decide (cmpT y t<0)=ah at *;cases ah
  ·
   have HC:Hid (R=1):=by show _=_;rw[HD3'.out,if_neg (fun h=>by cases h.1)]
   clear HD3';refine tX 22 ?_;refine tX 23 ?_;refine tX 24 ?_;refine sX 25 fun _=>?_
   refine sX 26 fun _=>?_
   refine sX 27 fun _=>?_
   refine sX 28 fun _=>?_
   refine sX 29 fun _=>?_
   refine sX 30 fun _=>?_
   refine sX 31 fun _=>?_
   refine tX 32 ?_;refine dP ?_;go_wp2;go_ret;exact⟨rH,hB2⟩
  have HD3:Hid (R=if true=true∧m'=m then orF (fC (kY n2 t) m) (if dupB t.frm=true then 7 else 0) else 1):=HD3'.out;clear HD3';refine tX 22 ?_;refine tX 23 ?_;refine tX 24 ?_;refine tX 25 ?_;refine tX 26 ?_;refine tX 27 ?_;refine tX 28 ?_;refine tX 29 ?_;refine tX 30 ?_;by_cases hmm:m'=m;rotate_left
  ·
   have HC:Hid (R=1):=by show _=_;rw[HD3.out,if_neg (fun h=>hmm h.2)]
   have hmm':((m:Int) !=(m':Int))=true:=by simp;omega
   clear HD3;refine tX 31 (v:=(.bool true)) ?_;refine tX 32 ?_;refine dP ?_;go_wp2;go_ret;exact⟨rH,hB2⟩
  have HD4:Hid (R=orF (fC (kY n2 t) m) (if dupB t.frm=true then 7 else 0)):=by show _=_;rw[HD3.out,if_pos ⟨by first|rfl|trivial,hmm⟩]
  clear HD3;subst hmm;have hmm':((m':Int) !=(m':Int))=false:=by simp
  refine tX 31 (v:=(.bool false)) ?_;refine tX 32 ?_;refine dP ?_;have hBx:Below w.heap.size w w2:=hB2;have y2':(w2).cell? ⟨B,2,none⟩=some (.slice a2 n2 c2):=cK hBx y2w;have tt:=And.intro hS2.1 (And.intro hS2.2.1 (And.intro hS2.2.2.1 (And.intro hS2.2.2.2.1 (And.intro hS2.2.2.2.2.1 hS2.2.2.2.2.2.1))));obtain⟨t0',t1',t2',t3',t4',t5'⟩:=tt;generalize w2=wx at *;have zx:w.heap.size<wx.heap.size:=wL wx _ t0';have H1:Hid (∀i,i<m'→fC (kY n2 t) i=0→¬kY n2 t i=0→R=kY n2 t i):=fun i hi hs h0=>by
   have e:=fK hs h0 m' hi;show _=_;rw[HD4.out,e,xN h0]
  have H2:Hid (fC (kY n2 t) m'=0→R=if dupB t.frm=true then 7 else 0):=fun h=>by show _=_;rw[HD4.out,vS h]
  clear HD4;go_wp2;go_loopw [8] (fun i w'=>∃i':Nat,i'≤m'∧i =.int .i64 i'∧Hid (fC (kY n2 t) i'=0)∧Below wx.heap.size wx w') (fun i _=>m'-(intOf i).toNat)
  case atStart=>exact⟨0,oM,rfl,rfl,bR _ _⟩
  obtain⟨i,hi,rfl,HS,hbl⟩:=hrel;have hblw:=bS hBx hbl;replace y2':=cK hbl y2';replace t0':=cK hbl t0';replace t1':=cK hbl t1';replace t2':=cK hbl t2';replace t3':=cK hbl t3';replace t4':=cK hbl t4';replace t5':=cK hbl t5';by_cases hlt:i<m'
  ·
   obtain⟨b,o,rfl,g0⟩:=HU'.out i hlt;obtain⟨b',o',rfl,k0,k1⟩:=HW'.out i hlt;have HD5:Hid (kY n2 t i=if inB (t.frm.getD i 0) 0 ((n2:Int)-1)=true∧oldB (t.olds.getD i default).bal (t.olds.getD i default).val=true then 0 else 3):=rfl;have HH:Hid (¬kY n2 t i=0→R=kY n2 t i):=fun h=>H1.out i hlt HS.out h
   have HZ:Hid (kY n2 t i=0→fC (kY n2 t) (i+1)=0):=fun h=>fE HS.out h
   replace g0:=cK hblw g0;replace k0:=cK hblw k0;replace k1:=cK hblw k1;generalize kY n2 t i=z at *;generalize t.frm.getD i 0=fr at *;generalize (t.olds.getD i default).bal=ob at *;generalize (t.olds.getD i default).val=ov at *;have hti:(i:Int)<(m':Int):=oM;have hi0:(0:Int)≤(i:Int):=oM;have i4:IntKind.i64.wrap ((n2:Int)-1)=(n2:Int)-1:=kD oM oM;have i5:IntKind.i64.wrap (n2:Int)=(n2:Int):=kD oM oM;go_wp2;refine wp_region_noPanic ?_;refine fB (fun W=>W.cell? ⟨w.heap.size,4,none⟩=some (.slice (some ⟨b,o,none⟩) m' q)∧W.cell? ⟨w.heap.size,5,none⟩=some (.slice (some ⟨b',o',none⟩) m' q')∧W.cell? ⟨B,2,none⟩=some (.slice a2 n2 c2)∧W.cell? ⟨b,o+i,none⟩=some (.int .i64 fr)∧W.cell? ⟨b',o'+i*2,none⟩=some (.int .i64 ob)∧W.cell? ⟨b',o'+i*2+1,none⟩=some (.int .i64 ov)) 31 kF ⟨cK qBq t4',cK qBq t5',cK qBq y2',cK qBq g0,cK qBq k0,cK qBq k1⟩ (fun hS=>?_);refine tX 0 ?_;refine tX 1 ?_;refine tX 2 ?_;refine tX 3 ?_;refine tX 4 ?_;refine tX 5 ?_;refine tX 6 ?_;refine tX 7 ?_;refine tX 8 ?_;refine tX 9 ?_;refine tX 10 ?_;refine uS 11 rfl (fun K hK=>?_);go_simp;refine(fM _ _ _ _).mono ?_;rintro e w' ⟨rfl,hw⟩;obtain rfl:=hw.symm;refine hK _ _ (fun _=>hS) ?_;clear hK K;try simp only[jX]
   cases hp:inB fr 0 ((n2:Int)-1)
   ·
    have hz:z=3:=by rw[HD5.out,if_neg (fun h=>by rw[hp] at h;cases h.1)]
    have HC:Hid (R=3):=by show _=_;rw[←hz];exact HH.out (by rw[hz];omega)
    clear HH HZ HD5 hz;refine tX 12 ?_;refine tX 13 ?_;refine sX 14 fun _=>?_
    refine sX 15 fun _=>?_
    refine sX 16 fun _=>?_
    refine sX 17 fun _=>?_
    refine sX 18 fun _=>?_
    refine sX 19 fun _=>?_
    refine sX 20 fun _=>?_
    refine sY 21 ?_;refine sX 22 fun _=>?_
    refine sX 23 fun _=>?_
    refine sX 24 fun _=>?_
    refine sX 25 fun _=>?_
    refine sX 26 fun _=>?_
    refine sX 27 fun _=>?_
    refine sX 28 fun _=>?_
    refine sX 29 fun _=>?_
    refine tX 30 ?_;refine dP ?_;go_wp2;go_ret;exact⟨rH,qBq⟩
   refine tX 12 ?_;refine tX 13 ?_;refine tX 14 ?_;refine tX 15 ?_;refine tX 16 ?_;refine tX 17 ?_;refine tX 18 ?_;refine uS 19 rfl (fun K hK=>?_);go_simp;refine(rC _).mono ?_;rintro e w4 ⟨rfl,hb4⟩;have hB4:=bT wx hb4;have hS4:=kS6 hb4 hS;refine hK _ _ (fun _=>hS4) ?_;clear hK K hb4;try simp only[jX]
   have hne:=uW ob ov (-1) 0;cases hno:(decide (ob = -1)&&decide (ov=0))
   ·
    rw[hno] at hne;refine tX 20 (v:=(.bool true)) ?_;refine tX 21 ?_;refine tX 22 ?_;refine tX 23 ?_;refine tX 24 ?_;refine tX 25 ?_;refine tX 26 ?_;refine uS 27 rfl (fun K hK=>?_);go_simp;refine(uM _ _ _).mono ?_;rintro e w5 ⟨rfl,hb5⟩;have hB5:Below wx.heap.size wx w5:=bS hB4 hb5;have hS5:=kS6 hb5 hS4;refine hK _ _ (fun _=>hS5) ?_;clear hK K hb5;try simp only[jX]
    have hold:oldB ob ov=(inB ob 0 1000&&inB ov 1 2):=by unfold oldB;rw[hno];rfl
    rw[hold] at HD5;generalize (inB ob 0 1000&&inB ov 1 2)=rb at *;cases rb
    ·
     have hz:z=3:=by rw[HD5.out,if_neg (fun h=>by cases h.2)]
     have HC:Hid (R=3):=by show _=_;rw[←hz];exact HH.out (by rw[hz];omega)
     have hB6:=bS hBx hB5;clear HH HZ HD5 hz;refine tX 28 ?_;refine tX 29 ?_;refine tX 30 ?_;refine dP ?_;go_wp2;go_ret;exact⟨rH,hB6⟩
    have hz:z=0:=by rw[HD5.out,if_pos ⟨hp,rfl⟩]
    have HQ:Hid _:=HZ.out hz;clear HH HZ HD5 hz;refine tX 28 ?_;refine tX 29 ?_;refine tX 30 ?_;refine dP ?_;go_wp2;exact⟨⟨i+1,by omega,by go_num,HQ,hB5⟩,mI⟩
   rw[hno] at hne;have hold:oldB ob ov=true:=by unfold oldB;rw[hno];rfl
   have hz:z=0:=by rw[HD5.out,if_pos ⟨hp,hold⟩]
   have HQ:Hid _:=HZ.out hz;clear HH HZ HD5 hz;refine tX 20 (v:=(.bool false)) ?_;refine tX 21 ?_;refine sX 22 fun _=>?_
   refine sX 23 fun _=>?_
   refine sX 24 fun _=>?_
   refine sX 25 fun _=>?_
   refine sX 26 fun _=>?_
   refine sX 27 fun _=>?_
   refine sX 28 fun _=>?_
   refine tX 29 ?_;refine tX 30 ?_;refine dP ?_;go_wp2;exact⟨⟨i+1,by omega,by go_num,HQ,hB4⟩,mI⟩
  obtain rfl:i=m':=oM;have hti:¬(i:Int)<(i:Int):=oM;have HR:Hid (R=if dupB t.frm=true then 7 else 0):=H2.out HS.out;clear H1 H2 HW' y2';have hBy:Below w.heap.size w wr:=hblw;go_wp2;generalize wr=wz at *;have zz:w.heap.size<wz.heap.size:=wL wz _ t0';go_loopw [9] (fun v w'=>∃i':Nat,i'≤i∧v =.int .i64 i'∧Hid (∀j,j<i'→¬t.frm.getD j 0 ∈ t.frm.take j)∧Below wz.heap.size wz w') (fun v _=>i-(intOf v).toNat)
  case atStart=>exact⟨0,oM,rfl,fun j hj=>absurd hj oM,bR _ _⟩
  obtain⟨j,hj,rfl,HS2,hbl2⟩:=hrel;have hbl2w:=bS hBy hbl2;replace t4':=cK hbl2 t4';by_cases hlt2:j<i
  ·
   obtain⟨b,o,hpe,g0⟩:=HU'.out j hlt2;have HI2:Hid (bW w fun W=>qN W (.slice p j q) (t.frm.take j)):=fun W hW=>fIq (HIv.out W hW) oM
   have HDp:Hid (t.frm.getD j 0 ∈ t.frm.take j→R=7):=fun h=>by
    show _=_;rw[HR.out,if_pos (fRk (by rw[←HM.out];exact hlt2) h)]
   have HNp:Hid (¬t.frm.getD j 0 ∈ t.frm.take j→∀j',j'<j+1→¬t.frm.getD j' 0 ∈ t.frm.take j'):=fun h j' hj'=>by
    by_cases e:j'=j
    ·rw[e];exact h
    exact HS2.out j' oM
   subst hpe;replace g0:=cK hbl2w g0;obtain⟨ti,hti0⟩:∃ti,ti=t.frm.take j:=⟨_,rfl⟩
   rw[←hti0] at HI2 HDp HNp;clear hti0;generalize t.frm.getD j 0=fj at *;have hti2:(j:Int)<(i:Int):=oM;have hj0:(0:Int)≤(j:Int):=oM;have hj1:(j:Int)≤(q:Int):=oM;have j5:IntKind.i64.wrap (j:Int)=(j:Int):=kD oM oM;go_wp2;refine wp_region_noPanic ?_;refine fB (fun W=>W.cell? ⟨w.heap.size,4,none⟩=some (.slice (some ⟨b,o,none⟩) i q)∧W.cell? ⟨b,o+j,none⟩=some (.int .i64 fj)) 10 kF ⟨cK qBq t4',cK qBq g0⟩ (fun hS=>?_);refine tX 0 ?_;refine tX 1 ?_;refine tX 2 ?_;refine tX 3 ?_;refine tX 4 ?_;refine tX 5 ?_;refine tX 6 ?_;refine tX 7 ?_;refine tX 8 ?_;refine uS 9 rfl (fun K hK=>?_);go_simp;refine(fA3 _ ti fj _ (HI2.out _ qBq)).mono ?_;rintro e w' ⟨rfl,hw⟩;obtain rfl:=hw.symm;refine hK _ _ (fun _=>hS) ?_;clear hK K;try simp only[jX]
   by_cases hin:fj ∈ ti
   ·have HC:Hid _:=HDp.out hin;rw[decide_eq_true hin];clear HDp HNp;refine dP ?_;go_wp2;go_ret;exact⟨rH,qBq⟩
   have HQ:Hid _:=HNp.out hin;rw[decide_eq_false hin];clear HDp HNp;refine dP ?_;go_wp2;exact⟨⟨j+1,by omega,by go_num,HQ,qBq⟩,mI⟩
  obtain rfl:j=i:=oM;have hti2:¬(j:Int)<(j:Int):=oM;have HC:Hid (R=0):=by
   show _=_;rw[HR.out,fM8 (fun i' hi'=>HS2.out i' (by rw[HM.out];exact hi'))];rfl
  go_wp2;go_ret;exact⟨rH,hbl2w⟩
end Go.Proofs.YtbfnobcidnmohaaGreat

import Derived.Test.YtbfnobcidnmohaaGreatCsD
set_option maxHeartbeats 64000000
set_option maxRecDepth 20000
set_option linter.unusedSimpArgs false
set_option linter.unusedVariables false
set_option linter.unusedSectionVars false
namespace Go.Proofs.YtbfnobcidnmohaaGreat
open Go.RowKit
attribute [local go_sem ↓] Go.wp_at_zero Go.wp_at_succ
section
variable [dQ Leg] [iH Leg] [dQ Cont] [iH Cont] [dQ Bal] [iH Bal] [dQ Mrk] [iH Mrk] [dQ Shd] [iH Shd] [dQ Vot] [iH Vot] [dQ Slt] [iH Slt] [dQ Acc] [iH Acc] [dQ Trr] [iH Trr] [dQ Hrd] [iH Hrd] [dQ Ldr] [iH Ldr] [dQ Msg] [iH Msg] [dQ Clu] [iH Clu] [dQ Ledg] [iH Ledg] [dQ SltR] [iH SltR] [dQ AccR] [iH AccR] [dQ AccsR] [iH AccsR] [dQ SltsR] [iH SltsR] [dQ Rw] [iH Rw] [dQ LedgR] [iH LedgR] [dQ OutcR] [iH OutcR] [dQ ShdR] [iH ShdR]
theorem fD7 (B:Nat) (c:Clu) (w:World) (h:CluB w B c) (hlen:∀k,k<c.cons.length→(c.cons.getD k default).legs.length≤1048576) (hneed:∀k,k<c.ldrs.length→∀i,i<(c.ldrs.getD k default).tries.length→((c.ldrs.getD k default).tries.getD i default).frm.length≤1048576) :
  RI 64 #[.pointer (some ⟨B,0,none⟩)] w (.int .i64 (fB1 c)):=by
 have HHas:Hid (∀(a s:Int) W,Below w.heap.size w W→RI 120 #[.pointer (some ⟨B,0,none⟩),.int .i64 a,.int .i64 s] W (.bool (hasL c a s))):=fun a s W hW=>uR B c a s W ((h.below hW).p) hlen
 have HTry:Hid (∀(ts:List Trr) (a:Option Addr) (n cc k:Nat) W,Below w.heap.size w W→trysR.V W (.slice a n cc) ts→k<n→(ts.getD k default).frm.length≤1048576→RI 124 #[.pointer (some ⟨B,0,none⟩),.slice a n cc,.int .i64 k] W (.int .i64 (xV c ts k))):=fun ts a n cc k W hW hx hk hm=>fPq B c ts a n cc k W (h.below hW) hlen hx hk hm
 have HP:Hid (bW w fun W=>CluP W B c):=fun W hW=>(h.below hW).p
 obtain⟨a0,a1,a2,a3,a4,c0,c1,c2,c3,c4,n0,n1,n2,n3,n4,⟨y0,y1,y2,y3,y4⟩,hx⟩:=h;have hf:=vG hx;obtain⟨e0,e1,e2,e3,e4,L0,L1,L2,L3,L4⟩:=hf;obtain⟨u1,u2,u3,u4,u5,eq,h1,h2,h3,h4,h5⟩:=hx;simp only[Value.agg.injEq,Array.mk.injEq,List.cons.injEq,and_true] at eq;obtain⟨rfl,rfl,rfl,rfl,rfl⟩:=eq;have zB:B<w.heap.size:=wL w _ y0;obtain⟨_,hnc,hmc,HA⟩:=fGb h4;unfold maxLen at hmc;have HX:Hid _:=HA;rw[e3] at hneed;have HN:Hid _:=hneed;have E2:Hid (c.accs.length=n2):=e2;have H1:Hid (∀k,k<n3→fC (fun k=>ldrA c (c.ldrs.getD k default)) k=0→¬ldrA c (c.ldrs.getD k default)=0→fB1 c=ldrA c (c.ldrs.getD k default)):=fun k hk hs h0=>by unfold fB1;exact fK (f:=fun k=>ldrA c (c.ldrs.getD k default)) hs h0 _ (by rw[e3];exact hk)
 have H2:Hid (fC (fun k=>ldrA c (c.ldrs.getD k default)) n3=0→fB1 c=0):=fun h=>by unfold fB1;rw[e3];exact h
 clear HA h1 h2 h3 h4 h5 hlen hneed e0 e1 e2 e3 e4 L0 L1 L4 HP y0 y1 y4;generalize fB1 c=R at *;go_enter Tryz.func64,Tryz.ntmps64;go_wp2;go_loopw [3] (fun i w'=>∃k:Nat,k≤n3∧i =.int .i64 k∧Hid (fC (fun k=>ldrA c (c.ldrs.getD k default)) k=0)∧Below w.heap.size w w') (fun i _=>n3-(intOf i).toNat)
 case atStart=>exact⟨0,oM,rfl,rfl,qBq⟩
 obtain⟨k,hk,rfl,HS,hbl⟩:=hrel;have y3':=cK hbl y3;have zB':B<wr.heap.size:=wL wr _ y3';by_cases hlt:k<n3
 ·
  have HA:=HX.out k hlt;have HNk:=HN.out k hlt;have HH:Hid (¬ldrA c (c.ldrs.getD k default)=0→R=ldrA c (c.ldrs.getD k default)):=fun h=>H1.out k hlt HS.out h
  have HZ:Hid (ldrA c (c.ldrs.getD k default)=0→fC (fun k=>ldrA c (c.ldrs.getD k default)) (k+1)=0):=fun h=>fE (f:=fun k=>ldrA c (c.ldrs.getD k default)) HS.out h
  obtain⟨l,hl0⟩:∃l,l=c.ldrs.getD k default:=⟨_,rfl⟩
  rw[←hl0] at HA HH HZ HNk;clear hl0;obtain⟨b,o,p,q,p',q',rfl,g0,g1,g2,ht,hh⟩:=HA;have lt:=fAd ht;obtain⟨_,hnk,hmk,HK⟩:=zV hh;unfold maxLen at hmk;have HKn:Hid _:=HK;have HTk:Hid (∀j,j<l.tries.length→∀W,Below w.heap.size w W→RI 124 #[.pointer (some ⟨B,0,none⟩),.slice p l.tries.length q,.int .i64 j] W (.int .i64 (xV c l.tries j))):=fun j hj W hW=>HTry.out l.tries p _ q j W hW (trysR.below ht hW) hj (HNk j hj)
  have HD0:Hid (¬ldrF l=0→ldrA c l=ldrF l):=fun h=>xN h
  have HD1:Hid (ldrF l=0→¬qA c l=0→ldrA c l=qA c l):=fun h h'=>by unfold ldrA;rw[vS h,xN h']
  have HD2:Hid (ldrF l=0→qA c l=0→ldrA c l=qR c l):=fun h h'=>by unfold ldrA;rw[vS h,vS h']
  have HT1:Hid (∀j,j<l.tries.length→fC (xV c l.tries) j=0→¬xV c l.tries j=0→qA c l=xV c l.tries j):=fun j hj hs h0=>fK hs h0 _ hj
  have HT2:Hid (fC (xV c l.tries) l.tries.length=0→qA c l=0):=fun h=>h
  have HK1:Hid (∀j,j<l.known.length→fC (xG c l.known) j=0→¬xG c l.known j=0→qR c l=xG c l.known j):=fun j hj hs h0=>fK hs h0 _ hj
  have HK2:Hid (fC (xG c l.known) l.known.length=0→qR c l=0):=fun h=>h
  have HDf:Hid (ldrF l=if inB l.count 0 400=true then (if 60<l.tries.length∨300<l.known.length then 2 else 0) else 3):=rfl;clear ht hh HK HNk;replace g0:=cK hbl g0;replace g1:=cK hbl g1;replace g2:=cK hbl g2;have zb:b<wr.heap.size:=wL wr _ g0;have hti:(k:Int)<(n3:Int):=oM;generalize ldrA c l=z at *;generalize ldrF l=z0 at *;generalize qA c l=z1 at *;generalize qR c l=z2 at *;generalize l.count=ct at *;generalize hmt':l.tries.length=mt at *;generalize hmk':l.known.length=mk at *;clear hmt' hmk';cases hc:inB ct 0 400
  ·
   have hz:z0=3:=by rw[HDf.out,hc];rfl
   have HC:Hid (R=3):=by show _=_;rw[←hz,←HD0.out (by rw[hz];omega)];exact HH.out (by rw[HD0.out (by rw[hz];omega),hz];omega)
   clear HH HZ HDf hz HD0 HD1 HD2 HT1 HT2 HK1 HK2 HTk HKn;go_wp2_with (first|(go_at_call 123;refine(fM _ _ _ _).mono ?_;rintro e w' ⟨rfl,hw⟩;obtain rfl:=hw.symm;rw[hc]));go_ret;exact⟨rH,qBq⟩
  by_cases ht6:60<mt
  ·
   have hz:z0=2:=by rw[HDf.out,if_pos hc,if_pos (.inl ht6)]
   have HC:Hid (R=2):=by show _=_;rw[←hz,←HD0.out (by rw[hz];omega)];exact HH.out (by rw[HD0.out (by rw[hz];omega),hz];omega)
   have ht6':(60:Int)<(mt:Int):=oM;clear HH HZ HDf hz HD0 HD1 HD2 HT1 HT2 HK1 HK2 HTk HKn;go_wp2_with (first|(go_at_call 123;refine(fM _ _ _ _).mono ?_;rintro e w' ⟨rfl,hw⟩;obtain rfl:=hw.symm;rw[hc]));go_ret;exact⟨rH,qBq⟩
  have ht6':¬(60:Int)<(mt:Int):=oM;by_cases hk3:300<mk
  ·
   have hz:z0=2:=by rw[HDf.out,if_pos hc,if_pos (.inr hk3)]
   have HC:Hid (R=2):=by show _=_;rw[←hz,←HD0.out (by rw[hz];omega)];exact HH.out (by rw[HD0.out (by rw[hz];omega),hz];omega)
   have hk3':(300:Int)<(mk:Int):=oM;clear HH HZ HDf hz HD0 HD1 HD2 HT1 HT2 HK1 HK2 HTk HKn;go_wp2_with (first|(go_at_call 123;refine(fM _ _ _ _).mono ?_;rintro e w' ⟨rfl,hw⟩;obtain rfl:=hw.symm;rw[hc]));go_ret;exact⟨rH,qBq⟩
  have hk3':¬(300:Int)<(mk:Int):=oM;have hz0:z0=0:=by rw[HDf.out,if_pos hc,if_neg (fun h=>h.elim ht6 hk3)]
  have HE1:Hid _:=HD1.out hz0;have HE2:Hid _:=HD2.out hz0;clear HD0 HD1 HD2 HDf hz0;go_wp2_with (first|(go_at_call 123;refine(fM _ _ _ _).mono ?_;rintro e w' ⟨rfl,hw⟩;obtain rfl:=hw.symm;rw[hc]));obtain⟨wl,hwl⟩:∃wl,wl=wr.heap.size:=⟨_,rfl⟩
  have zwl:w.heap.size≤wl:=by rw[hwl];exact hbl.size
  have hBa:Below w.heap.size w (wr.alloc (.cells #[.int .i64 ct,.slice p mt q,.slice p' mk q'] 149)):=qBq;have hLa:(wr.alloc (.cells #[.int .i64 ct,.slice p mt q,.slice p' mk q'] 149)).cell? ⟨wl,0,none⟩=some (.int .i64 ct)∧(wr.alloc (.cells #[.int .i64 ct,.slice p mt q,.slice p' mk q'] 149)).cell? ⟨wl,1,none⟩=some (.slice p mt q)∧(wr.alloc (.cells #[.int .i64 ct,.slice p mt q,.slice p' mk q'] 149)).cell? ⟨wl,2,none⟩=some (.slice p' mk q'):=by rw[hwl];exact⟨sG,by simp[go_sem],sG⟩
  rw[←hwl];clear hwl g0 g1 g2 hc zb;generalize wr.alloc (.cells #[.int .i64 ct,.slice p mt q,.slice p' mk q'] 149)=wa at *;go_loopw [5] (fun i w'=>∃j:Nat,j≤mt∧i =.int .i64 j∧Hid (fC (xV c l.tries) j=0)∧(w'.cell? ⟨wl,0,none⟩=some (.int .i64 ct)∧w'.cell? ⟨wl,1,none⟩=some (.slice p mt q)∧w'.cell? ⟨wl,2,none⟩=some (.slice p' mk q'))∧Below w.heap.size w w') (fun i _=>mt-(intOf i).toNat)
  case atStart=>exact⟨0,oM,rfl,rfl,hLa,hBa⟩
  obtain⟨i1,hj,rfl,HS1,HL3,hblw⟩:=hrel;have zwl1:wl<_:=wL _ _ HL3.1;obtain⟨l30,l31,l32⟩:=HL3;by_cases hlt1:i1<mt
  ·
   have HC1:=HTk.out i1 hlt1;have HC2:Hid _:=HC1;have HT:=HT1.out i1 hlt1 HS1.out;have HT':Hid (¬xV c l.tries i1=0→z1=xV c l.tries i1):=HT;have HGo:Hid (xV c l.tries i1=0→fC (xV c l.tries) (i1+1)=0):=fun h=>fE HS1.out h
   clear HC1 HT;generalize xV c l.tries i1=tz at *;have hti1:(i1:Int)<(mt:Int):=oM;go_wp2_with fail;refine(HC2.out _ qBq).mono ?_;rintro e w3 ⟨rfl,hb3⟩;have hB3:=bT w hb3;have hL3:=And.intro (kQ hb3 l30) (And.intro (kQ hb3 l31) (kQ hb3 l32));clear hb3 HC2;by_cases htz:tz=0
   ·have HQ:Hid _:=HGo.out htz;subst htz;clear HGo HT';go_wp2;exact⟨⟨i1+1,by omega,by go_num,HQ,hL3,hB3⟩,mI⟩
   have hz1:z1=tz:=HT'.out htz;have HC:Hid (R=tz):=by show _=_;rw[←hz1,←HE1.out (by rw[hz1];exact htz)];exact HH.out (by rw[HE1.out (by rw[hz1];exact htz),hz1];exact htz)
   have htz':(tz !=0)=true:=by simp[htz]
   clear HGo HT' hz1 HH HZ HE1 HE2;go_wp2;go_ret;exact⟨rH,hB3⟩
  obtain rfl:i1=mt:=oM;have hti1:¬(i1:Int)<(i1:Int):=oM;have hz1:z1=0:=HT2.out HS1.out;have HEz:Hid _:=HE2.out hz1;have HBadK:Hid (∀i,i<mk→fC (xG c l.known) i=0→∀code:Int,¬code=0→xG c l.known i=code→R=code):=fun i hi hs code h0 hcd=>by
   have e1:=HK1.out i hi hs (by rw[hcd];exact h0);show _=_;rw[←hcd,←e1,←HEz.out];exact HH.out (by rw[HEz.out,e1,hcd];exact h0)
  have HEnd:Hid (fC (xG c l.known) mk=0→fC (fun k=>ldrA c (c.ldrs.getD k default)) (k+1)=0):=fun hs=>HZ.out (by rw[HEz.out];exact HK2.out hs)
  clear HE1 HE2 HT1 HT2 HTk hz1 HEz HH HZ HK1 HK2;go_wp2;clear hLa hBa hj hlt1 hti1 zwl1 HS1 ht6' hk3';go_loopw [7] (fun i w'=>∃j:Nat,j≤mk∧i =.int .i64 j∧Hid (fC (xG c l.known) j=0)∧(w'.cell? ⟨wl,0,none⟩=some (.int .i64 ct)∧w'.cell? ⟨wl,1,none⟩=some (.slice p i1 q)∧w'.cell? ⟨wl,2,none⟩=some (.slice p' mk q'))∧Below w.heap.size w w') (fun i _=>mk-(intOf i).toNat)
  case atStart=>exact⟨0,oM,rfl,rfl,⟨l30,l31,l32⟩,hblw⟩
  clear l30 l31 l32 hblw;obtain⟨j,hj,rfl,HS2,HL3,hblw⟩:=hrel;have zwl1:wl<_:=wL _ _ HL3.1;obtain⟨l30,l31,l32⟩:=HL3;by_cases hlt2:j<mk
  ·
   have HL3:=And.intro l30 (And.intro l31 l32);obtain⟨bk,ok,hpe,k0,k1,k2,k3,k4⟩:=HKn.out j hlt2;subst hpe;have HPv:Hid (∀p1,j=p1+1→w.cell? ⟨bk,ok+p1*5,none⟩=some (.int .i64 (l.known.getD p1 default).con)∧w.cell? ⟨bk,ok+p1*5+1,none⟩=some (.int .i64 (l.known.getD p1 default).sh)∧w.cell? ⟨bk,ok+p1*5+2,none⟩=some (.int .i64 (l.known.getD p1 default).bal)∧w.cell? ⟨bk,ok+p1*5+3,none⟩=some (.int .i64 (l.known.getD p1 default).val)∧w.cell? ⟨bk,ok+p1*5+4,none⟩=some (.int .i64 (l.known.getD p1 default).frm)):=fun p1 hp1=>by
    obtain⟨b8,o8,ha',f0,f1,f2,f3,f4⟩:=HKn.out p1 oM;simp only[Option.some.injEq,Addr.mk.injEq,and_true] at ha';obtain⟨rfl,rfl⟩:=ha';exact⟨f0,f1,f2,f3,f4⟩
   have HE:Hid (xG c l.known j=hrdD c (l.known.getD j default) (decide (j=0)||decide (cmpH (l.known.getD (j-1) default) (l.known.getD j default)<0))):=fNg c l.known j;have HBad:Hid (∀code:Int,¬code=0→xG c l.known j=code→R=code):=fun code h0 hc=>HBadK.out j hlt2 HS2.out code h0 hc
   have HGo:Hid (xG c l.known j=0→fC (xG c l.known) (j+1)=0):=fun h=>fE HS2.out h
   obtain⟨h,hh0⟩:∃h,h=l.known.getD j default:=⟨_,rfl⟩
   rw[←hh0] at k0 k1 k2 k3 k4 HE;clear hh0;have HD:Hid (∀bh,hrdD c h bh=if hasL c h.con h.sh=true then (if (inB h.bal 0 1000=true∧inB h.val 1 2=true)∧inB h.frm 0 ((n2:Int)-1)=true then (if bh=true then 0 else 1) else 3) else 4):=fun bh=>by show _=_;unfold hrdD;rw[E2.out]
   generalize xG c l.known j=zz at *;obtain⟨y,hy0⟩:∃y,y=l.known.getD (j-1) default:=⟨_,rfl⟩
   rw[←hy0] at HE;have HC1:Hid _:=HHas.out h.con h.sh;replace k0:=cK hblw k0;replace k1:=cK hblw k1;replace k2:=cK hblw k2;replace k3:=cK hblw k3;replace k4:=cK hblw k4;have hti2:(j:Int)<(mk:Int):=oM;have zbk:bk<_:=wL _ _ k0;generalize hasL c h.con h.sh=hl at *;go_wp2_with fail;refine(HC1.out _ qBq).mono ?_;rintro e w3 ⟨rfl,hb3⟩;have hB3:=bT w hb3;have hx:w3.cell? ⟨wr.heap.size,0,none⟩=some (.int .i64 h.con)∧w3.cell? ⟨wr.heap.size,1,none⟩=some (.int .i64 h.sh)∧w3.cell? ⟨wr.heap.size,2,none⟩=some (.int .i64 h.bal)∧w3.cell? ⟨wr.heap.size,3,none⟩=some (.int .i64 h.val)∧w3.cell? ⟨wr.heap.size,4,none⟩=some (.int .i64 h.frm):=⟨cK hb3 sG,cK hb3 sG,cK hb3 sG,cK hb3 sG,cK hb3 sG⟩;have hL3:=And.intro (cK hb3 (cK qBq HL3.1)) (And.intro (cK hb3 (cK qBq HL3.2.1)) (cK hb3 (cK qBq HL3.2.2)));clear hb3 HC1 k0 k1 k2 k3 k4;obtain⟨wh,hwh⟩:∃wh,wh=wr.heap.size:=⟨_,rfl⟩
   rw[←hwh] at hx ⊢;have zwh:w.heap.size≤wh:=by rw[hwh];exact hblw.size
   clear hwh;have zw3:wh<w3.heap.size:=wL w3 _ hx.1;have yy2:=cK hB3 y2;have HL3':Hid _:=hL3;cases hl
   ·
    have hz:zz=4:=by rw[HE.out,HD.out];rfl
    clear hL3 HD HE;have HC:Hid (R=4):=HBad.out 4 oM (hz);clear HBad HGo;go_wp2;go_ret;exact⟨rH,hB3⟩
   have HD2:Hid (∀bh,hrdD c h bh=if (inB h.bal 0 1000=true∧inB h.val 1 2=true)∧inB h.frm 0 ((n2:Int)-1)=true then (if bh=true then 0 else 1) else 3):=fun bh=>by show _=_;rw[HD.out,if_pos rfl]
   clear HD;have i4:IntKind.i64.wrap ((n2:Int)-1)=(n2:Int)-1:=kD oM oM;have i5:IntKind.i64.wrap (n2:Int)=(n2:Int):=kD oM oM;clear hL3;go_wp2;refine wp_region_noPanic ?_;refine fB (fun W=>W.cell? ⟨wh,0,none⟩=some (.int .i64 h.con)∧W.cell? ⟨wh,1,none⟩=some (.int .i64 h.sh)∧W.cell? ⟨wh,2,none⟩=some (.int .i64 h.bal)∧W.cell? ⟨wh,3,none⟩=some (.int .i64 h.val)∧W.cell? ⟨wh,4,none⟩=some (.int .i64 h.frm)∧W.cell? ⟨B,2,none⟩=some (.slice a2 n2 c2)) 22 kF ⟨cK qBq hx.1,cK qBq hx.2.1,cK qBq hx.2.2.1,cK qBq hx.2.2.2.1,cK qBq hx.2.2.2.2,cK qBq yy2⟩ (fun hS=>?_);refine tX 0 ?_;refine tX 1 ?_;refine uS 2 rfl (fun K hK=>?_);go_simp;refine(fZ _ _).mono ?_;rintro e w' ⟨rfl,hw⟩;obtain rfl:=hw.symm;refine hK _ _ (fun _=>hS) ?_;clear hK K;try simp only[jX]
   cases hb:inB h.bal 0 1000
   ·
    have hz:zz=3:=by rw[HE.out,HD2.out,if_neg (fun x=>by rw[hb] at x;cases x.1.1)]
    clear HD2 HE;refine tX 3 ?_;refine tX 4 ?_;refine sX 5 fun _=>?_
    refine sX 6 fun _=>?_
    refine sX 7 fun _=>?_
    refine sX 8 fun _=>?_
    refine tX 9 ?_;refine tX 10 ?_;refine sX 11 fun _=>?_
    refine sX 12 fun _=>?_
    refine sX 13 fun _=>?_
    refine sX 14 fun _=>?_
    refine sX 15 fun _=>?_
    refine sX 16 fun _=>?_
    refine sX 17 fun _=>?_
    refine sX 18 fun _=>?_
    refine sX 19 fun _=>?_
    refine sX 20 fun _=>?_
    refine tX 21 ?_;have HC:Hid (R=3):=HBad.out 3 oM (hz);clear HBad HGo;refine dP ?_;go_wp2;go_ret;exact⟨rH,qBq⟩
   refine tX 3 ?_;refine tX 4 ?_;refine tX 5 ?_;refine tX 6 ?_;refine uS 7 rfl (fun K hK=>?_);go_simp;refine(kC _ _).mono ?_;rintro e w' ⟨rfl,hw⟩;obtain rfl:=hw.symm;refine hK _ _ (fun _=>hS) ?_;clear hK K;try simp only[jX]
   cases hv:inB h.val 1 2
   ·
    have hz:zz=3:=by rw[HE.out,HD2.out,if_neg (fun x=>by rw[hv] at x;cases x.1.2)]
    clear HD2 HE;refine tX 8 ?_;refine tX 9 ?_;refine tX 10 ?_;refine sX 11 fun _=>?_
    refine sX 12 fun _=>?_
    refine sX 13 fun _=>?_
    refine sX 14 fun _=>?_
    refine sX 15 fun _=>?_
    refine sX 16 fun _=>?_
    refine sX 17 fun _=>?_
    refine sX 18 fun _=>?_
    refine sX 19 fun _=>?_
    refine sX 20 fun _=>?_
    refine tX 21 ?_;have HC:Hid (R=3):=HBad.out 3 oM (hz);clear HBad HGo;refine dP ?_;go_wp2;go_ret;exact⟨rH,qBq⟩
   refine tX 8 ?_;refine tX 9 ?_;refine tX 10 ?_;refine tX 11 ?_;refine tX 12 ?_;refine tX 13 ?_;refine tX 14 ?_;refine tX 15 ?_;refine tX 16 ?_;refine tX 17 ?_;refine tX 18 ?_;refine uS 19 rfl (fun K hK=>?_);go_simp;refine(fM _ _ _ _).mono ?_;rintro e w' ⟨rfl,hw⟩;obtain rfl:=hw.symm;refine hK _ _ (fun _=>hS) ?_;clear hK K;try simp only[jX]
   cases hp:inB h.frm 0 ((n2:Int)-1)
   ·
    have hz:zz=3:=by rw[HE.out,HD2.out,if_neg (fun x=>by rw[hp] at x;cases x.2)]
    clear HD2 HE;refine tX 20 ?_;refine tX 21 ?_;have HC:Hid (R=3):=HBad.out 3 oM (hz);clear HBad HGo;refine dP ?_;go_wp2;go_ret;exact⟨rH,qBq⟩
   have HD3:Hid (∀bh,hrdD c h bh=if bh=true then 0 else 1):=fun bh=>by show _=_;rw[HD2.out,if_pos ⟨⟨hb,hv⟩,hp⟩]
   clear HD2 hb hv hp;refine tX 20 ?_;refine tX 21 ?_;refine dP ?_;have hB4:Below w.heap.size w w3.drew:=qBq;have hx4:=And.intro hS.1 (And.intro hS.2.1 (And.intro hS.2.2.1 (And.intro hS.2.2.2.1 hS.2.2.2.2.1)));have hL4:w3.drew.cell? ⟨wl,0,none⟩=some (.int .i64 ct)∧w3.drew.cell? ⟨wl,1,none⟩=some (.slice p i1 q)∧w3.drew.cell? ⟨wl,2,none⟩=some (.slice (some ⟨bk,ok,none⟩) mk q'):=⟨cK qBq HL3'.out.1,cK qBq HL3'.out.2.1,cK qBq HL3'.out.2.2⟩;clear hS hx HL3' yy2 hB3 i4 i5;generalize w3.drew=w4 at *;replace zw3:wh<w4.heap.size:=wL w4 _ hx4.1;cases j with
   | zero=>
    have hz:zz=0:=by rw[HE.out,HD3.out];rfl
    have HQ:Hid _:=HGo.out hz;clear HGo HBad HE HD3 hz HPv;go_wp2;refine wp_region_noPanic ?_;refine fB (fun W=>W.cell? ⟨wh,0,none⟩=some (.int .i64 h.con)∧W.cell? ⟨wh,1,none⟩=some (.int .i64 h.sh)∧W.cell? ⟨wh,2,none⟩=some (.int .i64 h.bal)∧W.cell? ⟨wh,3,none⟩=some (.int .i64 h.val)∧W.cell? ⟨wh,4,none⟩=some (.int .i64 h.frm)∧W.cell? ⟨wl,2,none⟩=some (.slice (some ⟨bk,ok,none⟩) mk q')) 13 kF ⟨cK qBq hx4.1,cK qBq hx4.2.1,cK qBq hx4.2.2.1,cK qBq hx4.2.2.2.1,cK qBq hx4.2.2.2.2,cK qBq hL4.2.2⟩ (fun hS=>?_);refine tX 0 ?_;refine tX 1 (v:=(.bool false)) ?_;refine tX 2 ?_;refine sX 3 fun _=>?_
    refine sX 4 fun _=>?_
    refine sX 5 fun _=>?_
    refine sX 6 fun _=>?_
    refine sX 7 fun _=>?_
    refine sX 8 fun _=>?_
    refine sX 9 fun _=>?_
    refine sX 10 fun _=>?_
    refine sX 11 fun _=>?_
    refine tX 12 ?_;refine dP ?_;go_wp2;exact⟨⟨1,by omega,by go_num,HQ,⟨cK qBq hL4.1,cK qBq hL4.2.1,cK qBq hL4.2.2⟩,qBq⟩,mI⟩
   | succ p1=>
    obtain⟨f0,f1,f2,f3,f4⟩:=HPv.out p1 rfl;rw[show p1+1-1=p1 from rfl] at hy0;rw[←hy0] at f0 f1 f2 f3 f4;clear hy0 HPv;replace f0:=cK hB4 f0;replace f1:=cK hB4 f1;replace f2:=cK hB4 f2;replace f3:=cK hB4 f3;replace f4:=cK hB4 f4;have j1:(0:Int)<((p1+1:Nat):Int):=oM;have j2:(0:Int)<(p1:Int)+1:=oM;have j3:IntKind.i64.wrap (((p1+1:Nat):Int)-1)=(p1:Int):=by rw[IntKind.wrap_i64];omega
    have j4:IntKind.i64.wrap ((p1:Int)+1-1)=(p1:Int):=by rw[IntKind.wrap_i64];omega
    have j5:(0:Int)≤(p1:Int):=oM;have j6:(p1:Int)<(mk:Int):=oM;have j7:IntKind.i64.wrap (p1:Int)=(p1:Int):=kD oM oM;have HE2:Hid (zz=if decide (cmpH y h<0)=true then 0 else 1):=by show _=_;rw[HE.out,HD3.out];simp
    clear HE HD3;go_wp2;refine wp_region_noPanic ?_;refine fB (fun W=>W.cell? ⟨wh,0,none⟩=some (.int .i64 h.con)∧W.cell? ⟨wh,1,none⟩=some (.int .i64 h.sh)∧W.cell? ⟨wh,2,none⟩=some (.int .i64 h.bal)∧W.cell? ⟨wh,3,none⟩=some (.int .i64 h.val)∧W.cell? ⟨wh,4,none⟩=some (.int .i64 h.frm)∧W.cell? ⟨wl,2,none⟩=some (.slice (some ⟨bk,ok,none⟩) mk q')∧W.cell? ⟨bk,ok+p1*5,none⟩=some (.int .i64 y.con)∧W.cell? ⟨bk,ok+p1*5+1,none⟩=some (.int .i64 y.sh)∧W.cell? ⟨bk,ok+p1*5+2,none⟩=some (.int .i64 y.bal)∧W.cell? ⟨bk,ok+p1*5+3,none⟩=some (.int .i64 y.val)∧W.cell? ⟨bk,ok+p1*5+4,none⟩=some (.int .i64 y.frm)) 13 kF ⟨cK qBq hx4.1,cK qBq hx4.2.1,cK qBq hx4.2.2.1,cK qBq hx4.2.2.2.1,cK qBq hx4.2.2.2.2,cK qBq hL4.2.2,cK qBq f0,cK qBq f1,cK qBq f2,cK qBq f3,cK qBq f4⟩ (fun hS=>?_);refine tX 0 ?_;refine tX 1 (v:=(.bool true)) ?_;refine tX 2 ?_;refine tX 3 ?_;refine tX 4 ?_;refine tX 5 ?_;refine tX 6 ?_;refine tX 7 ?_;refine tX 8 ?_;refine tX 9 ?_;refine uS 10 rfl (fun K hK=>?_);go_simp;refine(fF7 y h _).mono ?_;rintro e w5 ⟨rfl,hb5⟩;have hB5:=bT w hb5;have hS5:=kS11 hb5 hS;have hL5:=And.intro (cK hb5 (cK qBq hL4.1)) (And.intro (cK hb5 (cK qBq hL4.2.1)) (cK hb5 (cK qBq hL4.2.2)));refine hK _ _ (fun _=>hS5) ?_;clear hK K hb5;try simp only[jX]
    generalize decide (cmpH y h<0)=ah at *;cases ah
    ·
     have hz:zz=1:=by rw[HE2.out];rfl
     clear HE2;refine tX 11 ?_;refine tX 12 ?_;have HC:Hid (R=1):=HBad.out 1 oM (hz);clear HBad HGo;refine dP ?_;go_wp2;go_ret;exact⟨rH,hB5⟩
    have hz:zz=0:=by rw[HE2.out];rfl
    have HQ:Hid _:=HGo.out hz;clear HGo HBad HE2 hz;refine tX 11 ?_;refine tX 12 ?_;refine dP ?_;go_wp2;exact⟨⟨p1+1+1,by omega,by go_num,HQ,hL5,hB5⟩,mI⟩
  obtain rfl:j=mk:=oM;have hti2:¬(j:Int)<(j:Int):=oM;have HQ:Hid (fC (fun k=>ldrA c (c.ldrs.getD k default)) (k+1)=0):=HEnd.out HS2.out;clear HEnd HBadK HKn;go_wp2;exact⟨⟨k+1,by omega,by go_num,HQ,hblw⟩,mI⟩
 obtain rfl:k=n3:=oM;have hti:¬(k:Int)<(k:Int):=oM;have HC:Hid (R=0):=H2.out HS.out;go_wp2;go_ret;exact⟨rH,hbl⟩
end
section
variable [dQ Rw] [iH Rw] [dQ Bal] [iH Bal] [dQ Ledg] [iH Ledg] [dQ Leg] [iH Leg] [dQ Cont] [iH Cont] [dQ LedgR] [iH LedgR] [dQ OutcR] [iH OutcR] [dQ Mrk] [iH Mrk] [dQ Shd] [iH Shd] [dQ ShdR] [iH ShdR]
theorem fLr (i:Int) (x:Value) (xs:List Bal) (w:World) (hx:balsR.V w x xs) :
  RI 194 #[.int .i64 i,x] w (.int .i64 (pJ i xs)):=by
 have HB:Hid (bW w fun W=>RI 98 #[x] W (.int .i64 (kH xs))):=fun W hW=>fB2 x xs W (balsR.below hx hW)
 obtain⟨a,c,rfl⟩:=gU hx;clear hx;generalize xs.length=n at *;unfold pJ;cases h:inB i 0 2
 ·go_enter Tryz.func194,Tryz.ntmps194;go_wp2_with (first|(go_at_call 123;refine(fM _ _ _ _).mono ?_;rintro e w' ⟨rfl,rfl⟩;rw[h]));go_ret;exact⟨rfl,qBq⟩
 go_enter Tryz.func194,Tryz.ntmps194;go_wp2_with (first|(go_at_call 123;refine(fM _ _ _ _).mono ?_;rintro e w' ⟨rfl,rfl⟩;rw[h])|(go_at_call 98;refine(HB.out _ qBq).mono ?_;rintro e w' ⟨rfl,hb1⟩));go_ret;exact⟨rfl,qBq⟩
theorem fJr (x:Value) (d:Shd) (w:World) (hx:shdR.V w x d) :
  RI 119 #[x] w (.int .i64 (shdF d)):=by
 have HHd:Hid (bW w fun W=>BalsOk d.bals→RI 196 #[x] W (.int .i64 (yI d))):=fun W hW hb=>fLs x d W (shdR.below hx hW) hb
 obtain⟨u1,u2,u3,u4,u5,rfl,h1,h2,h3,h4,h5⟩:=hx;have HBa:Hid (bW w fun W=>RI 194 #[.int .i64 d.idx,u1] W (.int .i64 (pJ d.idx d.bals))):=fun W hW=>fLr _ u1 _ W (balsR.below h1 hW)
 have HVo:Hid (bW w fun W=>RI 195 #[u2] W (.int .i64 (mrkF d.votes))):=fun W hW=>fBl u2 _ W (mrksR.below h2 hW)
 have HDo:Hid (bW w fun W=>RI 195 #[u4] W (.int .i64 (mrkF d.done))):=fun W hW=>fBl u4 _ W (mrksR.below h4 hW)
 obtain⟨a1,c1,rfl⟩:=gU h1;obtain⟨a2,c2,rfl,hc2,hm2,_⟩:=h2;obtain⟨a3,c3,rfl,hc3,hm3,_⟩:=tO h3;obtain⟨a4,c4,rfl,hc4,hm4,_⟩:=h4;obtain⟨a5,c5,rfl,hc5,hm5,_⟩:=h5;unfold maxLen at hm2 hm3 hm4 hm5;have HD0:Hid (¬pJ d.idx d.bals=0→shdF d=pJ d.idx d.bals):=fun h=>by unfold shdF kU;rw[if_neg h,if_neg h]
 have HD1:Hid (pJ d.idx d.bals=0→(100<d.votes.length∨100<d.held.length∨100<d.done.length∨100<d.appl.length)→shdF d=2):=fun h h1=>by unfold shdF kU;rw[if_pos h,if_pos h1];rfl
 have HD2:Hid (pJ d.idx d.bals=0→¬(100<d.votes.length∨100<d.held.length∨100<d.done.length∨100<d.appl.length)→¬mrkF d.votes=0→shdF d=mrkF d.votes):=fun h h1 h2=>by unfold shdF kU;rw[if_pos h,if_neg h1,if_neg h2,if_neg h2]
 have HD3:Hid (pJ d.idx d.bals=0→¬(100<d.votes.length∨100<d.held.length∨100<d.done.length∨100<d.appl.length)→mrkF d.votes=0→¬mrkF d.done=0→shdF d=mrkF d.done):=fun h h1 h2 h3=>by unfold shdF kU;rw[if_pos h,if_neg h1,if_pos h2,if_neg h3,if_neg h3]
 have HD4:Hid (pJ d.idx d.bals=0→¬(100<d.votes.length∨100<d.held.length∨100<d.done.length∨100<d.appl.length)→mrkF d.votes=0→mrkF d.done=0→shdF d=yI d):=fun h h1 h2 h3=>fSp h h1 h2 h3
 have HBO:Hid (pJ d.idx d.bals=0→BalsOk d.bals):=fun h=>by
  unfold pJ at h;split at h
  ·exact fHp h
  omega
 generalize d.bals.length=n1 at *;generalize d.votes.length=n2 at *;generalize d.held.length=n3 at *;generalize d.done.length=n4 at *;generalize d.appl.length=n5 at *;generalize yI d=tf at *;generalize mrkF d.votes=fv at *;generalize mrkF d.done=fd at *;generalize hbf:pJ d.idx d.bals=bf at *;obtain⟨Z,hZ⟩:∃Z,Z=shdF d:=⟨_,rfl⟩
 rw[←hZ] at HD0 HD1 HD2 HD3 HD4 ⊢;clear hZ hbf h1 h3;go_enter Tryz.func119,Tryz.ntmps119;go_wp2_with fail;refine(HBa.out _ qBq).mono ?_;rintro e w1 ⟨rfl,hb1⟩;have y0:w1.cell? ⟨w.heap.size,0,none⟩=some (.int .i64 d.idx):=cK hb1 sG;have y1:w1.cell? ⟨w.heap.size,1,none⟩=some (.slice a1 n1 c1):=cK hb1 sG;have y2:w1.cell? ⟨w.heap.size,2,none⟩=some (.slice a2 n2 c2):=cK hb1 sG;have y3:w1.cell? ⟨w.heap.size,3,none⟩=some (.slice a3 n3 c3):=cK hb1 sG;have y4:w1.cell? ⟨w.heap.size,4,none⟩=some (.slice a4 n4 c4):=cK hb1 sG;have y5:w1.cell? ⟨w.heap.size,5,none⟩=some (.slice a5 n5 c5):=cK hb1 sG;have hB1:=bT w hb1;clear hb1 HBa;by_cases hbf:bf=0;rotate_left
 ·
  have HC:=HD0.out hbf;have hbf':(bf !=0)=true:=by simp[hbf]
  go_wp2;go_ret;exact⟨by rw[HC];rfl,qBq⟩
 have HBO':=HBO.out hbf;have HHd':Hid (bW w fun W=>RI 196 #[.agg #[.int .i64 d.idx,.slice a1 n1 c1,.slice a2 n2 c2,.slice a3 n3 c3,.slice a4 n4 c4,.slice a5 n5 c5]] W (.int .i64 tf)):=fun W hW=>HHd.out W hW HBO'
 have HD1':Hid ((100<n2∨100<n3∨100<n4∨100<n5)→Z=2):=fun h=>HD1.out hbf h
 have HD2':Hid (¬(100<n2∨100<n3∨100<n4∨100<n5)→¬fv=0→Z=fv):=fun h h2=>HD2.out hbf h h2
 have HD3':Hid (¬(100<n2∨100<n3∨100<n4∨100<n5)→fv=0→¬fd=0→Z=fd):=fun h h2 h3=>HD3.out hbf h h2 h3
 have HD4':Hid (¬(100<n2∨100<n3∨100<n4∨100<n5)→fv=0→fd=0→Z=tf):=fun h h2 h3=>HD4.out hbf h h2 h3
 rw[hbf];clear HD0 HD1 HD2 HD3 HD4 HBO HBO' HHd hbf;by_cases m2:100<n2
 ·have HC:=HD1'.out (.inl m2);have m2':(100:Int)<n2:=oM;go_wp2;go_ret;exact⟨by rw[HC];rfl,qBq⟩
 have m2':¬(100:Int)<n2:=oM;by_cases m3:100<n3
 ·have HC:=HD1'.out (.inr (.inl m3));have m3':(100:Int)<n3:=oM;go_wp2;go_ret;exact⟨by rw[HC];rfl,qBq⟩
 have m3':¬(100:Int)<n3:=oM;by_cases m4:100<n4
 ·have HC:=HD1'.out (.inr (.inr (.inl m4)));have m4':(100:Int)<n4:=oM;go_wp2;go_ret;exact⟨by rw[HC];rfl,qBq⟩
 have m4':¬(100:Int)<n4:=oM;by_cases m5:100<n5
 ·have HC:=HD1'.out (.inr (.inr (.inr m5)));have m5':(100:Int)<n5:=oM;go_wp2;go_ret;exact⟨by rw[HC];rfl,qBq⟩
 have m5':¬(100:Int)<n5:=oM;have hmany:¬(100<n2∨100<n3∨100<n4∨100<n5):=oM;have HE2:Hid (¬fv=0→Z=fv):=fun h=>HD2'.out hmany h
 have HE3:Hid (fv=0→¬fd=0→Z=fd):=fun h h2=>HD3'.out hmany h h2
 have HE4:Hid (fv=0→fd=0→Z=tf):=fun h h2=>HD4'.out hmany h h2
 clear HD1' HD2' HD3' HD4' hmany;go_wp2_with fail;refine(HVo.out _ hB1).mono ?_;rintro e w2 ⟨rfl,hb2⟩;have hB2:Below w.heap.size w w2:=bS hB1 hb2;replace y0:=cK hb2 y0;replace y1:=cK hb2 y1;replace y2:=cK hb2 y2;replace y3:=cK hb2 y3;replace y4:=cK hb2 y4;replace y5:=cK hb2 y5;clear hb2 HVo;by_cases hfv:fv=0;rotate_left
 ·
  have HC:=HE2.out hfv;have hfv':(fv !=0)=true:=by simp[hfv]
  go_wp2;go_ret;exact⟨by rw[HC];rfl,qBq⟩
 rw[hfv];go_wp2_with fail;refine(HDo.out _ hB2).mono ?_;rintro e w3 ⟨rfl,hb3⟩;have hB3:Below w.heap.size w w3:=bS hB2 hb3;replace y0:=cK hb3 y0;replace y1:=cK hb3 y1;replace y2:=cK hb3 y2;replace y3:=cK hb3 y3;replace y4:=cK hb3 y4;replace y5:=cK hb3 y5;clear hb3 HDo;by_cases hfd:fd=0;rotate_left
 ·
  have HC:=HE3.out hfv hfd;have hfd':(fd !=0)=true:=by simp[hfd]
  go_wp2;go_ret;exact⟨by rw[HC];rfl,qBq⟩
 have HC:Hid (Z=tf):=HE4.out hfv hfd;rw[hfd];clear HE2 HE3 HE4 hfv hfd;go_wp2_with fail;refine(HHd'.out _ hB3).mono ?_;rintro e w4 ⟨rfl,hb4⟩;go_wp2;go_ret;exact⟨rH,bS hB3 hb4⟩
end
section
variable [dQ Leg] [iH Leg]
theorem fCn:Tryz.prog.eqGuardType Tryz.prog.depth 131=false:=kF
theorem fV7 (o l:Leg) (w:World):(binOp .neq 131 (.agg #[.int .i64 o.sh,.int .i64 o.ac,.int .i64 o.ast,.int .i64 o.am]) (.agg #[.int .i64 l.sh,.int .i64 l.ac,.int .i64 l.ast,.int .i64 l.am])).run Tryz.prog w =.ok (.bool (!decide (o=l))) w:=by
 rw[run_neq_struct,run_equalIn_struct w 9999 131 _ _ kF kF];have hf : (Tryz.prog.fieldsOf 131).toList = [{ name := "Shard", type := 2, offset := 0, embedded := false, tag := "", pkgPath := "", byteOffset := 0 }, { name := "Account", type := 2, offset := 1, embedded := false, tag := "", pkgPath := "", byteOffset := 8 }, { name := "Asset", type := 2, offset := 2, embedded := false, tag := "", pkgPath := "", byteOffset := 16 }, { name := "Amount", type := 2, offset := 3, embedded := false, tag := "", pkgPath := "", byteOffset := 24 }] := kF
 rw[hf];obtain⟨a,b,c,d⟩:=o;obtain⟨a',b',c',d'⟩:=l;simp[Op.eqFields,go_sem];by_cases e1:a=a' <;> by_cases e2:b=b' <;> by_cases e3:c=c' <;> by_cases e4:d=d' <;> simp[e1,e2,e3,e4]
theorem fDg (x y:Value) (xs ys:List Leg) (w:World) (hx:mK w x xs) (hy:mK w y ys) :
  RI 275 #[x,y] w (.bool (decide (xs=ys))):=by
 obtain⟨ax,cx,rfl,hcx,hmx,hx⟩:=hx;obtain⟨ay,cy,rfl,hcy,hmy,hy⟩:=hy;unfold maxLen at hmx hmy;by_cases hl:ys.length=xs.length
 ·
  rw[hl] at hcy hy ⊢;have HL:Hid (ys.length=xs.length):=hl;clear hl;generalize hn:xs.length=n at *;have HN:Hid (xs.length=n):=hn;clear hn;go_enter Tryz.func275,Tryz.ntmps275;go_wp2;go_loopw [13] (fun i w'=>∃k:Nat,k≤n∧i =.int .i64 k∧(∀j,j<k→xs.getD j default=ys.getD j default)∧Below w.heap.size w w') (fun i _=>n-(intOf i).toNat)
  case atStart=>exact⟨0,oM,rfl,fun j h=>absurd h oM,bR _ _⟩
  obtain⟨k,hk,rfl,hpre,hbl⟩:=hrel;have HP:Hid (∀j,j<k→xs.getD j default=ys.getD j default):=hpre;clear hpre;by_cases hlt:k<n
  ·
   obtain⟨bx,ox,rfl,h1⟩:=hx k hlt;obtain⟨b2,oy,rfl,h2⟩:=hy k hlt;obtain⟨l1,hl1⟩:∃l,l=xs.getD k default:=⟨_,rfl⟩
   obtain⟨l2,hl2⟩:∃l,l=ys.getD k default:=⟨_,rfl⟩
   rw[←hl1] at h1;rw[←hl2] at h2;have H1:Hid (l1=xs.getD k default):=hl1;have H2:Hid (l2=ys.getD k default):=hl2;clear hl1 hl2 hx hy;have heq:=fV7 l1 l2;have hgd:=fCn;go_wp2;go_region_held3 (fun w'=>Below w.heap.size w w'∧(w'.cell? ⟨bx,ox+k*4,none⟩=some (.int .i64 l1.sh)∧w'.cell? ⟨bx,ox+k*4+1,none⟩=some (.int .i64 l1.ac)∧w'.cell? ⟨bx,ox+k*4+2,none⟩=some (.int .i64 l1.ast)∧w'.cell? ⟨bx,ox+k*4+3,none⟩=some (.int .i64 l1.am))∧(w'.cell? ⟨b2,oy+k*4,none⟩=some (.int .i64 l2.sh)∧w'.cell? ⟨b2,oy+k*4+1,none⟩=some (.int .i64 l2.ac)∧w'.cell? ⟨b2,oy+k*4+2,none⟩=some (.int .i64 l2.ast)∧w'.cell? ⟨b2,oy+k*4+3,none⟩=some (.int .i64 l2.am))) ((refine keep2 ?_ h1 h2;repeat (first|exact bR _ _|assumption|refine bD ?_|refine bA ?_ _|refine bS ?_ (by assumption)))) (fail);rename_i hH;have hB:=hH.1;clear hH heq hgd;go_wp2
   ·
    rename_i hle;go_ret;refine⟨?_,hB⟩;have:¬xs=ys:=fun h=>by
     have:l1=l2:=by rw[H1.out,H2.out,h]
     simp[this] at hle
    simp[this]
   rename_i hle;refine⟨⟨k+1,by omega,by go_num,fun j hj=>?_,hB⟩,mI⟩;by_cases hjk:j<k
   ·exact HP.out j hjk
   have:j=k:=oM;subst this;rw[←H1.out,←H2.out];simpa using hle
  go_wp2;go_ret;have:k=n:=oM;subst this;refine⟨?_,hbl⟩;have:xs=ys:=fA4 (by rw[HL.out,HN.out]) (by rw[HN.out];exact HP.out);simp[this]
 go_enter Tryz.func275,Tryz.ntmps275;have hl':((xs.length:Int)==(ys.length:Int))=false:=by simp;omega
 go_wp2;go_ret;have:¬xs=ys:=fun h=>hl (by rw[h])
 exact⟨by simp[this],bR _ _⟩
theorem fIm (id id':Int) (x y:Value) (xs ys:List Leg) (w:World) (hx:mK w x xs) (hy:mK w y ys) :
  RI 217 #[.agg #[.int .i64 id,x],.agg #[.int .i64 id',y]] w (.bool (decide (id=id'∧xs=ys))):=by
 by_cases hid:id=id'
 ·
  have hd:(id==id')=true:=by simp[hid]
  have HI:Hid (id=id'):=hid;clear hid;go_enter Tryz.func217,Tryz.ntmps217;go_wp2_with fail;refine(fDg x y xs ys _ (kV hx (bA (bA (bR _ _) _) _)) (kV hy (bA (bA (bR _ _) _) _))).mono ?_;rintro e w1 ⟨rfl,hb⟩;go_wp2;go_ret;exact⟨by simp[HI.out],bS (bA (bA (bR _ _) _) _) hb⟩
 have hd:(id==id')=false:=by simp[hid]
 go_enter Tryz.func217,Tryz.ntmps217;go_wp2;go_ret;exact⟨by simp[hid],bA (bA (bR _ _) _) _⟩
theorem fJq (id id':Int) (x y:Value) (xs ys:List Leg) (w:World) (hx:mK w x xs) (hy:mK w y ys) :
  RI 121 #[.agg #[.int .i64 id,x],.agg #[.int .i64 id',y]] w (.bool (decide (id=id'∧xs=ys))):=by
 obtain⟨ax,cx,rfl,hcx,hmx,hx⟩:=hx;obtain⟨ay,cy,rfl,hcy,hmy,hy⟩:=hy;unfold maxLen at hmx hmy;by_cases hid:id=id'
 ·
  have hd:(id==id')=true:=by simp[hid]
  have HI:Hid (id=id'):=hid;clear hid;by_cases hl:ys.length=xs.length
  ·
   rw[hl] at hcy hy ⊢;have HL:Hid (ys.length=xs.length):=hl;clear hl;generalize hn:xs.length=n at *;have HN:Hid (xs.length=n):=hn;clear hn;go_enter Tryz.func121,Tryz.ntmps121;go_wp2;go_loopw [5] (fun i w'=>∃k:Nat,k≤n∧i =.int .i64 k∧(∀j,j<k→xs.getD j default=ys.getD j default)∧w'.cell? ⟨w.heap.size,1,none⟩=some (.slice ax n cx)∧w'.cell? ⟨w.heap.size+1,1,none⟩=some (.slice ay n cy)∧Below w.heap.size w w') (fun i _=>n-(intOf i).toNat)
   case atStart=>exact⟨0,oM,rfl,fun j h=>absurd h oM,by simp[go_sem],sG,bA (bA (bR _ _) _) _⟩
   obtain⟨k,hk,rfl,hpre,e1,e2,hbl⟩:=hrel;have HP:Hid (∀j,j<k→xs.getD j default=ys.getD j default):=hpre;clear hpre;by_cases hlt:k<n
   ·
    obtain⟨bx,ox,rfl,h1⟩:=hx k hlt;obtain⟨b2,oy,rfl,h2⟩:=hy k hlt;obtain⟨l1,hl1⟩:∃l,l=xs.getD k default:=⟨_,rfl⟩
    obtain⟨l2,hl2⟩:∃l,l=ys.getD k default:=⟨_,rfl⟩
    rw[←hl1] at h1;rw[←hl2] at h2;have H1:Hid (l1=xs.getD k default):=hl1;have H2:Hid (l2=ys.getD k default):=hl2;clear hl1 hl2 hx hy;have heq:=fV7 l1 l2;have hgd:=fCn;have h1':=fG hbl h1;have h2':=fG hbl h2;go_wp2;go_region_held3 (fun w'=>(Below wr.heap.size wr w'∧(w'.cell? ⟨bx,ox+k*4,none⟩=some (.int .i64 l1.sh)∧w'.cell? ⟨bx,ox+k*4+1,none⟩=some (.int .i64 l1.ac)∧w'.cell? ⟨bx,ox+k*4+2,none⟩=some (.int .i64 l1.ast)∧w'.cell? ⟨bx,ox+k*4+3,none⟩=some (.int .i64 l1.am))∧(w'.cell? ⟨b2,oy+k*4,none⟩=some (.int .i64 l2.sh)∧w'.cell? ⟨b2,oy+k*4+1,none⟩=some (.int .i64 l2.ac)∧w'.cell? ⟨b2,oy+k*4+2,none⟩=some (.int .i64 l2.ast)∧w'.cell? ⟨b2,oy+k*4+3,none⟩=some (.int .i64 l2.am)))∧(Below wr.heap.size wr w'∧w'.cell? ⟨w.heap.size,1,none⟩=some (.slice (some ⟨bx,ox,none⟩) n cx)∧w'.cell? ⟨w.heap.size+1,1,none⟩=some (.slice (some ⟨b2,oy,none⟩) n cy))) ((refine⟨keep2 ?_ h1' h2',fV3 ?_ e1 e2⟩;all_goals (repeat (first|exact bR _ _|assumption|refine bD ?_|refine bA ?_ _|refine bS ?_ (by assumption))))) (fail);rename_i hH;have hB:=bS hbl hH.1.1;have e1':=hH.2.2.1;have e2':=hH.2.2.2;clear hH heq hgd;go_wp2
    ·
     rename_i hle;go_ret;refine⟨?_,hB⟩;have:¬xs=ys:=fun h=>by
      have:l1=l2:=by rw[H1.out,H2.out,h]
      simp[this] at hle
     simp[this]
    rename_i hle;refine⟨⟨k+1,by omega,by go_num,fun j hj=>?_,e1',e2',hB⟩,mI⟩;by_cases hjk:j<k
    ·exact HP.out j hjk
    have:j=k:=oM;subst this;rw[←H1.out,←H2.out];simpa using hle
   go_wp2;go_ret;have:k=n:=oM;subst this;refine⟨?_,hbl⟩;have:xs=ys:=fA4 (by rw[HL.out,HN.out]) (by rw[HN.out];exact HP.out);simp[this,HI.out]
  have hl':((xs.length:Int)==(ys.length:Int))=false:=by simp;omega
  go_enter Tryz.func121,Tryz.ntmps121;go_wp2;go_ret;have:¬xs=ys:=fun h=>hl (by rw[h])
  exact⟨by simp[this],bA (bA (bR _ _) _) _⟩
 have hd:(id==id')=false:=by simp[hid]
 go_enter Tryz.func121,Tryz.ntmps121;go_wp2;go_ret;exact⟨by simp[hid],bA (bA (bR _ _) _) _⟩
variable [dQ Mrk] [iH Mrk] [dQ Bal] [iH Bal]
theorem zI {w:World} {v:Value} {xs:List Mrk} (h:mrksR.V w v xs):pQ w v xs.length (qV xs):=by
 obtain⟨a,c,rfl,_,_,hc⟩:=h;cases a with
 | none=>
  have h0:xs=[]:=by
   cases xs with
   | nil=>rfl
   | cons x r=>obtain⟨b,o,e,_⟩:=hc 0 (by simp);cases e
  subst h0;exact .inl ⟨c,rfl,rfl,rfl⟩
 | some ad=>
  refine .inr ⟨ad,c,rfl,fun j x hj=>?_⟩;have hjl:j<xs.length*2:=by
   have:=(List.getElem?_eq_some_iff.1 hj).1;rw[xK] at this;exact this
  have hi:j / 2<xs.length:=oM;obtain⟨b,o,e,g0,g1⟩:=hc (j / 2) hi;obtain⟨q0,q1⟩:=fCq xs (j / 2) hi;simp only[Option.some.injEq] at e;subst e;have hadd:(Addr.mk b o none).add j=⟨b,o+j,none⟩:=by
   by_cases h:j=0
   ·subst h;simp[Addr.add]
   simp[Addr.add,h]
  rw[hadd];have hm:j % 2=0∨j % 2=1:=oM;rcases hm with hm|hm
  ·have e:j=j / 2*2:=oM;have e2:o+j=o+j / 2*2:=oM;rw[e2,g0];rw[e,q0] at hj;exact hj
  have e:j=j / 2*2+1:=oM;have e2:o+j=o+j / 2*2+1:=oM;rw[e2,g1];rw[e,q1] at hj;exact hj
theorem fP4 (xs:List Mrk):∀u ∈ qV xs,u.oneCell'=true:=by
 intro u hu;simp only[qV,List.mem_flatMap] at hu;obtain⟨b,_,hb⟩:=hu;simp[mrkC] at hb;rcases hb with rfl|rfl <;> rfl
theorem fP2 (xs ys:List Mrk):qV (xs++ys)=qV xs++qV ys:=by simp[qV]
theorem fDm (w:World) {ops:Array Oper} {o:Oper} {a:Act} {K:Act→World→Prop} {Q:Exit→Act→World→Prop} {E:Prop} (hgd:o.guard=none) (s x:Operand)
  (ho:o.op =.call {callee:=.builtin .append,args:=#[s,x],argTypes:=#[69,69]})
  (base:Nat) (v:Value) (xs:List Mrk) (hs:a.eval s=v) (u:Value) (ys:List Mrk) (hx:a.eval x=u)
  (hown:w.ownsRow base 141 2 v xs.length (qV xs)) (hsrc:pQ w u ys.length (qV ys)) (hlen:xs.length+ys.length≤1073741824) (hbase:base≤w.heap.size)
  (h:∀v' w',w'.ownsRow base 141 2 v' (xs++ys).length (qV (xs++ys))→w.grownBy w' v.ownBlock→(∀W:World,Below base W w→Below base W w')→K (a.put o.dst v') w') :
  if Region.wanted o (yielded ops a.tmps)=true then Oper.wp Tryz.prog o a w K Q else E:=by
 obtain⟨i0,hi,hz0,hz1,hz2⟩:=info_parts fRw;refine fMc w hgd s x 69 ho base 141 i0 _ 2 16 Tryz.underlying69 hi hz0 hz1 hz2 rfl (by decide) v xs.length (qV xs) hs u ys.length (qV ys) hx hown hsrc (by rw[xK]) (fP4 ys) (by unfold maxLen;omega) oM hbase ?_;intro v' w' h1 h2 h3;refine h v' w' ?_ h2 h3;rw[List.length_append,fP2];exact h1
end
end Go.Proofs.YtbfnobcidnmohaaGreat

import Derived.Test.YtbfnobcidnmohaaGreatCsD
import Derived.BigQuiet
import Derived.Deep.QuietTactic
import Derived.Deep.RegionHeld3
set_option maxHeartbeats 64000000
set_option maxRecDepth 20000
set_option linter.unusedSimpArgs false
set_option linter.unusedVariables false
set_option linter.unusedSectionVars false
namespace Go.Proofs.YtbfnobcidnmohaaGreat
open Go.RowKit
variable [DecidableEq Leg] [Inhabited Leg] [DecidableEq Cont] [Inhabited Cont] [DecidableEq Bal] [Inhabited Bal] [DecidableEq Mrk] [Inhabited Mrk] [DecidableEq Shd] [Inhabited Shd] [DecidableEq Vot] [Inhabited Vot] [DecidableEq Slt] [Inhabited Slt] [DecidableEq Acc] [Inhabited Acc] [DecidableEq Trr] [Inhabited Trr] [DecidableEq Hrd] [Inhabited Hrd] [DecidableEq Ldr] [Inhabited Ldr] [DecidableEq Msg] [Inhabited Msg] [DecidableEq Clu] [Inhabited Clu] [DecidableEq Ledg] [Inhabited Ledg] [DecidableEq SltR] [Inhabited SltR] [DecidableEq AccR] [Inhabited AccR] [DecidableEq AccsR] [Inhabited AccsR] [DecidableEq SltsR] [Inhabited SltsR] [DecidableEq Rw] [Inhabited Rw] [DecidableEq LedgR] [Inhabited LedgR] [DecidableEq OutcR] [Inhabited OutcR] [DecidableEq ShdR] [Inhabited ShdR]
attribute [local go_sem ↓] Go.wp_at_zero Go.wp_at_succ
theorem fDx (B:Nat) (c:Clu) (w:World) (h:CluB w B c) (hlen:∀k,k<c.cons.length→(c.cons.getD k default).legs.length≤1048576) (hneed:∀k,k<c.ldrs.length→∀i,i<(c.ldrs.getD k default).tries.length→((c.ldrs.getD k default).tries.getD i default).frm.length≤1048576) :
  Calls Tryz.prog 64 #[.pointer (some ⟨B,0,none⟩)] w fun e w'=>e = .returned (.int .i64 (fBn c))∧Below w.heap.size w w':=by
 have HHas:Hid (∀(a s:Int) W,Below w.heap.size w W→Calls Tryz.prog 120 #[.pointer (some ⟨B,0,none⟩),.int .i64 a,.int .i64 s] W fun e w'=>e = .returned (.bool (hasL c a s))∧Below W.heap.size W w'):=fun a s W hW=>uQ B c a s W ((h.below hW).p) hlen
 have HTry:Hid (∀(ts:List Trr) (a:Option Addr) (n cc k:Nat) W,Below w.heap.size w W→trysR.V W (.slice a n cc) ts→k<n→(ts.getD k default).frm.length≤1048576→Calls Tryz.prog 124 #[.pointer (some ⟨B,0,none⟩),.slice a n cc,.int .i64 k] W fun e w'=>e = .returned (.int .i64 (xI c ts k))∧Below W.heap.size W w'):=fun ts a n cc k W hW hx hk hm=>fOg B c ts a n cc k W (h.below hW) hlen hx hk hm
 have HP:Hid (∀W,Below w.heap.size w W→CluP W B c):=fun W hW=>(h.below hW).p
 obtain⟨a0,a1,a2,a3,a4,c0,c1,c2,c3,c4,n0,n1,n2,n3,n4,⟨y0,y1,y2,y3,y4⟩,hx⟩:=h;have hf:=xR hx;obtain⟨e0,e1,e2,e3,e4,L0,L1,L2,L3,L4⟩:=hf;obtain⟨u1,u2,u3,u4,u5,eq,h1,h2,h3,h4,h5⟩:=hx;simp only[Value.agg.injEq,Array.mk.injEq,List.cons.injEq,and_true] at eq;obtain⟨rfl,rfl,rfl,rfl,rfl⟩:=eq;have zB:B<w.heap.size:=wL w _ y0;obtain⟨_,hnc,hmc,HA⟩:=fFu h4;unfold maxLen at hmc;have HX:Hid _:=HA;rw[e3] at hneed;have HN:Hid _:=hneed;have E2:Hid (c.accs.length=n2):=e2;have H1:Hid (∀k,k<n3→fC (fun k=>ldrA c (c.ldrs.getD k default)) k=0→¬ldrA c (c.ldrs.getD k default)=0→fBn c=ldrA c (c.ldrs.getD k default)):=fun k hk hs h0=>by unfold fBn;exact fH (f:=fun k=>ldrA c (c.ldrs.getD k default)) hs h0 _ (by rw[e3];exact hk)
 have H2:Hid (fC (fun k=>ldrA c (c.ldrs.getD k default)) n3=0→fBn c=0):=fun h=>by unfold fBn;rw[e3];exact h
 clear HA h1 h2 h3 h4 h5 hlen hneed e0 e1 e2 e3 e4 L0 L1 L4 HP y0 y1 y4;generalize fBn c=R at *;go_enter Tryz.func64,Tryz.ntmps64;go_wp2;go_loopw [3] (fun i w'=>∃k:Nat,k≤n3∧i = .int .i64 k∧Hid (fC (fun k=>ldrA c (c.ldrs.getD k default)) k=0)∧Below w.heap.size w w') (fun i _=>n3-(intOf i).toNat)
 case atStart=>exact⟨0,Nat.zero_le _,rfl,rfl,qBq⟩
 obtain⟨k,hk,rfl,HS,hbl⟩:=hrel;have y3':=cK hbl y3;have zB':B<wr.heap.size:=wL wr _ y3';by_cases hlt:k<n3
 ·
  have HA:=HX.out k hlt;have HNk:=HN.out k hlt;have HH:Hid (¬ldrA c (c.ldrs.getD k default)=0→R=ldrA c (c.ldrs.getD k default)):=fun h=>H1.out k hlt HS.out h
  have HZ:Hid (ldrA c (c.ldrs.getD k default)=0→fC (fun k=>ldrA c (c.ldrs.getD k default)) (k+1)=0):=fun h=>fD (f:=fun k=>ldrA c (c.ldrs.getD k default)) HS.out h
  obtain⟨l,hl0⟩:∃l,l=c.ldrs.getD k default:=⟨_,rfl⟩
  rw[←hl0] at HA HH HZ HNk;clear hl0;obtain⟨b,o,p,q,p',q',rfl,g0,g1,g2,ht,hh⟩:=HA;have lt:=xA ht;obtain⟨_,hnk,hmk,HK⟩:=zN hh;unfold maxLen at hmk;have HKn:Hid _:=HK;have HTk:Hid (∀j,j<l.tries.length→∀W,Below w.heap.size w W→Calls Tryz.prog 124 #[.pointer (some ⟨B,0,none⟩),.slice p l.tries.length q,.int .i64 j] W fun e w'=>e = .returned (.int .i64 (xI c l.tries j))∧Below W.heap.size W w'):=fun j hj W hW=>HTry.out l.tries p _ q j W hW (trysR.below ht hW) hj (HNk j hj)
  have HD0:Hid (¬ldrF l=0→ldrA c l=ldrF l):=fun h=>xG h
  have HD1:Hid (ldrF l=0→¬qD c l=0→ldrA c l=qD c l):=fun h h'=>by unfold ldrA;rw[vI h,xG h']
  have HD2:Hid (ldrF l=0→qD c l=0→ldrA c l=qO c l):=fun h h'=>by unfold ldrA;rw[vI h,vI h']
  have HT1:Hid (∀j,j<l.tries.length→fC (xI c l.tries) j=0→¬xI c l.tries j=0→qD c l=xI c l.tries j):=fun j hj hs h0=>fH hs h0 _ hj
  have HT2:Hid (fC (xI c l.tries) l.tries.length=0→qD c l=0):=fun h=>h
  have HK1:Hid (∀j,j<l.known.length→fC (vW c l.known) j=0→¬vW c l.known j=0→qO c l=vW c l.known j):=fun j hj hs h0=>fH hs h0 _ hj
  have HK2:Hid (fC (vW c l.known) l.known.length=0→qO c l=0):=fun h=>h
  have HDf:Hid (ldrF l=if inB l.count 0 400=true then (if 60<l.tries.length∨300<l.known.length then 2 else 0) else 3):=rfl;clear ht hh HK HNk;replace g0:=cK hbl g0;replace g1:=cK hbl g1;replace g2:=cK hbl g2;have zb:b<wr.heap.size:=wL wr _ g0;have hti:(k:Int)<(n3:Int):=by omega
  generalize ldrA c l=z at *;generalize ldrF l=z0 at *;generalize qD c l=z1 at *;generalize qO c l=z2 at *;generalize l.count=ct at *;generalize hmt':l.tries.length=mt at *;generalize hmk':l.known.length=mk at *;clear hmt' hmk';cases hc:inB ct 0 400
  ·
   have hz:z0=3:=by rw[HDf.out,hc];rfl
   have HC:Hid (R=3):=by show _=_;rw[←hz,←HD0.out (by rw[hz];omega)];exact HH.out (by rw[HD0.out (by rw[hz];omega),hz];omega)
   clear HH HZ HDf hz HD0 HD1 HD2 HT1 HT2 HK1 HK2 HTk HKn;go_wp2_with (first|(go_at_call 123;refine(fO _ _ _ _).mono ?_;rintro e w' ⟨rfl,hw⟩;obtain rfl:=hw.symm;rw[hc]));go_ret;exact⟨by rw[HC.out];rfl,qBq⟩
  by_cases ht6:60<mt
  ·
   have hz:z0=2:=by rw[HDf.out,if_pos hc,if_pos (.inl ht6)]
   have HC:Hid (R=2):=by show _=_;rw[←hz,←HD0.out (by rw[hz];omega)];exact HH.out (by rw[HD0.out (by rw[hz];omega),hz];omega)
   have ht6':(60:Int)<(mt:Int):=by omega
   clear HH HZ HDf hz HD0 HD1 HD2 HT1 HT2 HK1 HK2 HTk HKn;go_wp2_with (first|(go_at_call 123;refine(fO _ _ _ _).mono ?_;rintro e w' ⟨rfl,hw⟩;obtain rfl:=hw.symm;rw[hc]));go_ret;exact⟨by rw[HC.out];rfl,qBq⟩
  have ht6':¬(60:Int)<(mt:Int):=by omega
  by_cases hk3:300<mk
  ·
   have hz:z0=2:=by rw[HDf.out,if_pos hc,if_pos (.inr hk3)]
   have HC:Hid (R=2):=by show _=_;rw[←hz,←HD0.out (by rw[hz];omega)];exact HH.out (by rw[HD0.out (by rw[hz];omega),hz];omega)
   have hk3':(300:Int)<(mk:Int):=by omega
   clear HH HZ HDf hz HD0 HD1 HD2 HT1 HT2 HK1 HK2 HTk HKn;go_wp2_with (first|(go_at_call 123;refine(fO _ _ _ _).mono ?_;rintro e w' ⟨rfl,hw⟩;obtain rfl:=hw.symm;rw[hc]));go_ret;exact⟨by rw[HC.out];rfl,qBq⟩
  have hk3':¬(300:Int)<(mk:Int):=by omega
  have hz0:z0=0:=by rw[HDf.out,if_pos hc,if_neg (fun h=>h.elim ht6 hk3)]
  have HE1:Hid _:=HD1.out hz0;have HE2:Hid _:=HD2.out hz0;clear HD0 HD1 HD2 HDf hz0;go_wp2_with (first|(go_at_call 123;refine(fO _ _ _ _).mono ?_;rintro e w' ⟨rfl,hw⟩;obtain rfl:=hw.symm;rw[hc]));obtain⟨wl,hwl⟩:∃wl,wl=wr.heap.size:=⟨_,rfl⟩
  have zwl:w.heap.size≤wl:=by rw[hwl];exact hbl.size
  have hBa:Below w.heap.size w (wr.alloc (.cells #[.int .i64 ct,.slice p mt q,.slice p' mk q'] 149)):=qBq;have hLa:(wr.alloc (.cells #[.int .i64 ct,.slice p mt q,.slice p' mk q'] 149)).cell? ⟨wl,0,none⟩=some (.int .i64 ct)∧(wr.alloc (.cells #[.int .i64 ct,.slice p mt q,.slice p' mk q'] 149)).cell? ⟨wl,1,none⟩=some (.slice p mt q)∧(wr.alloc (.cells #[.int .i64 ct,.slice p mt q,.slice p' mk q'] 149)).cell? ⟨wl,2,none⟩=some (.slice p' mk q'):=by rw[hwl];exact⟨by simp[go_sem],by simp[go_sem],by simp[go_sem]⟩
  rw[←hwl];clear hwl g0 g1 g2 hc zb;generalize wr.alloc (.cells #[.int .i64 ct,.slice p mt q,.slice p' mk q'] 149)=wa at *;go_loopw [5] (fun i w'=>∃j:Nat,j≤mt∧i = .int .i64 j∧Hid (fC (xI c l.tries) j=0)∧(w'.cell? ⟨wl,0,none⟩=some (.int .i64 ct)∧w'.cell? ⟨wl,1,none⟩=some (.slice p mt q)∧w'.cell? ⟨wl,2,none⟩=some (.slice p' mk q'))∧Below w.heap.size w w') (fun i _=>mt-(intOf i).toNat)
  case atStart=>exact⟨0,Nat.zero_le _,rfl,rfl,hLa,hBa⟩
  obtain⟨i1,hj,rfl,HS1,HL3,hblw⟩:=hrel;have zwl1:wl<_:=wL _ _ HL3.1;obtain⟨l30,l31,l32⟩:=HL3;by_cases hlt1:i1<mt
  ·
   have HC1:=HTk.out i1 hlt1;have HC2:Hid _:=HC1;have HT:=HT1.out i1 hlt1 HS1.out;have HT':Hid (¬xI c l.tries i1=0→z1=xI c l.tries i1):=HT;have HGo:Hid (xI c l.tries i1=0→fC (xI c l.tries) (i1+1)=0):=fun h=>fD HS1.out h
   clear HC1 HT;generalize xI c l.tries i1=tz at *;have hti1:(i1:Int)<(mt:Int):=by omega
   go_wp2_with fail;refine(HC2.out _ (qBq)).mono ?_;rintro e w3 ⟨rfl,hb3⟩;have hB3:Below w.heap.size w w3:=bS (qBq) hb3;have hL3:w3.cell? ⟨wl,0,none⟩=some (.int .i64 ct)∧w3.cell? ⟨wl,1,none⟩=some (.slice p mt q)∧w3.cell? ⟨wl,2,none⟩=some (.slice p' mk q'):=⟨cK hb3 (by first|exact l30|exact cK (qBq) l30),cK hb3 (by first|exact l31|exact cK (qBq) l31),cK hb3 (by first|exact l32|exact cK (qBq) l32)⟩;clear hb3 HC2;by_cases htz:tz=0
   ·
    have HQ:Hid _:=HGo.out htz;subst htz;clear HGo HT';go_wp2;exact⟨⟨i1+1,by omega,by go_num,HQ,hL3,hB3⟩,by simp[intOf];omega⟩
   have hz1:z1=tz:=HT'.out htz;have HC:Hid (R=tz):=by show _=_;rw[←hz1,←HE1.out (by rw[hz1];exact htz)];exact HH.out (by rw[HE1.out (by rw[hz1];exact htz),hz1];exact htz)
   have htz':(tz !=0)=true:=by simp[htz]
   clear HGo HT' hz1 HH HZ HE1 HE2;go_wp2;go_ret;exact⟨by rw[HC.out];rfl,hB3⟩
  obtain rfl:i1=mt:=by omega
  have hti1:¬(i1:Int)<(i1:Int):=by omega
  have hz1:z1=0:=HT2.out HS1.out;have HEz:Hid _:=HE2.out hz1;have HBadK:Hid (∀i,i<mk→fC (vW c l.known) i=0→∀code:Int,¬code=0→vW c l.known i=code→R=code):=fun i hi hs code h0 hcd=>by
   have e1:=HK1.out i hi hs (by rw[hcd];exact h0);show _=_;rw[←hcd,←e1,←HEz.out];exact HH.out (by rw[HEz.out,e1,hcd];exact h0)
  have HEnd:Hid (fC (vW c l.known) mk=0→fC (fun k=>ldrA c (c.ldrs.getD k default)) (k+1)=0):=fun hs=>HZ.out (by rw[HEz.out];exact HK2.out hs)
  clear HE1 HE2 HT1 HT2 HTk hz1 HEz HH HZ HK1 HK2;go_wp2;clear hLa hBa hj hlt1 hti1 zwl1 HS1 ht6' hk3';go_loopw [7] (fun i w'=>∃j:Nat,j≤mk∧i = .int .i64 j∧Hid (fC (vW c l.known) j=0)∧(w'.cell? ⟨wl,0,none⟩=some (.int .i64 ct)∧w'.cell? ⟨wl,1,none⟩=some (.slice p i1 q)∧w'.cell? ⟨wl,2,none⟩=some (.slice p' mk q'))∧Below w.heap.size w w') (fun i _=>mk-(intOf i).toNat)
  case atStart=>exact⟨0,Nat.zero_le _,rfl,rfl,⟨l30,l31,l32⟩,hblw⟩
  clear l30 l31 l32 hblw;obtain⟨j,hj,rfl,HS2,HL3,hblw⟩:=hrel;have zwl1:wl<_:=wL _ _ HL3.1;obtain⟨l30,l31,l32⟩:=HL3;by_cases hlt2:j<mk
  ·
   have HL3:=And.intro l30 (And.intro l31 l32);obtain⟨bk,ok,hpe,k0,k1,k2,k3,k4⟩:=HKn.out j hlt2;subst hpe;have HPv:Hid (∀p1,j=p1+1→w.cell? ⟨bk,ok+p1*5,none⟩=some (.int .i64 (l.known.getD p1 default).con)∧w.cell? ⟨bk,ok+p1*5+1,none⟩=some (.int .i64 (l.known.getD p1 default).sh)∧w.cell? ⟨bk,ok+p1*5+2,none⟩=some (.int .i64 (l.known.getD p1 default).bal)∧w.cell? ⟨bk,ok+p1*5+3,none⟩=some (.int .i64 (l.known.getD p1 default).val)∧w.cell? ⟨bk,ok+p1*5+4,none⟩=some (.int .i64 (l.known.getD p1 default).frm)):=fun p1 hp1=>by
    obtain⟨b8,o8,ha',f0,f1,f2,f3,f4⟩:=HKn.out p1 (by omega);simp only[Option.some.injEq,Addr.mk.injEq,and_true] at ha';obtain⟨rfl,rfl⟩:=ha';exact⟨f0,f1,f2,f3,f4⟩
   have HE:Hid (vW c l.known j=hrdD c (l.known.getD j default) (decide (j=0)||decide (cmpH (l.known.getD (j-1) default) (l.known.getD j default)<0))):=fMb c l.known j;have HBad:Hid (∀code:Int,¬code=0→vW c l.known j=code→R=code):=fun code h0 hc=>HBadK.out j hlt2 HS2.out code h0 hc
   have HGo:Hid (vW c l.known j=0→fC (vW c l.known) (j+1)=0):=fun h=>fD HS2.out h
   obtain⟨h,hh0⟩:∃h,h=l.known.getD j default:=⟨_,rfl⟩
   rw[←hh0] at k0 k1 k2 k3 k4 HE;clear hh0;have HD:Hid (∀bh,hrdD c h bh=if hasL c h.con h.sh=true then (if (inB h.bal 0 1000=true∧inB h.val 1 2=true)∧inB h.frm 0 ((n2:Int)-1)=true then (if bh=true then 0 else 1) else 3) else 4):=fun bh=>by show _=_;unfold hrdD;rw[E2.out]
   generalize vW c l.known j=zz at *;obtain⟨y,hy0⟩:∃y,y=l.known.getD (j-1) default:=⟨_,rfl⟩
   rw[←hy0] at HE;have HC1:Hid _:=HHas.out h.con h.sh;replace k0:=cK hblw k0;replace k1:=cK hblw k1;replace k2:=cK hblw k2;replace k3:=cK hblw k3;replace k4:=cK hblw k4;have hti2:(j:Int)<(mk:Int):=by omega
   have zbk:bk<_:=wL _ _ k0;generalize hasL c h.con h.sh=hl at *;go_wp2_with fail;refine(HC1.out _ (qBq)).mono ?_;rintro e w3 ⟨rfl,hb3⟩;have hB3:Below w.heap.size w w3:=bS (qBq) hb3;have hx:w3.cell? ⟨wr.heap.size,0,none⟩=some (.int .i64 h.con)∧w3.cell? ⟨wr.heap.size,1,none⟩=some (.int .i64 h.sh)∧w3.cell? ⟨wr.heap.size,2,none⟩=some (.int .i64 h.bal)∧w3.cell? ⟨wr.heap.size,3,none⟩=some (.int .i64 h.val)∧w3.cell? ⟨wr.heap.size,4,none⟩=some (.int .i64 h.frm):=⟨cK hb3 (by simp[go_sem]),cK hb3 (by simp[go_sem]),cK hb3 (by simp[go_sem]),cK hb3 (by simp[go_sem]),cK hb3 (by simp[go_sem])⟩;have hL3:=And.intro (cK hb3 (cK (qBq) HL3.1)) (And.intro (cK hb3 (cK (qBq) HL3.2.1)) (cK hb3 (cK (qBq) HL3.2.2)));clear hb3 HC1 k0 k1 k2 k3 k4;obtain⟨wh,hwh⟩:∃wh,wh=wr.heap.size:=⟨_,rfl⟩
   rw[←hwh] at hx ⊢;have zwh:w.heap.size≤wh:=by rw[hwh];exact hblw.size
   clear hwh;have zw3:wh<w3.heap.size:=wL w3 _ hx.1;have yy2:=cK hB3 y2;have HL3':Hid _:=hL3;cases hl
   ·
    have hz:zz=4:=by rw[HE.out,HD.out];rfl
    clear hL3 HD HE;have HC:Hid (R=4):=HBad.out 4 (by omega) (hz);clear HBad HGo;go_wp2;go_ret;exact⟨by rw[HC.out];rfl,hB3⟩
   have HD2:Hid (∀bh,hrdD c h bh=if (inB h.bal 0 1000=true∧inB h.val 1 2=true)∧inB h.frm 0 ((n2:Int)-1)=true then (if bh=true then 0 else 1) else 3):=fun bh=>by show _=_;rw[HD.out,if_pos rfl]
   clear HD;have i4:IntKind.i64.wrap ((n2:Int)-1)=(n2:Int)-1:=gM (by omega) (by omega);have i5:IntKind.i64.wrap (n2:Int)=(n2:Int):=gM (by omega) (by omega);clear hL3;go_wp2;refine wp_region_noPanic ?_;refine fA (fun W=>W.cell? ⟨wh,0,none⟩=some (.int .i64 h.con)∧W.cell? ⟨wh,1,none⟩=some (.int .i64 h.sh)∧W.cell? ⟨wh,2,none⟩=some (.int .i64 h.bal)∧W.cell? ⟨wh,3,none⟩=some (.int .i64 h.val)∧W.cell? ⟨wh,4,none⟩=some (.int .i64 h.frm)∧W.cell? ⟨B,2,none⟩=some (.slice a2 n2 c2)) 22 (by kernel_rfl) ⟨cK (qBq) hx.1,cK (qBq) hx.2.1,cK (qBq) hx.2.2.1,cK (qBq) hx.2.2.2.1,cK (qBq) hx.2.2.2.2,cK (qBq) yy2⟩ (fun hS=>?_);refine tM 0 rfl hS ?_;try simp only[jX]
   refine tM 1 rfl hS ?_;try simp only[jX]
   refine uS 2 rfl (fun K hK=>?_);go_simp;refine(fU _ _).mono ?_;rintro e w' ⟨rfl,hw⟩;obtain rfl:=hw.symm;refine hK _ _ (fun _=>hS) ?_;clear hK K;try simp only[jX]
   cases hb:inB h.bal 0 1000
   ·
    have hz:zz=3:=by rw[HE.out,HD2.out,if_neg (fun x=>by rw[hb] at x;cases x.1.1)]
    clear HD2 HE;refine tM 3 rfl hS ?_;try simp only[jX]
    refine tM 4 rfl hS ?_;try simp only[jX]
    refine sN 5 rfl hS (fun _=>?_);try simp only[jX]
    refine sN 6 rfl hS (fun _=>?_);try simp only[jX]
    refine sN 7 rfl hS (fun _=>?_);try simp only[jX]
    refine sN 8 rfl hS (fun _=>?_);try simp only[jX]
    refine tM 9 rfl hS ?_;try simp only[jX]
    refine tM 10 rfl hS ?_;try simp only[jX]
    refine sN 11 rfl hS (fun _=>?_);try simp only[jX]
    refine sN 12 rfl hS (fun _=>?_);try simp only[jX]
    refine sN 13 rfl hS (fun _=>?_);try simp only[jX]
    refine sN 14 rfl hS (fun _=>?_);try simp only[jX]
    refine sN 15 rfl hS (fun _=>?_);try simp only[jX]
    refine sN 16 rfl hS (fun _=>?_);try simp only[jX]
    refine sN 17 rfl hS (fun _=>?_);try simp only[jX]
    refine sN 18 rfl hS (fun _=>?_);try simp only[jX]
    refine sN 19 rfl hS (fun _=>?_);try simp only[jX]
    refine sN 20 rfl hS (fun _=>?_);try simp only[jX]
    refine tM 21 rfl hS ?_;try simp only[jX]
    have HC:Hid (R=3):=HBad.out 3 (by omega) (hz);clear HBad HGo;refine dN (NoPanic.normal ?_);go_wp2;go_ret;exact⟨by rw[HC.out];rfl,qBq⟩
   refine tM 3 rfl hS ?_;try simp only[jX]
   refine tM 4 rfl hS ?_;try simp only[jX]
   refine tM 5 rfl hS ?_;try simp only[jX]
   refine tM 6 rfl hS ?_;try simp only[jX]
   refine uS 7 rfl (fun K hK=>?_);go_simp;refine(gZ _ _).mono ?_;rintro e w' ⟨rfl,hw⟩;obtain rfl:=hw.symm;refine hK _ _ (fun _=>hS) ?_;clear hK K;try simp only[jX]
   cases hv:inB h.val 1 2
   ·
    have hz:zz=3:=by rw[HE.out,HD2.out,if_neg (fun x=>by rw[hv] at x;cases x.1.2)]
    clear HD2 HE;refine tM 8 rfl hS ?_;try simp only[jX]
    refine tM 9 rfl hS ?_;try simp only[jX]
    refine tM 10 rfl hS ?_;try simp only[jX]
    refine sN 11 rfl hS (fun _=>?_);try simp only[jX]
    refine sN 12 rfl hS (fun _=>?_);try simp only[jX]
    refine sN 13 rfl hS (fun _=>?_);try simp only[jX]
    refine sN 14 rfl hS (fun _=>?_);try simp only[jX]
    refine sN 15 rfl hS (fun _=>?_);try simp only[jX]
    refine sN 16 rfl hS (fun _=>?_);try simp only[jX]
    refine sN 17 rfl hS (fun _=>?_);try simp only[jX]
    refine sN 18 rfl hS (fun _=>?_);try simp only[jX]
    refine sN 19 rfl hS (fun _=>?_);try simp only[jX]
    refine sN 20 rfl hS (fun _=>?_);try simp only[jX]
    refine tM 21 rfl hS ?_;try simp only[jX]
    have HC:Hid (R=3):=HBad.out 3 (by omega) (hz);clear HBad HGo;refine dN (NoPanic.normal ?_);go_wp2;go_ret;exact⟨by rw[HC.out];rfl,qBq⟩
   refine tM 8 rfl hS ?_;try simp only[jX]
   refine tM 9 rfl hS ?_;try simp only[jX]
   refine tM 10 rfl hS ?_;try simp only[jX]
   refine tM 11 rfl hS ?_;try simp only[jX]
   refine tM 12 rfl hS ?_;try simp only[jX]
   refine tM 13 rfl hS ?_;try simp only[jX]
   refine tM 14 rfl hS ?_;try simp only[jX]
   refine tM 15 rfl hS ?_;try simp only[jX]
   refine tM 16 rfl hS ?_;try simp only[jX]
   refine tM 17 rfl hS ?_;try simp only[jX]
   refine tM 18 rfl hS ?_;try simp only[jX]
   refine uS 19 rfl (fun K hK=>?_);go_simp;refine(fO _ _ _ _).mono ?_;rintro e w' ⟨rfl,hw⟩;obtain rfl:=hw.symm;refine hK _ _ (fun _=>hS) ?_;clear hK K;try simp only[jX]
   cases hp:inB h.frm 0 ((n2:Int)-1)
   ·
    have hz:zz=3:=by rw[HE.out,HD2.out,if_neg (fun x=>by rw[hp] at x;cases x.2)]
    clear HD2 HE;refine tM 20 rfl hS ?_;try simp only[jX]
    refine tM 21 rfl hS ?_;try simp only[jX]
    have HC:Hid (R=3):=HBad.out 3 (by omega) (hz);clear HBad HGo;refine dN (NoPanic.normal ?_);go_wp2;go_ret;exact⟨by rw[HC.out];rfl,qBq⟩
   have HD3:Hid (∀bh,hrdD c h bh=if bh=true then 0 else 1):=fun bh=>by show _=_;rw[HD2.out,if_pos ⟨⟨hb,hv⟩,hp⟩]
   clear HD2 hb hv hp;refine tM 20 rfl hS ?_;try simp only[jX]
   refine tM 21 rfl hS ?_;try simp only[jX]
   refine dN (NoPanic.normal ?_);have hB4:Below w.heap.size w w3.drew:=qBq;have hx4:w3.drew.cell? ⟨wh,0,none⟩=some (.int .i64 h.con)∧w3.drew.cell? ⟨wh,1,none⟩=some (.int .i64 h.sh)∧w3.drew.cell? ⟨wh,2,none⟩=some (.int .i64 h.bal)∧w3.drew.cell? ⟨wh,3,none⟩=some (.int .i64 h.val)∧w3.drew.cell? ⟨wh,4,none⟩=some (.int .i64 h.frm):=⟨hS.1,hS.2.1,hS.2.2.1,hS.2.2.2.1,hS.2.2.2.2.1⟩;have hL4:w3.drew.cell? ⟨wl,0,none⟩=some (.int .i64 ct)∧w3.drew.cell? ⟨wl,1,none⟩=some (.slice p i1 q)∧w3.drew.cell? ⟨wl,2,none⟩=some (.slice (some ⟨bk,ok,none⟩) mk q'):=⟨cK (qBq) HL3'.out.1,cK (qBq) HL3'.out.2.1,cK (qBq) HL3'.out.2.2⟩;clear hS hx HL3' yy2 hB3 i4 i5;generalize w3.drew=w4 at *;replace zw3:wh<w4.heap.size:=wL w4 _ hx4.1;cases j with
   | zero=>
    have hz:zz=0:=by rw[HE.out,HD3.out];rfl
    have HQ:Hid _:=HGo.out hz;clear HGo HBad HE HD3 hz HPv;go_wp2;refine wp_region_noPanic ?_;refine fA (fun W=>W.cell? ⟨wh,0,none⟩=some (.int .i64 h.con)∧W.cell? ⟨wh,1,none⟩=some (.int .i64 h.sh)∧W.cell? ⟨wh,2,none⟩=some (.int .i64 h.bal)∧W.cell? ⟨wh,3,none⟩=some (.int .i64 h.val)∧W.cell? ⟨wh,4,none⟩=some (.int .i64 h.frm)∧W.cell? ⟨wl,2,none⟩=some (.slice (some ⟨bk,ok,none⟩) mk q')) 13 (by kernel_rfl) ⟨cK (qBq) hx4.1,cK (qBq) hx4.2.1,cK (qBq) hx4.2.2.1,cK (qBq) hx4.2.2.2.1,cK (qBq) hx4.2.2.2.2,cK (qBq) hL4.2.2⟩ (fun hS=>?_);refine tM 0 rfl hS ?_;try simp only[jX]
    refine tM 1 (v:=(.bool false)) rfl hS ?_;try simp only[jX]
    refine tM 2 rfl hS ?_;try simp only[jX]
    refine sN 3 rfl hS (fun _=>?_);try simp only[jX]
    refine sN 4 rfl hS (fun _=>?_);try simp only[jX]
    refine sN 5 rfl hS (fun _=>?_);try simp only[jX]
    refine sN 6 rfl hS (fun _=>?_);try simp only[jX]
    refine sN 7 rfl hS (fun _=>?_);try simp only[jX]
    refine sN 8 rfl hS (fun _=>?_);try simp only[jX]
    refine sN 9 rfl hS (fun _=>?_);try simp only[jX]
    refine sN 10 rfl hS (fun _=>?_);try simp only[jX]
    refine sN 11 rfl hS (fun _=>?_);try simp only[jX]
    refine tM 12 rfl hS ?_;try simp only[jX]
    refine dN (NoPanic.normal ?_);go_wp2;exact⟨⟨1,by omega,by go_num,HQ,⟨cK (qBq) hL4.1,cK (qBq) hL4.2.1,cK (qBq) hL4.2.2⟩,qBq⟩,by simp[intOf];omega⟩
   | succ p1=>
    obtain⟨f0,f1,f2,f3,f4⟩:=HPv.out p1 rfl;rw[show p1+1-1=p1 from rfl] at hy0;rw[←hy0] at f0 f1 f2 f3 f4;clear hy0 HPv;replace f0:=cK hB4 f0;replace f1:=cK hB4 f1;replace f2:=cK hB4 f2;replace f3:=cK hB4 f3;replace f4:=cK hB4 f4;have j1:(0:Int)<((p1+1:Nat):Int):=by omega
    have j2:(0:Int)<(p1:Int)+1:=by omega
    have j3:IntKind.i64.wrap (((p1+1:Nat):Int)-1)=(p1:Int):=by rw[IntKind.wrap_i64];omega
    have j4:IntKind.i64.wrap ((p1:Int)+1-1)=(p1:Int):=by rw[IntKind.wrap_i64];omega
    have j5:(0:Int)≤(p1:Int):=by omega
    have j6:(p1:Int)<(mk:Int):=by omega
    have j7:IntKind.i64.wrap (p1:Int)=(p1:Int):=gM (by omega) (by omega);have HE2:Hid (zz=if decide (cmpH y h<0)=true then 0 else 1):=by show _=_;rw[HE.out,HD3.out];simp
    clear HE HD3;go_wp2;refine wp_region_noPanic ?_;refine fA (fun W=>W.cell? ⟨wh,0,none⟩=some (.int .i64 h.con)∧W.cell? ⟨wh,1,none⟩=some (.int .i64 h.sh)∧W.cell? ⟨wh,2,none⟩=some (.int .i64 h.bal)∧W.cell? ⟨wh,3,none⟩=some (.int .i64 h.val)∧W.cell? ⟨wh,4,none⟩=some (.int .i64 h.frm)∧W.cell? ⟨wl,2,none⟩=some (.slice (some ⟨bk,ok,none⟩) mk q')∧W.cell? ⟨bk,ok+p1*5,none⟩=some (.int .i64 y.con)∧W.cell? ⟨bk,ok+p1*5+1,none⟩=some (.int .i64 y.sh)∧W.cell? ⟨bk,ok+p1*5+2,none⟩=some (.int .i64 y.bal)∧W.cell? ⟨bk,ok+p1*5+3,none⟩=some (.int .i64 y.val)∧W.cell? ⟨bk,ok+p1*5+4,none⟩=some (.int .i64 y.frm)) 13 (by kernel_rfl) ⟨cK (qBq) hx4.1,cK (qBq) hx4.2.1,cK (qBq) hx4.2.2.1,cK (qBq) hx4.2.2.2.1,cK (qBq) hx4.2.2.2.2,cK (qBq) hL4.2.2,cK (qBq) f0,cK (qBq) f1,cK (qBq) f2,cK (qBq) f3,cK (qBq) f4⟩ (fun hS=>?_);refine tM 0 rfl hS ?_;try simp only[jX]
    refine tM 1 (v:=(.bool true)) rfl hS ?_;try simp only[jX]
    refine tM 2 rfl hS ?_;try simp only[jX]
    refine tM 3 rfl hS ?_;try simp only[jX]
    refine tM 4 rfl hS ?_;try simp only[jX]
    refine tM 5 rfl hS ?_;try simp only[jX]
    refine tM 6 rfl hS ?_;try simp only[jX]
    refine tM 7 rfl hS ?_;try simp only[jX]
    refine tM 8 rfl hS ?_;try simp only[jX]
    refine tM 9 rfl hS ?_;try simp only[jX]
    refine uS 10 rfl (fun K hK=>?_);go_simp;refine(fFr y h _).mono ?_;rintro e w5 ⟨rfl,hb5⟩;have hB5:Below w.heap.size w w5:=bS (qBq) hb5;have hS5:=And.intro (cK hb5 hS.1) (And.intro (cK hb5 hS.2.1) (And.intro (cK hb5 hS.2.2.1) (And.intro (cK hb5 hS.2.2.2.1) (And.intro (cK hb5 hS.2.2.2.2.1) (And.intro (cK hb5 hS.2.2.2.2.2.1) (And.intro (cK hb5 hS.2.2.2.2.2.2.1) (And.intro (cK hb5 hS.2.2.2.2.2.2.2.1) (And.intro (cK hb5 hS.2.2.2.2.2.2.2.2.1) (And.intro (cK hb5 hS.2.2.2.2.2.2.2.2.2.1) (cK hb5 hS.2.2.2.2.2.2.2.2.2.2))))))))));have hL5:=And.intro (cK hb5 (cK (qBq) hL4.1)) (And.intro (cK hb5 (cK (qBq) hL4.2.1)) (cK hb5 (cK (qBq) hL4.2.2)));refine hK _ _ (fun _=>hS5) ?_;clear hK K hb5;try simp only[jX]
    generalize decide (cmpH y h<0)=ah at *;cases ah
    ·
     have hz:zz=1:=by rw[HE2.out];rfl
     clear HE2;refine tM 11 rfl hS5 ?_;try simp only[jX]
     refine tM 12 rfl hS5 ?_;try simp only[jX]
     have HC:Hid (R=1):=HBad.out 1 (by omega) (hz);clear HBad HGo;refine dN (NoPanic.normal ?_);go_wp2;go_ret;exact⟨by rw[HC.out];rfl,hB5⟩
    have hz:zz=0:=by rw[HE2.out];rfl
    have HQ:Hid _:=HGo.out hz;clear HGo HBad HE2 hz;refine tM 11 rfl hS5 ?_;try simp only[jX]
    refine tM 12 rfl hS5 ?_;try simp only[jX]
    refine dN (NoPanic.normal ?_);go_wp2;exact⟨⟨p1+1+1,by omega,by go_num,HQ,hL5,hB5⟩,by simp[intOf];omega⟩
  obtain rfl:j=mk:=by omega
  have hti2:¬(j:Int)<(j:Int):=by omega
  have HQ:Hid (fC (fun k=>ldrA c (c.ldrs.getD k default)) (k+1)=0):=HEnd.out HS2.out;clear HEnd HBadK HKn;go_wp2;exact⟨⟨k+1,by omega,by go_num,HQ,hblw⟩,by simp[intOf];omega⟩
 obtain rfl:k=n3:=by omega
 have hti:¬(k:Int)<(k:Int):=by omega
 have HC:Hid (R=0):=H2.out HS.out;go_wp2;go_ret;exact⟨by rw[HC.out];rfl,hbl⟩
end Go.Proofs.YtbfnobcidnmohaaGreat
namespace Go.Proofs.YtbfnobcidnmohaaGreat
open Go.RowKit
variable [DecidableEq Rw] [Inhabited Rw] [DecidableEq Bal] [Inhabited Bal] [DecidableEq Ledg] [Inhabited Ledg] [DecidableEq Leg] [Inhabited Leg] [DecidableEq Cont] [Inhabited Cont] [DecidableEq LedgR] [Inhabited LedgR] [DecidableEq OutcR] [Inhabited OutcR] [DecidableEq Mrk] [Inhabited Mrk] [DecidableEq Shd] [Inhabited Shd] [DecidableEq ShdR] [Inhabited ShdR]
attribute [local go_sem ↓] Go.wp_at_zero Go.wp_at_succ
theorem fKv (i:Int) (x:Value) (xs:List Bal) (w:World) (hx:balsR.V w x xs) :
  Calls Tryz.prog 194 #[.int .i64 i,x] w fun e w'=>e = .returned (.int .i64 (mX i xs))∧Below w.heap.size w w':=by
 have HB:Hid (∀W,Below w.heap.size w W→Calls Tryz.prog 98 #[x] W fun e w'=>e = .returned (.int .i64 (gN xs))∧Below W.heap.size W w'):=fun W hW=>vN x xs W (balsR.below hx hW)
 obtain⟨a,c,rfl⟩:=fJ hx;clear hx;generalize xs.length=n at *;unfold mX;cases h:inB i 0 2
 ·
  go_enter Tryz.func194,Tryz.ntmps194;go_wp2_with (first|(go_at_call 123;refine(fO _ _ _ _).mono ?_;rintro e w' ⟨rfl,rfl⟩;rw[h]));go_ret;exact⟨rfl,qBq⟩
 go_enter Tryz.func194,Tryz.ntmps194;go_wp2_with (first|(go_at_call 123;refine(fO _ _ _ _).mono ?_;rintro e w' ⟨rfl,rfl⟩;rw[h])|(go_at_call 98;refine(HB.out _ (qBq)).mono ?_;rintro e w' ⟨rfl,hb1⟩));go_ret;exact⟨rfl,qBq⟩
theorem fI0 (x:Value) (d:Shd) (w:World) (hx:shdR.V w x d) :
  Calls Tryz.prog 119 #[x] w fun e w'=>e = .returned (.int .i64 (shdF d))∧Below w.heap.size w w':=by
 have HHd:Hid (∀W,Below w.heap.size w W→BalsOk d.bals→Calls Tryz.prog 196 #[x] W fun e w'=>e = .returned (.int .i64 (yD d))∧Below W.heap.size W w'):=fun W hW hb=>fKw x d W (shdR.below hx hW) hb
 obtain⟨u1,u2,u3,u4,u5,rfl,h1,h2,h3,h4,h5⟩:=hx;have HBa:Hid (∀W,Below w.heap.size w W→Calls Tryz.prog 194 #[.int .i64 d.idx,u1] W fun e w'=>e = .returned (.int .i64 (mX d.idx d.bals))∧Below W.heap.size W w'):=fun W hW=>fKv _ u1 _ W (balsR.below h1 hW)
 have HVo:Hid (∀W,Below w.heap.size w W→Calls Tryz.prog 195 #[u2] W fun e w'=>e = .returned (.int .i64 (mrkF d.votes))∧Below W.heap.size W w'):=fun W hW=>fA9 u2 _ W (mrksR.below h2 hW)
 have HDo:Hid (∀W,Below w.heap.size w W→Calls Tryz.prog 195 #[u4] W fun e w'=>e = .returned (.int .i64 (mrkF d.done))∧Below W.heap.size W w'):=fun W hW=>fA9 u4 _ W (mrksR.below h4 hW)
 obtain⟨a1,c1,rfl⟩:=fJ h1;obtain⟨a2,c2,rfl,hc2,hm2,_⟩:=h2;obtain⟨a3,c3,rfl,hc3,hm3,_⟩:=tF h3;obtain⟨a4,c4,rfl,hc4,hm4,_⟩:=h4;obtain⟨a5,c5,rfl,hc5,hm5,_⟩:=h5;unfold maxLen at hm2 hm3 hm4 hm5;have HD0:Hid (¬mX d.idx d.bals=0→shdF d=mX d.idx d.bals):=fun h=>by unfold shdF kD;rw[if_neg h,if_neg h]
 have HD1:Hid (mX d.idx d.bals=0→(100<d.votes.length∨100<d.held.length∨100<d.done.length∨100<d.appl.length)→shdF d=2):=fun h h1=>by unfold shdF kD;rw[if_pos h,if_pos h1];rfl
 have HD2:Hid (mX d.idx d.bals=0→¬(100<d.votes.length∨100<d.held.length∨100<d.done.length∨100<d.appl.length)→¬mrkF d.votes=0→shdF d=mrkF d.votes):=fun h h1 h2=>by unfold shdF kD;rw[if_pos h,if_neg h1,if_neg h2,if_neg h2]
 have HD3:Hid (mX d.idx d.bals=0→¬(100<d.votes.length∨100<d.held.length∨100<d.done.length∨100<d.appl.length)→mrkF d.votes=0→¬mrkF d.done=0→shdF d=mrkF d.done):=fun h h1 h2 h3=>by unfold shdF kD;rw[if_pos h,if_neg h1,if_pos h2,if_neg h3,if_neg h3]
 have HD4:Hid (mX d.idx d.bals=0→¬(100<d.votes.length∨100<d.held.length∨100<d.done.length∨100<d.appl.length)→mrkF d.votes=0→mrkF d.done=0→shdF d=yD d):=fun h h1 h2 h3=>fQ6 h h1 h2 h3
 have HBO:Hid (mX d.idx d.bals=0→BalsOk d.bals):=fun h=>by
  unfold mX at h;split at h
  ·
   exact fB4 h
  omega
 generalize d.bals.length=n1 at *;generalize d.votes.length=n2 at *;generalize d.held.length=n3 at *;generalize d.done.length=n4 at *;generalize d.appl.length=n5 at *;generalize yD d=tf at *;generalize mrkF d.votes=fv at *;generalize mrkF d.done=fd at *;generalize hbf:mX d.idx d.bals=bf at *;obtain⟨Z,hZ⟩:∃Z,Z=shdF d:=⟨_,rfl⟩
 rw[←hZ] at HD0 HD1 HD2 HD3 HD4 ⊢;clear hZ hbf h1 h3;go_enter Tryz.func119,Tryz.ntmps119;go_wp2_with fail;refine(HBa.out _ (qBq)).mono ?_;rintro e w1 ⟨rfl,hb1⟩;have y0:w1.cell? ⟨w.heap.size,0,none⟩=some (.int .i64 d.idx):=cK hb1 (by simp[go_sem]);have y1:w1.cell? ⟨w.heap.size,1,none⟩=some (.slice a1 n1 c1):=cK hb1 (by simp[go_sem]);have y2:w1.cell? ⟨w.heap.size,2,none⟩=some (.slice a2 n2 c2):=cK hb1 (by simp[go_sem]);have y3:w1.cell? ⟨w.heap.size,3,none⟩=some (.slice a3 n3 c3):=cK hb1 (by simp[go_sem]);have y4:w1.cell? ⟨w.heap.size,4,none⟩=some (.slice a4 n4 c4):=cK hb1 (by simp[go_sem]);have y5:w1.cell? ⟨w.heap.size,5,none⟩=some (.slice a5 n5 c5):=cK hb1 (by simp[go_sem]);have hB1:Below w.heap.size w w1:=bS (qBq) hb1;clear hb1 HBa;by_cases hbf:bf=0;rotate_left
 ·
  have HC:=HD0.out hbf;have hbf':(bf !=0)=true:=by simp[hbf]
  go_wp2;go_ret;exact⟨by rw[HC];rfl,qBq⟩
 have HBO':=HBO.out hbf;have HHd':Hid (∀W,Below w.heap.size w W→Calls Tryz.prog 196 #[.agg #[.int .i64 d.idx,.slice a1 n1 c1,.slice a2 n2 c2,.slice a3 n3 c3,.slice a4 n4 c4,.slice a5 n5 c5]] W fun e w'=>e = .returned (.int .i64 tf)∧Below W.heap.size W w'):=fun W hW=>HHd.out W hW HBO'
 have HD1':Hid ((100<n2∨100<n3∨100<n4∨100<n5)→Z=2):=fun h=>HD1.out hbf h
 have HD2':Hid (¬(100<n2∨100<n3∨100<n4∨100<n5)→¬fv=0→Z=fv):=fun h h2=>HD2.out hbf h h2
 have HD3':Hid (¬(100<n2∨100<n3∨100<n4∨100<n5)→fv=0→¬fd=0→Z=fd):=fun h h2 h3=>HD3.out hbf h h2 h3
 have HD4':Hid (¬(100<n2∨100<n3∨100<n4∨100<n5)→fv=0→fd=0→Z=tf):=fun h h2 h3=>HD4.out hbf h h2 h3
 rw[hbf];clear HD0 HD1 HD2 HD3 HD4 HBO HBO' HHd hbf;by_cases m2:100<n2
 ·
  have HC:=HD1'.out (.inl m2);have m2':(100:Int)<n2:=by omega
  go_wp2;go_ret;exact⟨by rw[HC];rfl,qBq⟩
 have m2':¬(100:Int)<n2:=by omega
 by_cases m3:100<n3
 ·
  have HC:=HD1'.out (.inr (.inl m3));have m3':(100:Int)<n3:=by omega
  go_wp2;go_ret;exact⟨by rw[HC];rfl,qBq⟩
 have m3':¬(100:Int)<n3:=by omega
 by_cases m4:100<n4
 ·
  have HC:=HD1'.out (.inr (.inr (.inl m4)));have m4':(100:Int)<n4:=by omega
  go_wp2;go_ret;exact⟨by rw[HC];rfl,qBq⟩
 have m4':¬(100:Int)<n4:=by omega
 by_cases m5:100<n5
 ·
  have HC:=HD1'.out (.inr (.inr (.inr m5)));have m5':(100:Int)<n5:=by omega
  go_wp2;go_ret;exact⟨by rw[HC];rfl,qBq⟩
 have m5':¬(100:Int)<n5:=by omega
 have hmany:¬(100<n2∨100<n3∨100<n4∨100<n5):=by omega
 have HE2:Hid (¬fv=0→Z=fv):=fun h=>HD2'.out hmany h
 have HE3:Hid (fv=0→¬fd=0→Z=fd):=fun h h2=>HD3'.out hmany h h2
 have HE4:Hid (fv=0→fd=0→Z=tf):=fun h h2=>HD4'.out hmany h h2
 clear HD1' HD2' HD3' HD4' hmany;go_wp2_with fail;refine(HVo.out _ hB1).mono ?_;rintro e w2 ⟨rfl,hb2⟩;have hB2:Below w.heap.size w w2:=bS hB1 hb2;replace y0:=cK hb2 y0;replace y1:=cK hb2 y1;replace y2:=cK hb2 y2;replace y3:=cK hb2 y3;replace y4:=cK hb2 y4;replace y5:=cK hb2 y5;clear hb2 HVo;by_cases hfv:fv=0;rotate_left
 ·
  have HC:=HE2.out hfv;have hfv':(fv !=0)=true:=by simp[hfv]
  go_wp2;go_ret;exact⟨by rw[HC];rfl,qBq⟩
 rw[hfv];go_wp2_with fail;refine(HDo.out _ hB2).mono ?_;rintro e w3 ⟨rfl,hb3⟩;have hB3:Below w.heap.size w w3:=bS hB2 hb3;replace y0:=cK hb3 y0;replace y1:=cK hb3 y1;replace y2:=cK hb3 y2;replace y3:=cK hb3 y3;replace y4:=cK hb3 y4;replace y5:=cK hb3 y5;clear hb3 HDo;by_cases hfd:fd=0;rotate_left
 ·
  have HC:=HE3.out hfv hfd;have hfd':(fd !=0)=true:=by simp[hfd]
  go_wp2;go_ret;exact⟨by rw[HC];rfl,qBq⟩
 have HC:Hid (Z=tf):=HE4.out hfv hfd;rw[hfd];clear HE2 HE3 HE4 hfv hfd;go_wp2_with fail;refine(HHd'.out _ hB3).mono ?_;rintro e w4 ⟨rfl,hb4⟩;go_wp2;go_ret;exact⟨by rw[HC.out];rfl,bS hB3 hb4⟩
variable [DecidableEq Vot] [Inhabited Vot] [DecidableEq Slt] [Inhabited Slt] [DecidableEq Acc] [Inhabited Acc] [DecidableEq Trr] [Inhabited Trr] [DecidableEq Hrd] [Inhabited Hrd] [DecidableEq Ldr] [Inhabited Ldr] [DecidableEq Msg] [Inhabited Msg] [DecidableEq Clu] [Inhabited Clu] [DecidableEq SltR] [Inhabited SltR] [DecidableEq AccR] [Inhabited AccR] [DecidableEq AccsR] [Inhabited AccsR] [DecidableEq SltsR] [Inhabited SltsR]
theorem fS3 {w:World} {a:Option Addr} {n c:Nat} {xs:List Mrk} (hx:mrksR.V w (.slice a n c) xs):xs.length=n∧n≤c∧c≤maxLen∧∀k,k<n→∃b o,a=some ⟨b,o,none⟩∧w.cell? ⟨b,o+k*2,none⟩=some (.int .i64 (xs.getD k default).con)∧w.cell? ⟨b,o+k*2+1,none⟩=some (.int .i64 (xs.getD k default).val):=by
 obtain⟨a',c',e,h1,h2,h3⟩:=hx;simp only[Value.slice.injEq] at e;obtain⟨rfl,rfl,rfl⟩:=e;exact⟨rfl,h1,h2,fun k hk=>h3 k hk⟩
theorem fOf {c:Clu} {s:Shd} {j:Nat} (hj:j<(s.votes++s.done).length) (h:hasL c ((s.votes++s.done).getD j default).con s.idx=false):qP c s=false:=by
 have hm:(s.votes++s.done).getD j default ∈ s.votes++s.done:=by simp only[List.getD,List.getElem?_eq_getElem hj,Option.getD_some];exact List.getElem_mem hj
 unfold qP strange;rw[List.mem_append] at hm;rcases hm with hm|hm
 ·
  rw[show s.votes.any (fun m=>!hasL c m.con s.idx)=true from List.any_eq_true.2 ⟨_,hm,by rw[h];rfl⟩];rfl
 rw[show s.done.any (fun m=>!hasL c m.con s.idx)=true from List.any_eq_true.2 ⟨_,hm,by rw[h];rfl⟩];simp
theorem fOe {c:Clu} {s:Shd} {j:Nat} (hj:j<s.held.length) (h:pG c (s.held.getD j default)=false):qP c s=false:=by
 have hm:s.held.getD j default ∈ s.held:=by simp only[List.getD,List.getElem?_eq_getElem hj,Option.getD_some];exact List.getElem_mem hj
 unfold qP vV;rw[show s.held.any (fun x=>!pG c x)=true from List.any_eq_true.2 ⟨_,hm,by rw[h];rfl⟩];simp
theorem fQm {c:Clu} {s:Shd} (h1:∀j,j<(s.votes++s.done).length→hasL c ((s.votes++s.done).getD j default).con s.idx=true) (h2:∀j,j<s.held.length→pG c (s.held.getD j default)=true):qP c s=true:=by
 have g1:∀m,m ∈ s.votes++s.done→hasL c m.con s.idx=true:=by
  intro m hm;obtain⟨i,hi,rfl⟩:=List.getElem_of_mem hm;have:=h1 i hi;simpa only[List.getD,List.getElem?_eq_getElem hi,Option.getD_some] using this
 have g2:∀x,x ∈ s.held→pG c x=true:=by
  intro m hm;obtain⟨i,hi,rfl⟩:=List.getElem_of_mem hm;have:=h2 i hi;simpa only[List.getD,List.getElem?_eq_getElem hi,Option.getD_some] using this
 unfold qP strange vV;rw[show s.votes.any (fun m=>!hasL c m.con s.idx)=false from List.any_eq_false.2 (fun m hm=>by rw[g1 m (List.mem_append.2 (.inl hm))];simp)];rw[show s.done.any (fun m=>!hasL c m.con s.idx)=false from List.any_eq_false.2 (fun m hm=>by rw[g1 m (List.mem_append.2 (.inr hm))];simp)];rw[show s.held.any (fun x=>!pG c x)=false from List.any_eq_false.2 (fun m hm=>by rw[g2 m hm];simp)];rfl
theorem fK8 {w W:World} {B:Nat} {ix:Int} {p1 p2 p3 p4 p5:Option Addr} {l1 l2 l3 l4 l5 q1 q2 q3 q4 q5:Nat} (h:Below w.heap.size w W) (y:w.cell? ⟨B,0,none⟩=some (.int .i64 ix)∧w.cell? ⟨B,1,none⟩=some (.slice p1 l1 q1)∧w.cell? ⟨B,2,none⟩=some (.slice p2 l2 q2)∧w.cell? ⟨B,3,none⟩=some (.slice p3 l3 q3)∧w.cell? ⟨B,4,none⟩=some (.slice p4 l4 q4)∧w.cell? ⟨B,5,none⟩=some (.slice p5 l5 q5)):W.cell? ⟨B,0,none⟩=some (.int .i64 ix)∧W.cell? ⟨B,1,none⟩=some (.slice p1 l1 q1)∧W.cell? ⟨B,2,none⟩=some (.slice p2 l2 q2)∧W.cell? ⟨B,3,none⟩=some (.slice p3 l3 q3)∧W.cell? ⟨B,4,none⟩=some (.slice p4 l4 q4)∧W.cell? ⟨B,5,none⟩=some (.slice p5 l5 q5):=⟨cK h y.1,cK h y.2.1,cK h y.2.2.1,cK h y.2.2.2.1,cK h y.2.2.2.2.1,cK h y.2.2.2.2.2⟩
theorem fFs (B:Nat) (c:Clu) (w:World) (h:CluB w B c) (hlen:∀k,k<c.cons.length→(c.cons.getD k default).legs.length≤1048576) (hsz:∀k,k<c.shards.length→(c.shards.getD k default).votes.length≤1048576∧(c.shards.getD k default).done.length≤1048576) :
  Calls Tryz.prog 62 #[.pointer (some ⟨B,0,none⟩)] w fun e w'=>e = .returned (.int .i64 (uL c))∧Below w.heap.size w w':=by
 have HHas:Hid (∀(a s:Int) W,Below w.heap.size w W→Calls Tryz.prog 120 #[.pointer (some ⟨B,0,none⟩),.int .i64 a,.int .i64 s] W fun e w'=>e = .returned (.bool (hasL c a s))∧Below W.heap.size W w'):=fun a s W hW=>uQ B c a s W ((h.below hW).p) hlen
 have HFi:Hid (∀(a:Int) W,Below w.heap.size w W→Calls Tryz.prog 45 #[.pointer (some ⟨B,0,none⟩),.int .i64 a] W fun e w'=>e = .returned (.int .i64 (rT c.cons a))∧Below W.heap.size W w'):=fun a W hW=>vH B c a W ((h.below hW).p)
 have HP:Hid (∀W,Below w.heap.size w W→CluP W B c):=fun W hW=>(h.below hW).p
 obtain⟨a0,a1,a2,a3,a4,c0,c1,c2,c3,c4,n0,n1,n2,n3,n4,⟨y0,y1,y2,y3,y4⟩,hx⟩:=h;have hf:=xR hx;obtain⟨e0,e1,e2,e3,e4,L0,L1,L2,L3,L4⟩:=hf;obtain⟨u1,u2,u3,u4,u5,eq,h1,h2,h3,h4,h5⟩:=hx;simp only[Value.agg.injEq,Array.mk.injEq,List.cons.injEq,and_true] at eq;obtain⟨rfl,rfl,rfl,rfl,rfl⟩:=eq;have zB:B<w.heap.size:=wL w _ y0;obtain⟨_,hnc,hmc,HA⟩:=fC4 h2;unfold maxLen at hmc;have HX:Hid _:=HA;obtain⟨hncc,hmcc,HAc⟩:=mY (by rw[e0];exact h1);unfold maxLen at hmcc;rw[e0] at HAc;have HXc:Hid _:=HAc;have E0:Hid (c.cons.length=n0):=e0;rw[e1] at hsz;have HSz:Hid _:=hsz;have H1:Hid (∀k,k<n1→fC (qU c) k=0→¬qU c k=0→uL c=qU c k):=fun k hk hs h0=>by unfold uL;exact fH hs h0 _ (by rw[e1];exact hk)
 have H2:Hid (fC (qU c) n1=0→uL c=0):=fun h=>by unfold uL;rw[e1];exact h
 clear HA HAc h1 h2 h3 h4 h5 hlen hsz e0 e1 e2 e3 e4 L2 L3 L4 HP y2 y3 y4;generalize uL c=R at *;go_enter Tryz.func62,Tryz.ntmps62;go_wp2;go_loopw [3] (fun i w'=>∃k:Nat,k≤n1∧i = .int .i64 k∧Hid (fC (qU c) k=0)∧Below w.heap.size w w') (fun i _=>n1-(intOf i).toNat)
 case atStart=>exact⟨0,Nat.zero_le _,rfl,rfl,qBq⟩
 obtain⟨k,hk,rfl,HS,hbl⟩:=hrel;have y1':=cK hbl y1;have zB':B<wr.heap.size:=wL wr _ y1';by_cases hlt:k<n1
 ·
  have HA:=HX.out k hlt;have HSk:=HSz.out k hlt;have HH:Hid (¬qU c k=0→R=qU c k):=fun h=>H1.out k hlt HS.out h
  have HZ:Hid (qU c k=0→fC (qU c) (k+1)=0):=fun h=>fD HS.out h
  have HD:Hid (qU c k=orF (shdF (c.shards.getD k default)) (if (c.shards.getD k default).idx=(k:Int)∧qP c (c.shards.getD k default)=true then 0 else 1)):=rfl;obtain⟨s,hs0⟩:∃s,s=c.shards.getD k default:=⟨_,rfl⟩
  rw[←hs0] at HA HD HSk;clear hs0;obtain⟨b,o,v1,v2,v3,v4,v5,rfl,g0,g1,g2,g3,g4,g5,hv⟩:=HA;have HF:Hid (∀W,Below w.heap.size w W→Calls Tryz.prog 119 #[.agg #[.int .i64 s.idx,v1,v2,v3,v4,v5]] W fun e w'=>e = .returned (.int .i64 (shdF s))∧Below W.heap.size W w'):=fun W hW=>fI0 _ s W (shdR.below hv hW)
  obtain⟨_,_,_,_,_,eq,f1,f2,f3,f4,f5⟩:=hv;simp only[Value.agg.injEq,Array.mk.injEq,List.cons.injEq,and_true,true_and] at eq;obtain⟨rfl,rfl,rfl,rfl,rfl⟩:=eq;have HAv:Hid (∀W,Below w.heap.size w W→vK W v2 s.votes.length (qQ s.votes)):=fun W hW=>zF (mrksR.below f2 hW)
  have HAd:Hid (∀W,Below w.heap.size w W→vK W v4 s.done.length (qQ s.done)):=fun W hW=>zF (mrksR.below f4 hW)
  obtain⟨p1,q1,rfl⟩:=fJ f1;obtain⟨p2,q2,rfl⟩:=fK f2;obtain⟨p3,q3,rfl⟩:=fZ f3;obtain⟨p4,q4,rfl⟩:=fK f4;obtain⟨p5,q5,rfl⟩:=gT f5;obtain⟨hnh,hmh,HAh⟩:=mY f3;unfold maxLen at hmh;have HXh:Hid _:=HAh;have HKm:Hid (∀j,j<(s.votes++s.done).length→hasL c ((s.votes++s.done).getD j default).con s.idx=false→qP c s=false):=fun j hj h=>fOf hj h
  have HKh:Hid (∀j,j<s.held.length→pG c (s.held.getD j default)=false→qP c s=false):=fun j hj h=>fOe hj h
  have HKa:Hid ((∀j,j<(s.votes++s.done).length→hasL c ((s.votes++s.done).getD j default).con s.idx=true)→(∀j,j<s.held.length→pG c (s.held.getD j default)=true)→qP c s=true):=fun h1 h2=>fQm h1 h2
  clear f1 f2 f3 f4 f5 HAh;replace g0:=cK hbl g0;replace g1:=cK hbl g1;replace g2:=cK hbl g2;replace g3:=cK hbl g3;replace g4:=cK hbl g4;replace g5:=cK hbl g5;have zb:b<wr.heap.size:=wL wr _ g0;have hti:(k:Int)<(n1:Int):=by omega
  generalize qU c k=z at *;generalize qP c s=kn at *;generalize shdF s=sf at *;have HLm:Hid ((s.votes++s.done).length=s.votes.length+s.done.length):=List.length_append;generalize hl1:s.bals.length=l1 at *;generalize hl2:s.votes.length=l2 at *;generalize hl3:s.held.length=l3 at *;generalize hl4:s.done.length=l4 at *;generalize hl5:s.appl.length=l5 at *;generalize s.idx=ix at *;have HL2:Hid (s.votes.length=l2):=hl2;have HL4:Hid (s.done.length=l4):=hl4;clear hl1 hl2 hl3 hl4 hl5;go_wp2_with fail;refine(HF.out _ (qBq)).mono ?_;rintro e w1 ⟨rfl,hb1⟩;have hB1:Below w.heap.size w w1:=bS (qBq) hb1;have T1:w1.cell? ⟨wr.heap.size,0,none⟩=some (.int .i64 ix)∧w1.cell? ⟨wr.heap.size,1,none⟩=some (.slice p1 l1 q1)∧w1.cell? ⟨wr.heap.size,2,none⟩=some (.slice p2 l2 q2)∧w1.cell? ⟨wr.heap.size,3,none⟩=some (.slice p3 l3 q3)∧w1.cell? ⟨wr.heap.size,4,none⟩=some (.slice p4 l4 q4)∧w1.cell? ⟨wr.heap.size,5,none⟩=some (.slice p5 l5 q5):=⟨cK hb1 (by simp[go_sem]),cK hb1 (by simp[go_sem]),cK hb1 (by simp[go_sem]),cK hb1 (by simp[go_sem]),cK hb1 (by simp[go_sem]),cK hb1 (by simp[go_sem])⟩;obtain⟨wl,hwl⟩:∃wl,wl=wr.heap.size:=⟨_,rfl⟩
  have zwl:w.heap.size≤wl:=by rw[hwl];exact hbl.size
  rw[←hwl] at T1 ⊢;clear hwl hb1 HF g0 g1 g2 g3 g4 g5 y1' zB' zb;have zw1:wl<w1.heap.size:=wL w1 _ T1.1;by_cases hsf:sf=0;rotate_left
  ·
   have hz:z=sf:=by rw[HD.out,xG hsf]
   have HC:Hid (R=sf):=by show _=_;rw[←hz];exact HH.out (by rw[hz];exact hsf)
   have hsf':(sf !=0)=true:=by simp[hsf]
   clear HH HZ HD hz HXh HKm HKh HKa HAv HAd T1;go_wp2;go_ret;exact⟨by rw[HC.out];rfl,hB1⟩
  subst hsf;have HD2:Hid (z=if ix=(k:Int)∧kn=true then 0 else 1):=by show _=_;rw[HD.out,vI rfl]
  clear HD;obtain⟨s0,s1,s2,s3,s4,s5⟩:=T1;by_cases hix:ix=(k:Int);rotate_left
  ·
   have hz:z=1:=by rw[HD2.out,if_neg (fun h=>hix h.1)]
   have HC:Hid (R=1):=by show _=_;rw[←hz];exact HH.out (by rw[hz];omega)
   have hix':(ix !=(k:Int))=true:=by simp[hix]
   clear HH HZ HD2 hz HXh HKm HKh HKa HAv HAd;go_wp2;go_ret;exact⟨by rw[HC.out];rfl,hB1⟩
  have hix':(ix !=(k:Int))=false:=by simp[hix]
  have HBd:Hid (kn=false→R=1):=fun h=>by
   have hz:z=1:=by rw[HD2.out,if_neg (fun x=>by rw[h] at x;cases x.2)]
   show _=_;rw[←hz];exact HH.out (by rw[hz];omega)
  have HGd:Hid (kn=true→fC (qU c) (k+1)=0):=fun h=>HZ.out (by rw[HD2.out,if_pos ⟨hix,h⟩])
  clear HH HZ HD2 hix;obtain⟨hv1,hv2⟩:=HSk;go_wp2;refine wp_region_noPanic ?_;refine fA (fun W=>W.cell? ⟨wl,0,none⟩=some (.int .i64 ix)∧W.cell? ⟨wl,1,none⟩=some (.slice p1 l1 q1)∧W.cell? ⟨wl,2,none⟩=some (.slice p2 l2 q2)∧W.cell? ⟨wl,3,none⟩=some (.slice p3 l3 q3)∧W.cell? ⟨wl,4,none⟩=some (.slice p4 l4 q4)∧W.cell? ⟨wl,5,none⟩=some (.slice p5 l5 q5)) 8 (by kernel_rfl) ⟨cK (qBq) s0,cK (qBq) s1,cK (qBq) s2,cK (qBq) s3,cK (qBq) s4,cK (qBq) s5⟩ (fun hS=>?_);clear hix';refine tM 1 rfl hS ?_;try simp only[jX]
  refine tM 2 rfl hS ?_;try simp only[jX]
  refine tM 4 rfl hS ?_;try simp only[jX]
  refine tM 5 rfl hS ?_;try simp only[jX]
  have hBd:Below w.heap.size w w1.drew:=qBq;clear hB1 s0 s1 s2 s3 s4 s5;generalize w1.drew=wd at *;refine uS 0 rfl (fun K hK=>?_);go_simp;have hSa:(wd.alloc (.cells #[] 141)).cell? ⟨wl,0,none⟩=some (.int .i64 ix)∧(wd.alloc (.cells #[] 141)).cell? ⟨wl,1,none⟩=some (.slice p1 l1 q1)∧(wd.alloc (.cells #[] 141)).cell? ⟨wl,2,none⟩=some (.slice p2 l2 q2)∧(wd.alloc (.cells #[] 141)).cell? ⟨wl,3,none⟩=some (.slice p3 l3 q3)∧(wd.alloc (.cells #[] 141)).cell? ⟨wl,4,none⟩=some (.slice p4 l4 q4)∧(wd.alloc (.cells #[] 141)).cell? ⟨wl,5,none⟩=some (.slice p5 l5 q5):=fK8 (qBq) hS;refine hK _ _ (fun _=>hSa) ?_;clear hK K;try simp only[jX]
  refine uS 3 rfl (fun K hK=>?_);refine fC9 (wd.alloc (.cells #[] 141)) rfl (.tmp 35) (.tmp 37) rfl wd.heap.size _ [] rfl _ s.votes rfl (World.ownsRow_lit (base:=wd.heap.size) (e:=141) (size:=2) wd #[] 0 (Nat.le_refl _) (by decide) rfl) (by rw[HL2.out];exact HAv.out _ (qBq)) (by rw[HL2.out];simp;omega) (by simp) ?_;intro v3 w3 ho3 _ hB3;have hb3:Below wd.heap.size wd w3:=hB3 wd (qBq);have hS3:(fun W=>W.cell? ⟨wl,0,none⟩=some (.int .i64 ix)∧W.cell? ⟨wl,1,none⟩=some (.slice p1 l1 q1)∧W.cell? ⟨wl,2,none⟩=some (.slice p2 l2 q2)∧W.cell? ⟨wl,3,none⟩=some (.slice p3 l3 q3)∧W.cell? ⟨wl,4,none⟩=some (.slice p4 l4 q4)∧W.cell? ⟨wl,5,none⟩=some (.slice p5 l5 q5)) w3:=fK8 hb3 hS;refine hK _ _ (fun _=>hS3) ?_;clear hK K;try simp only[jX]
  refine uS 6 rfl (fun K hK=>?_);rw[List.nil_append] at ho3;refine fC9 w3 rfl (.tmp 38) (.tmp 40) rfl wd.heap.size v3 s.votes rfl _ s.done rfl ho3 (by rw[HL4.out];exact HAd.out _ (bS hBd hb3)) (by rw[HL2.out,HL4.out];omega) hb3.size ?_;intro v4 w4 ho4 _ hB4;have hb4:Below wd.heap.size wd w4:=hB4 wd hb3;have hS4:(fun W=>W.cell? ⟨wl,0,none⟩=some (.int .i64 ix)∧W.cell? ⟨wl,1,none⟩=some (.slice p1 l1 q1)∧W.cell? ⟨wl,2,none⟩=some (.slice p2 l2 q2)∧W.cell? ⟨wl,3,none⟩=some (.slice p3 l3 q3)∧W.cell? ⟨wl,4,none⟩=some (.slice p4 l4 q4)∧W.cell? ⟨wl,5,none⟩=some (.slice p5 l5 q5)) w4:=fK8 hb4 hS;refine hK _ _ (fun _=>hS4) ?_;clear hK K;try simp only[jX]
  have hV4:mrksR.V w4 v4 (s.votes++s.done):=zA ho4;have hB5:Below w.heap.size w w4:=bS hBd hb4;clear hS hSa ho3 hB3 hb3 hS3 ho4 hB4 hb4 HAv HAd hBd;obtain⟨MS,hMS⟩:∃MS,MS=s.votes++s.done:=⟨_,rfl⟩
  rw[←hMS] at hV4 HKm HKa HLm;clear hMS;obtain⟨bm',cm,rfl⟩:=fK hV4;obtain⟨_,hnm,hmm,HAm⟩:=fS3 hV4;unfold maxLen at hmm;have HXm:Hid _:=HAm;have hml:=HLm.out;clear HAm hV4;generalize hmm':MS.length=mm at *;clear hmm' HLm;refine tM 7 rfl hS4 ?_;try simp only[jX]
  refine dN (NoPanic.normal ?_);obtain⟨s0,s1,s2,s3,s4,s5⟩:=hS4;have zw4:wl<w4.heap.size:=wL w4 _ s0;go_wp2;go_loopw [7] (fun i w'=>∃j:Nat,j≤mm∧i = .int .i64 j∧Hid (∀j',j'<j→hasL c (MS.getD j' default).con ix=true)∧Below w4.heap.size w4 w') (fun i _=>mm-(intOf i).toNat)
  case atStart=>exact⟨0,Nat.zero_le _,rfl,fun j hj=>absurd hj (Nat.not_lt_zero _),Below.refl _ _⟩
  obtain⟨j,hj,rfl,HS1,hbl1⟩:=hrel;have hblw:=bS hB5 hbl1;have s0':=cK hbl1 s0;by_cases hlt1:j<mm
  ·
   obtain⟨bm,om,rfl,m0,_⟩:=HXm.out j hlt1;have HC1:Hid _:=HHas.out (MS.getD j default).con ix;have HN:Hid (hasL c (MS.getD j default).con ix=false→R=1):=fun h=>HBd.out (HKm.out j hlt1 h)
   have HG:Hid (hasL c (MS.getD j default).con ix=true→∀j',j'<j+1→hasL c (MS.getD j' default).con ix=true):=fun h j' hj'=>by
    by_cases e:j'=j
    ·
     rw[e];exact h
    exact HS1.out j' (by omega)
   replace m0:=cK hbl1 m0;generalize hasL c (MS.getD j default).con ix=hl at *;generalize (MS.getD j default).con=mc at *;have hti1:(j:Int)<(mm:Int):=by omega
   have hj0:(0:Int)≤(j:Int):=by omega
   go_wp2;refine wp_region_noPanic ?_;refine fA (fun W=>W.cell? ⟨wl,0,none⟩=some (.int .i64 ix)∧W.cell? ⟨bm,om+j*2,none⟩=some (.int .i64 mc)) 10 (by kernel_rfl) ⟨cK (qBq) s0',cK (qBq) m0⟩ (fun hS=>?_);refine tM 0 rfl hS ?_;try simp only[jX]
   refine tM 1 rfl hS ?_;try simp only[jX]
   refine tM 2 rfl hS ?_;try simp only[jX]
   refine tM 3 rfl hS ?_;try simp only[jX]
   refine tM 4 rfl hS ?_;try simp only[jX]
   refine tM 5 rfl hS ?_;try simp only[jX]
   refine tM 6 rfl hS ?_;try simp only[jX]
   refine tM 7 rfl hS ?_;try simp only[jX]
   refine uS 8 rfl (fun K hK=>?_);go_simp;refine(HC1.out _ (qBq)).mono ?_;rintro e w6 ⟨rfl,hb6⟩;have hB6:Below w4.heap.size w4 w6:=bS (qBq) hb6;have hS6:=And.intro (cK hb6 hS.1) (cK hb6 hS.2);refine hK _ _ (fun _=>hS6) ?_;clear hK K hb6;try simp only[jX]
   cases hl
   ·
    have HC:Hid _:=HN.out rfl;have hB7:=bS hB5 hB6;clear HN HG;refine tM 9 rfl hS6 ?_;try simp only[jX]
    refine dN (NoPanic.normal ?_);go_wp2;go_ret;exact⟨by rw[HC.out];rfl,hB7⟩
   have HQ:Hid _:=HG.out rfl;clear HN HG;refine tM 9 rfl hS6 ?_;try simp only[jX]
   refine dN (NoPanic.normal ?_);go_wp2;exact⟨⟨j+1,by omega,by go_num,HQ,hB6⟩,by simp[intOf];omega⟩
  obtain rfl:j=mm:=by omega
  have hti1:¬(j:Int)<(j:Int):=by omega
  have HKa':Hid ((∀j,j<l3→pG c (s.held.getD j default)=true)→kn=true):=HKa.out HS1.out;clear HKa HKm HXm HS1 s0';have s3':=cK hbl1 s3;have zl:wl<_:=wL _ _ s3';go_wp2;go_loopw [8] (fun i w'=>∃j':Nat,j'≤l3∧i = .int .i64 j'∧Hid (∀j,j<j'→pG c (s.held.getD j default)=true)∧w'.cell? ⟨wl,3,none⟩=some (.slice p3 l3 q3)∧Below w.heap.size w w') (fun i _=>l3-(intOf i).toNat)
  case atStart=>exact⟨0,Nat.zero_le _,rfl,fun j hj=>absurd hj (Nat.not_lt_zero _),s3',hblw⟩
  clear s3' zl hblw hbl1;obtain⟨i,hi,rfl,HS2,s3',hblw⟩:=hrel;have zl:wl<_:=wL _ _ s3';by_cases hlt2:i<l3
  ·
   obtain⟨bh,oh,ph,qh,rfl,k0,k1,hvl⟩:=HXh.out i hlt2;have HN:Hid (pG c (s.held.getD i default)=false→R=1):=fun h=>HBd.out (HKh.out i hlt2 h)
   have HG:Hid (pG c (s.held.getD i default)=true→∀j',j'<i+1→pG c (s.held.getD j' default)=true):=fun h j' hj'=>by
    by_cases e:j'=i
    ·
     rw[e];exact h
    exact HS2.out j' (by omega)
   obtain⟨x,hx0⟩:∃x,x=s.held.getD i default:=⟨_,rfl⟩
   rw[←hx0] at k0 k1 hvl HN HG;clear hx0;have HLg:Hid (∀W,Below w.heap.size w W→mJ W (.slice ph x.legs.length qh) x.legs):=fun W hW=>legsR.below hvl hW
   have HCf:Hid _:=HFi.out x.id;replace k0:=cK hblw k0;replace k1:=cK hblw k1;have hti2:(i:Int)<(l3:Int):=by omega
   clear hvl;have HSi:Hid (pG c x=(decide (fE c.cons x.id<n0)&&decide ((c.cons.getD (fE c.cons x.id) default).id=x.id∧(c.cons.getD (fE c.cons x.id) default).legs=x.legs))):=by show _=_;unfold pG;rw[E0.out]
   have HFn:Hid (rT c.cons x.id=if fE c.cons x.id<n0 then (fE c.cons x.id:Int) else -1):=by show _=_;unfold rT;rw[E0.out]
   generalize pG c x=sm at *;generalize rT c.cons x.id=fx at *;by_cases hff:fE c.cons x.id<n0;rotate_left
   ·
    obtain rfl:fx = -1:=by rw[HFn.out,if_neg hff]
    have HC:Hid (R=1):=HN.out (by rw[HSi.out,decide_eq_false hff];rfl);clear HN HG HSi HFn hff HLg;generalize hxl:x.legs.length=hl_ at *;generalize x.id=hid at *;clear hxl;go_wp2_with fail;refine(HCf.out _ (qBq)).mono ?_;rintro e w6 ⟨rfl,hb6⟩;have hB6:Below w.heap.size w w6:=bS (qBq) hb6;have s6:=cK hb6 (by first|exact s3'|exact cK (qBq) s3');go_wp2;refine wp_region_noPanic ?_;refine fA (fun W=>W.cell? ⟨wl,3,none⟩=some (.slice (some ⟨bh,oh,none⟩) l3 q3)) 18 (by kernel_rfl) (cK (qBq) s6) (fun hS=>?_);refine tM 0 rfl hS ?_;try simp only[jX]
    refine tM 1 (v:=(.bool true)) rfl hS ?_;try simp only[jX]
    refine tM 2 rfl hS ?_;try simp only[jX]
    refine sN 3 rfl hS (fun _=>?_);try simp only[jX]
    refine sN 4 rfl hS (fun _=>?_);try simp only[jX]
    refine sN 5 rfl hS (fun _=>?_);try simp only[jX]
    refine sN 6 rfl hS (fun _=>?_);try simp only[jX]
    refine sN 7 rfl hS (fun _=>?_);try simp only[jX]
    refine sN 8 rfl hS (fun _=>?_);try simp only[jX]
    refine sN 9 rfl hS (fun _=>?_);try simp only[jX]
    refine sN 10 rfl hS (fun _=>?_);try simp only[jX]
    refine sN 11 rfl hS (fun _=>?_);try simp only[jX]
    refine sN 12 rfl hS (fun _=>?_);try simp only[jX]
    refine sN 13 rfl hS (fun _=>?_);try simp only[jX]
    refine sN 14 rfl hS (fun _=>?_);try simp only[jX]
    refine sN 15 rfl hS (fun _=>?_);try simp only[jX]
    refine sN 16 rfl hS (fun _=>?_);try simp only[jX]
    refine tM 17 rfl hS ?_;try simp only[jX]
    refine dN (NoPanic.normal ?_);go_wp2;go_ret;exact⟨by rw[HC.out];rfl,qBq⟩
   obtain⟨bc,oc,pc,qc,hac,c0',c1',hvc⟩:=HXc.out _ hff;have HLc:Hid (∀W,Below w.heap.size w W→mJ W (.slice pc (c.cons.getD (fE c.cons x.id) default).legs.length qc) (c.cons.getD (fE c.cons x.id) default).legs):=fun W hW=>legsR.below hvc hW
   have hfx:fx=(fE c.cons x.id:Int):=by rw[HFn.out,if_pos hff]
   have HSi2:Hid (sm=decide ((c.cons.getD (fE c.cons x.id) default).id=x.id∧(c.cons.getD (fE c.cons x.id) default).legs=x.legs)):=by show _=_;rw[HSi.out,decide_eq_true hff];rfl
   subst hac;have y0':=cK hblw y0;have HSa:Hid (∀W,Below w.heap.size w W→Calls Tryz.prog 121 #[.agg #[.int .i64 (c.cons.getD (fE c.cons x.id) default).id,.slice pc (c.cons.getD (fE c.cons x.id) default).legs.length qc],.agg #[.int .i64 x.id,.slice ph x.legs.length qh]] W fun e w'=>e = .returned (.bool sm)∧Below W.heap.size W w'):=fun W hW=>by
    rw[HSi2.out];exact fIz _ _ _ _ _ _ W (HLc.out W hW) (HLg.out W hW)
   clear HSi HSi2 HFn HLc HLg hvc;replace c0':=cK hblw c0';replace c1':=cK hblw c1';have hf1:(fE c.cons x.id:Int)<(n0:Int):=by omega
   have hf0:(0:Int)≤(fE c.cons x.id:Int):=by omega
   have hf2:¬(fE c.cons x.id:Int)<0:=by omega
   generalize c.cons.getD (fE c.cons x.id) default=xc at *;generalize fE c.cons x.id=f at *;subst hfx;generalize hxl:x.legs.length=hl_ at *;generalize hcl:xc.legs.length=cl_ at *;generalize x.id=hid at *;generalize xc.id=cid at *;clear hxl hcl;have hi0:(0:Int)≤(i:Int):=by omega
   go_wp2_with fail;refine(HCf.out _ (qBq)).mono ?_;rintro e w6 ⟨rfl,hb6⟩;have hB6:Below w.heap.size w w6:=bS (qBq) hb6;have s6:=cK hb6 (by first|exact s3'|exact cK (qBq) s3');have d0:=cK hb6 (by first|exact y0'|exact cK (qBq) y0');have d1:=cK hb6 (by first|exact k0|exact cK (qBq) k0);have d2:=cK hb6 (by first|exact k1|exact cK (qBq) k1);have d3:=cK hb6 (by first|exact c0'|exact cK (qBq) c0');have d4:=cK hb6 (by first|exact c1'|exact cK (qBq) c1');clear hb6 k0 k1 c0' c1' y0';go_wp2;refine wp_region_noPanic ?_;refine fA (fun W=>W.cell? ⟨wl,3,none⟩=some (.slice (some ⟨bh,oh,none⟩) l3 q3)∧W.cell? ⟨B,0,none⟩=some (.slice (some ⟨bc,oc,none⟩) n0 c0)∧W.cell? ⟨bh,oh+i*2,none⟩=some (.int .i64 hid)∧W.cell? ⟨bh,oh+i*2+1,none⟩=some (.slice ph hl_ qh)∧W.cell? ⟨bc,oc+f*2,none⟩=some (.int .i64 cid)∧W.cell? ⟨bc,oc+f*2+1,none⟩=some (.slice pc cl_ qc)) 18 (by kernel_rfl) ⟨cK (qBq) s6,cK (qBq) d0,cK (qBq) d1,cK (qBq) d2,cK (qBq) d3,cK (qBq) d4⟩ (fun hS=>?_);refine tM 0 rfl hS ?_;try simp only[jX]
   refine tM 1 (v:=(.bool false)) rfl hS ?_;try simp only[jX]
   refine tM 2 rfl hS ?_;try simp only[jX]
   refine tM 3 rfl hS ?_;try simp only[jX]
   refine tM 4 rfl hS ?_;try simp only[jX]
   refine tM 5 rfl hS ?_;try simp only[jX]
   refine tM 6 rfl hS ?_;try simp only[jX]
   refine tM 7 rfl hS ?_;try simp only[jX]
   refine tM 8 rfl hS ?_;try simp only[jX]
   refine tM 9 rfl hS ?_;try simp only[jX]
   refine tM 10 rfl hS ?_;try simp only[jX]
   refine tM 11 rfl hS ?_;try simp only[jX]
   refine tM 12 rfl hS ?_;try simp only[jX]
   refine tM 13 rfl hS ?_;try simp only[jX]
   refine tM 14 rfl hS ?_;try simp only[jX]
   refine uS 15 rfl (fun K hK=>?_);go_simp;refine(HSa.out _ (qBq)).mono ?_;rintro e w7 ⟨rfl,hb7⟩;have hB7:Below w.heap.size w w7:=bS (qBq) hb7;have hS7:=And.intro (cK hb7 hS.1) (And.intro (cK hb7 hS.2.1) (And.intro (cK hb7 hS.2.2.1) (And.intro (cK hb7 hS.2.2.2.1) (And.intro (cK hb7 hS.2.2.2.2.1) (cK hb7 hS.2.2.2.2.2)))));refine hK _ _ (fun _=>hS7) ?_;clear hK K hb7;try simp only[jX]
   cases sm
   ·
    have HC:Hid _:=HN.out rfl;clear HN HG;refine tM 16 rfl hS7 ?_;try simp only[jX]
    refine tM 17 rfl hS7 ?_;try simp only[jX]
    refine dN (NoPanic.normal ?_);go_wp2;go_ret;exact⟨by rw[HC.out];rfl,hB7⟩
   have HQ:Hid _:=HG.out rfl;clear HN HG;refine tM 16 rfl hS7 ?_;try simp only[jX]
   refine tM 17 rfl hS7 ?_;try simp only[jX]
   refine dN (NoPanic.normal ?_);go_wp2;exact⟨⟨i+1,by omega,by go_num,HQ,hS7.1,hB7⟩,by simp[intOf];omega⟩
  obtain rfl:i=l3:=by omega
  have hti2:¬(i:Int)<(i:Int):=by omega
  have HQ:Hid (fC (qU c) (k+1)=0):=HGd.out (HKa'.out HS2.out);clear HKa' HKh HXh HBd HGd;go_wp2;exact⟨⟨k+1,by omega,by go_num,HQ,hblw⟩,by simp[intOf];omega⟩
 obtain rfl:k=n1:=by omega
 have hti:¬(k:Int)<(k:Int):=by omega
 have HC:Hid (R=0):=H2.out HS.out;go_wp2;go_ret;exact⟨by rw[HC.out];rfl,hbl⟩
end Go.Proofs.YtbfnobcidnmohaaGreat

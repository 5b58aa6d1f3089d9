import Derived.Test.YtbfnobcidnmohaaGreatPrnSafeClusterLaw16
import Derived.Laws.CopyRow
import Derived.Laws.Externs
import Derived.Lib.Overlaps
import Derived.Lib.AppendZerosOnto
import Derived.Deep.RegionLaw
set_option maxHeartbeats 8000000
set_option maxRecDepth 20000
set_option linter.unusedSimpArgs false
set_option linter.unusedSectionVars false
set_option linter.unusedVariables false
namespace Go.Proofs.YtbfnobcidnmohaaGreat
open Go.RowKit
attribute [local go_sem ↓] Go.wp_at_zero Go.wp_at_succ
section
variable [dQ Vot] [iH Vot] [dQ Slt] [iH Slt] [dQ Bal] [iH Bal] [dQ Ledg] [iH Ledg] [dQ Leg] [iH Leg]
theorem fGj (v p:Vot):other v p=(decide (v.bal<p.bal)||fNs v p):=rfl
theorem zZ (x:Value) (d:Slt) (w:World) (hx:sltR.V w x d) :
  RI 218 #[x] w (.int .i64 (fI d)):=by
 obtain⟨u1,rfl,hx⟩:=hx;obtain⟨ax,cx,rfl,hcx,hmx,hx⟩:=hx;unfold maxLen at hmx;cases h1:inB d.con 1 1000000000
 ·rw[rF (by simp[kW,h1])];go_enter Tryz.func218,Tryz.ntmps218;go_wp2_with (first|(go_at_call 237;refine(kE _ _).mono ?_;rintro e w' ⟨rfl,rfl⟩)|(go_at_call 238;refine(kL _ _).mono ?_;rintro e w' ⟨rfl,rfl⟩)|(go_at_call 152;refine(fO _ _ _ _).mono ?_;rintro e w' ⟨rfl,rfl⟩));go_ret;exact⟨rfl,qBq⟩
 cases h2:inB d.sh 0 2
 ·rw[rF (by simp[kW,h2])];go_enter Tryz.func218,Tryz.ntmps218;go_wp2_with (first|(go_at_call 237;refine(kE _ _).mono ?_;rintro e w' ⟨rfl,rfl⟩)|(go_at_call 238;refine(kL _ _).mono ?_;rintro e w' ⟨rfl,rfl⟩)|(go_at_call 152;refine(fO _ _ _ _).mono ?_;rintro e w' ⟨rfl,rfl⟩));go_ret;exact⟨rfl,qBq⟩
 cases h3:inB d.pr (-1) 1000
 ·rw[rF (by simp[kW,h3])];go_enter Tryz.func218,Tryz.ntmps218;go_wp2_with (first|(go_at_call 237;refine(kE _ _).mono ?_;rintro e w' ⟨rfl,rfl⟩)|(go_at_call 238;refine(kL _ _).mono ?_;rintro e w' ⟨rfl,rfl⟩)|(go_at_call 152;refine(fO _ _ _ _).mono ?_;rintro e w' ⟨rfl,rfl⟩));go_ret;exact⟨rfl,qBq⟩
 have hR:Hid (kW d=true):=by show _=_;simp[kW,h1,h2,h3]
 by_cases h6:60<d.cast.length
 ·rw[fDj hR.out h6];go_enter Tryz.func218,Tryz.ntmps218;go_wp2_with (first|(go_at_call 237;refine(kE _ _).mono ?_;rintro e w' ⟨rfl,rfl⟩)|(go_at_call 238;refine(kL _ _).mono ?_;rintro e w' ⟨rfl,rfl⟩)|(go_at_call 152;refine(fO _ _ _ _).mono ?_;rintro e w' ⟨rfl,rfl⟩));go_ret;exact⟨rfl,qBq⟩
 obtain⟨xs,hxs⟩:∃xs,xs=d.cast:=⟨_,rfl⟩
 have HXS:Hid (d.cast=xs):=hxs.symm;rw[←hxs] at h6 hcx hx ⊢;clear hxs;obtain⟨n,hn'⟩:∃n,n=xs.length:=⟨_,rfl⟩
 have HN:Hid (xs.length=n):=hn'.symm;rw[←hn'] at h6 hcx hx ⊢;clear hn';go_enter Tryz.func218,Tryz.ntmps218;go_wp2_with (first|(go_at_call 237;refine(kE _ _).mono ?_;rintro e w' ⟨rfl,rfl⟩)|(go_at_call 238;refine(kL _ _).mono ?_;rintro e w' ⟨rfl,rfl⟩)|(go_at_call 152;refine(fO _ _ _ _).mono ?_;rintro e w' ⟨rfl,rfl⟩)|fail);refine(yD _).mono ?_;rintro e w1 ⟨rfl,hb1⟩;have hB1:=bT w hb1;have k2:w1.cell? ⟨w.heap.size,2,none⟩=some (.int .i64 d.pr):=cK hb1 sG;have k3:w1.cell? ⟨w.heap.size,3,none⟩=some (.int .i64 d.lb):=cK hb1 sG;have k4:w1.cell? ⟨w.heap.size,4,none⟩=some (.int .i64 d.lv):=cK hb1 sG;have k5:w1.cell? ⟨w.heap.size,5,none⟩=some (.slice ax n cx):=cK hb1 sG;clear hb1;have z1:w.heap.size<w1.heap.size:=wL w1 _ k2;go_wp2;go_loopw [30] (fun i w'=>∃k:Nat,k≤n∧i =.int .i64 k∧fC (uY xs) k=0∧(w'.cell? ⟨w.heap.size,2,none⟩=some (.int .i64 d.pr)∧w'.cell? ⟨w.heap.size,3,none⟩=some (.int .i64 d.lb)∧w'.cell? ⟨w.heap.size,4,none⟩=some (.int .i64 d.lv))∧w'.cell? ⟨w1.heap.size,0,none⟩=some (.int .i64 (rT xs k).bal)∧w'.cell? ⟨w1.heap.size,1,none⟩=some (.int .i64 (rT xs k).val)∧(∀o,w'.frozen? ⟨w1.heap.size,o,none⟩=false)∧Below w.heap.size w w') (fun i _=>n-(intOf i).toNat)
 case atStart=>exact⟨0,oM,rfl,rfl,⟨cK (bA (bR _ _) _) k2,cK (bA (bR _ _) _) k3,cK (bA (bR _ _) _) k4⟩,by simp[go_sem,uT,noV],by simp[go_sem,uT,noV],sG,qBq⟩
 clear k2 k3 k4 k5 hB1;obtain⟨k,hk,rfl,hs,⟨c2,c3,c4⟩,e0,e1,ef,hbl⟩:=hrel;have HS:Hid (fC (uY xs) k=0):=hs;clear hs;have z0:w.heap.size<wr.heap.size:=wL wr _ c2;have z2:w1.heap.size<wr.heap.size:=wL wr _ e0;obtain⟨q,hq⟩:∃q,q=rT xs k:=⟨_,rfl⟩
 have HQ:Hid (rT xs k=q):=hq.symm;rw[←hq] at e0 e1;clear hq;by_cases hlt:k<n
 ·
  obtain⟨bx,ox,rfl,g1⟩:=hx k hlt;obtain⟨l,hl⟩:∃l,l=xs.getD k default:=⟨_,rfl⟩
  rw[←hl] at g1;have HL:Hid (l=xs.getD k default):=hl;clear hl hx;obtain⟨a1,a2⟩:=gL hbl g1;clear g1;cases v1:votB l
  ·
   go_wp2_with (go_at_call 229;refine(qZ l _).mono ?_;rintro e w' ⟨rfl,hb⟩)
   go_ret;refine⟨?_,qBq⟩;rw[vT (k:=k) (c:=3) hR.out (by rw[HXS.out,HN.out];omega) (by rw[HXS.out,HN.out];exact hlt) (by rw[HXS.out];exact HS.out) (by rw[HXS.out];exact fDs (by rw[←HL.out];exact v1)) oM];rfl
  have hok:Hid (votB (xs.getD k default)=true):=by show _=_;rw[←HL.out];exact v1
  go_wp2_with fail;refine(qZ l _).mono ?_;rintro e w2 ⟨rfl,hb2⟩;have hB2:Below w.heap.size w w2:=bS (bA hbl _) hb2;have b0:w2.cell? ⟨wr.heap.size,0,none⟩=some (.int .i64 l.bal):=cK hb2 sG;have b1:w2.cell? ⟨wr.heap.size,1,none⟩=some (.int .i64 l.val):=cK hb2 sG;replace c2:=cK hb2 (cK qBq c2);replace c3:=cK hb2 (cK qBq c3);replace c4:=cK hb2 (cK qBq c4);replace e0:=cK hb2 (cK qBq e0);replace e1:=cK hb2 (cK qBq e1);replace ef:∀o,w2.frozen? ⟨w1.heap.size,o,none⟩=false:=fun o=>by rw[(bcell hb2).2 _ _ (by simp;omega)];simp[go_sem,ef,z2]
  clear hb2 hbl a1 a2;rw[v1];by_cases q1:l.bal<q.bal
  ·go_wp2;go_ret;refine⟨?_,hB2⟩;rw[vT (k:=k) (c:=1) hR.out (by rw[HXS.out,HN.out];omega) (by rw[HXS.out,HN.out];exact hlt) (by rw[HXS.out];exact HS.out) (by rw[HXS.out];exact fDt hok.out (by rw[←HL.out,HQ.out,fGj];simp[q1])) oM];rfl
  go_wp2_with fail;refine(fC2 l q _).mono ?_;rintro e w3 ⟨rfl,hb3⟩;have hB3:Below w.heap.size w w3:=bS hB2 hb3;have z3:w1.heap.size<w2.heap.size:=wL w2 _ e0;replace b0:=cK hb3 b0;replace b1:=cK hb3 b1;replace c2:=cK hb3 c2;replace c3:=cK hb3 c3;replace c4:=cK hb3 c4;replace e0:=cK hb3 e0;replace e1:=cK hb3 e1;replace ef:∀o,w3.frozen? ⟨w1.heap.size,o,none⟩=false:=fun o=>by rw[(bcell hb3).2 _ _ z3];exact ef o
  clear hb3 hB2;cases q2:fNs l q
  ·
   go_wp2;refine⟨⟨k+1,by omega,by go_num,fE HS.out (fN6 hok.out (by rw[←HL.out,HQ.out,fGj,q2];simp[q1])),⟨by simp[go_sem,c2],by simp[go_sem,c3],by simp[go_sem,c4]⟩,?_,?_,by simp[go_sem,ef],qS⟩,mI⟩
   ·rw[tZ,←HL.out];simp[go_sem,e0]
   rw[tZ,←HL.out];simp[go_sem,e1]
  go_wp2;go_ret;refine⟨?_,hB3⟩;rw[vT (k:=k) (c:=1) hR.out (by rw[HXS.out,HN.out];omega) (by rw[HXS.out,HN.out];exact hlt) (by rw[HXS.out];exact HS.out) (by rw[HXS.out];exact fDt hok.out (by rw[←HL.out,HQ.out,fGj,q2];simp)) oM];rfl
 have hkn:k=n:=oM;subst hkn;have HE:Hid (fI d=if (d.lb=q.bal∧d.lv=q.val)∧d.lb≤d.pr then 0 else 1):=by
  show _=_;rw[fB9 hR.out (by rw[HXS.out,HN.out];omega) (by rw[HXS.out,HN.out];exact HS.out),HXS.out,HN.out,HQ.out]
 clear hx hlt;cases he:(decide (d.lb=q.bal)&&decide (d.lv=q.val))
 ·
  have heq:∀w,(binOp .neq 126 (.agg #[.int .i64 d.lb,.int .i64 d.lv]) (.agg #[.int .i64 q.bal,.int .i64 q.val])).run Tryz.prog w =.ok (.bool true) w:=fun w=>by rw[uW,he];rfl
  go_wp2;go_ret;refine⟨?_,hbl⟩;rw[HE.out,if_neg (by simp at he;rintro⟨⟨e1,e2⟩,_⟩;exact he e1 e2)];rfl
 have heq:∀w,(binOp .neq 126 (.agg #[.int .i64 d.lb,.int .i64 d.lv]) (.agg #[.int .i64 q.bal,.int .i64 q.val])).run Tryz.prog w =.ok (.bool false) w:=fun w=>by rw[uW,he];rfl
 simp at he;have HB:Hid (d.lb=q.bal∧d.lv=q.val):=he;clear he;go_wp2
 ·rename_i hle;go_ret;refine⟨?_,hbl⟩;rw[HE.out,if_neg (by rintro⟨_,h⟩;have:=HB.out.1;omega)];rfl
 rename_i hle;go_ret;refine⟨?_,hbl⟩;rw[HE.out,if_pos ⟨HB.out,by have:=HB.out.1;omega⟩];rfl
variable [dQ SltR] [iH SltR] [dQ Acc] [iH Acc] [dQ AccR] [iH AccR] [dQ AccsR] [iH AccsR] [dQ SltsR] [iH SltsR]
theorem fBk (x:Value) (d:Acc) (w:World) (hx:accR.V w x d) :
  RI 148 #[x] w (.int .i64 (accF d.slots)):=by
 obtain⟨u1,rfl,hx⟩:=hx;obtain⟨ax,cx,rfl,hcx,hmx,hx⟩:=hx;unfold maxLen at hmx;obtain⟨xs⟩:=d;dsimp only at hx hcx ⊢;obtain⟨n,hn'⟩:∃n,n=xs.length:=⟨_,rfl⟩
 have HN:Hid (xs.length=n):=hn'.symm;rw[←hn'] at hcx hx ⊢;clear hn';by_cases h6:60<n
 ·have HC:Hid (accF xs=2):=fHg (by rw[HN.out];exact h6);have h6':(60:Int)<n:=oM;clear hx;go_enter Tryz.func148,Tryz.ntmps148;go_wp2;go_ret;exact⟨rH,qBq⟩
 have h6':¬(60:Int)<n:=oM;have HH:Hid (∀k c,k<n→fC (qO xs) k=0→qO xs k=c→¬c=0→accF xs=c):=fun k c hk hs hc h0=>fMu (by rw[HN.out];exact h6) (by rw[HN.out];exact hk) hs hc h0
 have HE:Hid (fC (qO xs) n=0→accF xs=0):=fun hs=>fMt (by rw[HN.out];exact h6) (by rw[HN.out];exact hs)
 clear h6;go_enter Tryz.func148,Tryz.ntmps148;go_wp2;go_loopw [13] (fun i w'=>∃k:Nat,k≤n∧i =.int .i64 k∧fC (qO xs) k=0∧w'.cell? ⟨w.heap.size,0,none⟩=some (.slice ax n cx)∧Below w.heap.size w w') (fun i _=>n-(intOf i).toNat)
 case atStart=>exact⟨0,oM,rfl,rfl,by simp[go_sem],qBq⟩
 obtain⟨k,hk,rfl,hs,hq,hbl⟩:=hrel;have HS:Hid (fC (qO xs) k=0):=hs;clear hs;by_cases hlt:k<n
 ·
  obtain⟨bxa,oxa,ua,rfl,_,pa,hva⟩:=hx k oM;obtain⟨l,hla⟩:∃l,l=xs.getD k default:=⟨_,rfl⟩
  rw[←hla] at hva;have HLa:Hid (l=xs.getD k default):=hla;clear hla;have hVa:=hva;obtain⟨sa,rfl,hca⟩:=hva;obtain⟨aua,cua,rfl⟩:=gJ hca;clear hca;have ga0:w.cell? ⟨bxa,oxa+k*6,none⟩=some (.int .i64 l.con):=pa 0 oM;have ga1:w.cell? ⟨bxa,oxa+k*6+1,none⟩=some (.int .i64 l.sh):=pa 1 oM;have ga2:w.cell? ⟨bxa,oxa+k*6+2,none⟩=some (.int .i64 l.pr):=pa 2 oM;have ga3:w.cell? ⟨bxa,oxa+k*6+3,none⟩=some (.int .i64 l.lb):=pa 3 oM;have ga4:w.cell? ⟨bxa,oxa+k*6+4,none⟩=some (.int .i64 l.lv):=pa 4 oM;have ga5:w.cell? ⟨bxa,oxa+k*6+5,none⟩=some (.slice aua l.cast.length cua):=pa 5 oM;clear pa;have HF:Hid (bW w fun W=>RI 218 #[.agg #[.int .i64 l.con,.int .i64 l.sh,.int .i64 l.pr,.int .i64 l.lb,.int .i64 l.lv,.slice aua l.cast.length cua]] W (.int .i64 (fI l))):=fun W h=>zZ _ l W (sltR.below hVa h)
  clear hVa;have hX:Hid (∀i,i<n→∃b o u,some (⟨bxa,oxa,none⟩:Addr)=some ⟨b,o,none⟩∧(uU u).length=6∧(∀j,j<6→w.cell? ⟨b,o+i*6+j,none⟩=(uU u)[j]?)∧sltR.V w u (xs.getD i default)):=hx;clear hx;replace ga0:=cK hbl ga0;replace ga1:=cK hbl ga1;replace ga2:=cK hbl ga2;replace ga3:=cK hbl ga3;replace ga4:=cK hbl ga4;replace ga5:=cK hbl ga5;have zb:bxa<wr.heap.size:=wL wr _ ga0;have zq:w.heap.size<wr.heap.size:=wL wr _ hq;go_wp2_with fail;refine(HF.out _ qBq).mono ?_;rintro e w1 ⟨rfl,hb1⟩;have hB1:=bT w hb1;have hq1:w1.cell? ⟨w.heap.size,0,none⟩=some (.slice (some ⟨bxa,oxa,none⟩) n cx):=cK hb1 (by simp[go_sem,hq,zq]);have s0:w1.cell? ⟨wr.heap.size,0,none⟩=some (.int .i64 l.con):=cK hb1 sG;have s1:w1.cell? ⟨wr.heap.size,1,none⟩=some (.int .i64 l.sh):=cK hb1 sG;have s2:w1.cell? ⟨wr.heap.size,2,none⟩=some (.int .i64 l.pr):=cK hb1 sG;have s3:w1.cell? ⟨wr.heap.size,3,none⟩=some (.int .i64 l.lb):=cK hb1 sG;have s4:w1.cell? ⟨wr.heap.size,4,none⟩=some (.int .i64 l.lv):=cK hb1 sG;have s5:w1.cell? ⟨wr.heap.size,5,none⟩=some (.slice aua l.cast.length cua):=cK hb1 sG;replace ga0:=cK hb1 (cK qBq ga0);replace ga1:=cK hb1 (cK qBq ga1);replace ga2:=cK hb1 (cK qBq ga2);replace ga3:=cK hb1 (cK qBq ga3);replace ga4:=cK hb1 (cK qBq ga4);replace ga5:=cK hb1 (cK qBq ga5);clear hb1 hq;have HX:Hid (qO xs k=if fI l=0 then (if k=0 then 0 else if kX (xs.getD (k-1) default) l=true then 0 else 1) else fI l):=by show _=_;unfold qO;rw[←HLa.out]
  by_cases hf:fI l=0
  ·
   rw[hf];have HX2:Hid (qO xs k=if k=0 then 0 else if kX (xs.getD (k-1) default) l=true then 0 else 1):=by show _=_;rw[HX.out,if_pos hf]
   clear hf HX;cases k with
   | zero=>
    have H0:Hid (qO xs 0=0):=by show _=_;rw[HX2.out,if_pos rfl]
    clear HX2;clear ga0 ga1 ga2 ga3 ga4 ga5 hX;go_wp2;go_quiet (fail);go_wp2;exact⟨⟨1,by omega,by go_num,fE HS.out H0.out,cK (fJ (bR _ _) _) hq1,fJ hB1 _⟩,mI⟩
   | succ p=>
    have hx:=hX.out;clear hX;have hxz:=hx p oM;obtain⟨bxz,oxz,uz,hez,_,pz,hvz⟩:=hxz;simp only[Option.some.injEq,Addr.mk.injEq,and_true] at hez;obtain⟨rfl,rfl⟩:=hez;obtain⟨z,hlz⟩:∃l,l=xs.getD p default:=⟨_,rfl⟩
    rw[←hlz] at hvz;have HLz:Hid (z=xs.getD p default):=hlz;clear hlz;have hVz:=hvz;obtain⟨sz,rfl,hcz⟩:=hvz;obtain⟨auz,cuz,rfl⟩:=gJ hcz;clear hcz;have gz0:w.cell? ⟨bxa,oxa+p*6,none⟩=some (.int .i64 z.con):=pz 0 oM;have gz1:w.cell? ⟨bxa,oxa+p*6+1,none⟩=some (.int .i64 z.sh):=pz 1 oM;have gz2:w.cell? ⟨bxa,oxa+p*6+2,none⟩=some (.int .i64 z.pr):=pz 2 oM;have gz3:w.cell? ⟨bxa,oxa+p*6+3,none⟩=some (.int .i64 z.lb):=pz 3 oM;have gz4:w.cell? ⟨bxa,oxa+p*6+4,none⟩=some (.int .i64 z.lv):=pz 4 oM;have gz5:w.cell? ⟨bxa,oxa+p*6+5,none⟩=some (.slice auz z.cast.length cuz):=pz 5 oM;clear pz;clear hx hVz;replace gz0:=cK hB1 gz0;replace gz1:=cK hB1 gz1;replace gz2:=cK hB1 gz2;replace gz3:=cK hB1 gz3;replace gz4:=cK hB1 gz4;replace gz5:=cK hB1 gz5;have i1:(p:Int)<(n:Int):=oM;have i2:((p+1:Nat):Int)<(n:Int):=oM;have i3:(0:Int)<((p+1:Nat):Int):=oM;have i4:decide (0<p+1)=true:=decide_eq_true oM;have i5:IntKind.i64.wrap (((p+1:Nat):Int)-1)=(p:Int):=by rw[IntKind.wrap_i64];omega
    have i6:(0:Int)≤((p+1:Nat):Int):=oM;have i7:(0:Int)≤(p:Int):=oM;have i8:(p:Int)+1<(n:Int):=oM;have i9:(0:Int)≤(p:Int)+1:=oM;have i10:((p:Int)+1).toNat=p+1:=oM;have w1':IntKind.i64.wrap (p:Int)=p:=kD oM oM;have HX3:Hid (qO xs (p+1)=if kX z l=true then 0 else 1):=by show _=_;rw[HX2.out,if_neg oM,Nat.add_sub_cancel,←HLz.out]
    clear HX2;obtain⟨u,hu⟩:∃u:Value,u =.slice aua l.cast.length cua:=⟨_,rfl⟩
    obtain⟨u',hu'⟩:∃u:Value,u =.slice auz z.cast.length cuz:=⟨_,rfl⟩
    have rA:=And.intro s0 (And.intro s1 (And.intro s2 (And.intro s3 (And.intro s4 s5))));have rZ:=And.intro gz0 (And.intro gz1 (And.intro gz2 (And.intro gz3 (And.intro gz4 gz5))));clear ga0 gz0 s0 ga1 gz1 s1 ga2 gz2 s2 ga3 gz3 s3 ga4 gz4 s4 ga5 gz5 s5 hu hu';cases hah:kX z l
    ·
     have hah':kX z l=false:=hah;have hge:decide (0≤cmpS z l)=true:=by unfold kX at hah;have h':=of_decide_eq_false hah;exact decide_eq_true oM
     have hg2:0≤cmpS z l:=of_decide_eq_true hge;have HAH:Hid (kX z l=false):=hah';clear hah';go_wp2;go_region_held3 (fun W=>Below w1.heap.size w1 W∧(W.cell? ⟨wr.heap.size,0,none⟩=some (.int .i64 l.con)∧W.cell? ⟨wr.heap.size,0+1,none⟩=some (.int .i64 l.sh)∧W.cell? ⟨wr.heap.size,0+2,none⟩=some (.int .i64 l.pr)∧W.cell? ⟨wr.heap.size,0+3,none⟩=some (.int .i64 l.lb)∧W.cell? ⟨wr.heap.size,0+4,none⟩=some (.int .i64 l.lv)∧W.cell? ⟨wr.heap.size,0+5,none⟩=some (.slice aua l.cast.length cua))∧(W.cell? ⟨bxa,oxa+p*6,none⟩=some (.int .i64 z.con)∧W.cell? ⟨bxa,oxa+p*6+1,none⟩=some (.int .i64 z.sh)∧W.cell? ⟨bxa,oxa+p*6+2,none⟩=some (.int .i64 z.pr)∧W.cell? ⟨bxa,oxa+p*6+3,none⟩=some (.int .i64 z.lb)∧W.cell? ⟨bxa,oxa+p*6+4,none⟩=some (.int .i64 z.lv)∧W.cell? ⟨bxa,oxa+p*6+5,none⟩=some (.slice auz z.cast.length cuz))∧W.cell? ⟨w.heap.size,0,none⟩=some (.slice (some ⟨bxa,oxa,none⟩) n cx)) ((refine fCa ?_ rA rZ hq1;repeat (first|exact bR _ _|assumption|refine bD ?_|refine bA ?_ _|refine bS ?_ (by assumption)))) (first|(go_at_call 219;refine(qB z l _ _ _).mono ?_;rintro e wa ⟨rfl,hb2⟩));rename_i hH;have hB2:=bS hB1 hH.1;have hq2:=hH.2.2.2;clear hH;have HC:Hid (accF xs=1):=HH.out (p+1) 1 hlt HS.out (by rw[HX3.out,HAH.out];rfl) oM;go_wp2;go_ret;exact⟨rH,hB2⟩
    have hah':kX z l=true:=hah;have hge:decide (0≤cmpS z l)=false:=by unfold kX at hah;have h':=of_decide_eq_true hah;exact decide_eq_false oM
    have hg2:¬0≤cmpS z l:=of_decide_eq_false hge;have HAH:Hid (kX z l=true):=hah';clear hah';go_wp2;go_region_held3 (fun W=>Below w1.heap.size w1 W∧(W.cell? ⟨wr.heap.size,0,none⟩=some (.int .i64 l.con)∧W.cell? ⟨wr.heap.size,0+1,none⟩=some (.int .i64 l.sh)∧W.cell? ⟨wr.heap.size,0+2,none⟩=some (.int .i64 l.pr)∧W.cell? ⟨wr.heap.size,0+3,none⟩=some (.int .i64 l.lb)∧W.cell? ⟨wr.heap.size,0+4,none⟩=some (.int .i64 l.lv)∧W.cell? ⟨wr.heap.size,0+5,none⟩=some (.slice aua l.cast.length cua))∧(W.cell? ⟨bxa,oxa+p*6,none⟩=some (.int .i64 z.con)∧W.cell? ⟨bxa,oxa+p*6+1,none⟩=some (.int .i64 z.sh)∧W.cell? ⟨bxa,oxa+p*6+2,none⟩=some (.int .i64 z.pr)∧W.cell? ⟨bxa,oxa+p*6+3,none⟩=some (.int .i64 z.lb)∧W.cell? ⟨bxa,oxa+p*6+4,none⟩=some (.int .i64 z.lv)∧W.cell? ⟨bxa,oxa+p*6+5,none⟩=some (.slice auz z.cast.length cuz))∧W.cell? ⟨w.heap.size,0,none⟩=some (.slice (some ⟨bxa,oxa,none⟩) n cx)) ((refine fCa ?_ rA rZ hq1;repeat (first|exact bR _ _|assumption|refine bD ?_|refine bA ?_ _|refine bS ?_ (by assumption)))) (first|(go_at_call 219;refine(qB z l _ _ _).mono ?_;rintro e wa ⟨rfl,hb2⟩));rename_i hH;have hB2:=bS hB1 hH.1;have hq2:=hH.2.2.2;clear hH;have H0:Hid (qO xs (p+1)=0):=by show _=_;rw[HX3.out,HAH.out];rfl
    go_wp2;exact⟨⟨p+1+1,by omega,by go_num,fE HS.out H0.out,hq2,hB2⟩,mI⟩
  have HC:Hid (accF xs=fI l):=HH.out k _ hlt HS.out (by rw[HX.out,if_neg hf]) hf;clear HX hX;generalize fI l=c at *;go_wp2;go_ret;exact⟨rH,hB1⟩
 have hkn:k=n:=oM;subst hkn;have HC:Hid (accF xs=0):=HE.out HS.out;go_wp2;go_ret;exact⟨rH,qBq⟩
end
section
def insF {β:Type} (f:Nat→β) (i:Nat) (x:β):Nat→β:=fun k=>if k<i then f k else if k=i then x else f (k-1)
theorem vM {β:Type} (f:Nat→β) {i k:Nat} (x:β) (h:k<i):insF f i x k=f k:=by simp[insF,h]
theorem vK {β:Type} (f:Nat→β) (i:Nat) (x:β):insF f i x i=x:=by simp[insF]
theorem vL {β:Type} (f:Nat→β) {i k:Nat} (x:β) (h:i<k):insF f i x k=f (k-1):=by
 unfold insF;rw[if_neg oM,if_neg oM]
theorem fT2 {α:Type} [Inhabited α] (xs:List α) (x:α) (i k:Nat) (hi:i≤xs.length):(xs.take i++[x]++xs.drop i).getD k default=insF (fun k=>xs.getD k default) i x k:=by
 have hl:(xs.take i).length=i:=by rw[List.length_take];omega
 simp only[List.getD_eq_getElem?_getD];rw[List.append_assoc];rcases Nat.lt_trichotomy k i with h|h|h
 ·rw[vM _ _ h,List.getElem?_append_left oM,List.getElem?_take,if_pos h]
 ·subst h;rw[vK,List.getElem?_append_right oM,hl];simp
 rw[vL _ _ h,List.getElem?_append_right oM,hl,List.getElem?_append_right (by simp;omega),List.getElem?_drop];congr 2;simp;omega
theorem PO.ins {α:Type} {R:Rep α} {e size:Nat} {lv:Value→List Value} {W W':World} {base:Nat} {v v':Value} {n i:Nat} {d:Nat→α} {cs:List Value} {us:Nat→Value} {fs:Nat→Nat→Prop} {u:Value} {x:α} {Fu:Nat→Prop}
  (h:PO R e size lv W base v n n d cs us fs) (hi:i≤n) (hu:R.O W base Fu u x) (hl:(lv u).length=size) (hd:∀j,j<n→∀b,fs j b→¬Fu b) (hvu:∀b,Fu b→v.ownBlock≠some b)
  (hr:W'.ownsRow base e size v' (n+1) (cs.take (i*size)++lv u++cs.drop (i*size))) (hm:Mod (fun b=>v.ownBlock=some b) W W') (hv:∀b,v'.ownBlock=some b→v.ownBlock=some b∨W.heap.size≤b) :
  PO R e size lv W' base v' (n+1) (n+1) (insF d i x) (cs.take (i*size)++lv u++cs.drop (i*size)) (insF us i u) (insF fs i Fu):=by
 have hcl:cs.length=n*size:=h.row.1;have him:i*size≤n*size:=Nat.mul_le_mul_right _ hi;have hold:∀b,b<W.heap.size→v.ownBlock≠some b→v'.ownBlock≠some b:=fun b hb hn e=>by
  rcases hv b e with h1|h1
  ·exact hn h1
  omega
 have hel:∀j,j<n→R.O W' base (fs j) (us j) (d j):=fun j hj=>R.mod (h.el j hj) hm (fun b hb=>h.out j hj b hb)
 refine⟨hr,fun j hj=>?_,fun j hj=>?_,fun j hj o ho=>?_,fun j hj b hb=>?_,fun j k hj hk hjk b h1 h2=>?_⟩
 ·
  rcases Nat.lt_trichotomy j i with h1|h1|h1
  ·rw[vM _ _ h1,vM _ _ h1,vM _ _ h1];exact hel j oM
  ·subst h1;rw[vK,vK,vK];exact R.mod hu hm (fun b hb=>hvu b hb)
  rw[vL _ _ h1,vL _ _ h1,vL _ _ h1];exact hel (j-1) oM
 ·
  rcases Nat.lt_trichotomy j i with h1|h1|h1
  ·rw[vM _ _ h1];exact h.ln j oM
  ·subst h1;rw[vK];exact hl
  rw[vL _ _ h1];exact h.ln (j-1) oM
 ·
  have ht:(cs.take (i*size)).length=i*size:=by rw[List.length_take];omega
  rw[List.append_assoc];rcases Nat.lt_trichotomy j i with h1|h1|h1
  ·
   have hlt:j*size+o<i*size:=by
    have:(j+1)*size≤i*size:=Nat.mul_le_mul_right _ h1;rw[Nat.succ_mul] at this;omega
   rw[vM _ _ h1,List.getElem?_append_left oM,List.getElem?_take,if_pos hlt];exact h.cell j oM o ho
  ·subst h1;rw[vK,List.getElem?_append_right oM,ht,show j*size+o-j*size=o by omega,List.getElem?_append_left oM]
  obtain⟨q,rfl⟩:∃q,j=q+1:=⟨j-1,by omega⟩
  have hge:i*size≤q*size:=Nat.mul_le_mul_right _ oM;have e1:(q+1)*size=q*size+size:=Nat.succ_mul _ _;rw[vL _ _ h1,Nat.add_sub_cancel,List.getElem?_append_right oM,ht,List.getElem?_append_right oM,hl,List.getElem?_drop,e1,show i*size+(q*size+size+o-i*size-size)=q*size+o by omega];exact h.cell q oM o ho
 ·
  rcases Nat.lt_trichotomy j i with h1|h1|h1
  ·rw[vM _ _ h1] at hb;exact hold b (R.rng (h.el j oM) b hb).2 (h.out j oM b hb)
  ·subst h1;rw[vK] at hb;exact hold b (R.rng hu b hb).2 (hvu b hb)
  rw[vL _ _ h1] at hb;exact hold b (R.rng (h.el (j-1) oM) b hb).2 (h.out (j-1) oM b hb)
 have key:∀j,j<n+1→insF fs i Fu j b→(j=i∧Fu b)∨∃q,q<n∧fs q b∧((j<i∧q=j)∨(i<j∧q+1=j)):=fun j hj hb=>by
  rcases Nat.lt_trichotomy j i with h1|h1|h1
  ·rw[vM _ _ h1] at hb;exact .inr ⟨j,by omega,hb,.inl ⟨h1,rfl⟩⟩
  ·subst h1;rw[vK] at hb;exact .inl ⟨rfl,hb⟩
  rw[vL _ _ h1] at hb;exact .inr ⟨j-1,by omega,hb,.inr ⟨h1,by omega⟩⟩
 rcases key j hj h1 with ⟨e1,f1⟩|⟨q,hq,f1,g1⟩
 ·
  rcases key k hk h2 with ⟨e2,f2⟩|⟨q2,hq2,f2,g2⟩
  ·omega
  exact hd q2 hq2 b f2 f1
 rcases key k hk h2 with ⟨e2,f2⟩|⟨q2,hq2,f2,g2⟩
 ·exact hd q hq b f1 f2
 exact h.sep q q2 hq hq2 oM b f1 f2
theorem NO.ins {α:Type} [Inhabited α] {R:Rep α} {e size:Nat} {lv:Value→List Value} {W W':World} {base:Nat} {v v':Value} {i:Nat} {xs:List α} {cs:List Value} {us:Nat→Value} {fs:Nat→Nat→Prop} {u:Value} {x:α} {F Fu:Nat→Prop}
  (h:PO R e size lv W base v xs.length xs.length (fun i=>xs.getD i default) cs us fs) (hF:∀b,F b↔(v.ownBlock=some b∨∃i,i<xs.length∧fs i b)) (hi:i≤xs.length) (hu:R.O W base Fu u x) (hl:(lv u).length=size) (hd:∀b,F b→¬Fu b)
  (hr:W'.ownsRow base e size v' (xs.length+1) (cs.take (i*size)++lv u++cs.drop (i*size))) (hm:Mod (fun b=>v.ownBlock=some b) W W') (hv:∀b,v'.ownBlock=some b→v.ownBlock=some b∨W.heap.size≤b) :
  ∃F',NO R e size lv W' base F' v' (xs.take i++[x]++xs.drop i)∧∀b,F' b→F b∨Fu b∨W.heap.size≤b:=by
 have hp:=h.ins hi hu hl (fun j hj b hb=>hd b ((hF b).2 (.inr ⟨j,hj,hb⟩))) (fun b hb e=>hd b ((hF b).2 (.inl e)) hb) hr hm hv;have hlen:(xs.take i++[x]++xs.drop i).length=xs.length+1:=by simp only[List.length_append,List.length_take,List.length_drop,List.length_cons,List.length_nil];omega
 refine⟨fun b=>v'.ownBlock=some b∨∃k,k<xs.length+1∧insF fs i Fu k b,⟨cs.take (i*size)++lv u++cs.drop (i*size),insF us i u,insF fs i Fu,?_,fun b=>by rw[hlen]⟩,fun b hb=>?_⟩
 ·rw[hlen];exact hp.cast (fun k hk=>fT2 xs x i k hi)
 rcases hb with hb|⟨k,hk,hb⟩
 ·
  rcases hv b hb with h1|h1
  ·exact .inl ((hF b).2 (.inl h1))
  exact .inr (.inr h1)
 rcases Nat.lt_trichotomy k i with h1|h1|h1
 ·rw[vM _ _ h1] at hb;exact .inl ((hF b).2 (.inr ⟨k,by omega,hb⟩))
 ·subst h1;rw[vK] at hb;exact .inr (.inl hb)
 rw[vL _ _ h1] at hb;exact .inl ((hF b).2 (.inr ⟨k-1,by omega,hb⟩))
theorem PO.putN {α:Type} {R:Rep α} {e size:Nat} {lv:Value→List Value} {W W':World} {base:Nat} {v:Value} {n i:Nat} {d:Nat→α} {cs cs':List Value} {us:Nat→Value} {fs:Nat→Nat→Prop} {u:Value} {x:α} {Fu:Nat→Prop}
  (h:PO R e size lv W base v n n d cs us fs) (hi:i<n) (hu:R.O W base Fu u x) (hl:(lv u).length=size) (hd:∀j,j<n→∀b,fs j b→¬Fu b) (hvu:∀b,Fu b→v.ownBlock≠some b)
  (hr:W'.ownsRow base e size v n cs') (hm:Mod (fun b=>v.ownBlock=some b) W W') (hold:∀j,j<n→j≠i→∀o,o<size→cs'[j*size+o]? = cs[j*size+o]?) (hnew:∀o,o<size→cs'[i*size+o]? = (lv u)[o]?) :
  PO R e size lv W' base v n n (upd d i x) cs' (upd us i u) (upd fs i Fu):=by
 refine⟨hr,fun j hj=>?_,fun j hj=>?_,fun j hj o ho=>?_,fun j hj b hb=>?_,fun j k hj hk hjk b h1 h2=>?_⟩
 ·
  by_cases e1:j=i
  ·subst e1;rw[mX,mX,mX];exact R.mod hu hm (fun b hb=>hvu b hb)
  rw[upd_ne _ _ e1,upd_ne _ _ e1,upd_ne _ _ e1];exact R.mod (h.el j hj) hm (fun b hb=>h.out j hj b hb)
 ·
  by_cases e1:j=i
  ·subst e1;rw[mX];exact hl
  rw[upd_ne _ _ e1];exact h.ln j hj
 ·
  by_cases e1:j=i
  ·subst e1;rw[mX];exact hnew o ho
  rw[upd_ne _ _ e1,hold j hj e1 o ho];exact h.cell j hj o ho
 ·
  by_cases e1:j=i
  ·subst e1;rw[mX] at hb;exact hvu b hb
  rw[upd_ne _ _ e1] at hb;exact h.out j hj b hb
 by_cases e1:j=i
 ·subst e1;rw[mX] at h1;rw[upd_ne _ _ (Ne.symm hjk)] at h2;exact hd k hk b h2 h1
 rw[upd_ne _ _ e1] at h1;by_cases e2:k=i
 ·subst e2;rw[mX] at h2;exact hd j hj b h1 h2
 rw[upd_ne _ _ e2] at h2;exact h.sep j k hj hk hjk b h1 h2
theorem fT3 {α:Type} [Inhabited α] (xs:List α) (x:α) (i k:Nat) (hi:i<xs.length):(xs.set i x).getD k default=upd (fun k=>xs.getD k default) i x k:=by
 simp only[List.getD_eq_getElem?_getD,List.getElem?_set];by_cases e:i=k
 ·subst e;rw[if_pos rfl,if_pos hi,mX];rfl
 rw[if_neg e,upd_ne _ _ (Ne.symm e)]
theorem NO.put {α:Type} [Inhabited α] {R:Rep α} {e size:Nat} {lv:Value→List Value} {W W':World} {base:Nat} {v:Value} {i:Nat} {xs:List α} {cs cs':List Value} {us:Nat→Value} {fs:Nat→Nat→Prop} {u:Value} {x:α} {F Fu:Nat→Prop}
  (h:PO R e size lv W base v xs.length xs.length (fun i=>xs.getD i default) cs us fs) (hF:∀b,F b↔(v.ownBlock=some b∨∃i,i<xs.length∧fs i b)) (hi:i<xs.length) (hu:R.O W base Fu u x) (hl:(lv u).length=size) (hd:∀b,F b→¬Fu b)
  (hr:W'.ownsRow base e size v xs.length cs') (hm:Mod (fun b=>v.ownBlock=some b) W W') (hold:∀j,j<xs.length→j≠i→∀o,o<size→cs'[j*size+o]? = cs[j*size+o]?) (hnew:∀o,o<size→cs'[i*size+o]? = (lv u)[o]?) :
  ∃F',NO R e size lv W' base F' v (xs.set i x)∧∀b,F' b→F b∨Fu b:=by
 have hp:=h.putN hi hu hl (fun j hj b hb=>hd b ((hF b).2 (.inr ⟨j,hj,hb⟩))) (fun b hb e=>hd b ((hF b).2 (.inl e)) hb) hr hm hold hnew;have hlen:(xs.set i x).length=xs.length:=by simp
 refine⟨fun b=>v.ownBlock=some b∨∃k,k<xs.length∧upd fs i Fu k b,⟨cs',upd us i u,upd fs i Fu,?_,fun b=>by rw[hlen]⟩,fun b hb=>?_⟩
 ·rw[hlen];exact hp.cast (fun k hk=>fT3 xs x i k hi)
 rcases hb with hb|⟨k,hk,hb⟩
 ·exact .inl ((hF b).2 (.inl hb))
 by_cases e1:k=i
 ·subst e1;rw[mX] at hb;exact .inr hb
 rw[upd_ne _ _ e1] at hb;exact .inl ((hF b).2 (.inr ⟨k,hk,hb⟩))
theorem fVa (w:World) {α:Type} [Inhabited α] {R:Rep α} {lv:Value→List Value} (t ty e:TypeId) (i:TypeInfo) (z:Value) (size bytes:Nat) (ht:Tryz.prog.underlying t=some (.slice e)) (hi:Tryz.prog.info? e=some i) (hz:i.zero=some z)
  (hsize:i.size=size) (hby:i.bytes=bytes) (hzs:z.cells.size=size) (hsz:0<size) (hb1:bytes≤1000)
  (base:Nat) {F Fu:Nat→Prop} (v u:Value) (xs:List α) (x:α) (hown:NO R e size lv w base F v xs) (hu:R.O w base Fu u x) (hl:(lv u).length=size) (h1:∀y ∈ lv u,y.oneCell'=true) (hd:∀b,F b→¬Fu b)
  (ad:Addr) (c:Nat) (hc:∀j y,(lv u)[j]? = some y→w.cell? (ad.add j)=some y) (hn:xs.length≤2000000) (hbase:base≤w.heap.size) :
  ∃v' w' F',(Builtin.append_ #[t,t] ty #[v,.slice (some ad) 1 c]).run Tryz.prog w =.ok v' w'∧NO R e size lv w' base F' v' (xs++[x])∧w.grownBy w' v.ownBlock∧(∀b,F' b→F b∨Fu b∨w.heap.size≤b):=by
 obtain⟨cs,us,fs,hp,hF⟩:=hown;obtain⟨v',w',hr,h2,h3,h4,h5⟩:=run_append_own_at (P:=Tryz.prog) w base t ty e i z size bytes ht hi hz hsize hby hzs hsz v xs.length cs hp.row ad 1 c (lv u) oM hc h1 (by unfold maxLen;omega) (Nat.le_trans (Nat.mul_le_mul_left _ hb1) oM) hbase;have hcl:cs.length=xs.length*size:=hp.row.1;have e1:cs.take (xs.length*size)++lv u++cs.drop (xs.length*size)=cs++lv u:=by
  rw[List.take_of_length_le oM,List.drop_of_length_le oM,List.append_nil]
 obtain⟨F',h6,h7⟩:=NO.ins hp hF (Nat.le_refl _) hu hl hd (by rw[e1];exact h2) (Mod.of_grown h3) (fun b hb=>by
  rcases h5 with h5|h5
  ·exact .inl (h5▸hb)
  rw[h5] at hb;simp only[Option.some.injEq] at hb;exact .inr oM)
 rw[List.take_of_length_le (Nat.le_refl _),List.drop_of_length_le (Nat.le_refl _),List.append_nil] at h6;exact⟨v',w',F',hr,h6,h3,h7⟩
theorem fVv {w:World} {ops:Array Oper} {rest:List Oper} {o:Oper} {a:Act} {Q:Exit→Act→World→Prop} (hgd:o.guard=none) (s x:Operand) (t t':TypeId)
  (ho:o.op =.call {callee:=.builtin .append,args:=#[s,x],argTypes:=#[t,t']}) (v u:Value) (hs:a.eval s=v) (hx:a.eval x=u) {v':Value} {w':World}
  (hr:(Builtin.append_ #[t,t'] o.type #[v,u]).run Tryz.prog w =.ok v' w') (h:wpList Tryz.prog ops Q rest (a.put o.dst v') w'):wpList Tryz.prog ops Q (o::rest) a w:=by
 refine wpList_plain hgd fun K hK=>?_
 unfold Oper.wp execOp;simp only[ho,resolve,invoke,builtin,Sem.run_bind,Sem.run_pure,Result.andThen_ok,List.map_toArray,List.map_cons,List.map_nil,hs,hx,hr];exact hK _ _ h
theorem fVu (w:World) {α:Type} [Inhabited α] {R:Rep α} {lv:Value→List Value} {ops:Array Oper} {rest:List Oper} {o:Oper} {a:Act} {Q:Exit→Act→World→Prop} (hgd:o.guard=none) (s x:Operand) (t:TypeId)
  (ho:o.op =.call {callee:=.builtin .append,args:=#[s,x],argTypes:=#[t,t]}) (e:TypeId) (i:TypeInfo) (z:Value) (size bytes:Nat) (ht:Tryz.prog.underlying t=some (.slice e)) (hi:Tryz.prog.info? e=some i) (hz:i.zero=some z)
  (hsize:i.size=size) (hby:i.bytes=bytes) (hzs:z.cells.size=size) (hsz:0<size) (hb1:bytes≤1000)
  (base:Nat) (F Fu:Nat→Prop) (v u:Value) (xs:List α) (y:α) (ad:Addr) (c:Nat) (hs:a.eval s=v) (hx:a.eval x =.slice (some ad) 1 c) (hown:NO R e size lv w base F v xs) (hu:R.O w base Fu u y) (hl:(lv u).length=size) (h1:∀y ∈ lv u,y.oneCell'=true) (hd:∀b,F b→¬Fu b)
  (hc:∀j y,(lv u)[j]? = some y→w.cell? (ad.add j)=some y) (hn:xs.length≤2000000) (hbase:base≤w.heap.size)
  (h:∀v' w' F',NO R e size lv w' base F' v' (xs++[y])→Below base w w'→(∀b,F' b→F b∨Fu b∨w.heap.size≤b)→wpList Tryz.prog ops Q rest (a.put o.dst v') w'):wpList Tryz.prog ops Q (o::rest) a w:=by
 obtain⟨v',w',F',hr,h2,h3,h4⟩:=fVa w t o.type e i z size bytes ht hi hz hsize hby hzs hsz hb1 base v u xs y hown hu hl h1 hd ad c hc hn hbase;obtain⟨cs,us,fs,hp,hF⟩:=hown;exact fVv hgd s x t t ho v _ hs hx hr (h v' w' F' h2 ((Below.refl base w).grown h3 hbase (fun b e=>(hp.row.lt b e).1)) h4)
end
section
open Go.Shelf
variable [dQ Vot] [iH Vot] [dQ Slt] [iH Slt] [dQ Bal] [iH Bal] [dQ Ledg] [iH Ledg] [dQ Leg] [iH Leg]
theorem xQ {w:World} {base:Nat} {F:Nat→Prop} {u:Value} {x:Slt} (h:sltR.O w base F u x):∃a c,u =.agg #[.int .i64 x.con,.int .i64 x.sh,.int .i64 x.pr,.int .i64 x.lb,.int .i64 x.lv,.slice a x.cast.length c]∧uU u=[.int .i64 x.con,.int .i64 x.sh,.int .i64 x.pr,.int .i64 x.lb,.int .i64 x.lv,.slice a x.cast.length c]:=by
 obtain⟨u1,F1,rfl,h1,_⟩:=h;obtain⟨a,c,rfl⟩:=gF h1.1;exact⟨a,c,rfl,rfl⟩
theorem fVg {w:World} {base:Nat} {F:Nat→Prop} {u:Value} {x:Slt} (h:sltR.O w base F u x):(uU u).length=6∧∀y ∈ uU u,y.oneCell'=true:=by
 obtain⟨a,c,rfl,e⟩:=xQ h;rw[e];refine⟨rfl,fun y hy=>?_⟩;simp at hy;rcases hy with rfl|rfl|rfl|rfl|rfl|rfl <;> rfl
end
section
variable [dQ Vot] [iH Vot] [dQ Slt] [iH Slt] [dQ SltR] [iH SltR] [dQ Bal] [iH Bal] [dQ Ledg] [iH Ledg] [dQ Leg] [iH Leg] [dQ Acc] [iH Acc] [dQ AccR] [iH AccR] [dQ AccsR] [iH AccsR] [dQ SltsR] [iH SltsR]
def NewE (c s:Int) (W:World) (e:Ending) (w':World):Prop:=
 ∃p q F,e =.returned (.agg #[.int .i64 0,.int .i64 0,.int .i64 0,.int .i64 c,.int .i64 s,.int .i64 (-1),.int .i64 (-1),.int .i64 0,.slice p 0 q])∧sltR.O w' W.heap.size F (.agg #[.int .i64 c,.int .i64 s,.int .i64 (-1),.int .i64 (-1),.int .i64 0,.slice p 0 q]) (freS c s)∧Below W.heap.size W w'
theorem fJj (a b c d e f g h:Int) (p:Option Addr) (n q:Nat) (w:World):(Instr.field 221 (.agg #[.int .i64 a,.int .i64 b,.int .i64 c,.int .i64 d,.int .i64 e,.int .i64 f,.int .i64 g,.int .i64 h,.slice p n q]) 2).run Tryz.prog w =.ok (.agg #[.int .i64 d,.int .i64 e,.int .i64 f,.int .i64 g,.int .i64 h,.slice p n q]) w:=kF
theorem fSa {c s:Int} {W:World} {e:Ending} {w':World} (h:∃v F,e =.returned v∧sltRR.O w' W.heap.size F v ⟨0,0,0,freS c s⟩∧Below W.heap.size W w'):NewE c s W e w':=by
 obtain⟨v,F,rfl,h,hb⟩:=h;obtain⟨u,F1,rfl,h1,_⟩:=h;obtain⟨p,q,e,_⟩:=xQ h1;simp only[freS,Value.agg.injEq,Array.mk.injEq,List.cons.injEq,and_true,true_and,List.length_nil] at e;subst e;exact⟨p,q,F1,rfl,h1,hb⟩
theorem fQf (c s:Int) (W:World) (h:idOk c s=true):Calls Tryz.prog 136 #[.int .i64 c,.int .i64 s] W (NewE c s W):=by
 refine(fQe c s W).mono ?_;intro e w' h1;rw[fJd h] at h1;exact fSa h1
theorem fEz (c s:Int) (W:World) (h:idOk c s=true):Calls Tryz.prog 162 #[.int .i64 c,.int .i64 s] W (NewE c s W):=by
 refine(fPh c s W).mono ?_;intro e w' h1;rw[fJd h] at h1;exact fSa h1
def NewB (W:World) (e:Ending) (w':World):Prop:=
 e =.returned (.agg #[.int .i64 3,.int .i64 0,.int .i64 0,.int .i64 0,.int .i64 0,.int .i64 0,.int .i64 0,.int .i64 0,.slice none 0 0])∧Below W.heap.size W w'
theorem fLd (c s:Int) (W:World) (h:idOk c s=false):Calls Tryz.prog 162 #[.int .i64 c,.int .i64 s] W (NewB W):=by
 unfold idOk at h;cases h1:inB c 1 1000000000
 ·go_enter Tryz.func162,Tryz.ntmps162;go_wp2_with (first|(go_at_call 237;refine(kE _ _).mono ?_;rintro e w' ⟨rfl,rfl⟩;rw[h1])|(go_at_call 238;refine(kL _ _).mono ?_;rintro e w' ⟨rfl,rfl⟩));exact bodyPost_ret (v:=.agg #[.int .i64 3,.int .i64 0,.int .i64 0,.int .i64 0,.int .i64 0,.int .i64 0,.int .i64 0,.int .i64 0,.slice none 0 0]) (by simp[results,Tryz.results162,go_sem]) rfl ⟨rfl,qBq⟩
 rw[h1,Bool.true_and] at h;go_enter Tryz.func162,Tryz.ntmps162;go_wp2_with (first|(go_at_call 237;refine(kE _ _).mono ?_;rintro e w' ⟨rfl,rfl⟩;rw[h1])|(go_at_call 238;refine(kL _ _).mono ?_;rintro e w' ⟨rfl,rfl⟩;rw[h]));exact bodyPost_ret (v:=.agg #[.int .i64 3,.int .i64 0,.int .i64 0,.int .i64 0,.int .i64 0,.int .i64 0,.int .i64 0,.int .i64 0,.slice none 0 0]) (by simp[results,Tryz.results162,go_sem]) rfl ⟨rfl,qBq⟩
theorem fFm {w:World} {x:Value} {l:List Acc} (hx:accsR.V w x l):∃a c,x =.slice a l.length c∧l.length≤c∧c≤maxLen∧∀k,k<l.length→∃b o p q,a=some ⟨b,o,none⟩∧w.cell? ⟨b,o+k,none⟩=some (.slice p (l.getD k default).slots.length q)∧accR.V w (.agg #[.slice p (l.getD k default).slots.length q]) (l.getD k default):=by
 obtain⟨a,c,rfl,h1,h2,h3⟩:=hx;refine⟨a,c,rfl,h1,h2,fun k hk=>?_⟩;obtain⟨b,o,u,e,_,hc,hv⟩:=h3 k hk;have hV:=hv;obtain⟨u1,rfl,hs⟩:=hv;obtain⟨p,q,rfl⟩:=pX hs;have h0:=hc 0 oM;exact⟨b,o,p,q,e,by simpa [fWr,one] using h0,hV⟩
theorem zW (x:Value) (l:List Acc) (w:World) (hx:accsR.V w x l) :
  RI 158 #[x] w (.int .i64 (mO l)):=by
 obtain⟨a,c,rfl,hcx,hmx,hx⟩:=fFm hx;unfold maxLen at hmx;have hXs:Hid (∀k,k<l.length→∃b o p q,a=some ⟨b,o,none⟩∧w.cell? ⟨b,o+k,none⟩=some (.slice p (l.getD k default).slots.length q)∧accR.V w (.agg #[.slice p (l.getD k default).slots.length q]) (l.getD k default)):=hx;clear hx;have H1:Hid ((l.length<1∨5<l.length)→mO l=2):=fun h=>fPy h
 have H2:Hid (¬(l.length<1∨5<l.length)→fC (fun k=>accF (l.getD k default).slots) l.length=0→mO l=0):=fun h h'=>fR7 h h'
 have H3:Hid (∀k c,¬(l.length<1∨5<l.length)→k<l.length→fC (fun k=>accF (l.getD k default).slots) k=0→accF (l.getD k default).slots=c→¬c=0→mO l=c):=fun k c h hk hs hc h0=>fR8 h hk hs hc h0
 generalize mO l=R at *;generalize hn:l.length=n at *;clear hn;by_cases h1:n<1
 ·have HC:Hid (R=2):=H1.out (.inl h1);have h1':(n:Int)<1:=oM;clear H1 H2 H3 hXs;go_enter Tryz.func158,Tryz.ntmps158;go_wp2;go_ret;exact⟨rH,qBq⟩
 by_cases h5:5<n
 ·have HC:Hid (R=2):=H1.out (.inr h5);have h1':¬(n:Int)<1:=oM;have h5':(5:Int)<n:=oM;clear H1 H2 H3 hXs;go_enter Tryz.func158,Tryz.ntmps158;go_wp2;go_ret;exact⟨rH,qBq⟩
 have HNo:Hid (¬(n<1∨5<n)):=by show ¬_;omega
 have h1':¬(n:Int)<1:=oM;have h5':¬(5:Int)<n:=oM;clear H1;go_enter Tryz.func158,Tryz.ntmps158;go_wp2;go_loopw [16] (fun i w'=>∃k:Nat,k≤n∧i =.int .i64 k∧Hid (fC (fun k=>accF (l.getD k default).slots) k=0)∧Below w.heap.size w w') (fun i _=>n-(intOf i).toNat)
 case atStart=>exact⟨0,oM,rfl,rfl,bR _ _⟩
 obtain⟨k,hk,rfl,HS,hbl⟩:=hrel;by_cases hlt:k<n
 ·
  obtain⟨b,o,p,q,rfl,hc,hV⟩:=hXs.out k hlt;have HF:Hid (bW w fun W=>RI 148 #[.agg #[.slice p (l.getD k default).slots.length q]] W (.int .i64 (accF (l.getD k default).slots))):=fun W hW=>fBk _ _ W (accR.below hV hW)
  have HH:Hid (¬accF (l.getD k default).slots=0→R=accF (l.getD k default).slots):=fun h=>H3.out k _ HNo.out hlt HS.out rfl h
  have HZ:Hid (accF (l.getD k default).slots=0→fC (fun k=>accF (l.getD k default).slots) (k+1)=0):=fun h=>fE (f:=fun k=>accF (l.getD k default).slots) HS.out h
  replace hc:=cK hbl hc;clear hV;generalize (l.getD k default).slots.length=m at *;generalize accF (l.getD k default).slots=g at *;go_wp2_with fail;refine(HF.out _ qBq).mono ?_;rintro e w1 ⟨rfl,hb1⟩;have hB1:=bT w hb1;clear hb1 hc HF;by_cases hg:g=0
  ·have HZ2:Hid _:=HZ.out hg;subst hg;clear HH HZ;go_wp2;exact⟨⟨k+1,by omega,by go_num,HZ2,hB1⟩,mI⟩
  have HC:Hid _:=HH.out hg;have hg':(g !=0)=true:=by simp[hg]
  clear HH HZ;go_wp2;go_ret;exact⟨rH,hB1⟩
 have hkn:k=n:=oM;subst hkn;have HC:Hid (R=0):=H2.out HNo.out HS.out;go_wp2;go_ret;exact⟨rH,hbl⟩
def freC (l:List Acc) (c s:Int):Int:=if mO l=0 then (if idOk c s=true then 0 else 3) else mO l
def FreE (l:List Acc) (c s:Int) (W:World) (e:Ending) (w':World):Prop:=
 (freC l c s=0→NewE c s W e w')∧(¬freC l c s=0→e =.returned (.agg #[.int .i64 (freC l c s),.int .i64 0,.int .i64 0,.int .i64 0,.int .i64 0,.int .i64 0,.int .i64 0,.int .i64 0,.slice none 0 0])∧Below W.heap.size W w')
theorem fK6 {l:List Acc} {c s:Int} (h:freC l c s=0):mO l=0∧idOk c s=true:=by
 unfold freC at h;by_cases h1:mO l=0
 ·
  rw[if_pos h1] at h;refine⟨h1,?_⟩;cases h2:idOk c s with
  | true=>rfl
  | false=>rw[h2] at h;simp at h
 rw[if_neg h1] at h;exact absurd h h1
theorem fPb (x:Value) (l:List Acc) (c s:Int) (w:World) (hx:accsR.V w x l) :
  Calls Tryz.prog 164 #[x,.int .i64 c,.int .i64 s] w (FreE l c s w):=by
 have HL:Hid (bW w fun W=>RI 158 #[x] W (.int .i64 (mO l))):=fun W hW=>zW x l W (accsR.below hx hW)
 obtain⟨a,cc,rfl⟩:=qP hx;clear hx;generalize l.length=n at *;by_cases hf:mO l=0
 ·
  cases hid:idOk c s
  ·
   have HC:Hid (freC l c s=3):=by show _=_;unfold freC;rw[if_pos hf,hid];rfl
   have HNw:Hid (∀W,Calls Tryz.prog 162 #[.int .i64 c,.int .i64 s] W (NewB W)):=fun W=>fLd c s W hid
   rw[hf] at HL;go_enter Tryz.func164,Tryz.ntmps164;go_wp2_with fail;refine(HL.out _ qBq).mono ?_;rintro e w1 ⟨rfl,hb1⟩;have hB1:Below w.heap.size w w1:=qBq;have hz1:=hb1.size;simp at hz1;obtain⟨c1,f1⟩:=bcell hb1;have r0:w1.cell? ⟨w.heap.size,0,none⟩=some (.int .i64 0):=cK hb1 sG;have r1:w1.cell? ⟨w.heap.size,1,none⟩=some (.int .i64 0):=cK hb1 sG;have r2:w1.cell? ⟨w.heap.size,2,none⟩=some (.int .i64 0):=cK hb1 sG;have r3:w1.cell? ⟨w.heap.size,3,none⟩=some (.int .i64 0):=cK hb1 sG;have r4:w1.cell? ⟨w.heap.size,4,none⟩=some (.int .i64 0):=cK hb1 sG;have r5:w1.cell? ⟨w.heap.size,5,none⟩=some (.int .i64 0):=cK hb1 sG;have r6:w1.cell? ⟨w.heap.size,6,none⟩=some (.int .i64 0):=cK hb1 sG;have r7:w1.cell? ⟨w.heap.size,7,none⟩=some (.int .i64 0):=cK hb1 sG;have r8:w1.cell? ⟨w.heap.size,8,none⟩=some (.slice none 0 0):=cK hb1 sG;have rf:∀o,w1.frozen? ⟨w.heap.size,o,none⟩=false:=fun o=>by rw[f1 _ _ (by simp;try omega)];simp[go_sem]
   clear hb1 c1 f1;go_wp2_with fail;refine(HNw.out _).mono ?_;rintro e w2 ⟨rfl,hb2⟩;have hB2:Below w.heap.size w w2:=bS hB1 hb2;replace r0:=cK hb2 r0;replace r1:=cK hb2 r1;replace r2:=cK hb2 r2;replace r3:=cK hb2 r3;replace r4:=cK hb2 r4;replace r5:=cK hb2 r5;replace r6:=cK hb2 r6;replace r7:=cK hb2 r7;replace r8:=cK hb2 r8;replace rf:∀o,w2.frozen? ⟨w.heap.size,o,none⟩=false:=fun o=>by rw[(bcell hb2).2 _ _ oM];exact rf o
   clear hb2;go_wp2;refine bodyPost_ret (v:=.agg #[.int .i64 3,.int .i64 0,.int .i64 0,.int .i64 0,.int .i64 0,.int .i64 0,.int .i64 0,.int .i64 0,.slice none 0 0]) (by simp[results,Tryz.results164,go_sem,r0,r1,r2,r3,r4,r5,r6,r7,r8,rf]) rfl ⟨fun h=>by rw[HC.out] at h;omega,fun _=>⟨by rw[HC.out],qS⟩⟩
  have HC:Hid (freC l c s=0):=by show _=_;unfold freC;rw[if_pos hf,hid];rfl
  have HNw:Hid (∀W,Calls Tryz.prog 162 #[.int .i64 c,.int .i64 s] W (NewE c s W)):=fun W=>fEz c s W hid
  rw[hf] at HL;go_enter Tryz.func164,Tryz.ntmps164;go_wp2_with fail;refine(HL.out _ qBq).mono ?_;rintro e w1 ⟨rfl,hb1⟩;have hB1:Below w.heap.size w w1:=qBq;have hz1:=hb1.size;simp at hz1;obtain⟨c1,f1⟩:=bcell hb1;have r0:w1.cell? ⟨w.heap.size,0,none⟩=some (.int .i64 0):=cK hb1 sG;have r1:w1.cell? ⟨w.heap.size,1,none⟩=some (.int .i64 0):=cK hb1 sG;have r2:w1.cell? ⟨w.heap.size,2,none⟩=some (.int .i64 0):=cK hb1 sG;have r3:w1.cell? ⟨w.heap.size,3,none⟩=some (.int .i64 0):=cK hb1 sG;have r4:w1.cell? ⟨w.heap.size,4,none⟩=some (.int .i64 0):=cK hb1 sG;have r5:w1.cell? ⟨w.heap.size,5,none⟩=some (.int .i64 0):=cK hb1 sG;have r6:w1.cell? ⟨w.heap.size,6,none⟩=some (.int .i64 0):=cK hb1 sG;have r7:w1.cell? ⟨w.heap.size,7,none⟩=some (.int .i64 0):=cK hb1 sG;have r8:w1.cell? ⟨w.heap.size,8,none⟩=some (.slice none 0 0):=cK hb1 sG;have rf:∀o,w1.frozen? ⟨w.heap.size,o,none⟩=false:=fun o=>by rw[f1 _ _ (by simp;try omega)];simp[go_sem]
  clear hb1 c1 f1;go_wp2_with fail;refine(HNw.out _).mono ?_;rintro e w2 ⟨p2,q2,F2,rfl,o2,hb2⟩;have hB2:Below w.heap.size w w2:=bS hB1 hb2;have hz2:=hb2.size;have HO:Hid (sltR.O w2 (w.heap.size+1) F2 (.agg #[.int .i64 c,.int .i64 s,.int .i64 (-1),.int .i64 (-1),.int .i64 0,.slice p2 0 q2]) (freS c s)):=sltR.base o2 oM;replace r0:=cK hb2 r0;replace r1:=cK hb2 r1;replace r2:=cK hb2 r2;replace r3:=cK hb2 r3;replace r4:=cK hb2 r4;replace r5:=cK hb2 r5;replace r6:=cK hb2 r6;replace r7:=cK hb2 r7;replace r8:=cK hb2 r8;replace rf:∀o,w2.frozen? ⟨w.heap.size,o,none⟩=false:=fun o=>by rw[(bcell hb2).2 _ _ oM];exact rf o
  clear hb2 o2;go_wp2;refine bodyPost_ret (v:=.agg #[.int .i64 0,.int .i64 0,.int .i64 0,.int .i64 c,.int .i64 s,.int .i64 (-1),.int .i64 (-1),.int .i64 0,.slice p2 0 q2]) (by simp[results,Tryz.results164,go_sem,r0,r1,r2,r3,r4,r5,r6,r7,r8,rf]) rfl ⟨fun _=>⟨p2,q2,F2,rfl,?_,qS⟩,fun h=>absurd HC.out h⟩;have hk:∀(W:World) (u:Value) (j:Nat),sltR.O W (w.heap.size+1) F2 (.agg #[.int .i64 c,.int .i64 s,.int .i64 (-1),.int .i64 (-1),.int .i64 0,.slice p2 0 q2]) (freS c s)→sltR.O (W.setCell ⟨w.heap.size,j,none⟩ u) (w.heap.size+1) F2 (.agg #[.int .i64 c,.int .i64 s,.int .i64 (-1),.int .i64 (-1),.int .i64 0,.slice p2 0 q2]) (freS c s):=fun W u j h=>Rep.set _ h u (by simp)
  exact sltR.base (hk _ _ _ (hk _ _ _ (hk _ _ _ (hk _ _ _ (hk _ _ _ (hk _ _ _ (hk _ _ _ (hk _ _ _ (hk _ _ _ HO.out))))))))) oM
 have HC:Hid (freC l c s=mO l):=by show _=_;unfold freC;rw[if_neg hf]
 generalize mO l=g at *;have hg':(g !=0)=true:=by simp[hf]
 go_enter Tryz.func164,Tryz.ntmps164;go_wp2_with fail;refine(HL.out _ qBq).mono ?_;rintro e w1 ⟨rfl,hb1⟩;have hB1:Below w.heap.size w w1:=qBq;have hz1:=hb1.size;simp at hz1;obtain⟨c1,f1⟩:=bcell hb1;have r0:w1.cell? ⟨w.heap.size,0,none⟩=some (.int .i64 0):=cK hb1 sG;have r1:w1.cell? ⟨w.heap.size,1,none⟩=some (.int .i64 0):=cK hb1 sG;have r2:w1.cell? ⟨w.heap.size,2,none⟩=some (.int .i64 0):=cK hb1 sG;have r3:w1.cell? ⟨w.heap.size,3,none⟩=some (.int .i64 0):=cK hb1 sG;have r4:w1.cell? ⟨w.heap.size,4,none⟩=some (.int .i64 0):=cK hb1 sG;have r5:w1.cell? ⟨w.heap.size,5,none⟩=some (.int .i64 0):=cK hb1 sG;have r6:w1.cell? ⟨w.heap.size,6,none⟩=some (.int .i64 0):=cK hb1 sG;have r7:w1.cell? ⟨w.heap.size,7,none⟩=some (.int .i64 0):=cK hb1 sG;have r8:w1.cell? ⟨w.heap.size,8,none⟩=some (.slice none 0 0):=cK hb1 sG;have rf:∀o,w1.frozen? ⟨w.heap.size,o,none⟩=false:=fun o=>by rw[f1 _ _ (by simp;try omega)];simp[go_sem]
 clear hb1 c1 f1;go_wp2;refine bodyPost_ret (v:=.agg #[.int .i64 g,.int .i64 0,.int .i64 0,.int .i64 0,.int .i64 0,.int .i64 0,.int .i64 0,.int .i64 0,.slice none 0 0]) (by simp[results,Tryz.results164,go_sem,r0,r1,r2,r3,r4,r5,r6,r7,r8,rf]) rfl ⟨fun h=>absurd (by rw[HC.out] at h;exact h) hf,fun _=>⟨by rw[HC.out],qS⟩⟩
end
section
variable [dQ Vot] [iH Vot] [dQ Slt] [iH Slt] [dQ Bal] [iH Bal] [dQ Ledg] [iH Ledg] [dQ Leg] [iH Leg] [dQ Acc] [iH Acc]
theorem fN9 (w:World) {ops:Array Oper} {rest:List Oper} {o:Oper} {a:Act} {Q:Exit→Act→World→Prop} (hgd:o.guard=none) (s x:Operand)
  (ho:o.op =.call {callee:=.builtin .append,args:=#[s,x],argTypes:=#[64,64]})
  (base:Nat) (F Fu:Nat→Prop) (v:Value) (xs:List Slt) (y:Slt) (g:Nat) (p:Option Addr) (q:Nat) (hs:a.eval s=v) (hx:a.eval x =.slice (some ⟨g,0,none⟩) 1 1) (hown:sltsR.O w base F v xs) (hu:sltR.O w base Fu (.agg #[.int .i64 y.con,.int .i64 y.sh,.int .i64 y.pr,.int .i64 y.lb,.int .i64 y.lv,.slice p y.cast.length q]) y) (hd:∀b,F b→¬Fu b)
  (hc:w.cell? ⟨g,0,none⟩=some (.int .i64 y.con)∧w.cell? ⟨g,0+1,none⟩=some (.int .i64 y.sh)∧w.cell? ⟨g,0+2,none⟩=some (.int .i64 y.pr)∧w.cell? ⟨g,0+3,none⟩=some (.int .i64 y.lb)∧w.cell? ⟨g,0+4,none⟩=some (.int .i64 y.lv)∧w.cell? ⟨g,0+5,none⟩=some (.slice p y.cast.length q)) (hn:xs.length≤2000000) (hbase:base≤w.heap.size)
  (h:∀v' w' F',sltsR.O w' base F' v' (xs++[y])→Below base w w'→(∀b,F' b→F b∨Fu b∨w.heap.size≤b)→wpList Tryz.prog ops Q rest (a.put o.dst v') w'):wpList Tryz.prog ops Q (o::rest) a w:=by
 obtain⟨i0,hi,hz0,hz1,hz2⟩:=info_parts fNh;obtain⟨h6,h1⟩:=fVg hu;exact fVu w hgd s x 64 ho 136 i0 _ 6 64 Tryz.underlying64 hi hz0 hz1 hz2 rfl (by decide) (by decide) base F Fu v _ xs y ⟨g,0,none⟩ 1 hs hx hown hu h6 h1 hd (fun j y' hj=>by
  match j,hj with
  | 0,hj=>simp[uU,one] at hj;subst hj;simpa [Addr.add] using hc.1
  | 1,hj=>simp[uU,one] at hj;subst hj;simpa [Addr.add] using hc.2.1
  | 2,hj=>simp[uU,one] at hj;subst hj;simpa [Addr.add] using hc.2.2.1
  | 3,hj=>simp[uU,one] at hj;subst hj;simpa [Addr.add] using hc.2.2.2.1
  | 4,hj=>simp[uU,one] at hj;subst hj;simpa [Addr.add] using hc.2.2.2.2.1
  | 5,hj=>simp[uU,one] at hj;subst hj;simpa [Addr.add] using hc.2.2.2.2.2
  | j+6,hj=>simp[uU,one] at hj) hn hbase h
end
section
variable [dQ Vot] [iH Vot] [dQ Slt] [iH Slt] [dQ SltR] [iH SltR] [dQ Bal] [iH Bal] [dQ Ledg] [iH Ledg] [dQ Leg] [iH Leg] [dQ Acc] [iH Acc] [dQ AccR] [iH AccR] [dQ AccsR] [iH AccsR] [dQ SltsR] [iH SltsR]
theorem yG {w w':World} {b o b' o':Nat} {x y:Slt} {u v:Value} (hb:Below w.heap.size w w') (h:w.cell? ⟨b,o,none⟩=some (.int .i64 x.con)∧w.cell? ⟨b,o+1,none⟩=some (.int .i64 x.sh)∧w.cell? ⟨b,o+2,none⟩=some (.int .i64 x.pr)∧w.cell? ⟨b,o+3,none⟩=some (.int .i64 x.lb)∧w.cell? ⟨b,o+4,none⟩=some (.int .i64 x.lv)∧w.cell? ⟨b,o+5,none⟩=some (u)) (h':w.cell? ⟨b',o',none⟩=some (.int .i64 y.con)∧w.cell? ⟨b',o'+1,none⟩=some (.int .i64 y.sh)∧w.cell? ⟨b',o'+2,none⟩=some (.int .i64 y.pr)∧w.cell? ⟨b',o'+3,none⟩=some (.int .i64 y.lb)∧w.cell? ⟨b',o'+4,none⟩=some (.int .i64 y.lv)∧w.cell? ⟨b',o'+5,none⟩=some (v)) :
  Below w.heap.size w w'∧(w'.cell? ⟨b,o,none⟩=some (.int .i64 x.con)∧w'.cell? ⟨b,o+1,none⟩=some (.int .i64 x.sh)∧w'.cell? ⟨b,o+2,none⟩=some (.int .i64 x.pr)∧w'.cell? ⟨b,o+3,none⟩=some (.int .i64 x.lb)∧w'.cell? ⟨b,o+4,none⟩=some (.int .i64 x.lv)∧w'.cell? ⟨b,o+5,none⟩=some (u))∧(w'.cell? ⟨b',o',none⟩=some (.int .i64 y.con)∧w'.cell? ⟨b',o'+1,none⟩=some (.int .i64 y.sh)∧w'.cell? ⟨b',o'+2,none⟩=some (.int .i64 y.pr)∧w'.cell? ⟨b',o'+3,none⟩=some (.int .i64 y.lb)∧w'.cell? ⟨b',o'+4,none⟩=some (.int .i64 y.lv)∧w'.cell? ⟨b',o'+5,none⟩=some (v)):=
 ⟨hb,⟨cK hb h.1,cK hb h.2.1,cK hb h.2.2.1,cK hb h.2.2.2.1,cK hb h.2.2.2.2.1,cK hb h.2.2.2.2.2⟩,⟨cK hb h'.1,cK hb h'.2.1,cK hb h'.2.2.1,cK hb h'.2.2.2.1,cK hb h'.2.2.2.2.1,cK hb h'.2.2.2.2.2⟩⟩
theorem fL8 {w:World} {a:Option Addr} {xs:List Slt} {n k:Nat} (hx:∀i,i<n→∃b o u,a=some ⟨b,o,none⟩∧(uU u).length=6∧(∀j,j<6→w.cell? ⟨b,o+i*6+j,none⟩=(uU u)[j]?)∧sltR.V w u (xs.getD i default)) (hk:k<n) :
  ∃b o p q,a=some ⟨b,o,none⟩∧(w.cell? ⟨b,o+k*6,none⟩=some (.int .i64 (xs.getD k default).con)∧w.cell? ⟨b,o+k*6+1,none⟩=some (.int .i64 (xs.getD k default).sh)∧w.cell? ⟨b,o+k*6+2,none⟩=some (.int .i64 (xs.getD k default).pr)∧w.cell? ⟨b,o+k*6+3,none⟩=some (.int .i64 (xs.getD k default).lb)∧w.cell? ⟨b,o+k*6+4,none⟩=some (.int .i64 (xs.getD k default).lv)∧w.cell? ⟨b,o+k*6+5,none⟩=some (.slice p (xs.getD k default).cast.length q))∧sltR.V w (.agg #[.int .i64 (xs.getD k default).con,.int .i64 (xs.getD k default).sh,.int .i64 (xs.getD k default).pr,.int .i64 (xs.getD k default).lb,.int .i64 (xs.getD k default).lv,.slice p (xs.getD k default).cast.length q]) (xs.getD k default):=by
 obtain⟨b,o,u,e,_,p,hv⟩:=hx k hk;have hV:=hv;obtain⟨s,rfl,hc⟩:=hv;obtain⟨au,cu,rfl⟩:=gJ hc;exact⟨b,o,au,cu,e,⟨p 0 oM,p 1 oM,p 2 oM,p 3 oM,p 4 oM,p 5 oM⟩,hV⟩
theorem fWc (x:Value) (xs:List Slt) (q:Slt) (uq:Value) (w:World) (hx:sltsR.V w x xs) (hn:xs.length≤1048576)
  (hmono:∀a b,a≤b→b<xs.length→cmpS (xs.getD b default) q<0→cmpS (xs.getD a default) q<0) :
  Calls Tryz.prog 291 #[x,.agg #[.int .i64 q.con,.int .i64 q.sh,.int .i64 q.pr,.int .i64 q.lb,.int .i64 q.lv,uq],.func (.func 219) #[] #[]] w fun e w'=>∃i:Nat,i≤xs.length∧e =.returned (.tuple #[.int .i64 i,.bool (decide (i<xs.length∧cmpS (xs.getD i default) q=0))]) ∧
   (∀k,k<i→cmpS (xs.getD k default) q<0)∧(∀k,i≤k→k<xs.length→0≤cmpS (xs.getD k default) q)∧Below w.heap.size w w':=by
 obtain⟨ax,cx,rfl,hcx,hmx,hx⟩:=hx;unfold maxLen at hmx;have HMO:Hid (∀a b,a≤b→b<xs.length→cmpS (xs.getD b default) q<0→cmpS (xs.getD a default) q<0):=hmono;clear hmono;have hX:Hid (∀k,k<xs.length→∃b o p q,ax=some ⟨b,o,none⟩∧(w.cell? ⟨b,o+k*6,none⟩=some (.int .i64 (xs.getD k default).con)∧w.cell? ⟨b,o+k*6+1,none⟩=some (.int .i64 (xs.getD k default).sh)∧w.cell? ⟨b,o+k*6+2,none⟩=some (.int .i64 (xs.getD k default).pr)∧w.cell? ⟨b,o+k*6+3,none⟩=some (.int .i64 (xs.getD k default).lb)∧w.cell? ⟨b,o+k*6+4,none⟩=some (.int .i64 (xs.getD k default).lv)∧w.cell? ⟨b,o+k*6+5,none⟩=some (.slice p (xs.getD k default).cast.length q))∧sltR.V w (.agg #[.int .i64 (xs.getD k default).con,.int .i64 (xs.getD k default).sh,.int .i64 (xs.getD k default).pr,.int .i64 (xs.getD k default).lb,.int .i64 (xs.getD k default).lv,.slice p (xs.getD k default).cast.length q]) (xs.getD k default)):=fun k hk=>fL8 hx hk
 clear hx;generalize hN:xs.length=n at *;clear hN;have eg:=enters_of Tryz.func219 kF rfl;go_enter Tryz.func291,Tryz.ntmps291;go_wp2;go_loopw [9,10] (fun a b W=>∃i j:Nat,i≤j∧j≤n∧a =.int .i64 i∧b =.int .i64 j∧Hid (∀k,k<i→cmpS (xs.getD k default) q<0)∧Hid (∀k,j≤k→k<n→0≤cmpS (xs.getD k default) q)∧(W.cell? ⟨w.heap.size,0,none⟩=some (.int .i64 q.con)∧W.cell? ⟨w.heap.size,0+1,none⟩=some (.int .i64 q.sh)∧W.cell? ⟨w.heap.size,0+2,none⟩=some (.int .i64 q.pr)∧W.cell? ⟨w.heap.size,0+3,none⟩=some (.int .i64 q.lb)∧W.cell? ⟨w.heap.size,0+4,none⟩=some (.int .i64 q.lv)∧W.cell? ⟨w.heap.size,0+5,none⟩=some (uq))∧Below w.heap.size w W) (fun a b _=>(intOf b).toNat-(intOf a).toNat)
 case atStart=>exact⟨0,n,Nat.zero_le _,Nat.le_refl _,rfl,rfl,fun k h=>absurd h oM,fun k h1 h2=>oM,by simp[go_sem],bA (bR _ _) _⟩
 obtain⟨i,j,hij,hjn,rfl,rfl,HA,HB,hq,hbl⟩:=hrel;by_cases hlt:i<j
 ·
  have hlt':(i:Int)<j:=oM;go_wp2;obtain⟨m,hm⟩:∃m:Nat,((i:Int)+j) / 2=(m:Int):=⟨(i+j) / 2,by omega⟩
  have hm1:i≤m:=oM;have hm2:m<j:=oM;rw[hm];clear hm;obtain⟨b,o,pp,qq,rfl,hc,_⟩:=hX.out m oM;obtain⟨l,hl⟩:∃l,l=xs.getD m default:=⟨_,rfl⟩
  rw[←hl] at hc;have HL:Hid (l=xs.getD m default):=hl;clear hl hX;have r1:=(yG hbl hc hc).2.1;have hi4:(0:Int)≤m:=oM;have hi5:(m:Int)<n:=oM;go_region_held3 (fun W=>Below wr.heap.size wr W∧(W.cell? ⟨b,o+m*6,none⟩=some (.int .i64 l.con)∧W.cell? ⟨b,o+m*6+1,none⟩=some (.int .i64 l.sh)∧W.cell? ⟨b,o+m*6+2,none⟩=some (.int .i64 l.pr)∧W.cell? ⟨b,o+m*6+3,none⟩=some (.int .i64 l.lb)∧W.cell? ⟨b,o+m*6+4,none⟩=some (.int .i64 l.lv)∧W.cell? ⟨b,o+m*6+5,none⟩=some (.slice pp l.cast.length qq))∧(W.cell? ⟨w.heap.size,0,none⟩=some (.int .i64 q.con)∧W.cell? ⟨w.heap.size,0+1,none⟩=some (.int .i64 q.sh)∧W.cell? ⟨w.heap.size,0+2,none⟩=some (.int .i64 q.pr)∧W.cell? ⟨w.heap.size,0+3,none⟩=some (.int .i64 q.lb)∧W.cell? ⟨w.heap.size,0+4,none⟩=some (.int .i64 q.lv)∧W.cell? ⟨w.heap.size,0+5,none⟩=some (uq))) ((refine yG ?_ r1 hq;repeat (first|exact bR _ _|assumption|refine bD ?_|refine bA ?_ _|refine bS ?_ (by assumption))))
   (first|(go_at_call 219;refine(qB l q _ _ _).mono ?_;rintro e wa ⟨rfl,hb1⟩))
  rename_i hH;have hB:=bS hbl hH.1;have hq2:=hH.2.2;clear hH;by_cases hneg:cmpS l q<0
  ·
   have hd:decide (cmpS l q<0)=true:=decide_eq_true hneg;have HA2:Hid (∀k,k<m+1→cmpS (xs.getD k default) q<0):=fun k hk=>HMO.out k m oM oM (by rw[←HL.out];exact hneg)
   go_wp2;refine⟨⟨m+1,j,by omega,hjn,by go_num,rfl,HA2,HB,hq2,hB⟩,?_⟩;simp[intOf];omega
  have hd:decide (cmpS l q<0)=false:=decide_eq_false hneg;have HB2:Hid (∀k,m≤k→k<n→0≤cmpS (xs.getD k default) q):=fun k hk hkn=>by
   by_cases h:cmpS (xs.getD k default) q<0
   ·have:=HMO.out m k hk hkn h;rw[←HL.out] at this;exact absurd this hneg
   omega
  go_wp2;refine⟨⟨i,m,hm1,by omega,rfl,rfl,HA,HB2,hq2,hB⟩,?_⟩;simp[intOf];omega
 obtain rfl:i=j:=oM;have hi4:(0:Int)≤i:=oM;have hnl:¬(i:Int)<i:=oM;by_cases hin:i<n
 ·
  obtain⟨b,o,pp,qq,rfl,hc,_⟩:=hX.out i hin;obtain⟨l,hl⟩:∃l,l=xs.getD i default:=⟨_,rfl⟩
  rw[←hl] at hc;have HL:Hid (l=xs.getD i default):=hl;clear hl hX;have r1:=(yG hbl hc hc).2.1;have hi5:(i:Int)<n:=oM;have hi6:decide (i<n)=true:=decide_eq_true hin;go_wp2;go_region_held3 (fun W=>Below wr.heap.size wr W∧(W.cell? ⟨b,o+i*6,none⟩=some (.int .i64 l.con)∧W.cell? ⟨b,o+i*6+1,none⟩=some (.int .i64 l.sh)∧W.cell? ⟨b,o+i*6+2,none⟩=some (.int .i64 l.pr)∧W.cell? ⟨b,o+i*6+3,none⟩=some (.int .i64 l.lb)∧W.cell? ⟨b,o+i*6+4,none⟩=some (.int .i64 l.lv)∧W.cell? ⟨b,o+i*6+5,none⟩=some (.slice pp l.cast.length qq))∧(W.cell? ⟨w.heap.size,0,none⟩=some (.int .i64 q.con)∧W.cell? ⟨w.heap.size,0+1,none⟩=some (.int .i64 q.sh)∧W.cell? ⟨w.heap.size,0+2,none⟩=some (.int .i64 q.pr)∧W.cell? ⟨w.heap.size,0+3,none⟩=some (.int .i64 q.lb)∧W.cell? ⟨w.heap.size,0+4,none⟩=some (.int .i64 q.lv)∧W.cell? ⟨w.heap.size,0+5,none⟩=some (uq))) ((refine yG ?_ r1 hq;repeat (first|exact bR _ _|assumption|refine bD ?_|refine bA ?_ _|refine bS ?_ (by assumption))))
   (first|(go_at_call 219;refine(qB l q _ _ _).mono ?_;rintro e wa ⟨rfl,hb1⟩))
  rename_i hH;have hB:=bS hbl hH.1;clear hH;go_wp2;refine bodyPost_ret (v:=.tuple #[.int .i64 i,.bool (cmpS l q==0)]) (by simp[results,Tryz.results291,go_sem]) rfl ?_;refine⟨i,hjn,?_,HA.out,HB.out,hB⟩;rw[←HL.out];have e:(cmpS l q==0)=decide (i<n∧cmpS l q=0):=by
   rw[Bool.eq_iff_iff];simp[hin]
  rw[e]
 have hi5:¬(i:Int)<n:=oM;have hi6:decide (i<n)=false:=decide_eq_false hin;go_wp2;go_quiet (fail);go_wp2;refine bodyPost_ret (v:=.tuple #[.int .i64 i,.bool false]) (by simp[results,Tryz.results291,go_sem]) rfl ?_;refine⟨i,hjn,?_,HA.out,HB.out,fJ hbl _⟩;simp[hin]
def PlE (xs:List Slt) (q:Slt) (w:World) (e:Ending) (w':World):Prop:=
 ∃i:Nat,i≤xs.length∧e =.returned (.tuple #[.int .i64 i,.bool (decide (i<xs.length∧cmpS (xs.getD i default) q=0))]) ∧
  (∀k,k<i→cmpS (xs.getD k default) q<0)∧(∀k,i≤k→k<xs.length→0≤cmpS (xs.getD k default) q)∧Below w.heap.size w w'
theorem fOi {xs:List Slt} (h:AccOk xs) (q:Slt):∀a b,a≤b→b<xs.length→cmpS (xs.getD b default) q<0→cmpS (xs.getD a default) q<0:=by
 intro a b hab hb hc;rcases Nat.eq_or_lt_of_le hab with rfl|hlt
 ·exact hc
 have h1:=aheadS_iff.1 (h.ord a b hlt hb);rw[fKy] at hc ⊢;omega
theorem fL2 (x:Value) (d:Acc) (q:Slt) (uq:Value) (w:World) (hx:accR.V w x d) (hok:AccOk d.slots) :
  Calls Tryz.prog 243 #[x,.agg #[.int .i64 q.con,.int .i64 q.sh,.int .i64 q.pr,.int .i64 q.lb,.int .i64 q.lv,uq]] w fun e w'=>PlE d.slots q w e w':=by
 obtain⟨u1,rfl,hx⟩:=hx;obtain⟨xs⟩:=d;dsimp only at hx hok ⊢;have hl:=hok.len;have HP:Hid (bW w fun W=>Calls Tryz.prog 291 #[u1,.agg #[.int .i64 q.con,.int .i64 q.sh,.int .i64 q.pr,.int .i64 q.lb,.int .i64 q.lv,uq],.func (.func 219) #[] #[]] W fun e w'=>PlE xs q W e w'):=fun W hW=>fWc u1 xs q uq W (sltsR.below hx hW) oM (fOi hok q)
 obtain⟨au,cu,rfl⟩:=pX hx;clear hx;go_enter Tryz.func243,Tryz.ntmps243;go_wp2_with fail;refine(HP.out _ qBq).mono ?_;rintro e w1 ⟨i,hi,rfl,h1,h2,hb1⟩;have hB1:Below w.heap.size w w1:=qBq;have HA:Hid (∀k,k<i→cmpS (xs.getD k default) q<0):=h1;have HB:Hid (∀k,i≤k→k<xs.length→0≤cmpS (xs.getD k default) q):=h2;clear h1 h2;generalize hD:decide (i<xs.length∧cmpS (xs.getD i default) q=0)=D;go_wp2;refine bodyPost_ret (v:=.tuple #[.int .i64 i,.bool D]) (by simp[results,Tryz.results243,go_sem]) rfl ?_;exact⟨i,hi,by rw[hD],HA.out,HB.out,hB1⟩
end
end Go.Proofs.YtbfnobcidnmohaaGreat

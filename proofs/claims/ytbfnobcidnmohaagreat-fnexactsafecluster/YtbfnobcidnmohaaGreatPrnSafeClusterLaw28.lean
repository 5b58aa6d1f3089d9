import Derived.Test.YtbfnobcidnmohaaGreatPrnSafeClusterLaw27
import Derived.Deep.DeepCutAuto
set_option maxHeartbeats 16000000
set_option maxRecDepth 20000
set_option linter.unusedSimpArgs false
set_option linter.unusedVariables false
set_option linter.unusedSectionVars false
namespace Go.Proofs.YtbfnobcidnmohaaGreat
open Go.RowKit
attribute [local go_sem ↓] Go.wp_at_zero Go.wp_at_succ
section
variable [dQ Vot] [iH Vot] [dQ Slt] [iH Slt] [dQ SltR] [iH SltR] [dQ Bal] [iH Bal] [dQ Ledg] [iH Ledg] [dQ Leg] [iH Leg]
theorem fLv (x:Value) (D:List Slt) (w:World) (hx:sltsR.V w x D) :
  RI 67 #[x] w (.int .i64 (askF D)):=by
 obtain⟨ax,cx,rfl,hcx,hmx,hx⟩:=hx;unfold maxLen at hmx;obtain⟨n,hn'⟩:∃n,n=D.length:=⟨_,rfl⟩
 have HN:Hid (D.length=n):=hn'.symm;rw[←hn'] at hcx hx ⊢;clear hn';go_enter Tryz.func67,Tryz.ntmps67;go_wp2;go_loopw [3] (fun i w'=>∃k:Nat,k≤n∧i =.int .i64 k∧fC (vE D) k=0∧Below w.heap.size w w') (fun i _=>n-(intOf i).toNat)
 case atStart=>exact⟨0,oM,rfl,rfl,bR _ _⟩
 obtain⟨k,hk,rfl,hs,hbl⟩:=hrel;have HS:Hid (fC (vE D) k=0):=hs;clear hs;by_cases hlt:k<n
 ·
  obtain⟨bxa,oxa,ua,rfl,_,pa,hva⟩:=hx k hlt;obtain⟨l,hla⟩:∃l,l=D.getD k default:=⟨_,rfl⟩
  rw[←hla] at hva;have HLa:Hid (l=D.getD k default):=hla;clear hla;have hVa:=hva;obtain⟨sa,rfl,hca⟩:=hva;obtain⟨aua,cua,rfl⟩:=gJ hca;clear hca;have ga0:w.cell? ⟨bxa,oxa+k*6,none⟩=some (.int .i64 l.con):=pa 0 oM;have ga1:w.cell? ⟨bxa,oxa+k*6+1,none⟩=some (.int .i64 l.sh):=pa 1 oM;have ga2:w.cell? ⟨bxa,oxa+k*6+2,none⟩=some (.int .i64 l.pr):=pa 2 oM;have ga3:w.cell? ⟨bxa,oxa+k*6+3,none⟩=some (.int .i64 l.lb):=pa 3 oM;have ga4:w.cell? ⟨bxa,oxa+k*6+4,none⟩=some (.int .i64 l.lv):=pa 4 oM;have ga5:w.cell? ⟨bxa,oxa+k*6+5,none⟩=some (.slice aua l.cast.length cua):=pa 5 oM;clear pa;clear hx;replace ga0:=cK hbl ga0;replace ga1:=cK hbl ga1;replace ga2:=cK hbl ga2;replace ga3:=cK hbl ga3;replace ga4:=cK hbl ga4;replace ga5:=cK hbl ga5;have HF:Hid (bW w fun W=>RI 132 #[.agg #[.int .i64 l.con,.int .i64 l.sh,.int .i64 l.pr,.int .i64 l.lb,.int .i64 l.lv,.slice aua l.cast.length cua]] W (.int .i64 (fI l))):=fun W h=>fAo _ l W (sltR.below hVa h)
  clear hVa;go_wp2_with fail;refine(HF.out _ qBq).mono ?_;rintro e w1 ⟨rfl,hb1⟩;have hB1:=bT w hb1;have HX:Hid (fI l=vE D k):=by show _=_;unfold vE;rw[←HLa.out]
  have HH:Hid (¬fI l=0→askF D=fI l):=fun h=>by
   rw[HLa.out] at h ⊢;exact fMx (by rw[HN.out];exact hlt) HS.out h
  clear hb1 ga0 ga1 ga2 ga3 ga4 ga5;by_cases hf:fI l=0
  ·
   rw[hf];have HF0:Hid (vE D k=0):=by show _=_;rw[←HX.out];exact hf
   clear hf;go_wp2;exact⟨⟨k+1,by omega,by go_num,fE HS.out HF0.out,hB1⟩,mI⟩
  have HC:=HH.out hf;have HCC:Hid (askF D=fI l):=HC;clear HC;generalize fI l=c at *;go_wp2;go_ret;exact⟨by rw[HCC.out];rfl,hB1⟩
 have hkn:k=n:=oM;subst hkn;cases h19:inB (k:Int) 1 9
 ·
  have HC:Hid (askF D=2):=fHn (by rw[HN.out];exact HS.out) (by rw[HN.out];exact h19);have h19':(k:Int)<1∨9<(k:Int):=by
   by_cases h:(k:Int)<1
   ·exact .inl h
   by_cases h':9<(k:Int)
   ·exact .inr h'
   rw[inBi.2 oM] at h19;cases h19
  by_cases h1:(k:Int)<1
  ·go_wp2;go_ret;exact⟨rH,hbl⟩
  have h2:9<(k:Int):=oM;go_wp2;go_ret;exact⟨rH,hbl⟩
 have h1:¬(k:Int)<1∧¬9<(k:Int):=by have:=inBi.1 h19;omega
 obtain⟨h1,h2⟩:=h1;go_wp2;go_loopw [5] (fun i w'=>∃j:Nat,j≤k∧i =.int .i64 j∧fC (sameAt D) j=0∧Below w.heap.size w w') (fun i _=>k-(intOf i).toNat)
 case atStart=>exact⟨0,oM,rfl,rfl,hbl⟩
 clear hbl;obtain⟨j,hj,rfl,hs2,hbl⟩:=hrel;have HS2:Hid (fC (sameAt D) j=0):=hs2;clear hs2;by_cases hlt:j<k
 ·
  obtain⟨bxa,oxa,ua,rfl,_,pa,hva⟩:=hx j hlt;obtain⟨l,hla⟩:∃l,l=D.getD j default:=⟨_,rfl⟩
  rw[←hla] at hva;have HLa:Hid (l=D.getD j default):=hla;clear hla;have hVa:=hva;obtain⟨sa,rfl,hca⟩:=hva;obtain⟨aua,cua,rfl⟩:=gJ hca;clear hca;have ga0:w.cell? ⟨bxa,oxa+j*6,none⟩=some (.int .i64 l.con):=pa 0 oM;have ga1:w.cell? ⟨bxa,oxa+j*6+1,none⟩=some (.int .i64 l.sh):=pa 1 oM;have ga2:w.cell? ⟨bxa,oxa+j*6+2,none⟩=some (.int .i64 l.pr):=pa 2 oM;have ga3:w.cell? ⟨bxa,oxa+j*6+3,none⟩=some (.int .i64 l.lb):=pa 3 oM;have ga4:w.cell? ⟨bxa,oxa+j*6+4,none⟩=some (.int .i64 l.lv):=pa 4 oM;have ga5:w.cell? ⟨bxa,oxa+j*6+5,none⟩=some (.slice aua l.cast.length cua):=pa 5 oM;clear pa;have hx0:=hx 0 oM;obtain⟨bxz,oxz,uz,hez,_,pz,hvz⟩:=hx0;simp only[Option.some.injEq,Addr.mk.injEq,and_true] at hez;obtain⟨rfl,rfl⟩:=hez;obtain⟨z,hlz⟩:∃l,l=D.getD 0 default:=⟨_,rfl⟩
  rw[←hlz] at hvz;have HLz:Hid (z=D.getD 0 default):=hlz;clear hlz;have hVz:=hvz;obtain⟨sz,rfl,hcz⟩:=hvz;obtain⟨auz,cuz,rfl⟩:=gJ hcz;clear hcz;have gz0:w.cell? ⟨bxa,oxa+0*6,none⟩=some (.int .i64 z.con):=pz 0 oM;have gz1:w.cell? ⟨bxa,oxa+0*6+1,none⟩=some (.int .i64 z.sh):=pz 1 oM;have gz2:w.cell? ⟨bxa,oxa+0*6+2,none⟩=some (.int .i64 z.pr):=pz 2 oM;have gz3:w.cell? ⟨bxa,oxa+0*6+3,none⟩=some (.int .i64 z.lb):=pz 3 oM;have gz4:w.cell? ⟨bxa,oxa+0*6+4,none⟩=some (.int .i64 z.lv):=pz 4 oM;have gz5:w.cell? ⟨bxa,oxa+0*6+5,none⟩=some (.slice auz z.cast.length cuz):=pz 5 oM;clear pz;clear hx hVa hVz;simp only[Nat.zero_mul,Nat.add_zero] at gz0 gz1;replace ga0:=cK hbl ga0;replace ga1:=cK hbl ga1;replace ga2:=cK hbl ga2;replace ga3:=cK hbl ga3;replace ga4:=cK hbl ga4;replace ga5:=cK hbl ga5;replace gz0:=cK hbl gz0;replace gz1:=cK hbl gz1;clear gz2 gz3 gz4 gz5;have zb:bxa<wr.heap.size:=wL wr _ ga0;have i1:(j:Int)<(k:Int):=oM;have i0:(0:Int)<(k:Int):=oM;have hat:Hid (sameAt D j=if l.con=z.con∧l.sh=z.sh then 0 else 1):=by show _=_;unfold sameAt;rw[←HLa.out,←HLz.out]
  have HHit:Hid (¬(l.con=z.con∧l.sh=z.sh)→askF D=1):=fun h=>xB (by rw[HN.out];exact HS.out) (by rw[HN.out];exact h19) (by
   have e1:sameAt D j=1:=by rw[hat.out,if_neg h]
   rw[fK HS2.out (by rw[e1];omega) _ (by rw[HN.out];exact hlt),e1])
  by_cases m1:l.con=z.con
  ·
   have f1:(l.con !=z.con)=false:=by simp[m1]
   by_cases m2:l.sh=z.sh
   ·
    have f2:(l.sh !=z.sh)=false:=by simp[m2]
    have H0:Hid (sameAt D j=0):=by show _=_;rw[hat.out,if_pos ⟨m1,m2⟩]
    clear m1 m2 HHit;go_wp2;go_quiet (fail);go_wp2;exact⟨⟨j+1,by omega,by go_num,fE HS2.out H0.out,fJ hbl _⟩,mI⟩
   have f2:(l.sh !=z.sh)=true:=by simp[m2]
   have HC:Hid (askF D=1):=HHit.out (fun h=>m2 h.2);clear m1 m2 HHit;go_wp2;go_quiet (fail);go_wp2;go_ret;exact⟨rH,fJ hbl _⟩
  have f1:(l.con !=z.con)=true:=by simp[m1]
  have HC:Hid (askF D=1):=HHit.out (fun h=>m1 h.1);clear m1 HHit;go_wp2;go_quiet (fail);go_wp2;go_ret;exact⟨rH,fJ hbl _⟩
 have hjk:j=k:=oM;subst hjk;have HC:Hid (askF D=0):=xB (by rw[HN.out];exact HS.out) (by rw[HN.out];exact h19) (by rw[HN.out];exact HS2.out);go_wp2;go_ret;exact⟨rH,hbl⟩
theorem yO (x:Value) (D:List Slt) (w:World) (hx:sltsR.V w x D) :
  RI 167 #[x] w (.int .i64 (askF D)):=by
 obtain⟨ax,cx,rfl,hcx,hmx,hx⟩:=hx;unfold maxLen at hmx;obtain⟨n,hn'⟩:∃n,n=D.length:=⟨_,rfl⟩
 have HN:Hid (D.length=n):=hn'.symm;rw[←hn'] at hcx hx ⊢;clear hn';go_enter Tryz.func167,Tryz.ntmps167;go_wp2;go_loopw [10] (fun i w'=>∃k:Nat,k≤n∧i =.int .i64 k∧fC (vE D) k=0∧Below w.heap.size w w') (fun i _=>n-(intOf i).toNat)
 case atStart=>exact⟨0,oM,rfl,rfl,bR _ _⟩
 obtain⟨k,hk,rfl,hs,hbl⟩:=hrel;have HS:Hid (fC (vE D) k=0):=hs;clear hs;by_cases hlt:k<n
 ·
  obtain⟨bxa,oxa,ua,rfl,_,pa,hva⟩:=hx k hlt;obtain⟨l,hla⟩:∃l,l=D.getD k default:=⟨_,rfl⟩
  rw[←hla] at hva;have HLa:Hid (l=D.getD k default):=hla;clear hla;have hVa:=hva;obtain⟨sa,rfl,hca⟩:=hva;obtain⟨aua,cua,rfl⟩:=gJ hca;clear hca;have ga0:w.cell? ⟨bxa,oxa+k*6,none⟩=some (.int .i64 l.con):=pa 0 oM;have ga1:w.cell? ⟨bxa,oxa+k*6+1,none⟩=some (.int .i64 l.sh):=pa 1 oM;have ga2:w.cell? ⟨bxa,oxa+k*6+2,none⟩=some (.int .i64 l.pr):=pa 2 oM;have ga3:w.cell? ⟨bxa,oxa+k*6+3,none⟩=some (.int .i64 l.lb):=pa 3 oM;have ga4:w.cell? ⟨bxa,oxa+k*6+4,none⟩=some (.int .i64 l.lv):=pa 4 oM;have ga5:w.cell? ⟨bxa,oxa+k*6+5,none⟩=some (.slice aua l.cast.length cua):=pa 5 oM;clear pa;clear hx;replace ga0:=cK hbl ga0;replace ga1:=cK hbl ga1;replace ga2:=cK hbl ga2;replace ga3:=cK hbl ga3;replace ga4:=cK hbl ga4;replace ga5:=cK hbl ga5;have HF:Hid (bW w fun W=>RI 218 #[.agg #[.int .i64 l.con,.int .i64 l.sh,.int .i64 l.pr,.int .i64 l.lb,.int .i64 l.lv,.slice aua l.cast.length cua]] W (.int .i64 (fI l))):=fun W h=>zZ _ l W (sltR.below hVa h)
  clear hVa;go_wp2_with fail;refine(HF.out _ qBq).mono ?_;rintro e w1 ⟨rfl,hb1⟩;have hB1:=bT w hb1;have HX:Hid (fI l=vE D k):=by show _=_;unfold vE;rw[←HLa.out]
  have HH:Hid (¬fI l=0→askF D=fI l):=fun h=>by
   rw[HLa.out] at h ⊢;exact fMx (by rw[HN.out];exact hlt) HS.out h
  clear hb1 ga0 ga1 ga2 ga3 ga4 ga5;by_cases hf:fI l=0
  ·
   rw[hf];have HF0:Hid (vE D k=0):=by show _=_;rw[←HX.out];exact hf
   clear hf;go_wp2;exact⟨⟨k+1,by omega,by go_num,fE HS.out HF0.out,hB1⟩,mI⟩
  have HC:=HH.out hf;have HCC:Hid (askF D=fI l):=HC;clear HC;generalize fI l=c at *;go_wp2;go_ret;exact⟨by rw[HCC.out];rfl,hB1⟩
 have hkn:k=n:=oM;subst hkn;cases h19:inB (k:Int) 1 9
 ·have HC:Hid (askF D=2):=fHn (by rw[HN.out];exact HS.out) (by rw[HN.out];exact h19);go_wp2_with (go_at_call 152;refine(fO _ _ _ _).mono ?_;rintro e w' ⟨rfl,hw'⟩;obtain rfl:=hw'.symm;rw[h19]);go_ret;exact⟨rH,hbl⟩
 have h1:¬(k:Int)<1∧¬9<(k:Int):=by have:=inBi.1 h19;omega
 obtain⟨h1,h2⟩:=h1;go_wp2_with (go_at_call 152;refine(fO _ _ _ _).mono ?_;rintro e w' ⟨rfl,hw'⟩;obtain rfl:=hw'.symm;rw[h19]);go_loopw [26] (fun i w'=>∃j:Nat,j≤k∧i =.int .i64 j∧fC (sameAt D) j=0∧Below w.heap.size w w') (fun i _=>k-(intOf i).toNat)
 case atStart=>exact⟨0,oM,rfl,rfl,hbl⟩
 clear hbl;obtain⟨j,hj,rfl,hs2,hbl⟩:=hrel;have HS2:Hid (fC (sameAt D) j=0):=hs2;clear hs2;by_cases hlt:j<k
 ·
  obtain⟨bxa,oxa,ua,rfl,_,pa,hva⟩:=hx j hlt;obtain⟨l,hla⟩:∃l,l=D.getD j default:=⟨_,rfl⟩
  rw[←hla] at hva;have HLa:Hid (l=D.getD j default):=hla;clear hla;have hVa:=hva;obtain⟨sa,rfl,hca⟩:=hva;obtain⟨aua,cua,rfl⟩:=gJ hca;clear hca;have ga0:w.cell? ⟨bxa,oxa+j*6,none⟩=some (.int .i64 l.con):=pa 0 oM;have ga1:w.cell? ⟨bxa,oxa+j*6+1,none⟩=some (.int .i64 l.sh):=pa 1 oM;have ga2:w.cell? ⟨bxa,oxa+j*6+2,none⟩=some (.int .i64 l.pr):=pa 2 oM;have ga3:w.cell? ⟨bxa,oxa+j*6+3,none⟩=some (.int .i64 l.lb):=pa 3 oM;have ga4:w.cell? ⟨bxa,oxa+j*6+4,none⟩=some (.int .i64 l.lv):=pa 4 oM;have ga5:w.cell? ⟨bxa,oxa+j*6+5,none⟩=some (.slice aua l.cast.length cua):=pa 5 oM;clear pa;have hx0:=hx 0 oM;obtain⟨bxz,oxz,uz,hez,_,pz,hvz⟩:=hx0;simp only[Option.some.injEq,Addr.mk.injEq,and_true] at hez;obtain⟨rfl,rfl⟩:=hez;obtain⟨z,hlz⟩:∃l,l=D.getD 0 default:=⟨_,rfl⟩
  rw[←hlz] at hvz;have HLz:Hid (z=D.getD 0 default):=hlz;clear hlz;have hVz:=hvz;obtain⟨sz,rfl,hcz⟩:=hvz;obtain⟨auz,cuz,rfl⟩:=gJ hcz;clear hcz;have gz0:w.cell? ⟨bxa,oxa+0*6,none⟩=some (.int .i64 z.con):=pz 0 oM;have gz1:w.cell? ⟨bxa,oxa+0*6+1,none⟩=some (.int .i64 z.sh):=pz 1 oM;have gz2:w.cell? ⟨bxa,oxa+0*6+2,none⟩=some (.int .i64 z.pr):=pz 2 oM;have gz3:w.cell? ⟨bxa,oxa+0*6+3,none⟩=some (.int .i64 z.lb):=pz 3 oM;have gz4:w.cell? ⟨bxa,oxa+0*6+4,none⟩=some (.int .i64 z.lv):=pz 4 oM;have gz5:w.cell? ⟨bxa,oxa+0*6+5,none⟩=some (.slice auz z.cast.length cuz):=pz 5 oM;clear pz;clear hx hVa hVz;simp only[Nat.zero_mul,Nat.add_zero] at gz0 gz1;replace ga0:=cK hbl ga0;replace ga1:=cK hbl ga1;replace ga2:=cK hbl ga2;replace ga3:=cK hbl ga3;replace ga4:=cK hbl ga4;replace ga5:=cK hbl ga5;replace gz0:=cK hbl gz0;replace gz1:=cK hbl gz1;clear gz2 gz3 gz4 gz5;have zb:bxa<wr.heap.size:=wL wr _ ga0;have i1:(j:Int)<(k:Int):=oM;have i0:(0:Int)<(k:Int):=oM;have hat:Hid (sameAt D j=if l.con=z.con∧l.sh=z.sh then 0 else 1):=by show _=_;unfold sameAt;rw[←HLa.out,←HLz.out]
  have HHit:Hid (¬(l.con=z.con∧l.sh=z.sh)→askF D=1):=fun h=>xB (by rw[HN.out];exact HS.out) (by rw[HN.out];exact h19) (by
   have e1:sameAt D j=1:=by rw[hat.out,if_neg h]
   rw[fK HS2.out (by rw[e1];omega) _ (by rw[HN.out];exact hlt),e1])
  by_cases m1:l.con=z.con
  ·
   have f1:(l.con !=z.con)=false:=by simp[m1]
   by_cases m2:l.sh=z.sh
   ·
    have f2:(l.sh !=z.sh)=false:=by simp[m2]
    have H0:Hid (sameAt D j=0):=by show _=_;rw[hat.out,if_pos ⟨m1,m2⟩]
    clear m1 m2 HHit;go_wp2;go_quiet (fail);go_wp2;exact⟨⟨j+1,by omega,by go_num,fE HS2.out H0.out,fJ (bA hbl _) _⟩,mI⟩
   have f2:(l.sh !=z.sh)=true:=by simp[m2]
   have HC:Hid (askF D=1):=HHit.out (fun h=>m2 h.2);clear m1 m2 HHit;go_wp2;go_quiet (fail);go_wp2;go_ret;exact⟨rH,fJ (bA hbl _) _⟩
  have f1:(l.con !=z.con)=true:=by simp[m1]
  have HC:Hid (askF D=1):=HHit.out (fun h=>m1 h.1);clear m1 HHit;go_wp2;go_quiet (fail);go_wp2;go_ret;exact⟨rH,fJ (bA hbl _) _⟩
 have hjk:j=k:=oM;subst hjk;have HC:Hid (askF D=0):=xB (by rw[HN.out];exact HS.out) (by rw[HN.out];exact h19) (by rw[HN.out];exact HS2.out);go_wp2;go_ret;exact⟨rH,hbl⟩
end
section
variable [dQ Vot] [iH Vot] [dQ Slt] [iH Slt] [dQ SltR] [iH SltR] [dQ Bal] [iH Bal] [dQ Ledg] [iH Ledg] [dQ Leg] [iH Leg]
theorem fQz {D:List Slt} {ys:List Vot} (h:askF D=0):agB D ys=true↔∀k,k<ys.length→(ys.getD k default).val=(ys.getD 0 default).val:=by
 unfold agB;rw[decide_eq_true h,Bool.true_and,List.all_eq_true];constructor
 ·intro hh k hk;have:=hh _ (fB8 hk);simpa using this
 intro hh v hv;obtain⟨k,hk,rfl⟩:=qE hv;simpa using hh k hk
end
section
variable [dQ Vot] [iH Vot] [dQ Slt] [iH Slt] [dQ SltR] [iH SltR] [dQ Bal] [iH Bal] [dQ Ledg] [iH Ledg] [dQ Leg] [iH Leg]
theorem fGx (x:Value) (D:List Slt) (ys:List Vot) (w:World) (hx:sltsR.V w x D) (hys:askF D=0→Chs D ys) :
  RI 22 #[x] w (.bool (agB D ys)):=by
 obtain⟨ax,cx,rfl⟩:=pX hx;have HX:Hid (bW w fun W=>sltsR.V W (.slice ax D.length cx) D):=fun W h=>sltsR.below hx h
 clear hx;generalize D.length=n at *;go_enter Tryz.func22,Tryz.ntmps22;go_wp2_with fail;refine(fLv _ D _ (HX.out _ qBq)).mono ?_;rintro e w1 ⟨rfl,hb1⟩;have hB1:=bT w hb1;clear hb1;by_cases hf:askF D=0
 ·
  have HF:Hid (askF D=0):=hf;have hC:=fun W h=>fBm _ D W (HX.out W h) hf
  rw[hf];clear hf;go_wp2_with fail;refine(hC _ hB1).mono ?_;rintro e w2 ⟨v,zs,rfl,hV,hZ,hb2⟩;obtain rfl:=uP (hys HF.out) hZ;have hB2:Below w.heap.size w w2:=bS hB1 hb2;clear hC hb2 hB1 hys hZ;have HAg:Hid (agB D ys=true↔∀k,k<ys.length→(ys.getD k default).val=(ys.getD 0 default).val):=fQz HF.out;obtain⟨av,cv,rfl,hcv,hmv,hel⟩:=hV;unfold maxLen at hmv;obtain⟨m,hm⟩:∃m,m=ys.length:=⟨_,rfl⟩
  rw[←hm] at hcv hel HAg ⊢;clear hm;go_wp2;go_loopw [4] (fun i w'=>∃k:Nat,k≤m∧i =.int .i64 k∧(∀t,t<k→(ys.getD t default).val=(ys.getD 0 default).val)∧Below w2.heap.size w2 w') (fun i _=>m-(intOf i).toNat)
  case atStart=>exact⟨0,oM,rfl,fun t h=>absurd h oM,bR _ _⟩
  obtain⟨k,hk,rfl,hA,hbl⟩:=hrel;have HA:Hid (∀t,t<k→(ys.getD t default).val=(ys.getD 0 default).val):=hA;clear hA;by_cases hlt:k<m
  ·
   obtain⟨b0,o0,rfl,z0⟩:=hel 0 oM;obtain⟨bk,ok,ek,gk⟩:=hel k hlt;simp only[Option.some.injEq,Addr.mk.injEq,and_true] at ek;obtain⟨rfl,rfl⟩:=ek;obtain⟨z0,z1⟩:=gL hbl z0;obtain⟨g0,g1⟩:=gL hbl gk;simp only[Nat.zero_mul,Nat.add_zero] at z0 z1;have i0:(0:Int)<(m:Int):=oM;have i1:(k:Int)<(m:Int):=oM;have zb:b0<wr.heap.size:=wL wr _ z0;obtain⟨f,hf⟩:∃f,f=ys.getD 0 default:=⟨_,rfl⟩
   obtain⟨v,hv⟩:∃v,v=ys.getD k default:=⟨_,rfl⟩
   rw[←hf] at z0 z1;rw[←hv] at g0 g1;have HFv:Hid (ys.getD 0 default=f∧ys.getD k default=v):=⟨hf.symm,hv.symm⟩;clear hf hv gk hel;by_cases hh:v.val=f.val
   ·
    have hn:(v.val !=f.val)=false:=by simp[hh]
    have HH:Hid (v.val=f.val):=hh;clear hh;go_wp2;go_quiet (fail);go_wp2;refine⟨⟨k+1,by omega,by go_num,fun t ht=>?_,fJ hbl _⟩,mI⟩;by_cases h:t<k
    ·exact HA.out t h
    have:t=k:=oM;subst this;rw[HFv.out.1,HFv.out.2];exact HH.out
   have hn:(v.val !=f.val)=true:=by simp[hh]
   have HE:Hid (agB D ys=false):=by
    show _=_;cases e:agB D ys with
    | false=>rfl
    | true=>
     have:=HAg.out.1 e k hlt;rw[HFv.out.1,HFv.out.2] at this;exact absurd this hh
   clear hh;go_wp2;go_quiet (fail);go_wp2;go_ret;exact⟨by rw[HE.out];rfl,fJ (bS hB2 hbl) _⟩
  have hkn:k=m:=oM;subst hkn;have HE:Hid (agB D ys=true):=HAg.out.2 HA.out;clear hel;go_wp2;go_ret;exact⟨by rw[HE.out];rfl,bS hB2 hbl⟩
 have HE:Hid (agB D ys=false):=by show _=_;unfold agB;rw[decide_eq_false hf];rfl
 obtain⟨c,hc⟩:∃c,c=askF D:=⟨_,rfl⟩
 rw[←hc] at hf ⊢;clear hc hys;go_wp2;go_ret;exact⟨by rw[HE.out];rfl,hB1⟩
end
section
theorem fN5 {P:Program} {ops:Array Oper} {Q:Exit→Act→World→Prop} {md:Region.Mode} {S:World→Prop} {t:Nat} {i j:Nat} {o o':Oper} {f:Nat} {listed:Array Bool} {a:Act} {w:World} (hr:Region.ready md ops listed=[i,j]) (hi:ops[i]? = some o) (hj:ops[j]? = some o')
  (h:∀K:Act→World→Prop,(∀a' w',(i≠t→S w')→gI P md ops Q S t f (listed.setIfInBounds i true) a' w'→K a' w')→if Region.wanted o (yielded ops a.tmps)=true then Oper.wp P o a w K Q else K (a.put o.dst undef) w)
  (h':∀K:Act→World→Prop,(∀a' w',(j≠t→S w')→gI P md ops Q S t f (listed.setIfInBounds j true) a' w'→K a' w')→if Region.wanted o' (yielded ops a.tmps)=true then Oper.wp P o' a w K Q else K (a.put o'.dst undef) w) :
  gI P md ops Q S t (f+1) listed a w:=by
 refine⟨fun h0=>(by rw[hr] at h0;cases h0),fun k hk=>?_⟩;rw[hr] at hk;have e:k=i∨k=j:=by simpa using hk
 rcases e with e|e
 ·
  subst e;have h1:=h (fun a' w'=>(k≠t→S w')∧gI P md ops Q S t f (listed.setIfInBounds k true) a' w') (fun _ _ p q=>⟨p,q⟩);unfold wpOp;simp only[hi];split
  ·rename_i hw;rw[if_pos hw] at h1;exact .inl h1
  rename_i hw;rw[if_neg hw] at h1;exact h1
 subst e;have h1:=h' (fun a' w'=>(k≠t→S w')∧gI P md ops Q S t f (listed.setIfInBounds k true) a' w') (fun _ _ p q=>⟨p,q⟩);unfold wpOp;simp only[hj];split
 ·rename_i hw;rw[if_pos hw] at h1;exact .inl h1
 rename_i hw;rw[if_neg hw] at h1;exact h1
end
section
variable [dQ Leg] [iH Leg] [dQ Cont] [iH Cont] [dQ Bal] [iH Bal] [dQ Mrk] [iH Mrk] [dQ Shd] [iH Shd] [dQ Vot] [iH Vot] [dQ Slt] [iH Slt] [dQ Acc] [iH Acc] [dQ Trr] [iH Trr] [dQ Hrd] [iH Hrd] [dQ Ldr] [iH Ldr] [dQ Msg] [iH Msg] [dQ Clu] [iH Clu] [dQ Ledg] [iH Ledg] [dQ SltR] [iH SltR] [dQ AccR] [iH AccR] [dQ AccsR] [iH AccsR] [dQ SltsR] [iH SltsR] [dQ Rw] [iH Rw] [dQ LedgR] [iH LedgR] [dQ OutcR] [iH OutcR] [dQ ShdR] [iH ShdR]
theorem fUs {w:World} {a:Option Addr} {n c:Nat} {xs:List Mrk} (hx:mrksR.V w (.slice a n c) xs):xs.length=n∧n≤c∧c≤maxLen∧∀k,k<n→∃b o,a=some ⟨b,o,none⟩∧w.cell? ⟨b,o+k*2,none⟩=some (.int .i64 (xs.getD k default).con)∧w.cell? ⟨b,o+k*2+1,none⟩=some (.int .i64 (xs.getD k default).val):=by
 obtain⟨a',c',e,h1,h2,h3⟩:=hx;simp only[Value.slice.injEq] at e;obtain⟨rfl,rfl,rfl⟩:=e;refine⟨rfl,h1,h2,fun k hk=>?_⟩;obtain⟨b,o,e,g⟩:=h3 k hk;exact⟨b,o,e,g.1,g.2⟩
theorem fRj {c:Clu} {ysf:Int→Int→List Vot} {s:Shd} {j:Nat} (hj:j<s.done.length) (h:¬hdS ysf (zO c (s.done.getD j default).con)=(s.done.getD j default).val):uB c ysf s=false:=by
 unfold uB;rw[List.all_eq_false];exact⟨s.done.getD j default,by simp[List.getD,hj],by rw[decide_eq_false h];simp⟩
theorem fRi {c:Clu} {ysf:Int→Int→List Vot} {s:Shd} (h:∀j,j<s.done.length→hdS ysf (zO c (s.done.getD j default).con)=(s.done.getD j default).val):uB c ysf s=true:=by
 unfold uB;rw[List.all_eq_true];intro m hm;obtain⟨i,hi,rfl⟩:=List.getElem_of_mem hm;have:=h i hi;simp only[List.getD,List.getElem?_eq_getElem hi,Option.getD_some] at this;exact decide_eq_true this
theorem fIx (B:Nat) (y:Value) (c:Clu) (s:Shd) (ysf:Int→Int→List Vot) (w:World) (h:CluB w B c) (hy:shdR.V w y s) (h0:cluF c=0) (hmk:∀j,j<s.done.length→fF c.cons (s.done.getD j default).con<c.cons.length) (hys:∀i s,freC c.accs i s=0→Chs (fQ c.accs i s) (ysf i s)) :
  RI 26 #[.pointer (some ⟨B,0,none⟩),y] w (.bool (uB c ysf s)):=by
 have HFi:Hid (∀id W,Below w.heap.size w W→RI 45 #[.pointer (some ⟨B,0,none⟩),.int .i64 id] W (.int .i64 (tC c.cons id))):=fun id W hW=>vQ B c id W ((h.below hW).p)
 obtain⟨a0,a1,a2,a3,a4,c0,c1,c2,c3,c4,n0,n1,n2,n3,n4,⟨y0,y1,y2,y3,y4⟩,hx⟩:=h;obtain⟨e0,e1,e2,e3,e4,L0,L1,L2,L3,L4⟩:=vG hx;obtain⟨u1,u2,u3,u4,u5,eq,h1,h2,h3,h4,h5⟩:=hx;simp only[Value.agg.injEq,Array.mk.injEq,List.cons.injEq,and_true] at eq;obtain⟨rfl,rfl,rfl,rfl,rfl⟩:=eq;have zB:B<w.heap.size:=wL w _ y0;have HOc:Hid (∀k,k<c.cons.length→∀p q W,Below w.heap.size w W→legsR.V W (.slice p (c.cons.getD k default).legs.length q) (c.cons.getD k default).legs→RI 70 #[.slice a2 n2 c2,.agg #[.int .i64 (c.cons.getD k default).id,.slice p (c.cons.getD k default).legs.length q]] W (.int .i64 (hdS ysf (c.cons.getD k default)))):=fun k hk p q W hW hl=>fGa _ _ c.accs _ (ysf (c.cons.getD k default).id) W (accsR.below h3 hW) ⟨_,rfl,hl⟩ (fW4 h0 hk) (fun s hs=>hys _ s (fIa h0 hk hs).1)
 obtain⟨v1,v2,v3,v4,v5,rfl,k1,k2,k3,k4,k5⟩:=hy;obtain⟨p1,q1,rfl⟩:=gU k1;obtain⟨p2,q2,rfl⟩:=fT k2;obtain⟨p3,q3,rfl⟩:=gG k3;obtain⟨p4,q4,rfl⟩:=fT k4;obtain⟨p5,q5,rfl⟩:=gZ k5;obtain⟨_,hnd,hmd,HD⟩:=fUs k4;unfold maxLen at hmd;have HDc:Hid _:=HD;obtain⟨hnc0,hmc0,HA0⟩:=pE (by rw[e0];exact h1);rw[e0] at hnc0 hmk;unfold maxLen at hmc0;have HX0:Hid _:=HA0;rw[e0] at HX0 HOc;have HMk:Hid _:=hmk;have HT1:Hid (∀j,j<s.done.length→¬hdS ysf (zO c (s.done.getD j default).con)=(s.done.getD j default).val→uB c ysf s=false):=fun j hj h=>fRj hj h
 have HT2:Hid ((∀j,j<s.done.length→hdS ysf (zO c (s.done.getD j default).con)=(s.done.getD j default).val)→uB c ysf s=true):=fun h=>fRi h
 have HCo:Hid (∀id,fF c.cons id<n0→zO c id=c.cons.getD (fF c.cons id) default∧tC c.cons id=(fF c.cons id:Int)):=fun id hf=>by
  rw[←e0] at hf;exact⟨if_pos hf,by unfold tC;rw[if_pos hf]⟩
 clear HD HA0 h1 h2 h3 h4 h5 k1 k2 k3 k4 k5 h0 hmk hys e0 e1 e2 e3 e4 L1 L2 L3 L4;generalize uB c ysf s=R at *;generalize s.idx=ix at *;generalize s.bals.length=m1 at *;generalize s.votes.length=m2 at *;generalize s.held.length=m3 at *;generalize hnn:s.done.length=m at *;generalize s.appl.length=m5 at *;clear hnn;go_enter Tryz.func26,Tryz.ntmps26;go_wp2;have S4:(w.alloc (.cells #[.int .i64 ix,.slice p1 m1 q1,.slice p2 m2 q2,.slice p3 m3 q3,.slice p4 m q4,.slice p5 m5 q5] 71)).cell? ⟨w.heap.size,4,none⟩=some (.slice p4 m q4):=sG;have hbw:Below w.heap.size w (w.alloc (.cells #[.int .i64 ix,.slice p1 m1 q1,.slice p2 m2 q2,.slice p3 m3 q3,.slice p4 m q4,.slice p5 m5 q5] 71)):=qBq;generalize w.alloc (.cells #[.int .i64 ix,.slice p1 m1 q1,.slice p2 m2 q2,.slice p3 m3 q3,.slice p4 m q4,.slice p5 m5 q5] 71)=Y at *;have y0':=cK hbw y0;have y2':=cK hbw y2;clear y0 y1 y2 y3 y4;go_loopw [5] (fun i W=>∃j:Nat,j≤m∧i =.int .i64 j∧Hid (∀j',j'<j→hdS ysf (zO c (s.done.getD j' default).con)=(s.done.getD j' default).val)∧Below Y.heap.size Y W) (fun i _=>m-(intOf i).toNat)
 case atStart=>exact⟨0,oM,rfl,fun j hj=>absurd hj oM,bR _ _⟩
 obtain⟨j,hj,rfl,HS,hbl⟩:=hrel;have hblw:=bS hbw hbl;replace S4:=cK hbl S4;replace y0':=cK hbl y0';replace y2':=cK hbl y2';have zS:w.heap.size<wr.heap.size:=wL wr _ S4;have zBr:B<wr.heap.size:=wL wr _ y0';by_cases hlt:j<m
 ·
  obtain⟨bd,od,rfl,g0,g1⟩:=HDc.out j hlt;have hff:=HMk.out j hlt;obtain⟨hco,hfi⟩:=HCo.out _ hff;obtain⟨bc,oc,pl,ql,rfl,t0,t1,hlv⟩:=HX0.out _ hff;have HOk:=HOc.out _ hff pl ql;have HFk:=HFi.out (s.done.getD j default).con;rw[hfi] at HFk;have HN:Hid (¬hdS ysf (c.cons.getD (fF c.cons (s.done.getD j default).con) default)=(s.done.getD j default).val→R=false):=fun h=>HT1.out j hlt (by rw[hco];exact h)
  have HG:Hid (hdS ysf (c.cons.getD (fF c.cons (s.done.getD j default).con) default)=(s.done.getD j default).val→∀j',j'<j+1→hdS ysf (zO c (s.done.getD j' default).con)=(s.done.getD j' default).val):=fun h j' hj'=>by
   by_cases e:j'=j
   ·rw[e,hco];exact h
   exact HS.out j' oM
  have HLv:Hid (bW w fun W=>legsR.V W (.slice pl (c.cons.getD (fF c.cons (s.done.getD j default).con) default).legs.length ql) (c.cons.getD (fF c.cons (s.done.getD j default).con) default).legs):=fun W hW=>legsR.below hlv hW
  have HOk':Hid _:=HOk;have HFk':Hid _:=HFk;clear hlv HOk HFk hco hfi;generalize (s.done.getD j default).con=con at *;generalize (s.done.getD j default).val=val at *;generalize hdS ysf (c.cons.getD (fF c.cons con) default)=hd at *;generalize c.cons.getD (fF c.cons con) default=l at *;generalize fF c.cons con=f at *;generalize l.legs.length=ml at *;replace g0:=cK hblw g0;replace g1:=cK hblw g1;replace t0:=cK hblw t0;replace t1:=cK hblw t1;generalize l.id=id at *;have hti:(j:Int)<(m:Int):=oM;have hj0:(0:Int)≤(j:Int):=oM;have hf1:(f:Int)<(n0:Int):=oM;have hf2:(0:Int)≤(f:Int):=oM;go_wp2;go_cut [6] (fun u wx=>∃X:Nat,u =.pointer (some ⟨X,0,none⟩)∧wx.cell? ⟨X,0,none⟩=some (.int .i64 id)∧wx.cell? ⟨X,1,none⟩=some (.slice pl ml ql)∧wr.heap.size≤X∧X<wx.heap.size∧Below wr.heap.size wr wx)
  case first=>
   refine wp_region_noPanic ?_;refine fB (fun W=>Below wr.heap.size wr W∧W.cell? ⟨B,0,none⟩=some (.slice (some ⟨bc,oc,none⟩) n0 c0)∧W.cell? ⟨w.heap.size,4,none⟩=some (.slice (some ⟨bd,od,none⟩) m q4)∧W.cell? ⟨bd,od+j*2,none⟩=some (.int .i64 con)∧W.cell? ⟨bc,oc+f*2,none⟩=some (.int .i64 id)∧W.cell? ⟨bc,oc+f*2+1,none⟩=some (.slice pl ml ql)) 16 kF ⟨qBq,cK qBq y0',cK qBq S4,cK qBq g0,cK qBq t0,cK qBq t1⟩ (fun hS=>?_);refine tX 0 ?_;refine tX 1 ?_;refine tX 2 ?_;refine tX 3 ?_;refine tX 4 ?_;refine tX 5 ?_;refine tX 6 ?_;refine tX 7 ?_;refine tX 8 ?_;refine tX 9 ?_;refine tX 10 ?_;refine fN5 (i:=11) (j:=14) kF rfl rfl ?_ ?_
   ·
    intro K hK;go_simp;refine(HFk'.out _ (bS hblw qBq)).mono ?_;rintro e w3 ⟨rfl,hb3⟩;have hB3:=bT wr hb3;have hS3:=And.intro hB3 (And.intro (cK hB3 y0') (And.intro (cK hB3 S4) (And.intro (cK hB3 g0) (And.intro (cK hB3 t0) (cK hB3 t1)))));refine hK _ _ (fun _=>hS3) ?_;clear hK K hb3 hS;try simp only[jX]
    refine tX 12 ?_;refine tX 13 ?_;refine uS 14 rfl (fun K hK=>?_);go_simp;have hBW:Below wr.heap.size wr (w3.alloc (.cells #[.int .i64 0,.slice none 0 0] 60)):=bA hB3 _;have hS4:=And.intro hBW (And.intro (cK hBW y0') (And.intro (cK hBW S4) (And.intro (cK hBW g0) (And.intro (cK hBW t0) (cK hBW t1)))));refine hK _ _ (fun _=>hS4) ?_;clear hK K hS3;have hX0:wr.heap.size≤w3.heap.size:=hB3.size;have z0:(w3.alloc (.cells #[.int .i64 0,.slice none 0 0] 60)).cell? ⟨w3.heap.size,0,none⟩=some (.int .i64 0):=sG;have z1:(w3.alloc (.cells #[.int .i64 0,.slice none 0 0] 60)).cell? ⟨w3.heap.size,1,none⟩=some (.slice none 0 0):=sG;have zf:∀o,(w3.alloc (.cells #[.int .i64 0,.slice none 0 0] 60)).frozen? ⟨w3.heap.size,o,none⟩=false:=fun o=>sG
    have hlt4:w3.heap.size<(w3.alloc (.cells #[.int .i64 0,.slice none 0 0] 60)).heap.size:=by simp
    generalize hW4:w3.alloc (.cells #[.int .i64 0,.slice none 0 0] 60)=W4 at *;clear hW4;generalize w3.heap.size=X at *;try simp only[jX]
    refine uS 15 rfl (fun K hK=>?_);go_simp;have hB13:Below wr.heap.size wr ((W4.setCell ⟨X,0,none⟩ (.int .i64 id)).setCell ⟨X,1,none⟩ (.slice pl ml ql)):=bset (bset hBW hX0 _) hX0 _;have hS13:=And.intro hB13 (And.intro (cK hB13 y0') (And.intro (cK hB13 S4) (And.intro (cK hB13 g0) (And.intro (cK hB13 t0) (cK hB13 t1)))));refine hK _ _ (fun _=>hS13) ?_;clear hK K;try simp only[jX]
    refine dP ?_;clear hS13;go_wp2_with fail;go_meet
    case rel=>exact⟨_,rfl,by simp[go_sem,z0,z1,zf],by simp[go_sem,z0,z1,zf],hX0,by simp;omega,hB13⟩
   intro K hK;go_simp;have hB4:Below wr.heap.size wr (wr.drew.alloc (.cells #[.int .i64 0,.slice none 0 0] 60)):=qBq;have hS40:=And.intro hB4 (And.intro (cK hB4 y0') (And.intro (cK hB4 S4) (And.intro (cK hB4 g0) (And.intro (cK hB4 t0) (cK hB4 t1)))));refine hK _ _ (fun _=>hS40) ?_;clear hK K hS;have z0':(wr.drew.alloc (.cells #[.int .i64 0,.slice none 0 0] 60)).cell? ⟨wr.heap.size,0,none⟩=some (.int .i64 0):=sG;have z1':(wr.drew.alloc (.cells #[.int .i64 0,.slice none 0 0] 60)).cell? ⟨wr.heap.size,1,none⟩=some (.slice none 0 0):=sG;have zf':∀o,(wr.drew.alloc (.cells #[.int .i64 0,.slice none 0 0] 60)).frozen? ⟨wr.heap.size,o,none⟩=false:=fun o=>sG
   have hlt4:wr.heap.size<(wr.drew.alloc (.cells #[.int .i64 0,.slice none 0 0] 60)).heap.size:=by simp
   have hX0:wr.heap.size≤wr.heap.size:=Nat.le_refl _;try simp only[jX]
   show gI _ _ _ _ _ _ _ _ _ (wr.drew.alloc (.cells #[.int .i64 0,.slice none 0 0] 60));obtain⟨V4,hV4⟩:∃V4,V4=wr.drew.alloc (.cells #[.int .i64 0,.slice none 0 0] 60):=⟨_,rfl⟩
   rw[←hV4] at hB4 hS40 z0' z1' zf' hlt4 ⊢;clear hV4;refine uS 11 rfl (fun K hK=>?_);go_simp;refine(HFk'.out _ (bS hblw hB4)).mono ?_;rintro e W4 ⟨rfl,hb3⟩;have hBW:Below wr.heap.size wr W4:=bS hB4 hb3;have hS4:=And.intro hBW (And.intro (cK hBW y0') (And.intro (cK hBW S4) (And.intro (cK hBW g0) (And.intro (cK hBW t0) (cK hBW t1)))));refine hK _ _ (fun _=>hS4) ?_;clear hK K hS40;have z0:=cK hb3 z0';have z1:=cK hb3 z1';have zf:∀o,W4.frozen? ⟨wr.heap.size,o,none⟩=false:=fun o=>by rw[(bcell hb3).2 _ _ hlt4];exact zf' o
   replace hlt4:wr.heap.size<W4.heap.size:=wL W4 _ z0;clear hb3 z0' z1' zf';try simp only[jX]
   refine tX 12 ?_;refine tX 13 ?_;refine uS 15 rfl (fun K hK=>?_);go_simp;have hB13:Below wr.heap.size wr ((W4.setCell ⟨wr.heap.size,0,none⟩ (.int .i64 id)).setCell ⟨wr.heap.size,1,none⟩ (.slice pl ml ql)):=bset (bset hBW hX0 _) hX0 _;have hS13:=And.intro hB13 (And.intro (cK hB13 y0') (And.intro (cK hB13 S4) (And.intro (cK hB13 g0) (And.intro (cK hB13 t0) (cK hB13 t1)))));refine hK _ _ (fun _=>hS13) ?_;clear hK K;try simp only[jX]
   refine dP ?_;clear hS13;go_wp2_with fail;go_meet
   case rel=>exact⟨_,rfl,by simp[go_sem,z0,z1,zf],by simp[go_sem,z0,z1,zf],hX0,by simp;omega,hB13⟩
  case rest=>
   obtain⟨X,rfl,x0,x1,hX0,hXlt,hBx⟩:=hcut;generalize hwc:wc=w5 at *;clear hwc;have hBw5:=bS hblw hBx;have hB25:=bS hbl hBx;replace S4:=cK hBx S4;replace y2':=cK hBx y2';replace g1:=cK hBx g1;have zS5:w.heap.size<w5.heap.size:=wL w5 _ S4;have zB5:B<w5.heap.size:=wL w5 _ y2';clear g0 t0 t1 y0' HFk' hBx hblw hbl;go_wp2;refine wp_region_noPanic ?_;refine fB (fun W=>W.cell? ⟨B,2,none⟩=some (.slice a2 n2 c2)∧W.cell? ⟨X,0,none⟩=some (.int .i64 id)∧W.cell? ⟨X,1,none⟩=some (.slice pl ml ql)∧W.cell? ⟨w.heap.size,4,none⟩=some (.slice (some ⟨bd,od,none⟩) m q4)∧W.cell? ⟨bd,od+j*2+1,none⟩=some (.int .i64 val)) 13 kF ⟨cK qBq y2',cK qBq x0,cK qBq x1,cK qBq S4,cK qBq g1⟩ (fun hS=>?_);refine tX 0 ?_;refine tX 1 ?_;refine tX 2 ?_;refine tX 3 ?_;refine tX 4 ?_;refine tX 6 ?_;refine tX 7 ?_;refine tX 8 ?_;refine tX 9 ?_;refine tX 10 ?_;refine tX 11 ?_;refine uS 5 rfl (fun K hK=>?_);go_simp;refine(HOk'.out _ (bS hBw5 qBq) (HLv.out _ (bS hBw5 qBq))).mono ?_;rintro e w6 ⟨rfl,hb6⟩;have hB6:=bT w5 hb6;have hS6:=kS5 hb6 hS;refine hK _ _ (fun _=>hS6) ?_;clear hK K hb6 hS HOk' HLv;try simp only[jX]
   have hBw6:=bS hBw5 hB6;have hB26:=bS hB25 hB6;by_cases hhv:hd=val
   ·
    have hhv':(hd !=val)=false:=by simp[hhv]
    have HQ:Hid _:=HG.out hhv;clear HN HG hhv;refine tX 12 (v:=(.bool false)) ?_;refine dP ?_;clear hS6;go_wp2;exact⟨⟨j+1,by omega,by go_num,HQ,hB26⟩,mI⟩
   have hhv':(hd !=val)=true:=by simp[hhv]
   have HC:Hid _:=HN.out hhv;clear HN HG hhv;refine tX 12 (v:=(.bool true)) ?_;refine dP ?_;clear hS6;go_wp2;go_ret;exact⟨rH,hBw6⟩
 obtain rfl:j=m:=oM;have hti:¬(j:Int)<(j:Int):=oM;have HC:Hid (R=true):=HT2.out HS.out;go_wp2;go_ret;exact⟨rH,hblw⟩
theorem fUn {xs:List Mrk} {j:Nat} (h:j<xs.length):xs.getD j default ∈ xs:=by simp[List.getD,h]
theorem fUj {c:Clu} {ysf:Int→Int→List Vot} {x:Cont} {j:Nat} (hj:j<(fD x.legs).length) (h:keyS c ysf x ((fD x.legs).getD j 0)=false):keyX c ysf x=false:=by
 unfold keyX;rw[List.all_eq_false];exact⟨(fD x.legs).getD j 0,fNy hj,by rw[h];simp⟩
theorem fUi {c:Clu} {ysf:Int→Int→List Vot} {x:Cont} (h:∀j,j<(fD x.legs).length→keyS c ysf x ((fD x.legs).getD j 0)=true):keyX c ysf x=true:=by
 unfold keyX;rw[List.all_eq_true];intro s hs;obtain⟨i,hi,rfl⟩:=List.getElem_of_mem hs;have:=h i hi;simpa [List.getD,hi] using this
theorem fSk {c:Clu} {ysf:Int→Int→List Vot} {k:Nat} (hk:k<c.cons.length) (h:keyX c ysf (c.cons.getD k default)=false):yX c ysf=false:=by
 unfold yX;have:c.cons.all (keyX c ysf)=false:=by
  rw[List.all_eq_false];exact⟨c.cons.getD k default,by simp[List.getD,hk],by rw[h];simp⟩
 rw[this];simp
theorem fSl {c:Clu} {ysf:Int→Int→List Vot} {k:Nat} (hk:k<c.shards.length) (h:uB c ysf (c.shards.getD k default)=false):yX c ysf=false:=by
 unfold yX;have:c.shards.all (uB c ysf)=false:=by
  rw[List.all_eq_false];exact⟨c.shards.getD k default,by simp[List.getD,hk],by rw[h];simp⟩
 rw[this];simp
theorem fVd {c:Clu} {ysf:Int→Int→List Vot} (h0:cluF c=0) (h1:∀k,k<c.cons.length→keyX c ysf (c.cons.getD k default)=true) (h2:∀k,k<c.shards.length→uB c ysf (c.shards.getD k default)=true):yX c ysf=true:=by
 unfold yX;rw[decide_eq_true h0,Bool.true_and,Bool.and_eq_true,List.all_eq_true,List.all_eq_true];constructor
 ·intro x hx;obtain⟨i,hi,rfl⟩:=List.getElem_of_mem hx;have:=h1 i hi;simpa [List.getD,hi] using this
 intro x hx;obtain⟨i,hi,rfl⟩:=List.getElem_of_mem hx;have:=h2 i hi;simpa [List.getD,hi] using this
theorem fJp (x:Value) (c:Clu) (ysf:Int→Int→List Vot) (w:World) (hx:cluR.V w x c) (hys:∀i s,freC c.accs i s=0→Chs (fQ c.accs i s) (ysf i s)) (hlen:∀k,k<c.cons.length→(c.cons.getD k default).legs.length≤1048576) (hsz:∀k,k<c.shards.length→(c.shards.getD k default).votes.length≤1048576∧(c.shards.getD k default).done.length≤1048576) (hneed:∀k,k<c.ldrs.length→∀i,i<(c.ldrs.getD k default).tries.length→((c.ldrs.getD k default).tries.getD i default).frm.length≤1048576) :
  RI 6 #[x] w (.bool (yX c ysf)):=by
 have HF:Hid (bW w fun W=>RI 20 #[x] W (.int .i64 (cluS c))):=fun W hW=>fJo x c W (cluR.below hx hW) hlen hsz hneed
 have HV:Hid (bW w fun W=>cluR.V W x c):=fun W hW=>cluR.below hx hW
 have hx':=hx;obtain⟨a0,a1,a2,a3,a4,c0,c1,c2,c3,c4,n0,n1,n2,n3,n4,rfl,e0,e1,e2,e3,e4,L0,L1,L2,L3,L4⟩:=gP hx;obtain⟨u1,u2,u3,u4,u5,eq,h1,h2,h3,h4,h5⟩:=hx';simp only[Value.agg.injEq,Array.mk.injEq,List.cons.injEq,and_true] at eq;obtain⟨rfl,rfl,rfl,rfl,rfl⟩:=eq;have HL13:Hid (cluF c=0→∀k,k<c.shards.length→∀v W,CluB W w.heap.size c→shdR.V W v (c.shards.getD k default)→RI 26 #[.pointer (some ⟨w.heap.size,0,none⟩),v] W (.bool (uB c ysf (c.shards.getD k default)))):=fun h0 k hk v W hB hv=>fIx _ v c _ ysf W hB hv h0 (fun j hj=>fEw (fJi h0 hk _ (fUn hj))) hys
 have HSo:Hid (cluF c=0→∀k,k<c.cons.length→∀p q W,legsR.V W (.slice p (c.cons.getD k default).legs.length q) (c.cons.getD k default).legs→Calls Tryz.prog 21 #[.agg #[.int .i64 (c.cons.getD k default).id,.slice p (c.cons.getD k default).legs.length q]] W fun e w'=>∃v,e =.returned v∧w'.ownsRow W.heap.size 2 1 v (fD (c.cons.getD k default).legs).length (gN (fD (c.cons.getD k default).legs))∧Below W.heap.size W w'):=fun h0 k hk p q W hl=>xI _ _ _ W hl (hlen k hk) (fM2 (yQ h0 hk).1).2
 have HSl:Hid (cluF c=0→∀k,k<c.cons.length→∀s,s ∈ fD (c.cons.getD k default).legs→∀W,Below w.heap.size w W→Calls Tryz.prog 23 #[.slice a2 n2 c2,.int .i64 (c.cons.getD k default).id,.int .i64 s] W fun e w'=>∃v,e =.returned v∧sltsR.V w' v (fQ c.accs (c.cons.getD k default).id s)∧Below W.heap.size W w'):=fun h0 k hk s hs W hW=>by
  refine(fIz _ c.accs _ s W (accsR.below h3 hW) (uD (zM h0)) (fIa h0 hk hs).2).mono ?_;rintro e w' ⟨v,F,rfl,hO,hb⟩;exact⟨v,rfl,sltsR.ofO hO,hb⟩
 have HAg:Hid (cluF c=0→∀k,k<c.cons.length→∀s,s ∈ fD (c.cons.getD k default).legs→∀v W,sltsR.V W v (fQ c.accs (c.cons.getD k default).id s)→RI 22 #[v] W (.bool (agB (fQ c.accs (c.cons.getD k default).id s) (ysf (c.cons.getD k default).id s)))):=fun h0 k hk s hs v W hv=>fGx v _ _ W hv (fun _=>hys _ s (fIa h0 hk hs).1)
 have HCh:Hid (cluF c=0→∀k,k<c.cons.length→∀s,s ∈ fD (c.cons.getD k default).legs→∀W,Below w.heap.size w W→RI 24 #[.slice a2 n2 c2,.int .i64 (c.cons.getD k default).id,.int .i64 s] W (.int .i64 (hdV (ysf (c.cons.getD k default).id s)))):=fun h0 k hk s hs W hW=>fBn _ c.accs _ s _ W (accsR.below h3 hW) (uD (zM h0)) (fIa h0 hk hs).2 (hys _ s (fIa h0 hk hs).1)
 have HSh:Hid (cluF c=0→∀k,k<c.cons.length→∀s,s ∈ fD (c.cons.getD k default).legs→0≤s∧s<(c.shards.length:Int)):=fun h0 k hk=>(yQ h0 hk).2
 have HKs:Hid (∀k s,keyS c ysf (c.cons.getD k default) s=(agB (fQ c.accs (c.cons.getD k default).id s) (ysf (c.cons.getD k default).id s)&&(!decide (hdV (ysf (c.cons.getD k default).id s)=1)||decide (gD (c.cons.getD k default).id (fAl c s).votes=1)))):=fun k s=>rfl
 have HKh:Hid (∀k j,j<(fD (c.cons.getD k default).legs).length→keyS c ysf (c.cons.getD k default) ((fD (c.cons.getD k default).legs).getD j 0)=false→keyX c ysf (c.cons.getD k default)=false):=fun k j hj h=>fUj hj h
 have HKa:Hid (∀k,(∀j,j<(fD (c.cons.getD k default).legs).length→keyS c ysf (c.cons.getD k default) ((fD (c.cons.getD k default).legs).getD j 0)=true)→keyX c ysf (c.cons.getD k default)=true):=fun k h=>fUi h
 have HB1:Hid (∀k,k<c.cons.length→keyX c ysf (c.cons.getD k default)=false→yX c ysf=false):=fun k hk h=>fSk hk h
 have HB2:Hid (∀k,k<c.shards.length→uB c ysf (c.shards.getD k default)=false→yX c ysf=false):=fun k hk h=>fSl hk h
 have HOk:Hid (cluF c=0→(∀k,k<c.cons.length→keyX c ysf (c.cons.getD k default)=true)→(∀k,k<c.shards.length→uB c ysf (c.shards.getD k default)=true)→yX c ysf=true):=fun h0 h1 h2=>fVd h0 h1 h2
 have HNo:Hid (¬cluS c=0→yX c ysf=false):=fun h=>by unfold yX;rw[decide_eq_false (fun h'=>h (cluS_zero.2 h'))];rfl
 have HCS:Hid (cluS c=0→cluF c=0):=fun h=>cluS_zero.1 h
 have HF10:Hid (∀k v id W,k<n1→mrksR.V W v (c.shards.getD k default).votes→RI 25 #[v,.int .i64 id] W (.int .i64 (gD id (c.shards.getD k default).votes))):=fun k v id W _ hv=>vP v _ id W hv
 obtain⟨hnc0,hmc0,HA0⟩:=pE (by rw[e0];exact h1);rw[e0] at hnc0;unfold maxLen at hmc0;have HX0:Hid _:=HA0;obtain⟨_,hnc1,hmc1,HA1⟩:=fGu h2;unfold maxLen at hmc1;have HX1:Hid _:=HA1;rw[e0] at HX0 HSo HSl HAg HCh HSh HB1 HOk;rw[e1] at HL13 HSh HB2 HOk;clear HA0 HA1 h1 h2 h3 h4 h5 hx hneed hlen hsz hys e0 e1 e2 e3 e4 L2 L3 L4;generalize yX c ysf=R at *;go_enter Tryz.func6,Tryz.ntmps6;go_wp2_with fail;refine(HF.out _ qBq).mono ?_;rintro e w1 ⟨rfl,hb1⟩;have hB1:Below w.heap.size w w1:=qBq;have y0:w1.cell? ⟨w.heap.size,0,none⟩=some (.slice a0 n0 c0):=cK hb1 sG;have y1:w1.cell? ⟨w.heap.size,1,none⟩=some (.slice a1 n1 c1):=cK hb1 sG;have y2:w1.cell? ⟨w.heap.size,2,none⟩=some (.slice a2 n2 c2):=cK hb1 sG;have y3:w1.cell? ⟨w.heap.size,3,none⟩=some (.slice a3 n3 c3):=cK hb1 sG;have y4:w1.cell? ⟨w.heap.size,4,none⟩=some (.slice a4 n4 c4):=cK hb1 sG;clear hb1 HF;by_cases hcs:cluS c=0;rotate_left
 ·
  have HC:Hid _:=HNo.out hcs;have hcs':(cluS c !=0)=true:=by simp[hcs]
  clear HL13 HSo HSl HAg HCh HSh HKs HKh HKa HB1 HB2 HOk HNo HCS HF10;generalize cluS c=q at *;go_wp2;go_ret;exact⟨rH,hB1⟩
 have hcf:=HCS.out hcs;have HL13':Hid _:=HL13.out hcf;have HSo':Hid _:=HSo.out hcf;have HSl':Hid _:=HSl.out hcf;have HAg':Hid _:=HAg.out hcf;have HCh':Hid _:=HCh.out hcf;have HSh':Hid _:=HSh.out hcf;have HOk':Hid _:=HOk.out hcf;rw[hcs];clear HL13 HSo HSl HAg HCh HSh HOk HNo HCS hcs hcf;go_wp2;go_loopw [3] (fun i W=>∃k:Nat,k≤n0∧i =.int .i64 k∧Hid (∀k',k'<k→keyX c ysf (c.cons.getD k' default)=true)∧Below w1.heap.size w1 W) (fun i _=>n0-(intOf i).toNat)
 case atStart=>exact⟨0,oM,rfl,fun j hj=>absurd hj oM,bR _ _⟩
 obtain⟨k,hk,rfl,HS,hbl⟩:=hrel;have hBr:=bS hB1 hbl;replace y0:=cK hbl y0;replace y1:=cK hbl y1;replace y2:=cK hbl y2;replace y3:=cK hbl y3;replace y4:=cK hbl y4;have zr0:w.heap.size<wr.heap.size:=wL wr _ y0;by_cases hlt:k<n0
 ·
  have HSk:=HSo'.out k hlt;have HSlk:=HSl'.out k hlt;have HAgk:=HAg'.out k hlt;have HChk:=HCh'.out k hlt;have HShk:=HSh'.out k hlt;have HKsk:=HKs.out k;have HKhk:=HKh.out k;have HKak:=HKa.out k;have HB1k:=HB1.out k hlt;obtain⟨bc,oc,pl,ql,rfl,t0,t1,hlv⟩:=HX0.out k hlt;have HST:Hid (keyX c ysf (c.cons.getD k default)=true→∀k',k'<k+1→keyX c ysf (c.cons.getD k' default)=true):=fun h i hi=>by
   by_cases e:i=k
   ·rw[e];exact h
   exact HS.out i oM
  have HSk1:Hid _:=HSk;have HSl1:Hid _:=HSlk;have HAg1:Hid _:=HAgk;have HCh1:Hid _:=HChk;have HSh1:Hid _:=HShk;have HKs1:Hid _:=HKsk;have HKh1:Hid _:=HKhk;have HKa1:Hid _:=HKak;have HB11:Hid _:=HB1k;have HLv:Hid (bW w fun W=>legsR.V W (.slice pl (c.cons.getD k default).legs.length ql) (c.cons.getD k default).legs):=fun W hW=>legsR.below hlv hW
  clear hlv HSk HSlk HAgk HChk HShk HKsk HKhk HKak HB1k HS;generalize keyX c ysf (c.cons.getD k default)=kx at *;generalize c.cons.getD k default=l at *;replace t0:=cK hBr t0;replace t1:=cK hBr t1;generalize l.legs.length=ml at *;have hk':(k:Int)<(n0:Int):=oM;have hk0:(0:Int)≤(k:Int):=oM;go_wp2_with fail;refine(HSk1.out _ _ _ (HLv.out _ qBq)).mono ?_;rintro e w2 ⟨v2,rfl,ho,hb2⟩;have hB2:=bT wr hb2;have X0:w2.cell? ⟨wr.heap.size,0,none⟩=some (.int .i64 l.id):=cK hb2 sG;have hBw2:=bS hBr hB2;have hB12:=bS hbl hB2;replace y0:=cK hB2 y0;replace y1:=cK hB2 y1;replace y2:=cK hB2 y2;replace y3:=cK hB2 y3;replace y4:=cK hB2 y4;obtain⟨a5,c5,rfl,hc5,hm5,hIV⟩:=kR ho;unfold maxLen at hm5;have HI:Hid _:=hIV;clear ho hb2 hIV HSk1 HLv hB2 hBr hbl t0 t1;obtain⟨SL,hSL⟩:∃SL,SL=fD l.legs:=⟨_,rfl⟩
  rw[←hSL] at HI HSl1 HAg1 HCh1 HSh1 HKh1 HKa1 hc5 ⊢;clear hSL;generalize hmm:SL.length=m at *;generalize wr.heap.size=X at *;generalize l.id=id at *;go_wp2;go_loopw [6] (fun i W=>∃j:Nat,j≤m∧i =.int .i64 j∧Hid (∀j',j'<j→keyS c ysf l (SL.getD j' 0)=true)∧Below w2.heap.size w2 W) (fun i _=>m-(intOf i).toNat)
  case atStart=>exact⟨0,oM,rfl,fun j hj=>absurd hj oM,bR _ _⟩
  obtain⟨j,hj,rfl,HSj,hblj⟩:=hrel;rename World=>w3
  have hBw3:=bS hBw2 hblj;have hB13:=bS hB12 hblj;replace X0:=cK hblj X0;replace y0:=cK hblj y0;replace y1:=cK hblj y1;replace y2:=cK hblj y2;have zX:X<w3.heap.size:=wL w3 _ X0;have zy:w.heap.size<w3.heap.size:=wL w3 _ y0;by_cases hltj:j<m
  ·
   obtain⟨b5,o5,rfl,g5⟩:=HI.out j hltj;have hmem:SL.getD j 0 ∈ SL:=by simp only[List.getD,List.getElem?_eq_getElem (show j<SL.length by rw[hmm];exact hltj),Option.getD_some];exact List.getElem_mem _
   have hs:=HSh1.out (SL.getD j 0) hmem;have HSlj:=HSl1.out (SL.getD j 0) hmem;have HAgj:=HAg1.out (SL.getD j 0) hmem;have HChj:=HCh1.out (SL.getD j 0) hmem;have HKj:=HKs1.out (SL.getD j 0);have HKhj:=HKh1.out j hltj;obtain⟨sN,hsN⟩:∃sN:Nat,SL.getD j 0=(sN:Int):=⟨(SL.getD j 0).toNat,by omega⟩
   have HG:Hid (keyS c ysf l (sN:Int)=true→∀j',j'<j+1→keyS c ysf l (SL.getD j' 0)=true):=fun h j' hj'=>by
    by_cases e:j'=j
    ·rw[e,hsN];exact h
    exact HSj.out j' oM
   rw[hsN] at g5 hs HSlj HAgj HChj HKj HKhj;unfold fAl at HKj;rw[Int.toNat_natCast] at HKj;have HSlk:Hid _:=HSlj;have HAgk:Hid _:=HAgj;have HChk:Hid _:=HChj;have HKhk:Hid _:=HKhj;have hsn:sN<n1:=oM;have HA:=HX1.out sN hsn;have HFk:=HF10.out sN;obtain⟨s,hs0⟩:∃s,s=c.shards.getD sN default:=⟨_,rfl⟩
   rw[←hs0] at HA HFk HKj;have HKk:Hid _:=HKj;obtain⟨b,o,v1,v2,v3,v4,v5,rfl,_,_,r2,_,_,_,hv⟩:=HA;obtain⟨_,_,_,_,_,eq,k1,k2,k3,k4,k5⟩:=hv;simp only[Value.agg.injEq,Array.mk.injEq,List.cons.injEq,and_true,true_and] at eq;obtain⟨rfl,rfl,rfl,rfl,rfl⟩:=eq;have HFv:Hid (bW w fun W=>RI 25 #[v2,.int .i64 id] W (.int .i64 (gD id s.votes))):=fun W hW=>HFk v2 id W hsn (mrksR.below k2 hW)
   clear hsN hmem hs0 HSlj HAgj HChj HKj HKhj HFk k1 k2 k3 k4 k5 HSj;replace g5:=cK hblj g5;replace r2:=cK hBw3 r2;have hj':(j:Int)<(m:Int):=oM;have hj0:(0:Int)≤(j:Int):=oM;have hs1:(sN:Int)<(n1:Int):=oM;have hs2:(0:Int)≤(sN:Int):=oM;generalize fQ c.accs id (sN:Int)=D at *;generalize agB D (ysf id (sN:Int))=ag at *;generalize hdV (ysf id (sN:Int))=hv at *;generalize keyS c ysf l (sN:Int)=kk at *;generalize gD id s.votes=fv at *;go_wp2;refine wp_region_noPanic ?_;refine fB (fun W=>W.cell? ⟨w.heap.size,2,none⟩=some (.slice a2 n2 c2)∧W.cell? ⟨X,0,none⟩=some (.int .i64 id)∧W.cell? ⟨b5,o5+j,none⟩=some (.int .i64 (sN:Int))) 11 kF ⟨cK qBq y2,cK qBq X0,cK qBq g5⟩ (fun hS=>?_);refine tX 0 ?_;refine tX 1 ?_;refine tX 2 ?_;refine tX 3 ?_;refine tX 4 ?_;refine tX 5 ?_;refine tX 6 ?_;refine tX 7 ?_;refine uS 8 rfl (fun K hK=>?_);go_simp;refine(HSlk.out _ (bS hBw3 qBq)).mono ?_;rintro e w4 ⟨v4',rfl,hv4,hb4⟩;have hB34:=bT w3 hb4;have hS4:=kS3 hb4 hS;have HV4:Hid _:=hv4;refine hK _ _ (fun _=>hS4) ?_;clear hK K hb4 hS hv4 HSlk;try simp only[jX]
   refine uS 9 rfl (fun K hK=>?_);go_simp;refine(HAgk.out _ _ (sltsR.below HV4.out (by first|exact bR _ _|(repeat (first|exact bR _ _|assumption|refine bD ?_|refine bA ?_ _|refine bset ?_ (by simp;omega) _|refine bset ?_ (by simp) _|refine bS ?_ (by assumption)))))).mono ?_;rintro e w5 ⟨rfl,hb5⟩;have hB35:Below w3.heap.size w3 w5:=bS (bS hB34 qBq) hb5;have hS5:=kS3 hb5 hS4;refine hK _ _ (fun _=>hS5) ?_;clear hK K hb5 hS4 HV4 HAgk hB34;try simp only[jX]
   have hBw5:=bS hBw3 hB35;have hB25:=bS hblj hB35;cases ag
   ·have HC:Hid (R=false):=HB11.out (HKhk.out (by rw[HKk.out];rfl));clear HKhk HKk HG HST HChk HFv;refine tX 10 ?_;refine dP ?_;clear hS5;go_wp2;go_ret;exact⟨rH,hBw5⟩
   have HKk2:Hid (kk=(!decide (hv=1)||decide (fv=1))):=by show _=_;rw[HKk.out];simp
   clear HKk;refine tX 10 ?_;refine dP ?_;clear hS5;replace y1:=cK hB35 y1;replace y2:=cK hB35 y2;replace X0:=cK hB35 X0;replace g5:=cK hB35 g5;replace r2:=cK hB35 r2;clear hBw3 hB13 hB35 zX zy y0 hblj;go_wp2;refine wp_region_noPanic ?_;refine fB (fun W=>W.cell? ⟨w.heap.size,1,none⟩=some (.slice (some ⟨b,o,none⟩) n1 c1)∧W.cell? ⟨w.heap.size,2,none⟩=some (.slice a2 n2 c2)∧W.cell? ⟨X,0,none⟩=some (.int .i64 id)∧W.cell? ⟨b5,o5+j,none⟩=some (.int .i64 (sN:Int))∧W.cell? ⟨b,o+sN*6+2,none⟩=some v2) 25 kF ⟨cK qBq y1,cK qBq y2,cK qBq X0,cK qBq g5,cK qBq r2⟩ (fun hS=>?_);refine tX 0 ?_;refine tX 1 ?_;refine tX 2 ?_;refine tX 3 ?_;refine tX 4 ?_;refine tX 5 ?_;refine tX 6 ?_;refine tX 7 ?_;refine uS 8 rfl (fun K hK=>?_);go_simp;refine(HChk.out _ (bS hBw5 qBq)).mono ?_;rintro e w6 ⟨rfl,hb6⟩;have hB56:=bT w5 hb6;have hS6:=kS5 hb6 hS;refine hK _ _ (fun _=>hS6) ?_;clear hK K hb6 hS HChk;try simp only[jX]
   have hBw6:=bS hBw5 hB56;have hB26:=bS hB25 hB56;by_cases hv1:hv=1
   ·
    have hv1':(hv==1)=true:=by simp[hv1]
    have HKk3:Hid (kk=decide (fv=1)):=by show _=_;rw[HKk2.out,decide_eq_true hv1];simp
    clear HKk2 hv1;refine tX 9 (v:=(.bool true)) ?_;refine tX 10 ?_;refine tX 11 ?_;refine tX 12 ?_;refine tX 13 ?_;refine tX 14 ?_;refine tX 15 ?_;refine tX 16 ?_;refine tX 17 ?_;refine tX 18 ?_;refine tX 19 ?_;refine tX 20 ?_;refine tX 21 ?_;refine uS 22 rfl (fun K hK=>?_);go_simp;refine(HFv.out _ (bS hBw6 qBq)).mono ?_;rintro e w7 ⟨rfl,hb7⟩;have hB67:=bT w6 hb7;have hS7:=kS5 hb7 hS6;refine hK _ _ (fun _=>hS7) ?_;clear hK K hb7 hS6 HFv;try simp only[jX]
    have hBw7:=bS hBw6 hB67;have hB27:=bS hB26 hB67;by_cases hfv:fv=1
    ·
     have hfv':(fv !=1)=false:=by simp[hfv]
     have HQ:Hid _:=HG.out (by rw[HKk3.out,decide_eq_true hfv]);clear HKk3 HG HKhk HST hfv;refine tX 23 (v:=(.bool false)) ?_;refine tX 24 ?_;refine dP ?_;clear hS7;go_wp2;exact⟨⟨j+1,by omega,by go_num,HQ,hB27⟩,mI⟩
    have hfv':(fv !=1)=true:=by simp[hfv]
    have HC:Hid (R=false):=HB11.out (HKhk.out (by rw[HKk3.out,decide_eq_false hfv]));clear HKk3 HG HKhk HST hfv;refine tX 23 (v:=(.bool true)) ?_;refine tX 24 ?_;refine dP ?_;clear hS7;go_wp2;go_ret;exact⟨rH,hBw7⟩
   have hv1':(hv==1)=false:=by simp[hv1]
   have HQ:Hid _:=HG.out (by rw[HKk2.out,decide_eq_false hv1];simp);clear HKk2 HG HKhk HST hv1 HFv;refine tX 9 (v:=(.bool false)) ?_;refine tX 10 ?_;refine sX 11 fun _=>?_
   refine sX 12 fun _=>?_
   refine sX 13 fun _=>?_
   refine sX 14 fun _=>?_
   refine sX 15 fun _=>?_
   refine sX 16 fun _=>?_
   refine sX 17 fun _=>?_
   refine sX 18 fun _=>?_
   refine sX 19 fun _=>?_
   refine sX 20 fun _=>?_
   refine sX 21 fun _=>?_
   refine sX 22 fun _=>?_
   refine sX 23 fun _=>?_
   refine tX 24 (v:=(.bool false)) ?_;refine dP ?_;clear hS6;go_wp2;exact⟨⟨j+1,by omega,by go_num,HQ,hB26⟩,mI⟩
  obtain rfl:j=m:=oM;have hti:¬(j:Int)<(j:Int):=oM;have HQ:Hid _:=HST.out (HKa1.out HSj.out);clear HST HSj HKa1;go_wp2;exact⟨⟨k+1,by omega,by go_num,HQ,hB13⟩,mI⟩
 obtain rfl:k=n0:=oM;have hti:¬(k:Int)<(k:Int):=oM;have HOk2:Hid _:=HOk'.out HS.out;clear HS HOk';clear HSo' HSl' HAg' HCh' HSh' HKs HKh HKa HB1 HF10 HX0;go_wp2;go_loopw [7] (fun i W=>∃i2:Nat,i2≤n1∧i =.int .i64 i2∧Hid (∀k',k'<i2→uB c ysf (c.shards.getD k' default)=true)∧Below wr.heap.size wr W) (fun i _=>n1-(intOf i).toNat)
 case atStart=>exact⟨0,oM,rfl,fun j hj=>absurd hj oM,bR _ _⟩
 obtain⟨i2,hi2,rfl,HS2,hbl2⟩:=hrel;rename World=>w3
 have hBw3:=bS hBr hbl2;replace y0:=cK hbl2 y0;replace y1:=cK hbl2 y1;replace y2:=cK hbl2 y2;replace y3:=cK hbl2 y3;replace y4:=cK hbl2 y4;have zy:w.heap.size<w3.heap.size:=wL w3 _ y0;by_cases hlt2:i2<n1
 ·
  have HLk:=HL13'.out i2 hlt2;have HBk:=HB2.out i2 hlt2;obtain⟨b,o,v1,v2,v3,v4,v5,rfl,r0,r1,r2,r3,r4,r5,hv⟩:=HX1.out i2 hlt2;have HSt:Hid (uB c ysf (c.shards.getD i2 default)=true→∀k',k'<i2+1→uB c ysf (c.shards.getD k' default)=true):=fun h i hi=>by
   by_cases e:i=i2
   ·rw[e];exact h
   exact HS2.out i oM
  have HCl:Hid (bW w3 fun W=>RI 26 #[.pointer (some ⟨w.heap.size,0,none⟩),.agg #[.int .i64 (c.shards.getD i2 default).idx,v1,v2,v3,v4,v5]] W (.bool (uB c ysf (c.shards.getD i2 default)))):=fun W hW=>HLk _ W (CluB.below ⟨_,_,_,_,_,_,_,_,_,_,_,_,_,_,_,⟨y0,y1,y2,y3,y4⟩,HV.out _ hBw3⟩ hW) (shdR.below hv (bS hBw3 hW))
  have HBk':Hid _:=HBk;clear HLk HBk hv HS2;generalize uB c ysf (c.shards.getD i2 default)=dn at *;generalize (c.shards.getD i2 default).idx=ix at *;replace r0:=cK hBw3 r0;replace r1:=cK hBw3 r1;replace r2:=cK hBw3 r2;replace r3:=cK hBw3 r3;replace r4:=cK hBw3 r4;replace r5:=cK hBw3 r5;have hk':(i2:Int)<(n1:Int):=oM;have hk0:(0:Int)≤(i2:Int):=oM;go_wp2_with fail;refine(HCl.out _ qBq).mono ?_;rintro e w4 ⟨rfl,hb4⟩;have hB34:=bT w3 hb4;have hBw4:=bS hBw3 hB34;have hBr4:=bS hbl2 hB34;clear hb4 HCl;cases dn
  ·have HC:Hid (R=false):=HBk'.out rfl;clear HBk' HSt;go_wp2;go_ret;exact⟨rH,hBw4⟩
  have HQ:Hid _:=HSt.out rfl;clear HBk' HSt;go_wp2;exact⟨⟨i2+1,by omega,by go_num,HQ,hBr4⟩,mI⟩
 obtain rfl:i2=n1:=oM;have hti2:¬(i2:Int)<(i2:Int):=oM;have HC:Hid (R=true):=HOk2.out HS2.out;go_wp2;go_ret;exact⟨rH,hBw3⟩
theorem zkeep {w W:World} {B:Nat} (h:Below w.heap.size w W) (z:w.cell? ⟨B,0,none⟩=some (.func (.func 76) #[] #[])∧w.cell? ⟨B,1,none⟩=some (.func (.func 77) #[] #[])∧w.cell? ⟨B,2,none⟩=some (.func (.func 78) #[] #[])∧w.cell? ⟨B,3,none⟩=some (.func (.func 79) #[] #[])∧w.cell? ⟨B,4,none⟩=some (.func (.func 80) #[] #[])∧w.cell? ⟨B,5,none⟩=some (.func (.func 81) #[] #[])∧w.cell? ⟨B,6,none⟩=some (.func (.func 82) #[] #[])∧w.cell? ⟨B,7,none⟩=some (.func (.func 83) #[] #[])):W.cell? ⟨B,0,none⟩=some (.func (.func 76) #[] #[])∧W.cell? ⟨B,1,none⟩=some (.func (.func 77) #[] #[])∧W.cell? ⟨B,2,none⟩=some (.func (.func 78) #[] #[])∧W.cell? ⟨B,3,none⟩=some (.func (.func 79) #[] #[])∧W.cell? ⟨B,4,none⟩=some (.func (.func 80) #[] #[])∧W.cell? ⟨B,5,none⟩=some (.func (.func 81) #[] #[])∧W.cell? ⟨B,6,none⟩=some (.func (.func 82) #[] #[])∧W.cell? ⟨B,7,none⟩=some (.func (.func 83) #[] #[]):=⟨cK h z.1,cK h z.2.1,cK h z.2.2.1,cK h z.2.2.2.1,cK h z.2.2.2.2.1,cK h z.2.2.2.2.2.1,cK h z.2.2.2.2.2.2.1,cK h z.2.2.2.2.2.2.2⟩
theorem fIk (x:Value) (c:Clu) (w:World) (hx:cluR.V w x c) (hneed:∀k,k<c.ldrs.length→∀i,i<(c.ldrs.getD k default).tries.length→((c.ldrs.getD k default).tries.getD i default).frm.length≤1048576) :
  RI 32 #[x] w (.int .i64 (cluF c)):=by
 have HV:∀W,Below w.heap.size w W→cluR.V W x c:=fun W hW=>cluR.below hx hW
 have HF0:Hid (bW w fun W=>RI 76 #[x] W (.int .i64 (kN c 0))):=fun W hW=>fSq x c W (HV W hW)
 have eg0:=enters_of Tryz.func76 kF rfl;have HF1:Hid (bW w fun W=>RI 77 #[x] W (.int .i64 (kN c 1))):=fun W hW=>fD0 x c W (HV W hW)
 have eg1:=enters_of Tryz.func77 kF rfl;have HF2:Hid (bW w fun W=>RI 78 #[x] W (.int .i64 (kN c 2))):=fun W hW=>fL5 x c W (HV W hW)
 have eg2:=enters_of Tryz.func78 kF rfl;have HF3:Hid (bW w fun W=>RI 79 #[x] W (.int .i64 (kN c 3))):=fun W hW=>fQd x c W (HV W hW)
 have eg3:=enters_of Tryz.func79 kF rfl;have HF4:Hid (bW w fun W=>RI 80 #[x] W (.int .i64 (kN c 4))):=fun W hW=>fI0 x c W (HV W hW)
 have eg4:=enters_of Tryz.func80 kF rfl;have HF5:Hid (bW w fun W=>RI 81 #[x] W (.int .i64 (kN c 5))):=fun W hW=>fQu x c W (HV W hW) hneed
 have eg5:=enters_of Tryz.func81 kF rfl;have HF6:Hid (bW w fun W=>RI 82 #[x] W (.int .i64 (kN c 6))):=fun W hW=>fPn x c W (HV W hW)
 have eg6:=enters_of Tryz.func82 kF rfl;have HF7:Hid (bW w fun W=>RI 83 #[x] W (.int .i64 (kN c 7))):=fun W hW=>fGg x c W (HV W hW)
 have eg7:=enters_of Tryz.func83 kF rfl;clear HV hneed;obtain⟨a0,a1,a2,a3,a4,c0,c1,c2,c3,c4,n0,n1,n2,n3,n4,rfl,e0,e1,e2,e3,e4,L0,L1,L2,L3,L4⟩:=gP hx;clear hx e0 e1 e2 e3 e4 L0 L1 L2 L3 L4;have H1:Hid (∀k,k<8→fC (kN c) k=0→¬kN c k=0→cluF c=kN c k):=fun k hk hs h0=>fK hs h0 8 hk
 have H2:Hid (fC (kN c) 8=0→cluF c=0):=fun h=>h
 generalize cluF c=R at *;go_enter Tryz.func32,Tryz.ntmps32;go_wp2;go_loopw [10] (fun i w'=>∃k:Nat,k≤8∧i =.int .i64 k∧Hid (fC (kN c) k=0)∧(w'.cell? ⟨w.heap.size,0,none⟩=some (.slice a0 n0 c0)∧w'.cell? ⟨w.heap.size,1,none⟩=some (.slice a1 n1 c1)∧w'.cell? ⟨w.heap.size,2,none⟩=some (.slice a2 n2 c2)∧w'.cell? ⟨w.heap.size,3,none⟩=some (.slice a3 n3 c3)∧w'.cell? ⟨w.heap.size,4,none⟩=some (.slice a4 n4 c4))∧(w'.cell? ⟨w.heap.size+1,0,none⟩=some (.func (.func 76) #[] #[])∧w'.cell? ⟨w.heap.size+1,1,none⟩=some (.func (.func 77) #[] #[])∧w'.cell? ⟨w.heap.size+1,2,none⟩=some (.func (.func 78) #[] #[])∧w'.cell? ⟨w.heap.size+1,3,none⟩=some (.func (.func 79) #[] #[])∧w'.cell? ⟨w.heap.size+1,4,none⟩=some (.func (.func 80) #[] #[])∧w'.cell? ⟨w.heap.size+1,5,none⟩=some (.func (.func 81) #[] #[])∧w'.cell? ⟨w.heap.size+1,6,none⟩=some (.func (.func 82) #[] #[])∧w'.cell? ⟨w.heap.size+1,7,none⟩=some (.func (.func 83) #[] #[]))∧Below w.heap.size w w') (fun i _=>8-(intOf i).toNat)
 case atStart=>exact⟨0,oM,rfl,rfl,⟨sG,by simp[go_sem],sG,by simp[go_sem],sG⟩,⟨sG,by simp[go_sem],sG,by simp[go_sem],sG,by simp[go_sem],sG,by simp[go_sem]⟩,qBq⟩
 obtain⟨k,hk,rfl,HS,Y,Z,hbl⟩:=hrel;have zq:w.heap.size<wr.heap.size:=wL wr _ Y.1;obtain rfl|rfl|rfl|rfl|rfl|rfl|rfl|rfl|rfl:k=0∨k=1∨k=2∨k=3∨k=4∨k=5∨k=6∨k=7∨k=8:=oM
 ·
  have HH:Hid (¬kN c 0=0→R=kN c 0):=fun h=>H1.out 0 oM HS.out h
  have HZ:Hid (kN c 0=0→fC (kN c) 1=0):=fun h=>fE HS.out h
  have HC:Hid _:=HF0.out;clear H1 H2 HS HF0 HF1 HF2 HF3 HF4 HF5 HF6 HF7 eg1 eg2 eg3 eg4 eg5 eg6 eg7;obtain⟨y0,y1,y2,y3,y4⟩:=Y;have z0:=Z.1;generalize kN c 0=z at *;go_wp2_with fail;refine(HC.out _ qBq).mono ?_;rintro e w1 ⟨rfl,hb1⟩;have hB1:=bT w hb1;have Y1:=ykeep hb1 (ykeep qBq (And.intro y0 (And.intro y1 (And.intro y2 (And.intro y3 y4)))));have Z1:=zkeep hb1 (zkeep qBq Z);clear hb1 HC Z;by_cases hz:z=0
  ·have HQ:Hid _:=HZ.out hz;subst hz;clear HH HZ;go_wp2;exact⟨⟨1,by omega,by first|rfl|go_num,HQ,Y1,Z1,hB1⟩,by simp[intOf]⟩
  have HR:Hid _:=HH.out hz;have hz':(z !=0)=true:=by simp[hz]
  clear HH HZ;go_wp2;go_ret;exact⟨by rw[HR.out];rfl,hB1⟩
 ·
  have HH:Hid (¬kN c 1=0→R=kN c 1):=fun h=>H1.out 1 oM HS.out h
  have HZ:Hid (kN c 1=0→fC (kN c) 2=0):=fun h=>fE HS.out h
  have HC:Hid _:=HF1.out;clear H1 H2 HS HF0 HF1 HF2 HF3 HF4 HF5 HF6 HF7 eg0 eg2 eg3 eg4 eg5 eg6 eg7;obtain⟨y0,y1,y2,y3,y4⟩:=Y;have z1:=Z.2.1;generalize kN c 1=z at *;go_wp2_with fail;refine(HC.out _ qBq).mono ?_;rintro e w1 ⟨rfl,hb1⟩;have hB1:=bT w hb1;have Y1:=ykeep hb1 (ykeep qBq (And.intro y0 (And.intro y1 (And.intro y2 (And.intro y3 y4)))));have Z1:=zkeep hb1 (zkeep qBq Z);clear hb1 HC Z;by_cases hz:z=0
  ·have HQ:Hid _:=HZ.out hz;subst hz;clear HH HZ;go_wp2;exact⟨⟨2,by omega,by first|rfl|go_num,HQ,Y1,Z1,hB1⟩,by simp[intOf]⟩
  have HR:Hid _:=HH.out hz;have hz':(z !=0)=true:=by simp[hz]
  clear HH HZ;go_wp2;go_ret;exact⟨by rw[HR.out];rfl,hB1⟩
 ·
  have HH:Hid (¬kN c 2=0→R=kN c 2):=fun h=>H1.out 2 oM HS.out h
  have HZ:Hid (kN c 2=0→fC (kN c) 3=0):=fun h=>fE HS.out h
  have HC:Hid _:=HF2.out;clear H1 H2 HS HF0 HF1 HF2 HF3 HF4 HF5 HF6 HF7 eg0 eg1 eg3 eg4 eg5 eg6 eg7;obtain⟨y0,y1,y2,y3,y4⟩:=Y;have z2:=Z.2.2.1;generalize kN c 2=z at *;go_wp2_with fail;refine(HC.out _ qBq).mono ?_;rintro e w1 ⟨rfl,hb1⟩;have hB1:=bT w hb1;have Y1:=ykeep hb1 (ykeep qBq (And.intro y0 (And.intro y1 (And.intro y2 (And.intro y3 y4)))));have Z1:=zkeep hb1 (zkeep qBq Z);clear hb1 HC Z;by_cases hz:z=0
  ·have HQ:Hid _:=HZ.out hz;subst hz;clear HH HZ;go_wp2;exact⟨⟨3,by omega,by first|rfl|go_num,HQ,Y1,Z1,hB1⟩,by simp[intOf]⟩
  have HR:Hid _:=HH.out hz;have hz':(z !=0)=true:=by simp[hz]
  clear HH HZ;go_wp2;go_ret;exact⟨by rw[HR.out];rfl,hB1⟩
 ·
  have HH:Hid (¬kN c 3=0→R=kN c 3):=fun h=>H1.out 3 oM HS.out h
  have HZ:Hid (kN c 3=0→fC (kN c) 4=0):=fun h=>fE HS.out h
  have HC:Hid _:=HF3.out;clear H1 H2 HS HF0 HF1 HF2 HF3 HF4 HF5 HF6 HF7 eg0 eg1 eg2 eg4 eg5 eg6 eg7;obtain⟨y0,y1,y2,y3,y4⟩:=Y;have z3:=Z.2.2.2.1;generalize kN c 3=z at *;go_wp2_with fail;refine(HC.out _ qBq).mono ?_;rintro e w1 ⟨rfl,hb1⟩;have hB1:=bT w hb1;have Y1:=ykeep hb1 (ykeep qBq (And.intro y0 (And.intro y1 (And.intro y2 (And.intro y3 y4)))));have Z1:=zkeep hb1 (zkeep qBq Z);clear hb1 HC Z;by_cases hz:z=0
  ·have HQ:Hid _:=HZ.out hz;subst hz;clear HH HZ;go_wp2;exact⟨⟨4,by omega,by first|rfl|go_num,HQ,Y1,Z1,hB1⟩,by simp[intOf]⟩
  have HR:Hid _:=HH.out hz;have hz':(z !=0)=true:=by simp[hz]
  clear HH HZ;go_wp2;go_ret;exact⟨by rw[HR.out];rfl,hB1⟩
 ·
  have HH:Hid (¬kN c 4=0→R=kN c 4):=fun h=>H1.out 4 oM HS.out h
  have HZ:Hid (kN c 4=0→fC (kN c) 5=0):=fun h=>fE HS.out h
  have HC:Hid _:=HF4.out;clear H1 H2 HS HF0 HF1 HF2 HF3 HF4 HF5 HF6 HF7 eg0 eg1 eg2 eg3 eg5 eg6 eg7;obtain⟨y0,y1,y2,y3,y4⟩:=Y;have z4:=Z.2.2.2.2.1;generalize kN c 4=z at *;go_wp2_with fail;refine(HC.out _ qBq).mono ?_;rintro e w1 ⟨rfl,hb1⟩;have hB1:=bT w hb1;have Y1:=ykeep hb1 (ykeep qBq (And.intro y0 (And.intro y1 (And.intro y2 (And.intro y3 y4)))));have Z1:=zkeep hb1 (zkeep qBq Z);clear hb1 HC Z;by_cases hz:z=0
  ·have HQ:Hid _:=HZ.out hz;subst hz;clear HH HZ;go_wp2;exact⟨⟨5,by omega,by first|rfl|go_num,HQ,Y1,Z1,hB1⟩,by simp[intOf]⟩
  have HR:Hid _:=HH.out hz;have hz':(z !=0)=true:=by simp[hz]
  clear HH HZ;go_wp2;go_ret;exact⟨by rw[HR.out];rfl,hB1⟩
 ·
  have HH:Hid (¬kN c 5=0→R=kN c 5):=fun h=>H1.out 5 oM HS.out h
  have HZ:Hid (kN c 5=0→fC (kN c) 6=0):=fun h=>fE HS.out h
  have HC:Hid _:=HF5.out;clear H1 H2 HS HF0 HF1 HF2 HF3 HF4 HF5 HF6 HF7 eg0 eg1 eg2 eg3 eg4 eg6 eg7;obtain⟨y0,y1,y2,y3,y4⟩:=Y;have z5:=Z.2.2.2.2.2.1;generalize kN c 5=z at *;go_wp2_with fail;refine(HC.out _ qBq).mono ?_;rintro e w1 ⟨rfl,hb1⟩;have hB1:=bT w hb1;have Y1:=ykeep hb1 (ykeep qBq (And.intro y0 (And.intro y1 (And.intro y2 (And.intro y3 y4)))));have Z1:=zkeep hb1 (zkeep qBq Z);clear hb1 HC Z;by_cases hz:z=0
  ·have HQ:Hid _:=HZ.out hz;subst hz;clear HH HZ;go_wp2;exact⟨⟨6,by omega,by first|rfl|go_num,HQ,Y1,Z1,hB1⟩,by simp[intOf]⟩
  have HR:Hid _:=HH.out hz;have hz':(z !=0)=true:=by simp[hz]
  clear HH HZ;go_wp2;go_ret;exact⟨by rw[HR.out];rfl,hB1⟩
 ·
  have HH:Hid (¬kN c 6=0→R=kN c 6):=fun h=>H1.out 6 oM HS.out h
  have HZ:Hid (kN c 6=0→fC (kN c) 7=0):=fun h=>fE HS.out h
  have HC:Hid _:=HF6.out;clear H1 H2 HS HF0 HF1 HF2 HF3 HF4 HF5 HF6 HF7 eg0 eg1 eg2 eg3 eg4 eg5 eg7;obtain⟨y0,y1,y2,y3,y4⟩:=Y;have z6:=Z.2.2.2.2.2.2.1;generalize kN c 6=z at *;go_wp2_with fail;refine(HC.out _ qBq).mono ?_;rintro e w1 ⟨rfl,hb1⟩;have hB1:=bT w hb1;have Y1:=ykeep hb1 (ykeep qBq (And.intro y0 (And.intro y1 (And.intro y2 (And.intro y3 y4)))));have Z1:=zkeep hb1 (zkeep qBq Z);clear hb1 HC Z;by_cases hz:z=0
  ·have HQ:Hid _:=HZ.out hz;subst hz;clear HH HZ;go_wp2;exact⟨⟨7,by omega,by first|rfl|go_num,HQ,Y1,Z1,hB1⟩,by simp[intOf]⟩
  have HR:Hid _:=HH.out hz;have hz':(z !=0)=true:=by simp[hz]
  clear HH HZ;go_wp2;go_ret;exact⟨by rw[HR.out];rfl,hB1⟩
 ·
  have HH:Hid (¬kN c 7=0→R=kN c 7):=fun h=>H1.out 7 oM HS.out h
  have HZ:Hid (kN c 7=0→fC (kN c) 8=0):=fun h=>fE HS.out h
  have HC:Hid _:=HF7.out;clear H1 H2 HS HF0 HF1 HF2 HF3 HF4 HF5 HF6 HF7 eg0 eg1 eg2 eg3 eg4 eg5 eg6;obtain⟨y0,y1,y2,y3,y4⟩:=Y;have z7:=Z.2.2.2.2.2.2.2;generalize kN c 7=z at *;go_wp2_with fail;refine(HC.out _ qBq).mono ?_;rintro e w1 ⟨rfl,hb1⟩;have hB1:=bT w hb1;have Y1:=ykeep hb1 (ykeep qBq (And.intro y0 (And.intro y1 (And.intro y2 (And.intro y3 y4)))));have Z1:=zkeep hb1 (zkeep qBq Z);clear hb1 HC Z;by_cases hz:z=0
  ·have HQ:Hid _:=HZ.out hz;subst hz;clear HH HZ;go_wp2;exact⟨⟨8,by omega,by first|rfl|go_num,HQ,Y1,Z1,hB1⟩,by simp[intOf]⟩
  have HR:Hid _:=HH.out hz;have hz':(z !=0)=true:=by simp[hz]
  clear HH HZ;go_wp2;go_ret;exact⟨by rw[HR.out];rfl,hB1⟩
 have HC:Hid (R=0):=H2.out HS.out;go_wp2;go_ret;exact⟨rH,hbl⟩
end
end Go.Proofs.YtbfnobcidnmohaaGreat

import Derived.BigQuiet
import Derived.Deep.QuietTactic
import Derived.Deep.RegionHeld3
import Derived.Test.YtbfnobcidnmohaaGreatPrnBooksBalanceLaw25
import Derived.Deep.Slices
import Derived.Lib.SmallJoins
import Derived.Deep.Strs
set_option maxHeartbeats 32000000
set_option maxRecDepth 20000
set_option linter.unusedSimpArgs false
set_option linter.unusedVariables false
set_option linter.unusedSectionVars false
namespace Go.Proofs.YtbfnobcidnmohaaGreat
open Go.RowKit
variable [DecidableEq Vot] [Inhabited Vot] [DecidableEq Slt] [Inhabited Slt] [DecidableEq SltR] [Inhabited SltR] [DecidableEq Bal] [Inhabited Bal] [DecidableEq Ledg] [Inhabited Ledg] [DecidableEq Leg] [Inhabited Leg] [DecidableEq Acc] [Inhabited Acc] [DecidableEq AccR] [Inhabited AccR] [DecidableEq AccsR] [Inhabited AccsR] [DecidableEq SltsR] [Inhabited SltsR]
attribute [local go_sem ↓] Go.wp_at_zero Go.wp_at_succ
theorem fIx (x:Value) (d:Acc) (w:World) (hx:accR.V w x d) :
  Calls Tryz.prog 122 #[x] w fun e w'=>e = .returned (.int .i64 (accF d.slots))∧Below w.heap.size w w':=by
 obtain⟨u1,rfl,hx⟩:=hx;obtain⟨ax,cx,rfl,hcx,hmx,hx⟩:=hx;unfold maxLen at hmx;obtain⟨xs⟩:=d;dsimp only at hx hcx ⊢;obtain⟨n,hn'⟩:∃n,n=xs.length:=⟨_,rfl⟩
 have HN:Hid (xs.length=n):=hn'.symm;rw[←hn'] at hcx hx ⊢;clear hn';by_cases h6:60<n
 ·
  have HC:Hid (accF xs=2):=fGv (by rw[HN.out];exact h6);have h6':(60:Int)<n:=by omega
  clear hx;go_enter Tryz.func122,Tryz.ntmps122;go_wp2;go_ret;exact⟨by rw[HC.out];rfl,qBq⟩
 have h6':¬(60:Int)<n:=by omega
 have HH:Hid (∀k c,k<n→fC (rF xs) k=0→rF xs k=c→¬c=0→accF xs=c):=fun k c hk hs hc h0=>fLu (by rw[HN.out];exact h6) (by rw[HN.out];exact hk) hs hc h0
 have HE:Hid (fC (rF xs) n=0→accF xs=0):=fun hs=>fLt (by rw[HN.out];exact h6) (by rw[HN.out];exact hs)
 clear h6;go_enter Tryz.func122,Tryz.ntmps122;go_wp2;go_loopw [3] (fun i w'=>∃k:Nat,k≤n∧i = .int .i64 k∧fC (rF xs) k=0∧w'.cell? ⟨w.heap.size,0,none⟩=some (.slice ax n cx)∧Below w.heap.size w w') (fun i _=>n-(intOf i).toNat)
 case atStart=>exact⟨0,Nat.zero_le _,rfl,rfl,by simp[go_sem],qBq⟩
 obtain⟨k,hk,rfl,hs,hq,hbl⟩:=hrel;have HS:Hid (fC (rF xs) k=0):=hs;clear hs;by_cases hlt:k<n
 ·
  obtain⟨bxa,oxa,ua,rfl,_,pa,hva⟩:=hx k (by omega);obtain⟨l,hla⟩:∃l,l=xs.getD k default:=⟨_,rfl⟩
  rw[←hla] at hva;have HLa:Hid (l=xs.getD k default):=hla;clear hla;have hVa:=hva;obtain⟨sa,rfl,hca⟩:=hva;obtain⟨aua,cua,rfl⟩:=pJ hca;clear hca;have ga0:w.cell? ⟨bxa,oxa+k*6,none⟩=some (.int .i64 l.con):=pa 0 (by omega);have ga1:w.cell? ⟨bxa,oxa+k*6+1,none⟩=some (.int .i64 l.sh):=pa 1 (by omega);have ga2:w.cell? ⟨bxa,oxa+k*6+2,none⟩=some (.int .i64 l.pr):=pa 2 (by omega);have ga3:w.cell? ⟨bxa,oxa+k*6+3,none⟩=some (.int .i64 l.lb):=pa 3 (by omega);have ga4:w.cell? ⟨bxa,oxa+k*6+4,none⟩=some (.int .i64 l.lv):=pa 4 (by omega);have ga5:w.cell? ⟨bxa,oxa+k*6+5,none⟩=some (.slice aua l.cast.length cua):=pa 5 (by omega);clear pa;have HF:Hid (∀W,Below w.heap.size w W→Calls Tryz.prog 132 #[.agg #[.int .i64 l.con,.int .i64 l.sh,.int .i64 l.pr,.int .i64 l.lb,.int .i64 l.lv,.slice aua l.cast.length cua]] W fun e w'=>e = .returned (.int .i64 (gX l))∧Below W.heap.size W w'):=fun W h=>fGb _ l W (sltR.below hVa h)
  clear hVa;have hX:Hid (∀i,i<n→∃b o u,some (⟨bxa,oxa,none⟩:Addr)=some ⟨b,o,none⟩∧(fOn u).length=6∧(∀j,j<6→w.cell? ⟨b,o+i*6+j,none⟩=(fOn u)[j]?)∧sltR.V w u (xs.getD i default)):=hx;clear hx;replace ga0:=cK hbl ga0;replace ga1:=cK hbl ga1;replace ga2:=cK hbl ga2;replace ga3:=cK hbl ga3;replace ga4:=cK hbl ga4;replace ga5:=cK hbl ga5;have zb:bxa<wr.heap.size:=wL wr _ ga0;have zq:w.heap.size<wr.heap.size:=wL wr _ hq;go_wp2_with fail;refine(HF.out _ (qBq)).mono ?_;rintro e w1 ⟨rfl,hb1⟩;have hB1:Below w.heap.size w w1:=bS (qBq) hb1;have hq1:w1.cell? ⟨w.heap.size,0,none⟩=some (.slice (some ⟨bxa,oxa,none⟩) n cx):=cK hb1 (by simp[go_sem,hq,zq]);replace ga0:=cK hb1 (cK (qBq) ga0);replace ga1:=cK hb1 (cK (qBq) ga1);replace ga2:=cK hb1 (cK (qBq) ga2);replace ga3:=cK hb1 (cK (qBq) ga3);replace ga4:=cK hb1 (cK (qBq) ga4);replace ga5:=cK hb1 (cK (qBq) ga5);clear hb1 hq;have HX:Hid (rF xs k=if gX l=0 then (if k=0 then 0 else if mE (xs.getD (k-1) default) l=true then 0 else 1) else gX l):=by show _=_;unfold rF;rw[←HLa.out]
  by_cases hf:gX l=0
  ·
   rw[hf];have HX2:Hid (rF xs k=if k=0 then 0 else if mE (xs.getD (k-1) default) l=true then 0 else 1):=by show _=_;rw[HX.out,if_pos hf]
   clear hf HX;cases k with
   | zero=>
    have H0:Hid (rF xs 0=0):=by show _=_;rw[HX2.out,if_pos rfl]
    clear HX2;clear ga0 ga1 ga2 ga3 ga4 ga5 hX;go_wp2;go_quiet (fail);go_wp2;exact⟨⟨1,by omega,by go_num,fD HS.out H0.out,cK (gG (Below.refl _ _) _) hq1,gG hB1 _⟩,by simp[intOf];omega⟩
   | succ p=>
    have hx:=hX.out;clear hX;have hxz:=hx p (by omega);obtain⟨bxz,oxz,uz,hez,_,pz,hvz⟩:=hxz;simp only[Option.some.injEq,Addr.mk.injEq,and_true] at hez;obtain⟨rfl,rfl⟩:=hez;obtain⟨z,hlz⟩:∃l,l=xs.getD p default:=⟨_,rfl⟩
    rw[←hlz] at hvz;have HLz:Hid (z=xs.getD p default):=hlz;clear hlz;have hVz:=hvz;obtain⟨sz,rfl,hcz⟩:=hvz;obtain⟨auz,cuz,rfl⟩:=pJ hcz;clear hcz;have gz0:w.cell? ⟨bxa,oxa+p*6,none⟩=some (.int .i64 z.con):=pz 0 (by omega);have gz1:w.cell? ⟨bxa,oxa+p*6+1,none⟩=some (.int .i64 z.sh):=pz 1 (by omega);have gz2:w.cell? ⟨bxa,oxa+p*6+2,none⟩=some (.int .i64 z.pr):=pz 2 (by omega);have gz3:w.cell? ⟨bxa,oxa+p*6+3,none⟩=some (.int .i64 z.lb):=pz 3 (by omega);have gz4:w.cell? ⟨bxa,oxa+p*6+4,none⟩=some (.int .i64 z.lv):=pz 4 (by omega);have gz5:w.cell? ⟨bxa,oxa+p*6+5,none⟩=some (.slice auz z.cast.length cuz):=pz 5 (by omega);clear pz;clear hx hVz;replace gz0:=cK hB1 gz0;replace gz1:=cK hB1 gz1;replace gz2:=cK hB1 gz2;replace gz3:=cK hB1 gz3;replace gz4:=cK hB1 gz4;replace gz5:=cK hB1 gz5;have i1:(p:Int)<(n:Int):=by omega
    have i2:((p+1:Nat):Int)<(n:Int):=by omega
    have i3:(0:Int)<((p+1:Nat):Int):=by omega
    have i4:decide (0<p+1)=true:=decide_eq_true (by omega);have i5:IntKind.i64.wrap (((p+1:Nat):Int)-1)=(p:Int):=by rw[IntKind.wrap_i64];omega
    have i6:(0:Int)≤((p+1:Nat):Int):=by omega
    have i7:(0:Int)≤(p:Int):=by omega
    have i8:(p:Int)+1<(n:Int):=by omega
    have i9:(0:Int)≤(p:Int)+1:=by omega
    have i10:((p:Int)+1).toNat=p+1:=by omega
    have w1':IntKind.i64.wrap (p:Int)=p:=gM (by omega) (by omega);have HX3:Hid (rF xs (p+1)=if mE z l=true then 0 else 1):=by show _=_;rw[HX2.out,if_neg (by omega),Nat.add_sub_cancel,←HLz.out]
    clear HX2;obtain⟨u,hu⟩:∃u:Value,u = .slice aua l.cast.length cua:=⟨_,rfl⟩
    obtain⟨u',hu'⟩:∃u:Value,u = .slice auz z.cast.length cuz:=⟨_,rfl⟩
    have rA:w1.cell? ⟨bxa,oxa+(p+1)*6,none⟩=some (.int .i64 l.con)∧w1.cell? ⟨bxa,oxa+(p+1)*6+1,none⟩=some (.int .i64 l.sh)∧w1.cell? ⟨bxa,oxa+(p+1)*6+2,none⟩=some (.int .i64 l.pr)∧w1.cell? ⟨bxa,oxa+(p+1)*6+3,none⟩=some (.int .i64 l.lb)∧w1.cell? ⟨bxa,oxa+(p+1)*6+4,none⟩=some (.int .i64 l.lv)∧w1.cell? ⟨bxa,oxa+(p+1)*6+5,none⟩=some (.slice aua l.cast.length cua):=⟨ga0,ga1,ga2,ga3,ga4,ga5⟩;have rZ:w1.cell? ⟨bxa,oxa+p*6,none⟩=some (.int .i64 z.con)∧w1.cell? ⟨bxa,oxa+p*6+1,none⟩=some (.int .i64 z.sh)∧w1.cell? ⟨bxa,oxa+p*6+2,none⟩=some (.int .i64 z.pr)∧w1.cell? ⟨bxa,oxa+p*6+3,none⟩=some (.int .i64 z.lb)∧w1.cell? ⟨bxa,oxa+p*6+4,none⟩=some (.int .i64 z.lv)∧w1.cell? ⟨bxa,oxa+p*6+5,none⟩=some (.slice auz z.cast.length cuz):=⟨gz0,gz1,gz2,gz3,gz4,gz5⟩;clear ga0 gz0 ga1 gz1 ga2 gz2 ga3 gz3 ga4 gz4 ga5 gz5 hu hu';cases hah:mE z l
    ·
     have hah':mE z l=false:=hah;have HAH:Hid (mE z l=false):=hah';clear hah';go_wp2;go_region_held3 (fun W=>Below w1.heap.size w1 W∧(W.cell? ⟨bxa,oxa+(p+1)*6,none⟩=some (.int .i64 l.con)∧W.cell? ⟨bxa,oxa+(p+1)*6+1,none⟩=some (.int .i64 l.sh)∧W.cell? ⟨bxa,oxa+(p+1)*6+2,none⟩=some (.int .i64 l.pr)∧W.cell? ⟨bxa,oxa+(p+1)*6+3,none⟩=some (.int .i64 l.lb)∧W.cell? ⟨bxa,oxa+(p+1)*6+4,none⟩=some (.int .i64 l.lv)∧W.cell? ⟨bxa,oxa+(p+1)*6+5,none⟩=some (.slice aua l.cast.length cua))∧(W.cell? ⟨bxa,oxa+p*6,none⟩=some (.int .i64 z.con)∧W.cell? ⟨bxa,oxa+p*6+1,none⟩=some (.int .i64 z.sh)∧W.cell? ⟨bxa,oxa+p*6+2,none⟩=some (.int .i64 z.pr)∧W.cell? ⟨bxa,oxa+p*6+3,none⟩=some (.int .i64 z.lb)∧W.cell? ⟨bxa,oxa+p*6+4,none⟩=some (.int .i64 z.lv)∧W.cell? ⟨bxa,oxa+p*6+5,none⟩=some (.slice auz z.cast.length cuz))∧W.cell? ⟨w.heap.size,0,none⟩=some (.slice (some ⟨bxa,oxa,none⟩) n cx)) ((refine fB0 ?_ rA rZ hq1;repeat (first|exact bR _ _|assumption|refine bD ?_|refine bA ?_ _|refine bS ?_ (by assumption)))) (first|(go_at_call 198;refine(yT z l _ _ _).mono ?_;rintro e wa ⟨rfl,hb2⟩;rw[hah]));rename_i hH;have hB2:=bS hB1 hH.1;have hq2:=hH.2.2.2;clear hH;have HC:Hid (accF xs=1):=HH.out (p+1) 1 hlt HS.out (by rw[HX3.out,HAH.out];rfl) (by omega);go_wp2;go_ret;exact⟨by rw[HC.out];rfl,hB2⟩
    have hah':mE z l=true:=hah;have HAH:Hid (mE z l=true):=hah';clear hah';go_wp2;go_region_held3 (fun W=>Below w1.heap.size w1 W∧(W.cell? ⟨bxa,oxa+(p+1)*6,none⟩=some (.int .i64 l.con)∧W.cell? ⟨bxa,oxa+(p+1)*6+1,none⟩=some (.int .i64 l.sh)∧W.cell? ⟨bxa,oxa+(p+1)*6+2,none⟩=some (.int .i64 l.pr)∧W.cell? ⟨bxa,oxa+(p+1)*6+3,none⟩=some (.int .i64 l.lb)∧W.cell? ⟨bxa,oxa+(p+1)*6+4,none⟩=some (.int .i64 l.lv)∧W.cell? ⟨bxa,oxa+(p+1)*6+5,none⟩=some (.slice aua l.cast.length cua))∧(W.cell? ⟨bxa,oxa+p*6,none⟩=some (.int .i64 z.con)∧W.cell? ⟨bxa,oxa+p*6+1,none⟩=some (.int .i64 z.sh)∧W.cell? ⟨bxa,oxa+p*6+2,none⟩=some (.int .i64 z.pr)∧W.cell? ⟨bxa,oxa+p*6+3,none⟩=some (.int .i64 z.lb)∧W.cell? ⟨bxa,oxa+p*6+4,none⟩=some (.int .i64 z.lv)∧W.cell? ⟨bxa,oxa+p*6+5,none⟩=some (.slice auz z.cast.length cuz))∧W.cell? ⟨w.heap.size,0,none⟩=some (.slice (some ⟨bxa,oxa,none⟩) n cx)) ((refine fB0 ?_ rA rZ hq1;repeat (first|exact bR _ _|assumption|refine bD ?_|refine bA ?_ _|refine bS ?_ (by assumption)))) (first|(go_at_call 198;refine(yT z l _ _ _).mono ?_;rintro e wa ⟨rfl,hb2⟩;rw[hah]));rename_i hH;have hB2:=bS hB1 hH.1;have hq2:=hH.2.2.2;clear hH;have H0:Hid (rF xs (p+1)=0):=by show _=_;rw[HX3.out,HAH.out];rfl
    go_wp2;exact⟨⟨p+1+1,by omega,by go_num,fD HS.out H0.out,hq2,hB2⟩,by simp[intOf];omega⟩
  have HC:Hid (accF xs=gX l):=HH.out k _ hlt HS.out (by rw[HX.out,if_neg hf]) hf;clear HX hX;generalize gX l=c at *;go_wp2;go_ret;exact⟨by rw[HC.out];rfl,hB1⟩
 have hkn:k=n:=by omega
 subst hkn;have HC:Hid (accF xs=0):=HE.out HS.out;go_wp2;go_ret;exact⟨by rw[HC.out];rfl,qBq⟩
variable [DecidableEq Cont] [Inhabited Cont] [DecidableEq Mrk] [Inhabited Mrk] [DecidableEq Shd] [Inhabited Shd] [DecidableEq Trr] [Inhabited Trr] [DecidableEq Hrd] [Inhabited Hrd] [DecidableEq Ldr] [Inhabited Ldr] [DecidableEq Msg] [Inhabited Msg] [DecidableEq Clu] [Inhabited Clu] [DecidableEq Rw] [Inhabited Rw] [DecidableEq LedgR] [Inhabited LedgR] [DecidableEq OutcR] [Inhabited OutcR] [DecidableEq ShdR] [Inhabited ShdR]
theorem fTr {w:World} {a:Option Addr} {n c:Nat} {ss:List Slt} (hx:sltsR.V w (.slice a n c) ss):ss.length=n∧n≤c∧c≤maxLen∧∀j,j<n→∃b o au nu cu,a=some ⟨b,o,none⟩∧w.cell? ⟨b,o+j*6,none⟩=some (.int .i64 (ss.getD j default).con)∧w.cell? ⟨b,o+j*6+1,none⟩=some (.int .i64 (ss.getD j default).sh)∧w.cell? ⟨b,o+j*6+2,none⟩=some (.int .i64 (ss.getD j default).pr)∧w.cell? ⟨b,o+j*6+3,none⟩=some (.int .i64 (ss.getD j default).lb)∧w.cell? ⟨b,o+j*6+4,none⟩=some (.int .i64 (ss.getD j default).lv)∧w.cell? ⟨b,o+j*6+5,none⟩=some (.slice au nu cu):=by
 obtain⟨a',c',e,h1,h2,h3⟩:=hx;simp only[Value.slice.injEq] at e;obtain⟨rfl,rfl,rfl⟩:=e;refine⟨rfl,h1,h2,fun k hk=>?_⟩;obtain⟨b,o,u,e,_,p,hv⟩:=h3 k hk;obtain⟨s,rfl,hc⟩:=hv;obtain⟨au,cu,rfl⟩:=pJ hc;exact⟨b,o,_,_,_,e,p 0 (by omega),p 1 (by omega),p 2 (by omega),p 3 (by omega),p 4 (by omega),p 5 (by omega)⟩
theorem fBl (B:Nat) (c:Clu) (w:World) (h:CluB w B c) (hlen:∀k,k<c.cons.length→(c.cons.getD k default).legs.length≤1048576) :
  Calls Tryz.prog 63 #[.pointer (some ⟨B,0,none⟩)] w fun e w'=>e = .returned (.int .i64 (vO c))∧Below w.heap.size w w':=by
 have HP:Hid (∀W,Below w.heap.size w W→CluP W B c):=fun W hW=>(h.below hW).p
 obtain⟨a0,a1,a2,a3,a4,c0,c1,c2,c3,c4,n0,n1,n2,n3,n4,⟨y0,y1,y2,y3,y4⟩,hx⟩:=h;have hf:=xR hx;obtain⟨e0,e1,e2,e3,e4,L0,L1,L2,L3,L4⟩:=hf;obtain⟨u1,u2,u3,u4,u5,eq,h1,h2,h3,h4,h5⟩:=hx;simp only[Value.agg.injEq,Array.mk.injEq,List.cons.injEq,and_true] at eq;obtain⟨rfl,rfl,rfl,rfl,rfl⟩:=eq;have zB:B<w.heap.size:=wL w _ y0;obtain⟨_,hnc,hmc,HA⟩:=fLv h3;unfold maxLen at hmc;have HX:Hid _:=HA;have HHas:Hid (∀(a s:Int) W,Below w.heap.size w W→Calls Tryz.prog 120 #[.pointer (some ⟨B,0,none⟩),.int .i64 a,.int .i64 s] W fun e w'=>e = .returned (.bool (hasL c a s))∧Below W.heap.size W w'):=fun a s W hW=>uQ B c a s W (HP.out W hW) hlen
 have H1:Hid (∀k,k<n2→fC (mW c) k=0→¬mW c k=0→vO c=mW c k):=fun k hk hs h0=>by unfold vO;exact fH hs h0 _ (by rw[e2];exact hk)
 have H2:Hid (fC (mW c) n2=0→vO c=0):=fun h=>by unfold vO;rw[e2];exact h
 clear HA h1 h2 h3 h4 h5 hlen e0 e1 e2 e3 e4 L0 L1 L3 L4 HP y0 y1 y3 y4;generalize vO c=R at *;go_enter Tryz.func63,Tryz.ntmps63;go_wp2;go_loopw [3] (fun i w'=>∃k:Nat,k≤n2∧i = .int .i64 k∧Hid (fC (mW c) k=0)∧Below w.heap.size w w') (fun i _=>n2-(intOf i).toNat)
 case atStart=>exact⟨0,Nat.zero_le _,rfl,rfl,qBq⟩
 obtain⟨k,hk,rfl,HS,hbl⟩:=hrel;replace y2:=cK hbl y2;have zB':B<wr.heap.size:=wL wr _ y2;by_cases hlt:k<n2
 ·
  have HA:=HX.out k hlt;have HH:Hid (¬mW c k=0→R=mW c k):=fun h=>H1.out k hlt HS.out h
  have HZ:Hid (mW c k=0→fC (mW c) (k+1)=0):=fun h=>fD HS.out h
  have HD:Hid (mW c k=orF (accF (c.accs.getD k default).slots) (if uA c (c.accs.getD k default).slots=true then 4 else 0)):=rfl;obtain⟨l,hl0⟩:∃l,l=c.accs.getD k default:=⟨_,rfl⟩
  rw[←hl0] at HA HD;clear hl0;obtain⟨b,o,p,q,rfl,g0,hv⟩:=HA;have HF:Hid (∀W,Below w.heap.size w W→Calls Tryz.prog 122 #[.agg #[.slice p l.slots.length q]] W fun e w'=>e = .returned (.int .i64 (accF l.slots))∧Below W.heap.size W w'):=fun W hW=>fIx _ l W ⟨_,rfl,sltsR.below hv hW⟩
  obtain⟨_,hnc2,hmc2,HA2⟩:=fTr hv;unfold maxLen at hmc2;obtain⟨ss,hss⟩:∃ss,ss=l.slots:=⟨_,rfl⟩
  rw[←hss] at HF HD HA2 g0 hnc2;have HY:Hid _:=HA2;have HN:Hid (∀j,j<ss.length→hasL c (ss.getD j default).con (ss.getD j default).sh=false→uA c ss=true):=fun j hj h=>by
   show _=_;unfold uA;rw[List.any_eq_true];exact⟨ss.getD j default,by simp[List.getD,hj],by rw[h];rfl⟩
  have HA3:Hid ((∀j,j<ss.length→hasL c (ss.getD j default).con (ss.getD j default).sh=true)→uA c ss=false):=fun h=>by
   show _=_;unfold uA;rw[List.any_eq_false];intro y hy;obtain⟨i,hi,rfl⟩:=List.getElem_of_mem hy;have:=h i hi;simp only[List.getD,List.getElem?_eq_getElem hi,Option.getD_some] at this;rw[this];simp
  clear hv HA2 hss;replace g0:=cK hbl g0;have zb:b<wr.heap.size:=wL wr _ g0;have hti:(k:Int)<(n2:Int):=by omega
  generalize mW c k=z at *;generalize uA c ss=so at *;generalize accF ss=sf at *;generalize hm':ss.length=m at *;clear hm';go_wp2_with fail;refine(HF.out _ (qBq)).mono ?_;rintro e w1 ⟨rfl,hb1⟩;have hB1:Below w.heap.size w w1:=bS (qBq) hb1;replace y2:=cK hb1 (by first|exact y2|exact cK (qBq) y2);replace g0:=cK hb1 (by first|exact g0|exact cK (qBq) g0);clear hb1 HF;by_cases hsf:sf=0;rotate_left
  ·
   have hz:z=sf:=by rw[HD.out,xG hsf]
   have HC:Hid (R=sf):=by show _=_;rw[←hz];exact HH.out (by rw[hz];exact hsf)
   have hsf':(sf !=0)=true:=by simp[hsf]
   clear HH HZ HD hz HN HA3 HY;go_wp2;go_ret;exact⟨by rw[HC.out];rfl,hB1⟩
  subst hsf;have HD2:Hid (z=if so=true then 4 else 0):=by show _=_;rw[HD.out,vI rfl]
  clear HD;go_wp2;go_loopw [5] (fun i w'=>∃j:Nat,j≤m∧i = .int .i64 j∧Hid (∀j',j'<j→hasL c (ss.getD j' default).con (ss.getD j' default).sh=true)∧Below w1.heap.size w1 w') (fun i _=>m-(intOf i).toNat)
  case atStart=>exact⟨0,Nat.zero_le _,rfl,fun j hj=>absurd hj (Nat.not_lt_zero _),Below.refl _ _⟩
  obtain⟨j,hj,rfl,HS2,hbl2⟩:=hrel;have hblw:=bS hB1 hbl2;replace y2:=cK hbl2 y2;replace g0:=cK hbl2 g0;by_cases hlt2:j<m
  ·
   have HA4:=HY.out j hlt2;have HNj:=HN.out j hlt2;have HSt:Hid (hasL c (ss.getD j default).con (ss.getD j default).sh=true→∀j',j'<j+1→hasL c (ss.getD j' default).con (ss.getD j' default).sh=true):=fun h j' hj'=>by
    by_cases e:j'=j
    ·
     rw[e];exact h
    exact HS2.out j' (by omega)
   obtain⟨s,hs0⟩:∃s,s=ss.getD j default:=⟨_,rfl⟩
   rw[←hs0] at HA4 HNj HSt;clear hs0;have HNj':Hid (hasL c s.con s.sh=false→so=true):=HNj;clear HNj;obtain⟨bs,os,au,nu,cu,rfl,k0,k1,k2,k3,k4,k5⟩:=HA4;replace k0:=cK hblw k0;replace k1:=cK hblw k1;replace k2:=cK hblw k2;replace k3:=cK hblw k3;replace k4:=cK hblw k4;replace k5:=cK hblw k5;have zbs:bs<_:=wL _ _ k0;have hti2:(j:Int)<(m:Int):=by omega
   have HC1:=HHas.out s.con s.sh;have HC2:Hid _:=HC1;clear HC1;generalize hasL c s.con s.sh=hl at *;go_wp2_with fail;refine(HC2.out _ (qBq)).mono ?_;rintro e w3 ⟨rfl,hb3⟩;have hB3:Below w1.heap.size w1 w3:=bS (qBq) hb3;clear hb3 HC2 k0 k1 k2 k3 k4 k5;cases hl
   ·
    have hso:so=true:=HNj'.out rfl;have hz:z=4:=by rw[HD2.out,hso];rfl
    have HC:Hid (R=4):=by show _=_;rw[←hz];exact HH.out (by rw[hz];omega)
    have hB4:=bS hB1 hB3;clear HH HZ HD2 hz hso HSt HNj';go_wp2;go_ret;exact⟨by rw[HC.out];rfl,hB4⟩
   have HQ:Hid _:=HSt.out rfl;clear HSt HNj';go_wp2;exact⟨⟨j+1,by omega,by go_num,HQ,hB3⟩,by simp[intOf];omega⟩
  obtain rfl:j=m:=by omega
  have hti2:¬(j:Int)<(j:Int):=by omega
  have hso:so=false:=HA3.out HS2.out;have hz:z=0:=by rw[HD2.out,hso];rfl
  have HQ:Hid _:=HZ.out hz;clear HH HZ HD2 hz hso HN HA3 HY;go_wp2;exact⟨⟨k+1,by omega,by go_num,HQ,hblw⟩,by simp[intOf];omega⟩
 obtain rfl:k=n2:=by omega
 have hti:¬(k:Int)<(k:Int):=by omega
 have HC:Hid (R=0):=H2.out HS.out;go_wp2;go_ret;exact⟨by rw[HC.out];rfl,hbl⟩
theorem fIy (x:Value) (c:Clu) (w:World) (hx:cluR.V w x c) (hlen:∀k,k<c.cons.length→(c.cons.getD k default).legs.length≤1048576) (hsz:∀k,k<c.shards.length→(c.shards.getD k default).votes.length≤1048576∧(c.shards.getD k default).done.length≤1048576) (hneed:∀k,k<c.ldrs.length→∀i,i<(c.ldrs.getD k default).tries.length→((c.ldrs.getD k default).tries.getD i default).frm.length≤1048576) :
  Calls Tryz.prog 20 #[x] w fun e w'=>e = .returned (.int .i64 (cluS c))∧Below w.heap.size w w':=by
 have HV:Hid (∀W,Below w.heap.size w W→cluR.V W x c):=fun W hW=>cluR.below hx hW
 have hx':=hx;obtain⟨a0,a1,a2,a3,a4,c0,c1,c2,c3,c4,n0,n1,n2,n3,n4,rfl,e0,e1,e2,e3,e4,L0,L1,L2,L3,L4⟩:=gL hx;obtain⟨u1,u2,u3,u4,u5,eq,h1,h2,h3,h4,h5⟩:=hx';simp only[Value.agg.injEq,Array.mk.injEq,List.cons.injEq,and_true] at eq;obtain⟨rfl,rfl,rfl,rfl,rfl⟩:=eq;have HB:∀W,Below w.heap.size w W→(W.cell? ⟨w.heap.size,0,none⟩=some (.slice a0 n0 c0)∧W.cell? ⟨w.heap.size,1,none⟩=some (.slice a1 n1 c1)∧W.cell? ⟨w.heap.size,2,none⟩=some (.slice a2 n2 c2)∧W.cell? ⟨w.heap.size,3,none⟩=some (.slice a3 n3 c3)∧W.cell? ⟨w.heap.size,4,none⟩=some (.slice a4 n4 c4))→CluB W w.heap.size c:=fun W hW hY=>⟨a0,a1,a2,a3,a4,c0,c1,c2,c3,c4,n0,n1,n2,n3,n4,hY,HV.out W hW⟩
 have HL0:Hid (∀W,Below w.heap.size w W→(W.cell? ⟨w.heap.size,0,none⟩=some (.slice a0 n0 c0)∧W.cell? ⟨w.heap.size,1,none⟩=some (.slice a1 n1 c1)∧W.cell? ⟨w.heap.size,2,none⟩=some (.slice a2 n2 c2)∧W.cell? ⟨w.heap.size,3,none⟩=some (.slice a3 n3 c3)∧W.cell? ⟨w.heap.size,4,none⟩=some (.slice a4 n4 c4))→Calls Tryz.prog 61 #[.pointer (some ⟨w.heap.size,0,none⟩)] W fun e w'=>e = .returned (.int .i64 (vT c))∧Below W.heap.size W w'):=fun W hW hY=>fBm _ c W (HB W hW hY) hlen
 have HL1:Hid (∀W,Below w.heap.size w W→(W.cell? ⟨w.heap.size,0,none⟩=some (.slice a0 n0 c0)∧W.cell? ⟨w.heap.size,1,none⟩=some (.slice a1 n1 c1)∧W.cell? ⟨w.heap.size,2,none⟩=some (.slice a2 n2 c2)∧W.cell? ⟨w.heap.size,3,none⟩=some (.slice a3 n3 c3)∧W.cell? ⟨w.heap.size,4,none⟩=some (.slice a4 n4 c4))→Calls Tryz.prog 62 #[.pointer (some ⟨w.heap.size,0,none⟩)] W fun e w'=>e = .returned (.int .i64 (uL c))∧Below W.heap.size W w'):=fun W hW hY=>fFs _ c W (HB W hW hY) hlen hsz
 have HL2:Hid (∀W,Below w.heap.size w W→(W.cell? ⟨w.heap.size,0,none⟩=some (.slice a0 n0 c0)∧W.cell? ⟨w.heap.size,1,none⟩=some (.slice a1 n1 c1)∧W.cell? ⟨w.heap.size,2,none⟩=some (.slice a2 n2 c2)∧W.cell? ⟨w.heap.size,3,none⟩=some (.slice a3 n3 c3)∧W.cell? ⟨w.heap.size,4,none⟩=some (.slice a4 n4 c4))→Calls Tryz.prog 63 #[.pointer (some ⟨w.heap.size,0,none⟩)] W fun e w'=>e = .returned (.int .i64 (vO c))∧Below W.heap.size W w'):=fun W hW hY=>fBl _ c W (HB W hW hY) hlen
 have HL3:Hid (∀W,Below w.heap.size w W→(W.cell? ⟨w.heap.size,0,none⟩=some (.slice a0 n0 c0)∧W.cell? ⟨w.heap.size,1,none⟩=some (.slice a1 n1 c1)∧W.cell? ⟨w.heap.size,2,none⟩=some (.slice a2 n2 c2)∧W.cell? ⟨w.heap.size,3,none⟩=some (.slice a3 n3 c3)∧W.cell? ⟨w.heap.size,4,none⟩=some (.slice a4 n4 c4))→Calls Tryz.prog 64 #[.pointer (some ⟨w.heap.size,0,none⟩)] W fun e w'=>e = .returned (.int .i64 (fBn c))∧Below W.heap.size W w'):=fun W hW hY=>fDx _ c W (HB W hW hY) hlen hneed
 have HLM:Hid (∀m W,Below w.heap.size w W→(W.cell? ⟨w.heap.size,0,none⟩=some (.slice a0 n0 c0)∧W.cell? ⟨w.heap.size,1,none⟩=some (.slice a1 n1 c1)∧W.cell? ⟨w.heap.size,2,none⟩=some (.slice a2 n2 c2)∧W.cell? ⟨w.heap.size,3,none⟩=some (.slice a3 n3 c3)∧W.cell? ⟨w.heap.size,4,none⟩=some (.slice a4 n4 c4))→Calls Tryz.prog 65 #[.pointer (some ⟨w.heap.size,0,none⟩),msgV m] W fun e w'=>e = .returned (.int .i64 (msgF c m))∧Below W.heap.size W w'):=fun m W hW hY=>fDy _ c m W ((HB W hW hY).p) hlen
 obtain⟨_,hnc,hmc,HA⟩:=fMi h5;unfold maxLen at hmc;have HX:Hid _:=HA;have HR:Hid (cluS c=orF (szC c) (orF (vT c) (orF (uL c) (orF (vO c) (orF (fBn c) (yU c)))))):=rfl;have HZ0:Hid (szC c=if n0≤20∧(1≤n1∧n1≤3)∧(1≤n2∧n2≤5)∧n3=2∧n4≤200 then 0 else 2):=by show _=_;unfold szC;rw[e0,e1,e2,e3,e4]
 have HM1:Hid (∀k,k<n4→fC (fun k=>msgF c (c.msgs.getD k default)) k=0→¬msgF c (c.msgs.getD k default)=0→yU c=msgF c (c.msgs.getD k default)):=fun k hk hs h0=>by unfold yU;exact fH (f:=fun k=>msgF c (c.msgs.getD k default)) hs h0 _ (by rw[e4];exact hk)
 have HM2:Hid (fC (fun k=>msgF c (c.msgs.getD k default)) n4=0→yU c=0):=fun h=>by unfold yU;rw[e4];exact h
 clear HV HA hx h1 h2 h3 h4 h5 hlen hsz hneed e0 e1 e2 e3 e4;generalize cluS c=R at *;generalize szC c=z0 at *;generalize vT c=z1 at *;generalize uL c=z2 at *;generalize vO c=z3 at *;generalize fBn c=z4 at *;generalize yU c=z5 at *;by_cases q0:20<n0
 ·
  have HC:Hid (R=2):=by show _=_;rw[HR.out,HZ0.out,if_neg (fun x=>by omega)];rfl
  have b0:(20:Int)<(n0:Int):=by omega
  clear HR HZ0 HB HL0 HL1 HL2 HL3 HLM;go_enter Tryz.func20,Tryz.ntmps20;go_wp2;go_ret;exact⟨by rw[HC.out];rfl,qBq⟩
 have b0:¬(20:Int)<(n0:Int):=by omega
 by_cases q1:n1<1
 ·
  have HC:Hid (R=2):=by show _=_;rw[HR.out,HZ0.out,if_neg (fun x=>by omega)];rfl
  have b1:(n1:Int)<1:=by omega
  clear HR HZ0 HB HL0 HL1 HL2 HL3 HLM;go_enter Tryz.func20,Tryz.ntmps20;go_wp2;go_ret;exact⟨by rw[HC.out];rfl,qBq⟩
 have b1:¬(n1:Int)<1:=by omega
 by_cases q2:3<n1
 ·
  have HC:Hid (R=2):=by show _=_;rw[HR.out,HZ0.out,if_neg (fun x=>by omega)];rfl
  have b2:(3:Int)<(n1:Int):=by omega
  clear HR HZ0 HB HL0 HL1 HL2 HL3 HLM;go_enter Tryz.func20,Tryz.ntmps20;go_wp2;go_ret;exact⟨by rw[HC.out];rfl,qBq⟩
 have b2:¬(3:Int)<(n1:Int):=by omega
 by_cases q3:n2<1
 ·
  have HC:Hid (R=2):=by show _=_;rw[HR.out,HZ0.out,if_neg (fun x=>by omega)];rfl
  have b3:(n2:Int)<1:=by omega
  clear HR HZ0 HB HL0 HL1 HL2 HL3 HLM;go_enter Tryz.func20,Tryz.ntmps20;go_wp2;go_ret;exact⟨by rw[HC.out];rfl,qBq⟩
 have b3:¬(n2:Int)<1:=by omega
 by_cases q4:5<n2
 ·
  have HC:Hid (R=2):=by show _=_;rw[HR.out,HZ0.out,if_neg (fun x=>by omega)];rfl
  have b4:(5:Int)<(n2:Int):=by omega
  clear HR HZ0 HB HL0 HL1 HL2 HL3 HLM;go_enter Tryz.func20,Tryz.ntmps20;go_wp2;go_ret;exact⟨by rw[HC.out];rfl,qBq⟩
 have b4:¬(5:Int)<(n2:Int):=by omega
 by_cases q5:¬n3=2
 ·
  have HC:Hid (R=2):=by show _=_;rw[HR.out,HZ0.out,if_neg (fun x=>by omega)];rfl
  have b5:((n3:Int) !=2)=true:=by simp;omega
  clear HR HZ0 HB HL0 HL1 HL2 HL3 HLM;go_enter Tryz.func20,Tryz.ntmps20;go_wp2;go_ret;exact⟨by rw[HC.out];rfl,qBq⟩
 have b5:((n3:Int) !=2)=false:=by simp;omega
 by_cases q6:200<n4
 ·
  have HC:Hid (R=2):=by show _=_;rw[HR.out,HZ0.out,if_neg (fun x=>by omega)];rfl
  have b6:(200:Int)<(n4:Int):=by omega
  clear HR HZ0 HB HL0 HL1 HL2 HL3 HLM;go_enter Tryz.func20,Tryz.ntmps20;go_wp2;go_ret;exact⟨by rw[HC.out];rfl,qBq⟩
 have b6:¬(200:Int)<(n4:Int):=by omega
 have HRR:Hid (R=orF z1 (orF z2 (orF z3 (orF z4 z5)))):=by show _=_;rw[HR.out,vI (by rw[HZ0.out,if_pos ⟨by omega,⟨by omega,by omega⟩,⟨by omega,by omega⟩,by omega,by omega⟩])]
 clear HR HZ0 HB q0 q1 q2 q3 q4 q5 q6;go_enter Tryz.func20,Tryz.ntmps20;go_wp2_with fail;refine(HL0.out _ (qBq) (by first|exact Y|exact ykeep (qBq) Y|exact⟨by simp[go_sem],by simp[go_sem],by simp[go_sem],by simp[go_sem],by simp[go_sem]⟩)).mono ?_;rintro e w1 ⟨rfl,hb⟩;have hB1:Below w.heap.size w w1:=bS (qBq) hb;have Y1:w1.cell? ⟨w.heap.size,0,none⟩=some (.slice a0 n0 c0)∧w1.cell? ⟨w.heap.size,1,none⟩=some (.slice a1 n1 c1)∧w1.cell? ⟨w.heap.size,2,none⟩=some (.slice a2 n2 c2)∧w1.cell? ⟨w.heap.size,3,none⟩=some (.slice a3 n3 c3)∧w1.cell? ⟨w.heap.size,4,none⟩=some (.slice a4 n4 c4):=⟨cK hb (by simp[go_sem]),cK hb (by simp[go_sem]),cK hb (by simp[go_sem]),cK hb (by simp[go_sem]),cK hb (by simp[go_sem])⟩;clear hb HL0;by_cases hz0:z1=0;rotate_left
 ·
  have HC:Hid (R=z1):=by show _=_;rw[HRR.out,xG hz0]
  have hz':(z1 !=0)=true:=by simp[hz0]
  clear HRR;go_wp2;go_ret;exact⟨by rw[HC.out];rfl,hB1⟩
 subst hz0;have HRR1:Hid (R=orF z2 (orF z3 (orF z4 z5))):=by show _=_;rw[HRR.out,vI rfl]
 clear HRR b0 b1 b2 b3 b4 b5 b6;go_wp2_with fail;refine(HL1.out _ (qBq) (by first|exact Y1|exact ykeep (qBq) Y1)).mono ?_;rintro e w2 ⟨rfl,hb⟩;have hB2:Below w.heap.size w w2:=bS (qBq) hb;have Y2:w2.cell? ⟨w.heap.size,0,none⟩=some (.slice a0 n0 c0)∧w2.cell? ⟨w.heap.size,1,none⟩=some (.slice a1 n1 c1)∧w2.cell? ⟨w.heap.size,2,none⟩=some (.slice a2 n2 c2)∧w2.cell? ⟨w.heap.size,3,none⟩=some (.slice a3 n3 c3)∧w2.cell? ⟨w.heap.size,4,none⟩=some (.slice a4 n4 c4):=ykeep hb (by first|exact Y1|exact ykeep (qBq) Y1);clear hb HL1;by_cases hz1:z2=0;rotate_left
 ·
  have HC:Hid (R=z2):=by show _=_;rw[HRR1.out,xG hz1]
  have hz':(z2 !=0)=true:=by simp[hz1]
  clear HRR1;go_wp2;go_ret;exact⟨by rw[HC.out];rfl,hB2⟩
 subst hz1;have HRR2:Hid (R=orF z3 (orF z4 z5)):=by show _=_;rw[HRR1.out,vI rfl]
 clear HRR1 Y1 hB1;go_wp2_with fail;refine(HL2.out _ (qBq) (by first|exact Y2|exact ykeep (qBq) Y2)).mono ?_;rintro e w3 ⟨rfl,hb⟩;have hB3:Below w.heap.size w w3:=bS (qBq) hb;have Y3:w3.cell? ⟨w.heap.size,0,none⟩=some (.slice a0 n0 c0)∧w3.cell? ⟨w.heap.size,1,none⟩=some (.slice a1 n1 c1)∧w3.cell? ⟨w.heap.size,2,none⟩=some (.slice a2 n2 c2)∧w3.cell? ⟨w.heap.size,3,none⟩=some (.slice a3 n3 c3)∧w3.cell? ⟨w.heap.size,4,none⟩=some (.slice a4 n4 c4):=ykeep hb (by first|exact Y2|exact ykeep (qBq) Y2);clear hb HL2;by_cases hz2:z3=0;rotate_left
 ·
  have HC:Hid (R=z3):=by show _=_;rw[HRR2.out,xG hz2]
  have hz':(z3 !=0)=true:=by simp[hz2]
  clear HRR2;go_wp2;go_ret;exact⟨by rw[HC.out];rfl,hB3⟩
 subst hz2;have HRR3:Hid (R=orF z4 z5):=by show _=_;rw[HRR2.out,vI rfl]
 clear HRR2 Y2 hB2;go_wp2_with fail;refine(HL3.out _ (qBq) (by first|exact Y3|exact ykeep (qBq) Y3)).mono ?_;rintro e w4 ⟨rfl,hb⟩;have hB4:Below w.heap.size w w4:=bS (qBq) hb;have Y4:w4.cell? ⟨w.heap.size,0,none⟩=some (.slice a0 n0 c0)∧w4.cell? ⟨w.heap.size,1,none⟩=some (.slice a1 n1 c1)∧w4.cell? ⟨w.heap.size,2,none⟩=some (.slice a2 n2 c2)∧w4.cell? ⟨w.heap.size,3,none⟩=some (.slice a3 n3 c3)∧w4.cell? ⟨w.heap.size,4,none⟩=some (.slice a4 n4 c4):=ykeep hb (by first|exact Y3|exact ykeep (qBq) Y3);clear hb HL3;by_cases hz3:z4=0;rotate_left
 ·
  have HC:Hid (R=z4):=by show _=_;rw[HRR3.out,xG hz3]
  have hz':(z4 !=0)=true:=by simp[hz3]
  clear HRR3;go_wp2;go_ret;exact⟨by rw[HC.out];rfl,hB4⟩
 subst hz3;have HR5:Hid (R=z5):=by show _=_;rw[HRR3.out,vI rfl]
 clear HRR3 Y3 hB3;go_wp2;go_loopw [7] (fun i w'=>∃k:Nat,k≤n4∧i = .int .i64 k∧Hid (fC (fun k=>msgF c (c.msgs.getD k default)) k=0)∧(w'.cell? ⟨w.heap.size,0,none⟩=some (.slice a0 n0 c0)∧w'.cell? ⟨w.heap.size,1,none⟩=some (.slice a1 n1 c1)∧w'.cell? ⟨w.heap.size,2,none⟩=some (.slice a2 n2 c2)∧w'.cell? ⟨w.heap.size,3,none⟩=some (.slice a3 n3 c3)∧w'.cell? ⟨w.heap.size,4,none⟩=some (.slice a4 n4 c4))∧Below w.heap.size w w') (fun i _=>n4-(intOf i).toNat)
 case atStart=>exact⟨0,Nat.zero_le _,rfl,rfl,Y4,hB4⟩
 obtain⟨k,hk,rfl,HS,Y,hbl⟩:=hrel;have zq:w.heap.size<_:=wL _ _ Y.1;have y4:=Y.2.2.2.2;by_cases hlt:k<n4
 ·
  have HA:=HX.out k hlt;have HM:=HLM.out (c.msgs.getD k default);have HM':Hid _:=HM;have HH:Hid (¬msgF c (c.msgs.getD k default)=0→R=msgF c (c.msgs.getD k default)):=fun h=>by show _=_;rw[HR5.out];exact HM1.out k hlt HS.out h
  have HZ:Hid (msgF c (c.msgs.getD k default)=0→fC (fun k=>msgF c (c.msgs.getD k default)) (k+1)=0):=fun h=>fD (f:=fun k=>msgF c (c.msgs.getD k default)) HS.out h
  clear HM;obtain⟨m,hm0⟩:∃m,m=c.msgs.getD k default:=⟨_,rfl⟩
  rw[←hm0] at HA HH HZ HM';clear hm0;obtain⟨b,o,rfl,g0,g1,g2,g3,g4,g5,g6,g7,g8⟩:=HA;replace g0:=cK hbl g0;replace g1:=cK hbl g1;replace g2:=cK hbl g2;replace g3:=cK hbl g3;replace g4:=cK hbl g4;replace g5:=cK hbl g5;replace g6:=cK hbl g6;replace g7:=cK hbl g7;replace g8:=cK hbl g8;have hti:(k:Int)<(n4:Int):=by omega
  generalize msgF c m=z at *;unfold msgV at HM';obtain⟨m0,m1,m2,m3,m4,m5,m6,m7,m8⟩:=m;dsimp only at HM' g0 g1 g2 g3 g4 g5 g6 g7 g8;go_wp2_with fail;refine(HM'.out _ (qBq) (by first|exact Y|exact ykeep (qBq) Y)).mono ?_;rintro e w5 ⟨rfl,hb5⟩;have hB5:Below w.heap.size w w5:=bS (qBq) hb5;have Y5:w5.cell? ⟨w.heap.size,0,none⟩=some (.slice a0 n0 c0)∧w5.cell? ⟨w.heap.size,1,none⟩=some (.slice a1 n1 c1)∧w5.cell? ⟨w.heap.size,2,none⟩=some (.slice a2 n2 c2)∧w5.cell? ⟨w.heap.size,3,none⟩=some (.slice a3 n3 c3)∧w5.cell? ⟨w.heap.size,4,none⟩=some (.slice (some ⟨b,o,none⟩) n4 c4):=ykeep hb5 (by first|exact Y|exact ykeep (qBq) Y);clear hb5 HM' g0 g1 g2 g3 g4 g5 g6 g7 g8;by_cases hz:z=0
  ·
   have HQ:Hid _:=HZ.out hz;subst hz;clear HH HZ;go_wp2;exact⟨⟨k+1,by omega,by go_num,HQ,Y5,hB5⟩,by simp[intOf];omega⟩
  have HC:Hid _:=HH.out hz;have hz':(z !=0)=true:=by simp[hz]
  clear HH HZ;go_wp2;go_ret;exact⟨by rw[HC.out];rfl,hB5⟩
 obtain rfl:k=n4:=by omega
 have hti:¬(k:Int)<(k:Int):=by omega
 have HC:Hid (R=0):=by show _=_;rw[HR5.out];exact HM2.out HS.out
 go_wp2;go_ret;exact⟨by rw[HC.out];rfl,hbl⟩
def vQ (g:Ledg) (c:Clu) (k j:Nat):List Bal:=addB (g.shards.getD k default) (((c.shards.getD k default).appl.take j).flatMap (pW c (c.shards.getD k default)))
theorem fNe (g:Ledg) (c:Clu) (k:Nat):vQ g c k 0=g.shards.getD k default:=by simp[vQ,addB]
theorem fNd (g:Ledg) (c:Clu) {k j:Nat} (hj:j<(c.shards.getD k default).appl.length):vQ g c k (j+1)=addB (vQ g c k j) (pW c (c.shards.getD k default) ((c.shards.getD k default).appl.getD j 0)):=by
 unfold vQ;rw[←fRx,fMx _ _ hj,List.flatMap_append];simp
theorem fPt (g:Ledg) (c:Clu) (k:Nat):uF g c k=decide (vQ g c k (c.shards.getD k default).appl.length=(c.shards.getD k default).bals):=by
 unfold uF vQ fBf;rw[List.take_length]
theorem fR2 {g:Ledg} {c:Clu} (h:cluF c=0) (h0:fP g=0) (hn:g.shards.length=c.shards.length) {k j:Nat} (hk:k<c.shards.length) (hj:j<(c.shards.getD k default).appl.length):AddOk (vQ g c k j) (pW c (c.shards.getD k default) ((c.shards.getD k default).appl.getD j 0)):=by
 obtain⟨_,_,hok⟩:=xW h0;have hm:∀l ∈ ((c.shards.getD k default).appl.take j).flatMap (pW c (c.shards.getD k default)),gF l=0:=fun l hl=>by
  obtain⟨id,h1,h2⟩:=List.mem_flatMap.1 hl;obtain⟨i,hi,rfl⟩:=fE7 (List.mem_of_mem_take h1);exact((uI h hk hi).1 l h2).1
 have hlen:(((c.shards.getD k default).appl.take j).flatMap (pW c (c.shards.getD k default))).length≤800:=by
  have h1:(((c.shards.getD k default).appl.take j).flatMap (pW c (c.shards.getD k default))).length≤((c.shards.getD k default).appl.take j).length*8:=fBw fun id hid=>by
   obtain⟨i,hi,rfl⟩:=fE7 (List.mem_of_mem_take hid);exact(uI h hk hi).2
  have:=(rR h hk).2.1.na;rw[List.length_take] at h1;omega
 refine fRf (fLe (fRg (hok k (by omega))) hm) (fun l hl=>((uI h hk hj).1 l hl).1) ?_;have:=(uI h hk hj).2;omega
theorem fQx {w:World} {b:Nat} {u:Value} {xs:List Bal} (hc:w.cell? ⟨b,0,none⟩=some u) (hv:balsR.V w u xs):ledgR.V w (.agg #[.slice (some ⟨b,0,none⟩) 1 1]) ⟨[xs]⟩:=by
 refine⟨_,rfl,some ⟨b,0,none⟩,1,rfl,by simp,by unfold maxLen;omega,fun i hi=>?_⟩;simp only[List.length_singleton] at hi;obtain rfl:i=0:=by omega
 refine⟨b,0,u,rfl,rfl,fun j hj=>?_,hv⟩;obtain rfl:j=0:=by omega
 exact hc
theorem fUu (xs ys:List Bal):decide ((⟨[xs]⟩:Ledg)=⟨[ys]⟩)=decide (xs=ys):=by
 rw[decide_eq_decide];simp
theorem fF9 (x y:Value) (g:Ledg) (c:Clu) (w:World) (hx:ledgR.V w x g) (hy:cluR.V w y c) (hlen:∀k,k<c.cons.length→(c.cons.getD k default).legs.length≤1048576) (hsz:∀k,k<c.shards.length→(c.shards.getD k default).votes.length≤1048576∧(c.shards.getD k default).done.length≤1048576) (hneed:∀k,k<c.ldrs.length→∀i,i<(c.ldrs.getD k default).tries.length→((c.ldrs.getD k default).tries.getD i default).frm.length≤1048576) :
  Calls Tryz.prog 11 #[x,y] w fun e w'=>e = .returned (.bool (rW g c))∧Below w.heap.size w w':=by
 have HF:Hid (∀W,Below w.heap.size w W→Calls Tryz.prog 20 #[y] W fun e w'=>e = .returned (.int .i64 (cluS c))∧Below W.heap.size W w'):=fun W hW=>fIy y c W (cluR.below hy hW) hlen hsz hneed
 have HL:Hid (∀W,Below w.heap.size w W→Calls Tryz.prog 42 #[x] W fun e w'=>e = .returned (.int .i64 (fP g))∧Below W.heap.size W w'):=fun W hW=>fBp x g W (ledgR.below hx hW)
 have HFi:Hid (∀id B W,CluP W B c→Calls Tryz.prog 45 #[.pointer (some ⟨B,0,none⟩),.int .i64 id] W fun e w'=>e = .returned (.int .i64 (rT c.cons id))∧Below W.heap.size W w'):=fun id B W h=>vH B c id W h
 have HAd:Hid (cluF c=0→fP g=0→g.shards.length=c.shards.length→∀k,k<c.shards.length→∀j,j<(c.shards.getD k default).appl.length→∀W u v,balsR.V W u (vQ g c k j)→legsR.V W v (pW c (c.shards.getD k default) ((c.shards.getD k default).appl.getD j 0))→Calls Tryz.prog 43 #[u,v] W fun e w'=>∃p n q,e = .returned (.slice p n q)∧balsR.V w' (.slice p n q) (vQ g c k (j+1))∧Below W.heap.size W w'):=fun h h0 hn k hk j hj W u v hu hv=>by
  refine(fQp u v _ _ W hu hv (fR2 h h0 hn hk hj)).mono ?_;rintro e w' ⟨v',F,rfl,hO,hb⟩;rw[←fNd g c hj] at hO;have hV:=balsR.ofO hO;obtain⟨p,q,rfl⟩:=fJ hV;exact⟨p,_,q,rfl,hV,hb⟩
 have HCn:Hid (cluF c=0→∀k,k<c.shards.length→∀j,j<(c.shards.getD k default).appl.length→fE c.cons ((c.shards.getD k default).appl.getD j 0)<c.cons.length∧qM c ((c.shards.getD k default).appl.getD j 0)=c.cons.getD (fE c.cons ((c.shards.getD k default).appl.getD j 0)) default∧rT c.cons ((c.shards.getD k default).appl.getD j 0)=(fE c.cons ((c.shards.getD k default).appl.getD j 0):Int)):=fun h k hk j hj=>by
  have h1:=fAn ((rR h hk).2.2 j hj);exact⟨h1,if_pos h1,by unfold rT;rw[if_pos h1]⟩
 have HAp:Hid (cluF c=0→∀k,k<c.shards.length→(c.shards.getD k default).appl.length≤100):=fun h k hk=>(rR h hk).2.1.na
 have HB8:Hid (fP g=0→∀k,k<g.shards.length→(g.shards.getD k default).length≤18):=fun h k hk=>((xW h).2.2 k hk).len
 have HZr:Hid (∀k,vQ g c k 0=g.shards.getD k default):=fun k=>fNe g c k
 have HEn:Hid (∀k,uF g c k=decide (vQ g c k (c.shards.getD k default).appl.length=(c.shards.getD k default).bals)):=fun k=>fPt g c k
 have HNo:Hid (¬(cluF c=0∧fP g=0∧g.shards.length=c.shards.length)→rW g c=false):=fun h=>fG4 h
 have HBad:Hid (cluF c=0→fP g=0→g.shards.length=c.shards.length→∀k,k<c.shards.length→uF g c k=false→rW g c=false):=fun h h0 hn k hk hs=>by
  rw[fE9 h h0 hn,decide_eq_false_iff_not];intro h';rw[h' k hk] at hs;cases hs
 have HOk:Hid (cluF c=0→fP g=0→g.shards.length=c.shards.length→(∀k,k<c.shards.length→uF g c k=true)→rW g c=true):=fun h h0 hn hs=>by
  rw[fE9 h h0 hn,decide_eq_true_iff];exact hs
 have HCS:Hid (cluS c=0↔cluF c=0):=fP2;have HN3:Hid (cluF c=0→1≤c.shards.length∧c.shards.length≤3):=fun h=>fLz h
 have HC0:Hid (∀k,k<c.cons.length→(c.cons.getD k default).legs.length≤1048576):=hlen;have HY:Hid (∀W,Below w.heap.size w W→cluR.V W y c):=fun W hW=>cluR.below hy hW
 have hx0:=hx;obtain⟨ug,eg,hxb⟩:=hx;subst eg;obtain⟨ag,cg,rfl⟩:=qW hxb;have HBg:Hid (∀k,k<g.shards.length→∃b o u cu,ag=some ⟨b,o,none⟩∧w.cell? ⟨b,o+k,none⟩=some (.slice u (g.shards.getD k default).length cu)∧balsR.V w (.slice u (g.shards.getD k default).length cu) (g.shards.getD k default)):=fun k hk=>by
  obtain⟨a9,c9,e9,_,_,h9⟩:=hxb;simp only[Value.slice.injEq] at e9;obtain⟨b,o,u,e,_,hc,hu⟩:=h9 k hk;obtain⟨ua,uc,rfl⟩:=fJ hu;exact⟨b,o,ua,uc,e9.1.trans e,rX hc,hu⟩
 obtain⟨hgl1,hgl2⟩:=xA hxb;have hy':=hy;obtain⟨a0,a1,a2,a3,a4,c0,c1,c2,c3,c4,n0,n1,n2,n3,n4,rfl,e0,e1,e2,e3,e4,L0,L1,L2,L3,L4⟩:=gL hy;obtain⟨u1,u2,u3,u4,u5,eq,h1,h2,h3,h4,h5⟩:=hy';simp only[Value.agg.injEq,Array.mk.injEq,List.cons.injEq,and_true] at eq;obtain⟨rfl,rfl,rfl,rfl,rfl⟩:=eq;obtain⟨_,hnc,hmc,HA⟩:=fC4 h2;unfold maxLen at hmc;have HX:Hid _:=HA;obtain⟨hnc0,hmc0,HA0⟩:=mY (by rw[e0];exact h1);rw[e0] at hnc0;unfold maxLen at hmc0;have HX0:Hid _:=HA0;rw[e1] at HAd HCn HAp HNo HBad HOk HN3;rw[e0] at HCn HX0 HC0;clear HA HA0 h1 h2 h3 h4 h5 hx0 hxb hy hneed hlen hsz e0 e1 e2 e3 e4 L2 L3 L4;generalize rW g c=R at *;generalize cluF c=cf at *;generalize cluS c=cs at *;generalize fP g=lf at *;generalize hng:g.shards.length=ng at *;clear hng;go_enter Tryz.func11,Tryz.ntmps11;go_wp2_with fail;refine(HF.out _ (qBq)).mono ?_;rintro e w1 ⟨rfl,hb1⟩;have hB1:Below w.heap.size w w1:=qBq;have x0:w1.cell? ⟨w.heap.size,0,none⟩=some (.slice ag ng cg):=cK hb1 (by simp[go_sem]);have y0:w1.cell? ⟨w.heap.size+1,0,none⟩=some (.slice a0 n0 c0):=cK hb1 (by simp[go_sem]);have y1:w1.cell? ⟨w.heap.size+1,1,none⟩=some (.slice a1 n1 c1):=cK hb1 (by simp[go_sem]);have y2:w1.cell? ⟨w.heap.size+1,2,none⟩=some (.slice a2 n2 c2):=cK hb1 (by simp[go_sem]);have y3:w1.cell? ⟨w.heap.size+1,3,none⟩=some (.slice a3 n3 c3):=cK hb1 (by simp[go_sem]);have y4:w1.cell? ⟨w.heap.size+1,4,none⟩=some (.slice a4 n4 c4):=cK hb1 (by simp[go_sem]);clear hb1 HF;by_cases hcs:cs=0;rotate_left
 ·
  have HC:Hid (R=false):=HNo.out (fun h=>hcs (HCS.out.2 h.1));have hcf':(cs !=0)=true:=by simp[hcs]
  clear HAd HCn HAp HNo HBad HOk HN3 HCS HB8 HL;go_wp2;go_ret;exact⟨by rw[HC.out];rfl,hB1⟩
 have hcf:cf=0:=HCS.out.1 hcs;clear HCS;subst hcs hcf;have HAd':Hid _:=HAd.out rfl;have HCn':Hid _:=HCn.out rfl;have HAp':Hid _:=HAp.out rfl;have HBad':Hid _:=HBad.out rfl;have HOk':Hid _:=HOk.out rfl;obtain⟨hN1,hN3⟩:=HN3.out rfl;clear HAd HCn HAp HBad HOk HN3;have zw1:w.heap.size+1<w1.heap.size:=wL w1 _ y0;have zw0:w.heap.size<w1.heap.size:=wL w1 _ x0;go_wp2_with fail;refine(HL.out _ (qBq)).mono ?_;rintro e w2 ⟨rfl,hb2⟩;have hB2:Below w.heap.size w w2:=bS (qBq) hb2;replace x0:=cK hb2 (by first|exact x0|exact cK (qBq) x0);replace y0:=cK hb2 (by first|exact y0|exact cK (qBq) y0);replace y1:=cK hb2 (by first|exact y1|exact cK (qBq) y1);replace y2:=cK hb2 (by first|exact y2|exact cK (qBq) y2);replace y3:=cK hb2 (by first|exact y3|exact cK (qBq) y3);replace y4:=cK hb2 (by first|exact y4|exact cK (qBq) y4);replace zw1:w.heap.size+1<w2.heap.size:=wL w2 _ y0;replace zw0:w.heap.size<w2.heap.size:=wL w2 _ x0;clear hb2 HL hB1;by_cases hlf:lf=0;rotate_left
 ·
  have HC:Hid (R=false):=HNo.out (fun h=>hlf h.2.1);have hlf':(lf !=0)=true:=by simp[hlf]
  clear HAd' HCn' HAp' HNo HBad' HOk' HB8;go_wp2;go_ret;exact⟨by rw[HC.out];rfl,hB2⟩
 subst hlf;by_cases hn:ng=n1;rotate_left
 ·
  have HC:Hid (R=false):=HNo.out (fun h=>hn h.2.2);have hn':((ng:Int) !=(n1:Int))=true:=by simp;omega
  clear HAd' HCn' HAp' HNo HBad' HOk' HB8;go_wp2;go_ret;exact⟨by rw[HC.out];rfl,hB2⟩
 subst hn;have HAd2:Hid _:=HAd'.out rfl rfl;have HBad2:Hid _:=HBad'.out rfl rfl;have HOk2:Hid _:=HOk'.out rfl rfl;have HB82:Hid _:=HB8.out rfl;clear HAd' HBad' HOk' HB8 HNo;go_wp2;go_loopw [5] (fun i W=>∃k:Nat,k≤ng∧i = .int .i64 k∧Hid (∀i,i<k→uF g c i=true)∧Below w2.heap.size w2 W) (fun i _=>ng-(intOf i).toNat)
 case atStart=>exact⟨0,Nat.zero_le _,rfl,fun j hj=>absurd hj (Nat.not_lt_zero _),Below.refl _ _⟩
 obtain⟨k,hk,rfl,HS,hbl⟩:=hrel;have hBr:=bS hB2 hbl;replace x0:=cK hbl x0;replace y0:=cK hbl y0;replace y1:=cK hbl y1;replace y2:=cK hbl y2;replace y3:=cK hbl y3;replace y4:=cK hbl y4;have zr1:w.heap.size+1<wr.heap.size:=wL wr _ y0;have zr0:w.heap.size<wr.heap.size:=wL wr _ x0;by_cases hlt:k<ng
 ·
  have hap:=HAp'.out k hlt;have hb8:=HB82.out k hlt;have HAk:=HAd2.out k hlt;have HCk:=HCn'.out k hlt;have HBk:=HBad2.out k hlt;have HEk:=HEn.out k;have HZk:=HZr.out k;obtain⟨bs,os,v1,v2,v3,v4,v5,rfl,g0,g1,g2,g3,g4,g6,hv⟩:=HX.out k hlt;obtain⟨_,_,_,_,_,eq,k1,k2,k3,k4,k5⟩:=hv;simp only[Value.agg.injEq,Array.mk.injEq,List.cons.injEq,and_true,true_and] at eq;obtain⟨rfl,rfl,rfl,rfl,rfl⟩:=eq;obtain⟨bg,og,pg,qg,rfl,tg,hgv⟩:=HBg.out k hlt;obtain⟨s,hs⟩:∃s,s=c.shards.getD k default:=⟨_,rfl⟩
  rw[←hs] at g0 k1 k5 hap HAk HCk HEk;obtain⟨gb,hgb⟩:∃gb,gb=g.shards.getD k default:=⟨_,rfl⟩
  rw[←hgb] at tg hgv hb8 HZk;clear hgb;have HST:Hid (uF g c k=true→∀i,i<k+1→uF g c i=true):=fun h i hi=>by
   by_cases e:i=k
   ·
    rw[e];exact h
   exact HS.out i (by omega)
  have HAk':Hid _:=HAk;have HCk':Hid _:=HCk;have HBk':Hid _:=HBk;have HEk':Hid _:=HEk;have HZk':Hid _:=HZk;have HV1:Hid (∀W,Below w.heap.size w W→balsR.V W v1 s.bals):=fun W hW=>balsR.below k1 hW
  have HV5:Hid (qJ w v5 s.appl):=k5;have HVg:Hid (∀W,Below w.heap.size w W→balsR.V W (.slice pg gb.length qg) gb):=fun W hW=>balsR.below hgv hW
  obtain⟨p1,q1,rfl⟩:=fJ k1;obtain⟨p2,q2,rfl⟩:=fK k2;obtain⟨p3,q3,rfl⟩:=fZ k3;obtain⟨p4,q4,rfl⟩:=fK k4;obtain⟨p5,q5,rfl⟩:=gT k5;generalize (c.shards.getD k default).votes.length=m2 at *;generalize (c.shards.getD k default).held.length=m3 at *;generalize (c.shards.getD k default).done.length=m4 at *;replace g0:=cK hBr g0;replace g1:=cK hBr g1;replace g2:=cK hBr g2;replace g3:=cK hBr g3;replace g4:=cK hBr g4;replace g6:=cK hBr g6;replace tg:=cK hBr tg;have zbg:bg<wr.heap.size:=wL wr _ tg;have zbs:bs<wr.heap.size:=wL wr _ g0;clear k1 k2 k3 k4 k5 hgv hs HAk HCk HBk HEk HZk HS;have hk':(k:Int)<(ng:Int):=by omega
  have hk0:(0:Int)≤(k:Int):=by omega
  have ho0:=World.ownsRow_lit (base:=wr.heap.size) (e:=180) (size:=3) (wr.alloc (.cells #[.int .i64 s.idx,.slice p1 s.bals.length q1,.slice p2 m2 q2,.slice p3 m3 q3,.slice p4 m4 q4,.slice p5 s.appl.length q5] 71)) #[] 0 (by simp) (by unfold maxLen;omega) (by simp);have hs0:vK ((wr.alloc (.cells #[.int .i64 s.idx,.slice p1 s.bals.length q1,.slice p2 m2 q2,.slice p3 m3 q3,.slice p4 m4 q4,.slice p5 s.appl.length q5] 71)).alloc (.cells #[] 180)) (.slice pg gb.length qg) gb.length (kV gb):=yN (HVg.out _ (qBq));rw[World.size_alloc] at ho0;go_wp2_with (at_builtin;refine fGn _ rfl _ _ rfl wr.heap.size _ [] rfl _ gb rfl ho0 hs0 ?c1 ?c2 ?_)
  case c1=>first|omega|(simp;omega)
  case c2=>first|omega|(simp;omega)|simp
  intro v5 w5 o5 gr5 f5;try rw[List.nil_append] at o5
  have hB5:Below wr.heap.size wr w5:=f5 _ (qBq);have S0:w5.cell? ⟨wr.heap.size,0,none⟩=some (.int .i64 s.idx):=(Mod.of_grown gr5).cell (by simp[go_sem]) (by simp[Value.ownBlock]);have S1:w5.cell? ⟨wr.heap.size,1,none⟩=some (.slice p1 s.bals.length q1):=(Mod.of_grown gr5).cell (by simp[go_sem]) (by simp[Value.ownBlock]);have S5:w5.cell? ⟨wr.heap.size,5,none⟩=some (.slice p5 s.appl.length q5):=(Mod.of_grown gr5).cell (by simp[go_sem]) (by simp[Value.ownBlock]);have HV50:Hid (balsR.V w5 v5 (vQ g c k 0)):=by
   show balsR.V _ _ _;rw[HZk'.out];exact balsR.ofO ⟨o5,rfl⟩
  obtain⟨pv,qv,rfl⟩:=gD o5;have hBw5:=bS hBr hB5;replace x0:=cK hB5 x0;replace y0:=cK hB5 y0;replace y1:=cK hB5 y1;replace y2:=cK hB5 y2;replace y3:=cK hB5 y3;replace y4:=cK hB5 y4;have zS:wr.heap.size<w5.heap.size:=wL w5 _ S0;have hbl5:Below w2.heap.size w2 w5:=bS hbl hB5;clear ho0 hs0 o5 gr5 f5 g0 g1 g2 g3 g4 g6 tg HZk' HVg hbl hBr;generalize wr.heap.size=S at *;generalize hna:s.appl.length=na at *;have HNA:Hid (s.appl.length=na):=hna;clear hna;go_wp2;go_loopw [7,8] (fun u jj W=>∃(j n:Nat) (p:Option Addr) (q:Nat),j≤na∧jj = .int .i64 j∧u = .slice p n q∧Hid (balsR.V W (.slice p n q) (vQ g c k j))∧Below w5.heap.size w5 W) (fun _ jj _=>na-(intOf jj).toNat)
  case atStart=>exact⟨0,_,_,_,Nat.zero_le _,rfl,rfl,HV50.out,Below.refl _ _⟩
  obtain⟨j,nv,pv',qv',hj,rfl,rfl,HVj,hblj⟩:=hrel;rename World=>w6
  have hB6:=bS hBw5 hblj;replace S0:=cK hblj S0;replace S1:=cK hblj S1;replace S5:=cK hblj S5;replace y0:=cK hblj y0;replace y1:=cK hblj y1;replace y2:=cK hblj y2;replace y3:=cK hblj y3;replace y4:=cK hblj y4;have zS6:S<w6.heap.size:=wL w6 _ S0;have zy6:w.heap.size+1<w6.heap.size:=wL w6 _ y0;clear HV50;by_cases hltj:j<na
  ·
   have hjs:j<s.appl.length:=by rw[HNA.out];exact hltj
   obtain⟨_,_,e5,_,_,hIV⟩:=HV5.out;simp only[Value.slice.injEq] at e5;obtain⟨b5,o5,eb5,t5⟩:=hIV j hjs;obtain rfl:p5=some ⟨b5,o5,none⟩:=e5.1.trans eb5;obtain⟨hff,hco,hfi⟩:=HCk'.out j hltj;obtain⟨b0,o0,pl,ql,rfl,t0,t1,hlv⟩:=HX0.out _ hff;have hll:=HC0.out _ hff;have HAj:=HAk'.out j hltj;unfold pW at HAj;rw[hco] at HAj;have HFj:=HFi.out (s.appl.getD j 0) (w.heap.size+1);rw[hfi] at HFj;obtain⟨id,hid⟩:∃id,id=s.appl.getD j 0:=⟨_,rfl⟩
   rw[←hid] at HAj HFj t5 hff t0 t1 hlv hll;obtain⟨f,hf⟩:∃f,f=fE c.cons id:=⟨_,rfl⟩
   rw[←hf] at HAj HFj hff t0 t1 hlv hll;obtain⟨l,hl⟩:∃l,l=c.cons.getD f default:=⟨_,rfl⟩
   rw[←hl] at HAj t0 t1 hlv hll;have HAj':Hid _:=HAj;have HFj':Hid _:=HFj;have HLV:Hid (∀W,Below w.heap.size w W→legsR.V W (.slice pl l.legs.length ql) l.legs):=fun W hW=>legsR.below hlv hW
   have HLE:Hid (l.legs.length≤1048576):=hll;have HCB:Hid (CluB w6 (w.heap.size+1) c):=⟨_,_,_,_,_,_,_,_,_,_,_,_,_,_,_,⟨y0,y1,y2,y3,y4⟩,HY.out _ hB6⟩;replace t5:=cK hB6 t5;replace t0:=cK hB6 t0;replace t1:=cK hB6 t1;clear hIV eb5 e5 hco hfi hid hf hl HAj HFj hlv hll hjs;have hj':(j:Int)<(na:Int):=by omega
   have hj0:(0:Int)≤(j:Int):=by omega
   have hf':(f:Int)<(n0:Int):=by omega
   have hf0:(0:Int)≤(f:Int):=by omega
   go_wp2;refine wp_region_noPanic ?_;refine fA (fun W=>W.cell? ⟨w.heap.size+1,0,none⟩=some (.slice (some ⟨b0,o0,none⟩) n0 c0)∧W.cell? ⟨S,0,none⟩=some (.int .i64 s.idx)∧W.cell? ⟨S,5,none⟩=some (.slice (some ⟨b5,o5,none⟩) na q5)∧W.cell? ⟨b5,o5+j,none⟩=some (.int .i64 id)∧W.cell? ⟨b0,o0+f*2,none⟩=some (.int .i64 l.id)∧W.cell? ⟨b0,o0+f*2+1,none⟩=some (.slice pl l.legs.length ql)) 16 (by kernel_rfl) ⟨cK (qBq) y0,cK (qBq) S0,cK (qBq) S5,cK (qBq) t5,cK (qBq) t0,cK (qBq) t1⟩ (fun hS=>?_);refine tM 0 rfl hS ?_;try simp only[jX]
   refine tM 1 rfl hS ?_;try simp only[jX]
   refine tM 2 rfl hS ?_;try simp only[jX]
   refine tM 3 rfl hS ?_;try simp only[jX]
   refine tM 4 rfl hS ?_;try simp only[jX]
   refine tM 5 rfl hS ?_;try simp only[jX]
   refine tM 6 rfl hS ?_;try simp only[jX]
   refine tM 7 rfl hS ?_;try simp only[jX]
   refine tM 11 rfl hS ?_;try simp only[jX]
   refine tM 12 rfl hS ?_;try simp only[jX]
   refine uS 8 rfl (fun K hK=>?_);go_simp;refine(HFj'.out _ ((HCB.out.below (qBq)).p)).mono ?_;rintro e w7 ⟨rfl,hb7⟩;have hB7:Below w6.heap.size w6 w7:=bS (qBq) hb7;have hS7:=And.intro (cK hb7 hS.1) (And.intro (cK hb7 hS.2.1) (And.intro (cK hb7 hS.2.2.1) (And.intro (cK hb7 hS.2.2.2.1) (And.intro (cK hb7 hS.2.2.2.2.1) (cK hb7 hS.2.2.2.2.2)))));refine hK _ _ (fun _=>hS7) ?_;clear hK K hb7 hS HFj';try simp only[jX]
   refine tM 9 rfl hS7 ?_;try simp only[jX]
   refine tM 10 rfl hS7 ?_;try simp only[jX]
   refine uS 13 rfl (fun K hK=>?_);go_simp;refine(fEs l.id _ l.legs s.idx _ (HLV.out _ (bS hB6 (bS hB7 (qBq)))) HLE.out).mono ?_;rintro e w8 ⟨v8,rfl,o8,hb8⟩;have hB8:Below w6.heap.size w6 w8:=bS (bS hB7 (qBq)) hb8;have HV8:Hid (legsR.V w8 v8 (onSh s.idx l.legs)):=kM o8;have hS8:=And.intro (cK hb8 hS7.1) (And.intro (cK hb8 hS7.2.1) (And.intro (cK hb8 hS7.2.2.1) (And.intro (cK hb8 hS7.2.2.2.1) (And.intro (cK hb8 hS7.2.2.2.2.1) (cK hb8 hS7.2.2.2.2.2)))));refine hK _ _ (fun _=>hS8) ?_;clear hK K hb8 hS7 o8 hB7;try simp only[jX]
   refine uS 14 rfl (fun K hK=>?_);go_simp;refine(HAj'.out _ _ _ (balsR.below HVj.out (by first|exact hB8|exact bS hB8 (qBq))) HV8.out).mono ?_;rintro e w9 ⟨p9,n9,q9,rfl,hv9,hb9⟩;have HV9:Hid (balsR.V w9 (.slice p9 n9 q9) (vQ g c k (j+1))):=hv9;have hB9:Below w5.heap.size w5 w9:=bS (bS hblj hB8) hb9;have hS9:=And.intro (cK hb9 hS8.1) (And.intro (cK hb9 hS8.2.1) (And.intro (cK hb9 hS8.2.2.1) (And.intro (cK hb9 hS8.2.2.2.1) (And.intro (cK hb9 hS8.2.2.2.2.1) (cK hb9 hS8.2.2.2.2.2)))));refine hK _ _ (fun _=>hS9) ?_;clear hK K hb9 hS8 hv9 HV8 hB8 HVj HAj';try simp only[jX]
   refine tM 15 rfl hS9 ?_;try simp only[jX]
   refine dN (NoPanic.normal ?_);clear hS9;go_wp2;exact⟨⟨j+1,_,_,_,by omega,by go_num,rfl,HV9,hB9⟩,by simp[intOf];omega⟩
  obtain rfl:j=na:=by omega
  have hti:¬(j:Int)<(j:Int):=by omega
  have HEk2:=HEk'.out;have HE2:Hid (uF g c k=decide (vQ g c k j=s.bals)):=HEk2;have HVW:Hid (∀W,Below w6.heap.size w6 W→balsR.V W (.slice pv' nv qv') (vQ g c k j)):=fun W hW=>balsR.below HVj.out hW
  clear HEk2 HVj HEk';generalize vQ g c k j=bl at *;have hb67:Below w6.heap.size w6 ((w6.alloc (.cells #[.slice pv' nv qv'] 68)).alloc (.cells #[.slice p1 s.bals.length q1] 68)):=qBq;go_wp2_with fail;refine(fGa _ _ ⟨[bl]⟩ ⟨[s.bals]⟩ _ (fQx (b:=w6.heap.size) (by simp[go_sem]) (HVW.out _ (qBq))) (fQx (b:=w6.heap.size+1) (by simp[go_sem]) (HV1.out _ (qBq)))).mono ?_;rintro e w7 ⟨rfl,hb7⟩;rw[fUu,←HE2.out];have hB7:Below w6.heap.size w6 w7:=bS (qBq) hb7;have hBw7:Below w.heap.size w w7:=bS hB6 hB7;have hB27:Below w2.heap.size w2 w7:=bS (bS hbl5 hblj) hB7;clear hb7 HE2 HVW hb67;generalize uF g c k=sk at *;cases sk
  ·
   have HC:Hid (R=false):=HBk'.out rfl;clear HBk' HST;go_wp2;go_ret;exact⟨by rw[HC.out];rfl,hBw7⟩
  have HQ:Hid _:=HST.out rfl;clear HBk' HST;go_wp2;exact⟨⟨k+1,by omega,by go_num,HQ,hB27⟩,by simp[intOf];omega⟩
 obtain rfl:k=ng:=by omega
 have hti:¬(k:Int)<(k:Int):=by omega
 have HC:Hid (R=true):=HOk2.out HS.out;go_wp2;go_ret;exact⟨by rw[HC.out];rfl,hBr⟩
end Go.Proofs.YtbfnobcidnmohaaGreat
namespace Go.Proofs.YtbfnobcidnmohaaGreat
open Go.ChangeShapes Go.WideShapes Go.ChangeAt Go.RowKit Go.Joins
theorem fRb {W:World} {base k:Nat} {a:Addr} {cs:List Value} (hk:0<k) (hc:W.cells? base a k=some cs):a.spot=none:=by
 obtain⟨hb,hl,hcell⟩:=World.cells?_some hc;have q0:=hcell 0 hk;obtain⟨b,o,s⟩:=a;cases s with
 | none=>rfl
 | some s=>
  have:0<cs.length:=by omega
  simp[Addr.add,World.cell?,this] at q0;split at q0 <;> simp at q0
theorem add_plain (b o i:Nat):(Addr.mk b o none).add i=⟨b,o+i,none⟩:=by
 by_cases h:i=0
 ·
  subst h;simp[Addr.add]
 simp[Addr.add,h]
theorem xE {H:Type} {enc:TypeId × Value→H} {W:World} {sp:Nat→Bool} {held:Bool} {n:Nat} {v:Value} {y:DataW H × List MemPlace} {t e size:Nat} {α:Type} [Inhabited α] {q:List Value→α→Prop}
  (ht:Tryz.prog.underlying t=some (.slice e)) (hz:Tryz.prog.cellsOf e=size) (hs:0<size)
  (hq:∀n cs y,DataW.trod enc Tryz.prog W 0 sp held n e cs=some y→cs.length=size→∃x,q cs x) (h:DataW.trod enc Tryz.prog W 0 sp held n t [v]=some y) :
  ∃(a:Option Addr) (cap:Nat) (xs:List α) (cs:Nat→List Value),v = .slice a xs.length cap∧xs.length≤cap∧cap≤maxLen∧∀i,i<xs.length→q (cs i) (xs.getD i default)∧(cs i).length=size∧∃b o,a=some ⟨b,o,none⟩∧∀j,j<size→W.cell? ⟨b,o+i*size+j,none⟩=(cs i)[j]?:=by
 rcases Go.Deep.open_slice ht h with ⟨hcs,_⟩|⟨a,len,cap,m,n',D,Pl,hcs,hb,hl,hm,hmm,_,hc⟩
 ·
  simp at hcs;subst hcs;exact⟨none,0,[],fun _=>[],rfl,by simp,by unfold maxLen;omega,fun i hi=>by simp at hi⟩
 simp at hcs;subst hcs;have hlm:len≤m:=by rw[hmm];split <;> omega
 rw[hz] at hc;have h1:∀i,i<len→∃z:List Value × α,q z.1 z.2∧z.1.length=size∧∃b o,a=⟨b,o,none⟩∧∀j,j<size→W.cell? ⟨b,o+i*size+j,none⟩=z.1[j]?:=by
  intro i hi;obtain⟨cs',h1,h2⟩:=hc i (by omega);obtain⟨_,hl',hcell⟩:=World.cells?_some h1;obtain⟨x,hx⟩:=hq _ _ _ h2 hl';obtain⟨cs0,k1,_⟩:=hc 0 (by omega);have hsp:=fRb hs k1;obtain⟨b,o,s⟩:=a;have hs0:s=none:=by simpa [Addr.add] using hsp
  subst hs0;refine⟨(cs',x),hx,hl',b,o,rfl,fun j hj=>?_⟩;have:=hcell j hj;rw[add_plain,add_plain] at this;exact this
 obtain⟨f,hf⟩:=Go.Deep.choose_lt h1;refine⟨some a,cap,(List.range len).map (fun i=>(f i).2),fun i=>(f i).1,by simp,by simpa using hl,hm,fun i hi=>?_⟩;simp at hi;obtain⟨g1,g2,b,o,rfl,g3⟩:=hf i hi;have e:(List.map (fun i=>(f i).2) (List.range len)).getD i default=(f i).2:=by simp[List.getD,hi]
 rw[e];exact⟨g1,g2,b,o,rfl,g3⟩
theorem fK4 {H:Type} {enc:TypeId × Value→H} {W:World} {sp:Nat→Bool} {held:Bool} {n:Nat} {v:Value} {y:DataW H × List MemPlace} {t e size:Nat} {α:Type} [Inhabited α] {R:Rep α} {te:Nat} {lv:Value→List Value}
  (ht:Tryz.prog.underlying t=some (.slice e)) (hz:Tryz.prog.cellsOf e=size) (hs:0<size)
  (hq:∀n cs y,DataW.trod enc Tryz.prog W 0 sp held n e cs=some y→cs.length=size→∃x u,lv u=cs∧R.V W u x) (h:DataW.trod enc Tryz.prog W 0 sp held n t [v]=some y) :
  ∃xs:List α,(nRep R te size lv).V W v xs:=by
 obtain⟨a,cap,xs,cs,rfl,h1,h2,h3⟩:=xE (q:=fun cs x=>∃u,lv u=cs∧R.V W u x) ht hz hs hq h;refine⟨xs,a,cap,rfl,h1,h2,fun i hi=>?_⟩;obtain⟨⟨u,g1,g2⟩,g3,b,o,g4,g5⟩:=h3 i hi;exact⟨b,o,u,g4,by rw[g1];exact g3,fun j hj=>by rw[g1];exact g5 j hj,g2⟩
variable [DecidableEq Leg] [Inhabited Leg] [DecidableEq Cont] [Inhabited Cont]
theorem fB5:Tryz.prog.cellsOf 2=1:=by kernel_rfl
theorem fPy:Tryz.prog.cellsOf 283=4:=by kernel_rfl
theorem fTa {H:Type} {enc:TypeId × Value→H} {W:World} {sp:Nat→Bool} {held:Bool} {n:Nat} {cs:List Value} {y:DataW H × List MemPlace}
  (ht:DataW.trod enc Tryz.prog W 0 sp held n 283 cs=some y) (hl:cs.length=4):∃x:Leg,cs=legC x:=by
 obtain⟨y0,y1,y2,y3,m,hy,hlen,h0,h1,h2,h3⟩:=trod_struct4 Tryz.underlying283 ht;simp only[fB5] at h0 h1 h2 h3;match cs,hl with
 | [c0,c1,c2,c3],_=>
  obtain⟨x0,e0,_⟩:=DataW.trod_int Tryz.underlying2 h0;obtain⟨x1,e1,_⟩:=DataW.trod_int Tryz.underlying2 h1;obtain⟨x2,e2,_⟩:=DataW.trod_int Tryz.underlying2 h2;obtain⟨x3,e3,_⟩:=DataW.trod_int Tryz.underlying2 h3;simp at e0 e1 e2 e3;subst e0 e1 e2 e3;exact⟨⟨x0,x1,x2,x3⟩,rfl⟩
theorem fQz {H:Type} {enc:TypeId × Value→H} {W:World} {sp:Nat→Bool} {held:Bool} {n:Nat} {v:Value} {y:DataW H × List MemPlace}
  (ht:DataW.trod enc Tryz.prog W 0 sp held n 106 [v]=some y):∃xs:List Leg,legsR.V W v xs:=by
 obtain⟨a,cap,xs,cs,rfl,h1,h2,h3⟩:=xE (q:=fun cs x=>cs=legC x) Tryz.underlying106 fPy (by omega) (fun n cs y h hl=>fTa h hl) ht;refine⟨xs,a,cap,rfl,h1,h2,fun i hi=>?_⟩;obtain⟨g1,g3,b,o,g4,g5⟩:=h3 i hi;rw[g1] at g5;exact⟨b,o,g4,g5 0 (by omega),g5 1 (by omega),g5 2 (by omega),g5 3 (by omega)⟩
variable [DecidableEq Bal] [Inhabited Bal] [DecidableEq Ledg] [Inhabited Ledg]
theorem fR5:Tryz.prog.cellsOf 262=3:=by kernel_rfl
theorem fUw {H:Type} {enc:TypeId × Value→H} {W:World} {sp:Nat→Bool} {held:Bool} {n:Nat} {cs:List Value} {y:DataW H × List MemPlace}
  (ht:DataW.trod enc Tryz.prog W 0 sp held n 262 cs=some y) (hl:cs.length=3):∃x:Bal,cs=balC x:=by
 obtain⟨y0,y1,y2,m,hy,hlen,h0,h1,h2⟩:=Go.Deep.trod_struct3 Tryz.underlying262 ht;simp only[fB5] at h0 h1 h2;match cs,hl with
 | [c0,c1,c2],_=>
  obtain⟨x0,e0,_⟩:=DataW.trod_int Tryz.underlying2 h0;obtain⟨x1,e1,_⟩:=DataW.trod_int Tryz.underlying2 h1;obtain⟨x2,e2,_⟩:=DataW.trod_int Tryz.underlying2 h2;simp at e0 e1 e2;subst e0 e1 e2;exact⟨⟨x0,x1,x2⟩,rfl⟩
theorem fMl {H:Type} {enc:TypeId × Value→H} {W:World} {sp:Nat→Bool} {held:Bool} {n:Nat} {v:Value} {y:DataW H × List MemPlace}
  (ht:DataW.trod enc Tryz.prog W 0 sp held n 110 [v]=some y):∃xs:List Bal,balsR.V W v xs:=by
 obtain⟨a,cap,xs,cs,rfl,h1,h2,h3⟩:=xE (q:=fun cs x=>cs=balC x) Tryz.underlying110 fR5 (by omega) (fun n cs y h hl=>fUw h hl) ht;refine⟨xs,a,cap,rfl,h1,h2,fun i hi=>?_⟩;obtain⟨g1,g3,b,o,g4,g5⟩:=h3 i hi;rw[g1] at g5;exact⟨b,o,g4,g5 0 (by omega),g5 1 (by omega),g5 2 (by omega)⟩
theorem fQy {H:Type} {enc:TypeId × Value→H} {W:World} {sp:Nat→Bool} {held:Bool} {n:Nat} {v:Value} {y:DataW H × List MemPlace}
  (ht:DataW.trod enc Tryz.prog W 0 sp held n 41 [v]=some y):∃xs:List (List Bal),balssR.V W v xs:=by
 refine fK4 Tryz.underlying41 (by kernel_rfl) (by omega) (fun n cs y h hl=>?_) ht;match cs,hl with
 | [c],_=>
  obtain⟨x,hx⟩:=fMl h;exact⟨x,c,rfl,hx⟩
theorem fOv {H:Type} {enc:TypeId × Value→H} {W:World} {sp:Nat→Bool} {held:Bool} {v:Value} {d:DataW H} {p:List MemPlace} {base:Nat} {r:Reach}
  (hv:Value.okWide Tryz.prog W r base 43 v) (h:DataW.Trod enc Tryz.prog W 0 sp held 43 v d p):∃x,ledgR.V W v x:=by
 obtain⟨cs,rfl,hsz⟩:=okWide_struct Tryz.underlying43 hv;have hC:Tryz.prog.cellsOf 43=1:=by kernel_rfl
 obtain⟨l⟩:=cs;match l,hsz.trans hC with
 | [c],_=>
  obtain⟨fuel,hf⟩:=h;obtain⟨y0,m,hx,_,h0⟩:=trod_struct1 Tryz.underlying43 hf;have hz:Tryz.prog.cellsOf 41=1:=by kernel_rfl
  have h0':DataW.trod enc Tryz.prog W 0 sp held m 41 [c]=some y0:=by simpa [Value.cells,hz] using h0
  obtain⟨xs,hxs⟩:=fQy h0';exact⟨⟨xs⟩,c,rfl,hxs⟩
theorem zT {H:Type} {enc:TypeId × Value→H} {W:World} {sp:Nat→Bool} {held:Bool} {n:Nat} {v:Value} {y:DataW H × List MemPlace}
  (ht:DataW.trod enc Tryz.prog W 0 sp held n 22 [v]=some y):∃xs,contsR.V W v xs:=by
 refine fK4 Tryz.underlying22 (by kernel_rfl) (by omega) (fun n cs y h hl=>?_) ht;obtain⟨y0,y1,m,hy,hlen,h0,h1⟩:=trod_struct2 Tryz.underlying108 h;have hz:Tryz.prog.cellsOf 106=1:=by kernel_rfl
 match cs,hl with
 | [c0,c1],_=>
  simp only[fB5,hz] at h0 h1;obtain⟨x0,e0,_⟩:=DataW.trod_int Tryz.underlying2 h0;simp at e0;subst e0;obtain⟨xs,hx⟩:=fQz h1;exact⟨⟨x0,xs⟩,.agg #[.int .i64 x0,c1],rfl,c1,rfl,hx⟩
end Go.Proofs.YtbfnobcidnmohaaGreat

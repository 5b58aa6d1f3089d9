import Derived.Test.YtbfnobcidnmohaaGreatPrnSafeClusterLaw29
import Derived.Test.YtbfnobcidnmohaaGreatPrnSafeClusterLaw28
set_option maxHeartbeats 16000000
set_option maxRecDepth 20000
set_option linter.unusedSimpArgs false
set_option linter.unusedVariables false
set_option linter.unusedSectionVars false
namespace Go.Proofs.YtbfnobcidnmohaaGreat
open Go.RowKit
attribute [local go_sem ↓] Go.wp_at_zero Go.wp_at_succ
section
open Go.Maps
variable [dQ Vot] [iH Vot] [dQ Slt] [iH Slt] [dQ SltR] [iH SltR] [dQ Bal] [iH Bal] [dQ Ledg] [iH Ledg] [dQ Leg] [iH Leg] [dQ Acc] [iH Acc] [dQ AccR] [iH AccR] [dQ AccsR] [iH AccsR] [dQ SltsR] [iH SltsR] [dQ Cont] [iH Cont]
theorem fCz (hSV:SortsV) (x y:Value) (l:List Acc) (c:Cont) (ysf:Int→List Vot) (w:World) (hx:accsR.V w x l) (hy:contR.V w y c) (hys:outC l c=0→∀s,s ∈ fD c.legs→Chs (fQ l c.id s) (ysf s)) :
  RI 85 #[x,y] w (.agg #[.int .i64 (outC l c),.int .i64 (outR l c ysf)]):=by
 obtain⟨uy,rfl,hy⟩:=hy;have HLf:Hid (bW w fun W=>RI 158 #[x] W (.int .i64 (mO l))):=fun W hW=>zW x l W (accsR.below hx hW)
 have HSh:Hid (bW w fun W=>Calls Tryz.prog 86 #[.agg #[.int .i64 c.id,uy]] W fun e w'=>∃v,e =.returned (.agg #[.int .i64 (fDf c.id c.legs),v])∧w'.ownsRow W.heap.size 2 1 v (fAk c.id c.legs).length (gN (fAk c.id c.legs))∧Below W.heap.size W w'):=fun W hW=>vV c.id uy c.legs W (legsR.below hy hW)
 have HMo:Hid (∀B W0 W p2 q2 s,Below w.heap.size w W0→Below W0.heap.size W0 W→W0.heap.size≤B→outC l c=0→s ∈ fD c.legs→sltR.V W0 (.agg #[.int .i64 c.id,.int .i64 s,.int .i64 (-1),.int .i64 (-1),.int .i64 0,.slice p2 0 q2]) (freS c.id s)→Bkv W B 0 (fun _=>none)→Calls Tryz.prog 161 #[.map (some B),x,.agg #[.int .i64 c.id,.int .i64 s,.int .i64 (-1),.int .i64 (-1),.int .i64 0,.slice p2 0 q2]] W (fOf B (ysf s) W)):=fun B W0 W p2 q2 s h0 h1 h2 h3 hs h4 h5=>fUp hSV B x p2 q2 l c.id s (ysf s) W0 W (accsR.below hx h0) h1 h2 (uD (fL1 h3).1) (fKw (fL1 h3).2 hs) (hys h3 s hs) h4 h5
 obtain⟨a,cx,rfl⟩:=qP hx;obtain⟨ay,cy,rfl⟩:=mM hy;clear hx hy hys hSV;generalize l.length=n at *;have hK0:Hid (∀e,mO l=e→¬e=0→outC l c=e∧outR l c ysf=0):=fun e h h0=>by
  have h1:outC l c=e:=by unfold outC;rw[if_neg (by rw[h];exact h0),h]
  exact⟨h1,by unfold outR;rw[h1,if_neg h0]⟩
 have hK1:Hid (∀e,mO l=0→fA c.id c.legs=e→¬e=0→outC l c=e∧outR l c ysf=0):=fun e h h2 h0=>by
  have h1:outC l c=e:=by unfold outC;rw[if_pos h,h2]
  exact⟨h1,by unfold outR;rw[h1,if_neg h0]⟩
 have hK2:Hid (mO l=0→fA c.id c.legs=0→outC l c=0∧outR l c ysf=outV (fun s=>hdV (ysf s)) (fD c.legs)):=fun h h2=>by
  have h1:outC l c=0:=by unfold outC;rw[if_pos h,h2]
  exact⟨h1,by unfold outR;rw[if_pos h1]⟩
 generalize c.legs.length=ny at *;go_enter Tryz.func85,Tryz.ntmps85;go_wp2_with fail;refine(HLf.out _ qBq).mono ?_;rintro e w1 ⟨rfl,hb1⟩;have hB1:Below w.heap.size w w1:=qBq;have hz1:=hb1.size;simp at hz1;obtain⟨c1,f1⟩:=bcell hb1;have l0:w1.cell? ⟨w.heap.size,0,none⟩=some (.slice a n cx):=cK hb1 sG;have y0:w1.cell? ⟨w.heap.size+1,0,none⟩=some (.int .i64 c.id):=cK hb1 sG;have y1:w1.cell? ⟨w.heap.size+1,1,none⟩=some (.slice ay ny cy):=cK hb1 sG;have r0:w1.cell? ⟨w.heap.size+2,0,none⟩=some (.int .i64 0):=cK hb1 sG;have r1:w1.cell? ⟨w.heap.size+2,1,none⟩=some (.int .i64 0):=cK hb1 sG;have rf:∀o,w1.frozen? ⟨w.heap.size+2,o,none⟩=false:=fun o=>by rw[f1 _ _ (by simp;try omega)];simp[go_sem]
 clear hb1 c1 f1 HLf;have zr:w.heap.size+2<w1.heap.size:=wL w1 _ r0;by_cases hf:mO l=0;rotate_left
 ·
  obtain⟨HC1,HC2⟩:=hK0.out _ rfl hf;have H1:Hid (outC l c=mO l):=HC1;have H2:Hid (outR l c ysf=0):=HC2;clear HC1 HC2 hK0 hK1 hK2 HSh HMo;generalize mO l=g at *;have hg':(g !=0)=true:=by simp[hf]
  go_wp2;exact bodyPost_ret (v:=.agg #[.int .i64 g,.int .i64 0]) (by simp[results,Tryz.results85,go_sem,r0,r1,rf]) rfl ⟨by rw[H1.out,H2.out],qS⟩
 rw[hf];go_wp2_with fail;refine(HSh.out _ hB1).mono ?_;rintro e w2 ⟨v2,rfl,ho2,hb2⟩;have hB2:Below w.heap.size w w2:=bS hB1 hb2;have hz2:=hb2.size;replace l0:=cK hb2 l0;replace y0:=cK hb2 y0;replace y1:=cK hb2 y1;replace r0:=cK hb2 r0;replace r1:=cK hb2 r1;replace rf:∀o,w2.frozen? ⟨w.heap.size+2,o,none⟩=false:=fun o=>by rw[(bcell hb2).2 _ _ zr];exact rf o
 clear hb2 HSh;have zr2:w.heap.size+2<w2.heap.size:=wL w2 _ r0;have zy2:w.heap.size+1<w2.heap.size:=wL w2 _ y0;by_cases hcf:fA c.id c.legs=0;rotate_left
 ·
  obtain⟨HC1,HC2⟩:=hK1.out _ hf rfl hcf;have H1:Hid (outC l c=fA c.id c.legs):=HC1;have H2:Hid (outR l c ysf=0):=HC2;have e1:fDf c.id c.legs=fA c.id c.legs:=rfl;rw[e1];obtain⟨a2,c2,rfl⟩:=gF ho2;clear HC1 HC2 hK0 hK1 hK2 HMo ho2 e1;generalize (fAk c.id c.legs).length=m at *;generalize fA c.id c.legs=g at *;have hg':(g !=0)=true:=by simp[hcf]
  go_wp2;exact bodyPost_ret (v:=.agg #[.int .i64 g,.int .i64 0]) (by simp[results,Tryz.results85,go_sem,r0,r1,rf,zr2,Nat.ne_of_lt zr2]) rfl ⟨by rw[H1.out,H2.out],qS⟩
 have e1:fDf c.id c.legs=0:=hcf;have e2:fAk c.id c.legs=fD c.legs:=if_pos hcf;rw[e1];rw[e2] at ho2;obtain⟨HC1,HC2⟩:=hK2.out hf hcf;have H1:Hid (outC l c=0):=HC1;have H2:Hid (outR l c ysf=outV (fun s=>hdV (ysf s)) (fD c.legs)):=HC2;have HID:Hid (∀s,s ∈ fD c.legs→idOk c.id s=true):=fun s hs=>fKw hcf hs
 clear HC1 HC2 hK0 hK1 hK2 e1 e2 hf hcf;obtain⟨a2,c2,rfl,hc2,hm2,hi2⟩:=kR ho2;unfold maxLen at hm2;have HI:Hid (∀i,i<(fD c.legs).length→∃b o,a2=some ⟨b,o,none⟩∧w2.cell? ⟨b,o+i,none⟩=some (.int .i64 ((fD c.legs).getD i 0))):=hi2;have HMem:Hid (∀i,i<(fD c.legs).length→(fD c.legs).getD i 0 ∈ fD c.legs):=fun i hi=>fNy hi
 have HHit:Hid (∀k,k<(fD c.legs).length→hdV (ysf ((fD c.legs).getD k 0))=2→outR l c ysf=2):=fun k hk h=>by rw[H2.out];exact fGl (f:=fun s=>hdV (ysf s)) hk h
 have HEnd:Hid ((∀k,k<(fD c.legs).length→¬hdV (ysf ((fD c.legs).getD k 0))=2)→outR l c ysf=outZ (fun s=>hdV (ysf s)) (fD c.legs) (fD c.legs).length):=fun h=>by rw[H2.out];exact fGk (f:=fun s=>hdV (ysf s)) h
 have hlen3:(fD c.legs).length≤3:=fW8 _ _ _;have HM1:Hid (∀B W0 W p2 q2 s,Below w.heap.size w W0→Below W0.heap.size W0 W→W0.heap.size≤B→s ∈ fD c.legs→sltR.V W0 (.agg #[.int .i64 c.id,.int .i64 s,.int .i64 (-1),.int .i64 (-1),.int .i64 0,.slice p2 0 q2]) (freS c.id s)→Bkv W B 0 (fun _=>none)→Calls Tryz.prog 161 #[.map (some B),.slice a n cx,.agg #[.int .i64 c.id,.int .i64 s,.int .i64 (-1),.int .i64 (-1),.int .i64 0,.slice p2 0 q2]] W (fOf B (ysf s) W)):=fun B W0 W p2 q2 s h0 h1 h2 hs h4 h5=>HMo.out B W0 W p2 q2 s h0 h1 h2 H1.out hs h4 h5
 clear ho2 hi2 HMo;generalize fD c.legs=shs at *;obtain⟨m,hm'⟩:∃m,m=shs.length:=⟨_,rfl⟩
 rw[←hm'] at hc2 HI HMem HHit HEnd hlen3 ⊢;have HML:Hid (m=shs.length):=hm';clear hm';have hmm:=@run_makeMap Tryz.prog;have hmf:∀(fn:Fn) (first cap:Array Value) (w:World),(Instr.makeFunc fn first cap).run Tryz.prog w =.ok (.func fn first cap) w:=fun _ _ _ _=>rfl
 have hBm:=fMz (w2.alloc (.cells #[.int .i64 0,.slice a2 m c2] 161));simp only[World.size_alloc] at hBm;go_wp2_with fail;clear hmm hmf;have hI0:fOg w2 (w2.heap.size+1) (w2.heap.size+1+1) (((w2.alloc (.cells #[.int .i64 0,.slice a2 m c2] 161)).alloc (.map #[] 0)).alloc (.cells #[.map (some (w2.heap.size+1))] 245)):=
  ⟨qBq,⟨0,_,by omega,hBm.below (bA (bR _ _) _)⟩,sG⟩
 obtain rfl:=HML.out;refine(fGm a2 c2 shs (fun s=>hdV (ysf s)) _ _ _ (fOg w2 (w2.heap.size+1) (w2.heap.size+1+1)) _ hI0 hlen3 (fun W hW i hi=>?hc) (fun W s hW hs=>fSc w2 _ _ _ _ n cx a c.id s (ysf s) (fun W p2 q2 h1 h2 h3=>HM1.out _ w2 W p2 q2 s hB2 h1 oM hs h2 h3) (HID.out s hs) l0 y0 oM oM W hW)).mono ?_
 case hc=>
  obtain⟨b,o,e,h⟩:=HI.out i hi;exact⟨b,o,e,cK hW.1 h⟩
 rintro e w5 ⟨rfl,hI5⟩;have hb5:=hI5.1;replace r0:=cK hb5 r0;replace r1:=cK hb5 r1;replace rf:∀o,w5.frozen? ⟨w.heap.size+2,o,none⟩=false:=fun o=>by rw[(bcell hb5).2 _ _ zr2];exact rf o
 have hB5:Below w.heap.size w w5:=bS hB2 hb5;have HR:Hid (outR l c ysf=outV (fun s=>hdV (ysf s)) shs):=H2;clear hI0 hI5 hBm HI HM1 HID HHit HEnd HMem H2 l0 y0 y1;generalize outV (fun s=>hdV (ysf s)) shs=T at *;go_wp2;exact bodyPost_ret (v:=.agg #[.int .i64 0,.int .i64 T]) (by simp[results,Tryz.results85,go_sem,r0,r1,rf]) rfl ⟨by rw[H1.out,HR.out],qS⟩
end
section
variable [dQ Vot] [iH Vot] [dQ Slt] [iH Slt] [dQ SltR] [iH SltR] [dQ Bal] [iH Bal] [dQ Ledg] [iH Ledg] [dQ Leg] [iH Leg] [dQ Acc] [iH Acc] [dQ AccR] [iH AccR] [dQ AccsR] [iH AccsR] [dQ SltsR] [iH SltsR]
theorem fD5 (x:Value) (l:List Acc) (c s:Int) (w:World) (hx:accsR.V w x l) :
  Calls Tryz.prog 87 #[x,.int .i64 c,.int .i64 s] w (SfE l c s w):=by
 have HFr:Hid (bW w fun W=>Calls Tryz.prog 164 #[x,.int .i64 c,.int .i64 s] W (FreE l c s W)):=fun W hW=>fPb x l c s W (accsR.below hx hW)
 obtain⟨a,cx,rfl,hcx,hmx,hx⟩:=fFm hx;unfold maxLen at hmx;have hXs:Hid (∀k,k<l.length→∃b o p q,a=some ⟨b,o,none⟩∧w.cell? ⟨b,o+k,none⟩=some (.slice p (l.getD k default).slots.length q)∧accR.V w (.agg #[.slice p (l.getD k default).slots.length q]) (l.getD k default)):=hx;clear hx;obtain⟨n,hn'⟩:∃n,n=l.length:=⟨_,rfl⟩
 have HN:Hid (l.length=n):=hn'.symm;rw[←hn'] at hcx hXs HFr ⊢;clear hn';go_enter Tryz.func87,Tryz.ntmps87;go_wp2_with fail;refine(HFr.out _ qBq).mono ?_;rintro e w1 ⟨hE0,hE1⟩;by_cases hf:freC l c s=0;rotate_left
 ·
  obtain⟨rfl,hb1⟩:=hE1 hf;have HC:Hid (yN l c s=⟨freC l c s,[]⟩):=fL7 hf;have hB1:Below w.heap.size w w1:=qBq;have hz1:=hb1.size;simp at hz1;obtain⟨c1,f1⟩:=bcell hb1;have r0:w1.cell? ⟨w.heap.size,0,none⟩=some (.int .i64 0):=cK hb1 sG;have r1:w1.cell? ⟨w.heap.size,1,none⟩=some (.slice none 0 0):=cK hb1 sG;have rf:∀o,w1.frozen? ⟨w.heap.size,o,none⟩=false:=fun o=>by rw[f1 _ _ (by simp;try omega)];simp[go_sem]
  clear hb1 c1 f1 hE0 hE1 HFr hXs;have zr:w.heap.size<w1.heap.size:=wL w1 _ r0;generalize freC l c s=g at *;have hg':(g !=0)=true:=by simp[hf]
  go_wp2;exact bodyPost_ret (v:=.agg #[.int .i64 g,.slice none 0 0]) (by simp[results,Tryz.results87,go_sem,r0,r1,rf,zr,Nat.ne_of_lt zr]) rfl (fW7 HC.out qS)
 obtain⟨p2,q2,F2,rfl,o2,hb1⟩:=hE0 hf;have HC:Hid (yN l c s=⟨0,fQ l c s⟩):=fSs hf;have hlk:=uD (fK6 hf).1;have HOk:Hid (∀k,k<l.length→AccOk (l.getD k default).slots):=fun k hk=>fHh hlk hk
 rw[HN.out] at HOk;have hn5:=hlk.hi;rw[HN.out] at hn5;have hB1:Below w.heap.size w w1:=qBq;have hz1:=hb1.size;simp at hz1;obtain⟨c1,f1⟩:=bcell hb1;have R0:w1.cell? ⟨w.heap.size,0,none⟩=some (.int .i64 0):=cK hb1 sG;have R1:w1.cell? ⟨w.heap.size,1,none⟩=some (.slice none 0 0):=cK hb1 sG;have RF:∀o,w1.frozen? ⟨w.heap.size,o,none⟩=false:=fun o=>by rw[f1 _ _ (by simp;try omega)];simp[go_sem]
 have HV:Hid (bW w1 fun W=>sltR.V W (.agg #[.int .i64 c,.int .i64 s,.int .i64 (-1),.int .i64 (-1),.int .i64 0,.slice p2 0 q2]) (freS c s)):=fun W hW=>sltR.below (sltR.ofO o2) hW
 clear hb1 c1 f1 hE0 hE1 HFr o2 hf hlk;have zR:w.heap.size<w1.heap.size:=wL w1 _ R0;have hs0:∃a c' F,(Value.slice none 0 0) =.slice a 0 c'∧∀W,sltsR.O W (w1.heap.size+1) F (.slice a 0 c') ((fQ l c s).take 0):=⟨none,0,_,rfl,fun W=>fNz W _⟩
 go_wp2;go_loopw [8,23] (fun t i w'=>∃k:Nat,k≤n∧i =.int .i64 k∧(∃a c' F,t =.slice a k c'∧sltsR.O w' (w1.heap.size+1) F (.slice a k c') ((fQ l c s).take k))∧(w'.cell? ⟨w1.heap.size,0,none⟩=some (.int .i64 0)∧w'.cell? ⟨w1.heap.size,1,none⟩=some (.int .i64 0)∧w'.cell? ⟨w1.heap.size,2,none⟩=some (.int .i64 0)∧w'.cell? ⟨w1.heap.size,3,none⟩=some (.int .i64 c)∧w'.cell? ⟨w1.heap.size,4,none⟩=some (.int .i64 s)∧w'.cell? ⟨w1.heap.size,5,none⟩=some (.int .i64 (-1))∧w'.cell? ⟨w1.heap.size,6,none⟩=some (.int .i64 (-1))∧w'.cell? ⟨w1.heap.size,7,none⟩=some (.int .i64 0)∧w'.cell? ⟨w1.heap.size,8,none⟩=some (.slice p2 0 q2))∧Below w1.heap.size w1 w') (fun t i _=>n-(intOf i).toNat)
 case atStart=>
  obtain⟨a0,c0,F0,e0,h0⟩:=hs0;exact⟨0,oM,rfl,⟨a0,c0,F0,e0,h0 _⟩,sG,qBq⟩
 clear hs0;obtain⟨k,hk,rfl,⟨as_,cs_,F,rfl,ho⟩,⟨t0,t1,t2,t3,t4,t5,t6,t7,t8⟩,hb⟩:=hrel;have hbl:Below w.heap.size w wr:=bS hB1 hb;have HO:Hid (sltsR.O wr (w1.heap.size+1) F (.slice as_ k cs_) ((fQ l c s).take k)):=ho;clear ho;have zt:w1.heap.size<wr.heap.size:=wL wr _ t0;by_cases hlt:k<n
 ·
  obtain⟨b,o,p,q,rfl,hc,hV⟩:=hXs.out k hlt;have hok:=HOk.out k hlt;have HL:Hid ((fQ l c s).take (k+1)=(fQ l c s).take k++[qL (l.getD k default).slots (freS c s)]):=fDi l c s (by rw[HN.out];exact hlt);have HB0:Hid (b<w.heap.size):=wL w _ hc;replace hc:=cK hbl hc;have zb:b<wr.heap.size:=wL wr _ hc;have HSo:Hid (bW wr fun W=>Calls Tryz.prog 166 #[.agg #[.slice p (l.getD k default).slots.length q],.agg #[.int .i64 c,.int .i64 s,.int .i64 (-1),.int .i64 (-1),.int .i64 0,.slice p2 0 q2]] W fun e w'=>∃v,e =.returned v∧sltR.V w' v (qL (l.getD k default).slots (freS c s))∧Below W.heap.size W w'):=fun W hW=>fFc _ _ (l.getD k default) (freS c s) W (accR.below hV (bS hbl hW)) (HV.out W (bS hb hW)) hok
  have HLen:Hid ((qL (l.getD k default).slots (freS c s)).cast.length≤1048576):=by
   show _≤_;rcases fDh (l.getD k default).slots (freS c s) with e|⟨i,hi,e,_⟩
   ·rw[e];exact Nat.zero_le _
   rw[e];exact Nat.le_trans (fGw (hok.ok i hi)).len oM
  clear hV hok;generalize qL (l.getD k default).slots (freS c s)=y at *;generalize (l.getD k default).slots.length=m at *;go_wp2_with fail;refine(HSo.out _ qBq).mono ?_;rintro e w2 ⟨v2,rfl,hv2,hb2⟩;have hB2:Below wr.heap.size wr w2:=qBq;have HCp:Hid (bW w2 fun W=>Calls Tryz.prog 165 #[v2] W fun e w'=>∃v F,e =.returned v∧sltR.O w' W.heap.size F v y∧Below W.heap.size W w'):=fun W hW=>fRh _ y W (sltR.below hv2 hW) HLen.out
  clear hb2 hv2 HSo;go_wp2_with fail;refine(HCp.out _ (bR _ _)).mono ?_;rintro e w3 ⟨v3,F3,rfl,o3,hb3⟩;obtain⟨a3,c3,rfl,_⟩:=xQ o3;have hB3:Below wr.heap.size wr w3:=bS hB2 hb3;have hz3:=hB3.size;have hz2:=hB2.size;have HO2:Hid (sltsR.O w3 (w1.heap.size+1) F (.slice as_ k cs_) ((fQ l c s).take k)):=sltsR.keep HO.out hB3;have HFl:Hid (∀b,F b→b<wr.heap.size):=fun b hb=>(sltsR.rng HO.out b hb).2
  have HF2:Hid (∀b,F3 b→wr.heap.size≤b):=fun b hb=>by have:=(sltR.rng o3 b hb).1;omega
  have HU:Hid (sltR.O w3 (w1.heap.size+1) F3 (.agg #[.int .i64 y.con,.int .i64 y.sh,.int .i64 y.pr,.int .i64 y.lb,.int .i64 y.lv,.slice a3 y.cast.length c3]) y):=sltR.base o3 oM;have T0:=cK hB3 t0;have T1:=cK hB3 t1;have T2:=cK hB3 t2;have T3:=cK hB3 t3;have T4:=cK hB3 t4;have T5:=cK hB3 t5;have T6:=cK hB3 t6;have T7:=cK hB3 t7;have T8:=cK hB3 t8;have hBw3:Below w1.heap.size w1 w3:=bS hb hB3;clear hb3 o3 HCp HO hc t0 t1 t2 t3 t4 t5 t6 t7 t8;go_wp2_with (at_builtin;refine fN9 _ rfl _ _ rfl (w1.heap.size+1) F F3 _ ((fQ l c s).take k) y w3.heap.size a3 c3 rfl rfl ?a1 ?a2 ?a3 ?a4 ?a5 ?a6 ?_)
  case a1=>exact sltsR.alloc HO2.out _
  case a2=>exact sltR.alloc HU.out _
  case a3=>exact fun b h1 h2=>by have:=HFl.out b h1;have:=HF2.out b h2;omega
  case a4=>simp[go_sem]
  case a5=>rw[List.length_take,pM,HN.out];omega
  case a6=>simp;omega
  intro v4 w4 F4 o4 hb4 _;rw[←HL.out] at o4;obtain⟨a4,c4,e4⟩:=pX (sltsR.ofO o4);rw[show((fQ l c s).take (k+1)).length=k+1 by rw[List.length_take,pM,HN.out];omega] at e4;subst e4;have o4':∃a c' F,(Value.slice a4 (k+1) c4) =.slice a (k+1) c'∧sltsR.O w4 (w1.heap.size+1) F (.slice a (k+1) c') ((fQ l c s).take (k+1)):=⟨_,_,F4,rfl,o4⟩
  have hB5:Below (w1.heap.size+1) w3 w4:=((bA (Below.refl _ w3) _).mono oM).trans hb4;replace T0:=(hB5.cell (p:=⟨w1.heap.size,0,none⟩) (by simp)).trans T0;replace T1:=(hB5.cell (p:=⟨w1.heap.size,1,none⟩) (by simp)).trans T1;replace T2:=(hB5.cell (p:=⟨w1.heap.size,2,none⟩) (by simp)).trans T2;replace T3:=(hB5.cell (p:=⟨w1.heap.size,3,none⟩) (by simp)).trans T3;replace T4:=(hB5.cell (p:=⟨w1.heap.size,4,none⟩) (by simp)).trans T4;replace T5:=(hB5.cell (p:=⟨w1.heap.size,5,none⟩) (by simp)).trans T5;replace T6:=(hB5.cell (p:=⟨w1.heap.size,6,none⟩) (by simp)).trans T6;replace T7:=(hB5.cell (p:=⟨w1.heap.size,7,none⟩) (by simp)).trans T7;replace T8:=(hB5.cell (p:=⟨w1.heap.size,8,none⟩) (by simp)).trans T8;have hB6:Below w1.heap.size w1 w4:=hBw3.trans (hB5.mono oM);clear o4 hb4 hB5;go_wp2;exact⟨⟨k+1,by omega,by go_num,o4',⟨T0,T1,T2,T3,T4,T5,T6,T7,T8⟩,hB6⟩,mI⟩
 have hkn:k=n:=oM;subst hkn;have ho:=HO.out;rw[List.take_of_length_le (by rw[pM,HN.out];exact Nat.le_refl _)] at ho;have HO2:Hid (sltsR.O wr (w1.heap.size+1) F (.slice as_ k cs_) (fQ l c s)):=ho;clear ho HO t0 t1 t2 t3 t4 t5 t6 t7 t8;have r0:=cK hb R0;have r1:=cK hb R1;have rf:∀o,wr.frozen? ⟨w.heap.size,o,none⟩=false:=fun o=>by rw[(bcell hb).2 _ _ zR];exact RF o
 go_wp2;refine bodyPost_ret (v:=.agg #[.int .i64 0,.slice as_ k cs_]) (by simp[results,Tryz.results87,go_sem,r0,r1,rf]) rfl ?_;refine⟨_,F,rfl,?_,qS⟩;rw[HC.out];refine⟨_,F,rfl,?_,fun _=>Iff.rfl⟩;exact sltsR.base (Rep.set _ (Rep.set _ HO2.out _ (by simp;omega)) _ (by simp;omega)) oM
end
section
open Go.Maps Go.Sort Go.Shelf
variable [dQ Vot] [iH Vot] [dQ Slt] [iH Slt] [dQ SltR] [iH SltR] [dQ Bal] [iH Bal] [dQ Ledg] [iH Ledg] [dQ Leg] [iH Leg]
theorem fVh {w:World} {a:Option Addr} {xs:List Slt} {n k:Nat} (hx:∀i,i<n→∃b o u,a=some ⟨b,o,none⟩∧(uU u).length=6∧(∀j,j<6→w.cell? ⟨b,o+i*6+j,none⟩=(uU u)[j]?)∧sltR.V w u (xs.getD i default)) (hk:k<n) :
  ∃b o p q,a=some ⟨b,o,none⟩∧(w.cell? ⟨b,o+k*6,none⟩=some (.int .i64 (xs.getD k default).con)∧w.cell? ⟨b,o+k*6+1,none⟩=some (.int .i64 (xs.getD k default).sh)∧w.cell? ⟨b,o+k*6+2,none⟩=some (.int .i64 (xs.getD k default).pr)∧w.cell? ⟨b,o+k*6+3,none⟩=some (.int .i64 (xs.getD k default).lb)∧w.cell? ⟨b,o+k*6+4,none⟩=some (.int .i64 (xs.getD k default).lv)∧w.cell? ⟨b,o+k*6+5,none⟩=some (.slice p (xs.getD k default).cast.length q))∧sltR.V w (.agg #[.int .i64 (xs.getD k default).con,.int .i64 (xs.getD k default).sh,.int .i64 (xs.getD k default).pr,.int .i64 (xs.getD k default).lb,.int .i64 (xs.getD k default).lv,.slice p (xs.getD k default).cast.length q]) (xs.getD k default):=by
 obtain⟨b,o,u,e,_,p,hv⟩:=hx k hk;have hV:=hv;obtain⟨s,rfl,hc⟩:=hv;obtain⟨au,cu,rfl⟩:=gJ hc;exact⟨b,o,au,cu,e,⟨p 0 oM,p 1 oM,p 2 oM,p 3 oM,p 4 oM,p 5 oM⟩,hV⟩
theorem xC (hSV:SortsV) (x:Value) (D:List Slt) (w:World) (hx:sltsR.V w x D) (hok0:askF D=0) :
  Calls Tryz.prog 168 #[x] w fun e w'=>ChE D w e w':=by
 obtain⟨hok1,h19⟩:=fKq hok0;have hok:Hid (fCc D):=hok1;have HSV:Hid SortsV:=hSV;clear hok0 hok1 hSV;obtain⟨ax,cx,rfl,hcx,hmx,hx⟩:=hx;unfold maxLen at hmx;have hX:Hid (∀i,i<D.length→∃b o p q,ax=some ⟨b,o,none⟩∧(w.cell? ⟨b,o+i*6,none⟩=some (.int .i64 (D.getD i default).con)∧w.cell? ⟨b,o+i*6+1,none⟩=some (.int .i64 (D.getD i default).sh)∧w.cell? ⟨b,o+i*6+2,none⟩=some (.int .i64 (D.getD i default).pr)∧w.cell? ⟨b,o+i*6+3,none⟩=some (.int .i64 (D.getD i default).lb)∧w.cell? ⟨b,o+i*6+4,none⟩=some (.int .i64 (D.getD i default).lv)∧w.cell? ⟨b,o+i*6+5,none⟩=some (.slice p (D.getD i default).cast.length q))∧sltR.V w (.agg #[.int .i64 (D.getD i default).con,.int .i64 (D.getD i default).sh,.int .i64 (D.getD i default).pr,.int .i64 (D.getD i default).lb,.int .i64 (D.getD i default).lv,.slice p (D.getD i default).cast.length q]) (D.getD i default)):=fun i hi=>fVh hx hi
 clear hx;obtain⟨n,hn'⟩:∃n,n=D.length:=⟨_,rfl⟩
 have HN:Hid (D.length=n):=hn'.symm;rw[←hn'] at hcx hX h19 ⊢;clear hn';have hn9:1≤n∧n≤9:=by have:=inBi.1 h19;omega
 have hb0:=fMz w;rw[←fM1 D] at hb0;have hmm:=@run_makeMap Tryz.prog;go_enter Tryz.func168,Tryz.ntmps168;go_wp2;clear hmm;go_loopw [9] (fun ii w'=>∃i m':Nat,i≤n∧ii =.int .i64 i∧m'≤i*60∧Bkv w' w.heap.size m' (cB D i 0)∧Below w.heap.size w w') (fun ii _=>n-(intOf ii).toNat)
 case atStart=>exact⟨0,0,Nat.zero_le _,rfl,by omega,hb0,qBq⟩
 clear hb0;obtain⟨i,m',hi,rfl,hm',hBk,hbl⟩:=hrel;have HBk:Hid (Bkv wr w.heap.size m' (cB D i 0)):=hBk;clear hBk;by_cases hlt:i<n
 ·
  obtain⟨b,o,p,q,rfl,hc,hV⟩:=hX.out i hlt;have HAdd:Hid (bW wr fun W=>Calls Tryz.prog 235 #[.map (some w.heap.size),.agg #[.int .i64 (D.getD i default).con,.int .i64 (D.getD i default).sh,.int .i64 (D.getD i default).pr,.int .i64 (D.getD i default).lb,.int .i64 (D.getD i default).lv,.slice p (D.getD i default).cast.length q]] W (AddE w.heap.size i D W)):=fun W hW=>fBr _ _ D i m' W (sltR.below hV (bS hbl hW)) (by rw[HN.out];exact hlt) (hok.out i (by rw[HN.out];exact hlt)) (HBk.out.below hW) hm' oM
  have hc2:=kS6 hbl hc;clear hc hV HBk;generalize D.getD i default=l at *;obtain⟨g0,g1,g2,g3,g4,g5⟩:=hc2;have zb:b<wr.heap.size:=wL wr _ g0;have hwz:=hbl.size;go_wp2_with fail;refine(HAdd.out _ qBq).mono ?_;rintro e w2 ⟨rfl,m2,hm2,hB2,hmod⟩;have hB3:Below w.heap.size w w2:=hmod.below (bA hbl _) (by simp;omega) (fun b hb=>oM);have HB2:Hid (Bkv w2 w.heap.size m2 (cB D (i+1) 0)):=hB2;clear hB2 hmod g0 g1 g2 g3 g4 g5 HAdd;go_wp2;exact⟨⟨i+1,m2,by omega,by go_num,hm2,HB2.out,hB3⟩,mI⟩
 have hin:i=n:=oM;subst hin;have HCh:Hid (Calls Tryz.prog 236 #[.map (some w.heap.size),.int .i64 i] wr fun e w'=>ChE D wr e w'):=xU HSV.out _ m' i D wr HBk.out hm' HN.out hok.out h19;go_wp2_with fail;refine HCh.out.mono ?_;rintro e w2 ⟨v,ys,rfl,hv,hch,hb2⟩;obtain⟨av,cv,rfl⟩:=gJ hv;have HV:Hid (votsR.V w2 (.slice av ys.length cv) ys):=hv;have HC:Hid (Chs D ys):=hch;clear hv hch;generalize ys.length=m at *;go_wp2;go_ret;exact⟨_,ys,rfl,HV.out,HC.out,bS hbl hb2⟩
end
section
variable [dQ Vot] [iH Vot] [dQ Slt] [iH Slt] [dQ SltR] [iH SltR] [dQ Bal] [iH Bal] [dQ Ledg] [iH Ledg] [dQ Leg] [iH Leg]
theorem fIj (hSV:SortsV) (x:Value) (D:List Slt) (ys:List Vot) (w:World) (hx:sltsR.V w x D) (hys:askF D=0→Chs D ys) :
  RI 91 #[x] w (.agg #[.int .i64 (fCk D ys),.int .i64 (fKx D ys),.int .i64 (fFp D ys)]):=by
 obtain⟨ax,cx,rfl⟩:=pX hx;have HX:Hid (bW w fun W=>sltsR.V W (.slice ax D.length cx) D):=fun W h=>sltsR.below hx h
 clear hx;generalize D.length=n at *;go_enter Tryz.func91,Tryz.ntmps91;go_wp2_with fail;refine(yO _ D _ (HX.out _ qBq)).mono ?_;rintro e w1 ⟨rfl,hb1⟩;have hB1:=bT w hb1;have q0:w1.cell? ⟨w.heap.size,0,none⟩=some (.int .i64 0):=cK hb1 sG;have q1:w1.cell? ⟨w.heap.size,1,none⟩=some (.int .i64 0):=cK hb1 sG;have q2:w1.cell? ⟨w.heap.size,2,none⟩=some (.int .i64 0):=cK hb1 sG;have qf:∀o,w1.frozen? ⟨w.heap.size,o,none⟩=false:=fun o=>by rw[(bcell hb1).2 _ _ (by simp)];simp[go_sem]
 have z1:w.heap.size<w1.heap.size:=wL w1 _ q0;clear hb1;by_cases hf:askF D=0
 ·
  have HF:Hid (askF D=0):=hf;have hC:=fun W h=>xC hSV _ D W (HX.out W h) hf
  rw[hf];clear hf;go_wp2_with fail;refine(hC _ hB1).mono ?_;rintro e w2 ⟨v,zs,rfl,hV,hZ,hb2⟩;obtain rfl:=uP (hys HF.out) hZ;have hB2:Below w.heap.size w w2:=bS hB1 hb2;replace qf:∀o,w2.frozen? ⟨w.heap.size,o,none⟩=false:=fun o=>by rw[(bcell hb2).2 _ _ z1];exact qf o
  replace q0:=cK hb2 q0;replace q1:=cK hb2 q1;replace q2:=cK hb2 q2;clear hC hb2 hB1 hys hZ;obtain⟨av,cv,rfl,hcv,hmv,hel⟩:=hV;unfold maxLen at hmv;cases hl:ys.length with
  | zero=>
   rw[hl] at hcv;have e1:Hid (fCk D ys=4∧fKx D ys=0∧fFp D ys=0):=⟨by unfold fCk;rw[if_pos HF.out,if_pos hl],by unfold fKx;rw[if_neg (fun h=>h.2 hl)],by unfold fFp;rw[if_neg (fun h=>h.2 hl)]⟩;clear hel hl;go_wp2;refine bodyPost_ret (v:=.agg #[.int .i64 4,.int .i64 0,.int .i64 0]) (by simp[results,Tryz.results91,go_sem,q0,q1,q2,qf]) rfl ⟨by rw[e1.out.1,e1.out.2.1,e1.out.2.2],?_⟩;iterate 3 (refine bset ?_ (by simp) _)
   exact hB2
  | succ p=>
   rw[hl] at hcv;obtain⟨bx,ox,rfl,g1⟩:=hel 0 oM;have e1:Hid (fCk D ys=0∧fKx D ys=(ys.getD 0 default).bal∧fFp D ys=(ys.getD 0 default).val):=⟨by unfold fCk;rw[if_pos HF.out,if_neg oM],by unfold fKx;rw[if_pos ⟨HF.out,by omega⟩],by unfold fFp;rw[if_pos ⟨HF.out,by omega⟩]⟩;clear hel hl;generalize ys.getD 0 default=l at *;obtain⟨g0,g1⟩:=g1;simp only[Nat.zero_mul,Nat.add_zero] at g0 g1;have i0:(0:Int)<((p+1:Nat):Int):=oM;have zb:bx<w2.heap.size:=wL w2 _ g0;go_wp2;refine bodyPost_ret (v:=.agg #[.int .i64 0,.int .i64 l.bal,.int .i64 l.val]) (by simp[results,Tryz.results91,go_sem,q0,q1,q2,qf]) rfl ⟨by rw[e1.out.1,e1.out.2.1,e1.out.2.2],?_⟩;iterate 3 (refine bset ?_ (by simp) _)
   exact hB2
 have e1:Hid (fCk D ys=askF D∧fKx D ys=0∧fFp D ys=0):=⟨by unfold fCk;rw[if_neg hf],by unfold fKx;rw[if_neg (fun h=>hf h.1)],by unfold fFp;rw[if_neg (fun h=>hf h.1)]⟩;obtain⟨c,hc⟩:∃c,c=askF D:=⟨_,rfl⟩
 rw[←hc] at hf e1 ⊢;clear hc hys;go_wp2;refine bodyPost_ret (v:=.agg #[.int .i64 c,.int .i64 0,.int .i64 0]) (by simp[results,Tryz.results91,go_sem,q0,q1,q2,qf]) rfl ⟨by rw[e1.out.1,e1.out.2.1,e1.out.2.2],?_⟩;iterate 3 (refine bset ?_ (by simp) _)
 exact hB1
theorem fBw (u f:Value) {w:World} {A:Int→Prop} (h:Calls Tryz.prog 244 #[u,f] w fun e w'=>∃r:Int,e =.returned (.int .i64 r)∧A r∧Below w.heap.size w w') :
  Calls Tryz.prog 169 #[u,f] w fun e w'=>∃r:Int,e =.returned (.bool (decide (0≤r)))∧A r∧Below w.heap.size w w':=by
 go_enter Tryz.func169,Tryz.ntmps169;go_wp2_with fail;refine h.mono ?_;rintro e w1 ⟨r,rfl,hA,hb⟩;have HA:Hid (A r):=hA;clear h hA;go_wp2;go_ret;exact⟨r,rfl,HA.out,hb⟩
theorem fOj (v:Vot) (B:Nat) (a:Option Addr) (n c:Nat) (l:Vot) (w:World) (hB:w.cell? ⟨B,0,none⟩=some (.slice a n c)) (hn:0<n) (ha:∃b o,a=some ⟨b,o,none⟩∧rP w b o l) :
  RI 170 #[.agg #[.int .i64 v.bal,.int .i64 v.val],.pointer (some ⟨B,0,none⟩)] w (.bool (!decide (v.val=l.val))):=by
 obtain⟨b,o,rfl,g0,g1⟩:=ha;have i0:(0:Int)<(n:Int):=oM;have z1:B<w.heap.size:=wL w _ hB;have z2:b<w.heap.size:=wL w _ g0;go_enter Tryz.func170,Tryz.ntmps170;go_wp2;go_quiet (fail);go_wp2;go_ret;exact⟨by first|(simp;done)|(rw[show(v.val !=l.val) = !decide (v.val=l.val) by rw[Bool.eq_iff_iff];simp];rfl),fJ qBq _⟩
theorem fF2 (ys:List Vot) (B:Nat) (a:Option Addr) (c:Nat) (w:World) (hB:w.cell? ⟨B,0,none⟩=some (.slice a ys.length c)) (hV:votsR.V w (.slice a ys.length c) ys) :
  Calls Tryz.prog 244 #[.slice a ys.length c,.func (.func 170) #[] #[.pointer (some ⟨B,0,none⟩)]] w fun e w'=>∃r:Int,e =.returned (.int .i64 r)∧(0≤r↔¬ ∀k,k<ys.length→(ys.getD k default).val=(ys.getD 0 default).val)∧Below w.heap.size w w':=by
 obtain⟨a',c',e',hcv,hmv,hel⟩:=hV;simp only[Value.slice.injEq,true_and] at e';obtain⟨rfl,rfl⟩:=e';unfold maxLen at hmv;have eg:∀args w,(callFunc 170 args).run Tryz.prog w =.ok (.enter 170 args) w:=enters_of Tryz.func170 kF rfl
 obtain⟨n,hn'⟩:∃n,n=ys.length:=⟨_,rfl⟩
 rw[←hn'] at hcv hel hB ⊢;clear hn';go_enter Tryz.func244,Tryz.ntmps244;go_wp2;go_loopw [8] (fun i w'=>∃k:Nat,k≤n∧i =.int .i64 k∧(∀t,t<k→(ys.getD t default).val=(ys.getD 0 default).val)∧Below w.heap.size w w') (fun i _=>n-(intOf i).toNat)
 case atStart=>exact⟨0,oM,rfl,fun t h=>absurd h oM,bR _ _⟩
 obtain⟨k,hk,rfl,hA,hbl⟩:=hrel;have HA:Hid (∀t,t<k→(ys.getD t default).val=(ys.getD 0 default).val):=hA;clear hA;by_cases hlt:k<n
 ·
  obtain⟨b0,o0,rfl,z0⟩:=hel 0 oM;obtain⟨bk,ok,ek,gk⟩:=hel k hlt;simp only[Option.some.injEq,Addr.mk.injEq,and_true] at ek;obtain⟨rfl,rfl⟩:=ek;have z0':=gL hbl z0;obtain⟨g0,g1⟩:=gL hbl gk;simp only[Nat.zero_mul,Nat.add_zero] at z0';have hB':=cK hbl hB;obtain⟨f,hf⟩:∃f,f=ys.getD 0 default:=⟨_,rfl⟩
  obtain⟨v,hv⟩:∃v,v=ys.getD k default:=⟨_,rfl⟩
  rw[←hf] at z0';rw[←hv] at g0 g1;have HF:Hid (ys.getD 0 default=f∧ys.getD k default=v):=⟨hf.symm,hv.symm⟩;have hcon:=fOj v B (some ⟨b0,o0,none⟩) n c f wr hB' oM ⟨b0,o0,rfl,z0'⟩;clear hf hv gk z0 hel;go_wp2_with fail;refine hcon.mono ?_;rintro e w1 ⟨rfl,hb1⟩;have hB1:=bS hbl hb1;clear hcon hb1;by_cases hh:v.val=f.val
  ·
   rw[show(!decide (v.val=f.val))=false by simp[hh]];have HH:Hid (v.val=f.val):=hh;clear hh;go_wp2;refine⟨⟨k+1,by omega,by go_num,fun t ht=>?_,hB1⟩,mI⟩;by_cases h:t<k
   ·exact HA.out t h
   have:t=k:=oM;subst this;rw[HF.out.1,HF.out.2];exact HH.out
  rw[show(!decide (v.val=f.val))=true by simp[hh]];have HH:Hid (¬v.val=f.val):=hh;clear hh;go_wp2;go_ret;refine⟨(k:Int),rfl,⟨fun _ h=>HH.out ?_,fun _=>oM⟩,hB1⟩;have:=h k hlt;rw[HF.out.1,HF.out.2] at this;exact this
 have hkn:k=n:=oM;subst hkn;clear hel;go_wp2;go_ret;exact⟨-1,rfl,⟨fun h=>oM,fun h=>absurd HA.out h⟩,hbl⟩
theorem fF0 (hSV:SortsV) (x:Value) (D:List Slt) (ys:List Vot) (w:World) (hx:sltsR.V w x D) (hys:askF D=0→Chs D ys) :
  RI 88 #[x] w (.bool (agB D ys)):=by
 obtain⟨ax,cx,rfl⟩:=pX hx;have HX:Hid (bW w fun W=>sltsR.V W (.slice ax D.length cx) D):=fun W h=>sltsR.below hx h
 clear hx;generalize D.length=n at *;go_enter Tryz.func88,Tryz.ntmps88;go_wp2_with fail;refine(yO _ D _ (HX.out _ qBq)).mono ?_;rintro e w1 ⟨rfl,hb1⟩;have hB1:=bT w hb1;clear hb1;by_cases hf:askF D=0
 ·
  have HF:Hid (askF D=0):=hf;have hC:=fun W h=>xC hSV _ D W (HX.out W h) hf
  rw[hf];clear hf;go_wp2_with fail;refine(hC _ hB1).mono ?_;rintro e w2 ⟨v,zs,rfl,hV,hZ,hb2⟩;obtain rfl:=uP (hys HF.out) hZ;have hB2:Below w.heap.size w w2:=bS hB1 hb2;clear hC hb2 hB1 hys hZ;obtain⟨av,cv,rfl⟩:=gJ hV;have HAg:Hid (agB D ys=true↔∀k,k<ys.length→(ys.getD k default).val=(ys.getD 0 default).val):=fQz HF.out;have HV:Hid (bW w2 fun W=>votsR.V W (.slice av ys.length cv) ys):=fun W h=>votsR.below hV h
  clear hV;have hI:=fun W B h1 h2=>fF2 ys B av cv W h1 (HV.out W h2)
  generalize ys.length=Ly at *;go_wp2_with fail;refine(fBw _ _ (hI _ w2.heap.size sG qBq)).mono ?_;rintro e w3 ⟨r,rfl,hr,hb3⟩;have hB3:=bT w hb3;clear hb3 hI;by_cases hr0:0≤r
  ·
   have HE:Hid (agB D ys=false):=by
    show _=_;cases e:agB D ys with
    | false=>rfl
    | true=>exact absurd (HAg.out.1 e) (hr.1 hr0)
   rw[show decide (0≤r)=true by simp[hr0]];go_wp2;go_ret;exact⟨by rw[HE.out];rfl,hB3⟩
  have HE:Hid (agB D ys=true):=by
   show _=_;refine HAg.out.2 ?_;by_cases h:∀k,k<Ly→(ys.getD k default).val=(ys.getD 0 default).val
   ·exact h
   exact absurd (hr.2 h) hr0
  rw[show decide (0≤r)=false by simp;omega];go_wp2;go_ret;exact⟨by rw[HE.out];rfl,hB3⟩
 have HE:Hid (agB D ys=false):=by show _=_;unfold agB;rw[decide_eq_false hf];rfl
 obtain⟨c,hc⟩:∃c,c=askF D:=⟨_,rfl⟩
 rw[←hc] at hf ⊢;clear hc hys;go_wp2;go_ret;exact⟨by rw[HE.out];rfl,hB1⟩
end
section
variable [dQ Leg] [iH Leg] [dQ Cont] [iH Cont] [dQ Bal] [iH Bal] [dQ Mrk] [iH Mrk] [dQ Shd] [iH Shd] [dQ Vot] [iH Vot] [dQ Slt] [iH Slt] [dQ Acc] [iH Acc] [dQ Trr] [iH Trr] [dQ Hrd] [iH Hrd] [dQ Ldr] [iH Ldr] [dQ Msg] [iH Msg] [dQ Clu] [iH Clu]
structure CluR where
 code:Int
 clu:Clu
variable [dQ CluR] [iH CluR]
variable [dQ Ledg] [iH Ledg] [dQ ShdR] [iH ShdR] [dQ CluR] [iH CluR]
theorem setX {α:Type} (R:Rep α) {w:World} {base:Nat} {F:Nat→Prop} {v:Value} {x:α} (h:R.O w base F v x) {p:Addr} (u:Value) (hp:¬F p.block):R.O (w.setCell p u) base F v x:=
 R.mod h (Mod.of_set w p u) (fun b hb e=>hp (e▸hb))
theorem fYb {α:Type} (R:Rep α) {W:World} {base B:Nat} {F:Nat→Prop} {v:Value} {x:α} (h:R.O W base F v x) (hB:¬F B) (u0 u1 u2 u3 u4:Value) :
  R.O (((((W.setCell ⟨B,0,none⟩ u0).setCell ⟨B,1,none⟩ u1).setCell ⟨B,2,none⟩ u2).setCell ⟨B,3,none⟩ u3).setCell ⟨B,4,none⟩ u4) base F v x:=
 setX R (setX R (setX R (setX R (setX R h _ hB) _ hB) _ hB) _ hB) _ hB
theorem fXz {α:Type} (R:Rep α) {W:World} {base B:Nat} {F:Nat→Prop} {v:Value} {x:α} (h:R.O W base F v x) (hB:¬F B) (u0 u1 u2 u3 u4 u5:Value) :
  R.O ((((((W.setCell ⟨B,0,none⟩ u0).setCell ⟨B,1,none⟩ u1).setCell ⟨B,2,none⟩ u2).setCell ⟨B,3,none⟩ u3).setCell ⟨B,4,none⟩ u4).setCell ⟨B,5,none⟩ u5) base F v x:=
 setX R (fYb R h hB _ _ _ _ _) _ hB
variable [dQ SltR] [iH SltR] [dQ AccR] [iH AccR] [dQ AccsR] [iH AccsR] [dQ SltsR] [iH SltsR] [dQ Rw] [iH Rw] [dQ LedgR] [iH LedgR] [dQ OutcR] [iH OutcR]
theorem fPm (hSV:SortsV) (x y:Value) (c:Clu) (l:Cont) (ysf:Int→Int→List Vot) (w:World) (hx:cluR.V w x c) (hy:contR.V w y l) (hcf:fA l.id l.legs=0) (hli:mO c.accs=0) (hsh:∀s,s ∈ fD l.legs→0≤s∧s<(c.shards.length:Int)) (hls:∀k,k<c.shards.length→LsOk (c.shards.getD k default)) (hys:∀s,freC c.accs l.id s=0→Chs (fQ c.accs l.id s) (ysf l.id s)) :
  RI 35 #[x,y] w (.bool (fAi c ysf l)):=by
 have hlo:=uD hli;have hoc:outC c.accs l=0:=by unfold outC;rw[if_pos hli];exact hcf
 have hfr:∀s,s ∈ fD l.legs→freC c.accs l.id s=0:=fun s hs=>by unfold freC;rw[if_pos hli,if_pos (fKw hcf hs)]
 have hask:∀s,s ∈ fD l.legs→askF (fQ c.accs l.id s)=0:=fun s hs=>fCf hlo (fKw hcf hs)
 obtain⟨u,rfl,hl⟩:=hy;have hx':=hx;obtain⟨a0,a1,a2,a3,a4,c0,c1,c2,c3,c4,n0,n1,n2,n3,n4,rfl,e0,e1,e2,e3,e4,L0,L1,L2,L3,L4⟩:=gP hx;obtain⟨u1,u2,u3,u4,u5,eq,h1,h2,h3,h4,h5⟩:=hx';simp only[Value.agg.injEq,Array.mk.injEq,List.cons.injEq,and_true] at eq;obtain⟨rfl,rfl,rfl,rfl,rfl⟩:=eq;have HSo:Hid (bW w fun W=>Calls Tryz.prog 86 #[.agg #[.int .i64 l.id,u]] W fun e w'=>∃v,e =.returned (.agg #[.int .i64 (fDf l.id l.legs),v])∧w'.ownsRow W.heap.size 2 1 v (fD l.legs).length (gN (fD l.legs))∧Below W.heap.size W w'):=fun W hW=>by
  have h:=vV l.id u l.legs W (legsR.below hl hW);rw[show fAk l.id l.legs=fD l.legs from if_pos hcf] at h;exact h
 have HOc:Hid (bW w fun W=>RI 85 #[.slice a2 n2 c2,.agg #[.int .i64 l.id,u]] W (.agg #[.int .i64 0,.int .i64 (hdS ysf l)])):=fun W hW=>by
  have h:=fCz hSV _ (.agg #[.int .i64 l.id,u]) c.accs l (ysf l.id) W (accsR.below h3 hW) ⟨u,rfl,legsR.below hl hW⟩ (fun _ s hs=>hys s (hfr s hs));unfold outR at h;rw[hoc,if_pos rfl] at h;exact h
 have HSl:Hid (∀s,s ∈ fD l.legs→∀W,Below w.heap.size w W→Calls Tryz.prog 87 #[.slice a2 n2 c2,.int .i64 l.id,.int .i64 s] W fun e w'=>∃p q F,e =.returned (.agg #[.int .i64 0,.slice p (fQ c.accs l.id s).length q])∧sltsR.O w' W.heap.size F (.slice p (fQ c.accs l.id s).length q) (fQ c.accs l.id s)∧Below W.heap.size W w'):=fun s hs W hW=>by
  refine(fD5 _ c.accs l.id s W (accsR.below h3 hW)).mono ?_;rintro e w' ⟨v,F,rfl,hO,hb⟩;have hd:yN c.accs l.id s=⟨0,fQ c.accs l.id s⟩:=by unfold yN;rw[if_pos hli,if_pos (fKw hcf hs)]
  rw[hd] at hO;obtain⟨v1,F1,ev,hv,_⟩:=hO;obtain⟨p,q,e⟩:=pX (sltsR.ofO hv);subst ev;subst e;exact⟨p,q,F1,rfl,hv,hb⟩
 have HAg:Hid (∀s,s ∈ fD l.legs→∀v W,sltsR.V W v (fQ c.accs l.id s)→RI 88 #[v] W (.bool (agB (fQ c.accs l.id s) (ysf l.id s)))):=fun s hs v W hv=>fF0 hSV v _ _ W hv (fun _=>hys s (hfr s hs))
 have HCh:Hid (∀s,s ∈ fD l.legs→∀v W,sltsR.V W v (fQ c.accs l.id s)→Calls Tryz.prog 91 #[v] W fun e w'=>(∃k b,e =.returned (.agg #[.int .i64 k,.int .i64 b,.int .i64 (hdV (ysf l.id s))]))∧Below W.heap.size W w'):=fun s hs v W hv=>by
  refine(fIj hSV v _ (ysf l.id s) W hv (fun _=>hys s (hfr s hs))).mono ?_;rintro e w' ⟨rfl,hb⟩;have hd:fFp (fQ c.accs l.id s) (ysf l.id s)=hdV (ysf l.id s):=by
   unfold fFp hdV;by_cases h:(ysf l.id s).length=0
   ·rw[if_neg (fun h'=>h'.2 h),if_pos h]
   rw[if_pos ⟨hask s hs,h⟩,if_neg h]
  rw[hd];exact⟨⟨_,_,rfl⟩,hb⟩
 obtain⟨p,q,rfl⟩:=mM hl;obtain⟨_,hnc,hmc,HA⟩:=fGu h2;unfold maxLen at hmc;have HX:Hid _:=HA;rw[e1] at hsh hls;have HSh:Hid _:=hsh;have HLs:Hid _:=hls;have HT1:Hid (∀j,j<(fD l.legs).length→(keyS c ysf l ((fD l.legs).getD j 0)&&fEl c ysf l ((fD l.legs).getD j 0))=false→fAi c ysf l=false):=fun j hj h=>fSn hj h
 have HT2:Hid ((∀j,j<(fD l.legs).length→(keyS c ysf l ((fD l.legs).getD j 0)&&fEl c ysf l ((fD l.legs).getD j 0))=true)→fAi c ysf l=true):=fun h=>fSm h
 clear HA h1 h2 h3 h4 h5 hx hl hcf hsh hls hys hfr hask hoc hlo hli e0 e1 e2 e3 e4 L0 L2 L3 L4;generalize fAi c ysf l=R at *;generalize fDf l.id l.legs=cd at *;have HKT:Hid (∀s,(keyS c ysf l s&&fEl c ysf l s)=((agB (fQ c.accs l.id s) (ysf l.id s)&&(!decide (hdV (ysf l.id s)=1)||decide (gD l.id (fAl c s).votes=1)))&&(decide (gD l.id (fAl c s).done=0)||decide (gD l.id (fAl c s).done=hdS ysf l)))):=fun s=>rfl
 obtain⟨kt,hkt⟩:∃kt:Int→Bool,kt=fun s=>keyS c ysf l s&&fEl c ysf l s:=⟨_,rfl⟩
 have HKt:Hid (∀s,kt s=((agB (fQ c.accs l.id s) (ysf l.id s)&&(!decide (hdV (ysf l.id s)=1)||decide (gD l.id (fAl c s).votes=1)))&&(decide (gD l.id (fAl c s).done=0)||decide (gD l.id (fAl c s).done=hdS ysf l)))):=fun s=>by rw[hkt];rfl
 have HT1':Hid (∀j,j<(fD l.legs).length→kt ((fD l.legs).getD j 0)=false→R=false):=fun j hj h=>HT1.out j hj (by rw[hkt] at h;exact h)
 have HT2':Hid ((∀j,j<(fD l.legs).length→kt ((fD l.legs).getD j 0)=true)→R=true):=fun h=>HT2.out (fun j hj=>by have:=h j hj;rw[hkt] at this;exact this)
 clear hkt HT1 HT2 HKT;obtain⟨SL,hSL⟩:∃SL,SL=fD l.legs:=⟨_,rfl⟩
 rw[←hSL] at HSo HSh HT1' HT2' HSl HAg HCh;clear hSL;generalize hdS ysf l=hd at *;generalize hml:l.legs.length=ml at *;clear hml;go_enter Tryz.func35,Tryz.ntmps35;have hfd1:∀w:World,(Instr.field 158 (.agg #[.int .i64 0,.int .i64 hd]) 1).run Tryz.prog w =.ok (.int .i64 hd) w:=fun _=>kF
 go_wp2_with fail;refine(HOc.out _ qBq).mono ?_;rintro e w1 ⟨rfl,hb1⟩;have hB1:Below w.heap.size w w1:=qBq;have y1:w1.cell? ⟨w.heap.size,1,none⟩=some (.slice a1 n1 c1):=cK hb1 sG;have y2:w1.cell? ⟨w.heap.size,2,none⟩=some (.slice a2 n2 c2):=cK hb1 sG;have t0:w1.cell? ⟨w.heap.size+1,0,none⟩=some (.int .i64 l.id):=cK hb1 sG;have t1:w1.cell? ⟨w.heap.size+1,1,none⟩=some (.slice p ml q):=cK hb1 sG;clear hb1 HOc;have zw1:w.heap.size+1<w1.heap.size:=wL w1 _ t0;have zw0:w.heap.size<w1.heap.size:=wL w1 _ y1;go_wp2_with fail;refine(HSo.out _ qBq).mono ?_;rintro e w2 ⟨v,rfl,ho,hb2⟩;have hB2:=bT w hb2;replace y1:=kQ hb2 y1;replace y2:=kQ hb2 y2;replace t0:=kQ hb2 t0;obtain⟨a5,c5,rfl,hc5,hm5,hIV⟩:=kR ho;unfold maxLen at hm5;have HI:Hid _:=hIV;clear ho hb2 hIV HSo hB1 t1 hfd1 zw0 zw1;generalize hmm:SL.length=m at *;have hfd:∀w:World,(Instr.field 161 (.agg #[.int .i64 cd,.slice a5 m c5]) 1).run Tryz.prog w =.ok (.slice a5 m c5) w:=fun _=>kF
 go_wp2;clear hfd;go_loopw [19] (fun i w'=>∃j:Nat,j≤m∧i =.int .i64 j∧Hid (∀j',j'<j→kt (SL.getD j' 0)=true)∧Below w2.heap.size w2 w') (fun i _=>m-(intOf i).toNat)
 case atStart=>exact⟨0,oM,rfl,fun j hj=>absurd hj oM,bR _ _⟩
 obtain⟨j,hj,rfl,HS,hbl⟩:=hrel;have hblw:=bS hB2 hbl;replace y1:=cK hbl y1;replace y2:=cK hbl y2;replace t0:=cK hbl t0;by_cases hlt:j<m
 ·
  obtain⟨b5,o5,rfl,g5⟩:=HI.out j hlt;have hmem:SL.getD j 0 ∈ SL:=by simp only[List.getD,List.getElem?_eq_getElem (show j<SL.length by rw[hmm];exact hlt),Option.getD_some];exact List.getElem_mem _
  have hs:=HSh.out (SL.getD j 0) hmem;have HSl':=HSl.out (SL.getD j 0) hmem;have HAg':=HAg.out (SL.getD j 0) hmem;have HCh':=HCh.out (SL.getD j 0) hmem;have HK':=HKt.out (SL.getD j 0);obtain⟨sN,hsN⟩:∃sN:Nat,SL.getD j 0=(sN:Int):=⟨(SL.getD j 0).toNat,by omega⟩
  have HN:Hid (kt (sN:Int)=false→R=false):=fun h=>HT1'.out j hlt (by rw[hsN];exact h)
  have HG:Hid (kt (sN:Int)=true→∀j',j'<j+1→kt (SL.getD j' 0)=true):=fun h j' hj'=>by
   by_cases e:j'=j
   ·rw[e,hsN];exact h
   exact HS.out j' oM
  rw[hsN] at g5 hs HSl' HAg' HCh' HK';have HSk:Hid _:=HSl';have HAk:Hid _:=HAg';have HCk:Hid _:=HCh';unfold fAl at HK';rw[Int.toNat_natCast] at HK';clear hsN hmem HSl' HAg' HCh';have hsn:sN<n1:=oM;have HA:=HX.out sN hsn;have hok:=HLs.out sN hsn;obtain⟨s,hs0⟩:∃s,s=c.shards.getD sN default:=⟨_,rfl⟩
  rw[←hs0] at HA hok HK';clear hs0;obtain⟨b,o,v1,v2,v3,v4,v5,rfl,g0,g1,g2,g3,g4,g6,hv⟩:=HA;have HDn:Hid (bW w fun W=>RI 89 #[.agg #[.int .i64 s.idx,v1,v2,v3,v4,v5],.int .i64 l.id] W (.bool (gD l.id s.done !=0))):=fun W hW=>fE1 _ s l.id W (shdR.below hv hW) (by have:=hok.nd;omega) hok.od
  obtain⟨_,_,_,_,_,eq,k1,k2,k3,k4,k5⟩:=hv;simp only[Value.agg.injEq,Array.mk.injEq,List.cons.injEq,and_true,true_and] at eq;obtain⟨rfl,rfl,rfl,rfl,rfl⟩:=eq;have HVd:Hid (bW w fun W=>RI 90 #[v4,.int .i64 l.id] W (.int .i64 (gD l.id s.done))):=fun W hW=>vU v4 s.done l.id W (mrksR.below k4 hW) (by have:=hok.nd;omega) hok.od.rise
  have HVv:Hid (bW w fun W=>RI 90 #[v2,.int .i64 l.id] W (.int .i64 (gD l.id s.votes))):=fun W hW=>vU v2 s.votes l.id W (mrksR.below k2 hW) (by have:=hok.nv;omega) hok.ov.rise
  obtain⟨p1,q1,rfl⟩:=gU k1;obtain⟨p2,q2,rfl⟩:=fT k2;obtain⟨p3,q3,rfl⟩:=gG k3;obtain⟨p4,q4,rfl⟩:=fT k4;obtain⟨p6,q6,rfl⟩:=gZ k5;clear k1 k2 k3 k4 k5 hok;replace g5:=cK hbl g5;replace g0:=cK hblw g0;replace g1:=cK hblw g1;replace g2:=cK hblw g2;replace g3:=cK hblw g3;replace g4:=cK hblw g4;replace g6:=cK hblw g6;have hti:(j:Int)<(m:Int):=oM;have hj0:(0:Int)≤(j:Int):=oM;have hs1:(sN:Int)<(n1:Int):=oM;have hs2:(0:Int)≤(sN:Int):=oM;have HKK:Hid _:=HK';clear HK' hs;generalize fQ c.accs l.id (sN:Int)=D at *;generalize agB D (ysf l.id (sN:Int))=ag at *;generalize hdV (ysf l.id (sN:Int))=hv at *;generalize kt (sN:Int)=kk at *;generalize gD l.id s.done=fd at *;generalize gD l.id s.votes=fv at *;generalize s.idx=ix at *;generalize s.bals.length=m1 at *;generalize s.votes.length=m2 at *;generalize s.held.length=m3 at *;generalize s.done.length=m4 at *;generalize s.appl.length=m5 at *;generalize l.id=id at *;have zb5:b5<wr.heap.size:=wL wr _ g5;have zr0:w.heap.size<wr.heap.size:=wL wr _ y1;have zr1:w.heap.size+1<wr.heap.size:=wL wr _ t0;go_wp2;go_cut [8,9] (fun u v wx=>∃(B:Nat) (p':Option Addr) (q':Nat),u =.pointer (some ⟨B,0,none⟩)∧v =.slice p' D.length q'∧(wx.cell? ⟨B,0,none⟩=some (.int .i64 ix)∧wx.cell? ⟨B,1,none⟩=some (.slice p1 m1 q1)∧wx.cell? ⟨B,2,none⟩=some (.slice p2 m2 q2)∧wx.cell? ⟨B,3,none⟩=some (.slice p3 m3 q3)∧wx.cell? ⟨B,4,none⟩=some (.slice p4 m4 q4)∧wx.cell? ⟨B,5,none⟩=some (.slice p6 m5 q6))∧Hid (sltsR.V wx (.slice p' D.length q') D)∧wr.heap.size≤B∧B<wx.heap.size∧Below wr.heap.size wr wx)
  case first=>
   refine wp_region_noPanic ?_;refine fB (fun W=>Below wr.heap.size wr W∧W.cell? ⟨w.heap.size,1,none⟩=some (.slice (some ⟨b,o,none⟩) n1 c1)∧W.cell? ⟨w.heap.size,2,none⟩=some (.slice a2 n2 c2)∧W.cell? ⟨w.heap.size+1,0,none⟩=some (.int .i64 id)∧W.cell? ⟨b,o+sN*6,none⟩=some (.int .i64 ix)∧W.cell? ⟨b,o+sN*6+1,none⟩=some (.slice p1 m1 q1)∧W.cell? ⟨b,o+sN*6+2,none⟩=some (.slice p2 m2 q2)∧W.cell? ⟨b,o+sN*6+3,none⟩=some (.slice p3 m3 q3)∧W.cell? ⟨b,o+sN*6+4,none⟩=some (.slice p4 m4 q4)∧W.cell? ⟨b,o+sN*6+5,none⟩=some (.slice p6 m5 q6)) 15 kF ⟨qBq,cK qBq y1,cK qBq y2,cK qBq t0,cK qBq g0,cK qBq g1,cK qBq g2,cK qBq g3,cK qBq g4,cK qBq g6⟩ (fun hS=>?_);refine tX 0 ?_;refine tX 1 ?_;refine tX 2 ?_;refine tX 3 ?_;refine tX 4 ?_;refine tX 5 ?_;refine tX 6 ?_;refine tX 7 ?_;refine tX 8 ?_;refine tX 9 ?_;refine fN5 (i:=10) (j:=12) kF rfl rfl ?_ ?_
   ·
    intro K hK;go_simp;refine(HSk.out _ (bS hblw qBq)).mono ?_;rintro e w3 ⟨p',q',F,rfl,o3,hb3⟩;have hB3:=bT wr hb3;have hS3:=And.intro hB3 (And.intro (cK hB3 y1) (And.intro (cK hB3 y2) (And.intro (cK hB3 t0) (And.intro (cK hB3 g0) (And.intro (cK hB3 g1) (And.intro (cK hB3 g2) (And.intro (cK hB3 g3) (And.intro (cK hB3 g4) (cK hB3 g6)))))))));refine hK _ _ (fun _=>hS3) ?_;clear hK K hb3 hS;try simp only[jX]
    have hfd2:∀w:World,(Instr.field 164 (.agg #[.int .i64 0,.slice p' D.length q']) 1).run Tryz.prog w =.ok (.slice p' D.length q') w:=fun _=>kF
    refine tX 11 ?_;refine uS 12 rfl (fun K hK=>?_);go_simp;have hBW:Below wr.heap.size wr (w3.alloc (.cells #[.int .i64 0,.slice none 0 0,.slice none 0 0,.slice none 0 0,.slice none 0 0,.slice none 0 0] 71)):=bA hB3 _;have hS4:=And.intro hBW (And.intro (cK hBW y1) (And.intro (cK hBW y2) (And.intro (cK hBW t0) (And.intro (cK hBW g0) (And.intro (cK hBW g1) (And.intro (cK hBW g2) (And.intro (cK hBW g3) (And.intro (cK hBW g4) (cK hBW g6)))))))));refine hK _ _ (fun _=>hS4) ?_;clear hK K hS3;have hB0:wr.heap.size≤w3.heap.size:=hB3.size;have hnF:¬F w3.heap.size:=fun h=>by have:=(sltsR.rng o3 _ h).2;omega
    have o4:=sltsR.alloc o3 (.cells #[.int .i64 0,.slice none 0 0,.slice none 0 0,.slice none 0 0,.slice none 0 0,.slice none 0 0] 71);have z0:(w3.alloc (.cells #[.int .i64 0,.slice none 0 0,.slice none 0 0,.slice none 0 0,.slice none 0 0,.slice none 0 0] 71)).cell? ⟨w3.heap.size,0,none⟩=some (.int .i64 0):=sG;have z1:(w3.alloc (.cells #[.int .i64 0,.slice none 0 0,.slice none 0 0,.slice none 0 0,.slice none 0 0,.slice none 0 0] 71)).cell? ⟨w3.heap.size,1,none⟩=some (.slice none 0 0):=sG;have z2:(w3.alloc (.cells #[.int .i64 0,.slice none 0 0,.slice none 0 0,.slice none 0 0,.slice none 0 0,.slice none 0 0] 71)).cell? ⟨w3.heap.size,2,none⟩=some (.slice none 0 0):=sG;have z3:(w3.alloc (.cells #[.int .i64 0,.slice none 0 0,.slice none 0 0,.slice none 0 0,.slice none 0 0,.slice none 0 0] 71)).cell? ⟨w3.heap.size,3,none⟩=some (.slice none 0 0):=sG;have z4:(w3.alloc (.cells #[.int .i64 0,.slice none 0 0,.slice none 0 0,.slice none 0 0,.slice none 0 0,.slice none 0 0] 71)).cell? ⟨w3.heap.size,4,none⟩=some (.slice none 0 0):=sG;have z5:(w3.alloc (.cells #[.int .i64 0,.slice none 0 0,.slice none 0 0,.slice none 0 0,.slice none 0 0,.slice none 0 0] 71)).cell? ⟨w3.heap.size,5,none⟩=some (.slice none 0 0):=sG;have zf:∀o,(w3.alloc (.cells #[.int .i64 0,.slice none 0 0,.slice none 0 0,.slice none 0 0,.slice none 0 0,.slice none 0 0] 71)).frozen? ⟨w3.heap.size,o,none⟩=false:=fun o=>sG
    have hlt4:w3.heap.size<(w3.alloc (.cells #[.int .i64 0,.slice none 0 0,.slice none 0 0,.slice none 0 0,.slice none 0 0,.slice none 0 0] 71)).heap.size:=by simp
    generalize hW4:w3.alloc (.cells #[.int .i64 0,.slice none 0 0,.slice none 0 0,.slice none 0 0,.slice none 0 0,.slice none 0 0] 71)=W4 at *;clear hW4;generalize w3.heap.size=B at *;try simp only[jX]
    refine uS 13 rfl (fun K hK=>?_);go_simp;have hB13:Below wr.heap.size wr ((((((W4.setCell ⟨B,0,none⟩ (.int .i64 ix)).setCell ⟨B,1,none⟩ (.slice p1 m1 q1)).setCell ⟨B,2,none⟩ (.slice p2 m2 q2)).setCell ⟨B,3,none⟩ (.slice p3 m3 q3)).setCell ⟨B,4,none⟩ (.slice p4 m4 q4)).setCell ⟨B,5,none⟩ (.slice p6 m5 q6)):=bset (bset (bset (bset (bset (bset hBW hB0 _) hB0 _) hB0 _) hB0 _) hB0 _) hB0 _;have hS13:=And.intro hB13 (And.intro (cK hB13 y1) (And.intro (cK hB13 y2) (And.intro (cK hB13 t0) (And.intro (cK hB13 g0) (And.intro (cK hB13 g1) (And.intro (cK hB13 g2) (And.intro (cK hB13 g3) (And.intro (cK hB13 g4) (cK hB13 g6)))))))));refine hK _ _ (fun _=>hS13) ?_;clear hK K;try simp only[jX]
    refine tX 14 ?_;refine dP ?_;clear hS13;go_wp2_with fail;go_meet
    case rel=>exact⟨_,p',q',rfl,rfl,⟨by simp[go_sem,z0,z1,z2,z3,z4,z5,zf],by simp[go_sem,z0,z1,z2,z3,z4,z5,zf],by simp[go_sem,z0,z1,z2,z3,z4,z5,zf],by simp[go_sem,z0,z1,z2,z3,z4,z5,zf],by simp[go_sem,z0,z1,z2,z3,z4,z5,zf],by simp[go_sem,z0,z1,z2,z3,z4,z5,zf]⟩,sltsR.ofO (fXz sltsR o4 hnF _ _ _ _ _ _),hB0,by simp;omega,hB13⟩
   intro K hK;go_simp;have hB4:Below wr.heap.size wr (wr.drew.alloc (.cells #[.int .i64 0,.slice none 0 0,.slice none 0 0,.slice none 0 0,.slice none 0 0,.slice none 0 0] 71)):=qBq;have hS4:=And.intro hB4 (And.intro (cK hB4 y1) (And.intro (cK hB4 y2) (And.intro (cK hB4 t0) (And.intro (cK hB4 g0) (And.intro (cK hB4 g1) (And.intro (cK hB4 g2) (And.intro (cK hB4 g3) (And.intro (cK hB4 g4) (cK hB4 g6)))))))));refine hK _ _ (fun _=>hS4) ?_;clear hK K hS;have z0':(wr.drew.alloc (.cells #[.int .i64 0,.slice none 0 0,.slice none 0 0,.slice none 0 0,.slice none 0 0,.slice none 0 0] 71)).cell? ⟨wr.heap.size,0,none⟩=some (.int .i64 0):=sG;have z1':(wr.drew.alloc (.cells #[.int .i64 0,.slice none 0 0,.slice none 0 0,.slice none 0 0,.slice none 0 0,.slice none 0 0] 71)).cell? ⟨wr.heap.size,1,none⟩=some (.slice none 0 0):=sG;have z2':(wr.drew.alloc (.cells #[.int .i64 0,.slice none 0 0,.slice none 0 0,.slice none 0 0,.slice none 0 0,.slice none 0 0] 71)).cell? ⟨wr.heap.size,2,none⟩=some (.slice none 0 0):=sG;have z3':(wr.drew.alloc (.cells #[.int .i64 0,.slice none 0 0,.slice none 0 0,.slice none 0 0,.slice none 0 0,.slice none 0 0] 71)).cell? ⟨wr.heap.size,3,none⟩=some (.slice none 0 0):=sG;have z4':(wr.drew.alloc (.cells #[.int .i64 0,.slice none 0 0,.slice none 0 0,.slice none 0 0,.slice none 0 0,.slice none 0 0] 71)).cell? ⟨wr.heap.size,4,none⟩=some (.slice none 0 0):=sG;have z5':(wr.drew.alloc (.cells #[.int .i64 0,.slice none 0 0,.slice none 0 0,.slice none 0 0,.slice none 0 0,.slice none 0 0] 71)).cell? ⟨wr.heap.size,5,none⟩=some (.slice none 0 0):=sG
   have zf':∀o,(wr.drew.alloc (.cells #[.int .i64 0,.slice none 0 0,.slice none 0 0,.slice none 0 0,.slice none 0 0,.slice none 0 0] 71)).frozen? ⟨wr.heap.size,o,none⟩=false:=fun o=>sG
   have hlt4:wr.heap.size<(wr.drew.alloc (.cells #[.int .i64 0,.slice none 0 0,.slice none 0 0,.slice none 0 0,.slice none 0 0,.slice none 0 0] 71)).heap.size:=by simp
   have hB0:wr.heap.size≤wr.heap.size:=Nat.le_refl _;try simp only[jX]
   show gI _ _ _ _ _ _ _ _ _ (wr.drew.alloc (.cells #[.int .i64 0,.slice none 0 0,.slice none 0 0,.slice none 0 0,.slice none 0 0,.slice none 0 0] 71));obtain⟨V4,hV4⟩:∃V4,V4=wr.drew.alloc (.cells #[.int .i64 0,.slice none 0 0,.slice none 0 0,.slice none 0 0,.slice none 0 0,.slice none 0 0] 71):=⟨_,rfl⟩
   rw[←hV4] at hB4 hS4 z0' z1' z2' z3' z4' z5' zf' hlt4 ⊢;clear hV4;refine uS 10 rfl (fun K hK=>?_);go_simp;refine(HSk.out _ (bS hblw hB4)).mono ?_;rintro e W4 ⟨p',q',F,rfl,o4,hb3⟩;have hBW:Below wr.heap.size wr W4:=bS hB4 hb3;have hS3:=And.intro hBW (And.intro (cK hBW y1) (And.intro (cK hBW y2) (And.intro (cK hBW t0) (And.intro (cK hBW g0) (And.intro (cK hBW g1) (And.intro (cK hBW g2) (And.intro (cK hBW g3) (And.intro (cK hBW g4) (cK hBW g6)))))))));refine hK _ _ (fun _=>hS3) ?_;clear hK K hS4;have hnF:¬F wr.heap.size:=fun h=>by have:=(sltsR.rng o4 _ h).1;omega
   have z0:=cK hb3 z0';have z1:=cK hb3 z1';have z2:=cK hb3 z2';have z3:=cK hb3 z3';have z4:=cK hb3 z4';have z5:=cK hb3 z5';have zf:∀o,W4.frozen? ⟨wr.heap.size,o,none⟩=false:=fun o=>by rw[(bcell hb3).2 _ _ hlt4];exact zf' o
   replace hlt4:wr.heap.size<W4.heap.size:=wL W4 _ z0;have hfd2:∀w:World,(Instr.field 164 (.agg #[.int .i64 0,.slice p' D.length q']) 1).run Tryz.prog w =.ok (.slice p' D.length q') w:=fun _=>kF
   try simp only[jX]
   refine tX 11 ?_;clear hb3 z0' z1' z2' z3' z4' z5' zf';try simp only[jX]
   refine uS 13 rfl (fun K hK=>?_);go_simp;have hB13:Below wr.heap.size wr ((((((W4.setCell ⟨wr.heap.size,0,none⟩ (.int .i64 ix)).setCell ⟨wr.heap.size,1,none⟩ (.slice p1 m1 q1)).setCell ⟨wr.heap.size,2,none⟩ (.slice p2 m2 q2)).setCell ⟨wr.heap.size,3,none⟩ (.slice p3 m3 q3)).setCell ⟨wr.heap.size,4,none⟩ (.slice p4 m4 q4)).setCell ⟨wr.heap.size,5,none⟩ (.slice p6 m5 q6)):=bset (bset (bset (bset (bset (bset hBW hB0 _) hB0 _) hB0 _) hB0 _) hB0 _) hB0 _;have hS13:=And.intro hB13 (And.intro (cK hB13 y1) (And.intro (cK hB13 y2) (And.intro (cK hB13 t0) (And.intro (cK hB13 g0) (And.intro (cK hB13 g1) (And.intro (cK hB13 g2) (And.intro (cK hB13 g3) (And.intro (cK hB13 g4) (cK hB13 g6)))))))));refine hK _ _ (fun _=>hS13) ?_;clear hK K;try simp only[jX]
   refine tX 14 ?_;refine dP ?_;clear hS13;go_wp2_with fail;go_meet
   case rel=>exact⟨_,p',q',rfl,rfl,⟨by simp[go_sem,z0,z1,z2,z3,z4,z5,zf],by simp[go_sem,z0,z1,z2,z3,z4,z5,zf],by simp[go_sem,z0,z1,z2,z3,z4,z5,zf],by simp[go_sem,z0,z1,z2,z3,z4,z5,zf],by simp[go_sem,z0,z1,z2,z3,z4,z5,zf],by simp[go_sem,z0,z1,z2,z3,z4,z5,zf]⟩,sltsR.ofO (fXz sltsR o4 hnF _ _ _ _ _ _),hB0,by simp;omega,hB13⟩
  case rest=>
   obtain⟨B,p',q',rfl,rfl,⟨s0,s1,s2,s3,s4,s5⟩,HDV0,hB0,hBlt,hBx⟩:=hcut;generalize hwc:wc=w5 at *;clear hwc;have hBw5:=bS hblw hBx;have hB25:=bS hbl hBx;have HDV:Hid (bW w5 fun W=>sltsR.V W (.slice p' D.length q') D):=fun W hW=>sltsR.below HDV0.out hW
   replace t0:=cK hBx t0;have zt:w.heap.size+1<w5.heap.size:=wL w5 _ t0;clear HDV0 y1 y2 g0 g1 g2 g3 g4 g6 g5 hBx hbl hblw HSk;go_wp2_with fail;refine(HAk.out _ _ (HDV.out _ qBq)).mono ?_;rintro e w6 ⟨rfl,hb6⟩;have hB56:=bT w5 hb6;replace t0:=cK hB56 t0;replace s0:=cK hB56 s0;replace s1:=cK hB56 s1;replace s2:=cK hB56 s2;replace s3:=cK hB56 s3;replace s4:=cK hB56 s4;replace s5:=cK hB56 s5;have hBw6:=bS hBw5 hB56;have hB26:=bS hB25 hB56;have zt6:w.heap.size+1<w6.heap.size:=wL w6 _ t0;have zs6:B<w6.heap.size:=wL w6 _ s0;clear hb6 HAk;cases ag
   ·have HC:Hid (R=false):=HN.out (by rw[HKK.out];rfl);clear HN HG HKK HCk HDn HVd HVv HDV;go_wp2;go_ret;exact⟨rH,hBw6⟩
   go_wp2_with fail;refine(HDn.out _ qBq).mono ?_;rintro e w7 ⟨rfl,hb7⟩;have hB67:=bT w6 hb7;replace t0:=cK hB67 t0;replace s2:=cK hB67 s2;replace s4:=cK hB67 s4;have hBw7:=bS hBw6 hB67;have hB27:=bS hB26 hB67;have hB57:=bS hB56 hB67;have zt7:w.heap.size+1<w7.heap.size:=wL w7 _ t0;have zs7:B<w7.heap.size:=wL w7 _ s2;clear hb7 HDn s0 s1 s3 s5 hBw6 hB26 hB56 hB67 zt6 zs6;by_cases hfd:fd=0
   ·
    have hfd':(fd !=0)=false:=by simp[hfd]
    have HKK2:Hid (kk=(!decide (hv=1)||decide (fv=1))):=by
     show _=_;rw[HKK.out,hfd];simp
    rw[hfd'];clear HKK hfd hfd' HVd;go_wp2_with fail;refine(HCk.out _ _ (HDV.out _ (bS hB57 qBq))).mono ?_;rintro e w8 ⟨⟨ck,cb,rfl⟩,hb8⟩;have hB8:=bT w7 hb8;replace t0:=cK hB8 t0;replace s2:=cK hB8 s2;have hBw8:=bS hBw7 hB8;have hB28:=bS hB27 hB8;clear hb8 HCk HDV hB57;have zt8:w.heap.size+1<w8.heap.size:=wL w8 _ t0;have zs8:B<w8.heap.size:=wL w8 _ s2;have hfda:∀w:World,(Instr.field 168 (.agg #[.int .i64 ck,.int .i64 cb,.int .i64 hv]) 1).run Tryz.prog w =.ok (.agg #[.int .i64 cb,.int .i64 hv]) w:=fun _=>kF
    have hfdb:∀w:World,(Instr.field 126 (.agg #[.int .i64 cb,.int .i64 hv]) 1).run Tryz.prog w =.ok (.int .i64 hv) w:=fun _=>kF
    by_cases hv1:hv=1
    ·
     have hv1':(hv==1)=true:=by simp[hv1]
     have HKK3:Hid (kk=decide (fv=1)):=by
      show _=_;rw[HKK2.out,decide_eq_true hv1];simp
     clear HKK2 hv1;go_wp2_with fail;refine(HVv.out _ qBq).mono ?_;rintro e w9 ⟨rfl,hb9⟩;have hB9:=bT w8 hb9;have hBw9:=bS hBw8 hB9;have hB29:=bS hB28 hB9;clear hb9 HVv hfda hfdb;by_cases hfv:fv=1
     ·
      have hfv':(fv !=1)=false:=by simp[hfv]
      have HQ:Hid _:=HG.out (by rw[HKK3.out,decide_eq_true hfv]);clear HN HG HKK3 hfv;go_wp2;exact⟨⟨j+1,by omega,by go_num,HQ,hB29⟩,mI⟩
     have hfv':(fv !=1)=true:=by simp[hfv]
     have HC:Hid (R=false):=HN.out (by rw[HKK3.out,decide_eq_false hfv]);clear HN HG HKK3 hfv;go_wp2;go_ret;exact⟨rH,hBw9⟩
    have hv1':(hv==1)=false:=by simp[hv1]
    have HQ:Hid _:=HG.out (by rw[HKK2.out,decide_eq_false hv1];simp);clear HN HG HKK2 hv1 HVv;go_wp2;exact⟨⟨j+1,by omega,by go_num,HQ,hB28⟩,mI⟩
   have hfd':(fd !=0)=true:=by simp[hfd]
   rw[hfd'];clear hfd';go_wp2_with fail;refine(HVd.out _ qBq).mono ?_;rintro e w7b ⟨rfl,hb7⟩;have hB77:=bT w7 hb7;replace t0:=cK hB77 t0;replace s2:=cK hB77 s2;replace hBw7:=bS hBw7 hB77;replace hB27:=bS hB27 hB77;replace hB57:=bS hB57 hB77;replace zt7:w.heap.size+1<w7b.heap.size:=wL w7b _ t0;replace zs7:B<w7b.heap.size:=wL w7b _ s2;clear hb7 HVd hB77 s4;by_cases hfh:fd=hd
   ·
    have hfh':(fd !=hd)=false:=by simp[hfh]
    have HKK2:Hid (kk=(!decide (hv=1)||decide (fv=1))):=by
     show _=_;rw[HKK.out,decide_eq_true hfh];simp
    clear HKK hfd;go_wp2_with fail;refine(HCk.out _ _ (HDV.out _ (bS hB57 qBq))).mono ?_;rintro e w8 ⟨⟨ck,cb,rfl⟩,hb8⟩;have hB8:=bT w7b hb8;replace t0:=cK hB8 t0;replace s2:=cK hB8 s2;have hBw8:=bS hBw7 hB8;have hB28:=bS hB27 hB8;clear hb8 HCk HDV hB57;have zt8:w.heap.size+1<w8.heap.size:=wL w8 _ t0;have zs8:B<w8.heap.size:=wL w8 _ s2;have hfda:∀w:World,(Instr.field 168 (.agg #[.int .i64 ck,.int .i64 cb,.int .i64 hv]) 1).run Tryz.prog w =.ok (.agg #[.int .i64 cb,.int .i64 hv]) w:=fun _=>kF
    have hfdb:∀w:World,(Instr.field 126 (.agg #[.int .i64 cb,.int .i64 hv]) 1).run Tryz.prog w =.ok (.int .i64 hv) w:=fun _=>kF
    by_cases hv1:hv=1
    ·
     have hv1':(hv==1)=true:=by simp[hv1]
     have HKK3:Hid (kk=decide (fv=1)):=by
      show _=_;rw[HKK2.out,decide_eq_true hv1];simp
     clear HKK2 hv1;go_wp2_with fail;refine(HVv.out _ qBq).mono ?_;rintro e w9 ⟨rfl,hb9⟩;have hB9:=bT w8 hb9;have hBw9:=bS hBw8 hB9;have hB29:=bS hB28 hB9;clear hb9 HVv hfda hfdb;by_cases hfv:fv=1
     ·
      have hfv':(fv !=1)=false:=by simp[hfv]
      have HQ:Hid _:=HG.out (by rw[HKK3.out,decide_eq_true hfv]);clear HN HG HKK3 hfv;go_wp2;exact⟨⟨j+1,by omega,by go_num,HQ,hB29⟩,mI⟩
     have hfv':(fv !=1)=true:=by simp[hfv]
     have HC:Hid (R=false):=HN.out (by rw[HKK3.out,decide_eq_false hfv]);clear HN HG HKK3 hfv;go_wp2;go_ret;exact⟨rH,hBw9⟩
    have hv1':(hv==1)=false:=by simp[hv1]
    have HQ:Hid _:=HG.out (by rw[HKK2.out,decide_eq_false hv1];simp);clear HN HG HKK2 hv1 HVv;go_wp2;exact⟨⟨j+1,by omega,by go_num,HQ,hB28⟩,mI⟩
   have hfh':(fd !=hd)=true:=by simp[hfh]
   have HC:Hid (R=false):=HN.out (by rw[HKK.out,decide_eq_false hfd,decide_eq_false hfh];simp);clear HN HG HKK HCk HVv HDV;go_wp2;go_ret;exact⟨rH,hBw7⟩
 obtain rfl:j=m:=oM;have hti:¬(j:Int)<(j:Int):=oM;have HC:Hid (R=true):=HT2'.out HS.out;go_wp2;go_ret;exact⟨rH,hblw⟩
end
end Go.Proofs.YtbfnobcidnmohaaGreat

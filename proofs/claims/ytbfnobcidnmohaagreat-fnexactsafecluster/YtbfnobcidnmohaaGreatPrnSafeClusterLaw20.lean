import Derived.Test.YtbfnobcidnmohaaGreatMsT
set_option maxHeartbeats 16000000
set_option maxRecDepth 20000
set_option linter.unusedSimpArgs false
set_option linter.unusedVariables false
set_option linter.unusedSectionVars false
namespace Go.Proofs.YtbfnobcidnmohaaGreat
open Go.RowKit
attribute [local go_sem ↓] Go.wp_at_zero Go.wp_at_succ
section
variable [dQ Leg] [iH Leg] [dQ Cont] [iH Cont] [dQ Bal] [iH Bal] [dQ Mrk] [iH Mrk] [dQ Shd] [iH Shd] [dQ Vot] [iH Vot] [dQ Slt] [iH Slt] [dQ Acc] [iH Acc] [dQ Trr] [iH Trr] [dQ Hrd] [iH Hrd] [dQ Ldr] [iH Ldr] [dQ Msg] [iH Msg] [dQ Clu] [iH Clu] [dQ Ledg] [iH Ledg] [dQ SltR] [iH SltR] [dQ AccR] [iH AccR] [dQ AccsR] [iH AccsR] [dQ SltsR] [iH SltsR] [dQ Rw] [iH Rw] [dQ LedgR] [iH LedgR] [dQ OutcR] [iH OutcR] [dQ ShdR] [iH ShdR]
def CluB (w:World) (B:Nat) (c:Clu):Prop:=∃a0 a1 a2 a3 a4 c0 c1 c2 c3 c4 n0 n1 n2 n3 n4,(w.cell? ⟨B,0,none⟩=some (.slice a0 n0 c0)∧w.cell? ⟨B,1,none⟩=some (.slice a1 n1 c1)∧w.cell? ⟨B,2,none⟩=some (.slice a2 n2 c2)∧w.cell? ⟨B,3,none⟩=some (.slice a3 n3 c3)∧w.cell? ⟨B,4,none⟩=some (.slice a4 n4 c4))∧cluR.V w (.agg #[.slice a0 n0 c0,.slice a1 n1 c1,.slice a2 n2 c2,.slice a3 n3 c3,.slice a4 n4 c4]) c
theorem CluB.below {w W:World} {B:Nat} {c:Clu} (h:CluB w B c) (hW:Below w.heap.size w W):CluB W B c:=by
 obtain⟨a0,a1,a2,a3,a4,c0,c1,c2,c3,c4,n0,n1,n2,n3,n4,⟨y0,y1,y2,y3,y4⟩,hx⟩:=h;exact⟨a0,a1,a2,a3,a4,c0,c1,c2,c3,c4,n0,n1,n2,n3,n4,⟨cK hW y0,cK hW y1,cK hW y2,cK hW y3,cK hW y4⟩,cluR.below hx hW⟩
theorem vG {w:World} {c:Clu} {a0 a1 a2 a3 a4:Option Addr} {c0 c1 c2 c3 c4 n0 n1 n2 n3 n4:Nat} (hx:cluR.V w (.agg #[.slice a0 n0 c0,.slice a1 n1 c1,.slice a2 n2 c2,.slice a3 n3 c3,.slice a4 n4 c4]) c):c.cons.length=n0∧c.shards.length=n1∧c.accs.length=n2∧c.ldrs.length=n3∧c.msgs.length=n4∧n0≤9223372036854775807∧n1≤9223372036854775807∧n2≤9223372036854775807∧n3≤9223372036854775807∧n4≤9223372036854775807:=by
 obtain⟨b0,b1,b2,b3,b4,d0,d1,d2,d3,d4,m0,m1,m2,m3,m4,eq,e0,e1,e2,e3,e4,L⟩:=gP hx;simp only[Value.agg.injEq,Array.mk.injEq,List.cons.injEq,and_true,Value.slice.injEq] at eq;obtain⟨⟨rfl,rfl,rfl⟩,⟨rfl,rfl,rfl⟩,⟨rfl,rfl,rfl⟩,⟨rfl,rfl,rfl⟩,⟨rfl,rfl,rfl⟩⟩:=eq;exact⟨e0,e1,e2,e3,e4,L⟩
theorem CluB.p {w:World} {B:Nat} {c:Clu} (h:CluB w B c):CluP w B c:=by
 obtain⟨a0,a1,a2,a3,a4,c0,c1,c2,c3,c4,n0,n1,n2,n3,n4,⟨y0,y1,y2,y3,y4⟩,hx⟩:=h;obtain⟨e0,e1,e2,e3,e4,L0,L1,L2,L3,L4⟩:=vG hx;obtain⟨u1,u2,u3,u4,u5,eq,h1,h2,h3,h4,h5⟩:=hx;simp only[Value.agg.injEq,Array.mk.injEq,List.cons.injEq,and_true] at eq;obtain⟨rfl,rfl,rfl,rfl,rfl⟩:=eq;subst e0 e1 e2 e3 e4;exact⟨a0,c0,a1,c1,a2,c2,a3,c3,_,y0,y1,y2,y3,y4,h1,L1,L2,L3⟩
theorem fJh {xs:List Leg} {n:Nat} (hb:∀j,j<xs.length→0≤(xs.getD j default).sh∧(xs.getD j default).sh≤2) (hn:0<xs.length):0<(fD xs).length∧((n:Int)≤(fD xs).getD ((fD xs).length-1) 0↔pV n xs=false):=by
 have hall:pV n xs=true↔∀s,hasS xs s=true→s<(n:Int):=by
  unfold pV hasS;rw[List.all_eq_true];constructor
  ·intro h s hs;rw[List.any_eq_true] at hs;obtain⟨l,hl,e⟩:=hs;have:=h l hl;rw[inBi] at this;rw[beq_iff_eq] at e;omega
  intro h l hl;rw[inBi];have h1:=h l.sh (List.any_eq_true.2 ⟨l,hl,by simp⟩);obtain⟨i,hi,rfl⟩:=List.getElem_of_mem hl;have:=hb i hi;simp only[List.getD,List.getElem?_eq_getElem hi,Option.getD_some] at this;omega
 have hs3:∀s,hasS xs s=true→s=0∨s=1∨s=2:=by
  intro s hs;unfold hasS at hs;rw[List.any_eq_true] at hs;obtain⟨l,hl,e⟩:=hs;obtain⟨i,hi,rfl⟩:=List.getElem_of_mem hl;have:=hb i hi;simp only[List.getD,List.getElem?_eq_getElem hi,Option.getD_some] at this;rw[beq_iff_eq] at e;omega
 have hex:hasS xs 0=true∨hasS xs 1=true∨hasS xs 2=true:=by
  have h0:hasS xs (xs.getD 0 default).sh=true:=by
   unfold hasS;rw[List.any_eq_true];exact⟨xs.getD 0 default,by simp[List.getD,hn],by simp⟩
  rcases hs3 _ h0 with e|e|e <;> rw[e] at h0
  ·exact .inl h0
  ·exact .inr (.inl h0)
  exact .inr (.inr h0)
 have key:pV n xs=false↔∃s,hasS xs s=true∧(n:Int)≤s:=by
  constructor
  ·
   intro h;apply Classical.byContradiction;intro hc;have:pV n xs=true:=hall.2 (fun s hs=>by
    apply Classical.byContradiction;intro hlt;exact hc ⟨s,hs,by omega⟩)
   rw[this] at h;cases h
  rintro⟨s,hs,hle⟩;cases hq:pV n xs with
  | false=>rfl
  | true=>have:=hall.1 hq s hs;omega
 rw[key];unfold fD sl;cases h0:hasS xs 0 <;> cases h1:hasS xs 1 <;> cases h2:hasS xs 2
 ·rw[h0,h1,h2] at hex;simp at hex
 all_goals refine⟨by simp,?_⟩
 all_goals first|change (n:Int)≤2↔_|change (n:Int)≤1↔_|change (n:Int)≤0↔_
 all_goals constructor
 all_goals first
  | (intro h;first|exact⟨2,h2,h⟩|exact⟨1,h1,h⟩|exact⟨0,h0,h⟩)
  | (rintro⟨s,hs,hle⟩;rcases hs3 s hs with rfl|rfl|rfl <;> first|omega|(rw[h0] at hs;cases hs)|(rw[h1] at hs;cases hs)|(rw[h2] at hs;cases hs))
theorem fM2 {id:Int} {xs:List Leg} (h:fA id xs=0):2≤xs.length∧∀j,j<xs.length→0≤(xs.getD j default).sh∧(xs.getD j default).sh≤2:=by
 obtain⟨_,h2,_,h4,_⟩:=fBi h;exact⟨h2,fNx h4⟩
theorem fB0 (B:Nat) (c:Clu) (w:World) (h:CluB w B c) (hlen:∀k,k<c.cons.length→(c.cons.getD k default).legs.length≤1048576) :
  RI 61 #[.pointer (some ⟨B,0,none⟩)] w (.int .i64 (vX c)):=by
 have HP:Hid (bW w fun W=>CluP W B c):=fun W hW=>(h.below hW).p
 obtain⟨a0,a1,a2,a3,a4,c0,c1,c2,c3,c4,n0,n1,n2,n3,n4,⟨y0,y1,y2,y3,y4⟩,hx⟩:=h;have hf:=vG hx;obtain⟨e0,e1,e2,e3,e4,L0,L1,L2,L3,L4⟩:=hf;obtain⟨u1,u2,u3,u4,u5,eq,h1,h2,h3,h4,h5⟩:=hx;simp only[Value.agg.injEq,Array.mk.injEq,List.cons.injEq,and_true] at eq;obtain⟨rfl,rfl,rfl,rfl,rfl⟩:=eq;have zB:B<w.heap.size:=wL w _ y0;obtain⟨hnc,hmc,HA⟩:=pE (by rw[e0];exact h1);unfold maxLen at hmc;rw[e0] at HA hlen;have HX:Hid _:=HA;have HLn:Hid _:=hlen;have H1:Hid (∀k,k<n0→fC (uQ n1 c.cons) k=0→¬uQ n1 c.cons k=0→vX c=uQ n1 c.cons k):=fun k hk hs h0=>by unfold vX;rw[e1];exact fK hs h0 _ (by rw[e0];exact hk)
 have H2:Hid (fC (uQ n1 c.cons) n0=0→vX c=0):=fun h=>by unfold vX;rw[e1,e0];exact h
 clear HA h1 h2 h3 h4 h5 hlen e0 e1 e2 e3 e4 L2 L3 L4 HP y2 y3 y4;generalize vX c=R at *;go_enter Tryz.func61,Tryz.ntmps61;go_wp2;go_loopw [3] (fun i w'=>∃k:Nat,k≤n0∧i =.int .i64 k∧Hid (fC (uQ n1 c.cons) k=0)∧Below w.heap.size w w') (fun i _=>n0-(intOf i).toNat)
 case atStart=>exact⟨0,oM,rfl,rfl,qBq⟩
 obtain⟨k,hk,rfl,HS,hbl⟩:=hrel;replace y0:=cK hbl y0;replace y1:=cK hbl y1;have zB':B<wr.heap.size:=wL wr _ y0;by_cases hlt:k<n0
 ·
  have HA:=HX.out k hlt;have hl1:=HLn.out k hlt;have HH:Hid (¬uQ n1 c.cons k=0→R=uQ n1 c.cons k):=fun h=>H1.out k hlt HS.out h
  have HZ:Hid (uQ n1 c.cons k=0→fC (uQ n1 c.cons) (k+1)=0):=fun h=>fE HS.out h
  have HD:Hid (uQ n1 c.cons k=orF (orF (fA (c.cons.getD k default).id (c.cons.getD k default).legs) (if pV n1 (c.cons.getD k default).legs=true then 0 else 4)) (if fGr c.cons k=true then 0 else 1)):=rfl;have HRi:Hid (∀p,k=p+1→fGr c.cons k=decide ((c.cons.getD p default).id<(c.cons.getD k default).id)):=fun p hp=>by subst hp;simp[fGr]
  have HR0:Hid (k=0→fGr c.cons k=true):=fun hp=>by subst hp;simp[fGr]
  obtain⟨l,hl0⟩:∃l,l=c.cons.getD k default:=⟨_,rfl⟩
  rw[←hl0] at HA HD HRi hl1;clear hl0;obtain⟨b,o,p,q,rfl,g0,g1,hv⟩:=HA;have HF:Hid (bW w fun W=>RI 118 #[.agg #[.int .i64 l.id,.slice p l.legs.length q]] W (.int .i64 (fA l.id l.legs))):=fun W hW=>fAn _ _ _ W (legsR.below hv hW)
  have HSh:Hid (fA l.id l.legs=0→∀W,Below w.heap.size w W→Calls Tryz.prog 21 #[.agg #[.int .i64 l.id,.slice p l.legs.length q]] W fun e w'=>∃v,e =.returned v∧w'.ownsRow W.heap.size 2 1 v (fD l.legs).length (gN (fD l.legs))∧Below W.heap.size W w'):=fun hf W hW=>xI _ _ _ W (legsR.below hv hW) hl1 (fM2 hf).2
  have HLa:Hid (fA l.id l.legs=0→0<(fD l.legs).length∧((n1:Int)≤(fD l.legs).getD ((fD l.legs).length-1) 0↔pV n1 l.legs=false)):=fun hf=>fJh (fM2 hf).2 (by have:=(fM2 hf).1;omega)
  have HL3:Hid ((fD l.legs).length≤3):=by show _≤_;unfold fD sl;cases hasS l.legs 0 <;> cases hasS l.legs 1 <;> cases hasS l.legs 2 <;> simp
  clear hv;replace g0:=cK hbl g0;replace g1:=cK hbl g1;have zb:b<wr.heap.size:=wL wr _ g0;have hti:(k:Int)<(n0:Int):=oM;generalize uQ n1 c.cons k=z at *;generalize fGr c.cons k=rk at *;generalize pV n1 l.legs=li at *;generalize fA l.id l.legs=cf at *;obtain⟨SL,hSL⟩:∃SL,SL=fD l.legs:=⟨_,rfl⟩
  rw[←hSL] at HSh HLa HL3;clear hSL;generalize l.legs.length=ml at *;go_wp2_with fail;refine(HF.out _ qBq).mono ?_;rintro e w1 ⟨rfl,hb1⟩;have hB1:=bT w hb1;have t0:w1.cell? ⟨wr.heap.size,0,none⟩=some (.int .i64 l.id):=cK hb1 sG;have t1:w1.cell? ⟨wr.heap.size,1,none⟩=some (.slice p ml q):=cK hb1 sG;replace y0:=cK hb1 (cK qBq y0);replace y1:=cK hb1 (cK qBq y1);have zw1:wr.heap.size<w1.heap.size:=wL w1 _ t0;clear hb1 HF g0 g1;by_cases hcf:cf=0;rotate_left
  ·
   have hz:z=cf:=by rw[HD.out,xN hcf,xN hcf]
   have HC:Hid (R=cf):=by show _=_;rw[←hz];exact HH.out (by rw[hz];exact hcf)
   have hcf':(cf !=0)=true:=by simp[hcf]
   clear HH HZ HD hz HSh HLa;go_wp2;go_ret;exact⟨rH,hB1⟩
  subst hcf;have HSh':Hid _:=HSh.out rfl;obtain⟨hd0,hla⟩:=HLa.out rfl;have HLs:Hid _:=hla;have HD2:Hid (z=orF (if li=true then 0 else 4) (if rk=true then 0 else 1)):=by show _=_;rw[HD.out,vS rfl]
  clear HSh HLa hla HD;go_wp2_with fail;refine(HSh'.out _ qBq).mono ?_;rintro e w2 ⟨v2,rfl,o2,hb2⟩;have hB2:=bT w hb2;replace t0:=cK hb2 (cK qBq t0);replace y0:=cK hb2 (cK qBq y0);replace y1:=cK hb2 (cK qBq y1);replace zw1:wr.heap.size<w2.heap.size:=wL w2 _ t0;have hIV:=kR o2;obtain⟨a5,c5,rfl,h5c,h5m,hIV⟩:=hIV;unfold maxLen at h5m;obtain⟨b5,o5,rfl,g5⟩:=hIV (SL.length-1) oM;have hd3:=HL3.out;clear o2 hb2 hIV HSh' HL3;obtain⟨d,hd⟩:∃d,d=SL.length:=⟨_,rfl⟩
  rw[←hd] at g5 hd0 h5c hd3 HLs ⊢;clear hd;generalize SL.getD (d-1) 0=lastS at *;have i0:IntKind.i64.wrap ((d:Int)-1)=((d-1:Nat):Int):=by rw[IntKind.wrap_i64];omega
  have i1:(0:Int)≤((d-1:Nat):Int):=oM;have i2:((d-1:Nat):Int)<(d:Int):=oM;have i3:(((d-1:Nat):Int)).toNat=d-1:=oM;have i4:IntKind.i64.wrap ((n1:Nat):Int)=(n1:Int):=kD oM oM;go_wp2;refine wp_region_noPanic ?_;refine fB (fun W=>W.cell? ⟨B,1,none⟩=some (.slice a1 n1 c1)∧W.cell? ⟨b5,o5+(d-1),none⟩=some (.int .i64 lastS)) 12 kF ⟨cK qBq y1,cK qBq g5⟩ (fun hS=>?_);refine tX 0 ?_;refine tX 1 ?_;refine tX 2 ?_;refine tX 3 ?_;refine tX 4 ?_;refine tX 5 ?_;refine tX 6 ?_;refine tX 7 ?_;refine tX 8 ?_;refine tX 9 ?_;refine tX 10 ?_;cases li
  ·
   have hz:z=4:=by rw[HD2.out];rfl
   have HC:Hid (R=4):=by show _=_;rw[←hz];exact HH.out (by rw[hz];omega)
   have hge:(n1:Int)≤lastS:=HLs.out.2 rfl;clear HH HZ HD2 hz HLs;refine tX 11 (v:=(.bool true)) ?_;refine dP ?_;go_wp2;go_ret;exact⟨rH,qBq⟩
  have hge:¬(n1:Int)≤lastS:=fun h=>by have:=HLs.out.1 h;cases this
  have HD3:Hid (z=if rk=true then 0 else 1):=by show _=_;rw[HD2.out];rfl
  clear HD2 HLs;refine tX 11 (v:=(.bool false)) ?_;refine dP ?_;have hB3:Below w.heap.size w w2.drew:=qBq;replace y0:=cK (w':=w2.drew) qBq y0;replace t0:=cK (w':=w2.drew) qBq t0;replace zw1:wr.heap.size<w2.drew.heap.size:=wL _ _ t0;clear hS;generalize w2.drew=w3 at *;clear y1 g5 i0 i1 i2 i3 i4 hge;cases k with
  | zero=>
   have hz:z=0:=by rw[HD3.out,HR0.out rfl];rfl
   have HQ:Hid _:=HZ.out hz;clear HH HZ HD3 hz HRi HR0;go_wp2;refine wp_region_noPanic ?_;refine fB (fun W=>W.cell? ⟨B,0,none⟩=some (.slice (some ⟨b,o,none⟩) n0 c0)) 16 kF (cK qBq y0) (fun hS=>?_);refine tX 0 ?_;refine tX 1 (v:=(.bool false)) ?_;refine tX 2 ?_;refine sX 3 fun _=>?_
   refine sX 4 fun _=>?_
   refine sX 5 fun _=>?_
   refine sX 6 fun _=>?_
   refine sX 7 fun _=>?_
   refine sX 8 fun _=>?_
   refine sX 9 fun _=>?_
   refine sX 10 fun _=>?_
   refine sX 11 fun _=>?_
   refine sX 12 fun _=>?_
   refine sX 13 fun _=>?_
   refine sX 14 fun _=>?_
   refine tX 15 ?_;refine dP ?_;go_wp2;exact⟨⟨1,by omega,by go_num,HQ,qBq⟩,mI⟩
  | succ p1=>
   obtain⟨b',o',p',q',ha',k0,k1,_⟩:=HX.out p1 oM;simp only[Option.some.injEq,Addr.mk.injEq,and_true] at ha';obtain⟨rfl,rfl⟩:=ha';have hRi:=HRi.out p1 rfl;obtain⟨j,hj⟩:∃j,j=(c.cons.getD p1 default).id:=⟨_,rfl⟩
   rw[←hj] at hRi k0;have HRk:Hid (rk=decide (j<l.id)):=hRi;clear hj hRi HRi HR0 k1;replace k0:=cK hB3 k0;have j1:(0:Int)<((p1+1:Nat):Int):=oM;have j2:(0:Int)<(p1:Int)+1:=oM;have j3:IntKind.i64.wrap (((p1+1:Nat):Int)-1)=(p1:Int):=by rw[IntKind.wrap_i64];omega
   have j4:IntKind.i64.wrap ((p1:Int)+1-1)=(p1:Int):=by rw[IntKind.wrap_i64];omega
   have j5:(0:Int)≤(p1:Int):=oM;have j6:(p1:Int)<(n0:Int):=oM;have j7:IntKind.i64.wrap (p1:Int)=(p1:Int):=kD oM oM;go_wp2;refine wp_region_noPanic ?_;refine fB (fun W=>W.cell? ⟨B,0,none⟩=some (.slice (some ⟨b,o,none⟩) n0 c0)∧W.cell? ⟨wr.heap.size,0,none⟩=some (.int .i64 l.id)∧W.cell? ⟨b,o+p1*2,none⟩=some (.int .i64 j)) 16 kF ⟨cK qBq y0,cK qBq t0,cK qBq k0⟩ (fun hS=>?_);refine tX 0 ?_;refine tX 1 (v:=(.bool true)) ?_;refine tX 2 ?_;refine tX 3 ?_;refine tX 4 ?_;refine tX 5 ?_;refine tX 6 ?_;refine tX 7 ?_;refine tX 8 ?_;refine tX 9 ?_;refine tX 10 ?_;refine tX 11 ?_;refine tX 12 ?_;refine tX 13 ?_;by_cases hji:l.id≤j
   ·
    have hz:z=1:=by rw[HD3.out,HRk.out,decide_eq_false oM];rfl
    have HC:Hid (R=1):=by show _=_;rw[←hz];exact HH.out (by rw[hz];omega)
    clear HH HZ HD3 hz HRk;refine tX 14 (v:=(.bool true)) ?_;refine tX 15 ?_;refine dP ?_;go_wp2;go_ret;exact⟨rH,qBq⟩
   have hz:z=0:=by rw[HD3.out,HRk.out,decide_eq_true oM];rfl
   have HQ:Hid _:=HZ.out hz;clear HH HZ HD3 hz HRk;refine tX 14 (v:=(.bool false)) ?_;refine tX 15 ?_;refine dP ?_;go_wp2;exact⟨⟨p1+1+1,by omega,by go_num,HQ,qBq⟩,mI⟩
 obtain rfl:k=n0:=oM;have hti:¬(k:Int)<(k:Int):=oM;have HC:Hid (R=0):=H2.out HS.out;go_wp2;go_ret;exact⟨rH,hbl⟩
theorem mU {x y r:Int} (h:x=y):orZ (cmpZ x y) r=r:=by unfold orZ;rw[if_pos (cmpZ_eq.2 h)]
theorem fAh {x y r:Int} (h:¬x=y):orZ (cmpZ x y) r=cmpZ x y:=by unfold orZ;rw[if_neg (fun e=>h (cmpZ_eq.1 e))]
theorem fTs (x y:Hrd) {k:Nat} (hk:k<5) (h:∀j,j<k→([x.con,x.sh,x.bal,x.val,x.frm]:List Int).getD j 0=([y.con,y.sh,y.bal,y.val,y.frm]:List Int).getD j 0) (hn:¬([x.con,x.sh,x.bal,x.val,x.frm]:List Int).getD k 0=([y.con,y.sh,y.bal,y.val,y.frm]:List Int).getD k 0):decide (cmpH x y<0)=decide (([x.con,x.sh,x.bal,x.val,x.frm]:List Int).getD k 0<([y.con,y.sh,y.bal,y.val,y.frm]:List Int).getD k 0):=by
 rw[decide_eq_decide];obtain rfl|rfl|rfl|rfl|rfl:k=0∨k=1∨k=2∨k=3∨k=4:=oM
 ·
  change ¬x.con=y.con at hn
  change cmpH x y<0↔x.con<y.con
  unfold cmpH;rw[fAh hn];exact vH
 ·have h0:x.con=y.con:=h 0 oM;change ¬x.sh=y.sh at hn;change cmpH x y<0↔x.sh<y.sh;unfold cmpH;rw[mU h0,fAh hn];exact vH
 ·have h0:x.con=y.con:=h 0 oM;have h1:x.sh=y.sh:=h 1 oM;change ¬x.bal=y.bal at hn;change cmpH x y<0↔x.bal<y.bal;unfold cmpH;rw[mU h0,mU h1,fAh hn];exact vH
 ·have h0:x.con=y.con:=h 0 oM;have h1:x.sh=y.sh:=h 1 oM;have h2:x.bal=y.bal:=h 2 oM;change ¬x.val=y.val at hn;change cmpH x y<0↔x.val<y.val;unfold cmpH;rw[mU h0,mU h1,mU h2,fAh hn];exact vH
 have h0:x.con=y.con:=h 0 oM;have h1:x.sh=y.sh:=h 1 oM;have h2:x.bal=y.bal:=h 2 oM;have h3:x.val=y.val:=h 3 oM;change ¬x.frm=y.frm at hn;change cmpH x y<0↔x.frm<y.frm;unfold cmpH;rw[mU h0,mU h1,mU h2,mU h3];exact vH
theorem fTr (x y:Hrd) (h:∀j,j<5→([x.con,x.sh,x.bal,x.val,x.frm]:List Int).getD j 0=([y.con,y.sh,y.bal,y.val,y.frm]:List Int).getD j 0):decide (cmpH x y<0)=false:=by
 have h0:x.con=y.con:=h 0 oM;have h1:x.sh=y.sh:=h 1 oM;have h2:x.bal=y.bal:=h 2 oM;have h3:x.val=y.val:=h 3 oM;have h4:x.frm=y.frm:=h 4 oM;rw[decide_eq_false_iff_not];unfold cmpH;rw[mU h0,mU h1,mU h2,mU h3,vH];omega
theorem fF7 (x y:Hrd) (w:World) :
  RI 127 #[hrdV x,hrdV y] w (.bool (decide (cmpH x y<0))):=by
 have H1:Hid (∀k,k<5→(∀j,j<k→([x.con,x.sh,x.bal,x.val,x.frm]:List Int).getD j 0=([y.con,y.sh,y.bal,y.val,y.frm]:List Int).getD j 0)→¬([x.con,x.sh,x.bal,x.val,x.frm]:List Int).getD k 0=([y.con,y.sh,y.bal,y.val,y.frm]:List Int).getD k 0→decide (cmpH x y<0)=decide (([x.con,x.sh,x.bal,x.val,x.frm]:List Int).getD k 0<([y.con,y.sh,y.bal,y.val,y.frm]:List Int).getD k 0)):=fun k hk h hn=>fTs x y hk h hn
 have H2:Hid ((∀j,j<5→([x.con,x.sh,x.bal,x.val,x.frm]:List Int).getD j 0=([y.con,y.sh,y.bal,y.val,y.frm]:List Int).getD j 0)→decide (cmpH x y<0)=false):=fun h=>fTr x y h
 generalize decide (cmpH x y<0)=R at *;unfold hrdV;go_enter Tryz.func127,Tryz.ntmps127;go_wp2;obtain⟨w1,hw1⟩:∃w1,w1=(((w.alloc (.cells #[.int .i64 x.con,.int .i64 x.sh,.int .i64 x.bal,.int .i64 x.val,.int .i64 x.frm] 209)).alloc (.cells #[.int .i64 y.con,.int .i64 y.sh,.int .i64 y.bal,.int .i64 y.val,.int .i64 y.frm] 209)).alloc (.cells #[.int .i64 x.con,.int .i64 x.sh,.int .i64 x.bal,.int .i64 x.val,.int .i64 x.frm] 2)).alloc (.cells #[.int .i64 y.con,.int .i64 y.sh,.int .i64 y.bal,.int .i64 y.val,.int .i64 y.frm] 2):=⟨_,rfl⟩
 have HX:Hid (∀k,k<5→w1.cell? ⟨w.heap.size+2,k,none⟩=some (.int .i64 (([x.con,x.sh,x.bal,x.val,x.frm]:List Int).getD k 0))∧w1.cell? ⟨w.heap.size+3,k,none⟩=some (.int .i64 (([y.con,y.sh,y.bal,y.val,y.frm]:List Int).getD k 0))):=fun k hk=>by
  rw[hw1];obtain rfl|rfl|rfl|rfl|rfl:k=0∨k=1∨k=2∨k=3∨k=4:=oM
  all_goals exact⟨sG,by simp[go_sem]⟩
 have hB1:Below w.heap.size w w1:=by rw[hw1];(repeat (first|exact bR _ _|assumption|refine bD ?_|refine bA ?_ _|refine bset ?_ (by simp;omega) _|refine bset ?_ (by simp) _|refine bS ?_ (by assumption)))
 rw[←hw1];clear hw1;go_loopw [7] (fun i w'=>∃k:Nat,k≤5∧i =.int .i64 k∧Hid (∀j,j<k→([x.con,x.sh,x.bal,x.val,x.frm]:List Int).getD j 0=([y.con,y.sh,y.bal,y.val,y.frm]:List Int).getD j 0)∧Below w1.heap.size w1 w') (fun i _=>5-(intOf i).toNat)
 case atStart=>exact⟨0,oM,rfl,fun j hj=>absurd hj oM,bR _ _⟩
 obtain⟨k,hk,rfl,HS,hbl⟩:=hrel;have hblw:=bS hB1 hbl;by_cases hlt:k<5
 ·
  obtain⟨g0,g1⟩:=HX.out k hlt;have HH:Hid (¬([x.con,x.sh,x.bal,x.val,x.frm]:List Int).getD k 0=([y.con,y.sh,y.bal,y.val,y.frm]:List Int).getD k 0→R=decide (([x.con,x.sh,x.bal,x.val,x.frm]:List Int).getD k 0<([y.con,y.sh,y.bal,y.val,y.frm]:List Int).getD k 0)):=fun h=>H1.out k hlt HS.out h
  have HZ:Hid (([x.con,x.sh,x.bal,x.val,x.frm]:List Int).getD k 0=([y.con,y.sh,y.bal,y.val,y.frm]:List Int).getD k 0→∀j,j<k+1→([x.con,x.sh,x.bal,x.val,x.frm]:List Int).getD j 0=([y.con,y.sh,y.bal,y.val,y.frm]:List Int).getD j 0):=fun h j hj=>by
   by_cases e:j=k
   ·rw[e];exact h
   exact HS.out j oM
  replace g0:=cK hbl g0;replace g1:=cK hbl g1;generalize ([x.con,x.sh,x.bal,x.val,x.frm]:List Int).getD k 0=xv at *;generalize ([y.con,y.sh,y.bal,y.val,y.frm]:List Int).getD k 0=yv at *;have hti:(k:Int)<5:=oM;have hi0:(0:Int)≤(k:Int):=oM;go_wp2;refine wp_region_noPanic ?_;refine fB (fun W=>W.cell? ⟨w.heap.size+2,k,none⟩=some (.int .i64 xv)∧W.cell? ⟨w.heap.size+3,k,none⟩=some (.int .i64 yv)) 9 kF ⟨cK qBq g0,cK qBq g1⟩ (fun hS=>?_);refine tX 0 ?_;refine tX 1 ?_;refine tX 2 ?_;refine tX 3 ?_;refine tX 4 ?_;refine tX 5 ?_;refine tX 6 ?_;refine tX 7 ?_;by_cases hv:xv=yv
  ·
   have HQ:Hid _:=HZ.out hv;have hv':(xv !=yv)=false:=by simp[hv]
   clear HZ HH hv;refine tX 8 (v:=(.bool false)) ?_;refine dP ?_;go_wp2;exact⟨⟨k+1,by omega,by go_num,HQ,qBq⟩,mI⟩
  have HC:Hid _:=HH.out hv;have hv':(xv !=yv)=true:=by simp[hv]
  clear HZ HH hv;refine tX 8 (v:=(.bool true)) ?_;refine dP ?_;go_wp2;refine wp_region_noPanic ?_;refine fB (fun W=>W.cell? ⟨w.heap.size+2,k,none⟩=some (.int .i64 xv)∧W.cell? ⟨w.heap.size+3,k,none⟩=some (.int .i64 yv)) 10 kF ⟨cK qBq g0,cK qBq g1⟩ (fun hS=>?_);refine tX 0 ?_;refine tX 1 ?_;refine tX 2 ?_;refine tX 3 ?_;refine tX 4 ?_;refine tX 5 ?_;refine tX 6 ?_;refine tX 7 ?_;refine tX 8 ?_;refine tX 9 ?_;refine dP ?_;go_wp2;go_ret;exact⟨rH,qBq⟩
 obtain rfl:k=5:=oM;have HC:Hid (R=false):=H2.out HS.out;go_wp2;go_ret;exact⟨rH,hblw⟩
theorem vI (x:Value) (c:Clu) (con sh:Int) (w:World) (hx:cluR.V w x c) :
  RI 151 #[x,.int .i64 con,.int .i64 sh] w (.bool (hasL c con sh)):=by
 have HSu:Hid (bW w fun W=>Calls Tryz.prog 104 #[x,.int .i64 con] W (SubE c.cons con W)):=fun W hW=>fDn x c con W (cluR.below hx hW)
 have H1:Hid (fF c.cons con<c.cons.length→hasL c con sh=hasS (c.cons.getD (fF c.cons con) default).legs sh):=fun h=>by unfold hasL;rw[decide_eq_true h];rfl
 have H2:Hid (¬fF c.cons con<c.cons.length→hasL c con sh=false):=fun h=>by unfold hasL;rw[decide_eq_false h];rfl
 obtain⟨a0,a1,a2,a3,a4,c0,c1,c2,c3,c4,n0,n1,n2,n3,n4,rfl,e0,e1,e2,e3,e4,L0,L1,L2,L3,L4⟩:=gP hx;clear hx e0 e1 e2 e3 e4 L0 L1 L2 L3 L4;generalize hasL c con sh=R at *;go_enter Tryz.func151,Tryz.ntmps151;go_wp2_with fail;refine(HSu.out _ qBq).mono ?_;rintro e w1 ⟨hb1,hr⟩;have hB1:Below w.heap.size w w1:=qBq;clear hb1 HSu;rcases hr with ⟨hlt,p,q,rfl,hlv⟩|⟨hlt,rfl⟩
 ·
  have HC:Hid _:=H1.out hlt;have HL:Hid (bW w1 fun W=>RI 221 #[.agg #[.int .i64 (c.cons.getD (fF c.cons con) default).id,.slice p (c.cons.getD (fF c.cons con) default).legs.length q],.int .i64 sh] W (.bool (hasS (c.cons.getD (fF c.cons con) default).legs sh))):=fun W hW=>fBj _ _ _ sh W (legsR.below hlv hW)
  clear H1 H2 hlt hlv;generalize c.cons.getD (fF c.cons con) default=l at *;generalize l.legs.length=m at *;generalize hasS l.legs sh=b at *;generalize l.id=id at *;go_wp2_with fail;refine(HL.out _ qBq).mono ?_;rintro e w2 ⟨rfl,hb2⟩;have hB2:=bT w hb2;clear hb2 HL;cases b;all_goals
   go_wp2;go_ret;exact⟨rH,hB2⟩
 have HC:Hid _:=H2.out hlt;clear H1 H2 hlt;go_wp2;go_ret;exact⟨rH,qBq⟩
theorem fVb (a b c d:Int):∃M:Int,(0<M↔(0<a∨0<b∨0<c∨0<d))∧∀(ts:Array TypeId) (ty:TypeId) (w:World),(Builtin.max_ ts ty #[.int .i64 a,.int .i64 b,.int .i64 c,.int .i64 d]).run Tryz.prog w =.ok (.int .i64 M) w:=by
 refine⟨if d>(if c>(if b>a then b else a) then c else (if b>a then b else a)) then d else (if c>(if b>a then b else a) then c else (if b>a then b else a)),?_,fun ts ty w=>rfl⟩;(repeat' split) <;> omega
theorem fVc (a b:Int):∃N:Int,(N<1↔(a<1∨b<1))∧∀(ts:Array TypeId) (ty:TypeId) (w:World),(Builtin.min_ ts ty #[.int .i64 a,.int .i64 b]).run Tryz.prog w =.ok (.int .i64 N) w:=by
 refine⟨if b<a then b else a,?_,fun ts ty w=>rfl⟩;(repeat' split) <;> omega
theorem fSq (x:Value) (c:Clu) (w:World) (hx:cluR.V w x c) :
  RI 76 #[x] w (.int .i64 (szC c)):=by
 obtain⟨a0,a1,a2,a3,a4,c0,c1,c2,c3,c4,n0,n1,n2,n3,n4,rfl,e0,e1,e2,e3,e4,L0,L1,L2,L3,L4⟩:=gP hx;have HZ:Hid (szC c=if n0≤20∧(1≤n1∧n1≤3)∧(1≤n2∧n2≤5)∧n3=2∧n4≤200 then 0 else 2):=by show _=_;unfold szC;rw[e0,e1,e2,e3,e4]
 clear hx e0 e1 e2 e3 e4;generalize szC c=R at *;have i0:IntKind.i64.wrap ((n0:Int)-20)=(n0:Int)-20:=kD oM oM;have i1:IntKind.i64.wrap ((n1:Int)-3)=(n1:Int)-3:=kD oM oM;have i2:IntKind.i64.wrap ((n2:Int)-5)=(n2:Int)-5:=kD oM oM;have i4:IntKind.i64.wrap ((n4:Int)-200)=(n4:Int)-200:=kD oM oM;obtain⟨M,hM,hm⟩:=fVb ((n0:Int)-20) ((n1:Int)-3) ((n2:Int)-5) ((n4:Int)-200);obtain⟨N,hN,hn⟩:=fVc (n1:Int) (n2:Int);by_cases hb:n0≤20∧n1≤3∧n2≤5∧n4≤200;rotate_left
 ·
  have HC:Hid (R=2):=by show _=_;rw[HZ.out,if_neg (fun h=>hb ⟨h.1,h.2.1.2,h.2.2.1.2,h.2.2.2.2⟩)]
  have hM1:0<M:=hM.2 oM;clear HZ hb hM hN hn;go_enter Tryz.func76,Tryz.ntmps76;go_wp2;go_ret;exact⟨rH,qBq⟩
 have hM1:¬0<M:=fun h=>by have:=hM.1 h;omega
 by_cases hl:1≤n1∧1≤n2
 rotate_left
 ·
  have HC:Hid (R=2):=by show _=_;rw[HZ.out,if_neg (fun h=>hl ⟨h.2.1.1,h.2.2.1.1⟩)]
  have hN1:N<1:=hN.2 oM;clear HZ hb hM hN hl;go_enter Tryz.func76,Tryz.ntmps76;go_wp2;go_ret;exact⟨rH,qBq⟩
 have hN1:¬N<1:=fun h=>by have:=hN.1 h;omega
 by_cases h3:n3=2
 ·
  have HC:Hid (R=0):=by show _=_;rw[HZ.out,if_pos ⟨hb.1,⟨hl.1,hb.2.1⟩,⟨hl.2,hb.2.2.1⟩,h3,hb.2.2.2⟩]
  subst h3;clear HZ hb hM hN hl;go_enter Tryz.func76,Tryz.ntmps76;go_wp2;go_ret;exact⟨rH,qBq⟩
 have HC:Hid (R=2):=by show _=_;rw[HZ.out,if_neg (fun h=>h3 h.2.2.2.1)]
 have h3':((n3:Int) !=2)=true:=by simp;omega
 clear HZ hb hM hN hl;go_enter Tryz.func76,Tryz.ntmps76;go_wp2;go_ret;exact⟨rH,qBq⟩
theorem fEf (x:Value) (c:Clu) (id:Int) (y:Value) (xs:List Leg) (w:World) (hx:cluR.V w x c) (hy:mK w y xs) :
  RI 205 #[x,.agg #[.int .i64 id,y]] w (.int .i64 (subF c.shards.length ⟨id,xs⟩)):=by
 have HF:Hid (bW w fun W=>RI 163 #[.agg #[.int .i64 id,y]] W (.int .i64 (fA id xs))):=fun W hW=>vJ id y xs W (kV hy hW)
 obtain⟨a0,a1,a2,a3,a4,c0,c1,c2,c3,c4,n0,n1,n2,n3,n4,rfl,e0,e1,e2,e3,e4,L0,L1,L2,L3,L4⟩:=gP hx;have H1:Hid (¬fA id xs=0→subF c.shards.length ⟨id,xs⟩=fA id xs):=fun h=>xN h
 have H2:Hid (fA id xs=0→pV n1 xs=false→subF c.shards.length ⟨id,xs⟩=4):=fun h h'=>by unfold subF;rw[vS h,e1,h'];rfl
 have H3:Hid (fA id xs=0→pV n1 xs=true→subF c.shards.length ⟨id,xs⟩=0):=fun h h'=>by unfold subF;rw[vS h,e1,h'];rfl
 have H4:Hid (∀j,j<xs.length→inB (xs.getD j default).sh 0 ((n1:Int)-1)=false→pV n1 xs=false):=fun j hj h=>fR6 hj h
 have H5:Hid ((∀j,j<xs.length→inB (xs.getD j default).sh 0 ((n1:Int)-1)=true)→pV n1 xs=true):=fun h=>fPx h
 clear hx e0 e1 e2 e3 e4 L0 L2 L3 L4;obtain⟨ax,cx,rfl,hcx,hmx,hy⟩:=hy;unfold maxLen at hmx;have HY:Hid (∀i,i<xs.length→∃b o,ax=some ⟨b,o,none⟩∧mE w b (o+i*4) (xs.getD i default)):=hy;clear hy;generalize subF c.shards.length ⟨id,xs⟩=R at *;generalize hm':xs.length=m at *;clear hm';go_enter Tryz.func205,Tryz.ntmps205;go_wp2_with fail;refine(HF.out _ qBq).mono ?_;rintro e w1 ⟨rfl,hb1⟩;have hB1:Below w.heap.size w w1:=qBq;have y1:w1.cell? ⟨w.heap.size,1,none⟩=some (.slice a1 n1 c1):=cK hb1 sG;have z1:w1.cell? ⟨w.heap.size+1,1,none⟩=some (.slice ax m cx):=cK hb1 sG;have hz1:=hb1.size;simp at hz1;clear hb1 HF;by_cases hf:fA id xs=0;rotate_left
 ·
  have HC:Hid _:=H1.out hf;have hf':(fA id xs !=0)=true:=by simp[hf]
  clear H1 H2 H3 H4 H5 HY;generalize fA id xs=g at *;go_wp2;go_ret;exact⟨rH,hB1⟩
 rw[hf];have HZ2:Hid _:=H2.out hf;have HZ3:Hid _:=H3.out hf;clear H1 H2 H3 hf;go_wp2;go_loopw [16] (fun i w'=>∃k:Nat,k≤m∧i =.int .i64 k∧Hid (∀j,j<k→inB (xs.getD j default).sh 0 ((n1:Int)-1)=true)∧Below w1.heap.size w1 w') (fun i _=>m-(intOf i).toNat)
 case atStart=>exact⟨0,oM,rfl,fun j hj=>absurd hj oM,bR _ _⟩
 obtain⟨k,hk,rfl,HS,hbl⟩:=hrel;have hblw:=bS hB1 hbl;have hzr:=hbl.size;replace y1:=cK hbl y1;have zq:w.heap.size<wr.heap.size:=wL wr _ y1;by_cases hlt:k<m
 ·
  obtain⟨b,o,rfl,g⟩:=HY.out k hlt;obtain⟨l,hl⟩:∃l,l=xs.getD k default:=⟨_,rfl⟩
  rw[←hl] at g;have HLE:Hid (l=xs.getD k default):=hl;clear hl;obtain⟨g1,g2,g3,g4⟩:=fG hblw g;clear g;have zb:b<wr.heap.size:=wL wr _ g1;have hti:(k:Int)<(m:Int):=oM;cases hp:inB l.sh 0 ((n1:Int)-1)
  ·have HC:Hid (R=4):=HZ2.out (H4.out k hlt (by rw[←HLE.out];exact hp));go_wp2_with (first|(go_at_call 264;refine(yE _ _ _ _ _ L1).mono ?_;rintro e w' ⟨rfl,hw⟩;obtain rfl:=hw.symm;rw[hp]));go_ret;exact⟨rH,qBq⟩
  have HQ:Hid (∀j,j<k+1→inB (xs.getD j default).sh 0 ((n1:Int)-1)=true):=fun j hj=>by
   by_cases e:j=k
   ·rw[e,←HLE.out];exact hp
   exact HS.out j oM
  go_wp2_with (first|(go_at_call 264;refine(yE _ _ _ _ _ L1).mono ?_;rintro e w' ⟨rfl,hw⟩;obtain rfl:=hw.symm;rw[hp]))
  exact⟨⟨k+1,by omega,by go_num,HQ,qBq⟩,mI⟩
 obtain rfl:k=m:=oM;have hti:¬(k:Int)<(k:Int):=oM;have HC:Hid (R=0):=HZ3.out (H5.out HS.out);go_wp2;go_ret;exact⟨rH,hblw⟩
end
section
def over (a:Act) (ds:List Nat) (y:Nat→Value):Act:={a with tmps:=ds.foldl (fun t s=>t.setIfInBounds s (y s)) a.tmps}
theorem fNa:∀(ds:List Nat) (T:Array Value) (y:Nat→Value) (d:Nat) (v:Value),d ∉ ds →
  (ds.foldl (fun t s=>t.setIfInBounds s (y s)) T).setIfInBounds d v=ds.foldl (fun t s=>t.setIfInBounds s (y s)) (T.setIfInBounds d v)
 | [],_,_,_,_,_=>rfl
 | e::ds,T,y,d,v,h=>by
  have h1:d≠e:=fun c=>h (by rw[c];exact List.mem_cons_self)
  have h2:d ∉ ds:=fun c=>h (List.mem_cons_of_mem _ c)
  simp only[List.foldl_cons];rw[fNa ds _ y d v h2,Array.setIfInBounds_comm _ _ (Ne.symm h1)]
theorem fEv:∀(ds:List Nat) (T:Array Value) (y y':Nat→Value),(∀s ∈ ds,y s=y' s) →
  ds.foldl (fun t s=>t.setIfInBounds s (y s)) T=ds.foldl (fun t s=>t.setIfInBounds s (y' s)) T
 | [],_,_,_,_=>rfl
 | e::ds,T,y,y',h=>by
  simp only[List.foldl_cons];rw[h e List.mem_cons_self];exact fEv ds _ y y' (fun s hs=>h s (List.mem_cons_of_mem _ hs))
def updV (y:Nat→Value) (d:Nat) (v:Value):Nat→Value:=fun s=>if s=d then v else y s
theorem fNb:∀(ds:List Nat) (T:Array Value) (y:Nat→Value) (d:Nat) (v:Value),d ∈ ds→ds.Nodup →
  (ds.foldl (fun t s=>t.setIfInBounds s (y s)) T).setIfInBounds d v=ds.foldl (fun t s=>t.setIfInBounds s (updV y d v s)) T
 | [],_,_,_,_,h,_=>absurd h List.not_mem_nil
 | e::ds,T,y,d,v,h,hn=>by
  obtain⟨h1,h2⟩:=List.nodup_cons.1 hn;simp only[List.foldl_cons];by_cases hd:d=e
  ·subst hd;rw[fNa ds _ y d v h1,Array.setIfInBounds_setIfInBounds];have e1:updV y d v d=v:=if_pos rfl;rw[e1];exact fEv ds _ _ _ (fun s hs=>(if_neg (fun c:s=d=>h1 (c▸hs))).symm)
  have hm:d ∈ ds:=(List.mem_cons.1 h).resolve_left hd;have e1:updV y d v e=y e:=if_neg (fun c=>hd c.symm);rw[e1];exact fNb ds _ y d v hm h2
theorem fNt {a:Act} {ds:List Nat} {y:Nat→Value} {d:Nat} {v:Value} (h:d ∈ ds) (hn:ds.Nodup):(over a ds y).put (some d) v=over a ds (updV y d v):=by
 simp only[over,Act.put];rw[fNb ds _ y d v h hn]
theorem over_self (a:Act):∀ds:List Nat,over a ds (fun s=>a.tmps.getD s undef)=a:=by
 intro ds;have H:∀ds:List Nat,ds.foldl (fun t s=>t.setIfInBounds s (a.tmps.getD s undef)) a.tmps=a.tmps:=by
  intro ds;induction ds with
  | nil=>rfl
  | cons d ds ih=>
   simp only[List.foldl_cons];have e:a.tmps.setIfInBounds d (a.tmps.getD d undef)=a.tmps:=by
    apply Array.ext_getElem?;intro i;rw[Array.getElem?_setIfInBounds];split
    ·
     rename_i h;subst h;split
     ·rename_i h;simp[h]
     rename_i h;simp[Array.getElem?_eq_none (Nat.le_of_not_lt h)]
    rfl
   rw[e];exact ih
 simp only[over];rw[H ds]
theorem fLj:∀(L:List (Nat × Nat)),(L.map Prod.fst).Nodup→∀p ∈ L,∀q ∈ L,p.1=q.1→p=q
 | [],_,p,hp,_,_,_=>absurd hp List.not_mem_nil
 | a::L,hn,p,hp,q,hq,h=>by
  obtain⟨h1,h2⟩:=List.nodup_cons.1 hn;rcases List.mem_cons.1 hp with hp1|hp1
  ·
   rcases List.mem_cons.1 hq with hq1|hq1
   ·rw[hp1,hq1]
   exact absurd (by rw[←hp1,h];exact List.mem_map_of_mem hq1) h1
  rcases List.mem_cons.1 hq with hq1|hq1
  ·exact absurd (by rw[←hq1,←h];exact List.mem_map_of_mem hp1) h1
  exact fLj L h2 p hp1 q hq1 h
theorem fLk:∀(L:List (Nat × Nat)),(L.map Prod.snd).Nodup→∀p ∈ L,∀q ∈ L,p.2=q.2→p=q
 | [],_,p,hp,_,_,_=>absurd hp List.not_mem_nil
 | a::L,hn,p,hp,q,hq,h=>by
  obtain⟨h1,h2⟩:=List.nodup_cons.1 hn;rcases List.mem_cons.1 hp with hp1|hp1
  ·
   rcases List.mem_cons.1 hq with hq1|hq1
   ·rw[hp1,hq1]
   exact absurd (by rw[←hp1,h];exact List.mem_map_of_mem hq1) h1
  rcases List.mem_cons.1 hq with hq1|hq1
  ·exact absurd (by rw[←hq1,←h];exact List.mem_map_of_mem hp1) h1
  exact fLk L h2 p hp1 q hq1 h
theorem yS {F F':Nat × Nat→Bool}:∀{L:List (Nat × Nat)},(L.map Prod.fst).Nodup→∀{p:Nat × Nat},p ∈ L→F p=true→F' p=false→(∀q ∈ L,q≠p→F' q=F q)→(L.filter F).length=(L.filter F').length+1
 | [],_,_,hp,_,_,_=>absurd hp List.not_mem_nil
 | a::L,hn,p,hp,h1,h2,h3=>by
  obtain⟨g1,g2⟩:=List.nodup_cons.1 hn;by_cases e:a=p
  ·subst e;rw[List.filter_cons_of_pos h1,List.filter_cons_of_neg (by rw[h2];exact Bool.false_ne_true)];have h4:L.filter F=L.filter F':=List.filter_congr (fun q hq=>(h3 q (List.mem_cons_of_mem _ hq) (fun c=>g1 (c▸List.mem_map_of_mem hq))).symm);rw[h4,List.length_cons]
  have hm:p ∈ L:=(List.mem_cons.1 hp).resolve_left (fun c=>e c.symm);have ih:=yS g2 hm h1 h2 (fun q hq hne=>h3 q (List.mem_cons_of_mem _ hq) hne);have ha:=h3 a List.mem_cons_self e;cases hF:F a with
  | true=>rw[List.filter_cons_of_pos hF,List.filter_cons_of_pos (by rw[ha,hF]),List.length_cons,List.length_cons,ih]
  | false=>rw[List.filter_cons_of_neg (by rw[hF];exact Bool.false_ne_true),List.filter_cons_of_neg (by rw[ha,hF];exact Bool.false_ne_true),ih]
section
variable {P : Program} {ops : Array Oper} {Q : Exit → Act → World → Prop} {md : Region.Mode} {S : World → Prop} {t : Nat}
def fNu (md:Region.Mode) (ops:Array Oper):Bool:=(List.range ops.size).all fun i=>match ops[i]? with|some o=>o.after.all fun e=>!Region.binds md e||decide (e.on<i)|none=>true
theorem fE8 {listed:Array Bool} (hr:fNu md ops=true) (hs:listed.size=ops.size):∀n i,i<n→i<ops.size→listed.getD i true=false→∃j,j ∈ Region.ready md ops listed:=by
 intro n;induction n with
 | zero=>intro i h;omega
 | succ n ih=>
  intro i hi hlt hun;by_cases hex:∃k,k<i∧listed.getD k true=false
  ·obtain⟨k,hk,hku⟩:=hex;exact ih k oM oM hku
  refine⟨i,mem_ready.2 ⟨hun,ops[i],by simp[hlt],fun e he hb=>?_⟩⟩;have h1:=List.all_eq_true.1 hr i (List.mem_range.2 hlt);simp only[Array.getElem?_eq_getElem hlt] at h1;have h2:=Array.all_eq_true'.1 h1 e he;simp only[hb,Bool.not_true,Bool.false_or,decide_eq_true_eq] at h2;have h3:¬listed.getD e.on true=false:=fun c=>hex ⟨e.on,h2,c⟩
  have h4:e.on<listed.size:=oM;simp[h4] at h3 ⊢;exact h3
def InB (w0 w:World) (lo hi:Nat):Prop:=w0.heap.size≤lo∧lo≤hi∧hi≤w.heap.size
def fG9 (lo hi:Nat→Nat) (j k:Nat):Prop:=hi j≤lo k∨hi k≤lo j
structure Shut (p:Prop):Prop where
 out:p
def fXh (P:Program) (md:Region.Mode) (ops:Array Oper) (Q:Exit→Act→World→Prop) (S:World→Prop) (L:List (Nat × Nat)) (G:Nat→(Nat→Value)→Nat→Nat→World→Prop) (a0:Act) (w0:World) (p:Nat × Nat):Prop:=
 ∃o,ops[p.1]? = some o∧o.dst=some p.2∧∀(y:Nat→Value) (w:World) (lo hi:Nat→Nat),S w→Below w0.heap.size w0 w →
  (∀q ∈ L,waitsFor md ops p.1 q.1=true→InB w0 w (lo q.1) (hi q.1)∧G q.1 y (lo q.1) (hi q.1) w) →
  (∀q ∈ L,∀r ∈ L,q.1≠r.1→waitsFor md ops p.1 q.1=true→waitsFor md ops p.1 r.1=true→fG9 lo hi q.1 r.1) →
  ∀K:Act→World→Prop,(∀v w',Below w.heap.size w w'→G p.1 (updV y p.2 v) w.heap.size w'.heap.size w'→K ((over a0 (L.map Prod.snd) y).put (some p.2) v) w') →
   Shut (if Region.wanted o (yielded ops (over a0 (L.map Prod.snd) y).tmps)=true then Oper.wp P o (over a0 (L.map Prod.snd) y) w K Q else K ((over a0 (L.map Prod.snd) y).put o.dst undef) w)
theorem fMn (L:List (Nat × Nat)) (G:Nat→(Nat→Value)→Nat→Nat→World→Prop) {f:Nat} {listed:Array Bool} {a0:Act} {w0:World}
  (hrise:fNu md ops=true) (hsz:listed.size=ops.size) (hot:∃ot,ops[t]? = some ot)
  (hall:∀i,i<ops.size→listed.getD i true=false→i=t∨∃p ∈ L,p.1=i)
  (hun:listed.getD t true=false∧∀p ∈ L,listed.getD p.1 true=false)
  (hno:(L.map Prod.fst).Nodup) (hnd:(L.map Prod.snd).Nodup) (htl:∀p ∈ L,p.1≠t∧waitsFor md ops t p.1=true) (hf:f=L.length+1)
  (hS:S w0) (hSst:∀w w',S w→Below w.heap.size w w'→S w')
  (hG:∀p ∈ L,∀(y y':Nat→Value) (lo hi:Nat) (w w':World),G p.1 y lo hi w→InB w0 w lo hi→Below w.heap.size w w'→y' p.2=y p.2→(∀q ∈ L,waitsFor md ops p.1 q.1=true→y' q.2=y q.2)→G p.1 y' lo hi w')
  (hstep:∀p ∈ L,fXh P md ops Q S L G a0 w0 p)
  (hlast:∃o,ops[t]? = some o∧∀(y:Nat→Value) (w:World) (lo hi:Nat→Nat),S w→Below w0.heap.size w0 w→(∀q ∈ L,InB w0 w (lo q.1) (hi q.1)∧G q.1 y (lo q.1) (hi q.1) w)→(∀q ∈ L,∀r ∈ L,q.1≠r.1→fG9 lo hi q.1 r.1) →
   ∀K:Act→World→Prop,(∀a' w',Q .normal a' w'→K a' w')→Shut (if Region.wanted o (yielded ops (over a0 (L.map Prod.snd) y).tmps)=true then Oper.wp P o (over a0 (L.map Prod.snd) y) w K Q else K ((over a0 (L.map Prod.snd) y).put o.dst undef) w)) :
  gI P md ops Q S t f listed a0 w0:=by
 -- the same from any state on the way
 have H:∀(n f:Nat) (listed:Array Bool) (y:Nat→Value) (w:World) (lo hi:Nat→Nat),
   f=(L.filter fun p=>!listed.getD p.1 true).length+1→listed.size=ops.size→listed.getD t true=false →
   (∀i,i<ops.size→listed.getD i true=false→i=t∨∃p ∈ L,p.1=i) →
   (∀p ∈ L,listed.getD p.1 true=true→∀q ∈ L,waitsFor md ops p.1 q.1=true→listed.getD q.1 true=true) →
   S w→Below w0.heap.size w0 w→(∀q ∈ L,listed.getD q.1 true=true→InB w0 w (lo q.1) (hi q.1)∧G q.1 y (lo q.1) (hi q.1) w) →
   (∀q ∈ L,∀r ∈ L,q.1≠r.1→listed.getD q.1 true=true→listed.getD r.1 true=true→fG9 lo hi q.1 r.1) →
   f≤n→gI P md ops Q S t f listed (over a0 (L.map Prod.snd) y) w:=by
  intro n;induction n with
  | zero=>intro f listed y w lo hi hf _ _ _ _ _ _ _ _ hn;omega
  | succ n ih=>
   intro f listed y w lo hi hf hsz htun hall hdown hS hB hGs hAp hn;obtain⟨ot,hot⟩:=hot;have htlt:t<ops.size:=by
    rcases Nat.lt_or_ge t ops.size with h|h
    ·exact h
    rw[Array.getElem?_eq_none h] at hot;cases hot
   obtain⟨g,rfl⟩:∃g,f=g+1:=⟨_,hf⟩
   have hg:g=(L.filter fun p=>!listed.getD p.1 true).length:=oM;refine⟨fun h=>?_,fun i hi'=>?_⟩
   ·obtain⟨j,hj⟩:=fE8 hrise hsz (t+1) t oM htlt htun;rw[h] at hj;cases hj
   obtain⟨hiun,o,hio,hdeps⟩:=mem_ready.1 hi';have hilt:i<ops.size:=by
    rcases Nat.lt_or_ge i ops.size with h|h
    ·exact h
    rw[Array.getElem?_eq_none h] at hio;cases hio
   have hdep:∀k,k<ops.size→waitsFor md ops i k=true→listed.getD k true=true:=by
    intro k hk hw;unfold waitsFor at hw;rw[hio] at hw;obtain⟨e,he,hb⟩:=Array.any_eq_true'.1 hw;simp only[Bool.and_eq_true,beq_iff_eq] at hb;have h1:=hdeps e he hb.1;rw[hb.2] at h1;have hk':k<listed.size:=oM;simp[hk'] at h1 ⊢;exact h1
   have hLlt:∀p ∈ L,p.1<ops.size:=by
    intro p hp;obtain⟨o',ho',_⟩:=hstep p hp;rcases Nat.lt_or_ge p.1 ops.size with h|h
    ·exact h
    rw[Array.getElem?_eq_none h] at ho';cases ho'
   have key:∀K:Act→World→Prop,(if Region.wanted o (yielded ops (over a0 (L.map Prod.snd) y).tmps)=true then Oper.wp P o (over a0 (L.map Prod.snd) y) w K Q else K ((over a0 (L.map Prod.snd) y).put o.dst undef) w)→wpOp P ops Q i K (over a0 (L.map Prod.snd) y) w:=by
    intro K h1;unfold wpOp;simp only[hio];split
    ·rename_i hw;rw[if_pos hw] at h1;exact .inl h1
    rename_i hw;rw[if_neg hw] at h1;exact h1
   refine key _ ?_;by_cases hit:i=t
   ·
    subst hit;have hl:∀p ∈ L,listed.getD p.1 true=true:=fun p hp=>hdep p.1 (hLlt p hp) (htl p hp).2
    obtain⟨o2,ho2,hlst⟩:=hlast;rw[hio] at ho2;cases ho2;refine(hlst y w lo hi hS hB (fun q hq=>hGs q hq (hl q hq)) (fun q hq r hr hne=>hAp q hq r hr hne (hl q hq) (hl r hr)) _ (fun a' w' hq=>⟨fun h=>absurd rfl h,fAv ?_ hq⟩)).out;rw[List.eq_nil_iff_forall_not_mem];intro j hj;obtain⟨hjun,oj,hjo,_⟩:=mem_ready.1 hj;have hjl:j<ops.size:=by
     rcases Nat.lt_or_ge j ops.size with h|h
     ·exact h
     rw[Array.getElem?_eq_none h] at hjo;cases hjo
    by_cases hji:i=j
    ·subst hji;have hk':i<listed.size:=oM;simp[hk'] at hjun
    rw[getD_set_ne true hji] at hjun;rcases hall j hjl hjun with h|⟨p,hp,h⟩
    ·exact hji h.symm
    rw[←h,hl p hp] at hjun;cases hjun
   obtain⟨p,hp,hpi⟩:=(hall i hilt hiun).resolve_left hit;subst hpi;obtain⟨o',ho',hdst,hst⟩:=hstep p hp;rw[hio] at ho';cases ho';refine(hst y w lo hi hS hB (fun q hq hw=>hGs q hq (hdep q.1 (hLlt q hq) hw)) (fun q hq r hr hne h1 h2=>hAp q hq r hr hne (hdep q.1 (hLlt q hq) h1) (hdep r.1 (hLlt r hr) h2)) _ (fun v w' hb hGp=>⟨fun _=>hSst _ _ hS hb,?_⟩)).out;rw[fNt (List.mem_map_of_mem hp) hnd];have hlt:p.1<listed.size:=oM;have hself:(listed.setIfInBounds p.1 true).getD p.1 true=true:=by simp[hlt]
   have hoth:∀j,p.1≠j→(listed.setIfInBounds p.1 true).getD j true=listed.getD j true:=fun j h=>getD_set_ne true h
   have hinj:∀q ∈ L,q.1=p.1→q=p:=fun q hq h=>fLj L hno q hq p hp h
   have hinj2:∀q ∈ L,q.2=p.2→q=p:=fun q hq h=>fLk L hnd q hq p hp h
   refine ih g (listed.setIfInBounds p.1 true) (updV y p.2 v) w' (fun j=>if j=p.1 then w.heap.size else lo j) (fun j=>if j=p.1 then w'.heap.size else hi j) ?_ (by simpa using hsz) ?_ ?_ ?_ (hSst _ _ hS hb) (hB.trans (hb.mono hB.size)) ?_ ?_ oM
   ·rw[hg];refine yS hno hp (by rw[hiun];rfl) (by rw[hself];rfl) (fun q hq hne=>?_);rw[hoth _ (fun c=>hne (hinj q hq c.symm))]
   ·rw[hoth _ (fun h=>hit h)];exact htun
   ·
    intro j hj hju;by_cases e:p.1=j
    ·subst e;rw[hself] at hju;cases hju
    rw[hoth _ e] at hju;exact hall j hj hju
   ·
    intro q hq hql r hr hw;by_cases e:p.1=r.1
    ·rw[←e];exact hself
    rw[hoth _ e];by_cases e2:p.1=q.1
    ·rw[←e2] at hw;exact hdep r.1 (hLlt r hr) hw
    rw[hoth _ e2] at hql;exact hdown q hq hql r hr hw
   ·
    intro q hq hql;by_cases e:q.1=p.1
    ·have e2:=hinj q hq e;subst e2;simp only[if_true];exact⟨⟨hB.size,hb.size,Nat.le_refl _⟩,hGp⟩
    rw[hoth _ (Ne.symm e)] at hql;simp only[if_neg e];obtain⟨h1,h2⟩:=hGs q hq hql;refine⟨⟨h1.1,h1.2.1,Nat.le_trans h1.2.2 hb.size⟩,hG q hq y (updV y p.2 v) _ _ w w' h2 h1 hb ?_ ?_⟩
    ·exact if_neg (fun c=>e (by rw[hinj2 q hq c]))
    intro r hr hw;refine if_neg (fun c=>?_);have e3:=hinj2 r hr c;subst e3;rw[hdown q hq hql _ hr hw] at hiun;cases hiun
   intro q hq r hr hne hql hrl;unfold fG9;by_cases e:q.1=p.1
   ·
    have e':r.1≠p.1:=fun c=>hne (e.trans c.symm)
    rw[hoth _ (Ne.symm e')] at hrl;simp only[if_pos e,if_neg e'];exact .inr (hGs r hr hrl).1.2.2
   rw[hoth _ (Ne.symm e)] at hql;by_cases e':r.1=p.1
   ·simp only[if_neg e,if_pos e'];exact .inl (hGs q hq hql).1.2.2
   rw[hoth _ (Ne.symm e')] at hrl;simp only[if_neg e,if_neg e'];exact hAp q hq r hr hne hql hrl
 have h0:=H f f listed (fun s=>a0.tmps.getD s undef) w0 (fun _=>0) (fun _=>0) (by
  rw[hf,List.filter_eq_self.2 (fun p hp=>by rw[hun.2 p hp];rfl)]) hsz hun.1 hall (fun p hp h=>by rw[hun.2 p hp] at h;cases h) hS (bR _ _) (fun q hq h=>by rw[hun.2 q hq] at h;cases h) (fun q hq r hr hne h=>by rw[hun.2 q hq] at h;cases h) (Nat.le_refl _)
 rw[over_self] at h0;exact h0
def fM4 (md:Region.Mode) (ops:Array Oper) (listed:Array Bool) (t f:Nat) (L:List (Nat × Nat)):Bool:=
 fNu md ops&&decide (listed.size=ops.size)&&(ops[t]?).isSome&&((List.range ops.size).all fun i=>listed.getD i true||decide (i=t)||L.any fun p=>decide (p.1=i)) &&
  !listed.getD t true&&(L.all fun p=>!listed.getD p.1 true)&&decide (L.map Prod.fst).Nodup&&decide (L.map Prod.snd).Nodup&&(L.all fun p=>decide (p.1≠t)&&waitsFor md ops t p.1)&&decide (f=L.length+1)
theorem fKe (L:List (Nat × Nat)) (G:Nat→(Nat→Value)→Nat→Nat→World→Prop) {f:Nat} {listed:Array Bool} {a0:Act} {w0:World} (hc:fM4 md ops listed t f L=true)
  (hS:S w0) (hSst:∀w w',S w→Below w.heap.size w w'→S w')
  (hG:∀p ∈ L,∀(y y':Nat→Value) (lo hi:Nat) (w w':World),G p.1 y lo hi w→InB w0 w lo hi→Below w.heap.size w w'→y' p.2=y p.2→(∀q ∈ L,waitsFor md ops p.1 q.1=true→y' q.2=y q.2)→G p.1 y' lo hi w')
  (hstep:∀p ∈ L,fXh P md ops Q S L G a0 w0 p)
  (hlast:∃o,ops[t]? = some o∧∀(y:Nat→Value) (w:World) (lo hi:Nat→Nat),S w→Below w0.heap.size w0 w→(∀q ∈ L,InB w0 w (lo q.1) (hi q.1)∧G q.1 y (lo q.1) (hi q.1) w)→(∀q ∈ L,∀r ∈ L,q.1≠r.1→fG9 lo hi q.1 r.1) →
   ∀K:Act→World→Prop,(∀a' w',Q .normal a' w'→K a' w')→Shut (if Region.wanted o (yielded ops (over a0 (L.map Prod.snd) y).tmps)=true then Oper.wp P o (over a0 (L.map Prod.snd) y) w K Q else K ((over a0 (L.map Prod.snd) y).put o.dst undef) w)) :
  gI P md ops Q S t f listed a0 w0:=by
 unfold fM4 at hc;simp only[Bool.and_eq_true,decide_eq_true_eq,List.all_eq_true,List.any_eq_true,Bool.or_eq_true,Bool.not_eq_true',List.mem_range] at hc;obtain⟨⟨⟨⟨⟨⟨⟨⟨⟨h1,h2⟩,h3⟩,h4⟩,h5⟩,h6⟩,h7⟩,h8⟩,h9⟩,h10⟩:=hc;refine fMn L G h1 h2 (Option.isSome_iff_exists.1 h3) (fun i hi hu=>?_) ⟨h5,h6⟩ h7 h8 h9 h10 hS hSst hG hstep hlast;rcases h4 i hi with (h|h)|h
 ·rw[hu] at h;cases h
 ·exact .inl h
 exact .inr h
end
end
section
variable [dQ Leg] [iH Leg] [dQ Cont] [iH Cont] [dQ Bal] [iH Bal] [dQ Mrk] [iH Mrk] [dQ Shd] [iH Shd] [dQ Vot] [iH Vot] [dQ Slt] [iH Slt] [dQ Acc] [iH Acc] [dQ Trr] [iH Trr] [dQ Hrd] [iH Hrd] [dQ Ldr] [iH Ldr] [dQ Msg] [iH Msg] [dQ Clu] [iH Clu] [dQ Ledg] [iH Ledg] [dQ SltR] [iH SltR] [dQ AccR] [iH AccR] [dQ AccsR] [iH AccsR] [dQ SltsR] [iH SltsR] [dQ Rw] [iH Rw] [dQ LedgR] [iH LedgR] [dQ OutcR] [iH OutcR] [dQ ShdR] [iH ShdR]
def orL:List Int→Int
 | []=>0
 | x::xs=>if x=0 then orL xs else x
theorem fW1 {xs:List Int}:∀{k:Nat},k<xs.length→(∀j,j<k→xs.getD j 0=0)→¬xs.getD k 0=0→orL xs=xs.getD k 0:=by
 induction xs with
 | nil=>intro k hk;simp at hk
 | cons x xs ih=>
  intro k hk h0 h1;cases k with
  | zero=>simp at h1;simp[orL,h1]
  | succ k=>
   have hx:x=0:=by have:=h0 0 oM;simpa using this
   have:=ih (k:=k) (by simpa using hk) (fun j hj=>by have:=h0 (j+1) oM;simpa using this) (by simpa using h1);simp[orL,hx];simpa using this
theorem fU7 {xs:List Int} (h:∀j,j<xs.length→xs.getD j 0=0):orL xs=0:=by
 induction xs with
 | nil=>rfl
 | cons x xs ih=>
  have hx:x=0:=by have:=h 0 (by simp);simpa using this
  simp[orL,hx];exact ih (fun j hj=>by have:=h (j+1) (by simpa using hj);simpa using this)
theorem fW2 (b n:Nat) (xs:List Int) (w:World) (hn:xs.length=n) (hs:n≤100) (h:∀k,k<n→w.cell? ⟨b,k,none⟩=some (.int .i64 (xs.getD k 0))) :
  Calls Tryz.prog 277 #[.slice (some ⟨b,0,none⟩) n n] w fun e w'=>e =.returned (.int .i64 (orL xs))∧w'=w:=by
 have H1:Hid (∀k,k<n→(∀j,j<k→xs.getD j 0=0)→¬xs.getD k 0=0→orL xs=xs.getD k 0):=fun k hk h0 h1=>fW1 (by rw[hn];exact hk) h0 h1
 have H2:Hid ((∀j,j<n→xs.getD j 0=0)→orL xs=0):=fun h=>fU7 (by rw[hn];exact h)
 have HX:Hid (∀k,k<n→w.cell? ⟨b,k,none⟩=some (.int .i64 (xs.getD k 0))):=h;clear h hn;generalize orL xs=R at *;go_enter Tryz.func277,Tryz.ntmps277;go_wp2;go_loopw [8] (fun i w'=>∃k:Nat,k≤n∧i =.int .i64 k∧w'=w∧Hid (∀j,j<k→xs.getD j 0=0)) (fun i _=>n-(intOf i).toNat)
 case atStart=>exact⟨0,by omega,rfl,rfl,fun j hj=>absurd hj oM⟩
 obtain⟨k,hk,rfl,rfl,HS⟩:=hrel;by_cases hlt:k<n
 ·
  have hc:=HX.out k hlt;have HH:Hid (¬xs.getD k 0=0→R=xs.getD k 0):=fun h=>H1.out k hlt HS.out h
  have HZ:Hid (xs.getD k 0=0→∀j,j<k+1→xs.getD j 0=0):=fun h j hj=>by
   by_cases e:j=k
   ·rw[e];exact h
   exact HS.out j oM
  generalize xs.getD k 0=v at *;by_cases hv:v=0
  ·subst hv;have HQ:Hid _:=HZ.out rfl;clear HZ HH;go_wp2;exact⟨⟨k+1,by omega,by go_num,by first|trivial|rfl,HQ⟩,mI⟩
  have HC:Hid _:=HH.out hv;have hv':(v !=0)=true:=by simp[hv]
  clear HZ HH;go_wp2;go_ret;exact⟨rH,rfl⟩
 obtain rfl:k=n:=oM;have HC:Hid (R=0):=H2.out HS.out;go_wp2;go_ret;exact⟨rH,rfl⟩
theorem fU6 (a b c d e:Int):orL [a,b,c,d,e]=orZ a (orZ b (orZ c (orZ d e))):=by by_cases h1:a=0 <;> by_cases h2:b=0 <;> by_cases h3:c=0 <;> by_cases h4:d=0 <;> by_cases h5:e=0 <;> simp[orL,orZ,h1,h2,h3,h4,h5]
theorem fDx (i j:Int) (u v:Value) (w:World) :
  RI 207 #[.agg #[.int .i64 i,u],.agg #[.int .i64 j,v]] w (.int .i64 (cmpZ i j)):=by
 go_enter Tryz.func207,Tryz.ntmps207;go_wp2_with (first|(go_at_call 247;refine(fB6 _ _ _).mono ?_;rintro e w' ⟨rfl,hw⟩;obtain rfl:=hw.symm));go_ret;exact⟨rfl,qBq⟩
theorem fBv (x y:Trr) (u v u' v':Value) (w:World) :
  RI 223 #[.agg #[.int .i64 x.con,.int .i64 x.sh,.int .i64 x.bal,.int .i64 x.val,u,v],.agg #[.int .i64 y.con,.int .i64 y.sh,.int .i64 y.bal,.int .i64 y.val,u',v']] w (.int .i64 (cmpT x y)):=by
 go_enter Tryz.func223,Tryz.ntmps223;go_wp2;go_region_held3 (fun w'=>Below w.heap.size w w'∧w'.cell? ⟨w.heap.size,0,none⟩=some (.int .i64 x.con)∧w'.cell? ⟨w.heap.size,1,none⟩=some (.int .i64 x.sh)∧w'.cell? ⟨w.heap.size+1,0,none⟩=some (.int .i64 y.con)∧w'.cell? ⟨w.heap.size+1,1,none⟩=some (.int .i64 y.sh))
  ((refine⟨?_,?_,?_,?_,?_⟩;(repeat (first|exact bR _ _|assumption|refine bD ?_|refine bA ?_ _));all_goals simp[go_sem]))
  (first|(go_at_call 247;refine(fB6 _ _ _).mono ?_;rintro e w' ⟨rfl,rfl⟩)|(go_at_call 277;refine(fSg _ (cmpZ x.con y.con) (cmpZ x.sh y.sh) _ ?_ ?_).mono ?_;simp[go_sem];simp[go_sem];rintro e w' ⟨rfl,rfl⟩))
 all_goals
  rename_i hH;have hB:=hH.1;clear hH;go_wp2;go_ret;exact⟨rfl,qBq⟩
def hrdG (x y:Hrd):Nat→(Nat→Value)→Nat→Nat→World→Prop
 | 4,z,_,_,_=>z 9 =.int .i64 (cmpZ x.con y.con)
 | 9,z,_,_,_=>z 14 =.int .i64 (cmpZ x.sh y.sh)
 | 14,z,_,_,_=>z 19 =.int .i64 (cmpZ x.bal y.bal)
 | 19,z,_,_,_=>z 24 =.int .i64 (cmpZ x.val y.val)
 | 24,z,_,_,_=>z 29 =.int .i64 (cmpZ x.frm y.frm)
 | 25,z,_,_,w=>∃b,z 30 =.slice (some ⟨b,0,none⟩) 5 5∧w.cell? ⟨b,0,none⟩=some (.int .i64 (cmpZ x.con y.con))∧w.cell? ⟨b,1,none⟩=some (.int .i64 (cmpZ x.sh y.sh))∧w.cell? ⟨b,2,none⟩=some (.int .i64 (cmpZ x.bal y.bal))∧w.cell? ⟨b,3,none⟩=some (.int .i64 (cmpZ x.val y.val))∧w.cell? ⟨b,4,none⟩=some (.int .i64 (cmpZ x.frm y.frm))
 | 26,z,_,_,_=>z 31 =.int .i64 (cmpH x y)
 | _,_,_,_,_=>True
theorem fBu (x y:Hrd) (w:World) :
  RI 231 #[hrdV x,hrdV y] w (.int .i64 (cmpH x y)):=by
 unfold hrdV;have HF:Hid (orL [cmpZ x.con y.con,cmpZ x.sh y.sh,cmpZ x.bal y.bal,cmpZ x.val y.val,cmpZ x.frm y.frm]=cmpH x y):=fU6 _ _ _ _ _;go_enter Tryz.func231,Tryz.ntmps231;go_wp2;obtain⟨wq,hwq⟩:∃wq,wq=(w.alloc (.cells #[.int .i64 x.con,.int .i64 x.sh,.int .i64 x.bal,.int .i64 x.val,.int .i64 x.frm] 209)).alloc (.cells #[.int .i64 y.con,.int .i64 y.sh,.int .i64 y.bal,.int .i64 y.val,.int .i64 y.frm] 209):=⟨_,rfl⟩
 have x0:wq.cell? ⟨w.heap.size,0,none⟩=some (.int .i64 x.con):=by rw[hwq];simp[go_sem]
 have x1:wq.cell? ⟨w.heap.size,1,none⟩=some (.int .i64 x.sh):=by rw[hwq];simp[go_sem]
 have x2:wq.cell? ⟨w.heap.size,2,none⟩=some (.int .i64 x.bal):=by rw[hwq];simp[go_sem]
 have x3:wq.cell? ⟨w.heap.size,3,none⟩=some (.int .i64 x.val):=by rw[hwq];simp[go_sem]
 have x4:wq.cell? ⟨w.heap.size,4,none⟩=some (.int .i64 x.frm):=by rw[hwq];simp[go_sem]
 have y0:wq.cell? ⟨w.heap.size+1,0,none⟩=some (.int .i64 y.con):=by rw[hwq];simp[go_sem]
 have y1:wq.cell? ⟨w.heap.size+1,1,none⟩=some (.int .i64 y.sh):=by rw[hwq];simp[go_sem]
 have y2:wq.cell? ⟨w.heap.size+1,2,none⟩=some (.int .i64 y.bal):=by rw[hwq];simp[go_sem]
 have y3:wq.cell? ⟨w.heap.size+1,3,none⟩=some (.int .i64 y.val):=by rw[hwq];simp[go_sem]
 have y4:wq.cell? ⟨w.heap.size+1,4,none⟩=some (.int .i64 y.frm):=by rw[hwq];simp[go_sem]
 have hBq:Below w.heap.size w wq:=by rw[hwq];(repeat (first|exact bR _ _|assumption|refine bD ?_|refine bA ?_ _|refine bset ?_ (by simp;omega) _|refine bset ?_ (by simp) _|refine bS ?_ (by assumption)))
 rw[←hwq];clear hwq;refine wp_region_noPanic ?_;refine fB (fun W=>W.cell? ⟨w.heap.size,0,none⟩=some (.int .i64 x.con)∧W.cell? ⟨w.heap.size,1,none⟩=some (.int .i64 x.sh)∧W.cell? ⟨w.heap.size,2,none⟩=some (.int .i64 x.bal)∧W.cell? ⟨w.heap.size,3,none⟩=some (.int .i64 x.val)∧W.cell? ⟨w.heap.size,4,none⟩=some (.int .i64 x.frm)∧W.cell? ⟨w.heap.size+1,0,none⟩=some (.int .i64 y.con)∧W.cell? ⟨w.heap.size+1,1,none⟩=some (.int .i64 y.sh)∧W.cell? ⟨w.heap.size+1,2,none⟩=some (.int .i64 y.bal)∧W.cell? ⟨w.heap.size+1,3,none⟩=some (.int .i64 y.val)∧W.cell? ⟨w.heap.size+1,4,none⟩=some (.int .i64 y.frm)) 27 kF ⟨cK qBq x0,cK qBq x1,cK qBq x2,cK qBq x3,cK qBq x4,cK qBq y0,cK qBq y1,cK qBq y2,cK qBq y3,cK qBq y4⟩ (fun hS=>?_);refine tY 0 ?_;refine tY 1 ?_;refine tY 2 ?_;refine tY 3 ?_;refine tY 5 ?_;refine tY 6 ?_;refine tY 7 ?_;refine tY 8 ?_;refine tY 10 ?_;refine tY 11 ?_;refine tY 12 ?_;refine tY 13 ?_;refine tY 15 ?_;refine tY 16 ?_;refine tY 17 ?_;refine tY 18 ?_;refine tY 20 ?_;refine tY 21 ?_;refine tY 22 ?_;refine tY 23 ?_;have hBd:Below w.heap.size w wq.drew:=qBq;generalize wq.drew=W0 at *;clear hBq x0 y0 x1 y1 x2 y2 x3 y3 x4 y4;refine fKe [(4,9),(9,14),(14,19),(19,24),(24,29),(25,30),(26,31)] (hrdG x y) kF hS (fun W W' h hb=>⟨cK hb h.1,cK hb h.2.1,cK hb h.2.2.1,cK hb h.2.2.2.1,cK hb h.2.2.2.2.1,cK hb h.2.2.2.2.2.1,cK hb h.2.2.2.2.2.2.1,cK hb h.2.2.2.2.2.2.2.1,cK hb h.2.2.2.2.2.2.2.2.1,cK hb h.2.2.2.2.2.2.2.2.2⟩) ?_ ?_ ?_
 ·
  intro p hp;simp only[List.mem_cons,List.not_mem_nil,or_false] at hp;rcases hp with rfl|rfl|rfl|rfl|rfl|rfl|rfl
  all_goals intro z z' lo hi W W' h hi' hb e he
  all_goals simp only[hrdG] at h ⊢
  all_goals rw[e]
  all_goals first
   | exact h
   | (obtain⟨b,h1,h2,h3,h4,h5,h6⟩:=h;exact⟨b,h1,cK hb h2,cK hb h3,cK hb h4,cK hb h5,cK hb h6⟩)
 ·
  intro p hp;simp only[List.mem_cons,List.not_mem_nil,or_false] at hp;rcases hp with rfl|rfl|rfl|rfl|rfl|rfl|rfl
  all_goals
   refine⟨_,rfl,rfl,?_⟩;intro z W lo hi hSW hBW hd hap K hK;clear hap
  iterate 5
   clear hd;refine⟨?_⟩;simp only[over,Act.put,jA,jB,jC,List.map_cons,List.map_nil,List.foldl_cons,List.foldl_nil,jD,jE,jF] at hK ⊢;go_simp;refine(fB6 _ _ _).mono ?_;rintro e w' ⟨rfl,hw⟩;obtain rfl:=hw.symm;refine hK _ _ (bR _ _) ?_;simp[hrdG,updV]
  ·have e1:=(hd (4,9) (by simp) kF).2;have e2:=(hd (9,14) (by simp) kF).2;have e3:=(hd (14,19) (by simp) kF).2;have e4:=(hd (19,24) (by simp) kF).2;have e5:=(hd (24,29) (by simp) kF).2;clear hd;simp only[hrdG] at e1 e2 e3 e4 e5;refine⟨?_⟩;simp only[over,Act.put,jA,jB,jC,List.map_cons,List.map_nil,List.foldl_cons,List.foldl_nil,jD,jE,jF] at hK ⊢;simp only[e1,e2,e3,e4,e5] at hK ⊢;go_simp;refine hK _ _ qBq ?_;simp only[hrdG,updV];exact⟨W.heap.size,by simp,by simp[go_sem],sG,by simp[go_sem],sG,by simp[go_sem]⟩
  have e1:=(hd (25,30) (by simp) kF).2;clear hd;simp only[hrdG] at e1;obtain⟨b,e1,h1,h2,h3,h4,h5⟩:=e1;refine⟨?_⟩;simp only[over,Act.put,jA,jB,jC,List.map_cons,List.map_nil,List.foldl_cons,List.foldl_nil,jD,jE,jF] at hK ⊢;simp only[e1] at hK ⊢;go_simp;refine(fW2 b 5 [cmpZ x.con y.con,cmpZ x.sh y.sh,cmpZ x.bal y.bal,cmpZ x.val y.val,cmpZ x.frm y.frm] _ rfl oM (fun k hk=>?_)).mono ?_
  ·
   obtain rfl|rfl|rfl|rfl|rfl:k=0∨k=1∨k=2∨k=3∨k=4:=oM
   ·exact h1
   ·exact h2
   ·exact h3
   ·exact h4
   exact h5
  rintro e w' ⟨rfl,hw⟩;obtain rfl:=hw.symm;rw[HF.out] at *;refine hK _ _ (bR _ _) ?_;simp[hrdG,updV]
 refine⟨_,rfl,?_⟩;intro z W lo hi hSW hBW hd hap K hK;have h7:=(hd (26,31) (by simp)).2;clear hd hap;simp only[hrdG] at h7;have hB:Below w.heap.size w W:=bS hBd hBW;refine⟨?_⟩;simp only[over,Act.put,jA,jB,jC,List.map_cons,List.map_nil,List.foldl_cons,List.foldl_nil,jD,jE,jF] at hK ⊢;simp only[h7] at hK ⊢;go_simp;refine hK _ _ ?_;refine NoPanic.normal ?_;go_wp2;go_ret;exact⟨rfl,hB⟩
end
end Go.Proofs.YtbfnobcidnmohaaGreat

import Derived.Test.YtbfnobcidnmohaaGreatMsT
import Derived.BigQuiet
import Derived.Deep.QuietTactic
import Derived.Deep.RegionHeld3
set_option maxHeartbeats 16000000
set_option maxRecDepth 20000
set_option linter.unusedSimpArgs false
set_option linter.unusedVariables false
set_option linter.unusedSectionVars false
namespace Go.Proofs.YtbfnobcidnmohaaGreat
open Go.RowKit
variable [DecidableEq Leg] [Inhabited Leg] [DecidableEq Cont] [Inhabited Cont] [DecidableEq Bal] [Inhabited Bal] [DecidableEq Mrk] [Inhabited Mrk] [DecidableEq Shd] [Inhabited Shd] [DecidableEq Vot] [Inhabited Vot] [DecidableEq Slt] [Inhabited Slt] [DecidableEq Acc] [Inhabited Acc] [DecidableEq Trr] [Inhabited Trr] [DecidableEq Hrd] [Inhabited Hrd] [DecidableEq Ldr] [Inhabited Ldr] [DecidableEq Msg] [Inhabited Msg] [DecidableEq Clu] [Inhabited Clu] [DecidableEq Ledg] [Inhabited Ledg] [DecidableEq SltR] [Inhabited SltR] [DecidableEq AccR] [Inhabited AccR] [DecidableEq AccsR] [Inhabited AccsR] [DecidableEq SltsR] [Inhabited SltsR] [DecidableEq Rw] [Inhabited Rw] [DecidableEq LedgR] [Inhabited LedgR] [DecidableEq OutcR] [Inhabited OutcR] [DecidableEq ShdR] [Inhabited ShdR]
attribute [local go_sem ↓] Go.wp_at_zero Go.wp_at_succ
def CluB (w:World) (B:Nat) (c:Clu):Prop:=∃a0 a1 a2 a3 a4 c0 c1 c2 c3 c4 n0 n1 n2 n3 n4,(w.cell? ⟨B,0,none⟩=some (.slice a0 n0 c0)∧w.cell? ⟨B,1,none⟩=some (.slice a1 n1 c1)∧w.cell? ⟨B,2,none⟩=some (.slice a2 n2 c2)∧w.cell? ⟨B,3,none⟩=some (.slice a3 n3 c3)∧w.cell? ⟨B,4,none⟩=some (.slice a4 n4 c4))∧cluR.V w (.agg #[.slice a0 n0 c0,.slice a1 n1 c1,.slice a2 n2 c2,.slice a3 n3 c3,.slice a4 n4 c4]) c
theorem CluB.below {w W:World} {B:Nat} {c:Clu} (h:CluB w B c) (hW:Below w.heap.size w W):CluB W B c:=by
 obtain⟨a0,a1,a2,a3,a4,c0,c1,c2,c3,c4,n0,n1,n2,n3,n4,⟨y0,y1,y2,y3,y4⟩,hx⟩:=h;exact⟨a0,a1,a2,a3,a4,c0,c1,c2,c3,c4,n0,n1,n2,n3,n4,⟨cK hW y0,cK hW y1,cK hW y2,cK hW y3,cK hW y4⟩,cluR.below hx hW⟩
theorem xR {w:World} {c:Clu} {a0 a1 a2 a3 a4:Option Addr} {c0 c1 c2 c3 c4 n0 n1 n2 n3 n4:Nat} (hx:cluR.V w (.agg #[.slice a0 n0 c0,.slice a1 n1 c1,.slice a2 n2 c2,.slice a3 n3 c3,.slice a4 n4 c4]) c):c.cons.length=n0∧c.shards.length=n1∧c.accs.length=n2∧c.ldrs.length=n3∧c.msgs.length=n4∧n0≤9223372036854775807∧n1≤9223372036854775807∧n2≤9223372036854775807∧n3≤9223372036854775807∧n4≤9223372036854775807:=by
 obtain⟨b0,b1,b2,b3,b4,d0,d1,d2,d3,d4,m0,m1,m2,m3,m4,eq,e0,e1,e2,e3,e4,L⟩:=gL hx;simp only[Value.agg.injEq,Array.mk.injEq,List.cons.injEq,and_true,Value.slice.injEq] at eq;obtain⟨⟨rfl,rfl,rfl⟩,⟨rfl,rfl,rfl⟩,⟨rfl,rfl,rfl⟩,⟨rfl,rfl,rfl⟩,⟨rfl,rfl,rfl⟩⟩:=eq;exact⟨e0,e1,e2,e3,e4,L⟩
theorem CluB.p {w:World} {B:Nat} {c:Clu} (h:CluB w B c):CluP w B c:=by
 obtain⟨a0,a1,a2,a3,a4,c0,c1,c2,c3,c4,n0,n1,n2,n3,n4,⟨y0,y1,y2,y3,y4⟩,hx⟩:=h;obtain⟨e0,e1,e2,e3,e4,L0,L1,L2,L3,L4⟩:=xR hx;obtain⟨u1,u2,u3,u4,u5,eq,h1,h2,h3,h4,h5⟩:=hx;simp only[Value.agg.injEq,Array.mk.injEq,List.cons.injEq,and_true] at eq;obtain⟨rfl,rfl,rfl,rfl,rfl⟩:=eq;subst e0 e1 e2 e3 e4;exact⟨a0,c0,a1,c1,a2,c2,a3,c3,_,y0,y1,y2,y3,y4,h1,L1,L2,L3⟩
theorem fIr {xs:List Leg} {n:Nat} (hb:∀j,j<xs.length→0≤(xs.getD j default).sh∧(xs.getD j default).sh≤2) (hn:0<xs.length):0<(kK xs).length∧((n:Int)≤(kK xs).getD ((kK xs).length-1) 0↔pX n xs=false):=by
 have hall:pX n xs=true↔∀s,hasS xs s=true→s<(n:Int):=by
  unfold pX hasS;rw[List.all_eq_true];constructor
  ·
   intro h s hs;rw[List.any_eq_true] at hs;obtain⟨l,hl,e⟩:=hs;have:=h l hl;rw[inBi] at this;rw[beq_iff_eq] at e;omega
  intro h l hl;rw[inBi];have h1:=h l.sh (List.any_eq_true.2 ⟨l,hl,by simp⟩);obtain⟨i,hi,rfl⟩:=List.getElem_of_mem hl;have:=hb i hi;simp only[List.getD,List.getElem?_eq_getElem hi,Option.getD_some] at this;omega
 have hs3:∀s,hasS xs s=true→s=0∨s=1∨s=2:=by
  intro s hs;unfold hasS at hs;rw[List.any_eq_true] at hs;obtain⟨l,hl,e⟩:=hs;obtain⟨i,hi,rfl⟩:=List.getElem_of_mem hl;have:=hb i hi;simp only[List.getD,List.getElem?_eq_getElem hi,Option.getD_some] at this;rw[beq_iff_eq] at e;omega
 have hex:hasS xs 0=true∨hasS xs 1=true∨hasS xs 2=true:=by
  have h0:hasS xs (xs.getD 0 default).sh=true:=by
   unfold hasS;rw[List.any_eq_true];exact⟨xs.getD 0 default,by simp[List.getD,hn],by simp⟩
  rcases hs3 _ h0 with e|e|e <;> rw[e] at h0
  ·
   exact .inl h0
  ·
   exact .inr (.inl h0)
  exact .inr (.inr h0)
 have key:pX n xs=false↔∃s,hasS xs s=true∧(n:Int)≤s:=by
  constructor
  ·
   intro h;apply Classical.byContradiction;intro hc;have:pX n xs=true:=hall.2 (fun s hs=>by
    apply Classical.byContradiction;intro hlt;exact hc ⟨s,hs,by omega⟩)
   rw[this] at h;cases h
  rintro⟨s,hs,hle⟩;cases hq:pX n xs with
  | false=>rfl
  | true=>have:=hall.1 hq s hs;omega
 rw[key];unfold kK sl;cases h0:hasS xs 0 <;> cases h1:hasS xs 1 <;> cases h2:hasS xs 2
 ·
  rw[h0,h1,h2] at hex;simp at hex
 all_goals refine⟨by simp,?_⟩
 all_goals first|change (n:Int)≤2↔_|change (n:Int)≤1↔_|change (n:Int)≤0↔_
 all_goals constructor
 all_goals first
  | (intro h;first|exact⟨2,h2,h⟩|exact⟨1,h1,h⟩|exact⟨0,h0,h⟩)
  | (rintro⟨s,hs,hle⟩;rcases hs3 s hs with rfl|rfl|rfl <;> first|omega|(rw[h0] at hs;cases hs)|(rw[h1] at hs;cases hs)|(rw[h2] at hs;cases hs))
theorem fP1 {id:Int} {xs:List Leg} (h:fB id xs=0):2≤xs.length∧∀j,j<xs.length→0≤(xs.getD j default).sh∧(xs.getD j default).sh≤2:=by
 obtain⟨_,h2,_,h4,_⟩:=fB6 h;exact⟨h2,fTq h4⟩
theorem fBm (B:Nat) (c:Clu) (w:World) (h:CluB w B c) (hlen:∀k,k<c.cons.length→(c.cons.getD k default).legs.length≤1048576) :
  Calls Tryz.prog 61 #[.pointer (some ⟨B,0,none⟩)] w fun e w'=>e = .returned (.int .i64 (vT c))∧Below w.heap.size w w':=by
 have HP:Hid (∀W,Below w.heap.size w W→CluP W B c):=fun W hW=>(h.below hW).p
 obtain⟨a0,a1,a2,a3,a4,c0,c1,c2,c3,c4,n0,n1,n2,n3,n4,⟨y0,y1,y2,y3,y4⟩,hx⟩:=h;have hf:=xR hx;obtain⟨e0,e1,e2,e3,e4,L0,L1,L2,L3,L4⟩:=hf;obtain⟨u1,u2,u3,u4,u5,eq,h1,h2,h3,h4,h5⟩:=hx;simp only[Value.agg.injEq,Array.mk.injEq,List.cons.injEq,and_true] at eq;obtain⟨rfl,rfl,rfl,rfl,rfl⟩:=eq;have zB:B<w.heap.size:=wL w _ y0;obtain⟨hnc,hmc,HA⟩:=mY (by rw[e0];exact h1);unfold maxLen at hmc;rw[e0] at HA hlen;have HX:Hid _:=HA;have HLn:Hid _:=hlen;have H1:Hid (∀k,k<n0→fC (vC n1 c.cons) k=0→¬vC n1 c.cons k=0→vT c=vC n1 c.cons k):=fun k hk hs h0=>by unfold vT;rw[e1];exact fH hs h0 _ (by rw[e0];exact hk)
 have H2:Hid (fC (vC n1 c.cons) n0=0→vT c=0):=fun h=>by unfold vT;rw[e1,e0];exact h
 clear HA h1 h2 h3 h4 h5 hlen e0 e1 e2 e3 e4 L2 L3 L4 HP y2 y3 y4;generalize vT c=R at *;go_enter Tryz.func61,Tryz.ntmps61;go_wp2;go_loopw [3] (fun i w'=>∃k:Nat,k≤n0∧i = .int .i64 k∧Hid (fC (vC n1 c.cons) k=0)∧Below w.heap.size w w') (fun i _=>n0-(intOf i).toNat)
 case atStart=>exact⟨0,Nat.zero_le _,rfl,rfl,qBq⟩
 obtain⟨k,hk,rfl,HS,hbl⟩:=hrel;replace y0:=cK hbl y0;replace y1:=cK hbl y1;have zB':B<wr.heap.size:=wL wr _ y0;by_cases hlt:k<n0
 ·
  have HA:=HX.out k hlt;have hl1:=HLn.out k hlt;have HH:Hid (¬vC n1 c.cons k=0→R=vC n1 c.cons k):=fun h=>H1.out k hlt HS.out h
  have HZ:Hid (vC n1 c.cons k=0→fC (vC n1 c.cons) (k+1)=0):=fun h=>fD HS.out h
  have HD:Hid (vC n1 c.cons k=orF (orF (fB (c.cons.getD k default).id (c.cons.getD k default).legs) (if pX n1 (c.cons.getD k default).legs=true then 0 else 4)) (if fIo c.cons k=true then 0 else 1)):=rfl;have HRi:Hid (∀p,k=p+1→fIo c.cons k=decide ((c.cons.getD p default).id<(c.cons.getD k default).id)):=fun p hp=>by subst hp;simp[fIo]
  have HR0:Hid (k=0→fIo c.cons k=true):=fun hp=>by subst hp;simp[fIo]
  obtain⟨l,hl0⟩:∃l,l=c.cons.getD k default:=⟨_,rfl⟩
  rw[←hl0] at HA HD HRi hl1;clear hl0;obtain⟨b,o,p,q,rfl,g0,g1,hv⟩:=HA;have HF:Hid (∀W,Below w.heap.size w W→Calls Tryz.prog 118 #[.agg #[.int .i64 l.id,.slice p l.legs.length q]] W fun e w'=>e = .returned (.int .i64 (fB l.id l.legs))∧Below W.heap.size W w'):=fun W hW=>zW _ _ _ W (legsR.below hv hW)
  have HSh:Hid (fB l.id l.legs=0→∀W,Below w.heap.size w W→Calls Tryz.prog 21 #[.agg #[.int .i64 l.id,.slice p l.legs.length q]] W fun e w'=>∃v,e = .returned v∧w'.ownsRow W.heap.size 2 1 v (kK l.legs).length (gY (kK l.legs))∧Below W.heap.size W w'):=fun hf W hW=>fH7 _ _ _ W (legsR.below hv hW) hl1 (fP1 hf).2
  have HLa:Hid (fB l.id l.legs=0→0<(kK l.legs).length∧((n1:Int)≤(kK l.legs).getD ((kK l.legs).length-1) 0↔pX n1 l.legs=false)):=fun hf=>fIr (fP1 hf).2 (by have:=(fP1 hf).1;omega)
  have HL3:Hid ((kK l.legs).length≤3):=by show _≤_;unfold kK sl;cases hasS l.legs 0 <;> cases hasS l.legs 1 <;> cases hasS l.legs 2 <;> simp
  clear hv;replace g0:=cK hbl g0;replace g1:=cK hbl g1;have zb:b<wr.heap.size:=wL wr _ g0;have hti:(k:Int)<(n0:Int):=by omega
  generalize vC n1 c.cons k=z at *;generalize fIo c.cons k=rk at *;generalize pX n1 l.legs=li at *;generalize fB l.id l.legs=cf at *;obtain⟨SL,hSL⟩:∃SL,SL=kK l.legs:=⟨_,rfl⟩
  rw[←hSL] at HSh HLa HL3;clear hSL;generalize l.legs.length=ml at *;go_wp2_with fail;refine(HF.out _ (qBq)).mono ?_;rintro e w1 ⟨rfl,hb1⟩;have hB1:Below w.heap.size w w1:=bS (qBq) hb1;have t0:w1.cell? ⟨wr.heap.size,0,none⟩=some (.int .i64 l.id):=cK hb1 (by simp[go_sem]);have t1:w1.cell? ⟨wr.heap.size,1,none⟩=some (.slice p ml q):=cK hb1 (by simp[go_sem]);replace y0:=cK hb1 (cK (qBq) y0);replace y1:=cK hb1 (cK (qBq) y1);have zw1:wr.heap.size<w1.heap.size:=wL w1 _ t0;clear hb1 HF g0 g1;by_cases hcf:cf=0;rotate_left
  ·
   have hz:z=cf:=by rw[HD.out,xG hcf,xG hcf]
   have HC:Hid (R=cf):=by show _=_;rw[←hz];exact HH.out (by rw[hz];exact hcf)
   have hcf':(cf !=0)=true:=by simp[hcf]
   clear HH HZ HD hz HSh HLa;go_wp2;go_ret;exact⟨by rw[HC.out];rfl,hB1⟩
  subst hcf;have HSh':Hid _:=HSh.out rfl;obtain⟨hd0,hla⟩:=HLa.out rfl;have HLs:Hid _:=hla;have HD2:Hid (z=orF (if li=true then 0 else 4) (if rk=true then 0 else 1)):=by show _=_;rw[HD.out,vI rfl]
  clear HSh HLa hla HD;go_wp2_with fail;refine(HSh'.out _ (qBq)).mono ?_;rintro e w2 ⟨v2,rfl,o2,hb2⟩;have hB2:Below w.heap.size w w2:=bS (qBq) hb2;replace t0:=cK hb2 (cK (qBq) t0);replace y0:=cK hb2 (cK (qBq) y0);replace y1:=cK hb2 (cK (qBq) y1);replace zw1:wr.heap.size<w2.heap.size:=wL w2 _ t0;have hIV:=pM o2;obtain⟨a5,c5,rfl,h5c,h5m,hIV⟩:=hIV;unfold maxLen at h5m;obtain⟨b5,o5,rfl,g5⟩:=hIV (SL.length-1) (by omega);have hd3:=HL3.out;clear o2 hb2 hIV HSh' HL3;obtain⟨d,hd⟩:∃d,d=SL.length:=⟨_,rfl⟩
  rw[←hd] at g5 hd0 h5c hd3 HLs ⊢;clear hd;generalize SL.getD (d-1) 0=lastS at *;have i0:IntKind.i64.wrap ((d:Int)-1)=((d-1:Nat):Int):=by rw[IntKind.wrap_i64];omega
  have i1:(0:Int)≤((d-1:Nat):Int):=by omega
  have i2:((d-1:Nat):Int)<(d:Int):=by omega
  have i3:(((d-1:Nat):Int)).toNat=d-1:=by omega
  have i4:IntKind.i64.wrap ((n1:Nat):Int)=(n1:Int):=gM (by omega) (by omega);go_wp2;refine wp_region_noPanic ?_;refine fA (fun W=>W.cell? ⟨B,1,none⟩=some (.slice a1 n1 c1)∧W.cell? ⟨b5,o5+(d-1),none⟩=some (.int .i64 lastS)) 12 (by kernel_rfl) ⟨cK (qBq) y1,cK (qBq) g5⟩ (fun hS=>?_);refine tM 0 rfl hS ?_;try simp only[jX]
  refine tM 1 rfl hS ?_;try simp only[jX]
  refine tM 2 rfl hS ?_;try simp only[jX]
  refine tM 3 rfl hS ?_;try simp only[jX]
  refine tM 4 rfl hS ?_;try simp only[jX]
  refine tM 5 rfl hS ?_;try simp only[jX]
  refine tM 6 rfl hS ?_;try simp only[jX]
  refine tM 7 rfl hS ?_;try simp only[jX]
  refine tM 8 rfl hS ?_;try simp only[jX]
  refine tM 9 rfl hS ?_;try simp only[jX]
  refine tM 10 rfl hS ?_;try simp only[jX]
  cases li
  ·
   have hz:z=4:=by rw[HD2.out];rfl
   have HC:Hid (R=4):=by show _=_;rw[←hz];exact HH.out (by rw[hz];omega)
   have hge:(n1:Int)≤lastS:=HLs.out.2 rfl;clear HH HZ HD2 hz HLs;refine tM 11 (v:=(.bool true)) rfl hS ?_;try simp only[jX]
   refine dN (NoPanic.normal ?_);go_wp2;go_ret;exact⟨by rw[HC.out];rfl,qBq⟩
  have hge:¬(n1:Int)≤lastS:=fun h=>by have:=HLs.out.1 h;cases this
  have HD3:Hid (z=if rk=true then 0 else 1):=by show _=_;rw[HD2.out];rfl
  clear HD2 HLs;refine tM 11 (v:=(.bool false)) rfl hS ?_;try simp only[jX]
  refine dN (NoPanic.normal ?_);have hB3:Below w.heap.size w w2.drew:=qBq;replace y0:=cK (w':=w2.drew) (qBq) y0;replace t0:=cK (w':=w2.drew) (qBq) t0;replace zw1:wr.heap.size<w2.drew.heap.size:=wL _ _ t0;clear hS;generalize w2.drew=w3 at *;clear y1 g5 i0 i1 i2 i3 i4 hge;cases k with
  | zero=>
   have hz:z=0:=by rw[HD3.out,HR0.out rfl];rfl
   have HQ:Hid _:=HZ.out hz;clear HH HZ HD3 hz HRi HR0;go_wp2;refine wp_region_noPanic ?_;refine fA (fun W=>W.cell? ⟨B,0,none⟩=some (.slice (some ⟨b,o,none⟩) n0 c0)) 16 (by kernel_rfl) (cK (qBq) y0) (fun hS=>?_);refine tM 0 rfl hS ?_;try simp only[jX]
   refine tM 1 (v:=(.bool false)) rfl hS ?_;try simp only[jX]
   refine tM 2 rfl hS ?_;try simp only[jX]
   refine sN 3 rfl hS (fun _=>?_);try simp only[jX]
   refine sN 4 rfl hS (fun _=>?_);try simp only[jX]
   refine sN 5 rfl hS (fun _=>?_);try simp only[jX]
   refine sN 6 rfl hS (fun _=>?_);try simp only[jX]
   refine sN 7 rfl hS (fun _=>?_);try simp only[jX]
   refine sN 8 rfl hS (fun _=>?_);try simp only[jX]
   refine sN 9 rfl hS (fun _=>?_);try simp only[jX]
   refine sN 10 rfl hS (fun _=>?_);try simp only[jX]
   refine sN 11 rfl hS (fun _=>?_);try simp only[jX]
   refine sN 12 rfl hS (fun _=>?_);try simp only[jX]
   refine sN 13 rfl hS (fun _=>?_);try simp only[jX]
   refine sN 14 rfl hS (fun _=>?_);try simp only[jX]
   refine tM 15 rfl hS ?_;try simp only[jX]
   refine dN (NoPanic.normal ?_);go_wp2;exact⟨⟨1,by omega,by go_num,HQ,qBq⟩,by simp[intOf];omega⟩
  | succ p1=>
   obtain⟨b',o',p',q',ha',k0,k1,_⟩:=HX.out p1 (by omega);simp only[Option.some.injEq,Addr.mk.injEq,and_true] at ha';obtain⟨rfl,rfl⟩:=ha';have hRi:=HRi.out p1 rfl;obtain⟨j,hj⟩:∃j,j=(c.cons.getD p1 default).id:=⟨_,rfl⟩
   rw[←hj] at hRi k0;have HRk:Hid (rk=decide (j<l.id)):=hRi;clear hj hRi HRi HR0 k1;replace k0:=cK hB3 k0;have j1:(0:Int)<((p1+1:Nat):Int):=by omega
   have j2:(0:Int)<(p1:Int)+1:=by omega
   have j3:IntKind.i64.wrap (((p1+1:Nat):Int)-1)=(p1:Int):=by rw[IntKind.wrap_i64];omega
   have j4:IntKind.i64.wrap ((p1:Int)+1-1)=(p1:Int):=by rw[IntKind.wrap_i64];omega
   have j5:(0:Int)≤(p1:Int):=by omega
   have j6:(p1:Int)<(n0:Int):=by omega
   have j7:IntKind.i64.wrap (p1:Int)=(p1:Int):=gM (by omega) (by omega);go_wp2;refine wp_region_noPanic ?_;refine fA (fun W=>W.cell? ⟨B,0,none⟩=some (.slice (some ⟨b,o,none⟩) n0 c0)∧W.cell? ⟨wr.heap.size,0,none⟩=some (.int .i64 l.id)∧W.cell? ⟨b,o+p1*2,none⟩=some (.int .i64 j)) 16 (by kernel_rfl) ⟨cK (qBq) y0,cK (qBq) t0,cK (qBq) k0⟩ (fun hS=>?_);refine tM 0 rfl hS ?_;try simp only[jX]
   refine tM 1 (v:=(.bool true)) rfl hS ?_;try simp only[jX]
   refine tM 2 rfl hS ?_;try simp only[jX]
   refine tM 3 rfl hS ?_;try simp only[jX]
   refine tM 4 rfl hS ?_;try simp only[jX]
   refine tM 5 rfl hS ?_;try simp only[jX]
   refine tM 6 rfl hS ?_;try simp only[jX]
   refine tM 7 rfl hS ?_;try simp only[jX]
   refine tM 8 rfl hS ?_;try simp only[jX]
   refine tM 9 rfl hS ?_;try simp only[jX]
   refine tM 10 rfl hS ?_;try simp only[jX]
   refine tM 11 rfl hS ?_;try simp only[jX]
   refine tM 12 rfl hS ?_;try simp only[jX]
   refine tM 13 rfl hS ?_;try simp only[jX]
   by_cases hji:l.id≤j
   ·
    have hz:z=1:=by rw[HD3.out,HRk.out,decide_eq_false (by omega)];rfl
    have HC:Hid (R=1):=by show _=_;rw[←hz];exact HH.out (by rw[hz];omega)
    clear HH HZ HD3 hz HRk;refine tM 14 (v:=(.bool true)) rfl hS ?_;try simp only[jX]
    refine tM 15 rfl hS ?_;try simp only[jX]
    refine dN (NoPanic.normal ?_);go_wp2;go_ret;exact⟨by rw[HC.out];rfl,qBq⟩
   have hz:z=0:=by rw[HD3.out,HRk.out,decide_eq_true (by omega)];rfl
   have HQ:Hid _:=HZ.out hz;clear HH HZ HD3 hz HRk;refine tM 14 (v:=(.bool false)) rfl hS ?_;try simp only[jX]
   refine tM 15 rfl hS ?_;try simp only[jX]
   refine dN (NoPanic.normal ?_);go_wp2;exact⟨⟨p1+1+1,by omega,by go_num,HQ,qBq⟩,by simp[intOf];omega⟩
 obtain rfl:k=n0:=by omega
 have hti:¬(k:Int)<(k:Int):=by omega
 have HC:Hid (R=0):=H2.out HS.out;go_wp2;go_ret;exact⟨by rw[HC.out];rfl,hbl⟩
theorem mP {x y r:Int} (h:x=y):orZ (cmpZ x y) r=r:=by unfold orZ;rw[if_pos (cmpZ_eq.2 h)]
theorem zU {x y r:Int} (h:¬x=y):orZ (cmpZ x y) r=cmpZ x y:=by unfold orZ;rw[if_neg (fun e=>h (cmpZ_eq.1 e))]
theorem fR9 (x y:Hrd) {k:Nat} (hk:k<5) (h:∀j,j<k→([x.con,x.sh,x.bal,x.val,x.frm]:List Int).getD j 0=([y.con,y.sh,y.bal,y.val,y.frm]:List Int).getD j 0) (hn:¬([x.con,x.sh,x.bal,x.val,x.frm]:List Int).getD k 0=([y.con,y.sh,y.bal,y.val,y.frm]:List Int).getD k 0):decide (cmpH x y<0)=decide (([x.con,x.sh,x.bal,x.val,x.frm]:List Int).getD k 0<([y.con,y.sh,y.bal,y.val,y.frm]:List Int).getD k 0):=by
 rw[decide_eq_decide];obtain rfl|rfl|rfl|rfl|rfl:k=0∨k=1∨k=2∨k=3∨k=4:=by omega
 ·
  change ¬x.con=y.con at hn
  change cmpH x y<0↔x.con<y.con
  unfold cmpH;rw[zU hn];exact vB
 ·
  have h0:x.con=y.con:=h 0 (by omega);change ¬x.sh=y.sh at hn;change cmpH x y<0↔x.sh<y.sh;unfold cmpH;rw[mP h0,zU hn];exact vB
 ·
  have h0:x.con=y.con:=h 0 (by omega);have h1:x.sh=y.sh:=h 1 (by omega);change ¬x.bal=y.bal at hn;change cmpH x y<0↔x.bal<y.bal;unfold cmpH;rw[mP h0,mP h1,zU hn];exact vB
 ·
  have h0:x.con=y.con:=h 0 (by omega);have h1:x.sh=y.sh:=h 1 (by omega);have h2:x.bal=y.bal:=h 2 (by omega);change ¬x.val=y.val at hn;change cmpH x y<0↔x.val<y.val;unfold cmpH;rw[mP h0,mP h1,mP h2,zU hn];exact vB
 have h0:x.con=y.con:=h 0 (by omega);have h1:x.sh=y.sh:=h 1 (by omega);have h2:x.bal=y.bal:=h 2 (by omega);have h3:x.val=y.val:=h 3 (by omega);change ¬x.frm=y.frm at hn;change cmpH x y<0↔x.frm<y.frm;unfold cmpH;rw[mP h0,mP h1,mP h2,mP h3];exact vB
theorem fR8 (x y:Hrd) (h:∀j,j<5→([x.con,x.sh,x.bal,x.val,x.frm]:List Int).getD j 0=([y.con,y.sh,y.bal,y.val,y.frm]:List Int).getD j 0):decide (cmpH x y<0)=false:=by
 have h0:x.con=y.con:=h 0 (by omega);have h1:x.sh=y.sh:=h 1 (by omega);have h2:x.bal=y.bal:=h 2 (by omega);have h3:x.val=y.val:=h 3 (by omega);have h4:x.frm=y.frm:=h 4 (by omega);rw[decide_eq_false_iff_not];unfold cmpH;rw[mP h0,mP h1,mP h2,mP h3,vB];omega
theorem fFr (x y:Hrd) (w:World) :
  Calls Tryz.prog 127 #[hrdV x,hrdV y] w fun e w'=>e = .returned (.bool (decide (cmpH x y<0)))∧Below w.heap.size w w':=by
 have H1:Hid (∀k,k<5→(∀j,j<k→([x.con,x.sh,x.bal,x.val,x.frm]:List Int).getD j 0=([y.con,y.sh,y.bal,y.val,y.frm]:List Int).getD j 0)→¬([x.con,x.sh,x.bal,x.val,x.frm]:List Int).getD k 0=([y.con,y.sh,y.bal,y.val,y.frm]:List Int).getD k 0→decide (cmpH x y<0)=decide (([x.con,x.sh,x.bal,x.val,x.frm]:List Int).getD k 0<([y.con,y.sh,y.bal,y.val,y.frm]:List Int).getD k 0)):=fun k hk h hn=>fR9 x y hk h hn
 have H2:Hid ((∀j,j<5→([x.con,x.sh,x.bal,x.val,x.frm]:List Int).getD j 0=([y.con,y.sh,y.bal,y.val,y.frm]:List Int).getD j 0)→decide (cmpH x y<0)=false):=fun h=>fR8 x y h
 generalize decide (cmpH x y<0)=R at *;unfold hrdV;go_enter Tryz.func127,Tryz.ntmps127;go_wp2;obtain⟨w1,hw1⟩:∃w1,w1=(((w.alloc (.cells #[.int .i64 x.con,.int .i64 x.sh,.int .i64 x.bal,.int .i64 x.val,.int .i64 x.frm] 209)).alloc (.cells #[.int .i64 y.con,.int .i64 y.sh,.int .i64 y.bal,.int .i64 y.val,.int .i64 y.frm] 209)).alloc (.cells #[.int .i64 x.con,.int .i64 x.sh,.int .i64 x.bal,.int .i64 x.val,.int .i64 x.frm] 2)).alloc (.cells #[.int .i64 y.con,.int .i64 y.sh,.int .i64 y.bal,.int .i64 y.val,.int .i64 y.frm] 2):=⟨_,rfl⟩
 have HX:Hid (∀k,k<5→w1.cell? ⟨w.heap.size+2,k,none⟩=some (.int .i64 (([x.con,x.sh,x.bal,x.val,x.frm]:List Int).getD k 0))∧w1.cell? ⟨w.heap.size+3,k,none⟩=some (.int .i64 (([y.con,y.sh,y.bal,y.val,y.frm]:List Int).getD k 0))):=fun k hk=>by
  rw[hw1];obtain rfl|rfl|rfl|rfl|rfl:k=0∨k=1∨k=2∨k=3∨k=4:=by omega
  all_goals exact⟨by simp[go_sem],by simp[go_sem]⟩
 have hB1:Below w.heap.size w w1:=by rw[hw1];(repeat (first|exact bR _ _|assumption|refine bD ?_|refine bA ?_ _|refine bset ?_ (by simp;omega) _|refine bset ?_ (by simp) _|refine bS ?_ (by assumption)))
 rw[←hw1];clear hw1;go_loopw [7] (fun i w'=>∃k:Nat,k≤5∧i = .int .i64 k∧Hid (∀j,j<k→([x.con,x.sh,x.bal,x.val,x.frm]:List Int).getD j 0=([y.con,y.sh,y.bal,y.val,y.frm]:List Int).getD j 0)∧Below w1.heap.size w1 w') (fun i _=>5-(intOf i).toNat)
 case atStart=>exact⟨0,Nat.zero_le _,rfl,fun j hj=>absurd hj (Nat.not_lt_zero _),Below.refl _ _⟩
 obtain⟨k,hk,rfl,HS,hbl⟩:=hrel;have hblw:=bS hB1 hbl;by_cases hlt:k<5
 ·
  obtain⟨g0,g1⟩:=HX.out k hlt;have HH:Hid (¬([x.con,x.sh,x.bal,x.val,x.frm]:List Int).getD k 0=([y.con,y.sh,y.bal,y.val,y.frm]:List Int).getD k 0→R=decide (([x.con,x.sh,x.bal,x.val,x.frm]:List Int).getD k 0<([y.con,y.sh,y.bal,y.val,y.frm]:List Int).getD k 0)):=fun h=>H1.out k hlt HS.out h
  have HZ:Hid (([x.con,x.sh,x.bal,x.val,x.frm]:List Int).getD k 0=([y.con,y.sh,y.bal,y.val,y.frm]:List Int).getD k 0→∀j,j<k+1→([x.con,x.sh,x.bal,x.val,x.frm]:List Int).getD j 0=([y.con,y.sh,y.bal,y.val,y.frm]:List Int).getD j 0):=fun h j hj=>by
   by_cases e:j=k
   ·
    rw[e];exact h
   exact HS.out j (by omega)
  replace g0:=cK hbl g0;replace g1:=cK hbl g1;generalize ([x.con,x.sh,x.bal,x.val,x.frm]:List Int).getD k 0=xv at *;generalize ([y.con,y.sh,y.bal,y.val,y.frm]:List Int).getD k 0=yv at *;have hti:(k:Int)<5:=by omega
  have hi0:(0:Int)≤(k:Int):=by omega
  go_wp2;refine wp_region_noPanic ?_;refine fA (fun W=>W.cell? ⟨w.heap.size+2,k,none⟩=some (.int .i64 xv)∧W.cell? ⟨w.heap.size+3,k,none⟩=some (.int .i64 yv)) 9 (by kernel_rfl) ⟨cK (qBq) g0,cK (qBq) g1⟩ (fun hS=>?_);refine tM 0 rfl hS ?_;try simp only[jX]
  refine tM 1 rfl hS ?_;try simp only[jX]
  refine tM 2 rfl hS ?_;try simp only[jX]
  refine tM 3 rfl hS ?_;try simp only[jX]
  refine tM 4 rfl hS ?_;try simp only[jX]
  refine tM 5 rfl hS ?_;try simp only[jX]
  refine tM 6 rfl hS ?_;try simp only[jX]
  refine tM 7 rfl hS ?_;try simp only[jX]
  by_cases hv:xv=yv
  ·
   have HQ:Hid _:=HZ.out hv;have hv':(xv !=yv)=false:=by simp[hv]
   clear HZ HH hv;refine tM 8 (v:=(.bool false)) rfl hS ?_;try simp only[jX]
   refine dN (NoPanic.normal ?_);go_wp2;exact⟨⟨k+1,by omega,by go_num,HQ,qBq⟩,by simp[intOf];omega⟩
  have HC:Hid _:=HH.out hv;have hv':(xv !=yv)=true:=by simp[hv]
  clear HZ HH hv;refine tM 8 (v:=(.bool true)) rfl hS ?_;try simp only[jX]
  refine dN (NoPanic.normal ?_);go_wp2;refine wp_region_noPanic ?_;refine fA (fun W=>W.cell? ⟨w.heap.size+2,k,none⟩=some (.int .i64 xv)∧W.cell? ⟨w.heap.size+3,k,none⟩=some (.int .i64 yv)) 10 (by kernel_rfl) ⟨cK (qBq) g0,cK (qBq) g1⟩ (fun hS=>?_);refine tM 0 rfl hS ?_;try simp only[jX]
  refine tM 1 rfl hS ?_;try simp only[jX]
  refine tM 2 rfl hS ?_;try simp only[jX]
  refine tM 3 rfl hS ?_;try simp only[jX]
  refine tM 4 rfl hS ?_;try simp only[jX]
  refine tM 5 rfl hS ?_;try simp only[jX]
  refine tM 6 rfl hS ?_;try simp only[jX]
  refine tM 7 rfl hS ?_;try simp only[jX]
  refine tM 8 rfl hS ?_;try simp only[jX]
  refine tM 9 rfl hS ?_;try simp only[jX]
  refine dN (NoPanic.normal ?_);go_wp2;go_ret;exact⟨by rw[HC.out];rfl,qBq⟩
 obtain rfl:k=5:=by omega
 have HC:Hid (R=false):=H2.out HS.out;go_wp2;go_ret;exact⟨by rw[HC.out];rfl,hblw⟩
end Go.Proofs.YtbfnobcidnmohaaGreat

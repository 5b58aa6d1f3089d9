import Derived.Test.YtbfnobcidnmohaaGreatPrnSafeClusterLaw25
set_option maxHeartbeats 32000000
set_option maxRecDepth 20000
set_option linter.unusedSimpArgs false
set_option linter.unusedVariables false
set_option linter.unusedSectionVars false
namespace Go.Proofs.YtbfnobcidnmohaaGreat
open Go.RowKit
attribute [local go_sem ↓] Go.wp_at_zero Go.wp_at_succ
section
variable [dQ Leg] [iH Leg] [dQ Cont] [iH Cont] [dQ Bal] [iH Bal] [dQ Mrk] [iH Mrk] [dQ Shd] [iH Shd] [dQ Vot] [iH Vot] [dQ Slt] [iH Slt] [dQ Acc] [iH Acc] [dQ Trr] [iH Trr] [dQ Hrd] [iH Hrd] [dQ Ldr] [iH Ldr] [dQ Msg] [iH Msg] [dQ Clu] [iH Clu] [dQ Ledg] [iH Ledg] [dQ SltR] [iH SltR] [dQ AccR] [iH AccR] [dQ AccsR] [iH AccsR] [dQ SltsR] [iH SltsR] [dQ Rw] [iH Rw] [dQ LedgR] [iH LedgR] [dQ OutcR] [iH OutcR] [dQ ShdR] [iH ShdR]
theorem fJo (x:Value) (c:Clu) (w:World) (hx:cluR.V w x c) (hlen:∀k,k<c.cons.length→(c.cons.getD k default).legs.length≤1048576) (hsz:∀k,k<c.shards.length→(c.shards.getD k default).votes.length≤1048576∧(c.shards.getD k default).done.length≤1048576) (hneed:∀k,k<c.ldrs.length→∀i,i<(c.ldrs.getD k default).tries.length→((c.ldrs.getD k default).tries.getD i default).frm.length≤1048576) :
  RI 20 #[x] w (.int .i64 (cluS c)):=by
 have HV:Hid (bW w fun W=>cluR.V W x c):=fun W hW=>cluR.below hx hW
 have hx':=hx;obtain⟨a0,a1,a2,a3,a4,c0,c1,c2,c3,c4,n0,n1,n2,n3,n4,rfl,e0,e1,e2,e3,e4,L0,L1,L2,L3,L4⟩:=gP hx;obtain⟨u1,u2,u3,u4,u5,eq,h1,h2,h3,h4,h5⟩:=hx';simp only[Value.agg.injEq,Array.mk.injEq,List.cons.injEq,and_true] at eq;obtain⟨rfl,rfl,rfl,rfl,rfl⟩:=eq;have HB:∀W,Below w.heap.size w W→(W.cell? ⟨w.heap.size,0,none⟩=some (.slice a0 n0 c0)∧W.cell? ⟨w.heap.size,1,none⟩=some (.slice a1 n1 c1)∧W.cell? ⟨w.heap.size,2,none⟩=some (.slice a2 n2 c2)∧W.cell? ⟨w.heap.size,3,none⟩=some (.slice a3 n3 c3)∧W.cell? ⟨w.heap.size,4,none⟩=some (.slice a4 n4 c4))→CluB W w.heap.size c:=fun W hW hY=>⟨a0,a1,a2,a3,a4,c0,c1,c2,c3,c4,n0,n1,n2,n3,n4,hY,HV.out W hW⟩
 have HL0:Hid (bW w fun W=>(W.cell? ⟨w.heap.size,0,none⟩=some (.slice a0 n0 c0)∧W.cell? ⟨w.heap.size,1,none⟩=some (.slice a1 n1 c1)∧W.cell? ⟨w.heap.size,2,none⟩=some (.slice a2 n2 c2)∧W.cell? ⟨w.heap.size,3,none⟩=some (.slice a3 n3 c3)∧W.cell? ⟨w.heap.size,4,none⟩=some (.slice a4 n4 c4))→RI 61 #[.pointer (some ⟨w.heap.size,0,none⟩)] W (.int .i64 (vX c))):=fun W hW hY=>fB0 _ c W (HB W hW hY) hlen
 have HL1:Hid (bW w fun W=>(W.cell? ⟨w.heap.size,0,none⟩=some (.slice a0 n0 c0)∧W.cell? ⟨w.heap.size,1,none⟩=some (.slice a1 n1 c1)∧W.cell? ⟨w.heap.size,2,none⟩=some (.slice a2 n2 c2)∧W.cell? ⟨w.heap.size,3,none⟩=some (.slice a3 n3 c3)∧W.cell? ⟨w.heap.size,4,none⟩=some (.slice a4 n4 c4))→RI 62 #[.pointer (some ⟨w.heap.size,0,none⟩)] W (.int .i64 (uX c))):=fun W hW hY=>fF8 _ c W (HB W hW hY) hlen hsz
 have HL2:Hid (bW w fun W=>(W.cell? ⟨w.heap.size,0,none⟩=some (.slice a0 n0 c0)∧W.cell? ⟨w.heap.size,1,none⟩=some (.slice a1 n1 c1)∧W.cell? ⟨w.heap.size,2,none⟩=some (.slice a2 n2 c2)∧W.cell? ⟨w.heap.size,3,none⟩=some (.slice a3 n3 c3)∧W.cell? ⟨w.heap.size,4,none⟩=some (.slice a4 n4 c4))→RI 63 #[.pointer (some ⟨w.heap.size,0,none⟩)] W (.int .i64 (vC c))):=fun W hW hY=>fBz _ c W (HB W hW hY) hlen
 have HL3:Hid (bW w fun W=>(W.cell? ⟨w.heap.size,0,none⟩=some (.slice a0 n0 c0)∧W.cell? ⟨w.heap.size,1,none⟩=some (.slice a1 n1 c1)∧W.cell? ⟨w.heap.size,2,none⟩=some (.slice a2 n2 c2)∧W.cell? ⟨w.heap.size,3,none⟩=some (.slice a3 n3 c3)∧W.cell? ⟨w.heap.size,4,none⟩=some (.slice a4 n4 c4))→RI 64 #[.pointer (some ⟨w.heap.size,0,none⟩)] W (.int .i64 (fB1 c))):=fun W hW hY=>fD7 _ c W (HB W hW hY) hlen hneed
 have HLM:Hid (∀m W,Below w.heap.size w W→(W.cell? ⟨w.heap.size,0,none⟩=some (.slice a0 n0 c0)∧W.cell? ⟨w.heap.size,1,none⟩=some (.slice a1 n1 c1)∧W.cell? ⟨w.heap.size,2,none⟩=some (.slice a2 n2 c2)∧W.cell? ⟨w.heap.size,3,none⟩=some (.slice a3 n3 c3)∧W.cell? ⟨w.heap.size,4,none⟩=some (.slice a4 n4 c4))→RI 65 #[.pointer (some ⟨w.heap.size,0,none⟩),msgV m] W (.int .i64 (msgF c m))):=fun m W hW hY=>fD8 _ c m W ((HB W hW hY).p) hlen
 obtain⟨_,hnc,hmc,HA⟩:=fNm h5;unfold maxLen at hmc;have HX:Hid _:=HA;have HR:Hid (cluS c=orF (szC c) (orF (vX c) (orF (uX c) (orF (vC c) (orF (fB1 c) (yV c)))))):=rfl;have HZ0:Hid (szC c=if n0≤20∧(1≤n1∧n1≤3)∧(1≤n2∧n2≤5)∧n3=2∧n4≤200 then 0 else 2):=by show _=_;unfold szC;rw[e0,e1,e2,e3,e4]
 have HM1:Hid (∀k,k<n4→fC (fun k=>msgF c (c.msgs.getD k default)) k=0→¬msgF c (c.msgs.getD k default)=0→yV c=msgF c (c.msgs.getD k default)):=fun k hk hs h0=>by unfold yV;exact fK (f:=fun k=>msgF c (c.msgs.getD k default)) hs h0 _ (by rw[e4];exact hk)
 have HM2:Hid (fC (fun k=>msgF c (c.msgs.getD k default)) n4=0→yV c=0):=fun h=>by unfold yV;rw[e4];exact h
 clear HV HA hx h1 h2 h3 h4 h5 hlen hsz hneed e0 e1 e2 e3 e4;generalize cluS c=R at *;generalize szC c=z0 at *;generalize vX c=z1 at *;generalize uX c=z2 at *;generalize vC c=z3 at *;generalize fB1 c=z4 at *;generalize yV c=z5 at *;by_cases q0:20<n0
 ·
  have HC:Hid (R=2):=by show _=_;rw[HR.out,HZ0.out,if_neg (fun x=>oM)];rfl
  have b0:(20:Int)<(n0:Int):=oM;clear HR HZ0 HB HL0 HL1 HL2 HL3 HLM;go_enter Tryz.func20,Tryz.ntmps20;go_wp2;go_ret;exact⟨rH,qBq⟩
 have b0:¬(20:Int)<(n0:Int):=oM;by_cases q1:n1<1
 ·
  have HC:Hid (R=2):=by show _=_;rw[HR.out,HZ0.out,if_neg (fun x=>oM)];rfl
  have b1:(n1:Int)<1:=oM;clear HR HZ0 HB HL0 HL1 HL2 HL3 HLM;go_enter Tryz.func20,Tryz.ntmps20;go_wp2;go_ret;exact⟨rH,qBq⟩
 have b1:¬(n1:Int)<1:=oM;by_cases q2:3<n1
 ·
  have HC:Hid (R=2):=by show _=_;rw[HR.out,HZ0.out,if_neg (fun x=>oM)];rfl
  have b2:(3:Int)<(n1:Int):=oM;clear HR HZ0 HB HL0 HL1 HL2 HL3 HLM;go_enter Tryz.func20,Tryz.ntmps20;go_wp2;go_ret;exact⟨rH,qBq⟩
 have b2:¬(3:Int)<(n1:Int):=oM;by_cases q3:n2<1
 ·
  have HC:Hid (R=2):=by show _=_;rw[HR.out,HZ0.out,if_neg (fun x=>oM)];rfl
  have b3:(n2:Int)<1:=oM;clear HR HZ0 HB HL0 HL1 HL2 HL3 HLM;go_enter Tryz.func20,Tryz.ntmps20;go_wp2;go_ret;exact⟨rH,qBq⟩
 have b3:¬(n2:Int)<1:=oM;by_cases q4:5<n2
 ·
  have HC:Hid (R=2):=by show _=_;rw[HR.out,HZ0.out,if_neg (fun x=>oM)];rfl
  have b4:(5:Int)<(n2:Int):=oM;clear HR HZ0 HB HL0 HL1 HL2 HL3 HLM;go_enter Tryz.func20,Tryz.ntmps20;go_wp2;go_ret;exact⟨rH,qBq⟩
 have b4:¬(5:Int)<(n2:Int):=oM;by_cases q5:¬n3=2
 ·
  have HC:Hid (R=2):=by show _=_;rw[HR.out,HZ0.out,if_neg (fun x=>oM)];rfl
  have b5:((n3:Int) !=2)=true:=by simp;omega
  clear HR HZ0 HB HL0 HL1 HL2 HL3 HLM;go_enter Tryz.func20,Tryz.ntmps20;go_wp2;go_ret;exact⟨rH,qBq⟩
 have b5:((n3:Int) !=2)=false:=by simp;omega
 by_cases q6:200<n4
 ·
  have HC:Hid (R=2):=by show _=_;rw[HR.out,HZ0.out,if_neg (fun x=>oM)];rfl
  have b6:(200:Int)<(n4:Int):=oM;clear HR HZ0 HB HL0 HL1 HL2 HL3 HLM;go_enter Tryz.func20,Tryz.ntmps20;go_wp2;go_ret;exact⟨rH,qBq⟩
 have b6:¬(200:Int)<(n4:Int):=oM;have HRR:Hid (R=orF z1 (orF z2 (orF z3 (orF z4 z5)))):=by show _=_;rw[HR.out,vS (by rw[HZ0.out,if_pos ⟨oM,⟨oM,by omega⟩,⟨oM,by omega⟩,oM,by omega⟩])]
 clear HR HZ0 HB q0 q1 q2 q3 q4 q5 q6;go_enter Tryz.func20,Tryz.ntmps20;go_wp2_with fail;refine(HL0.out _ qBq (by first|exact Y|exact ykeep qBq Y|exact⟨sG,by simp[go_sem],sG,by simp[go_sem],sG⟩)).mono ?_;rintro e w1 ⟨rfl,hb⟩;have hB1:=bT w hb;have Y1:w1.cell? ⟨w.heap.size,0,none⟩=some (.slice a0 n0 c0)∧w1.cell? ⟨w.heap.size,1,none⟩=some (.slice a1 n1 c1)∧w1.cell? ⟨w.heap.size,2,none⟩=some (.slice a2 n2 c2)∧w1.cell? ⟨w.heap.size,3,none⟩=some (.slice a3 n3 c3)∧w1.cell? ⟨w.heap.size,4,none⟩=some (.slice a4 n4 c4):=⟨cK hb sG,cK hb sG,cK hb sG,cK hb sG,cK hb sG⟩;clear hb HL0;by_cases hz0:z1=0;rotate_left
 ·
  have HC:Hid (R=z1):=by show _=_;rw[HRR.out,xN hz0]
  have hz':(z1 !=0)=true:=by simp[hz0]
  clear HRR;go_wp2;go_ret;exact⟨rH,hB1⟩
 subst hz0;have HRR1:Hid (R=orF z2 (orF z3 (orF z4 z5))):=by show _=_;rw[HRR.out,vS rfl]
 clear HRR b0 b1 b2 b3 b4 b5 b6;go_wp2_with fail;refine(HL1.out _ qBq (by first|exact Y1|exact ykeep qBq Y1)).mono ?_;rintro e w2 ⟨rfl,hb⟩;have hB2:=bT w hb;have Y2:w2.cell? ⟨w.heap.size,0,none⟩=some (.slice a0 n0 c0)∧w2.cell? ⟨w.heap.size,1,none⟩=some (.slice a1 n1 c1)∧w2.cell? ⟨w.heap.size,2,none⟩=some (.slice a2 n2 c2)∧w2.cell? ⟨w.heap.size,3,none⟩=some (.slice a3 n3 c3)∧w2.cell? ⟨w.heap.size,4,none⟩=some (.slice a4 n4 c4):=ykeep hb (by first|exact Y1|exact ykeep qBq Y1);clear hb HL1;by_cases hz1:z2=0;rotate_left
 ·
  have HC:Hid (R=z2):=by show _=_;rw[HRR1.out,xN hz1]
  have hz':(z2 !=0)=true:=by simp[hz1]
  clear HRR1;go_wp2;go_ret;exact⟨rH,hB2⟩
 subst hz1;have HRR2:Hid (R=orF z3 (orF z4 z5)):=by show _=_;rw[HRR1.out,vS rfl]
 clear HRR1 Y1 hB1;go_wp2_with fail;refine(HL2.out _ qBq (by first|exact Y2|exact ykeep qBq Y2)).mono ?_;rintro e w3 ⟨rfl,hb⟩;have hB3:=bT w hb;have Y3:w3.cell? ⟨w.heap.size,0,none⟩=some (.slice a0 n0 c0)∧w3.cell? ⟨w.heap.size,1,none⟩=some (.slice a1 n1 c1)∧w3.cell? ⟨w.heap.size,2,none⟩=some (.slice a2 n2 c2)∧w3.cell? ⟨w.heap.size,3,none⟩=some (.slice a3 n3 c3)∧w3.cell? ⟨w.heap.size,4,none⟩=some (.slice a4 n4 c4):=ykeep hb (by first|exact Y2|exact ykeep qBq Y2);clear hb HL2;by_cases hz2:z3=0;rotate_left
 ·
  have HC:Hid (R=z3):=by show _=_;rw[HRR2.out,xN hz2]
  have hz':(z3 !=0)=true:=by simp[hz2]
  clear HRR2;go_wp2;go_ret;exact⟨rH,hB3⟩
 subst hz2;have HRR3:Hid (R=orF z4 z5):=by show _=_;rw[HRR2.out,vS rfl]
 clear HRR2 Y2 hB2;go_wp2_with fail;refine(HL3.out _ qBq (by first|exact Y3|exact ykeep qBq Y3)).mono ?_;rintro e w4 ⟨rfl,hb⟩;have hB4:=bT w hb;have Y4:w4.cell? ⟨w.heap.size,0,none⟩=some (.slice a0 n0 c0)∧w4.cell? ⟨w.heap.size,1,none⟩=some (.slice a1 n1 c1)∧w4.cell? ⟨w.heap.size,2,none⟩=some (.slice a2 n2 c2)∧w4.cell? ⟨w.heap.size,3,none⟩=some (.slice a3 n3 c3)∧w4.cell? ⟨w.heap.size,4,none⟩=some (.slice a4 n4 c4):=ykeep hb (by first|exact Y3|exact ykeep qBq Y3);clear hb HL3;by_cases hz3:z4=0;rotate_left
 ·
  have HC:Hid (R=z4):=by show _=_;rw[HRR3.out,xN hz3]
  have hz':(z4 !=0)=true:=by simp[hz3]
  clear HRR3;go_wp2;go_ret;exact⟨rH,hB4⟩
 subst hz3;have HR5:Hid (R=z5):=by show _=_;rw[HRR3.out,vS rfl]
 clear HRR3 Y3 hB3;go_wp2;go_loopw [7] (fun i w'=>∃k:Nat,k≤n4∧i =.int .i64 k∧Hid (fC (fun k=>msgF c (c.msgs.getD k default)) k=0)∧(w'.cell? ⟨w.heap.size,0,none⟩=some (.slice a0 n0 c0)∧w'.cell? ⟨w.heap.size,1,none⟩=some (.slice a1 n1 c1)∧w'.cell? ⟨w.heap.size,2,none⟩=some (.slice a2 n2 c2)∧w'.cell? ⟨w.heap.size,3,none⟩=some (.slice a3 n3 c3)∧w'.cell? ⟨w.heap.size,4,none⟩=some (.slice a4 n4 c4))∧Below w.heap.size w w') (fun i _=>n4-(intOf i).toNat)
 case atStart=>exact⟨0,oM,rfl,rfl,Y4,hB4⟩
 obtain⟨k,hk,rfl,HS,Y,hbl⟩:=hrel;have zq:w.heap.size<_:=wL _ _ Y.1;have y4:=Y.2.2.2.2;by_cases hlt:k<n4
 ·
  have HA:=HX.out k hlt;have HM:=HLM.out (c.msgs.getD k default);have HM':Hid _:=HM;have HH:Hid (¬msgF c (c.msgs.getD k default)=0→R=msgF c (c.msgs.getD k default)):=fun h=>by show _=_;rw[HR5.out];exact HM1.out k hlt HS.out h
  have HZ:Hid (msgF c (c.msgs.getD k default)=0→fC (fun k=>msgF c (c.msgs.getD k default)) (k+1)=0):=fun h=>fE (f:=fun k=>msgF c (c.msgs.getD k default)) HS.out h
  clear HM;obtain⟨m,hm0⟩:∃m,m=c.msgs.getD k default:=⟨_,rfl⟩
  rw[←hm0] at HA HH HZ HM';clear hm0;obtain⟨b,o,rfl,g0,g1,g2,g3,g4,g5,g6,g7,g8⟩:=HA;replace g0:=cK hbl g0;replace g1:=cK hbl g1;replace g2:=cK hbl g2;replace g3:=cK hbl g3;replace g4:=cK hbl g4;replace g5:=cK hbl g5;replace g6:=cK hbl g6;replace g7:=cK hbl g7;replace g8:=cK hbl g8;have hti:(k:Int)<(n4:Int):=oM;generalize msgF c m=z at *;unfold msgV at HM';obtain⟨m0,m1,m2,m3,m4,m5,m6,m7,m8⟩:=m;dsimp only at HM' g0 g1 g2 g3 g4 g5 g6 g7 g8;go_wp2_with fail;refine(HM'.out _ qBq (by first|exact Y|exact ykeep qBq Y)).mono ?_;rintro e w5 ⟨rfl,hb5⟩;have hB5:=bT w hb5;have Y5:w5.cell? ⟨w.heap.size,0,none⟩=some (.slice a0 n0 c0)∧w5.cell? ⟨w.heap.size,1,none⟩=some (.slice a1 n1 c1)∧w5.cell? ⟨w.heap.size,2,none⟩=some (.slice a2 n2 c2)∧w5.cell? ⟨w.heap.size,3,none⟩=some (.slice a3 n3 c3)∧w5.cell? ⟨w.heap.size,4,none⟩=some (.slice (some ⟨b,o,none⟩) n4 c4):=ykeep hb5 (by first|exact Y|exact ykeep qBq Y);clear hb5 HM' g0 g1 g2 g3 g4 g5 g6 g7 g8;by_cases hz:z=0
  ·have HQ:Hid _:=HZ.out hz;subst hz;clear HH HZ;go_wp2;exact⟨⟨k+1,by omega,by go_num,HQ,Y5,hB5⟩,mI⟩
  have HC:Hid _:=HH.out hz;have hz':(z !=0)=true:=by simp[hz]
  clear HH HZ;go_wp2;go_ret;exact⟨rH,hB5⟩
 obtain rfl:k=n4:=oM;have hti:¬(k:Int)<(k:Int):=oM;have HC:Hid (R=0):=by show _=_;rw[HR5.out];exact HM2.out HS.out
 go_wp2;go_ret;exact⟨rH,hbl⟩
end
section
variable [dQ Vot] [iH Vot] [dQ Slt] [iH Slt] [dQ SltR] [iH SltR] [dQ Bal] [iH Bal] [dQ Ledg] [iH Ledg] [dQ Leg] [iH Leg] [dQ Acc] [iH Acc] [dQ AccR] [iH AccR] [dQ AccsR] [iH AccsR] [dQ SltsR] [iH SltsR]
theorem fUl (x:Value) (d:Acc) (c s:Int) (w:World) (hx:accR.V w x d) (hid:idOk c s=true) (hw:∀k,k<d.slots.length→(d.slots.getD k default).cast.length≤1048576) :
  Calls Tryz.prog 69 #[x,.int .i64 c,.int .i64 s] w fun e w'=>∃v F,e =.returned v∧sltR.O w' w.heap.size F v (qL d.slots (freS c s))∧Below w.heap.size w w':=by
 obtain⟨u1,rfl,hx⟩:=hx;obtain⟨xs⟩:=d;dsimp only at hx hw ⊢;obtain⟨au,cu,rfl,hcx,hmx,hx⟩:=hx;unfold maxLen at hmx;have hXs:Hid (∀k,k<xs.length→∃b o p q,au=some ⟨b,o,none⟩∧(w.cell? ⟨b,o+k*6,none⟩=some (.int .i64 (xs.getD k default).con)∧w.cell? ⟨b,o+k*6+1,none⟩=some (.int .i64 (xs.getD k default).sh)∧w.cell? ⟨b,o+k*6+2,none⟩=some (.int .i64 (xs.getD k default).pr)∧w.cell? ⟨b,o+k*6+3,none⟩=some (.int .i64 (xs.getD k default).lb)∧w.cell? ⟨b,o+k*6+4,none⟩=some (.int .i64 (xs.getD k default).lv)∧w.cell? ⟨b,o+k*6+5,none⟩=some (.slice p (xs.getD k default).cast.length q))∧sltR.V w (.agg #[.int .i64 (xs.getD k default).con,.int .i64 (xs.getD k default).sh,.int .i64 (xs.getD k default).pr,.int .i64 (xs.getD k default).lb,.int .i64 (xs.getD k default).lv,.slice p (xs.getD k default).cast.length q]) (xs.getD k default)):=fun k hk=>fL8 hx hk
 have HW:Hid (∀k,k<xs.length→(xs.getD k default).cast.length≤1048576):=hw;have HNew:Hid (∀W,Calls Tryz.prog 136 #[.int .i64 c,.int .i64 s] W (NewE c s W)):=fun W=>fQf c s W hid
 clear hx hw hid;obtain⟨n,hn'⟩:∃n,n=xs.length:=⟨_,rfl⟩
 have HN:Hid (xs.length=n):=hn'.symm;rw[←hn'] at hcx hXs HW ⊢;clear hn';go_enter Tryz.func69,Tryz.ntmps69;go_wp2;go_loopw [7] (fun i w'=>∃k:Nat,k≤n∧i =.int .i64 k∧Hid (∀j,j<k→xA (xs.getD j default) (freS c s)=false)∧Hid (w'=(w.alloc (.cells #[.slice au n cu] 139)).alloc (.cells #[.int .i64 0,.int .i64 0,.int .i64 0,.int .i64 0,.int .i64 0,.slice none 0 0] 136))) (fun i _=>n-(intOf i).toNat)
 case atStart=>exact⟨0,oM,rfl,fun j h=>absurd h oM,rfl⟩
 obtain⟨k,hk,rfl,HP,HWR⟩:=hrel;have hbl:Below w.heap.size w wr:=by rw[HWR.out];(repeat (first|exact bR _ _|assumption|refine bD ?_|refine bA ?_ _|refine bset ?_ (by simp;omega) _|refine bset ?_ (by simp) _|refine bS ?_ (by assumption)))
 have y0:wr.cell? ⟨w.heap.size,0,none⟩=some (.slice au n cu):=by rw[HWR.out];simp[go_sem]
 have r0:wr.cell? ⟨w.heap.size+1,0,none⟩=some (.int .i64 0):=by rw[HWR.out];simp[go_sem]
 have r1:wr.cell? ⟨w.heap.size+1,1,none⟩=some (.int .i64 0):=by rw[HWR.out];simp[go_sem]
 have r2:wr.cell? ⟨w.heap.size+1,2,none⟩=some (.int .i64 0):=by rw[HWR.out];simp[go_sem]
 have r3:wr.cell? ⟨w.heap.size+1,3,none⟩=some (.int .i64 0):=by rw[HWR.out];simp[go_sem]
 have r4:wr.cell? ⟨w.heap.size+1,4,none⟩=some (.int .i64 0):=by rw[HWR.out];simp[go_sem]
 have r5:wr.cell? ⟨w.heap.size+1,5,none⟩=some (.slice none 0 0):=by rw[HWR.out];simp[go_sem]
 have rf:∀o,wr.frozen? ⟨w.heap.size+1,o,none⟩=false:=fun o=>by rw[HWR.out];simp[go_sem]
 have zy:w.heap.size+1<wr.heap.size:=wL wr _ r0;by_cases hlt:k<n
 ·
  obtain⟨b,o,pp,qq,rfl,hc,hV⟩:=hXs.out k hlt;have hcw:=HW.out k hlt;obtain⟨l,hl⟩:∃l,l=xs.getD k default:=⟨_,rfl⟩
  rw[←hl] at hc hV hcw;have HL:Hid (l=xs.getD k default):=hl;clear hl;obtain⟨g0,g1,g2,g3,g4,g5⟩:=(yG hbl hc hc).2.1;clear hc;have zb:b<wr.heap.size:=wL wr _ g0;by_cases m1:l.con=c
  ·
   by_cases m2:l.sh=s
   ·
    have f1:(l.con==c)=true:=by simp[m1]
    have f2:(l.sh==s)=true:=by simp[m2]
    have HS:Hid (qL xs (freS c s)=l):=by
     show _=_;rw[HL.out];exact fGv (by rw[HN.out];exact hlt) HP.out (sameS_iff.2 (by rw[←HL.out];exact⟨m1,m2⟩))
    have HCp:Hid (bW w fun W=>Calls Tryz.prog 135 #[.agg #[.int .i64 l.con,.int .i64 l.sh,.int .i64 l.pr,.int .i64 l.lb,.int .i64 l.lv,.slice pp l.cast.length qq]] W fun e w'=>∃v F,e =.returned v∧sltR.O w' W.heap.size F v l∧Below W.heap.size W w'):=fun W hW=>fUk _ l W (sltR.below hV hW) hcw
    clear m1 m2 hV;go_wp2_with fail;refine(HCp.out _ qBq).mono ?_;rintro e w2 ⟨v2,F2,rfl,o2,hb2⟩;have hB2:Below w.heap.size w w2:=bS hbl hb2;have hz2:=hb2.size;obtain⟨a2,c2,rfl,_⟩:=xQ o2;replace r0:=cK hb2 r0;replace r1:=cK hb2 r1;replace r2:=cK hb2 r2;replace r3:=cK hb2 r3;replace r4:=cK hb2 r4;replace r5:=cK hb2 r5;replace rf:∀o,w2.frozen? ⟨w.heap.size+1,o,none⟩=false:=fun o=>by rw[(bcell hb2).2 _ _ oM];exact rf o
    replace o2:=sltR.base (base':=w.heap.size+2) o2 oM;clear hb2 HCp;go_wp2;refine bodyPost_ret (v:=.agg #[.int .i64 l.con,.int .i64 l.sh,.int .i64 l.pr,.int .i64 l.lb,.int .i64 l.lv,.slice a2 l.cast.length c2]) ?_ rfl ⟨_,F2,rfl,by rw[HS.out];exact sltR.base (base:=w.heap.size+2) (by(repeat (first|refine Rep.set _ ?_ _ (by simp;omega)|refine Rep.set _ ?_ _ (by simp)|refine Rep.alloc _ ?_ _|assumption))) oM,qS⟩;simp[results,Tryz.results69,go_sem,r0,r1,r2,r3,r4,r5,rf]
   have f1:(l.con==c)=true:=by simp[m1]
   have f2:(l.sh==s)=false:=by simp[m2]
   have HP2:Hid (∀j,j<k+1→xA (xs.getD j default) (freS c s)=false):=fun j hj=>by
    by_cases e:j=k
    ·subst e;rw[←HL.out];simp[xA,freS,m2]
    exact HP.out j oM
   clear m1 m2 hV;go_wp2;refine⟨⟨k+1,by omega,by go_num,HP2,HWR⟩,mI⟩
  have f1:(l.con==c)=false:=by simp[m1]
  have HP2:Hid (∀j,j<k+1→xA (xs.getD j default) (freS c s)=false):=fun j hj=>by
   by_cases e:j=k
   ·subst e;rw[←HL.out];simp[xA,freS,m1]
   exact HP.out j oM
  clear m1 hV;go_wp2;refine⟨⟨k+1,by omega,by go_num,HP2,HWR⟩,mI⟩
 have hkn:k=n:=oM;subst hkn;have HS:Hid (qL xs (freS c s)=freS c s):=fFa (fun j hj=>HP.out j (by rw[←HN.out];exact hj));go_wp2_with fail;refine(HNew.out _).mono ?_;rintro e w2 ⟨a2,c2,F3,rfl,o3,hb2⟩;have hB2:Below w.heap.size w w2:=bS hbl hb2;have hz2:=hb2.size;replace r0:=cK hb2 r0;replace r1:=cK hb2 r1;replace r2:=cK hb2 r2;replace r3:=cK hb2 r3;replace r4:=cK hb2 r4;replace r5:=cK hb2 r5;replace rf:∀o,w2.frozen? ⟨w.heap.size+1,o,none⟩=false:=fun o=>by rw[(bcell hb2).2 _ _ oM];exact rf o
 replace o3:=sltR.base (base':=w.heap.size+2) o3 oM;clear hb2 HNew;have hfd:=fJj;go_wp2;refine bodyPost_ret (v:=.agg #[.int .i64 c,.int .i64 s,.int .i64 (-1),.int .i64 (-1),.int .i64 0,.slice a2 0 c2]) ?_ rfl ⟨_,F3,rfl,by rw[HS.out];exact sltR.base (base:=w.heap.size+2) (by(repeat (first|refine Rep.set _ ?_ _ (by simp;omega)|refine Rep.set _ ?_ _ (by simp)|refine Rep.alloc _ ?_ _|assumption))) oM,qS⟩;simp[results,Tryz.results69,go_sem,r0,r1,r2,r3,r4,r5,rf]
theorem fIz (x:Value) (l:List Acc) (c s:Int) (w:World) (hx:accsR.V w x l) (hl:ListOk l) (hid:idOk c s=true) :
  Calls Tryz.prog 23 #[x,.int .i64 c,.int .i64 s] w fun e w'=>∃v F,e =.returned v∧sltsR.O w' w.heap.size F v (fQ l c s)∧Below w.heap.size w w':=by
 obtain⟨a,cx,rfl,hcx,hmx,hx⟩:=fFm hx;unfold maxLen at hmx;have hXs:Hid (∀k,k<l.length→∃b o p q,a=some ⟨b,o,none⟩∧w.cell? ⟨b,o+k,none⟩=some (.slice p (l.getD k default).slots.length q)∧accR.V w (.agg #[.slice p (l.getD k default).slots.length q]) (l.getD k default)):=hx;have HOk:Hid (∀k,k<l.length→AccOk (l.getD k default).slots):=fun k hk=>fHh hl hk
 have HID:Hid (idOk c s=true):=hid;have hn5:=hl.hi;clear hx hl hid;obtain⟨n,hn'⟩:∃n,n=l.length:=⟨_,rfl⟩
 have HN:Hid (l.length=n):=hn'.symm;rw[←hn'] at hcx hXs HOk hn5 ⊢;clear hn';have hs0:∃a c' F,(Value.slice (some ⟨w.heap.size,0,none⟩) 0 0) =.slice a 0 c'∧sltsR.O (w.alloc (.cells #[] 136)) w.heap.size F (.slice a 0 c') ((fQ l c s).take 0):=⟨_,_,_,rfl,fVj w⟩
 go_enter Tryz.func23,Tryz.ntmps23;go_wp2;go_loopw [7,8] (fun t i w'=>∃k:Nat,k≤n∧i =.int .i64 k∧(∃a c' F,t =.slice a k c'∧sltsR.O w' w.heap.size F (.slice a k c') ((fQ l c s).take k))∧Below w.heap.size w w') (fun t i _=>n-(intOf i).toNat)
 case atStart=>exact⟨0,oM,rfl,hs0,qBq⟩
 clear hs0;obtain⟨k,hk,rfl,⟨as_,cs_,F,rfl,ho⟩,hbl⟩:=hrel;have HO:Hid (sltsR.O wr w.heap.size F (.slice as_ k cs_) ((fQ l c s).take k)):=ho;clear ho;have hwz:=hbl.size;by_cases hlt:k<n
 ·
  obtain⟨b,o,p,q,rfl,hc,hV⟩:=hXs.out k hlt;have hok:=HOk.out k hlt;have HL:Hid ((fQ l c s).take (k+1)=(fQ l c s).take k++[qL (l.getD k default).slots (freS c s)]):=fDi l c s (by rw[HN.out];exact hlt);have HB0:Hid (b<w.heap.size):=wL w _ hc;replace hc:=cK hbl hc;have zb:b<wr.heap.size:=wL wr _ hc;have HSl:Hid (bW w fun W=>Calls Tryz.prog 69 #[.agg #[.slice p (l.getD k default).slots.length q],.int .i64 c,.int .i64 s] W fun e w'=>∃v F,e =.returned v∧sltR.O w' W.heap.size F v (qL (l.getD k default).slots (freS c s))∧Below W.heap.size W w'):=fun W hW=>fUl _ _ c s W (accR.below hV hW) HID.out (fun j hj=>Nat.le_trans (fGw (hok.ok j hj)).len oM)
  clear hV hok;generalize qL (l.getD k default).slots (freS c s)=y at *;generalize (l.getD k default).slots.length=m at *;go_wp2_with fail;refine(HSl.out _ qBq).mono ?_;rintro e w2 ⟨v2,F2,rfl,o2,hb2⟩;obtain⟨a2,c2,rfl,_⟩:=xQ o2;have hB2:Below w.heap.size w w2:=bS hbl hb2;have hz2:=hb2.size;have HO2:Hid (sltsR.O w2 w.heap.size F (.slice as_ k cs_) ((fQ l c s).take k)):=sltsR.keep HO.out hb2;have HFl:Hid (∀b,F b→b<wr.heap.size):=fun b hb=>(sltsR.rng HO.out b hb).2
  have HF2:Hid (∀b,F2 b→wr.heap.size≤b):=fun b hb=>(sltR.rng o2 b hb).1
  have HU:Hid (sltR.O w2 w.heap.size F2 (.agg #[.int .i64 y.con,.int .i64 y.sh,.int .i64 y.pr,.int .i64 y.lb,.int .i64 y.lv,.slice a2 y.cast.length c2]) y):=sltR.base o2 hwz;clear hb2 o2 HSl HO hc;go_wp2_with (at_builtin;refine fN9 _ rfl _ _ rfl w.heap.size F F2 _ ((fQ l c s).take k) y w2.heap.size a2 c2 rfl rfl ?a1 ?a2 ?a3 ?a4 ?a5 ?a6 ?_)
  case a1=>exact sltsR.alloc HO2.out _
  case a2=>exact sltR.alloc HU.out _
  case a3=>exact fun b h1 h2=>by have:=HFl.out b h1;have:=HF2.out b h2;omega
  case a4=>simp[go_sem]
  case a5=>rw[List.length_take,pM,HN.out];omega
  case a6=>simp;omega
  intro v3 w3 F3 o3 hb3 _;rw[←HL.out] at o3;obtain⟨a3,c3,e3⟩:=pX (sltsR.ofO o3);rw[show((fQ l c s).take (k+1)).length=k+1 by rw[List.length_take,pM,HN.out];omega] at e3;subst e3;have o3':∃a c' F,(Value.slice a3 (k+1) c3) =.slice a (k+1) c'∧sltsR.O w3 w.heap.size F (.slice a (k+1) c') ((fQ l c s).take (k+1)):=⟨_,_,F3,rfl,o3⟩
  have hB4:Below w.heap.size w w3:=Below.trans (bA hB2 _) hb3;clear o3 hb3;go_wp2;exact⟨⟨k+1,by omega,by go_num,o3',hB4⟩,mI⟩
 have hkn:k=n:=oM;subst hkn;have ho:=HO.out;rw[List.take_of_length_le (by rw[pM,HN.out];exact Nat.le_refl _)] at ho;have HO2:Hid (sltsR.O wr w.heap.size F (.slice as_ k cs_) (fQ l c s)):=ho;clear ho HO;go_wp2;refine bodyPost_ret (v:=.slice as_ k cs_) (by simp[results,Tryz.results23,go_sem]) rfl ⟨_,F,rfl,HO2.out,hbl⟩
end
section
section
variable {P : Program} {ops : Array Oper} {Q : Exit → Act → World → Prop} {md : Region.Mode} {S : World → Prop} {t : Nat}
def Alive (L:List (Nat × Nat)) (cons:Nat→List Nat) (listed:Array Bool) (j:Nat):Prop:=listed.getD j true=true∧∀p ∈ L,listed.getD p.1 true=true→j ∉ cons p.1
def Taken (cons:Nat→List Nat) (Φ:Nat→Nat→Prop) (i b:Nat):Prop:=∃j ∈ cons i,Φ j b
def FIn (w0 w:World) (F:Nat→Prop):Prop:=∀b,F b→w0.heap.size≤b∧b<w.heap.size
def fEo (F F':Nat→Prop):Prop:=∀b,F b→¬F' b
def fXg (P:Program) (md:Region.Mode) (ops:Array Oper) (Q:Exit→Act→World→Prop) (S:World→Prop) (L:List (Nat × Nat)) (cons:Nat→List Nat) (G:Nat→(Nat→Value)→(Nat→Prop)→World→Prop) (a0:Act) (w0:World) (p:Nat × Nat):Prop:=
 ∃o,ops[p.1]? = some o∧o.dst=some p.2∧∀(y:Nat→Value) (w:World) (Φ:Nat→Nat→Prop),S w→Below w0.heap.size w0 w →
  (∀q ∈ L,waitsFor md ops p.1 q.1=true→(q.1 ∈ cons p.1∨∀r ∈ L,q.1 ∉ cons r.1)→FIn w0 w (Φ q.1)∧G q.1 y (Φ q.1) w) →
  ∀K:Act→World→Prop,(∀v w' F',Mod (Taken cons Φ p.1) w w'→(∀b,F' b→Taken cons Φ p.1 b∨(w.heap.size≤b∧b<w'.heap.size))→G p.1 (updV y p.2 v) F' w'→K ((over a0 (L.map Prod.snd) y).put (some p.2) v) w') →
   Shut (if Region.wanted o (yielded ops (over a0 (L.map Prod.snd) y).tmps)=true then Oper.wp P o (over a0 (L.map Prod.snd) y) w K Q else K ((over a0 (L.map Prod.snd) y).put o.dst undef) w)
theorem fS7 (L:List (Nat × Nat)) (cons:Nat→List Nat) (G:Nat→(Nat→Value)→(Nat→Prop)→World→Prop) {f:Nat} {listed:Array Bool} {a0:Act} {w0:World}
  (hrise:fNu md ops=true) (hsz:listed.size=ops.size) (hot:∃ot,ops[t]? = some ot)
  (hall:∀i,i<ops.size→listed.getD i true=false→i=t∨∃p ∈ L,p.1=i)
  (hun:listed.getD t true=false∧∀p ∈ L,listed.getD p.1 true=false)
  (hno:(L.map Prod.fst).Nodup) (hnd:(L.map Prod.snd).Nodup) (htl:∀p ∈ L,p.1≠t∧waitsFor md ops t p.1=true) (hf:f=L.length+1)
  (hcons:∀p ∈ L,∀j ∈ cons p.1,waitsFor md ops p.1 j=true∧∃q ∈ L,q.1=j) (huniq:∀p ∈ L,∀r ∈ L,p.1≠r.1→∀j ∈ cons p.1,j ∉ cons r.1)
  (hS:S w0) (hSst:∀(F:Nat→Prop) (w w':World),S w→Mod F w w'→(∀b,F b→w0.heap.size≤b)→S w')
  (hG:∀p ∈ L,∀(y y':Nat→Value) (F F':Nat→Prop) (w w':World),G p.1 y F w→FIn w0 w F→Mod F' w w'→fEo F' F→(∀b,F' b→w0.heap.size≤b)→y' p.2=y p.2→(∀q ∈ L,waitsFor md ops p.1 q.1=true→y' q.2=y q.2)→G p.1 y' F w')
  (hstep:∀p ∈ L,fXg P md ops Q S L cons G a0 w0 p)
  (hlast:∃o,ops[t]? = some o∧∀(y:Nat→Value) (w:World) (Φ:Nat→Nat→Prop),S w→Below w0.heap.size w0 w→(∀q ∈ L,(∀r ∈ L,q.1 ∉ cons r.1)→FIn w0 w (Φ q.1)∧G q.1 y (Φ q.1) w)→(∀q ∈ L,∀r ∈ L,q.1≠r.1→(∀p ∈ L,q.1 ∉ cons p.1)→(∀p ∈ L,r.1 ∉ cons p.1)→fEo (Φ q.1) (Φ r.1)) →
   ∀K:Act→World→Prop,(∀a' w',Q .normal a' w'→K a' w')→Shut (if Region.wanted o (yielded ops (over a0 (L.map Prod.snd) y).tmps)=true then Oper.wp P o (over a0 (L.map Prod.snd) y) w K Q else K ((over a0 (L.map Prod.snd) y).put o.dst undef) w)) :
  gI P md ops Q S t f listed a0 w0:=by
 have H:∀(n f:Nat) (listed:Array Bool) (y:Nat→Value) (w:World) (Φ:Nat→Nat→Prop),
   f=(L.filter fun p=>!listed.getD p.1 true).length+1→listed.size=ops.size→listed.getD t true=false →
   (∀i,i<ops.size→listed.getD i true=false→i=t∨∃p ∈ L,p.1=i) →
   (∀p ∈ L,listed.getD p.1 true=true→∀q ∈ L,waitsFor md ops p.1 q.1=true→listed.getD q.1 true=true) →
   S w→Below w0.heap.size w0 w→(∀q ∈ L,Alive L cons listed q.1→FIn w0 w (Φ q.1)∧G q.1 y (Φ q.1) w) →
   (∀q ∈ L,∀r ∈ L,q.1≠r.1→Alive L cons listed q.1→Alive L cons listed r.1→fEo (Φ q.1) (Φ r.1)) →
   f≤n→gI P md ops Q S t f listed (over a0 (L.map Prod.snd) y) w:=by
  intro n;induction n with
  | zero=>intro f listed y w Φ hf _ _ _ _ _ _ _ _ hn;omega
  | succ n ih=>
   intro f listed y w Φ hf hsz htun hall hdown hS hB hGs hAp hn;obtain⟨ot,hot⟩:=hot;have htlt:t<ops.size:=by
    rcases Nat.lt_or_ge t ops.size with h|h
    ·exact h
    rw[Array.getElem?_eq_none h] at hot;cases hot
   obtain⟨g,rfl⟩:∃g,f=g+1:=⟨_,hf⟩
   have hg:g=(L.filter fun p=>!listed.getD p.1 true).length:=oM;refine⟨fun h=>?_,fun i hi'=>?_⟩
   ·obtain⟨j,hj⟩:=fE8 hrise hsz (t+1) t oM htlt htun;rw[h] at hj;cases hj
   obtain⟨hiun,o,hio,hdeps⟩:=mem_ready.1 hi';have hilt:i<ops.size:=by
    rcases Nat.lt_or_ge i ops.size with h|h
    ·exact h
    rw[Array.getElem?_eq_none h] at hio;cases hio
   have hdep:∀k,k<ops.size→waitsFor md ops i k=true→listed.getD k true=true:=by
    intro k hk hw;unfold waitsFor at hw;rw[hio] at hw;obtain⟨e,he,hb⟩:=Array.any_eq_true'.1 hw;simp only[Bool.and_eq_true,beq_iff_eq] at hb;have h1:=hdeps e he hb.1;rw[hb.2] at h1;have hk':k<listed.size:=oM;simp[hk'] at h1 ⊢;exact h1
   have hLlt:∀p ∈ L,p.1<ops.size:=by
    intro p hp;obtain⟨o',ho',_⟩:=hstep p hp;rcases Nat.lt_or_ge p.1 ops.size with h|h
    ·exact h
    rw[Array.getElem?_eq_none h] at ho';cases ho'
   have key:∀K:Act→World→Prop,(if Region.wanted o (yielded ops (over a0 (L.map Prod.snd) y).tmps)=true then Oper.wp P o (over a0 (L.map Prod.snd) y) w K Q else K ((over a0 (L.map Prod.snd) y).put o.dst undef) w)→wpOp P ops Q i K (over a0 (L.map Prod.snd) y) w:=by
    intro K h1;unfold wpOp;simp only[hio];split
    ·rename_i hw;rw[if_pos hw] at h1;exact .inl h1
    rename_i hw;rw[if_neg hw] at h1;exact h1
   refine key _ ?_;by_cases hit:i=t
   ·
    subst hit;have hl:∀p ∈ L,listed.getD p.1 true=true:=fun p hp=>hdep p.1 (hLlt p hp) (htl p hp).2
    obtain⟨o2,ho2,hlst⟩:=hlast;rw[hio] at ho2;cases ho2;refine(hlst y w Φ hS hB (fun q hq hc=>hGs q hq ⟨hl q hq,fun p hp _=>hc p hp⟩) (fun q hq r hr hne h1 h2=>hAp q hq r hr hne ⟨hl q hq,fun p hp _=>h1 p hp⟩ ⟨hl r hr,fun p hp _=>h2 p hp⟩) _ (fun a' w' hq=>⟨fun h=>absurd rfl h,fAv ?_ hq⟩)).out;rw[List.eq_nil_iff_forall_not_mem];intro j hj;obtain⟨hjun,oj,hjo,_⟩:=mem_ready.1 hj;have hjl:j<ops.size:=by
     rcases Nat.lt_or_ge j ops.size with h|h
     ·exact h
     rw[Array.getElem?_eq_none h] at hjo;cases hjo
    by_cases hji:i=j
    ·subst hji;have hk':i<listed.size:=oM;simp[hk'] at hjun
    rw[getD_set_ne true hji] at hjun;rcases hall j hjl hjun with h|⟨p,hp,h⟩
    ·exact hji h.symm
    rw[←h,hl p hp] at hjun;cases hjun
   obtain⟨p,hp,hpi⟩:=(hall i hilt hiun).resolve_left hit;subst hpi;obtain⟨o',ho',hdst,hst⟩:=hstep p hp;rw[hio] at ho';cases ho';have hcal:∀q ∈ L,q.1 ∈ cons p.1→Alive L cons listed q.1:=fun q hq hc=>⟨hdep q.1 (hLlt q hq) (hcons p hp _ hc).1,fun r hr hrl hcr=>by
    by_cases e:r.1=p.1
    ·rw[e,hiun] at hrl;cases hrl
    exact huniq p hp r hr (Ne.symm e) q.1 hc hcr⟩
   refine(hst y w Φ hS hB (fun q hq hw hc=>?_) _ (fun v w' F' hm hF' hGp=>⟨fun _=>hSst _ _ _ hS hm ?_,?_⟩)).out
   ·
    rcases hc with hc|hc
    ·exact hGs q hq (hcal q hq hc)
    exact hGs q hq ⟨hdep q.1 (hLlt q hq) hw,fun r hr _=>hc r hr⟩
   ·rintro b ⟨j,hj,hb⟩;obtain⟨_,q,hq,rfl⟩:=hcons p hp j hj;exact((hGs q hq (hcal q hq hj)).1 b hb).1
   have hTk:∀b,Taken cons Φ p.1 b→w0.heap.size≤b∧b<w.heap.size:=by
    rintro b ⟨j,hj,hb⟩;obtain⟨_,q,hq,rfl⟩:=hcons p hp j hj;exact(hGs q hq (hcal q hq hj)).1 b hb
   rw[fNt (List.mem_map_of_mem hp) hnd];have hlt:p.1<listed.size:=oM;have hself':(listed.setIfInBounds p.1 true).getD p.1 true=true:=by simp[hlt]
   have hoth:∀j,p.1≠j→(listed.setIfInBounds p.1 true).getD j true=listed.getD j true:=fun j h=>getD_set_ne true h
   have hinj:∀q ∈ L,q.1=p.1→q=p:=fun q hq h=>fLj L hno q hq p hp h
   have hinj2:∀q ∈ L,q.2=p.2→q=p:=fun q hq h=>fLk L hnd q hq p hp h
   have hback:∀q ∈ L,q.1≠p.1→Alive L cons (listed.setIfInBounds p.1 true) q.1→Alive L cons listed q.1∧q.1 ∉ cons p.1:=fun q hq e ha=>by
    refine⟨⟨by rw[←hoth _ (Ne.symm e)];exact ha.1,fun r hr hrl=>?_⟩,ha.2 p hp hself'⟩;by_cases e2:r.1=p.1
    ·rw[e2,hiun] at hrl;cases hrl
    exact ha.2 r hr (by rw[hoth _ (Ne.symm e2)];exact hrl)
   have hTq:∀q ∈ L,Alive L cons listed q.1→q.1 ∉ cons p.1→fEo (Taken cons Φ p.1) (Φ q.1):=by
    rintro q hq ha hn b ⟨j,hj,hb⟩;obtain⟨_,r,hr,rfl⟩:=hcons p hp j hj;exact hAp r hr q hq (fun e=>hn (e▸hj)) (hcal r hr hj) ha b hb
   refine ih g (listed.setIfInBounds p.1 true) (updV y p.2 v) w' (fun j=>if j=p.1 then F' else Φ j) ?_ (by simpa using hsz) ?_ ?_ ?_ (hSst _ _ _ hS hm (fun b hb=>(hTk b hb).1)) (hm.below hB hB.size (fun b hb=>(hTk b hb).1)) ?_ ?_ oM
   ·rw[hg];refine yS hno hp (by rw[hiun];rfl) (by rw[hself'];rfl) (fun q hq hne=>?_);rw[hoth _ (fun c=>hne (hinj q hq c.symm))]
   ·rw[hoth _ (fun h=>hit h)];exact htun
   ·
    intro j hj hju;by_cases e:p.1=j
    ·subst e;rw[hself'] at hju;cases hju
    rw[hoth _ e] at hju;exact hall j hj hju
   ·
    intro q hq hql r hr hw;by_cases e:p.1=r.1
    ·rw[←e];exact hself'
    rw[hoth _ e];by_cases e2:p.1=q.1
    ·rw[←e2] at hw;exact hdep r.1 (hLlt r hr) hw
    rw[hoth _ e2] at hql;exact hdown q hq hql r hr hw
   ·
    intro q hq ha;by_cases e:q.1=p.1
    ·
     have e2:=hinj q hq e;subst e2;simp only[if_true];refine⟨fun b hb=>?_,hGp⟩;rcases hF' b hb with h|h
     ·have:=hTk b h;have:=hm.size;omega
     have:=hB.size;omega
    obtain⟨h1,h2⟩:=hback q hq e ha;simp only[if_neg e];obtain⟨g1,g2⟩:=hGs q hq h1;refine⟨fun b hb=>⟨(g1 b hb).1,Nat.lt_of_lt_of_le (g1 b hb).2 hm.size⟩,hG q hq y (updV y p.2 v) _ _ w w' g2 g1 hm (hTq q hq h1 h2) (fun b hb=>(hTk b hb).1) ?_ ?_⟩
    ·exact if_neg (fun c=>e (by rw[hinj2 q hq c]))
    intro r hr hw;refine if_neg (fun c=>?_);have e3:=hinj2 r hr c;subst e3;rw[hdown q hq h1.1 _ hr hw] at hiun;cases hiun
   intro q hq r hr hne hqa hra;by_cases e:q.1=p.1
   ·
    have e':r.1≠p.1:=fun c=>hne (e.trans c.symm)
    obtain⟨h1,h2⟩:=hback r hr e' hra;simp only[if_pos e,if_neg e'];intro b hb hb2;rcases hF' b hb with h|h
    ·exact hTq r hr h1 h2 b h hb2
    have:=((hGs r hr h1).1 b hb2).2;omega
   obtain⟨h1,h2⟩:=hback q hq e hqa;by_cases e':r.1=p.1
   ·
    simp only[if_neg e,if_pos e'];intro b hb hb2;rcases hF' b hb2 with h|h
    ·exact hTq q hq h1 h2 b h hb
    have:=((hGs q hq h1).1 b hb).2;omega
   obtain⟨h3,_⟩:=hback r hr e' hra;simp only[if_neg e,if_neg e'];exact hAp q hq r hr hne h1 h3
 have h0:=H f f listed (fun s=>a0.tmps.getD s undef) w0 (fun _ _=>False) (by
  rw[hf,List.filter_eq_self.2 (fun p hp=>by rw[hun.2 p hp];rfl)]) hsz hun.1 hall (fun p hp h=>by rw[hun.2 p hp] at h;cases h) hS (bR _ _) (fun q hq h=>by have h:=h.1;rw[hun.2 q hq] at h;cases h) (fun q hq r hr hne h=>by have h:=h.1;rw[hun.2 q hq] at h;cases h) (Nat.le_refl _)
 rw[over_self] at h0;exact h0
def fVy (md:Region.Mode) (ops:Array Oper) (listed:Array Bool) (t f:Nat) (L:List (Nat × Nat)) (cons:Nat→List Nat):Bool:=
 fM4 md ops listed t f L&&(L.all fun p=>(cons p.1).all fun j=>waitsFor md ops p.1 j&&L.any fun q=>decide (q.1=j))&&(L.all fun p=>L.all fun r=>decide (p.1=r.1)||(cons p.1).all fun j=>decide (j ∉ cons r.1))
theorem fBf (L:List (Nat × Nat)) (cons:Nat→List Nat) (G:Nat→(Nat→Value)→(Nat→Prop)→World→Prop) {f:Nat} {listed:Array Bool} {a0:Act} {w0:World} (hc:fVy md ops listed t f L cons=true)
  (hS:S w0) (hSst:∀(F:Nat→Prop) (w w':World),S w→Mod F w w'→(∀b,F b→w0.heap.size≤b)→S w')
  (hG:∀p ∈ L,∀(y y':Nat→Value) (F F':Nat→Prop) (w w':World),G p.1 y F w→FIn w0 w F→Mod F' w w'→fEo F' F→(∀b,F' b→w0.heap.size≤b)→y' p.2=y p.2→(∀q ∈ L,waitsFor md ops p.1 q.1=true→y' q.2=y q.2)→G p.1 y' F w')
  (hstep:∀p ∈ L,fXg P md ops Q S L cons G a0 w0 p)
  (hlast:∃o,ops[t]? = some o∧∀(y:Nat→Value) (w:World) (Φ:Nat→Nat→Prop),S w→Below w0.heap.size w0 w→(∀q ∈ L,(∀r ∈ L,q.1 ∉ cons r.1)→FIn w0 w (Φ q.1)∧G q.1 y (Φ q.1) w)→(∀q ∈ L,∀r ∈ L,q.1≠r.1→(∀p ∈ L,q.1 ∉ cons p.1)→(∀p ∈ L,r.1 ∉ cons p.1)→fEo (Φ q.1) (Φ r.1)) →
   ∀K:Act→World→Prop,(∀a' w',Q .normal a' w'→K a' w')→Shut (if Region.wanted o (yielded ops (over a0 (L.map Prod.snd) y).tmps)=true then Oper.wp P o (over a0 (L.map Prod.snd) y) w K Q else K ((over a0 (L.map Prod.snd) y).put o.dst undef) w)) :
  gI P md ops Q S t f listed a0 w0:=by
 unfold fVy fM4 at hc;simp only[Bool.and_eq_true,decide_eq_true_eq,List.all_eq_true,List.any_eq_true,Bool.or_eq_true,Bool.not_eq_true',List.mem_range] at hc;obtain⟨⟨⟨⟨⟨⟨⟨⟨⟨⟨⟨h1,h2⟩,h3⟩,h4⟩,h5⟩,h6⟩,h7⟩,h8⟩,h9⟩,h10⟩,h11⟩,h13⟩:=hc;refine fS7 L cons G h1 h2 (Option.isSome_iff_exists.1 h3) (fun i hi hu=>?_) ⟨h5,h6⟩ h7 h8 h9 h10 h11 (fun p hp r hr hne=>(h13 p hp r hr).resolve_left hne) hS hSst hG hstep hlast;rcases h4 i hi with (h|h)|h
 ·rw[hu] at h;cases h
 ·exact .inl h
 exact .inr h
end
variable [dQ Vot] [iH Vot] [dQ Slt] [iH Slt] [dQ SltR] [iH SltR] [dQ Bal] [iH Bal] [dQ Ledg] [iH Ledg] [dQ Leg] [iH Leg]
theorem qW (Y:World) {ops:Array Oper} {o:Oper} {a:Act} {K:Act→World→Prop} {Q:Exit→Act→World→Prop} {E:Prop} (hgd:o.guard=none) (s x:Operand)
  (ho:o.op =.call {callee:=.builtin .append,args:=#[s,x],argTypes:=#[133,133]})
  (base:Nat) (v:Value) (F1:Nat→Prop) (xs:List Vot) (hs:a.eval s=v) (u:Value) (ys:List Vot) (hx:a.eval x=u)
  (hown:votsR.O Y base F1 v xs) (hsrc:pQ Y u ys.length (kJ ys)) (hlen:xs.length+ys.length≤1048576) (hbase:base≤Y.heap.size)
  (h:∀v' w',votsR.O w' base (fun b=>v'.ownBlock=some b) v' (xs++ys)→Mod F1 Y w'→(∀b,v'.ownBlock=some b→F1 b∨(Y.heap.size≤b∧b<w'.heap.size))→K (a.put o.dst v') w') :
  if Region.wanted o (yielded ops a.tmps)=true then Oper.wp Tryz.prog o a Y K Q else E:=by
 obtain⟨i0,hi,hz0,hz1,hz2⟩:=info_parts fLi;have hF1:F1=fun b=>v.ownBlock=some b:=hown.2
 rcases hsrc with ⟨c,rfl,hm,_⟩|⟨ad,c,rfl,hc⟩
 ·
  have hy:ys=[]:=List.eq_nil_of_length_eq_zero hm;subst hy;have hw:Region.wanted o (yielded ops a.tmps)=true:=by simp[Region.wanted,hgd]
  rw[if_pos hw];have hr:=uE (P:=Tryz.prog) Y base 133 o.type 126 i0 2 c Tryz.underlying133 hi v xs.length (kJ xs) hown.1;unfold Oper.wp execOp;simp only[ho,resolve,invoke,builtin,Sem.run_bind,Sem.run_pure,Result.andThen_ok,List.map_toArray,List.map_cons,List.map_nil,hs,hx,hr];refine h v Y ?_ (Mod.refl _ _) (fun b hb=>.inl (by rw[hF1];exact hb));rw[List.append_nil];exact⟨hown.1,rfl⟩
 refine fEe Y hgd s x 133 ho base 126 i0 _ 2 16 Tryz.underlying133 hi hz0 hz1 hz2 rfl (by decide) v xs.length (kJ xs) hs hown.1 ad ys.length c (kJ ys) hx (rU ys) hc (fKi ys) (by unfold maxLen;omega) oM hbase ?_;intro v' w' h1 h2 h3;refine h v' w' ⟨by rw[List.length_append,fKh];exact h1,rfl⟩ (by rw[hF1];exact Mod.of_grown h2) (fun b hb=>?_);rcases h3 with h3|h3
 ·exact .inl (by rw[hF1];exact h3▸hb)
 rw[h3] at hb;simp only[Option.some.injEq] at hb;have:=(h1.lt b (by rw[h3,hb])).2;exact .inr ⟨oM,this⟩
theorem zA {w:World} {base e size:Nat} {v:Value} {n:Nat} {cs:List Value} (h:w.ownsRow base e size v n cs):pQ w v n cs:=by
 rcases h.2 with ⟨rfl,rfl⟩|⟨g,cap,cur,rfl,_,hh,_,_,_,ht⟩
 ·refine .inl ⟨0,rfl,rfl,?_⟩;have:=h.1;simp at this;exact this
 refine .inr ⟨_,_,rfl,fun j x hj=>?_⟩;have hlt:j<cs.length:=by
  rcases Nat.lt_or_ge j cs.length with h|h
  ·exact h
  rw[List.getElem?_eq_none h] at hj;cases hj
 have hc:=h.cellAt j (by rw[←h.1];exact hlt);have e:(⟨g,0,none⟩:Addr).add j=⟨g,j,none⟩:=by
  by_cases hj0:j=0
  ·subst hj0;simp[Addr.add]
  simp[Addr.add,hj0]
 rw[e];simpa [hj] using hc
theorem pO {w:World} {base g cap:Nat} {ys:List Vot} (h:w.ownsRow base 126 2 (.slice (some ⟨g,0,none⟩) ys.length cap) ys.length (kJ ys)) (i m:Nat) (hi:i+m≤ys.length) (c:Nat) :
  pQ w (.slice (some ⟨g,i*2,none⟩) m c) m (kJ ((ys.drop i).take m)):=by
 refine .inr ⟨_,_,rfl,fun j x hj=>?_⟩;have hadd:(⟨g,i*2,none⟩:Addr).add j=⟨g,i*2+j,none⟩:=by
  by_cases hj0:j=0
  ·subst hj0;simp[Addr.add]
  simp[Addr.add,hj0]
 have hlen:((ys.drop i).take m).length=m:=by rw[List.length_take,List.length_drop];omega
 have hjl:j<m*2:=by
  have:=(List.getElem?_eq_some_iff.1 hj).1;rw[rU,hlen] at this;exact this
 rw[hadd,h.cellAt (i*2+j) oM];have hq:j / 2<m:=oM;obtain⟨q0,q1⟩:=uC ((ys.drop i).take m) (j / 2) (by rw[hlen];exact hq);obtain⟨r0,r1⟩:=uC ys (i+j / 2) oM;have e:((ys.drop i).take m).getD (j / 2) default=ys.getD (i+j / 2) default:=by
  simp[List.getD,List.getElem?_take,hq,List.getElem?_drop]
 rw[e] at q0 q1;have hm:j % 2=0∨j % 2=1:=oM;rcases hm with hm|hm
 ·rw[show i*2+j=(i+j / 2)*2 by omega,r0];rw[show j=j / 2*2 by omega,q0] at hj;exact hj
 rw[show i*2+j=(i+j / 2)*2+1 by omega,r1];rw[show j=j / 2*2+1 by omega,q1] at hj;exact hj
theorem fW6 {ys:List Vot} (h:Rise ys) {i j:Nat} (hij:i<j) (hj:j<ys.length):(ys.getD i default).bal<(ys.getD j default).bal:=by
 have:=List.pairwise_iff_getElem.1 h i j oM hj hij;simpa [List.getD,hj,show i<ys.length by omega] using this
theorem fGf {ys:List Vot} (a:Nat) (v u:Vot):u ∈ ys.take a++[v]++ys.drop a↔u=v∨u ∈ ys:=by
 have e:u ∈ ys↔u ∈ ys.take a∨u ∈ ys.drop a:=by
  rw[←List.mem_append,List.take_append_drop]
 rw[e];simp only[List.mem_append,List.mem_singleton];constructor
 ·
  rintro((h|h)|h)
  ·exact .inr (.inl h)
  ·exact .inl h
  exact .inr (.inr h)
 rintro(h|h|h)
 ·exact .inl (.inr h)
 ·exact .inl (.inl h)
 exact .inr h
theorem fU9 {ys:List Vot} (h:Rise ys) {a:Nat} {v:Vot} (ha:a≤ys.length) (h1:∀t,t<a→(ys.getD t default).bal<v.bal) (h2:a<ys.length→v.bal<(ys.getD a default).bal):Rise (ys.take a++[v]++ys.drop a):=by
 have hA:∀u ∈ ys.take a,u.bal<v.bal:=by
  intro u hu;obtain⟨i,hi,e⟩:=List.getElem_of_mem hu;rw[List.length_take] at hi;have:=h1 i oM;have e2:ys.getD i default=u:=by
   rw[←e];simp[List.getD,show i<ys.length by omega]
  rw[e2] at this;exact this
 have hD:∀u ∈ ys.drop a,v.bal<u.bal:=by
  intro u hu;obtain⟨i,hi,e⟩:=List.getElem_of_mem hu;rw[List.length_drop] at hi;have e2:ys.getD (a+i) default=u:=by
   rw[←e];simp[List.getD,show a+i<ys.length by omega]
  have h3:=h2 oM;by_cases hi0:i=0
  ·subst hi0;rw[Nat.add_zero] at e2;rw[e2] at h3;exact h3
  have:=fW6 h (show a<a+i by omega) oM;rw[e2] at this;omega
 unfold Rise;rw[List.append_assoc,List.pairwise_append];refine⟨List.Pairwise.sublist (List.take_sublist _ _) h,?_,fun x hx y hy=>?_⟩
 ·rw[List.singleton_append,List.pairwise_cons];exact⟨hD,List.Pairwise.sublist (List.drop_sublist _ _) h⟩
 rw[List.singleton_append,List.mem_cons] at hy;rcases hy with rfl|hy
 ·exact hA x hx
 have:=hA x hx;have:=hD y hy;omega
end
section
variable [dQ Vot] [iH Vot] [dQ Slt] [iH Slt] [dQ SltR] [iH SltR] [dQ Bal] [iH Bal] [dQ Ledg] [iH Ledg] [dQ Leg] [iH Leg]
theorem fPt (x:Value) (d:Slt) (v:Vot) (w:World) (hx:sltR.V w x d) :
  RI 133 #[x,.agg #[.int .i64 v.bal,.int .i64 v.val]] w (.bool (hasV d v)):=by
 obtain⟨u1,rfl,hx⟩:=hx;obtain⟨ax,cx,rfl,hcx,hmx,hx⟩:=hx;unfold maxLen at hmx;obtain⟨xs,hxs⟩:∃xs,xs=d.cast:=⟨_,rfl⟩
 have HXS:Hid (d.cast=xs):=hxs.symm;rw[←hxs] at hcx hx ⊢;clear hxs;obtain⟨n,hn'⟩:∃n,n=xs.length:=⟨_,rfl⟩
 have HN:Hid (xs.length=n):=hn'.symm;rw[←hn'] at hcx hx ⊢;clear hn';go_enter Tryz.func133,Tryz.ntmps133;go_wp2;go_loopw [5] (fun i w'=>∃k:Nat,k≤n∧i =.int .i64 k∧(∀t,t<k→¬xs.getD t default=v)∧w'.cell? ⟨w.heap.size,5,none⟩=some (.slice ax n cx)∧w'.cell? ⟨w.heap.size+1,0,none⟩=some (.int .i64 v.bal)∧w'.cell? ⟨w.heap.size+1,1,none⟩=some (.int .i64 v.val)∧Below w.heap.size w w') (fun i _=>n-(intOf i).toNat)
 case atStart=>exact⟨0,oM,rfl,fun t h=>absurd h oM,by simp[go_sem],sG,by simp[go_sem],qBq⟩
 obtain⟨k,hk,rfl,hno,c5,r0,r1,hbl⟩:=hrel;have HNo:Hid (∀t,t<k→¬xs.getD t default=v):=hno;clear hno;by_cases hlt:k<n
 ·
  obtain⟨bx,ox,rfl,g1⟩:=hx k hlt;obtain⟨l,hl⟩:∃l,l=xs.getD k default:=⟨_,rfl⟩
  rw[←hl] at g1;have HL:Hid (l=xs.getD k default):=hl;clear hl hx;obtain⟨a1,a2⟩:=gL hbl g1;clear g1;have zb:bx<wr.heap.size:=wL wr _ a1;have i1:(k:Int)<(n:Int):=oM;cases he:(decide (l.bal=v.bal)&&decide (l.val=v.val))
  ·
   have heq:∀w,(binOp .eql 126 (.agg #[.int .i64 l.bal,.int .i64 l.val]) (.agg #[.int .i64 v.bal,.int .i64 v.val])).run Tryz.prog w =.ok (.bool false) w:=fun w=>by rw[fM9,he]
   have HE:Hid (¬xs.getD k default=v):=fun h=>by rw[←HL.out] at h;rw[vot_eq.2 h] at he;cases he
   clear he;go_wp2;go_quiet (fail);go_wp2;refine⟨⟨k+1,by omega,by go_num,fun t ht=>?_,cK (fJ (bR _ _) _) c5,cK (fJ (bR _ _) _) r0,cK (fJ (bR _ _) _) r1,fJ hbl _⟩,mI⟩;by_cases h:t<k
   ·exact HNo.out t h
   have:t=k:=oM;subst this;exact HE.out
  have heq:∀w,(binOp .eql 126 (.agg #[.int .i64 l.bal,.int .i64 l.val]) (.agg #[.int .i64 v.bal,.int .i64 v.val])).run Tryz.prog w =.ok (.bool true) w:=fun w=>by rw[fM9,he]
  have HE:Hid (hasV d v=true):=hasV_iff.2 (by rw[←vot_eq.1 he,HL.out,HXS.out];exact fB8 (by rw[HN.out];exact hlt));clear he;go_wp2;go_quiet (fail);go_wp2;go_ret;exact⟨by rw[HE.out];rfl,fJ hbl _⟩
 have hkn:k=n:=oM;subst hkn;have HE:Hid (hasV d v=false):=by
  show _=_;cases e:hasV d v with
  | false=>rfl
  | true=>
   obtain⟨i,hi,h⟩:=qE (hasV_iff.1 e);rw[HXS.out] at hi h;exact absurd h (HNo.out i (by rw[←HN.out];exact hi))
 clear hx;go_wp2;go_ret;exact⟨by rw[HE.out];rfl,hbl⟩
end
section
variable [dQ Vot] [iH Vot] [dQ Slt] [iH Slt] [dQ SltR] [iH SltR] [dQ Bal] [iH Bal] [dQ Ledg] [iH Ledg] [dQ Leg] [iH Leg]
def ChE (D:List Slt) (w:World) (e:Ending) (w':World):Prop:=∃v ys,e =.returned v∧votsR.V w' v ys∧Chs D ys∧Below w.heap.size w w'
end
end Go.Proofs.YtbfnobcidnmohaaGreat

import Derived.Test.YtbfnobcidnmohaaGreatPrnSafeClusterLaw24
set_option maxHeartbeats 64000000
set_option maxRecDepth 20000
set_option linter.unusedSimpArgs false
set_option linter.unusedVariables false
set_option linter.unusedSectionVars false
namespace Go.Proofs.YtbfnobcidnmohaaGreat
open Go.RowKit
variable [dQ Leg] [iH Leg] [dQ Cont] [iH Cont] [dQ Bal] [iH Bal] [dQ Mrk] [iH Mrk] [dQ Shd] [iH Shd] [dQ Vot] [iH Vot] [dQ Slt] [iH Slt] [dQ Acc] [iH Acc] [dQ Trr] [iH Trr] [dQ Hrd] [iH Hrd] [dQ Ldr] [iH Ldr] [dQ Msg] [iH Msg] [dQ Clu] [iH Clu] [dQ Ledg] [iH Ledg] [dQ SltR] [iH SltR] [dQ AccR] [iH AccR] [dQ AccsR] [iH AccsR] [dQ SltsR] [iH SltsR] [dQ Rw] [iH Rw] [dQ LedgR] [iH LedgR] [dQ OutcR] [iH OutcR] [dQ ShdR] [iH ShdR]
attribute [local go_sem ↓] Go.wp_at_zero Go.wp_at_succ
theorem fUr {w:World} {a:Option Addr} {n c:Nat} {xs:List Mrk} (hx:mrksR.V w (.slice a n c) xs):xs.length=n∧n≤c∧c≤maxLen∧∀k,k<n→∃b o,a=some ⟨b,o,none⟩∧w.cell? ⟨b,o+k*2,none⟩=some (.int .i64 (xs.getD k default).con)∧w.cell? ⟨b,o+k*2+1,none⟩=some (.int .i64 (xs.getD k default).val):=by
 obtain⟨a',c',e,h1,h2,h3⟩:=hx;simp only[Value.slice.injEq] at e;obtain⟨rfl,rfl,rfl⟩:=e;exact⟨rfl,h1,h2,fun k hk=>h3 k hk⟩
theorem fPp {c:Clu} {s:Shd} {j:Nat} (hj:j<(s.votes++s.done).length) (h:hasL c ((s.votes++s.done).getD j default).con s.idx=false):qU c s=false:=by
 have hm:(s.votes++s.done).getD j default ∈ s.votes++s.done:=by simp only[List.getD,List.getElem?_eq_getElem hj,Option.getD_some];exact List.getElem_mem hj
 unfold qU strange;rw[List.mem_append] at hm;rcases hm with hm|hm
 ·rw[show s.votes.any (fun m=>!hasL c m.con s.idx)=true from List.any_eq_true.2 ⟨_,hm,by rw[h];rfl⟩];rfl
 rw[show s.done.any (fun m=>!hasL c m.con s.idx)=true from List.any_eq_true.2 ⟨_,hm,by rw[h];rfl⟩];simp
theorem fPo {c:Clu} {s:Shd} {j:Nat} (hj:j<s.held.length) (h:pG c (s.held.getD j default)=false):qU c s=false:=by
 have hm:s.held.getD j default ∈ s.held:=by simp only[List.getD,List.getElem?_eq_getElem hj,Option.getD_some];exact List.getElem_mem hj
 unfold qU xE;rw[show s.held.any (fun x=>!pG c x)=true from List.any_eq_true.2 ⟨_,hm,by rw[h];rfl⟩];simp
theorem fR1 {c:Clu} {s:Shd} (h1:∀j,j<(s.votes++s.done).length→hasL c ((s.votes++s.done).getD j default).con s.idx=true) (h2:∀j,j<s.held.length→pG c (s.held.getD j default)=true):qU c s=true:=by
 have g1:∀m,m ∈ s.votes++s.done→hasL c m.con s.idx=true:=by
  intro m hm;obtain⟨i,hi,rfl⟩:=List.getElem_of_mem hm;have:=h1 i hi;simpa only[List.getD,List.getElem?_eq_getElem hi,Option.getD_some] using this
 have g2:∀x,x ∈ s.held→pG c x=true:=by
  intro m hm;obtain⟨i,hi,rfl⟩:=List.getElem_of_mem hm;have:=h2 i hi;simpa only[List.getD,List.getElem?_eq_getElem hi,Option.getD_some] using this
 unfold qU strange xE;rw[show s.votes.any (fun m=>!hasL c m.con s.idx)=false from List.any_eq_false.2 (fun m hm=>by rw[g1 m (List.mem_append.2 (.inl hm))];simp)];rw[show s.done.any (fun m=>!hasL c m.con s.idx)=false from List.any_eq_false.2 (fun m hm=>by rw[g1 m (List.mem_append.2 (.inr hm))];simp)];rw[show s.held.any (fun x=>!pG c x)=false from List.any_eq_false.2 (fun m hm=>by rw[g2 m hm];simp)];rfl
theorem fL4 {w W:World} {B:Nat} {ix:Int} {p1 p2 p3 p4 p5:Option Addr} {l1 l2 l3 l4 l5 q1 q2 q3 q4 q5:Nat} (h:Below w.heap.size w W) (y:w.cell? ⟨B,0,none⟩=some (.int .i64 ix)∧w.cell? ⟨B,1,none⟩=some (.slice p1 l1 q1)∧w.cell? ⟨B,2,none⟩=some (.slice p2 l2 q2)∧w.cell? ⟨B,3,none⟩=some (.slice p3 l3 q3)∧w.cell? ⟨B,4,none⟩=some (.slice p4 l4 q4)∧w.cell? ⟨B,5,none⟩=some (.slice p5 l5 q5)):W.cell? ⟨B,0,none⟩=some (.int .i64 ix)∧W.cell? ⟨B,1,none⟩=some (.slice p1 l1 q1)∧W.cell? ⟨B,2,none⟩=some (.slice p2 l2 q2)∧W.cell? ⟨B,3,none⟩=some (.slice p3 l3 q3)∧W.cell? ⟨B,4,none⟩=some (.slice p4 l4 q4)∧W.cell? ⟨B,5,none⟩=some (.slice p5 l5 q5):=⟨cK h y.1,cK h y.2.1,cK h y.2.2.1,cK h y.2.2.2.1,cK h y.2.2.2.2.1,cK h y.2.2.2.2.2⟩
theorem fF8 (B:Nat) (c:Clu) (w:World) (h:CluB w B c) (hlen:∀k,k<c.cons.length→(c.cons.getD k default).legs.length≤1048576) (hsz:∀k,k<c.shards.length→(c.shards.getD k default).votes.length≤1048576∧(c.shards.getD k default).done.length≤1048576) :
  RI 62 #[.pointer (some ⟨B,0,none⟩)] w (.int .i64 (uX c)):=by
 have HHas:Hid (∀(a s:Int) W,Below w.heap.size w W→RI 120 #[.pointer (some ⟨B,0,none⟩),.int .i64 a,.int .i64 s] W (.bool (hasL c a s))):=fun a s W hW=>uR B c a s W ((h.below hW).p) hlen
 have HFi:Hid (∀(a:Int) W,Below w.heap.size w W→RI 45 #[.pointer (some ⟨B,0,none⟩),.int .i64 a] W (.int .i64 (tC c.cons a))):=fun a W hW=>vQ B c a W ((h.below hW).p)
 have HP:Hid (bW w fun W=>CluP W B c):=fun W hW=>(h.below hW).p
 obtain⟨a0,a1,a2,a3,a4,c0,c1,c2,c3,c4,n0,n1,n2,n3,n4,⟨y0,y1,y2,y3,y4⟩,hx⟩:=h;have hf:=vG hx;obtain⟨e0,e1,e2,e3,e4,L0,L1,L2,L3,L4⟩:=hf;obtain⟨u1,u2,u3,u4,u5,eq,h1,h2,h3,h4,h5⟩:=hx;simp only[Value.agg.injEq,Array.mk.injEq,List.cons.injEq,and_true] at eq;obtain⟨rfl,rfl,rfl,rfl,rfl⟩:=eq;have zB:B<w.heap.size:=wL w _ y0;obtain⟨_,hnc,hmc,HA⟩:=fGu h2;unfold maxLen at hmc;have HX:Hid _:=HA;obtain⟨hncc,hmcc,HAc⟩:=pE (by rw[e0];exact h1);unfold maxLen at hmcc;rw[e0] at HAc;have HXc:Hid _:=HAc;have E0:Hid (c.cons.length=n0):=e0;rw[e1] at hsz;have HSz:Hid _:=hsz;have H1:Hid (∀k,k<n1→fC (rE c) k=0→¬rE c k=0→uX c=rE c k):=fun k hk hs h0=>by unfold uX;exact fK hs h0 _ (by rw[e1];exact hk)
 have H2:Hid (fC (rE c) n1=0→uX c=0):=fun h=>by unfold uX;rw[e1];exact h
 clear HA HAc h1 h2 h3 h4 h5 hlen hsz e0 e1 e2 e3 e4 L2 L3 L4 HP y2 y3 y4;generalize uX c=R at *;go_enter Tryz.func62,Tryz.ntmps62;go_wp2;go_loopw [3] (fun i w'=>∃k:Nat,k≤n1∧i =.int .i64 k∧Hid (fC (rE c) k=0)∧Below w.heap.size w w') (fun i _=>n1-(intOf i).toNat)
 case atStart=>exact⟨0,oM,rfl,rfl,qBq⟩
 obtain⟨k,hk,rfl,HS,hbl⟩:=hrel;have y1':=cK hbl y1;have zB':B<wr.heap.size:=wL wr _ y1';by_cases hlt:k<n1
 ·
  have HA:=HX.out k hlt;have HSk:=HSz.out k hlt;have HH:Hid (¬rE c k=0→R=rE c k):=fun h=>H1.out k hlt HS.out h
  have HZ:Hid (rE c k=0→fC (rE c) (k+1)=0):=fun h=>fE HS.out h
  have HD:Hid (rE c k=orF (shdF (c.shards.getD k default)) (if (c.shards.getD k default).idx=(k:Int)∧qU c (c.shards.getD k default)=true then 0 else 1)):=rfl;obtain⟨s,hs0⟩:∃s,s=c.shards.getD k default:=⟨_,rfl⟩
  rw[←hs0] at HA HD HSk;clear hs0;obtain⟨b,o,v1,v2,v3,v4,v5,rfl,g0,g1,g2,g3,g4,g5,hv⟩:=HA;have HF:Hid (bW w fun W=>RI 119 #[.agg #[.int .i64 s.idx,v1,v2,v3,v4,v5]] W (.int .i64 (shdF s))):=fun W hW=>fJr _ s W (shdR.below hv hW)
  obtain⟨_,_,_,_,_,eq,f1,f2,f3,f4,f5⟩:=hv;simp only[Value.agg.injEq,Array.mk.injEq,List.cons.injEq,and_true,true_and] at eq;obtain⟨rfl,rfl,rfl,rfl,rfl⟩:=eq;have HAv:Hid (bW w fun W=>pQ W v2 s.votes.length (qV s.votes)):=fun W hW=>zI (mrksR.below f2 hW)
  have HAd:Hid (bW w fun W=>pQ W v4 s.done.length (qV s.done)):=fun W hW=>zI (mrksR.below f4 hW)
  obtain⟨p1,q1,rfl⟩:=gU f1;obtain⟨p2,q2,rfl⟩:=fT f2;obtain⟨p3,q3,rfl⟩:=gG f3;obtain⟨p4,q4,rfl⟩:=fT f4;obtain⟨p5,q5,rfl⟩:=gZ f5;obtain⟨hnh,hmh,HAh⟩:=pE f3;unfold maxLen at hmh;have HXh:Hid _:=HAh;have HKm:Hid (∀j,j<(s.votes++s.done).length→hasL c ((s.votes++s.done).getD j default).con s.idx=false→qU c s=false):=fun j hj h=>fPp hj h
  have HKh:Hid (∀j,j<s.held.length→pG c (s.held.getD j default)=false→qU c s=false):=fun j hj h=>fPo hj h
  have HKa:Hid ((∀j,j<(s.votes++s.done).length→hasL c ((s.votes++s.done).getD j default).con s.idx=true)→(∀j,j<s.held.length→pG c (s.held.getD j default)=true)→qU c s=true):=fun h1 h2=>fR1 h1 h2
  clear f1 f2 f3 f4 f5 HAh;replace g0:=cK hbl g0;replace g1:=cK hbl g1;replace g2:=cK hbl g2;replace g3:=cK hbl g3;replace g4:=cK hbl g4;replace g5:=cK hbl g5;have zb:b<wr.heap.size:=wL wr _ g0;have hti:(k:Int)<(n1:Int):=oM;generalize rE c k=z at *;generalize qU c s=kn at *;generalize shdF s=sf at *;have HLm:Hid ((s.votes++s.done).length=s.votes.length+s.done.length):=List.length_append;generalize hl1:s.bals.length=l1 at *;generalize hl2:s.votes.length=l2 at *;generalize hl3:s.held.length=l3 at *;generalize hl4:s.done.length=l4 at *;generalize hl5:s.appl.length=l5 at *;generalize s.idx=ix at *;have HL2:Hid (s.votes.length=l2):=hl2;have HL4:Hid (s.done.length=l4):=hl4;clear hl1 hl2 hl3 hl4 hl5;go_wp2_with fail;refine(HF.out _ qBq).mono ?_;rintro e w1 ⟨rfl,hb1⟩;have hB1:=bT w hb1;have T1:w1.cell? ⟨wr.heap.size,0,none⟩=some (.int .i64 ix)∧w1.cell? ⟨wr.heap.size,1,none⟩=some (.slice p1 l1 q1)∧w1.cell? ⟨wr.heap.size,2,none⟩=some (.slice p2 l2 q2)∧w1.cell? ⟨wr.heap.size,3,none⟩=some (.slice p3 l3 q3)∧w1.cell? ⟨wr.heap.size,4,none⟩=some (.slice p4 l4 q4)∧w1.cell? ⟨wr.heap.size,5,none⟩=some (.slice p5 l5 q5):=⟨cK hb1 sG,cK hb1 sG,cK hb1 sG,cK hb1 sG,cK hb1 sG,cK hb1 sG⟩;obtain⟨wl,hwl⟩:∃wl,wl=wr.heap.size:=⟨_,rfl⟩
  have zwl:w.heap.size≤wl:=by rw[hwl];exact hbl.size
  rw[←hwl] at T1 ⊢;clear hwl hb1 HF g0 g1 g2 g3 g4 g5 y1' zB' zb;have zw1:wl<w1.heap.size:=wL w1 _ T1.1;by_cases hsf:sf=0;rotate_left
  ·
   have hz:z=sf:=by rw[HD.out,xN hsf]
   have HC:Hid (R=sf):=by show _=_;rw[←hz];exact HH.out (by rw[hz];exact hsf)
   have hsf':(sf !=0)=true:=by simp[hsf]
   clear HH HZ HD hz HXh HKm HKh HKa HAv HAd T1;go_wp2;go_ret;exact⟨rH,hB1⟩
  subst hsf;have HD2:Hid (z=if ix=(k:Int)∧kn=true then 0 else 1):=by show _=_;rw[HD.out,vS rfl]
  clear HD;obtain⟨s0,s1,s2,s3,s4,s5⟩:=T1;by_cases hix:ix=(k:Int);rotate_left
  ·
   have hz:z=1:=by rw[HD2.out,if_neg (fun h=>hix h.1)]
   have HC:Hid (R=1):=by show _=_;rw[←hz];exact HH.out (by rw[hz];omega)
   have hix':(ix !=(k:Int))=true:=by simp[hix]
   clear HH HZ HD2 hz HXh HKm HKh HKa HAv HAd;go_wp2;go_ret;exact⟨rH,hB1⟩
  have hix':(ix !=(k:Int))=false:=by simp[hix]
  have HBd:Hid (kn=false→R=1):=fun h=>by
   have hz:z=1:=by rw[HD2.out,if_neg (fun x=>by rw[h] at x;cases x.2)]
   show _=_;rw[←hz];exact HH.out (by rw[hz];omega)
  have HGd:Hid (kn=true→fC (rE c) (k+1)=0):=fun h=>HZ.out (by rw[HD2.out,if_pos ⟨hix,h⟩])
  clear HH HZ HD2 hix;obtain⟨hv1,hv2⟩:=HSk;go_wp2;refine wp_region_noPanic ?_;refine fB (fun W=>W.cell? ⟨wl,0,none⟩=some (.int .i64 ix)∧W.cell? ⟨wl,1,none⟩=some (.slice p1 l1 q1)∧W.cell? ⟨wl,2,none⟩=some (.slice p2 l2 q2)∧W.cell? ⟨wl,3,none⟩=some (.slice p3 l3 q3)∧W.cell? ⟨wl,4,none⟩=some (.slice p4 l4 q4)∧W.cell? ⟨wl,5,none⟩=some (.slice p5 l5 q5)) 8 kF ⟨cK qBq s0,cK qBq s1,cK qBq s2,cK qBq s3,cK qBq s4,cK qBq s5⟩ (fun hS=>?_);clear hix';refine tX 1 ?_;refine tX 2 ?_;refine tX 4 ?_;refine tX 5 ?_;have hBd:Below w.heap.size w w1.drew:=qBq;clear hB1 s0 s1 s2 s3 s4 s5;generalize w1.drew=wd at *;refine uS 0 rfl (fun K hK=>?_);go_simp;have hSa:(wd.alloc (.cells #[] 141)).cell? ⟨wl,0,none⟩=some (.int .i64 ix)∧(wd.alloc (.cells #[] 141)).cell? ⟨wl,1,none⟩=some (.slice p1 l1 q1)∧(wd.alloc (.cells #[] 141)).cell? ⟨wl,2,none⟩=some (.slice p2 l2 q2)∧(wd.alloc (.cells #[] 141)).cell? ⟨wl,3,none⟩=some (.slice p3 l3 q3)∧(wd.alloc (.cells #[] 141)).cell? ⟨wl,4,none⟩=some (.slice p4 l4 q4)∧(wd.alloc (.cells #[] 141)).cell? ⟨wl,5,none⟩=some (.slice p5 l5 q5):=fL4 qBq hS;refine hK _ _ (fun _=>hSa) ?_;clear hK K;try simp only[jX]
  refine uS 3 rfl (fun K hK=>?_);refine fDm (wd.alloc (.cells #[] 141)) rfl (.tmp 35) (.tmp 37) rfl wd.heap.size _ [] rfl _ s.votes rfl (World.ownsRow_lit (base:=wd.heap.size) (e:=141) (size:=2) wd #[] 0 (Nat.le_refl _) (by decide) rfl) (by rw[HL2.out];exact HAv.out _ qBq) (by rw[HL2.out];simp;omega) (by simp) ?_;intro v3 w3 ho3 _ hB3;have hb3:Below wd.heap.size wd w3:=hB3 wd qBq;have hS3:(fun W=>W.cell? ⟨wl,0,none⟩=some (.int .i64 ix)∧W.cell? ⟨wl,1,none⟩=some (.slice p1 l1 q1)∧W.cell? ⟨wl,2,none⟩=some (.slice p2 l2 q2)∧W.cell? ⟨wl,3,none⟩=some (.slice p3 l3 q3)∧W.cell? ⟨wl,4,none⟩=some (.slice p4 l4 q4)∧W.cell? ⟨wl,5,none⟩=some (.slice p5 l5 q5)) w3:=fL4 hb3 hS;refine hK _ _ (fun _=>hS3) ?_;clear hK K;try simp only[jX]
  refine uS 6 rfl (fun K hK=>?_);rw[List.nil_append] at ho3;refine fDm w3 rfl (.tmp 38) (.tmp 40) rfl wd.heap.size v3 s.votes rfl _ s.done rfl ho3 (by rw[HL4.out];exact HAd.out _ (bS hBd hb3)) (by rw[HL2.out,HL4.out];omega) hb3.size ?_;intro v4 w4 ho4 _ hB4;have hb4:Below wd.heap.size wd w4:=hB4 wd hb3;have hS4:(fun W=>W.cell? ⟨wl,0,none⟩=some (.int .i64 ix)∧W.cell? ⟨wl,1,none⟩=some (.slice p1 l1 q1)∧W.cell? ⟨wl,2,none⟩=some (.slice p2 l2 q2)∧W.cell? ⟨wl,3,none⟩=some (.slice p3 l3 q3)∧W.cell? ⟨wl,4,none⟩=some (.slice p4 l4 q4)∧W.cell? ⟨wl,5,none⟩=some (.slice p5 l5 q5)) w4:=fL4 hb4 hS;refine hK _ _ (fun _=>hS4) ?_;clear hK K;try simp only[jX]
  have hV4:mrksR.V w4 v4 (s.votes++s.done):=zF ho4;have hB5:Below w.heap.size w w4:=bS hBd hb4;clear hS hSa ho3 hB3 hb3 hS3 ho4 hB4 hb4 HAv HAd hBd;obtain⟨MS,hMS⟩:∃MS,MS=s.votes++s.done:=⟨_,rfl⟩
  rw[←hMS] at hV4 HKm HKa HLm;clear hMS;obtain⟨bm',cm,rfl⟩:=fT hV4;obtain⟨_,hnm,hmm,HAm⟩:=fUr hV4;unfold maxLen at hmm;have HXm:Hid _:=HAm;have hml:=HLm.out;clear HAm hV4;generalize hmm':MS.length=mm at *;clear hmm' HLm;refine tX 7 ?_;refine dP ?_;obtain⟨s0,s1,s2,s3,s4,s5⟩:=hS4;have zw4:wl<w4.heap.size:=wL w4 _ s0;go_wp2;go_loopw [7] (fun i w'=>∃j:Nat,j≤mm∧i =.int .i64 j∧Hid (∀j',j'<j→hasL c (MS.getD j' default).con ix=true)∧Below w4.heap.size w4 w') (fun i _=>mm-(intOf i).toNat)
  case atStart=>exact⟨0,oM,rfl,fun j hj=>absurd hj oM,bR _ _⟩
  obtain⟨j,hj,rfl,HS1,hbl1⟩:=hrel;have hblw:=bS hB5 hbl1;have s0':=cK hbl1 s0;by_cases hlt1:j<mm
  ·
   obtain⟨bm,om,rfl,m0,_⟩:=HXm.out j hlt1;have HC1:Hid _:=HHas.out (MS.getD j default).con ix;have HN:Hid (hasL c (MS.getD j default).con ix=false→R=1):=fun h=>HBd.out (HKm.out j hlt1 h)
   have HG:Hid (hasL c (MS.getD j default).con ix=true→∀j',j'<j+1→hasL c (MS.getD j' default).con ix=true):=fun h j' hj'=>by
    by_cases e:j'=j
    ·rw[e];exact h
    exact HS1.out j' oM
   replace m0:=cK hbl1 m0;generalize hasL c (MS.getD j default).con ix=hl at *;generalize (MS.getD j default).con=mc at *;have hti1:(j:Int)<(mm:Int):=oM;have hj0:(0:Int)≤(j:Int):=oM;go_wp2;refine wp_region_noPanic ?_;refine fB (fun W=>W.cell? ⟨wl,0,none⟩=some (.int .i64 ix)∧W.cell? ⟨bm,om+j*2,none⟩=some (.int .i64 mc)) 10 kF ⟨cK qBq s0',cK qBq m0⟩ (fun hS=>?_);refine tX 0 ?_;refine tX 1 ?_;refine tX 2 ?_;refine tX 3 ?_;refine tX 4 ?_;refine tX 5 ?_;refine tX 6 ?_;refine tX 7 ?_;refine uS 8 rfl (fun K hK=>?_);go_simp;refine(HC1.out _ qBq).mono ?_;rintro e w6 ⟨rfl,hb6⟩;have hB6:=bT w4 hb6;have hS6:=kS2 hb6 hS;refine hK _ _ (fun _=>hS6) ?_;clear hK K hb6;try simp only[jX]
   cases hl
   ·have HC:Hid _:=HN.out rfl;have hB7:=bS hB5 hB6;clear HN HG;refine tX 9 ?_;refine dP ?_;go_wp2;go_ret;exact⟨rH,hB7⟩
   have HQ:Hid _:=HG.out rfl;clear HN HG;refine tX 9 ?_;refine dP ?_;go_wp2;exact⟨⟨j+1,by omega,by go_num,HQ,hB6⟩,mI⟩
  obtain rfl:j=mm:=oM;have hti1:¬(j:Int)<(j:Int):=oM;have HKa':Hid ((∀j,j<l3→pG c (s.held.getD j default)=true)→kn=true):=HKa.out HS1.out;clear HKa HKm HXm HS1 s0';have s3':=cK hbl1 s3;have zl:wl<_:=wL _ _ s3';go_wp2;go_loopw [8] (fun i w'=>∃j':Nat,j'≤l3∧i =.int .i64 j'∧Hid (∀j,j<j'→pG c (s.held.getD j default)=true)∧w'.cell? ⟨wl,3,none⟩=some (.slice p3 l3 q3)∧Below w.heap.size w w') (fun i _=>l3-(intOf i).toNat)
  case atStart=>exact⟨0,oM,rfl,fun j hj=>absurd hj oM,s3',hblw⟩
  clear s3' zl hblw hbl1;obtain⟨i,hi,rfl,HS2,s3',hblw⟩:=hrel;have zl:wl<_:=wL _ _ s3';by_cases hlt2:i<l3
  ·
   obtain⟨bh,oh,ph,qh,rfl,k0,k1,hvl⟩:=HXh.out i hlt2;have HN:Hid (pG c (s.held.getD i default)=false→R=1):=fun h=>HBd.out (HKh.out i hlt2 h)
   have HG:Hid (pG c (s.held.getD i default)=true→∀j',j'<i+1→pG c (s.held.getD j' default)=true):=fun h j' hj'=>by
    by_cases e:j'=i
    ·rw[e];exact h
    exact HS2.out j' oM
   obtain⟨x,hx0⟩:∃x,x=s.held.getD i default:=⟨_,rfl⟩
   rw[←hx0] at k0 k1 hvl HN HG;clear hx0;have HLg:Hid (bW w fun W=>mK W (.slice ph x.legs.length qh) x.legs):=fun W hW=>legsR.below hvl hW
   have HCf:Hid _:=HFi.out x.id;replace k0:=cK hblw k0;replace k1:=cK hblw k1;have hti2:(i:Int)<(l3:Int):=oM;clear hvl;have HSi:Hid (pG c x=(decide (fF c.cons x.id<n0)&&decide ((c.cons.getD (fF c.cons x.id) default).id=x.id∧(c.cons.getD (fF c.cons x.id) default).legs=x.legs))):=by show _=_;unfold pG;rw[E0.out]
   have HFn:Hid (tC c.cons x.id=if fF c.cons x.id<n0 then (fF c.cons x.id:Int) else -1):=by show _=_;unfold tC;rw[E0.out]
   generalize pG c x=sm at *;generalize tC c.cons x.id=fx at *;by_cases hff:fF c.cons x.id<n0;rotate_left
   ·
    obtain rfl:fx = -1:=by rw[HFn.out,if_neg hff]
    have HC:Hid (R=1):=HN.out (by rw[HSi.out,decide_eq_false hff];rfl);clear HN HG HSi HFn hff HLg;generalize hxl:x.legs.length=hl_ at *;generalize x.id=hid at *;clear hxl;go_wp2_with fail;refine(HCf.out _ qBq).mono ?_;rintro e w6 ⟨rfl,hb6⟩;have hB6:=bT w hb6;have s6:=kQ hb6 s3';go_wp2;refine wp_region_noPanic ?_;refine fB (fun W=>W.cell? ⟨wl,3,none⟩=some (.slice (some ⟨bh,oh,none⟩) l3 q3)) 18 kF (cK qBq s6) (fun hS=>?_);refine tX 0 ?_;refine tX 1 (v:=(.bool true)) ?_;refine tX 2 ?_;refine sX 3 fun _=>?_
    refine sX 4 fun _=>?_
    refine sX 5 fun _=>?_
    refine sX 6 fun _=>?_
    refine sX 7 fun _=>?_
    refine sX 8 fun _=>?_
    refine sX 9 fun _=>?_
    refine sX 10 fun _=>?_
    refine sX 11 fun _=>?_
    refine sX 12 fun _=>?_
    refine sX 13 fun _=>?_
    refine sX 14 fun _=>?_
    refine sX 15 fun _=>?_
    refine sX 16 fun _=>?_
    refine tX 17 ?_;refine dP ?_;go_wp2;go_ret;exact⟨rH,qBq⟩
   obtain⟨bc,oc,pc,qc,hac,c0',c1',hvc⟩:=HXc.out _ hff;have HLc:Hid (bW w fun W=>mK W (.slice pc (c.cons.getD (fF c.cons x.id) default).legs.length qc) (c.cons.getD (fF c.cons x.id) default).legs):=fun W hW=>legsR.below hvc hW
   have hfx:fx=(fF c.cons x.id:Int):=by rw[HFn.out,if_pos hff]
   have HSi2:Hid (sm=decide ((c.cons.getD (fF c.cons x.id) default).id=x.id∧(c.cons.getD (fF c.cons x.id) default).legs=x.legs)):=by show _=_;rw[HSi.out,decide_eq_true hff];rfl
   subst hac;have y0':=cK hblw y0;have HSa:Hid (bW w fun W=>RI 121 #[.agg #[.int .i64 (c.cons.getD (fF c.cons x.id) default).id,.slice pc (c.cons.getD (fF c.cons x.id) default).legs.length qc],.agg #[.int .i64 x.id,.slice ph x.legs.length qh]] W (.bool sm)):=fun W hW=>by
    rw[HSi2.out];exact fJq _ _ _ _ _ _ W (HLc.out W hW) (HLg.out W hW)
   clear HSi HSi2 HFn HLc HLg hvc;replace c0':=cK hblw c0';replace c1':=cK hblw c1';have hf1:(fF c.cons x.id:Int)<(n0:Int):=oM;have hf0:(0:Int)≤(fF c.cons x.id:Int):=oM;have hf2:¬(fF c.cons x.id:Int)<0:=oM;generalize c.cons.getD (fF c.cons x.id) default=xc at *;generalize fF c.cons x.id=f at *;subst hfx;generalize hxl:x.legs.length=hl_ at *;generalize hcl:xc.legs.length=cl_ at *;generalize x.id=hid at *;generalize xc.id=cid at *;clear hxl hcl;have hi0:(0:Int)≤(i:Int):=oM;go_wp2_with fail;refine(HCf.out _ qBq).mono ?_;rintro e w6 ⟨rfl,hb6⟩;have hB6:=bT w hb6;have s6:=kQ hb6 s3';have d0:=kQ hb6 y0';have d1:=kQ hb6 k0;have d2:=kQ hb6 k1;have d3:=kQ hb6 c0';have d4:=kQ hb6 c1';clear hb6 k0 k1 c0' c1' y0';go_wp2;refine wp_region_noPanic ?_;refine fB (fun W=>W.cell? ⟨wl,3,none⟩=some (.slice (some ⟨bh,oh,none⟩) l3 q3)∧W.cell? ⟨B,0,none⟩=some (.slice (some ⟨bc,oc,none⟩) n0 c0)∧W.cell? ⟨bh,oh+i*2,none⟩=some (.int .i64 hid)∧W.cell? ⟨bh,oh+i*2+1,none⟩=some (.slice ph hl_ qh)∧W.cell? ⟨bc,oc+f*2,none⟩=some (.int .i64 cid)∧W.cell? ⟨bc,oc+f*2+1,none⟩=some (.slice pc cl_ qc)) 18 kF ⟨cK qBq s6,cK qBq d0,cK qBq d1,cK qBq d2,cK qBq d3,cK qBq d4⟩ (fun hS=>?_);refine tX 0 ?_;refine tX 1 (v:=(.bool false)) ?_;refine tX 2 ?_;refine tX 3 ?_;refine tX 4 ?_;refine tX 5 ?_;refine tX 6 ?_;refine tX 7 ?_;refine tX 8 ?_;refine tX 9 ?_;refine tX 10 ?_;refine tX 11 ?_;refine tX 12 ?_;refine tX 13 ?_;refine tX 14 ?_;refine uS 15 rfl (fun K hK=>?_);go_simp;refine(HSa.out _ qBq).mono ?_;rintro e w7 ⟨rfl,hb7⟩;have hB7:=bT w hb7
   have hS7:=kS6 hb7 hS;refine hK _ _ (fun _=>hS7) ?_;clear hK K hb7;try simp only[jX]
   cases sm
   ·have HC:Hid _:=HN.out rfl;clear HN HG;refine tX 16 ?_;refine tX 17 ?_;refine dP ?_;go_wp2;go_ret;exact⟨rH,hB7⟩
   have HQ:Hid _:=HG.out rfl;clear HN HG;refine tX 16 ?_;refine tX 17 ?_;refine dP ?_;go_wp2;exact⟨⟨i+1,by omega,by go_num,HQ,hS7.1,hB7⟩,mI⟩
  obtain rfl:i=l3:=oM;have hti2:¬(i:Int)<(i:Int):=oM;have HQ:Hid (fC (rE c) (k+1)=0):=HGd.out (HKa'.out HS2.out);clear HKa' HKh HXh HBd HGd;go_wp2;exact⟨⟨k+1,by omega,by go_num,HQ,hblw⟩,mI⟩
 obtain rfl:k=n1:=oM;have hti:¬(k:Int)<(k:Int):=oM;have HC:Hid (R=0):=H2.out HS.out;go_wp2;go_ret;exact⟨rH,hbl⟩
theorem fVi {w:World} {a:Option Addr} {n c:Nat} {ss:List Slt} (hx:sltsR.V w (.slice a n c) ss):ss.length=n∧n≤c∧c≤maxLen∧∀j,j<n→∃b o au nu cu,a=some ⟨b,o,none⟩∧w.cell? ⟨b,o+j*6,none⟩=some (.int .i64 (ss.getD j default).con)∧w.cell? ⟨b,o+j*6+1,none⟩=some (.int .i64 (ss.getD j default).sh)∧w.cell? ⟨b,o+j*6+2,none⟩=some (.int .i64 (ss.getD j default).pr)∧w.cell? ⟨b,o+j*6+3,none⟩=some (.int .i64 (ss.getD j default).lb)∧w.cell? ⟨b,o+j*6+4,none⟩=some (.int .i64 (ss.getD j default).lv)∧w.cell? ⟨b,o+j*6+5,none⟩=some (.slice au nu cu):=by
 obtain⟨a',c',e,h1,h2,h3⟩:=hx;simp only[Value.slice.injEq] at e;obtain⟨rfl,rfl,rfl⟩:=e;refine⟨rfl,h1,h2,fun k hk=>?_⟩;obtain⟨b,o,u,e,_,p,hv⟩:=h3 k hk;obtain⟨s,rfl,hc⟩:=hv;obtain⟨au,cu,rfl⟩:=gJ hc;exact⟨b,o,_,_,_,e,p 0 oM,p 1 oM,p 2 oM,p 3 oM,p 4 oM,p 5 oM⟩
theorem fBz (B:Nat) (c:Clu) (w:World) (h:CluB w B c) (hlen:∀k,k<c.cons.length→(c.cons.getD k default).legs.length≤1048576) :
  RI 63 #[.pointer (some ⟨B,0,none⟩)] w (.int .i64 (vC c)):=by
 have HP:Hid (bW w fun W=>CluP W B c):=fun W hW=>(h.below hW).p
 obtain⟨a0,a1,a2,a3,a4,c0,c1,c2,c3,c4,n0,n1,n2,n3,n4,⟨y0,y1,y2,y3,y4⟩,hx⟩:=h;have hf:=vG hx;obtain⟨e0,e1,e2,e3,e4,L0,L1,L2,L3,L4⟩:=hf;obtain⟨u1,u2,u3,u4,u5,eq,h1,h2,h3,h4,h5⟩:=hx;simp only[Value.agg.injEq,Array.mk.injEq,List.cons.injEq,and_true] at eq;obtain⟨rfl,rfl,rfl,rfl,rfl⟩:=eq;have zB:B<w.heap.size:=wL w _ y0;obtain⟨_,hnc,hmc,HA⟩:=fMv h3;unfold maxLen at hmc;have HX:Hid _:=HA;have HHas:Hid (∀(a s:Int) W,Below w.heap.size w W→RI 120 #[.pointer (some ⟨B,0,none⟩),.int .i64 a,.int .i64 s] W (.bool (hasL c a s))):=fun a s W hW=>uR B c a s W (HP.out W hW) hlen
 have H1:Hid (∀k,k<n2→fC (mZ c) k=0→¬mZ c k=0→vC c=mZ c k):=fun k hk hs h0=>by unfold vC;exact fK hs h0 _ (by rw[e2];exact hk)
 have H2:Hid (fC (mZ c) n2=0→vC c=0):=fun h=>by unfold vC;rw[e2];exact h
 clear HA h1 h2 h3 h4 h5 hlen e0 e1 e2 e3 e4 L0 L1 L3 L4 HP y0 y1 y3 y4;generalize vC c=R at *;go_enter Tryz.func63,Tryz.ntmps63;go_wp2;go_loopw [3] (fun i w'=>∃k:Nat,k≤n2∧i =.int .i64 k∧Hid (fC (mZ c) k=0)∧Below w.heap.size w w') (fun i _=>n2-(intOf i).toNat)
 case atStart=>exact⟨0,oM,rfl,rfl,qBq⟩
 obtain⟨k,hk,rfl,HS,hbl⟩:=hrel;replace y2:=cK hbl y2;have zB':B<wr.heap.size:=wL wr _ y2;by_cases hlt:k<n2
 ·
  have HA:=HX.out k hlt;have HH:Hid (¬mZ c k=0→R=mZ c k):=fun h=>H1.out k hlt HS.out h
  have HZ:Hid (mZ c k=0→fC (mZ c) (k+1)=0):=fun h=>fE HS.out h
  have HD:Hid (mZ c k=orF (accF (c.accs.getD k default).slots) (if uF c (c.accs.getD k default).slots=true then 4 else 0)):=rfl;obtain⟨l,hl0⟩:∃l,l=c.accs.getD k default:=⟨_,rfl⟩
  rw[←hl0] at HA HD;clear hl0;obtain⟨b,o,p,q,rfl,g0,hv⟩:=HA;have HF:Hid (bW w fun W=>RI 122 #[.agg #[.slice p l.slots.length q]] W (.int .i64 (accF l.slots))):=fun W hW=>fJn _ l W ⟨_,rfl,sltsR.below hv hW⟩
  obtain⟨_,hnc2,hmc2,HA2⟩:=fVi hv;unfold maxLen at hmc2;obtain⟨ss,hss⟩:∃ss,ss=l.slots:=⟨_,rfl⟩
  rw[←hss] at HF HD HA2 g0 hnc2;have HY:Hid _:=HA2;have HN:Hid (∀j,j<ss.length→hasL c (ss.getD j default).con (ss.getD j default).sh=false→uF c ss=true):=fun j hj h=>by
   show _=_;unfold uF;rw[List.any_eq_true];exact⟨ss.getD j default,by simp[List.getD,hj],by rw[h];rfl⟩
  have HA3:Hid ((∀j,j<ss.length→hasL c (ss.getD j default).con (ss.getD j default).sh=true)→uF c ss=false):=fun h=>by
   show _=_;unfold uF;rw[List.any_eq_false];intro y hy;obtain⟨i,hi,rfl⟩:=List.getElem_of_mem hy;have:=h i hi;simp only[List.getD,List.getElem?_eq_getElem hi,Option.getD_some] at this;rw[this];simp
  clear hv HA2 hss;replace g0:=cK hbl g0;have zb:b<wr.heap.size:=wL wr _ g0;have hti:(k:Int)<(n2:Int):=oM;generalize mZ c k=z at *;generalize uF c ss=so at *;generalize accF ss=sf at *;generalize hm':ss.length=m at *;clear hm';go_wp2_with fail;refine(HF.out _ qBq).mono ?_;rintro e w1 ⟨rfl,hb1⟩;have hB1:=bT w hb1;replace y2:=kQ hb1 y2;replace g0:=kQ hb1 g0;clear hb1 HF;by_cases hsf:sf=0;rotate_left
  ·
   have hz:z=sf:=by rw[HD.out,xN hsf]
   have HC:Hid (R=sf):=by show _=_;rw[←hz];exact HH.out (by rw[hz];exact hsf)
   have hsf':(sf !=0)=true:=by simp[hsf]
   clear HH HZ HD hz HN HA3 HY;go_wp2;go_ret;exact⟨rH,hB1⟩
  subst hsf;have HD2:Hid (z=if so=true then 4 else 0):=by show _=_;rw[HD.out,vS rfl]
  clear HD;go_wp2;go_loopw [5] (fun i w'=>∃j:Nat,j≤m∧i =.int .i64 j∧Hid (∀j',j'<j→hasL c (ss.getD j' default).con (ss.getD j' default).sh=true)∧Below w1.heap.size w1 w') (fun i _=>m-(intOf i).toNat)
  case atStart=>exact⟨0,oM,rfl,fun j hj=>absurd hj oM,bR _ _⟩
  obtain⟨j,hj,rfl,HS2,hbl2⟩:=hrel;have hblw:=bS hB1 hbl2;replace y2:=cK hbl2 y2;replace g0:=cK hbl2 g0;by_cases hlt2:j<m
  ·
   have HA4:=HY.out j hlt2;have HNj:=HN.out j hlt2;have HSt:Hid (hasL c (ss.getD j default).con (ss.getD j default).sh=true→∀j',j'<j+1→hasL c (ss.getD j' default).con (ss.getD j' default).sh=true):=fun h j' hj'=>by
    by_cases e:j'=j
    ·rw[e];exact h
    exact HS2.out j' oM
   obtain⟨s,hs0⟩:∃s,s=ss.getD j default:=⟨_,rfl⟩
   rw[←hs0] at HA4 HNj HSt;clear hs0;have HNj':Hid (hasL c s.con s.sh=false→so=true):=HNj;clear HNj;obtain⟨bs,os,au,nu,cu,rfl,k0,k1,k2,k3,k4,k5⟩:=HA4;replace k0:=cK hblw k0;replace k1:=cK hblw k1;replace k2:=cK hblw k2;replace k3:=cK hblw k3;replace k4:=cK hblw k4;replace k5:=cK hblw k5;have zbs:bs<_:=wL _ _ k0;have hti2:(j:Int)<(m:Int):=oM;have HC1:=HHas.out s.con s.sh;have HC2:Hid _:=HC1;clear HC1;generalize hasL c s.con s.sh=hl at *;go_wp2_with fail;refine(HC2.out _ qBq).mono ?_;rintro e w3 ⟨rfl,hb3⟩;have hB3:=bT w1 hb3;clear hb3 HC2 k0 k1 k2 k3 k4 k5;cases hl
   ·
    have hso:so=true:=HNj'.out rfl;have hz:z=4:=by rw[HD2.out,hso];rfl
    have HC:Hid (R=4):=by show _=_;rw[←hz];exact HH.out (by rw[hz];omega)
    have hB4:=bS hB1 hB3;clear HH HZ HD2 hz hso HSt HNj';go_wp2;go_ret;exact⟨rH,hB4⟩
   have HQ:Hid _:=HSt.out rfl;clear HSt HNj';go_wp2;exact⟨⟨j+1,by omega,by go_num,HQ,hB3⟩,mI⟩
  obtain rfl:j=m:=oM;have hti2:¬(j:Int)<(j:Int):=oM;have hso:so=false:=HA3.out HS2.out;have hz:z=0:=by rw[HD2.out,hso];rfl
  have HQ:Hid _:=HZ.out hz;clear HH HZ HD2 hz hso HN HA3 HY;go_wp2;exact⟨⟨k+1,by omega,by go_num,HQ,hblw⟩,mI⟩
 obtain rfl:k=n2:=oM;have hti:¬(k:Int)<(k:Int):=oM;have HC:Hid (R=0):=H2.out HS.out;go_wp2;go_ret;exact⟨rH,hbl⟩
theorem fNm {w:World} {a:Option Addr} {n c:Nat} {xs:List Msg} (hx:msgsR.V w (.slice a n c) xs):xs.length=n∧n≤c∧c≤maxLen∧∀k,k<n→∃b o,a=some ⟨b,o,none⟩∧w.cell? ⟨b,o+k*9,none⟩=some (.int .i64 (xs.getD k default).kind)∧w.cell? ⟨b,o+k*9+1,none⟩=some (.int .i64 (xs.getD k default).to)∧w.cell? ⟨b,o+k*9+2,none⟩=some (.int .i64 (xs.getD k default).frm)∧w.cell? ⟨b,o+k*9+3,none⟩=some (.int .i64 (xs.getD k default).con)∧w.cell? ⟨b,o+k*9+4,none⟩=some (.int .i64 (xs.getD k default).sh)∧w.cell? ⟨b,o+k*9+5,none⟩=some (.int .i64 (xs.getD k default).bal)∧w.cell? ⟨b,o+k*9+6,none⟩=some (.int .i64 (xs.getD k default).val)∧w.cell? ⟨b,o+k*9+7,none⟩=some (.int .i64 (xs.getD k default).ob)∧w.cell? ⟨b,o+k*9+8,none⟩=some (.int .i64 (xs.getD k default).ov):=by
 obtain⟨a',c',e,h1,h2,h3⟩:=hx;simp only[Value.slice.injEq] at e;obtain⟨rfl,rfl,rfl⟩:=e;exact⟨rfl,h1,h2,fun k hk=>h3 k hk⟩
theorem fGg (x:Value) (c:Clu) (w:World) (hx:cluR.V w x c) :
  RI 83 #[x] w (.int .i64 (yV c)):=by
 have HV:Hid (bW w fun W=>cluR.V W x c):=fun W hW=>cluR.below hx hW
 have hx':=hx;obtain⟨a0,a1,a2,a3,a4,c0,c1,c2,c3,c4,n0,n1,n2,n3,n4,rfl,e0,e1,e2,e3,e4,L0,L1,L2,L3,L4⟩:=gP hx;obtain⟨u1,u2,u3,u4,u5,eq,h1,h2,h3,h4,h5⟩:=hx';simp only[Value.agg.injEq,Array.mk.injEq,List.cons.injEq,and_true] at eq;obtain⟨rfl,rfl,rfl,rfl,rfl⟩:=eq;obtain⟨_,hnc,hmc,HA⟩:=fNm h5;unfold maxLen at hmc;have HX:Hid _:=HA;clear HA h1 h2 h3 h4 h5 hx;have H1:Hid (∀k,k<n4→fC (fun k=>msgF c (c.msgs.getD k default)) k=0→¬msgF c (c.msgs.getD k default)=0→yV c=msgF c (c.msgs.getD k default)):=fun k hk hs h0=>by unfold yV;exact fK (f:=fun k=>msgF c (c.msgs.getD k default)) hs h0 _ (by rw[e4];exact hk)
 have H2:Hid (fC (fun k=>msgF c (c.msgs.getD k default)) n4=0→yV c=0):=fun h=>by unfold yV;rw[e4];exact h
 clear e0 e1 e2 e3 e4 L0 L1 L2 L3;generalize yV c=R at *;go_enter Tryz.func83,Tryz.ntmps83;go_wp2;go_loopw [9] (fun i w'=>∃k:Nat,k≤n4∧i =.int .i64 k∧Hid (fC (fun k=>msgF c (c.msgs.getD k default)) k=0)∧(w'.cell? ⟨w.heap.size,0,none⟩=some (.slice a0 n0 c0)∧w'.cell? ⟨w.heap.size,1,none⟩=some (.slice a1 n1 c1)∧w'.cell? ⟨w.heap.size,2,none⟩=some (.slice a2 n2 c2)∧w'.cell? ⟨w.heap.size,3,none⟩=some (.slice a3 n3 c3)∧w'.cell? ⟨w.heap.size,4,none⟩=some (.slice a4 n4 c4))∧Below w.heap.size w w') (fun i _=>n4-(intOf i).toNat)
 case atStart=>exact⟨0,oM,rfl,rfl,⟨sG,by simp[go_sem],sG,by simp[go_sem],sG⟩,qBq⟩
 obtain⟨k,hk,rfl,HS,⟨y0,y1,y2,y3,y4⟩,hbl⟩:=hrel;have zq:w.heap.size<wr.heap.size:=wL wr _ y0;by_cases hlt:k<n4
 ·
  have HA:=HX.out k hlt;have HH:Hid (¬msgF c (c.msgs.getD k default)=0→R=msgF c (c.msgs.getD k default)):=fun h=>H1.out k hlt HS.out h
  have HZ:Hid (msgF c (c.msgs.getD k default)=0→fC (fun k=>msgF c (c.msgs.getD k default)) (k+1)=0):=fun h=>fE (f:=fun k=>msgF c (c.msgs.getD k default)) HS.out h
  obtain⟨m,hm0⟩:∃m,m=c.msgs.getD k default:=⟨_,rfl⟩
  rw[←hm0] at HA HH HZ;clear hm0;obtain⟨b,o,rfl,g0,g1,g2,g3,g4,g5,g6,g7,g8⟩:=HA;have HF:Hid (bW w fun W=>RI 157 #[.agg #[.slice a0 n0 c0,.slice a1 n1 c1,.slice a2 n2 c2,.slice a3 n3 c3,.slice (some ⟨b,o,none⟩) n4 c4],.agg #[.int .i64 m.kind,.int .i64 m.to,.int .i64 m.frm,.int .i64 m.con,.int .i64 m.sh,.int .i64 m.bal,.int .i64 m.val,.int .i64 m.ob,.int .i64 m.ov]] W (.int .i64 (msgF c m))):=fun W hW=>fLc _ c m W (HV.out W hW)
  replace g0:=cK hbl g0;replace g1:=cK hbl g1;replace g2:=cK hbl g2;replace g3:=cK hbl g3;replace g4:=cK hbl g4;replace g5:=cK hbl g5;replace g6:=cK hbl g6;replace g7:=cK hbl g7;replace g8:=cK hbl g8;have zb:b<wr.heap.size:=wL wr _ g0;have hti:(k:Int)<(n4:Int):=oM;generalize msgF c m=z at *;obtain⟨m0,m1,m2,m3,m4,m5,m6,m7,m8⟩:=m;dsimp only at HF g0 g1 g2 g3 g4 g5 g6 g7 g8;go_wp2_with fail;refine(HF.out _ qBq).mono ?_;rintro e w1 ⟨rfl,hb1⟩;have hB1:=bT w hb1;have Y1:=And.intro (cK hb1 (cK qBq y0)) (And.intro (cK hb1 (cK qBq y1)) (And.intro (cK hb1 (cK qBq y2)) (And.intro (cK hb1 (cK qBq y3)) (cK hb1 (cK qBq y4)))));clear hb1 HF g0 g1 g2 g3 g4 g5 g6 g7 g8;by_cases hz:z=0
  ·have HQ:Hid _:=HZ.out hz;subst hz;clear HH HZ;go_wp2;exact⟨⟨k+1,by omega,by go_num,HQ,Y1,hB1⟩,mI⟩
  have HC:Hid _:=HH.out hz;have hz':(z !=0)=true:=by simp[hz]
  clear HH HZ;go_wp2;go_ret;exact⟨rH,hB1⟩
 obtain rfl:k=n4:=oM;have hti:¬(k:Int)<(k:Int):=oM;have HC:Hid (R=0):=H2.out HS.out;go_wp2;go_ret;exact⟨rH,hbl⟩
theorem fLf (gf:Nat) (P Q:Value) (pb:Mrk→Bool) (x:Value) (xs:List Mrk) (w:World) (hx:mrksR.V w x xs) (eg:∀args w,(callFunc gf args).run Tryz.prog w =.ok (.enter gf args) w) (hp:(∀k W,k<xs.length→Below w.heap.size w W→Calls Tryz.prog gf #[mrkV (xs.getD k default),P,Q] W fun e w'=>e =.returned (.bool (pb (xs.getD k default)))∧Below W.heap.size W w')) :
  Calls Tryz.prog 274 #[x,.func (.func gf) #[] #[P,Q]] w fun e w'=>(∃r:Int,e =.returned (.int .i64 r)∧((r = -1∧xs.any pb=false)∨(0≤r∧xs.any pb=true)))∧Below w.heap.size w w':=by
 obtain⟨ax,cx,rfl,hcx,hmx,hx⟩:=hx;unfold maxLen at hmx;have HX:Hid (∀i,i<xs.length→∃b o,ax=some ⟨b,o,none⟩∧qC w b (o+i*2) (xs.getD i default)):=hx;clear hx;have HHit:Hid (∀j,j<xs.length→pb (xs.getD j default)=true→xs.any pb=true):=fun j hj h=>by
  show _=_;rw[List.any_eq_true];exact⟨xs.getD j default,by simp[List.getD,hj],h⟩
 have HNo:Hid ((∀j,j<xs.length→pb (xs.getD j default)=false)→xs.any pb=false):=fun h=>by
  show _=_;rw[List.any_eq_false];intro y hy;obtain⟨i,hi,rfl⟩:=List.getElem_of_mem hy;have:=h i hi;simp only[List.getD,List.getElem?_eq_getElem hi,Option.getD_some] at this;rw[this];simp
 have HP:Hid (∀k W,k<xs.length→Below w.heap.size w W→Calls Tryz.prog gf #[mrkV (xs.getD k default),P,Q] W fun e w'=>e =.returned (.bool (pb (xs.getD k default)))∧Below W.heap.size W w'):=hp;clear hp;generalize hA:xs.any pb=A at *;clear hA;generalize hn':xs.length=n at *;clear hn';go_enter Tryz.func274,Tryz.ntmps274;go_wp2;go_loopw [8] (fun i w'=>∃k':Nat,k'≤n∧i =.int .i64 k'∧Hid (∀j,j<k'→pb (xs.getD j default)=false)∧Below w.heap.size w w') (fun i _=>n-(intOf i).toNat)
 case atStart=>exact⟨0,oM,rfl,fun j hj=>absurd hj oM,bR _ _⟩
 obtain⟨j,hk,rfl,HS,hbl⟩:=hrel;by_cases hlt:j<n
 ·
  have HA:=HX.out j hlt;have hP:=HP.out j;have HH:=HHit.out j hlt;have HLs:Hid (pb (xs.getD j default)=false→∀i,i<j+1→pb (xs.getD i default)=false):=fun h i hi=>by
   by_cases e:i=j
   ·rw[e];exact h
   exact HS.out i oM
  obtain⟨l,hl0⟩:∃l,l=xs.getD j default:=⟨_,rfl⟩
  rw[←hl0] at HA hP HH HLs;clear hl0;obtain⟨b,o,rfl,g0,g1⟩:=HA;have HC:Hid (bW w fun W=>Calls Tryz.prog gf #[.agg #[.int .i64 l.con,.int .i64 l.val],P,Q] W fun e w'=>e =.returned (.bool (pb l))∧Below W.heap.size W w'):=fun W hW=>hP W hlt hW
  have HH':Hid (pb l=true→A=true):=HH;clear hP HH;skip;replace g0:=cK hbl g0;replace g1:=cK hbl g1;have hti:(j:Int)<(n:Int):=oM;generalize pb l=z at *;go_wp2_with fail;refine(HC.out _ qBq).mono ?_;rintro e w1 ⟨rfl,hb1⟩;have hB:=bS hbl hb1;clear hb1 HC g0 g1;cases z
  ·have HQ:Hid _:=HLs.out rfl;clear HLs HH';go_wp2;exact⟨⟨j+1,by omega,by go_num,HQ,hB⟩,mI⟩
  have HQ:Hid (A=true):=HH'.out rfl;clear HLs HH';go_wp2;go_ret;exact⟨⟨j,rfl,.inr ⟨oM,HQ.out⟩⟩,hB⟩
 obtain rfl:j=n:=oM;have hti:¬(j:Int)<(j:Int):=oM;have HQ:Hid (A=false):=HNo.out HS.out;go_wp2;go_ret;exact⟨⟨-1,rfl,.inl ⟨rfl,HQ.out⟩⟩,hbl⟩
theorem fDy (gf:Nat) (P Q:Value) (pb:Mrk→Bool) (x:Value) (xs:List Mrk) (w:World) (hx:mrksR.V w x xs) (eg:∀args w,(callFunc gf args).run Tryz.prog w =.ok (.enter gf args) w) (hp:(∀k W,k<xs.length→Below w.heap.size w W→Calls Tryz.prog gf #[mrkV (xs.getD k default),P,Q] W fun e w'=>e =.returned (.bool (pb (xs.getD k default)))∧Below W.heap.size W w')) :
  RI 215 #[x,.func (.func gf) #[] #[P,Q]] w (.bool (xs.any pb)):=by
 have HI:Hid (Calls Tryz.prog 274 #[x,.func (.func gf) #[] #[P,Q]] w fun e w'=>(∃r:Int,e =.returned (.int .i64 r)∧((r = -1∧xs.any pb=false)∨(0≤r∧xs.any pb=true)))∧Below w.heap.size w w'):=fLf gf P Q pb x xs w hx eg hp;clear hp eg;obtain⟨ax,cx,rfl,_⟩:=hx;generalize xs.any pb=A at *;go_enter Tryz.func215,Tryz.ntmps215;go_wp2_with fail;refine HI.out.mono ?_;rintro e w1 ⟨⟨r,rfl,hr⟩,hb1⟩;clear HI;rcases hr with ⟨rfl,hr⟩|⟨hr0,hr⟩
 all_goals
  subst hr;go_wp2;go_ret;exact⟨rfl,hb1⟩
theorem fLe (gf:Nat) (P:Value) (pb:Cont→Bool) (x:Value) (xs:List Cont) (w:World) (hx:contsR.V w x xs) (eg:∀args w,(callFunc gf args).run Tryz.prog w =.ok (.enter gf args) w) (hp:(∀k W,k<xs.length→Below w.heap.size w W→∀item,contR.V W item (xs.getD k default)→Calls Tryz.prog gf #[item,P] W fun e w'=>e =.returned (.bool (pb (xs.getD k default)))∧Below W.heap.size W w')) :
  Calls Tryz.prog 84 #[x,.func (.func gf) #[] #[P]] w fun e w'=>(∃r:Int,e =.returned (.int .i64 r)∧((r = -1∧xs.any pb=false)∨(0≤r∧xs.any pb=true)))∧Below w.heap.size w w':=by
 obtain⟨ax,cx,rfl,hcx,hmx,hx⟩:=tO hx;unfold maxLen at hmx;have HX:Hid _:=hx;clear hx;have HHit:Hid (∀j,j<xs.length→pb (xs.getD j default)=true→xs.any pb=true):=fun j hj h=>by
  show _=_;rw[List.any_eq_true];exact⟨xs.getD j default,by simp[List.getD,hj],h⟩
 have HNo:Hid ((∀j,j<xs.length→pb (xs.getD j default)=false)→xs.any pb=false):=fun h=>by
  show _=_;rw[List.any_eq_false];intro y hy;obtain⟨i,hi,rfl⟩:=List.getElem_of_mem hy;have:=h i hi;simp only[List.getD,List.getElem?_eq_getElem hi,Option.getD_some] at this;rw[this];simp
 have HP:Hid (∀k W,k<xs.length→Below w.heap.size w W→∀item,contR.V W item (xs.getD k default)→Calls Tryz.prog gf #[item,P] W fun e w'=>e =.returned (.bool (pb (xs.getD k default)))∧Below W.heap.size W w'):=hp;clear hp;generalize hA:xs.any pb=A at *;clear hA;generalize hn':xs.length=n at *;clear hn';go_enter Tryz.func84,Tryz.ntmps84;go_wp2;go_loopw [8] (fun i w'=>∃k':Nat,k'≤n∧i =.int .i64 k'∧Hid (∀j,j<k'→pb (xs.getD j default)=false)∧Below w.heap.size w w') (fun i _=>n-(intOf i).toNat)
 case atStart=>exact⟨0,oM,rfl,fun j hj=>absurd hj oM,bR _ _⟩
 obtain⟨j,hk,rfl,HS,hbl⟩:=hrel;by_cases hlt:j<n
 ·
  have HA:=HX.out j hlt;have hP:=HP.out j;have HH:=HHit.out j hlt;have HLs:Hid (pb (xs.getD j default)=false→∀i,i<j+1→pb (xs.getD i default)=false):=fun h i hi=>by
   by_cases e:i=j
   ·rw[e];exact h
   exact HS.out i oM
  obtain⟨l,hl0⟩:∃l,l=xs.getD j default:=⟨_,rfl⟩
  rw[←hl0] at HA hP HH HLs;clear hl0;obtain⟨b,o,p,q,rfl,g0,g1,hl⟩:=HA;have HC:Hid (bW w fun W=>Calls Tryz.prog gf #[.agg #[.int .i64 l.id,.slice p l.legs.length q],P] W fun e w'=>e =.returned (.bool (pb l))∧Below W.heap.size W w'):=fun W hW=>hP W hlt hW _ (contR.below hl hW)
  have HH':Hid (pb l=true→A=true):=HH;clear hP HH;clear hl;replace g0:=cK hbl g0;replace g1:=cK hbl g1;have hti:(j:Int)<(n:Int):=oM;generalize pb l=z at *;go_wp2_with fail;refine(HC.out _ qBq).mono ?_;rintro e w1 ⟨rfl,hb1⟩;have hB:=bS hbl hb1;clear hb1 HC g0 g1;cases z
  ·have HQ:Hid _:=HLs.out rfl;clear HLs HH';go_wp2;exact⟨⟨j+1,by omega,by go_num,HQ,hB⟩,mI⟩
  have HQ:Hid (A=true):=HH'.out rfl;clear HLs HH';go_wp2;go_ret;exact⟨⟨j,rfl,.inr ⟨oM,HQ.out⟩⟩,hB⟩
 obtain rfl:j=n:=oM;have hti:¬(j:Int)<(j:Int):=oM;have HQ:Hid (A=false):=HNo.out HS.out;go_wp2;go_ret;exact⟨⟨-1,rfl,.inl ⟨rfl,HQ.out⟩⟩,hbl⟩
theorem yJ (gf:Nat) (P:Value) (pb:Cont→Bool) (x:Value) (xs:List Cont) (w:World) (hx:contsR.V w x xs) (eg:∀args w,(callFunc gf args).run Tryz.prog w =.ok (.enter gf args) w) (hp:(∀k W,k<xs.length→Below w.heap.size w W→∀item,contR.V W item (xs.getD k default)→Calls Tryz.prog gf #[item,P] W fun e w'=>e =.returned (.bool (pb (xs.getD k default)))∧Below W.heap.size W w')) :
  RI 33 #[x,.func (.func gf) #[] #[P]] w (.bool (xs.any pb)):=by
 have HI:Hid (Calls Tryz.prog 84 #[x,.func (.func gf) #[] #[P]] w fun e w'=>(∃r:Int,e =.returned (.int .i64 r)∧((r = -1∧xs.any pb=false)∨(0≤r∧xs.any pb=true)))∧Below w.heap.size w w'):=fLe gf P pb x xs w hx eg hp;clear hp eg;obtain⟨ax,cx,rfl,_⟩:=hx;generalize xs.any pb=A at *;go_enter Tryz.func33,Tryz.ntmps33;go_wp2_with fail;refine HI.out.mono ?_;rintro e w1 ⟨⟨r,rfl,hr⟩,hb1⟩;clear HI;rcases hr with ⟨rfl,hr⟩|⟨hr0,hr⟩
 all_goals
  subst hr;go_wp2;go_ret;exact⟨rfl,hb1⟩
theorem fLg (gf:Nat) (P:Value) (pb:Slt→Bool) (x:Value) (xs:List Slt) (w:World) (hx:sltsR.V w x xs) (eg:∀args w,(callFunc gf args).run Tryz.prog w =.ok (.enter gf args) w) (hp:(∀k W,k<xs.length→Below w.heap.size w W→∀u,Calls Tryz.prog gf #[.agg #[.int .i64 (xs.getD k default).con,.int .i64 (xs.getD k default).sh,.int .i64 (xs.getD k default).pr,.int .i64 (xs.getD k default).lb,.int .i64 (xs.getD k default).lv,u],P] W fun e w'=>e =.returned (.bool (pb (xs.getD k default)))∧Below W.heap.size W w')) :
  Calls Tryz.prog 220 #[x,.func (.func gf) #[] #[P]] w fun e w'=>(∃r:Int,e =.returned (.int .i64 r)∧((r = -1∧xs.any pb=false)∨(0≤r∧xs.any pb=true)))∧Below w.heap.size w w':=by
 obtain⟨ax,cx,rfl,hcx,hmx,hx⟩:=hx;unfold maxLen at hmx;have HX:Hid (∀k,k<xs.length→∃b o u,ax=some ⟨b,o,none⟩∧w.cell? ⟨b,o+k*6,none⟩=some (.int .i64 (xs.getD k default).con)∧w.cell? ⟨b,o+k*6+1,none⟩=some (.int .i64 (xs.getD k default).sh)∧w.cell? ⟨b,o+k*6+2,none⟩=some (.int .i64 (xs.getD k default).pr)∧w.cell? ⟨b,o+k*6+3,none⟩=some (.int .i64 (xs.getD k default).lb)∧w.cell? ⟨b,o+k*6+4,none⟩=some (.int .i64 (xs.getD k default).lv)∧w.cell? ⟨b,o+k*6+5,none⟩=some (u)):=fun k hk=>by
  obtain⟨b,o,u,e,_,p,hv⟩:=hx k hk;obtain⟨s,rfl,hc⟩:=hv;obtain⟨au,cu,rfl⟩:=gJ hc;exact⟨b,o,_,e,p 0 oM,p 1 oM,p 2 oM,p 3 oM,p 4 oM,p 5 oM⟩
 clear hx;have HHit:Hid (∀j,j<xs.length→pb (xs.getD j default)=true→xs.any pb=true):=fun j hj h=>by
  show _=_;rw[List.any_eq_true];exact⟨xs.getD j default,by simp[List.getD,hj],h⟩
 have HNo:Hid ((∀j,j<xs.length→pb (xs.getD j default)=false)→xs.any pb=false):=fun h=>by
  show _=_;rw[List.any_eq_false];intro y hy;obtain⟨i,hi,rfl⟩:=List.getElem_of_mem hy;have:=h i hi;simp only[List.getD,List.getElem?_eq_getElem hi,Option.getD_some] at this;rw[this];simp
 have HP:Hid (∀k W,k<xs.length→Below w.heap.size w W→∀u,Calls Tryz.prog gf #[.agg #[.int .i64 (xs.getD k default).con,.int .i64 (xs.getD k default).sh,.int .i64 (xs.getD k default).pr,.int .i64 (xs.getD k default).lb,.int .i64 (xs.getD k default).lv,u],P] W fun e w'=>e =.returned (.bool (pb (xs.getD k default)))∧Below W.heap.size W w'):=hp;clear hp;generalize hA:xs.any pb=A at *;clear hA;generalize hn':xs.length=n at *;clear hn';go_enter Tryz.func220,Tryz.ntmps220;go_wp2;go_loopw [8] (fun i w'=>∃k':Nat,k'≤n∧i =.int .i64 k'∧Hid (∀j,j<k'→pb (xs.getD j default)=false)∧Below w.heap.size w w') (fun i _=>n-(intOf i).toNat)
 case atStart=>exact⟨0,oM,rfl,fun j hj=>absurd hj oM,bR _ _⟩
 obtain⟨j,hk,rfl,HS,hbl⟩:=hrel;by_cases hlt:j<n
 ·
  have HA:=HX.out j hlt;have hP:=HP.out j;have HH:=HHit.out j hlt;have HLs:Hid (pb (xs.getD j default)=false→∀i,i<j+1→pb (xs.getD i default)=false):=fun h i hi=>by
   by_cases e:i=j
   ·rw[e];exact h
   exact HS.out i oM
  obtain⟨l,hl0⟩:∃l,l=xs.getD j default:=⟨_,rfl⟩
  rw[←hl0] at HA hP HH HLs;clear hl0;obtain⟨b,o,u,rfl,g0,g1,g2,g3,g4,g5⟩:=HA;have HC:Hid (bW w fun W=>Calls Tryz.prog gf #[.agg #[.int .i64 l.con,.int .i64 l.sh,.int .i64 l.pr,.int .i64 l.lb,.int .i64 l.lv,u],P] W fun e w'=>e =.returned (.bool (pb l))∧Below W.heap.size W w'):=fun W hW=>hP W hlt hW u
  have HH':Hid (pb l=true→A=true):=HH;clear hP HH;skip;replace g0:=cK hbl g0;replace g1:=cK hbl g1;replace g2:=cK hbl g2;replace g3:=cK hbl g3;replace g4:=cK hbl g4;replace g5:=cK hbl g5;have hti:(j:Int)<(n:Int):=oM;generalize pb l=z at *;go_wp2_with fail;refine(HC.out _ qBq).mono ?_;rintro e w1 ⟨rfl,hb1⟩;have hB:=bS hbl hb1;clear hb1 HC g0 g1 g2 g3 g4 g5;cases z
  ·have HQ:Hid _:=HLs.out rfl;clear HLs HH';go_wp2;exact⟨⟨j+1,by omega,by go_num,HQ,hB⟩,mI⟩
  have HQ:Hid (A=true):=HH'.out rfl;clear HLs HH';go_wp2;go_ret;exact⟨⟨j,rfl,.inr ⟨oM,HQ.out⟩⟩,hB⟩
 obtain rfl:j=n:=oM;have hti:¬(j:Int)<(j:Int):=oM;have HQ:Hid (A=false):=HNo.out HS.out;go_wp2;go_ret;exact⟨⟨-1,rfl,.inl ⟨rfl,HQ.out⟩⟩,hbl⟩
theorem fDz (gf:Nat) (P:Value) (pb:Slt→Bool) (x:Value) (xs:List Slt) (w:World) (hx:sltsR.V w x xs) (eg:∀args w,(callFunc gf args).run Tryz.prog w =.ok (.enter gf args) w) (hp:(∀k W,k<xs.length→Below w.heap.size w W→∀u,Calls Tryz.prog gf #[.agg #[.int .i64 (xs.getD k default).con,.int .i64 (xs.getD k default).sh,.int .i64 (xs.getD k default).pr,.int .i64 (xs.getD k default).lb,.int .i64 (xs.getD k default).lv,u],P] W fun e w'=>e =.returned (.bool (pb (xs.getD k default)))∧Below W.heap.size W w')) :
  RI 149 #[x,.func (.func gf) #[] #[P]] w (.bool (xs.any pb)):=by
 have HI:Hid (Calls Tryz.prog 220 #[x,.func (.func gf) #[] #[P]] w fun e w'=>(∃r:Int,e =.returned (.int .i64 r)∧((r = -1∧xs.any pb=false)∨(0≤r∧xs.any pb=true)))∧Below w.heap.size w w'):=fLg gf P pb x xs w hx eg hp;clear hp eg;obtain⟨ax,cx,rfl,_⟩:=hx;generalize xs.any pb=A at *;go_enter Tryz.func149,Tryz.ntmps149;go_wp2_with fail;refine HI.out.mono ?_;rintro e w1 ⟨⟨r,rfl,hr⟩,hb1⟩;clear HI;rcases hr with ⟨rfl,hr⟩|⟨hr0,hr⟩
 all_goals
  subst hr;go_wp2;go_ret;exact⟨rfl,hb1⟩
theorem fJs (x:Value) (c:Clu) (B C:Nat) (m:Mrk) (s:Int) (w:World) (a0 a1 a2 a3 a4:Option Addr) (n0 n1 n2 n3 n4 c0 c1 c2 c3 c4:Nat) (hx:cluR.V w (.agg #[.slice a0 n0 c0,.slice a1 n1 c1,.slice a2 n2 c2,.slice a3 n3 c3,.slice a4 n4 c4]) c) (y:w.cell? ⟨B,0,none⟩=some (.slice a0 n0 c0)∧w.cell? ⟨B,1,none⟩=some (.slice a1 n1 c1)∧w.cell? ⟨B,2,none⟩=some (.slice a2 n2 c2)∧w.cell? ⟨B,3,none⟩=some (.slice a3 n3 c3)∧w.cell? ⟨B,4,none⟩=some (.slice a4 n4 c4)) (z:w.cell? ⟨C,0,none⟩=some (.int .i64 s)) :
  RI 214 #[mrkV m,.pointer (some ⟨B,0,none⟩),.pointer (some ⟨C,0,none⟩)] w (.bool (!hasL c m.con s)):=by
 have HP:Hid (bW w fun W=>RI 151 #[.agg #[.slice a0 n0 c0,.slice a1 n1 c1,.slice a2 n2 c2,.slice a3 n3 c3,.slice a4 n4 c4],.int .i64 m.con,.int .i64 s] W (.bool (hasL c m.con s))):=fun W hW=>vI _ c _ _ W (cluR.below hx hW)
 clear hx;obtain⟨y0,y1,y2,y3,y4⟩:=y;have zB:B<w.heap.size:=wL w _ y0;have zC:C<w.heap.size:=wL w _ z;generalize hasL c m.con s=b at *;unfold mrkV;go_enter Tryz.func214,Tryz.ntmps214;go_wp2_with fail;refine(HP.out _ qBq).mono ?_;rintro e w1 ⟨rfl,hb1⟩;have hB1:Below w.heap.size w w1:=qBq;clear hb1 HP;cases b;all_goals
  go_wp2;go_ret;exact⟨rfl,hB1⟩
theorem fJt (c:Clu) (B:Nat) (l:Cont) (item:Value) (w:World) (a0 a1 a2 a3 a4:Option Addr) (n0 n1 n2 n3 n4 c0 c1 c2 c3 c4:Nat) (hx:cluR.V w (.agg #[.slice a0 n0 c0,.slice a1 n1 c1,.slice a2 n2 c2,.slice a3 n3 c3,.slice a4 n4 c4]) c) (y:w.cell? ⟨B,0,none⟩=some (.slice a0 n0 c0)∧w.cell? ⟨B,1,none⟩=some (.slice a1 n1 c1)∧w.cell? ⟨B,2,none⟩=some (.slice a2 n2 c2)∧w.cell? ⟨B,3,none⟩=some (.slice a3 n3 c3)∧w.cell? ⟨B,4,none⟩=some (.slice a4 n4 c4)) (hi:contR.V w item l) :
  RI 216 #[item,.pointer (some ⟨B,0,none⟩)] w (.bool (!pG c l)):=by
 obtain⟨u,rfl,hl⟩:=hi;have HL:Hid (bW w fun W=>legsR.V W u l.legs):=fun W hW=>legsR.below hl hW
 have HSu:Hid (bW w fun W=>Calls Tryz.prog 104 #[.agg #[.slice a0 n0 c0,.slice a1 n1 c1,.slice a2 n2 c2,.slice a3 n3 c3,.slice a4 n4 c4],.int .i64 l.id] W (SubE c.cons l.id W)):=fun W hW=>fDn _ c l.id W (cluR.below hx hW)
 obtain⟨p,q,rfl⟩:=mM hl;clear hx hl;obtain⟨y0,y1,y2,y3,y4⟩:=y;have zB:B<w.heap.size:=wL w _ y0;have H1:Hid (fF c.cons l.id<c.cons.length→pG c l=decide ((c.cons.getD (fF c.cons l.id) default).id=l.id∧(c.cons.getD (fF c.cons l.id) default).legs=l.legs)):=fun h=>by unfold pG;rw[decide_eq_true h];rfl
 have H2:Hid (¬fF c.cons l.id<c.cons.length→pG c l=false):=fun h=>by unfold pG;rw[decide_eq_false h];rfl
 generalize pG c l=R at *;go_enter Tryz.func216,Tryz.ntmps216;go_wp2_with fail;refine(HSu.out _ qBq).mono ?_;rintro e w1 ⟨hb1,hr⟩;have hB1:Below w.heap.size w w1:=qBq;have x0:w1.cell? ⟨w.heap.size,0,none⟩=some (.int .i64 l.id):=cK hb1 sG;have x1:w1.cell? ⟨w.heap.size,1,none⟩=some (.slice p l.legs.length q):=cK hb1 sG;have zx:w.heap.size<w1.heap.size:=wL w1 _ x0;clear hb1 HSu y0 y1 y2 y3 y4;rcases hr with ⟨hlt,p1,q1,rfl,hlv⟩|⟨hlt,rfl⟩
 ·
  have HC:Hid _:=H1.out hlt;have HSa:Hid (bW w1 fun W=>RI 217 #[.agg #[.int .i64 (c.cons.getD (fF c.cons l.id) default).id,.slice p1 (c.cons.getD (fF c.cons l.id) default).legs.length q1],.agg #[.int .i64 l.id,.slice p l.legs.length q]] W (.bool (decide ((c.cons.getD (fF c.cons l.id) default).id=l.id∧(c.cons.getD (fF c.cons l.id) default).legs=l.legs)))):=fun W hW=>fIm _ _ _ _ _ _ W (legsR.below hlv hW) (HL.out W (bS hB1 hW))
  clear H1 H2 hlt hlv HL;generalize c.cons.getD (fF c.cons l.id) default=k at *;generalize decide (k.id=l.id∧k.legs=l.legs)=b at *;generalize k.legs.length=m1 at *;generalize l.legs.length=m2 at *;generalize k.id=i1 at *;generalize l.id=i2 at *;go_wp2_with fail;refine(HSa.out _ qBq).mono ?_;rintro e w2 ⟨rfl,hb2⟩;have hB2:=bT w hb2;clear hb2 HSa;obtain rfl:R=b:=HC.out;cases R;all_goals
   go_wp2;go_ret;exact⟨rfl,hB2⟩
 obtain rfl:R=false:=H2.out hlt;clear H1 H2 hlt HL;go_wp2;go_ret;exact⟨rfl,qBq⟩
theorem fJk (c:Clu) (B:Nat) (s:Slt) (u:Value) (w:World) (a0 a1 a2 a3 a4:Option Addr) (n0 n1 n2 n3 n4 c0 c1 c2 c3 c4:Nat) (hx:cluR.V w (.agg #[.slice a0 n0 c0,.slice a1 n1 c1,.slice a2 n2 c2,.slice a3 n3 c3,.slice a4 n4 c4]) c) (y:w.cell? ⟨B,0,none⟩=some (.slice a0 n0 c0)∧w.cell? ⟨B,1,none⟩=some (.slice a1 n1 c1)∧w.cell? ⟨B,2,none⟩=some (.slice a2 n2 c2)∧w.cell? ⟨B,3,none⟩=some (.slice a3 n3 c3)∧w.cell? ⟨B,4,none⟩=some (.slice a4 n4 c4)) :
  RI 150 #[.agg #[.int .i64 s.con,.int .i64 s.sh,.int .i64 s.pr,.int .i64 s.lb,.int .i64 s.lv,u],.pointer (some ⟨B,0,none⟩)] w (.bool (!hasL c s.con s.sh)):=by
 have HP:Hid (bW w fun W=>RI 151 #[.agg #[.slice a0 n0 c0,.slice a1 n1 c1,.slice a2 n2 c2,.slice a3 n3 c3,.slice a4 n4 c4],.int .i64 s.con,.int .i64 s.sh] W (.bool (hasL c s.con s.sh))):=fun W hW=>vI _ c _ _ W (cluR.below hx hW)
 clear hx;obtain⟨y0,y1,y2,y3,y4⟩:=y;have zB:B<w.heap.size:=wL w _ y0;generalize hasL c s.con s.sh=b at *;go_enter Tryz.func150,Tryz.ntmps150;go_wp2_with fail;refine(HP.out _ qBq).mono ?_;rintro e w1 ⟨rfl,hb1⟩;have hB1:Below w.heap.size w w1:=qBq;clear hb1 HP;cases b;all_goals
  go_wp2;go_ret;exact⟨rfl,hB1⟩
theorem ykeep {w W:World} {B:Nat} {a0 a1 a2 a3 a4:Option Addr} {n0 n1 n2 n3 n4 c0 c1 c2 c3 c4:Nat} (h:Below w.heap.size w W) (y:w.cell? ⟨B,0,none⟩=some (.slice a0 n0 c0)∧w.cell? ⟨B,1,none⟩=some (.slice a1 n1 c1)∧w.cell? ⟨B,2,none⟩=some (.slice a2 n2 c2)∧w.cell? ⟨B,3,none⟩=some (.slice a3 n3 c3)∧w.cell? ⟨B,4,none⟩=some (.slice a4 n4 c4)):W.cell? ⟨B,0,none⟩=some (.slice a0 n0 c0)∧W.cell? ⟨B,1,none⟩=some (.slice a1 n1 c1)∧W.cell? ⟨B,2,none⟩=some (.slice a2 n2 c2)∧W.cell? ⟨B,3,none⟩=some (.slice a3 n3 c3)∧W.cell? ⟨B,4,none⟩=some (.slice a4 n4 c4):=⟨cK h y.1,cK h y.2.1,cK h y.2.2.1,cK h y.2.2.2.1,cK h y.2.2.2.2⟩
theorem fR2 (x y:Value) (c:Clu) (s:Shd) (w:World) (hx:cluR.V w x c) (hy:shdR.V w y s) :
  RI 147 #[x,y] w (.bool (qU c s)):=by
 have HV:Hid (bW w fun W=>cluR.V W x c):=fun W hW=>cluR.below hx hW
 obtain⟨a0,a1,a2,a3,a4,c0,c1,c2,c3,c4,n0,n1,n2,n3,n4,rfl,e0,e1,e2,e3,e4,L0,L1,L2,L3,L4⟩:=gP hx;clear e0 e1 e2 e3 e4 L0 L1 L2 L3 L4 hx;obtain⟨u1,u2,u3,u4,u5,rfl,g1,g2,g3,g4,g5⟩:=hy;obtain⟨p1,q1,rfl⟩:=gU g1;obtain⟨p2,q2,rfl⟩:=fT g2;obtain⟨p3,q3,rfl⟩:=gG g3;obtain⟨p4,q4,rfl⟩:=fT g4;obtain⟨p5,q5,rfl⟩:=gZ g5;have eg1:=enters_of Tryz.func214 kF rfl;have eg2:=enters_of Tryz.func216 kF rfl;have HCM:Hid (∀(v:Value) (ms:List Mrk) (W:World),Below w.heap.size w W→mrksR.V W v ms→(W.cell? ⟨w.heap.size,0,none⟩=some (.slice a0 n0 c0)∧W.cell? ⟨w.heap.size,1,none⟩=some (.slice a1 n1 c1)∧W.cell? ⟨w.heap.size,2,none⟩=some (.slice a2 n2 c2)∧W.cell? ⟨w.heap.size,3,none⟩=some (.slice a3 n3 c3)∧W.cell? ⟨w.heap.size,4,none⟩=some (.slice a4 n4 c4))→W.cell? ⟨w.heap.size+1,0,none⟩=some (.int .i64 s.idx)→RI 215 #[v,.func (.func 214) #[] #[.pointer (some ⟨w.heap.size,0,none⟩),.pointer (some ⟨w.heap.size+1,0,none⟩)]] W (.bool (strange c s.idx ms))):=fun v ms W hW hv hY hz=>fDy 214 _ _ (fun m=>!hasL c m.con s.idx) v ms W hv eg1 (fun k W' hk hW'=>fJs (.int .i64 0) c _ _ _ _ W' a0 a1 a2 a3 a4 n0 n1 n2 n3 n4 c0 c1 c2 c3 c4 (HV.out W' (bS hW hW')) (ykeep hW' hY) (cK hW' hz))
 have HCC:Hid (∀(v:Value) (W:World),Below w.heap.size w W→contsR.V W v s.held→(W.cell? ⟨w.heap.size,0,none⟩=some (.slice a0 n0 c0)∧W.cell? ⟨w.heap.size,1,none⟩=some (.slice a1 n1 c1)∧W.cell? ⟨w.heap.size,2,none⟩=some (.slice a2 n2 c2)∧W.cell? ⟨w.heap.size,3,none⟩=some (.slice a3 n3 c3)∧W.cell? ⟨w.heap.size,4,none⟩=some (.slice a4 n4 c4))→RI 33 #[v,.func (.func 216) #[] #[.pointer (some ⟨w.heap.size,0,none⟩)]] W (.bool (xE c s.held))):=fun v W hW hv hY=>yJ 216 _ (fun l=>!pG c l) v s.held W hv eg2 (fun k W' hk hW' item hi=>fJt c _ _ item W' a0 a1 a2 a3 a4 n0 n1 n2 n3 n4 c0 c1 c2 c3 c4 (HV.out W' (bS hW hW')) (ykeep hW' hY) hi)
 have G2:Hid (bW w fun W=>mrksR.V W (.slice p2 s.votes.length q2) s.votes):=fun W hW=>mrksR.below g2 hW
 have G3:Hid (bW w fun W=>contsR.V W (.slice p3 s.held.length q3) s.held):=fun W hW=>contsR.below g3 hW
 have G4:Hid (bW w fun W=>mrksR.V W (.slice p4 s.done.length q4) s.done):=fun W hW=>mrksR.below g4 hW
 clear g1 g2 g3 g4 g5 eg1 eg2;have HK:Hid (qU c s=(!strange c s.idx s.votes&&(!strange c s.idx s.done && !xE c s.held))):=rfl;generalize qU c s=R at *;go_enter Tryz.func147,Tryz.ntmps147;go_wp2_with fail;refine(HCM.out _ s.votes _ qBq (G2.out _ qBq) ⟨sG,by simp[go_sem],sG,by simp[go_sem],sG⟩ sG).mono ?_;rintro e w1 ⟨rfl,hb1⟩;have hB1:Below w.heap.size w w1:=qBq;have Y1:w1.cell? ⟨w.heap.size,0,none⟩=some (.slice a0 n0 c0)∧w1.cell? ⟨w.heap.size,1,none⟩=some (.slice a1 n1 c1)∧w1.cell? ⟨w.heap.size,2,none⟩=some (.slice a2 n2 c2)∧w1.cell? ⟨w.heap.size,3,none⟩=some (.slice a3 n3 c3)∧w1.cell? ⟨w.heap.size,4,none⟩=some (.slice a4 n4 c4):=⟨cK hb1 sG,cK hb1 sG,cK hb1 sG,cK hb1 sG,cK hb1 sG⟩;have z0:w1.cell? ⟨w.heap.size+1,0,none⟩=some (.int .i64 s.idx):=cK hb1 sG;have z3:w1.cell? ⟨w.heap.size+1,3,none⟩=some (.slice p3 s.held.length q3):=cK hb1 sG;have z4:w1.cell? ⟨w.heap.size+1,4,none⟩=some (.slice p4 s.done.length q4):=cK hb1 sG;clear hb1;cases hv:strange c s.idx s.votes;rotate_left
 ·
  have HC:Hid (R=false):=by show _=_;rw[HK.out,hv];rfl
  go_wp2;go_ret;exact⟨rH,hB1⟩
 have HK1:Hid (R=(!strange c s.idx s.done && !xE c s.held)):=by show _=_;rw[HK.out,hv];rfl
 clear HK hv;go_wp2_with fail;refine(HCM.out _ s.done _ qBq (G4.out _ qBq) (by first|exact Y1|exact ykeep qBq Y1) (by first|exact z0|exact cK qBq z0)).mono ?_;rintro e w2 ⟨rfl,hb2⟩;have hB2:=bT w hb2;replace Y1:w2.cell? ⟨w.heap.size,0,none⟩=some (.slice a0 n0 c0)∧w2.cell? ⟨w.heap.size,1,none⟩=some (.slice a1 n1 c1)∧w2.cell? ⟨w.heap.size,2,none⟩=some (.slice a2 n2 c2)∧w2.cell? ⟨w.heap.size,3,none⟩=some (.slice a3 n3 c3)∧w2.cell? ⟨w.heap.size,4,none⟩=some (.slice a4 n4 c4):=ykeep hb2 (by first|exact Y1|exact ykeep qBq Y1);replace z3:=kQ hb2 z3;clear hb2 z4 z0;cases hd:strange c s.idx s.done;rotate_left
 ·
  have HC:Hid (R=false):=by show _=_;rw[HK1.out,hd];rfl
  go_wp2;go_ret;exact⟨rH,hB2⟩
 have HK2:Hid (R = !xE c s.held):=by show _=_;rw[HK1.out,hd];rfl
 clear HK1 hd;go_wp2_with fail;refine(HCC.out _ _ qBq (G3.out _ qBq) (by first|exact Y1|exact ykeep qBq Y1)).mono ?_;rintro e w3 ⟨rfl,hb3⟩;have hB3:=bT w hb3;clear hb3;generalize xE c s.held=hq at *;cases hq;all_goals
  go_wp2;go_ret;exact⟨by rw[HK2.out];rfl,hB3⟩
theorem fL5 (x:Value) (c:Clu) (w:World) (hx:cluR.V w x c) :
  RI 78 #[x] w (.int .i64 (uX c)):=by
 have HV:Hid (bW w fun W=>cluR.V W x c):=fun W hW=>cluR.below hx hW
 have hx':=hx;obtain⟨a0,a1,a2,a3,a4,c0,c1,c2,c3,c4,n0,n1,n2,n3,n4,rfl,e0,e1,e2,e3,e4,L0,L1,L2,L3,L4⟩:=gP hx;obtain⟨u1,u2,u3,u4,u5,eq,h1,h2,h3,h4,h5⟩:=hx';simp only[Value.agg.injEq,Array.mk.injEq,List.cons.injEq,and_true] at eq;obtain⟨rfl,rfl,rfl,rfl,rfl⟩:=eq;obtain⟨_,hnc,hmc,HA⟩:=fGu h2;unfold maxLen at hmc;have HX:Hid _:=HA;clear HA h1 h2 h3 h4 h5 hx;have H1:Hid (∀k,k<n1→fC (rE c) k=0→¬rE c k=0→uX c=rE c k):=fun k hk hs h0=>by unfold uX;exact fK hs h0 _ (by rw[e1];exact hk)
 have H2:Hid (fC (rE c) n1=0→uX c=0):=fun h=>by unfold uX;rw[e1];exact h
 clear e0 e1 e2 e3 e4 L0 L2 L3 L4;generalize uX c=R at *;go_enter Tryz.func78,Tryz.ntmps78;go_wp2;go_loopw [9] (fun i w'=>∃k:Nat,k≤n1∧i =.int .i64 k∧Hid (fC (rE c) k=0)∧(w'.cell? ⟨w.heap.size,0,none⟩=some (.slice a0 n0 c0)∧w'.cell? ⟨w.heap.size,1,none⟩=some (.slice a1 n1 c1)∧w'.cell? ⟨w.heap.size,2,none⟩=some (.slice a2 n2 c2)∧w'.cell? ⟨w.heap.size,3,none⟩=some (.slice a3 n3 c3)∧w'.cell? ⟨w.heap.size,4,none⟩=some (.slice a4 n4 c4))∧Below w.heap.size w w') (fun i _=>n1-(intOf i).toNat)
 case atStart=>exact⟨0,oM,rfl,rfl,⟨sG,by simp[go_sem],sG,by simp[go_sem],sG⟩,qBq⟩
 obtain⟨k,hk,rfl,HS,⟨y0,y1,y2,y3,y4⟩,hbl⟩:=hrel;have zq:w.heap.size<wr.heap.size:=wL wr _ y0;by_cases hlt:k<n1
 ·
  have HA:=HX.out k hlt;have HH:Hid (¬rE c k=0→R=rE c k):=fun h=>H1.out k hlt HS.out h
  have HZ:Hid (rE c k=0→fC (rE c) (k+1)=0):=fun h=>fE HS.out h
  have HD:Hid (rE c k=orF (shdF (c.shards.getD k default)) (if (c.shards.getD k default).idx=(k:Int)∧qU c (c.shards.getD k default)=true then 0 else 1)):=rfl;obtain⟨s,hs0⟩:∃s,s=c.shards.getD k default:=⟨_,rfl⟩
  rw[←hs0] at HA HD;clear hs0;obtain⟨b,o,v1,v2,v3,v4,v5,rfl,g0,g1,g2,g3,g4,g5,hv⟩:=HA;have HF:Hid (bW w fun W=>RI 146 #[.agg #[.int .i64 s.idx,v1,v2,v3,v4,v5]] W (.int .i64 (shdF s))):=fun W hW=>fIn _ s W (shdR.below hv hW)
  have HKn:Hid (bW w fun W=>RI 147 #[.agg #[.slice a0 n0 c0,.slice (some ⟨b,o,none⟩) n1 c1,.slice a2 n2 c2,.slice a3 n3 c3,.slice a4 n4 c4],.agg #[.int .i64 s.idx,v1,v2,v3,v4,v5]] W (.bool (qU c s))):=fun W hW=>fR2 _ _ c s W (HV.out W hW) (shdR.below hv hW)
  obtain⟨_,_,_,_,_,eq,f1,f2,f3,f4,f5⟩:=hv;simp only[Value.agg.injEq,Array.mk.injEq,List.cons.injEq,and_true,true_and] at eq;obtain⟨rfl,rfl,rfl,rfl,rfl⟩:=eq;obtain⟨p1,q1,rfl⟩:=gU f1;obtain⟨p2,q2,rfl⟩:=fT f2;obtain⟨p3,q3,rfl⟩:=gG f3;obtain⟨p4,q4,rfl⟩:=fT f4;obtain⟨p5,q5,rfl⟩:=gZ f5;clear f1 f2 f3 f4 f5;replace g0:=cK hbl g0;replace g1:=cK hbl g1;replace g2:=cK hbl g2;replace g3:=cK hbl g3;replace g4:=cK hbl g4;replace g5:=cK hbl g5;have zb:b<wr.heap.size:=wL wr _ g0;have hti:(k:Int)<(n1:Int):=oM;generalize rE c k=z at *;generalize qU c s=kn at *;generalize shdF s=sf at *;generalize s.bals.length=l1 at *;generalize s.votes.length=l2 at *;generalize s.held.length=l3 at *;generalize s.done.length=l4 at *;generalize s.appl.length=l5 at *;generalize s.idx=ix at *;go_wp2_with fail;refine(HF.out _ qBq).mono ?_;rintro e w1 ⟨rfl,hb1⟩;have hB1:=bT w hb1;have t0:w1.cell? ⟨wr.heap.size,0,none⟩=some (.int .i64 ix):=cK hb1 sG;have t1:w1.cell? ⟨wr.heap.size,1,none⟩=some (.slice p1 l1 q1):=cK hb1 sG;have t2:w1.cell? ⟨wr.heap.size,2,none⟩=some (.slice p2 l2 q2):=cK hb1 sG;have t3:w1.cell? ⟨wr.heap.size,3,none⟩=some (.slice p3 l3 q3):=cK hb1 sG;have t4:w1.cell? ⟨wr.heap.size,4,none⟩=some (.slice p4 l4 q4):=cK hb1 sG;have t5:w1.cell? ⟨wr.heap.size,5,none⟩=some (.slice p5 l5 q5):=cK hb1 sG;replace y0:=cK hb1 (cK qBq y0);replace y1:=cK hb1 (cK qBq y1);replace y2:=cK hb1 (cK qBq y2);replace y3:=cK hb1 (cK qBq y3);replace y4:=cK hb1 (cK qBq y4);have zw1:wr.heap.size<w1.heap.size:=wL w1 _ t0;clear hb1 HF g0 g1 g2 g3 g4 g5
  by_cases hsf:sf=0
  rotate_left
  ·
   have hz:z=sf:=by rw[HD.out,xN hsf]
   have HC:Hid (R=sf):=by show _=_;rw[←hz];exact HH.out (by rw[hz];exact hsf)
   have hsf':(sf !=0)=true:=by simp[hsf]
   clear HH HZ HD hz;go_wp2;go_ret;exact⟨rH,hB1⟩
  subst hsf;have HD2:Hid (z=if ix=(k:Int)∧kn=true then 0 else 1):=by show _=_;rw[HD.out,vS rfl]
  clear HD;by_cases hix:ix=(k:Int);rotate_left
  ·
   have hz:z=1:=by rw[HD2.out,if_neg (fun h=>hix h.1)]
   have HC:Hid (R=1):=by show _=_;rw[←hz];exact HH.out (by rw[hz];omega)
   have hix':(ix !=(k:Int))=true:=by simp[hix]
   clear HH HZ HD2 hz;go_wp2;go_ret;exact⟨rH,hB1⟩
  have hix':(ix !=(k:Int))=false:=by simp[hix]
  have HIX:Hid (ix=(k:Int)):=hix;clear hix;go_wp2_with fail;refine(HKn.out _ qBq).mono ?_;rintro e w2 ⟨rfl,hb2⟩;have hB2:=bT w hb2;have Y2:=And.intro (kQ hb2 y0) (And.intro (kQ hb2 y1) (And.intro (kQ hb2 y2) (And.intro (kQ hb2 y3) (kQ hb2 y4))));clear hb2 HKn;cases kn
  ·
   have hz:z=1:=by rw[HD2.out,if_neg (fun h=>by cases h.2)]
   have HC:Hid (R=1):=by show _=_;rw[←hz];exact HH.out (by rw[hz];omega)
   clear HH HZ HD2 hz;go_wp2;go_ret;exact⟨rH,hB2⟩
  have hz:z=0:=by rw[HD2.out,if_pos ⟨HIX.out,rfl⟩]
  have HQ:Hid _:=HZ.out hz;clear HH HZ HD2 hz;go_wp2;exact⟨⟨k+1,by omega,by go_num,HQ,Y2,hB2⟩,mI⟩
 obtain rfl:k=n1:=oM;have hti:¬(k:Int)<(k:Int):=oM;have HC:Hid (R=0):=H2.out HS.out;go_wp2;go_ret;exact⟨rH,hbl⟩
theorem fQd (x:Value) (c:Clu) (w:World) (hx:cluR.V w x c) :
  RI 79 #[x] w (.int .i64 (vC c)):=by
 have HV:Hid (bW w fun W=>cluR.V W x c):=fun W hW=>cluR.below hx hW
 have hx':=hx;obtain⟨a0,a1,a2,a3,a4,c0,c1,c2,c3,c4,n0,n1,n2,n3,n4,rfl,e0,e1,e2,e3,e4,L0,L1,L2,L3,L4⟩:=gP hx;obtain⟨u1,u2,u3,u4,u5,eq,h1,h2,h3,h4,h5⟩:=hx';simp only[Value.agg.injEq,Array.mk.injEq,List.cons.injEq,and_true] at eq;obtain⟨rfl,rfl,rfl,rfl,rfl⟩:=eq;obtain⟨_,hnc,hmc,HA⟩:=fMv h3;unfold maxLen at hmc;have HX:Hid _:=HA;clear HA h1 h2 h3 h4 h5 hx;have eg1:=enters_of Tryz.func150 kF rfl;have HCS:Hid (∀(v:Value) (ss:List Slt) (W:World),Below w.heap.size w W→sltsR.V W v ss→(W.cell? ⟨w.heap.size,0,none⟩=some (.slice a0 n0 c0)∧W.cell? ⟨w.heap.size,1,none⟩=some (.slice a1 n1 c1)∧W.cell? ⟨w.heap.size,2,none⟩=some (.slice a2 n2 c2)∧W.cell? ⟨w.heap.size,3,none⟩=some (.slice a3 n3 c3)∧W.cell? ⟨w.heap.size,4,none⟩=some (.slice a4 n4 c4))→RI 149 #[v,.func (.func 150) #[] #[.pointer (some ⟨w.heap.size,0,none⟩)]] W (.bool (uF c ss))):=fun v ss W hW hv hY=>fDz 150 _ (fun s=>!hasL c s.con s.sh) v ss W hv eg1 (fun k W' hk hW' u=>fJk c _ _ u W' a0 a1 a2 a3 a4 n0 n1 n2 n3 n4 c0 c1 c2 c3 c4 (HV.out W' (bS hW hW')) (ykeep hW' hY))
 clear eg1;have H1:Hid (∀k,k<n2→fC (mZ c) k=0→¬mZ c k=0→vC c=mZ c k):=fun k hk hs h0=>by unfold vC;exact fK hs h0 _ (by rw[e2];exact hk)
 have H2:Hid (fC (mZ c) n2=0→vC c=0):=fun h=>by unfold vC;rw[e2];exact h
 clear e0 e1 e2 e3 e4 L0 L1 L3 L4;generalize vC c=R at *;go_enter Tryz.func79,Tryz.ntmps79;go_wp2;go_loopw [9] (fun i w'=>∃k:Nat,k≤n2∧i =.int .i64 k∧Hid (fC (mZ c) k=0)∧(w'.cell? ⟨w.heap.size,0,none⟩=some (.slice a0 n0 c0)∧w'.cell? ⟨w.heap.size,1,none⟩=some (.slice a1 n1 c1)∧w'.cell? ⟨w.heap.size,2,none⟩=some (.slice a2 n2 c2)∧w'.cell? ⟨w.heap.size,3,none⟩=some (.slice a3 n3 c3)∧w'.cell? ⟨w.heap.size,4,none⟩=some (.slice a4 n4 c4))∧Below w.heap.size w w') (fun i _=>n2-(intOf i).toNat)
 case atStart=>exact⟨0,oM,rfl,rfl,⟨sG,by simp[go_sem],sG,by simp[go_sem],sG⟩,qBq⟩
 obtain⟨k,hk,rfl,HS,⟨y0,y1,y2,y3,y4⟩,hbl⟩:=hrel;have zq:w.heap.size<wr.heap.size:=wL wr _ y0;by_cases hlt:k<n2
 ·
  have HA:=HX.out k hlt;have HH:Hid (¬mZ c k=0→R=mZ c k):=fun h=>H1.out k hlt HS.out h
  have HZ:Hid (mZ c k=0→fC (mZ c) (k+1)=0):=fun h=>fE HS.out h
  have HD:Hid (mZ c k=orF (accF (c.accs.getD k default).slots) (if uF c (c.accs.getD k default).slots=true then 4 else 0)):=rfl;obtain⟨s,hs0⟩:∃s,s=c.accs.getD k default:=⟨_,rfl⟩
  rw[←hs0] at HA HD;clear hs0;obtain⟨b,o,p,q,rfl,g0,hv⟩:=HA;have HF:Hid (bW w fun W=>RI 148 #[.agg #[.slice p s.slots.length q]] W (.int .i64 (accF s.slots))):=fun W hW=>fBk _ s W ⟨_,rfl,sltsR.below hv hW⟩
  have HKn:Hid (bW w fun W=>(W.cell? ⟨w.heap.size,0,none⟩=some (.slice a0 n0 c0)∧W.cell? ⟨w.heap.size,1,none⟩=some (.slice a1 n1 c1)∧W.cell? ⟨w.heap.size,2,none⟩=some (.slice (some ⟨b,o,none⟩) n2 c2)∧W.cell? ⟨w.heap.size,3,none⟩=some (.slice a3 n3 c3)∧W.cell? ⟨w.heap.size,4,none⟩=some (.slice a4 n4 c4))→RI 149 #[.slice p s.slots.length q,.func (.func 150) #[] #[.pointer (some ⟨w.heap.size,0,none⟩)]] W (.bool (uF c s.slots))):=fun W hW hY=>HCS.out _ _ W hW (sltsR.below hv hW) hY
  clear hv;replace g0:=cK hbl g0;have zb:b<wr.heap.size:=wL wr _ g0;have hti:(k:Int)<(n2:Int):=oM;generalize mZ c k=z at *;generalize uF c s.slots=kn at *;generalize accF s.slots=sf at *;generalize s.slots.length=l1 at *;go_wp2_with fail;refine(HF.out _ qBq).mono ?_;rintro e w1 ⟨rfl,hb1⟩;have hB1:=bT w hb1;have t0:w1.cell? ⟨wr.heap.size,0,none⟩=some (.slice p l1 q):=cK hb1 sG;replace y0:=cK hb1 (cK qBq y0);replace y1:=cK hb1 (cK qBq y1);replace y2:=cK hb1 (cK qBq y2);replace y3:=cK hb1 (cK qBq y3);replace y4:=cK hb1 (cK qBq y4);have zw1:wr.heap.size<w1.heap.size:=wL w1 _ t0;clear hb1 HF g0;by_cases hsf:sf=0;rotate_left
  ·
   have hz:z=sf:=by rw[HD.out,xN hsf]
   have HC:Hid (R=sf):=by show _=_;rw[←hz];exact HH.out (by rw[hz];exact hsf)
   have hsf':(sf !=0)=true:=by simp[hsf]
   clear HH HZ HD hz;go_wp2;go_ret;exact⟨rH,hB1⟩
  subst hsf;have HD2:Hid (z=if kn=true then 4 else 0):=by show _=_;rw[HD.out,vS rfl]
  clear HD;go_wp2_with fail;refine(HKn.out _ qBq (by first|exact⟨y0,y1,y2,y3,y4⟩|exact ykeep qBq ⟨y0,y1,y2,y3,y4⟩)).mono ?_;rintro e w2 ⟨rfl,hb2⟩;have hB2:=bT w hb2;have Y2:=And.intro (kQ hb2 y0) (And.intro (kQ hb2 y1) (And.intro (kQ hb2 y2) (And.intro (kQ hb2 y3) (kQ hb2 y4))));clear hb2 HKn;cases kn;rotate_left
  ·
   have hz:z=4:=by rw[HD2.out,if_pos rfl]
   have HC:Hid (R=4):=by show _=_;rw[←hz];exact HH.out (by rw[hz];omega)
   clear HH HZ HD2 hz;go_wp2;go_ret;exact⟨rH,hB2⟩
  have hz:z=0:=by rw[HD2.out];rfl
  have HQ:Hid _:=HZ.out hz;clear HH HZ HD2 hz;go_wp2;exact⟨⟨k+1,by omega,by go_num,HQ,Y2,hB2⟩,mI⟩
 obtain rfl:k=n2:=oM;have hti:¬(k:Int)<(k:Int):=oM;have HC:Hid (R=0):=H2.out HS.out;go_wp2;go_ret;exact⟨rH,hbl⟩
end Go.Proofs.YtbfnobcidnmohaaGreat

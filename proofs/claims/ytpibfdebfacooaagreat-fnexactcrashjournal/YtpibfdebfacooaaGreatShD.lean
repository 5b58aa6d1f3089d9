import Derived.Test.YtpibfdebfacooaaGreatPrnCrashJournalLaw15
set_option maxHeartbeats 16000000
set_option maxRecDepth 20000
set_option linter.unusedSimpArgs false
set_option linter.unusedVariables false
set_option linter.unusedSectionVars false
namespace Go.Proofs.YtpibfdebfacooaaGreat
open Go.RowKit
variable [dQ Rw] [iH Rw] [dQ Bal] [iH Bal] [dQ Ledg] [iH Ledg] [dQ Leg] [iH Leg] [dQ Cont] [iH Cont] [dQ LedgR] [iH LedgR] [dQ OutcR] [iH OutcR] [dQ Mrk] [iH Mrk] [dQ Shd] [iH Shd] [dQ ShdR] [iH ShdR]
attribute [local go_sem ↓] Go.wp_at_zero Go.wp_at_succ
def fAe (s:Shd):Int:=if fJ (kC s) s.held.length=0 then (if fJ (kG s) s.votes.length=0 then (if xU s.done s.appl=true then yT s else 1) else 1) else fJ (kC s) s.held.length
theorem fTt {s:Shd} (h0:pW s.idx s.bals=0) (h1:¬(100<s.votes.length∨100<s.held.length∨100<s.done.length∨100<s.appl.length)) (h2:mrkF s.votes=0) (h3:mrkF s.done=0):shdF s=fAe s:=by
 unfold shdF kZ fAe;rw[if_pos h0,if_neg h1,if_pos h2,if_pos h3];by_cases a:fJ (kC s) s.held.length=0
 ·
  rw[if_pos a,if_pos a];by_cases b:fJ (kG s) s.votes.length=0
  ·
   rw[if_pos b,if_pos b];by_cases c:xU s.done s.appl=true
   ·rw[if_pos c,if_pos c,if_pos rfl]
   rw[if_neg c,if_neg c,if_neg oM]
  rw[if_neg b,if_neg b,if_neg oM]
 rw[if_neg a,if_neg a,if_neg a]
theorem fRk {s:Shd} {k:Nat} {c:Int} (hk:k<s.held.length) (hs:fJ (kC s) k=0) (h:kC s k=c) (hc:c≠0):fAe s=c:=by
 have e:=mW hs (by rw[h];exact hc) _ hk;unfold fAe;rw[e,h,if_neg hc]
theorem fRl {s:Shd} {k:Nat} (h0:fJ (kC s) s.held.length=0) (hk:k<s.votes.length) (hs:fJ (kG s) k=0) (h:kG s k=1):fAe s=1:=by
 have e:=mW hs (by rw[h];omega) _ hk;unfold fAe;rw[if_pos h0,e,h,if_neg oM]
theorem fRj {s:Shd} (h0:fJ (kC s) s.held.length=0) (h1:fJ (kG s) s.votes.length=0):fAe s=if xU s.done s.appl=true then yT s else 1:=by
 unfold fAe;rw[if_pos h0,if_pos h1]
theorem fMr {s:Shd} {k:Nat} (hk:k<s.held.length) (hs:fJ (gT s) k=0) (h:gT s k=7):yT s=7:=by
 have e:=mW hs (by rw[h];omega) _ hk;unfold yT;rw[e,h,if_neg oM]
theorem fMs {s:Shd} {k:Nat} {c:Int} (h0:fJ (gT s) s.held.length=0) (hk:k<s.held.length) (hs:fJ (gL s) k=0) (h:gL s k=c) (hc:c≠0):yT s=c:=by
 have e:=mW hs (by rw[h];exact hc) _ hk;unfold yT;rw[if_pos h0,e,h]
theorem fVl {s:Shd} (h0:fJ (gT s) s.held.length=0) (h:fJ (gL s) s.held.length=0):yT s=0:=by
 unfold yT;rw[if_pos h0,h]
theorem fEo {s:Shd} {k:Nat} (h:¬fA (s.held.getD k default).id (s.held.getD k default).legs=0):kC s k=fA (s.held.getD k default).id (s.held.getD k default).legs:=by unfold kC;rw[if_neg h]
theorem fG2 {s:Shd} {k:Nat} (h:fA (s.held.getD k default).id (s.held.getD k default).legs=0) (h2:¬(tZ s.held k=true∧¬(onSh s.idx (s.held.getD k default).legs).length=0∧fK (s.held.getD k default).id s.votes=1∧fK (s.held.getD k default).id s.done=0)):kC s k=1:=by unfold kC;rw[if_pos h,if_neg h2]
theorem fKb {s:Shd} {k:Nat} (h:fA (s.held.getD k default).id (s.held.getD k default).legs=0) (h2:tZ s.held k=true∧¬(onSh s.idx (s.held.getD k default).legs).length=0∧fK (s.held.getD k default).id s.votes=1∧fK (s.held.getD k default).id s.done=0):kC s k=0:=by unfold kC;rw[if_pos h,if_pos h2]
structure HeldOk (s:Shd):Prop where
 cf:∀k,k<s.held.length→fA (s.held.getD k default).id (s.held.getD k default).legs=0
 rise:∀i j,i<j→j<s.held.length→(s.held.getD i default).id<(s.held.getD j default).id
 leg:∀k,k<s.held.length→¬(onSh s.idx (s.held.getD k default).legs).length=0
 vote:∀k,k<s.held.length→fK (s.held.getD k default).id s.votes=1
 open_:∀k,k<s.held.length→fK (s.held.getD k default).id s.done=0
theorem fEt {s:Shd} (h:fJ (kC s) s.held.length=0):HeldOk s:=by
 have h1:=uM h;have h2:∀k,k<s.held.length→fA (s.held.getD k default).id (s.held.getD k default).legs=0∧tZ s.held k=true∧¬(onSh s.idx (s.held.getD k default).legs).length=0∧fK (s.held.getD k default).id s.votes=1∧fK (s.held.getD k default).id s.done=0:=fun k hk=>by
  have h3:=h1 k hk;unfold kC at h3;split at h3
  ·
   rename_i h4;split at h3
   ·rename_i h5;exact⟨h4,h5⟩
   omega
  rename_i h4;exact absurd h3 h4
 have hr:∀k,k+1<s.held.length→(s.held.getD k default).id<(s.held.getD (k+1) default).id:=fun k hk=>by
  have h3:=(h2 (k+1) hk).2.1;unfold tZ at h3;rw[decide_eq_true_iff] at h3;rcases h3 with h3|h3
  ·omega
  rw[Nat.add_sub_cancel] at h3;exact h3
 refine⟨fun k hk=>(h2 k hk).1,fun i j=>?_,fun k hk=>(h2 k hk).2.2.1,fun k hk=>(h2 k hk).2.2.2.1,fun k hk=>(h2 k hk).2.2.2.2⟩;induction j with
 | zero=>intro h;omega
 | succ j ih=>
  intro hij hj;have:=hr j hj;by_cases e:i=j
  ·rw[e];exact this
  have:=ih oM oM;omega
theorem HeldOk.fault {s:Shd} (h:HeldOk s) {k:Nat} (hk:k<s.held.length):∀l ∈ (s.held.getD k default).legs,gI l=0:=fun l hl=>by
 obtain⟨i,hi,rfl⟩:=List.getElem_of_mem hl;have h1:=((fGv (h.cf k hk)).2.2.2.1 i hi).1;have e:(s.held.getD k default).legs.getD i default=(s.held.getD k default).legs[i]:=by rw[List.getD,List.getElem?_eq_getElem hi];rfl
 rw[e] at h1;exact h1
theorem HeldOk.small {s:Shd} (h:HeldOk s) {k:Nat} (hk:k<s.held.length):small (kH s k):=fun j hj=>by
 have hm:(kH s k).getD j default ∈ kH s k:=by simp[List.getD,hj]
 exact(gZ (h.fault hk _ (List.mem_filter.1 hm).1)).2.2.2.1
theorem HeldOk.len {s:Shd} (h:HeldOk s) {k:Nat} (hk:k<s.held.length):(s.held.getD k default).legs.length≤8:=(fGv (h.cf k hk)).2.2.1
theorem fMv (x:Value) (d:Shd) (w:World) (hx:shdR.V w x d) (hbo:BalsOk d.bals) :
  RI 151 #[x] w (.int .i64 (fAe d)):=by
 have HIs:Hid (∀W c,Below w.heap.size w W→RI 157 #[x,.int .i64 c] W (.bool (fO d.held c))):=fun W c hW=>fBj x d c W (shdR.below hx hW)
 have HAp:Hid (bW w fun W=>RI 182 #[x] W (.bool (xU d.done d.appl))):=fun W hW=>fGe x d W (shdR.below hx hW)
 obtain⟨u1,u2,u3,u4,u5,rfl,h1,h2,h3,h4,h5⟩:=hx;have HVo:Hid (∀W c,Below w.heap.size w W→RI 153 #[u2,.int .i64 c] W (.int .i64 (fK c d.votes))):=fun W c hW=>rW u2 _ c W (mrksR.below h2 hW)
 have HDo:Hid (∀W c,Below w.heap.size w W→RI 153 #[u4,.int .i64 c] W (.int .i64 (fK c d.done))):=fun W c hW=>rW u4 _ c W (mrksR.below h4 hW)
 have HL2:Hid (∀W y ls,Below w.heap.size w W→legsR.V W y ls→small ls→RI 184 #[u1,y] W (.int .i64 (xW d.bals ls))):=fun W y ls hW hy hs=>fHa u1 y d.bals ls W (balsR.below h1 hW) hy (fFq hbo) hs
 have HCf:Hid (∀W k p q,Below w.heap.size w W→k<d.held.length→contR.V w (.agg #[.int .i64 (d.held.getD k default).id,.slice p (d.held.getD k default).legs.length q]) (d.held.getD k default)→RI 86 #[.agg #[.int .i64 (d.held.getD k default).id,.slice p (d.held.getD k default).legs.length q]] W (.int .i64 (fA (d.held.getD k default).id (d.held.getD k default).legs))):=fun W k p q hW hk hV=>by
  obtain⟨u,e,hu⟩:=contR.below hV hW;simp only[Value.agg.injEq,Array.mk.injEq,List.cons.injEq,and_true,true_and] at e;subst e;exact uJ _ _ _ W hu
 have HLg:Hid (∀W k p q,Below w.heap.size w W→k<d.held.length→fA (d.held.getD k default).id (d.held.getD k default).legs=0→contR.V w (.agg #[.int .i64 (d.held.getD k default).id,.slice p (d.held.getD k default).legs.length q]) (d.held.getD k default)→Calls Tryz.prog 127 #[.agg #[.int .i64 (d.held.getD k default).id,.slice p (d.held.getD k default).legs.length q],.int .i64 d.idx] W fun e w'=>∃v,e =.returned v∧w'.ownsRow W.heap.size 168 4 v (kH d k).length (gN (kH d k))∧Below W.heap.size W w'):=fun W k p q hW hk h0 hV=>by
  obtain⟨u,e,hu⟩:=contR.below hV hW;simp only[Value.agg.injEq,Array.mk.injEq,List.cons.injEq,and_true,true_and] at e;subst e;exact xJ _ _ _ _ W hu (by have:=(fGv h0).2.2.1;omega)
 obtain⟨a1,c1,rfl⟩:=fP h1;obtain⟨a2,c2,rfl,hc2,hm2,hx2⟩:=h2;obtain⟨a3,c3,rfl,hc3,hm3,hx3⟩:=qH h3;obtain⟨a4,c4,rfl⟩:=fF h4;obtain⟨a5,c5,rfl⟩:=gJ h5;unfold maxLen at hm2 hm3;have HX2:Hid (∀i,i<d.votes.length→∃b o,a2=some ⟨b,o,none⟩∧qJ w b (o+i*2) (d.votes.getD i default)):=hx2;have HX3:Hid (∀k,k<d.held.length→∃b o p q,a3=some ⟨b,o,none⟩∧w.cell? ⟨b,o+k*2,none⟩=some (.int .i64 (d.held.getD k default).id)∧w.cell? ⟨b,o+k*2+1,none⟩=some (.slice p (d.held.getD k default).legs.length q)∧contR.V w (.agg #[.int .i64 (d.held.getD k default).id,.slice p (d.held.getD k default).legs.length q]) (d.held.getD k default)):=hx3;have HHe:Hid (∀k c,k<d.held.length→fJ (kC d) k=0→kC d k=c→c≠0→fAe d=c):=fun k c hk hs h hc=>fRk hk hs h hc
 have HLo:Hid (fJ (kC d) d.held.length=0→∀k,k<d.votes.length→fJ (kG d) k=0→kG d k=1→fAe d=1):=fun h0 k hk hs h=>fRl h0 hk hs h
 have HTa:Hid (fJ (kC d) d.held.length=0→fJ (kG d) d.votes.length=0→fAe d=if xU d.done d.appl=true then yT d else 1):=fun h0 h1=>fRj h0 h1
 have HKa:Hid (∀k,k<d.held.length→fJ (gT d) k=0→gT d k=7→yT d=7):=fun k hk hs h=>fMr hk hs h
 have HKc:Hid (fJ (gT d) d.held.length=0→∀k c,k<d.held.length→fJ (gL d) k=0→gL d k=c→c≠0→yT d=c):=fun h0 k c hk hs h hc=>fMs h0 hk hs h hc
 have HKo:Hid (fJ (gT d) d.held.length=0→fJ (gL d) d.held.length=0→yT d=0):=fun h0 h=>fVl h0 h
 have HOk:Hid (fJ (kC d) d.held.length=0→HeldOk d):=fun h=>fEt h
 clear h1 h3 h4 h5 hx2 hx3;obtain⟨n3,hn3⟩:∃n3,n3=d.held.length:=⟨_,rfl⟩
 have HN3:Hid (d.held.length=n3):=hn3.symm;rw[←hn3] at HX3 HHe HLo HTa HKa HKc HKo HOk HCf HLg HIs HAp hc3 ⊢;clear hn3;obtain⟨n2,hn2⟩:∃n2,n2=d.votes.length:=⟨_,rfl⟩
 rw[←hn2] at HX2 HLo HTa HVo HIs HAp hc2 ⊢;clear hn2;generalize d.bals.length=n1 at *;generalize d.done.length=n4 at *;generalize d.appl.length=n5 at *;obtain⟨Z,hZ⟩:∃Z,Z=fAe d:=⟨_,rfl⟩
 rw[←hZ] at HHe HLo HTa ⊢;clear hZ;go_enter Tryz.func151,Tryz.ntmps151;go_wp2;obtain⟨w0,hw0⟩:∃w0,w0=w.alloc (.cells #[.int .i64 d.idx,.slice a1 n1 c1,.slice a2 n2 c2,.slice a3 n3 c3,.slice a4 n4 c4,.slice a5 n5 c5] 41):=⟨_,rfl⟩
 have y0:w0.cell? ⟨w.heap.size,0,none⟩=some (.int .i64 d.idx):=by rw[hw0];simp[go_sem]
 have y1:w0.cell? ⟨w.heap.size,1,none⟩=some (.slice a1 n1 c1):=by rw[hw0];simp[go_sem]
 have y2:w0.cell? ⟨w.heap.size,2,none⟩=some (.slice a2 n2 c2):=by rw[hw0];simp[go_sem]
 have y3:w0.cell? ⟨w.heap.size,3,none⟩=some (.slice a3 n3 c3):=by rw[hw0];simp[go_sem]
 have y4:w0.cell? ⟨w.heap.size,4,none⟩=some (.slice a4 n4 c4):=by rw[hw0];simp[go_sem]
 have y5:w0.cell? ⟨w.heap.size,5,none⟩=some (.slice a5 n5 c5):=by rw[hw0];simp[go_sem]
 have hB0:Below w.heap.size w w0:=by rw[hw0];exact qBq
 rw[←hw0];clear hw0;go_loopw [3] (fun i w'=>∃k:Nat,k≤n3∧i =.int .i64 k∧Hid (fJ (kC d) k=0)∧Below w0.heap.size w0 w') (fun i _=>n3-(intOf i).toNat)
 case atStart=>exact⟨0,oM,rfl,rfl,bR _ _⟩
 obtain⟨k,hk,rfl,HS,hbl⟩:=hrel;replace y0:=cK hbl y0;replace y1:=cK hbl y1;replace y2:=cK hbl y2;replace y3:=cK hbl y3;replace y4:=cK hbl y4;replace y5:=cK hbl y5;have hBr:Below w.heap.size w wr:=bS hB0 hbl;have zq:w.heap.size<wr.heap.size:=wL wr _ y0;by_cases hlt:k<n3
 ·
  obtain⟨bx,ox,pp,qq,rfl,g0,g1,hV⟩:=HX3.out k hlt;have HC1:Hid (bW wr fun W=>RI 86 #[.agg #[.int .i64 (d.held.getD k default).id,.slice pp (d.held.getD k default).legs.length qq]] W (.int .i64 (fA (d.held.getD k default).id (d.held.getD k default).legs))):=fun W hW=>HCf.out W k pp qq (bS hBr hW) hlt hV
  have HC2:Hid (bW wr fun W=>fA (d.held.getD k default).id (d.held.getD k default).legs=0→Calls Tryz.prog 127 #[.agg #[.int .i64 (d.held.getD k default).id,.slice pp (d.held.getD k default).legs.length qq],.int .i64 d.idx] W fun e w'=>∃v,e =.returned v∧w'.ownsRow W.heap.size 168 4 v (kH d k).length (gN (kH d k))∧Below W.heap.size W w'):=fun W hW h0=>HLg.out W k pp qq (bS hBr hW) hlt h0 hV
  have HC3:Hid (bW wr fun W=>RI 153 #[.slice a2 n2 c2,.int .i64 (d.held.getD k default).id] W (.int .i64 (fK (d.held.getD k default).id d.votes))):=fun W hW=>HVo.out W _ (bS hBr hW)
  have HC4:Hid (bW wr fun W=>RI 153 #[.slice a4 n4 c4,.int .i64 (d.held.getD k default).id] W (.int .i64 (fK (d.held.getD k default).id d.done))):=fun W hW=>HDo.out W _ (bS hBr hW)
  have HE1:Hid (¬fA (d.held.getD k default).id (d.held.getD k default).legs=0→Z=fA (d.held.getD k default).id (d.held.getD k default).legs):=fun h=>HHe.out k _ hlt HS.out (fEo h) h
  have HE2:Hid (fA (d.held.getD k default).id (d.held.getD k default).legs=0→¬(tZ d.held k=true∧¬(kH d k).length=0∧fK (d.held.getD k default).id d.votes=1∧fK (d.held.getD k default).id d.done=0)→Z=1):=fun h h2=>HHe.out k 1 hlt HS.out (fG2 h h2) oM
  have HE3:Hid (fA (d.held.getD k default).id (d.held.getD k default).legs=0→(tZ d.held k=true∧¬(kH d k).length=0∧fK (d.held.getD k default).id d.votes=1∧fK (d.held.getD k default).id d.done=0)→fJ (kC d) (k+1)=0):=fun h h2=>gP HS.out (fKb h h2)
  have hpre:∀m,k=m+1→∃q,wr.cell? ⟨bx,ox+m*2,none⟩=some (.int .i64 q)∧(tZ d.held k=decide (q<(d.held.getD k default).id)):=fun m hm=>by
   obtain⟨bx',ox',_,_,he,g2,_,_⟩:=HX3.out m oM;simp only[Option.some.injEq,Addr.mk.injEq,and_true] at he;obtain⟨rfl,rfl⟩:=he;refine⟨_,cK hBr g2,?_⟩;unfold tZ;rw[hm,Nat.add_sub_cancel,decide_eq_decide];constructor
   ·
    rintro(h|h)
    ·omega
    exact h
   exact .inr
  have HPre:Hid (∀m,k=m+1→∃q,wr.cell? ⟨bx,ox+m*2,none⟩=some (.int .i64 q)∧(tZ d.held k=decide (q<(d.held.getD k default).id))):=hpre;have HR0:Hid (k=0→tZ d.held k=true):=fun h=>by unfold tZ;exact decide_eq_true (.inl h)
  replace g0:=cK hBr g0;replace g1:=cK hBr g1;clear hV hpre HCf HLg HHe HS HOk;generalize (d.held.getD k default).legs.length=ll at *;generalize fA (d.held.getD k default).id (d.held.getD k default).legs=cf at *;generalize fK (d.held.getD k default).id d.votes=fv at *;generalize fK (d.held.getD k default).id d.done=fd at *;generalize (d.held.getD k default).id=qid at *;have zb:bx<wr.heap.size:=wL wr _ g0;go_wp2_with fail;refine(HC1.out _ qBq).mono ?_;rintro e w3 ⟨rfl,hb3⟩;have hB3:=bT wr hb3;have b0:w3.cell? ⟨wr.heap.size,0,none⟩=some (.int .i64 qid):=cK hb3 sG;have b1:w3.cell? ⟨wr.heap.size,1,none⟩=some (.slice pp ll qq):=cK hb3 sG;clear hb3 HC1;by_cases hcf:cf=0;rotate_left
  ·
   have HC:=HE1.out hcf;have hcf':(cf !=0)=true:=by simp[hcf]
   clear HE1 HE2 HE3 HC2 HC3 HC4;go_wp2;go_ret;exact⟨by rw[HC];rfl,qBq⟩
  have HC2':Hid (bW wr fun W=>Calls Tryz.prog 127 #[.agg #[.int .i64 qid,.slice pp ll qq],.int .i64 d.idx] W fun e w'=>∃v,e =.returned v∧w'.ownsRow W.heap.size 168 4 v (kH d k).length (gN (kH d k))∧Below W.heap.size W w'):=fun W hW=>HC2.out W hW hcf
  have HE2':Hid (¬(tZ d.held k=true∧¬(kH d k).length=0∧fv=1∧fd=0)→Z=1):=fun h=>HE2.out hcf h
  have HE3':Hid ((tZ d.held k=true∧¬(kH d k).length=0∧fv=1∧fd=0)→fJ (kC d) (k+1)=0):=fun h=>HE3.out hcf h
  rw[hcf];clear HE1 HE2 HE3 HC2 hcf;replace g0:=cK hB3 g0;replace y0:=cK hB3 y0;replace y1:=cK hB3 y1;replace y2:=cK hB3 y2;replace y3:=cK hB3 y3;replace y4:=cK hB3 y4;replace y5:=cK hB3 y5;have hz3:=hB3.size;generalize tZ d.held k=rs at *;generalize hll:kH d k=lgs at *;clear hll;cases k with
  | zero=>
   have hrs:=HR0.out rfl;subst hrs;clear HPre HR0;simp only[Nat.zero_mul,Nat.add_zero] at g0 g1;go_wp2;refine wp_region_noPanic ?_;refine fB (fun W=>Below w3.heap.size w3 W∧W.cell? ⟨w.heap.size,0,none⟩=some (.int .i64 d.idx)∧W.cell? ⟨w.heap.size,1,none⟩=some (.slice a1 n1 c1)∧W.cell? ⟨w.heap.size,2,none⟩=some (.slice a2 n2 c2)∧W.cell? ⟨w.heap.size,3,none⟩=some (.slice (some ⟨bx,ox,none⟩) n3 c3)∧W.cell? ⟨w.heap.size,4,none⟩=some (.slice a4 n4 c4)∧W.cell? ⟨w.heap.size,5,none⟩=some (.slice a5 n5 c5)∧W.cell? ⟨wr.heap.size,0,none⟩=some (.int .i64 qid)∧W.cell? ⟨wr.heap.size,1,none⟩=some (.slice pp ll qq)) 38 kF ⟨qBq,cK qBq y0,cK qBq y1,cK qBq y2,cK qBq y3,cK qBq y4,cK qBq y5,cK qBq b0,cK qBq b1⟩ (fun hS=>?_);refine tX 0 ?_;refine tX 1 (v:=(.bool false)) ?_;refine tX 2 (v:=(.bool false)) ?_;refine sY 3 ?_;refine sY 4 ?_;refine sY 5 ?_;refine sY 6 ?_;refine sY 7 ?_;refine sY 8 ?_;refine sY 9 ?_;refine sY 10 ?_;refine sY 11 ?_;refine sY 12 ?_;refine tX 13 (v:=(.bool false)) ?_;refine tX 14 (v:=(.bool false)) ?_;refine tX 15 ?_;refine tX 16 ?_;refine tX 17 ?_;refine uS 18 rfl (fun K hK=>?_);go_simp;refine(HC2'.out _ (bS hB3 hS.1)).mono ?_;rintro e wz ⟨vl,rfl,ol,hbz⟩;obtain⟨al,cl,rfl⟩:=fD ol;have hbz':Below w3.heap.size w3 wz:=bS hS.1 hbz;have hS3:=And.intro hbz' (kS8 hbz hS.2);refine hK _ _ (fun _=>hS3) ?_;clear hK K hS hbz;have hS:=hS3;clear hS3;try simp only[jX]
   refine tX 19 ?_;by_cases hl0:lgs.length=0
   ·
    have hl0':(((lgs.length:Nat):Int)==0)=true:=by simp[hl0]
    have HC:=HE2'.out (by rintro⟨_,h,_⟩;exact h hl0);clear HE2' HE3';refine tX 20 (v:=(.bool true)) ?_;refine tX 21 (v:=(.bool true)) ?_;refine tX 22 (v:=(.bool true)) ?_;refine sY 23 ?_;refine sY 24 ?_;refine sY 25 ?_;refine sY 26 ?_;refine sY 27 ?_;refine sY 28 ?_;refine tX 29 (v:=(.bool true)) ?_;refine tX 30 (v:=(.bool true)) ?_;refine sY 31 ?_;refine sY 32 ?_;refine sY 33 ?_;refine sY 34 ?_;refine sY 35 ?_;refine sY 36 ?_;refine tX 37 (v:=(.bool true)) ?_;refine dP ?_;go_wp2;go_ret;exact⟨by first|rfl|(rw[HC];rfl),bS hBr (bS hB3 hS.1)⟩
   have hl0':(((lgs.length:Nat):Int)==0)=false:=by simp;exact fun h=>hl0 (by rw[h];rfl)
   refine tX 20 (v:=(.bool false)) ?_;refine tX 21 (v:=(.bool false)) ?_;refine tX 22 (v:=(.bool false)) ?_;refine tX 23 ?_;refine tX 24 ?_;refine tX 25 ?_;refine tX 26 ?_;refine uS 27 rfl (fun K hK=>?_);go_simp;refine(HC3.out _ (bS hB3 hS.1)).mono ?_;rintro e wz ⟨rfl,hbz⟩;have hbz':Below w3.heap.size w3 wz:=bS hS.1 hbz;have hS3:=And.intro hbz' (kS8 hbz hS.2);refine hK _ _ (fun _=>hS3) ?_;clear hK K hS hbz;have hS:=hS3;clear hS3;try simp only[jX]
   by_cases hfv:fv=1
   rotate_left
   ·
    have hfv':(fv !=1)=true:=by simp[hfv]
    have HC:=HE2'.out (by rintro⟨_,_,h,_⟩;exact hfv h);clear HE2' HE3';refine tX 28 (v:=(.bool true)) ?_;refine tX 29 (v:=(.bool true)) ?_;refine tX 30 (v:=(.bool true)) ?_;refine sY 31 ?_;refine sY 32 ?_;refine sY 33 ?_;refine sY 34 ?_;refine sY 35 ?_;refine sY 36 ?_;refine tX 37 (v:=(.bool true)) ?_;refine dP ?_;go_wp2;go_ret;exact⟨by first|rfl|(rw[HC];rfl),bS hBr (bS hB3 hS.1)⟩
   have hfv':(fv !=1)=false:=by simp[hfv]
   refine tX 28 (v:=(.bool false)) ?_;refine tX 29 (v:=(.bool false)) ?_;refine tX 30 (v:=(.bool false)) ?_;refine tX 31 ?_;refine tX 32 ?_;refine tX 33 ?_;refine tX 34 ?_;refine uS 35 rfl (fun K hK=>?_);go_simp;refine(HC4.out _ (bS hB3 hS.1)).mono ?_;rintro e wz ⟨rfl,hbz⟩;have hbz':Below w3.heap.size w3 wz:=bS hS.1 hbz;have hS3:=And.intro hbz' (kS8 hbz hS.2);refine hK _ _ (fun _=>hS3) ?_;clear hK K hS hbz;have hS:=hS3;clear hS3;try simp only[jX]
   by_cases hfd:fd=0
   rotate_left
   ·
    have hfd':(fd !=0)=true:=by simp[hfd]
    have HC:=HE2'.out (by rintro⟨_,_,_,h⟩;exact hfd h);clear HE2' HE3';refine tX 36 (v:=(.bool true)) ?_;refine tX 37 (v:=(.bool true)) ?_;refine dP ?_;go_wp2;go_ret;exact⟨by first|rfl|(rw[HC];rfl),bS hBr (bS hB3 hS.1)⟩
   have hfd':(fd !=0)=false:=by simp[hfd]
   have HC:Hid (fJ (kC d) (0+1)=0):=HE3'.out ⟨by first|rfl|trivial,hl0,hfv,hfd⟩;clear HE2' HE3' hfv hfd;refine tX 36 (v:=(.bool false)) ?_;refine tX 37 (v:=(.bool false)) ?_;refine dP ?_;go_wp2;exact⟨⟨1,by omega,by go_num,HC,bS hbl (bS hB3 hS.1)⟩,mI⟩
  | succ m=>
   obtain⟨q,gq,hq⟩:=HPre.out m rfl;replace gq:=cK hB3 gq;clear HPre HR0;have hw1:IntKind.i64.wrap (((m+1:Nat):Int)-1)=(m:Int):=by rw[IntKind.wrap_i64];omega
   have hw2:(((m+1:Nat):Int)-1)=(m:Int):=oM;have e1:((m+1:Nat):Int)<n3:=oM;have e2:(m:Int)<n3:=oM;have e3:(0:Int)≤m:=oM;have e4:(0:Int)<((m+1:Nat):Int):=oM;have e5:(0:Int)≤((m+1:Nat):Int):=oM;obtain⟨ii,hii⟩:∃ii:Nat,ii=m+1:=⟨_,rfl⟩
   have HII:Hid (ii=m+1):=hii;rw[←hii] at g0 g1 hw1 hw2 e1 e4 e5 HE3' hlt hk ⊢;clear hii;have e6:decide (0<ii)=true:=decide_eq_true (by have:=HII.out;omega);have hw3:IntKind.i64.wrap (m:Int)=(m:Int):=qP oM oM;go_wp2;refine wp_region_noPanic ?_;refine fB (fun W=>Below w3.heap.size w3 W∧W.cell? ⟨w.heap.size,0,none⟩=some (.int .i64 d.idx)∧W.cell? ⟨w.heap.size,1,none⟩=some (.slice a1 n1 c1)∧W.cell? ⟨w.heap.size,2,none⟩=some (.slice a2 n2 c2)∧W.cell? ⟨w.heap.size,3,none⟩=some (.slice (some ⟨bx,ox,none⟩) n3 c3)∧W.cell? ⟨w.heap.size,4,none⟩=some (.slice a4 n4 c4)∧W.cell? ⟨w.heap.size,5,none⟩=some (.slice a5 n5 c5)∧W.cell? ⟨wr.heap.size,0,none⟩=some (.int .i64 qid)∧W.cell? ⟨wr.heap.size,1,none⟩=some (.slice pp ll qq)∧W.cell? ⟨bx,ox+m*2,none⟩=some (.int .i64 q)) 38 kF ⟨qBq,cK qBq y0,cK qBq y1,cK qBq y2,cK qBq y3,cK qBq y4,cK qBq y5,cK qBq b0,cK qBq b1,cK qBq gq⟩ (fun hS=>?_);refine tX 0 ?_;refine tX 1 (v:=(.bool true)) ?_;refine tX 2 (v:=(.bool true)) ?_;refine tX 3 ?_;refine tX 4 ?_;refine tX 5 ?_;refine tX 6 ?_;refine tX 7 ?_;refine tX 8 ?_;refine tX 9 ?_;refine tX 10 ?_;refine tX 11 ?_;by_cases hle:qid≤q
   ·rw[decide_eq_false oM] at hq;subst hq;have HC:=HE2'.out (by rintro⟨h,_⟩;exact absurd h (by decide));clear HE2' HE3';refine tX 12 (v:=(.bool true)) ?_;refine tX 13 (v:=(.bool true)) ?_;refine tX 14 (v:=(.bool true)) ?_;refine sY 15 ?_;refine sY 16 ?_;refine sY 17 ?_;refine sY 18 ?_;refine sY 19 ?_;refine sY 20 ?_;refine tX 21 (v:=(.bool true)) ?_;refine tX 22 (v:=(.bool true)) ?_;refine sY 23 ?_;refine sY 24 ?_;refine sY 25 ?_;refine sY 26 ?_;refine sY 27 ?_;refine sY 28 ?_;refine tX 29 (v:=(.bool true)) ?_;refine tX 30 (v:=(.bool true)) ?_;refine sY 31 ?_;refine sY 32 ?_;refine sY 33 ?_;refine sY 34 ?_;refine sY 35 ?_;refine sY 36 ?_;refine tX 37 (v:=(.bool true)) ?_;refine dP ?_;go_wp2;go_ret;exact⟨by first|rfl|(rw[HC];rfl),bS hBr (bS hB3 hS.1)⟩
   rw[decide_eq_true oM] at hq;subst hq;refine tX 12 (v:=(.bool false)) ?_;refine tX 13 (v:=(.bool false)) ?_;refine tX 14 (v:=(.bool false)) ?_;refine tX 15 ?_;refine tX 16 ?_;refine tX 17 ?_;refine uS 18 rfl (fun K hK=>?_);go_simp;refine(HC2'.out _ (bS hB3 hS.1)).mono ?_;rintro e wz ⟨vl,rfl,ol,hbz⟩;obtain⟨al,cl,rfl⟩:=fD ol;have hbz':Below w3.heap.size w3 wz:=bS hS.1 hbz;have hS3:=And.intro hbz' (kS9 hbz hS.2);refine hK _ _ (fun _=>hS3) ?_;clear hK K hS hbz;have hS:=hS3;clear hS3;try simp only[jX]
   refine tX 19 ?_;by_cases hl0:lgs.length=0
   ·
    have hl0':(((lgs.length:Nat):Int)==0)=true:=by simp[hl0]
    have HC:=HE2'.out (by rintro⟨_,h,_⟩;exact h hl0);clear HE2' HE3';refine tX 20 (v:=(.bool true)) ?_;refine tX 21 (v:=(.bool true)) ?_;refine tX 22 (v:=(.bool true)) ?_;refine sY 23 ?_;refine sY 24 ?_;refine sY 25 ?_;refine sY 26 ?_;refine sY 27 ?_;refine sY 28 ?_;refine tX 29 (v:=(.bool true)) ?_;refine tX 30 (v:=(.bool true)) ?_;refine sY 31 ?_;refine sY 32 ?_;refine sY 33 ?_;refine sY 34 ?_;refine sY 35 ?_;refine sY 36 ?_;refine tX 37 (v:=(.bool true)) ?_;refine dP ?_;go_wp2;go_ret;exact⟨by first|rfl|(rw[HC];rfl),bS hBr (bS hB3 hS.1)⟩
   have hl0':(((lgs.length:Nat):Int)==0)=false:=by simp;exact fun h=>hl0 (by rw[h];rfl)
   refine tX 20 (v:=(.bool false)) ?_;refine tX 21 (v:=(.bool false)) ?_;refine tX 22 (v:=(.bool false)) ?_;refine tX 23 ?_;refine tX 24 ?_;refine tX 25 ?_;refine tX 26 ?_;refine uS 27 rfl (fun K hK=>?_);go_simp;refine(HC3.out _ (bS hB3 hS.1)).mono ?_;rintro e wz ⟨rfl,hbz⟩;have hbz':Below w3.heap.size w3 wz:=bS hS.1 hbz;have hS3:=And.intro hbz' (kS9 hbz hS.2);refine hK _ _ (fun _=>hS3) ?_;clear hK K hS hbz;have hS:=hS3;clear hS3;try simp only[jX]
   by_cases hfv:fv=1
   rotate_left
   ·
    have hfv':(fv !=1)=true:=by simp[hfv]
    have HC:=HE2'.out (by rintro⟨_,_,h,_⟩;exact hfv h);clear HE2' HE3';refine tX 28 (v:=(.bool true)) ?_;refine tX 29 (v:=(.bool true)) ?_;refine tX 30 (v:=(.bool true)) ?_;refine sY 31 ?_;refine sY 32 ?_;refine sY 33 ?_;refine sY 34 ?_;refine sY 35 ?_;refine sY 36 ?_;refine tX 37 (v:=(.bool true)) ?_;refine dP ?_;go_wp2;go_ret;exact⟨by first|rfl|(rw[HC];rfl),bS hBr (bS hB3 hS.1)⟩
   have hfv':(fv !=1)=false:=by simp[hfv]
   refine tX 28 (v:=(.bool false)) ?_;refine tX 29 (v:=(.bool false)) ?_;refine tX 30 (v:=(.bool false)) ?_;refine tX 31 ?_;refine tX 32 ?_;refine tX 33 ?_;refine tX 34 ?_;refine uS 35 rfl (fun K hK=>?_);go_simp;refine(HC4.out _ (bS hB3 hS.1)).mono ?_;rintro e wz ⟨rfl,hbz⟩;have hbz':Below w3.heap.size w3 wz:=bS hS.1 hbz;have hS3:=And.intro hbz' (kS9 hbz hS.2);refine hK _ _ (fun _=>hS3) ?_;clear hK K hS hbz;have hS:=hS3;clear hS3;try simp only[jX]
   by_cases hfd:fd=0
   rotate_left
   ·
    have hfd':(fd !=0)=true:=by simp[hfd]
    have HC:=HE2'.out (by rintro⟨_,_,_,h⟩;exact hfd h);clear HE2' HE3';refine tX 36 (v:=(.bool true)) ?_;refine tX 37 (v:=(.bool true)) ?_;refine dP ?_;go_wp2;go_ret;exact⟨by first|rfl|(rw[HC];rfl),bS hBr (bS hB3 hS.1)⟩
   have hfd':(fd !=0)=false:=by simp[hfd]
   have HC:Hid (fJ (kC d) (ii+1)=0):=HE3'.out ⟨by first|rfl|trivial,hl0,hfv,hfd⟩;clear HE2' HE3' hfv hfd;refine tX 36 (v:=(.bool false)) ?_;refine tX 37 (v:=(.bool false)) ?_;refine dP ?_;go_wp2;exact⟨⟨ii+1,by omega,by go_num,HC,bS hbl (bS hB3 hS.1)⟩,mI⟩
 have hkn:k=n3:=oM;subst hkn;have HOk':=HOk.out HS.out;have HLo':Hid (∀i,i<n2→fJ (kG d) i=0→kG d i=1→Z=1):=fun i hi hs h=>HLo.out HS.out i hi hs h
 have HTa':Hid (fJ (kG d) n2=0→Z=if xU d.done d.appl=true then yT d else 1):=fun h1=>HTa.out HS.out h1
 have HHO:Hid (HeldOk d):=HOk';clear HOk' HOk HLo HTa HHe HS HCf hlt;go_wp2;obtain⟨w2,hw2⟩:∃w2,w2=wr:=⟨_,rfl⟩
 rw[←hw2] at hBr y0 y1 y2 y3 y4 y5 zq ⊢;clear hw2 hbl;go_loopw [6] (fun i w'=>∃j:Nat,j≤n2∧i =.int .i64 j∧Hid (fJ (kG d) j=0)∧Below w2.heap.size w2 w') (fun i _=>n2-(intOf i).toNat)
 case atStart=>exact⟨0,oM,rfl,rfl,bR _ _⟩
 rename_i wq;obtain⟨j,hj,rfl,HS,hbl⟩:=hrel;replace y0:=cK hbl y0;replace y1:=cK hbl y1;replace y2:=cK hbl y2;replace y3:=cK hbl y3;replace y4:=cK hbl y4;replace y5:=cK hbl y5;have hBq:Below w.heap.size w wr:=bS hBr hbl;have zq2:w.heap.size<wr.heap.size:=wL wr _ y0;by_cases hlt:j<n2
 ·
  obtain⟨bx,ox,rfl,gm⟩:=HX2.out j hlt;have HE1:Hid (kG d j=1→Z=1):=fun h=>HLo'.out j hlt HS.out h
  have HE0:Hid (kG d j=0→fJ (kG d) (j+1)=0):=fun h=>gP HS.out h
  obtain⟨l,hl⟩:∃l,l=d.votes.getD j default:=⟨_,rfl⟩
  have HLo1:Hid (kG d j=if l.val=1∧fO d.held l.con=false∧fK l.con d.done=0 then 1 else 0):=by rw[hl];rfl
  rw[←hl] at gm;clear hl;obtain⟨g0,g1⟩:=gF hBq gm;have HI1:Hid (bW wr fun W=>RI 157 #[.agg #[.int .i64 d.idx,.slice a1 n1 c1,.slice (some ⟨bx,ox,none⟩) n2 c2,.slice a3 k c3,.slice a4 n4 c4,.slice a5 n5 c5],.int .i64 l.con] W (.bool (fO d.held l.con))):=fun W hW=>HIs.out W _ (bS hBq hW)
  have HD1:Hid (bW wr fun W=>RI 153 #[.slice a4 n4 c4,.int .i64 l.con] W (.int .i64 (fK l.con d.done))):=fun W hW=>HDo.out W _ (bS hBq hW)
  clear HS HLo' HTa' gm;have zb:bx<wr.heap.size:=wL wr _ g0;by_cases hv:l.val=1;rotate_left
  ·
   have hv':(l.val==1)=false:=by simp[hv]
   have HC:Hid (fJ (kG d) (j+1)=0):=HE0.out (by rw[HLo1.out,if_neg (fun h=>hv h.1)]);clear HE0 HE1 HLo1 HI1 HD1;go_wp2;exact⟨⟨j+1,by omega,by go_num,HC,qBq⟩,mI⟩
  have hv':(l.val==1)=true:=by simp[hv]
  cases hh:fO d.held l.con;rotate_left
  ·have HC:Hid (fJ (kG d) (j+1)=0):=HE0.out (by rw[HLo1.out,if_neg (fun h=>by rw[hh] at h;exact absurd h.2.1 (by decide))]);rw[hh] at HI1;clear HE0 HE1 HLo1 HD1 hh;go_wp2_with fail;refine(HI1.out _ qBq).mono ?_;rintro e w4 ⟨rfl,hb4⟩;have hB4:Below w2.heap.size w2 w4:=bS hbl (bS qBq hb4);clear hb4;go_wp2;exact⟨⟨j+1,by omega,by go_num,HC,qBq⟩,mI⟩
  rw[hh] at HI1 HLo1;clear hh;generalize fK l.con d.done=fd at *;go_wp2_with fail;refine(HI1.out _ qBq).mono ?_;rintro e w4 ⟨rfl,hb4⟩;have hB4:=bT wr hb4;have b0:w4.cell? ⟨wr.heap.size,0,none⟩=some (.int .i64 l.con):=cK hb4 sG;replace y4:=cK hB4 y4;clear hb4;by_cases hfd:fd=0
  ·
   have hfd':(fd==0)=true:=by simp[hfd]
   have HC:=HE1.out (by rw[HLo1.out,if_pos (by first|exact⟨hv,rfl,hfd⟩|exact⟨hv,trivial,hfd⟩)]);clear HE0 HE1 HLo1 hfd;go_wp2_with fail;refine(HD1.out _ hB4).mono ?_;rintro e w5 ⟨rfl,hb5⟩;go_wp2;go_ret;exact⟨by rw[HC];rfl,bS hBq (bS hB4 hb5)⟩
  have hfd':(fd==0)=false:=by simp[hfd]
  have HC:Hid (fJ (kG d) (j+1)=0):=HE0.out (by rw[HLo1.out,if_neg (fun h=>hfd h.2.2)]);clear HE0 HE1 HLo1 hfd;go_wp2_with fail;refine(HD1.out _ hB4).mono ?_;rintro e w5 ⟨rfl,hb5⟩;have hB5:Below w2.heap.size w2 w5:=bS hbl (bS hB4 hb5);clear hb5;go_wp2;exact⟨⟨j+1,by omega,by go_num,HC,hB5⟩,mI⟩
 have hjn:j=n2:=oM;subst hjn;have HZ:=HTa'.out HS.out;clear HTa' HLo' HS hlt HX2;cases hap:xU d.done d.appl
 ·rw[hap,if_neg (by decide)] at HZ;rw[hap] at HAp;go_wp2_with fail;refine(HAp.out _ hBq).mono ?_;rintro e w3 ⟨rfl,hb3⟩;go_wp2;go_ret;exact⟨by rw[HZ];rfl,qBq⟩
 rw[hap,if_pos rfl] at HZ;rw[hap] at HAp;have HZK:Hid (Z=yT d):=HZ;clear HZ hap;go_wp2_with fail;refine(HAp.out _ hBq).mono ?_;rintro e w3 ⟨rfl,hb3⟩;replace y0:=cK hb3 y0;replace y1:=cK hb3 y1;replace y2:=cK hb3 y2;replace y3:=cK hb3 y3;replace y4:=cK hb3 y4;replace y5:=cK hb3 y5;have hB3:Below w.heap.size w w3:=bS hBq hb3;have zq3:w.heap.size<w3.heap.size:=wL w3 _ y0;clear hb3 HAp hbl hBq hBr zq2;go_wp2;obtain⟨w4,hw4⟩:∃w4,w4=w3:=⟨_,rfl⟩
 rw[←hw4] at hB3 y0 y1 y2 y3 y4 y5 zq3 ⊢;clear hw4;have HTo:Hid (∀W x y xs ys,legsR.V W x xs→legsR.V W y ys→RI 183 #[x,y] W (.bool (touch xs ys))):=fun W x y xs ys h1 h2=>fC7 x y xs ys W h1 h2
 have HAt:Hid (∀i j,j<i→touch (kH d i) (kH d j)=true→gT d i=7):=fun i j hj h=>by
  unfold gT;rw[if_pos (List.any_eq_true.2 ⟨j,List.mem_range.2 hj,h⟩)]
 have HA0:Hid (∀i,(List.range i).any (fun j=>touch (kH d i) (kH d j))=false→gT d i=0):=fun i h=>by
  unfold gT;rw[h];rfl
 have HAs:Hid (∀i j,(List.range j).any (fun j=>touch (kH d i) (kH d j))=false→touch (kH d i) (kH d j)=false→(List.range (j+1)).any (fun j=>touch (kH d i) (kH d j))=false):=fun i j h1 h2=>by
  rw[List.range_succ,List.any_append,h1];simp[h2]
 have HCf:Hid (∀i,i<k→fA (d.held.getD i default).id (d.held.getD i default).legs=0):=fun i hi=>HHO.out.cf i (by rw[HN3.out];exact hi)
 have HSm:Hid (∀i,i<k→small (kH d i)):=fun i hi=>HHO.out.small (by rw[HN3.out];exact hi)
 go_loopw [8] (fun i w'=>∃j:Nat,j≤k∧i =.int .i64 j∧Hid (fJ (gT d) j=0)∧Below w4.heap.size w4 w') (fun i _=>k-(intOf i).toNat)
 case atStart=>exact⟨0,oM,rfl,rfl,bR _ _⟩
 rename_i wq2;obtain⟨i,hi,rfl,HS,hbl⟩:=hrel;have hBi:Below w.heap.size w wr:=bS hB3 hbl;replace y0:=cK hbl y0;replace y1:=cK hbl y1;replace y2:=cK hbl y2;replace y3:=cK hbl y3;replace y4:=cK hbl y4;replace y5:=cK hbl y5;have zq4:w.heap.size<wr.heap.size:=wL wr _ y0;by_cases hlt:i<k
 ·
  obtain⟨bx,ox,p1,q1,rfl,g0',g1',hV1⟩:=HX3.out i hlt;go_wp2;obtain⟨w5,hw5⟩:∃w5,w5=wr:=⟨_,rfl⟩
  rw[←hw5] at hBi y0 y1 y2 y3 y4 y5 zq4 hbl ⊢;clear hw5;go_loopw [9] (fun v w'=>∃j:Nat,j≤i∧v =.int .i64 j∧Hid ((List.range j).any (fun j=>touch (kH d i) (kH d j))=false)∧Below w5.heap.size w5 w') (fun v _=>i-(intOf v).toNat)
  case atStart=>exact⟨0,oM,rfl,by show(List.range 0).any _=false;rfl,bR _ _⟩
  rename_i wq3;obtain⟨j,hj,rfl,HS2,hbl2⟩:=hrel;have hBj:Below w.heap.size w wr:=bS hBi hbl2;replace y0:=cK hbl2 y0;replace y1:=cK hbl2 y1;replace y2:=cK hbl2 y2;replace y3:=cK hbl2 y3;replace y4:=cK hbl2 y4;replace y5:=cK hbl2 y5;have zq5:w.heap.size<wr.heap.size:=wL wr _ y0;by_cases hlt2:j<i
  ·
   obtain⟨bx',ox',p2,q2,he,g2,g3,hV2⟩:=HX3.out j oM;simp only[Option.some.injEq,Addr.mk.injEq,and_true] at he;obtain⟨rfl,rfl⟩:=he;have HG1:Hid (bW wr fun W=>Calls Tryz.prog 127 #[.agg #[.int .i64 (d.held.getD i default).id,.slice p1 (d.held.getD i default).legs.length q1],.int .i64 d.idx] W fun e w'=>∃v,e =.returned v∧w'.ownsRow W.heap.size 168 4 v (kH d i).length (gN (kH d i))∧Below W.heap.size W w'):=fun W hW=>HLg.out W i p1 q1 (bS hBj hW) hlt (HCf.out i hlt) hV1
   have HG2:Hid (bW wr fun W=>Calls Tryz.prog 127 #[.agg #[.int .i64 (d.held.getD j default).id,.slice p2 (d.held.getD j default).legs.length q2],.int .i64 d.idx] W fun e w'=>∃v,e =.returned v∧w'.ownsRow W.heap.size 168 4 v (kH d j).length (gN (kH d j))∧Below W.heap.size W w'):=fun W hW=>HLg.out W j p2 q2 (bS hBj hW) oM (HCf.out j oM) hV2
   have g0:=cK hBj g0';have g1:=cK hBj g1';replace g2:=cK hBj g2;replace g3:=cK hBj g3;clear hV2;have i1:(i:Int)<k:=oM;have i2:(0:Int)≤i:=oM;have j1:(j:Int)<k:=oM;have j2:(0:Int)≤j:=oM;cases htc:touch (kH d i) (kH d j)
   ·
    have HC:Hid ((List.range (j+1)).any (fun j=>touch (kH d i) (kH d j))=false):=HAs.out i j HS2.out htc;go_wp2;refine wp_region_noPanic ?_;refine fB (fun W=>Below wr.heap.size wr W∧W.cell? ⟨w.heap.size,0,none⟩=some (.int .i64 d.idx)∧W.cell? ⟨w.heap.size,3,none⟩=some (.slice (some ⟨bx,ox,none⟩) k c3)∧W.cell? ⟨bx,ox+i*2,none⟩=some (.int .i64 (d.held.getD i default).id)∧W.cell? ⟨bx,ox+i*2+1,none⟩=some (.slice p1 (d.held.getD i default).legs.length q1)∧W.cell? ⟨bx,ox+j*2,none⟩=some (.int .i64 (d.held.getD j default).id)∧W.cell? ⟨bx,ox+j*2+1,none⟩=some (.slice p2 (d.held.getD j default).legs.length q2)) 17 kF ⟨qBq,cK qBq y0,cK qBq y3,cK qBq g0,cK qBq g1,cK qBq g2,cK qBq g3⟩ (fun hS=>?_);refine tX 0 ?_;refine tX 1 ?_;refine tX 2 ?_;refine tX 3 ?_;refine tX 4 ?_;refine tX 5 ?_;refine tX 6 ?_;refine tX 8 ?_;refine tX 9 ?_;refine tX 10 ?_;refine tX 11 ?_;refine tX 12 ?_;refine tX 13 ?_;refine tX 14 ?_;refine uS 7 rfl (fun K hK=>?_);go_simp;refine(HG1.out _ hS.1).mono ?_;rintro e wz1 ⟨vl,rfl,ol,hbz1⟩;obtain⟨al,cl,rfl⟩:=fD ol;have V1:=gV ol;have hbz1':Below wr.heap.size wr wz1:=bS hS.1 hbz1;have hS3:=And.intro hbz1' (kS6 hbz1 hS.2);refine hK _ _ (fun _=>hS3) ?_;clear hK K hS hbz1;have hS:=hS3;clear hS3;try simp only[jX]
    refine uS 15 rfl (fun K hK=>?_);go_simp;refine(HG2.out _ hS.1).mono ?_;rintro e wz2 ⟨vl2,rfl,ol2,hbz2⟩;obtain⟨al2,cl2,rfl⟩:=fD ol2;have V2:=gV ol2;replace V1:=kS V1 hbz2;have hbz2':Below wr.heap.size wr wz2:=bS hS.1 hbz2;have hS3:=And.intro hbz2' (kS6 hbz2 hS.2);refine hK _ _ (fun _=>hS3) ?_;clear hK K hS hbz2;have hS:=hS3;clear hS3;try simp only[jX]
    refine uS 16 rfl (fun K hK=>?_);go_simp;refine(HTo.out _ _ _ (kH d i) (kH d j) V1 V2).mono ?_;rintro e wz ⟨rfl,hbz⟩;rw[htc];have hbz':Below wr.heap.size wr wz:=bS hS.1 hbz;have hS3:=And.intro hbz' (kS6 hbz hS.2);refine hK _ _ (fun _=>hS3) ?_;clear hK K hS hbz;have hS:=hS3;clear hS3;try simp only[jX]
    refine dP ?_;go_wp2;exact⟨⟨j+1,by omega,by go_num,HC,bS hbl2 hS.1⟩,mI⟩
   have HC:Z=7:=HZK.out.trans (HKa.out i hlt HS.out (HAt.out i j hlt2 htc));go_wp2;refine wp_region_noPanic ?_;refine fB (fun W=>Below wr.heap.size wr W∧W.cell? ⟨w.heap.size,0,none⟩=some (.int .i64 d.idx)∧W.cell? ⟨w.heap.size,3,none⟩=some (.slice (some ⟨bx,ox,none⟩) k c3)∧W.cell? ⟨bx,ox+i*2,none⟩=some (.int .i64 (d.held.getD i default).id)∧W.cell? ⟨bx,ox+i*2+1,none⟩=some (.slice p1 (d.held.getD i default).legs.length q1)∧W.cell? ⟨bx,ox+j*2,none⟩=some (.int .i64 (d.held.getD j default).id)∧W.cell? ⟨bx,ox+j*2+1,none⟩=some (.slice p2 (d.held.getD j default).legs.length q2)) 17 kF ⟨qBq,cK qBq y0,cK qBq y3,cK qBq g0,cK qBq g1,cK qBq g2,cK qBq g3⟩ (fun hS=>?_);refine tX 0 ?_;refine tX 1 ?_;refine tX 2 ?_;refine tX 3 ?_;refine tX 4 ?_;refine tX 5 ?_;refine tX 6 ?_;refine tX 8 ?_;refine tX 9 ?_;refine tX 10 ?_;refine tX 11 ?_;refine tX 12 ?_;refine tX 13 ?_;refine tX 14 ?_;refine uS 7 rfl (fun K hK=>?_);go_simp;refine(HG1.out _ hS.1).mono ?_;rintro e wz1 ⟨vl,rfl,ol,hbz1⟩;obtain⟨al,cl,rfl⟩:=fD ol;have V1:=gV ol;have hbz1':Below wr.heap.size wr wz1:=bS hS.1 hbz1;have hS3:=And.intro hbz1' (kS6 hbz1 hS.2);refine hK _ _ (fun _=>hS3) ?_;clear hK K hS hbz1;have hS:=hS3;clear hS3;try simp only[jX]
   refine uS 15 rfl (fun K hK=>?_);go_simp;refine(HG2.out _ hS.1).mono ?_;rintro e wz2 ⟨vl2,rfl,ol2,hbz2⟩;obtain⟨al2,cl2,rfl⟩:=fD ol2;have V2:=gV ol2;replace V1:=kS V1 hbz2;have hbz2':Below wr.heap.size wr wz2:=bS hS.1 hbz2;have hS3:=And.intro hbz2' (kS6 hbz2 hS.2);refine hK _ _ (fun _=>hS3) ?_;clear hK K hS hbz2;have hS:=hS3;clear hS3;try simp only[jX]
   refine uS 16 rfl (fun K hK=>?_);go_simp;refine(HTo.out _ _ _ (kH d i) (kH d j) V1 V2).mono ?_;rintro e wz ⟨rfl,hbz⟩;rw[htc];have hbz':Below wr.heap.size wr wz:=bS hS.1 hbz;have hS3:=And.intro hbz' (kS6 hbz hS.2);refine hK _ _ (fun _=>hS3) ?_;clear hK K hS hbz;have hS:=hS3;clear hS3;try simp only[jX]
   refine dP ?_;go_wp2;go_ret;exact⟨by rw[HC];rfl,bS hBj hS.1⟩
  have hji:j=i:=oM;subst hji;have HC:Hid (fJ (gT d) (j+1)=0):=gP HS.out (HA0.out j HS2.out);go_wp2;exact⟨⟨j+1,by omega,by go_num,HC,bS hbl hbl2⟩,mI⟩
 have hik:i=k:=oM;subst hik;have HKc':Hid (∀k c,k<i→fJ (gL d) k=0→gL d k=c→c≠0→Z=c):=fun k c hk hs h hc=>HZK.out.trans (HKc.out HS.out k c hk hs h hc)
 have HKo':Hid (fJ (gL d) i=0→Z=0):=fun h=>HZK.out.trans (HKo.out HS.out h)
 clear HKa HKc HKo HZK HS hlt HAt HA0 HAs HTo;go_wp2;obtain⟨w5,hw5⟩:∃w5,w5=wr:=⟨_,rfl⟩
 rw[←hw5] at hBi y0 y1 y2 y3 y4 y5 zq4 hbl ⊢;clear hw5;go_loopw [10] (fun v w'=>∃j:Nat,j≤i∧v =.int .i64 j∧Hid (fJ (gL d) j=0)∧Below w5.heap.size w5 w') (fun v _=>i-(intOf v).toNat)
 case atStart=>exact⟨0,oM,rfl,rfl,bR _ _⟩
 rename_i wq3;obtain⟨j,hj,rfl,HS2,hbl2⟩:=hrel;have hBj:Below w.heap.size w wr:=bS hBi hbl2;replace y0:=cK hbl2 y0;replace y1:=cK hbl2 y1;replace y2:=cK hbl2 y2;replace y3:=cK hbl2 y3;replace y4:=cK hbl2 y4;replace y5:=cK hbl2 y5;have zq5:w.heap.size<wr.heap.size:=wL wr _ y0;by_cases hlt2:j<i
 ·
  obtain⟨bx,ox,p1,q1,rfl,g0,g1,hV1⟩:=HX3.out j hlt2;have HG1:Hid (bW wr fun W=>Calls Tryz.prog 127 #[.agg #[.int .i64 (d.held.getD j default).id,.slice p1 (d.held.getD j default).legs.length q1],.int .i64 d.idx] W fun e w'=>∃v,e =.returned v∧w'.ownsRow W.heap.size 168 4 v (kH d j).length (gN (kH d j))∧Below W.heap.size W w'):=fun W hW=>HLg.out W j p1 q1 (bS hBj hW) hlt2 (HCf.out j hlt2) hV1
  have HCo:Hid (xW d.bals (kH d j)=gL d j):=rfl;have HG3:Hid (∀W y,Below wr.heap.size wr W→legsR.V W y (kH d j)→RI 184 #[.slice a1 n1 c1,y] W (.int .i64 (gL d j))):=fun W y hW hy=>HL2.out W y _ (bS hBj hW) hy (HSm.out j hlt2)
  have HE1:Hid (¬gL d j=0→Z=gL d j):=fun h=>HKc'.out j _ hlt2 HS2.out rfl h
  have HE0:Hid (gL d j=0→fJ (gL d) (j+1)=0):=fun h=>gP HS2.out h
  replace g0:=cK hBj g0;replace g1:=cK hBj g1;clear hV1 HCo HS2;generalize gL d j=cv at *;have j1:(j:Int)<i:=oM;have j2:(0:Int)≤j:=oM;go_wp2;refine wp_region_noPanic ?_;refine fB (fun W=>Below wr.heap.size wr W∧W.cell? ⟨w.heap.size,0,none⟩=some (.int .i64 d.idx)∧W.cell? ⟨w.heap.size,1,none⟩=some (.slice a1 n1 c1)∧W.cell? ⟨w.heap.size,3,none⟩=some (.slice (some ⟨bx,ox,none⟩) i c3)∧W.cell? ⟨bx,ox+j*2,none⟩=some (.int .i64 (d.held.getD j default).id)∧W.cell? ⟨bx,ox+j*2+1,none⟩=some (.slice p1 (d.held.getD j default).legs.length q1)) 12 kF ⟨qBq,cK qBq y0,cK qBq y1,cK qBq y3,cK qBq g0,cK qBq g1⟩ (fun hS=>?_);refine tX 0 ?_;refine tX 1 ?_;refine tX 2 ?_;refine tX 3 ?_;refine tX 4 ?_;refine tX 5 ?_;refine tX 6 ?_;refine tX 7 ?_;refine tX 8 ?_;refine uS 9 rfl (fun K hK=>?_);go_simp;refine(HG1.out _ hS.1).mono ?_;rintro e wz1 ⟨vl,rfl,ol,hbz1⟩;obtain⟨al,cl,rfl⟩:=fD ol;have V1:=gV ol;have hbz1':Below wr.heap.size wr wz1:=bS hS.1 hbz1;have hS3:=And.intro hbz1' (kS5 hbz1 hS.2);refine hK _ _ (fun _=>hS3) ?_;clear hK K hS hbz1;have hS:=hS3;clear hS3;try simp only[jX]
  refine uS 10 rfl (fun K hK=>?_);go_simp;refine(HG3.out _ _ hS.1 V1).mono ?_;rintro e wz ⟨rfl,hbz⟩;have hbz':Below wr.heap.size wr wz:=bS hS.1 hbz;have hS3:=And.intro hbz' (kS5 hbz hS.2);refine hK _ _ (fun _=>hS3) ?_;clear hK K hS hbz;have hS:=hS3;clear hS3;try simp only[jX]
  refine tX 11 ?_;refine dP ?_;by_cases hcv:cv=0
  ·
   have HC:Hid _:=HE0.out hcv;have hcv':(cv !=0)=false:=by simp[hcv]
   clear hcv HE0 HE1;go_wp2;exact⟨⟨j+1,by omega,by go_num,HC,bS hbl2 hS.1⟩,mI⟩
  have HC:=HE1.out hcv;have hcv':(cv !=0)=true:=by simp[hcv]
  go_wp2;go_ret;exact⟨by rw[HC];rfl,bS hBj hS.1⟩
 have hji:j=i:=oM;subst hji;have HC:=HKo'.out HS2.out;go_wp2;go_ret;exact⟨by rw[HC];rfl,qBq⟩
end Go.Proofs.YtpibfdebfacooaaGreat

import Derived.Test.YtpibfdebfacooaaGreatPrnCrashJournalLaw22
set_option maxHeartbeats 16000000
set_option maxRecDepth 20000
set_option linter.unusedSimpArgs false
set_option linter.unusedVariables false
set_option linter.unusedSectionVars false
namespace Go.Proofs.YtpibfdebfacooaaGreat
open Go.RowKit
attribute [local go_sem ↓] Go.wp_at_zero Go.wp_at_succ
section
variable [dQ Rw] [iH Rw] [dQ Bal] [iH Bal] [dQ Ledg] [iH Ledg] [dQ Leg] [iH Leg] [dQ Cont] [iH Cont] [dQ LedgR] [iH LedgR] [dQ OutcR] [iH OutcR] [dQ Mrk] [iH Mrk] [dQ Shd] [iH Shd] [dQ ShdR] [iH ShdR]
theorem fUe (w:World) {ops:Array Oper} {rest:List Oper} {o:Oper} {a:Act} {Q:Exit→Act→World→Prop} (hgd:o.guard=none) (s x:Operand)
  (ho:o.op =.call {callee:=.builtin .append,args:=#[s,x],argTypes:=#[38,38]})
  (base:Nat) (F Fu:Nat→Prop) (v:Value) (xs:List Cont) (y:Cont) (g:Nat) (p:Option Addr) (q:Nat) (hs:a.eval s=v) (hx:a.eval x =.slice (some ⟨g,0,none⟩) 1 1) (hown:contsR.O w base F v xs) (hu:contR.O w base Fu (.agg #[.int .i64 y.id,.slice p y.legs.length q]) y) (hd:∀b,F b→¬Fu b)
  (hc:w.cell? ⟨g,0,none⟩=some (.int .i64 y.id)∧w.cell? ⟨g,1,none⟩=some (.slice p y.legs.length q)) (hn:xs.length≤2000000) (hbase:base≤w.heap.size)
  (h:∀v' w' F',contsR.O w' base F' v' (xs++[y])→Mod F w w'→(∀b,F' b→F b∨Fu b∨w.heap.size≤b)→wpList Tryz.prog ops Q rest (a.put o.dst v') w'):wpList Tryz.prog ops Q (o::rest) a w:=by
 obtain⟨i0,hi,hz0,hz1,hz2⟩:=info_parts qZ;obtain⟨v',w',F',hr,h2,h3,h4⟩:=fI8 w 38 o.type 57 i0 _ 2 32 Tryz.underlying38 hi hz0 hz1 hz2 rfl (by decide) (by decide) base v _ xs y hown hu rfl (fun z hz=>by
  simp[kL,one] at hz;rcases hz with rfl|rfl <;> rfl) hd ⟨g,0,none⟩ 1 (fun j y' hj=>by
  match j,hj with
  | 0,hj=>simp[kL,one] at hj;subst hj;simpa [Addr.add] using hc.1
  | 1,hj=>simp[kL,one] at hj;subst hj;simpa [Addr.add] using hc.2
  | j+2,hj=>simp[kL,one] at hj) hn hbase
 exact fPh hgd s x 38 38 ho v _ hs hx hr (h v' w' F' h2 ((Mod.of_grown h3).mono (fun b e=>fD8 hown e)) h4)
def fBy (d:Shd) (k o:Int) (j:Nat):Bool:=decide (o=1)&&fO (d.held.take j) k
def dJ (d:Shd) (k o:Int) (j:Nat):Shd:=⟨d.idx,if fBy d k o j=true then addB d.bals (onSh d.idx (uU k d.held)) else d.bals,d.votes,kN k (d.held.take j),putM d.done ⟨k,o⟩,if fBy d k o j=true then d.appl++[k] else d.appl⟩
theorem fWn (d:Shd) (k o:Int):dJ d k o 0=⟨d.idx,d.bals,d.votes,[],putM d.done ⟨k,o⟩,d.appl⟩:=by
 have h:fBy d k o 0=false:=by unfold fBy fO;simp
 unfold dJ;rw[h];rfl
theorem fFw {hs:List Cont} {j:Nat} (hj:j<hs.length):hs.take (j+1)=hs.take j++[hs.getD j default]:=by rw[List.take_add_one];simp[List.getD,hj]
theorem fUy {d:Shd} {k o:Int} {j:Nat} (hj:j<d.held.length) (h:¬(d.held.getD j default).id=k):dJ d k o (j+1)=⟨d.idx,(dJ d k o j).bals,d.votes,kN k (d.held.take j)++[d.held.getD j default],putM d.done ⟨k,o⟩,(dJ d k o j).appl⟩:=by
 have e:fBy d k o (j+1)=fBy d k o j:=by
  unfold fBy;rw[fAw hj,decide_eq_false h,Bool.or_false]
 have e2:kN k (d.held.take (j+1))=kN k (d.held.take j)++[d.held.getD j default]:=by
  unfold kN;rw[fFw hj,List.filter_append,List.filter_cons_of_pos (by simp only[Bool.not_eq_true',beq_eq_false_iff_ne];exact h)];rfl
 unfold dJ;rw[e,e2]
theorem fHc {d:Shd} {k:Int} {j:Nat} (hj:j<d.held.length) (h:(d.held.getD j default).id=k):kN k (d.held.take (j+1))=kN k (d.held.take j):=by
 unfold kN;rw[fFw hj,List.filter_append,List.filter_cons_of_neg (by simp only[h];simp)];simp
theorem fXl {d:Shd} {k o:Int} {j:Nat} (hj:j<d.held.length) (h:(d.held.getD j default).id=k) (ho:¬o=1):dJ d k o (j+1)=dJ d k o j:=by
 have e:∀i,fBy d k o i=false:=fun i=>by unfold fBy;rw[decide_eq_false ho];rfl
 unfold dJ;rw[e,e,fHc hj h]
theorem fXm {d:Shd} {k o:Int} {j:Nat} (hr:∀i j,i<j→j<d.held.length→(d.held.getD i default).id<(d.held.getD j default).id) (hj:j<d.held.length) (h:(d.held.getD j default).id=k) (ho:o=1) :
  (dJ d k o j).bals=d.bals∧(dJ d k o j).appl=d.appl∧dJ d k o (j+1)=⟨d.idx,addB d.bals (onSh d.idx (d.held.getD j default).legs),d.votes,kN k (d.held.take j),putM d.done ⟨k,o⟩,d.appl++[k]⟩:=by
 have hf:fO (d.held.take j) k=false:=by
  unfold fO;rw[List.any_eq_false];intro c hc;obtain⟨i,hi,e⟩:=List.mem_take_iff_getElem.1 hc;have h1:=hr i j oM hj;have e2:d.held.getD i default=c:=by rw[←e];simp[List.getD,show i<d.held.length by omega]
  rw[e2,h] at h1;simp;omega
 have e0:fBy d k o j=false:=by unfold fBy;rw[hf,Bool.and_false]
 have e1:fBy d k o (j+1)=true:=by unfold fBy;rw[fAw hj,decide_eq_true h,decide_eq_true ho,Bool.or_true];rfl
 have el:uU k d.held=(d.held.getD j default).legs:=fEr hj h (fun i hi=>by have:=hr i j hi hj;rw[h] at this;exact this);refine⟨by unfold dJ;rw[e0];rfl,by unfold dJ;rw[e0];rfl,?_⟩;unfold dJ;rw[e1,fHc hj h,el];rfl
theorem fXk {d:Shd} {k o:Int} (hh:¬(o=1∧fO d.held k=false)):dJ d k o d.held.length=decS d k o:=by
 unfold dJ decS fBy;rw[List.take_length];by_cases ho:o=1
 ·
  have h1:fO d.held k=true:=by
   cases e:fO d.held k with
   | true=>rfl
   | false=>exact absurd ⟨ho,e⟩ hh
  rw[if_pos ho,h1,decide_eq_true ho];rfl
 rw[if_neg ho,decide_eq_false ho];rfl
theorem fMu (x:Value) (d:Shd) (k o:Int) (w:World) (hx:shdR.V w x d) (hok:ShdOk d) (ho12:o=1∨o=2) :
  Calls Tryz.prog 129 #[x,.int .i64 k,.int .i64 o] w (rP w (qK d k o)):=by
 have HIs:Hid (bW w fun W=>RI 157 #[x,.int .i64 k] W (.bool (fO d.held k))):=fun W hW=>fBj x d k W (shdR.below hx hW)
 have HCp:Hid (bW w fun W=>Calls Tryz.prog 152 #[x] W fun e w'=>∃v F,e =.returned v∧shdR.O w' W.heap.size F v d∧Below W.heap.size W w'):=fun W hW=>fKp x d W (shdR.below hx hW) ⟨by have:=zT (pE hok.base).2;omega,by have:=hok.ls.nv;omega,by have:=hok.ls.nh;omega,by have:=hok.ls.nd;omega,by have:=hok.ls.na;omega⟩ (fun q hq=>by have:=hok.held.len hq;omega)
 have HMk:Hid (∀W base F x,mrksR.O W base F x d.done→Calls Tryz.prog 156 #[x,.int .i64 k,.int .i64 o] W fun e w'=>∃u F',e =.returned u∧mrksR.O w' W.heap.size F' u (putM d.done ⟨k,o⟩)∧Below W.heap.size W w'):=fun W base F x h=>fKq x d.done ⟨k,o⟩ base F W h (by have:=hok.ls.nd;omega)
 have HCc:Hid (∀q,q<d.held.length→∀W v,contR.V W v (d.held.getD q default)→Calls Tryz.prog 155 #[v] W fun e w'=>∃u F,e =.returned u∧contR.O w' W.heap.size F u (d.held.getD q default)∧Below W.heap.size W w'):=fun q hq W v hv=>yG v _ W hv (by have:=hok.held.len hq;omega)
 have HOK:Hid (ShdOk d):=hok;have HLh:Hid (d.held.length≤100):=hok.ls.nh;have HDo:Hid (∀j,j<d.held.length→¬(d.held.getD j default).id=k→dJ d k o (j+1)=⟨d.idx,(dJ d k o j).bals,d.votes,kN k (d.held.take j)++[d.held.getD j default],putM d.done ⟨k,o⟩,(dJ d k o j).appl⟩):=fun j hj h=>fUy hj h
 have HDn:Hid (∀j,j<d.held.length→(d.held.getD j default).id=k→¬o=1→dJ d k o (j+1)=dJ d k o j):=fun j hj h h1=>fXl hj h h1
 have H1J:Hid (∀j,j<d.held.length→(d.held.getD j default).id=k→o=1→(dJ d k o j).bals=d.bals∧(dJ d k o j).appl=d.appl∧dJ d k o (j+1)=⟨d.idx,addB d.bals (onSh d.idx (d.held.getD j default).legs),d.votes,kN k (d.held.take j),putM d.done ⟨k,o⟩,d.appl++[k]⟩):=fun j hj h h1=>fXm hok.held.rise hj h h1
 have HEnd:Hid (¬(o=1∧fO d.held k=false)→dJ d k o d.held.length=decS d k o):=fun h=>fXk h
 obtain⟨u1,u2,u3,u4,u5,rfl,h1,h2,h3,h4,h5⟩:=hx;have HX3:Hid (∃a c,u3 =.slice a d.held.length c∧d.held.length≤c∧c≤maxLen∧∀k,k<d.held.length→∃b o p q,a=some ⟨b,o,none⟩∧w.cell? ⟨b,o+k*2,none⟩=some (.int .i64 (d.held.getD k default).id)∧w.cell? ⟨b,o+k*2+1,none⟩=some (.slice p (d.held.getD k default).legs.length q)∧contR.V w (.agg #[.int .i64 (d.held.getD k default).id,.slice p (d.held.getD k default).legs.length q]) (d.held.getD k default)):=qH h3;have HFi:Hid (bW w fun W=>RI 153 #[u4,.int .i64 k] W (.int .i64 (fK k d.done))):=fun W hW=>rW u4 _ k W (mrksR.below h4 hW)
 obtain⟨a1,c1,rfl⟩:=fP h1;obtain⟨a2,c2,rfl⟩:=fF h2;obtain⟨a3,c3,rfl⟩:=fM h3;obtain⟨a4,c4,rfl⟩:=fF h4;obtain⟨a5,c5,rfl⟩:=gJ h5;obtain⟨_,_,e3,hc3,hm3,hx3⟩:=HX3.out;simp only[Value.slice.injEq,true_and] at e3;obtain⟨rfl,rfl⟩:=e3;unfold maxLen at hm3;have HX:Hid (∀k,k<d.held.length→∃b o p q,a3=some ⟨b,o,none⟩∧w.cell? ⟨b,o+k*2,none⟩=some (.int .i64 (d.held.getD k default).id)∧w.cell? ⟨b,o+k*2+1,none⟩=some (.slice p (d.held.getD k default).legs.length q)∧contR.V w (.agg #[.int .i64 (d.held.getD k default).id,.slice p (d.held.getD k default).legs.length q]) (d.held.getD k default)):=hx3;clear h1 h2 h3 h4 h5 HX3 hx3;have HT0:Hid (¬fK k d.done=0→fK k d.done=o→qK d k o=⟨0,0,d⟩):=fun h h1=>fH2 h h1
 have HT1:Hid (¬fK k d.done=0→¬fK k d.done=o→qK d k o=errH 7):=fun h h1=>fFy h h1
 have HT2:Hid (fK k d.done=0→o=1∧fO d.held k=false→qK d k o=errH 1):=fun h h1=>fH0 h h1
 have HT3:Hid (fK k d.done=0→¬(o=1∧fO d.held k=false)→100≤d.done.length→qK d k o=errH 2):=fun h h1 h2=>fH1 h h1 h2
 have HT4:Hid (fK k d.done=0→¬(o=1∧fO d.held k=false)→¬100≤d.done.length→qK d k o=⟨0,0,decS d k o⟩):=fun h h1 h2=>fPd h h1 h2
 have HHt:Hid (¬(o=1∧fO d.held k=false)→o=1→fO d.held k=true):=fun h h1=>by
  cases e:fO d.held k with
  | true=>rfl
  | false=>exact absurd ⟨h1,e⟩ h
 clear hok;generalize hn1:d.bals.length=n1 at *;generalize hn2:d.votes.length=n2 at *;generalize hn4:d.done.length=n4 at *;generalize hn5:d.appl.length=n5 at *;have HN4:Hid (d.bals.length=n1∧d.votes.length=n2∧d.done.length=n4∧d.appl.length=n5):=⟨hn1,hn2,hn4,hn5⟩;clear hn1 hn2 hn4 hn5;obtain⟨n3,hn3⟩:∃n3,n3=d.held.length:=⟨_,rfl⟩
 have HN3:Hid (d.held.length=n3):=hn3.symm;rw[←hn3] at HX HCc HDo HDn H1J HEnd hc3 HIs HCp ⊢;clear hn3;generalize qK d k o=Z at *;generalize fK k d.done=fd at *;go_enter Tryz.func129,Tryz.ntmps129;go_wp2_with fail;refine(HFi.out _ qBq).mono ?_;rintro e w1 ⟨rfl,hb1⟩;have hB1:=bT w hb1;have hz1:=hb1.size;simp at hz1;have y0:w1.cell? ⟨w.heap.size,0,none⟩=some (.int .i64 d.idx):=cK hb1 sG;have y1:w1.cell? ⟨w.heap.size,1,none⟩=some (.slice a1 n1 c1):=cK hb1 sG;have y2:w1.cell? ⟨w.heap.size,2,none⟩=some (.slice a2 n2 c2):=cK hb1 sG;have y3:w1.cell? ⟨w.heap.size,3,none⟩=some (.slice a3 n3 c3):=cK hb1 sG;have y4:w1.cell? ⟨w.heap.size,4,none⟩=some (.slice a4 n4 c4):=cK hb1 sG;have y5:w1.cell? ⟨w.heap.size,5,none⟩=some (.slice a5 n5 c5):=cK hb1 sG;have r0:w1.cell? ⟨w.heap.size+1,0,none⟩=some (.int .i64 0):=cK hb1 sG;have r1:w1.cell? ⟨w.heap.size+1,1,none⟩=some (.int .i64 0):=cK hb1 sG;have r2:w1.cell? ⟨w.heap.size+1,2,none⟩=some (.int .i64 0):=cK hb1 sG;have r3:w1.cell? ⟨w.heap.size+1,3,none⟩=some (.slice none 0 0):=cK hb1 sG;have r4:w1.cell? ⟨w.heap.size+1,4,none⟩=some (.slice none 0 0):=cK hb1 sG;have r5:w1.cell? ⟨w.heap.size+1,5,none⟩=some (.slice none 0 0):=cK hb1 sG;have r6:w1.cell? ⟨w.heap.size+1,6,none⟩=some (.slice none 0 0):=cK hb1 sG;have r7:w1.cell? ⟨w.heap.size+1,7,none⟩=some (.slice none 0 0):=cK hb1 sG;have rf:∀o,w1.frozen? ⟨w.heap.size+1,o,none⟩=false:=fun o=>by rw[(bcell hb1).2 _ _ (by simp)];simp[go_sem]
 clear hb1 HFi;by_cases hfd:fd=0;rotate_left
 ·
  have hfd':(fd !=0)=true:=by simp[hfd]
  by_cases hfo:fd=o
  rotate_left
  ·
   have HC:Hid (Z=errH 7):=HT1.out hfd hfo;have hfo':(fd !=o)=true:=by simpa using hfo
   clear HT0 HT1 HT2 HT3 HT4 HIs HCp HMk HCc HDo HDn H1J HEnd;go_wp2;refine bodyPost_ret (v:=.agg #[.int .i64 7,.int .i64 0,.int .i64 0,.slice none 0 0,.slice none 0 0,.slice none 0 0,.slice none 0 0,.slice none 0 0]) (by simp[results,Tryz.results129,go_sem,r0,r1,r2,r3,r4,r5,r6,r7,rf]) rfl (mJ HC.out ?_);exact qS
  have HC:Hid (Z=⟨0,0,d⟩):=HT0.out hfd hfo;have hfo':(fd !=o)=false:=by simpa using hfo
  clear HT0 HT1 HT2 HT3 HT4 HIs HMk HCc HDo HDn H1J HEnd;go_wp2_with fail;refine(HCp.out _ hB1).mono ?_;rintro e w3 ⟨v3,F3,rfl,o3,hb3⟩;obtain⟨s1,s2,s3,s4,s5,f1,f2,f3,f4,f5,rfl⟩:=mF o3;obtain⟨m1,hm1⟩:∃m,m=d.bals.length:=⟨_,rfl⟩
  obtain⟨m2,hm2⟩:∃m,m=d.votes.length:=⟨_,rfl⟩
  obtain⟨m3,hm3⟩:∃m,m=d.held.length:=⟨_,rfl⟩
  obtain⟨m4,hm4⟩:∃m,m=d.done.length:=⟨_,rfl⟩
  obtain⟨m5,hm5⟩:∃m,m=d.appl.length:=⟨_,rfl⟩
  rw[←hm1,←hm2,←hm3,←hm4,←hm5] at o3 ⊢;have HO3:Hid (shdR.O w3 w1.heap.size F3 (.agg #[.int .i64 d.idx,.slice s1 m1 f1,.slice s2 m2 f2,.slice s3 m3 f3,.slice s4 m4 f4,.slice s5 m5 f5]) d):=o3;clear o3 hm1 hm2 hm3 hm4 hm5;have hB3:Below w.heap.size w w3:=bS hB1 hb3;replace r0:=cK hb3 r0;replace r1:=cK hb3 r1;replace r2:=cK hb3 r2;replace r3:=cK hb3 r3;replace r4:=cK hb3 r4;replace r5:=cK hb3 r5;replace r6:=cK hb3 r6;replace r7:=cK hb3 r7;replace rf:∀o,World.frozen? w3 ⟨w.heap.size+1,o,none⟩=false:=fun o=>by rw[(bcell hb3).2 _ _ oM];exact rf o
  clear hb3 HCp;go_wp2;refine bodyPost_ret (v:=.agg #[.int .i64 0,.int .i64 0,.int .i64 d.idx,.slice s1 m1 f1,.slice s2 m2 f2,.slice s3 m3 f3,.slice s4 m4 f4,.slice s5 m5 f5]) (by simp[results,Tryz.results129,go_sem,r0,r1,r2,r3,r4,r5,r6,r7,rf]) rfl ?_;rw[HC.out];have hbR:w.heap.size≤w.heap.size+1:=oM;exact⟨_,F3,rfl,shdRR.base (vD shdRR (uZ (d:=d) 0 0 HO3.out) (fun h=>by have:=(shdR.rng HO3.out _ h).1;omega) _ _ _ _ _ _ _ _) oM,bset (p:=⟨w.heap.size+1,7,none⟩) (bset (p:=⟨w.heap.size+1,6,none⟩) (bset (p:=⟨w.heap.size+1,5,none⟩) (bset (p:=⟨w.heap.size+1,4,none⟩) (bset (p:=⟨w.heap.size+1,3,none⟩) (bset (p:=⟨w.heap.size+1,2,none⟩) (bset (p:=⟨w.heap.size+1,1,none⟩) (bset (p:=⟨w.heap.size+1,0,none⟩) (hB3) hbR _) hbR _) hbR _) hbR _) hbR _) hbR _) hbR _) hbR _⟩
 have hfd':(fd !=0)=false:=by simp[hfd]
 have HT2':Hid (o=1∧fO d.held k=false→Z=errH 1):=fun h=>HT2.out hfd h
 have HT3':Hid (¬(o=1∧fO d.held k=false)→100≤n4→Z=errH 2):=fun h h1=>HT3.out hfd h h1
 have HT4':Hid (¬(o=1∧fO d.held k=false)→¬100≤n4→Z=⟨0,0,decS d k o⟩):=fun h h1=>HT4.out hfd h h1
 clear HT0 HT1 HT2 HT3 HT4 hfd;go_wp2_with fail;refine(HIs.out _ hB1).mono ?_;rintro e w2 ⟨rfl,hb2⟩;have hB2:Below w.heap.size w w2:=bS hB1 hb2;replace y0:=cK hb2 y0;replace y1:=cK hb2 y1;replace y2:=cK hb2 y2;replace y3:=cK hb2 y3;replace y4:=cK hb2 y4;replace y5:=cK hb2 y5;replace r0:=cK hb2 r0;replace r1:=cK hb2 r1;replace r2:=cK hb2 r2;replace r3:=cK hb2 r3;replace r4:=cK hb2 r4;replace r5:=cK hb2 r5;replace r6:=cK hb2 r6;replace r7:=cK hb2 r7;replace rf:∀o,World.frozen? w2 ⟨w.heap.size+1,o,none⟩=false:=fun o=>by rw[(bcell hb2).2 _ _ oM];exact rf o
 have hz2:w.heap.size+1<w2.heap.size:=by have:=hb2.size;omega
 clear hb2 hB1 hz1 HIs;by_cases hnf:o=1∧fO d.held k=false
 ·
  have HC:Hid (Z=errH 1):=HT2'.out hnf;have ho1':(o==1)=true:=by simp[hnf.1]
  rw[hnf.2];clear HT2' HT3' HT4' HCp HMk HCc HDo HDn H1J HEnd;go_wp2;refine bodyPost_ret (v:=.agg #[.int .i64 1,.int .i64 0,.int .i64 0,.slice none 0 0,.slice none 0 0,.slice none 0 0,.slice none 0 0,.slice none 0 0]) (by simp[results,Tryz.results129,go_sem,r0,r1,r2,r3,r4,r5,r6,r7,rf]) rfl (mJ HC.out ?_);exact qS
 have HNF:Hid (¬(o=1∧fO d.held k=false)):=hnf;have HEnd':Hid (dJ d k o n3=decS d k o):=HEnd.out hnf;have HT3'':Hid (100≤n4→Z=errH 2):=fun h=>HT3'.out hnf h
 have HT4'':Hid (¬100≤n4→Z=⟨0,0,dJ d k o n3⟩):=fun h=>by rw[HEnd'.out];exact HT4'.out hnf h
 clear HT2' HT3' HT4' HEnd;obtain⟨hh,hhd⟩:∃hh,hh=fO d.held k:=⟨_,rfl⟩
 have HH2:Hid (o=1→hh=true):=fun h=>by rw[hhd];exact HHt.out hnf h
 rw[←hhd];clear hnf HHt hhd;go_upto_region 7 with fail
 go_cut [33] from 28 to 33 (fun c wx=>c =.bool false∧wx=w2)
 case first=>
  by_cases ho1:o=1
  ·
   have ho1':(o==1)=true:=by simp[ho1]
   have hhe:=HH2.out ho1;subst hhe;clear ho1;go_wp2;go_meet;exact⟨rfl,rfl⟩
  have ho1':(o==1)=false:=by simpa using ho1
  clear ho1;go_wp2;go_meet;exact⟨rfl,rfl⟩
 case rest=>
  obtain⟨hc1,hc2⟩:=hcut;obtain rfl:=hc2.symm;subst hc1;clear HH2;by_cases hm:100≤n4
  ·have HC:Hid (Z=errH 2):=HT3''.out hm;have hm2:(100:Int)≤n4:=oM;clear HT3'' HT4'' HCp HMk HCc HDo HDn H1J;go_wp2;refine bodyPost_ret (v:=.agg #[.int .i64 2,.int .i64 0,.int .i64 0,.slice none 0 0,.slice none 0 0,.slice none 0 0,.slice none 0 0,.slice none 0 0]) (by simp[results,Tryz.results129,go_sem,r0,r1,r2,r3,r4,r5,r6,r7,rf]) rfl (mJ HC.out ?_);exact qS
  have HC:Hid (Z=⟨0,0,dJ d k o n3⟩):=HT4''.out hm;have hm2:¬(100:Int)≤n4:=oM;clear HT3'' HT4'' hm;go_wp2_with fail;refine(HCp.out _ hB2).mono ?_;rintro e w3 ⟨v3,F3,rfl,o3,hb3⟩;obtain⟨s1,s2,s3,s4,s5,f1,f2,f3,f4,f5,rfl⟩:=mF o3;obtain⟨m1,hm1⟩:∃m,m=d.bals.length:=⟨_,rfl⟩
  obtain⟨m2,hm2⟩:∃m,m=d.votes.length:=⟨_,rfl⟩
  obtain⟨m3,hm3⟩:∃m,m=d.held.length:=⟨_,rfl⟩
  obtain⟨m4,hm4⟩:∃m,m=d.done.length:=⟨_,rfl⟩
  obtain⟨m5,hm5⟩:∃m,m=d.appl.length:=⟨_,rfl⟩
  rw[←hm1,←hm2,←hm3,←hm4,←hm5] at o3 ⊢;have HO3:Hid (shdR.O w3 w2.heap.size F3 (.agg #[.int .i64 d.idx,.slice s1 m1 f1,.slice s2 m2 f2,.slice s3 m3 f3,.slice s4 m4 f4,.slice s5 m5 f5]) d):=o3;clear o3 hm1 hm2 hm3 hm4 hm5;have hB3:Below w.heap.size w w3:=bS hB2 hb3;replace y0:=cK hb3 y0;replace y1:=cK hb3 y1;replace y2:=cK hb3 y2;replace y3:=cK hb3 y3;replace y4:=cK hb3 y4;replace y5:=cK hb3 y5;replace r0:=cK hb3 r0;replace r1:=cK hb3 r1;replace r2:=cK hb3 r2;replace r3:=cK hb3 r3;replace r4:=cK hb3 r4;replace r5:=cK hb3 r5;replace r6:=cK hb3 r6;replace r7:=cK hb3 r7;replace rf:∀o,World.frozen? w3 ⟨w.heap.size+1,o,none⟩=false:=fun o=>by rw[(bcell hb3).2 _ _ oM];exact rf o
  have hz3:w.heap.size+1<w3.heap.size:=by have:=hb3.size;omega
  have HFr:Hid (∀b,F3 b→w.heap.size+2≤b∧b<w3.heap.size):=fun b hb=>by have:=shdR.rng HO3.out b hb;omega
  have HO3w:Hid (shdR.O w3 w.heap.size F3 (.agg #[.int .i64 d.idx,.slice s1 m1 f1,.slice s2 m2 f2,.slice s3 m3 f3,.slice s4 m4 f4,.slice s5 m5 f5]) d):=shdR.base HO3.out hB2.size;clear hb3 HCp HO3;obtain⟨wb,hwb⟩:∃wb,wb=w3.alloc (.cells #[.int .i64 d.idx,.slice s1 m1 f1,.slice s2 m2 f2,.slice s3 m3 f3,.slice s4 m4 f4,.slice s5 m5 f5] 41):=⟨_,rfl⟩
  have hbb:Below w3.heap.size w3 wb:=by rw[hwb];exact qBq
  have t0:wb.cell? ⟨w3.heap.size,0,none⟩=some (.int .i64 d.idx):=by rw[hwb];simp[go_sem]
  have t1:wb.cell? ⟨w3.heap.size,1,none⟩=some (.slice s1 m1 f1):=by rw[hwb];simp[go_sem]
  have t2:wb.cell? ⟨w3.heap.size,2,none⟩=some (.slice s2 m2 f2):=by rw[hwb];simp[go_sem]
  have t3:wb.cell? ⟨w3.heap.size,3,none⟩=some (.slice s3 m3 f3):=by rw[hwb];simp[go_sem]
  have t4:wb.cell? ⟨w3.heap.size,4,none⟩=some (.slice s4 m4 f4):=by rw[hwb];simp[go_sem]
  have t5:wb.cell? ⟨w3.heap.size,5,none⟩=some (.slice s5 m5 f5):=by rw[hwb];simp[go_sem]
  have tf:∀o,wb.frozen? ⟨w3.heap.size,o,none⟩=false:=fun o=>by rw[hwb];simp[go_sem]
  obtain⟨G4,og4,hG4,LN4⟩:=fO9 (shdR.keep HO3w.out hbb);have HG4:Hid (mrksR.O wb w.heap.size G4 (.slice s4 m4 f4) d.done):=og4;have HLN4:Hid (∀(w':World) (Fj':Nat→Prop) (v:Value) (ys:List Mrk),mrksR.O w' w.heap.size Fj' v ys→Mod G4 wb w'→(∀b,Fj' b→G4 b∨wb.heap.size≤b)→∃F',shdR.O w' w.heap.size F' (.agg #[.int .i64 d.idx,.slice s1 m1 f1,.slice s2 m2 f2,.slice s3 m3 f3,v,.slice s5 m5 f5]) ⟨d.idx,d.bals,d.votes,d.held,ys,d.appl⟩∧∀b,F' b→F3 b∨wb.heap.size≤b):=LN4;clear og4 hG4 LN4;go_wp2_with fail;rw[←hwb];refine(HMk.out wb w.heap.size G4 _ HG4.out).mono ?_;rintro e w4 ⟨v4,F4,rfl,o4,hb4⟩;obtain⟨p4,q4,rfl⟩:=fD o4.1;have hzb:w3.heap.size<wb.heap.size:=wL wb _ t0;obtain⟨F5,o5,hF5⟩:=HLN4.out w4 F4 _ _ (mrksR.base o4 oM) (Mod.of_below hb4) (fun b hb=>.inr (mrksR.rng o4 b hb).1);have hB4:Below w.heap.size w w4:=bS hB3 (bS hbb hb4);have hz4:=hb4.size;have HO5:Hid (shdR.O w4 w.heap.size F5 (.agg #[.int .i64 d.idx,.slice s1 m1 f1,.slice s2 m2 f2,.slice s3 m3 f3,.slice p4 (putM d.done ⟨k,o⟩).length q4,.slice s5 m5 f5]) ⟨d.idx,d.bals,d.votes,d.held,putM d.done ⟨k,o⟩,d.appl⟩):=o5;have HF5:Hid (∀b,F5 b→b≠w3.heap.size∧w.heap.size+2≤b):=fun b hb=>(hF5 b hb).elim (fun h=>by have:=HFr.out b h;exact⟨oM,by omega⟩) (fun h=>⟨oM,by omega⟩)
  clear hwb;replace y0:=cK hbb y0;replace y1:=cK hbb y1;replace y2:=cK hbb y2;replace y3:=cK hbb y3;replace y4:=cK hbb y4;replace y5:=cK hbb y5;replace r0:=cK hbb r0;replace r1:=cK hbb r1;replace r2:=cK hbb r2;replace r3:=cK hbb r3;replace r4:=cK hbb r4;replace r5:=cK hbb r5;replace r6:=cK hbb r6;replace r7:=cK hbb r7;replace rf:∀o,World.frozen? wb ⟨w.heap.size+1,o,none⟩=false:=fun o=>by rw[(bcell hbb).2 _ _ oM];exact rf o
  replace t0:=cK hb4 t0;replace t1:=cK hb4 t1;replace t2:=cK hb4 t2;replace t3:=cK hb4 t3;replace t4:=cK hb4 t4;replace t5:=cK hb4 t5;replace y0:=cK hb4 y0;replace y1:=cK hb4 y1;replace y2:=cK hb4 y2;replace y3:=cK hb4 y3;replace y4:=cK hb4 y4;replace y5:=cK hb4 y5;replace r0:=cK hb4 r0;replace r1:=cK hb4 r1;replace r2:=cK hb4 r2;replace r3:=cK hb4 r3;replace r4:=cK hb4 r4;replace r5:=cK hb4 r5;replace r6:=cK hb4 r6;replace r7:=cK hb4 r7;replace tf:∀o,World.frozen? w4 ⟨w3.heap.size,o,none⟩=false:=fun o=>by rw[(bcell hb4).2 _ _ oM];exact tf o
  replace rf:∀o,World.frozen? w4 ⟨w.heap.size+1,o,none⟩=false:=fun o=>by rw[(bcell hb4).2 _ _ oM];exact rf o
  generalize (putM d.done ⟨k,o⟩).length=np at *;clear o4 o5 hF5 HLN4 HG4 HMk hb4 hbb HO3w HFr;have hNB:w.heap.size≠w3.heap.size:=oM;have hRB:w.heap.size+1≠w3.heap.size:=oM;go_wp2;obtain⟨V4,hEV4⟩:∃W,W=w4.setCell ⟨w3.heap.size,4,none⟩ (.slice p4 np q4):=⟨_,rfl⟩
  rw[←hEV4];have hmV4:Mod (fun b=>b=w3.heap.size) w4 V4:=by rw[hEV4];exact Mod.of_set w4 ⟨w3.heap.size,4,none⟩ _
  replace t0:V4.cell? ⟨w3.heap.size,0,none⟩=some (.int .i64 d.idx):=by rw[hEV4];simp[go_sem,t0,tf]
  replace t1:V4.cell? ⟨w3.heap.size,1,none⟩=some (.slice s1 m1 f1):=by rw[hEV4];simp[go_sem,t1,tf]
  replace t2:V4.cell? ⟨w3.heap.size,2,none⟩=some (.slice s2 m2 f2):=by rw[hEV4];simp[go_sem,t2,tf]
  replace t3:V4.cell? ⟨w3.heap.size,3,none⟩=some (.slice s3 m3 f3):=by rw[hEV4];simp[go_sem,t3,tf]
  replace t4:V4.cell? ⟨w3.heap.size,4,none⟩=some (.slice p4 np q4):=by rw[hEV4];simp[go_sem,t4,tf]
  replace t5:V4.cell? ⟨w3.heap.size,5,none⟩=some (.slice s5 m5 f5):=by rw[hEV4];simp[go_sem,t5,tf]
  replace tf:∀o,V4.frozen? ⟨w3.heap.size,o,none⟩=false:=fun o=>by rw[hEV4];simp[go_sem,tf]
  clear hEV4;replace y0:=hmV4.cell y0 hNB;replace y1:=hmV4.cell y1 hNB;replace y2:=hmV4.cell y2 hNB;replace y3:=hmV4.cell y3 hNB;replace y4:=hmV4.cell y4 hNB;replace y5:=hmV4.cell y5 hNB;replace r0:=hmV4.cell r0 hRB;replace r1:=hmV4.cell r1 hRB;replace r2:=hmV4.cell r2 hRB;replace r3:=hmV4.cell r3 hRB;replace r4:=hmV4.cell r4 hRB;replace r5:=hmV4.cell r5 hRB;replace r6:=hmV4.cell r6 hRB;replace r7:=hmV4.cell r7 hRB;replace rf:∀o,V4.frozen? ⟨w.heap.size+1,o,none⟩=false:=fun o=>(hmV4.frz10 (a:=⟨w.heap.size+1,o,none⟩) (by dsimp only;omega) hRB).trans (rf o)
  have zzV4:w4.heap.size≤V4.heap.size:=hmV4.size;obtain⟨V5,hEV5⟩:∃W,W=V4.setCell ⟨w3.heap.size,3,none⟩ (.slice none 0 0):=⟨_,rfl⟩
  rw[←hEV5];have hmV5:Mod (fun b=>b=w3.heap.size) V4 V5:=by rw[hEV5];exact Mod.of_set V4 ⟨w3.heap.size,3,none⟩ _
  replace t0:V5.cell? ⟨w3.heap.size,0,none⟩=some (.int .i64 d.idx):=by rw[hEV5];simp[go_sem,t0,tf]
  replace t1:V5.cell? ⟨w3.heap.size,1,none⟩=some (.slice s1 m1 f1):=by rw[hEV5];simp[go_sem,t1,tf]
  replace t2:V5.cell? ⟨w3.heap.size,2,none⟩=some (.slice s2 m2 f2):=by rw[hEV5];simp[go_sem,t2,tf]
  replace t3:V5.cell? ⟨w3.heap.size,3,none⟩=some (.slice none 0 0):=by rw[hEV5];simp[go_sem,t3,tf]
  replace t4:V5.cell? ⟨w3.heap.size,4,none⟩=some (.slice p4 np q4):=by rw[hEV5];simp[go_sem,t4,tf]
  replace t5:V5.cell? ⟨w3.heap.size,5,none⟩=some (.slice s5 m5 f5):=by rw[hEV5];simp[go_sem,t5,tf]
  replace tf:∀o,V5.frozen? ⟨w3.heap.size,o,none⟩=false:=fun o=>by rw[hEV5];simp[go_sem,tf]
  clear hEV5;replace y0:=hmV5.cell y0 hNB;replace y1:=hmV5.cell y1 hNB;replace y2:=hmV5.cell y2 hNB;replace y3:=hmV5.cell y3 hNB;replace y4:=hmV5.cell y4 hNB;replace y5:=hmV5.cell y5 hNB;replace r0:=hmV5.cell r0 hRB;replace r1:=hmV5.cell r1 hRB;replace r2:=hmV5.cell r2 hRB;replace r3:=hmV5.cell r3 hRB;replace r4:=hmV5.cell r4 hRB;replace r5:=hmV5.cell r5 hRB;replace r6:=hmV5.cell r6 hRB;replace r7:=hmV5.cell r7 hRB;replace rf:∀o,V5.frozen? ⟨w.heap.size+1,o,none⟩=false:=fun o=>(hmV5.frz10 (a:=⟨w.heap.size+1,o,none⟩) (by dsimp only;omega) hRB).trans (rf o)
  have zzV5:V4.heap.size≤V5.heap.size:=hmV5.size;have HOv:Hid (∃F6,shdR.O V5 w.heap.size F6 (.agg #[.int .i64 d.idx,.slice s1 m1 f1,.slice s2 m2 f2,.slice none 0 0,.slice p4 np q4,.slice s5 m5 f5]) (dJ d k o 0)∧∀b,F6 b→b≠w3.heap.size∧w.heap.size+2≤b):=by
   have h4:shdR.O V4 w.heap.size F5 (.agg #[.int .i64 d.idx,.slice s1 m1 f1,.slice s2 m2 f2,.slice s3 m3 f3,.slice p4 np q4,.slice s5 m5 f5]) ⟨d.idx,d.bals,d.votes,d.held,putM d.done ⟨k,o⟩,d.appl⟩:=shdR.mod HO5.out hmV4 (fun b hb e=>(HF5.out b hb).1 e);have h5:shdR.O V5 w.heap.size F5 (.agg #[.int .i64 d.idx,.slice s1 m1 f1,.slice s2 m2 f2,.slice s3 m3 f3,.slice p4 np q4,.slice s5 m5 f5]) ⟨d.idx,d.bals,d.votes,d.held,putM d.done ⟨k,o⟩,d.appl⟩:=shdR.mod h4 hmV5 (fun b hb e=>(HF5.out b hb).1 e);obtain⟨G3,_,_,LN3⟩:=vQ (d:=⟨d.idx,d.bals,d.votes,d.held,putM d.done ⟨k,o⟩,d.appl⟩) h5;obtain⟨F6,h6,hF6⟩:=LN3 V5 (fun _=>False) (.slice none 0 0) [] (xH _ _) (Mod.refl _ _) (fun b hb=>hb.elim);rw[fWn];exact⟨F6,h6,fun b hb=>(hF6 b hb).elim (fun h=>HF5.out b h) (fun h=>⟨oM,by omega⟩)⟩
  have hBv:Below w.heap.size w V5:=hmV5.below (hmV4.below hB4 hB4.size (fun b e=>by rw[e];omega)) oM (fun b e=>by rw[e];omega);obtain⟨F6,hO6,hF6⟩:=HOv.out;have HO6:Hid (shdR.O V5 w.heap.size F6 (.agg #[.int .i64 d.idx,.slice s1 m1 f1,.slice s2 m2 f2,.slice none 0 0,.slice p4 np q4,.slice s5 m5 f5]) (dJ d k o 0)):=hO6;have HF6:Hid (∀b,F6 b→b≠w3.heap.size∧w.heap.size+2≤b):=hF6;clear hmV4 hmV5 HOv hO6 hF6 HO5 HF5 hB4;go_loopw [10] (fun i w'=>∃(j:Nat) (s1 s2 s3 s4 s5:Option Addr) (m1 m2 m3 m4 m5 f1 f2 f3 f4 f5:Nat) (F:Nat→Prop),j≤n3∧i =.int .i64 j∧Hid (shdR.O w' w.heap.size F (.agg #[.int .i64 d.idx,.slice s1 m1 f1,.slice s2 m2 f2,.slice s3 m3 f3,.slice s4 m4 f4,.slice s5 m5 f5]) (dJ d k o j))∧Hid (∀b,F b→b≠w3.heap.size∧w.heap.size+2≤b)∧(w'.cell? ⟨w3.heap.size,0,none⟩=some (.int .i64 d.idx)∧w'.cell? ⟨w3.heap.size,1,none⟩=some (.slice s1 m1 f1)∧w'.cell? ⟨w3.heap.size,2,none⟩=some (.slice s2 m2 f2)∧w'.cell? ⟨w3.heap.size,3,none⟩=some (.slice s3 m3 f3)∧w'.cell? ⟨w3.heap.size,4,none⟩=some (.slice s4 m4 f4)∧w'.cell? ⟨w3.heap.size,5,none⟩=some (.slice s5 m5 f5))∧(∀o,w'.frozen? ⟨w3.heap.size,o,none⟩=false)∧(w'.cell? ⟨w.heap.size,0,none⟩=some (.int .i64 d.idx)∧w'.cell? ⟨w.heap.size,1,none⟩=some (.slice a1 n1 c1)∧w'.cell? ⟨w.heap.size,2,none⟩=some (.slice a2 n2 c2)∧w'.cell? ⟨w.heap.size,3,none⟩=some (.slice a3 n3 c3)∧w'.cell? ⟨w.heap.size,4,none⟩=some (.slice a4 n4 c4)∧w'.cell? ⟨w.heap.size,5,none⟩=some (.slice a5 n5 c5))∧(w'.cell? ⟨w.heap.size+1,0,none⟩=some (.int .i64 0)∧w'.cell? ⟨w.heap.size+1,1,none⟩=some (.int .i64 0)∧w'.cell? ⟨w.heap.size+1,2,none⟩=some (.int .i64 0)∧w'.cell? ⟨w.heap.size+1,3,none⟩=some (.slice none 0 0)∧w'.cell? ⟨w.heap.size+1,4,none⟩=some (.slice none 0 0)∧w'.cell? ⟨w.heap.size+1,5,none⟩=some (.slice none 0 0)∧w'.cell? ⟨w.heap.size+1,6,none⟩=some (.slice none 0 0)∧w'.cell? ⟨w.heap.size+1,7,none⟩=some (.slice none 0 0))∧(∀o,w'.frozen? ⟨w.heap.size+1,o,none⟩=false)∧w3.heap.size<w'.heap.size∧Below w.heap.size w w') (fun i _=>n3-(intOf i).toNat)
  case atStart=>exact⟨0,s1,s2,none,p4,s5,m1,m2,0,np,m5,f1,f2,0,q4,f5,F6,Nat.zero_le _,rfl,HO6,HF6,⟨t0,t1,t2,t3,t4,t5⟩,tf,⟨y0,y1,y2,y3,y4,y5⟩,⟨r0,r1,r2,r3,r4,r5,r6,r7⟩,rf,by omega,hBv⟩
  clear t0 t1 t2 t3 t4 t5 tf y0 y1 y2 y3 y4 y5 r0 r1 r2 r3 r4 r5 r6 r7 rf HO6 HF6;obtain⟨j,s1,s2,s3,s4,s5,m1,m2,m3,m4,m5,f1,f2,f3,f4,f5,F,hj,rfl,HO,HF,⟨t0,t1,t2,t3,t4,t5⟩,tf,⟨y0,y1,y2,y3,y4,y5⟩,⟨r0,r1,r2,r3,r4,r5,r6,r7⟩,rf,zBr,hBr⟩:=hrel;have zr2:=hBr.size;by_cases hlt:j<n3
  ·
   obtain⟨bx,ox,pp,qq,rfl,g0,g1,hV⟩:=HX.out j hlt;have HCc':=HCc.out j hlt;obtain⟨l,hl⟩:∃l,l=d.held.getD j default:=⟨_,rfl⟩
   rw[←hl] at g0 g1 hV HCc';have HLl:Hid (l=d.held.getD j default):=hl;clear hl;have HCk:Hid (bW w fun W=>Calls Tryz.prog 155 #[.agg #[.int .i64 l.id,.slice pp l.legs.length qq]] W fun e w'=>∃u F,e =.returned u∧contR.O w' W.heap.size F u l∧Below W.heap.size W w'):=fun W hW=>HCc' W _ (contR.below hV hW)
   clear hV HCc';replace g0:=cK hBr g0;replace g1:=cK hBr g1;have zb:bx<wr.heap.size:=wL wr _ g0;have k1:(j:Int)<n3:=oM;have k2:(0:Int)≤j:=oM;obtain⟨nl,hnl⟩:∃nl,nl=l.legs.length:=⟨_,rfl⟩
   rw[←hnl] at g1 HCk;have HNL:Hid (nl=l.legs.length):=hnl;clear hnl;go_wp2_with fail;refine(HCk.out _ hBr).mono ?_;rintro e wc ⟨vc,Fu,rfl,ou,hb2w⟩;obtain⟨a7,c7,rfl⟩:=xG ou;rw[←HNL.out] at ou ⊢;have HU:Hid (contR.O wc wr.heap.size Fu (.agg #[.int .i64 l.id,.slice a7 nl c7]) l):=ou;have HFu:Hid (∀b,Fu b→wr.heap.size≤b∧b<wc.heap.size):=fun b hb=>contR.rng ou b hb
   have zwc:=hb2w.size;clear ou HCk g0 g1;replace t0:=cK hb2w t0;replace t1:=cK hb2w t1;replace t2:=cK hb2w t2;replace t3:=cK hb2w t3;replace t4:=cK hb2w t4;replace t5:=cK hb2w t5;replace y0:=cK hb2w y0;replace y1:=cK hb2w y1;replace y2:=cK hb2w y2;replace y3:=cK hb2w y3;replace y4:=cK hb2w y4;replace y5:=cK hb2w y5;replace r0:=cK hb2w r0;replace r1:=cK hb2w r1;replace r2:=cK hb2w r2;replace r3:=cK hb2w r3;replace r4:=cK hb2w r4;replace r5:=cK hb2w r5;replace r6:=cK hb2w r6;replace r7:=cK hb2w r7;replace tf:∀o,World.frozen? wc ⟨w3.heap.size,o,none⟩=false:=fun o=>by rw[(bcell hb2w).2 _ _ oM];exact tf o
   replace rf:∀o,World.frozen? wc ⟨w.heap.size+1,o,none⟩=false:=fun o=>by rw[(bcell hb2w).2 _ _ oM];exact rf o
   have zBc:w3.heap.size<wc.heap.size:=oM;have zNc:w.heap.size+1<wc.heap.size:=oM;have zNc0:w.heap.size<wc.heap.size:=oM;by_cases hid:l.id=k;rotate_left
   ·
    have HDJ:Hid (dJ d k o (j+1)=⟨d.idx,(dJ d k o j).bals,d.votes,kN k (d.held.take j)++[l],putM d.done ⟨k,o⟩,(dJ d k o j).appl⟩):=by
     show _=_;rw[HLl.out];exact HDo.out j hlt (by rw[←HLl.out];exact hid)
    have hid':(l.id !=k)=true:=by simpa using hid
    obtain⟨G3,o3,hG3,LN3⟩:=vQ (d:=dJ d k o j) HO.out;have HLN3:Hid (∀(w':World) (Fj':Nat→Prop) (v:Value) (ys:List Cont),contsR.O w' w.heap.size Fj' v ys→Mod G3 wr w'→(∀b,Fj' b→G3 b∨wr.heap.size≤b)→∃F',shdR.O w' w.heap.size F' (.agg #[.int .i64 d.idx,.slice s1 m1 f1,.slice s2 m2 f2,v,.slice s4 m4 f4,.slice s5 m5 f5]) ⟨d.idx,(dJ d k o j).bals,d.votes,ys,putM d.done ⟨k,o⟩,(dJ d k o j).appl⟩∧∀b,F' b→F b∨wr.heap.size≤b):=LN3;have HO3:Hid (contsR.O wr w.heap.size G3 (.slice s3 m3 f3) (kN k (d.held.take j))):=o3;have HG3:Hid (∀b,G3 b→(b≠w3.heap.size∧w.heap.size+2≤b)∧b<wr.heap.size):=fun b hb=>⟨HF.out b (hG3 b hb),(contsR.rng o3 b hb).2⟩
    have HM3:Hid ((kN k (d.held.take j)).length=m3∧m3≤2000):=by
     obtain⟨a',c',e'⟩:=fM (contsR.ofO o3);simp only[Value.slice.injEq] at e';have h1:(kN k (d.held.take j)).length=m3:=e'.2.1.symm;have h2:(kN k (d.held.take j)).length≤(d.held.take j).length:=List.length_filter_le _ _;rw[List.length_take] at h2;exact⟨h1,by have:=HLh.out;omega⟩
    clear LN3 o3 hG3;go_wp2_with (at_builtin;refine fUe _ rfl _ _ rfl w.heap.size G3 Fu _ (kN k (d.held.take j)) l (wc.heap.size+1) a7 c7 rfl rfl ?a1 ?a2 ?a3 ?a4 ?a5 ?a6 ?_)
    case a1=>exact contsR.alloc (contsR.alloc (contsR.keep HO3.out hb2w) _) _
    case a2=>rw[←HNL.out];exact contR.alloc (contR.alloc (contR.base HU.out oM) _) _
    case a3=>exact fun b h1 h2=>by have:=(HG3.out b h1).2;have:=(HFu.out b h2).1;omega
    case a4=>rw[←HNL.out];exact⟨sG,by simp[go_sem]⟩
    case a5=>have:=HM3.out;omega
    case a6=>simp;omega
    intro v8 w8 F8 o8 m8 l8;have hm8:Mod G3 wr w8:=(Mod.of_below (bA (bA hb2w _) _)).trans m8;obtain⟨F9,o9,hF9⟩:=HLN3.out w8 F8 v8 _ o8 hm8 (fun b hb=>by
     rcases l8 b hb with h|h|h
     ·exact .inl h
     ·exact .inr (HFu.out b h).1
     exact .inr (by first|omega|(simp at h;omega)))
    obtain⟨p8,q8,e8⟩:=fM (contsR.ofO o8);rw[List.length_append,HM3.out.1] at e8;subst e8;have nB:¬G3 w3.heap.size:=fun h=>(HG3.out w3.heap.size h).1.1 rfl
    have nN:¬G3 w.heap.size:=fun h=>by have:=(HG3.out _ h).1.2;omega
    have nR:¬G3 (w.heap.size+1):=fun h=>by have:=(HG3.out _ h).1.2;omega
    have HO9:Hid (shdR.O w8 w.heap.size F9 (.agg #[.int .i64 d.idx,.slice s1 m1 f1,.slice s2 m2 f2,.slice p8 (m3+1) q8,.slice s4 m4 f4,.slice s5 m5 f5]) (dJ d k o (j+1))):=by
     show shdR.O _ _ _ _ _;rw[HDJ.out];exact o9
    have HF9:Hid (∀b,F9 b→b≠w3.heap.size∧w.heap.size+2≤b):=fun b hb=>(hF9 b hb).elim (fun h=>HF.out b h) (fun h=>⟨oM,by omega⟩)
    have hm8c:Mod G3 wc w8:=(Mod.of_below (bA (bA (bR _ _) _) _)).trans m8;have hB8:Below w.heap.size w w8:=hm8.below hBr hBr.size (fun b hb=>by have:=(HG3.out b hb).1.2;omega);replace t0:=hm8c.cell t0 nB;replace t1:=hm8c.cell t1 nB;replace t2:=hm8c.cell t2 nB;replace t3:=hm8c.cell t3 nB;replace t4:=hm8c.cell t4 nB;replace t5:=hm8c.cell t5 nB;replace y0:=hm8c.cell y0 nN;replace y1:=hm8c.cell y1 nN;replace y2:=hm8c.cell y2 nN;replace y3:=hm8c.cell y3 nN;replace y4:=hm8c.cell y4 nN;replace y5:=hm8c.cell y5 nN;replace r0:=hm8c.cell r0 nR;replace r1:=hm8c.cell r1 nR;replace r2:=hm8c.cell r2 nR;replace r3:=hm8c.cell r3 nR;replace r4:=hm8c.cell r4 nR;replace r5:=hm8c.cell r5 nR;replace r6:=hm8c.cell r6 nR;replace r7:=hm8c.cell r7 nR;replace tf:∀o,World.frozen? w8 ⟨w3.heap.size,o,none⟩=false:=fun o=>(hm8c.frz10 (a:=⟨w3.heap.size,o,none⟩) (by dsimp only;omega) nB).trans (tf o)
    replace rf:∀o,World.frozen? w8 ⟨w.heap.size+1,o,none⟩=false:=fun o=>(hm8c.frz10 (a:=⟨w.heap.size+1,o,none⟩) (by dsimp only;omega) nR).trans (rf o)
    have zB8:w3.heap.size<w8.heap.size:=Nat.lt_of_lt_of_le zBr hm8.size;clear o8 m8 l8 hm8 hm8c o9 hF9 HLN3 HO3 HG3 HO HF nB nN nR HDJ HU HFu;go_wp2;obtain⟨W8,hEW8⟩:∃W,W=w8.setCell ⟨w3.heap.size,3,none⟩ (.slice p8 (m3+1) q8):=⟨_,rfl⟩
    rw[←hEW8];have hmW8:Mod (fun b=>b=w3.heap.size) w8 W8:=by rw[hEW8];exact Mod.of_set w8 ⟨w3.heap.size,3,none⟩ _
    replace t0:W8.cell? ⟨w3.heap.size,0,none⟩=some (.int .i64 d.idx):=by rw[hEW8];simp[go_sem,t0,tf]
    replace t1:W8.cell? ⟨w3.heap.size,1,none⟩=some (.slice s1 m1 f1):=by rw[hEW8];simp[go_sem,t1,tf]
    replace t2:W8.cell? ⟨w3.heap.size,2,none⟩=some (.slice s2 m2 f2):=by rw[hEW8];simp[go_sem,t2,tf]
    replace t3:W8.cell? ⟨w3.heap.size,3,none⟩=some (.slice p8 (m3+1) q8):=by rw[hEW8];simp[go_sem,t3,tf]
    replace t4:W8.cell? ⟨w3.heap.size,4,none⟩=some (.slice s4 m4 f4):=by rw[hEW8];simp[go_sem,t4,tf]
    replace t5:W8.cell? ⟨w3.heap.size,5,none⟩=some (.slice s5 m5 f5):=by rw[hEW8];simp[go_sem,t5,tf]
    replace tf:∀o,W8.frozen? ⟨w3.heap.size,o,none⟩=false:=fun o=>by rw[hEW8];simp[go_sem,tf]
    clear hEW8;replace y0:=hmW8.cell y0 hNB;replace y1:=hmW8.cell y1 hNB;replace y2:=hmW8.cell y2 hNB;replace y3:=hmW8.cell y3 hNB;replace y4:=hmW8.cell y4 hNB;replace y5:=hmW8.cell y5 hNB;replace r0:=hmW8.cell r0 hRB;replace r1:=hmW8.cell r1 hRB;replace r2:=hmW8.cell r2 hRB;replace r3:=hmW8.cell r3 hRB;replace r4:=hmW8.cell r4 hRB;replace r5:=hmW8.cell r5 hRB;replace r6:=hmW8.cell r6 hRB;replace r7:=hmW8.cell r7 hRB;replace rf:∀o,W8.frozen? ⟨w.heap.size+1,o,none⟩=false:=fun o=>(hmW8.frz10 (a:=⟨w.heap.size+1,o,none⟩) (by dsimp only;omega) hRB).trans (rf o)
    have zzW8:w8.heap.size≤W8.heap.size:=hmW8.size;have HOe:Hid (shdR.O W8 w.heap.size F9 (.agg #[.int .i64 d.idx,.slice s1 m1 f1,.slice s2 m2 f2,.slice p8 (m3+1) q8,.slice s4 m4 f4,.slice s5 m5 f5]) (dJ d k o (j+1))):=shdR.mod HO9.out hmW8 (fun b hb e=>(HF9.out b hb).1 e);have hBe:Below w.heap.size w W8:=hmW8.below hB8 hB8.size (fun b e=>by rw[e];omega);exact⟨⟨j+1,s1,s2,p8,s4,s5,m1,m2,(m3+1),m4,m5,f1,f2,q8,f4,f5,F9,by omega,by go_num,HOe,HF9,⟨t0,t1,t2,t3,t4,t5⟩,tf,⟨y0,y1,y2,y3,y4,y5⟩,⟨r0,r1,r2,r3,r4,r5,r6,r7⟩,rf,by omega,hBe⟩,mI⟩
   by_cases ho1:o=1
   ·
    have HD1:=H1J.out j hlt (by rw[←HLl.out];exact hid) ho1;rw[←HLl.out] at HD1;have HDb:Hid ((dJ d k o j).bals=d.bals):=HD1.1;have HDa:Hid ((dJ d k o j).appl=d.appl):=HD1.2.1;have HDJ:Hid (dJ d k o (j+1)=⟨d.idx,addB d.bals (onSh d.idx l.legs),d.votes,kN k (d.held.take j),putM d.done ⟨k,o⟩,d.appl++[k]⟩):=HD1.2.2;have HDj:Hid (dJ d k o j=⟨d.idx,d.bals,d.votes,kN k (d.held.take j),putM d.done ⟨k,o⟩,d.appl⟩):=by
     have e1:=HDb.out;have e2:=HDa.out;show _=_;unfold dJ at e1 e2 ⊢;dsimp only at e1 e2;rw[e1,e2]
    clear HD1;have hid':(l.id !=k)=false:=by simpa using hid
    clear hid;have ho1':(o==1)=true:=by simp[ho1]
    clear ho1;have HOK8:=HOK.out.held.len (show j<d.held.length by rw[HN3.out];exact hlt);have HOKf:=HOK.out.held.fault (show j<d.held.length by rw[HN3.out];exact hlt);rw[←HLl.out] at HOK8 HOKf;have HAk:Hid (AddOk d.bals (onSh d.idx l.legs)):=fUp (tQ (pE HOK.out.base).2) (fun x hx=>HOKf x (List.mem_filter.1 hx).1) (Nat.le_trans (List.length_filter_le _ _) HOK8);have HLs:Hid (bW wc fun W=>Calls Tryz.prog 127 #[.agg #[.int .i64 l.id,.slice a7 nl c7],.int .i64 d.idx] W fun e w'=>∃v,e =.returned v∧w'.ownsRow W.heap.size 168 4 v (onSh d.idx l.legs).length (gN (onSh d.idx l.legs))∧Below W.heap.size W w'):=fun W hW=>by
     obtain⟨u,e,hu⟩:=contR.below (contR.ofO HU.out) hW;simp only[Value.agg.injEq,Array.mk.injEq,List.cons.injEq,and_true,true_and] at e;rw[e];exact xJ _ _ _ _ W hu oM
    have hb2a:Below wr.heap.size wr (wc.alloc (.cells #[.int .i64 l.id,.slice a7 nl c7] 57)):=bA hb2w _;obtain⟨we,hwe⟩:∃we,we=wc.alloc (.cells #[.int .i64 l.id,.slice a7 nl c7] 57):=⟨_,rfl⟩
    go_wp2;rw[←hwe] at hb2a ⊢;have h2e:Below wc.heap.size wc we:=by rw[hwe];exact qBq
    have q0:we.cell? ⟨wc.heap.size,0,none⟩=some (.int .i64 l.id):=by rw[hwe];simp[go_sem]
    have q1:we.cell? ⟨wc.heap.size,1,none⟩=some (.slice a7 nl c7):=by rw[hwe];simp[go_sem]
    clear hwe;have HOe:Hid (shdR.O we w.heap.size F (.agg #[.int .i64 d.idx,.slice s1 m1 f1,.slice s2 m2 f2,.slice s3 m3 f3,.slice s4 m4 f4,.slice s5 m5 f5]) ⟨d.idx,d.bals,d.votes,kN k (d.held.take j),putM d.done ⟨k,o⟩,d.appl⟩):=by
     show shdR.O _ _ _ _ _;rw[←HDj.out];exact shdR.keep HO.out hb2a
    have hBe:Below w.heap.size w we:=bS hBr hb2a;have zBe:w3.heap.size<we.heap.size:=by have:=hb2a.size;omega
    have zRe:wr.heap.size≤we.heap.size:=hb2a.size;replace t0:=cK h2e t0;replace t1:=cK h2e t1;replace t2:=cK h2e t2;replace t3:=cK h2e t3;replace t4:=cK h2e t4;replace t5:=cK h2e t5;replace y0:=cK h2e y0;replace y1:=cK h2e y1;replace y2:=cK h2e y2;replace y3:=cK h2e y3;replace y4:=cK h2e y4;replace y5:=cK h2e y5;replace r0:=cK h2e r0;replace r1:=cK h2e r1;replace r2:=cK h2e r2;replace r3:=cK h2e r3;replace r4:=cK h2e r4;replace r5:=cK h2e r5;replace r6:=cK h2e r6;replace r7:=cK h2e r7;replace tf:∀o,World.frozen? we ⟨w3.heap.size,o,none⟩=false:=fun o=>by rw[(bcell h2e).2 _ _ oM];exact tf o
    replace rf:∀o,World.frozen? we ⟨w.heap.size+1,o,none⟩=false:=fun o=>by rw[(bcell h2e).2 _ _ oM];exact rf o
    clear HO HDb HDa HDj hb2a;obtain⟨G1,og1,hG1,LN1⟩:=fO8 (d:=⟨d.idx,d.bals,d.votes,kN k (d.held.take j),putM d.done ⟨k,o⟩,d.appl⟩) HOe.out;have HVb:Hid (bW we fun W=>balsR.V W (.slice s1 m1 f1) d.bals):=fun W hW=>balsR.below (balsR.ofO og1) hW
    have HLN1:Hid (∀(w':World) (Fj':Nat→Prop) (v:Value) (ys:List Bal),balsR.O w' w.heap.size Fj' v ys→Mod G1 we w'→(∀b,Fj' b→G1 b∨we.heap.size≤b)→∃F',shdR.O w' w.heap.size F' (.agg #[.int .i64 d.idx,v,.slice s2 m2 f2,.slice s3 m3 f3,.slice s4 m4 f4,.slice s5 m5 f5]) ⟨d.idx,ys,d.votes,kN k (d.held.take j),putM d.done ⟨k,o⟩,d.appl⟩∧∀b,F' b→F b∨we.heap.size≤b):=LN1;clear og1 hG1 LN1;refine wp_region_noPanic ?_;have hbd:Below we.heap.size we we.drew:=qBq;refine fB (fun W=>Below we.heap.size we W∧W.cell? ⟨w3.heap.size,1,none⟩=some (.slice s1 m1 f1)∧W.cell? ⟨wc.heap.size,0,none⟩=some (.int .i64 l.id)∧W.cell? ⟨wc.heap.size,1,none⟩=some (.slice a7 nl c7)∧W.cell? ⟨w.heap.size,0,none⟩=some (.int .i64 d.idx)) 8 kF ⟨hbd,cK hbd t1,cK hbd q0,cK hbd q1,cK hbd y0⟩ (fun hS=>?_);refine tY 0 ?_;refine tY 1 ?_;refine tY 2 ?_;refine tY 3 ?_;refine tY 4 ?_;refine uS 5 rfl (fun K hK=>?_);go_simp;refine(HLs.out _ (bS h2e hbd)).mono ?_;rintro e w4 ⟨v4,rfl,o4,hb4⟩;obtain⟨al,cl,rfl⟩:=fD o4;have hbe4:Below we.heap.size we w4:=bS hbd hb4;have HVo:Hid (legsR.V w4 (.slice al (onSh d.idx l.legs).length cl) (onSh d.idx l.legs)):=gV o4;refine hK _ _ (fun _=>⟨hbe4,cK hbe4 t1,cK hbe4 q0,cK hbe4 q1,cK hbe4 y0⟩) ?_;clear hK K hS o4 hb4 HLs;try simp only[jX]
    refine uS 6 rfl (fun K hK=>?_);go_simp;refine(fS6 _ _ d.bals (onSh d.idx l.legs) w4 (HVb.out w4 hbe4) HVo.out HAk.out).mono ?_;rintro e w5 ⟨v5,F5,rfl,o5,hb5⟩;obtain⟨pb,qb,e5⟩:=fD o5.1;have hbe5:Below we.heap.size we w5:=bS hbe4 hb5;have hze4:=hbe4.size;obtain⟨mb,hmb⟩:∃mb,mb=(addB d.bals (onSh d.idx l.legs)).length:=⟨_,rfl⟩
    rw[←hmb] at e5;subst e5;refine hK _ _ (fun _=>⟨hbe5,cK hbe5 t1,cK hbe5 q0,cK hbe5 q1,cK hbe5 y0⟩) ?_;clear hK K;obtain⟨F6,o6,hF6⟩:=HLN1.out w5 F5 _ _ (balsR.base o5 oM) (Mod.of_below hbe5) (fun b hb=>.inr (by have:=(balsR.rng o5 b hb).1;omega));have HO6:Hid (shdR.O w5 w.heap.size F6 (.agg #[.int .i64 d.idx,.slice pb mb qb,.slice s2 m2 f2,.slice s3 m3 f3,.slice s4 m4 f4,.slice s5 m5 f5]) ⟨d.idx,addB d.bals (onSh d.idx l.legs),d.votes,kN k (d.held.take j),putM d.done ⟨k,o⟩,d.appl⟩):=o6;have HF6:Hid (∀b,F6 b→b≠w3.heap.size∧w.heap.size+2≤b):=fun b hb=>(hF6 b hb).elim (fun h=>HF.out b h) (fun h=>⟨oM,by omega⟩)
    have hB5:Below w.heap.size w w5:=bS hBe hbe5;have hS5:=And.intro hbe5 (And.intro (cK hbe5 t1) (And.intro (cK hbe5 q0) (And.intro (cK hbe5 q1) (cK hbe5 y0))));replace t0:=cK hbe5 t0;replace t1:=cK hbe5 t1;replace t2:=cK hbe5 t2;replace t3:=cK hbe5 t3;replace t4:=cK hbe5 t4;replace t5:=cK hbe5 t5;replace y0:=cK hbe5 y0;replace y1:=cK hbe5 y1;replace y2:=cK hbe5 y2;replace y3:=cK hbe5 y3;replace y4:=cK hbe5 y4;replace y5:=cK hbe5 y5;replace r0:=cK hbe5 r0;replace r1:=cK hbe5 r1;replace r2:=cK hbe5 r2;replace r3:=cK hbe5 r3;replace r4:=cK hbe5 r4;replace r5:=cK hbe5 r5;replace r6:=cK hbe5 r6;replace r7:=cK hbe5 r7;replace tf:∀o,World.frozen? w5 ⟨w3.heap.size,o,none⟩=false:=fun o=>by rw[(bcell hbe5).2 _ _ oM];exact tf o
    replace rf:∀o,World.frozen? w5 ⟨w.heap.size+1,o,none⟩=false:=fun o=>by rw[(bcell hbe5).2 _ _ oM];exact rf o
    have zB5:w3.heap.size<w5.heap.size:=by have:=hbe5.size;omega
    have zR5:we.heap.size≤w5.heap.size:=hbe5.size;clear o5 hb5 o6 hF6 HLN1 HVb HVo hbe4 hbe5 HOe HF hmb q0 q1;try simp only[jX]
    refine uS 7 rfl (fun K hK=>?_);go_simp;refine hK _ _ (fun _=>hS5) ?_;clear hK K;try simp only[jX]
    refine uS 8 rfl (fun K hK=>?_);go_simp;refine hK _ _ (fun h=>absurd rfl h) ?_;clear hK K hS5;refine dP ?_;obtain⟨W6,hEW6⟩:∃W,W=w5.setCell ⟨w3.heap.size,1,none⟩ (.slice pb mb qb):=⟨_,rfl⟩
    rw[←hEW6];have hmW6:Mod (fun b=>b=w3.heap.size) w5 W6:=by rw[hEW6];exact Mod.of_set w5 ⟨w3.heap.size,1,none⟩ _
    replace t0:W6.cell? ⟨w3.heap.size,0,none⟩=some (.int .i64 d.idx):=by rw[hEW6];simp[go_sem,t0,tf]
    replace t1:W6.cell? ⟨w3.heap.size,1,none⟩=some (.slice pb mb qb):=by rw[hEW6];simp[go_sem,t1,tf]
    replace t2:W6.cell? ⟨w3.heap.size,2,none⟩=some (.slice s2 m2 f2):=by rw[hEW6];simp[go_sem,t2,tf]
    replace t3:W6.cell? ⟨w3.heap.size,3,none⟩=some (.slice s3 m3 f3):=by rw[hEW6];simp[go_sem,t3,tf]
    replace t4:W6.cell? ⟨w3.heap.size,4,none⟩=some (.slice s4 m4 f4):=by rw[hEW6];simp[go_sem,t4,tf]
    replace t5:W6.cell? ⟨w3.heap.size,5,none⟩=some (.slice s5 m5 f5):=by rw[hEW6];simp[go_sem,t5,tf]
    replace tf:∀o,W6.frozen? ⟨w3.heap.size,o,none⟩=false:=fun o=>by rw[hEW6];simp[go_sem,tf]
    clear hEW6;replace y0:=hmW6.cell y0 hNB;replace y1:=hmW6.cell y1 hNB;replace y2:=hmW6.cell y2 hNB;replace y3:=hmW6.cell y3 hNB;replace y4:=hmW6.cell y4 hNB;replace y5:=hmW6.cell y5 hNB;replace r0:=hmW6.cell r0 hRB;replace r1:=hmW6.cell r1 hRB;replace r2:=hmW6.cell r2 hRB;replace r3:=hmW6.cell r3 hRB;replace r4:=hmW6.cell r4 hRB;replace r5:=hmW6.cell r5 hRB;replace r6:=hmW6.cell r6 hRB;replace r7:=hmW6.cell r7 hRB;replace rf:∀o,W6.frozen? ⟨w.heap.size+1,o,none⟩=false:=fun o=>(hmW6.frz10 (a:=⟨w.heap.size+1,o,none⟩) (by dsimp only;omega) hRB).trans (rf o)
    have zzW6:w5.heap.size≤W6.heap.size:=hmW6.size;have HO7:Hid (shdR.O W6 w.heap.size F6 (.agg #[.int .i64 d.idx,.slice pb mb qb,.slice s2 m2 f2,.slice s3 m3 f3,.slice s4 m4 f4,.slice s5 m5 f5]) ⟨d.idx,addB d.bals (onSh d.idx l.legs),d.votes,kN k (d.held.take j),putM d.done ⟨k,o⟩,d.appl⟩):=shdR.mod HO6.out hmW6 (fun b hb e=>(HF6.out b hb).1 e);have hB6:Below w.heap.size w W6:=hmW6.below hB5 hB5.size (fun b e=>by rw[e];omega);clear hmW6 HO6 hB5;obtain⟨G5,og5,hG5,LN5⟩:=fD0 (d:=⟨d.idx,addB d.bals (onSh d.idx l.legs),d.votes,kN k (d.held.take j),putM d.done ⟨k,o⟩,d.appl⟩) HO7.out;have HG5:Hid (G5=fun b'=>(Value.slice s5 m5 f5).ownBlock=some b'):=og5.2;have HG5F:Hid (∀b,G5 b→(b≠w3.heap.size∧w.heap.size+2≤b)):=fun b hb=>HF6.out b (hG5 b hb)
    have HM5:Hid (d.appl.length=m5∧m5≤100):=by
     obtain⟨a',c',e'⟩:=fD og5.1;simp only[Value.slice.injEq] at e';have h1:m5=d.appl.length:=e'.2.1;exact⟨h1.symm,by have:=HOK.out.ls.na;omega⟩
    have HOa:Hid (W6.ownsRow w.heap.size 2 1 (.slice s5 m5 f5) m5 (kM d.appl)):=by have h:=og5.1;dsimp only at h;rw[HM5.out.1] at h;exact h
    have HLN5:Hid (∀(w':World) (Fj':Nat→Prop) (v:Value) (ys:List Int),intsR.O w' w.heap.size Fj' v ys→Mod G5 W6 w'→(∀b,Fj' b→G5 b∨W6.heap.size≤b)→∃F',shdR.O w' w.heap.size F' (.agg #[.int .i64 d.idx,.slice pb mb qb,.slice s2 m2 f2,.slice s3 m3 f3,.slice s4 m4 f4,v]) ⟨d.idx,addB d.bals (onSh d.idx l.legs),d.votes,kN k (d.held.take j),putM d.done ⟨k,o⟩,ys⟩∧∀b,F' b→F6 b∨W6.heap.size≤b):=LN5;clear og5 hG5 LN5 HO7;obtain⟨i0,hi0,hz0,hz1,hz2⟩:=info_parts fCl;have hm5l:=HM5.out.2;go_wp2_with (at_builtin;refine wpList_append_own_at _ rfl _ _ 39 rfl w.heap.size 2 i0 _ 1 8 Tryz.underlying39 hi0 hz0 hz1 hz2 rfl (by decide) _ m5 (kM d.appl) rfl (HOa.out.alloc _) ⟨W6.heap.size,0,none⟩ 1 1 [.int .i64 k] rfl rfl ?c1 ?c2 ?c3 ?c4 ?c5 ?_)
    case c1=>
     intro q u hq;match q,hq with
     | 0,hq=>simp at hq;subst hq;simp[Addr.add,go_sem]
     | q+1,hq=>simp at hq
    case c2=>
     intro u hu;rw[List.mem_singleton] at hu;rw[hu];rfl
    case c3=>unfold maxLen;omega
    case c4=>omega
    case c5=>first|omega|(simp;omega)
    intro v7 w7 ho7 hg7 _ hp7;obtain⟨pa,qa,rfl⟩:=fD ho7;have hm7:Mod G5 W6 w7:=by
     rw[HG5.out];exact(Mod.of_below qBq).trans (Mod.of_grown hg7)
    obtain⟨Fa,oa,hFa⟩:=HLN5.out w7 (fun b'=>(Value.slice pa (m5+1) qa).ownBlock=some b') (.slice pa (m5+1) qa) (d.appl++[k]) ⟨by
     rw[List.length_append,HM5.out.1,zY];exact ho7,rfl⟩ hm7 (fun b' hb'=>by
     rw[HG5.out];rcases hp7 with h|h
     ·exact .inl (h▸hb')
     rw[h] at hb';simp only[Option.some.injEq] at hb';exact .inr (by first|omega|(simp at hb';omega)))
    have nB:¬G5 w3.heap.size:=fun h=>(HG5F.out w3.heap.size h).1 rfl
    have nN:¬G5 w.heap.size:=fun h=>by have:=(HG5F.out _ h).2;omega
    have nR:¬G5 (w.heap.size+1):=fun h=>by have:=(HG5F.out _ h).2;omega
    have HOa7:Hid (shdR.O w7 w.heap.size Fa (.agg #[.int .i64 d.idx,.slice pb mb qb,.slice s2 m2 f2,.slice s3 m3 f3,.slice s4 m4 f4,.slice pa (m5+1) qa]) (dJ d k o (j+1))):=by
     show shdR.O _ _ _ _ _;rw[HDJ.out];exact oa
    have HFa:Hid (∀b,Fa b→b≠w3.heap.size∧w.heap.size+2≤b):=fun b hb=>(hFa b hb).elim (fun h=>HF6.out b h) (fun h=>⟨oM,by omega⟩)
    have hB7:Below w.heap.size w w7:=hm7.below hB6 hB6.size (fun b hb=>by have:=(HG5F.out b hb).2;omega);replace t0:=hm7.cell t0 nB;replace t1:=hm7.cell t1 nB;replace t2:=hm7.cell t2 nB;replace t3:=hm7.cell t3 nB;replace t4:=hm7.cell t4 nB;replace t5:=hm7.cell t5 nB;replace y0:=hm7.cell y0 nN;replace y1:=hm7.cell y1 nN;replace y2:=hm7.cell y2 nN;replace y3:=hm7.cell y3 nN;replace y4:=hm7.cell y4 nN;replace y5:=hm7.cell y5 nN;replace r0:=hm7.cell r0 nR;replace r1:=hm7.cell r1 nR;replace r2:=hm7.cell r2 nR;replace r3:=hm7.cell r3 nR;replace r4:=hm7.cell r4 nR;replace r5:=hm7.cell r5 nR;replace r6:=hm7.cell r6 nR;replace r7:=hm7.cell r7 nR;replace tf:∀o,World.frozen? w7 ⟨w3.heap.size,o,none⟩=false:=fun o=>(hm7.frz10 (a:=⟨w3.heap.size,o,none⟩) (by dsimp only;omega) nB).trans (tf o)
    replace rf:∀o,World.frozen? w7 ⟨w.heap.size+1,o,none⟩=false:=fun o=>(hm7.frz10 (a:=⟨w.heap.size+1,o,none⟩) (by dsimp only;omega) nR).trans (rf o)
    have zB7:w3.heap.size<w7.heap.size:=Nat.lt_of_lt_of_le oM hm7.size;clear oa hFa HLN5 ho7 hg7 hp7 hm7 nB nN nR HG5 HG5F HOa HF6 hB6;go_wp2;obtain⟨W7,hEW7⟩:∃W,W=w7.setCell ⟨w3.heap.size,5,none⟩ (.slice pa (m5+1) qa):=⟨_,rfl⟩
    rw[←hEW7];have hmW7:Mod (fun b=>b=w3.heap.size) w7 W7:=by rw[hEW7];exact Mod.of_set w7 ⟨w3.heap.size,5,none⟩ _
    replace t0:W7.cell? ⟨w3.heap.size,0,none⟩=some (.int .i64 d.idx):=by rw[hEW7];simp[go_sem,t0,tf]
    replace t1:W7.cell? ⟨w3.heap.size,1,none⟩=some (.slice pb mb qb):=by rw[hEW7];simp[go_sem,t1,tf]
    replace t2:W7.cell? ⟨w3.heap.size,2,none⟩=some (.slice s2 m2 f2):=by rw[hEW7];simp[go_sem,t2,tf]
    replace t3:W7.cell? ⟨w3.heap.size,3,none⟩=some (.slice s3 m3 f3):=by rw[hEW7];simp[go_sem,t3,tf]
    replace t4:W7.cell? ⟨w3.heap.size,4,none⟩=some (.slice s4 m4 f4):=by rw[hEW7];simp[go_sem,t4,tf]
    replace t5:W7.cell? ⟨w3.heap.size,5,none⟩=some (.slice pa (m5+1) qa):=by rw[hEW7];simp[go_sem,t5,tf]
    replace tf:∀o,W7.frozen? ⟨w3.heap.size,o,none⟩=false:=fun o=>by rw[hEW7];simp[go_sem,tf]
    clear hEW7;replace y0:=hmW7.cell y0 hNB;replace y1:=hmW7.cell y1 hNB;replace y2:=hmW7.cell y2 hNB;replace y3:=hmW7.cell y3 hNB;replace y4:=hmW7.cell y4 hNB;replace y5:=hmW7.cell y5 hNB;replace r0:=hmW7.cell r0 hRB;replace r1:=hmW7.cell r1 hRB;replace r2:=hmW7.cell r2 hRB;replace r3:=hmW7.cell r3 hRB;replace r4:=hmW7.cell r4 hRB;replace r5:=hmW7.cell r5 hRB;replace r6:=hmW7.cell r6 hRB;replace r7:=hmW7.cell r7 hRB;replace rf:∀o,W7.frozen? ⟨w.heap.size+1,o,none⟩=false:=fun o=>(hmW7.frz10 (a:=⟨w.heap.size+1,o,none⟩) (by dsimp only;omega) hRB).trans (rf o)
    have zzW7:w7.heap.size≤W7.heap.size:=hmW7.size;have HOf:Hid (shdR.O W7 w.heap.size Fa (.agg #[.int .i64 d.idx,.slice pb mb qb,.slice s2 m2 f2,.slice s3 m3 f3,.slice s4 m4 f4,.slice pa (m5+1) qa]) (dJ d k o (j+1))):=shdR.mod HOa7.out hmW7 (fun b hb e=>(HFa.out b hb).1 e);have hBf:Below w.heap.size w W7:=hmW7.below hB7 hB7.size (fun b e=>by rw[e];omega);exact⟨⟨j+1,pb,s2,s3,s4,pa,mb,m2,m3,m4,(m5+1),qb,f2,f3,f4,qa,Fa,by omega,by go_num,HOf,HFa,⟨t0,t1,t2,t3,t4,t5⟩,tf,⟨y0,y1,y2,y3,y4,y5⟩,⟨r0,r1,r2,r3,r4,r5,r6,r7⟩,rf,by omega,hBf⟩,mI⟩
   have HDJ:Hid (dJ d k o (j+1)=dJ d k o j):=HDn.out j hlt (by rw[←HLl.out];exact hid) ho1;have hid':(l.id !=k)=false:=by simpa using hid
   clear hid;have ho1':(o==1)=false:=by simpa using ho1
   clear ho1;have hb2a:Below wr.heap.size wr (wc.alloc (.cells #[.int .i64 l.id,.slice a7 nl c7] 57)):=bA hb2w _;obtain⟨we,hwe⟩:∃we,we=wc.alloc (.cells #[.int .i64 l.id,.slice a7 nl c7] 57):=⟨_,rfl⟩
   go_wp2;rw[←hwe] at hb2a ⊢;have HOe:Hid (shdR.O we w.heap.size F (.agg #[.int .i64 d.idx,.slice s1 m1 f1,.slice s2 m2 f2,.slice s3 m3 f3,.slice s4 m4 f4,.slice s5 m5 f5]) (dJ d k o (j+1))):=by
    show shdR.O _ _ _ _ _;rw[HDJ.out];exact shdR.keep HO.out hb2a
   have hBe:Below w.heap.size w we:=bS hBr hb2a;have zBe:w3.heap.size<we.heap.size:=by have:=hb2a.size;omega
   have h2e:Below wc.heap.size wc we:=by rw[hwe];exact qBq
   replace t0:=cK h2e t0;replace t1:=cK h2e t1;replace t2:=cK h2e t2;replace t3:=cK h2e t3;replace t4:=cK h2e t4;replace t5:=cK h2e t5;replace y0:=cK h2e y0;replace y1:=cK h2e y1;replace y2:=cK h2e y2;replace y3:=cK h2e y3;replace y4:=cK h2e y4;replace y5:=cK h2e y5;replace r0:=cK h2e r0;replace r1:=cK h2e r1;replace r2:=cK h2e r2;replace r3:=cK h2e r3;replace r4:=cK h2e r4;replace r5:=cK h2e r5;replace r6:=cK h2e r6;replace r7:=cK h2e r7;replace tf:∀o,World.frozen? we ⟨w3.heap.size,o,none⟩=false:=fun o=>by rw[(bcell h2e).2 _ _ oM];exact tf o
   replace rf:∀o,World.frozen? we ⟨w.heap.size+1,o,none⟩=false:=fun o=>by rw[(bcell h2e).2 _ _ oM];exact rf o
   exact⟨⟨j+1,s1,s2,s3,s4,s5,m1,m2,m3,m4,m5,f1,f2,f3,f4,f5,F,by omega,by go_num,HOe,HF,⟨t0,t1,t2,t3,t4,t5⟩,tf,⟨y0,y1,y2,y3,y4,y5⟩,⟨r0,r1,r2,r3,r4,r5,r6,r7⟩,rf,zBe,hBe⟩,mI⟩
  have hjn:j=n3:=oM;subst hjn;clear HCc HDo HDn H1J HX;go_wp2;refine bodyPost_ret (v:=.agg #[.int .i64 0,.int .i64 0,.int .i64 d.idx,.slice s1 m1 f1,.slice s2 m2 f2,.slice s3 m3 f3,.slice s4 m4 f4,.slice s5 m5 f5]) (by simp[results,Tryz.results129,go_sem,r0,r1,r2,r3,r4,r5,r6,r7,rf]) rfl ?_;rw[HC.out];have hbR:w.heap.size≤w.heap.size+1:=oM;exact⟨_,F,rfl,vD shdRR (uZ (d:=dJ d k o j) 0 0 HO.out) (fun h=>by have:=(HF.out _ h).2;omega) _ _ _ _ _ _ _ _,bset (p:=⟨w.heap.size+1,7,none⟩) (bset (p:=⟨w.heap.size+1,6,none⟩) (bset (p:=⟨w.heap.size+1,5,none⟩) (bset (p:=⟨w.heap.size+1,4,none⟩) (bset (p:=⟨w.heap.size+1,3,none⟩) (bset (p:=⟨w.heap.size+1,2,none⟩) (bset (p:=⟨w.heap.size+1,1,none⟩) (bset (p:=⟨w.heap.size+1,0,none⟩) (hBr) hbR _) hbR _) hbR _) hbR _) hbR _) hbR _) hbR _) hbR _⟩
theorem fLb (x:Value) (d:Shd) (k o:Int) (w:World) (hx:shdR.V w x d) :
  Calls Tryz.prog 90 #[x,.int .i64 k,.int .i64 o] w (rP w (kW d k o)):=by
 have HSf:Hid (bW w fun W=>RI 126 #[x] W (.int .i64 (shdF d))):=fun W hW=>fDb x d W (shdR.below hx hW)
 have HDe:Hid (bW w fun W=>shdF d=0→(o=1∨o=2)→Calls Tryz.prog 129 #[x,.int .i64 k,.int .i64 o] W (rP W (qK d k o))):=fun W hW h1 h2=>fMu x d k o W (shdR.below hx hW) (vP h1) h2
 obtain⟨u1,u2,u3,u4,u5,rfl,h1,h2,h3,h4,h5⟩:=hx;obtain⟨a1,c1,rfl⟩:=fP h1;obtain⟨a2,c2,rfl⟩:=fF h2;obtain⟨a3,c3,rfl⟩:=fM h3;obtain⟨a4,c4,rfl⟩:=fF h4;obtain⟨a5,c5,rfl⟩:=gJ h5;clear h1 h2 h3 h4 h5;have HE0:Hid (¬shdF d=0→kW d k o=errH (shdF d)):=fun h=>fEb h
 have HE1:Hid (shdF d=0→(inB k 1 1000000000&&inB o 1 2)=false→kW d k o=errH 3):=fun h h1=>fBc h h1
 have HE2:Hid (shdF d=0→(inB k 1 1000000000&&inB o 1 2)=true→kW d k o=qK d k o):=fun h h1=>fGy h h1
 generalize hn1:d.bals.length=n1 at *;generalize hn2:d.votes.length=n2 at *;generalize hn3:d.held.length=n3 at *;generalize hn4:d.done.length=n4 at *;generalize hn5:d.appl.length=n5 at *;have HNN:Hid (d.bals.length=n1∧d.votes.length=n2∧d.held.length=n3∧d.done.length=n4∧d.appl.length=n5):=⟨hn1,hn2,hn3,hn4,hn5⟩;clear hn1 hn2 hn3 hn4 hn5;generalize kW d k o=Z at *;generalize shdF d=sf at *;go_enter Tryz.func90,Tryz.ntmps90;go_wp2_with fail;refine(HSf.out _ qBq).mono ?_;rintro e w1 ⟨rfl,hb1⟩;have hB1:=bT w hb1;have hz1:=hb1.size;simp at hz1;have y0:w1.cell? ⟨w.heap.size,0,none⟩=some (.int .i64 d.idx):=cK hb1 sG;have y1:w1.cell? ⟨w.heap.size,1,none⟩=some (.slice a1 n1 c1):=cK hb1 sG;have y2:w1.cell? ⟨w.heap.size,2,none⟩=some (.slice a2 n2 c2):=cK hb1 sG;have y3:w1.cell? ⟨w.heap.size,3,none⟩=some (.slice a3 n3 c3):=cK hb1 sG;have y4:w1.cell? ⟨w.heap.size,4,none⟩=some (.slice a4 n4 c4):=cK hb1 sG;have y5:w1.cell? ⟨w.heap.size,5,none⟩=some (.slice a5 n5 c5):=cK hb1 sG;have r0:w1.cell? ⟨w.heap.size+1,0,none⟩=some (.int .i64 0):=cK hb1 sG;have r1:w1.cell? ⟨w.heap.size+1,1,none⟩=some (.int .i64 0):=cK hb1 sG;have r2:w1.cell? ⟨w.heap.size+1,2,none⟩=some (.int .i64 0):=cK hb1 sG;have r3:w1.cell? ⟨w.heap.size+1,3,none⟩=some (.slice none 0 0):=cK hb1 sG;have r4:w1.cell? ⟨w.heap.size+1,4,none⟩=some (.slice none 0 0):=cK hb1 sG;have r5:w1.cell? ⟨w.heap.size+1,5,none⟩=some (.slice none 0 0):=cK hb1 sG;have r6:w1.cell? ⟨w.heap.size+1,6,none⟩=some (.slice none 0 0):=cK hb1 sG;have r7:w1.cell? ⟨w.heap.size+1,7,none⟩=some (.slice none 0 0):=cK hb1 sG
 have rf:∀o,w1.frozen? ⟨w.heap.size+1,o,none⟩=false:=fun o=>by rw[(bcell hb1).2 _ _ (by simp)];simp[go_sem]
 clear hb1 HSf;by_cases hsf:sf=0;rotate_left
 ·
  have HC:Hid _:=HE0.out hsf;have hsf':(sf !=0)=true:=by simp[hsf]
  clear HE0 HE1 HE2 HDe;go_wp2;refine bodyPost_ret (v:=.agg #[.int .i64 sf,.int .i64 0,.int .i64 0,.slice none 0 0,.slice none 0 0,.slice none 0 0,.slice none 0 0,.slice none 0 0]) (by simp[results,Tryz.results90,go_sem,r0,r1,r2,r3,r4,r5,r6,r7,rf]) rfl (mJ HC.out ?_);exact qS
 have hsf':(sf !=0)=false:=by simp[hsf]
 have HE1':Hid ((inB k 1 1000000000&&inB o 1 2)=false→Z=errH 3):=fun h=>HE1.out hsf h
 have HE2':Hid ((inB k 1 1000000000&&inB o 1 2)=true→Z=qK d k o):=fun h=>HE2.out hsf h
 have HDe':Hid (bW w fun W=>(o=1∨o=2)→Calls Tryz.prog 129 #[.agg #[.int .i64 d.idx,.slice a1 n1 c1,.slice a2 n2 c2,.slice a3 n3 c3,.slice a4 n4 c4,.slice a5 n5 c5],.int .i64 k,.int .i64 o] W (rP W (qK d k o))):=fun W hW h=>HDe.out W hW hsf h
 clear HE0 HE1 HE2 HDe hsf;have HBo:Hid (inB o 1 2=true→o=1∨o=2):=fun h=>by have:=inBi.1 h;omega
 by_cases hr:(inB k 1 1000000000&&inB o 1 2)=true
 rotate_left
 ·
  have hr':(inB k 1 1000000000&&inB o 1 2)=false:=by simpa using hr
  have HC:Hid (Z=errH 3):=HE1'.out hr';clear HE1' HE2' HDe' HBo hr;cases hk:inB k 1 1000000000
  ·
   go_wp2_with (first|(go_at_call 87;refine(pG _ _).mono ?_;rintro e w' ⟨rfl,rfl⟩;rw[hk]))
   refine bodyPost_ret (v:=.agg #[.int .i64 3,.int .i64 0,.int .i64 0,.slice none 0 0,.slice none 0 0,.slice none 0 0,.slice none 0 0,.slice none 0 0]) (by simp[results,Tryz.results90,go_sem,r0,r1,r2,r3,r4,r5,r6,r7,rf]) rfl (mJ HC.out ?_);exact qS
  have ho2:inB o 1 2=false:=by rw[hk] at hr';simpa using hr'
  go_wp2_with (first|(go_at_call 87;refine(pG _ _).mono ?_;rintro e w' ⟨rfl,rfl⟩;rw[hk])|(go_at_call 88;refine(kV _ _ _ _).mono ?_;rintro e w' ⟨rfl,rfl⟩;rw[ho2]))
  refine bodyPost_ret (v:=.agg #[.int .i64 3,.int .i64 0,.int .i64 0,.slice none 0 0,.slice none 0 0,.slice none 0 0,.slice none 0 0,.slice none 0 0]) (by simp[results,Tryz.results90,go_sem,r0,r1,r2,r3,r4,r5,r6,r7,rf]) rfl (mJ HC.out ?_);exact qS
 have hk:inB k 1 1000000000=true:=by simp only[Bool.and_eq_true] at hr;exact hr.1
 have ho2:inB o 1 2=true:=by simp only[Bool.and_eq_true] at hr;exact hr.2
 have HC:Hid (Z=qK d k o):=HE2'.out hr;have HO12:Hid _:=HBo.out ho2;clear HE1' HE2' HBo hr;go_wp2_with (first|(go_at_call 87;refine(pG _ _).mono ?_;rintro e w' ⟨rfl,hw⟩;obtain rfl:=hw.symm;rw[hk])|(go_at_call 88;refine(kV _ _ _ _).mono ?_;rintro e w' ⟨rfl,hw⟩;obtain rfl:=hw.symm;rw[ho2])|fail);refine(HDe'.out _ hB1 HO12.out).mono ?_;rintro e w4 ⟨v4,F4,rfl,o4,hb4⟩;generalize qK d k o=VD at *;obtain⟨cd,vt,sd⟩:=VD;obtain⟨p1,p2,p3,p4,p5,m1,m2,m3,m4,m5,q1,q2,q3,q4,q5,rfl⟩:=mD o4;have HO4:Hid (shdRR.O w4 w1.heap.size F4 (.agg #[.int .i64 cd,.int .i64 vt,.int .i64 sd.idx,.slice p1 m1 q1,.slice p2 m2 q2,.slice p3 m3 q3,.slice p4 m4 q4,.slice p5 m5 q5]) ⟨cd,vt,sd⟩):=o4;have hB4:Below w.heap.size w w4:=bS hB1 hb4;replace r0:=cK hb4 r0;replace r1:=cK hb4 r1;replace r2:=cK hb4 r2;replace r3:=cK hb4 r3;replace r4:=cK hb4 r4;replace r5:=cK hb4 r5;replace r6:=cK hb4 r6;replace r7:=cK hb4 r7;replace rf:∀o,w4.frozen? ⟨w.heap.size+1,o,none⟩=false:=fun o=>by rw[(bcell hb4).2 _ _ oM];exact rf o
 clear o4 hb4 HDe';go_wp2;refine bodyPost_ret (v:=.agg #[.int .i64 cd,.int .i64 vt,.int .i64 sd.idx,.slice p1 m1 q1,.slice p2 m2 q2,.slice p3 m3 q3,.slice p4 m4 q4,.slice p5 m5 q5]) (by simp[results,Tryz.results90,go_sem,r0,r1,r2,r3,r4,r5,r6,r7,rf]) rfl ?_;rw[HC.out];have hbR:w.heap.size≤w.heap.size+1:=oM;exact⟨_,F4,rfl,shdRR.base (vD shdRR HO4.out (fun h=>by have:=(shdRR.rng HO4.out _ h).1;omega) _ _ _ _ _ _ _ _) oM,bset (p:=⟨w.heap.size+1,7,none⟩) (bset (p:=⟨w.heap.size+1,6,none⟩) (bset (p:=⟨w.heap.size+1,5,none⟩) (bset (p:=⟨w.heap.size+1,4,none⟩) (bset (p:=⟨w.heap.size+1,3,none⟩) (bset (p:=⟨w.heap.size+1,2,none⟩) (bset (p:=⟨w.heap.size+1,1,none⟩) (bset (p:=⟨w.heap.size+1,0,none⟩) (hB4) hbR _) hbR _) hbR _) hbR _) hbR _) hbR _) hbR _) hbR _⟩
theorem fLc (x:Value) (d:Shd) (k o:Int) (w:World) (hx:shdR.V w x d) :
  Calls Tryz.prog 90 #[x,.int .i64 k,.int .i64 o] w fun e w'=>∃v F,e =.returned v∧shdRR.O w' w.heap.size F v (kW d k o)∧Below w.heap.size w w':=fLb x d k o w hx
theorem fKi (x:Value) (d:Shd) (k o:Int) (w:World) (hx:shdR.V w x d) :
  Calls Tryz.prog 149 #[x,.int .i64 k,.int .i64 o] w fun e w'=>∃v F,e =.returned v∧shdRR.O w' w.heap.size F v (kW d k o)∧Below w.heap.size w w':=fKh x d k o w hx
end
section
variable [dQ Rw] [iH Rw] [dQ Bal] [iH Bal] [dQ Ledg] [iH Ledg] [dQ Leg] [iH Leg] [dQ Cont] [iH Cont] [dQ LedgR] [iH LedgR] [dQ OutcR] [iH OutcR] [dQ Mrk] [iH Mrk] [dQ Shd] [iH Shd] [dQ ShdR] [iH ShdR]
theorem fUo (ls:List Leg):∀xs:List Bal,(addB xs ls).length+1≤2 ^ ls.length*(xs.length+1):=by
 induction ls with
 | nil=>intro xs;simp[addB]
 | cons l r ih=>
  intro xs;have h:=ih (rQ xs l);have h2:(rQ xs l).length+1≤2*(xs.length+1):=by
   have:=fTs l.ac l.ast (hasB l.ac l.ast xs+l.am) xs;unfold rQ;omega
  have e:addB xs (l::r)=addB (rQ xs l) r:=rfl;have h3:2 ^ r.length*((rQ xs l).length+1)≤2 ^ r.length*(2*(xs.length+1)):=Nat.mul_le_mul_left _ h2;have e2:2 ^ r.length*(2*(xs.length+1))=2 ^ (r.length+1)*(xs.length+1):=by rw[←Nat.mul_assoc,Nat.pow_succ]
  rw[e,List.length_cons];omega
theorem fUn {xs:List Bal} {ls:List Leg} (h1:xs.length≤18) (h2:ls.length≤8):(addB xs ls).length≤10000:=by
 have h:=fUo ls xs;have h3:2 ^ ls.length≤2 ^ 8:=Nat.pow_le_pow_right oM h2;have h4:2 ^ ls.length*(xs.length+1)≤2 ^ 8*19:=Nat.mul_le_mul h3 oM;omega
theorem fNc {d:Shd} (h1:d.bals.length≤10000) (h2:d.votes.length≤101) (h3:d.held.length≤101) (h4:d.done.length≤101) (h5:d.appl.length≤101) (h:∀k,k<d.held.length→(d.held.getD k default).legs.length≤8):vY d≤12000:=by
 have:=fN5 h3 h;unfold vY pM fB5 fDe;omega
theorem fHf (k:Int):∀hs:List Cont,(∀c ∈ hs,c.legs.length≤8)→(uU k hs).length≤8
 | [],_=>by simp[uU]
 | c::r,h=>by
  unfold uU;split
  ·exact h c (List.mem_cons_self ..)
  exact fHf k r (fun x hx=>h x (List.mem_cons_of_mem _ hx))
theorem fOr {hs:List Cont} (h:∀k,k<hs.length→(hs.getD k default).legs.length≤8):∀c ∈ hs,c.legs.length≤8:=fun c hc=>by
 obtain⟨i,hi,rfl⟩:=List.getElem_of_mem hc;have:=h i hi;simpa [List.getD,hi] using this
theorem fHb {hs:List Cont} (k:Int) (h:∀k,k<hs.length→(hs.getD k default).legs.length≤8):∀j,j<(kN k hs).length→((kN k hs).getD j default).legs.length≤8:=fun j hj=>by
 have e:(kN k hs).getD j default=(kN k hs)[j]:=by simp[List.getD,hj]
 rw[e];exact fOr h _ ((List.mem_filter.1 (List.getElem_mem hj)).1)
theorem fS8 (k:Int) (hs:List Cont):(kN k hs).length≤hs.length:=List.length_filter_le _ _
theorem fVs (s:Int) (ls:List Leg):(onSh s ls).length≤ls.length:=List.length_filter_le _ _
theorem fP0 (d:Shd) (k o:Int):vT (kW d k o)≤12000:=by
 by_cases h0:shdF d=0
 ·
  have ok:=vP h0;have hb:=(tQ (pE ok.base).2).len;have l1:=ok.ls.nv;have l2:=ok.ls.nh;have l3:=ok.ls.nd;have l4:=ok.ls.na;have hl:∀k,k<d.held.length→(d.held.getD k default).legs.length≤8:=fun k hk=>ok.held.len hk
  have hle:=fS8 k d.held;have hlg:=fHf k d.held (fOr hl);have hon:=fVs d.idx (uU k d.held);have had:(addB d.bals (onSh d.idx (uU k d.held))).length≤10000:=fUn oM oM;unfold kW;rw[if_pos h0];split
  ·
   unfold qK;split
   ·
    split
    ·rw[xZ];omega
    split
    ·rw[xZ];omega
    unfold decS;split
    ·exact fNc (d:=⟨d.idx,addB d.bals (onSh d.idx (uU k d.held)),d.votes,kN k d.held,putM d.done ⟨k,o⟩,d.appl++[k]⟩) (by show(addB d.bals _).length≤10000;omega) (by show d.votes.length≤101;omega) (by show(kN k d.held).length≤101;omega) (by show(putM d.done _).length≤101;rw[fDw];omega) (by show(d.appl++[k]).length≤101;rw[List.length_append];simp;omega) (fHb k hl)
    exact fNc (d:=⟨d.idx,d.bals,d.votes,kN k d.held,putM d.done ⟨k,o⟩,d.appl⟩) (by show d.bals.length≤10000;omega) (by show d.votes.length≤101;omega) (by show(kN k d.held).length≤101;omega) (by show(putM d.done _).length≤101;rw[fDw];omega) (by show d.appl.length≤101;omega) (fHb k hl)
   split
   ·exact fNc (d:=d) oM oM oM oM oM hl
   rw[xZ];omega
  rw[xZ];omega
 unfold kW;rw[if_neg h0,xZ];omega
end
section
variable [dQ Leg] [iH Leg] [dQ Cont] [iH Cont] [dQ Evt] [iH Evt] [dQ EvtR] [iH EvtR] [dQ BytesR] [iH BytesR] [dQ ContR] [iH ContR] [dQ Logg] [iH Logg] [dQ LoggR] [iH LoggR] [dQ RecsR] [iH RecsR] [dQ Rw] [iH Rw] [dQ Bal] [iH Bal] [dQ Ledg] [iH Ledg] [dQ LedgR] [iH LedgR] [dQ OutcR] [iH OutcR] [dQ Mrk] [iH Mrk] [dQ Shd] [iH Shd] [dQ ShdR] [iH ShdR]
theorem fRh {P:Program} {w:World} {a:Addr} {m:Mode} (fn:Fn) (first captured:Array Value):(store a (.func fn first captured) m).run P w=stored P w a (.func fn first captured) m:=run_store P w a _ m rfl
attribute [local go_sem] fRh
theorem fG8 (f g h:Nat) (w:World):(Instr.field 122 (.agg #[.func (.func f) #[] #[],.func (.func g) #[] #[],.func (.func h) #[] #[]]) 0).run Tryz.prog w =.ok (.func (.func f) #[] #[]) w:=kF
theorem fQt (f g h:Nat) (w:World):(Instr.field 122 (.agg #[.func (.func f) #[] #[],.func (.func g) #[] #[],.func (.func h) #[] #[]]) 2).run Tryz.prog w =.ok (.func (.func h) #[] #[]) w:=kF
theorem fE0 (x:Value) (d:Evt) (w:World) (hx:evtR.V w x d) (hv:d.vote=true) :
  RI 71 #[x] w (.agg #[.func (.func 116) #[] #[],.func (.func 117) #[] #[],.func (.func 118) #[] #[]]):=by
 obtain⟨a,c,rfl,hl⟩:=tH hx;rw[hv];clear hx hl hv;go_enter Tryz.func71,Tryz.ntmps71;go_wp2;exact bodyPost_ret (v:=.agg #[.func (.func 116) #[] #[],.func (.func 117) #[] #[],.func (.func 118) #[] #[]]) (by simp[results,Tryz.results71,go_sem]) rfl ⟨rfl,qBq⟩
theorem fG9 (x:Value) (d:Evt) (w:World) (hx:evtR.V w x d) (hv:d.vote=false) :
  RI 71 #[x] w (.agg #[.func (.func 119) #[] #[],.func (.func 120) #[] #[],.func (.func 121) #[] #[]]):=by
 obtain⟨a,c,rfl,hl⟩:=tH hx;rw[hv];clear hx hl hv;go_enter Tryz.func71,Tryz.ntmps71;go_wp2;exact bodyPost_ret (v:=.agg #[.func (.func 119) #[] #[],.func (.func 120) #[] #[],.func (.func 121) #[] #[]]) (by simp[results,Tryz.results71,go_sem]) rfl ⟨rfl,qBq⟩
theorem fJl (x:Value) (d:Evt) (w:World) (hx:evtR.V w x d) (hv:d.vote=true) :
  RI 116 #[x] w (.int .i64 (evtF d)):=by
 obtain⟨a,c,rfl,hl⟩:=tH hx;obtain⟨b,⟨id,ls⟩,o⟩:=d;dsimp only at hl hv ⊢;subst hv;clear hx;have HD:Hid (evtF ⟨true,⟨id,ls⟩,o⟩=if fA id ls=0 then (if o=0 then 0 else 1) else fA id ls):=rfl;have HC:Hid (bW w fun W=>RI 142 #[.agg #[.int .i64 id,.slice a ls.length c]] W (.int .i64 (fA id ls))):=fun W hW=>uG id _ ls W (kS hl hW)
 generalize evtF ⟨true,⟨id,ls⟩,o⟩=R at *;clear hl;generalize fA id ls=cf at *;generalize ls.length=n at *;go_enter Tryz.func116,Tryz.ntmps116;go_wp2_with fail;refine(HC.out _ qBq).mono ?_;rintro e w1 ⟨rfl,hb1⟩;have hB1:Below w.heap.size w w1:=qBq;have y3:w1.cell? ⟨w.heap.size,3,none⟩=some (.int .i64 o):=cK hb1 sG;clear hb1 HC;by_cases hc:cf=0
 ·
  rw[hc] at HD ⊢;by_cases ho:o=0
  ·
   have HE:Hid (R=0):=by show _=_;rw[HD.out,ho];rfl
   have ho':(o !=0)=false:=by simp[ho]
   clear HD ho hc;go_wp2;go_ret;exact⟨by rw[HE.out];rfl,qBq⟩
  have HE:Hid (R=1):=by show _=_;rw[HD.out,if_neg ho];rfl
  have ho':(o !=0)=true:=by simp[ho]
  clear HD ho hc;go_wp2;go_ret;exact⟨by rw[HE.out];rfl,qBq⟩
 have HE:Hid (R=cf):=by show _=_;rw[HD.out,if_neg hc]
 have hc':(cf !=0)=true:=by simp[hc]
 clear HD hc;go_wp2;go_ret;exact⟨by rw[HE.out];rfl,qBq⟩
theorem fDm (x:Value) (d:Evt) (w:World) (hx:evtR.V w x d) (hv:d.vote=false) :
  RI 119 #[x] w (.int .i64 (evtF d)):=by
 obtain⟨a,c,rfl,hl⟩:=tH hx;obtain⟨b,⟨id,ls⟩,o⟩:=d;dsimp only at hl hv ⊢;subst hv;clear hx;have HD:Hid (evtF ⟨false,⟨id,ls⟩,o⟩=if (inB id 1 1000000000&&inB o 1 2)=true then (if ls.length=0 then 0 else 1) else 3):=rfl;generalize evtF ⟨false,⟨id,ls⟩,o⟩=R at *;generalize ls.length=n at *;clear hl;cases hk:inB id 1 1000000000
 ·rw[hk] at HD;go_enter Tryz.func119,Tryz.ntmps119;go_wp2_with (first|(go_at_call 146;refine(kT _ _).mono ?_;rintro e w' ⟨rfl,hw⟩;obtain rfl:=hw.symm;rw[hk]));go_ret;exact⟨by rw[HD.out];rfl,qBq⟩
 cases ho:inB o 1 2
 ·rw[hk,ho] at HD;go_enter Tryz.func119,Tryz.ntmps119;go_wp2_with (first|(go_at_call 146;refine(kT _ _).mono ?_;rintro e w' ⟨rfl,hw⟩;obtain rfl:=hw.symm;rw[hk])|(go_at_call 147;refine(kU _ _).mono ?_;rintro e w' ⟨rfl,hw⟩;obtain rfl:=hw.symm;rw[ho]));go_ret;exact⟨by rw[HD.out];rfl,qBq⟩
 rw[hk,ho] at HD;by_cases hn:n=0
 ·
  have HE:Hid (R=0):=by show _=_;rw[HD.out,hn];rfl
  have hn':¬(0:Int)<(n:Int):=oM;clear HD hn;go_enter Tryz.func119,Tryz.ntmps119;go_wp2_with (first|(go_at_call 146;refine(kT _ _).mono ?_;rintro e w' ⟨rfl,hw⟩;obtain rfl:=hw.symm;rw[hk])|(go_at_call 147;refine(kU _ _).mono ?_;rintro e w' ⟨rfl,hw⟩;obtain rfl:=hw.symm;rw[ho]));go_ret;exact⟨by rw[HE.out];rfl,qBq⟩
 have HE:Hid (R=1):=by show _=_;rw[HD.out,if_neg hn];rfl
 have hn':(0:Int)<(n:Int):=oM;clear HD hn;go_enter Tryz.func119,Tryz.ntmps119;go_wp2_with (first|(go_at_call 146;refine(kT _ _).mono ?_;rintro e w' ⟨rfl,hw⟩;obtain rfl:=hw.symm;rw[hk])|(go_at_call 147;refine(kU _ _).mono ?_;rintro e w' ⟨rfl,hw⟩;obtain rfl:=hw.symm;rw[ho]));go_ret;exact⟨by rw[HE.out];rfl,qBq⟩
theorem fMe (x:Value) (d:Evt) (w:World) (hx:evtR.V w x d) :
  RI 52 #[x] w (.int .i64 (evtF d)):=by
 have HX:Hid (bW w fun W=>evtR.V W x d):=fun W hW=>evtR.below hx hW
 obtain⟨a,c,rfl,hl⟩:=tH hx;clear hx hl;generalize d.con.legs.length=n at *;cases hv:d.vote
 ·
  have HK:Hid (bW w fun W=>RI 71 #[.agg #[.bool false,.int .i64 d.con.id,.slice a n c,.int .i64 d.out]] W (.agg #[.func (.func 119) #[] #[],.func (.func 120) #[] #[],.func (.func 121) #[] #[]])):=fun W hW=>by have h:=fG9 _ d W (HX.out W hW) hv;rw[hv] at h;exact h
  have HE:Hid (bW w fun W=>RI 119 #[.agg #[.bool false,.int .i64 d.con.id,.slice a n c,.int .i64 d.out]] W (.int .i64 (evtF d))):=fun W hW=>by have h:=fDm _ d W (HX.out W hW) hv;rw[hv] at h;exact h
  have hfd:=fG8;have eg:=enters_of Tryz.func119 kF rfl;generalize evtF d=R at *;clear HX hv;go_enter Tryz.func52,Tryz.ntmps52;go_wp2;refine wp_region_noPanic ?_;refine fB (fun W=>Below w.heap.size w W∧W.cell? ⟨w.heap.size,0,none⟩=some (.bool false)∧W.cell? ⟨w.heap.size,1,none⟩=some (.int .i64 d.con.id)∧W.cell? ⟨w.heap.size,2,none⟩=some (.slice a n c)∧W.cell? ⟨w.heap.size,3,none⟩=some (.int .i64 d.out)) 5 kF ⟨qBq,by simp[go_sem],sG,by simp[go_sem],sG⟩ (fun hS=>?_);refine tY 0 ?_;refine tY 3 ?_;refine uS 1 rfl (fun K hK=>?_);go_simp;refine(HK.out _ hS.1).mono ?_;rintro e w2 ⟨rfl,hb2⟩;have hS2:=And.intro (bS hS.1 hb2) (kS4 hb2 hS.2);refine hK _ _ (fun _=>hS2) ?_;clear hK K hb2 HK hS;try simp only[jX]
  refine tY 2 ?_;refine uS 4 rfl (fun K hK=>?_);go_simp;refine(HE.out _ hS2.1).mono ?_;rintro e w3 ⟨rfl,hb3⟩;have hB3:Below w.heap.size w w3:=bS hS2.1 hb3;have hS3:=And.intro (bS hS2.1 hb3) (kS4 hb3 hS2.2);refine hK _ _ (fun _=>hS3) ?_;clear hK K hb3 HE hS2;try simp only[jX]
  refine uS 5 rfl (fun K hK=>?_);go_simp;refine hK _ _ (fun h=>absurd rfl h) ?_;clear hK K hS3;refine dP ?_;go_wp2;go_ret;exact⟨rfl,hB3⟩
 have HK:Hid (bW w fun W=>RI 71 #[.agg #[.bool true,.int .i64 d.con.id,.slice a n c,.int .i64 d.out]] W (.agg #[.func (.func 116) #[] #[],.func (.func 117) #[] #[],.func (.func 118) #[] #[]])):=fun W hW=>by have h:=fE0 _ d W (HX.out W hW) hv;rw[hv] at h;exact h
 have HE:Hid (bW w fun W=>RI 116 #[.agg #[.bool true,.int .i64 d.con.id,.slice a n c,.int .i64 d.out]] W (.int .i64 (evtF d))):=fun W hW=>by have h:=fJl _ d W (HX.out W hW) hv;rw[hv] at h;exact h
 have hfd:=fG8;have eg:=enters_of Tryz.func116 kF rfl;generalize evtF d=R at *;clear HX hv;go_enter Tryz.func52,Tryz.ntmps52;go_wp2;refine wp_region_noPanic ?_;refine fB (fun W=>Below w.heap.size w W∧W.cell? ⟨w.heap.size,0,none⟩=some (.bool true)∧W.cell? ⟨w.heap.size,1,none⟩=some (.int .i64 d.con.id)∧W.cell? ⟨w.heap.size,2,none⟩=some (.slice a n c)∧W.cell? ⟨w.heap.size,3,none⟩=some (.int .i64 d.out)) 5 kF ⟨qBq,by simp[go_sem],sG,by simp[go_sem],sG⟩ (fun hS=>?_);refine tY 0 ?_;refine tY 3 ?_;refine uS 1 rfl (fun K hK=>?_);go_simp;refine(HK.out _ hS.1).mono ?_;rintro e w2 ⟨rfl,hb2⟩;have hS2:=And.intro (bS hS.1 hb2) (kS4 hb2 hS.2);refine hK _ _ (fun _=>hS2) ?_;clear hK K hb2 HK hS;try simp only[jX]
 refine tY 2 ?_;refine uS 4 rfl (fun K hK=>?_);go_simp;refine(HE.out _ hS2.1).mono ?_;rintro e w3 ⟨rfl,hb3⟩;have hB3:Below w.heap.size w w3:=bS hS2.1 hb3;have hS3:=And.intro (bS hS2.1 hb3) (kS4 hb3 hS2.2);refine hK _ _ (fun _=>hS3) ?_;clear hK K hb3 HE hS2;try simp only[jX]
 refine uS 5 rfl (fun K hK=>?_);go_simp;refine hK _ _ (fun h=>absurd rfl h) ?_;clear hK K hS3;refine dP ?_;go_wp2;go_ret;exact⟨rfl,hB3⟩
end
end Go.Proofs.YtpibfdebfacooaaGreat

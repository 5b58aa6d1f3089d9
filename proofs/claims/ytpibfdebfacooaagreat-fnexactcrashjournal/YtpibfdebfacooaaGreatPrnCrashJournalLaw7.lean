import Derived.Test.YtpibfdebfacooaaGreatPrnCrashJournalLaw6
set_option maxHeartbeats 4000000
set_option linter.unusedSectionVars false
set_option linter.unusedSimpArgs false
namespace Go.Proofs.YtpibfdebfacooaaGreat
open Go.RowKit
attribute [local go_sem ↓] Go.wp_at_zero Go.wp_at_succ
section
variable [dQ Leg] [iH Leg] [dQ Cont] [iH Cont] [dQ ContR] [iH ContR]
def unpD (xs:List Byte):ContR:=if (8≤xs.length∧(xs.length-8) % 11=0∧xs.length≤96)∧fA (mG xs).id (mG xs).legs=0 then ⟨0,mG xs⟩ else ⟨5,⟨0,[]⟩⟩
theorem fBb (w:World) (base:Nat):contRR.O w base none_ (.agg #[.int .i64 5,.int .i64 0,.slice none 0 0]) ⟨5,⟨0,[]⟩⟩:=
 ⟨.slice none 0 0,none_,rfl,⟨.slice none 0 0,none_,rfl,⟨by simpa [gN] using World.ownsRow_nil w base 168 4,by funext b;simp[none_,Value.ownBlock]⟩,fun b=>Iff.rfl⟩,fun b=>Iff.rfl⟩
theorem fQn (n:Nat) (w:World) (hn:n≤9223372036854775807) :
  Calls Tryz.prog 167 #[.int .i64 n] w fun e w'=>e =.returned (.bool (decide (8≤n∧(n-8) % 11=0∧n≤96)))∧w'=w:=by
 have c4:IntKind.i64.wrap ((n:Int)-8)=n-8:=by rw[IntKind.wrap_i64];omega
 by_cases h1:n<8
 ·
  have HR:Hid (decide (8≤n∧(n-8) % 11=0∧n≤96)=false):=by unfold Hid;simp;omega
  have d1:decide ((0:Int)≤(n:Int)-8)=false:=by simp;omega
  rw[HR.out];go_enter Tryz.func167,Tryz.ntmps167;go_wp2;go_ret;exact⟨rfl,rfl⟩
 by_cases h2:n≤96
 ·
  obtain⟨q,hq⟩:∃q,((n:Int)-8).tmod 11=q:=⟨_,rfl⟩
  have hq2:q=((n:Int)-8) % 11:=by rw[←hq,Int.tmod_eq_emod_of_nonneg oM]
  have hq3:=hq2.symm;have HR:Hid (decide (8≤n∧(n-8) % 11=0∧n≤96)=(q==0)):=by
   unfold Hid;by_cases h3:q=0
   ·have h4:8≤n∧(n-8) % 11=0∧n≤96:=oM;rw[decide_eq_true h4,h3];rfl
   have h4:¬(8≤n∧(n-8) % 11=0∧n≤96):=oM;rw[decide_eq_false h4];simp[h3]
  have d1:decide ((0:Int)≤(n:Int)-8)=true:=by simp;omega
  have d2:decide ((n:Int)-8≤88)=true:=by simp;omega
  rw[HR.out];clear hq2;go_enter Tryz.func167,Tryz.ntmps167;go_wp2;go_ret;exact⟨rfl,rfl⟩
 have HR:Hid (decide (8≤n∧(n-8) % 11=0∧n≤96)=false):=by unfold Hid;simp;omega
 have d1:decide ((0:Int)≤(n:Int)-8)=true:=by simp;omega
 have d2:decide ((n:Int)-8≤88)=false:=by simp;omega
 rw[HR.out];go_enter Tryz.func167,Tryz.ntmps167;go_wp2;go_ret;exact⟨rfl,rfl⟩
theorem fXa {w:World} {base:Nat} {F:Nat→Prop} {v:Value} {ys:List Leg} (h:legsR.O w base F v ys) {g:Nat} (hg:g<base) (a b c:Value) :
  legsR.O (((w.setCell ⟨g,0,none⟩ a).setCell ⟨g,1,none⟩ b).setCell ⟨g,2,none⟩ c) base F v ys:=legsR.set (legsR.set (legsR.set h _ hg) _ hg) _ hg
theorem fQh (x:Value) (xs:List Byte) (w:World) (hx:bytesR.V w x xs) :
  Calls Tryz.prog 140 #[x] w fun e w'=>∃v F,e =.returned v∧contRR.O w' w.heap.size F v (unpD xs)∧Below w.heap.size w w':=by
 have hX:=hx;obtain⟨ax,cx,rfl,hcx,hmx,_⟩:=hx;unfold maxLen at hmx;go_enter Tryz.func140,Tryz.ntmps140;go_wp2_with fail;refine(fQn xs.length _ oM).mono ?_;rintro e w0 ⟨rfl,rfl⟩;by_cases h:8≤xs.length∧(xs.length-8) % 11=0∧xs.length≤96
 ·
  have e0:decide (8≤xs.length∧(xs.length-8) % 11=0∧xs.length≤96)=true:=by simpa using h
  rw[e0];clear e0;go_wp2_with fail;refine(fGa _ xs _ (bytesR.below hX qBq) h.1 h.2.1 h.2.2).mono ?_;rintro e w1 ⟨v,F,rfl,ho,hb⟩;obtain⟨p,q,rfl⟩:=kP (legsR.ofO ho);have hr0:w1.cell? ⟨w.heap.size,0,none⟩=some (.int .i64 0):=cK hb sG;have hr1:w1.cell? ⟨w.heap.size,1,none⟩=some (.int .i64 0):=cK hb sG;have hr2:w1.cell? ⟨w.heap.size,2,none⟩=some (.slice none 0 0):=cK hb sG;have hrf:=(fR3 hb rfl).2.2.2;have hB:Below w.heap.size w w1:=qBq;have ho':=legsR.base (base':=w.heap.size+1) ho (by simp);clear ho hb;go_wp2_with fail;refine(uG (mG xs).id _ (mG xs).legs _ (kS (legsR.ofO ho') qBq)).mono ?_;rintro e w2 ⟨rfl,hb2⟩;have d0:w2.cell? ⟨w1.heap.size,0,none⟩=some (.int .i64 (mG xs).id):=cK hb2 sG;have d1:w2.cell? ⟨w1.heap.size,1,none⟩=some (.slice p (mG xs).legs.length q):=cK hb2 sG;replace hr0:=cK hb2 (cK qBq hr0);replace hr1:=cK hb2 (cK qBq hr1);replace hr2:=cK hb2 (cK qBq hr2);obtain⟨hrf,hlt⟩:=qY (qY hrf qBq) hb2;have hB2:Below w.heap.size w w2:=qBq;replace ho':=legsR.keep (legsR.alloc ho' _) hb2;clear hb2;by_cases hc:fA (mG xs).id (mG xs).legs=0
  ·have HD:Hid (unpD xs=⟨0,mG xs⟩):=if_pos ⟨h,hc⟩;rw[hc];clear hc;go_wp2;refine bodyPost_ret (v:=.agg #[.int .i64 0,.int .i64 (mG xs).id,.slice p (mG xs).legs.length q]) (by simp[results,Tryz.results140,go_sem,hr0,hr1,hr2]) rfl ?_;rw[HD.out];exact⟨_,F,rfl,⟨_,F,rfl,⟨_,F,rfl,legsR.base (fXa ho' oM _ _ _) oM,fun b=>Iff.rfl⟩,fun b=>Iff.rfl⟩,qBq⟩
  have HD:Hid (unpD xs=⟨5,⟨0,[]⟩⟩):=if_neg (fun hh=>hc hh.2);have hd:(fA (mG xs).id (mG xs).legs==0)=false:=by simpa using hc
  go_wp2;refine bodyPost_ret (v:=.agg #[.int .i64 5,.int .i64 0,.slice none 0 0]) (by simp[results,Tryz.results140,go_sem,hr0,hr1,hr2]) rfl ?_;rw[HD.out];first|exact⟨_,none_,rfl,fBb _ _,qBq⟩|exact⟨_,rfl,⟨none_,fBb _ _⟩,qBq⟩
 have HD:Hid (unpD xs=⟨5,⟨0,[]⟩⟩):=if_neg (fun hh=>h hh.1);have e0:decide (8≤xs.length∧(xs.length-8) % 11=0∧xs.length≤96)=false:=by simpa using h
 rw[e0];clear e0;go_wp2;refine bodyPost_ret (v:=.agg #[.int .i64 5,.int .i64 0,.slice none 0 0]) (by simp[results,Tryz.results140,go_sem]) rfl ?_;rw[HD.out];first|exact⟨_,none_,rfl,fBb _ _,qBq⟩|exact⟨_,rfl,⟨none_,fBb _ _⟩,qBq⟩
end
section
variable [dQ Leg] [iH Leg] [dQ Cont] [iH Cont] [dQ Evt] [iH Evt] [dQ EvtR] [iH EvtR] [dQ BytesR] [iH BytesR] [dQ ContR] [iH ContR]
def evtF (e:Evt):Int:=
 if e.vote=true then (if fA e.con.id e.con.legs=0 then (if e.out=0 then 0 else 1) else fA e.con.id e.con.legs)
 else (if (inB e.con.id 1 1000000000&&inB e.out 1 2)=true then (if e.con.legs.length=0 then 0 else 1) else 3)
def nilE:Evt:=⟨false,⟨0,[]⟩,0⟩
def errE:EvtR:=⟨5,nilE⟩
def outE (xs:List Byte):Evt:=⟨false,⟨IntKind.i64.wrap (hiN ((xs.drop 1).take 8)),[]⟩,((xs.getD 9 0).val:Int)⟩
def unpE (xs:List Byte):EvtR:=
 if xs.length=0 then errE
 else if (xs.getD 0 0).val=1 then (if (unpD (xs.drop 1)).code=0 then ⟨0,⟨true,(unpD (xs.drop 1)).contract,0⟩⟩ else errE)
 else if (xs.getD 0 0).val=2∧xs.length=10 then (if evtF (outE xs)=0 then ⟨0,outE xs⟩ else errE)
 else errE
end
section
variable [dQ Logg] [iH Logg]
structure LoggR where
 code:Int
 log:Logg
variable [dQ LoggR] [iH LoggR]
def loggRR:Rep LoggR where
 V:=fun w v x=>∃u1_1 u1_2,v =.agg #[.int .i64 x.code,u1_1,u1_2]∧loggR.V w (.agg #[u1_1,u1_2]) x.log
 O:=fun w base F v x=>∃u1_1 u1_2 F1,v =.agg #[.int .i64 x.code,u1_1,u1_2]∧loggR.O w base F1 (.agg #[u1_1,u1_2]) x.log∧(∀b,F b↔(F1 b))
 below:=fun h hb=>by
  obtain⟨u1_1,u1_2,rfl,h1⟩:=h;exact⟨u1_1,u1_2,rfl,loggR.below h1 hb⟩
 ofO:=fun h=>by
  obtain⟨u1_1,u1_2,F1,rfl,h1,_⟩:=h;exact⟨u1_1,u1_2,rfl,loggR.ofO h1⟩
 mod:=fun h hm hd=>by
  obtain⟨u1_1,u1_2,F1,rfl,h1,hF⟩:=h;exact⟨u1_1,u1_2,F1,rfl,loggR.mod h1 hm (fun b hb=>hd b ((hF b).2 hb)),hF⟩
 rng:=fun h b hb=>by
  obtain⟨u1_1,u1_2,F1,rfl,h1,hF⟩:=h;rcases(hF b).1 hb with hb
  exact loggR.rng h1 b hb
 base:=fun h hb=>by
  obtain⟨u1_1,u1_2,F1,rfl,h1,hF⟩:=h;exact⟨u1_1,u1_2,F1,rfl,loggR.base h1 hb,hF⟩
theorem fCo {w:World} {v:Value} {x:LoggR} (h:loggRR.V w v x):∃a1_1 a1_2 c1_1 c1_2,v =.agg #[.int .i64 x.code,.slice a1_1 x.log.synced.length c1_1,.slice a1_2 x.log.loose.length c1_2]:=by
 obtain⟨u1_1,u1_2,rfl,h1⟩:=h;obtain⟨a1_1,a1_2,c1_1,c1_2,e1⟩:=mU h1;simp only[Value.agg.injEq,Array.mk.injEq,List.cons.injEq,and_true] at e1;obtain⟨rfl,rfl⟩:=e1;exact⟨_,_,_,_,rfl⟩
end
section
def chk (xs:List Byte):Int:=xs.foldl (fun h b=>(h*257+(b.val:Int)+1) % 65521) 1
theorem fUw (xs:List Byte) (b:Byte):chk (xs++[b])=(chk xs*257+(b.val:Int)+1) % 65521:=by simp[chk]
theorem fR8 (xs:List Byte):0≤chk xs∧chk xs<65521:=by
 suffices h:∀(xs:List Byte) (n:Int),(0≤n∧n<65521)→0≤xs.foldl (fun h b=>(h*257+(b.val:Int)+1) % 65521) n∧xs.foldl (fun h b=>(h*257+(b.val:Int)+1) % 65521) n<65521 from h xs 1 oM
 intro xs;induction xs with
 | nil=>intro n h;exact h
 | cons b r ih=>intro n h;exact ih ((n*257+(b.val:Int)+1) % 65521) oM
theorem fN3 (xs:List Byte) (k:Nat) (h:k<xs.length):chk (xs.take (k+1))=(chk (xs.take k)*257+((xs.getD k 0).val:Int)+1) % 65521:=by
 rw[fHz xs k h,fUw]
theorem fNf (x:Value) (xs:List Byte) (w:World) (hx:mQ w x xs) :
  Calls Tryz.prog 132 #[x] w fun e w'=>e =.returned (.int .i64 (chk xs))∧w'=w:=by
 obtain⟨ax,cx,rfl,hcx,hmx,hx⟩:=hx;unfold maxLen at hmx;have hT:=fN3 xs;generalize hn':xs.length=n at *;have HN:Hid (xs.length=n):=hn';have HT:Hid (∀k,k<n→chk (xs.take (k+1))=(chk (xs.take k)*257+((xs.getD k 0).val:Int)+1) % 65521):=hT;clear hn' hT;go_enter Tryz.func132,Tryz.ntmps132;go_wp2;go_loopw [3,4] (fun q i w'=>∃(k:Nat) (y:Int),k≤n∧i =.int .i64 k∧y=chk (xs.take k)∧q =.int .i64 y∧w'=w) (fun _ i _=>n-(intOf i).toNat)
 case atStart=>exact⟨0,1,by omega,rfl,by simp[chk],rfl,rfl⟩
 obtain⟨k,y,hk,rfl,hy,rfl,rfl⟩:=hrel;have hr:=fR8 (xs.take k);rw[←hy] at hr;obtain⟨y0,y1⟩:=hr;have HY:Hid (y=chk (xs.take k)):=hy;clear hy;by_cases hlt:k<n
 ·
  obtain⟨bx,ox,rfl,h1⟩:=hx k oM;have e1:=HT.out k oM;obtain⟨b0,b1⟩:=vU (xs.getD k 0);obtain⟨l,hl⟩:∃l:Int,l=((xs.getD k 0).val:Int):=⟨_,rfl⟩
  rw[←hl] at h1 e1 b0 b1;have HE:Hid (chk (xs.take (k+1))=(chk (xs.take k)*257+l+1) % 65521):=e1;have v1:IntKind.i64.wrap l=l:=by rw[IntKind.wrap_i64];omega
  have v2:IntKind.i64.wrap (y*257)=y*257:=by rw[IntKind.wrap_i64];omega
  have v3:IntKind.i64.wrap (y*257+l)=y*257+l:=by rw[IntKind.wrap_i64];omega
  have v4:IntKind.i64.wrap (y*257+l+1)=y*257+l+1:=by rw[IntKind.wrap_i64];omega
  obtain⟨q,hq⟩:∃q,q=(y*257+l+1) % 65521:=⟨_,rfl⟩
  have v5:IntKind.i64.wrap ((y*257+l+1).tmod 65521)=q:=by rw[IntKind.wrap_i64,Int.tmod_eq_emod_of_nonneg oM];omega
  have v6:(y*257+l+1).tmod 65521=q:=by rw[Int.tmod_eq_emod_of_nonneg oM];omega
  have v7:=hq.symm;have HQ:Hid (q=(y*257+l+1) % 65521):=hq;clear hl hx e1 hq;go_wp2;refine⟨⟨k+1,q,by omega,by go_num,?_,rfl,trivial⟩,mI⟩;rw[HE.out,HQ.out,HY.out]
 go_wp2;go_ret;have hkn:k=n:=oM;subst hkn;refine⟨?_,rfl⟩;rw[HY.out,List.take_of_length_le (by have:=HN.out;omega)];rfl
theorem fEv (x:Value) (xs:List Byte) (w:World) (hx:mQ w x xs) :
  Calls Tryz.prog 162 #[x] w fun e w'=>e =.returned (.int .i64 (chk xs))∧w'=w:=by
 obtain⟨ax,cx,rfl,hcx,hmx,hx⟩:=hx;unfold maxLen at hmx;have hT:=fN3 xs;generalize hn':xs.length=n at *;have HN:Hid (xs.length=n):=hn';have HT:Hid (∀k,k<n→chk (xs.take (k+1))=(chk (xs.take k)*257+((xs.getD k 0).val:Int)+1) % 65521):=hT;clear hn' hT;go_enter Tryz.func162,Tryz.ntmps162;go_wp2;go_loopw [3,8] (fun q i w'=>∃(k:Nat) (y:Int),k≤n∧i =.int .i64 k∧y=chk (xs.take k)∧q =.int .i64 y∧w'=w) (fun _ i _=>n-(intOf i).toNat)
 case atStart=>exact⟨0,1,by omega,rfl,by simp[chk],rfl,rfl⟩
 obtain⟨k,y,hk,rfl,hy,rfl,rfl⟩:=hrel;have hr:=fR8 (xs.take k);rw[←hy] at hr;obtain⟨y0,y1⟩:=hr;have HY:Hid (y=chk (xs.take k)):=hy;clear hy;by_cases hlt:k<n
 ·
  obtain⟨bx,ox,rfl,h1⟩:=hx k oM;have e1:=HT.out k oM;obtain⟨b0,b1⟩:=vU (xs.getD k 0);obtain⟨l,hl⟩:∃l:Int,l=((xs.getD k 0).val:Int):=⟨_,rfl⟩
  rw[←hl] at h1 e1 b0 b1;have HE:Hid (chk (xs.take (k+1))=(chk (xs.take k)*257+l+1) % 65521):=e1;have v1:IntKind.i64.wrap l=l:=by rw[IntKind.wrap_i64];omega
  have v2:IntKind.i64.wrap (y*257)=y*257:=by rw[IntKind.wrap_i64];omega
  have v3:IntKind.i64.wrap (y*257+l)=y*257+l:=by rw[IntKind.wrap_i64];omega
  have v4:IntKind.i64.wrap (y*257+l+1)=y*257+l+1:=by rw[IntKind.wrap_i64];omega
  obtain⟨q,hq⟩:∃q,q=(y*257+l+1) % 65521:=⟨_,rfl⟩
  have v5:IntKind.i64.wrap ((y*257+l+1).tmod 65521)=q:=by rw[IntKind.wrap_i64,Int.tmod_eq_emod_of_nonneg oM];omega
  have v6:(y*257+l+1).tmod 65521=q:=by rw[Int.tmod_eq_emod_of_nonneg oM];omega
  have v7:=hq.symm;have HQ:Hid (q=(y*257+l+1) % 65521):=hq;clear hl hx e1 hq;go_wp2;refine⟨⟨k+1,q,by omega,by go_num,?_,rfl,trivial⟩,mI⟩;rw[HE.out,HQ.out,HY.out]
 go_wp2;go_ret;have hkn:k=n:=oM;subst hkn;refine⟨?_,rfl⟩;rw[HY.out,List.take_of_length_le (by have:=HN.out;omega)];rfl
variable [dQ BytesR] [iH BytesR]
def fN (xs:List Byte):Nat:=(xs.getD 0 0).val*256+(xs.getD 1 0).val
def fC (xs:List Byte):Nat:=(xs.getD 2 0).val*256+(xs.getD 3 0).val
def fT (xs:List Byte):Nat:=if 1≤fN xs∧fN xs≤500∧4+fN xs≤xs.length∧chk ((xs.drop 4).take (fN xs))=fC xs then 4+fN xs else 0
theorem qR {xs:List Byte} (h:¬fT xs=0):fT xs=4+fN xs∧1≤fN xs∧fN xs≤500∧4+fN xs≤xs.length:=by
 unfold fT at h ⊢;split at h
 ·rename_i h1;rw[if_pos h1];exact⟨rfl,h1.1,h1.2.1,h1.2.2.1⟩
 exact absurd rfl h
def fGi:Nat→List Byte→List (List Byte)
 | 0,_=>[]
 | f+1,xs=>if fT xs=0 then [] else (xs.drop 4).take (fT xs-4)::fGi f (xs.drop (fT xs))
def fGj:Nat→List Byte→Nat
 | 0,_=>0
 | f+1,xs=>if fT xs=0 then 0 else fT xs+fGj f (xs.drop (fT xs))
def recL (xs:List Byte):List (List Byte):=fGi xs.length xs
def recU (xs:List Byte):Nat:=fGj xs.length xs
theorem yB {xs:List Byte} (h:xs.length=0):fT xs=0:=by
 unfold fT;rw[if_neg];omega
theorem fFh:∀(f g:Nat) (xs:List Byte),xs.length≤f→xs.length≤g→fGi f xs=fGi g xs∧fGj f xs=fGj g xs
 | 0,0,_,_,_=>⟨rfl,rfl⟩
 | 0,g+1,xs,h,_=>by
  have hz:=yB (xs:=xs) oM;simp only[fGi,fGj,if_pos hz];exact⟨trivial,trivial⟩
 | f+1,0,xs,_,h=>by
  have hz:=yB (xs:=xs) oM;simp only[fGi,fGj,if_pos hz];exact⟨trivial,trivial⟩
 | f+1,g+1,xs,h1,h2=>by
  by_cases hz:fT xs=0
  ·simp only[fGi,fGj,if_pos hz];exact⟨trivial,trivial⟩
  have hp:=qR hz;have ih:=fFh f g (xs.drop (fT xs)) (by rw[List.length_drop];omega) (by rw[List.length_drop];omega);simp only[fGi,fGj,if_neg hz,ih.1,ih.2];exact⟨trivial,trivial⟩
theorem fI4 {xs:List Byte} (h:fT xs=0):recL xs=[]:=by
 unfold recL;cases hl:xs.length with
 | zero=>rfl
 | succ f=>simp only[fGi,if_pos h]
theorem fI5 {xs:List Byte} (h:fT xs=0):recU xs=0:=by
 unfold recU;cases hl:xs.length with
 | zero=>rfl
 | succ f=>simp only[fGj,if_pos h]
theorem fK5 {xs:List Byte} (h:¬fT xs=0):recL xs=(xs.drop 4).take (fT xs-4)::recL (xs.drop (fT xs)):=by
 have hp:=qR h;unfold recL;cases hl:xs.length with
 | zero=>omega
 | succ f=>
  simp only[fGi,if_neg h];rw[(fFh f (xs.drop (fT xs)).length (xs.drop (fT xs)) (by rw[List.length_drop];omega) (Nat.le_refl _)).1]
theorem fK6 {xs:List Byte} (h:¬fT xs=0):recU xs=fT xs+recU (xs.drop (fT xs)):=by
 have hp:=qR h;unfold recU;cases hl:xs.length with
 | zero=>omega
 | succ f=>
  simp only[fGj,if_neg h];rw[(fFh f (xs.drop (fT xs)).length (xs.drop (fT xs)) (by rw[List.length_drop];omega) (Nat.le_refl _)).2]
theorem fWs (xs:List Byte) (h:2≤xs.length):hiN (xs.take 2)=(fN xs:Int):=by
 match xs,h with
 | a::b::r,_=>simp[hiN,fN,List.getD]
theorem fSs (xs:List Byte) (h:4≤xs.length):hiN ((xs.drop 2).take 2)=(fC xs:Int):=by
 match xs,h with
 | a::b::c::d::r,_=>simp[hiN,fC,List.getD]
theorem fX9 (xs:List Byte):fN xs<65536:=by
 have:=(xs.getD 0 0).isLt;have:=(xs.getD 1 0).isLt;unfold fN;omega
theorem fX8 (xs:List Byte):fC xs<65536:=by
 have:=(xs.getD 2 0).isLt;have:=(xs.getD 3 0).isLt;unfold fC;omega
theorem yA (x:Value) (xs:List Byte) (w:World) (hx:mQ w x xs) :
  RI 163 #[x] w (.int .i64 (fT xs)):=by
 have hX:=hx;obtain⟨ax,cx,rfl,hcx,hmx,_⟩:=hx;unfold maxLen at hmx;by_cases h4:xs.length<4
 ·
  have HS:Hid (fT xs=0):=by
   unfold Hid fT;rw[if_neg];omega
  rw[HS.out];generalize xs.length=n at *;go_enter Tryz.func163,Tryz.ntmps163;go_wp2;go_ret;exact⟨rfl,bR _ _⟩
 obtain⟨a1,c1,run1,V1⟩:=cutH (a:=ax) (n:=xs.length) (cap:=cx) 2 oM oM hcx;have e1:=fWs xs oM;have hlt:=fX9 xs;obtain⟨m,hm⟩:∃m,fN xs=m:=⟨_,rfl⟩
 rw[hm] at e1 hlt;have HM:Hid (fN xs=m):=hm;have u1:hiN (xs.take 2) % 18446744073709551616=m:=by rw[e1];omega
 have u2:IntKind.i64.wrap (m:Int)=m:=by rw[IntKind.wrap_i64];omega
 have HV1:Hid (∀(w:World) (ys:List Byte),ys.length=xs.length→mQ w (.slice ax xs.length cx) ys→mQ w (.slice a1 (2:Int).toNat c1) (ys.take (2:Int).toNat)):=V1;clear V1 hm e1;by_cases hb:m=0∨500<m∨xs.length<4+m
 ·
  have HS:Hid (fT xs=0):=by
   unfold Hid fT;rw[if_neg];rw[HM.out];omega
  rw[HS.out];go_enter Tryz.func163,Tryz.ntmps163;go_wp2_with fail;refine(zU _ (xs.take 2) _ (HV1.out _ xs rfl hX)).mono ?_;rintro e w1 ⟨rfl,rfl⟩;rw[u1];generalize xs.length=n at *;clear u1 run1 HV1;rcases hb with hb|hb|hb
  all_goals
   go_wp2;all_goals
    go_ret;exact⟨rfl,bR _ _⟩
 have hb1:¬m=0:=oM;have hb2:¬500<m:=oM;have hb3:¬xs.length<4+m:=oM;have d1:((4:Int)+(m:Int)==4)=false:=by simp;omega
 have d2:¬(504:Int)<4+(m:Int):=oM;have d3:¬(xs.length:Int)<4+(m:Int):=oM;obtain⟨a2,c2,run2,V2⟩:=cutB (a:=ax) (n:=xs.length) (cap:=cx) 2 4 oM oM oM hcx;obtain⟨a3,c3,run3,V3⟩:=cutB (a:=ax) (n:=xs.length) (cap:=cx) 4 (4+m) oM oM oM hcx;have HV2:=V2 _ xs rfl hX;have HV3:=V3 _ xs rfl hX;rw[show((4:Int)+(m:Int)-4).toNat=m by omega] at HV3;rw[show((4:Int)+(m:Int)-4).toNat=m by omega] at run3;rw[show((4:Int)-2).toNat=2 by omega] at run2 HV2;rw[show(2:Int).toNat=2 by omega] at HV2;rw[show(4:Int).toNat=4 by omega] at HV3;have hl2:=fX8 xs;have e2:=fSs xs oM;obtain⟨q,hq⟩:∃q,fC xs=q:=⟨_,rfl⟩
 rw[hq] at e2 hl2;have HQ:Hid (fC xs=q):=hq;have u3:IntKind.i64.wrap (hiN ((xs.drop 2).take 2))=q:=by rw[e2,IntKind.wrap_i64];omega
 obtain⟨r,hr⟩:∃r,chk ((xs.drop 4).take m)=r:=⟨_,rfl⟩
 have HR:Hid (chk ((xs.drop 4).take m)=r):=hr;clear V2 V3 hq hr e2 hb;by_cases hc:(q:Int)=r
 ·
  have HS:Hid (fT xs=4+m):=by
   unfold Hid fT;rw[HM.out,HQ.out,HR.out,if_pos];omega
  rw[HS.out];have hd:((q:Int)==r)=true:=by simpa using hc
  go_enter Tryz.func163,Tryz.ntmps163;go_wp2_with fail;refine(zU _ (xs.take 2) _ (HV1.out _ xs rfl hX)).mono ?_;rintro e w1 ⟨rfl,rfl⟩;rw[u1];clear u1 run1 HV1 hc;go_wp2;go_region_held3 (fun w'=>Below w1.heap.size w1 w') (exact qBq) (first|(go_at_call 169;refine(tV _ _ _ (gG HV2 qBq)).mono ?_;rintro e w2 ⟨rfl,rfl⟩;rw[u3])|(go_at_call 162;refine(fEv _ _ _ (gG HV3 qBq)).mono ?_;rintro e w2 ⟨rfl,rfl⟩;rw[HR.out]));all_goals
   rename_i hH;go_wp2;go_ret;exact⟨rfl,hH⟩
 have HS:Hid (fT xs=0):=by
  unfold Hid fT;rw[HM.out,HQ.out,HR.out,if_neg];intro h;exact hc h.2.2.2.symm
 rw[HS.out];have hd:((q:Int)==r)=false:=by simpa using hc
 go_enter Tryz.func163,Tryz.ntmps163;go_wp2_with fail;refine(zU _ (xs.take 2) _ (HV1.out _ xs rfl hX)).mono ?_;rintro e w1 ⟨rfl,rfl⟩;rw[u1];clear u1 run1 HV1 hc;go_wp2;go_region_held3 (fun w'=>Below w1.heap.size w1 w') (exact qBq) (first|(go_at_call 169;refine(tV _ _ _ (gG HV2 qBq)).mono ?_;rintro e w2 ⟨rfl,rfl⟩;rw[u3])|(go_at_call 162;refine(fEv _ _ _ (gG HV3 qBq)).mono ?_;rintro e w2 ⟨rfl,rfl⟩;rw[HR.out]));all_goals
  rename_i hH;go_wp2;go_ret;exact⟨rfl,hH⟩
end
section
structure RecsR where
 code:Int
 used:Int
 records:List (List Byte)
variable [dQ RecsR] [iH RecsR]
def recsRR:Rep RecsR where
 V:=fun w v x=>∃u1,v =.agg #[.int .i64 x.code,.int .i64 x.used,u1]∧bytessR.V w u1 x.records
 O:=fun w base F v x=>∃u1 F1,v =.agg #[.int .i64 x.code,.int .i64 x.used,u1]∧bytessR.O w base F1 u1 x.records∧(∀b,F b↔(F1 b))
 below:=fun h hb=>by
  obtain⟨u1,rfl,h1⟩:=h;exact⟨u1,rfl,bytessR.below h1 hb⟩
 ofO:=fun h=>by
  obtain⟨u1,F1,rfl,h1,_⟩:=h;exact⟨u1,rfl,bytessR.ofO h1⟩
 mod:=fun h hm hd=>by
  obtain⟨u1,F1,rfl,h1,hF⟩:=h;exact⟨u1,F1,rfl,bytessR.mod h1 hm (fun b hb=>hd b ((hF b).2 hb)),hF⟩
 rng:=fun h b hb=>by
  obtain⟨u1,F1,rfl,h1,hF⟩:=h;rcases(hF b).1 hb with hb
  exact bytessR.rng h1 b hb
 base:=fun h hb=>by
  obtain⟨u1,F1,rfl,h1,hF⟩:=h;exact⟨u1,F1,rfl,bytessR.base h1 hb,hF⟩
theorem fCu {w:World} {v:Value} {x:RecsR} (h:recsRR.V w v x):∃a1 c1,v =.agg #[.int .i64 x.code,.int .i64 x.used,.slice a1 x.records.length c1]:=by
 obtain⟨u1,rfl,h1⟩:=h;obtain⟨a1,c1,rfl⟩:=fD5 h1;exact⟨_,_,rfl⟩
variable [dQ BytesR] [iH BytesR] [dQ RecsR] [iH RecsR]
theorem getD_drop (xs:List Byte) (k i:Nat):(xs.drop k).getD i 0=xs.getD (k+i) 0:=by simp[List.getD]
theorem fWq (xs:List Byte) (k:Nat):fN (xs.drop k)=(xs.getD k 0).val*256+(xs.getD (k+1) 0).val:=by unfold fN;rw[getD_drop,getD_drop];rfl
theorem fWp (xs:List Byte) (k:Nat):fC (xs.drop k)=(xs.getD (k+2) 0).val*256+(xs.getD (k+3) 0).val:=by unfold fC;rw[getD_drop,getD_drop]
theorem fIk {xs:List Byte} (h:xs.length≤4):fT xs=0:=by
 unfold fT;rw[if_neg];omega
def fD1 (xs:List Byte) (k:Nat) (out:List (List Byte)):Prop:=
 k≤xs.length∧out.length≤k∧recL xs=out++recL (xs.drop k)∧recU xs=k+recU (xs.drop k)
theorem fFr (xs:List Byte):fD1 xs 0 []:=⟨oM,by simp,by simp,by simp⟩
theorem fTy {xs:List Byte} {k:Nat} {out:List (List Byte)} (h:fD1 xs k out) (hz:fT (xs.drop k)=0):recL xs=out∧recU xs=k:=by
 obtain⟨_,_,h3,h4⟩:=h;rw[fI4 hz,List.append_nil] at h3;rw[fI5 hz,Nat.add_zero] at h4;exact⟨h3,h4⟩
theorem fHv {xs:List Byte} {k m:Nat} {out:List (List Byte)} (h:fD1 xs k out) (hz:fT (xs.drop k)=4+m) (hm:1≤m):fD1 xs (k+4+m) (out++[(xs.drop (k+4)).take m]):=by
 obtain⟨h1,h2,h3,h4⟩:=h;have hz':¬fT (xs.drop k)=0:=oM;have h5:=qR hz';rw[List.length_drop] at h5;refine⟨oM,by rw[List.length_append,List.length_singleton];omega,?_,?_⟩
 ·rw[h3,fK5 hz',hz,List.drop_drop,List.drop_drop,List.append_assoc,show k+(4+m)=k+4+m by omega,show 4+m-4=m by omega];rfl
 rw[h4,fK6 hz',hz,List.drop_drop,show k+(4+m)=k+4+m by omega];omega
theorem fGt {B:Nat} {w Y:World} (h:Below B w Y) (n:Nat):Below B w (Y.drewN n):=h.trans ⟨rfl,rfl,rfl,Nat.le_refl _,fun _ _=>rfl⟩
theorem fI7 {wz:World} {base:Nat} {xs:List Byte} {k:Nat} {out:List (List Byte)} {v:Value} (hso:fD1 xs k out) (hz:fT (xs.drop k)=0) (hro:fB6 wz base v out) :
  (∃F,bytessR.O wz base F v (recL xs))∧recU xs=k:=by
 obtain⟨e1,e2⟩:=fTy hso hz;rw[e1];exact⟨fW9 hro,e2⟩
theorem fBl (x:Value) (xs:List Byte) (w:World) (hx:mQ w x xs) (hn:xs.length≤6000) :
  Calls Tryz.prog 104 #[x] w fun e w'=>∃v F,e =.returned (.tuple #[v,.int .i64 (recU xs)])∧bytessR.O w' w.heap.size F v (recL xs)∧Below w.heap.size w w':=by
 have hX:=hx;obtain⟨ax,cx,rfl,hcx,hmx,hx⟩:=hx;unfold maxLen at hmx;go_enter Tryz.func104,Tryz.ntmps104;go_wp2;go_loopw [4,5] (fun v i w'=>∃(k:Nat) (out:List (List Byte)),i =.int .i64 k∧fD1 xs k out∧fB6 w' w.heap.size v out∧Below w.heap.size w w') (fun _ i _=>xs.length-(intOf i).toNat)
 case atStart=>
  refine⟨0,[],rfl,fFr xs,fK9 ?_,bA (bR _ _) _⟩;exact World.ownsRow_lit (base:=w.heap.size) (e:=23) (size:=1) w #[] 0 (by simp) (by unfold maxLen;omega) rfl
 obtain⟨k,out,rfl,hso,hro,hbl⟩:=hrel;have hkn:=hso.1;have hok:=hso.2.1;obtain⟨av,cv,rfl⟩:=fCw hro;have HSo:Hid (fD1 xs k out):=hso;have HRo:Hid (fB6 wr w.heap.size (.slice av out.length cv) out):=hro;clear hso hro;by_cases hlt:k+4<xs.length
 ·
  obtain⟨b,o,rfl,g0⟩:=hx k oM;obtain⟨b',o',e,g1⟩:=hx (k+1) oM;simp only[Option.some.injEq,Addr.mk.injEq,and_true] at e;obtain⟨rfl,rfl⟩:=e;obtain⟨b',o',e,g2⟩:=hx (k+2) oM;simp only[Option.some.injEq,Addr.mk.injEq,and_true] at e;obtain⟨rfl,rfl⟩:=e;obtain⟨b',o',e,g3⟩:=hx (k+3) oM;simp only[Option.some.injEq,Addr.mk.injEq,and_true] at e;obtain⟨rfl,rfl⟩:=e;have hfN:=fWq xs k;have hfC:=fWp xs k;obtain⟨p0,hp0⟩:∃p,(xs.getD k 0).val=p:=⟨_,rfl⟩
  obtain⟨p1,hp1⟩:∃p,(xs.getD (k+1) 0).val=p:=⟨_,rfl⟩
  obtain⟨p2,hp2⟩:∃p,(xs.getD (k+2) 0).val=p:=⟨_,rfl⟩
  obtain⟨p3,hp3⟩:∃p,(xs.getD (k+3) 0).val=p:=⟨_,rfl⟩
  have l0:p0<256:=by rw[←hp0];exact(xs.getD k 0).isLt
  have l1:p1<256:=by rw[←hp1];exact(xs.getD (k+1) 0).isLt
  have l2:p2<256:=by rw[←hp2];exact(xs.getD (k+2) 0).isLt
  have l3:p3<256:=by rw[←hp3];exact(xs.getD (k+3) 0).isLt
  rw[hp0,hp1] at hfN;rw[hp2,hp3] at hfC;rw[hp0] at g0;rw[hp1] at g1;rw[hp2] at g2;rw[hp3] at g3;replace g0:=cK hbl g0;replace g1:=cK hbl g1;replace g2:=cK hbl g2;replace g3:=cK hbl g3;obtain⟨m,hm⟩:∃m,p0*256+p1=m:=⟨_,rfl⟩
  obtain⟨q,hq⟩:∃q,p2*256+p3=q:=⟨_,rfl⟩
  have HN:Hid (fN (xs.drop k)=m):=by rw[←hm];exact hfN
  have HC:Hid (fC (xs.drop k)=q):=by rw[←hq];exact hfC
  have v0:IntKind.i64.wrap (p0:Int)=p0:=by rw[IntKind.wrap_i64];omega
  have v1:IntKind.i64.wrap (p1:Int)=p1:=by rw[IntKind.wrap_i64];omega
  have v2:IntKind.i64.wrap (p2:Int)=p2:=by rw[IntKind.wrap_i64];omega
  have v3:IntKind.i64.wrap (p3:Int)=p3:=by rw[IntKind.wrap_i64];omega
  have v4:IntKind.i64.wrap ((p0:Int)*256)=p0*256:=by rw[IntKind.wrap_i64];omega
  have v5:IntKind.i64.wrap ((p2:Int)*256)=p2*256:=by rw[IntKind.wrap_i64];omega
  have v6:IntKind.i64.wrap ((p0:Int)*256+p1)=m:=by rw[IntKind.wrap_i64];omega
  have v7:IntKind.i64.wrap ((p2:Int)*256+p3)=q:=by rw[IntKind.wrap_i64];omega
  have v8:IntKind.i64.wrap ((k:Int)+1)=k+1:=by rw[IntKind.wrap_i64];omega
  have v9:IntKind.i64.wrap ((k:Int)+2)=k+2:=by rw[IntKind.wrap_i64];omega
  have v10:IntKind.i64.wrap ((k:Int)+3)=k+3:=by rw[IntKind.wrap_i64];omega
  have i0:((k:Int)+1).toNat=k+1:=oM;have i2:((k:Int)+2).toNat=k+2:=oM;have i3:((k:Int)+3).toNat=k+3:=oM;have hm6:m<65536:=oM;have HM:Hid (p0*256+p1=m):=hm;have HQ:Hid (p2*256+p3=q):=hq;clear hp0 hp1 hp2 hp3 hm hq hfN hfC hx;by_cases hbad:m<1∨500<m∨xs.length<k+4+m
  ·
   have HZ:Hid (fT (xs.drop k)=0):=by
    unfold Hid fT;rw[if_neg];rw[HN.out,List.length_drop];omega
   go_wp2;go_quiet (fail);rcases hbad with hbad|hbad|hbad
   all_goals
    go_wp2;all_goals
     obtain⟨⟨F,hO⟩,hU⟩:=fI7 HSo.out HZ.out HRo.out;refine bodyPost_ret (v:=.tuple #[.slice av out.length cv,.int .i64 k]) (by simp[results,Tryz.results104,go_sem]) rfl ?_;rw[hU];have hb2:=fGt (Below.refl wr.heap.size wr) nq;first|exact⟨_,F,rfl,bytessR.keep hO hb2,bS hbl hb2⟩|exact⟨_,rfl,⟨F,bytessR.keep hO hb2⟩,bS hbl hb2⟩
  have d1:¬(m:Int)<1:=oM;have d2:¬(500:Int)<(m:Int):=oM;have d3:¬(xs.length:Int)<(k:Int)+4+(m:Int):=oM;have hm1:1≤m:=oM;have hV:=pJ hX (k+4) (k+4+m) oM oM;rw[if_neg oM] at hV;simp only[Option.map_some,Nat.mul_one,addP] at hV;rw[show(xs.drop (k+4)).take (k+4+m-(k+4))=(xs.drop (k+4)).take m by rw[show k+4+m-(k+4)=m by omega]] at hV;replace hV:=gG hV hbl;obtain⟨rr,hrr⟩:∃rr,(xs.drop (k+4)).take m=rr:=⟨_,rfl⟩
  rw[hrr] at hV;have hrl:rr.length≤500:=by rw[←hrr,List.length_take,List.length_drop];omega
  have HRR:Hid ((xs.drop (k+4)).take m=rr):=hrr;obtain⟨r,hr⟩:∃r,chk rr=r:=⟨_,rfl⟩
  have HR:Hid (chk rr=r):=hr;have hm500:m≤500:=oM;clear hbad hrr hr;go_wp2;go_quiet (fail);go_wp2;have hbq:=fGt (Below.refl wr.heap.size wr) nq;generalize wr.drewN nq=wq at *;replace g2:=cK hbq g2;replace g3:=cK hbq g3;replace hV:=gG hV hbq;have HRo':=yK HRo.out hbq;clear HRo g0 g1;have hbw:Below w.heap.size w wq:=bS hbl hbq;clear hbl hbq;generalize Value.slice (some ⟨b,o+(k+4),none⟩) (k+4+m-(k+4)) (cx-(k+4))=sv at *;have hCk:∀W:World,Below wq.heap.size wq W→Calls Tryz.prog 132 #[sv] W fun e w'=>e =.returned (.int .i64 r)∧w'=W:=fun W hW=>by
   rw[←HR.out];exact fNf _ _ _ (gG hV hW)
  by_cases hc:r=(q:Int)
  ·
   have HZ:Hid (fT (xs.drop k)=4+m):=by
    unfold Hid fT;rw[HN.out,HC.out,List.length_drop,List.drop_drop,HRR.out,HR.out,if_pos];omega
   have hd:(r==(q:Int))=true:=by simpa using hc
   go_quiet (first|(go_at_call 132;refine Calls.quiet_of_same (hCk _ ?_);exact fGt (bR _ _) _))
   have hb2:=fGt (Below.refl wq.heap.size wq) nq;generalize wq.drewN nq=w3 at *;clear hCk g2 g3 hc hd;replace hV:=gG hV hb2;have hR3:=yK HRo' hb2;have hbw3:Below w.heap.size w w3:=bS hbw hb2;clear HRo' hb2 hbw;have hs3:=hbw3.size;have hrow:=World.ownsRow_lit (base:=w3.heap.size) (e:=5) (size:=1) w3 #[] 0 (by simp) (by unfold maxLen;omega) rfl;have hrow':World.ownsRow (w3.alloc (.cells #[] 5)) w3.heap.size 5 1 (.slice (some ⟨w3.heap.size,0,none⟩) 0 0) ([]:List Byte).length (gX []):=hrow;have hV3:=gG hV (bA (bR _ _) (.cells #[] 5));have hsrc:=mZ hV3;have hlen1:([]:List Byte).length+rr.length≤1073741824:=by simp only[List.length_nil];omega
   have hz3:w3.heap.size≤(w3.alloc (.cells #[] 5)).heap.size:=by simp
   clear hrow;go_wp2_with (at_builtin;refine fA3 _ rfl _ _ rfl w3.heap.size _ [] rfl _ rr rfl hrow' hsrc hlen1 hz3 ?_);intro v1 w4 o1 hg hB;have hb4:=hB w3 (bA (bR _ _) _);have o1':bytesR.O w4 w3.heap.size (fun b=>v1.ownBlock=some b) v1 rr:=⟨by simpa using o1,rfl⟩;obtain⟨a1,c1,rfl⟩:=fZ (bytesR.ofO o1');clear hB hg o1 hrow' hsrc hlen1 hz3 hV3;have hol:out.length≤1048576:=oM;go_wp2_with (at_builtin;refine fDd w3 w4 rfl _ _ rfl w.heap.size _ out hR3 hs3 hb4 _ _ rr o1' rfl rfl hol ?_);intro v2 w5 hR5 hB5;have hb5:=hB5 w hbw3;have HR5:Hid (fB6 w5 w.heap.size v2 (out++[rr])):=hR5;clear hR3 hB5 hR5 o1' hb4;have HS5:=fHv HSo.out HZ.out hm1;rw[HRR.out] at HS5;have HS6:Hid (fD1 xs (k+4+m) (out++[rr])):=HS5;clear HS5;go_wp2;refine⟨⟨k+4+m,out++[rr],nU,HS6.out,HR5.out,hb5⟩,mI⟩
  have HZ:Hid (fT (xs.drop k)=0):=by
   unfold Hid fT;rw[if_neg];rw[HN.out,HC.out,List.length_drop,List.drop_drop,HRR.out,HR.out];omega
  have hd:(r==(q:Int))=false:=by simpa using hc
  go_quiet (first|(go_at_call 132;refine Calls.quiet_of_same (hCk _ ?_);exact fGt (bR _ _) _))
  have hb2:=fGt (Below.refl wq.heap.size wq) nq;generalize wq.drewN nq=w3 at *;obtain⟨⟨F,hO⟩,hU⟩:=fI7 HSo.out HZ.out HRo';clear hCk hV HRo';go_wp2;refine bodyPost_ret (v:=.tuple #[.slice av out.length cv,.int .i64 k]) (by simp[results,Tryz.results104,go_sem]) rfl ?_;rw[hU];first|exact⟨_,F,rfl,bytessR.keep hO hb2,bS hbw hb2⟩|exact⟨_,rfl,⟨F,bytessR.keep hO hb2⟩,bS hbw hb2⟩
 go_wp2;refine bodyPost_ret (v:=.tuple #[.slice av out.length cv,.int .i64 k]) (by simp[results,Tryz.results104,go_sem]) rfl ?_;obtain⟨⟨F,hO⟩,hU⟩:=fI7 HSo.out (fIk (by rw[List.length_drop];omega)) HRo.out;rw[hU];first|exact⟨_,F,rfl,hO,hbl⟩|exact⟨_,rfl,⟨F,hO⟩,hbl⟩
def fDn (xs:List Byte):RecsR:=if xs.length≤6000 then ⟨0,recU xs,recL xs⟩ else ⟨2,0,[]⟩
theorem fFj (w:World) (base:Nat) (c u:Int):recsRR.O w base none_ (.agg #[.int .i64 c,.int .i64 u,.slice none 0 0]) ⟨c,u,[]⟩:=
 ⟨.slice none 0 0,none_,rfl,⟨[],fun _=>.int .i64 0,fun _ _=>False,⟨World.ownsRow_nil w base 23 1,fun _ h=>absurd h (Nat.not_lt_zero _),fun _ h=>absurd h (Nat.not_lt_zero _),fun _ h=>absurd h (Nat.not_lt_zero _),fun _ h=>absurd h (Nat.not_lt_zero _),fun _ _ h=>absurd h (Nat.not_lt_zero _)⟩,fun b=>by simp[none_,Value.ownBlock]⟩,fun b=>Iff.rfl⟩
theorem fIt (x:Value) (xs:List Byte) (w:World) (hx:bytesR.V w x xs) :
  Calls Tryz.prog 136 #[x] w fun e w'=>∃v F,e =.returned v∧recsRR.O w' w.heap.size F v (fDn xs)∧Below w.heap.size w w':=by
 have hX:=hx;obtain⟨ax,cx,rfl,hcx,hmx,hx⟩:=hx;unfold maxLen at hmx;by_cases h:xs.length≤6000
 ·
  have HD:Hid (fDn xs=⟨0,recU xs,recL xs⟩):=if_pos h;go_enter Tryz.func136,Tryz.ntmps136;go_wp2_with fail;refine(yA _ xs _ (bytesR.below hX qBq)).mono ?_;rintro e w1 ⟨rfl,hb1⟩;have hr0:w1.cell? ⟨w.heap.size,0,none⟩=some (.int .i64 0):=cK hb1 sG;have hr1:w1.cell? ⟨w.heap.size,1,none⟩=some (.int .i64 0):=cK hb1 sG;have hr2:w1.cell? ⟨w.heap.size,2,none⟩=some (.slice none 0 0):=cK hb1 sG;have hrf:(∀o,w1.frozen? ⟨w.heap.size,o,none⟩=false)∧w.heap.size<w1.heap.size:=(fR3 hb1 rfl).2.2.2;have hB1:Below w.heap.size w w1:=qBq;have HS:Hid (fT (xs.drop 0)=fT xs):=by simp[Hid]
  clear hb1;go_wp2;go_loopw [3,4,5] (fun v i j w'=>∃(k sz:Nat) (out:List (List Byte)),i =.int .i64 k∧j =.int .i64 sz∧fT (xs.drop k)=sz∧fD1 xs k out∧fB6 w' (w.heap.size+1) v out ∧
    (w'.cell? ⟨w.heap.size,0,none⟩=some (.int .i64 0)∧w'.cell? ⟨w.heap.size,1,none⟩=some (.int .i64 0)∧w'.cell? ⟨w.heap.size,2,none⟩=some (.slice none 0 0))∧((∀o,w'.frozen? ⟨w.heap.size,o,none⟩=false)∧w.heap.size<w'.heap.size)∧Below w.heap.size w w') (fun _ i _ _=>xs.length-(intOf i).toNat)
  case atStart=>
   refine⟨0,fT xs,[],rfl,rfl,HS.out,fFr xs,fK9 (World.ownsRow_nil _ _ _ _),⟨hr0,hr1,hr2⟩,hrf,hB1⟩
  clear hr0 hr1 hr2 hrf hB1;obtain⟨k,sz,out,rfl,rfl,hsz,hso,hro,⟨hr0,hr1,hr2⟩,hrf,hbl⟩:=hrel;have hkn:=hso.1;have hok:=hso.2.1;obtain⟨av,cv,rfl⟩:=fCw hro;have HSo:Hid (fD1 xs k out):=hso;have HSz:Hid (fT (xs.drop k)=sz):=hsz;clear hso hsz;by_cases h0:sz=0
  ·
   subst h0;obtain⟨⟨F,hO⟩,hU⟩:=fI7 HSo.out HSz.out hro;obtain⟨hrf,hlt⟩:=hrf;have HO:Hid (bytessR.O wr (w.heap.size+1) F (.slice av out.length cv) (recL xs)):=hO;clear hO hro;go_wp2;refine bodyPost_ret (v:=.agg #[.int .i64 0,.int .i64 k,.slice av out.length cv]) ?_ rfl ?_
   ·simp[results,Tryz.results136,go_sem,hr0,hr1,hr2]
   rw[HD.out,hU];have ho2:=bytessR.set (bytessR.set (bytessR.set HO.out (p:=⟨w.heap.size,0,none⟩) (.int .i64 0) (by simp)) (p:=⟨w.heap.size,1,none⟩) (.int .i64 k) (by simp)) (p:=⟨w.heap.size,2,none⟩) (.slice av out.length cv) (by simp);first|exact⟨_,F,rfl,⟨_,F,rfl,bytessR.base ho2 oM,fun b=>Iff.rfl⟩,qBq⟩|exact⟨_,rfl,⟨F,⟨_,F,rfl,bytessR.base ho2 oM,fun b=>Iff.rfl⟩⟩,qBq⟩
  have hp:=qR (xs:=xs.drop k) (by rw[HSz.out];exact h0);rw[HSz.out,List.length_drop] at hp;obtain⟨m,hm⟩:∃m,fN (xs.drop k)=m:=⟨_,rfl⟩
  rw[hm] at hp;obtain⟨rfl,hm1,hm2,hm3⟩:=hp;clear hm h0;have hm4:k+4+m≤xs.length:=oM;obtain⟨b,o,rfl,_⟩:=hx 0 oM;have hbs:w.heap.size+1≤wr.heap.size:=hrf.2;have HV2:=pJ hX (k+4) (k+(4+m)) oM oM;rw[if_neg oM] at HV2;simp only[Option.map_some,Nat.mul_one,addP] at HV2;replace HV2:=gG HV2 hbl;have HV3:=pJ hX (k+(4+m)) xs.length oM oM;simp only[Option.map_some,Nat.mul_one,addP] at HV3;rw[show(xs.drop (k+(4+m))).take (xs.length-(k+(4+m)))=xs.drop (k+(4+m)) from List.take_of_length_le (by rw[List.length_drop];omega)] at HV3;rw[show(xs.drop (k+4)).take (k+(4+m)-(k+4))=(xs.drop (k+4)).take m by rw[show k+(4+m)-(k+4)=m by omega]] at HV2;obtain⟨rr,hrr⟩:∃rr,(xs.drop (k+4)).take m=rr:=⟨_,rfl⟩
  rw[hrr] at HV2;have hrl:[rr].flatten.length≤1073741824:=by
   simp only[List.flatten_cons,List.flatten_nil,List.append_nil];rw[←hrr,List.length_take,List.length_drop];omega
  have HRL:Hid ([rr].flatten.length≤1073741824):=hrl;have HRR:Hid ((xs.drop (k+4)).take m=rr):=hrr;have HZ:Hid (fT (xs.drop k)=4+m):=HSz.out;clear hrr HSz hrl hx;go_wp2_with fail;generalize Value.slice (some ⟨b,o+(k+4),none⟩) (k+(4+m)-(k+4)) (cx-(k+4))=sv at *;refine(zZ _ [rr] _ (fR4 (g:=wr.heap.size) sG (bytesR.below HV2 qBq)) HRL.out).mono ?_;rintro e w4 ⟨v3,F3,rfl,o3,hb4⟩;have hs4:=hb4.size;rw[World.size_alloc] at hs4;have o3':bytesR.O w4 wr.heap.size F3 v3 rr:=bytesR.base (by simpa using o3) (by simp);have hb4':Below wr.heap.size wr w4:=qBq;obtain⟨a3,c3,rfl⟩:=fZ (bytesR.ofO o3');clear o3 HV2 hb4;have hol:out.length≤1048576:=oM;go_wp2_with (at_builtin;refine fDd wr w4 rfl _ _ rfl (w.heap.size+1) _ out hro hbs hb4' _ _ rr o3' rfl rfl hol ?_);intro v5 w5 hR5 hB;have hb5:=hB wr (bR _ _);replace hr0:=(hb5.cell (p:=⟨w.heap.size,0,none⟩) (by simp)).trans hr0;replace hr1:=(hb5.cell (p:=⟨w.heap.size,1,none⟩) (by simp)).trans hr1;replace hr2:=(hb5.cell (p:=⟨w.heap.size,2,none⟩) (by simp)).trans hr2;have hrg:(∀o,w5.frozen? ⟨w.heap.size,o,none⟩=false)∧w.heap.size<w5.heap.size:=⟨fun o=>(hb5.frozen (p:=⟨w.heap.size,o,none⟩) (by simp)).trans (hrf.1 o),Nat.lt_of_lt_of_le hrf.2 hb5.size⟩;have hbw:Below w.heap.size w w5:=hbl.trans (hb5.mono oM);have HR5:Hid (fB6 w5 (w.heap.size+1) v5 (out++[rr])):=hR5;obtain⟨a5,c5,rfl⟩:=fCw hR5;have HS5:=fHv HSo.out HZ.out hm1;rw[HRR.out,show k+4+m=k+(4+m) by omega] at HS5;have HS6:Hid (fD1 xs (k+(4+m)) (out++[rr])):=HS5;have HV4:=gG HV3 hbw;clear HS5 hR5 hB hb5 hrf hro o3' hb4' hbl HV3
  by_cases hck:cx=k+(4+m)
  ·rw[if_pos hck,show cx-(k+(4+m))=0 by omega] at HV4;go_wp2_with fail;refine(yA _ (xs.drop (k+(4+m))) _ HV4).mono ?_;rintro e w6 ⟨rfl,hb6⟩;replace hr0:=cK hb6 hr0;replace hr1:=cK hb6 hr1;replace hr2:=cK hb6 hr2;replace hrg:=qY hrg hb6;have hbz:=bS hbw hb6;have HR6:=yK HR5.out hb6;rw[List.length_append,List.length_singleton] at HR6;clear hb6 hbw HV4 hck;go_wp2;refine⟨⟨k+(4+m),_,out++[rr],nU,rfl,rfl,HS6.out,HR6,⟨hr0,hr1,hr2⟩,hrg,hbz⟩,mI⟩
  rw[if_neg hck] at HV4;go_wp2_with fail;refine(yA _ (xs.drop (k+(4+m))) _ HV4).mono ?_;rintro e w6 ⟨rfl,hb6⟩;replace hr0:=cK hb6 hr0;replace hr1:=cK hb6 hr1;replace hr2:=cK hb6 hr2;replace hrg:=qY hrg hb6;have hbz:=bS hbw hb6;have HR6:=yK HR5.out hb6;rw[List.length_append,List.length_singleton] at HR6;clear hb6 hbw HV4;go_wp2;refine⟨⟨k+(4+m),_,out++[rr],nU,rfl,rfl,HS6.out,HR6,⟨hr0,hr1,hr2⟩,hrg,hbz⟩,mI⟩
 have HD:Hid (fDn xs=⟨2,0,[]⟩):=if_neg h;generalize xs.length=n at *;go_enter Tryz.func136,Tryz.ntmps136;go_wp2;refine bodyPost_ret (v:=.agg #[.int .i64 2,.int .i64 0,.slice none 0 0]) ?_ rfl ?_
 ·simp[results,Tryz.results136,go_sem]
 rw[HD.out];first|exact⟨_,none_,rfl,fFj _ _ _ _,qBq⟩|exact⟨_,rfl,⟨none_,fFj _ _ _ _⟩,qBq⟩
end
end Go.Proofs.YtpibfdebfacooaaGreat

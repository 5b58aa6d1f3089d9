import Derived.Test.YtbfnobcidnmohaaGreatPrnSafeClusterLaw12
set_option maxHeartbeats 8000000
set_option maxRecDepth 20000
set_option linter.unusedSimpArgs false
set_option linter.unusedVariables false
set_option linter.unusedSectionVars false
namespace Go.Proofs.YtbfnobcidnmohaaGreat
open Go.RowKit
attribute [local go_sem ↓] Go.wp_at_zero Go.wp_at_succ
section
variable [dQ Rw] [iH Rw] [dQ Bal] [iH Bal] [dQ Ledg] [iH Ledg] [dQ Leg] [iH Leg] [dQ Cont] [iH Cont] [dQ LedgR] [iH LedgR] [dQ OutcR] [iH OutcR] [dQ Mrk] [iH Mrk] [dQ Shd] [iH Shd] [dQ ShdR] [iH ShdR]
theorem yR (l:Cont) (u:Value) (c:Int) (w:World):RI 336 #[.agg #[.int .i64 l.id,u],.int .i64 c] w (.int .i64 (cmpQ l.id c)):=by
 go_enter Tryz.func336,Tryz.ntmps336;go_wp2_with (go_at_call 247;refine(fM5 _ _ _).mono ?_;rintro e w' ⟨rfl,rfl⟩);go_ret;exact⟨rfl,qBq⟩
def PlC (xs:List Cont) (c:Int) (w:World) (e:Ending) (w':World):Prop:=∃i:Nat,i≤xs.length∧e =.returned (.tuple #[.int .i64 i,.bool (decide (i<xs.length∧(xs.getD i default).id=c))])∧(∀k,k<i→(xs.getD k default).id<c)∧(∀k,i≤k→k<xs.length→c≤(xs.getD k default).id)∧Below w.heap.size w w'
theorem fWa (x:Value) (xs:List Cont) (c:Int) (w:World) (hx:contsR.V w x xs) (hn:xs.length≤1048576) (hr:∀i j,i<j→j<xs.length→(xs.getD i default).id<(xs.getD j default).id) :
  Calls Tryz.prog 335 #[x,.int .i64 c,.func (.func 336) #[] #[]] w (PlC xs c w):=by
 obtain⟨ax,cx,rfl,hcx,hmx,hx⟩:=tO hx;unfold maxLen at hmx;have HR:Hid (∀i j,i<j→j<xs.length→(xs.getD i default).id<(xs.getD j default).id):=hr;have HX:Hid (∀k,k<xs.length→∃b o p q,ax=some ⟨b,o,none⟩∧w.cell? ⟨b,o+k*2,none⟩=some (.int .i64 (xs.getD k default).id)∧w.cell? ⟨b,o+k*2+1,none⟩=some (.slice p (xs.getD k default).legs.length q)∧contR.V w (.agg #[.int .i64 (xs.getD k default).id,.slice p (xs.getD k default).legs.length q]) (xs.getD k default)):=hx;clear hx hr;generalize hN:xs.length=n at *;have HN:Hid (xs.length=n):=hN;clear hN;have eg:=enters_of Tryz.func336 kF rfl;go_enter Tryz.func335,Tryz.ntmps335;go_wp2;go_loopw [9,10] (fun a b W=>∃i j:Nat,i≤j∧j≤n∧a =.int .i64 i∧b =.int .i64 j∧Hid (∀k,k<i→(xs.getD k default).id<c)∧Hid (∀k,j≤k→k<n→c≤(xs.getD k default).id)∧Below w.heap.size w W) (fun a b _=>(intOf b).toNat-(intOf a).toNat)
 case atStart=>exact⟨0,n,Nat.zero_le _,Nat.le_refl _,rfl,rfl,fun k h=>absurd h oM,fun k h1 h2=>oM,bR _ _⟩
 obtain⟨i,j,hij,hjn,rfl,rfl,HA,HB,hbl⟩:=hrel;by_cases hlt:i<j
 ·
  have hlt':(i:Int)<j:=oM;obtain⟨m,hm⟩:∃m:Nat,((i:Int)+j) / 2=(m:Int):=⟨(i+j) / 2,by omega⟩
  have hm1:i≤m:=oM;have hm2:m<j:=oM;have hi4:(0:Int)≤m:=oM;have hi5:(m:Int)<n:=oM;obtain⟨bx,ox,pp,qq,rfl,g2,g3,_⟩:=HX.out m oM;obtain⟨l,hl⟩:∃l,l=xs.getD m default:=⟨_,rfl⟩
  rw[←hl] at g2 g3;have HL:Hid (l=xs.getD m default):=hl;clear hl;replace g2:=cK hbl g2;replace g3:=cK hbl g3;by_cases hneg:cmpQ l.id c<0
  ·
   have hd:decide (cmpQ l.id c<0)=true:=decide_eq_true hneg;have HA2:Hid (∀k,k<m+1→(xs.getD k default).id<c):=fun k hk=>by
    have h1:(xs.getD m default).id<c:=by rw[←HL.out];exact cmpQ_neg.1 hneg
    by_cases e:k=m
    ·rw[e];exact h1
    have:=HR.out k m oM oM;omega
   go_wp2_with (first|(go_at_call 336;refine(yR l _ c _).mono ?_;rintro e wa ⟨rfl,hb1⟩))
   refine⟨⟨m+1,j,by omega,hjn,by go_num,rfl,HA2,HB,qBq⟩,?_⟩;simp[intOf];omega
  have hd:decide (cmpQ l.id c<0)=false:=decide_eq_false hneg;have HB2:Hid (∀k,m≤k→k<n→c≤(xs.getD k default).id):=fun k hk hkn=>by
   have h1:c≤(xs.getD m default).id:=by rw[←HL.out];have:=mt cmpQ_neg.2 hneg;omega
   by_cases e:k=m
   ·rw[e];exact h1
   have:=HR.out m k oM oM;omega
  go_wp2_with (first|(go_at_call 336;refine(yR l _ c _).mono ?_;rintro e wa ⟨rfl,hb1⟩))
  refine⟨⟨i,m,hm1,by omega,rfl,rfl,HA,HB2,qBq⟩,?_⟩;simp[intOf];omega
 obtain rfl:i=j:=oM;have hi4:(0:Int)≤i:=oM;have hnl:¬(i:Int)<i:=oM;by_cases hin:i<n
 ·
  obtain⟨bx,ox,pp,qq,rfl,g2,g3,_⟩:=HX.out i hin;obtain⟨l,hl⟩:∃l,l=xs.getD i default:=⟨_,rfl⟩
  rw[←hl] at g2 g3;have HL:Hid (l=xs.getD i default):=hl;clear hl;replace g2:=cK hbl g2;replace g3:=cK hbl g3;have hi5:(i:Int)<n:=oM;have hi6:decide (i<n)=true:=decide_eq_true hin;go_wp2_with (first|(go_at_call 336;refine(yR l _ c _).mono ?_;rintro e wa ⟨rfl,hb1⟩));refine bodyPost_ret (v:=.tuple #[.int .i64 i,.bool (cmpQ l.id c==0)]) (by simp[results,Tryz.results335,go_sem]) rfl ?_;refine⟨i,by rw[HN.out];exact hjn,?_,HA.out,by rw[HN.out];exact HB.out,qBq⟩;rw[←HL.out,HN.out];have e:(cmpQ l.id c==0)=decide (i<n∧l.id=c):=by
   rw[Bool.eq_iff_iff];simp[hin,fRf]
  rw[e]
 have hi5:¬(i:Int)<n:=oM;have hi6:decide (i<n)=false:=decide_eq_false hin;go_wp2;refine bodyPost_ret (v:=.tuple #[.int .i64 i,.bool false]) (by simp[results,Tryz.results335,go_sem]) rfl ?_;refine⟨i,by rw[HN.out];exact hjn,?_,HA.out,by rw[HN.out];exact HB.out,qBq⟩;rw[HN.out,decide_eq_false (fun h=>hin h.1)]
theorem fEb (x:Value) (xs:List Cont) (c:Int) (w:World) (hx:contsR.V w x xs) (hn:xs.length≤1048576) (hr:∀i j,i<j→j<xs.length→(xs.getD i default).id<(xs.getD j default).id) :
  Calls Tryz.prog 316 #[x,.int .i64 c] w (PlC xs c w):=by
 have HB:Hid (bW w fun W=>Calls Tryz.prog 335 #[x,.int .i64 c,.func (.func 336) #[] #[]] W (PlC xs c W)):=fun W hW=>fWa x xs c W (contsR.below hx hW) hn hr
 obtain⟨a,ca,rfl⟩:=gG hx;clear hx hr;go_enter Tryz.func316,Tryz.ntmps316;go_wp2_with fail;refine(HB.out _ qBq).mono ?_;rintro e w1 ⟨i,hi,rfl,h1,h2,hb1⟩;go_wp2;refine bodyPost_ret (v:=.tuple #[.int .i64 i,.bool (decide (i<xs.length∧(xs.getD i default).id=c))]) (by simp[results,Tryz.results316,go_sem]) rfl ?_;exact⟨i,hi,rfl,h1,h2,qBq⟩
theorem fPj (x:Value) (d:Shd) (c:Int) (w:World) (hx:shdR.V w x d) (hn:d.held.length≤1048576) (hr:∀i j,i<j→j<d.held.length→(d.held.getD i default).id<(d.held.getD j default).id) :
  RI 306 #[x,.int .i64 c] w (.bool (kK d.held c)):=by
 obtain⟨u1,u2,u3,u4,u5,rfl,_,_,h3,_,_⟩:=hx;have HB:Hid (bW w fun W=>Calls Tryz.prog 316 #[u3,.int .i64 c] W (PlC d.held c W)):=fun W hW=>fEb u3 d.held c W (contsR.below h3 hW) hn hr
 have HF:Hid (∀i,(∀k,k<i→(d.held.getD k default).id<c)→(∀k,i≤k→k<d.held.length→c≤(d.held.getD k default).id)→kK d.held c=decide (i<d.held.length∧(d.held.getD i default).id=c)):=fun i h1 h2=>fRu hr h1 h2
 obtain⟨a3,c3,rfl⟩:=gG h3;clear h3 hr;go_enter Tryz.func306,Tryz.ntmps306;go_wp2_with fail;refine(HB.out _ qBq).mono ?_;rintro e w1 ⟨i,hi,rfl,h1,h2,hb1⟩;have HC:Hid (kK d.held c=decide (i<d.held.length∧(d.held.getD i default).id=c)):=HF.out i h1 h2;clear HF h1 h2;generalize decide (i<d.held.length∧(d.held.getD i default).id=c)=bb at *;go_wp2;go_ret;exact⟨rH,qBq⟩
theorem uL (n:Int) (w:World):Calls Tryz.prog 267 #[.int .i64 n] w fun e w'=>e =.returned (.bool (inB n 1 2))∧w'=w:=by
 go_enter Tryz.func267,Tryz.ntmps267;go_wp2_with (go_at_call 152;refine(fO _ _ _ _).mono ?_;rintro e w' ⟨rfl,rfl⟩);go_ret;exact⟨rfl,rfl⟩
theorem rJ (n:Int) (w:World):Calls Tryz.prog 268 #[.int .i64 n] w fun e w'=>e =.returned (.bool (inB n 1 2))∧w'=w:=by
 go_enter Tryz.func268,Tryz.ntmps268;go_wp2_with (go_at_call 152;refine(fO _ _ _ _).mono ?_;rintro e w' ⟨rfl,rfl⟩);go_ret;exact⟨rfl,rfl⟩
theorem fP1 (x:Value) (xs:List Mrk) (w:World) (hx:mrksR.V w x xs) :
  RI 266 #[x,.func (.func 267) #[] #[]] w (.int .i64 (mrkF xs)):=by
 obtain⟨ax,cx,rfl,hcx,hmx,hx⟩:=hx;unfold maxLen at hmx;have HH:Hid (∀k c,k<xs.length→fC (pF xs) k=0→pF xs k=c→c≠0→mrkF xs=c):=fun k c hk hs h hc=>fGi hk hs h hc
 have HE:Hid (fC (pF xs) xs.length=0→mrkF xs=0):=fun h=>h
 generalize hn':xs.length=n at *;clear hn';have eg:=enters_of Tryz.func267 kF rfl;go_enter Tryz.func266,Tryz.ntmps266;go_wp2;go_loopw [9] (fun i w'=>∃k:Nat,k≤n∧i =.int .i64 k∧Hid (fC (pF xs) k=0)∧Below w.heap.size w w') (fun i _=>n-(intOf i).toNat)
 case atStart=>exact⟨0,oM,rfl,rfl,bR _ _⟩
 obtain⟨k,hk,rfl,HS,hbl⟩:=hrel;by_cases hlt:k<n
 ·
  obtain⟨bx,ox,rfl,g1⟩:=hx k hlt;obtain⟨l,hl⟩:∃l,l=xs.getD k default:=⟨_,rfl⟩
  rw[←hl] at g1;have HL:Hid (l=xs.getD k default):=hl;clear hl;obtain⟨a1,a2⟩:=fV hbl g1;have zb:bx<wr.heap.size:=wL wr _ a1;cases h1:inB l.con 1 1000000000
  ·have HC:Hid (mrkF xs=3):=HH.out k 3 hlt HS.out (uV (by rw[←HL.out,h1];rfl)) oM;clear hx;go_wp2_with (first|(go_at_call 237;refine(kE _ _).mono ?_;rintro e w' ⟨rfl,rfl⟩;rw[h1]));go_ret;exact⟨rH,qBq⟩
  cases h2:inB l.val 1 2
  ·have HC:Hid (mrkF xs=3):=HH.out k 3 hlt HS.out (uV (by rw[←HL.out,h1,h2];rfl)) oM;clear hx;go_wp2_with (first|(go_at_call 237;refine(kE _ _).mono ?_;rintro e w' ⟨rfl,rfl⟩;rw[h1])|(go_at_call 267;refine(uL _ _).mono ?_;rintro e w' ⟨rfl,rfl⟩;rw[h2]));go_ret;exact⟨rH,qBq⟩
  have hok:Hid ((inB (xs.getD k default).con 1 1000000000&&inB (xs.getD k default).val 1 2)=true):=by show _=_;rw[←HL.out,h1,h2];rfl
  cases k with
  | zero=>
   have HS2:Hid (fC (pF xs) 1=0):=fE HS.out (fA7 hok.out);clear hx;simp only[Nat.zero_mul,Nat.add_zero] at a1 a2;go_wp2_with (first|(go_at_call 237;refine(kE _ _).mono ?_;rintro e w' ⟨rfl,rfl⟩;rw[h1])|(go_at_call 267;refine(uL _ _).mono ?_;rintro e w' ⟨rfl,rfl⟩;rw[h2]));go_quiet (fail);go_wp2;exact⟨⟨1,by omega,by go_num,HS2,fJ qBq _⟩,mI⟩
  | succ m=>
   obtain⟨bx',ox',he,g2⟩:=hx m oM;simp only[Option.some.injEq,Addr.mk.injEq,and_true] at he;obtain⟨rfl,rfl⟩:=he;obtain⟨l',hl'⟩:∃l',l'=xs.getD m default:=⟨_,rfl⟩
   rw[←hl'] at g2;have HL':Hid (l'=xs.getD m default):=hl';clear hl' hx;obtain⟨a3,a4⟩:=fV hbl g2;have hw1:IntKind.i64.wrap (((m+1:Nat):Int)-1)=(m:Int):=by rw[IntKind.wrap_i64];omega
   have hw2:(((m+1:Nat):Int)-1)=(m:Int):=oM;have hw3:IntKind.i64.wrap (m:Int)=(m:Int):=kD oM oM;have e1:((m+1:Nat):Int)<n:=oM;have e2:(m:Int)<n:=oM;have e3:(0:Int)≤m:=oM;have e4:(0:Int)<((m+1:Nat):Int):=oM;have e5:(0:Int)≤((m+1:Nat):Int):=oM;have HFa:Hid (l.con≤l'.con→mrkF xs=1):=fun h=>HH.out (m+1) 1 hlt HS.out (fA5 hok.out (by rw[←HL.out,←HL'.out];exact h)) oM
   have HRi:Hid (l'.con<l.con→fC (pF xs) (m+1+1)=0):=fun h=>fE HS.out (fA6 hok.out (by rw[←HL.out,←HL'.out];exact h))
   clear hok;obtain⟨ii,hii⟩:∃ii:Nat,ii=m+1:=⟨_,rfl⟩
   have HII:Hid (ii=m+1):=hii;rw[←hii] at a1 a2 hw1 hw2 e1 e4 e5 HRi ⊢;clear hii HS;have e6:decide (0<ii)=true:=decide_eq_true (by have:=HII.out;omega);by_cases hle:l.con≤l'.con
   ·have HC:=HFa.out hle;go_wp2_with (first|(go_at_call 237;refine(kE _ _).mono ?_;rintro e w' ⟨rfl,rfl⟩;rw[h1])|(go_at_call 267;refine(uL _ _).mono ?_;rintro e w' ⟨rfl,rfl⟩;rw[h2]));go_quiet (fail);go_wp2;go_ret;exact⟨by rw[HC];rfl,fJ qBq _⟩
   have HS2:Hid (fC (pF xs) (ii+1)=0):=HRi.out oM;go_wp2_with (first|(go_at_call 237;refine(kE _ _).mono ?_;rintro e w' ⟨rfl,rfl⟩;rw[h1])|(go_at_call 267;refine(uL _ _).mono ?_;rintro e w' ⟨rfl,rfl⟩;rw[h2]));go_quiet (fail);go_wp2;exact⟨⟨ii+1,by omega,by go_num,HS2,fJ qBq _⟩,mI⟩
 have hkn:k=n:=oM;subst hkn;have HC:=HE.out HS.out;go_wp2;go_ret;exact⟨by rw[HC];rfl,qBq⟩
theorem fP0 (x:Value) (xs:List Mrk) (w:World) (hx:mrksR.V w x xs) :
  RI 266 #[x,.func (.func 268) #[] #[]] w (.int .i64 (mrkF xs)):=by
 obtain⟨ax,cx,rfl,hcx,hmx,hx⟩:=hx;unfold maxLen at hmx;have HH:Hid (∀k c,k<xs.length→fC (pF xs) k=0→pF xs k=c→c≠0→mrkF xs=c):=fun k c hk hs h hc=>fGi hk hs h hc
 have HE:Hid (fC (pF xs) xs.length=0→mrkF xs=0):=fun h=>h
 generalize hn':xs.length=n at *;clear hn';have eg:=enters_of Tryz.func268 kF rfl;go_enter Tryz.func266,Tryz.ntmps266;go_wp2;go_loopw [9] (fun i w'=>∃k:Nat,k≤n∧i =.int .i64 k∧Hid (fC (pF xs) k=0)∧Below w.heap.size w w') (fun i _=>n-(intOf i).toNat)
 case atStart=>exact⟨0,oM,rfl,rfl,bR _ _⟩
 obtain⟨k,hk,rfl,HS,hbl⟩:=hrel;by_cases hlt:k<n
 ·
  obtain⟨bx,ox,rfl,g1⟩:=hx k hlt;obtain⟨l,hl⟩:∃l,l=xs.getD k default:=⟨_,rfl⟩
  rw[←hl] at g1;have HL:Hid (l=xs.getD k default):=hl;clear hl;obtain⟨a1,a2⟩:=fV hbl g1;have zb:bx<wr.heap.size:=wL wr _ a1;cases h1:inB l.con 1 1000000000
  ·have HC:Hid (mrkF xs=3):=HH.out k 3 hlt HS.out (uV (by rw[←HL.out,h1];rfl)) oM;clear hx;go_wp2_with (first|(go_at_call 237;refine(kE _ _).mono ?_;rintro e w' ⟨rfl,rfl⟩;rw[h1]));go_ret;exact⟨rH,qBq⟩
  cases h2:inB l.val 1 2
  ·have HC:Hid (mrkF xs=3):=HH.out k 3 hlt HS.out (uV (by rw[←HL.out,h1,h2];rfl)) oM;clear hx;go_wp2_with (first|(go_at_call 237;refine(kE _ _).mono ?_;rintro e w' ⟨rfl,rfl⟩;rw[h1])|(go_at_call 268;refine(rJ _ _).mono ?_;rintro e w' ⟨rfl,rfl⟩;rw[h2]));go_ret;exact⟨rH,qBq⟩
  have hok:Hid ((inB (xs.getD k default).con 1 1000000000&&inB (xs.getD k default).val 1 2)=true):=by show _=_;rw[←HL.out,h1,h2];rfl
  cases k with
  | zero=>
   have HS2:Hid (fC (pF xs) 1=0):=fE HS.out (fA7 hok.out);clear hx;simp only[Nat.zero_mul,Nat.add_zero] at a1 a2;go_wp2_with (first|(go_at_call 237;refine(kE _ _).mono ?_;rintro e w' ⟨rfl,rfl⟩;rw[h1])|(go_at_call 268;refine(rJ _ _).mono ?_;rintro e w' ⟨rfl,rfl⟩;rw[h2]));go_quiet (fail);go_wp2;exact⟨⟨1,by omega,by go_num,HS2,fJ qBq _⟩,mI⟩
  | succ m=>
   obtain⟨bx',ox',he,g2⟩:=hx m oM;simp only[Option.some.injEq,Addr.mk.injEq,and_true] at he;obtain⟨rfl,rfl⟩:=he;obtain⟨l',hl'⟩:∃l',l'=xs.getD m default:=⟨_,rfl⟩
   rw[←hl'] at g2;have HL':Hid (l'=xs.getD m default):=hl';clear hl' hx;obtain⟨a3,a4⟩:=fV hbl g2;have hw1:IntKind.i64.wrap (((m+1:Nat):Int)-1)=(m:Int):=by rw[IntKind.wrap_i64];omega
   have hw2:(((m+1:Nat):Int)-1)=(m:Int):=oM;have hw3:IntKind.i64.wrap (m:Int)=(m:Int):=kD oM oM;have e1:((m+1:Nat):Int)<n:=oM;have e2:(m:Int)<n:=oM;have e3:(0:Int)≤m:=oM;have e4:(0:Int)<((m+1:Nat):Int):=oM;have e5:(0:Int)≤((m+1:Nat):Int):=oM;have HFa:Hid (l.con≤l'.con→mrkF xs=1):=fun h=>HH.out (m+1) 1 hlt HS.out (fA5 hok.out (by rw[←HL.out,←HL'.out];exact h)) oM
   have HRi:Hid (l'.con<l.con→fC (pF xs) (m+1+1)=0):=fun h=>fE HS.out (fA6 hok.out (by rw[←HL.out,←HL'.out];exact h))
   clear hok;obtain⟨ii,hii⟩:∃ii:Nat,ii=m+1:=⟨_,rfl⟩
   have HII:Hid (ii=m+1):=hii;rw[←hii] at a1 a2 hw1 hw2 e1 e4 e5 HRi ⊢;clear hii HS;have e6:decide (0<ii)=true:=decide_eq_true (by have:=HII.out;omega);by_cases hle:l.con≤l'.con
   ·have HC:=HFa.out hle;go_wp2_with (first|(go_at_call 237;refine(kE _ _).mono ?_;rintro e w' ⟨rfl,rfl⟩;rw[h1])|(go_at_call 268;refine(rJ _ _).mono ?_;rintro e w' ⟨rfl,rfl⟩;rw[h2]));go_quiet (fail);go_wp2;go_ret;exact⟨by rw[HC];rfl,fJ qBq _⟩
   have HS2:Hid (fC (pF xs) (ii+1)=0):=HRi.out oM;go_wp2_with (first|(go_at_call 237;refine(kE _ _).mono ?_;rintro e w' ⟨rfl,rfl⟩;rw[h1])|(go_at_call 268;refine(rJ _ _).mono ?_;rintro e w' ⟨rfl,rfl⟩;rw[h2]));go_quiet (fail);go_wp2;exact⟨⟨ii+1,by omega,by go_num,HS2,fJ qBq _⟩,mI⟩
 have hkn:k=n:=oM;subst hkn;have HC:=HE.out HS.out;go_wp2;go_ret;exact⟨by rw[HC];rfl,qBq⟩
theorem fE1 (x:Value) (d:Shd) (c:Int) (w:World) (hx:shdR.V w x d) (hn:d.done.length≤1048576) (hok:MrksOk d.done) :
  RI 89 #[x,.int .i64 c] w (.bool (gD c d.done !=0)):=by
 obtain⟨u1,u2,u3,u4,u5,rfl,h1,h2,h3,h4,h5⟩:=hx;have HV:Hid (bW w fun W=>RI 90 #[u4,.int .i64 c] W (.int .i64 (gD c d.done))):=fun W hW=>vU u4 _ c W (mrksR.below h4 hW) hn hok.rise
 obtain⟨a1,c1,rfl⟩:=gU h1;obtain⟨a2,c2,rfl⟩:=fT h2;obtain⟨a3,c3,rfl⟩:=gG h3;obtain⟨a4,c4,rfl⟩:=fT h4;obtain⟨a5,c5,rfl⟩:=gZ h5;clear h1 h2 h3 h4 h5 hok hn;generalize d.bals.length=n1 at *;generalize d.votes.length=n2 at *;generalize d.held.length=n3 at *;generalize d.done.length=n4 at *;generalize d.appl.length=n5 at *;generalize gD c d.done=f at *;go_enter Tryz.func89,Tryz.ntmps89;go_wp2_with (first|(go_at_call 90;refine(HV.out _ qBq).mono ?_;rintro e w1 ⟨rfl,hb1⟩));go_ret;exact⟨rfl,qBq⟩
def pU (d:Shd) (c:Int):Bool:=(gD c d.votes==1) && !(gD c d.done !=0)
theorem fEq (x:Value) (d:Shd) (c:Int) (w:World) (hx:shdR.V w x d) (hn:d.votes.length≤1048576∧d.done.length≤1048576) (hov:MrksOk d.votes) (hod:MrksOk d.done) :
  RI 304 #[x,.int .i64 c] w (.bool (pU d c)):=by
 have HD:Hid (bW w fun W=>RI 89 #[x,.int .i64 c] W (.bool (gD c d.done !=0))):=fun W hW=>fE1 x d c W (shdR.below hx hW) hn.2 hod
 obtain⟨u1,u2,u3,u4,u5,rfl,h1,h2,h3,h4,h5⟩:=hx;have HV:Hid (bW w fun W=>RI 90 #[u2,.int .i64 c] W (.int .i64 (gD c d.votes))):=fun W hW=>vU u2 _ c W (mrksR.below h2 hW) hn.1 hov.rise
 obtain⟨a1,c1,rfl⟩:=gU h1;obtain⟨a2,c2,rfl⟩:=fT h2;obtain⟨a3,c3,rfl⟩:=gG h3;obtain⟨a4,c4,rfl⟩:=fT h4;obtain⟨a5,c5,rfl⟩:=gZ h5;clear h1 h2 h3 h4 h5 hov hod hn;generalize d.bals.length=n1 at *;generalize d.votes.length=n2 at *;generalize d.held.length=n3 at *;generalize d.done.length=n4 at *;generalize d.appl.length=n5 at *;unfold pU;generalize gD c d.done=f at *;generalize gD c d.votes=g at *;by_cases hg:g=1
 ·
  have hg':(g==1)=true:=by simp[hg]
  rw[hg'];go_enter Tryz.func304,Tryz.ntmps304;go_wp2_with fail;refine(HV.out _ qBq).mono ?_;rintro e w1 ⟨rfl,hb1⟩;have hB1:=bT w hb1;have y0:w1.cell? ⟨w.heap.size,0,none⟩=some (.int .i64 d.idx):=cK hb1 sG;have y1:w1.cell? ⟨w.heap.size,1,none⟩=some (.slice a1 n1 c1):=cK hb1 sG;have y2:w1.cell? ⟨w.heap.size,2,none⟩=some (.slice a2 n2 c2):=cK hb1 sG;have y3:w1.cell? ⟨w.heap.size,3,none⟩=some (.slice a3 n3 c3):=cK hb1 sG;have y4:w1.cell? ⟨w.heap.size,4,none⟩=some (.slice a4 n4 c4):=cK hb1 sG;have y5:w1.cell? ⟨w.heap.size,5,none⟩=some (.slice a5 n5 c5):=cK hb1 sG;clear hb1;go_wp2_with (first|(go_at_call 89;refine(HD.out _ qBq).mono ?_;rintro e w2 ⟨rfl,hb2⟩));go_ret;exact⟨by simp,qBq⟩
 have hg':(g==1)=false:=by simp[hg]
 rw[hg'];go_enter Tryz.func304,Tryz.ntmps304;go_wp2_with (first|(go_at_call 90;refine(HV.out _ qBq).mono ?_;rintro e w1 ⟨rfl,hb1⟩));go_ret;exact⟨by simp,qBq⟩
end
section
theorem fQx {P:Program} {ops:Array Oper} {Q:Exit→Act→World→Prop} {md:Region.Mode} {S:World→Prop} {t:Nat} {i:Nat} {oi:Oper} {f:Nat} {listed:Array Bool} {a:Act} {w:World} (hi:ops[i]? = some oi) (hsel:Region.noSelect ops=true) (ht:ops[t]? = none)
  (hf:Region.free md ops listed i=true) (hr:(Region.ready md ops listed).contains i=true) (hQ:∀c a w,Q (.panic c) (a.put oi.dst undef) w→Q (.panic c) a w)
  (hwd:Region.wanted oi (yielded ops a.tmps)=false) (hS:S w)
  (h:gI P md ops Q S t f (listed.setIfInBounds i true) (a.put oi.dst undef) w):gI P md ops Q S t (f+1) listed a w:=
 yZ hi hsel ht hQ f listed a w (Region.free_spec hi hf) (by simpa using hr) (Or.inr ⟨hwd,rfl⟩) hS h
theorem sU {P:Program} {ops:Array Oper} {Q:Exit→Act→World→Prop} {md:Region.Mode} {S:World→Prop} {t:Nat} (i:Nat) {oi:Oper} {f:Nat} {listed:Array Bool} {a:Act} {w:World} (hi:ops[i]? = some oi) (hS:S w) (h:gI P md ops Q S t f (listed.setIfInBounds i true) (a.put oi.dst undef) w) (hb:(Region.noSelect ops&&(ops[t]?).isNone&&Region.free md ops listed i&&(Region.ready md ops listed).contains i)=true:=by kernel_rfl) (hQ:∀c a w,Q (.panic c) (a.put oi.dst undef) w→Q (.panic c) a w:=by exact fun _ _ _ h=>h) (hwd:Region.wanted oi (yielded ops a.tmps)=false:=by rfl):gI P md ops Q S t (f+1) listed a w:=by
 simp only[Bool.and_eq_true] at hb;exact fQx hi hb.1.1.1 (by simpa using hb.1.1.2) hb.1.2 hb.2 hQ hwd hS h
theorem sY {P:Program} {ops:Array Oper} {Q:Exit→Act→World→Prop} {md:Region.Mode} {S:World→Prop} {t:Nat} (i:Nat) {oi:Oper} {f:Nat} {listed:Array Bool} {a a':Act} {w:World} (h:gI P md ops Q S t f (listed.setIfInBounds i true) a' w) (hi:ops[i]? = some oi:=by rfl) (hS:S w:=by assumption) (hb:(Region.noSelect ops&&(ops[t]?).isNone&&Region.free md ops listed i&&(Region.ready md ops listed).contains i)=true:=by kernel_rfl) (hQ:∀c a w,Q (.panic c) (a.put oi.dst undef) w→Q (.panic c) a w:=by exact fun _ _ _ h=>h) (hwd:Region.wanted oi (yielded ops a.tmps)=false:=by rfl) (ha:a.put oi.dst undef=a':=by first|(simp only[jX];done)|(simp only[jX];rfl)|rfl):gI P md ops Q S t (f+1) listed a w:=sU i hi hS (by rw[ha];exact h) hb hQ hwd
end
section
variable [dQ Rw] [iH Rw] [dQ Bal] [iH Bal] [dQ Ledg] [iH Ledg] [dQ Leg] [iH Leg] [dQ Cont] [iH Cont] [dQ LedgR] [iH LedgR] [dQ OutcR] [iH OutcR] [dQ Mrk] [iH Mrk] [dQ Shd] [iH Shd] [dQ ShdR] [iH ShdR]
theorem fR4 (x:Value) (xs:List Int) (c:Int) (w:World) (hx:qN w x xs) :
  Calls Tryz.prog 197 #[x,.int .i64 c] w fun e w'=>e =.returned (.bool (decide (c ∈ xs)))∧w'=w:=by
 obtain⟨ax,cx,rfl,hcx,hmx,hx⟩:=hx;unfold maxLen at hmx;have HT:Hid (∀k,k<xs.length→xs.getD k 0=c→decide (c ∈ xs)=true):=fun k hk h=>decide_eq_true (by rw[←h];simp[List.getD,hk])
 have HS0:Hid (∀k,k<xs.length→¬c ∈ xs.take k→¬xs.getD k 0=c→¬c ∈ xs.take (k+1)):=fun k hk h1 h2=>by
  rw[List.take_add_one];intro h;rw[List.mem_append] at h;rcases h with h|h
  ·exact h1 h
  simp[hk] at h;exact h2 (by simp[List.getD,hk,h])
 have HE:Hid (¬c ∈ xs.take xs.length→decide (c ∈ xs)=false):=fun h=>decide_eq_false (by rw[List.take_length] at h;exact h)
 generalize hn':xs.length=n at *;clear hn';go_enter Tryz.func197,Tryz.ntmps197;go_wp2;go_loopw [5] (fun i w'=>∃k:Nat,k≤n∧i =.int .i64 k∧Hid (¬c ∈ xs.take k)∧Hid (w'=w)) (fun i _=>n-(intOf i).toNat)
 case atStart=>exact⟨0,oM,rfl,by show ¬c ∈ xs.take 0;simp,rfl⟩
 obtain⟨k,hk,rfl,HS,HW⟩:=hrel;by_cases hlt:k<n
 ·
  obtain⟨bx,ox,rfl,g1⟩:=hx k hlt;have h1:=HT.out k hlt;have h2:=HS0.out k hlt HS.out;generalize xs.getD k 0=q at *;have H1:Hid (q=c→decide (c ∈ xs)=true):=h1;have H2:Hid (¬q=c→¬c ∈ xs.take (k+1)):=h2;clear hx h1 h2;rw[←HW.out] at g1;by_cases he:q=c
  ·
   have HC:=H1.out he;have he':(q==c)=true:=by simp[he]
   clear H1 HS H2;go_wp2;go_ret;exact⟨by rw[HC];rfl,HW.out⟩
  have HC:Hid _:=H2.out he;have he':(q==c)=false:=by simp[he]
  clear H1 HS H2;go_wp2;exact⟨⟨k+1,by omega,by go_num,HC,HW⟩,mI⟩
 have hkn:k=n:=oM;subst hkn;have HC:=HE.out HS.out;go_wp2;go_ret;exact⟨by rw[HC];rfl,HW.out⟩
theorem fOd {w:World} {a:Option Addr} {n c k:Nat} {xs:List Int} (hx:qN w (.slice a n c) xs) (hk:k≤n):qN w (.slice a k c) (xs.take k):=by
 obtain⟨a',c',e,h1,h2,h3⟩:=hx;simp only[Value.slice.injEq] at e;obtain⟨rfl,rfl,rfl⟩:=e;refine⟨a,c,by rw[List.length_take,Nat.min_eq_left hk],by rw[List.length_take];omega,h2,fun i hi=>?_⟩;rw[List.length_take] at hi;obtain⟨b,o,e,hc⟩:=h3 i oM;refine⟨b,o,e,?_⟩;rw[hc];simp[List.getD,List.getElem?_take,show i<k by omega]
theorem fD6 (x:Value) (d:Shd) (w:World) (hx:shdR.V w x d) :
  RI 260 #[x] w (.bool (vD d.done d.appl)):=by
 obtain⟨u1,u2,u3,u4,u5,rfl,h1,h2,h3,h4,h5⟩:=hx;obtain⟨idx,bs,vs,hs,ds,as_⟩:=d;dsimp only at h1 h2 h3 h4 h5 ⊢;have HFi:Hid (∀W c,Below w.heap.size w W→RI 25 #[u4,.int .i64 c] W (.int .i64 (gD c ds))):=fun W c hW=>vP u4 ds c W (mrksR.below h4 hW)
 obtain⟨a1,c1,rfl⟩:=gU h1;obtain⟨a2,c2,rfl⟩:=fT h2;obtain⟨a3,c3,rfl⟩:=gG h3;obtain⟨a4,c4,rfl,hc4,hm4,hx4⟩:=h4;have HIV:Hid (∀W k,Below w.heap.size w W→k≤as_.length→∀a c,u5 =.slice a as_.length c→qN W (.slice a k c) (as_.take k)):=fun W k hW hk a c e=>fOd (yP (by rw[←e];exact h5) hW) hk
 obtain⟨a5,c5,rfl,hc5,hm5,hx5⟩:=h5;unfold maxLen at hm4 hm5;have HHa:Hid (∀W k c,Below w.heap.size w W→k≤as_.length→Calls Tryz.prog 197 #[.slice a5 k c5,.int .i64 c] W fun e w'=>e =.returned (.bool (decide (c ∈ as_.take k)))∧w'=W):=fun W k c hW hk=>fR4 _ _ c W (HIV.out W k hW hk a5 c5 rfl)
 have HX5:Hid (∀i,i<as_.length→∃b o,a5=some ⟨b,o,none⟩∧w.cell? ⟨b,o+i,none⟩=some (.int .i64 (as_.getD i 0))):=hx5;have HDs:Hid (∀k,k<ds.length→gW (ds.take (k+1))=if (ds.getD k default).val=1 then gW (ds.take k)++[(ds.getD k default).con] else gW (ds.take k)):=fun k hk=>fEs hk
 have HDe:Hid (gW (ds.take ds.length)=gW ds):=by show _=_;rw[List.take_length]
 have HDl:Hid (∀k,(gW (ds.take k)).length≤k):=fun k=>Nat.le_trans (fM7 _) (by rw[List.length_take];omega)
 have HB1:Hid (∀k,k<as_.length→¬gD (as_.getD k 0) ds=1→vD ds as_=false):=fun k hk h=>by unfold vD;exact decide_eq_false (fun h2=>h (h2.2 k hk).1)
 have HB2:Hid (∀k,k<as_.length→as_.getD k 0 ∈ as_.take k→vD ds as_=false):=fun k hk h=>by unfold vD;exact decide_eq_false (fun h2=>(h2.2 k hk).2 h)
 have HOk:Hid ((∀k,k<as_.length→gD (as_.getD k 0) ds=1∧¬as_.getD k 0 ∈ as_.take k)→vD ds as_=decide ((gW ds).length=as_.length)):=fun h=>by unfold vD;rw[decide_eq_decide];exact⟨fun h2=>h2.1,fun h2=>⟨h2,h⟩⟩
 clear h1 h2 h3 hx5 HIV;generalize bs.length=n1 at *;generalize vs.length=n2 at *;generalize hs.length=n3 at *;generalize hn4:ds.length=n4 at *;generalize hn5:as_.length=n5 at *;clear hn4 hn5;go_enter Tryz.func260,Tryz.ntmps260;go_wp2;go_loopw [3,4] (fun q i w'=>∃k m:Nat,k≤n4∧q =.int .i64 m∧i =.int .i64 k∧Hid ((gW (ds.take k)).length=m)∧(w'.cell? ⟨w.heap.size,4,none⟩=some (.slice a4 n4 c4)∧w'.cell? ⟨w.heap.size,5,none⟩=some (.slice a5 n5 c5))∧Below w.heap.size w w') (fun q i _=>n4-(intOf i).toNat)
 case atStart=>exact⟨0,0,Nat.zero_le _,rfl,rfl,by show(gW (ds.take 0)).length=0;simp[gW],sG,qBq⟩
 obtain⟨k,m,hk,rfl,rfl,HM,⟨y4,y5⟩,hbl⟩:=hrel;have zq:w.heap.size<wr.heap.size:=wL wr _ y4;by_cases hlt:k<n4
 ·
  obtain⟨bx,ox,rfl,g1⟩:=hx4 k hlt;have h1:=HDs.out k hlt;have hl:=HDl.out k;obtain⟨l,hl'⟩:∃l,l=ds.getD k default:=⟨_,rfl⟩
  rw[←hl'] at g1 h1;have H1:Hid (gW (ds.take (k+1))=if l.val=1 then gW (ds.take k)++[l.con] else gW (ds.take k)):=h1;clear hl' h1 hx4;obtain⟨g2,g3⟩:=fV hbl g1;have hmk:m≤k:=by rw[←HM.out];exact hl
  by_cases he:l.val=1
  ·
   have he':(l.val==1)=true:=by simp[he]
   have HC:Hid ((gW (ds.take (k+1))).length=m+1):=by show _=_;rw[H1.out,if_pos he,List.length_append,HM.out];rfl
   clear H1 HM hl;rw[he] at g3;go_wp2;exact⟨⟨k+1,m+1,by omega,by go_num,by go_num,HC,⟨y4,y5⟩,qBq⟩,mI⟩
  have he':(l.val==1)=false:=by simp[he]
  have HC:Hid ((gW (ds.take (k+1))).length=m):=by show _=_;rw[H1.out,if_neg he,HM.out]
  clear H1 HM hl;go_wp2;exact⟨⟨k+1,m,by omega,rfl,by go_num,HC,⟨y4,y5⟩,qBq⟩,mI⟩
 have hkn:k=n4:=oM;subst hkn;have HMm:Hid ((gW ds).length=m):=by show _=_;rw[←HDe.out];exact HM.out
 clear HM hx4 HDs HDl HDe;go_wp2;obtain⟨w2,hw2⟩:∃w2,w2=wr:=⟨_,rfl⟩
 rw[←hw2] at hbl y4 y5 zq ⊢;clear hw2;go_loopw [5] (fun i w'=>∃j:Nat,j≤n5∧i =.int .i64 j∧Hid (∀i,i<j→gD (as_.getD i 0) ds=1∧¬as_.getD i 0 ∈ as_.take i)∧Below w2.heap.size w2 w') (fun i _=>n5-(intOf i).toNat)
 case atStart=>exact⟨0,oM,rfl,fun i hi=>absurd hi oM,bR _ _⟩
 rename_i wq;obtain⟨j,hj,rfl,HA,hb2⟩:=hrel;replace y4:=cK hb2 y4;replace y5:=cK hb2 y5;have hBr:Below w.heap.size w wr:=bS hbl hb2;have zq2:w.heap.size<wr.heap.size:=wL wr _ y4;by_cases hlt2:j<n5
 ·
  obtain⟨bx,ox,rfl,g1⟩:=HX5.out j hlt2;have h1:=HB1.out j hlt2;have h2:=HB2.out j hlt2;have h3:Hid (gD (as_.getD j 0) ds=1→¬as_.getD j 0 ∈ as_.take j→∀i,i<j+1→gD (as_.getD i 0) ds=1∧¬as_.getD i 0 ∈ as_.take i):=fun q1 q2 i hi=>by
   by_cases e:i=j
   ·rw[e];exact⟨q1,q2⟩
   exact HA.out i oM
  replace g1:=cK hBr g1;generalize as_.getD j 0=q at *;have H1:Hid (¬gD q ds=1→vD ds as_=false):=h1;have H2:Hid (q ∈ as_.take j→vD ds as_=false):=h2;clear h1 h2;have k1:(j:Int)<n5:=oM;have k2:(0:Int)≤j:=oM;have k3:(j:Int)≤n5:=oM;have k4:(j:Int)≤c5:=oM;have HFq:Hid (bW wr fun W=>RI 25 #[.slice a4 k c4,.int .i64 q] W (.int .i64 (gD q ds))):=fun W hW=>HFi.out W q (bS hBr hW)
  have HHq:Hid (bW wr fun W=>Calls Tryz.prog 197 #[.slice (some ⟨bx,ox,none⟩) j c5,.int .i64 q] W fun e w'=>e =.returned (.bool (decide (q ∈ as_.take j)))∧w'=W):=fun W hW=>HHa.out W j q (bS hBr hW) oM
  generalize gD q ds=f at *;by_cases hf:f=1
  ·
   have hf':(f !=1)=false:=by simp[hf]
   rw[hf] at HFq h3;clear H1 hf hf';cases hin:decide (q ∈ as_.take j)
   ·
    have HA2:Hid (∀i,i<j+1→gD (as_.getD i 0) ds=1∧¬as_.getD i 0 ∈ as_.take i):=h3.out rfl (of_decide_eq_false hin);rw[hin] at HHq;clear hin H2 h3;go_wp2;refine wp_region_noPanic ?_;refine fB (fun W=>Below wr.heap.size wr W∧W.cell? ⟨w.heap.size,4,none⟩=some (.slice a4 k c4)∧W.cell? ⟨w.heap.size,5,none⟩=some (.slice (some ⟨bx,ox,none⟩) n5 c5)∧W.cell? ⟨bx,ox+j,none⟩=some (.int .i64 q)) 21 kF ⟨qBq,cK qBq y4,cK qBq y5,cK qBq g1⟩ (fun hS=>?_);refine tX 0 ?_;refine tX 1 ?_;refine tX 2 ?_;refine tX 3 ?_;refine tX 4 ?_;refine tX 5 ?_;refine tX 6 ?_;refine uS 7 rfl (fun K hK=>?_);go_simp;refine(HFq.out _ hS.1).mono ?_;rintro e wz ⟨rfl,hbz⟩;have hbz':Below wr.heap.size wr wz:=bS hS.1 hbz;have hS3:=And.intro hbz' (kS3 hbz hS.2);refine hK _ _ (fun _=>hS3) ?_;clear hK K hS hbz;have hS:=hS3;clear hS3;try simp only[jX]
    refine tX 8 (v:=(.bool false)) ?_;refine tX 9 (v:=(.bool false)) ?_;refine tX 10 ?_;refine tX 11 ?_;refine tX 12 ?_;refine tX 13 ?_;refine tX 14 ?_;refine tX 15 ?_;refine tX 16 ?_;refine tX 17 ?_;refine tX 18 ?_;refine uS 19 rfl (fun K hK=>?_);go_simp;refine(HHq.out _ hS.1).mono ?_;rintro e wy ⟨rfl,hwy⟩;obtain rfl:=hwy.symm;refine hK _ _ (fun _=>hS) ?_;clear hK K hwy;try simp only[jX]
    refine tX 20 (v:=(.bool false)) ?_;refine dP ?_;go_wp2;exact⟨⟨j+1,by omega,by go_num,HA2,bS hb2 hS.1⟩,mI⟩
   have HC:=H2.out (of_decide_eq_true hin);rw[hin] at HHq;clear hin H2 h3;go_wp2;refine wp_region_noPanic ?_;refine fB (fun W=>Below wr.heap.size wr W∧W.cell? ⟨w.heap.size,4,none⟩=some (.slice a4 k c4)∧W.cell? ⟨w.heap.size,5,none⟩=some (.slice (some ⟨bx,ox,none⟩) n5 c5)∧W.cell? ⟨bx,ox+j,none⟩=some (.int .i64 q)) 21 kF ⟨qBq,cK qBq y4,cK qBq y5,cK qBq g1⟩ (fun hS=>?_);refine tX 0 ?_;refine tX 1 ?_;refine tX 2 ?_;refine tX 3 ?_;refine tX 4 ?_;refine tX 5 ?_;refine tX 6 ?_;refine uS 7 rfl (fun K hK=>?_);go_simp;refine(HFq.out _ hS.1).mono ?_;rintro e wz ⟨rfl,hbz⟩;have hbz':Below wr.heap.size wr wz:=bS hS.1 hbz;have hS3:=And.intro hbz' (kS3 hbz hS.2);refine hK _ _ (fun _=>hS3) ?_;clear hK K hS hbz;have hS:=hS3;clear hS3;try simp only[jX]
   refine tX 8 (v:=(.bool false)) ?_;refine tX 9 (v:=(.bool false)) ?_;refine tX 10 ?_;refine tX 11 ?_;refine tX 12 ?_;refine tX 13 ?_;refine tX 14 ?_;refine tX 15 ?_;refine tX 16 ?_;refine tX 17 ?_;refine tX 18 ?_;refine uS 19 rfl (fun K hK=>?_);go_simp;refine(HHq.out _ hS.1).mono ?_;rintro e wy ⟨rfl,hwy⟩;obtain rfl:=hwy.symm;refine hK _ _ (fun _=>hS) ?_;clear hK K hwy;try simp only[jX]
   refine tX 20 (v:=(.bool true)) ?_;refine dP ?_;go_wp2;go_ret;exact⟨by rw[HC];rfl,bS hBr hS.1⟩
  have HC:=H1.out hf;have hf':(f !=1)=true:=by simp[hf]
  clear H1 H2 h3 hf HHq;go_wp2;refine wp_region_noPanic ?_;refine fB (fun W=>Below wr.heap.size wr W∧W.cell? ⟨w.heap.size,4,none⟩=some (.slice a4 k c4)∧W.cell? ⟨w.heap.size,5,none⟩=some (.slice (some ⟨bx,ox,none⟩) n5 c5)∧W.cell? ⟨bx,ox+j,none⟩=some (.int .i64 q)) 21 kF ⟨qBq,cK qBq y4,cK qBq y5,cK qBq g1⟩ (fun hS=>?_);refine tX 0 ?_;refine tX 1 ?_;refine tX 2 ?_;refine tX 3 ?_;refine tX 4 ?_;refine tX 5 ?_;refine tX 6 ?_;refine uS 7 rfl (fun K hK=>?_);go_simp;refine(HFq.out _ hS.1).mono ?_;rintro e wz ⟨rfl,hbz⟩;have hbz':Below wr.heap.size wr wz:=bS hS.1 hbz;have hS3:=And.intro hbz' (kS3 hbz hS.2);refine hK _ _ (fun _=>hS3) ?_;clear hK K hS hbz;have hS:=hS3;clear hS3;try simp only[jX]
  refine tX 8 (v:=(.bool true)) ?_;refine tX 9 (v:=(.bool true)) ?_;refine sY 10 ?_;refine sY 11 ?_;refine sY 12 ?_;refine sY 13 ?_;refine sY 14 ?_;refine sY 15 ?_;refine sY 16 ?_;refine sY 17 ?_;refine sY 18 ?_;refine sY 19 ?_;refine tX 20 (v:=(.bool true)) ?_;refine dP ?_;go_wp2;go_ret;exact⟨by rw[HC];rfl,bS hBr hS.1⟩
 have hjn:j=n5:=oM;subst hjn;have HC:=HOk.out HA.out;rw[HMm.out] at HC;have hcmp:((m:Int)==(j:Int))=decide (m=j):=by rw[Bool.eq_iff_iff];simp;omega
 rw[←hcmp] at HC;clear hcmp;go_wp2;go_ret;exact⟨by rw[HC];rfl,qBq⟩
end
end Go.Proofs.YtbfnobcidnmohaaGreat

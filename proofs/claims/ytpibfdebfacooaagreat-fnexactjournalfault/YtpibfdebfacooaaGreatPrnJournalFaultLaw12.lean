import Derived.Test.YtpibfdebfacooaaGreatPrnJournalFaultLaw11
import Derived.WideKeyEntry
set_option maxHeartbeats 2000000
set_option maxRecDepth 100000
set_option linter.unusedSectionVars false
set_option linter.unusedSimpArgs false
set_option linter.unusedVariables false
namespace Go.Proofs.YtpibfdebfacooaaGreat
open Go.RowKit
attribute [local go_sem ↓] Go.wp_at_zero Go.wp_at_succ
section
variable [dQ Bal] [iH Bal] [dQ Ledg] [iH Ledg] [dQ Leg] [iH Leg]
def pQ (a t v:Int) (st:List Bal × Bool) (b:Bal):List Bal × Bool:=
 if b.ac=a∧b.ast=t then st else if st.2=false∧a*3+t<b.ac*3+b.ast then (st.1++[⟨a,t,v⟩]++[b],true) else (st.1++[b],st.2)
def rJ (a t v:Int) (xs:List Bal) (k:Nat):List Bal × Bool:=(xs.take k).foldl (pQ a t v) ([],decide (v=0))
def setB (a t v:Int) (xs:List Bal):List Bal:=if (rJ a t v xs xs.length).2 then (rJ a t v xs xs.length).1 else (rJ a t v xs xs.length).1++[⟨a,t,v⟩]
theorem fAt (a t v:Int) (xs:List Bal) {k:Nat} (h:k<xs.length):rJ a t v xs (k+1)=pQ a t v (rJ a t v xs k) (xs.getD k default):=by
 unfold rJ;rw[fK9 xs k h,List.foldl_append];rfl
theorem fFx (a t v:Int) (xs:List Bal):∀k,k≤xs.length→(rJ a t v xs k).1.length≤2*k
 | 0,_=>by simp[rJ]
 | k+1,h=>by
  have ih:=fFx a t v xs k oM;rw[fAt a t v xs oM];unfold pQ;split
  ·omega
  split
  ·simp only[List.length_append,List.length_cons,List.length_nil];omega
  simp only[List.length_append,List.length_cons,List.length_nil];omega
theorem uL (ys:List Bal) (x:Bal):kT (ys++[x])=kT ys++balC x:=by simp[kT]
theorem xR (x:Bal):∀u ∈ balC x,u.oneCell'=true:=by
 intro u hu;simp only[balC,List.mem_cons,List.not_mem_nil,or_false] at hu;rcases hu with rfl|rfl|rfl <;> rfl
theorem uK {w:World} {b o:Nat} {x:Bal} (h:rO w b o x):∀j u,(balC x)[j]? = some u→w.cell? ((⟨b,o,none⟩:Addr).add j)=some u:=by
 obtain⟨h0,h1,h2⟩:=h;intro j u hj;match j,hj with
 | 0,hj=>simp[balC] at hj;subst hj;simpa [Addr.add] using h0
 | 1,hj=>simp[balC] at hj;subst hj;simpa [Addr.add] using h1
 | 2,hj=>simp[balC] at hj;subst hj;simpa [Addr.add] using h2
 | j+3,hj=>simp[balC] at hj
theorem fOh (x:Value) (xs:List Bal) (a t v:Int) (w:World) (hx:balsR.V w x xs) (hn:xs.length≤1000000) (hk:qJ a t=true) (hks:∀k,k<xs.length→qJ (xs.getD k default).ac (xs.getD k default).ast=true) :
  Calls Tryz.prog 185 #[x,.int .i64 a,.int .i64 t,.int .i64 v] w fun e w'=>∃u F,e =.returned u∧balsR.O w' w.heap.size F u (setB a t v xs)∧Below w.heap.size w w':=by
 obtain⟨ax,cx,rfl,hcx,hmx,hx⟩:=hx;unfold maxLen at hmx;obtain⟨i0,hi,hz0,hz1,hz2⟩:=info_parts yP;have HKS:Hid (∀k,k<xs.length→qJ (xs.getD k default).ac (xs.getD k default).ast=true):=hks;obtain⟨⟨q1,q2⟩,q3,q4⟩:=keyOk_iff.1 hk;clear hks hk;generalize hn':xs.length=n at *;have HN:Hid (xs.length=n):=hn';clear hn';have v1:IntKind.i64.wrap (a*3)=a*3:=qB oM oM;have v2:IntKind.i64.wrap (a*3+t)=a*3+t:=qB oM oM;have hd0:(v==0)=decide (v=0):=by by_cases h:v=0 <;> simp[h]
 go_enter Tryz.func185,Tryz.ntmps185;go_wp2;go_loopw [9,10,11] (fun u d i w'=>∃k:Nat,k≤n∧i =.int .i64 k∧d =.bool (rJ a t v xs k).2∧w'.ownsRow w.heap.size 103 3 u (rJ a t v xs k).1.length (kT (rJ a t v xs k).1)∧Below w.heap.size w w') (fun _ _ i _=>n-(intOf i).toNat)
 case atStart=>
  refine⟨0,oM,rfl,by simp[rJ],?_,qBq⟩;have:=World.ownsRow_lit (base:=w.heap.size) (e:=103) (size:=3) w #[] 0 (by simp) (by unfold maxLen;omega) rfl;simpa [rJ,kT] using this
 obtain⟨k,hk,rfl,rfl,ho,hbl⟩:=hrel;have hle:=fFx a t v xs k (by rw[HN.out];exact hk);by_cases hlt:k<n
 ·
  obtain⟨bx,ox,rfl,g1⟩:=hx k hlt;have HST:Hid (rJ a t v xs (k+1)=pQ a t v (rJ a t v xs k) (xs.getD k default)):=fAt a t v xs (by rw[HN.out];exact hlt);have hkk:=HKS.out k hlt;obtain⟨l,hl⟩:∃l,l=xs.getD k default:=⟨_,rfl⟩
  rw[←hl] at g1 HST hkk;clear hl hx;obtain⟨⟨p1,p2⟩,p3,p4⟩:=keyOk_iff.1 hkk;obtain⟨st,hst⟩:∃st,st=rJ a t v xs k:=⟨_,rfl⟩
  rw[←hst] at ho HST hle ⊢;clear hst;obtain⟨ys,dn⟩:=st;dsimp only at ho hle ⊢;obtain⟨a1,a2,a3⟩:=gY hbl g1;have v3:IntKind.i64.wrap (l.ac*3)=l.ac*3:=qB oM oM;have v4:IntKind.i64.wrap (l.ac*3+l.ast)=l.ac*3+l.ast:=qB oM oM;have hws:=hbl.size;by_cases hm:l.ac=a∧l.ast=t
  ·
   have HE:Hid (rJ a t v xs (k+1)=(ys,dn)):=by show _=_;rw[HST.out,pQ,if_pos hm]
   have m1:(l.ac==a)=true:=by simpa using hm.1
   have m2:(l.ast==t)=true:=by simpa using hm.2
   clear hm;go_wp2;refine⟨⟨k+1,by omega,by go_num,?_,?_,qBq⟩,mI⟩
   ·rw[HE.out]
   rw[HE.out];exact ho.alloc _
  have hm2:(l.ac==a&&l.ast==t)=false:=by simp;intro e1 e2;exact hm ⟨e1,e2⟩
  by_cases hins:dn=false∧a*3+t<l.ac*3+l.ast
  ·
   obtain⟨rfl,hins⟩:=hins;have HE:Hid (rJ a t v xs (k+1)=(ys++[⟨a,t,v⟩]++[l],true)):=by show _=_;rw[HST.out,pQ,if_neg hm,if_pos ⟨rfl,hins⟩]
   obtain⟨nw,hnw⟩:∃nw:Bal,nw=⟨a,t,v⟩:=⟨_,rfl⟩
   rw[←hnw] at HE;have n1:nw.ac=a:=by rw[hnw]
   have n2:nw.ast=t:=by rw[hnw]
   have n3:nw.am=v:=by rw[hnw]
   clear hnw HST hm;cases e1:(l.ac==a);all_goals (try (have e2:(l.ast==t)=false:=by(simpa [e1] using hm2)))
   all_goals
    go_wp2_with (at_builtin;refine wpList_append_own _ rfl _ _ 30 rfl w.heap.size 103 i0 _ 3 24 Tryz.underlying30 hi hz0 hz1 hz2 rfl (by decide) _ _ _ rfl ((ho.alloc _).alloc _) ⟨wr.heap.size+1,0,none⟩ 1 1 (balC nw) rfl rfl ?c1 (xR nw) ?c3 ?c4 ?c5 ?_)
    case c1=>
     intro j u hj;first
     | exact hj
     | (refine uK (b:=wr.heap.size+1) (o:=0) ?_ j u hj;exact⟨by simp[go_sem,n1],by simp[go_sem,n2],by simp[go_sem,n3]⟩)
    case c3=>unfold maxLen;omega
    case c4=>omega
    case c5=>first|omega|(simp;omega)
    intro v' w1 hown' hgrow _;have hB1:Below w.heap.size w w1:=qU ((ho.alloc _).alloc _) (bA (bA hbl _) _) (by simp;omega) (Nat.le_refl _) hgrow;have hne:∀u,some wr.heap.size≠Value.ownBlock u∨True:=fun _=>.inr trivial
    clear hne;have hbx:rO w1 wr.heap.size 0 l:=by
     have hq:∀o z,((wr.alloc (.cells #[.int .i64 l.ac,.int .i64 l.ast,.int .i64 l.am] 103)).alloc (.cells #[.int .i64 a,.int .i64 t,.int .i64 v] 103)).cell? ⟨wr.heap.size,o,none⟩=some z→w1.cell? ⟨wr.heap.size,o,none⟩=some z:=by
      intro o z hz;refine hgrow.cell hz ?_;intro h;have:=ho.lt _ h.symm;simp at this
     exact⟨hq _ _ sG,hq _ _ sG,hq _ _ sG⟩
    rw[←List.length_singleton (a:=nw),←List.length_append,←uL] at hown';obtain⟨b1,b2,b3⟩:=hbx;have hwz:=wL _ _ b1;have hws1:=hB1.size;clear hgrow ho a1 a2 a3;simp only[Nat.zero_add] at b2 b3;go_wp2_with (at_builtin;refine wpList_append_own _ rfl _ _ 30 rfl w.heap.size 103 i0 _ 3 24 Tryz.underlying30 hi hz0 hz1 hz2 rfl (by decide) _ _ _ rfl (hown'.alloc _) ⟨w1.heap.size,0,none⟩ 1 1 (balC l) rfl rfl ?c1 (xR l) ?c3 ?c4 ?c5 ?_)
    case c1=>
     intro j u hj;first
     | exact hj
     | (refine uK (b:=w1.heap.size) (o:=0) ?_ j u hj;exact⟨sG,by simp[go_sem],sG⟩)
    case c3=>unfold maxLen;first|omega|(simp;omega)
    case c4=>first|omega|(simp;omega)
    case c5=>first|omega|(simp;omega)
    intro v2 w2 hown2 hgrow2 _;have hB2:Below w.heap.size w w2:=qU (hown'.alloc _) (bA hB1 _) (by simp;omega) (Nat.le_refl _) hgrow2;clear hgrow2 hown' b1 b2 b3;go_wp2;refine⟨⟨k+1,by omega,by go_num,?_,?_,hB2⟩,mI⟩
    ·rw[HE.out]
    rw[HE.out];rw[uL,List.length_append,List.length_append];exact hown2
  have HE:Hid (rJ a t v xs (k+1)=(ys++[l],dn)):=by show _=_;rw[HST.out,pQ,if_neg hm,if_neg hins]
  clear HST hm;have hcase:dn=true∨(dn=false∧¬a*3+t<l.ac*3+l.ast):=by
   cases dn
   ·exact .inr ⟨rfl,fun h=>hins ⟨rfl,h⟩⟩
   exact .inl rfl
  clear hins;rcases hcase with rfl|⟨rfl,hins⟩
  all_goals
   cases e1:(l.ac==a);all_goals (try (have e2:(l.ast==t)=false:=by(simpa [e1] using hm2)))
   all_goals
    go_wp2_with (at_builtin;refine wpList_append_own _ rfl _ _ 30 rfl w.heap.size 103 i0 _ 3 24 Tryz.underlying30 hi hz0 hz1 hz2 rfl (by decide) _ _ _ rfl ((ho.alloc _).alloc _) ⟨wr.heap.size+1,0,none⟩ 1 1 (balC l) rfl rfl ?c1 (xR l) ?c3 ?c4 ?c5 ?_)
    case c1=>
     intro j u hj;first
     | exact hj
     | (refine uK (b:=wr.heap.size+1) (o:=0) ?_ j u hj;exact⟨sG,by simp[go_sem],sG⟩)
    case c3=>unfold maxLen;omega
    case c4=>omega
    case c5=>first|omega|(simp;omega)
    intro v' w1 hown' hgrow _;have hB1:Below w.heap.size w w1:=qU ((ho.alloc _).alloc _) (bA (bA hbl _) _) (by simp;omega) (Nat.le_refl _) hgrow;clear hgrow ho a1 a2 a3;go_wp2;refine⟨⟨k+1,by omega,by go_num,?_,?_,hB1⟩,mI⟩
    ·rw[HE.out]
    rw[HE.out];rw[uL,List.length_append];exact hown'
 have hkn:k=n:=oM;subst hkn;have HSB:Hid (setB a t v xs=if (rJ a t v xs k).2 then (rJ a t v xs k).1 else (rJ a t v xs k).1++[⟨a,t,v⟩]):=by show _=_;unfold setB;rw[HN.out]
 obtain⟨st,hst⟩:∃st,st=rJ a t v xs k:=⟨_,rfl⟩
 rw[←hst] at ho HSB hle ⊢;clear hst hx;obtain⟨ys,dn⟩:=st;dsimp only at ho hle HSB ⊢;have hws:=hbl.size;cases dn
 ·
  obtain⟨nw,hnw⟩:∃nw:Bal,nw=⟨a,t,v⟩:=⟨_,rfl⟩
  rw[←hnw] at HSB;have n1:nw.ac=a:=by rw[hnw]
  have n2:nw.ast=t:=by rw[hnw]
  have n3:nw.am=v:=by rw[hnw]
  clear hnw;go_wp2_with (at_builtin;refine wpList_append_own _ rfl _ _ 30 rfl w.heap.size 103 i0 _ 3 24 Tryz.underlying30 hi hz0 hz1 hz2 rfl (by decide) _ _ _ rfl (ho.alloc _) ⟨wr.heap.size,0,none⟩ 1 1 (balC nw) rfl rfl ?c1 (xR nw) ?c3 ?c4 ?c5 ?_)
  case c1=>
   intro j u hj;first
   | exact hj
   | (refine uK (b:=wr.heap.size) (o:=0) ?_ j u hj;exact⟨by simp[go_sem,n1],by simp[go_sem,n2],by simp[go_sem,n3]⟩)
  case c3=>unfold maxLen;omega
  case c4=>omega
  case c5=>first|omega|(simp;omega)
  intro v' w1 hown' hgrow _;have hB1:Below w.heap.size w w1:=qU (ho.alloc _) (bA hbl _) (by simp;omega) (Nat.le_refl _) hgrow;clear hgrow ho;go_wp2;go_ret;refine⟨_,_,rfl,⟨?_,rfl⟩,hB1⟩;rw[HSB.out];simp only[Bool.false_eq_true,if_false];rw[uL,List.length_append];exact hown'
 go_wp2;go_ret;refine⟨_,rfl,⟨_,?_,rfl⟩,hbl⟩;rw[HSB.out,if_pos trivial];exact ho
end
section
variable [dQ Bal] [iH Bal]
theorem rY {w:World} {v:Value} {xs:List Bal} (h:balsR.V w v xs):fV w v xs.length (kT xs):=by
 obtain⟨a,c,rfl,_,_,hc⟩:=h;cases a with
 | none=>
  have h0:xs=[]:=by
   cases xs with
   | nil=>rfl
   | cons x r=>obtain⟨b,o,e,_⟩:=hc 0 (by simp);cases e
  subst h0;exact .inl ⟨c,rfl,rfl,rfl⟩
 | some ad=>
  refine .inr ⟨ad,c,rfl,fun j x hj=>?_⟩;have hjl:j<xs.length*3:=by
   have:=(List.getElem?_eq_some_iff.1 hj).1;rw[qF] at this;exact this
  have hi:j / 3<xs.length:=oM;obtain⟨b,o,e,g0,g1,g2⟩:=hc (j / 3) hi;obtain⟨q0,q1,q2⟩:=fB0 xs (j / 3) hi;simp only[Option.some.injEq] at e;subst e;have hadd:(Addr.mk b o none).add j=⟨b,o+j,none⟩:=by
   by_cases h:j=0
   ·subst h;simp[Addr.add]
   simp[Addr.add,h]
  rw[hadd];have hm:j % 3=0∨j % 3=1∨j % 3=2:=oM;rcases hm with hm|hm|hm
  ·have e:j=j / 3*3:=oM;have e2:o+j=o+j / 3*3:=oM;rw[e2,g0];rw[e,q0] at hj;exact hj
  ·have e:j=j / 3*3+1:=oM;have e2:o+j=o+j / 3*3+1:=oM;rw[e2,g1];rw[e,q1] at hj;exact hj
  have e:j=j / 3*3+2:=oM;have e2:o+j=o+j / 3*3+2:=oM;rw[e2,g2];rw[e,q2] at hj;exact hj
end
section
variable [dQ Bal] [iH Bal] [dQ Ledg] [iH Ledg] [dQ Leg] [iH Leg] [dQ Cont] [iH Cont]
def vW (xs:List Bal) (l:Leg):List Bal:=setB l.ac l.ast (hasB l.ac l.ast xs+l.am) xs
def rX (xs:List Bal) (ls:List Leg) (k:Nat):List Bal:=(ls.take k).foldl vW xs
def addB (xs:List Bal) (ls:List Leg):List Bal:=ls.foldl vW xs
theorem fDn (xs:List Bal) (ls:List Leg) {k:Nat} (h:k<ls.length):rX xs ls (k+1)=vW (rX xs ls k) (ls.getD k default):=by
 unfold rX;rw[qM ls k h,List.foldl_append];rfl
theorem fNb (xs:List Bal) (ls:List Leg):rX xs ls ls.length=addB xs ls:=by unfold rX addB;rw[List.take_length]
structure AddOk (xs:List Bal) (ls:List Leg):Prop where
 len:∀k,k≤ls.length→(rX xs ls k).length≤1000000
 keys:∀k,k≤ls.length→∀j,j<(rX xs ls k).length→qJ ((rX xs ls k).getD j default).ac ((rX xs ls k).getD j default).ast=true
 leg:∀k,k<ls.length→qJ (ls.getD k default).ac (ls.getD k default).ast=true
 sum:∀k,k<ls.length → -9223372036854775808≤hasB (ls.getD k default).ac (ls.getD k default).ast (rX xs ls k)+(ls.getD k default).am∧hasB (ls.getD k default).ac (ls.getD k default).ast (rX xs ls k)+(ls.getD k default).am≤9223372036854775807
theorem fOg (x y:Value) (xs:List Bal) (ls:List Leg) (w:World) (hx:balsR.V w x xs) (hy:legsR.V w y ls) (hok:AddOk xs ls) :
  Calls Tryz.prog 158 #[x,y] w fun e w'=>∃u F,e =.returned u∧balsR.O w' w.heap.size F u (addB xs ls)∧Below w.heap.size w w':=by
 have hX:=hx;obtain⟨ax,cx,rfl⟩:=fM hx;obtain⟨ay,cy,rfl,hcy,hmy,hy⟩:=hy;unfold maxLen at hmy;obtain⟨i0,hi,hz0,hz1,hz2⟩:=info_parts yP;have HOK:Hid (AddOk xs ls):=hok;have hlen:xs.length≤1000000:=hok.len 0 (Nat.zero_le _);clear hok hx;generalize hn':ls.length=n at *;have HN:Hid (ls.length=n):=hn';clear hn';have hs0:fV (w.alloc (.cells #[] 103)) (.slice ax xs.length cx) xs.length (kT xs):=rY (balsR.below hX qBq);have ho0:=World.ownsRow_lit (base:=w.heap.size) (e:=103) (size:=3) w #[] 0 (by simp) (by unfold maxLen;omega) rfl;go_enter Tryz.func158,Tryz.ntmps158;go_wp2_with (at_builtin;refine rU _ rfl _ _ 30 rfl w.heap.size 103 i0 _ 3 24 Tryz.underlying30 hi hz0 hz1 hz2 rfl (by decide) _ _ _ rfl _ xs.length (kT xs) rfl ho0 hs0 ?c1 ?c2 ?c3 ?c4 ?c5 ?_)
 case c1=>rw[qF]
 case c2=>
  intro u hu;simp only[kT,List.mem_flatMap] at hu;obtain⟨b,_,hb⟩:=hu;exact xR b u hb
 case c3=>unfold maxLen;omega
 case c4=>omega
 intro v' w1 hown' hgrow hbel;have hB1:Below w.heap.size w w1:=hbel w qBq;have ho1:∃F,balsR.O w1 w.heap.size F v' xs:=⟨_,hown',rfl⟩
 clear hown' hgrow hbel hs0 ho0 hX;go_wp2;go_loopw [5,6] (fun u i w'=>∃k:Nat,k≤n∧i =.int .i64 k∧(∃F,balsR.O w' w.heap.size F u (rX xs ls k))∧Below w.heap.size w w') (fun _ i _=>n-(intOf i).toNat)
 case atStart=>exact⟨0,oM,rfl,by simpa [rX] using ho1,hB1⟩
 obtain⟨k,hk,rfl,⟨F,ho⟩,hbl⟩:=hrel;by_cases hlt:k<n
 ·
  obtain⟨bx,ox,rfl,g1⟩:=hy k hlt;have hkl:k<ls.length:=by rw[HN.out];exact hlt
  have HST:Hid (rX xs ls (k+1)=vW (rX xs ls k) (ls.getD k default)):=fDn xs ls hkl;have hl1:=HOK.out.len k oM;have hl2:=HOK.out.keys k oM;have hl3:=HOK.out.leg k hkl;have hl4:=HOK.out.sum k hkl;obtain⟨l,hl⟩:∃l,l=ls.getD k default:=⟨_,rfl⟩
  rw[←hl] at g1 HST hl3 hl4;clear hl hy ho1;obtain⟨ys,hys⟩:∃ys,ys=rX xs ls k:=⟨_,rfl⟩
  rw[←hys] at ho HST hl1 hl2 hl4;clear hys;have HK2:Hid (∀j,j<ys.length→qJ (ys.getD j default).ac (ys.getD j default).ast=true):=hl2;clear hl2;obtain⟨z,hz⟩:∃z,z=hasB l.ac l.ast ys:=⟨_,rfl⟩
  rw[←hz] at hl4;have HE:Hid (rX xs ls (k+1)=setB l.ac l.ast (z+l.am) ys):=by show _=_;rw[HST.out,vW,hz]
  have v1:IntKind.i64.wrap (z+l.am)=z+l.am:=qB hl4.1 hl4.2;have g2:=fK hbl g1;obtain⟨au,cu,rfl⟩:=fM (balsR.ofO ho);have hV:=balsR.ofO ho;have i1:(k:Int)<(n:Int):=oM;obtain⟨a1,a2,a3,a4⟩:=g2;have g3:kW wr bx (ox+k*4) l:=⟨a1,a2,a3,a4⟩;go_wp2;go_region_held3 (fun w'=>Below wr.heap.size wr w'∧w'.cell? ⟨bx,ox+k*4,none⟩=some (.int .i64 l.sh)∧w'.cell? ⟨bx,ox+k*4+1,none⟩=some (.int .i64 l.ac)∧w'.cell? ⟨bx,ox+k*4+2,none⟩=some (.int .i64 l.ast)∧w'.cell? ⟨bx,ox+k*4+3,none⟩=some (.int .i64 l.am))
   ((refine fCc ?_ g3;(repeat (first|exact bR _ _|assumption|refine bD ?_|refine bA ?_ _|refine bS ?_ (by assumption)))))
   (first|(go_at_call 186;refine(fHc _ ys l.ac l.ast _ (balsR.below hV (Below.drew (bR _ _)))).mono ?_;rw[←hz];rintro e w3 ⟨rfl,rfl⟩)|(go_at_call 185;(first|rw[←hz,v1]|rw[v1]|skip);refine(fOh _ ys l.ac l.ast (z+l.am) _ (balsR.below hV (Below.drew (bR _ _))) hl1 hl3 HK2.out).mono ?_;rintro e w4 ⟨u4,F4,rfl,o4,hb4⟩))
  rename_i hH;have hB4:=bS hbl hH.1;have hsz:=hH.1.size;have hw0:=hbl.size;clear hH;go_wp2;refine⟨⟨k+1,by omega,by go_num,⟨F4,?_⟩,hB4⟩,mI⟩;rw[HE.out];exact balsR.base o4 (by simpa using hw0)
 have hkn:k=n:=oM;subst hkn;go_wp2;go_ret;refine⟨_,F,rfl,?_,hbl⟩;rw[←HN.out,fNb] at ho;exact ho
end
section
variable [dQ Bal] [iH Bal] [dQ Ledg] [iH Ledg]
structure LedgR where
 code:Int
 ledger:Ledg
variable [dQ LedgR] [iH LedgR]
variable [dQ Leg] [iH Leg] [dQ Cont] [iH Cont] [dQ LedgR] [iH LedgR]
def fFy (g:List (List Bal)) (ls:List Leg) (i:Nat):List Bal:=addB (g.getD i default) (onSh i ls)
def qL (g:List (List Bal)) (ls:List Leg):List (List Bal):=(List.range g.length).map (fFy g ls)
theorem yR (g:List (List Bal)) (ls:List Leg):(qL g ls).length=g.length:=by simp[qL]
theorem fCn (g:List (List Bal)) (ls:List Leg) {i:Nat} (h:i<g.length):(qL g ls).getD i default=fFy g ls i:=by simp[qL,List.getD,h]
theorem xZ {F:Nat→Prop} {w w':World} (h:Mod F w w') {a:Addr} (hl:a.block<w.heap.size) (hn:¬F a.block):w'.frozen? a=w.frozen? a:=World.frozen?_of_block (h.block a.block hl hn)
structure StSt (w W:World) (n:Nat) (ag:Option Addr) (cg:Nat) (id:Int) (ac:Option Addr) (m cc:Nat) (v:Value):Prop where
 g0:W.cell? ⟨w.heap.size,0,none⟩=some (.slice ag n cg)
 y0:W.cell? ⟨w.heap.size+1,0,none⟩=some (.int .i64 id)
 y1:W.cell? ⟨w.heap.size+1,1,none⟩=some (.slice ac m cc)
 r0:W.cell? ⟨w.heap.size+1+1,0,none⟩=some (.slice none 0 0)
 o0:W.cell? ⟨w.heap.size+1+1+1,0,none⟩=some v
 rf:∀o,W.frozen? ⟨w.heap.size+1+1,o,none⟩=false
 of:∀o,W.frozen? ⟨w.heap.size+1+1+1,o,none⟩=false
 sz:w.heap.size+4≤W.heap.size
 blw:Below w.heap.size w W
theorem StSt.mod {w W W':World} {n:Nat} {ag:Option Addr} {cg:Nat} {id:Int} {ac:Option Addr} {m cc:Nat} {v:Value} {F:Nat→Prop} (h:StSt w W n ag cg id ac m cc v) (hm:Mod F W W') (hF:∀b,F b→w.heap.size+4≤b):StSt w W' n ag cg id ac m cc v:=by
 have hsz:=h.sz;have hn:∀b,b<w.heap.size+4→¬F b:=fun b hb e=>by have:=hF b e;omega
 exact⟨hm.cell h.g0 (hn _ (by dsimp only;omega)),hm.cell h.y0 (hn _ (by dsimp only;omega)),hm.cell h.y1 (hn _ (by dsimp only;omega)),hm.cell h.r0 (hn _ (by dsimp only;omega)),hm.cell h.o0 (hn _ (by dsimp only;omega)),
  fun o=>(xZ hm (a:=⟨w.heap.size+1+1,o,none⟩) (by dsimp only;omega) (hn _ (by dsimp only;omega))).trans (h.rf o),fun o=>(xZ hm (a:=⟨w.heap.size+1+1+1,o,none⟩) (by dsimp only;omega) (hn _ (by dsimp only;omega))).trans (h.of o),Nat.le_trans hsz hm.size,hm.below h.blw oM (fun b hb=>by have:=hF b hb;omega)⟩
theorem StSt.below {w W W':World} {n:Nat} {ag:Option Addr} {cg:Nat} {id:Int} {ac:Option Addr} {m cc:Nat} {v:Value} (h:StSt w W n ag cg id ac m cc v) (hb:Below W.heap.size W W'):StSt w W' n ag cg id ac m cc v:=
 h.mod (F:=fun _=>False) (Mod.of_below hb) (fun _ e=>e.elim)
theorem StSt.put {w W:World} {n:Nat} {ag:Option Addr} {cg:Nat} {id:Int} {ac:Option Addr} {m cc:Nat} {v:Value} (h:StSt w W n ag cg id ac m cc v) (v':Value):StSt w (W.setCell ⟨w.heap.size+1+1+1,0,none⟩ v') n ag cg id ac m cc v':=
 ⟨by rw[gU (by simp)];exact h.g0,by rw[gU (by simp)];exact h.y0,by rw[gU (by simp)];exact h.y1,by rw[gU (by simp)];exact h.r0,uE h.o0,fun o=>by rw[World.frozen?_setCell];exact h.rf o,fun o=>by rw[World.frozen?_setCell];exact h.of o,by simpa using h.sz,h.blw.setCell (by dsimp only;omega) _⟩
theorem StSt.all {w W:World} {n:Nat} {ag:Option Addr} {cg:Nat} {id:Int} {ac:Option Addr} {m cc:Nat} {v:Value} {b o k:Nat} {u:Value} (h:StSt w W n ag cg id ac m cc v) (hc:W.cell? ⟨b,o+k,none⟩=some u) :
  StSt w W n ag cg id ac m cc v∧W.cell? ⟨w.heap.size+1+1+1,0,none⟩=some v∧W.cell? ⟨w.heap.size,0,none⟩=some (.slice ag n cg)∧W.cell? ⟨w.heap.size+1,0,none⟩=some (.int .i64 id)∧W.cell? ⟨w.heap.size+1,1,none⟩=some (.slice ac m cc)∧W.cell? ⟨b,o+k,none⟩=some u:=
 ⟨h,h.o0,h.g0,h.y0,h.y1,hc⟩
theorem fCm (a t v:Int) (xs:List Bal):∀k,k≤xs.length→∀x ∈ (rJ a t v xs k).1,x ∈ xs∨x=⟨a,t,v⟩
 | 0,_,x,h=>by simp[rJ] at h
 | k+1,hk,x,h=>by
  have ih:=fCm a t v xs k oM;have hm:xs.getD k default ∈ xs:=by
   have e:xs.getD k default=xs[k]:=by simp[List.getD,show k<xs.length by omega]
   rw[e];exact List.getElem_mem _
  rw[fAt a t v xs oM] at h;unfold pQ at h;split at h
  ·exact ih x h
  split at h
  ·
   simp only[List.append_assoc,List.mem_append,List.mem_singleton] at h;rcases h with h|h|h
   ·exact ih x h
   ·exact .inr h
   rw[h];exact .inl hm
  simp only[List.mem_append,List.mem_singleton] at h;rcases h with h|h
  ·exact ih x h
  rw[h];exact .inl hm
theorem fK5 {a t v:Int} {xs:List Bal} {x:Bal} (h:x ∈ setB a t v xs):x ∈ xs∨x=⟨a,t,v⟩:=by
 unfold setB at h;split at h
 ·exact fCm a t v xs _ (Nat.le_refl _) x h
 simp only[List.mem_append,List.mem_singleton] at h;rcases h with h|h
 ·exact fCm a t v xs _ (Nat.le_refl _) x h
 exact .inr h
theorem fRl (a t v:Int) (xs:List Bal):(setB a t v xs).length≤2*xs.length+1:=by
 have:=fFx a t v xs xs.length (Nat.le_refl _);unfold setB;split
 ·omega
 rw[List.length_append];simp only[List.length_cons,List.length_nil];omega
theorem fAk {M:Int} (hM:0≤M) {a t:Int}:∀{xs:List Bal},(∀x ∈ xs,-M≤x.am∧x.am≤M) → -M≤hasB a t xs∧hasB a t xs≤M
 | [],_=>by simp only[hasB];omega
 | x::xs,h=>by
  have ih:=fAk hM (a:=a) (t:=t) (xs:=xs) (fun y hy=>h y (List.mem_cons_of_mem _ hy));simp only[hasB];split
  ·exact h x (List.mem_cons_self ..)
  exact ih
structure AddSt (k:Nat) (xs:List Bal):Prop where
 len:xs.length+1≤19*2 ^ k
 key:∀x ∈ xs,qJ x.ac x.ast=true
 am:∀x ∈ xs,-((k+1:Nat)*1000000000000:Int)≤x.am∧x.am≤((k+1:Nat)*1000000000000:Int)
theorem fJ4 {xs:List Bal} {ls:List Leg} (hx:BalsOk xs) (hl:∀k,k<ls.length→gD (ls.getD k default)=0):∀k,k≤ls.length→AddSt k (rX xs ls k)
 | 0,_=>by
  have e:rX xs ls 0=xs:=by simp[rX]
  have hm:∀x ∈ xs,rZ x=true:=fun x h=>by
   obtain⟨i,hi,rfl⟩:=List.mem_iff_getElem.1 h;have:=hx.ok i hi;simpa [List.getD,hi] using this
  rw[e];refine⟨by have:=hx.len;omega,fun x h=>vX (hm x h),fun x h=>?_⟩;have:=(balOk_iff.1 (hm x h)).2;omega
 | k+1,hk=>by
  have ih:=fJ4 hx hl k oM;have hz:=gQ (hl k oM);rw[fDn xs ls oM];generalize rX xs ls k=ys at *;generalize ls.getD k default=l at *;unfold vW;have hb:=fAk (M:=((k+1:Nat)*1000000000000:Int)) oM (a:=l.ac) (t:=l.ast) ih.am;refine⟨?_,fun x h=>?_,fun x h=>?_⟩
  ·have h1:=fRl l.ac l.ast (hasB l.ac l.ast ys+l.am) ys;have h2:=ih.len;rw[Nat.pow_succ];omega
  ·
   rcases fK5 h with h|rfl
   ·exact ih.key x h
   exact keyOk_iff.2 ⟨hz.2.1,hz.2.2.1⟩
  rcases fK5 h with h|rfl
  ·have:=ih.am x h;omega
  dsimp only;have:=hz.2.2.2.1;omega
theorem fPl {xs:List Bal} {ls:List Leg} (hx:BalsOk xs) (hl:∀x ∈ ls,gD x=0) (h8:ls.length≤8):AddOk xs ls:=by
 have hl':∀k,k<ls.length→gD (ls.getD k default)=0:=fun k hk=>by
  have e:ls.getD k default=ls[k]:=by simp[List.getD,hk]
  rw[e];exact hl _ (List.getElem_mem hk)
 have hs:=fJ4 hx hl';refine⟨fun k hk=>?_,fun k hk j hj=>?_,fun k hk=>?_,fun k hk=>?_⟩
 ·have h1:=(hs k hk).len;have h2:2 ^ k≤2 ^ 8:=Nat.pow_le_pow_right oM oM;omega
 ·
  have e:(rX xs ls k).getD j default=(rX xs ls k)[j]:=by simp[List.getD,hj]
  rw[e];exact(hs k hk).key _ (List.getElem_mem hj)
 ·have hz:=gQ (hl' k hk);exact keyOk_iff.2 ⟨hz.2.1,hz.2.2.1⟩
 have hz:=gQ (hl' k hk);have hb:=fAk (M:=((k+1:Nat)*1000000000000:Int)) oM (a:=(ls.getD k default).ac) (t:=(ls.getD k default).ast) (hs k oM).am;omega
end
section
variable [dQ Bal] [iH Bal] [dQ Ledg] [iH Ledg] [dQ Leg] [iH Leg] [dQ Cont] [iH Cont] [dQ LedgR] [iH LedgR]
def plB (x:Bal):Int:=x.ac*3+x.ast
structure RiseB (xs:List Bal):Prop where
 rise:xs.Pairwise (fun p q=>plB p<plB q)
 key:∀x ∈ xs,qJ x.ac x.ast=true
theorem fOo {x y:Bal} (hx:qJ x.ac x.ast=true) (hy:qJ y.ac y.ast=true) (h:plB x=plB y):x.ac=y.ac∧x.ast=y.ast:=by
 have h1:=keyOk_iff.1 hx;have h2:=keyOk_iff.1 hy;unfold plB at h;omega
theorem RiseB.tail {x:Bal} {xs:List Bal} (h:RiseB (x::xs)):RiseB xs:=⟨(List.pairwise_cons.1 h.rise).2,fun y hy=>h.key y (List.mem_cons_of_mem _ hy)⟩
theorem xV {a t:Int}:∀{xs:List Bal} {v:Int},getB a t xs=some v→∃x ∈ xs,x.ac=a∧x.ast=t∧x.am=v
 | [],_,h=>by simp[getB] at h
 | x::xs,v,h=>by
  simp only[getB] at h;split at h
  ·rename_i hc;exact⟨x,List.mem_cons_self ..,hc.1,hc.2,by simpa using h⟩
  obtain⟨y,hy,e⟩:=xV h;exact⟨y,List.mem_cons_of_mem _ hy,e⟩
theorem fKi {a t:Int} {xs:List Bal} (h:∀x ∈ xs,¬(x.ac=a∧x.ast=t)):getB a t xs=none:=by
 cases hg:getB a t xs with
 | none=>rfl
 | some v=>
  obtain⟨x,hx,e1,e2,_⟩:=xV hg;exact absurd ⟨e1,e2⟩ (h x hx)
theorem mU (x:Bal) (xs:List Bal):getB x.ac x.ast (x::xs)=some x.am:=by
 simp only[getB];rw[if_pos ⟨trivial,trivial⟩]
theorem pI {x:Bal} {xs:List Bal} {a t:Int} (h:¬(x.ac=a∧x.ast=t)):getB a t (x::xs)=getB a t xs:=by
 simp only[getB];rw[if_neg h]
theorem yG {x:Bal} {xs:List Bal} (h:RiseB (x::xs)):getB x.ac x.ast xs=none:=fKi (fun y hy e=>by
 have:=(List.pairwise_cons.1 h.rise).1 y hy;unfold plB at this;omega)
theorem fK0:∀{xs ys:List Bal},RiseB xs→RiseB ys→(∀a t,getB a t xs=getB a t ys)→xs=ys
 | [],[],_,_,_=>rfl
 | [],y::ys,_,_,h=>by
  have:=h y.ac y.ast;rw[mU] at this;simp[getB] at this
 | x::xs,[],_,_,h=>by
  have:=h x.ac x.ast;rw[mU] at this;simp[getB] at this
 | x::xs,y::ys,hx,hy,h=>by
  have hxk:=hx.key x (List.mem_cons_self ..);have hyk:=hy.key y (List.mem_cons_self ..);have hpl:plB x=plB y:=by
   rcases Int.lt_trichotomy (plB x) (plB y) with hl|hl|hl
   ·
    have h1:=h x.ac x.ast;rw[mU] at h1;obtain⟨z,hz,e1,e2,_⟩:=xV h1.symm;have hzp:plB z=plB x:=by unfold plB;rw[e1,e2]
    rcases List.mem_cons.1 hz with rfl|hz
    ·omega
    have:=(List.pairwise_cons.1 hy.rise).1 z hz;omega
   ·exact hl
   have h1:=h y.ac y.ast;rw[mU] at h1;obtain⟨z,hz,e1,e2,_⟩:=xV h1;have hzp:plB z=plB y:=by unfold plB;rw[e1,e2]
   rcases List.mem_cons.1 hz with rfl|hz
   ·omega
   have:=(List.pairwise_cons.1 hx.rise).1 z hz;omega
  obtain⟨e1,e2⟩:=fOo hxk hyk hpl;have hxy:x=y:=by
   have h1:=h x.ac x.ast;rw[mU,e1,e2,mU] at h1;obtain⟨a,t,v⟩:=x;obtain⟨a',t',v'⟩:=y;simp only at e1 e2;simp only[Option.some.injEq] at h1;rw[e1,e2,h1]
  subst hxy;congr 1;refine fK0 hx.tail hy.tail (fun a t=>?_);by_cases hc:x.ac=a∧x.ast=t
  ·rw[←hc.1,←hc.2,yG hx,yG hy]
  have:=h a t;rw[pI hc,pI hc] at this;exact this
def setR (a t v:Int):List Bal→Bool→List Bal
 | [],d=>if d then [] else [⟨a,t,v⟩]
 | b::r,d=>if b.ac=a∧b.ast=t then setR a t v r d else if d=false∧a*3+t<b.ac*3+b.ast then ⟨a,t,v⟩::b::setR a t v r true else b::setR a t v r d
theorem fBj (a t v:Int):∀(xs acc:List Bal) (d:Bool),(if (xs.foldl (pQ a t v) (acc,d)).2 then (xs.foldl (pQ a t v) (acc,d)).1 else (xs.foldl (pQ a t v) (acc,d)).1++[⟨a,t,v⟩])=acc++setR a t v xs d
 | [],acc,d=>by
  cases d <;> simp[setR]
 | b::r,acc,d=>by
  rw[List.foldl_cons];unfold setR;by_cases h1:b.ac=a∧b.ast=t
  ·
   have e:pQ a t v (acc,d) b=(acc,d):=by unfold pQ;rw[if_pos h1]
   rw[e,fBj a t v r acc d,if_pos h1]
  by_cases h2:d=false∧a*3+t<b.ac*3+b.ast
  ·
   have e:pQ a t v (acc,d) b=(acc++[⟨a,t,v⟩]++[b],true):=by unfold pQ;rw[if_neg h1,if_pos h2]
   rw[e,fBj a t v r _ true,if_neg h1,if_pos h2];simp
  have e:pQ a t v (acc,d) b=(acc++[b],d):=by unfold pQ;rw[if_neg h1,if_neg h2]
  rw[e,fBj a t v r _ d,if_neg h1,if_neg h2];simp
theorem fSg (a t v:Int) (xs:List Bal):setB a t v xs=setR a t v xs (decide (v=0)):=by
 have h:=fBj a t v xs [] (decide (v=0));rw[List.nil_append] at h;unfold setB rJ;rw[List.take_length];exact h
theorem fBi {a t v:Int}:∀{xs:List Bal} {d:Bool} {x:Bal},x ∈ setR a t v xs d→x ∈ xs∨x=⟨a,t,v⟩
 | [],d,x,h=>by
  unfold setR at h;split at h
  ·cases h
  exact .inr (List.mem_singleton.1 h)
 | b::r,d,x,h=>by
  unfold setR at h;split at h
  ·
   rcases fBi h with h|h
   ·exact .inl (List.mem_cons_of_mem _ h)
   exact .inr h
  split at h
  ·
   rcases List.mem_cons.1 h with h|h
   ·exact .inr h
   rcases List.mem_cons.1 h with h|h
   ·exact .inl (by rw[h];exact List.mem_cons_self ..)
   rcases fBi h with h|h
   ·exact .inl (List.mem_cons_of_mem _ h)
   exact .inr h
  rcases List.mem_cons.1 h with h|h
  ·exact .inl (by rw[h];exact List.mem_cons_self ..)
  rcases fBi h with h|h
  ·exact .inl (List.mem_cons_of_mem _ h)
  exact .inr h
theorem zV {a t v:Int}:∀(xs:List Bal),setR a t v xs true=xs.filter (fun b=>!decide (b.ac=a∧b.ast=t))
 | []=>rfl
 | b::r=>by
  unfold setR;by_cases h1:b.ac=a∧b.ast=t
  ·rw[if_pos h1,zV r,List.filter_cons_of_neg (by simp[h1])]
  rw[if_neg h1,if_neg (by simp),zV r,List.filter_cons_of_pos (by rw[decide_eq_false h1];rfl)]
theorem yN {a t a' t':Int}:∀(xs:List Bal),getB a' t' (xs.filter (fun b=>!decide (b.ac=a∧b.ast=t)))=if a'=a∧t'=t then none else getB a' t' xs
 | []=>by simp[getB]
 | b::r=>by
  by_cases h1:b.ac=a∧b.ast=t
  ·
   rw[List.filter_cons_of_neg (by simp[h1]),yN r];split
   ·rfl
   rename_i h2;rw[pI (fun h3=>h2 ⟨h3.1.symm.trans h1.1,h3.2.symm.trans h1.2⟩)]
  rw[List.filter_cons_of_pos (by rw[decide_eq_false h1];rfl)];by_cases h3:b.ac=a'∧b.ast=t'
  ·rw[←h3.1,←h3.2,mU,mU,if_neg h1]
  rw[pI h3,pI h3,yN r]
theorem fJl {xs:List Bal} (h:RiseB xs) (p:Bal→Bool):RiseB (xs.filter p):=⟨List.Pairwise.sublist List.filter_sublist h.rise,fun x hx=>h.key x (List.mem_filter.1 hx).1⟩
theorem fEt {a t v:Int} (hk:qJ a t=true):∀{xs:List Bal},RiseB xs→RiseB (setR a t v xs false)∧∀a' t',getB a' t' (setR a t v xs false)=if a'=a∧t'=t then some v else getB a' t' xs
 | [],_=>by
  unfold setR;rw[if_neg (by simp)];refine⟨⟨by simp,fun x hx=>by rw[List.mem_singleton.1 hx];exact hk⟩,fun a' t'=>?_⟩;by_cases e:a'=a∧t'=t
  ·rw[if_pos e,e.1,e.2];exact mU ⟨a,t,v⟩ []
  rw[if_neg e,pI (fun h=>e ⟨h.1.symm,h.2.symm⟩)]
 | b::r,h=>by
  have hb:=h.key b (List.mem_cons_self ..);have ih:=fEt (v:=v) hk (xs:=r) h.tail;have hp:=(List.pairwise_cons.1 h.rise).1;unfold setR;by_cases h1:b.ac=a∧b.ast=t
  ·
   rw[if_pos h1];refine⟨ih.1,fun a' t'=>?_⟩;rw[ih.2];split
   ·rfl
   rename_i h2;rw[pI (fun h3=>h2 ⟨h3.1.symm.trans h1.1,h3.2.symm.trans h1.2⟩)]
  rw[if_neg h1];by_cases h2:a*3+t<b.ac*3+b.ast
  ·
   rw[if_pos ⟨rfl,h2⟩,zV r];have hnone:∀y ∈ r,¬(y.ac=a∧y.ast=t):=fun y hy e=>by
    have:=hp y hy;unfold plB at this;rw[e.1,e.2] at this;omega
   have hf:r.filter (fun b=>!decide (b.ac=a∧b.ast=t))=r:=List.filter_eq_self.2 (fun y hy=>by rw[decide_eq_false (hnone y hy)];rfl);rw[hf];refine⟨⟨?_,fun x hx=>?_⟩,fun a' t'=>?_⟩
   ·
    rw[List.pairwise_cons];refine⟨fun y hy=>?_,h.rise⟩;show a*3+t<plB y;rcases List.mem_cons.1 hy with rfl|hy
    ·exact h2
    have:=hp y hy;unfold plB at this ⊢;omega
   ·
    rcases List.mem_cons.1 hx with rfl|hx
    ·exact hk
    exact h.key x hx
   by_cases e:a'=a∧t'=t
   ·rw[if_pos e,e.1,e.2];exact mU ⟨a,t,v⟩ _
   rw[if_neg e,pI (fun h=>e ⟨h.1.symm,h.2.symm⟩)]
  rw[if_neg (fun h3=>h2 h3.2)];have hlt:plB b<a*3+t:=by
   have hne:plB b≠a*3+t:=fun e=>h1 (fOo (y:=⟨a,t,v⟩) hb hk e)
   unfold plB at hne ⊢;omega
  refine⟨⟨?_,fun x hx=>?_⟩,fun a' t'=>?_⟩
  ·
   rw[List.pairwise_cons];refine⟨fun y hy=>?_,ih.1.rise⟩;rcases fBi hy with hy|rfl
   ·exact hp y hy
   exact hlt
  ·
   rcases List.mem_cons.1 hx with rfl|hx
   ·exact hb
   exact ih.1.key x hx
  by_cases e3:b.ac=a'∧b.ast=t'
  ·rw[←e3.1,←e3.2,mU,mU,if_neg h1]
  rw[pI e3,pI e3,ih.2]
theorem fOu {a t v:Int} (hk:qJ a t=true) {xs:List Bal} (h:RiseB xs):RiseB (setB a t v xs)∧∀a' t',getB a' t' (setB a t v xs)=if a'=a∧t'=t then (if v=0 then none else some v) else getB a' t' xs:=by
 rw[fSg];by_cases hv:v=0
 ·rw[decide_eq_true hv,zV,if_pos hv];exact⟨fJl h _,fun a' t'=>yN xs⟩
 rw[decide_eq_false hv,if_neg hv];exact fEt hk h
end
section
open Go.Maps Go.WideElems Go.ChangeMaps
variable [dQ Bal] [iH Bal] [dQ Ledg] [iH Ledg] [dQ Leg] [iH Leg] [dQ Cont] [iH Cont]
open Go.WideMaps (KeyLaw)
theorem fR5:KeyLaw Tryz.prog 254:=deep_law_laid laidOut (m:=2) oM (of_decide_eq_true kF) kF fFi
theorem yH (w:World) (b:Nat) (x y:Obj):setBlock (setBlock w b x) b y=setBlock w b y:=by
 unfold setBlock;simp
theorem fA1 (w:World) (b:Nat) (x:Obj):Mod (fun i=>i=b) w (setBlock w b x):=by
 refine⟨rfl,rfl,rfl,?_,fun i hi hn=>?_⟩
 ·simp[setBlock]
 simp only[setBlock];rw[Array.getElem?_setIfInBounds,if_neg (fun e=>hn e.symm)]
theorem Book.entry {w:World} {b n:Nat} {f:Int→Int→Int→Option Int} (h:Book w b n f) {s a t:Int} (hw:kwf s a t) (hn:n<maxLen) :
  ∃v0 st w1,(Instr.mapEntry 225 (.map (some b)) (kv s a t)).run Tryz.prog w =.ok (.tuple #[v0,goInt st]) w1∧Mod (fun i=>i=b) w w1 ∧
   ∀v,(Lit.int .i64 v).wf=true→∃w',(Instr.entryStore 225 (.map (some b)) (goInt st) (.int .i64 v)).run Tryz.prog w1 =.ok () w'∧Book w' b (n+1) (upd3 f s a t (some v))∧Mod (fun i=>i=b) w w':=by
 have hB:=h;have hlt:=h.lt;obtain⟨D,⟨es,clock,hb,Ft,hs,hD⟩,h1⟩:=h;obtain⟨kl,hk⟩:=xX hw;obtain⟨v0,st,es1,clock1,hr,_,hst⟩:=entry_then_store fR5 Tryz.underlying225 (fun u=>fPc u) hb Ft hk;refine⟨v0,st,_,hr,fA1 _ _ _,fun v hv=>?_⟩;obtain⟨es',clock',hr2,hr3⟩:=hst (setBlock w b (.map es1 clock1)) (.int .i64 v) (by simp[setBlock,hlt]);obtain⟨w',hp,hB',_⟩:=hB.put hw hv hn;rw[hr3] at hp;have e:setBlock w b (.map es' clock')=w':=by
  injection hp
 refine⟨_,hr2,?_,?_⟩
 ·rw[yH,e];exact hB'
 rw[yH];exact fA1 _ _ _
theorem fP1 {H:Type} {P:Program} {w:World} {t k e:TypeId} {R:Value→Option (DataW H × List MemPlace)} {b:Nat} {es:Array MapEntry} {clock:Nat} (K:KeyLaw P k) (ht:P.underlying t=some (.map k e)) {z:Value} (hz:∀u:World,(zeroValue e).run P u =.ok z u) (hb:w.heap[b]? = some (.map es clock)) (F:Go.WideElems.Fit P k R es clock)
  {key:Value} {kl:Lit} (hkey:keyOf P k key=some kl) :
  ∃(v0:Value) (st:Nat) (X:World),(Instr.mapEntry t (.map (some b)) key).run P w =.ok (.tuple #[v0,goInt st]) X∧(Instr.mapUpdate t (.map (some b)) key v0).run P w =.ok () X∧(Instr.lookup t (.map (some b)) key false).run P w =.ok v0 w:=by
 rcases K.find w hkey es.toList F.keys with ⟨h1,h2⟩|⟨j,e0,h1,h2,h3⟩
 ·
  refine⟨z,clock,setBlock w b (.map (es.push ⟨key,z,clock⟩) (clock+1)),?_,?_,?_⟩
  ·simp[Instr.mapEntry,run_underlying ht,MapKept.run_getObj_map hb,K.check w false hkey,h1,hz,MapKept.run_setObj_map _ hb,Result.andThen,setBlock]
  ·simp[Instr.mapUpdate,run_underlying ht,MapKept.run_getObj_map hb,K.check w false hkey,h1,MapKept.run_setObj_map _ hb,Result.andThen,setBlock]
  simp[Instr.lookup,run_underlying ht,MapKept.run_getObj_map hb,K.check w _ hkey,h1,hz,Result.andThen]
 have hj:es[j]? = some e0:=by simpa using h2
 have hA:es.modify j (fun e=>{e with key:=key})=es:=by
  apply Array.ext';rw[Array.toList_modify,modify_eq_set _ _ _ _ h2];have q:({e0 with key:=key}:MapEntry)=e0:=by rw[←h3]
  rw[q];exact set_self _ _ _ h2
 have hB:es.modify j (fun e'=>{e' with key:=key,val:=e0.val})=es:=by
  apply Array.ext';rw[Array.toList_modify,modify_eq_set _ _ _ _ h2];have q:({e0 with key:=key,val:=e0.val}:MapEntry)=e0:=by rw[←h3]
  rw[q];exact set_self _ _ _ h2
 refine⟨e0.val,e0.born,setBlock w b (.map es clock),?_,?_,?_⟩
 ·simp[Instr.mapEntry,run_underlying ht,MapKept.run_getObj_map hb,K.check w false hkey,h1,hj,h3,K.stays w hkey,hA,MapKept.run_setObj_map _ hb,Result.andThen,setBlock]
 ·simp[Instr.mapUpdate,run_underlying ht,MapKept.run_getObj_map hb,K.check w false hkey,h1,hj,h3,K.stays w hkey,hB,MapKept.run_setObj_map _ hb,Result.andThen,setBlock]
 simp[Instr.lookup,run_underlying ht,MapKept.run_getObj_map hb,K.check w _ hkey,h1,hj,Result.andThen]
theorem Book.entry2 {w:World} {b n:Nat} {f:Int→Int→Int→Option Int} (h:Book w b n f) {s a t:Int} (hw:kwf s a t) (hn:n<maxLen) :
  ∃v0 st w1,(Instr.mapEntry 225 (.map (some b)) (kv s a t)).run Tryz.prog w =.ok (.tuple #[v0,goInt st]) w1∧Mod (fun i=>i=b) w w1∧Book w1 b (n+1) (upd3 f s a t (some ((f s a t).getD 0))) ∧
   ∀v,(Lit.int .i64 v).wf=true→∃w',(Instr.entryStore 225 (.map (some b)) (goInt st) (.int .i64 v)).run Tryz.prog w1 =.ok () w'∧Book w' b (n+1) (upd3 f s a t (some v))∧Mod (fun i=>i=b) w w':=by
 obtain⟨v0,st,w1,h1,h2,h3⟩:=h.entry hw hn;refine⟨v0,st,w1,h1,h2,?_,h3⟩;obtain⟨hl,hlw⟩:=h.look hw;have hB:=h;obtain⟨D,⟨es,clock,hb,Ft,hs,hD⟩,_⟩:=h;obtain⟨kl,hk⟩:=xX hw;obtain⟨u0,st',X,e1,e2,e3⟩:=fP1 fR5 Tryz.underlying225 (fun u=>fPc u) hb Ft hk;rw[h1] at e1;rw[hl] at e3;injection e1 with _ eX
 injection e3 with eV _
 obtain⟨w',hp,hB',_⟩:=hB.put hw hlw hn;rw[←eV] at e2;rw[e2] at hp;injection hp with _ eW
 rw[eX,eW];exact hB'
def addL (f:Int→Int→Int→Option Int) (l:Leg):Int→Int→Int→Option Int:=upd3 f l.sh l.ac l.ast (if (f l.sh l.ac l.ast).getD 0+l.am=0 then none else some ((f l.sh l.ac l.ast).getD 0+l.am))
def mX (f:Int→Int→Int→Option Int) (ls:List Leg):Int→Int→Int→Option Int:=ls.foldl addL f
theorem fLj (f:Int→Int→Int→Option Int) (ls:List Leg) {k:Nat} (h:k<ls.length):mX f (ls.take (k+1))=addL (mX f (ls.take k)) (ls.getD k default):=by
 unfold mX;rw[qM ls k h,List.foldl_append];rfl
end
end Go.Proofs.YtpibfdebfacooaaGreat

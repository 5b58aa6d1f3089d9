import Derived.Test.YtpibfdebfacooaaGreatPrnWriteEventLaw15
set_option maxHeartbeats 8000000
set_option maxRecDepth 20000
set_option linter.all false
namespace Go.Proofs.YtpibfdebfacooaaGreat
open Go.RowKit
attribute [local go_sem ↓] Go.wp_at_zero Go.wp_at_succ
attribute [local go_sem] cI ah iV
section
variable [dQ Rw] [iH Rw] [dQ Bal] [iH Bal] [dQ Ledg] [iH Ledg] [dQ Leg] [iH Leg] [dQ Cont] [iH Cont] [dQ LedgR] [iH LedgR] [dQ OutcR] [iH OutcR] [dQ Mrk] [iH Mrk] [dQ Shd] [iH Shd] [dQ ShdR] [iH ShdR]
theorem fA6 (l:Cont) (u:Value) (c:Int) (w:World):RI 215 #[.agg #[iV l.id,u],iV c] w (iV (cmpQ l.id c)):=by
 go_enter Tryz.func215,Tryz.ntmps215;go_wp2_with (go_at_call 210;refine(fPt _ _ _).mono ?_;rintro e w' ⟨rfl,rfl⟩);go_ret;exact⟨rfl,hE⟩
def PlC (xs:List Cont) (c:Int) (w:World) (e:Ending) (w':World):Prop:=∃i:Nat,i≤xs.length∧e =.returned (.tuple #[.int .i64 i,.bool (decide (i<xs.length∧(xs.getD i default).id=c))])∧(∀k,k<i→(xs.getD k default).id<c)∧(∀k,i≤k→k<xs.length→c≤(xs.getD k default).id)∧aa w w'
theorem fY5 (x:Value) (xs:List Cont) (c:Int) (w:World) (hx:contsR.V w x xs) (hn:xs.length≤1048576) (hr:∀i j,i<j→j<xs.length→(xs.getD i default).id<(xs.getD j default).id) :
  cL 214 #[x,.int .i64 c,.func (.func 215) #[] #[]] w (PlC xs c w):=by
 obtain⟨X,cx,rfl,Y,F,hx⟩:=qN hx;unfold maxLen at F;have N:Hid (∀i j,i<j→j<xs.length→(xs.getD i default).id<(xs.getD j default).id):=hr;have O:Hid (∀k,k<xs.length→∃b o p q,X=some ⟨b,o,none⟩∧w.cell? ⟨b,o+k*2,none⟩=some (.int .i64 (xs.getD k default).id)∧w.cell? ⟨b,o+k*2+1,none⟩=some (.slice p (xs.getD k default).legs.length q)∧contR.V w (.agg #[.int .i64 (xs.getD k default).id,.slice p (xs.getD k default).legs.length q]) (xs.getD k default)):=hx;clear hx hr;generalize R:xs.length=n at *;have B:Hid (xs.length=n):=R;clear R;have eg:=enters_of Tryz.func215 kF rfl;go_enter Tryz.func214,Tryz.ntmps214;go_wp2;go_loopw [9,10] (fun a b W=>∃i j:Nat,i≤j∧j≤n∧a =.int .i64 i∧b =.int .i64 j∧Hid (∀k,k<i→(xs.getD k default).id<c)∧Hid (∀k,j≤k→k<n→c≤(xs.getD k default).id)∧aa w W) (fun a b _=>(intOf b).toNat-(intOf a).toNat)
 case atStart=>exact⟨0,n,Nat.zero_le _,Nat.le_refl _,rfl,rfl,fun k h=>absurd h oM,fun k h1 h2=>oM,bR _ _⟩
 obtain⟨i,j,Z,s,rfl,rfl,G,H,r⟩:=hrel;by_cases a0:i<j
 ·
  have T:(i:Int)<j:=oM;obtain⟨m,hm⟩:∃m:Nat,((i:Int)+j) / 2=(m:Int):=⟨(i+j) / 2,by omega⟩
  have I:i≤m:=oM;have a1:m<j:=oM;have J:(0:Int)≤m:=oM;have C:(m:Int)<n:=oM;obtain⟨bx,ox,pp,qq,rfl,y,z,_⟩:=O.out m oM;obtain⟨l,A⟩:∃l,l=xs.getD m default:=⟨_,rfl⟩
  rw[←A] at y z;have E:Hid (l=xs.getD m default):=A;clear A;replace y:=cK r y;replace z:=cK r z;by_cases d:cmpQ l.id c<0
  ·
   have hd:decide (cmpQ l.id c<0)=true:=decide_eq_true d;have K:Hid (∀k,k<m+1→(xs.getD k default).id<c):=fun k hk=>by
    have h1:(xs.getD m default).id<c:=by rw[←E.out];exact cmpQ_neg.1 d
    by_cases e:k=m
    ·rw[e];exact h1
    have:=N.out k m oM oM;omega
   go_wp2_with (first|(go_at_call 215;refine(fA6 l _ c _).mono ?_;rintro e U ⟨rfl,D⟩))
   refine⟨⟨m+1,j,by omega,s,by go_num,rfl,K,H,hE⟩,?_⟩;simp[intOf];omega
  have hd:decide (cmpQ l.id c<0)=false:=decide_eq_false d;have L:Hid (∀k,m≤k→k<n→c≤(xs.getD k default).id):=fun k hk a2=>by
   have h1:c≤(xs.getD m default).id:=by rw[←E.out];have:=mt cmpQ_neg.2 d;omega
   by_cases e:k=m
   ·rw[e];exact h1
   have:=N.out m k oM oM;omega
  go_wp2_with (first|(go_at_call 215;refine(fA6 l _ c _).mono ?_;rintro e U ⟨rfl,D⟩))
  refine⟨⟨i,m,I,by omega,rfl,rfl,G,L,hE⟩,?_⟩;simp[intOf];omega
 obtain rfl:i=j:=oM;have J:(0:Int)≤i:=oM;have a3:¬(i:Int)<i:=oM;by_cases g:i<n
 ·
  obtain⟨bx,ox,pp,qq,rfl,y,z,_⟩:=O.out i g;obtain⟨l,A⟩:∃l,l=xs.getD i default:=⟨_,rfl⟩
  rw[←A] at y z;have E:Hid (l=xs.getD i default):=A;clear A;replace y:=cK r y;replace z:=cK r z;have C:(i:Int)<n:=oM;have M:decide (i<n)=true:=decide_eq_true g;go_wp2_with (first|(go_at_call 215;refine(fA6 l _ c _).mono ?_;rintro e U ⟨rfl,D⟩));refine bodyPost_ret (v:=.tuple #[.int .i64 i,.bool (cmpQ l.id c==0)]) (by simp[results,Tryz.results214,go_sem]) rfl ?_;refine⟨i,by rw[B.out];exact s,?_,G.out,by rw[B.out];exact H.out,hE⟩;rw[←E.out,B.out];have e:(cmpQ l.id c==0)=decide (i<n∧l.id=c):=by
   rw[Bool.eq_iff_iff];simp[g,fT3]
  rw[e]
 have C:¬(i:Int)<n:=oM;have M:decide (i<n)=false:=decide_eq_false g;go_wp2;refine bodyPost_ret (v:=.tuple #[.int .i64 i,.bool false]) (by simp[results,Tryz.results214,go_sem]) rfl ?_;refine⟨i,by rw[B.out];exact s,?_,G.out,by rw[B.out];exact H.out,hE⟩;rw[B.out,decide_eq_false (fun h=>g h.1)]
theorem xM (x:Value) (xs:List Cont) (c:Int) (w:World) (hx:contsR.V w x xs) (hn:xs.length≤1048576) (hr:∀i j,i<j→j<xs.length→(xs.getD i default).id<(xs.getD j default).id) :
  cL 199 #[x,iV c] w (PlC xs c w):=by
 have d:Hid (bW w fun W=>cL 214 #[x,iV c,.func (.func 215) #[] #[]] W (PlC xs c W)):=fun W g=>fY5 x xs c W (contsR.below hx g) hn hr
 obtain⟨a,m,rfl⟩:=fM hx;clear hx hr;go_enter Tryz.func199,Tryz.ntmps199;go_wp2_with fail;refine(d.out _ hE).mono ?_;rintro e n ⟨i,k,rfl,h1,h2,l⟩;go_wp2;refine bodyPost_ret (v:=.tuple #[iV i,.bool (decide (i<xs.length∧(xs.getD i default).id=c))]) (by simp[results,Tryz.results199,go_sem]) rfl ?_;exact⟨i,k,rfl,h1,h2,hE⟩
theorem fH4 (x:Value) (d:Shd) (c:Int) (w:World) (hx:shdR.V w x d) (hn:d.held.length≤1048576) (hr:∀i j,i<j→j<d.held.length→(d.held.getD i default).id<(d.held.getD j default).id) :
  RI 180 #[x,iV c] w (.bool (fP d.held c)):=by
 obtain⟨u1,u2,u3,u4,u5,rfl,_,_,g,_,_⟩:=hx;have m:Hid (bW w fun W=>cL 199 #[u3,iV c] W (PlC d.held c W)):=fun W n=>xM u3 d.held c W (contsR.below g n) hn hr
 have l:Hid (∀i,(∀k,k<i→(d.held.getD k default).id<c)→(∀k,i≤k→k<d.held.length→c≤(d.held.getD k default).id)→fP d.held c=decide (i<d.held.length∧(d.held.getD i default).id=c)):=fun i h1 h2=>fLn hr h1 h2
 obtain⟨q,r,rfl⟩:=fM g;clear g hr;go_enter Tryz.func180,Tryz.ntmps180;go_wp2_with fail;refine(m.out _ hE).mono ?_;rintro e s ⟨i,y,rfl,h1,h2,p⟩;have HC:Hid (fP d.held c=decide (i<d.held.length∧(d.held.getD i default).id=c)):=l.out i h1 h2;clear l h1 h2;generalize decide (i<d.held.length∧(d.held.getD i default).id=c)=z at *;go_wp2;go_ret;exact⟨rH,hE⟩
theorem xD (n:Int) (w:World):cL 219 #[iV n] w fun e w'=>e =.returned (.bool (inB n 1 2))∧w'=w:=by
 go_enter Tryz.func219,Tryz.ntmps219;go_wp2_with (go_at_call 106;refine(qR _ _ _ _).mono ?_;rintro e w' ⟨rfl,rfl⟩);go_ret;exact⟨rfl,rfl⟩
theorem kY (n:Int) (w:World):cL 147 #[iV n] w fun e w'=>e =.returned (.bool (inB n 1 2))∧w'=w:=by
 go_enter Tryz.func147,Tryz.ntmps147;go_wp2_with (go_at_call 106;refine(qR _ _ _ _).mono ?_;rintro e w' ⟨rfl,rfl⟩);go_ret;exact⟨rfl,rfl⟩
theorem fSp (x:Value) (xs:List Mrk) (w:World) (hx:mrksR.V w x xs) :
  RI 218 #[x,.func (.func 219) #[] #[]] w (iV (mrkF xs)):=by
 obtain⟨ax,cx,rfl,X,D,hx⟩:=hx;unfold maxLen at D;have E:Hid (∀k c,k<xs.length→fI (qH xs) k=0→qH xs k=c→c≠0→mrkF xs=c):=fun k c O Y h Z=>fJ9 O Y h Z
 have HE:Hid (fI (qH xs) xs.length=0→mrkF xs=0):=fun h=>h
 generalize F:xs.length=n at *;clear F;have eg:=enters_of Tryz.func219 kF rfl;go_enter Tryz.func218,Tryz.ntmps218;go_wp2;go_loopw [9] (fun i w'=>∃k:Nat,k≤n∧i =.int .i64 k∧Hid (fI (qH xs) k=0)∧aa w w') (fun i _=>n-(intOf i).toNat)
 case atStart=>exact⟨0,oM,rfl,rfl,bR _ _⟩
 obtain⟨k,O,rfl,j,z⟩:=hrel;by_cases d:k<n
 ·
  obtain⟨bx,ox,rfl,R⟩:=hx k d;obtain⟨l,G⟩:∃l,l=xs.getD k default:=⟨_,rfl⟩
  rw[←G] at R;have A:Hid (l=xs.getD k default):=G;clear G;obtain⟨H,T⟩:=gD z R;have zb:bx<wr.heap.size:=wL wr _ H;cases h1:inB l.con 1 1000000000
  ·have HC:Hid (mrkF xs=3):=E.out k 3 d j.out (yD (by rw[←A.out,h1];rfl)) oM;clear hx;go_wp2_with (first|(go_at_call 146;refine(kX _ _).mono ?_;rintro e w' ⟨rfl,rfl⟩;rw[h1]));go_ret;exact⟨rH,hE⟩
  cases h2:inB l.val 1 2
  ·have HC:Hid (mrkF xs=3):=E.out k 3 d j.out (yD (by rw[←A.out,h1,h2];rfl)) oM;clear hx;go_wp2_with (first|(go_at_call 146;refine(kX _ _).mono ?_;rintro e w' ⟨rfl,rfl⟩;rw[h1])|(go_at_call 219;refine(xD _ _).mono ?_;rintro e w' ⟨rfl,rfl⟩;rw[h2]));go_ret;exact⟨rH,hE⟩
  have g:Hid ((inB (xs.getD k default).con 1 1000000000&&inB (xs.getD k default).val 1 2)=true):=by show _=_;rw[←A.out,h1,h2];rfl
  cases k with
  | zero=>
   have p:Hid (fI (qH xs) 1=0):=gU j.out (fDa g.out);clear hx;simp only[Nat.zero_mul,Nat.add_zero] at H T;go_wp2_with (first|(go_at_call 146;refine(kX _ _).mono ?_;rintro e w' ⟨rfl,rfl⟩;rw[h1])|(go_at_call 219;refine(xD _ _).mono ?_;rintro e w' ⟨rfl,rfl⟩;rw[h2]));go_quiet (fail);go_wp2;exact⟨⟨1,by omega,by go_num,p,qX hE _⟩,mI⟩
  | succ m=>
   obtain⟨a0,a5,he,U⟩:=hx m oM;simp only[Option.some.injEq,Addr.mk.injEq,and_true] at he;obtain⟨rfl,rfl⟩:=he;obtain⟨s,q⟩:∃s,s=xs.getD m default:=⟨_,rfl⟩
   rw[←q] at U;have B:Hid (s=xs.getD m default):=q;clear q hx;obtain⟨a3,a4⟩:=gD z U;have I:IntKind.i64.wrap (((m+1:Nat):Int)-1)=(m:Int):=by rw[IntKind.wrap_i64];omega
   have J:(((m+1:Nat):Int)-1)=(m:Int):=oM;have a6:IntKind.i64.wrap (m:Int)=(m:Int):=qY oM oM;have e1:((m+1:Nat):Int)<n:=oM;have e2:(m:Int)<n:=oM;have e3:(0:Int)≤m:=oM;have e4:(0:Int)<((m+1:Nat):Int):=oM;have e5:(0:Int)≤((m+1:Nat):Int):=oM;have K:Hid (l.con≤s.con→mrkF xs=1):=fun h=>E.out (m+1) 1 d j.out (fC8 g.out (by rw[←A.out,←B.out];exact h)) oM
   have C:Hid (s.con<l.con→fI (qH xs) (m+1+1)=0):=fun h=>gU j.out (fC9 g.out (by rw[←A.out,←B.out];exact h))
   clear g;obtain⟨y,r⟩:∃y:Nat,y=m+1:=⟨_,rfl⟩
   have L:Hid (y=m+1):=r;rw[←r] at H T I J e1 e4 e5 C ⊢;clear r j;have e6:decide (0<y)=true:=decide_eq_true (by have:=L.out;omega);by_cases M:l.con≤s.con
   ·have HC:=K.out M;go_wp2_with (first|(go_at_call 146;refine(kX _ _).mono ?_;rintro e w' ⟨rfl,rfl⟩;rw[h1])|(go_at_call 219;refine(xD _ _).mono ?_;rintro e w' ⟨rfl,rfl⟩;rw[h2]));go_quiet (fail);go_wp2;go_ret;exact⟨by rw[HC];rfl,qX hE _⟩
   have p:Hid (fI (qH xs) (y+1)=0):=C.out oM;go_wp2_with (first|(go_at_call 146;refine(kX _ _).mono ?_;rintro e w' ⟨rfl,rfl⟩;rw[h1])|(go_at_call 219;refine(xD _ _).mono ?_;rintro e w' ⟨rfl,rfl⟩;rw[h2]));go_quiet (fail);go_wp2;exact⟨⟨y+1,by omega,by go_num,p,qX hE _⟩,mI⟩
 have N:k=n:=oM;subst N;have HC:=HE.out j.out;go_wp2;go_ret;exact⟨by rw[HC];rfl,hE⟩
theorem fSo (x:Value) (xs:List Mrk) (w:World) (hx:mrksR.V w x xs) :
  RI 218 #[x,.func (.func 147) #[] #[]] w (iV (mrkF xs)):=by
 obtain⟨ax,cx,rfl,X,D,hx⟩:=hx;unfold maxLen at D;have E:Hid (∀k c,k<xs.length→fI (qH xs) k=0→qH xs k=c→c≠0→mrkF xs=c):=fun k c O Y h Z=>fJ9 O Y h Z
 have HE:Hid (fI (qH xs) xs.length=0→mrkF xs=0):=fun h=>h
 generalize F:xs.length=n at *;clear F;have eg:=enters_of Tryz.func147 kF rfl;go_enter Tryz.func218,Tryz.ntmps218;go_wp2;go_loopw [9] (fun i w'=>∃k:Nat,k≤n∧i =.int .i64 k∧Hid (fI (qH xs) k=0)∧aa w w') (fun i _=>n-(intOf i).toNat)
 case atStart=>exact⟨0,oM,rfl,rfl,bR _ _⟩
 obtain⟨k,O,rfl,j,z⟩:=hrel;by_cases d:k<n
 ·
  obtain⟨bx,ox,rfl,R⟩:=hx k d;obtain⟨l,G⟩:∃l,l=xs.getD k default:=⟨_,rfl⟩
  rw[←G] at R;have A:Hid (l=xs.getD k default):=G;clear G;obtain⟨H,T⟩:=gD z R;have zb:bx<wr.heap.size:=wL wr _ H;cases h1:inB l.con 1 1000000000
  ·have HC:Hid (mrkF xs=3):=E.out k 3 d j.out (yD (by rw[←A.out,h1];rfl)) oM;clear hx;go_wp2_with (first|(go_at_call 146;refine(kX _ _).mono ?_;rintro e w' ⟨rfl,rfl⟩;rw[h1]));go_ret;exact⟨rH,hE⟩
  cases h2:inB l.val 1 2
  ·have HC:Hid (mrkF xs=3):=E.out k 3 d j.out (yD (by rw[←A.out,h1,h2];rfl)) oM;clear hx;go_wp2_with (first|(go_at_call 146;refine(kX _ _).mono ?_;rintro e w' ⟨rfl,rfl⟩;rw[h1])|(go_at_call 147;refine(kY _ _).mono ?_;rintro e w' ⟨rfl,rfl⟩;rw[h2]));go_ret;exact⟨rH,hE⟩
  have g:Hid ((inB (xs.getD k default).con 1 1000000000&&inB (xs.getD k default).val 1 2)=true):=by show _=_;rw[←A.out,h1,h2];rfl
  cases k with
  | zero=>
   have p:Hid (fI (qH xs) 1=0):=gU j.out (fDa g.out);clear hx;simp only[Nat.zero_mul,Nat.add_zero] at H T;go_wp2_with (first|(go_at_call 146;refine(kX _ _).mono ?_;rintro e w' ⟨rfl,rfl⟩;rw[h1])|(go_at_call 147;refine(kY _ _).mono ?_;rintro e w' ⟨rfl,rfl⟩;rw[h2]));go_quiet (fail);go_wp2;exact⟨⟨1,by omega,by go_num,p,qX hE _⟩,mI⟩
  | succ m=>
   obtain⟨a0,a5,he,U⟩:=hx m oM;simp only[Option.some.injEq,Addr.mk.injEq,and_true] at he;obtain⟨rfl,rfl⟩:=he;obtain⟨s,q⟩:∃s,s=xs.getD m default:=⟨_,rfl⟩
   rw[←q] at U;have B:Hid (s=xs.getD m default):=q;clear q hx;obtain⟨a3,a4⟩:=gD z U;have I:IntKind.i64.wrap (((m+1:Nat):Int)-1)=(m:Int):=by rw[IntKind.wrap_i64];omega
   have J:(((m+1:Nat):Int)-1)=(m:Int):=oM;have a6:IntKind.i64.wrap (m:Int)=(m:Int):=qY oM oM;have e1:((m+1:Nat):Int)<n:=oM;have e2:(m:Int)<n:=oM;have e3:(0:Int)≤m:=oM;have e4:(0:Int)<((m+1:Nat):Int):=oM;have e5:(0:Int)≤((m+1:Nat):Int):=oM;have K:Hid (l.con≤s.con→mrkF xs=1):=fun h=>E.out (m+1) 1 d j.out (fC8 g.out (by rw[←A.out,←B.out];exact h)) oM
   have C:Hid (s.con<l.con→fI (qH xs) (m+1+1)=0):=fun h=>gU j.out (fC9 g.out (by rw[←A.out,←B.out];exact h))
   clear g;obtain⟨y,r⟩:∃y:Nat,y=m+1:=⟨_,rfl⟩
   have L:Hid (y=m+1):=r;rw[←r] at H T I J e1 e4 e5 C ⊢;clear r j;have e6:decide (0<y)=true:=decide_eq_true (by have:=L.out;omega);by_cases M:l.con≤s.con
   ·have HC:=K.out M;go_wp2_with (first|(go_at_call 146;refine(kX _ _).mono ?_;rintro e w' ⟨rfl,rfl⟩;rw[h1])|(go_at_call 147;refine(kY _ _).mono ?_;rintro e w' ⟨rfl,rfl⟩;rw[h2]));go_quiet (fail);go_wp2;go_ret;exact⟨by rw[HC];rfl,qX hE _⟩
   have p:Hid (fI (qH xs) (y+1)=0):=C.out oM;go_wp2_with (first|(go_at_call 146;refine(kX _ _).mono ?_;rintro e w' ⟨rfl,rfl⟩;rw[h1])|(go_at_call 147;refine(kY _ _).mono ?_;rintro e w' ⟨rfl,rfl⟩;rw[h2]));go_quiet (fail);go_wp2;exact⟨⟨y+1,by omega,by go_num,p,qX hE _⟩,mI⟩
 have N:k=n:=oM;subst N;have HC:=HE.out j.out;go_wp2;go_ret;exact⟨by rw[HC];rfl,hE⟩
theorem fH3 (x:Value) (d:Shd) (c:Int) (w:World) (hx:shdR.V w x d) (hn:d.done.length≤1048576) (hok:MrksOk d.done) :
  RI 195 #[x,iV c] w (.bool (fK c d.done !=0)):=by
 obtain⟨u1,u2,u3,u4,u5,rfl,h1,h2,j,g,k⟩:=hx;have l:Hid (bW w fun W=>RI 174 #[u4,iV c] W (iV (fK c d.done))):=fun W m=>zG u4 _ c W (mrksR.below g m) hn hok.rise
 obtain⟨p,q,rfl⟩:=fQ h1;obtain⟨r,s,rfl⟩:=fH h2;obtain⟨y,z,rfl⟩:=fM j;obtain⟨A,B,rfl⟩:=fH g;obtain⟨C,D,rfl⟩:=gL k;clear h1 h2 j g k hok hn;generalize d.bals.length=E at *;generalize d.votes.length=F at *;generalize d.held.length=G at *;generalize d.done.length=H at *;generalize d.appl.length=I at *;generalize fK c d.done=f at *;go_enter Tryz.func195,Tryz.ntmps195;go_wp2_with (first|(go_at_call 174;refine(l.out _ hE).mono ?_;rintro e J ⟨rfl,n⟩));go_ret;exact⟨rfl,hE⟩
def qW (d:Shd) (c:Int):Bool:=(fK c d.votes==1) && !(fK c d.done !=0)
theorem fHo (x:Value) (d:Shd) (c:Int) (w:World) (hx:shdR.V w x d) (hn:d.votes.length≤1048576∧d.done.length≤1048576) (hov:MrksOk d.votes) (hod:MrksOk d.done) :
  RI 235 #[x,iV c] w (.bool (qW d c)):=by
 have y:Hid (bW w fun W=>RI 195 #[x,iV c] W (.bool (fK c d.done !=0))):=fun W m=>fH3 x d c W (shdR.below hx m) hn.2 hod
 obtain⟨u1,u2,u3,u4,u5,rfl,h1,h2,n,p,q⟩:=hx;have r:Hid (bW w fun W=>RI 174 #[u2,iV c] W (iV (fK c d.votes))):=fun W m=>zG u2 _ c W (mrksR.below h2 m) hn.1 hov.rise
 obtain⟨z,A,rfl⟩:=fQ h1;obtain⟨B,C,rfl⟩:=fH h2;obtain⟨D,E,rfl⟩:=fM n;obtain⟨F,G,rfl⟩:=fH p;obtain⟨H,I,rfl⟩:=gL q;clear h1 h2 n p q hov hod hn;generalize d.bals.length=J at *;generalize d.votes.length=K at *;generalize d.held.length=L at *;generalize d.done.length=M at *;generalize d.appl.length=N at *;unfold qW;generalize fK c d.done=f at *;generalize fK c d.votes=g at *;by_cases s:g=1
 ·
  have k:(g==1)=true:=by simp[s]
  rw[k];go_enter Tryz.func235,Tryz.ntmps235;go_wp2_with fail;refine(r.out _ hE).mono ?_;rintro e l ⟨rfl,j⟩;have O:=bT w j;have T:cI l w.heap.size 0 d.idx:=cK j sG;have U:ah l w.heap.size 1 z J A:=cK j sG;have X:ah l w.heap.size 2 B K C:=cK j sG;have Y:ah l w.heap.size 3 D L E:=cK j sG;have Z:ah l w.heap.size 4 F M G:=cK j sG;have y5:ah l w.heap.size 5 H N I:=cK j sG;clear j;go_wp2_with (first|(go_at_call 195;refine(y.out _ hE).mono ?_;rintro e w2 ⟨rfl,R⟩));go_ret;exact⟨by simp,hE⟩
 have k:(g==1)=false:=by simp[s]
 rw[k];go_enter Tryz.func235,Tryz.ntmps235;go_wp2_with (first|(go_at_call 174;refine(r.out _ hE).mono ?_;rintro e l ⟨rfl,j⟩));go_ret;exact⟨by simp,hE⟩
end
section
theorem fTl {P:Program} {ops:Array Oper} {Q:Exit→Act→World→Prop} {md:Region.Mode} {S:World→Prop} {t:Nat} {i:Nat} {oi:Oper} {f:Nat} {listed:Array Bool} {a:Act} {w:World} (hi:ops[i]? = some oi) (hsel:Region.noSelect ops=true) (ht:ops[t]? = none)
  (hf:Region.free md ops listed i=true) (hr:(Region.ready md ops listed).contains i=true) (hQ:∀c a w,Q (.panic c) (a.put oi.dst undef) w→Q (.panic c) a w)
  (hwd:Region.wanted oi (yielded ops a.tmps)=false) (hS:S w)
  (h:gQ P md ops Q S t f (listed.setIfInBounds i true) (a.put oi.dst undef) w):gQ P md ops Q S t (f+1) listed a w:=
 fBh hi hsel ht hQ f listed a w (Region.free_spec hi hf) (by simpa using hr) (Or.inr ⟨hwd,rfl⟩) hS h
theorem sU {P:Program} {ops:Array Oper} {Q:Exit→Act→World→Prop} {md:Region.Mode} {S:World→Prop} {t:Nat} (i:Nat) {oi:Oper} {f:Nat} {listed:Array Bool} {a:Act} {w:World} (hi:ops[i]? = some oi) (hS:S w) (h:gQ P md ops Q S t f (listed.setIfInBounds i true) (a.put oi.dst undef) w) (hb:(Region.noSelect ops&&(ops[t]?).isNone&&Region.free md ops listed i&&(Region.ready md ops listed).contains i)=true:=by kernel_rfl) (hQ:∀c a w,Q (.panic c) (a.put oi.dst undef) w→Q (.panic c) a w:=by exact fun _ _ _ h=>h) (hwd:Region.wanted oi (yielded ops a.tmps)=false:=by rfl):gQ P md ops Q S t (f+1) listed a w:=by
 simp only[Bool.and_eq_true] at hb;exact fTl hi hb.1.1.1 (by simpa using hb.1.1.2) hb.1.2 hb.2 hQ hwd hS h
theorem sY {P:Program} {ops:Array Oper} {Q:Exit→Act→World→Prop} {md:Region.Mode} {S:World→Prop} {t:Nat} (i:Nat) {oi:Oper} {f:Nat} {listed:Array Bool} {a a':Act} {w:World} (h:gQ P md ops Q S t f (listed.setIfInBounds i true) a' w) (hi:ops[i]? = some oi:=by rfl) (hS:S w:=by assumption) (hb:(Region.noSelect ops&&(ops[t]?).isNone&&Region.free md ops listed i&&(Region.ready md ops listed).contains i)=true:=by kernel_rfl) (hQ:∀c a w,Q (.panic c) (a.put oi.dst undef) w→Q (.panic c) a w:=by exact fun _ _ _ h=>h) (hwd:Region.wanted oi (yielded ops a.tmps)=false:=by rfl) (ha:a.put oi.dst undef=a':=by first|(simp only[jX];done)|(simp only[jX];rfl)|rfl):gQ P md ops Q S t (f+1) listed a w:=sU i hi hS (by rw[ha];exact h) hb hQ hwd
end
section
variable [dQ Rw] [iH Rw] [dQ Bal] [iH Bal] [dQ Ledg] [iH Ledg] [dQ Leg] [iH Leg] [dQ Cont] [iH Cont] [dQ LedgR] [iH LedgR] [dQ OutcR] [iH OutcR] [dQ Mrk] [iH Mrk] [dQ Shd] [iH Shd] [dQ ShdR] [iH ShdR]
theorem fU7 (x:Value) (xs:List Int) (c:Int) (w:World) (hx:xN w x xs) :
  cL 207 #[x,iV c] w fun e w'=>e =.returned (.bool (decide (c ∈ xs)))∧w'=w:=by
 obtain⟨F,G,rfl,B,m,hx⟩:=hx;unfold maxLen at m;have C:Hid (∀k,k<xs.length→xs.getD k 0=c→decide (c ∈ xs)=true):=fun k g h=>decide_eq_true (by rw[←h];simp[List.getD,g])
 have p:Hid (∀k,k<xs.length→¬c ∈ xs.take k→¬xs.getD k 0=c→¬c ∈ xs.take (k+1)):=fun k g h1 h2=>by
  rw[List.take_add_one];intro h;rw[List.mem_append] at h;rcases h with h|h
  ·exact h1 h
  simp[g] at h;exact h2 (by simp[List.getD,g,h])
 have D:Hid (¬c ∈ xs.take xs.length→decide (c ∈ xs)=false):=fun h=>decide_eq_false (by rw[List.take_length] at h;exact h)
 generalize r:xs.length=n at *;clear r;go_enter Tryz.func207,Tryz.ntmps207;go_wp2;go_loopw [5] (fun i w'=>∃k:Nat,k≤n∧i =.int .i64 k∧Hid (¬c ∈ xs.take k)∧Hid (w'=w)) (fun i _=>n-(intOf i).toNat)
 case atStart=>exact⟨0,oM,rfl,by show ¬c ∈ xs.take 0;simp,rfl⟩
 obtain⟨k,g,rfl,j,l⟩:=hrel;by_cases d:k<n
 ·
  obtain⟨H,I,rfl,E⟩:=hx k d;have h1:=C.out k d;have h2:=p.out k d j.out;generalize xs.getD k 0=q at *;have s:Hid (q=c→decide (c ∈ xs)=true):=h1;have y:Hid (¬q=c→¬c ∈ xs.take (k+1)):=h2;clear hx h1 h2;rw[←l.out] at E;by_cases he:q=c
  ·
   have HC:=s.out he;have z:(q==c)=true:=by simp[he]
   clear s j y;go_wp2;go_ret;exact⟨by rw[HC];rfl,l.out⟩
  have HC:Hid _:=y.out he;have z:(q==c)=false:=by simp[he]
  clear s j y;go_wp2;exact⟨⟨k+1,by omega,by go_num,HC,l⟩,mI⟩
 have A:k=n:=oM;subst A;have HC:=D.out j.out;go_wp2;go_ret;exact⟨by rw[HC];rfl,l.out⟩
theorem fQ8 {w:World} {a:Option Addr} {n c k:Nat} {xs:List Int} (hx:xN w (.slice a n c) xs) (hk:k≤n):xN w (.slice a k c) (xs.take k):=by
 obtain⟨a',l,e,h1,h2,d⟩:=hx;simp only[Value.slice.injEq] at e;obtain⟨rfl,rfl,rfl⟩:=e;refine⟨a,c,by rw[List.length_take,Nat.min_eq_left hk],by rw[List.length_take];omega,h2,fun i g=>?_⟩;rw[List.length_take] at g;obtain⟨b,o,e,j⟩:=d i oM;refine⟨b,o,e,?_⟩;rw[j];simp[List.getD,List.getElem?_take,show i<k by omega]
theorem fG3 (x:Value) (d:Shd) (w:World) (hx:shdR.V w x d) :
  RI 182 #[x] w (.bool (yI d.done d.appl)):=by
 obtain⟨u1,u2,u3,u4,u5,rfl,h1,h2,H,h4,h5⟩:=hx;obtain⟨aD,bs,vs,hs,n,g⟩:=d;dsimp only at h1 h2 H h4 h5 ⊢;have ag:Hid (∀W c,aa w W→RI 153 #[u4,iV c] W (iV (fK c n))):=fun W c I=>uA u4 n c W (mrksR.below h4 I)
 obtain⟨a1,c1,rfl⟩:=fQ h1;obtain⟨a2,c2,rfl⟩:=fH h2;obtain⟨a3,c3,rfl⟩:=fM H;obtain⟨a4,c4,rfl,aE,ak,Y⟩:=h4;have a6:Hid (∀W k,aa w W→k≤g.length→∀a c,u5 =.slice a g.length c→xN W (.slice a k c) (g.take k)):=fun W k I E a c e=>fQ8 (fA2 (by rw[←e];exact h5) I) E
 obtain⟨a5,M,rfl,aF,al,a7⟩:=h5;unfold maxLen at ak al;have am:Hid (∀W k c,aa w W→k≤g.length→cL 207 #[.slice a5 k M,iV c] W fun e w'=>e =.returned (.bool (decide (c ∈ g.take k)))∧w'=W):=fun W k c I E=>fU7 _ _ c W (a6.out W k I E a5 M rfl)
 have ao:Hid (∀i,i<g.length→∃b o,a5=some ⟨b,o,none⟩∧w.cell? ⟨b,o+i,none⟩=some (iV (g.getD i 0))):=a7;have a8:Hid (∀k,k<n.length→kG (n.take (k+1))=if (n.getD k default).val=1 then kG (n.take k)++[(n.getD k default).con] else kG (n.take k)):=fun k E=>fHw E
 have a9:Hid (kG (n.take n.length)=kG n):=by show _=_;rw[List.take_length]
 have ab:Hid (∀k,(kG (n.take k)).length≤k):=fun k=>Nat.le_trans (fPw _) (by rw[List.length_take];omega)
 have ar:Hid (∀k,k<g.length→¬fK (g.getD k 0) n=1→yI n g=false):=fun k E h=>by unfold yI;exact decide_eq_false (fun h2=>h (h2.2 k E).1)
 have au:Hid (∀k,k<g.length→g.getD k 0 ∈ g.take k→yI n g=false):=fun k E h=>by unfold yI;exact decide_eq_false (fun h2=>(h2.2 k E).2 h)
 have av:Hid ((∀k,k<g.length→fK (g.getD k 0) n=1∧¬g.getD k 0 ∈ g.take k)→yI n g=decide ((kG n).length=g.length)):=fun h=>by unfold yI;rw[decide_eq_decide];exact⟨fun h2=>h2.1,fun h2=>⟨h2,h⟩⟩
 clear h1 h2 H a7 a6;generalize bs.length=n1 at *;generalize vs.length=n2 at *;generalize hs.length=n3 at *;generalize aw:n.length=n4 at *;generalize ax:g.length=F at *;clear aw ax;go_enter Tryz.func182,Tryz.ntmps182;go_wp2;go_loopw [3,4] (fun q i w'=>∃k m:Nat,k≤n4∧q =.int .i64 m∧i =.int .i64 k∧Hid ((kG (n.take k)).length=m)∧(w'.cell? ⟨w.heap.size,4,none⟩=some (.slice a4 n4 c4)∧w'.cell? ⟨w.heap.size,5,none⟩=some (.slice a5 F M))∧aa w w') (fun q i _=>n4-(intOf i).toNat)
 case atStart=>exact⟨0,0,Nat.zero_le _,rfl,rfl,by show(kG (n.take 0)).length=0;simp[kG],sG,hE⟩
 obtain⟨k,m,E,rfl,rfl,Z,⟨G,N⟩,a0⟩:=hrel;have zq:w.heap.size<wr.heap.size:=wL wr _ G;by_cases ac:k<n4
 ·
  obtain⟨O,R,rfl,T⟩:=Y k ac;have h1:=a8.out k ac;have hl:=ab.out k;obtain⟨l,ad⟩:∃l,l=n.getD k default:=⟨_,rfl⟩
  rw[←ad] at T h1;have U:Hid (kG (n.take (k+1))=if l.val=1 then kG (n.take k)++[l.con] else kG (n.take k)):=h1;clear ad h1 Y;obtain⟨g2,g3⟩:=gD a0 T;have aG:m≤k:=by rw[←Z.out];exact hl
  by_cases he:l.val=1
  ·
   have ay:(l.val==1)=true:=by simp[he]
   have HC:Hid ((kG (n.take (k+1))).length=m+1):=by show _=_;rw[U.out,if_pos he,List.length_append,Z.out];rfl
   clear U Z hl;rw[he] at g3;go_wp2;exact⟨⟨k+1,m+1,by omega,by go_num,by go_num,HC,⟨G,N⟩,hE⟩,mI⟩
  have ay:(l.val==1)=false:=by simp[he]
  have HC:Hid ((kG (n.take (k+1))).length=m):=by show _=_;rw[U.out,if_neg he,Z.out]
  clear U Z hl;go_wp2;exact⟨⟨k+1,m,by omega,rfl,by go_num,HC,⟨G,N⟩,hE⟩,mI⟩
 have az:k=n4:=oM;subst az;have aA:Hid ((kG n).length=m):=by show _=_;rw[←a9.out];exact Z.out
 clear Z Y a8 ab a9;go_wp2;obtain⟨w2,ae⟩:∃w2,w2=wr:=⟨_,rfl⟩
 rw[←ae] at a0 G N zq ⊢;clear ae;go_loopw [5] (fun i w'=>∃j:Nat,j≤F∧i =.int .i64 j∧Hid (∀i,i<j→fK (g.getD i 0) n=1∧¬g.getD i 0 ∈ g.take i)∧aa w2 w') (fun i _=>F-(intOf i).toNat)
 case atStart=>exact⟨0,oM,rfl,fun i hi=>absurd hi oM,bR _ _⟩
 rename_i wq;obtain⟨j,hj,rfl,HA,J⟩:=hrel;replace G:=cK J G;replace N:=cK J N;have A:aa w wr:=bS a0 J;have aH:w.heap.size<wr.heap.size:=wL wr _ G;by_cases B:j<F
 ·
  obtain⟨O,R,rfl,T⟩:=ao.out j B;have h1:=ar.out j B;have h2:=au.out j B;have H:Hid (fK (g.getD j 0) n=1→¬g.getD j 0 ∈ g.take j→∀i,i<j+1→fK (g.getD i 0) n=1∧¬g.getD i 0 ∈ g.take i):=fun q1 q2 i hi=>by
   by_cases e:i=j
   ·rw[e];exact⟨q1,q2⟩
   exact HA.out i oM
  replace T:=cK A T;generalize g.getD j 0=q at *;have U:Hid (¬fK q n=1→yI n g=false):=h1;have H2:Hid (q ∈ g.take j→yI n g=false):=h2;clear h1 h2;have k1:(j:Int)<F:=oM;have k2:(0:Int)≤j:=oM;have k3:(j:Int)≤F:=oM;have k4:(j:Int)≤M:=oM;have L:Hid (bW wr fun W=>RI 153 #[.slice a4 k c4,iV q] W (iV (fK q n))):=fun W I=>ag.out W q (bS A I)
  have C:Hid (bW wr fun W=>cL 207 #[.slice (some ⟨O,R,none⟩) j M,iV q] W fun e w'=>e =.returned (.bool (decide (q ∈ g.take j)))∧w'=W):=fun W I=>am.out W j q (bS A I) oM
  generalize fK q n=f at *;by_cases hf:f=1
  ·
   have af:(f !=1)=false:=by simp[hf]
   rw[hf] at L H;clear U hf af;cases z:decide (q ∈ g.take j)
   ·
    have aB:Hid (∀i,i<j+1→fK (g.getD i 0) n=1∧¬g.getD i 0 ∈ g.take i):=H.out rfl (of_decide_eq_false z);rw[z] at C;clear z H2 H;go_wp2;refine wp_region_noPanic ?_;refine fB (fun W=>aa wr W∧ah W w.heap.size 4 a4 k c4∧ah W w.heap.size 5 (some ⟨O,R,none⟩) F M∧cI W O (R+j) q) 21 kF ⟨hE,cK hE G,cK hE N,cK hE T⟩ (fun hS=>?_);refine tX 0 ?_;refine tX 1 ?_;refine tX 2 ?_;refine tX 3 ?_;refine tX 4 ?_;refine tX 5 ?_;refine tX 6 ?_;refine uS 7 rfl (fun K y=>?_);go_simp;refine(L.out _ hS.1).mono ?_;rintro e wz ⟨rfl,p⟩;have s:aa wr wz:=bS hS.1 p;have r:=And.intro s (kS3 p hS.2);refine y _ _ (fun _=>r) ?_;clear y K hS p;have hS:=r;clear r;try simp only[jX]
    refine tX 8 (v:=(.bool false)) ?_;refine tX 9 (v:=(.bool false)) ?_;refine tX 10 ?_;refine tX 11 ?_;refine tX 12 ?_;refine tX 13 ?_;refine tX 14 ?_;refine tX 15 ?_;refine tX 16 ?_;refine tX 17 ?_;refine tX 18 ?_;refine uS 19 rfl (fun K y=>?_);go_simp;refine(C.out _ hS.1).mono ?_;rintro e wy ⟨rfl,D⟩;obtain rfl:=D.symm;refine y _ _ (fun _=>hS) ?_;clear y K D;try simp only[jX]
    refine tX 20 (v:=(.bool false)) ?_;refine dP ?_;go_wp2;exact⟨⟨j+1,by omega,by go_num,aB,bS J hS.1⟩,mI⟩
   have HC:=H2.out (of_decide_eq_true z);rw[z] at C;clear z H2 H;go_wp2;refine wp_region_noPanic ?_;refine fB (fun W=>aa wr W∧ah W w.heap.size 4 a4 k c4∧ah W w.heap.size 5 (some ⟨O,R,none⟩) F M∧cI W O (R+j) q) 21 kF ⟨hE,cK hE G,cK hE N,cK hE T⟩ (fun hS=>?_);refine tX 0 ?_;refine tX 1 ?_;refine tX 2 ?_;refine tX 3 ?_;refine tX 4 ?_;refine tX 5 ?_;refine tX 6 ?_;refine uS 7 rfl (fun K y=>?_);go_simp;refine(L.out _ hS.1).mono ?_;rintro e wz ⟨rfl,p⟩;have s:aa wr wz:=bS hS.1 p;have r:=And.intro s (kS3 p hS.2);refine y _ _ (fun _=>r) ?_;clear y K hS p;have hS:=r;clear r;try simp only[jX]
   refine tX 8 (v:=(.bool false)) ?_;refine tX 9 (v:=(.bool false)) ?_;refine tX 10 ?_;refine tX 11 ?_;refine tX 12 ?_;refine tX 13 ?_;refine tX 14 ?_;refine tX 15 ?_;refine tX 16 ?_;refine tX 17 ?_;refine tX 18 ?_;refine uS 19 rfl (fun K y=>?_);go_simp;refine(C.out _ hS.1).mono ?_;rintro e wy ⟨rfl,D⟩;obtain rfl:=D.symm;refine y _ _ (fun _=>hS) ?_;clear y K D;try simp only[jX]
   refine tX 20 (v:=(.bool true)) ?_;refine dP ?_;go_wp2;go_ret;exact⟨by rw[HC];rfl,bS A hS.1⟩
  have HC:=U.out hf;have af:(f !=1)=true:=by simp[hf]
  clear U H2 H hf C;go_wp2;refine wp_region_noPanic ?_;refine fB (fun W=>aa wr W∧ah W w.heap.size 4 a4 k c4∧ah W w.heap.size 5 (some ⟨O,R,none⟩) F M∧cI W O (R+j) q) 21 kF ⟨hE,cK hE G,cK hE N,cK hE T⟩ (fun hS=>?_);refine tX 0 ?_;refine tX 1 ?_;refine tX 2 ?_;refine tX 3 ?_;refine tX 4 ?_;refine tX 5 ?_;refine tX 6 ?_;refine uS 7 rfl (fun K y=>?_);go_simp;refine(L.out _ hS.1).mono ?_;rintro e wz ⟨rfl,p⟩;have s:aa wr wz:=bS hS.1 p;have r:=And.intro s (kS3 p hS.2);refine y _ _ (fun _=>r) ?_;clear y K hS p;have hS:=r;clear r;try simp only[jX]
  refine tX 8 (v:=(.bool true)) ?_;refine tX 9 (v:=(.bool true)) ?_;refine sY 10 ?_;refine sY 11 ?_;refine sY 12 ?_;refine sY 13 ?_;refine sY 14 ?_;refine sY 15 ?_;refine sY 16 ?_;refine sY 17 ?_;refine sY 18 ?_;refine sY 19 ?_;refine tX 20 (v:=(.bool true)) ?_;refine dP ?_;go_wp2;go_ret;exact⟨by rw[HC];rfl,bS A hS.1⟩
 have aC:j=F:=oM;subst aC;have HC:=av.out HA.out;rw[aA.out] at HC;have X:((m:Int)==(j:Int))=decide (m=j):=by rw[Bool.eq_iff_iff];simp;omega
 rw[←X] at HC;clear X;go_wp2;go_ret;exact⟨by rw[HC];rfl,hE⟩
end
end Go.Proofs.YtpibfdebfacooaaGreat

import Derived.Test.YtpibfdebfacooaaGreatPrnWriteEventLaw2
set_option maxHeartbeats 2000000
set_option linter.all false
namespace Go.Proofs.YtpibfdebfacooaaGreat
open Go.RowKit
attribute [local go_sem ↓] Go.wp_at_zero Go.wp_at_succ
attribute [local go_sem] cW cI cN iV aj
section
variable [dQ Leg] [iH Leg]
structure Cont where
 id:Int
 legs:List Leg
variable [dQ Cont] [iH Cont]
def contR:Rep Cont where
 V:=fun w v x=>∃u1,v =.agg #[.int .i64 x.id,u1]∧legsR.V w u1 x.legs
 O:=fun w base F v x=>∃u1 F1,v =.agg #[.int .i64 x.id,u1]∧legsR.O w base F1 u1 x.legs∧(∀b,F b↔(F1 b))
 below:=fun h hb=>by
  obtain⟨u1,rfl,h1⟩:=h;exact⟨u1,rfl,legsR.below h1 hb⟩
 ofO:=fun h=>by
  obtain⟨u1,F1,rfl,h1,_⟩:=h;exact⟨u1,rfl,legsR.ofO h1⟩
 mod:=fun h hm hd=>by
  obtain⟨u1,F1,rfl,h1,hF⟩:=h;exact⟨u1,F1,rfl,legsR.mod h1 hm (fun b hb=>hd b ((hF b).2 hb)),hF⟩
 rng:=fun h b hb=>by
  obtain⟨u1,F1,rfl,h1,hF⟩:=h;rcases(hF b).1 hb with hb
  exact legsR.rng h1 b hb
 base:=fun h hb=>by
  obtain⟨u1,F1,rfl,h1,hF⟩:=h;exact⟨u1,F1,rfl,legsR.base h1 hb,hF⟩
def rF (x:Cont):Nat:=fAd x.legs
def fCt (x:Cont):Nat:=qV x.legs
def fYt (k:Int) (x:Cont):Cont:={x with legs:=fMa k x.legs}
def kS (v:Value):List Value:=match v with | .agg a=>one (a.getD 0 (.int .i64 0))++one (a.getD 1 (.int .i64 0))|_=>[]
def gG (x:Cont):Nat:=1+qV x.legs
def rY (k:Int) (x:Cont):Cont:={id:=k,legs:=fMa (k+1) x.legs}
theorem fT4 {w:World} {v:Value} {x:Cont} (h:contR.V w v x):∃a1 c1,v =.agg #[iV x.id,.slice a1 x.legs.length c1]:=by
 obtain⟨u1,rfl,h1⟩:=h;obtain⟨a1,c1,rfl⟩:=kK h1;exact⟨_,_,rfl⟩
theorem fW7 (d:Cont):fCt d≤4*rF d:=by
 unfold fCt rF;have q1:=fQg d.legs;omega
theorem fRn (d:Cont):gG d≤5*(1+rF d):=by
 unfold gG rF;have q1:=fQg d.legs;omega
theorem fM1 (x:Value) (d:Cont) (w:World) (hx:contR.V w x d) (hn:rF d≤1048576) :
  cL 51 #[x] w fun e w'=>∃v F,e =.returned v∧contR.O w' w.heap.size F v d∧aa w w':=by
 obtain⟨u1,rfl,h1⟩:=hx;unfold rF at hn;go_enter Tryz.func51,Tryz.ntmps51;go_wp2_with fail;refine(fYh _ d.legs _ (legsR.below h1 hE) oM).mono ?_;rintro e q ⟨r,j,rfl,g,k⟩;obtain⟨l,m,rfl⟩:=kK (legsR.ofO g);obtain⟨n,s⟩:=bcell k;have p:=k.size;simp at p;replace g:=legsR.base (base':=w.heap.size+3) g (by simp;try omega);go_wp2;refine bodyPost_ret (v:=.agg #[iV d.id,.slice l d.legs.length m]) ?_ rfl ⟨_,fun b=>j b,rfl,⟨_,j,rfl,legsR.base (base:=w.heap.size+3) (by(repeat (first|assumption|refine Rep.set _ ?_ _ (by simp;omega)|refine Rep.set _ ?_ _ (by simp)|refine Rep.alloc _ ?_ _|refine Rep.keep _ ?_ (by assumption)))) oM,fun b=>Iff.rfl⟩,hE⟩;simp[results,Tryz.results51,go_sem,n]
theorem fMy (x:Value) (d:Cont) (left:Int) (w:World) (hx:contR.V w x d) (h0:0≤left) (h1:left≤1048576) :
  RI 44 #[x,iV left] w (iV (rG left (rF d))):=by
 obtain⟨u1,rfl,g⟩:=hx;go_enter Tryz.func44,Tryz.ntmps44;go_wp2_with fail;refine(fYg _ d.legs left _ (legsR.below g hE) h0 h1).mono ?_;rintro e j ⟨rfl,k⟩;go_wp2
 ·rename_i h;go_ret;refine⟨?_,hE⟩;rw[yE (n:=fAd d.legs) oM (rF d) (by unfold rF;omega)];rfl
 rename_i h;go_ret;exact⟨rfl,hE⟩
theorem fDm (x y:Value) (d d':Cont) (w:World) (hx:contR.V w x d) (hy:contR.V w y d') :
  RI 54 #[x,y] w (.bool (decide (d=d'))):=by
 obtain⟨u1,rfl,h1⟩:=hx;obtain⟨m,rfl,k⟩:=hy;obtain⟨id,j⟩:=d;obtain⟨l,g⟩:=d';dsimp only at h1 k;go_enter Tryz.func54,Tryz.ntmps54;go_wp2_with fail;all_goals try (go_ret;exact⟨by simp_all,hE⟩)
 refine(fXg _ _ j g _ (legsR.below h1 hE) (legsR.below k hE)).mono ?_;rintro e n ⟨rfl,p⟩;go_wp2;all_goals
  go_ret;exact⟨by simp_all,hE⟩
theorem fG7 (v:Value) (d:Cont) (base:Nat) (F:Nat→Prop) (k:Int) (w:World) (ho:contR.O w base F v d) (hw:rF d≤1048576) (hn:k+fCt d≤1073741824) (hk0:0≤k) :
  cL 55 #[v,iV k] w fun r w'=>r =.returned (iV (k+fCt d))∧contR.O w' base F v (fYt k d)∧Mod F w w':=by
 obtain⟨u1,g,rfl,h1,j⟩:=ho;unfold rF at hw;unfold fCt at hn ⊢;have l:Hid (∀b,F b↔(g b)):=j;clear j;go_enter Tryz.func55,Tryz.ntmps55;go_wp2_with fail;refine(fIl _ d.legs base g k _ (legsR.alloc h1 _) oM oM oM).mono ?_;rintro e p ⟨rfl,m,n⟩;go_wp2;go_ret;refine⟨?_,⟨_,g,rfl,m,l.out⟩,((Mod.refl F w).alloc _).trans (n.mono (fun b hb=>(l.out b).2 hb))⟩;simp;try omega
variable [dQ Cont] [iH Cont]
def contsR:Rep (List Cont):=nRep contR 57 2 kS
def fDh (xs:List Cont):Nat:=wtL rF xs
def pV (xs:List Cont):Nat:=cntL gG xs
def fC7 (k:Int) (xs:List Cont):List Cont:=mkL rY gG k xs
theorem fM {w:World} {v:Value} {xs:List Cont} (h:contsR.V w v xs):∃a c,v =.slice a xs.length c:=by
 obtain⟨a,c,rfl,_⟩:=h;exact⟨_,_,rfl⟩
theorem fT5 (d:List Cont):pV d≤5*fDh d:=fY8 (fun x=>fRn x) d
theorem rQ:(Tryz.prog.info? 57).map (fun i=>(i.zero,i.size,i.bytes))=some (some (.agg #[iV 0,aj]),2,32):=kF
theorem fUy {w w':World} {a0 a1 a2 a3:Addr} {x0 x1 x2 x3:Value} (hb:aa w w') (g0:w.cell? a0=some x0) (g1:w.cell? a1=some x1) (g2:w.cell? a2=some x2) (g3:w.cell? a3=some x3):aa w w'∧w'.cell? a0=some x0∧w'.cell? a1=some x1∧w'.cell? a2=some x2∧w'.cell? a3=some x3:=
 ⟨hb,cK hb g0,cK hb g1,cK hb g2,cK hb g3⟩
theorem fJk (x y:Value) (xs ys:List Cont) (w:World) (hx:contsR.V w x xs) (hy:contsR.V w y ys) :
  RI 74 #[x,y] w (.bool (decide (xs=ys))):=by
 obtain⟨ax,cx,rfl,a0,K,hx⟩:=hx;obtain⟨ay,cy,rfl,L,M,hy⟩:=hy;unfold maxLen at K M;by_cases F:ys.length=xs.length
 ·
  rw[F] at L hy ⊢;have HL:Hid (ys.length=xs.length):=F;clear F;generalize U:xs.length=n at *;have X:Hid (xs.length=n):=U;clear U;go_enter Tryz.func74,Tryz.ntmps74;go_wp2;go_loopw [5] (fun i w'=>∃k:Nat,k≤n∧i =.int .i64 k∧(∀j,j<k→xs.getD j default=ys.getD j default)∧aa w w') (fun i _=>n-(intOf i).toNat)
  case atStart=>exact⟨0,oM,rfl,fun j h=>absurd h oM,bR _ _⟩
  obtain⟨k,hk,rfl,d,N⟩:=hrel;have Y:Hid (∀j,j<k→xs.getD j default=ys.getD j default):=d;clear d;by_cases C:k<n
  ·
   obtain⟨G,H,ux,rfl,_,O,g⟩:=hx k C;obtain⟨I,J,uy,rfl,_,R,m⟩:=hy k C;obtain⟨A,p⟩:∃l,l=xs.getD k default:=⟨_,rfl⟩
   obtain⟨B,q⟩:∃l,l=ys.getD k default:=⟨_,rfl⟩
   rw[←p] at g;rw[←q] at m;have Z:Hid (A=xs.getD k default):=p;have H2:Hid (B=ys.getD k default):=q;have D:=g;obtain⟨r,rfl,_⟩:=D;have E:=m;obtain⟨s,rfl,_⟩:=E;have g0:w.cell? ⟨G,H+k*2,none⟩=some (iV A.id):=O 0 oM;have g1:w.cell? ⟨G,H+k*2+1,none⟩=some (r):=O 1 oM;have g2:w.cell? ⟨I,J+k*2,none⟩=some (iV B.id):=R 0 oM;have g3:w.cell? ⟨I,J+k*2+1,none⟩=some (s):=R 1 oM;clear p q hx hy O R;go_wp2;go_region_held3 (fun w'=>aa w w'∧cI w' G (H+k*2) A.id∧cW w' G (H+k*2+1) r∧cI w' I (J+k*2) B.id∧cW w' I (J+k*2+1) s) ((refine fUy ?_ g0 g1 g2 g3;exact qT)) (first|(go_at_call 54;refine(fDm (.agg #[iV A.id,r]) (.agg #[iV B.id,s]) A B _ (contR.below g qT) (contR.below m qT)).mono ?_;rintro e w' ⟨rfl,a1⟩));rename_i hH;have hB:=hH.1;clear hH;go_wp2
   ·
    rename_i z;go_ret;refine⟨?_,hB⟩;have:¬xs=ys:=fun h=>by
     have:A=B:=by rw[Z.out,H2.out,h]
     simp[this] at z
    simp[this]
   rename_i z;refine⟨⟨k+1,by omega,by go_num,fun j hj=>?_,hB⟩,mI⟩;by_cases T:j<k
   ·exact Y.out j T
   have:j=k:=oM;subst this;rw[←Z.out,←H2.out];simpa using z
  go_wp2;go_ret;have:k=n:=oM;subst this;refine⟨?_,N⟩;have:xs=ys:=fSx (by rw[HL.out,X.out]) (by rw[X.out];exact Y.out);simp[this]
 go_enter Tryz.func74,Tryz.ntmps74;have a2:((xs.length:Int)==(ys.length:Int))=false:=by simp;omega
 go_wp2;go_ret;have:¬xs=ys:=fun h=>F (by rw[h])
 exact⟨by simp[this],bR _ _⟩
theorem fFd (v:Value) (xs:List Cont) (k:Int) (w:World) (hv:contsR.V w v (fC7 k xs)) (hw:fDh xs≤1048576) (hn:k+pV xs≤1073741824) (hk0:0≤k) :
  cL 83 #[v,iV k] w fun r w'=>r =.returned (iV (k+pV xs))∧aa w w':=by
 obtain⟨a,cap,rfl,p,A,y⟩:=hv;unfold fC7 at p y ⊢;rw[fIk] at p y ⊢;unfold maxLen at A;have E:∀k,k<xs.length→rF (xs.getD k default)≤1048576:=fun k O=>(gA2 hw O).1
 unfold pV cntL at hn ⊢;have R:Hid (∀j,j<xs.length→(mkL rY gG k xs).getD j default=rY (k+pG gG j xs) (xs.getD j default)∧pG gG (j+1) xs=pG gG j xs+gG (xs.getD j default)∧pG gG (j+1) xs≤pG gG xs.length xs):=
  fun j z=>⟨fP5 _ _ _ _ _ z,xV _ j xs z,fEa _ _ _ _ z⟩
 clear hw;generalize xs.length=n at *;go_enter Tryz.func83,Tryz.ntmps83;go_wp2;go_loopw [1,5] (fun q i w'=>∃j:Nat,j≤n∧i =.int .i64 j∧q =.int .i64 (k+pG gG j xs)∧aa w w') (fun _ i _=>n-(intOf i).toNat)
 case atStart=>exact⟨0,oM,rfl,by simp[pG],bR _ _⟩
 obtain⟨j,z,rfl,rfl,d⟩:=hrel;by_cases g:j<n
 ·
  obtain⟨F,G,ux,rfl,_,B,m⟩:=y j g;obtain⟨H,I,T⟩:=R.out j g;have C:=E j g;rw[H] at m;generalize xs.getD j default=l at *;have J:gG l=1+qV l.legs:=rfl;rw[J] at I;have K:rF l=fAd l.legs:=rfl;rw[K] at C;clear J K;obtain⟨q,L⟩:∃q,q=k+pG gG j xs:=⟨_,rfl⟩
  have U:0≤q:=oM;rw[←L] at m ⊢;have X:Hid (k+pG gG (j+1) xs=q+1+qV l.legs):=by show _=_;omega
  have Y:q+1+qV l.legs≤1073741824:=oM;obtain⟨s,rfl,x⟩:=m;dsimp only[rY] at x;have M:w.cell? ⟨F,G+j*2,none⟩=some (iV (q)):=B 0 oM;replace M:=cK d M;have N:w.cell? ⟨F,G+j*2+1,none⟩=some (s):=B 1 oM;replace N:=cK d N;clear y B H I T E L;go_wp2_with fail;refine(fR4 s l.legs (q+1) _ (legsR.below x qT) oM oM oM).mono ?_;rintro e Z ⟨rfl,b1⟩;go_wp2;refine⟨⟨j+1,by omega,by go_num,?_,qT⟩,mI⟩;rw[X.out]
 go_wp2;go_ret;have D:j=n:=oM;subst D;exact⟨rfl,d⟩
theorem fFq (v:Value) (xs:List Cont) (base:Nat) (F:Nat→Prop) (k:Int) (w:World) (ho:contsR.O w base F v xs) (hw:fDh xs≤1048576) (hn:k+pV xs≤1073741824) (hk0:0≤k) :
  cL 78 #[v,iV k] w fun r w'=>r =.returned (iV (k+pV xs))∧contsR.O w' base F v (fC7 k xs)∧Mod F w w':=by
 obtain⟨cs,us,fs,D,z⟩:=ho;have X:∀k,k<xs.length→rF (xs.getD k default)≤1048576:=fun k hk=>(gA2 hw hk).1
 unfold pV cntL at hn ⊢;have HT:Hid (∀j,j<xs.length→(mkL rY gG k xs).getD j default=rY (k+pG gG j xs) (xs.getD j default)∧pG gG (j+1) xs=pG gG j xs+gG (xs.getD j default)∧pG gG (j+1) xs≤pG gG xs.length xs):=
  fun j E=>⟨fP5 _ _ _ _ _ E,xV _ j xs E,fEa _ _ _ _ E⟩
 clear hw;have Y:=D.len;obtain⟨Z,H,L⟩:=fD D.row;subst L;have HF:Hid (∀b,F b↔((Value.slice Z xs.length H).ownBlock=some b∨∃i,i<xs.length∧fs i b)):=z;have HM:Hid ((mkL rY gG k xs).length=xs.length):=fIk _ _ _ _;clear z;generalize M:xs.length=n at *;clear M;go_enter Tryz.func78,Tryz.ntmps78;go_wp2;go_loopw [1,5] (fun q i w'=>∃(j:Nat) (cs:List Value) (us:Nat→Value),j≤n∧i =.int .i64 j∧q =.int .i64 (k+pG gG j xs)∧PO contR 57 2 kS w' base (.slice Z n H) n n (fun i=>if i<j then (mkL rY gG k xs).getD i default else xs.getD i default) cs us fs∧Mod F w w') (fun _ i _=>n-(intOf i).toNat)
 case atStart=>exact⟨0,cs,us,Nat.zero_le _,rfl,by simp[pG],D.cast (fun i I=>by simp),Mod.refl _ _⟩
 clear D;obtain⟨j,cs,us,E,rfl,rfl,m,hm⟩:=hrel;by_cases d:j<n
 ·
  have he:=m.el j d;simp only[Nat.lt_irrefl,if_false] at he;obtain⟨g,rfl,s⟩:=m.at d d;obtain⟨J,N,t3⟩:=HT.out j d;have C:=X j d;obtain⟨l,hl⟩:∃l,l=xs.getD j default:=⟨_,rfl⟩
  rw[←hl] at J N C he;have tC:gG l=1+qV l.legs:=rfl;rw[tC] at N;have tW:rF l=fAd l.legs:=rfl;rw[tW] at C;clear tC tW;obtain⟨q,K⟩:∃q,q=k+pG gG j xs:=⟨_,rfl⟩
  have a0:0≤q:=oM;rw[←K] at J ⊢;have T1:Hid ((mkL rY gG k xs).getD j default=rY q l):=J;have T2:Hid (k+pG gG (j+1) xs=q+1+qV l.legs):=by show _=_;omega
  have a1:q+1+qV l.legs≤1073741824:=oM;obtain⟨y,F1,hu,h1,z⟩:=he;rw[hu] at s;have g0:wr.cell? ⟨g,j*2,none⟩=some (iV l.id):=s 0 oM;have g1:wr.cell? ⟨g,j*2+1,none⟩=some (y):=s 1 oM;have p:=m.row;have R:=p.1;have hf:=fun j=>p.frozenAt j
  clear hl J N t3 X K s;go_wp2_with fail;have A:=p.stored (j*2) (iV (q));replace h1:=legsR.mod h1 (Mod.of_grown A.2) (fun b hb he=>m.out j d b ((z b).2 hb) he);have M1:=(Mod.of_grown A.2).mono (G:=fun b=>(Value.slice (some ⟨g,0,none⟩) n H).ownBlock=some b∨fs j b) (fun b hb=>.inl hb);refine(fIl y l.legs base F1 (q+1) _ h1 oM oM oM).mono ?_;rintro e a2 ⟨rfl,r1,m1⟩;have T:=m1.owns A.1 (fun b he hb=>m.out j d b ((z b).2 hb) he);have M2:=m1.mono (G:=fun b=>(Value.slice (some ⟨g,0,none⟩) n H).ownBlock=some b∨fs j b) (fun b hb=>.inr ((z b).2 hb));go_wp2;have K:=m.turn (u:=(.agg #[iV (q),y])) (x:=rY q l) d (M1.trans M2) ⟨y,F1,rfl,r1,z⟩ rfl T ?_ ?_
  ·
   refine⟨⟨j+1,_,_,by omega,by go_num,by rw[T2.out],K.cast fun i I=>?_,hm.trans ((M1.trans M2).mono fun b hb=>(HF.out b).2 ?_)⟩,mI⟩
   ·
    by_cases B:i=j
    ·subst B;rw[gY,if_pos oM];exact T1.out
    rw[upd_ne _ _ B];by_cases h:i<j
    ·rw[if_pos h,if_pos oM]
    rw[if_neg h,if_neg oM]
   rcases hb with hb|hb
   ·exact .inl hb
   exact .inr ⟨j,d,hb⟩
  ·intro i I B o ho;simp only[List.getElem?_set];rw[if_neg oM]
  intro o ho;have U:o=0∨o=1:=oM;rcases U with rfl|rfl
  ·rw[show j*2+0=j*2 from rfl,List.getElem?_set_self (by(try simp only[List.length_set]);omega)];rfl
  rw[List.getElem?_set_ne oM,m.cell j d 1 oM,hu];rfl
 go_wp2;go_ret;have V:j=n:=oM;subst V;refine⟨rfl,⟨cs,us,fs,?_,?_⟩,hm⟩
 ·unfold fC7;rw[HM.out];exact m.cast (fun i I=>by rw[if_pos I])
 unfold fC7;rw[HM.out];exact HF.out
end
section
variable [dQ Leg] [iH Leg]
def kT (ys:List Int):List Value:=ys.map (Value.int .i64)
theorem fC2:(Tryz.prog.info? 2).map (fun i=>(i.zero,i.size,i.bytes))=some (some (iV 0),1,8):=kF
def xN (w:World) (v:Value) (ys:List Int):Prop:=
 ∃a cap,v =.slice a ys.length cap∧ys.length≤cap∧cap≤maxLen∧∀i,i<ys.length→∃b o,a=some ⟨b,o,none⟩∧w.cell? ⟨b,o+i,none⟩=some (.int .i64 (ys.getD i 0))
theorem fA2 {w w':World} {v:Value} {ys:List Int} (h:xN w v ys) (hb:aa w w'):xN w' v ys:=by
 obtain⟨a,cap,rfl,h1,h2,d⟩:=h;exact⟨a,cap,rfl,h1,h2,fun i e=>by
  obtain⟨b,o,ha,g⟩:=d i e;exact⟨b,o,ha,cK hb g⟩⟩
theorem yH {w:World} {base e:Nat} {v:Value} {ys:List Int} (h:w.ownsRow base e 1 v ys.length (kT ys)):xN w v ys:=by
 rcases h.2 with ⟨rfl,m⟩|⟨g,cap,cur,rfl,hb,p,d,j,n,k⟩
 ·exact⟨none,0,by rw[m],oM,by unfold maxLen;omega,fun i l=>oM⟩
 refine⟨some ⟨g,0,none⟩,cap,rfl,d,j,fun i l=>⟨g,0,rfl,?_⟩⟩;rw[Nat.zero_add];refine(h.cellAt i oM).trans ?_;simp[kT,List.getD,l]
theorem fH1 {xs ys:List Int} (hl:ys.length=xs.length) (h:∀j,j<xs.length→xs.getD j 0=ys.getD j 0):xs=ys:=by
 apply List.ext_getElem oM;intro i h1 h2;have:=h i h1;simpa [List.getD,h1,h2] using this
theorem fLe (x y:Value) (xs ys:List Int) (w:World) (hx:xN w x xs) (hy:xN w y ys) :
  RI 75 #[x,y] w (.bool (decide (xs=ys))):=by
 obtain⟨V,X,rfl,L,r,hx⟩:=hx;obtain⟨Y,Z,rfl,s,z,hy⟩:=hy;unfold maxLen at r z;by_cases q:ys.length=xs.length
 ·
  rw[q] at s hy ⊢;have M:Hid (ys.length=xs.length):=q;clear q;generalize E:xs.length=n at *;have F:Hid (xs.length=n):=E;clear E;go_enter Tryz.func75,Tryz.ntmps75;go_wp2;go_loopw [5] (fun i w'=>∃k:Nat,k≤n∧i =.int .i64 k∧(∀j,j<k→xs.getD j 0=ys.getD j 0)∧aa w w') (fun i _=>n-(intOf i).toNat)
  case atStart=>exact⟨0,oM,rfl,fun j h=>absurd h oM,bR _ _⟩
  obtain⟨k,hk,rfl,d,A⟩:=hrel;have G:Hid (∀j,j<k→xs.getD j 0=ys.getD j 0):=d;clear d;by_cases p:k<n
  ·
   obtain⟨N,O,rfl,h1⟩:=hx k p;obtain⟨R,T,rfl,h2⟩:=hy k p;obtain⟨B,e⟩:∃l,l=xs.getD k 0:=⟨_,rfl⟩
   obtain⟨C,g⟩:∃l,l=ys.getD k 0:=⟨_,rfl⟩
   rw[←e] at h1;rw[←g] at h2;have H:Hid (B=xs.getD k 0):=e;have I:Hid (C=ys.getD k 0):=g;clear e g hx hy;go_wp2;go_region_held3 (fun w'=>aa w w'∧cI w' N (O+k) B∧cI w' R (T+k) C) ((refine fYp ?_ h1 h2;repeat (first|exact bR _ _|assumption|refine bD ?_|refine bA ?_ _|refine bS ?_ (by assumption)))) (fail);rename_i J;have K:=J.1;clear J;go_wp2
   ·
    rename_i m;go_ret;refine⟨?_,K⟩;have:¬xs=ys:=fun h=>by
     have:B=C:=by rw[H.out,I.out,h]
     simp[this] at m
    simp[this]
   rename_i m;refine⟨⟨k+1,by omega,by go_num,fun j hj=>?_,K⟩,mI⟩;by_cases D:j<k
   ·exact G.out j D
   have:j=k:=oM;subst this;rw[←H.out,←I.out];simpa using m
  go_wp2;go_ret;have:k=n:=oM;subst this;refine⟨?_,A⟩;have:xs=ys:=fH1 (by rw[M.out,F.out]) (by rw[F.out];exact G.out);simp[this]
 go_enter Tryz.func75,Tryz.ntmps75;have U:((xs.length:Int)==(ys.length:Int))=false:=by simp;omega
 go_wp2;go_ret;have:¬xs=ys:=fun h=>q (by rw[h])
 exact⟨by simp[this],bR _ _⟩
def fB5 (k:Int) (n:Nat):List Int:=(List.range n).map (fun i:Nat=>k+(i:Int))
theorem rV (k:Int) (n:Nat):(fB5 k n).length=n:=by simp[fB5]
theorem fE5 (k:Int) (n i:Nat) (h:i<n):(fB5 k n).getD i 0=k+i:=by simp[fB5,List.getD,h]
def fWf (k:Nat) (cs:List Value) (ys:List Int):Prop:=∀j,j<k→cs[j]? = (kT ys)[j]?
theorem fTh {n:Nat} {cs:List Value} {ys:List Int} (h:fWf n cs ys) (hl:cs.length=n*1) (hn:ys.length=n):cs=kT ys:=by
 apply List.ext_getElem?;intro j;by_cases d:j<n
 ·exact h j d
 rw[List.getElem?_eq_none oM,List.getElem?_eq_none (by simp[kT];omega)]
theorem fWg {k:Nat} {cs:List Value} {ys:List Int} {l:Int} (h:fWf k cs ys) (hk:k<ys.length) (hl:cs.length=ys.length*1) (he:l=ys.getD k 0):fWf (k+1) (cs.set k (iV l)) ys:=by
 intro j d;rw[List.getElem?_set];by_cases e:k=j
 ·subst e;rw[if_pos rfl,if_pos oM];simp[kT,he,List.getD,hk]
 rw[if_neg e];exact h j oM
theorem fG8 (v:Value) (n:Nat) (cs:List Value) (base e:Nat) (k:Int) (w:World) (ho:w.ownsRow base e 1 v n cs) (hn:n≤1048576) (hk0:0≤k) (hk1:k≤1073741824) :
  cL 79 #[v,iV k] w fun r w'=>r =.returned (iV (k+n))∧w'.ownsRow base e 1 v n (kT (fB5 k n))∧w.grownBy w' v.ownBlock:=by
 rcases ho.2 with ⟨rfl,rfl⟩|⟨g,cap,cur,rfl,hb,B,C,x,_,_⟩
 ·
  go_enter Tryz.func79,Tryz.ntmps79;go_wp2;go_loopw [1,5] (fun q i w'=>q =.int .i64 k∧i =.int .i64 0∧w'=w) (fun _ _ _=>0)
  case atStart=>exact⟨rfl,rfl,rfl⟩
  obtain⟨rfl,rfl,rfl⟩:=hrel;go_wp2;go_ret;exact⟨by simp,World.ownsRow_nil _ _ _ _,fAl _ _⟩
 unfold maxLen at x;go_enter Tryz.func79,Tryz.ntmps79;go_wp2;go_loopw [1,5] (fun q i w'=>∃(j:Nat) (l:List Value),j≤n∧i =.int .i64 j∧q =.int .i64 (k+j)∧w'.ownsRow base e 1 (.slice (some ⟨g,0,none⟩) n cap) n l∧fWf j l (fB5 k n)∧w.grownBy w' (some g)) (fun _ i _=>n-(intOf i).toNat)
 case atStart=>exact⟨0,cs,Nat.zero_le _,rfl,by simp,ho,fun j h=>oM,fAl _ _⟩
 obtain⟨j,l,E,rfl,rfl,d,m,p⟩:=hrel;have z:Hid (fWf j l (fB5 k n)):=m;clear m ho B;by_cases s:j<n
 ·
  obtain⟨u0,F⟩:=kL d j oM;have G:=fun j=>d.frozenAt j
  go_wp2;have A:=d.stored j (iV (k+j));refine⟨⟨j+1,_,by omega,by go_num,?_,A.1,fWg z.out (by rw[rV];exact s) (by rw[rV];exact d.1) (fE5 k n j s).symm,vP p A.2⟩,mI⟩;congr 1;omega
 go_wp2;go_ret;have y:j=n:=oM;subst y;have D:=fTh z.out d.1 (rV k j);rw[D] at d;exact⟨rfl,d,p⟩
theorem fG1 (v:Value) (n:Nat) (k:Int) (w:World) (hv:xN w v (fB5 k n)) (hn:n≤1048576) (hk0:0≤k) (hk1:k≤1073741824) :
  cL 84 #[v,iV k] w fun r w'=>r =.returned (iV (k+n))∧w'=w:=by
 obtain⟨a,cap,rfl,e,g,l⟩:=hv;rw[rV] at e l ⊢;unfold maxLen at g;go_enter Tryz.func84,Tryz.ntmps84;go_wp2;go_loopw [1,5] (fun q i w'=>∃j:Nat,j≤n∧i =.int .i64 j∧q =.int .i64 (k+j)∧w'=w) (fun _ i _=>n-(intOf i).toNat)
 case atStart=>exact⟨0,oM,rfl,by simp,rfl⟩
 obtain⟨j,p,rfl,rfl,rfl⟩:=hrel;by_cases d:j<n
 ·obtain⟨b,o,rfl,h1⟩:=l j d;rw[fE5 k n j d] at h1;clear l;go_wp2;refine⟨⟨j+1,by omega,by go_num,?_,trivial⟩,mI⟩;congr 1;omega
 go_wp2;go_ret;have m:j=n:=oM;subst m;exact⟨rfl,rfl⟩
def intsR:Rep (List Int):=fRep 2 1 kT xN fA2 yH
def fGu (xs:List Int):Nat:=xs.length
def yL (xs:List Int):Nat:=xs.length
def fQk (k:Int) (xs:List Int):List Int:=fB5 k xs.length
theorem gL {w:World} {v:Value} {xs:List Int} (h:intsR.V w v xs):∃a c,v =.slice a xs.length c:=by
 obtain⟨a,c,rfl,_⟩:=h;exact⟨_,_,rfl⟩
theorem fXu (d:List Int):yL d≤1*fGu d:=by unfold yL fGu;omega
theorem fRv (x y:Value) (d d':List Int) (w:World) (hx:intsR.V w x d) (hy:intsR.V w y d') :
  RI 75 #[x,y] w (.bool (decide (d=d'))):=fLe x y d d' w hx hy
theorem fL7 (v:Value) (d:List Int) (base:Nat) (F:Nat→Prop) (k:Int) (w:World) (ho:intsR.O w base F v d) (hw:fGu d≤1048576) (hn:k+yL d≤1073741824) (hk0:0≤k) :
  cL 79 #[v,iV k] w fun r w'=>r =.returned (iV (k+yL d))∧intsR.O w' base F v (fQk k d)∧Mod F w w':=by
 refine(fG8 v d.length _ base _ k w ho.1 hw hk0 oM).mono ?_;rintro e w' ⟨rfl,h1,h2⟩;refine⟨by simp[yL],⟨?_,ho.2⟩,by rw[ho.2];exact Mod.of_grown h2⟩;unfold fQk;rw[rV];exact h1
theorem fLo (v:Value) (d:List Int) (k:Int) (w:World) (hv:intsR.V w v (fQk k d)) (hw:fGu d≤1048576) (hn:k+yL d≤1073741824) (hk0:0≤k) :
  cL 84 #[v,iV k] w fun r w'=>r =.returned (iV (k+yL d))∧aa w w':=by
 refine(fG1 v d.length k w hv hw hk0 oM).mono ?_;rintro e w' ⟨rfl,rfl⟩;exact⟨by simp[yL],bR _ _⟩
variable [dQ Bal] [iH Bal] [dQ Mrk] [iH Mrk] [dQ Cont] [iH Cont]
structure Shd where
 idx:Int
 bals:List Bal
 votes:List Mrk
 held:List Cont
 done:List Mrk
 appl:List Int
variable [dQ Shd] [iH Shd]
def shdR:Rep Shd where
 V:=fun w v x=>∃u1 u2 u3 u4 u5,v =.agg #[.int .i64 x.idx,u1,u2,u3,u4,u5]∧balsR.V w u1 x.bals∧mrksR.V w u2 x.votes∧contsR.V w u3 x.held∧mrksR.V w u4 x.done∧intsR.V w u5 x.appl
 O:=fun w base F v x=>∃u1 u2 u3 u4 u5 F1 F2 F3 F4 F5,v =.agg #[.int .i64 x.idx,u1,u2,u3,u4,u5]∧balsR.O w base F1 u1 x.bals∧mrksR.O w base F2 u2 x.votes∧contsR.O w base F3 u3 x.held∧mrksR.O w base F4 u4 x.done∧intsR.O w base F5 u5 x.appl∧(∀b,F1 b→¬F2 b)∧(∀b,F1 b→¬F3 b)∧(∀b,F1 b→¬F4 b)∧(∀b,F1 b→¬F5 b)∧(∀b,F2 b→¬F3 b)∧(∀b,F2 b→¬F4 b)∧(∀b,F2 b→¬F5 b)∧(∀b,F3 b→¬F4 b)∧(∀b,F3 b→¬F5 b)∧(∀b,F4 b→¬F5 b)∧(∀b,F b↔(F1 b∨F2 b∨F3 b∨F4 b∨F5 b))
 below:=fun h hb=>by
  obtain⟨u1,u2,u3,u4,u5,rfl,h1,h2,h3,h4,h5⟩:=h;exact⟨u1,u2,u3,u4,u5,rfl,balsR.below h1 hb,mrksR.below h2 hb,contsR.below h3 hb,mrksR.below h4 hb,intsR.below h5 hb⟩
 ofO:=fun h=>by
  obtain⟨u1,u2,u3,u4,u5,F1,F2,F3,F4,F5,rfl,h1,h2,h3,h4,h5,_⟩:=h;exact⟨u1,u2,u3,u4,u5,rfl,balsR.ofO h1,mrksR.ofO h2,contsR.ofO h3,mrksR.ofO h4,intsR.ofO h5⟩
 mod:=fun h hm hd=>by
  obtain⟨u1,u2,u3,u4,u5,F1,F2,F3,F4,F5,rfl,h1,h2,h3,h4,h5,s12,s13,s14,s15,s23,s24,s25,s34,s35,s45,hF⟩:=h;exact⟨u1,u2,u3,u4,u5,F1,F2,F3,F4,F5,rfl,balsR.mod h1 hm (fun b hb=>hd b ((hF b).2 (.inl hb))),mrksR.mod h2 hm (fun b hb=>hd b ((hF b).2 (.inr (.inl hb)))),contsR.mod h3 hm (fun b hb=>hd b ((hF b).2 (.inr (.inr (.inl hb))))),mrksR.mod h4 hm (fun b hb=>hd b ((hF b).2 (.inr (.inr (.inr (.inl hb)))))),intsR.mod h5 hm (fun b hb=>hd b ((hF b).2 (.inr (.inr (.inr (.inr hb)))))),s12,s13,s14,s15,s23,s24,s25,s34,s35,s45,hF⟩
 rng:=fun h b hb=>by
  obtain⟨u1,u2,u3,u4,u5,F1,F2,F3,F4,F5,rfl,h1,h2,h3,h4,h5,s12,s13,s14,s15,s23,s24,s25,s34,s35,s45,hF⟩:=h;rcases(hF b).1 hb with hb|hb|hb|hb|hb
  ·exact balsR.rng h1 b hb
  ·exact mrksR.rng h2 b hb
  ·exact contsR.rng h3 b hb
  ·exact mrksR.rng h4 b hb
  exact intsR.rng h5 b hb
 base:=fun h hb=>by
  obtain⟨u1,u2,u3,u4,u5,F1,F2,F3,F4,F5,rfl,h1,h2,h3,h4,h5,s12,s13,s14,s15,s23,s24,s25,s34,s35,s45,hF⟩:=h;exact⟨u1,u2,u3,u4,u5,F1,F2,F3,F4,F5,rfl,balsR.base h1 hb,mrksR.base h2 hb,contsR.base h3 hb,mrksR.base h4 hb,intsR.base h5 hb,s12,s13,s14,s15,s23,s24,s25,s34,s35,s45,hF⟩
def fAt (x:Shd):Nat:=qZ x.bals+fDz x.votes+fDh x.held+fDz x.done+fGu x.appl
def fBm (x:Shd):Nat:=mH x.bals+mZ x.votes+pV x.held+mZ x.done+yL x.appl
def yC (k:Int) (x:Shd):Shd:={x with bals:=fL9 k x.bals,votes:=fMb (k+mH x.bals) x.votes,held:=fC7 (k+mH x.bals+mZ x.votes) x.held,done:=fMb (k+mH x.bals+mZ x.votes+pV x.held) x.done,appl:=fQk (k+mH x.bals+mZ x.votes+pV x.held+mZ x.done) x.appl}
theorem fCe {w:World} {v:Value} {x:Shd} (h:shdR.V w v x):∃a1 a2 a3 a4 a5 c1 c2 c3 c4 c5,v =.agg #[iV x.idx,.slice a1 x.bals.length c1,.slice a2 x.votes.length c2,.slice a3 x.held.length c3,.slice a4 x.done.length c4,.slice a5 x.appl.length c5]:=by
 obtain⟨u1,u2,u3,u4,u5,rfl,h1,h2,d,e,g⟩:=h;obtain⟨a1,c1,rfl⟩:=fQ h1;obtain⟨a2,c2,rfl⟩:=fH h2;obtain⟨a3,c3,rfl⟩:=fM d;obtain⟨a4,c4,rfl⟩:=fH e;obtain⟨a5,c5,rfl⟩:=gL g;exact⟨_,_,_,_,_,_,_,_,_,_,rfl⟩
theorem fZx (d:Shd):fBm d≤5*fAt d:=by
 unfold fBm fAt;have q1:=fPp d.bals;have q2:=fQl d.votes;have e:=fT5 d.held;have g:=fQl d.done;have j:=fXu d.appl;omega
theorem fUa (x y:Value) (d d':Shd) (w:World) (hx:shdR.V w x d) (hy:shdR.V w y d') :
  RI 38 #[x,y] w (.bool (decide (d=d'))):=by
 obtain⟨u1,u2,u3,u4,u5,rfl,h1,h2,h3,h4,h5⟩:=hx;obtain⟨Z,v2,v3,v4,v5,rfl,k1,k2,k3,k4,k5⟩:=hy;obtain⟨s,U,A,X,done,Y⟩:=d;obtain⟨g,B,z,C,D,E⟩:=d';dsimp only at h1 k1 h2 k2 h3 k3 h4 k4 h5 k5;go_enter Tryz.func38,Tryz.ntmps38;go_wp2_with fail;all_goals try (go_ret;exact⟨by simp_all,hE⟩)
 refine(fDl _ _ U B _ (balsR.below h1 hE) (balsR.below k1 hE)).mono ?_;rintro e j ⟨rfl,k⟩;have F:cI j w.heap.size 0 s:=cK k sG;have G:cW j w.heap.size 1 u1:=cK k sG;have H:cW j w.heap.size 2 u2:=cK k sG;have I:cW j w.heap.size 3 u3:=cK k sG;have J:cW j w.heap.size 4 u4:=cK k sG;have K:cW j w.heap.size 5 u5:=cK k sG;have L:cI j (w.heap.size+1) 0 g:=cK k sG;have M:cW j (w.heap.size+1) 1 Z:=cK k sG;have N:cW j (w.heap.size+1) 2 v2:=cK k sG;have O:cW j (w.heap.size+1) 3 v3:=cK k sG;have R:cW j (w.heap.size+1) 4 v4:=cK k sG;have T:cW j (w.heap.size+1) 5 v5:=cK k sG;go_wp2_with fail;all_goals try (go_ret;exact⟨by simp_all,hE⟩)
 refine(fLf _ _ A z _ (mrksR.below h2 hE) (mrksR.below k2 hE)).mono ?_;rintro e l ⟨rfl,m⟩;replace F:cI l w.heap.size 0 s:=cK m F;replace G:cW l w.heap.size 1 u1:=cK m G;replace H:cW l w.heap.size 2 u2:=cK m H;replace I:cW l w.heap.size 3 u3:=cK m I;replace J:cW l w.heap.size 4 u4:=cK m J;replace K:cW l w.heap.size 5 u5:=cK m K;replace L:cI l (w.heap.size+1) 0 g:=cK m L;replace M:cW l (w.heap.size+1) 1 Z:=cK m M;replace N:cW l (w.heap.size+1) 2 v2:=cK m N;replace O:cW l (w.heap.size+1) 3 v3:=cK m O;replace R:cW l (w.heap.size+1) 4 v4:=cK m R;replace T:cW l (w.heap.size+1) 5 v5:=cK m T;go_wp2_with fail;all_goals try (go_ret;exact⟨by simp_all,hE⟩)
 refine(fJk _ _ X C _ (contsR.below h3 hE) (contsR.below k3 hE)).mono ?_;rintro e n ⟨rfl,p⟩;replace F:cI n w.heap.size 0 s:=cK p F;replace G:cW n w.heap.size 1 u1:=cK p G;replace H:cW n w.heap.size 2 u2:=cK p H;replace I:cW n w.heap.size 3 u3:=cK p I;replace J:cW n w.heap.size 4 u4:=cK p J;replace K:cW n w.heap.size 5 u5:=cK p K;replace L:cI n (w.heap.size+1) 0 g:=cK p L;replace M:cW n (w.heap.size+1) 1 Z:=cK p M;replace N:cW n (w.heap.size+1) 2 v2:=cK p N;replace O:cW n (w.heap.size+1) 3 v3:=cK p O;replace R:cW n (w.heap.size+1) 4 v4:=cK p R;replace T:cW n (w.heap.size+1) 5 v5:=cK p T;go_wp2_with fail;all_goals try (go_ret;exact⟨by simp_all,hE⟩)
 refine(fLf _ _ done D _ (mrksR.below h4 hE) (mrksR.below k4 hE)).mono ?_;rintro e q ⟨rfl,r⟩;replace F:cI q w.heap.size 0 s:=cK r F;replace G:cW q w.heap.size 1 u1:=cK r G;replace H:cW q w.heap.size 2 u2:=cK r H;replace I:cW q w.heap.size 3 u3:=cK r I;replace J:cW q w.heap.size 4 u4:=cK r J;replace K:cW q w.heap.size 5 u5:=cK r K;replace L:cI q (w.heap.size+1) 0 g:=cK r L;replace M:cW q (w.heap.size+1) 1 Z:=cK r M;replace N:cW q (w.heap.size+1) 2 v2:=cK r N;replace O:cW q (w.heap.size+1) 3 v3:=cK r O;replace R:cW q (w.heap.size+1) 4 v4:=cK r R;replace T:cW q (w.heap.size+1) 5 v5:=cK r T;go_wp2_with fail;all_goals try (go_ret;exact⟨by simp_all,hE⟩)
 refine(fRv _ _ Y E _ (intsR.below h5 hE) (intsR.below k5 hE)).mono ?_;rintro e w5 ⟨rfl,b5⟩;go_wp2;all_goals
  go_ret;exact⟨by simp_all,hE⟩
theorem fOt (v:Value) (d:Shd) (base:Nat) (F:Nat→Prop) (k:Int) (w:World) (ho:shdR.O w base F v d) (hw:fAt d≤1048576) (hn:k+fBm d≤1073741824) (hk0:0≤k) :
  cL 41 #[v,iV k] w fun r w'=>r =.returned (iV (k+fBm d))∧shdR.O w' base F v (yC k d)∧Mod F w w':=by
 obtain⟨u1,u2,u3,u4,u5,F1,F2,F3,F4,F5,rfl,h1,h2,x,y,h5,z,A,B,C,D,E,G,H,I,J,hF⟩:=ho;unfold fAt at hw;unfold fBm at hn ⊢;have N:Hid (∀b,F b↔(F1 b∨F2 b∨F3 b∨F4 b∨F5 b)):=hF;clear hF;go_enter Tryz.func41,Tryz.ntmps41;go_wp2_with fail;refine(fAz _ d.bals base F1 k _ (balsR.alloc h1 _) oM oM oM).mono ?_;rintro e R ⟨rfl,n,g⟩;have a3:=mrksR.mod (mrksR.alloc h2 _) g (fun b p q=>z b q p);have a4:=contsR.mod (contsR.alloc x _) g (fun b p q=>A b q p);have a5:=mrksR.mod (mrksR.alloc y _) g (fun b p q=>B b q p);have a6:=intsR.mod (intsR.alloc h5 _) g (fun b p q=>C b q p);have T:cI R w.heap.size 0 d.idx:=g.cell sG (nI balsR h1);have U:cW R w.heap.size 1 u1:=g.cell sG (nI balsR h1);have V:cW R w.heap.size 2 u2:=g.cell sG (nI balsR h1);have X:cW R w.heap.size 3 u3:=g.cell sG (nI balsR h1);have Y:cW R w.heap.size 4 u4:=g.cell sG (nI balsR h1);have Z:cW R w.heap.size 5 u5:=g.cell sG (nI balsR h1);go_wp2_with fail;refine(fFr _ d.votes base F2 (k+mH d.bals) _ a3 oM oM oM).mono ?_;rintro e w2 ⟨rfl,K,j⟩;have a0:=contsR.mod a4 j (fun b p q=>D b q p)
 have a1:=mrksR.mod a5 j (fun b p q=>E b q p);have a2:=intsR.mod a6 j (fun b p q=>G b q p);replace T:cI w2 w.heap.size 0 d.idx:=j.cell T (nI mrksR h2);replace U:cW w2 w.heap.size 1 u1:=j.cell U (nI mrksR h2);replace V:cW w2 w.heap.size 2 u2:=j.cell V (nI mrksR h2);replace X:cW w2 w.heap.size 3 u3:=j.cell X (nI mrksR h2);replace Y:cW w2 w.heap.size 4 u4:=j.cell Y (nI mrksR h2);replace Z:cW w2 w.heap.size 5 u5:=j.cell Z (nI mrksR h2);replace n:=balsR.mod n j (fun b p q=>z b p q);go_wp2_with fail;refine(fFq _ d.held base F3 (k+mH d.bals+mZ d.votes) _ a0 oM oM oM).mono ?_;rintro e w3 ⟨rfl,r3,l⟩;have L:=mrksR.mod a1 l (fun b p q=>H b q p);have M:=intsR.mod a2 l (fun b p q=>I b q p);replace T:cI w3 w.heap.size 0 d.idx:=l.cell T (nI contsR x);replace U:cW w3 w.heap.size 1 u1:=l.cell U (nI contsR x);replace V:cW w3 w.heap.size 2 u2:=l.cell V (nI contsR x)
 replace X:cW w3 w.heap.size 3 u3:=l.cell X (nI contsR x);replace Y:cW w3 w.heap.size 4 u4:=l.cell Y (nI contsR x);replace Z:cW w3 w.heap.size 5 u5:=l.cell Z (nI contsR x);replace n:=balsR.mod n l (fun b p q=>A b p q);replace K:=mrksR.mod K l (fun b p q=>D b p q);go_wp2_with fail;refine(fFr _ d.done base F4 (k+mH d.bals+mZ d.votes+pV d.held) _ L oM oM oM).mono ?_;rintro e w4 ⟨rfl,r4,m⟩;have s:=intsR.mod M m (fun b p q=>J b q p);replace T:cI w4 w.heap.size 0 d.idx:=m.cell T (nI mrksR y);replace U:cW w4 w.heap.size 1 u1:=m.cell U (nI mrksR y);replace V:cW w4 w.heap.size 2 u2:=m.cell V (nI mrksR y);replace X:cW w4 w.heap.size 3 u3:=m.cell X (nI mrksR y);replace Y:cW w4 w.heap.size 4 u4:=m.cell Y (nI mrksR y);replace Z:cW w4 w.heap.size 5 u5:=m.cell Z (nI mrksR y);replace n:=balsR.mod n m (fun b p q=>B b p q);replace K:=mrksR.mod K m (fun b p q=>E b p q)
 replace r3:=contsR.mod r3 m (fun b p q=>H b p q);go_wp2_with fail;refine(fL7 _ d.appl base F5 (k+mH d.bals+mZ d.votes+pV d.held+mZ d.done) _ s oM oM oM).mono ?_;rintro e w5 ⟨rfl,r5,m5⟩;replace n:=balsR.mod n m5 (fun b p q=>C b p q);replace K:=mrksR.mod K m5 (fun b p q=>G b p q);replace r3:=contsR.mod r3 m5 (fun b p q=>I b p q);replace r4:=mrksR.mod r4 m5 (fun b p q=>J b p q);go_wp2;go_ret;refine⟨?_,⟨_,_,_,_,_,F1,F2,F3,F4,F5,rfl,n,K,r3,r4,r5,z,A,B,C,D,E,G,H,I,J,N.out⟩,((((((Mod.refl F w).alloc _).trans (g.mono (fun b hb=>(N.out b).2 (.inl hb)))).trans (j.mono (fun b hb=>(N.out b).2 (.inr (.inl hb))))).trans (l.mono (fun b hb=>(N.out b).2 (.inr (.inr (.inl hb)))))).trans (m.mono (fun b hb=>(N.out b).2 (.inr (.inr (.inr (.inl hb))))))).trans (m5.mono (fun b hb=>(N.out b).2 (.inr (.inr (.inr (.inr hb))))))⟩;simp;try omega
theorem fNy (v:Value) (d:Shd) (k:Int) (w:World) (hv:shdR.V w v (yC k d)) (hw:fAt d≤1048576) (hn:k+fBm d≤1073741824) (hk0:0≤k) :
  cL 43 #[v,iV k] w fun r w'=>r =.returned (iV (k+fBm d))∧aa w w':=by
 obtain⟨u1,u2,u3,u4,u5,rfl,h1,h2,D,E,F⟩:=hv;unfold fAt at hw;unfold fBm at hn ⊢;go_enter Tryz.func43,Tryz.ntmps43;go_wp2_with fail;refine(fAy _ d.bals k _ (balsR.below h1 hE) oM oM oM).mono ?_;rintro e g ⟨rfl,j⟩;have l:cI g w.heap.size 0 d.idx:=cK j (by simp[go_sem,yC]);have m:cW g w.heap.size 1 u1:=cK j (by simp[go_sem,yC]);have n:cW g w.heap.size 2 u2:=cK j (by simp[go_sem,yC]);have p:cW g w.heap.size 3 u3:=cK j (by simp[go_sem,yC]);have q:cW g w.heap.size 4 u4:=cK j (by simp[go_sem,yC]);have s:cW g w.heap.size 5 u5:=cK j (by simp[go_sem,yC]);go_wp2_with fail;refine(fFf _ d.votes (k+mH d.bals) _ (mrksR.below h2 hE) oM oM oM).mono ?_;rintro e x ⟨rfl,y⟩;replace l:cI x w.heap.size 0 d.idx:=cK y l;replace m:cW x w.heap.size 1 u1:=cK y m;replace n:cW x w.heap.size 2 u2:=cK y n;replace p:cW x w.heap.size 3 u3:=cK y p;replace q:cW x w.heap.size 4 u4:=cK y q;replace s:cW x w.heap.size 5 u5:=cK y s;go_wp2_with fail;refine(fFd _ d.held (k+mH d.bals+mZ d.votes) _ (contsR.below D hE) oM oM oM).mono ?_;rintro e z ⟨rfl,A⟩;replace l:cI z w.heap.size 0 d.idx:=cK A l;replace m:cW z w.heap.size 1 u1:=cK A m;replace n:cW z w.heap.size 2 u2:=cK A n
 replace p:cW z w.heap.size 3 u3:=cK A p;replace q:cW z w.heap.size 4 u4:=cK A q;replace s:cW z w.heap.size 5 u5:=cK A s;go_wp2_with fail;refine(fFf _ d.done (k+mH d.bals+mZ d.votes+pV d.held) _ (mrksR.below E hE) oM oM oM).mono ?_;rintro e B ⟨rfl,C⟩;replace l:cI B w.heap.size 0 d.idx:=cK C l;replace m:cW B w.heap.size 1 u1:=cK C m;replace n:cW B w.heap.size 2 u2:=cK C n;replace p:cW B w.heap.size 3 u3:=cK C p;replace q:cW B w.heap.size 4 u4:=cK C q;replace s:cW B w.heap.size 5 u5:=cK C s;go_wp2_with fail;refine(fLo _ d.appl (k+mH d.bals+mZ d.votes+pV d.held+mZ d.done) _ (intsR.below F hE) oM oM oM).mono ?_;rintro e G ⟨rfl,H⟩;go_wp2;go_ret;refine⟨?_,hE⟩;simp;try omega
variable [dQ Logg] [iH Logg] [dQ Jrn] [iH Jrn] [dQ Shd] [iH Shd]
structure JrnR where
 code:Int
 jrn:Jrn
 shard:Shd
variable [dQ JrnR] [iH JrnR]
def jrnRR:Rep JrnR where
 V:=fun w v x=>∃u1_1 u1_2_1 u1_2_2 u2_1 u2_2 u2_3 u2_4 u2_5,v =.agg #[.int .i64 x.code,.int .i64 x.jrn.idx,u1_1,u1_2_1,u1_2_2,.int .i64 x.shard.idx,u2_1,u2_2,u2_3,u2_4,u2_5]∧jrnR.V w (.agg #[.int .i64 x.jrn.idx,u1_1,u1_2_1,u1_2_2]) x.jrn∧shdR.V w (.agg #[.int .i64 x.shard.idx,u2_1,u2_2,u2_3,u2_4,u2_5]) x.shard
 O:=fun w base F v x=>∃u1_1 u1_2_1 u1_2_2 u2_1 u2_2 u2_3 u2_4 u2_5 F1 F2,v =.agg #[.int .i64 x.code,.int .i64 x.jrn.idx,u1_1,u1_2_1,u1_2_2,.int .i64 x.shard.idx,u2_1,u2_2,u2_3,u2_4,u2_5]∧jrnR.O w base F1 (.agg #[.int .i64 x.jrn.idx,u1_1,u1_2_1,u1_2_2]) x.jrn∧shdR.O w base F2 (.agg #[.int .i64 x.shard.idx,u2_1,u2_2,u2_3,u2_4,u2_5]) x.shard∧(∀b,F1 b→¬F2 b)∧(∀b,F b↔(F1 b∨F2 b))
 below:=fun h hb=>by
  obtain⟨u1_1,u1_2_1,u1_2_2,u2_1,u2_2,u2_3,u2_4,u2_5,rfl,h1,h2⟩:=h;exact⟨u1_1,u1_2_1,u1_2_2,u2_1,u2_2,u2_3,u2_4,u2_5,rfl,jrnR.below h1 hb,shdR.below h2 hb⟩
 ofO:=fun h=>by
  obtain⟨u1_1,u1_2_1,u1_2_2,u2_1,u2_2,u2_3,u2_4,u2_5,F1,F2,rfl,h1,h2,_⟩:=h;exact⟨u1_1,u1_2_1,u1_2_2,u2_1,u2_2,u2_3,u2_4,u2_5,rfl,jrnR.ofO h1,shdR.ofO h2⟩
 mod:=fun h hm hd=>by
  obtain⟨u1_1,u1_2_1,u1_2_2,u2_1,u2_2,u2_3,u2_4,u2_5,F1,F2,rfl,h1,h2,s12,hF⟩:=h;exact⟨u1_1,u1_2_1,u1_2_2,u2_1,u2_2,u2_3,u2_4,u2_5,F1,F2,rfl,jrnR.mod h1 hm (fun b hb=>hd b ((hF b).2 (.inl hb))),shdR.mod h2 hm (fun b hb=>hd b ((hF b).2 (.inr hb))),s12,hF⟩
 rng:=fun h b hb=>by
  obtain⟨u1_1,u1_2_1,u1_2_2,u2_1,u2_2,u2_3,u2_4,u2_5,F1,F2,rfl,h1,h2,s12,hF⟩:=h;rcases(hF b).1 hb with hb|hb
  ·exact jrnR.rng h1 b hb
  exact shdR.rng h2 b hb
 base:=fun h hb=>by
  obtain⟨u1_1,u1_2_1,u1_2_2,u2_1,u2_2,u2_3,u2_4,u2_5,F1,F2,rfl,h1,h2,s12,hF⟩:=h;exact⟨u1_1,u1_2_1,u1_2_2,u2_1,u2_2,u2_3,u2_4,u2_5,F1,F2,rfl,jrnR.base h1 hb,shdR.base h2 hb,s12,hF⟩
def fCk (x:JrnR):Nat:=pM x.jrn+fAt x.shard
def xL (x:JrnR):Nat:=uW x.jrn+fBm x.shard
def yB (k:Int) (x:JrnR):JrnR:={x with jrn:=zM k x.jrn,shard:=yC (k+uW x.jrn) x.shard}
theorem zT {w:World} {v:Value} {x:JrnR} (h:jrnRR.V w v x):∃a1_1 a1_2_1 a1_2_2 a2_1 a2_2 a2_3 a2_4 a2_5 c1_1 c1_2_1 c1_2_2 c2_1 c2_2 c2_3 c2_4 c2_5,v =.agg #[iV x.code,iV x.jrn.idx,.slice a1_1 x.jrn.start.length c1_1,.slice a1_2_1 x.jrn.log.synced.length c1_2_1,.slice a1_2_2 x.jrn.log.loose.length c1_2_2,iV x.shard.idx,.slice a2_1 x.shard.bals.length c2_1,.slice a2_2 x.shard.votes.length c2_2,.slice a2_3 x.shard.held.length c2_3,.slice a2_4 x.shard.done.length c2_4,.slice a2_5 x.shard.appl.length c2_5]:=by
 obtain⟨g,d,e,j,k,l,m,n,rfl,h1,h2⟩:=h;obtain⟨a1_1,a1_2_1,a1_2_2,c1_1,c1_2_1,c1_2_2,p⟩:=fEc h1;simp only[Value.agg.injEq,Array.mk.injEq,List.cons.injEq,and_true,true_and] at p;obtain⟨rfl,rfl,rfl⟩:=p;obtain⟨a2_1,a2_2,a2_3,a2_4,a2_5,c2_1,c2_2,c2_3,c2_4,c2_5,q⟩:=fCe h2;simp only[Value.agg.injEq,Array.mk.injEq,List.cons.injEq,and_true,true_and] at q;obtain⟨rfl,rfl,rfl,rfl,rfl⟩:=q;exact⟨_,_,_,_,_,_,_,_,_,_,_,_,_,_,_,_,rfl⟩
theorem fXw (d:JrnR):xL d≤5*fCk d:=by
 unfold xL fCk;have q1:=fUw d.jrn;have q2:=fZx d.shard;omega
theorem tV (x y:Value) (d d':JrnR) (w:World) (hx:jrnRR.V w x d) (hy:jrnRR.V w y d') :
  RI 14 #[x,y] w (.bool (decide (d=d'))):=by
 obtain⟨z,m,n,A,B,C,D,E,rfl,h1,h2⟩:=hx;obtain⟨F,p,q,G,H,I,J,K,rfl,N,O⟩:=hy;obtain⟨L,M,l⟩:=d;obtain⟨s,r,k⟩:=d';dsimp only at h1 N h2 O;go_enter Tryz.func14,Tryz.ntmps14;go_wp2_with fail;all_goals try (go_ret;exact⟨by simp_all,hE⟩)
 refine(fEz _ _ M r _ (jrnR.below h1 hE) (jrnR.below N hE)).mono ?_;rintro e g ⟨rfl,j⟩;have U:cI g w.heap.size 0 L:=cK j sG;have X:cI g w.heap.size 1 M.idx:=cK j sG;have Y:cW g w.heap.size 2 z:=cK j sG;have Z:cW g w.heap.size 3 m:=cK j sG;have x4:cW g w.heap.size 4 n:=cK j sG;have x5:cI g w.heap.size 5 l.idx:=cK j sG;have x6:cW g w.heap.size 6 A:=cK j sG;have x7:cW g w.heap.size 7 B:=cK j sG;have x8:cW g w.heap.size 8 C:=cK j sG;have x9:cW g w.heap.size 9 D:=cK j sG;have R:cW g w.heap.size 10 E:=cK j sG;have y0:cI g (w.heap.size+1) 0 s:=cK j sG;have y1:cI g (w.heap.size+1) 1 r.idx:=cK j sG;have y2:cW g (w.heap.size+1) 2 F:=cK j sG;have y3:cW g (w.heap.size+1) 3 p:=cK j sG;have y4:cW g (w.heap.size+1) 4 q:=cK j sG;have y5:cI g (w.heap.size+1) 5 k.idx:=cK j sG;have y6:cW g (w.heap.size+1) 6 G:=cK j sG;have y7:cW g (w.heap.size+1) 7 H:=cK j sG;have y8:cW g (w.heap.size+1) 8 I:=cK j sG;have y9:cW g (w.heap.size+1) 9 J:=cK j sG;have T:cW g (w.heap.size+1) 10 K:=cK j sG
 go_wp2_with fail;all_goals try (go_ret;exact⟨by simp_all,hE⟩)
 refine(fUa _ _ l k _ (shdR.below h2 hE) (shdR.below O hE)).mono ?_;rintro e w2 ⟨rfl,b2⟩;go_wp2;all_goals
  go_ret;exact⟨by simp_all,hE⟩
theorem fBf (v:Value) (d:JrnR) (base:Nat) (F:Nat→Prop) (k:Int) (w:World) (ho:jrnRR.O w base F v d) (hw:fCk d≤1048576) (hn:k+xL d≤1073741824) (hk0:0≤k) :
  cL 16 #[v,iV k] w fun r w'=>r =.returned (iV (k+xL d))∧jrnRR.O w' base F v (yB k d)∧Mod F w w':=by
 obtain⟨s,l,m,x,y,z,A,B,C,D,rfl,h1,h2,n,I⟩:=ho;unfold fCk at hw;unfold xL at hn ⊢;have E:Hid (∀b,F b↔(C b∨D b)):=I;clear I;go_enter Tryz.func16,Tryz.ntmps16;go_wp2_with fail;refine(fB2 _ d.jrn base C k _ (jrnR.alloc h1 _) oM oM oM).mono ?_;rintro e j ⟨rfl,G,g⟩;have H:=shdR.mod (shdR.alloc h2 _) g (fun b p q=>n b q p);have M:cI j w.heap.size 0 d.code:=g.cell sG (nI jrnR h1);have N:cI j w.heap.size 1 d.jrn.idx:=g.cell sG (nI jrnR h1);have R:cW j w.heap.size 2 s:=g.cell sG (nI jrnR h1);have T:cW j w.heap.size 3 l:=g.cell sG (nI jrnR h1);have U:cW j w.heap.size 4 m:=g.cell sG (nI jrnR h1);have V:cI j w.heap.size 5 d.shard.idx:=g.cell sG (nI jrnR h1);have X:cW j w.heap.size 6 x:=g.cell sG (nI jrnR h1);have Y:cW j w.heap.size 7 y:=g.cell sG (nI jrnR h1);have Z:cW j w.heap.size 8 z:=g.cell sG (nI jrnR h1)
 have x9:cW j w.heap.size 9 A:=g.cell sG (nI jrnR h1);have K:cW j w.heap.size 10 B:=g.cell sG (nI jrnR h1);go_wp2_with fail;refine(fOt _ d.shard base D (k+uW d.jrn) _ H oM oM oM).mono ?_;rintro e w2 ⟨rfl,L,J⟩;replace G:=jrnR.mod G J (fun b p q=>n b p q);go_wp2;go_ret;refine⟨?_,⟨_,_,_,_,_,_,_,_,C,D,rfl,G,L,n,E.out⟩,(((Mod.refl F w).alloc _).trans (g.mono (fun b hb=>(E.out b).2 (.inl hb)))).trans (J.mono (fun b hb=>(E.out b).2 (.inr hb)))⟩;simp;try omega
theorem vQ (v:Value) (d:JrnR) (k:Int) (w:World) (hv:jrnRR.V w v (yB k d)) (hw:fCk d≤1048576) (hn:k+xL d≤1073741824) (hk0:0≤k) :
  cL 17 #[v,iV k] w fun r w'=>r =.returned (iV (k+xL d))∧aa w w':=by
 obtain⟨n,l,m,p,q,s,x,y,rfl,h1,h2⟩:=hv;unfold fCk at hw;unfold xL at hn ⊢;go_enter Tryz.func17,Tryz.ntmps17;go_wp2_with fail;refine(fJv _ d.jrn k _ (jrnR.below h1 hE) oM oM oM).mono ?_;rintro e g ⟨rfl,j⟩;have A:cI g w.heap.size 0 d.code:=cK j (by simp[go_sem,yB,zM,yC]);have B:cI g w.heap.size 1 d.jrn.idx:=cK j (by simp[go_sem,yB,zM,yC]);have C:cW g w.heap.size 2 n:=cK j (by simp[go_sem,yB,zM,yC]);have D:cW g w.heap.size 3 l:=cK j (by simp[go_sem,yB,zM,yC]);have E:cW g w.heap.size 4 m:=cK j (by simp[go_sem,yB,zM,yC]);have F:cI g w.heap.size 5 d.shard.idx:=cK j (by simp[go_sem,yB,zM,yC]);have G:cW g w.heap.size 6 p:=cK j (by simp[go_sem,yB,zM,yC]);have H:cW g w.heap.size 7 q:=cK j (by simp[go_sem,yB,zM,yC]);have I:cW g w.heap.size 8 s:=cK j (by simp[go_sem,yB,zM,yC]);have J:cW g w.heap.size 9 x:=cK j (by simp[go_sem,yB,zM,yC]);have z:cW g w.heap.size 10 y:=cK j (by simp[go_sem,yB,zM,yC]);go_wp2_with fail;refine(fNy _ d.shard (k+uW d.jrn) _ (shdR.below h2 hE) oM oM oM).mono ?_;rintro e K ⟨rfl,L⟩;go_wp2;go_ret;refine⟨?_,hE⟩;simp;try omega
end
section
variable [dQ Leg] [iH Leg] [dQ Cont] [iH Cont]
structure Evt where
 vote:Bool
 con:Cont
 out:Int
variable [dQ Evt] [iH Evt]
def evtR:Rep Evt where
 V:=fun w v x=>∃u1_1,v =.agg #[.bool x.vote,.int .i64 x.con.id,u1_1,.int .i64 x.out]∧contR.V w (.agg #[.int .i64 x.con.id,u1_1]) x.con
 O:=fun w base F v x=>∃u1_1 F1,v =.agg #[.bool x.vote,.int .i64 x.con.id,u1_1,.int .i64 x.out]∧contR.O w base F1 (.agg #[.int .i64 x.con.id,u1_1]) x.con∧(∀b,F b↔(F1 b))
 below:=fun h hb=>by
  obtain⟨u1_1,rfl,h1⟩:=h;exact⟨u1_1,rfl,contR.below h1 hb⟩
 ofO:=fun h=>by
  obtain⟨u1_1,F1,rfl,h1,_⟩:=h;exact⟨u1_1,rfl,contR.ofO h1⟩
 mod:=fun h hm hd=>by
  obtain⟨u1_1,F1,rfl,h1,hF⟩:=h;exact⟨u1_1,F1,rfl,contR.mod h1 hm (fun b hb=>hd b ((hF b).2 hb)),hF⟩
 rng:=fun h b hb=>by
  obtain⟨u1_1,F1,rfl,h1,hF⟩:=h;rcases(hF b).1 hb with hb
  exact contR.rng h1 b hb
 base:=fun h hb=>by
  obtain⟨u1_1,F1,rfl,h1,hF⟩:=h;exact⟨u1_1,F1,rfl,contR.base h1 hb,hF⟩
def fCj (x:Evt):Nat:=rF x.con
def fEs (x:Evt):Nat:=fCt x.con
def gBb (k:Int) (x:Evt):Evt:={x with con:=fYt k x.con}
def fOr (v:Value):List Value:=match v with | .agg a=>one (a.getD 0 (.int .i64 0))++one (a.getD 1 (.int .i64 0))++one (a.getD 2 (.int .i64 0))++one (a.getD 3 (.int .i64 0))|_=>[]
theorem fJm {w:World} {v:Value} {x:Evt} (h:evtR.V w v x):∃a1_1 c1_1,v =.agg #[.bool x.vote,iV x.con.id,.slice a1_1 x.con.legs.length c1_1,iV x.out]:=by
 obtain⟨d,rfl,h1⟩:=h;obtain⟨a1_1,c1_1,e⟩:=fT4 h1;simp only[Value.agg.injEq,Array.mk.injEq,List.cons.injEq,and_true,true_and] at e;obtain rfl:=e;exact⟨_,_,rfl⟩
theorem fZc (d:Evt):fEs d≤4*fCj d:=by
 unfold fEs fCj;have q1:=fW7 d.con;omega
theorem fCf (x:Value) (d:Evt) (w:World) (hx:evtR.V w x d) (hn:fCj d≤1048576) :
  cL 20 #[x] w fun e w'=>∃v F,e =.returned v∧evtR.O w' w.heap.size F v d∧aa w w':=by
 obtain⟨k,rfl,h1⟩:=hx;unfold fCj at hn;go_enter Tryz.func20,Tryz.ntmps20;go_wp2_with fail;refine(fM1 _ d.con _ (contR.below h1 hE) oM).mono ?_;rintro e j ⟨v1,s,rfl,q,g⟩;have R:=bT w g;have l:=contR.ofO q;obtain⟨y,rfl,m⟩:=l;obtain⟨n,p,rfl⟩:=kK m;obtain⟨T,r⟩:=bcell g;have U:=g.size;simp at U;replace q:=contR.base (base':=w.heap.size+3) q (by simp;try omega);have z:cW j w.heap.size 0 (.bool d.vote):=cK g sG;have A:cI j w.heap.size 1 d.con.id:=cK g sG;have B:cW j w.heap.size 2 k:=cK g sG;have C:cI j w.heap.size 3 d.out:=cK g sG;have D:cW j (w.heap.size+1) 0 (.bool false):=cK g sG;have E:cI j (w.heap.size+1) 1 0:=cK g sG;have G:cN j (w.heap.size+1) 2:=cK g sG;have H:cI j (w.heap.size+1) 3 0:=cK g sG;have I:cW j (w.heap.size+2) 0 (.bool d.vote):=cK g sG;have J:cI j (w.heap.size+2) 1 0:=cK g sG;have K:cN j (w.heap.size+2) 2:=cK g sG;have L:cI j (w.heap.size+2) 3 0:=cK g sG;have M:aq j (w.heap.size+1):=fun o=>by rw[r _ _ (by simp;try omega)];simp[go_sem]
 have N:aq j (w.heap.size+2):=fun o=>by rw[r _ _ (by simp;try omega)];simp[go_sem]
 clear T r;have x0:=z;have x1:=A;have x2:=B;have x3:=C;have q0:=D;have q1:=E;have q2:=G;have X:=H;have Y:=I;have Z:=J;have p2:=K;have p3:=L;have qf:=M;have pf:=N;clear M N z A B C D E G H I J K L;clear g;go_wp2;refine bodyPost_ret (v:=.agg #[.bool d.vote,iV d.con.id,.slice n d.con.legs.length p,iV d.out]) ?_ rfl ⟨_,fun b=>s b,rfl,⟨_,s,rfl,contR.base (base:=w.heap.size+3) (by(repeat (first|refine Rep.set _ ?_ _ (by simp;omega)|refine Rep.set _ ?_ _ (by simp)|refine Rep.alloc _ ?_ _|assumption))) oM,fun b=>Iff.rfl⟩,qS⟩;simp[results,Tryz.results20,go_sem,q0,q1,q2,X,Y,Z,p2,p3,qf,pf]
theorem fWc (x:Value) (d:Evt) (left:Int) (w:World) (hx:evtR.V w x d) (h0:0≤left) (h1:left≤1048576) :
  RI 18 #[x,iV left] w (iV (rG left (fCj d))):=by
 obtain⟨g,rfl,j⟩:=hx;go_enter Tryz.func18,Tryz.ntmps18;go_wp2_with fail;refine(fMy _ d.con left _ (contR.below j hE) h0 h1).mono ?_;rintro e k ⟨rfl,l⟩;go_wp2
 ·rename_i h;go_ret;refine⟨?_,hE⟩;rw[yE (n:=rF d.con) oM (fCj d) (by unfold fCj;omega)];rfl
 rename_i h;go_ret;exact⟨rfl,hE⟩
theorem fT8 (x y:Value) (d d':Evt) (w:World) (hx:evtR.V w x d) (hy:evtR.V w y d') :
  RI 22 #[x,y] w (.bool (decide (d=d'))):=by
 obtain⟨m,rfl,h1⟩:=hx;obtain⟨n,rfl,z⟩:=hy;obtain⟨p,q,s⟩:=d;obtain⟨l,g,r⟩:=d';dsimp only at h1 z;go_enter Tryz.func22,Tryz.ntmps22;go_wp2_with fail;all_goals try (go_ret;exact⟨by simp_all,hE⟩)
 refine(fDm _ _ q g _ (contR.below h1 hE) (contR.below z hE)).mono ?_;rintro e j ⟨rfl,k⟩;have A:cW j w.heap.size 0 (.bool p):=cK k sG;have B:cI j w.heap.size 1 q.id:=cK k sG;have C:cW j w.heap.size 2 m:=cK k sG;have D:cI j w.heap.size 3 s:=cK k sG;have E:cW j (w.heap.size+1) 0 (.bool l):=cK k sG;have F:cI j (w.heap.size+1) 1 g.id:=cK k sG;have G:cW j (w.heap.size+1) 2 n:=cK k sG;have H:cI j (w.heap.size+1) 3 r:=cK k sG;go_wp2;all_goals
  go_ret;exact⟨by simp_all,hE⟩
theorem fOs (v:Value) (d:Evt) (base:Nat) (F:Nat→Prop) (k:Int) (w:World) (ho:evtR.O w base F v d) (hw:fCj d≤1048576) (hn:k+fEs d≤1073741824) (hk0:0≤k) :
  cL 23 #[v,iV k] w fun r w'=>r =.returned (iV (k+fEs d))∧evtR.O w' base F v (gBb k d)∧Mod F w w':=by
 obtain⟨j,g,rfl,h1,l⟩:=ho;unfold fCj at hw;unfold fEs at hn ⊢;have m:Hid (∀b,F b↔(g b)):=l;clear l;go_enter Tryz.func23,Tryz.ntmps23;go_wp2_with fail;refine(fG7 _ d.con base g k _ (contR.alloc h1 _) oM oM oM).mono ?_;rintro e q ⟨rfl,n,p⟩;go_wp2;go_ret;refine⟨?_,⟨_,g,rfl,n,m.out⟩,((Mod.refl F w).alloc _).trans (p.mono (fun b hb=>(m.out b).2 hb))⟩;simp;try omega
variable [dQ Evt] [iH Evt]
def evtfR:Rep Evt where
 V:=fun w v x=>∃u1,v =.agg #[.bool x.vote,.int .i64 x.con.id,u1,.int .i64 x.out]∧legsR.V w u1 x.con.legs
 O:=fun w base F v x=>∃u1 F1,v =.agg #[.bool x.vote,.int .i64 x.con.id,u1,.int .i64 x.out]∧legsR.O w base F1 u1 x.con.legs∧(∀b,F b↔(F1 b))
 below:=fun h hb=>by
  obtain⟨u1,rfl,h1⟩:=h;exact⟨u1,rfl,legsR.below h1 hb⟩
 ofO:=fun h=>by
  obtain⟨u1,F1,rfl,h1,_⟩:=h;exact⟨u1,rfl,legsR.ofO h1⟩
 mod:=fun h hm hd=>by
  obtain⟨u1,F1,rfl,h1,hF⟩:=h;exact⟨u1,F1,rfl,legsR.mod h1 hm (fun b hb=>hd b ((hF b).2 hb)),hF⟩
 rng:=fun h b hb=>by
  obtain⟨u1,F1,rfl,h1,hF⟩:=h;exact legsR.rng h1 b ((hF b).1 hb)
 base:=fun h hb=>by
  obtain⟨u1,F1,rfl,h1,hF⟩:=h;exact⟨u1,F1,rfl,legsR.base h1 hb,hF⟩
theorem evtf_V {w:World} {v:Value} {x:Evt}:evtfR.V w v x↔evtR.V w v x:=by
 constructor
 ·rintro⟨u1,rfl,h1⟩;exact⟨u1,rfl,⟨u1,rfl,h1⟩⟩
 rintro⟨u1,rfl,⟨u2,he,h1⟩⟩;simp only[Value.agg.injEq,Array.mk.injEq,List.cons.injEq,and_true,true_and] at he;subst he;exact⟨_,rfl,h1⟩
theorem evtf_O {w:World} {base:Nat} {F:Nat→Prop} {v:Value} {x:Evt}:evtfR.O w base F v x↔evtR.O w base F v x:=by
 constructor
 ·rintro⟨u1,e,rfl,h1,d⟩;exact⟨u1,F,rfl,⟨u1,e,rfl,h1,d⟩,fun _=>Iff.rfl⟩
 rintro⟨u1,e,rfl,⟨u2,g,he,h1,h2⟩,d⟩;simp only[Value.agg.injEq,Array.mk.injEq,List.cons.injEq,and_true,true_and] at he;subst he;exact⟨_,g,rfl,h1,fun b=>(d b).trans (h2 b)⟩
end
end Go.Proofs.YtpibfdebfacooaaGreat

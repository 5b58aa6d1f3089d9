import Derived.Test.YtpibfdebfacooaaGreatPrnWriteEventLaw1
set_option maxHeartbeats 1000000
set_option linter.all false
namespace Go.Proofs.YtpibfdebfacooaaGreat
open Go.RowKit
attribute [local go_sem ↓] Go.wp_at_zero Go.wp_at_succ
attribute [local go_sem] cI iV
section
structure Mrk where
 con:Int
 val:Int
variable [dQ Mrk] [iH Mrk]
def mrkV (x:Mrk):Value:=.agg #[.int .i64 x.con,.int .i64 x.val]
theorem fRx (x y:Mrk) (w:World) :
  RI 122 #[mrkV x,mrkV y] w (.bool (decide (x=y))):=by
 obtain⟨a,b⟩:=x;obtain⟨a',d⟩:=y;unfold mrkV;go_enter Tryz.func122,Tryz.ntmps122;go_wp2;all_goals
  go_ret;exact⟨by simp_all,bA (bA (bR _ _) _) _⟩
def qP (w:World) (b o:Nat) (x:Mrk):Prop:=w.cell? ⟨b,o,none⟩=some (.int .i64 x.con)∧w.cell? ⟨b,o+1,none⟩=some (.int .i64 x.val)
def fNd (w:World) (v:Value) (xs:List Mrk):Prop:=
 ∃a cap,v =.slice a xs.length cap∧xs.length≤cap∧cap≤maxLen∧∀i,i<xs.length→∃b o,a=some ⟨b,o,none⟩∧qP w b (o+i*2) (xs.getD i default)
theorem gD {w w':World} {b o:Nat} {x:Mrk} (hb:aa w w') (h:qP w b o x):qP w' b o x:=by
 obtain⟨h0,h1⟩:=h;exact⟨cK hb h0,cK hb h1⟩
theorem fNe {w w':World} {v:Value} {xs:List Mrk} (h:fNd w v xs) (hb:aa w w'):fNd w' v xs:=by
 obtain⟨a,cap,rfl,h1,h2,d⟩:=h;exact⟨a,cap,rfl,h1,h2,fun i e=>by
  obtain⟨b,o,ha,g⟩:=d i e;exact⟨b,o,ha,gD hb g⟩⟩
theorem fX4 {w w':World} {b o b' o':Nat} {x y:Mrk} (hb:aa w w') (h:qP w b o x) (h':qP w b' o' y) :
  aa w w'∧(w'.cell? ⟨b,o,none⟩=some (iV x.con)∧w'.cell? ⟨b,o+1,none⟩=some (iV x.val))∧(w'.cell? ⟨b',o',none⟩=some (iV y.con)∧w'.cell? ⟨b',o'+1,none⟩=some (iV y.val)):=
 ⟨hb,gD hb h,gD hb h'⟩
theorem fSq {xs ys:List Mrk} (hl:ys.length=xs.length) (h:∀j,j<xs.length→xs.getD j default=ys.getD j default):xs=ys:=by
 apply List.ext_getElem oM;intro i h1 h2;have:=h i h1;simpa [List.getD,h1,h2] using this
theorem fNs (x y:Value) (xs ys:List Mrk) (w:World) (hx:fNd w x xs) (hy:fNd w y ys) :
  RI 73 #[x,y] w (.bool (decide (xs=ys))):=by
 obtain⟨Y,Z,rfl,T,A,hx⟩:=hx;obtain⟨ay,cy,rfl,B,C,hy⟩:=hy;unfold maxLen at A C;by_cases z:ys.length=xs.length
 ·
  rw[z] at B hy ⊢;have U:Hid (ys.length=xs.length):=z;clear z;generalize F:xs.length=n at *;have G:Hid (xs.length=n):=F;clear F;go_enter Tryz.func73,Tryz.ntmps73;go_wp2;go_loopw [5] (fun i w'=>∃k:Nat,k≤n∧i =.int .i64 k∧(∀j,j<k→xs.getD j default=ys.getD j default)∧aa w w') (fun i _=>n-(intOf i).toNat)
  case atStart=>exact⟨0,oM,rfl,fun j h=>absurd h oM,bR _ _⟩
  obtain⟨k,hk,rfl,d,D⟩:=hrel;have H:Hid (∀j,j<k→xs.getD j default=ys.getD j default):=d;clear d;by_cases q:k<n
  ·
   obtain⟨I,J,rfl,h1⟩:=hx k q;obtain⟨K,L,rfl,h2⟩:=hy k q;obtain⟨r,g⟩:∃l,l=xs.getD k default:=⟨_,rfl⟩
   obtain⟨s,m⟩:∃l,l=ys.getD k default:=⟨_,rfl⟩
   rw[←g] at h1;rw[←m] at h2;have M:Hid (r=xs.getD k default):=g;have N:Hid (s=ys.getD k default):=m;clear g m hx hy;go_wp2;go_region_held3 (fun w'=>aa w w'∧(cI w' I (J+k*2) r.con∧cI w' I (J+k*2+1) r.val)∧(cI w' K (L+k*2) s.con∧cI w' K (L+k*2+1) s.val)) ((refine fX4 ?_ h1 h2;repeat (first|exact bR _ _|assumption|refine bD ?_|refine bA ?_ _|refine bS ?_ (by assumption)))) (first|(go_at_call 122;refine(fRx r s _).mono ?_;rintro e w' ⟨rfl,V⟩));rename_i O;have R:=O.1;clear O;go_wp2
   ·
    rename_i p;go_ret;refine⟨?_,R⟩;have:¬xs=ys:=fun h=>by
     have:r=s:=by rw[M.out,N.out,h]
     simp[this] at p
    simp[this]
   rename_i p;refine⟨⟨k+1,by omega,by go_num,fun j hj=>?_,R⟩,mI⟩;by_cases E:j<k
   ·exact H.out j E
   have:j=k:=oM;subst this;rw[←M.out,←N.out];simpa using p
  go_wp2;go_ret;have:k=n:=oM;subst this;refine⟨?_,D⟩;have:xs=ys:=fSq (by rw[U.out,G.out]) (by rw[G.out];exact H.out);simp[this]
 go_enter Tryz.func73,Tryz.ntmps73;have X:((xs.length:Int)==(ys.length:Int))=false:=by simp;omega
 go_wp2;go_ret;have:¬xs=ys:=fun h=>z (by rw[h])
 exact⟨by simp[this],bR _ _⟩
def mrkC (x:Mrk):List Value:=[.int .i64 x.con,.int .i64 x.val]
def gM (xs:List Mrk):List Value:=xs.flatMap mrkC
theorem fC4:(Tryz.prog.info? 166).map (fun i=>(i.zero,i.size,i.bytes))=some (some (.agg #[iV 0,iV 0]),2,16):=kF
theorem xG (xs:List Mrk):(gM xs).length=xs.length*2:=by
 induction xs with
 | nil=>rfl
 | cons x r ih=>
  have e:gM (x::r)=mrkC x++gM r:=by simp[gM]
  have d:(mrkC x).length=2:=rfl;rw[e,List.length_append,d,ih,List.length_cons];omega
theorem fE8 (xs:List Mrk):∀i,i<xs.length→(gM xs)[i*2]? = some (iV (xs.getD i default).con)∧(gM xs)[i*2+1]? = some (iV (xs.getD i default).val):=by
 induction xs with
 | nil=>intro i h;simp at h
 | cons x r ih=>
  intro i h;cases i with
  | zero=>simp[gM,mrkC]
  | succ i=>
   have:=ih i (by simpa using h);have e:gM (x::r)=mrkC x++gM r:=by simp[gM]
   have d:(mrkC x).length=2:=rfl;rw[e];refine⟨?_,?_⟩;all_goals rw[List.getElem?_append_right oM,d]
   ·rw[show(i+1)*2-2=i*2 by omega];simpa using this.1
   rw[show(i+1)*2+1-2=i*2+1 by omega];simpa using this.2
theorem fJe {w:World} {base e:Nat} {v:Value} {xs:List Mrk} (h:w.ownsRow base e 2 v xs.length (gM xs)):fNd w v xs:=by
 rcases h.2 with ⟨rfl,m⟩|⟨g,cap,cur,rfl,hb,p,d,j,n,k⟩
 ·exact⟨none,0,by rw[m],oM,by unfold maxLen;omega,fun i l=>oM⟩
 refine⟨some ⟨g,0,none⟩,cap,rfl,d,j,fun i l=>⟨g,0,rfl,?_⟩⟩;obtain⟨h0,h1⟩:=fE8 xs i l;simp only[Nat.zero_add,qP];exact⟨(h.cellAt _ oM).trans h0,(h.cellAt _ oM).trans h1⟩
def fFv (k:Nat) (cs:List Value) (xs:List Mrk):Prop:=∀j,j<k*2→cs[j]? = (gM xs)[j]?
theorem fMc {n:Nat} {cs:List Value} {xs:List Mrk} (h:fFv n cs xs) (hl:cs.length=n*2) (hn:xs.length=n):cs=gM xs:=by
 apply List.ext_getElem?;intro j;by_cases d:j<n*2
 ·exact h j d
 rw[List.getElem?_eq_none oM,List.getElem?_eq_none (by rw[xG];omega)]
theorem fOu {k:Nat} {cs:List Value} {xs:List Mrk} {x:Mrk} (h:fFv k cs xs) (hk:k<xs.length) (hl:cs.length=xs.length*2) (he:x=xs.getD k default) :
  fFv (k+1) ((cs.set (k*2) (iV x.con)).set (k*2+1) (iV x.val)) xs:=by
 intro j g;obtain⟨h0,h1⟩:=fE8 xs k hk;subst he;simp only[List.getElem?_set,List.length_set];by_cases d:k*2+1=j
 ·subst d;simp[h1];omega
 by_cases e:k*2=j
 ·subst e;simp[h0];omega
 simp[e,d];exact h j oM
def fKa (k:Int) (i:Nat):Mrk:=⟨k+2*i,k+2*i+1⟩
def vD (k:Int) (n:Nat):List Mrk:=(List.range n).map (fKa k)
theorem qG (k:Int) (n:Nat):(vD k n).length=n:=by simp[vD]
theorem fBt (k:Int) (n i:Nat) (h:i<n):(vD k n).getD i default=fKa k i:=by simp[vD,List.getD,h]
theorem fJ8 (v:Value) (n:Nat) (cs:List Value) (base e:Nat) (k:Int) (w:World) (ho:w.ownsRow base e 2 v n cs) (hn:n≤1048576) (hk0:0≤k) (hk1:k≤1073741824) :
  cL 77 #[v,iV k] w fun r w'=>r =.returned (iV (k+2*n))∧w'.ownsRow base e 2 v n (gM (vD k n))∧w.grownBy w' v.ownBlock:=by
 rcases ho.2 with ⟨rfl,rfl⟩|⟨g,cap,cur,rfl,hb,D,E,y,_,_⟩
 ·
  go_enter Tryz.func77,Tryz.ntmps77;go_wp2;go_loopw [1,5] (fun q i w'=>q =.int .i64 k∧i =.int .i64 0∧w'=w) (fun _ _ _=>0)
  case atStart=>exact⟨rfl,rfl,rfl⟩
  obtain⟨rfl,rfl,rfl⟩:=hrel;go_wp2;go_ret;exact⟨by simp,World.ownsRow_nil _ _ _ _,⟨rfl,rfl,rfl,Nat.le_refl _,fun _ _ _=>rfl⟩⟩
 unfold maxLen at y;go_enter Tryz.func77,Tryz.ntmps77;go_wp2;go_loopw [1,5] (fun q i w'=>∃(j:Nat) (l:List Value),j≤n∧i =.int .i64 j∧q =.int .i64 (k+2*j)∧w'.ownsRow base e 2 (.slice (some ⟨g,0,none⟩) n cap) n l∧fFv j l (vD k n)∧w.grownBy w' (some g)) (fun _ i _=>n-(intOf i).toNat)
 case atStart=>exact⟨0,cs,Nat.zero_le _,rfl,by simp,ho,fun j h=>oM,⟨rfl,rfl,rfl,Nat.le_refl _,fun _ _ _=>rfl⟩⟩
 obtain⟨j,l,G,rfl,rfl,d,m,p⟩:=hrel;have A:Hid (fFv j l (vD k n)):=m;clear m ho D;by_cases s:j<n
 ·
  obtain⟨u0,H⟩:=kL d (j*2) oM;obtain⟨u1,I⟩:=kL d (j*2+1) oM;have J:=fun j=>d.frozenAt j
  go_wp2;have B:=d.stored (j*2) (iV (k+2*j));have C:=B.1.stored (j*2+1) (iV (k+2*j+1));refine⟨⟨j+1,_,by omega,by go_num,?_,C.1,fOu (x:=fKa k j) A.out (by rw[qG];exact s) (by rw[qG];exact d.1) (fBt k n j s).symm,vI (vI (p) B.2) C.2⟩,mI⟩;congr 1;omega
 go_wp2;go_ret;have z:j=n:=oM;subst z;have F:=fMc A.out d.1 (qG k j);rw[F] at d;exact⟨rfl,d,p⟩
theorem fJw (v:Value) (n:Nat) (k:Int) (w:World) (hv:fNd w v (vD k n)) (hn:n≤1048576) (hk0:0≤k) (hk1:k≤1073741824) :
  cL 82 #[v,iV k] w fun r w'=>r =.returned (iV (k+2*n))∧w'=w:=by
 obtain⟨a,cap,rfl,e,g,l⟩:=hv;rw[qG] at e l ⊢;unfold maxLen at g;go_enter Tryz.func82,Tryz.ntmps82;go_wp2;go_loopw [1,5] (fun q i w'=>∃j:Nat,j≤n∧i =.int .i64 j∧q =.int .i64 (k+2*j)∧w'=w) (fun _ i _=>n-(intOf i).toNat)
 case atStart=>exact⟨0,oM,rfl,by simp,rfl⟩
 obtain⟨j,x,rfl,rfl,rfl⟩:=hrel;by_cases d:j<n
 ·obtain⟨b,o,rfl,h1⟩:=l j d;rw[fBt k n j d] at h1;obtain⟨p,s⟩:=h1;simp only[fKa] at p s;clear l;go_wp2;refine⟨⟨j+1,by omega,by go_num,?_,trivial⟩,mI⟩;congr 1;omega
 go_wp2;go_ret;have m:j=n:=oM;subst m;exact⟨rfl,rfl⟩
variable [dQ Mrk] [iH Mrk]
def mrksR:Rep (List Mrk):=fRep 166 2 gM fNd fNe fJe
def fDz (xs:List Mrk):Nat:=xs.length
def mZ (xs:List Mrk):Nat:=2*xs.length
def fMb (k:Int) (xs:List Mrk):List Mrk:=vD k xs.length
theorem fH {w:World} {v:Value} {xs:List Mrk} (h:mrksR.V w v xs):∃a c,v =.slice a xs.length c:=by
 obtain⟨a,c,rfl,_⟩:=h;exact⟨_,_,rfl⟩
theorem fQl (d:List Mrk):mZ d≤2*fDz d:=by unfold mZ fDz;omega
theorem fLf (x y:Value) (d d':List Mrk) (w:World) (hx:mrksR.V w x d) (hy:mrksR.V w y d') :
  RI 73 #[x,y] w (.bool (decide (d=d'))):=fNs x y d d' w hx hy
theorem fFr (v:Value) (d:List Mrk) (base:Nat) (F:Nat→Prop) (k:Int) (w:World) (ho:mrksR.O w base F v d) (hw:fDz d≤1048576) (hn:k+mZ d≤1073741824) (hk0:0≤k) :
  cL 77 #[v,iV k] w fun r w'=>r =.returned (iV (k+mZ d))∧mrksR.O w' base F v (fMb k d)∧Mod F w w':=by
 refine(fJ8 v d.length _ base _ k w ho.1 hw hk0 oM).mono ?_;rintro e w' ⟨rfl,h1,h2⟩;refine⟨by simp[mZ],⟨?_,ho.2⟩,by rw[ho.2];exact Mod.of_grown h2⟩;unfold fMb;rw[qG];exact h1
theorem fFf (v:Value) (d:List Mrk) (k:Int) (w:World) (hv:mrksR.V w v (fMb k d)) (hw:fDz d≤1048576) (hn:k+mZ d≤1073741824) (hk0:0≤k) :
  cL 82 #[v,iV k] w fun r w'=>r =.returned (iV (k+mZ d))∧aa w w':=by
 refine(fJw v d.length k w hv hw hk0 oM).mono ?_;rintro e w' ⟨rfl,rfl⟩;exact⟨by simp[mZ],bR _ _⟩
end
section
structure Leg where
 sh:Int
 ac:Int
 ast:Int
 am:Int
variable [dQ Leg] [iH Leg]
def legV (l:Leg):Value:=.agg #[.int .i64 l.sh,.int .i64 l.ac,.int .i64 l.ast,.int .i64 l.am]
theorem fWe (l:Leg) (w:World) :
  RI 133 #[legV l] w (legV l):=by
 obtain⟨a,b,c,d⟩:=l;unfold legV;go_enter Tryz.func133,Tryz.ntmps133;go_wp2;exact bodyPost_ret (v:=.agg #[iV a,iV b,iV c,iV d]) (by simp[results,Tryz.results133,go_sem]) rfl ⟨rfl,(by repeat (first|exact bR _ _|(refine Below.drew ?_)|(refine Below.alloc ?_ (by first|(simp;done)|(simp;omega)) _)))⟩
theorem fT9 (x y:Leg) (w:World) :
  RI 135 #[legV x,legV y] w (.bool (decide (x=y))):=by
 obtain⟨a,b,c,d⟩:=x;obtain⟨a',e,g,j⟩:=y;unfold legV;go_enter Tryz.func135,Tryz.ntmps135;go_wp2;all_goals
  go_ret;exact⟨by simp_all,(by repeat (first|exact bR _ _|(refine Below.drew ?_)|(refine Below.alloc ?_ (by first|(simp;done)|(simp;omega)) _)))⟩
end
section
variable [dQ Leg] [iH Leg]
def mM (w:World) (b o:Nat) (l:Leg):Prop:=
 w.cell? ⟨b,o,none⟩=some (.int .i64 l.sh)∧w.cell? ⟨b,o+1,none⟩=some (.int .i64 l.ac)∧w.cell? ⟨b,o+2,none⟩=some (.int .i64 l.ast)∧w.cell? ⟨b,o+3,none⟩=some (.int .i64 l.am)
def uU (w:World) (v:Value) (xs:List Leg):Prop:=
 ∃a cap,v =.slice a xs.length cap∧xs.length≤cap∧cap≤maxLen∧∀i,i<xs.length→∃b o,a=some ⟨b,o,none⟩∧mM w b (o+i*4) (xs.getD i default)
theorem fJ {w w':World} {b o:Nat} {l:Leg} (hb:aa w w') (h:mM w b o l):mM w' b o l:=by
 obtain⟨h1,h2,e,g⟩:=h;have d:b<w.heap.size:=wL w _ h1;exact⟨(hb.cell (p:=⟨b,o,none⟩) d).trans h1,(hb.cell (p:=⟨b,o+1,none⟩) d).trans h2,(hb.cell (p:=⟨b,o+2,none⟩) d).trans e,(hb.cell (p:=⟨b,o+3,none⟩) d).trans g⟩
theorem keep2 {w w':World} {b o b' o':Nat} {l l':Leg} (hb:aa w w') (h:mM w b o l) (h':mM w b' o' l') :
  aa w w'∧(w'.cell? ⟨b,o,none⟩=some (iV l.sh)∧w'.cell? ⟨b,o+1,none⟩=some (iV l.ac)∧w'.cell? ⟨b,o+2,none⟩=some (iV l.ast)∧w'.cell? ⟨b,o+3,none⟩=some (iV l.am)) ∧
   (w'.cell? ⟨b',o',none⟩=some (iV l'.sh)∧w'.cell? ⟨b',o'+1,none⟩=some (iV l'.ac)∧w'.cell? ⟨b',o'+2,none⟩=some (iV l'.ast)∧w'.cell? ⟨b',o'+3,none⟩=some (iV l'.am)):=
 ⟨hb,fJ hb h,fJ hb h'⟩
theorem fSl {xs ys:List Leg} (hl:ys.length=xs.length) (h:∀j,j<xs.length→xs.getD j default=ys.getD j default):xs=ys:=by
 apply List.ext_getElem oM;intro i h1 h2;have:=h i h1;simpa [List.getD,h1,h2] using this
theorem fRw (x y:Value) (xs ys:List Leg) (w:World) (hx:uU w x xs) (hy:uU w y ys) :
  RI 101 #[x,y] w (.bool (decide (xs=ys))):=by
 obtain⟨Y,Z,rfl,T,E,hx⟩:=hx;obtain⟨ay,cy,rfl,F,G,hy⟩:=hy;unfold maxLen at E G;by_cases z:ys.length=xs.length
 ·
  rw[z] at F hy ⊢;have U:Hid (ys.length=xs.length):=z;clear z;generalize J:xs.length=n at *;have K:Hid (xs.length=n):=J;clear J;go_enter Tryz.func101,Tryz.ntmps101;go_wp2;go_loopw [5] (fun i w'=>∃k:Nat,k≤n∧i =.int .i64 k∧(∀j,j<k→xs.getD j default=ys.getD j default)∧aa w w') (fun i _=>n-(intOf i).toNat)
  case atStart=>exact⟨0,oM,rfl,fun j h=>absurd h oM,bR _ _⟩
  obtain⟨k,hk,rfl,d,H⟩:=hrel;have L:Hid (∀j,j<k→xs.getD j default=ys.getD j default):=d;clear d;by_cases s:k<n
  ·
   obtain⟨A,B,rfl,h1⟩:=hx k s;obtain⟨C,D,rfl,h2⟩:=hy k s;obtain⟨g,m⟩:∃l,l=xs.getD k default:=⟨_,rfl⟩
   obtain⟨p,q⟩:∃l,l=ys.getD k default:=⟨_,rfl⟩
   rw[←m] at h1;rw[←q] at h2;have M:Hid (g=xs.getD k default):=m;have N:Hid (p=ys.getD k default):=q;clear m q hx hy;go_wp2;go_region_held3 (fun w'=>aa w w'∧(cI w' A (B+k*4) g.sh∧cI w' A (B+k*4+1) g.ac∧cI w' A (B+k*4+2) g.ast∧cI w' A (B+k*4+3) g.am)∧(cI w' C (D+k*4) p.sh∧cI w' C (D+k*4+1) p.ac∧cI w' C (D+k*4+2) p.ast∧cI w' C (D+k*4+3) p.am)) ((refine keep2 ?_ h1 h2;repeat (first|exact bR _ _|assumption|refine bD ?_|refine bA ?_ _|refine bS ?_ (by assumption)))) (first|(go_at_call 135;refine(fT9 g p _).mono ?_;rintro e w' ⟨rfl,V⟩));rename_i O;have R:=O.1;clear O;go_wp2
   ·
    rename_i r;go_ret;refine⟨?_,R⟩;have:¬xs=ys:=fun h=>by
     have:g=p:=by rw[M.out,N.out,h]
     simp[this] at r
    simp[this]
   rename_i r;refine⟨⟨k+1,by omega,by go_num,fun j hj=>?_,R⟩,mI⟩;by_cases I:j<k
   ·exact L.out j I
   have:j=k:=oM;subst this;rw[←M.out,←N.out];simpa using r
  go_wp2;go_ret;have:k=n:=oM;subst this;refine⟨?_,H⟩;have:xs=ys:=fSl (by rw[U.out,K.out]) (by rw[K.out];exact L.out);simp[this]
 go_enter Tryz.func101,Tryz.ntmps101;have X:((xs.length:Int)==(ys.length:Int))=false:=by simp;omega
 go_wp2;go_ret;have:¬xs=ys:=fun h=>z (by rw[h])
 exact⟨by simp[this],bR _ _⟩
def legC (l:Leg):List Value:=[.int .i64 l.sh,.int .i64 l.ac,.int .i64 l.ast,.int .i64 l.am]
def gT (xs:List Leg):List Value:=xs.flatMap legC
theorem fC3:(Tryz.prog.info? 168).map (fun i=>(i.zero,i.size,i.bytes))=some (some (.agg #[iV 0,iV 0,iV 0,iV 0]),4,32):=kF
theorem xE (xs:List Leg):(gT xs).length=xs.length*4:=by
 induction xs with
 | nil=>rfl
 | cons x r ih=>
  have e:gT (x::r)=legC x++gT r:=by simp[gT]
  have d:(legC x).length=4:=rfl;rw[e,List.length_append,d,ih,List.length_cons];omega
theorem fJs (xs:List Leg):∀i,i<xs.length→(gT xs)[i*4]? = some (iV (xs.getD i default).sh)∧(gT xs)[i*4+1]? = some (iV (xs.getD i default).ac) ∧
  (gT xs)[i*4+2]? = some (iV (xs.getD i default).ast)∧(gT xs)[i*4+3]? = some (iV (xs.getD i default).am):=by
 induction xs with
 | nil=>intro i h;simp at h
 | cons x r ih=>
  intro i h;cases i with
  | zero=>simp[gT,legC]
  | succ i=>
   have:=ih i (by simpa using h);have e:gT (x::r)=legC x++gT r:=by simp[gT]
   have d:(legC x).length=4:=rfl;rw[e];refine⟨?_,?_,?_,?_⟩;all_goals rw[List.getElem?_append_right oM,d]
   ·rw[show(i+1)*4-4=i*4 by omega];simpa using this.1
   ·rw[show(i+1)*4+1-4=i*4+1 by omega];simpa using this.2.1
   ·rw[show(i+1)*4+2-4=i*4+2 by omega];simpa using this.2.2.1
   rw[show(i+1)*4+3-4=i*4+3 by omega];simpa using this.2.2.2
theorem gX {w:World} {base e:Nat} {v:Value} {xs:List Leg} (h:w.ownsRow base e 4 v xs.length (gT xs)):uU w v xs:=by
 rcases h.2 with ⟨rfl,m⟩|⟨g,cap,cur,rfl,hb,q,d,j,n,k⟩
 ·exact⟨none,0,by rw[m],oM,by unfold maxLen;omega,fun i l=>oM⟩
 refine⟨some ⟨g,0,none⟩,cap,rfl,d,j,fun i l=>⟨g,0,rfl,?_⟩⟩;obtain⟨h0,h1,h2,p⟩:=fJs xs i l;simp only[Nat.zero_add,mM];exact⟨(h.cellAt _ oM).trans h0,(h.cellAt _ oM).trans h1,(h.cellAt _ oM).trans h2,(h.cellAt _ oM).trans p⟩
def upto (k:Nat) (cs:List Value) (xs:List Leg):Prop:=∀j,j<k*4→cs[j]? = (gT xs)[j]?
theorem fM3 {n:Nat} {cs:List Value} {xs:List Leg} (h:upto n cs xs) (hl:cs.length=n*4) (hn:xs.length=n):cs=gT xs:=by
 apply List.ext_getElem?;intro j;by_cases d:j<n*4
 ·exact h j d
 rw[List.getElem?_eq_none oM,List.getElem?_eq_none (by rw[xE];omega)]
theorem fQ3 {k:Nat} {cs:List Value} {xs:List Leg} {l:Leg} (h:upto k cs xs) (hk:k<xs.length) (hl:cs.length=xs.length*4) (he:l=xs.getD k default) :
  upto (k+1) ((((cs.set (k*4) (iV l.sh)).set (k*4+1) (iV l.ac)).set (k*4+2) (iV l.ast)).set (k*4+3) (iV l.am)) xs:=by
 intro j p;obtain⟨h0,h1,h2,n⟩:=fJs xs k hk;subst he;simp only[List.getElem?_set,List.length_set];by_cases d:k*4+3=j
 ·subst d;simp[n];omega
 by_cases e:k*4+2=j
 ·subst e;simp[h2];omega
 by_cases g:k*4+1=j
 ·subst g;simp[h1];omega
 by_cases m:k*4=j
 ·subst m;simp[h0];omega
 simp[m,g,e,d];exact h j oM
theorem fTf (x:Value) (xs:List Leg) (w:World) (hx:uU w x xs) (hn:xs.length≤1048576) :
  cL 96 #[x] w fun e w'=>∃v,e =.returned v∧w'.ownsRow w.heap.size 168 4 v xs.length (gT xs)∧aa w w':=by
 obtain⟨X,Y,rfl,K,A,hx⟩:=hx;unfold maxLen at A;obtain⟨L,M,B,C,D⟩:=info_parts fC3;obtain⟨N,E,g,q⟩:=run_make_full (P:=Tryz.prog) w w.heap.size 55 168 L _ 4 Tryz.underlying55 M B C .i64 .i64 xs.length (by rw[D];omega) (by unfold maxLen;omega) (Nat.le_refl _);have m:aa w N:=(bR _ _).grown q (Nat.le_refl _) (fun k h=>by cases h);generalize r:xs.length=n at *;have F:Hid (xs.length=n):=r;clear r;go_enter Tryz.func96,Tryz.ntmps96;go_wp2;go_loopw [4] (fun i w'=>∃(k:Nat) (cs:List Value),k≤n∧i =.int .i64 k∧w'.ownsRow w.heap.size 168 4 (.slice (some ⟨w.heap.size,0,none⟩) n n) n cs∧upto k cs xs∧aa w w') (fun i _=>n-(intOf i).toNat)
 case atStart=>exact⟨0,_,Nat.zero_le _,rfl,g,fun j h=>oM,m⟩
 obtain⟨k,cs,Z,rfl,z,s,p⟩:=hrel;have J:Hid (upto k cs xs):=s;clear s g E q m;by_cases G:k<n
 ·
  obtain⟨bx,ox,rfl,h1⟩:=hx k G;obtain⟨l,H⟩:∃l,l=xs.getD k default:=⟨_,rfl⟩
  rw[←H] at h1;have O:Hid (l=xs.getD k default):=H;clear H hx;obtain⟨a1,a2,a3,a4⟩:=fJ p h1;go_wp2_with fail;refine(fWe l _).mono ?_;rintro e wa ⟨rfl,y⟩;have d:=fO z y;obtain⟨u0,g0⟩:=kL d (k*4) oM;obtain⟨u1,g1⟩:=kL d (k*4+1) oM;obtain⟨u2,g2⟩:=kL d (k*4+2) oM;obtain⟨u3,g3⟩:=kL d (k*4+3) oM;have hf:=fun j=>d.frozenAt j
  simp only[legV];go_wp2;have R:=d.stored (k*4) (iV l.sh);have T:=R.1.stored (k*4+1) (iV l.ac);have U:=T.1.stored (k*4+2) (iV l.ast);have V:=U.1.stored (k*4+3) (iV l.am);refine⟨⟨k+1,_,by omega,by go_num,V.1,fQ3 J.out (by have:=F.out;omega) (by have:=F.out;have:=z.1;omega) O.out,?_⟩,mI⟩;exact((((bS p y).setCell (Nat.le_refl _) _).setCell (Nat.le_refl _) _).setCell (Nat.le_refl _) _).setCell (Nat.le_refl _) _
 go_wp2;go_ret;have I:k=n:=oM;subst I;have e:=fM3 J.out z.1 F.out;subst e;exact⟨_,rfl,z,p⟩
theorem kE {w w':World} {v:Value} {xs:List Leg} (h:uU w v xs) (hb:aa w w'):uU w' v xs:=by
 obtain⟨a,cap,rfl,h1,h2,d⟩:=h;exact⟨a,cap,rfl,h1,h2,fun i e=>by
  obtain⟨b,o,ha,g⟩:=d i e;exact⟨b,o,ha,fJ hb g⟩⟩
def szF (left n:Int):Int:=if left<n then -1 else left-n
theorem fTa (x:Value) (xs:List Leg) (left:Int) (w:World) (hx:uU w x xs) (h0:0≤left) (h1:left≤1048576) :
  cL 85 #[x,iV left] w fun e w'=>e =.returned (iV (szF left xs.length))∧w'=w:=by
 obtain⟨k,l,rfl,g,d,hx⟩:=hx;unfold maxLen at d;generalize xs.length=n at *;clear hx;by_cases h:left<n
 ·have j:left-(n:Int)<0:=oM;go_enter Tryz.func85,Tryz.ntmps85;go_wp2;go_ret;exact⟨by simp only[szF,if_pos h];rfl,rfl⟩
 have j:¬left-(n:Int)<0:=oM;go_enter Tryz.func85,Tryz.ntmps85;go_wp2;go_ret;exact⟨by rw[szF,if_neg oM];rfl,rfl⟩
def fX3 (k:Int) (i:Nat):Leg:=⟨k+4*i,k+4*i+1,k+4*i+1+1,k+4*i+1+1+1⟩
def fB6 (k:Int) (n:Nat):List Leg:=(List.range n).map (fX3 k)
theorem rX (k:Int) (n:Nat):(fB6 k n).length=n:=by simp[fB6]
theorem fE6 (k:Int) (n i:Nat) (h:i<n):(fB6 k n).getD i default=fX3 k i:=by simp[fB6,List.getD,h]
theorem fAl (w:World) (r:Option Nat):w.grownBy w r:=⟨rfl,rfl,rfl,Nat.le_refl _,fun _ _ _=>rfl⟩
theorem vP {w w1 w2:World} {r:Option Nat} (h:w.grownBy w1 r) (k:w1.grownBy w2 r):w.grownBy w2 r:=
 ⟨k.os.trans h.os,k.tape.trans h.tape,k.output.trans h.output,Nat.le_trans h.size k.size,fun i d e=>(k.block i (Nat.lt_of_lt_of_le d h.size) e).trans (h.block i d e)⟩
theorem fL8 (v:Value) (n:Nat) (cs:List Value) (base e:Nat) (k:Int) (w:World) (ho:w.ownsRow base e 4 v n cs) (hn:n≤1048576) (hk0:0≤k) (hk1:k≤1073741824) :
  cL 102 #[v,iV k] w fun r w'=>r =.returned (iV (k+4*n))∧w'.ownsRow base e 4 v n (gT (fB6 k n))∧w.grownBy w' v.ownBlock:=by
 rcases ho.2 with ⟨rfl,rfl⟩|⟨g,cap,cur,rfl,hb,F,G,y,_,_⟩
 ·
  go_enter Tryz.func102,Tryz.ntmps102;go_wp2;go_loopw [1,5] (fun q i w'=>q =.int .i64 k∧i =.int .i64 0∧w'=w) (fun _ _ _=>0)
  case atStart=>exact⟨rfl,rfl,rfl⟩
  obtain⟨rfl,rfl,rfl⟩:=hrel;go_wp2;go_ret;exact⟨by simp,World.ownsRow_nil _ _ _ _,fAl _ _⟩
 unfold maxLen at y;go_enter Tryz.func102,Tryz.ntmps102;go_wp2;go_loopw [1,5] (fun q i w'=>∃(j:Nat) (m:List Value),j≤n∧i =.int .i64 j∧q =.int .i64 (k+4*j)∧w'.ownsRow base e 4 (.slice (some ⟨g,0,none⟩) n cap) n m∧upto j m (fB6 k n)∧w.grownBy w' (some g)) (fun _ i _=>n-(intOf i).toNat)
 case atStart=>exact⟨0,cs,Nat.zero_le _,rfl,by simp,ho,fun j h=>oM,fAl _ _⟩
 obtain⟨j,m,I,rfl,rfl,d,p,s⟩:=hrel;have A:Hid (upto j m (fB6 k n)):=p;clear p ho F;by_cases x:j<n
 ·
  obtain⟨u0,J⟩:=kL d (j*4) oM;obtain⟨u1,K⟩:=kL d (j*4+1) oM;obtain⟨u2,L⟩:=kL d (j*4+2) oM;obtain⟨u3,M⟩:=kL d (j*4+3) oM;have N:=fun j=>d.frozenAt j
  go_wp2;have B:=d.stored (j*4) (iV (k+4*j));have C:=B.1.stored (j*4+1) (iV (k+4*j+1));have D:=C.1.stored (j*4+2) (iV (k+4*j+1+1));have E:=D.1.stored (j*4+3) (iV (k+4*j+1+1+1));refine⟨⟨j+1,_,by omega,by go_num,?_,E.1,fQ3 (l:=fX3 k j) A.out (by rw[rX];exact x) (by rw[rX];exact d.1) (fE6 k n j x).symm,vP (vP (vP (vP s B.2) C.2) D.2) E.2⟩,mI⟩;congr 1;omega
 go_wp2;go_ret;have z:j=n:=oM;subst z;have H:=fM3 A.out d.1 (rX k j);rw[H] at d;exact⟨rfl,d,s⟩
theorem fLp (v:Value) (n:Nat) (k:Int) (w:World) (hv:uU w v (fB6 k n)) (hn:n≤1048576) (hk0:0≤k) (hk1:k≤1073741824) :
  cL 124 #[v,iV k] w fun r w'=>r =.returned (iV (k+4*n))∧w'=w:=by
 obtain⟨a,cap,rfl,e,g,l⟩:=hv;rw[rX] at e l ⊢;unfold maxLen at g;go_enter Tryz.func124,Tryz.ntmps124;go_wp2;go_loopw [1,5] (fun q i w'=>∃j:Nat,j≤n∧i =.int .i64 j∧q =.int .i64 (k+4*j)∧w'=w) (fun _ i _=>n-(intOf i).toNat)
 case atStart=>exact⟨0,oM,rfl,by simp,rfl⟩
 obtain⟨j,z,rfl,rfl,rfl⟩:=hrel;by_cases d:j<n
 ·obtain⟨b,o,rfl,h1⟩:=l j d;rw[fE6 k n j d] at h1;obtain⟨p,s,x,y⟩:=h1;simp only[fX3] at p s x y;clear l;go_wp2;refine⟨⟨j+1,by omega,by go_num,?_,trivial⟩,mI⟩;congr 1;omega
 go_wp2;go_ret;have m:j=n:=oM;subst m;exact⟨rfl,rfl⟩
def legsR:Rep (List Leg):=fRep 168 4 gT uU kE gX
def fAd (xs:List Leg):Nat:=xs.length
def qV (xs:List Leg):Nat:=4*xs.length
def fMa (k:Int) (xs:List Leg):List Leg:=fB6 k xs.length
theorem kK {w:World} {v:Value} {xs:List Leg} (h:legsR.V w v xs):∃a c,v =.slice a xs.length c:=by
 obtain⟨a,c,rfl,_⟩:=h;exact⟨_,_,rfl⟩
theorem fQg (d:List Leg):qV d≤4*fAd d:=by unfold qV fAd;omega
theorem fYh (x:Value) (d:List Leg) (w:World) (hx:legsR.V w x d) (hn:fAd d≤1048576) :
  cL 96 #[x] w fun e w'=>∃v F,e =.returned v∧legsR.O w' w.heap.size F v d∧aa w w':=by
 refine(fTf x d w hx hn).mono ?_;rintro e w' ⟨v,rfl,g,hb⟩;exact⟨v,_,rfl,⟨g,rfl⟩,hb⟩
theorem fXg (x y:Value) (d d':List Leg) (w:World) (hx:legsR.V w x d) (hy:legsR.V w y d') :
  RI 101 #[x,y] w (.bool (decide (d=d'))):=fRw x y d d' w hx hy
theorem fYg (x:Value) (d:List Leg) (left:Int) (w:World) (hx:legsR.V w x d) (h0:0≤left) (h1:left≤1048576) :
  RI 85 #[x,iV left] w (iV (rG left (fAd d))):=by
 refine(fTa x d left w hx h0 h1).mono ?_;rintro e w' ⟨rfl,rfl⟩;exact⟨rfl,bR _ _⟩
theorem fIl (v:Value) (d:List Leg) (base:Nat) (F:Nat→Prop) (k:Int) (w:World) (ho:legsR.O w base F v d) (hw:fAd d≤1048576) (hn:k+qV d≤1073741824) (hk0:0≤k) :
  cL 102 #[v,iV k] w fun r w'=>r =.returned (iV (k+qV d))∧legsR.O w' base F v (fMa k d)∧Mod F w w':=by
 refine(fL8 v d.length _ base _ k w ho.1 hw hk0 oM).mono ?_;rintro e w' ⟨rfl,h1,h2⟩;refine⟨by simp[qV],⟨?_,ho.2⟩,by rw[ho.2];exact Mod.of_grown h2⟩;unfold fMa;rw[rX];exact h1
theorem fR4 (v:Value) (d:List Leg) (k:Int) (w:World) (hv:legsR.V w v (fMa k d)) (hw:fAd d≤1048576) (hn:k+qV d≤1073741824) (hk0:0≤k) :
  cL 124 #[v,iV k] w fun r w'=>r =.returned (iV (k+qV d))∧aa w w':=by
 refine(fLp v d.length k w hv hw hk0 oM).mono ?_;rintro e w' ⟨rfl,rfl⟩;exact⟨by simp[qV],bR _ _⟩
end
end Go.Proofs.YtpibfdebfacooaaGreat

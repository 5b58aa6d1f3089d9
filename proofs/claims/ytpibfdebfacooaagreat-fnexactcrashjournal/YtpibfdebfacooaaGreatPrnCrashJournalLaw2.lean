import Derived.Test.YtpibfdebfacooaaGreatPrnCrashJournalLaw1
set_option maxHeartbeats 1000000
set_option linter.unusedSectionVars false
namespace Go.Proofs.YtpibfdebfacooaaGreat
open Go.RowKit
attribute [local go_sem ↓] Go.wp_at_zero Go.wp_at_succ
section
structure Mrk where
 con:Int
 val:Int
variable [dQ Mrk] [iH Mrk]
def mrkV (x:Mrk):Value:=.agg #[.int .i64 x.con,.int .i64 x.val]
theorem fP7 (x y:Mrk) (w:World) :
  RI 122 #[mrkV x,mrkV y] w (.bool (decide (x=y))):=by
 obtain⟨a,b⟩:=x;obtain⟨a',b'⟩:=y;unfold mrkV;go_enter Tryz.func122,Tryz.ntmps122;go_wp2;all_goals
  go_ret;exact⟨by simp_all,bA (bA (bR _ _) _) _⟩
def qJ (w:World) (b o:Nat) (x:Mrk):Prop:=w.cell? ⟨b,o,none⟩=some (.int .i64 x.con)∧w.cell? ⟨b,o+1,none⟩=some (.int .i64 x.val)
def fLu (w:World) (v:Value) (xs:List Mrk):Prop:=
 ∃a cap,v =.slice a xs.length cap∧xs.length≤cap∧cap≤maxLen∧∀i,i<xs.length→∃b o,a=some ⟨b,o,none⟩∧qJ w b (o+i*2) (xs.getD i default)
theorem gF {w w':World} {b o:Nat} {x:Mrk} (hb:Below w.heap.size w w') (h:qJ w b o x):qJ w' b o x:=by
 obtain⟨h0,h1⟩:=h;exact⟨cK hb h0,cK hb h1⟩
theorem fLv {w w':World} {v:Value} {xs:List Mrk} (h:fLu w v xs) (hb:Below w.heap.size w w'):fLu w' v xs:=by
 obtain⟨a,cap,rfl,h1,h2,h3⟩:=h;exact⟨a,cap,rfl,h1,h2,fun i hi=>by
  obtain⟨b,o,ha,hc⟩:=h3 i hi;exact⟨b,o,ha,gF hb hc⟩⟩
theorem fVq {w w':World} {b o b' o':Nat} {x y:Mrk} (hb:Below w.heap.size w w') (h:qJ w b o x) (h':qJ w b' o' y) :
  Below w.heap.size w w'∧(w'.cell? ⟨b,o,none⟩=some (.int .i64 x.con)∧w'.cell? ⟨b,o+1,none⟩=some (.int .i64 x.val))∧(w'.cell? ⟨b',o',none⟩=some (.int .i64 y.con)∧w'.cell? ⟨b',o'+1,none⟩=some (.int .i64 y.val)):=
 ⟨hb,gF hb h,gF hb h'⟩
theorem fQ4 {xs ys:List Mrk} (hl:ys.length=xs.length) (h:∀j,j<xs.length→xs.getD j default=ys.getD j default):xs=ys:=by
 apply List.ext_getElem oM;intro i h1 h2;have:=h i h1;simpa [List.getD,h1,h2] using this
theorem fL4 (x y:Value) (xs ys:List Mrk) (w:World) (hx:fLu w x xs) (hy:fLu w y ys) :
  RI 73 #[x,y] w (.bool (decide (xs=ys))):=by
 obtain⟨ax,cx,rfl,hcx,hmx,hx⟩:=hx;obtain⟨ay,cy,rfl,hcy,hmy,hy⟩:=hy;unfold maxLen at hmx hmy;by_cases hl:ys.length=xs.length
 ·
  rw[hl] at hcy hy ⊢;have HL:Hid (ys.length=xs.length):=hl;clear hl;generalize hn:xs.length=n at *;have HN:Hid (xs.length=n):=hn;clear hn;go_enter Tryz.func73,Tryz.ntmps73;go_wp2;go_loopw [5] (fun i w'=>∃k:Nat,k≤n∧i =.int .i64 k∧(∀j,j<k→xs.getD j default=ys.getD j default)∧Below w.heap.size w w') (fun i _=>n-(intOf i).toNat)
  case atStart=>exact⟨0,oM,rfl,fun j h=>absurd h oM,bR _ _⟩
  obtain⟨k,hk,rfl,hpre,hbl⟩:=hrel;have HP:Hid (∀j,j<k→xs.getD j default=ys.getD j default):=hpre;clear hpre;by_cases hlt:k<n
  ·
   obtain⟨bx,ox,rfl,h1⟩:=hx k hlt;obtain⟨b2,oy,rfl,h2⟩:=hy k hlt;obtain⟨l1,hl1⟩:∃l,l=xs.getD k default:=⟨_,rfl⟩
   obtain⟨l2,hl2⟩:∃l,l=ys.getD k default:=⟨_,rfl⟩
   rw[←hl1] at h1;rw[←hl2] at h2;have H1:Hid (l1=xs.getD k default):=hl1;have H2:Hid (l2=ys.getD k default):=hl2;clear hl1 hl2 hx hy;go_wp2;go_region_held3 (fun w'=>Below w.heap.size w w'∧(w'.cell? ⟨bx,ox+k*2,none⟩=some (.int .i64 l1.con)∧w'.cell? ⟨bx,ox+k*2+1,none⟩=some (.int .i64 l1.val))∧(w'.cell? ⟨b2,oy+k*2,none⟩=some (.int .i64 l2.con)∧w'.cell? ⟨b2,oy+k*2+1,none⟩=some (.int .i64 l2.val))) ((refine fVq ?_ h1 h2;repeat (first|exact bR _ _|assumption|refine bD ?_|refine bA ?_ _|refine bS ?_ (by assumption)))) (first|(go_at_call 122;refine(fP7 l1 l2 _).mono ?_;rintro e w' ⟨rfl,hb1⟩));rename_i hH;have hB:=hH.1;clear hH;go_wp2
   ·
    rename_i hle;go_ret;refine⟨?_,hB⟩;have:¬xs=ys:=fun h=>by
     have:l1=l2:=by rw[H1.out,H2.out,h]
     simp[this] at hle
    simp[this]
   rename_i hle;refine⟨⟨k+1,by omega,by go_num,fun j hj=>?_,hB⟩,mI⟩;by_cases hjk:j<k
   ·exact HP.out j hjk
   have:j=k:=oM;subst this;rw[←H1.out,←H2.out];simpa using hle
  go_wp2;go_ret;have:k=n:=oM;subst this;refine⟨?_,hbl⟩;have:xs=ys:=fQ4 (by rw[HL.out,HN.out]) (by rw[HN.out];exact HP.out);simp[this]
 go_enter Tryz.func73,Tryz.ntmps73;have hl':((xs.length:Int)==(ys.length:Int))=false:=by simp;omega
 go_wp2;go_ret;have:¬xs=ys:=fun h=>hl (by rw[h])
 exact⟨by simp[this],bR _ _⟩
def mrkC (x:Mrk):List Value:=[.int .i64 x.con,.int .i64 x.val]
def gK (xs:List Mrk):List Value:=xs.flatMap mrkC
theorem fCm:(Tryz.prog.info? 166).map (fun i=>(i.zero,i.size,i.bytes))=some (some (.agg #[.int .i64 0,.int .i64 0]),2,16):=kF
theorem vN (xs:List Mrk):(gK xs).length=xs.length*2:=by
 induction xs with
 | nil=>rfl
 | cons x r ih=>
  have e:gK (x::r)=mrkC x++gK r:=by simp[gK]
  have l4:(mrkC x).length=2:=rfl;rw[e,List.length_append,l4,ih,List.length_cons];omega
theorem fEl (xs:List Mrk):∀i,i<xs.length→(gK xs)[i*2]? = some (.int .i64 (xs.getD i default).con)∧(gK xs)[i*2+1]? = some (.int .i64 (xs.getD i default).val):=by
 induction xs with
 | nil=>intro i h;simp at h
 | cons x r ih=>
  intro i h;cases i with
  | zero=>simp[gK,mrkC]
  | succ i=>
   have:=ih i (by simpa using h);have e:gK (x::r)=mrkC x++gK r:=by simp[gK]
   have l4:(mrkC x).length=2:=rfl;rw[e];refine⟨?_,?_⟩;all_goals rw[List.getElem?_append_right oM,l4]
   ·rw[show(i+1)*2-2=i*2 by omega];simpa using this.1
   rw[show(i+1)*2+1-2=i*2+1 by omega];simpa using this.2
theorem fId {w:World} {base e:Nat} {v:Value} {xs:List Mrk} (h:w.ownsRow base e 2 v xs.length (gK xs)):fLu w v xs:=by
 rcases h.2 with ⟨rfl,hn⟩|⟨g,cap,cur,rfl,hb,hg,hnc,hcm,hcs,htake⟩
 ·exact⟨none,0,by rw[hn],oM,by unfold maxLen;omega,fun i hi=>oM⟩
 refine⟨some ⟨g,0,none⟩,cap,rfl,hnc,hcm,fun i hi=>⟨g,0,rfl,?_⟩⟩;obtain⟨h0,h1⟩:=fEl xs i hi;simp only[Nat.zero_add,qJ];exact⟨(h.cellAt _ oM).trans h0,(h.cellAt _ oM).trans h1⟩
def fFa (k:Nat) (cs:List Value) (xs:List Mrk):Prop:=∀j,j<k*2→cs[j]? = (gK xs)[j]?
theorem fKz {n:Nat} {cs:List Value} {xs:List Mrk} (h:fFa n cs xs) (hl:cs.length=n*2) (hn:xs.length=n):cs=gK xs:=by
 apply List.ext_getElem?;intro j;by_cases hj:j<n*2
 ·exact h j hj
 rw[List.getElem?_eq_none oM,List.getElem?_eq_none (by rw[vN];omega)]
theorem fM4 {k:Nat} {cs:List Value} {xs:List Mrk} {x:Mrk} (h:fFa k cs xs) (hk:k<xs.length) (hl:cs.length=xs.length*2) (he:x=xs.getD k default) :
  fFa (k+1) ((cs.set (k*2) (.int .i64 x.con)).set (k*2+1) (.int .i64 x.val)) xs:=by
 intro j hj;obtain⟨h0,h1⟩:=fEl xs k hk;subst he;simp only[List.getElem?_set,List.length_set];by_cases e1:k*2+1=j
 ·subst e1;simp[h1];omega
 by_cases e0:k*2=j
 ·subst e0;simp[h0];omega
 simp[e0,e1];exact h j oM
def fI3 (k:Int) (i:Nat):Mrk:=⟨k+2*i,k+2*i+1⟩
def uI (k:Int) (n:Nat):List Mrk:=(List.range n).map (fI3 k)
theorem qD (k:Int) (n:Nat):(uI k n).length=n:=by simp[uI]
theorem fBe (k:Int) (n i:Nat) (h:i<n):(uI k n).getD i default=fI3 k i:=by simp[uI,List.getD,h]
theorem fI1 (v:Value) (n:Nat) (cs:List Value) (base e:Nat) (k:Int) (w:World) (ho:w.ownsRow base e 2 v n cs) (hn:n≤1048576) (hk0:0≤k) (hk1:k≤1073741824) :
  Calls Tryz.prog 77 #[v,.int .i64 k] w fun r w'=>r =.returned (.int .i64 (k+2*n))∧w'.ownsRow base e 2 v n (gK (uI k n))∧w.grownBy w' v.ownBlock:=by
 rcases ho.2 with ⟨rfl,rfl⟩|⟨g,cap,cur,rfl,hb,hg,hnc,hcm,_,_⟩
 ·
  go_enter Tryz.func77,Tryz.ntmps77;go_wp2;go_loopw [1,5] (fun q i w'=>q =.int .i64 k∧i =.int .i64 0∧w'=w) (fun _ _ _=>0)
  case atStart=>exact⟨rfl,rfl,rfl⟩
  obtain⟨rfl,rfl,rfl⟩:=hrel;go_wp2;go_ret;exact⟨by simp,World.ownsRow_nil _ _ _ _,⟨rfl,rfl,rfl,Nat.le_refl _,fun _ _ _=>rfl⟩⟩
 unfold maxLen at hcm;go_enter Tryz.func77,Tryz.ntmps77;go_wp2;go_loopw [1,5] (fun q i w'=>∃(j:Nat) (cs':List Value),j≤n∧i =.int .i64 j∧q =.int .i64 (k+2*j)∧w'.ownsRow base e 2 (.slice (some ⟨g,0,none⟩) n cap) n cs'∧fFa j cs' (uI k n)∧w.grownBy w' (some g)) (fun _ i _=>n-(intOf i).toNat)
 case atStart=>exact⟨0,cs,Nat.zero_le _,rfl,by simp,ho,fun j h=>oM,⟨rfl,rfl,rfl,Nat.le_refl _,fun _ _ _=>rfl⟩⟩
 obtain⟨j,cs',hj,rfl,rfl,ho1,hup,hgr⟩:=hrel;have HU:Hid (fFa j cs' (uI k n)):=hup;clear hup ho hg;by_cases hlt:j<n
 ·
  obtain⟨u0,g0⟩:=mV ho1 (j*2) oM;obtain⟨u1,g1⟩:=mV ho1 (j*2+1) oM;have hf:=fun j=>ho1.frozenAt j
  go_wp2;have s0:=ho1.stored (j*2) (.int .i64 (k+2*j));have s1:=s0.1.stored (j*2+1) (.int .i64 (k+2*j+1));refine⟨⟨j+1,_,by omega,by go_num,?_,s1.1,fM4 (x:=fI3 k j) HU.out (by rw[qD];exact hlt) (by rw[qD];exact ho1.1) (fBe k n j hlt).symm,uL (uL (hgr) s0.2) s1.2⟩,mI⟩;congr 1;omega
 go_wp2;go_ret;have hjn:j=n:=oM;subst hjn;have e':=fKz HU.out ho1.1 (qD k j);rw[e'] at ho1;exact⟨rfl,ho1,hgr⟩
theorem fIq (v:Value) (n:Nat) (k:Int) (w:World) (hv:fLu w v (uI k n)) (hn:n≤1048576) (hk0:0≤k) (hk1:k≤1073741824) :
  Calls Tryz.prog 82 #[v,.int .i64 k] w fun r w'=>r =.returned (.int .i64 (k+2*n))∧w'=w:=by
 obtain⟨a,cap,rfl,hnc,hcm,hc⟩:=hv;rw[qD] at hnc hc ⊢;unfold maxLen at hcm;go_enter Tryz.func82,Tryz.ntmps82;go_wp2;go_loopw [1,5] (fun q i w'=>∃j:Nat,j≤n∧i =.int .i64 j∧q =.int .i64 (k+2*j)∧w'=w) (fun _ i _=>n-(intOf i).toNat)
 case atStart=>exact⟨0,oM,rfl,by simp,rfl⟩
 obtain⟨j,hj,rfl,rfl,rfl⟩:=hrel;by_cases hlt:j<n
 ·obtain⟨b,o,rfl,h1⟩:=hc j hlt;rw[fBe k n j hlt] at h1;obtain⟨g0,g1⟩:=h1;simp only[fI3] at g0 g1;clear hc;go_wp2;refine⟨⟨j+1,by omega,by go_num,?_,trivial⟩,mI⟩;congr 1;omega
 go_wp2;go_ret;have hjn:j=n:=oM;subst hjn;exact⟨rfl,rfl⟩
variable [dQ Mrk] [iH Mrk]
def mrksR:Rep (List Mrk):=fRep 166 2 gK fLu fLv fId
def fB5 (xs:List Mrk):Nat:=xs.length
def mY (xs:List Mrk):Nat:=2*xs.length
def fKy (k:Int) (xs:List Mrk):List Mrk:=uI k xs.length
theorem fF {w:World} {v:Value} {xs:List Mrk} (h:mrksR.V w v xs):∃a c,v =.slice a xs.length c:=by
 obtain⟨a,c,rfl,_⟩:=h;exact⟨_,_,rfl⟩
theorem fOv (d:List Mrk):mY d≤2*fB5 d:=by unfold mY fB5;omega
theorem fJ6 (x y:Value) (d d':List Mrk) (w:World) (hx:mrksR.V w x d) (hy:mrksR.V w y d') :
  RI 73 #[x,y] w (.bool (decide (d=d'))):=fL4 x y d d' w hx hy
theorem fE6 (v:Value) (d:List Mrk) (base:Nat) (F:Nat→Prop) (k:Int) (w:World) (ho:mrksR.O w base F v d) (hw:fB5 d≤1048576) (hn:k+mY d≤1073741824) (hk0:0≤k) :
  Calls Tryz.prog 77 #[v,.int .i64 k] w fun r w'=>r =.returned (.int .i64 (k+mY d))∧mrksR.O w' base F v (fKy k d)∧Mod F w w':=by
 refine(fI1 v d.length _ base _ k w ho.1 hw hk0 oM).mono ?_;rintro e w' ⟨rfl,h1,h2⟩;refine⟨by simp[mY],⟨?_,ho.2⟩,by rw[ho.2];exact Mod.of_grown h2⟩;unfold fKy;rw[qD];exact h1
theorem fEs (v:Value) (d:List Mrk) (k:Int) (w:World) (hv:mrksR.V w v (fKy k d)) (hw:fB5 d≤1048576) (hn:k+mY d≤1073741824) (hk0:0≤k) :
  Calls Tryz.prog 82 #[v,.int .i64 k] w fun r w'=>r =.returned (.int .i64 (k+mY d))∧Below w.heap.size w w':=by
 refine(fIq v d.length k w hv hw hk0 oM).mono ?_;rintro e w' ⟨rfl,rfl⟩;exact⟨by simp[mY],bR _ _⟩
end
section
structure Leg where
 sh:Int
 ac:Int
 ast:Int
 am:Int
variable [dQ Leg] [iH Leg]
def legV (l:Leg):Value:=.agg #[.int .i64 l.sh,.int .i64 l.ac,.int .i64 l.ast,.int .i64 l.am]
theorem fSf (x y:Leg) (w:World) :
  RI 135 #[legV x,legV y] w (.bool (decide (x=y))):=by
 obtain⟨a,b,c,d⟩:=x;obtain⟨a',b',c',d'⟩:=y;unfold legV;go_enter Tryz.func135,Tryz.ntmps135;go_wp2;all_goals
  go_ret;exact⟨by simp_all,(by repeat (first|exact bR _ _|(refine Below.drew ?_)|(refine Below.alloc ?_ (by first|(simp;done)|(simp;omega)) _)))⟩
end
section
variable [dQ Leg] [iH Leg]
def mH (w:World) (b o:Nat) (l:Leg):Prop:=
 w.cell? ⟨b,o,none⟩=some (.int .i64 l.sh)∧w.cell? ⟨b,o+1,none⟩=some (.int .i64 l.ac)∧w.cell? ⟨b,o+2,none⟩=some (.int .i64 l.ast)∧w.cell? ⟨b,o+3,none⟩=some (.int .i64 l.am)
def vB (w:World) (v:Value) (xs:List Leg):Prop:=
 ∃a cap,v =.slice a xs.length cap∧xs.length≤cap∧cap≤maxLen∧∀i,i<xs.length→∃b o,a=some ⟨b,o,none⟩∧mH w b (o+i*4) (xs.getD i default)
theorem fQ {w w':World} {b o:Nat} {l:Leg} (hb:Below w.heap.size w w') (h:mH w b o l):mH w' b o l:=by
 obtain⟨h1,h2,h3,h4⟩:=h;have hlt:b<w.heap.size:=wL w _ h1;exact⟨(hb.cell (p:=⟨b,o,none⟩) hlt).trans h1,(hb.cell (p:=⟨b,o+1,none⟩) hlt).trans h2,(hb.cell (p:=⟨b,o+2,none⟩) hlt).trans h3,(hb.cell (p:=⟨b,o+3,none⟩) hlt).trans h4⟩
theorem keep2 {w w':World} {b o b' o':Nat} {l l':Leg} (hb:Below w.heap.size w w') (h:mH w b o l) (h':mH w b' o' l') :
  Below w.heap.size w w'∧(w'.cell? ⟨b,o,none⟩=some (.int .i64 l.sh)∧w'.cell? ⟨b,o+1,none⟩=some (.int .i64 l.ac)∧w'.cell? ⟨b,o+2,none⟩=some (.int .i64 l.ast)∧w'.cell? ⟨b,o+3,none⟩=some (.int .i64 l.am)) ∧
   (w'.cell? ⟨b',o',none⟩=some (.int .i64 l'.sh)∧w'.cell? ⟨b',o'+1,none⟩=some (.int .i64 l'.ac)∧w'.cell? ⟨b',o'+2,none⟩=some (.int .i64 l'.ast)∧w'.cell? ⟨b',o'+3,none⟩=some (.int .i64 l'.am)):=
 ⟨hb,fQ hb h,fQ hb h'⟩
theorem fQy {xs ys:List Leg} (hl:ys.length=xs.length) (h:∀j,j<xs.length→xs.getD j default=ys.getD j default):xs=ys:=by
 apply List.ext_getElem oM;intro i h1 h2;have:=h i h1;simpa [List.getD,h1,h2] using this
theorem fP6 (x y:Value) (xs ys:List Leg) (w:World) (hx:vB w x xs) (hy:vB w y ys) :
  RI 101 #[x,y] w (.bool (decide (xs=ys))):=by
 obtain⟨ax,cx,rfl,hcx,hmx,hx⟩:=hx;obtain⟨ay,cy,rfl,hcy,hmy,hy⟩:=hy;unfold maxLen at hmx hmy;by_cases hl:ys.length=xs.length
 ·
  rw[hl] at hcy hy ⊢;have HL:Hid (ys.length=xs.length):=hl;clear hl;generalize hn:xs.length=n at *;have HN:Hid (xs.length=n):=hn;clear hn;go_enter Tryz.func101,Tryz.ntmps101;go_wp2;go_loopw [5] (fun i w'=>∃k:Nat,k≤n∧i =.int .i64 k∧(∀j,j<k→xs.getD j default=ys.getD j default)∧Below w.heap.size w w') (fun i _=>n-(intOf i).toNat)
  case atStart=>exact⟨0,oM,rfl,fun j h=>absurd h oM,bR _ _⟩
  obtain⟨k,hk,rfl,hpre,hbl⟩:=hrel;have HP:Hid (∀j,j<k→xs.getD j default=ys.getD j default):=hpre;clear hpre;by_cases hlt:k<n
  ·
   obtain⟨bx,ox,rfl,h1⟩:=hx k hlt;obtain⟨b2,oy,rfl,h2⟩:=hy k hlt;obtain⟨l1,hl1⟩:∃l,l=xs.getD k default:=⟨_,rfl⟩
   obtain⟨l2,hl2⟩:∃l,l=ys.getD k default:=⟨_,rfl⟩
   rw[←hl1] at h1;rw[←hl2] at h2;have H1:Hid (l1=xs.getD k default):=hl1;have H2:Hid (l2=ys.getD k default):=hl2;clear hl1 hl2 hx hy;go_wp2;go_region_held3 (fun w'=>Below w.heap.size w w'∧(w'.cell? ⟨bx,ox+k*4,none⟩=some (.int .i64 l1.sh)∧w'.cell? ⟨bx,ox+k*4+1,none⟩=some (.int .i64 l1.ac)∧w'.cell? ⟨bx,ox+k*4+2,none⟩=some (.int .i64 l1.ast)∧w'.cell? ⟨bx,ox+k*4+3,none⟩=some (.int .i64 l1.am))∧(w'.cell? ⟨b2,oy+k*4,none⟩=some (.int .i64 l2.sh)∧w'.cell? ⟨b2,oy+k*4+1,none⟩=some (.int .i64 l2.ac)∧w'.cell? ⟨b2,oy+k*4+2,none⟩=some (.int .i64 l2.ast)∧w'.cell? ⟨b2,oy+k*4+3,none⟩=some (.int .i64 l2.am))) ((refine keep2 ?_ h1 h2;repeat (first|exact bR _ _|assumption|refine bD ?_|refine bA ?_ _|refine bS ?_ (by assumption)))) (first|(go_at_call 135;refine(fSf l1 l2 _).mono ?_;rintro e w' ⟨rfl,hb1⟩));rename_i hH;have hB:=hH.1;clear hH;go_wp2
   ·
    rename_i hle;go_ret;refine⟨?_,hB⟩;have:¬xs=ys:=fun h=>by
     have:l1=l2:=by rw[H1.out,H2.out,h]
     simp[this] at hle
    simp[this]
   rename_i hle;refine⟨⟨k+1,by omega,by go_num,fun j hj=>?_,hB⟩,mI⟩;by_cases hjk:j<k
   ·exact HP.out j hjk
   have:j=k:=oM;subst this;rw[←H1.out,←H2.out];simpa using hle
  go_wp2;go_ret;have:k=n:=oM;subst this;refine⟨?_,hbl⟩;have:xs=ys:=fQy (by rw[HL.out,HN.out]) (by rw[HN.out];exact HP.out);simp[this]
 go_enter Tryz.func101,Tryz.ntmps101;have hl':((xs.length:Int)==(ys.length:Int))=false:=by simp;omega
 go_wp2;go_ret;have:¬xs=ys:=fun h=>hl (by rw[h])
 exact⟨by simp[this],bR _ _⟩
def legC (l:Leg):List Value:=[.int .i64 l.sh,.int .i64 l.ac,.int .i64 l.ast,.int .i64 l.am]
def gN (xs:List Leg):List Value:=xs.flatMap legC
theorem fEx:(Tryz.prog.info? 168).map (fun i=>(i.zero,i.size,i.bytes))=some (some (.agg #[.int .i64 0,.int .i64 0,.int .i64 0,.int .i64 0]),4,32):=kF
theorem vM (xs:List Leg):(gN xs).length=xs.length*4:=by
 induction xs with
 | nil=>rfl
 | cons x r ih=>
  have e:gN (x::r)=legC x++gN r:=by simp[gN]
  have l4:(legC x).length=4:=rfl;rw[e,List.length_append,l4,ih,List.length_cons];omega
theorem fIm (xs:List Leg):∀i,i<xs.length→(gN xs)[i*4]? = some (.int .i64 (xs.getD i default).sh)∧(gN xs)[i*4+1]? = some (.int .i64 (xs.getD i default).ac) ∧
  (gN xs)[i*4+2]? = some (.int .i64 (xs.getD i default).ast)∧(gN xs)[i*4+3]? = some (.int .i64 (xs.getD i default).am):=by
 induction xs with
 | nil=>intro i h;simp at h
 | cons x r ih=>
  intro i h;cases i with
  | zero=>simp[gN,legC]
  | succ i=>
   have:=ih i (by simpa using h);have e:gN (x::r)=legC x++gN r:=by simp[gN]
   have l4:(legC x).length=4:=rfl;rw[e];refine⟨?_,?_,?_,?_⟩;all_goals rw[List.getElem?_append_right oM,l4]
   ·rw[show(i+1)*4-4=i*4 by omega];simpa using this.1
   ·rw[show(i+1)*4+1-4=i*4+1 by omega];simpa using this.2.1
   ·rw[show(i+1)*4+2-4=i*4+2 by omega];simpa using this.2.2.1
   rw[show(i+1)*4+3-4=i*4+3 by omega];simpa using this.2.2.2
theorem gV {w:World} {base e:Nat} {v:Value} {xs:List Leg} (h:w.ownsRow base e 4 v xs.length (gN xs)):vB w v xs:=by
 rcases h.2 with ⟨rfl,hn⟩|⟨g,cap,cur,rfl,hb,hg,hnc,hcm,hcs,htake⟩
 ·exact⟨none,0,by rw[hn],oM,by unfold maxLen;omega,fun i hi=>oM⟩
 refine⟨some ⟨g,0,none⟩,cap,rfl,hnc,hcm,fun i hi=>⟨g,0,rfl,?_⟩⟩;obtain⟨h0,h1,h2,h3⟩:=fIm xs i hi;simp only[Nat.zero_add,mH];exact⟨(h.cellAt _ oM).trans h0,(h.cellAt _ oM).trans h1,(h.cellAt _ oM).trans h2,(h.cellAt _ oM).trans h3⟩
def upto (k:Nat) (cs:List Value) (xs:List Leg):Prop:=∀j,j<k*4→cs[j]? = (gN xs)[j]?
theorem fUb {n:Nat} {cs:List Value} {xs:List Leg} (h:upto n cs xs) (hl:cs.length=n*4) (hn:xs.length=n):cs=gN xs:=by
 apply List.ext_getElem?;intro j;by_cases hj:j<n*4
 ·exact h j hj
 rw[List.getElem?_eq_none oM,List.getElem?_eq_none (by rw[vM];omega)]
theorem fV1 {k:Nat} {cs:List Value} {xs:List Leg} {l:Leg} (h:upto k cs xs) (hk:k<xs.length) (hl:cs.length=xs.length*4) (he:l=xs.getD k default) :
  upto (k+1) ((((cs.set (k*4) (.int .i64 l.sh)).set (k*4+1) (.int .i64 l.ac)).set (k*4+2) (.int .i64 l.ast)).set (k*4+3) (.int .i64 l.am)) xs:=by
 intro j hj;obtain⟨h0,h1,h2,h3⟩:=fIm xs k hk;subst he;simp only[List.getElem?_set,List.length_set];by_cases e3:k*4+3=j
 ·subst e3;simp[h3];omega
 by_cases e2:k*4+2=j
 ·subst e2;simp[h2];omega
 by_cases e1:k*4+1=j
 ·subst e1;simp[h1];omega
 by_cases e0:k*4=j
 ·subst e0;simp[h0];omega
 simp[e0,e1,e2,e3];exact h j oM
theorem kS {w w':World} {v:Value} {xs:List Leg} (h:vB w v xs) (hb:Below w.heap.size w w'):vB w' v xs:=by
 obtain⟨a,cap,rfl,h1,h2,h3⟩:=h;exact⟨a,cap,rfl,h1,h2,fun i hi=>by
  obtain⟨b,o,ha,hc⟩:=h3 i hi;exact⟨b,o,ha,fQ hb hc⟩⟩
def fVp (k:Int) (i:Nat):Leg:=⟨k+4*i,k+4*i+1,k+4*i+1+1,k+4*i+1+1+1⟩
def fBs (k:Int) (n:Nat):List Leg:=(List.range n).map (fVp k)
theorem rE (k:Int) (n:Nat):(fBs k n).length=n:=by simp[fBs]
theorem fEj (k:Int) (n i:Nat) (h:i<n):(fBs k n).getD i default=fVp k i:=by simp[fBs,List.getD,h]
theorem zX (w:World) (r:Option Nat):w.grownBy w r:=⟨rfl,rfl,rfl,Nat.le_refl _,fun _ _ _=>rfl⟩
theorem uQ {w w1 w2:World} {r:Option Nat} (h:w.grownBy w1 r) (k:w1.grownBy w2 r):w.grownBy w2 r:=
 ⟨k.os.trans h.os,k.tape.trans h.tape,k.output.trans h.output,Nat.le_trans h.size k.size,fun i hi hr=>(k.block i (Nat.lt_of_lt_of_le hi h.size) hr).trans (h.block i hi hr)⟩
theorem fKw (v:Value) (n:Nat) (cs:List Value) (base e:Nat) (k:Int) (w:World) (ho:w.ownsRow base e 4 v n cs) (hn:n≤1048576) (hk0:0≤k) (hk1:k≤1073741824) :
  Calls Tryz.prog 102 #[v,.int .i64 k] w fun r w'=>r =.returned (.int .i64 (k+4*n))∧w'.ownsRow base e 4 v n (gN (fBs k n))∧w.grownBy w' v.ownBlock:=by
 rcases ho.2 with ⟨rfl,rfl⟩|⟨g,cap,cur,rfl,hb,hg,hnc,hcm,_,_⟩
 ·
  go_enter Tryz.func102,Tryz.ntmps102;go_wp2;go_loopw [1,5] (fun q i w'=>q =.int .i64 k∧i =.int .i64 0∧w'=w) (fun _ _ _=>0)
  case atStart=>exact⟨rfl,rfl,rfl⟩
  obtain⟨rfl,rfl,rfl⟩:=hrel;go_wp2;go_ret;exact⟨by simp,World.ownsRow_nil _ _ _ _,zX _ _⟩
 unfold maxLen at hcm;go_enter Tryz.func102,Tryz.ntmps102;go_wp2;go_loopw [1,5] (fun q i w'=>∃(j:Nat) (cs':List Value),j≤n∧i =.int .i64 j∧q =.int .i64 (k+4*j)∧w'.ownsRow base e 4 (.slice (some ⟨g,0,none⟩) n cap) n cs'∧upto j cs' (fBs k n)∧w.grownBy w' (some g)) (fun _ i _=>n-(intOf i).toNat)
 case atStart=>exact⟨0,cs,Nat.zero_le _,rfl,by simp,ho,fun j h=>oM,zX _ _⟩
 obtain⟨j,cs',hj,rfl,rfl,ho1,hup,hgr⟩:=hrel;have HU:Hid (upto j cs' (fBs k n)):=hup;clear hup ho hg;by_cases hlt:j<n
 ·
  obtain⟨u0,g0⟩:=mV ho1 (j*4) oM;obtain⟨u1,g1⟩:=mV ho1 (j*4+1) oM;obtain⟨u2,g2⟩:=mV ho1 (j*4+2) oM;obtain⟨u3,g3⟩:=mV ho1 (j*4+3) oM;have hf:=fun j=>ho1.frozenAt j
  go_wp2;have s0:=ho1.stored (j*4) (.int .i64 (k+4*j));have s1:=s0.1.stored (j*4+1) (.int .i64 (k+4*j+1));have s2:=s1.1.stored (j*4+2) (.int .i64 (k+4*j+1+1));have s3:=s2.1.stored (j*4+3) (.int .i64 (k+4*j+1+1+1));refine⟨⟨j+1,_,by omega,by go_num,?_,s3.1,fV1 (l:=fVp k j) HU.out (by rw[rE];exact hlt) (by rw[rE];exact ho1.1) (fEj k n j hlt).symm,uQ (uQ (uQ (uQ hgr s0.2) s1.2) s2.2) s3.2⟩,mI⟩;congr 1;omega
 go_wp2;go_ret;have hjn:j=n:=oM;subst hjn;have e':=fUb HU.out ho1.1 (rE k j);rw[e'] at ho1;exact⟨rfl,ho1,hgr⟩
theorem fKe (v:Value) (n:Nat) (k:Int) (w:World) (hv:vB w v (fBs k n)) (hn:n≤1048576) (hk0:0≤k) (hk1:k≤1073741824) :
  Calls Tryz.prog 124 #[v,.int .i64 k] w fun r w'=>r =.returned (.int .i64 (k+4*n))∧w'=w:=by
 obtain⟨a,cap,rfl,hnc,hcm,hc⟩:=hv;rw[rE] at hnc hc ⊢;unfold maxLen at hcm;go_enter Tryz.func124,Tryz.ntmps124;go_wp2;go_loopw [1,5] (fun q i w'=>∃j:Nat,j≤n∧i =.int .i64 j∧q =.int .i64 (k+4*j)∧w'=w) (fun _ i _=>n-(intOf i).toNat)
 case atStart=>exact⟨0,oM,rfl,by simp,rfl⟩
 obtain⟨j,hj,rfl,rfl,rfl⟩:=hrel;by_cases hlt:j<n
 ·obtain⟨b,o,rfl,h1⟩:=hc j hlt;rw[fEj k n j hlt] at h1;obtain⟨g0,g1,g2,g3⟩:=h1;simp only[fVp] at g0 g1 g2 g3;clear hc;go_wp2;refine⟨⟨j+1,by omega,by go_num,?_,trivial⟩,mI⟩;congr 1;omega
 go_wp2;go_ret;have hjn:j=n:=oM;subst hjn;exact⟨rfl,rfl⟩
def legsR:Rep (List Leg):=fRep 168 4 gN vB kS gV
def fDf (xs:List Leg):Nat:=xs.length
def qQ (xs:List Leg):Nat:=4*xs.length
def fOu (k:Int) (xs:List Leg):List Leg:=fBs k xs.length
theorem kP {w:World} {v:Value} {xs:List Leg} (h:legsR.V w v xs):∃a c,v =.slice a xs.length c:=by
 obtain⟨a,c,rfl,_⟩:=h;exact⟨_,_,rfl⟩
theorem fVn (d:List Leg):qQ d≤4*fDf d:=by unfold qQ fDf;omega
theorem fU6 (x y:Value) (d d':List Leg) (w:World) (hx:legsR.V w x d) (hy:legsR.V w y d') :
  RI 101 #[x,y] w (.bool (decide (d=d'))):=fP6 x y d d' w hx hy
theorem fQ1 (v:Value) (d:List Leg) (base:Nat) (F:Nat→Prop) (k:Int) (w:World) (ho:legsR.O w base F v d) (hw:fDf d≤1048576) (hn:k+qQ d≤1073741824) (hk0:0≤k) :
  Calls Tryz.prog 102 #[v,.int .i64 k] w fun r w'=>r =.returned (.int .i64 (k+qQ d))∧legsR.O w' base F v (fOu k d)∧Mod F w w':=by
 refine(fKw v d.length _ base _ k w ho.1 hw hk0 oM).mono ?_;rintro e w' ⟨rfl,h1,h2⟩;refine⟨by simp[qQ],⟨?_,ho.2⟩,by rw[ho.2];exact Mod.of_grown h2⟩;unfold fOu;rw[rE];exact h1
theorem fQc (v:Value) (d:List Leg) (k:Int) (w:World) (hv:legsR.V w v (fOu k d)) (hw:fDf d≤1048576) (hn:k+qQ d≤1073741824) (hk0:0≤k) :
  Calls Tryz.prog 124 #[v,.int .i64 k] w fun r w'=>r =.returned (.int .i64 (k+qQ d))∧Below w.heap.size w w':=by
 refine(fKe v d.length k w hv hw hk0 oM).mono ?_;rintro e w' ⟨rfl,rfl⟩;exact⟨by simp[qQ],bR _ _⟩
end
end Go.Proofs.YtpibfdebfacooaaGreat

import Derived.Test.YtpibfdebfacooaaGreatShD
import Derived.Shelf.SortM.Plain
import Derived.Shelf.SortM.SortNone
import Derived.Ground.SlgmProg
import Derived.Test.YtpibfdebfacooaaGreatProg
import Derived.Defers
import Derived.Laws.Pointers
set_option maxHeartbeats 8000000
set_option maxRecDepth 100000
set_option linter.all false
namespace Go.Proofs.YtpibfdebfacooaaGreat
open Go.RowKit
variable [dQ Rw] [iH Rw] [dQ Bal] [iH Bal] [dQ Ledg] [iH Ledg] [dQ Leg] [iH Leg] [dQ Cont] [iH Cont] [dQ LedgR] [iH LedgR] [dQ OutcR] [iH OutcR] [dQ Mrk] [iH Mrk] [dQ Shd] [iH Shd] [dQ ShdR] [iH ShdR]
attribute [local go_sem ↓] Go.wp_at_zero Go.wp_at_succ
attribute [local go_sem] cI ah iV aj an
theorem fOq {d:Shd} {k:Nat} (h:(qW d (d.votes.getD k default).con && !fP d.held (d.votes.getD k default).con)=false) (hf:fK (d.votes.getD k default).con d.votes=(d.votes.getD k default).val):kH d k=0:=by
 unfold kH;rw[if_neg];rintro⟨h1,h2,e⟩;unfold qW at h;rw[hf,h1,h2,e] at h;simp at h
theorem fSn {d:Shd} {k:Nat} (h:(qW d (d.votes.getD k default).con && !fP d.held (d.votes.getD k default).con)=true) (hf:fK (d.votes.getD k default).con d.votes=(d.votes.getD k default).val):kH d k=1:=by
 unfold kH;unfold qW at h;rw[hf] at h;simp at h;rw[if_pos ⟨h.1.1,by simp[h.2],h.1.2⟩]
theorem fLj {xs:List Mrk} (h:MrksOk xs) {k:Nat} (hk:k<xs.length):fK (xs.getD k default).con xs=(xs.getD k default).val:=by
 rw[fEb (i:=k) h.rise oM (fun j d=>h.rise j k d hk) (fun j d g=>by
  by_cases e:k=j
  ·rw[e];exact Int.le_refl _
  have:=h.rise k j oM g;omega),if_pos ⟨hk,rfl⟩]
structure LsOk (d:Shd):Prop where
 nv:d.votes.length≤100
 nh:d.held.length≤100
 nd:d.done.length≤100
 na:d.appl.length≤100
 ov:MrksOk d.votes
 od:MrksOk d.done
theorem fNv (B:Nat) (x:Value) (d:Shd) (m:Mrk) (w:World) (hx:shdR.V w x d) (hB:∃c0 c1 c2 c3 c4 c5,x =.agg #[c0,c1,c2,c3,c4,c5]∧w.cell? ⟨B,0,none⟩=some (c0)∧w.cell? ⟨B,1,none⟩=some (c1)∧w.cell? ⟨B,2,none⟩=some (c2)∧w.cell? ⟨B,3,none⟩=some (c3)∧w.cell? ⟨B,4,none⟩=some (c4)∧w.cell? ⟨B,5,none⟩=some (c5)) (hok:LsOk d) (hh:HeldOk d) :
  RI 237 #[.agg #[iV m.con,iV m.val],an B] w (.bool (qW d m.con && !fP d.held m.con)):=by
 have g:Hid (bW w fun W=>RI 235 #[x,iV m.con] W (.bool (qW d m.con))):=fun W l=>fHo x d m.con W (shdR.below hx l) ⟨by have:=hok.nv;omega,by have:=hok.nd;omega⟩ hok.ov hok.od
 have n:Hid (bW w fun W=>RI 180 #[x,iV m.con] W (.bool (fP d.held m.con))):=fun W l=>fH4 x d m.con W (shdR.below hx l) (by have:=hok.nh;omega) hh.rise
 obtain⟨u1,u2,u3,u4,u5,rfl,h1,h2,A,C,D⟩:=hx;obtain⟨G,c1,rfl⟩:=fQ h1;obtain⟨H,c2,rfl⟩:=fH h2;obtain⟨I,c3,rfl⟩:=fM A;obtain⟨J,c4,rfl⟩:=fH C;obtain⟨K,c5,rfl⟩:=gL D;obtain⟨q0,q1,q2,L,M,N,e,k,p,q,r,s,y⟩:=hB;simp only[Value.agg.injEq,Array.mk.injEq,List.cons.injEq,and_true] at e;obtain⟨rfl,rfl,rfl,rfl,rfl,rfl⟩:=e;clear h1 h2 A C D hok hh;generalize d.bals.length=O at *;generalize d.votes.length=R at *;generalize d.held.length=T at *;generalize d.done.length=U at *;generalize d.appl.length=X at *;have Y:B<w.heap.size:=wL w _ k;cases ha:qW d m.con
 ·rw[ha] at g;go_enter Tryz.func237,Tryz.ntmps237;go_wp2_with (first|(go_at_call 235;refine(g.out _ hE).mono ?_;rintro e E ⟨rfl,j⟩));go_ret;exact⟨by rfl,hE⟩
 rw[ha] at g;go_enter Tryz.func237,Tryz.ntmps237;go_wp2_with fail;refine(g.out _ hE).mono ?_;rintro e E ⟨rfl,j⟩;have z:=bT w j;have Z:cI E w.heap.size 0 m.con:=cK j sG;refine kR6 z ?_ k p q r s y;clear k p q r s y;intro k p q r s y;clear j;go_wp2_with (first|(go_at_call 180;refine(n.out _ hE).mono ?_;rintro e w2 ⟨rfl,F⟩));go_ret;exact⟨by simp,hE⟩
theorem fJ0 (B:Nat) (x v:Value) (d:Shd) (w:World) (hx:shdR.V w x d) (hv:mrksR.V w v d.votes) (hB:∃c0 c1 c2 c3 c4 c5,x =.agg #[c0,c1,c2,c3,c4,c5]∧w.cell? ⟨B,0,none⟩=some (c0)∧w.cell? ⟨B,1,none⟩=some (c1)∧w.cell? ⟨B,2,none⟩=some (c2)∧w.cell? ⟨B,3,none⟩=some (c3)∧w.cell? ⟨B,4,none⟩=some (c4)∧w.cell? ⟨B,5,none⟩=some (c5)) (hok:LsOk d) (hh:HeldOk d) :
  cL 247 #[v,.func (.func 237) #[] #[.pointer (some ⟨B,0,none⟩)]] w fun e w'=>∃i:Int,e =.returned (.int .i64 i)∧(0≤i↔¬fI (kH d) d.votes.length=0)∧aa w w':=by
 have M:Hid (∀W (m:Mrk),aa w W→RI 237 #[.agg #[.int .i64 m.con,.int .i64 m.val],.pointer (some ⟨B,0,none⟩)] W (.bool (qW d m.con && !fP d.held m.con))):=fun W m j=>fNv B x d m W (shdR.below hx j) (by
  obtain⟨c0,c1,c2,c3,c4,c5,e,N,r,J,K,O,R⟩:=hB;exact⟨c0,c1,c2,c3,c4,c5,e,cK j N,cK j r,cK j J,cK j K,cK j O,cK j R⟩) hok hh
 obtain⟨T,cx,rfl,U,A,s⟩:=hv;unfold maxLen at A;have X:Hid (∀i,i<d.votes.length→∃b o,T=some ⟨b,o,none⟩∧qP w b (o+i*2) (d.votes.getD i default)):=s;have Y:Hid (∀k,k<d.votes.length→(qW d (d.votes.getD k default).con && !fP d.held (d.votes.getD k default).con)=false→kH d k=0):=fun k y h=>fOq h (fLj hok.ov y)
 have Z:Hid (∀k,k<d.votes.length→(qW d (d.votes.getD k default).con && !fP d.held (d.votes.getD k default).con)=true→fI (kH d) k=0→¬fI (kH d) d.votes.length=0):=fun k y h hs=>by
  have h1:=fSn h (fLj hok.ov y);rw[mV hs (by rw[h1];omega) _ y,h1];omega
 clear hx hB hok hh s;generalize hn:d.votes.length=n at *;clear hn;have eg:=enters_of Tryz.func237 kF rfl;go_enter Tryz.func247,Tryz.ntmps247;go_wp2;go_loopw [8] (fun i w'=>∃k:Nat,k≤n∧i =.int .i64 k∧Hid (fI (kH d) k=0)∧aa w w') (fun i _=>n-(intOf i).toNat)
 case atStart=>exact⟨0,oM,rfl,rfl,bR _ _⟩
 obtain⟨k,y,rfl,z,C⟩:=hrel;by_cases q:k<n
 ·
  obtain⟨bx,ox,rfl,r⟩:=X.out k q;have h1:=Y.out k q;have h2:=Z.out k q;obtain⟨l,L⟩:∃l,l=d.votes.getD k default:=⟨_,rfl⟩
  rw[←L] at r h1 h2;have p:Hid (bW w fun W=>RI 237 #[.agg #[.int .i64 l.con,.int .i64 l.val],.pointer (some ⟨B,0,none⟩)] W (.bool (qW d l.con && !fP d.held l.con))):=fun W j=>M.out W l j
  generalize (qW d l.con && !fP d.held l.con)=D at *;have E:Hid (D=false→kH d k=0):=h1;have F:Hid (D=true→fI (kH d) k=0→¬fI (kH d) n=0):=h2;clear L h1 h2;obtain⟨J,K⟩:=gD C r;clear r;cases g:D
  ·have HC:Hid (fI (kH d) (k+1)=0):=gU z.out (E.out g);rw[g] at p;clear E F z g;go_wp2_with (first|(go_at_call 237;refine(p.out _ hE).mono ?_;rintro e w1 ⟨rfl,G⟩));exact⟨⟨k+1,by omega,by go_num,HC,hE⟩,mI⟩
  have HC:=F.out g z.out;rw[g] at p;clear E F g;have H:Hid (¬fI (kH d) n=0):=HC;clear HC;go_wp2_with (first|(go_at_call 237;refine(p.out _ hE).mono ?_;rintro e w1 ⟨rfl,G⟩));go_ret;exact⟨k,rfl,⟨fun _=>H.out,fun _=>oM⟩,hE⟩
 have I:k=n:=oM;subst I;go_wp2;go_ret;exact⟨-1,rfl,⟨fun h=>absurd h oM,fun h=>absurd z.out h⟩,hE⟩
theorem fJp (x:Value) (d:Shd) (w:World) (hx:shdR.V w x d) (hok:LsOk d) (hh:HeldOk d) :
  RI 221 #[x] w (.bool (decide (¬fI (kH d) d.votes.length=0))):=by
 have B:Hid (∀W v,aa w W→mrksR.V W v d.votes→(∃C k g l m n,x =.agg #[C,k,g,l,m,n]∧W.cell? ⟨w.heap.size,0,none⟩=some (C)∧W.cell? ⟨w.heap.size,1,none⟩=some (k)∧W.cell? ⟨w.heap.size,2,none⟩=some (g)∧W.cell? ⟨w.heap.size,3,none⟩=some (l)∧W.cell? ⟨w.heap.size,4,none⟩=some (m)∧W.cell? ⟨w.heap.size,5,none⟩=some (n))→cL 247 #[v,.func (.func 237) #[] #[an w.heap.size]] W fun e w'=>∃i:Int,e =.returned (iV i)∧(0≤i↔¬fI (kH d) d.votes.length=0)∧aa W w'):=fun W v j M N=>fJ0 w.heap.size x v d W (shdR.below hx j) M N hok hh
 obtain⟨u1,u2,u3,u4,u5,rfl,h1,h2,D,E,F⟩:=hx;have G:Hid (bW w fun W=>mrksR.V W u2 d.votes):=fun W j=>mrksR.below h2 j
 obtain⟨O,k,rfl⟩:=fQ h1;obtain⟨q,g,rfl⟩:=fH h2;obtain⟨R,l,rfl⟩:=fM D;obtain⟨T,m,rfl⟩:=fH E;obtain⟨U,n,rfl⟩:=gL F;clear h1 h2 D E F hok hh;obtain⟨r,s⟩:∃r:Prop,r=¬fI (kH d) d.votes.length=0:=⟨_,rfl⟩
 have H:decide (¬fI (kH d) d.votes.length=0) = !decide (fI (kH d) d.votes.length=0):=by simp
 rw[H];clear H s r;generalize d.bals.length=X at *;generalize d.votes.length=p at *;generalize d.held.length=Y at *;generalize d.done.length=Z at *;generalize d.appl.length=n5 at *;generalize fI (kH d) p=I at *;have a0:∀(J:Fn) (first cap:Array Value) (w:World),(Instr.makeFunc J first cap).run Tryz.prog w =.ok (.func J first cap) w:=fun _ _ _ _=>rfl
 have y:Hid (bW w fun W=>W.cell? ⟨w.heap.size,0,none⟩=some (iV d.idx)→W.cell? ⟨w.heap.size,1,none⟩=some (.slice O X k)→W.cell? ⟨w.heap.size,2,none⟩=some (.slice q p g)→W.cell? ⟨w.heap.size,3,none⟩=some (.slice R Y l)→W.cell? ⟨w.heap.size,4,none⟩=some (.slice T Z m)→W.cell? ⟨w.heap.size,5,none⟩=some (.slice U n5 n)→RI 236 #[.slice q p g,.func (.func 237) #[] #[an w.heap.size]] W (.bool (!decide (I=0)))):=fun W j g0 g1 g2 g3 g4 g5=>by
  have K:=B.out W (.slice q p g) j (G.out W j) ⟨_,_,_,_,_,_,rfl,g0,g1,g2,g3,g4,g5⟩;clear B G;go_enter Tryz.func236,Tryz.ntmps236;go_wp2_with fail;refine K.mono ?_;rintro e w1 ⟨i,rfl,L,z⟩;have A:Hid (decide (0≤i) = !decide (I=0)):=by
   show _=_;rw[Bool.eq_iff_iff];simp;exact L
  clear L K;go_wp2;go_ret;exact⟨by rw[←A.out];rfl,hE⟩
 go_enter Tryz.func221,Tryz.ntmps221;go_wp2_with fail;refine(y.out _ hE sG sG sG sG sG sG).mono ?_;rintro e w1 ⟨rfl,z⟩;go_wp2;go_ret;exact⟨rfl,hE⟩
theorem fLv (x:Value) (d:Shd) (w:World) (hx:shdR.V w x d) (hok:LsOk d) :
  RI 220 #[x] w (iV (fI (kD d) d.held.length)):=by
 have aB:Hid (∀W c,aa w W→RI 235 #[x,iV c] W (.bool (qW d c))):=fun W c Y=>fHo x d c W (shdR.below hx Y) ⟨by have:=hok.nv;omega,by have:=hok.nd;omega⟩ hok.ov hok.od
 obtain⟨u1,u2,u3,u4,u5,rfl,h1,h2,K,h4,h5⟩:=hx;have ar:Hid (∃a c,u3 =.slice a d.held.length c∧d.held.length≤c∧c≤maxLen∧∀k,k<d.held.length→∃b o p q,a=some ⟨b,o,none⟩∧w.cell? ⟨b,o+k*2,none⟩=some (iV (d.held.getD k default).id)∧w.cell? ⟨b,o+k*2+1,none⟩=some (.slice p (d.held.getD k default).legs.length q)∧contR.V w (.agg #[iV (d.held.getD k default).id,.slice p (d.held.getD k default).legs.length q]) (d.held.getD k default)):=qN K;obtain⟨a1,c1,rfl⟩:=fQ h1;obtain⟨a2,c2,rfl⟩:=fH h2;obtain⟨a3,c3,rfl⟩:=fM K;obtain⟨a4,c4,rfl⟩:=fH h4;obtain⟨a5,c5,rfl⟩:=gL h5;obtain⟨_,_,e3,aJ,aC,au⟩:=ar.out;simp only[Value.slice.injEq,true_and] at e3;obtain⟨rfl,rfl⟩:=e3;unfold maxLen at aC;have HX:Hid (∀k,k<d.held.length→∃b o p q,a3=some ⟨b,o,none⟩∧w.cell? ⟨b,o+k*2,none⟩=some (iV (d.held.getD k default).id)∧w.cell? ⟨b,o+k*2+1,none⟩=some (.slice p (d.held.getD k default).legs.length q)∧contR.V w (.agg #[iV (d.held.getD k default).id,.slice p (d.held.getD k default).legs.length q]) (d.held.getD k default)):=au;have a0:Hid (∀k c,k<d.held.length→fI (kD d) k=0→kD d k=c→c≠0→fI (kD d) d.held.length=c):=fun k c hk hs h hc=>by rw[mV hs (by rw[h];exact hc) _ hk,h]
 clear h1 h2 K h4 h5 hok ar au;generalize d.bals.length=n1 at *;generalize d.votes.length=n2 at *;generalize d.held.length=X at *;generalize d.done.length=n4 at *;generalize d.appl.length=n5 at *;obtain⟨Z,hZ⟩:∃Z,Z=fI (kD d) X:=⟨_,rfl⟩
 have HZ:Hid (Z=fI (kD d) X):=hZ;rw[←hZ] at a0 ⊢;clear hZ;go_enter Tryz.func220,Tryz.ntmps220;go_wp2;go_loopw [10] (fun i w'=>∃k:Nat,k≤X∧i =.int .i64 k∧Hid (fI (kD d) k=0)∧(w'.cell? ⟨w.heap.size,0,none⟩=some (.int .i64 d.idx)∧w'.cell? ⟨w.heap.size,1,none⟩=some (.slice a1 n1 c1)∧w'.cell? ⟨w.heap.size,2,none⟩=some (.slice a2 n2 c2)∧w'.cell? ⟨w.heap.size,3,none⟩=some (.slice a3 X c3)∧w'.cell? ⟨w.heap.size,4,none⟩=some (.slice a4 n4 c4)∧w'.cell? ⟨w.heap.size,5,none⟩=some (.slice a5 n5 c5))∧aa w w') (fun i _=>X-(intOf i).toNat)
 case atStart=>exact⟨0,oM,rfl,rfl,by simp[go_sem],hE⟩
 obtain⟨k,hk,rfl,HS,⟨s,y,z,A,B,C⟩,F⟩:=hrel;have zq:w.heap.size<wr.heap.size:=wL wr _ s;by_cases a6:k<X
 ·
  obtain⟨bx,ox,pp,qq,rfl,g0,g1,hV⟩:=HX.out k a6;obtain⟨ul,av,ac⟩:=hV;simp only[Value.agg.injEq,Array.mk.injEq,List.cons.injEq,and_true,true_and] at av;subst av;have ax:Hid (bW wr fun W=>RI 142 #[.agg #[iV (d.held.getD k default).id,.slice pp (d.held.getD k default).legs.length qq]] W (iV (fA (d.held.getD k default).id (d.held.getD k default).legs))):=fun W Y=>rP _ _ _ W (legsR.below ac (bS F Y))
  have ad:Hid (bW wr fun W=>fA (d.held.getD k default).id (d.held.getD k default).legs=0→cL 192 #[.slice pp (d.held.getD k default).legs.length qq,iV d.idx] W fun e w'=>∃v,e =.returned v∧w'.ownsRow W.heap.size 168 4 v (kI d k).length (gT (kI d k))∧aa W w'):=fun W Y h0=>yA _ _ _ W (legsR.below ac (bS F Y)) (by have:=(fAu h0).2.2.1;omega)
  have D:Hid (bW wr fun W=>RI 235 #[.agg #[iV d.idx,.slice a1 n1 c1,.slice a2 n2 c2,.slice (some ⟨bx,ox,none⟩) X c3,.slice a4 n4 c4,.slice a5 n5 c5],iV (d.held.getD k default).id] W (.bool (qW d (d.held.getD k default).id))):=fun W Y=>aB.out W _ (bS F Y)
  have ae:Hid (¬fA (d.held.getD k default).id (d.held.getD k default).legs=0→Z=fA (d.held.getD k default).id (d.held.getD k default).legs):=fun h=>a0.out k _ a6 HS.out (fFb h) h
  have af:Hid (fA (d.held.getD k default).id (d.held.getD k default).legs=0→¬(uP d.held k=true∧¬(kI d k).length=0∧qW d (d.held.getD k default).id=true)→Z=1):=fun h h2=>a0.out k 1 a6 HS.out (fHz h (fun K=>h2 ⟨K.1,K.2.1,by unfold qW;rw[K.2.2.1,K.2.2.2];rfl⟩)) oM
  have ag:Hid (fA (d.held.getD k default).id (d.held.getD k default).legs=0→(uP d.held k=true∧¬(kI d k).length=0∧qW d (d.held.getD k default).id=true)→fI (kD d) (k+1)=0):=fun h h2=>gU HS.out (fLm h (by
   have K:=h2.2.2;unfold qW at K;simp at K;exact⟨h2.1,h2.2.1,K.1,K.2⟩))
  have M:Hid (∀m,k=m+1→∃q,wr.cell? ⟨bx,ox+m*2,none⟩=some (iV q)∧(uP d.held k=decide (q<(d.held.getD k default).id))):=fun m hm=>by
   obtain⟨aK,aL,_,_,he,g2,_,_⟩:=HX.out m oM;simp only[Option.some.injEq,Addr.mk.injEq,and_true] at he;obtain⟨rfl,rfl⟩:=he;refine⟨_,cK F g2,?_⟩;unfold uP;rw[hm,Nat.add_sub_cancel,decide_eq_decide];constructor
   ·
    rintro(h|h)
    ·omega
    exact h
   exact .inr
  have ak:Hid (k=0→uP d.held k=true):=fun h=>by unfold uP;exact decide_eq_true (.inl h)
  replace g0:=cK F g0;replace g1:=cK F g1;clear ac a0 HS;generalize (d.held.getD k default).legs.length=ll at *;generalize fA (d.held.getD k default).id (d.held.getD k default).legs=cf at *;generalize qW d (d.held.getD k default).id=aw at *;generalize (d.held.getD k default).id=a7 at *;have zb:bx<wr.heap.size:=wL wr _ g0;go_wp2_with fail;refine(ax.out _ hE).mono ?_;rintro e w3 ⟨rfl,a8⟩;have N:=bT wr a8;have L:cI w3 wr.heap.size 0 a7:=cK a8 sG;have b1:ah w3 wr.heap.size 1 pp ll qq:=cK a8 sG;clear a8 ax;by_cases G:cf=0;rotate_left
  ·
   have HC:=ae.out G;have aI:(cf !=0)=true:=by simp[G]
   clear ae af ag ad D;go_wp2;go_ret;exact⟨by rw[HC];rfl,hE⟩
  have ab:Hid (bW wr fun W=>cL 192 #[.slice pp ll qq,iV d.idx] W fun e w'=>∃v,e =.returned v∧w'.ownsRow W.heap.size 168 4 v (kI d k).length (gT (kI d k))∧aa W w'):=fun W Y=>ad.out W Y G
  have g:Hid (¬(uP d.held k=true∧¬(kI d k).length=0∧aw=true)→Z=1):=fun h=>af.out G h
  have j:Hid ((uP d.held k=true∧¬(kI d k).length=0∧aw=true)→fI (kD d) (k+1)=0):=fun h=>ag.out G h
  rw[G];clear ae af ag ad G;refine kR7 N ?_ g0 s y z A B C;clear g0 s y z A B C;intro g0 s y z A B C;have aM:=N.size;generalize aD:kI d k=r at *;clear aD;have ay:Hid (uP d.held k=true∨uP d.held k=false):=by cases uP d.held k <;> simp[Hid]
  cases k with
  | zero=>
   have az:=ak.out rfl;rw[az] at g j;simp only[Nat.zero_mul,Nat.add_zero] at g0 g1;clear M ak az ay;go_wp2;go_quiet (fail);obtain⟨w4,H⟩:∃w4,w4=w3.drewN nq:=⟨_,rfl⟩
   have I:aa w3 w4:=by rw[H];exact qX (bR _ _) _
   rw[←H];clear H;refine kR8 I ?_ s y z A B C L b1;clear s y z A B C L b1;intro s y z A B C L b1;have O:aa wr w4:=bS N I;go_wp2_with fail;refine(ab.out _ O).mono ?_;rintro e w5 ⟨vl,rfl,ol,J⟩;obtain⟨al,cl,rfl⟩:=fD ol;refine kR7 J ?_ s y z A B C L;clear s y z A B C L;intro s y z A B C L;have R:aa wr w5:=bS O J;clear J I ol;by_cases l:r.length=0
   ·
    have T:(((r.length:Nat):Int)==0)=true:=by simp[l]
    have HC:=g.out (fun h=>h.2.1 l);clear g j l;generalize r.length=lg at *;go_wp2;go_ret;exact⟨by rw[HC];rfl,hE⟩
   have T:(((r.length:Nat):Int)==0)=false:=by simp;exact fun h=>l (by rw[h];rfl)
   cases n:aw
   ·have HC:=g.out (fun h=>by rw[n] at h;exact absurd h.2.2 (by decide));rw[n] at D;clear g j l n;generalize r.length=lg at *;go_wp2_with (first|(go_at_call 235;refine(D.out _ hE).mono ?_;rintro e w6 ⟨rfl,E⟩));go_ret;exact⟨by rw[HC];rfl,hE⟩
   have HC:Hid (fI (kD d) (0+1)=0):=j.out ⟨by first|rfl|trivial,l,n⟩;rw[n] at D;clear g j l n;generalize r.length=lg at *;go_wp2_with fail;refine(D.out _ R).mono ?_;rintro e w6 ⟨rfl,E⟩;refine kR6 E ?_ s y z A B C;clear s y z A B C;intro s y z A B C;have am:aa wr w6:=bS R E;have U:aa w w6:=bS F am;clear E;go_wp2;exact⟨⟨1,by omega,by go_num,HC,⟨s,y,z,A,B,C⟩,U⟩,mI⟩
  | succ m=>
   obtain⟨q,gq,hq⟩:=M.out m rfl;replace gq:=cK N gq;clear M ak ay;have aE:IntKind.i64.wrap (((m+1:Nat):Int)-1)=(m:Int):=by rw[IntKind.wrap_i64];omega
   have aF:(((m+1:Nat):Int)-1)=(m:Int):=oM;have aN:IntKind.i64.wrap (m:Int)=(m:Int):=qY oM oM;have e1:((m+1:Nat):Int)<X:=oM;have e2:(m:Int)<X:=oM;have e3:(0:Int)≤m:=oM;have e4:(((m+1:Nat):Int)==0)=false:=by simp;omega
   have e5:(0:Int)≤((m+1:Nat):Int):=oM;obtain⟨ii,ao⟩:∃ii:Nat,ii=m+1:=⟨_,rfl⟩
   have aG:Hid (ii=m+1):=ao;rw[←ao] at g0 g1 aE aF e1 e4 e5 g j a6 hk hq ⊢;clear ao;have e6:¬ii=0:=by have:=aG.out;omega
   by_cases a9:q<a7
   ·
    rw[decide_eq_true a9] at hq;rw[hq] at g j;have aA:decide (q<a7)=true:=decide_eq_true a9;clear hq;go_wp2;go_quiet (fail);obtain⟨w4,H⟩:∃w4,w4=w3.drewN nq:=⟨_,rfl⟩
    have I:aa w3 w4:=by rw[H];exact qX (bR _ _) _
    rw[←H];clear H;refine kR8 I ?_ s y z A B C L b1;clear s y z A B C L b1;intro s y z A B C L b1;have O:aa wr w4:=bS N I;go_wp2_with fail;refine(ab.out _ O).mono ?_;rintro e w5 ⟨vl,rfl,ol,J⟩;obtain⟨al,cl,rfl⟩:=fD ol;refine kR7 J ?_ s y z A B C L;clear s y z A B C L;intro s y z A B C L;have R:aa wr w5:=bS O J;clear J I ol;by_cases l:r.length=0
    ·
     have T:(((r.length:Nat):Int)==0)=true:=by simp[l]
     have HC:=g.out (fun h=>h.2.1 l);clear g j l;generalize r.length=lg at *;go_wp2;go_ret;exact⟨by rw[HC];rfl,hE⟩
    have T:(((r.length:Nat):Int)==0)=false:=by simp;exact fun h=>l (by rw[h];rfl)
    cases n:aw
    ·have HC:=g.out (fun h=>by rw[n] at h;exact absurd h.2.2 (by decide));rw[n] at D;clear g j l n;generalize r.length=lg at *;go_wp2_with (first|(go_at_call 235;refine(D.out _ hE).mono ?_;rintro e w6 ⟨rfl,E⟩));go_ret;exact⟨by rw[HC];rfl,hE⟩
    have HC:Hid (fI (kD d) (ii+1)=0):=j.out ⟨by first|rfl|trivial,l,n⟩;rw[n] at D;clear g j l n;generalize r.length=lg at *;go_wp2_with fail;refine(D.out _ R).mono ?_;rintro e w6 ⟨rfl,E⟩;refine kR6 E ?_ s y z A B C;clear s y z A B C;intro s y z A B C;have am:aa wr w6:=bS R E;have U:aa w w6:=bS F am;clear E;go_wp2;exact⟨⟨ii+1,by omega,by go_num,HC,⟨s,y,z,A,B,C⟩,U⟩,mI⟩
   rw[decide_eq_false a9] at hq;rw[hq] at g j;have HC:=g.out (fun h=>by exact absurd h.1 (by decide));have aA:decide (q<a7)=false:=decide_eq_false a9;clear hq g j;go_wp2;go_quiet (fail);go_wp2;go_ret;exact⟨by rw[HC];rfl,qX hE _⟩
 have aH:k=X:=oM;subst aH;have HC:Hid (Z=0):=by show _=_;rw[HZ.out];exact HS.out
 go_wp2;go_ret;exact⟨rH,hE⟩
end Go.Proofs.YtpibfdebfacooaaGreat
namespace Go.Proofs.YtpibfdebfacooaaGreat
open Go.RowKit Go.Shelf
variable [dQ Leg] [iH Leg] [dQ Rw] [iH Rw] [dQ Bal] [iH Bal] [dQ Ledg] [iH Ledg] [dQ Cont] [iH Cont] [dQ LedgR] [iH LedgR] [dQ OutcR] [iH OutcR] [dQ Mrk] [iH Mrk] [dQ Shd] [iH Shd] [dQ ShdR] [iH ShdR]
attribute [local go_sem] Oper.semAt_some
def QclC (C:List Value) (k T L0:Nat) (w W:World) (Y:Nat→Prop) (v:Value):Prop:=
 W.cell? ⟨T,0,none⟩=some v∧W.ownsRow L0 2 1 v k C∧(∀b,v.ownBlock=some b→¬Y b)∧(∀b,b≤T→¬Y b)∧L0≤W.heap.size∧W.frozen? ⟨T,0,none⟩=false∧Below T w W
theorem fWu {C:List Value} {k T L0:Nat} {w W W':World} {Y Y' F:Nat→Prop} {v:Value} (hTL:T<L0) (h:QclC C k T L0 w W Y v) (hm:Mod F W W') (hF:∀b,b≤T→¬F b) (hFv:∀b,v.ownBlock=some b→¬F b)
  (hY:∀b,b≤T→¬Y' b) (hYv:∀b,v.ownBlock=some b→¬Y' b):QclC C k T L0 w W' Y' v:=by
 obtain⟨h1,h2,j,l,m,e,d⟩:=h;have g:=hm.size;refine⟨hm.cell h1 (hF _ (Nat.le_refl _)),hm.owns h2 hFv,hYv,hY,by omega,(hm.frz (a:=⟨T,0,none⟩) (by dsimp only;omega) (hF _ (by dsimp only;omega))).trans e,?_⟩;exact⟨hm.os.trans d.os,hm.tape.trans d.tape,hm.output.trans d.output,Nat.le_trans d.size g,fun b hb=>(hm.block b oM (hF b oM)).trans (d.block b hb)⟩
def QclI (T L0:Nat) (w:World) (pre:List Int) (W:World) (Y:Nat→Prop):Prop:=∃v,QclC (kT pre) pre.length T L0 w W Y v
theorem fWv {T L0:Nat} {w:World} (hTL:T<L0):Stb (QclI T L0 w):=by
 rintro j W p Y q ⟨v,h⟩ k l d;have m:=h;obtain⟨h1,h2,e,g,r,s,n⟩:=m;refine⟨v,fWu hTL h k g e (fun b hb h2=>?_) (fun b hb hy=>?_)⟩
 ·
  rcases(d b h2).1 with e|e
  ·exact g b hb e
  omega
 rcases(d b hy).1 with h|h
 ·exact e b hb h
 have:=(h2.lt b hb).2;omega
theorem fPm {C:List Value} {k T L0:Nat} {w W w5:World} {Y:Nat→Prop} {v:Value} {o:Obj} (hTL:T<L0) (h:QclC C k T L0 w W Y v) (hg:(W.alloc o).grownBy w5 v.ownBlock) :
  w5.cell? ⟨T,0,none⟩=some v∧w5.frozen? ⟨T,0,none⟩=false∧Mod (fun b=>v.ownBlock=some b) W w5:=by
 obtain⟨h1,h2,m,n,p,j,l⟩:=h;have d:Mod (fun b=>v.ownBlock=some b) W w5:=(vT _ W o).trans (Mod.of_grown hg);have g:¬v.ownBlock=some T:=fun e=>by have:=(h2.lt T e).1;omega
 exact⟨d.cell h1 g,(d.frz (a:=⟨T,0,none⟩) (by dsimp only;omega) g).trans j,d⟩
theorem fWt {C news:List Value} {k m T L0:Nat} {w W w5:World} {Y:Nat→Prop} {v v':Value} {o:Obj} (hTL:T<L0) (h:QclC C k T L0 w W Y v) (hg:(W.alloc o).grownBy w5 v.ownBlock)
  (ho:w5.ownsRow L0 2 1 v' (k+m) (C++news)) (hv:v'.ownBlock=v.ownBlock∨v'.ownBlock=some (W.alloc o).heap.size) (hYa:∀b,Y b→b<W.heap.size) :
  QclC (C++news) (k+m) T L0 w (w5.setCell ⟨T,0,none⟩ v') Y v'∧Mod (fun b=>b=T∨v.ownBlock=some b) W (w5.setCell ⟨T,0,none⟩ v'):=by
 obtain⟨l,n,p⟩:=fPm hTL h hg;obtain⟨h1,h2,q,r,x,y,d⟩:=h;have g:Mod (fun b=>b=T) w5 (w5.setCell ⟨T,0,none⟩ v'):=Mod.of_set w5 ⟨T,0,none⟩ v';have e:Mod (fun b=>b=T∨v.ownBlock=some b) W (w5.setCell ⟨T,0,none⟩ v'):=(p.mono (fun b h=>.inr h)).trans (g.mono (fun b h=>.inl h));have j:∀b,b<T→¬(b=T∨v.ownBlock=some b):=by
  rintro b hb (h|h)
  ·omega
  have:=(h2.lt b h).1;omega
 have s:=e.size;refine⟨⟨mY l,pK ho (by dsimp only;exact hTL) _,fun b hb hy=>?_,r,by omega,by rw[World.frozen?_setCell];exact n,
  ⟨e.os.trans d.os,e.tape.trans d.tape,e.output.trans d.output,Nat.le_trans d.size s,fun b hb=>(e.block b oM (j b oM)).trans (d.block b hb)⟩⟩,e⟩
 rcases hv with hv|hv
 ·rw[hv] at hb;exact q b hb hy
 rw[hv] at hb;cases hb;have:=hYa _ hy;simp at this;omega
def NoQ (c:Code) (pre:List Int) (W:World) (Y:Nat→Prop):Prop:=False
theorem fY1 (c:Code):Stb (NoQ c):=fun _ _ _ _ _ h _ _ _=>h
theorem fGx (gf:Nat) (lb:Array Value) (Ok Dn:List Int→Prop) (R:Nat→Prop) (w:World) (eg:∀args w,(callFunc gf args).run Tryz.prog w =.ok (.enter gf args) w) (hseq:Seqy Tryz.prog gf lb (Value.int .i64) Ok Dn R w) (hR:∀b,R b→b<w.heap.size) (hlen:∀ys,Ok ys→ys.length≤1048576) :
  cL 248 #[aj,.func (.func gf) #[] lb] w fun e w'=>∃v xs,e =.returned v∧Dn xs∧w'.ownsRow w.heap.size 2 1 v xs.length (kT xs)∧Below w.heap.size w w':=by
 obtain⟨i0,hi,X,Z,a0⟩:=info_parts fC2;refine(callsIn_wide (n:=0)).1 ?_;refine callsIn_of_wp_marks Tryz.func248 rfl trivial ?_ rfl;simp only[Tryz.ntmps248,List.size_toArray,List.length_cons,List.length_nil,Nat.reduceAdd,Nat.reduceSub,Array.replicate_succ,Array.replicate_zero,List.push_toArray,List.append_toArray,List.nil_append,List.cons_append];gi_wp2;have y:QclC (kT []) 0 w.heap.size (w.heap.size+1) w (w.alloc (.cells #[aj] 39)) (fun _=>False) aj:=
  ⟨sG,World.ownsRow_nil _ _ _ _,fun _ _ h=>h,fun _ _ h=>h,by simp,by simp[go_sem],hE⟩
 have z:=fQv hseq (vT (fun k=>¬R k) w (.cells #[aj] 39));have a6:∀b,R b→b<(w.alloc (.cells #[aj] 39)).heap.size:=fun b h=>by have:=hR b h;simp;omega
 have HR:Hid (∀b,R b→b<w.heap.size):=hR;have a7:Hid (∀ys,Ok ys→ys.length≤1048576):=hlen;have I:(w.alloc (.cells #[aj] 39)).heap.size=w.heap.size+1:=by simp
 have A:Hid ((w.alloc (.cells #[aj] 39)).heap.size=w.heap.size+1):=I;clear I hR hseq;generalize w.alloc (.cells #[aj] 39)=W0 at *;obtain⟨T,l⟩:∃T,w.heap.size=T:=⟨_,rfl⟩
 have a8:Hid (w.heap.size=T):=l;rw[l] at y HR A ⊢;clear l;obtain⟨L0,ab⟩:∃L,T+1=L:=⟨_,rfl⟩
 rw[ab] at y A;have B:T<L0:=oM;refine fM8 (gf:=gf) rfl eg z a6 (QclI T L0 w) NoQ (fWv B) fY1 (fun _=>False) (fun _ h=>h.elim) ⟨_,y⟩
  (fun x a' _ _=>a'={tmps:=#[aj,.func (.func gf) #[] lb,an T,undef,aj,iV x,.func (.func gf) #[] lb,iV x,undef,undef,undef,undef,undef],defers:=[]})
  (fun x a' _ _ _ _ _ h _ _ _=>h) ?assign ?body ?done ?stop
 case assign=>
  intro l2 d x F Y K hI ac J hK;gi_wp2;exact hK _ _ (Mod.refl _ _) rfl
 case body=>
  rintro l2 d x a' F Y ac J ⟨vv,ha⟩ rfl r;have ad:d.length≤1048576:=by have:=a7.out _ r;rw[List.length_append] at this;omega
  have HP:Hid ((d++[x]).length=d.length+1∧kT (d++[x])=kT d++[iV x]):=⟨by simp,by simp[kT]⟩;have C:=ha;obtain⟨a1,E,a3,a4,a5,a9,g⟩:=ha;obtain⟨ys,M⟩:∃ys,kT d=ys:=⟨_,rfl⟩
  obtain⟨m,hm⟩:∃m,d.length=m:=⟨_,rfl⟩
  rw[M,hm] at E HP C;rw[hm] at ad;clear M hm;obtain⟨av,cv,rfl⟩:=fD E;have ae:=wL _ _ a1;dsimp only at ae;gi_wp2_with (gi_at_builtin;refine wpListIn_append_own_at _ rfl _ _ 39 rfl L0 2 i0 _ 1 8 Tryz.underlying39 hi X Z a0 rfl (by decide) _ _ _ rfl (E.alloc _) ⟨F.heap.size,0,none⟩ 1 1 [iV x] rfl rfl ?c1 ?c2 ?c3 ?c4 ?c5 ?_)
  case c1=>
   intro j u G;match j,G with
   | 0,G=>simp at G;subst G;simp[Addr.add,go_sem]
   | j+1,G=>simp at G
  case c2=>
   intro u hu;rw[List.mem_singleton] at hu;rw[hu];rfl
  case c3=>unfold maxLen;omega
  case c4=>omega
  case c5=>simp;omega
  intro v' w5 p q _ N;obtain⟨g',O,rfl⟩:=ownsRow_succ p;obtain⟨b1,b9,_⟩:=fPm B C q;obtain⟨U,hM⟩:=fWt B C q p (by rw[World.size_alloc];exact N) J;gi_wp2;refine⟨hM.mono (fun b h=>?_),.slice (some ⟨g',0,none⟩) (m+1) O,?_⟩
  ·
   rcases h with rfl|h
   ·
    rintro(h2|h2)
    ·have:=HR.out _ h2;omega
    exact a4 _ (Nat.le_refl _) h2
   have:=(E.lt b h).1;rintro(h2|h2)
   ·have:=HR.out _ h2;omega
   exact a3 b h h2
  rw[HP.out.1,HP.out.2];exact U
 case done=>
  rintro D F Y hD V xs af ⟨vv,ha⟩ s;obtain⟨a1,E,a3,a4,a5,a9,g⟩:=ha;obtain⟨av,cv,rfl⟩:=fD E;have ag:=A.out;gi_wp2;refine⟨by simp,.inl ⟨_,_,rfl,run_takeDeferred s,?_⟩⟩;refine⟨.slice av xs.length cv,by simp[results,Tryz.results248,go_sem],?_⟩;have H:Mod (fun b=>b=D) F (F.putObj D (.deferred none)):=fFu _ _ _;have l:=a8.out;rw[l];refine⟨_,xs,rfl,af,qI (H.owns E (fun b hb e=>a3 b hb (by rw[e];exact V))) oM,?_⟩;exact⟨H.os.trans g.os,H.tape.trans g.tape,H.output.trans g.output,Nat.le_trans g.size H.size,fun b hb=>(H.block b (by have:=g.size;omega) oM).trans (g.block b hb)⟩
 case stop=>
  rintro D c d F Y hD V r h s;exact h.elim
theorem fK9 (gf:Nat) (lb:Array Value) (Ok Dn:List Int→Prop) (R:Nat→Prop) (w:World) (eg:∀args w,(callFunc gf args).run Tryz.prog w =.ok (.enter gf args) w) (hseq:Seqy Tryz.prog gf lb (Value.int .i64) Ok Dn R w) (hR:∀b,R b→b<w.heap.size) (hlen:∀ys,Ok ys→ys.length≤1048576) :
  cL 238 #[.func (.func gf) #[] lb] w fun e w'=>∃v xs,e =.returned v∧Dn xs∧w'.ownsRow w.heap.size 2 1 v xs.length (kT xs)∧aa w w':=by
 have g:=fGx gf lb Ok Dn R w eg hseq hR hlen;clear eg hseq;go_enter Tryz.func238,Tryz.ntmps238;go_wp2_with fail;refine g.mono ?_;rintro e k ⟨v,xs,rfl,d,j,hb⟩;obtain⟨l,m,rfl⟩:=fD j;clear g;go_wp2;go_ret;exact⟨_,xs,rfl,d,j,hb⟩
theorem fPj (Bs:Nat) (v:Value) (xs:List Int) (w:World) (hB:w.cell? ⟨Bs,0,none⟩=some v) (hT:xN w v xs) :
  Seqy Tryz.prog 240 #[an Bs] (Value.int .i64) (fun ys=>ys <+: xs) (fun ys=>ys=xs) (fun b=>b<w.heap.size) w:=by
 intro l J Jx W X I B hJ V Y h0;have C:Bs<w.heap.size:=wL w _ hB;have Z:=I.cell hB (fun h=>h C);obtain⟨a,cap,rfl,a0,D,d⟩:=hT;have g:∀i,i<xs.length→∃b o,a=some ⟨b,o,none⟩∧b<w.heap.size∧W.cell? ⟨b,o+i,none⟩=some (iV (xs.getD i 0)):=fun i hi=>by
  obtain⟨b,o,e,m⟩:=d i hi;have K:b<w.heap.size:=wL w _ m;exact⟨b,o,e,K,I.cell m (fun h=>h K)⟩
 clear hB d;unfold maxLen at D;have HP:Hid (∀k,k<xs.length→xs.take k++[xs.getD k 0]=xs.take (k+1)):=fun k E=>by rw[List.take_add_one,List.getElem?_eq_getElem E];simp[List.getD,E]
 have L:Hid (∀k,xs.take k <+: xs):=fun k=>List.take_prefix _ _
 have HE:Hid (xs.take xs.length=xs):=List.take_length;generalize M:xs.length=n at *;have HN:Hid (xs.length=n):=M;clear M;refine callsIn_of_wp Tryz.func240 rfl trivial ?_ rfl;simp only[Tryz.ntmps240,List.size_toArray,List.length_cons,List.length_nil,Nat.reduceAdd,Nat.reduceSub,Array.replicate_succ,Array.replicate_zero,List.push_toArray,List.append_toArray,List.nil_append,List.cons_append];gi_wp2;gi_loopw [7] (fun i wr=>∃k:Nat,k≤n∧i =iV k∧Hid (J (xs.take k) wr X)∧Hid (∀b,X b→b<wr.heap.size)∧Mod (fun b=>¬b<w.heap.size) W wr) (fun i _=>n-(intOf i).toNat)
 case atStart=>exact⟨0,oM,rfl,(show J [] W X from h0),B,Mod.refl _ _⟩
 obtain⟨k,E,rfl,N,p,r⟩:=hrel;by_cases s:k<n
 ·
  obtain⟨b,o,rfl,F,m⟩:=g k s;obtain⟨q,O⟩:∃q,q=xs.getD k 0:=⟨_,rfl⟩
  have z:=HP.out k s;rw[←O] at m z;have x:Hid (xs.take k++[q]=xs.take (k+1)):=z;replace m:=r.cell m (fun h=>h F);obtain⟨fn,R,A,T,hy,G⟩:=Y _ q _ X N.out (fun _ h=>h) p.out (by rw[z];exact L.out _);clear z O g;gi_wp2;refine⟨rfl,G.mono ?_⟩;rintro e W3 (⟨rfl,H,j⟩|⟨rfl,y,j⟩)
  ·
   gi_wp2
   go_roundw
   case rel=>
    have hs:=j.size;refine⟨k+1,by omega,by simp,?_,fun b h=>?_,r.trans (j.mono (fun b h hr=>h (.inl hr)))⟩
    ·rw[Hid,←x.out];exact H
    have:=p.out b h;omega
   case measure=>simp[intOf];omega
  gi_wp2
  refine bodyPost_ret (results_none rfl _ _ _) rfl ?_;exact⟨⟨_,rfl⟩,X,fun _ h=>h,.inr ⟨_,by rw[x.out];exact L.out _,y⟩⟩
 obtain rfl:k=n:=oM;gi_wp2;go_end0;refine⟨⟨_,rfl⟩,X,fun _ h=>h,.inl ⟨_,rfl,?_⟩⟩;have U:=N.out;rw[HE.out] at U;exact U
theorem fPi (a:Option Addr) (n c:Nat) (w:World):cL 224 #[.slice a n c] w fun e w'=>e =.returned (.func (.func 240) #[] #[an w.heap.size])∧w'=w.alloc (.cells #[.slice a n c] 39):=by
 have g:∀(d:Fn) (first cap:Array Value) (w:World),(Instr.makeFunc d first cap).run Tryz.prog w =.ok (.func d first cap) w:=fun _ _ _ _=>rfl
 go_enter Tryz.func224,Tryz.ntmps224;go_wp2;go_ret;exact⟨rfl,rfl⟩
end Go.Proofs.YtpibfdebfacooaaGreat
namespace Go.Proofs.YtpibfdebfacooaaGreat
open Go.RowKit
variable [dQ Rw] [iH Rw] [dQ Bal] [iH Bal] [dQ Ledg] [iH Ledg] [dQ Leg] [iH Leg] [dQ Cont] [iH Cont] [dQ LedgR] [iH LedgR] [dQ OutcR] [iH OutcR] [dQ Mrk] [iH Mrk] [dQ Shd] [iH Shd] [dQ ShdR] [iH ShdR]
attribute [local go_sem ↓] Go.wp_at_zero Go.wp_at_succ
theorem fRy (x y:Value) (xs ys:List Int) (w:World) (hx:xN w x xs) (hy:xN w y ys) :
  RI 222 #[x,y] w (.bool (decide (xs=ys))):=by
 obtain⟨R,T,rfl,J,p,hx⟩:=hx;obtain⟨U,V,rfl,r,s,hy⟩:=hy;unfold maxLen at p s;by_cases l:xs.length=ys.length;rotate_left
 ·
  have e:decide (xs=ys)=false:=decide_eq_false (fun h=>l (by rw[h]));rw[e];have K:((xs.length:Int) !=(ys.length:Int))=true:=by simp;omega
  clear hx hy;go_enter Tryz.func222,Tryz.ntmps222;go_wp2;go_ret;exact⟨rfl,hE⟩
 have L:Hid (∀k,k<xs.length→¬xs.getD k 0=ys.getD k 0→decide (xs=ys)=false):=fun k M h=>decide_eq_false (fun e=>h (by rw[e]))
 have N:Hid ((∀k,k<xs.length→xs.getD k 0=ys.getD k 0)→decide (xs=ys)=true):=fun h=>decide_eq_true (fH1 l.symm h)
 rw[←l] at r hy ⊢;clear l;generalize z:xs.length=n at *;clear z;go_enter Tryz.func222,Tryz.ntmps222;go_wp2;go_loopw [13] (fun i w'=>∃k:Nat,k≤n∧i =.int .i64 k∧Hid (∀j,j<k→xs.getD j 0=ys.getD j 0)∧aa w w') (fun i _=>n-(intOf i).toNat)
 case atStart=>exact⟨0,oM,rfl,fun j F=>absurd F oM,bR _ _⟩
 obtain⟨k,M,rfl,G,d⟩:=hrel;by_cases g:k<n
 ·
  obtain⟨X,Y,rfl,H⟩:=hx k g;obtain⟨O,Z,rfl,I⟩:=hy k g;replace H:=cK d H;replace I:=cK d I;have h1:=L.out k g;have A:Hid (xs.getD k 0=ys.getD k 0→∀j,j<k+1→xs.getD j 0=ys.getD j 0):=fun h j F=>by
   by_cases e:j=k
   ·rw[e];exact h
   exact G.out j oM
  generalize xs.getD k 0=q at *;generalize ys.getD k 0=m at *;have B:Hid (¬q=m→decide (xs=ys)=false):=h1;clear h1 hx hy;have k1:(k:Int)<n:=oM;have k2:(0:Int)≤k:=oM;by_cases he:q=m
  ·
   have HC:=A.out he;have C:Hid (∀j,j<k+1→xs.getD j 0=ys.getD j 0):=HC;have D:(q !=m)=false:=by simp[he]
   clear HC B A he;go_wp2;go_quiet (fail);go_wp2;exact⟨⟨k+1,by omega,by go_num,C,qX d _⟩,mI⟩
  have HC:=B.out he;have D:(q !=m)=true:=by simp[he]
  clear B A he;go_wp2;go_quiet (fail);go_wp2;go_ret;exact⟨by rw[HC];rfl,qX d _⟩
 have E:k=n:=oM;subst E;have HC:=N.out G.out;go_wp2;go_ret;exact⟨by rw[HC];rfl,hE⟩
theorem fCu (x:Value) (d:Shd) (w:World) (hx:shdR.V w x d) (hn:d.done.length≤1000) :
  cL 225 #[x] w fun e w'=>∃v,e =.returned v∧w'.ownsRow w.heap.size 2 1 v (kG d.done).length (kT (kG d.done))∧aa w w':=by
 obtain⟨u1,u2,u3,u4,u5,rfl,h1,h2,h3,h4,h5⟩:=hx;obtain⟨a1,c1,rfl⟩:=fQ h1;obtain⟨a2,c2,rfl⟩:=fH h2;obtain⟨a3,c3,rfl⟩:=fM h3;obtain⟨a4,c4,rfl,ac,O,D⟩:=h4;obtain⟨a5,c5,rfl⟩:=gL h5;unfold maxLen at O;have HX:Hid (∀i,i<d.done.length→∃b o,a4=some ⟨b,o,none⟩∧qP w b (o+i*2) (d.done.getD i default)):=D;have R:Hid (∀k,k<d.done.length→kG (d.done.take (k+1))=if (d.done.getD k default).val=1 then kG (d.done.take k)++[(d.done.getD k default).con] else kG (d.done.take k)):=fun k hk=>fHw hk
 have T:Hid (kG (d.done.take d.done.length)=kG d.done):=by show _=_;rw[List.take_length]
 have U:Hid (∀k,(kG (d.done.take k)).length≤k):=fun k=>Nat.le_trans (fPw _) (by rw[List.length_take];omega)
 clear h1 h2 h3 h5 D;generalize d.bals.length=n1 at *;generalize d.votes.length=n2 at *;generalize d.held.length=n3 at *;generalize d.done.length=M at *;generalize d.appl.length=n5 at *;obtain⟨E,F,G,y,z⟩:=info_parts fC2;have n:Hid (Tryz.prog.info? 2=some E∧E.zero=some (iV 0)∧E.size=1∧E.bytes=8):=⟨F,G,y,z⟩;clear F G y z;go_enter Tryz.func225,Tryz.ntmps225;go_wp2;go_loopw [3,9] (fun s i w'=>∃(k m:Nat) (p:Option Addr) (q:Nat),k≤M∧s =.slice p m q∧i =.int .i64 k∧Hid ((kG (d.done.take k)).length=m)∧Hid (w'.ownsRow w.heap.size 2 1 (.slice p m q) m (kT (kG (d.done.take k))))∧aa w w') (fun s i _=>M-(intOf i).toNat)
 case atStart=>exact⟨0,0,none,0,Nat.zero_le _,rfl,rfl,by show(kG (d.done.take 0)).length=0;simp[kG],by show World.ownsRow _ _ _ _ _ _ _;exact World.ownsRow_nil _ _ _ _,hE⟩
 obtain⟨k,m,p,q,hk,rfl,rfl,H,I,r⟩:=hrel;by_cases J:k<M
 ·
  obtain⟨bx,ox,rfl,X⟩:=HX.out k J;have h1:=R.out k J;have hl:=U.out k;obtain⟨l,K⟩:∃l,l=d.done.getD k default:=⟨_,rfl⟩
  rw[←K] at X h1;have N:Hid (kG (d.done.take (k+1))=if l.val=1 then kG (d.done.take k)++[l.con] else kG (d.done.take k)):=h1;clear K h1;obtain⟨g2,g3⟩:=gD r X;have zb:bx<wr.heap.size:=wL wr _ g2;have ad:m≤k:=by rw[←H.out];exact hl
  clear hl X;by_cases he:l.val=1
  ·
   have Y:(l.val==1)=true:=by simp[he]
   have L:Hid (kG (d.done.take (k+1))=kG (d.done.take k)++[l.con]):=by show _=_;rw[N.out,if_pos he]
   clear N;rw[he] at g3;have A:∀g,(Value.slice p m q).ownBlock=some g→w.heap.size≤g∧g<wr.heap.size:=fun g h=>I.out.lt g h
   have Z:Hid (∀g,(Value.slice p m q).ownBlock=some g→w.heap.size≤g∧g<wr.heap.size):=A;clear A;go_wp2_with (at_builtin;refine wpList_append_own_at _ rfl _ _ 39 rfl w.heap.size 2 E _ 1 8 Tryz.underlying39 n.out.1 n.out.2.1 n.out.2.2.1 n.out.2.2.2 rfl (by decide) _ m (kT (kG (d.done.take k))) rfl (fO I.out (bA (bA (bR _ _) _) _)) ⟨wr.heap.size+1,0,none⟩ 1 1 [iV l.con] rfl rfl ?c1 ?c2 ?c3 ?c4 ?c5 ?_)
   case c1=>
    intro j u C;match j,C with
    | 0,C=>simp at C;subst C;simp[Addr.add,go_sem]
    | j+1,C=>simp at C
   case c2=>
    intro u hu;rw[List.mem_singleton] at hu;rw[hu];rfl
   case c3=>unfold maxLen;omega
   case c4=>omega
   case c5=>have:=r.size;simp;omega
   intro v6 w6 o6 g6 _ l6;obtain⟨a6,c6,rfl⟩:=fD o6;have a0:aa w w6:=((bA (bA r _) _)).grown g6 (by have:=r.size;simp;omega) (fun g h=>(Z.out g h).1);have a7:Hid (w6.ownsRow w.heap.size 2 1 (.slice a6 (m+1) c6) (m+1) (kT (kG (d.done.take (k+1))))):=by
    show World.ownsRow _ _ _ _ _ _ _;rw[L.out];have e:kT (kG (d.done.take k)++[l.con])=kT (kG (d.done.take k))++[iV l.con]:=by simp[kT]
    rw[e];exact o6
   have B:Hid ((kG (d.done.take (k+1))).length=m+1):=by show _=_;rw[L.out,List.length_append,H.out];rfl
   clear o6 g6 l6;go_wp2;exact⟨⟨k+1,m+1,a6,c6,by omega,rfl,by go_num,B,a7,a0⟩,mI⟩
  have Y:(l.val==1)=false:=by simp[he]
  have L:Hid (kG (d.done.take (k+1))=kG (d.done.take k)):=by show _=_;rw[N.out,if_neg he]
  have B:Hid ((kG (d.done.take (k+1))).length=m):=by show _=_;rw[L.out,H.out]
  clear N;go_wp2;refine⟨⟨k+1,m,p,q,by omega,rfl,by go_num,B,?_,hE⟩,mI⟩;show World.ownsRow _ _ _ _ _ _ _;rw[L.out];exact fO I.out hE
 have a8:k=M:=oM;subst a8;have ho:=I.out;have hm:=H.out;rw[T.out] at ho hm;have a9:Hid (wr.ownsRow w.heap.size 2 1 (.slice p m q) m (kT (kG d.done))):=ho;have ab:Hid ((kG d.done).length=m):=hm;clear ho hm I H;go_wp2;go_ret;exact⟨_,rfl,by rw[ab.out];exact a9.out,hE⟩
end Go.Proofs.YtpibfdebfacooaaGreat
namespace Go.Proofs.YtpibfdebfacooaaGreat
open Go.Shelf
def Tryz.sortI_ren:Go.Shelf.Ren:=⟨fun|5=>239|8=>250|7=>249|19=>263|20=>264|10=>254|11=>255|12=>256|13=>257|14=>258|15=>259|16=>260|17=>261|18=>262|30=>273|31=>274|32=>275|33=>276|34=>277|35=>230|40=>281|n=>n,fun|23=>39|25=>2|3=>3|32=>174|22=>39|0=>0|44=>287|46=>173|4=>4|36=>281|35=>280|41=>220|5=>5|9=>9|53=>294|57=>298|63=>302|64=>303|n=>n,fun|n=>n⟩
theorem Tryz.sortI:Go.Proofs.SlLaysM.n5 Tryz.prog Tryz.sortI_ren:={
 mixed:=kF
 f5:=⟨Tryz.f239.name,by decide,Tryz.func239.trans (congrArg some kF)⟩
 f7:=⟨Tryz.f249.name,by decide,Tryz.func249.trans (congrArg some kF)⟩
 f8:=Tryz.func250.trans (congrArg some kF)
 f10:=⟨Tryz.f254.name,by decide,Tryz.func254.trans (congrArg some kF)⟩
 f11:=⟨Tryz.f255.name,by decide,Tryz.func255.trans (congrArg some kF)⟩
 f12:=⟨Tryz.f256.name,by decide,Tryz.func256.trans (congrArg some kF)⟩
 f13:=⟨Tryz.f257.name,by decide,Tryz.func257.trans (congrArg some kF)⟩
 f14:=⟨Tryz.f258.name,by decide,Tryz.func258.trans (congrArg some kF)⟩
 f15:=⟨Tryz.f259.name,by decide,Tryz.func259.trans (congrArg some kF)⟩
 f16:=⟨Tryz.f260.name,by decide,Tryz.func260.trans (congrArg some kF)⟩
 f17:=⟨Tryz.f261.name,by decide,Tryz.func261.trans (congrArg some kF)⟩
 f18:=⟨Tryz.f262.name,by decide,Tryz.func262.trans (congrArg some kF)⟩
 f19:=Tryz.func263.trans (congrArg some kF)
 f20:=Tryz.func264.trans (congrArg some kF)
 f30:=⟨Tryz.f273.name,by decide,Tryz.func273.trans (congrArg some kF)⟩
 f31:=Tryz.func274.trans (congrArg some kF)
 f32:=Tryz.func275.trans (congrArg some kF)
 f33:=⟨Tryz.f276.name,by decide,Tryz.func276.trans (congrArg some kF)⟩
 f34:=⟨Tryz.f277.name,by decide,Tryz.func277.trans (congrArg some kF)⟩
 f35:=⟨Tryz.f230.name,by decide,Tryz.func230.trans (congrArg some kF)⟩
 f40:=⟨Tryz.f281.name,by decide,Tryz.func281.trans (congrArg some kF)⟩
 t0:=Tryz.underlying0
 a0:=Tryz.isAgg0
 z0:=Tryz.sizeOf0
 v0:=Tryz.zeroValue0
 t3:=Tryz.underlying3
 a3:=Tryz.isAgg3
 z3:=Tryz.sizeOf3
 v3:=Tryz.zeroValue3
 t4:=Tryz.underlying4
 a4:=Tryz.isAgg4
 z4:=Tryz.sizeOf4
 v4:=Tryz.zeroValue4
 t5:=Tryz.underlying5
 a5:=Tryz.isAgg5
 z5:=Tryz.sizeOf5
 v5:=Tryz.zeroValue5
 t9:=Tryz.underlying9
 a9:=Tryz.isAgg9
 z9:=Tryz.sizeOf9
 v9:=Tryz.zeroValue9
 t22:=Tryz.underlying39
 a22:=Tryz.isAgg39
 z22:=Tryz.sizeOf39
 v22:=Tryz.zeroValue39
 t23:=Tryz.underlying39
 a23:=Tryz.isAgg39
 z23:=Tryz.sizeOf39
 v23:=Tryz.zeroValue39
 t25:=Tryz.underlying2
 a25:=Tryz.isAgg2
 z25:=Tryz.sizeOf2
 v25:=Tryz.zeroValue2
 t32:=Tryz.underlying174
 a32:=Tryz.isAgg174
 z32:=Tryz.sizeOf174
 v32:=Tryz.zeroValue174
 t35:=Tryz.underlying280
 a35:=Tryz.isAgg280
 z35:=Tryz.sizeOf280
 v35:=Tryz.zeroValue280
 t36:=Tryz.underlying281
 a36:=Tryz.isAgg281
 z36:=Tryz.sizeOf281
 v36:=Tryz.zeroValue281
 t41:=Tryz.underlying220
 a41:=Tryz.isAgg220
 z41:=Tryz.sizeOf220
 v41:=Tryz.zeroValue220
 t44:=Tryz.underlying287
 a44:=Tryz.isAgg287
 z44:=Tryz.sizeOf287
 v44:=Tryz.zeroValue287
 t46:=Tryz.underlying173
 a46:=Tryz.isAgg173
 z46:=Tryz.sizeOf173
 v46:=Tryz.zeroValue173
 t53:=Tryz.underlying294
 a53:=Tryz.isAgg294
 z53:=Tryz.sizeOf294
 v53:=Tryz.zeroValue294
 t57:=Tryz.underlying298
 a57:=Tryz.isAgg298
 z57:=Tryz.sizeOf298
 v57:=Tryz.zeroValue298
 t63:=Tryz.underlying302
 a63:=Tryz.isAgg302
 z63:=Tryz.sizeOf302
 v63:=Tryz.zeroValue302
 t64:=Tryz.underlying303
 a64:=Tryz.isAgg303
 z64:=Tryz.sizeOf303
 v64:=Tryz.zeroValue303}
end Go.Proofs.YtpibfdebfacooaaGreat
namespace Go.Proofs.YtpibfdebfacooaaGreat
open Go.RowKit Go.Sort Go.Shelf
variable [dQ Leg] [iH Leg] [dQ Rw] [iH Rw] [dQ Bal] [iH Bal] [dQ Ledg] [iH Ledg] [dQ Cont] [iH Cont] [dQ LedgR] [iH LedgR] [dQ OutcR] [iH OutcR] [dQ Mrk] [iH Mrk] [dQ Shd] [iH Shd] [dQ ShdR] [iH ShdR]
attribute [local go_sem ↓] Go.wp_at_zero Go.wp_at_succ
theorem gAi {w:World} {g:Nat} {cur:Array Value} {e:TypeId} {ss:List Int} (hb:w.heap[g]? = some (.cells cur e (0,0))) (ht:cur.toList.take ss.length=ss.map (Value.int .i64)):Go.Sort.Holds (Value.int .i64) w g 0 ss.toArray:=by
 intro j k;have d:j<ss.length:=by simpa using k
 refine⟨?_,by simp[World.frozen?,hb]⟩;have h1:(cur.toList.take ss.length)[j]? = (ss.map (Value.int .i64))[j]?:=by rw[ht]
 rw[List.getElem?_take_of_lt d] at h1;simp only[World.cell?,hb,Nat.zero_add];rw[←Array.getElem?_toList,h1];simp[d]
theorem gA8 {w:World} {g n:Nat} {os:Array Obj} {cur:Array Value} {e:TypeId} {fr:Nat × Nat} (d:Array Int) (hb:w.heap[g]? = some (.cells cur e fr)) :
  (grow (putRow (Value.int .i64) (Sort.ahead w n) g 0 d) os).heap[g]? = some (.cells (putCells (Value.int .i64) 0 d cur) e fr):=by
 have j:g<w.heap.size:=(Array.getElem?_eq_some_iff.1 hb).1;rw[heap_grow_old _ _ (by simpa using j)];simp[putRow,mapBlock,Sort.ahead,Array.getElem?_modify,hb,onCells]
theorem gAg {w:World} {g n:Nat} {os:Array Obj} (d:Array Int):w.grownBy (grow (putRow (Value.int .i64) (Sort.ahead w n) g 0 d) os) (some g):=by
 refine⟨rfl,rfl,rfl,by simp,fun k l j=>?_⟩;rw[heap_grow_old _ _ (by simpa using l)];have:g≠k:=fun e=>j (by rw[e])
 simp[putRow,mapBlock,Sort.ahead,Array.getElem?_modify,this]
theorem gBh (cur:Array Value) (ts:List Int) (h:ts.length≤cur.size):(putCells (Value.int .i64) 0 ts.toArray cur).toList.take ts.length=ts.map (Value.int .i64):=by
 apply List.ext_getElem?;intro j;by_cases d:j<ts.length
 ·rw[List.getElem?_take_of_lt d,Array.getElem?_toList];simp[putCells,d,show j<cur.size by omega]
 rw[List.getElem?_take_eq_none oM,List.getElem?_eq_none (by simp;omega)]
theorem gBd {w:World} {base g cap n:Nat} {e:TypeId} {os:Array Obj} {cur:Array Value} {ss ts:List Int} (hl:ts.length=ss.length) (hbase:base≤g) (hb:w.heap[g]? = some (.cells cur e (0,0)))
  (h1:ss.length≤cap) (h2:cap≤maxLen) (h3:cur.size=cap*1) :
  (grow (putRow (Value.int .i64) (Sort.ahead w n) g 0 ts.toArray) os).ownsRow base e 1 (.slice (some ⟨g,0,none⟩) ss.length cap) ss.length (ts.map (Value.int .i64)):=
 ⟨by simp[hl],.inr ⟨g,cap,_,rfl,hbase,gA8 _ hb,h1,h2,by simp[putCells,h3],by rw[Nat.mul_one,←hl];exact gBh cur ts oM⟩⟩
def sortI (xs:List Int):List Int:=xs.mergeSort (fun x y=>decide (x≤y))
theorem fO7 (a:Option Addr) (n c:Nat) (xs:List Int) (w:World) (hx:xN w (.slice a n c) xs) (Bs:Nat) (hB:w.cell? ⟨Bs,0,none⟩=some (.slice a n c)) (hl:xs.length≤1048576) :
  cL 223 #[.func (.func 240) #[] #[an Bs]] w fun e w'=>∃v,e =.returned v∧w'.ownsRow w.heap.size 2 1 v (sortI xs).length (kT (sortI xs))∧Go.RowKit.Below w.heap.size w w':=by
 have I:=enters_of Tryz.func240 kF rfl;have J:=fK9 240 #[an Bs] _ _ _ w I (fPj Bs _ xs w hB hx) (fun b h=>h) (fun ys h=>by have:=h.length_le;omega);clear I hx hB;go_enter Tryz.func223,Tryz.ntmps223;go_wp2_with fail;refine J.mono ?_;rintro e r ⟨v,ys,rfl,rfl,B,hb⟩;clear J;have l:(sortI ys).length=ys.length:=by unfold sortI;exact(List.mergeSort_perm _ _).length_eq
 rcases B.2 with ⟨rfl,N⟩|⟨g,cap,cur,rfl,s,C,z,D,E,d⟩
 ·
  have hx:ys=[]:=List.eq_nil_of_length_eq_zero N;subst hx;go_wp2_with fail;refine(AnyM.slices_Sort_int_none Tryz.sortI none 0 r).mono ?_;rintro e K ⟨rfl,p⟩;obtain rfl:=p.symm;have O:sortI []=[]:=by unfold sortI;simp
  go_wp2;go_ret;exact⟨_,rfl,by rw[O];exact B,hb⟩
 have F:g<r.heap.size:=(Array.getElem?_eq_some_iff.1 C).1;have j:=AnyM.slices_Sort_int Tryz.sortI g 0 cap ys r (gAi C (by rw[Nat.mul_one] at d;exact d)) F oM;have q:Hid (∀k os,(grow (putRow (Value.int .i64) (Sort.ahead r k) g 0 (ys.mergeSort fun x y=>decide (x≤y)).toArray) os).ownsRow w.heap.size 2 1 (.slice (some ⟨g,0,none⟩) ys.length cap) (sortI ys).length (kT (sortI ys))):=fun k os=>by
  have h:=gBd (w:=r) (base:=w.heap.size) (g:=g) (cap:=cap) (n:=k) (os:=os) (ss:=ys) (ts:=sortI ys) l s C z D E;rw[l];exact h
 have A:Hid (∀k os,Go.RowKit.Below w.heap.size w (grow (putRow (Value.int .i64) (Sort.ahead r k) g 0 (ys.mergeSort fun x y=>decide (x≤y)).toArray) os)):=fun k os=>hb.grown (gAg _) hb.size (fun b e=>by cases e;exact s)
 change cL 239 _ _ _ at j
 obtain⟨m,L⟩:∃m,m=ys.length:=⟨_,rfl⟩
 rw[←L] at j q ⊢;clear L B l d z;go_wp2_with fail;refine j.mono ?_;rintro e K ⟨rfl,k,os,p⟩;have G:=q.out k os;have M:=A.out k os;rw[←p] at G M;have H:Hid (K.ownsRow w.heap.size 2 1 (.slice (some ⟨g,0,none⟩) m cap) (sortI ys).length (kT (sortI ys))):=G;clear j p G q A;go_wp2;go_ret;exact⟨_,rfl,H.out,M⟩
end Go.Proofs.YtpibfdebfacooaaGreat
namespace Go.Proofs.YtpibfdebfacooaaGreat
open Go.RowKit
variable [dQ Rw] [iH Rw] [dQ Bal] [iH Bal] [dQ Ledg] [iH Ledg] [dQ Leg] [iH Leg] [dQ Cont] [iH Cont] [dQ LedgR] [iH LedgR] [dQ OutcR] [iH OutcR] [dQ Mrk] [iH Mrk] [dQ Shd] [iH Shd] [dQ ShdR] [iH ShdR]
attribute [local go_sem ↓] Go.wp_at_zero Go.wp_at_succ
theorem fHg (i:Int) (x:Value) (xs:List Bal) (w:World) (hx:balsR.V w x xs) :
  RI 67 #[iV i,x] w (iV (qA i xs)):=by
 have d:Hid (bW w fun W=>RI 112 #[x] W (iV (gZ xs))):=fun W g=>zH x xs W (balsR.below hx g)
 obtain⟨a,c,rfl⟩:=fQ hx;clear hx;generalize xs.length=n at *;unfold qA;cases h:inB i 0 2
 ·go_enter Tryz.func67,Tryz.ntmps67;go_wp2_with (first|(go_at_call 111;refine(vR _ _).mono ?_;rintro e w' ⟨rfl,rfl⟩;rw[h]));go_ret;exact⟨rfl,hE⟩
 go_enter Tryz.func67,Tryz.ntmps67;go_wp2_with (first|(go_at_call 111;refine(vR _ _).mono ?_;rintro e w' ⟨rfl,rfl⟩;rw[h])|(go_at_call 112;refine(d.out _ hE).mono ?_;rintro e w' ⟨rfl,j⟩));go_ret;exact⟨rfl,hE⟩
def mx4 (x y z u:Int):Int:=if u>(if z>(if y>x then y else x) then z else (if y>x then y else x)) then u else (if z>(if y>x then y else x) then z else (if y>x then y else x))
theorem mx4_gt {x y z u:Int}:100<mx4 x y z u↔(100<x∨100<y∨100<z∨100<u):=by
 unfold mx4;constructor
 ·intro h;(repeat' split at h) <;> omega
 intro h;(repeat' split) <;> omega
theorem fMp {P:Program} (w:World) (ts:Array TypeId) (t:TypeId) (k k' k'' k3:IntKind) (x y z u:Int):(Builtin.max_ ts t #[.int k x,.int k' y,.int k'' z,.int k3 u]).run P w =.ok (.int k (mx4 x y z u)) w:=by
 simp[Builtin.max_,Builtin.max2,mx4]
attribute [local go_sem] fMp
theorem fG6 (x:Value) (d:Shd) (w:World) (hx:shdR.V w x d) :
  RI 201 #[x] w (iV (mG d)):=by
 have aD:Hid (bW w fun W=>LsOk d→RI 220 #[x] W (iV (fI (kD d) d.held.length))):=fun W p ho=>fLv x d W (shdR.below hx p) ho
 have aE:Hid (bW w fun W=>LsOk d→HeldOk d→RI 221 #[x] W (.bool (decide (¬fI (kH d) d.votes.length=0)))):=fun W p ho hh=>fJp x d W (shdR.below hx p) ho hh
 have aF:Hid (bW w fun W=>LsOk d→cL 225 #[x] W fun e w'=>∃v,e =.returned v∧w'.ownsRow W.heap.size 2 1 v (kG d.done).length (kT (kG d.done))∧aa W w'):=fun W p ho=>fCu x d W (shdR.below hx p) (by have:=ho.nd;omega)
 obtain⟨u1,u2,u3,u4,u5,rfl,h1,h2,n,D,h5⟩:=hx;have aG:Hid (bW w fun W=>RI 67 #[iV d.idx,u1] W (iV (qA d.idx d.bals))):=fun W p=>fHg _ u1 _ W (balsR.below h1 p)
 have aH:Hid (bW w fun W=>RI 218 #[u2,.func (.func 219) #[] #[]] W (iV (mrkF d.votes))):=fun W p=>fSp u2 _ W (mrksR.below h2 p)
 have aI:Hid (bW w fun W=>RI 218 #[u4,.func (.func 147) #[] #[]] W (iV (mrkF d.done))):=fun W p=>fSo u4 _ W (mrksR.below D p)
 have aJ:Hid (∀W Bs,aa w W→LsOk d→W.cell? ⟨Bs,0,none⟩=some u5→cL 223 #[.func (.func 240) #[] #[an Bs]] W fun e w'=>∃v,e =.returned v∧w'.ownsRow W.heap.size 2 1 v (sortI d.appl).length (kT (sortI d.appl))∧aa W w'):=fun W Bs p ho hc=>by
  obtain⟨H,I,rfl⟩:=gL h5;exact fO7 H _ I d.appl W (intsR.below h5 p) Bs hc (by have:=ho.na;omega)
 obtain⟨a1,c1,rfl⟩:=fQ h1;obtain⟨a2,c2,rfl⟩:=fH h2;obtain⟨a3,c3,rfl⟩:=fM n;obtain⟨a4,c4,rfl⟩:=fH D;obtain⟨H,I,rfl⟩:=gL h5;obtain⟨_,_,e2,b5,aU,_⟩:=h2;obtain⟨_,_,e3,b6,aV,_⟩:=qN n;obtain⟨_,_,e4,b7,aW,_⟩:=D;obtain⟨_,_,e5,b8,aX,_⟩:=h5;simp only[Value.slice.injEq,true_and] at e2 e3 e4 e5;obtain⟨rfl,rfl⟩:=e2;obtain⟨rfl,rfl⟩:=e3;obtain⟨rfl,rfl⟩:=e4;obtain⟨rfl,rfl⟩:=e5;unfold maxLen at aU aV aW aX;have ar:Hid (∀W x y,xN W x (sortI d.appl)→xN W y (kG d.done)→RI 222 #[x,y] W (.bool (decide (sortI d.appl=kG d.done)))):=fun W x y hx hy=>fRy x y _ _ W hx hy
 have a0:Hid (¬qA d.idx d.bals=0→mG d=qA d.idx d.bals):=fun h=>by unfold mG;rw[if_neg h]
 have a6:Hid (qA d.idx d.bals=0→(100<d.votes.length∨100<d.held.length∨100<d.done.length∨100<d.appl.length)→mG d=2):=fun h h1=>by unfold mG;rw[if_pos h,if_pos h1]
 have a7:Hid (qA d.idx d.bals=0→¬(100<d.votes.length∨100<d.held.length∨100<d.done.length∨100<d.appl.length)→¬mrkF d.votes=0→mG d=mrkF d.votes):=fun h h1 h2=>by unfold mG;rw[if_pos h,if_neg h1,if_neg h2]
 have a8:Hid (qA d.idx d.bals=0→¬(100<d.votes.length∨100<d.held.length∨100<d.done.length∨100<d.appl.length)→mrkF d.votes=0→¬mrkF d.done=0→mG d=mrkF d.done):=fun h h1 h2 n=>by unfold mG;rw[if_pos h,if_neg h1,if_pos h2,if_neg n]
 have a9:Hid (qA d.idx d.bals=0→¬(100<d.votes.length∨100<d.held.length∨100<d.done.length∨100<d.appl.length)→mrkF d.votes=0→mrkF d.done=0→¬fI (kD d) d.held.length=0→mG d=fI (kD d) d.held.length):=fun h h1 h2 n D=>by unfold mG;rw[if_pos h,if_neg h1,if_pos h2,if_pos n,if_neg D]
 have ab:Hid (qA d.idx d.bals=0→¬(100<d.votes.length∨100<d.held.length∨100<d.done.length∨100<d.appl.length)→mrkF d.votes=0→mrkF d.done=0→fI (kD d) d.held.length=0→¬fI (kH d) d.votes.length=0→mG d=1):=fun h h1 h2 n D h5=>by unfold mG;rw[if_pos h,if_neg h1,if_pos h2,if_pos n,if_pos D,if_neg h5]
 have J:Hid (qA d.idx d.bals=0→¬(100<d.votes.length∨100<d.held.length∨100<d.done.length∨100<d.appl.length)→mrkF d.votes=0→mrkF d.done=0→fI (kD d) d.held.length=0→fI (kH d) d.votes.length=0→mG d=if decide (sortI d.appl=kG d.done)=true then 0 else 1):=fun h h1 h2 n D h5=>by
  unfold mG;rw[if_pos h,if_neg h1,if_pos h2,if_pos n,if_pos D,if_pos h5,fRd (zX n)];rfl
 have au:Hid (¬(100<d.votes.length∨100<d.held.length∨100<d.done.length∨100<d.appl.length)→mrkF d.votes=0→mrkF d.done=0→LsOk d):=fun h h2 n=>⟨oM,by omega,by omega,by omega,zX h2,zX n⟩
 have aK:Hid (fI (kD d) d.held.length=0→HeldOk d):=fun h=>fFg h
 clear h1 n;generalize d.bals.length=n1 at *;generalize d.votes.length=n2 at *;generalize d.held.length=n3 at *;generalize d.done.length=n4 at *;generalize d.appl.length=G at *;generalize mrkF d.votes=fv at *;generalize mrkF d.done=X at *;generalize aY:fI (kD d) n3=Y at *;generalize aZ:fI (kH d) n2=fl at *;generalize m:qA d.idx d.bals=bf at *;obtain⟨ga,aL⟩:∃ga,ga=decide (sortI d.appl=kG d.done):=⟨_,rfl⟩
 rw[←aL] at ar J;obtain⟨Z,hZ⟩:∃Z,Z=mG d:=⟨_,rfl⟩
 rw[←hZ] at a0 a6 a7 a8 a9 ab J ⊢;clear hZ m aL aY aZ;have aM:Hid (bW w fun W=>cL 224 #[.slice H G I] W fun e w'=>e =.returned (.func (.func 240) #[] #[an W.heap.size])∧w'.cell? ⟨W.heap.size,0,none⟩=some (.slice H G I)∧aa W w'):=fun W _=>(fPi H G I W).mono (by rintro e w' ⟨rfl,rfl⟩;exact⟨rfl,by simp[go_sem],hE⟩)
 go_enter Tryz.func201,Tryz.ntmps201;go_wp2_with fail;refine(aG.out _ hE).mono ?_;rintro e w1 ⟨rfl,r⟩;have L:cI w1 w.heap.size 0 d.idx:=cK r sG;have M:ah w1 w.heap.size 1 a1 n1 c1:=cK r sG;have N:ah w1 w.heap.size 2 a2 n2 c2:=cK r sG;have O:ah w1 w.heap.size 3 a3 n3 c3:=cK r sG;have R:ah w1 w.heap.size 4 a4 n4 c4:=cK r sG;have T:ah w1 w.heap.size 5 H G I:=cK r sG;have av:=bT w r;clear r aG;by_cases m:bf=0;rotate_left
 ·
  have HC:=a0.out m;have b1:(bf !=0)=true:=by simp[m]
  go_wp2;go_ret;exact⟨by rw[HC];rfl,hE⟩
 by_cases k:(100<n2∨100<n3∨100<n4∨100<G)
 ·have HC:=a6.out m k;have ac:(100:Int)<mx4 n2 n3 n4 G:=mx4_gt.2 oM;rw[m];clear a0 a6 a7 a8 a9 ab J au;go_wp2;go_ret;exact⟨by rw[HC];rfl,hE⟩
 have ac:¬(100:Int)<mx4 n2 n3 n4 G:=fun h=>k (by have:=mx4_gt.1 h;omega)
 have aN:Hid (¬fv=0→Z=fv):=fun h=>a7.out m k h
 have aO:Hid (fv=0→¬X=0→Z=X):=fun h h2=>a8.out m k h h2
 have aP:Hid (fv=0→X=0→¬Y=0→Z=Y):=fun h h2 n=>a9.out m k h h2 n
 have aQ:Hid (fv=0→X=0→Y=0→¬fl=0→Z=1):=fun h h2 n D=>ab.out m k h h2 n D
 have aR:Hid (fv=0→X=0→Y=0→fl=0→Z=if ga=true then 0 else 1):=fun h h2 n D=>J.out m k h h2 n D
 have ae:Hid (fv=0→X=0→LsOk d):=fun h h2=>au.out k h h2
 rw[m];clear a0 a6 a7 a8 a9 ab J au m k;go_wp2_with fail;refine(aH.out _ av).mono ?_;rintro e w2 ⟨rfl,aw⟩;have ax:aa w w2:=bS av aw;refine kR6 aw ?_ L M N O R T;clear L M N O R T;intro L M N O R T;clear aw;by_cases q:fv=0;rotate_left
 ·
  have HC:=aN.out q;have b2:(fv !=0)=true:=by simp[q]
  go_wp2;go_ret;exact⟨by rw[HC];rfl,hE⟩
 rw[q];have af:Hid (¬X=0→Z=X):=fun h=>aO.out q h
 go_wp2_with fail;refine(aI.out _ ax).mono ?_;rintro e w3 ⟨rfl,ay⟩;have az:aa w w3:=bS ax ay;refine kR6 ay ?_ L M N O R T;clear L M N O R T;intro L M N O R T;clear ay;by_cases s:X=0;rotate_left
 ·
  have HC:=af.out s;have b3:(X !=0)=true:=by simp[s]
  go_wp2;go_ret;exact⟨by rw[HC];rfl,hE⟩
 have U:Hid (LsOk d):=ae.out q s;have ag:Hid (¬Y=0→Z=Y):=fun h=>aP.out q s h
 have ak:Hid (Y=0→¬fl=0→Z=1):=fun h=>aQ.out q s h
 have al:Hid (Y=0→fl=0→Z=if ga=true then 0 else 1):=fun h=>aR.out q s h
 clear af aN aO aP aQ aR ae q aH aI;rw[s];go_wp2_with fail;refine(aD.out _ az U.out).mono ?_;rintro e w4 ⟨rfl,aA⟩;have z:aa w w4:=bS az aA;refine kR6 aA ?_ L M N O R T;clear L M N O R T;intro L M N O R T;clear aA;by_cases B:Y=0;rotate_left
 ·
  have HC:=ag.out B;have b4:(Y !=0)=true:=by simp[B]
  go_wp2;go_ret;exact⟨by rw[HC];rfl,hE⟩
 have aB:Hid (¬fl=0→Z=1):=fun h=>ak.out B h
 have aC:Hid (fl=0→Z=if ga=true then 0 else 1):=fun h=>al.out B h
 have aT:Hid _:=aK.out B;clear ag ak al aK aD;rw[B];clear B s ac av ax az;have C:Hid (bW w fun W=>RI 221 #[.agg #[iV d.idx,.slice a1 n1 c1,.slice a2 n2 c2,.slice a3 n3 c3,.slice a4 n4 c4,.slice H G I]] W (.bool (decide (¬fl=0)))):=fun W p=>aE.out W p U.out aT.out
 have am:Hid (∀W Bs,aa w W→W.cell? ⟨Bs,0,none⟩=some (.slice H G I)→cL 223 #[.func (.func 240) #[] #[an Bs]] W fun e w'=>∃v,e =.returned v∧w'.ownsRow W.heap.size 2 1 v (sortI d.appl).length (kT (sortI d.appl))∧aa W w'):=fun W Bs p=>aJ.out W Bs p U.out
 have ao:Hid (bW w fun W=>cL 225 #[.agg #[iV d.idx,.slice a1 n1 c1,.slice a2 n2 c2,.slice a3 n3 c3,.slice a4 n4 c4,.slice H G I]] W fun e w'=>∃v,e =.returned v∧w'.ownsRow W.heap.size 2 1 v (kG d.done).length (kT (kG d.done))∧aa W w'):=fun W p=>aF.out W p U.out
 clear aE aJ aF U aT;by_cases E:fl=0;rotate_left
 ·
  have HC:=aB.out E;rw[show decide (¬fl=0)=true from decide_eq_true E] at C;clear aB aC am ao ar aM E;go_wp2;refine wp_region_noPanic ?_;refine fB (fun W=>aa w4 W∧cI W w.heap.size 0 d.idx∧ah W w.heap.size 1 a1 n1 c1∧ah W w.heap.size 2 a2 n2 c2∧ah W w.heap.size 3 a3 n3 c3∧ah W w.heap.size 4 a4 n4 c4∧ah W w.heap.size 5 H G I) 12 kF ⟨hE,cK hE L,cK hE M,cK hE N,cK hE O,cK hE R,cK hE T⟩ (fun hS=>?_);refine tX 0 ?_;refine uS 1 rfl (fun K A=>?_);go_simp;refine(C.out _ (bS z hS.1)).mono ?_;rintro e F ⟨rfl,g⟩;have l:aa w4 F:=bS hS.1 g;have j:=And.intro l (kS6 g hS.2);refine A _ _ (fun _=>j) ?_;clear A K hS g;have hS:=j;clear j;try simp only[jX]
  refine tX 2 (v:=(.bool true)) ?_;refine sY 3 ?_;refine sY 4 ?_;refine sY 5 ?_;refine sY 6 ?_;refine sY 7 ?_;refine sY 8 ?_;refine sY 9 ?_;refine sY 10 ?_;refine tX 11 (v:=(.bool true)) ?_;refine dP ?_;go_wp2;go_ret;exact⟨by rw[HC];rfl,bS z hS.1⟩
 have HC:Hid _:=aC.out E;rw[show decide (¬fl=0)=false from decide_eq_false (fun h=>h E)] at C;clear aB aC E;go_wp2;refine wp_region_noPanic ?_;refine fB (fun W=>aa w4 W∧cI W w.heap.size 0 d.idx∧ah W w.heap.size 1 a1 n1 c1∧ah W w.heap.size 2 a2 n2 c2∧ah W w.heap.size 3 a3 n3 c3∧ah W w.heap.size 4 a4 n4 c4∧ah W w.heap.size 5 H G I) 12 kF ⟨hE,cK hE L,cK hE M,cK hE N,cK hE O,cK hE R,cK hE T⟩ (fun hS=>?_);refine tX 0 ?_;refine uS 1 rfl (fun K A=>?_);go_simp;refine(C.out _ (bS z hS.1)).mono ?_;rintro e F ⟨rfl,g⟩;have l:aa w4 F:=bS hS.1 g;have j:=And.intro l (kS6 g hS.2);refine A _ _ (fun _=>j) ?_;clear A K hS g;have hS:=j;clear j;try simp only[jX]
 refine tX 2 (v:=(.bool false)) ?_;refine tX 3 ?_;refine tX 4 ?_;refine tX 7 ?_;refine uS 5 rfl (fun K A=>?_);go_simp;refine(aM.out _ (bS z hS.1)).mono ?_;rintro e F ⟨rfl,gB,g⟩;have l:aa w4 F:=bS hS.1 g;have j:=And.intro l (kS6 g hS.2);refine A _ _ (fun _=>j) ?_;clear A K hS g;have hS:=j;clear j;try simp only[jX]
 refine uS 6 rfl (fun K A=>?_);go_simp;refine(am.out _ _ (bS z hS.1) gB).mono ?_;rintro e F ⟨vs,rfl,os,g⟩;have V6:xN F vs (sortI d.appl):=yH os;obtain⟨aS,cS,rfl⟩:=fD os;clear os gB;have l:aa w4 F:=bS hS.1 g;have j:=And.intro l (kS6 g hS.2);refine A _ _ (fun _=>j) ?_;clear A K hS g;have hS:=j;clear j;try simp only[jX]
 refine uS 8 rfl (fun K A=>?_);go_simp;refine(ao.out _ (bS z hS.1)).mono ?_;rintro e F ⟨vd,rfl,od,g⟩;replace V6:=fA2 V6 g;have V8:xN F vd (kG d.done):=yH od;obtain⟨ad,cd,rfl⟩:=fD od;clear od;have l:aa w4 F:=bS hS.1 g;have j:=And.intro l (kS6 g hS.2);refine A _ _ (fun _=>j) ?_;clear A K hS g;have hS:=j;clear j;try simp only[jX]
 refine uS 9 rfl (fun K A=>?_);go_simp;have b0:=ar.out _ _ _ V6 V8;clear V6 V8;refine b0.mono ?_;rintro e F ⟨rfl,g⟩;have l:aa w4 F:=bS hS.1 g;have j:=And.intro l (kS6 g hS.2);refine A _ _ (fun _=>j) ?_;clear A K hS g;have hS:=j;clear j;try simp only[jX]
 refine tX 10 (v:=(.bool (!ga))) ?_;refine tX 11 (v:=(.bool (!ga))) ?_;refine dP ?_;cases ga
 ·go_wp2;go_ret;exact⟨rH,bS z hS.1⟩
 go_wp2;go_ret;exact⟨rH,bS z hS.1⟩
theorem gBg (c:Int) (w:World):(Instr.typeAssert (.iface 204 (iV c)) 20 204 true).run Tryz.prog w =.ok (.tuple #[iV c,.bool true]) w:=kF
theorem gBf (w:World):(Instr.typeAssert .nilIface 20 204 true).run Tryz.prog w =.ok (.tuple #[iV 0,.bool false]) w:=kF
theorem fB9 (c:Int) (w:World):RI 176 #[refV c] w (.tuple #[iV c,.bool true]):=by
 unfold refV;have h1:=gBg c;go_enter Tryz.func176,Tryz.ntmps176;go_wp2;refine bodyPost_ret (v:=.tuple #[iV c,.bool true]) (by simp[results,Tryz.results176,go_sem]) rfl ?_;exact⟨rfl,hE⟩
theorem fB8 (w:World):RI 176 #[.nilIface] w (.tuple #[iV 0,.bool false]):=by
 have h1:=gBf;go_enter Tryz.func176,Tryz.ntmps176;go_wp2;refine bodyPost_ret (v:=.tuple #[iV 0,.bool false]) (by simp[results,Tryz.results176,go_sem]) rfl ?_;exact⟨rfl,hE⟩
theorem fCr (p:Addr) (x c:Int) (older:List PanicEntry) (w:World) (hc:w.cell? p=some (iV x)) (hz:w.frozen? p=false) :
  CallsD Tryz.prog 202 #[.pointer (some p)] (.panicking ({v:=refV c,recovered:=false}::older)) w fun e u' w'=>
   e =.returned (.tuple #[])∧u' =.panicking ({v:=refV c,recovered:=true}::older)∧∃w1,aa w w1∧w'=w1.setCell p (iV c):=by
 refine callsD_of_wpS Tryz.func202 rfl fun l cs j=>?_
 apply wpS_seq;apply wpS_region;simp[wpOpsS,go_sem,recoverD,j,Tryz.ntmps202,Exit.thenS];refine(fB9 c w).mono ?_;rintro e w1 ⟨rfl,hb⟩;obtain⟨_,m⟩:=bcell hb;have k:p.block<w.heap.size:=wL w _ hc;have d:w1.cell? p=some (iV x):=cK hb hc;have g:w1.frozen? p=false:=by rw[hb.frozen (p:=p) k];exact hz
 simp[wpOpsS,go_sem,recoverD,Exit.thenS];apply wpS_seq;apply wpS_region;simp[wpOpsS,go_sem,recoverD,Exit.thenS];refine wpS_cond (t:=true) (by simp[Act.eval,Array.replicate]) ?_;simp only[if_true];apply wpS_region;simp[wpOpsS,go_sem,d,g,bodyPostS,results,Tryz.results202];exact⟨w1,hb,rfl⟩
theorem fK3 (p:Addr) (w:World) :
  CallsD Tryz.prog 202 #[.pointer (some p)] .returning w fun e u' w'=>e =.returned (.tuple #[])∧u' =.returning∧aa w w':=by
 refine callsD_of_wpS Tryz.func202 rfl fun d cs g=>?_
 apply wpS_seq;apply wpS_region;simp[wpOpsS,go_sem,recoverD,g,Tryz.ntmps202,Exit.thenS];refine(fB8 w).mono ?_;rintro e j ⟨rfl,hb⟩;simp[wpOpsS,go_sem,recoverD,Exit.thenS];apply wpS_seq;apply wpS_region;simp[wpOpsS,go_sem,recoverD,Exit.thenS];refine wpS_cond (t:=false) (by simp[Act.eval,Array.replicate]) ?_;simp only[Bool.false_eq_true,if_false];refine wpS_of_wp (wp_skip ?_);cases d;simp_all [bodyPostS,results,Tryz.results202]
end Go.Proofs.YtpibfdebfacooaaGreat

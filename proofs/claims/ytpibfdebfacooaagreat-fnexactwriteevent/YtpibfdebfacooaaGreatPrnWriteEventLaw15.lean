import Derived.Test.YtpibfdebfacooaaGreatPrnWriteEventLaw14
import Derived.Recover
set_option maxHeartbeats 8000000
set_option maxRecDepth 20000
set_option linter.all false
namespace Go.Proofs.YtpibfdebfacooaaGreat
open Go.RowKit
attribute [local go_sem ↓] Go.wp_at_zero Go.wp_at_succ
attribute [local go_sem] cW cI ah cN iV aj
section
variable [dQ Leg] [iH Leg] [dQ Mrk] [iH Mrk] [dQ Bal] [iH Bal] [dQ Cont] [iH Cont] [dQ Shd] [iH Shd]
theorem fHu {w:World} {v:Value} {xs:List Cont} (hx:contsR.V w v xs):∃a c,v =.slice a xs.length c∧xs.length≤c∧c≤maxLen∧∀k,k<xs.length→∃b o p q,a=some ⟨b,o,none⟩∧w.cell? ⟨b,o+k*2,none⟩=some (iV (xs.getD k default).id)∧w.cell? ⟨b,o+k*2+1,none⟩=some (.slice p (xs.getD k default).legs.length q)∧contR.V w (.agg #[iV (xs.getD k default).id,.slice p (xs.getD k default).legs.length q]) (xs.getD k default):=by
 obtain⟨a,c,rfl,h1,h2,g⟩:=hx;refine⟨a,c,rfl,h1,h2,fun k j=>?_⟩;obtain⟨b,o,u,e,_,p,d⟩:=g k j;have l:=d;obtain⟨s,rfl,m⟩:=d;obtain⟨n,r,rfl⟩:=kK m;exact⟨b,o,n,r,e,p 0 oM,p 1 oM,l⟩
theorem fYk (w:World) {ops:Array Oper} {rest:List Oper} {o:Oper} {a:Act} {Q:Exit→Act→World→Prop} (hgd:o.guard=none) (s x:Operand)
  (ho:o.op =.call {callee:=.builtin .append,args:=#[s,x],argTypes:=#[38,38]})
  (base:Nat) (F Fu:Nat→Prop) (v:Value) (xs:List Cont) (y:Cont) (g:Nat) (p:Option Addr) (q:Nat) (hs:a.eval s=v) (hx:a.eval x =.slice (some ⟨g,0,none⟩) 1 1) (hown:contsR.O w base F v xs) (hu:contR.O w base Fu (.agg #[iV y.id,.slice p y.legs.length q]) y) (hd:∀b,F b→¬Fu b)
  (hc:w.cell? ⟨g,0,none⟩=some (iV y.id)∧w.cell? ⟨g,1,none⟩=some (.slice p y.legs.length q)) (hn:xs.length≤2000000) (hbase:base≤w.heap.size)
  (h:∀v' w' F',contsR.O w' base F' v' (xs++[y])→Below base w w'→(∀b,F' b→F b∨Fu b∨w.heap.size≤b)→wpList Tryz.prog ops Q rest (a.put o.dst v') w'):wpList Tryz.prog ops Q (o::rest) a w:=by
 obtain⟨n,r,e,k,l⟩:=info_parts rQ;exact fQ5 w hgd s x 38 ho 57 n _ 2 32 Tryz.underlying38 r e k l rfl (by decide) (by decide) base F Fu v _ xs y ⟨g,0,none⟩ 1 hs hx hown hu rfl (fun z m=>by
  simp[kS,one] at m;rcases m with rfl|rfl <;> rfl) hd (fun j A d=>by
  match j,d with
  | 0,d=>simp[kS,one] at d;subst d;simpa [Addr.add] using hc.1
  | 1,d=>simp[kS,one] at d;subst d;simpa [Addr.add] using hc.2
  | j+2,d=>simp[kS,one] at d) hn hbase h
theorem xX (w:World) (base:Nat):contsR.O w base (fun _=>False) aj []:=
 ⟨[],fun _=>default,fun _ _=>False,⟨World.ownsRow_nil _ _ _ _,fun i d=>absurd d (Nat.not_lt_zero _),fun i d=>absurd d (Nat.not_lt_zero _),fun i d=>absurd d (Nat.not_lt_zero _),fun i d=>absurd d (Nat.not_lt_zero _),fun i j d=>absurd d (Nat.not_lt_zero _)⟩,fun b=>⟨fun h=>h.elim,fun h=>h.elim (fun h=>by simp[Value.ownBlock] at h) (fun ⟨i,d,_⟩=>absurd d (Nat.not_lt_zero _))⟩⟩
theorem xW {w:World} {base:Nat} {F:Nat→Prop} {v:Value} {x:Cont} (h:contR.O w base F v x):∃a c,v =.agg #[iV x.id,.slice a x.legs.length c]:=by
 obtain⟨u1,d,rfl,h1,_⟩:=h;obtain⟨a,c,rfl⟩:=kK (legsR.ofO h1);exact⟨a,c,rfl⟩
theorem set6 {α:Type} (R:Rep α) {W:World} {base B:Nat} {F:Nat→Prop} {v:Value} {x:α} (h:R.O W base F v x) (hB:B<base) (u0 u1 u2 u3 u4 u5:Value) :
  R.O ((((((W.setCell ⟨B,0,none⟩ u0).setCell ⟨B,1,none⟩ u1).setCell ⟨B,2,none⟩ u2).setCell ⟨B,3,none⟩ u3).setCell ⟨B,4,none⟩ u4).setCell ⟨B,5,none⟩ u5) base F v x:=
 R.set (R.set (R.set (R.set (R.set (R.set h _ hB) _ hB) _ hB) _ hB) _ hB) _ hB
def copG (d:Shd):Nat→(Nat→Value)→Nat→Nat→World→Prop
 | 4,y,lo,hi,w=>(∃a c,y 7 =.slice a d.bals.length c)∧w.ownsRow lo 103 3 (y 7) d.bals.length (mD d.bals)∧∀b,(y 7).ownBlock=some b→b<hi
 | 7,y,lo,hi,w=>(∃a c,y 10 =.slice a d.votes.length c)∧w.ownsRow lo 166 2 (y 10) d.votes.length (gM d.votes)∧∀b,(y 10).ownBlock=some b→b<hi
 | 10,y,lo,hi,w=>(∃a c,y 13 =.slice a d.held.length c)∧∃F,contsR.O w lo F (y 13) d.held∧∀b,F b→b<hi
 | 13,y,lo,hi,w=>(∃a c,y 16 =.slice a d.done.length c)∧w.ownsRow lo 166 2 (y 16) d.done.length (gM d.done)∧∀b,(y 16).ownBlock=some b→b<hi
 | 16,y,lo,hi,w=>(∃a c,y 19 =.slice a d.appl.length c)∧w.ownsRow lo 2 1 (y 19) d.appl.length (kT d.appl)∧∀b,(y 19).ownBlock=some b→b<hi
 | 17,y,_,_,_=>y 20 =.agg #[.int .i64 d.idx,y 7,y 10,y 13,y 16,y 19]
 | _,_,_,_,_=>True
theorem fRp (x:Value) (xs:List Cont) (w:World) (hx:contsR.V w x xs) (hn:xs.length≤1048576) (hll:∀k,k<xs.length→(xs.getD k default).legs.length≤1048576) :
  cL 113 #[x,.func (.func 114) #[] #[]] w fun e w'=>∃v F,e =.returned v∧contsR.O w' w.heap.size F v xs∧aa w w':=by
 obtain⟨U,c3,L,X,Y,r⟩:=fHu hx;subst L;unfold maxLen at Y;have HX:Hid (∀k,k<xs.length→∃b o p q,U=some ⟨b,o,none⟩∧w.cell? ⟨b,o+k*2,none⟩=some (iV (xs.getD k default).id)∧w.cell? ⟨b,o+k*2+1,none⟩=some (.slice p (xs.getD k default).legs.length q)∧contR.V w (.agg #[iV (xs.getD k default).id,.slice p (xs.getD k default).legs.length q]) (xs.getD k default)):=r;have y:Hid (∀k,k<xs.length→(xs.getD k default).legs.length≤1048576):=hll;clear r hll hx;obtain⟨j,m⟩:∃j,j=xs.length:=⟨_,rfl⟩
 have z:Hid (xs.length=j):=m.symm;rw[←m] at X HX y hn ⊢;clear m;have eg:=enters_of Tryz.func114 kF rfl;go_enter Tryz.func113,Tryz.ntmps113;go_wp2;go_loopw [5,10] (fun s i w'=>∃(k:Nat) (a:Option Addr) (c:Nat) (F:Nat→Prop),k≤j∧i =.int .i64 k∧s =.slice a k c∧Hid (contsR.O w' w.heap.size F (.slice a k c) (xs.take k))∧aa w w') (fun s i _=>j-(intOf i).toNat)
 case atStart=>exact⟨0,none,0,_,Nat.zero_le _,rfl,rfl,xX _ _,hE⟩
 obtain⟨k,Z,a0,F,hk,rfl,rfl,M,d⟩:=hrel;have zr:=d.size;by_cases g:k<j
 ·
  obtain⟨bx,ox,pp,qq,rfl,A,N,hV⟩:=HX.out k g;have B:=y.out k g;obtain⟨l,hl⟩:∃l,l=xs.getD k default:=⟨_,rfl⟩
  rw[←hl] at A N hV B;have HL:Hid (xs.take (k+1)=xs.take k++[l]):=by
   show _=_;rw[List.take_succ_eq_append_getElem (by rw[z.out];exact g),hl];simp[List.getD,show k<xs.length by rw[z.out];exact g]
  clear hl;have C:Hid (bW w fun W=>cL 114 #[.agg #[iV l.id,.slice pp l.legs.length qq]] W fun e w'=>∃v F,e =.returned v∧contR.O w' W.heap.size F v l∧aa W w'):=fun W hW=>fEw _ l W (contR.below hV hW) B
  clear hV;replace A:=cK d A;replace N:=cK d N;have zb:bx<wr.heap.size:=wL wr _ A;go_wp2_with fail;refine(C.out _ hE).mono ?_;rintro e D ⟨v2,F2,rfl,R,E⟩;obtain⟨G,H,rfl⟩:=xW R;have a7:=E.size;simp at a7;have n:aa wr D:=hE;have a8:Hid (contsR.O D w.heap.size F (.slice Z k a0) (xs.take k)):=contsR.keep M.out n;have a9:Hid (∀b,F b→b<wr.heap.size):=fun b hb=>(contsR.rng M.out b hb).2
  have ab:Hid (∀b,F2 b→wr.heap.size+1≤b):=fun b hb=>by have:=(contR.rng R b hb).1;simpa using this
  have HU:Hid (contR.O D w.heap.size F2 (.agg #[iV l.id,.slice G l.legs.length H]) l):=contR.base R (by simp;omega);have ac:aa w D:=bS d n;clear E R C M A N n;go_wp2_with (at_builtin;refine fYk _ rfl _ _ rfl w.heap.size F F2 _ (xs.take k) l D.heap.size G H rfl rfl ?a1 ?a2 ?U ?a4 ?a5 ?a6 ?_)
  case a1=>exact contsR.alloc a8.out _
  case a2=>exact contR.alloc HU.out _
  case U=>exact fun b h1 h2=>by have:=a9.out b h1;have:=ab.out b h2;omega
  case a4=>simp[go_sem]
  case a5=>rw[List.length_take,z.out];omega
  case a6=>simp;omega
  intro v3 w3 F3 T I _;rw[←HL.out] at T;obtain⟨J,K,L⟩:=fM (contsR.ofO T);rw[show(xs.take (k+1)).length=k+1 by rw[List.length_take,z.out];omega] at L;subst L;have ad:Hid (contsR.O w3 w.heap.size F3 (.slice J (k+1) K) (xs.take (k+1))):=T;have ae:aa w w3:=Below.trans (bA ac _) I;clear T I;go_wp2;exact⟨⟨k+1,J,K,F3,by omega,by go_num,rfl,ad,ae⟩,mI⟩
 have af:k=j:=oM;subst af;have ho:=M.out;rw[List.take_of_length_le (by rw[z.out];exact Nat.le_refl _)] at ho;go_wp2;go_ret;exact⟨_,F,rfl,ho,d⟩
theorem vN (x:Value) (d:Shd) (w:World) (hx:shdR.V w x d) (hn:d.bals.length≤1048576∧d.votes.length≤1048576∧d.held.length≤1048576∧d.done.length≤1048576∧d.appl.length≤1048576) (hll:∀k,k<d.held.length→(d.held.getD k default).legs.length≤1048576) :
  cL 68 #[x] w fun e w'=>∃v F,e =.returned v∧shdR.O w' w.heap.size F v d∧aa w w':=by
 obtain⟨u1,u2,u3,u4,u5,rfl,h1,h2,M,h4,h5⟩:=hx;have ag:Hid (bW w fun W=>gP W u1 d.bals.length (mD d.bals)):=fun W D=>tQ (balsR.below h1 D)
 have ak:Hid (bW w fun W=>gP W u2 d.votes.length (gM d.votes)):=fun W D=>rM (mrksR.below h2 D)
 have al:Hid (bW w fun W=>gP W u4 d.done.length (gM d.done)):=fun W D=>rM (mrksR.below h4 D)
 have am:Hid (bW w fun W=>gP W u5 d.appl.length (kT d.appl)):=fun W D=>fEn (intsR.below h5 D)
 have ao:Hid (bW w fun W=>cL 113 #[u3,.func (.func 114) #[] #[]] W fun e w'=>∃v F,e =.returned v∧contsR.O w' W.heap.size F v d.held∧aa W w'):=fun W D=>fRp _ d.held W (contsR.below M D) hn.2.2.1 hll
 obtain⟨a1,c1,rfl⟩:=fQ h1;obtain⟨a2,c2,rfl⟩:=fH h2;obtain⟨a3,c3,rfl⟩:=fM M;obtain⟨a4,c4,rfl⟩:=fH h4;obtain⟨a5,c5,rfl⟩:=gL h5;have E:Hid (d.bals.length≤1048576∧d.votes.length≤1048576∧d.held.length≤1048576∧d.done.length≤1048576∧d.appl.length≤1048576):=hn;clear h1 h2 M h4 h5 hn hll;go_enter Tryz.func68,Tryz.ntmps68;go_wp2;obtain⟨l,g⟩:∃l,l=(w.alloc (.cells #[iV d.idx,.slice a1 d.bals.length c1,.slice a2 d.votes.length c2,.slice a3 d.held.length c3,.slice a4 d.done.length c4,.slice a5 d.appl.length c5] 41)).alloc (.cells #[iV 0,aj,aj,aj,aj,aj] 41):=⟨_,rfl⟩
 have y0:cI l w.heap.size 0 d.idx:=cQ g;have y1:ah l w.heap.size 1 a1 d.bals.length c1:=cQ g;have y2:ah l w.heap.size 2 a2 d.votes.length c2:=cQ g;have y3:ah l w.heap.size 3 a3 d.held.length c3:=cQ g;have y4:ah l w.heap.size 4 a4 d.done.length c4:=cQ g;have y5:ah l w.heap.size 5 a5 d.appl.length c5:=cQ g;have R:cI l (w.heap.size+1) 0 0:=cQ g;have T:cN l (w.heap.size+1) 1:=cQ g;have U:cN l (w.heap.size+1) 2:=cQ g;have X:cN l (w.heap.size+1) 3:=cQ g;have Y:cN l (w.heap.size+1) 4:=cQ g;have Z:cN l (w.heap.size+1) 5:=cQ g;have rf:aq l (w.heap.size+1):=fun o=>by rw[g];simp[go_sem]
 have z:aa w l:=by rw[g];exact hE
 have zq:w.heap.size+1<l.heap.size:=by rw[g];simp
 rw[←g];clear g;refine wp_region_noPanic ?_;refine fB (fun W=>aa l W∧cI W w.heap.size 0 d.idx∧ah W w.heap.size 1 a1 d.bals.length c1∧ah W w.heap.size 2 a2 d.votes.length c2∧ah W w.heap.size 3 a3 d.held.length c3∧ah W w.heap.size 4 a4 d.done.length c4∧ah W w.heap.size 5 a5 d.appl.length c5) 18 kF ⟨hE,cK hE y0,cK hE y1,cK hE y2,cK hE y3,cK hE y4,cK hE y5⟩ (fun hS=>?_);refine tY 0 ?_;refine tY 1 ?_;refine tY 2 ?_;refine tY 3 ?_;refine tY 5 ?_;refine tY 6 ?_;refine tY 8 ?_;refine tY 9 ?_;refine tY 11 ?_;refine tY 12 ?_;refine tY 14 ?_;refine tY 15 ?_;have G:aa l l.drew:=hE;have ar:w.heap.size+1<l.drew.heap.size:=by simp;omega
 refine kR6 G ?_ R T U X Y Z;clear R T U X Y Z;intro R T U X Y Z;replace rf:∀o,l.drew.frozen? ⟨w.heap.size+1,o,none⟩=false:=fun o=>by rw[(bcell G).2 _ _ oM];exact rf o
 have au:aa w l.drew:=bS z G;clear G;generalize l.drew=W0 at *;refine uT [(4,7),(7,10),(10,13),(13,16),(16,19),(17,20)] (copG d) kF hS (fun W W' h hb=>⟨bS h.1 hb,cK hb h.2.1,cK hb h.2.2.1,cK hb h.2.2.2.1,cK hb h.2.2.2.2.1,cK hb h.2.2.2.2.2.1,cK hb h.2.2.2.2.2.2⟩) ?_ ?_ ?_
 ·
  intro p hp;simp only[List.mem_cons,List.not_mem_nil,or_false] at hp;rcases hp with rfl|rfl|rfl|rfl|rfl|rfl
  all_goals intro y y' m A W W' h ax hb e he
  ·simp only[copG] at h ⊢;rw[e];exact⟨h.1,fO h.2.1 hb,h.2.2⟩
  ·simp only[copG] at h ⊢;rw[e];exact⟨h.1,fO h.2.1 hb,h.2.2⟩
  ·simp only[copG] at h ⊢;rw[e];obtain⟨h1,F,h2,M⟩:=h;exact⟨h1,F,contsR.keep h2 hb,M⟩
  ·simp only[copG] at h ⊢;rw[e];exact⟨h.1,fO h.2.1 hb,h.2.2⟩
  ·simp only[copG] at h ⊢;rw[e];exact⟨h.1,fO h.2.1 hb,h.2.2⟩
  have e1:=he (4,7) (by simp) kF;have e2:=he (7,10) (by simp) kF;have e3:=he (10,13) (by simp) kF;have e4:=he (13,16) (by simp) kF;have e5:=he (16,19) (by simp) kF;simp only[copG] at h ⊢;rw[e,e1,e2,e3,e4,e5];exact h
 ·
  intro p hp;simp only[List.mem_cons,List.not_mem_nil,or_false] at hp;rcases hp with rfl|rfl|rfl|rfl|rfl|rfl
  all_goals
   refine⟨_,rfl,rfl,?_⟩;intro y W m A s H n j K B;clear j
  ·clear n;refine⟨?_⟩;refine fGf W rfl (.const aj) (.tmp 6) rfl W.heap.size aj [] rfl (.slice a1 d.bals.length c1) d.bals rfl (World.ownsRow_nil _ _ _ _) (ag.out W (bS z s.1)) (by have:=E.out;simp;omega) (Nat.le_refl _) ?_;intro v' w' q _ hB;have hb:=hB W (bR _ _);simp only[List.nil_append] at q;refine B _ _ hb ?_;simp only[copG,updV];obtain⟨I,J,L⟩:=fD q;refine⟨⟨I,J,by simpa using L⟩,by simpa using q,fun b r=>?_⟩;exact(q.lt b (by simpa using r)).2
  ·clear n;refine⟨?_⟩;refine fGg W rfl (.const aj) (.tmp 9) rfl W.heap.size aj [] rfl (.slice a2 d.votes.length c2) d.votes rfl (World.ownsRow_nil _ _ _ _) (ak.out W (bS z s.1)) (by have:=E.out;simp;omega) (Nat.le_refl _) ?_;intro v' w' q _ hB;have hb:=hB W (bR _ _);simp only[List.nil_append] at q;refine B _ _ hb ?_;simp only[copG,updV];obtain⟨I,J,L⟩:=fD q;refine⟨⟨I,J,by simpa using L⟩,by simpa using q,fun b r=>?_⟩;exact(q.lt b (by simpa using r)).2
  ·clear n;refine⟨?_⟩;simp only[over,jX,lZ] at B ⊢;go_simp;refine(ao.out _ (bS z s.1)).mono ?_;rintro e w' ⟨v,F,rfl,N,aw⟩;refine B _ _ aw ?_;simp only[copG,updV];obtain⟨I,J,L⟩:=fM (contsR.ofO N);exact⟨⟨I,J,by simpa using L⟩,F,by simpa using N,fun b r=>(contsR.rng N b r).2⟩
  ·clear n;refine⟨?_⟩;refine fGg W rfl (.const aj) (.tmp 15) rfl W.heap.size aj [] rfl (.slice a4 d.done.length c4) d.done rfl (World.ownsRow_nil _ _ _ _) (al.out W (bS z s.1)) (by have:=E.out;simp;omega) (Nat.le_refl _) ?_;intro v' w' q _ hB;have hb:=hB W (bR _ _);simp only[List.nil_append] at q;refine B _ _ hb ?_;simp only[copG,updV];obtain⟨I,J,L⟩:=fD q;refine⟨⟨I,J,by simpa using L⟩,by simpa using q,fun b r=>?_⟩;exact(q.lt b (by simpa using r)).2
  ·clear n;refine⟨?_⟩;refine fO9 W rfl (.const aj) (.tmp 18) rfl W.heap.size aj [] rfl (.slice a5 d.appl.length c5) d.appl rfl (World.ownsRow_nil _ _ _ _) (am.out W (bS z s.1)) (by have:=E.out;simp;omega) (Nat.le_refl _) ?_;intro v' w' q _ hB;have hb:=hB W (bR _ _);simp only[List.nil_append] at q;refine B _ _ hb ?_;simp only[copG,updV];obtain⟨I,J,L⟩:=fD q;refine⟨⟨I,J,by simpa using L⟩,by simpa using q,fun b r=>?_⟩;exact(q.lt b (by simpa using r)).2
  have g1:=(n (4,7) (by simp) kF).2;have g2:=(n (7,10) (by simp) kF).2;have g3:=(n (10,13) (by simp) kF).2;have g4:=(n (13,16) (by simp) kF).2;have g5:=(n (16,19) (by simp) kF).2;clear n;simp only[copG] at g1 g2 g3 g4 g5;obtain⟨⟨q1,s1,e1⟩,_⟩:=g1;obtain⟨⟨q2,s2,e2⟩,_⟩:=g2;obtain⟨⟨q3,s3,e3⟩,_⟩:=g3;obtain⟨⟨q4,s4,e4⟩,_⟩:=g4;obtain⟨⟨q5,s5,e5⟩,_⟩:=g5;refine⟨?_⟩;simp only[over,jX,lZ] at B ⊢;simp only[e1,e2,e3,e4,e5] at B ⊢;go_simp;refine B _ _ (bR _ _) ?_;simp only[copG,updV];simp[e1,e2,e3,e4,e5]
 refine⟨_,rfl,?_⟩;intro y W m A s H n j K B;have h1:=n (4,7) (by simp);have h2:=n (7,10) (by simp);have M:=n (10,13) (by simp);have h4:=n (13,16) (by simp);have h5:=n (16,19) (by simp);have h6:=n (17,20) (by simp);clear n;simp only[copG] at h1 h2 M h4 h5 h6;obtain⟨b1,⟨q1,s1,e1⟩,o1,l1⟩:=h1;obtain⟨b2,⟨q2,s2,e2⟩,o2,l2⟩:=h2;obtain⟨b3,⟨q3,s3,e3⟩,F3,N,l3⟩:=M;obtain⟨b4,⟨q4,s4,e4⟩,o4,l4⟩:=h4;obtain⟨b5,⟨q5,s5,e5⟩,o5,l5⟩:=h5;obtain⟨_,g6⟩:=h6;have a0:=j (4,7) (by simp) (7,10) (by simp) (by simp);have a6:=j (4,7) (by simp) (10,13) (by simp) (by simp);have a7:=j (4,7) (by simp) (13,16) (by simp) (by simp);have a8:=j (4,7) (by simp) (16,19) (by simp) (by simp);have a9:=j (7,10) (by simp) (10,13) (by simp) (by simp);have ab:=j (7,10) (by simp) (13,16) (by simp) (by simp);have ac:=j (7,10) (by simp) (16,19) (by simp) (by simp);have ad:=j (10,13) (by simp) (13,16) (by simp) (by simp);have ae:=j (10,13) (by simp) (16,19) (by simp) (by simp);have af:=j (13,16) (by simp) (16,19) (by simp) (by simp);clear j;simp only[fBi] at a0 a6 a7 a8 a9 ab ac ad ae af;rw[e1] at o1 l1 g6;have t1:∀b,(Value.slice q1 _ s1).ownBlock=some b→m 4≤b∧b<A 4:=fun b h=>⟨(o1.lt b h).1,l1 b h⟩
 have z1:W0.heap.size≤m 4:=b1.1;rw[e2] at o2 l2 g6;have t2:∀b,(Value.slice q2 _ s2).ownBlock=some b→m 7≤b∧b<A 7:=fun b h=>⟨(o2.lt b h).1,l2 b h⟩
 have z2:W0.heap.size≤m 7:=b2.1;rw[e3] at N g6;have t3:∀b,F3 b→m 10≤b∧b<A 10:=fun b h=>⟨(contsR.rng N b h).1,l3 b h⟩
 have z3:W0.heap.size≤m 10:=b3.1;rw[e4] at o4 l4 g6;have t4:∀b,(Value.slice q4 _ s4).ownBlock=some b→m 13≤b∧b<A 13:=fun b h=>⟨(o4.lt b h).1,l4 b h⟩
 have z4:W0.heap.size≤m 13:=b4.1;rw[e5] at o5 l5 g6;have t5:∀b,(Value.slice q5 _ s5).ownBlock=some b→m 16≤b∧b<A 16:=fun b h=>⟨(o5.lt b h).1,l5 b h⟩
 have z5:W0.heap.size≤m 16:=b5.1;refine kR6 H ?_ R T U X Y Z;clear R T U X Y Z;intro R T U X Y Z;replace rf:=ai H ar rf;have ay:aa w W:=bS au H;have P1:Hid (balsR.O W (m 4) (fun b=>(Value.slice q1 d.bals.length s1).ownBlock=some b) (.slice q1 d.bals.length s1) d.bals):=⟨o1,rfl⟩;have P2:Hid (mrksR.O W (m 7) (fun b=>(Value.slice q2 d.votes.length s2).ownBlock=some b) (.slice q2 d.votes.length s2) d.votes):=⟨o2,rfl⟩;have P3:Hid (contsR.O W (m 10) F3 (.slice q3 d.held.length s3) d.held):=N;have P4:Hid (mrksR.O W (m 13) (fun b=>(Value.slice q4 d.done.length s4).ownBlock=some b) (.slice q4 d.done.length s4) d.done):=⟨o4,rfl⟩;have P5:Hid (intsR.O W (m 16) (fun b=>(Value.slice q5 d.appl.length s5).ownBlock=some b) (.slice q5 d.appl.length s5) d.appl):=⟨o5,rfl⟩;have HT:Hid ((∀b,(Value.slice q1 d.bals.length s1).ownBlock=some b→m 4≤b∧b<A 4)∧(∀b,(Value.slice q2 d.votes.length s2).ownBlock=some b→m 7≤b∧b<A 7)∧(∀b,F3 b→m 10≤b∧b<A 10)∧(∀b,(Value.slice q4 d.done.length s4).ownBlock=some b→m 13≤b∧b<A 13)∧(∀b,(Value.slice q5 d.appl.length s5).ownBlock=some b→m 16≤b∧b<A 16)):=⟨t1,t2,t3,t4,t5⟩;clear o1 o2 N o4 o5 l1 l2 l3 l4 l5 t1 t2 t3 t4 t5 e1 e2 e3 e4 e5 b1 b2 b3 b4 b5 s;refine⟨?_⟩;simp only[over,jX,lZ];simp only[g6];clear g6 hS;go_simp;refine B _ _ ?_;clear B K;refine NoPanic.normal ?_;go_wp2;refine bodyPost_ret (v:=.agg #[iV d.idx,.slice q1 d.bals.length s1,.slice q2 d.votes.length s2,.slice q3 d.held.length s3,.slice q4 d.done.length s4,.slice q5 d.appl.length s5]) (by simp[results,Tryz.results68,go_sem,R,T,U,X,Y,Z,rf]) rfl ⟨_,_,rfl,⟨_,_,_,_,_,_,_,F3,_,_,rfl,balsR.base (set6 balsR P1.out oM _ _ _ _ _ _) oM,mrksR.base (set6 mrksR P2.out oM _ _ _ _ _ _) oM,contsR.base (set6 contsR P3.out oM _ _ _ _ _ _) oM,mrksR.base (set6 mrksR P4.out oM _ _ _ _ _ _) oM,intsR.base (set6 intsR P5.out oM _ _ _ _ _ _) oM,?_,?_,?_,?_,?_,?_,?_,?_,?_,?_,fun b=>Iff.rfl⟩,qS⟩
 all_goals
  intro b h C;obtain⟨t1,t2,t3,t4,t5⟩:=HT.out;first|(have:=t1 b h;have:=t2 b C;omega)|(have:=t1 b h;have:=t3 b C;omega)|(have:=t1 b h;have:=t4 b C;omega)|(have:=t1 b h;have:=t5 b C;omega)|(have:=t2 b h;have:=t3 b C;omega)|(have:=t2 b h;have:=t4 b C;omega)|(have:=t2 b h;have:=t5 b C;omega)|(have:=t3 b h;have:=t4 b C;omega)|(have:=t3 b h;have:=t5 b C;omega)|(have:=t4 b h;have:=t5 b C;omega)
variable [dQ Ledg] [iH Ledg] [dQ ShdR] [iH ShdR]
def yJ (idx:Int) (bs:List Bal):Int:=if inB idx 0 2=true then gZ bs else 3
theorem fS5 (i:Int) (x:Value) (xs:List Bal) (w:World) (hx:balsR.V w x xs) :
  RI 67 #[iV i,x] w (iV (yJ i xs)):=by
 have d:Hid (bW w fun W=>RI 112 #[x] W (iV (gZ xs))):=fun W g=>zH x xs W (balsR.below hx g)
 obtain⟨a,c,rfl⟩:=fQ hx;clear hx;generalize xs.length=n at *;unfold yJ;cases h:inB i 0 2
 ·go_enter Tryz.func67,Tryz.ntmps67;go_wp2_with (first|(go_at_call 111;refine(vR _ _).mono ?_;rintro e w' ⟨rfl,rfl⟩;rw[h]));go_ret;exact⟨rfl,hE⟩
 go_enter Tryz.func67,Tryz.ntmps67;go_wp2_with (first|(go_at_call 111;refine(vR _ _).mono ?_;rintro e w' ⟨rfl,rfl⟩;rw[h])|(go_at_call 112;refine(d.out _ hE).mono ?_;rintro e w' ⟨rfl,j⟩));go_ret;exact⟨rfl,hE⟩
theorem fTu (i:Int) (x:Value) (xs:List Bal) (w:World) (hx:balsR.V w x xs) :
  RI 110 #[iV i,x] w (iV (yJ i xs)):=by
 have d:Hid (bW w fun W=>RI 137 #[x] W (iV (gZ xs))):=fun W g=>zI x xs W (balsR.below hx g)
 obtain⟨a,c,rfl⟩:=fQ hx;clear hx;generalize xs.length=n at *;unfold yJ;cases h:inB i 0 2
 ·go_enter Tryz.func110,Tryz.ntmps110;go_wp2_with (first|(go_at_call 88;refine(mF _ _ _ _).mono ?_;rintro e w' ⟨rfl,rfl⟩;rw[h]));go_ret;exact⟨rfl,hE⟩
 go_enter Tryz.func110,Tryz.ntmps110;go_wp2_with (first|(go_at_call 88;refine(mF _ _ _ _).mono ?_;rintro e w' ⟨rfl,rfl⟩;rw[h])|(go_at_call 137;refine(d.out _ hE).mono ?_;rintro e w' ⟨rfl,j⟩));go_ret;exact⟨rfl,hE⟩
def shd0 (i:Int) (bs:List Bal):Shd:=⟨i,bs,[],[],[],[]⟩
def newD (i:Int) (bs:List Bal):ShdR:=if yJ i bs=0 then ⟨0,0,shd0 i bs⟩ else ⟨yJ i bs,0,shd0 0 []⟩
theorem fW0 (w:World) (base:Nat):balsR.O w base (fun b=>(Value.slice none 0 0).ownBlock=some b) aj []:=⟨World.ownsRow_nil _ _ _ _,rfl⟩
theorem fEg (w:World) (base:Nat):mrksR.O w base (fun b=>(Value.slice none 0 0).ownBlock=some b) aj []:=⟨World.ownsRow_nil _ _ _ _,rfl⟩
theorem fQb (w:World) (base:Nat):intsR.O w base (fun b=>(Value.slice none 0 0).ownBlock=some b) aj []:=⟨World.ownsRow_nil _ _ _ _,rfl⟩
theorem fOv {b:Nat} (h:(Value.slice none 0 0).ownBlock=some b):False:=by simp[Value.ownBlock] at h
theorem fYw {w:World} {base:Nat} {F:Nat→Prop} {v:Value} {i:Int} {bs:List Bal} (h:balsR.O w base F v bs):∃F',shdR.O w base F' (.agg #[iV i,v,aj,aj,aj,aj]) (shd0 i bs):=
 ⟨_,_,_,_,_,_,F,_,(fun _=>False),_,_,rfl,h,fEg w base,xX w base,fEg w base,fQb w base,fun b _ h=>fOv h,fun b _ h=>h,fun b _ h=>fOv h,fun b _ h=>fOv h,fun b h _=>fOv h,fun b h _=>fOv h,fun b h _=>fOv h,fun b h _=>h,fun b h _=>h,fun b h _=>fOv h,fun b=>Iff.rfl⟩
theorem gAt {w:World} {v:Value} {i:Int} {bs:List Bal} (h:balsR.V w v bs):shdR.V w (.agg #[iV i,v,aj,aj,aj,aj]) (shd0 i bs):=
 ⟨_,_,_,_,_,rfl,h,mrksR.ofO (fEg w 0),contsR.ofO (xX w 0),mrksR.ofO (fEg w 0),intsR.ofO (fQb w 0)⟩
theorem set8 {α:Type} (R:Rep α) {W:World} {base B:Nat} {F:Nat→Prop} {v:Value} {x:α} (h:R.O W base F v x) (hB:B<base) (u0 u1 u2 u3 u4 u5 u6 u7:Value) :
  R.O ((((((((W.setCell ⟨B,0,none⟩ u0).setCell ⟨B,1,none⟩ u1).setCell ⟨B,2,none⟩ u2).setCell ⟨B,3,none⟩ u3).setCell ⟨B,4,none⟩ u4).setCell ⟨B,5,none⟩ u5).setCell ⟨B,6,none⟩ u6).setCell ⟨B,7,none⟩ u7) base F v x:=
 R.set (R.set (R.set (R.set (R.set (R.set (R.set (R.set h _ hB) _ hB) _ hB) _ hB) _ hB) _ hB) _ hB) _ hB
theorem fVi {i:Int} {bs:List Bal} {w W:World} {c:Int} (h:newD i bs=⟨c,0,shd0 0 []⟩) (hb:aa w W):∃v F,Ending.returned (.agg #[iV c,iV 0,iV 0,aj,aj,aj,aj,aj]) =.returned v∧shdRR.O W w.heap.size F v (newD i bs)∧aa w W:=by
 rw[h];obtain⟨F',d⟩:=fYw (i:=0) (fW0 W w.heap.size);exact⟨_,F',rfl,⟨_,_,_,_,_,F',rfl,d,fun _=>Iff.rfl⟩,hb⟩
theorem fN4 (i:Int) (x:Value) (bs:List Bal) (w:World) (hx:balsR.V w x bs) (hn:bs.length≤1048576) :
  cL 34 #[iV i,x] w fun e w'=>∃v F,e =.returned v∧shdRR.O w' w.heap.size F v (newD i bs)∧aa w w':=by
 have B:Hid (bW w fun W=>RI 67 #[iV i,x] W (iV (yJ i bs))):=fun W C=>fS5 i x bs W (balsR.below hx C)
 have HX:Hid (bW w fun W=>balsR.V W x bs):=fun W C=>balsR.below hx C
 obtain⟨ax,cx,rfl⟩:=fQ hx;clear hx;have T:Hid (¬yJ i bs=0→newD i bs=⟨yJ i bs,0,shd0 0 []⟩):=fun h=>by unfold newD;rw[if_neg h]
 have U:Hid (yJ i bs=0→newD i bs=⟨0,0,shd0 i bs⟩):=fun h=>by unfold newD;rw[if_pos h]
 generalize yJ i bs=X at *;go_enter Tryz.func34,Tryz.ntmps34;go_wp2_with fail;refine(B.out _ hE).mono ?_;rintro e j ⟨rfl,d⟩;have D:=bT w d;have Y:=d.size;simp at Y;have f1:=(bcell d).2;have E:cI j w.heap.size 0 0:=cK d sG;have G:cI j w.heap.size 1 0:=cK d sG;have H:cI j w.heap.size 2 0:=cK d sG;have I:cN j w.heap.size 3:=cK d sG;have J:cN j w.heap.size 4:=cK d sG;have K:cN j w.heap.size 5:=cK d sG;have L:cN j w.heap.size 6:=cK d sG;have M:cN j w.heap.size 7:=cK d sG;have R:aq j w.heap.size:=fun o=>by rw[f1 _ _ (by simp)];simp[go_sem]
 clear d f1 B;by_cases g:X=0;rotate_left
 ·
  have HC:=T.out g;have a0:(X !=0)=true:=by simp[g]
  clear T U HX;go_wp2;exact bodyPost_ret (v:=.agg #[iV X,iV 0,iV 0,aj,aj,aj,aj,aj]) (by simp[results,Tryz.results34,go_sem,E,G,H,I,J,K,L,M,R]) rfl (fVi HC qS)
 have HC:Hid _:=U.out g;rw[g];clear T U g;have N:Hid (bW w fun W=>cL 68 #[.agg #[iV i,.slice ax bs.length cx,aj,aj,aj,aj]] W fun e w'=>∃v F,e =.returned v∧shdR.O w' W.heap.size F v (shd0 i bs)∧aa W w'):=fun W C=>vN _ (shd0 i bs) W (gAt (HX.out W C)) ⟨hn,by simp[shd0],by simp[shd0],by simp[shd0],by simp[shd0]⟩ (fun k hk=>by simp[shd0] at hk)
 go_wp2_with fail;refine(N.out _ D).mono ?_;rintro e w2 ⟨v2,Z,rfl,o2,l⟩;have a1:aa w w2:=bS D l;refine kR8 l ?_ E G H I J K L M;clear E G H I J K L M;intro E G H I J K L M;replace R:=ai l oM R;have m:∃q1 n q2 p q r s y z A,v2 =.agg #[iV i,.slice q1 bs.length n,.slice q2 0 p,.slice q 0 r,.slice s 0 y,.slice z 0 A]:=by
  obtain⟨u1,u2,u3,u4,u5,rfl,h1,h2,h3,h4,h5⟩:=shdR.ofO o2;obtain⟨q1,n,rfl⟩:=fQ h1;obtain⟨q2,p,rfl⟩:=fH h2;obtain⟨q,r,rfl⟩:=fM h3;obtain⟨s,y,rfl⟩:=fH h4;obtain⟨z,A,rfl⟩:=gL h5;exact⟨q1,n,q2,p,q,r,s,y,z,A,rfl⟩
 obtain⟨q1,n,q2,p,q,r,s,y,z,A,rfl⟩:=m;have HO:Hid (shdR.O w2 j.heap.size Z (.agg #[iV i,.slice q1 bs.length n,.slice q2 0 p,.slice q 0 r,.slice s 0 y,.slice z 0 A]) (shd0 i bs)):=o2;clear o2 l N;go_wp2;refine bodyPost_ret (v:=.agg #[iV 0,iV 0,iV i,.slice q1 bs.length n,.slice q2 0 p,.slice q 0 r,.slice s 0 y,.slice z 0 A]) (by simp[results,Tryz.results34,go_sem,E,G,H,I,J,K,L,M,R]) rfl ⟨_,Z,rfl,?_,qS⟩;rw[HC.out];exact⟨_,_,_,_,_,Z,rfl,shdR.base (set8 shdR HO.out oM _ _ _ _ _ _ _ _) oM,fun _=>Iff.rfl⟩
theorem fO8 (i:Int) (x:Value) (bs:List Bal) (w:World) (hx:balsR.V w x bs) (hn:bs.length≤1048576) :
  cL 61 #[iV i,x] w fun e w'=>∃v F,e =.returned v∧shdRR.O w' w.heap.size F v (newD i bs)∧aa w w':=by
 have l:Hid (bW w fun W=>RI 110 #[iV i,x] W (iV (yJ i bs))):=fun W H=>fTu i x bs W (balsR.below hx H)
 have T:Hid (bW w fun W=>balsR.V W x bs):=fun W H=>balsR.below hx H
 obtain⟨Y,Z,rfl⟩:=fQ hx;clear hx;have I:Hid (¬yJ i bs=0→newD i bs=⟨yJ i bs,0,shd0 0 []⟩):=fun h=>by unfold newD;rw[if_neg h]
 have J:Hid (yJ i bs=0→newD i bs=⟨0,0,shd0 i bs⟩):=fun h=>by unfold newD;rw[if_pos h]
 generalize yJ i bs=K at *;go_enter Tryz.func61,Tryz.ntmps61;go_wp2_with fail;refine(l.out _ hE).mono ?_;rintro e g ⟨rfl,d⟩;have L:=bT w d;have M:=d.size;simp at M;have U:=(bcell d).2;have m:cI g w.heap.size 0 0:=cK d sG;have n:cI g w.heap.size 1 0:=cK d sG;have p:cI g w.heap.size 2 0:=cK d sG;have q:cN g w.heap.size 3:=cK d sG;have r:cN g w.heap.size 4:=cK d sG;have s:cN g w.heap.size 5:=cK d sG;have y:cN g w.heap.size 6:=cK d sG;have z:cN g w.heap.size 7:=cK d sG;have C:aq g w.heap.size:=fun o=>by rw[U _ _ (by simp)];simp[go_sem]
 clear d U l;by_cases j:K=0;rotate_left
 ·
  have HC:=I.out j;have X:(K !=0)=true:=by simp[j]
  clear I J T;go_wp2;exact bodyPost_ret (v:=.agg #[iV K,iV 0,iV 0,aj,aj,aj,aj,aj]) (by simp[results,Tryz.results61,go_sem,m,n,p,q,r,s,y,z,C]) rfl (fVi HC qS)
 have HC:Hid _:=J.out j;rw[j];clear I J j;have A:gP (g.alloc (.cells #[] 103)) (.slice Y bs.length Z) bs.length (mD bs):=tQ (T.out _ hE);have B:=World.ownsRow_lit (base:=g.heap.size) (e:=103) (size:=3) g #[] 0 (Nat.le_refl _) (by unfold maxLen;omega) rfl;go_wp2_with (at_builtin;refine fKv _ rfl _ _ rfl g.heap.size _ [] rfl _ bs rfl B A ?c1 ?c2 ?_)
 case c1=>simp;omega
 case c2=>simp
 intro v2 N D _ k;have E:=k g hE;try simp only[List.nil_append] at D
 obtain⟨q1,G,rfl⟩:=fD D;have a0:aa w N:=bS L E;refine kR8 E ?_ m n p q r s y z;clear m n p q r s y z;intro m n p q r s y z;replace C:=ai E oM C;obtain⟨R,h2⟩:=fYw (i:=i) (show balsR.O N g.heap.size (fun b=>(Value.slice q1 bs.length G).ownBlock=some b) (.slice q1 bs.length G) bs from ⟨D,rfl⟩);have HO:Hid (shdR.O N g.heap.size R (.agg #[iV i,.slice q1 bs.length G,aj,aj,aj,aj]) (shd0 i bs)):=h2;clear h2 D A B k E;go_wp2;refine bodyPost_ret (v:=.agg #[iV 0,iV 0,iV i,.slice q1 bs.length G,aj,aj,aj,aj]) (by simp[results,Tryz.results61,go_sem,m,n,p,q,r,s,y,z,C]) rfl ⟨_,R,rfl,?_,qS⟩;rw[HC.out];exact⟨_,_,_,_,_,R,rfl,shdR.base (set8 shdR HO.out oM _ _ _ _ _ _ _ _) oM,fun _=>Iff.rfl⟩
end
section
variable [dQ Bal] [iH Bal] [dQ Logg] [iH Logg] [dQ Jrn] [iH Jrn] [dQ Mrk] [iH Mrk] [dQ Leg] [iH Leg] [dQ Cont] [iH Cont] [dQ Shd] [iH Shd] [dQ JrnR] [iH JrnR] [dQ Evt] [iH Evt] [dQ EvtsR] [iH EvtsR] [dQ EvtR] [iH EvtR] [dQ BytesR] [iH BytesR] [dQ ContR] [iH ContR] [dQ LoggR] [iH LoggR] [dQ RecsR] [iH RecsR] [dQ Rw] [iH Rw] [dQ Ledg] [iH Ledg] [dQ LedgR] [iH LedgR] [dQ OutcR] [iH OutcR] [dQ ShdR] [iH ShdR]
def doE (s:Shd) (e:Evt):ShdR:=if e.vote=true then tH s e.con else kZ s e.con.id e.out
def repE:ShdR→List Evt→ShdR
 | r,[]=>r
 | r,e::es=>if (doE r.shard e).code=0 then repE (doE r.shard e) es else doE r.shard e
def errJ (c:Int):JrnR:=⟨c,⟨0,[],⟨[],[]⟩⟩,⟨0,[],[],[],[],[]⟩⟩
def repT (j:Jrn):ShdR:=
 if (newD j.idx j.start).code=0 then (if (evsD j.log).code=0 then repE (newD j.idx j.start) (evsD j.log).evts else errH (evsD j.log).code) else newD j.idx j.start
def repD (j:Jrn):JrnR:=if (repT j).code=0 then ⟨0,j,(repT j).shard⟩ else errJ (repT j).code
def uM (l:Logg) (e:Evt):Logg:=⟨l.synced,l.loose++gK (evtB e)⟩
def fG5 (l:Logg) (sync:Bool):Logg:=if sync=true then ⟨l.synced++l.loose,[]⟩ else l
def wrtD (j:Jrn) (e:Evt) (sync:Bool):JrnR:=
 if (repT j).code=0 then (if evtF e=0 then (if (doE (repT j).shard e).code=0 then (if 60≤(evsD j.log).evts.length then errJ 2 else
  (if logF (uM j.log e)=0 then ⟨0,⟨j.idx,j.start,fG5 (uM j.log e) sync⟩,(doE (repT j).shard e).shard⟩ else errJ 2)) else errJ (doE (repT j).shard e).code) else errJ (evtF e)) else errJ (repT j).code
theorem fVv {xs:List Evt} {e:Evt}:∀{r:ShdR},r.code=0→(repE r xs).code=0→repE r (xs++[e])=doE (repE r xs).shard e:=by
 induction xs with
 | nil=>
  intro r _ _;show(if (doE r.shard e).code=0 then repE (doE r.shard e) [] else doE r.shard e)=_;split <;> rfl
 | cons x xs ih=>
  intro r h0 h;show(if (doE r.shard x).code=0 then repE (doE r.shard x) (xs++[e]) else doE r.shard x)=_;have h1:(repE r (x::xs))=if (doE r.shard x).code=0 then repE (doE r.shard x) xs else doE r.shard x:=rfl
  rw[h1] at h ⊢;by_cases d:(doE r.shard x).code=0
  ·rw[if_pos d] at h ⊢;rw[if_pos d];exact ih d h
  rw[if_neg d] at h;exact absurd h d
theorem fVw {xs ys:List Evt}:∀{r:ShdR},r.code=0→¬(repE r xs).code=0→repE r (xs++ys)=repE r xs:=by
 induction xs with
 | nil=>intro r h0 h;exact absurd h0 h
 | cons x xs ih=>
  intro r h0 h;have h1:(repE r (x::xs))=if (doE r.shard x).code=0 then repE (doE r.shard x) xs else doE r.shard x:=rfl
  have h2:(repE r (x::xs++ys))=if (doE r.shard x).code=0 then repE (doE r.shard x) (xs++ys) else doE r.shard x:=rfl
  rw[h1] at h ⊢;rw[h2];by_cases d:(doE r.shard x).code=0
  ·rw[if_pos d] at h ⊢;rw[if_pos d];exact ih d h
  rw[if_neg d,if_neg d]
theorem fMl {es:List Evt} {k:Nat} {r:ShdR} (hk:k<es.length) (h0:r.code=0) (h:(repE r (es.take k)).code=0):repE r (es.take (k+1))=doE (repE r (es.take k)).shard (es.getD k default):=by
 have d:es.take (k+1)=es.take k++[es.getD k default]:=by rw[List.take_add_one];simp[List.getD,hk]
 rw[d];exact fVv h0 h
theorem fQr {es:List Evt} {k:Nat} {r:ShdR} (h0:r.code=0) (h:¬(repE r (es.take k)).code=0):repE r es=repE r (es.take k):=by
 have:=fVw (ys:=es.drop k) h0 h;rwa [List.take_append_drop] at this
theorem fSs (i:Int) (bs:List Bal):(newD i bs).code=0∧(newD i bs).vote=0∧yJ i bs=0∨¬(newD i bs).code=0:=by
 unfold newD;by_cases h:yJ i bs=0
 ·rw[if_pos h];exact .inl ⟨rfl,rfl,h⟩
 rw[if_neg h];exact .inr h
end
section
variable [dQ Rw] [iH Rw] [dQ Bal] [iH Bal] [dQ Ledg] [iH Ledg] [dQ Leg] [iH Leg] [dQ Cont] [iH Cont] [dQ LedgR] [iH LedgR] [dQ OutcR] [iH OutcR] [dQ Mrk] [iH Mrk] [dQ Shd] [iH Shd] [dQ ShdR] [iH ShdR]
theorem qN {w:World} {v:Value} {xs:List Cont} (hx:contsR.V w v xs):∃a c,v =.slice a xs.length c∧xs.length≤c∧c≤maxLen∧∀k,k<xs.length→∃b o p q,a=some ⟨b,o,none⟩∧w.cell? ⟨b,o+k*2,none⟩=some (iV (xs.getD k default).id)∧w.cell? ⟨b,o+k*2+1,none⟩=some (.slice p (xs.getD k default).legs.length q)∧contR.V w (.agg #[iV (xs.getD k default).id,.slice p (xs.getD k default).legs.length q]) (xs.getD k default):=by
 obtain⟨a,c,rfl,h1,h2,g⟩:=hx;refine⟨a,c,rfl,h1,h2,fun k j=>?_⟩;obtain⟨b,o,u,e,_,p,d⟩:=g k j;have l:=d;obtain⟨s,rfl,m⟩:=d;obtain⟨n,r,rfl⟩:=kK m;exact⟨b,o,n,r,e,p 0 oM,p 1 oM,l⟩
theorem yD {xs:List Mrk} {k:Nat} (h:(inB (xs.getD k default).con 1 1000000000&&inB (xs.getD k default).val 1 2)=false):qH xs k=3:=by unfold qH;rw[h];rfl
theorem fDa {xs:List Mrk} (h:(inB (xs.getD 0 default).con 1 1000000000&&inB (xs.getD 0 default).val 1 2)=true):qH xs 0=0:=by unfold qH;rw[if_pos h,if_neg oM]
theorem fC8 {xs:List Mrk} {k:Nat} (h:(inB (xs.getD (k+1) default).con 1 1000000000&&inB (xs.getD (k+1) default).val 1 2)=true) (h2:(xs.getD (k+1) default).con≤(xs.getD k default).con):qH xs (k+1)=1:=by unfold qH;rw[if_pos h,if_pos ⟨oM,by rw[Nat.add_sub_cancel];omega⟩]
theorem fC9 {xs:List Mrk} {k:Nat} (h:(inB (xs.getD (k+1) default).con 1 1000000000&&inB (xs.getD (k+1) default).val 1 2)=true) (h2:(xs.getD k default).con<(xs.getD (k+1) default).con):qH xs (k+1)=0:=by unfold qH;rw[if_pos h,if_neg (by rw[Nat.add_sub_cancel];omega)]
theorem fJ9 {xs:List Mrk} {k:Nat} {c:Int} (hk:k<xs.length) (hs:fI (qH xs) k=0) (h:qH xs k=c) (hc:c≠0):mrkF xs=c:=by
 unfold mrkF;rw[mV hs (by rw[h];exact hc) _ hk,h]
theorem uA (x:Value) (xs:List Mrk) (c:Int) (w:World) (hx:mrksR.V w x xs) :
  RI 153 #[x,iV c] w (iV (fK c xs)):=by
 obtain⟨D,E,rfl,B,j,hx⟩:=hx;unfold maxLen at j;have m:Hid (∀k,k<xs.length→fK c (xs.drop k)=if (xs.getD k default).con=c then (xs.getD k default).val else fK c (xs.drop (k+1))):=fun k y=>fCw y
 have C:Hid (fK c (xs.drop xs.length)=0):=by show _=_;rw[List.drop_length];rfl
 generalize p:xs.length=n at *;clear p;go_enter Tryz.func153,Tryz.ntmps153;go_wp2;go_loopw [5] (fun i w'=>∃k:Nat,k≤n∧i =.int .i64 k∧Hid (fK c xs=fK c (xs.drop k))∧aa w w') (fun i _=>n-(intOf i).toNat)
 case atStart=>exact⟨0,oM,rfl,rfl,bR _ _⟩
 obtain⟨k,y,rfl,d,q⟩:=hrel;by_cases e:k<n
 ·
  obtain⟨F,G,rfl,z⟩:=hx k e;have h1:=m.out k e;obtain⟨l,A⟩:∃l,l=xs.getD k default:=⟨_,rfl⟩
  rw[←A] at z h1;have g:Hid (fK c (xs.drop k)=if l.con=c then l.val else fK c (xs.drop (k+1))):=h1;clear A hx h1;obtain⟨H,I⟩:=gD q z;by_cases he:l.con=c
  ·
   have HC:Hid (fK c xs=l.val):=by show _=_;rw[d.out,g.out,if_pos he]
   have r:(l.con==c)=true:=by simp[he]
   clear g d;go_wp2;go_ret;exact⟨rH,hE⟩
  have HC:Hid (fK c xs=fK c (xs.drop (k+1))):=by show _=_;rw[d.out,g.out,if_neg he]
  have r:(l.con==c)=false:=by simp[he]
  clear g d;go_wp2;exact⟨⟨k+1,by omega,by go_num,HC,hE⟩,mI⟩
 have s:k=n:=oM;subst s;have HC:Hid (fK c xs=0):=by show _=_;rw[d.out,C.out]
 go_wp2;go_ret;exact⟨rH,hE⟩
theorem fDp (x:Value) (xs:List Mrk) (w:World) (hx:mrksR.V w x xs) :
  RI 150 #[x] w (iV (mrkF xs)):=by
 obtain⟨ax,cx,rfl,X,D,hx⟩:=hx;unfold maxLen at D;have E:Hid (∀k c,k<xs.length→fI (qH xs) k=0→qH xs k=c→c≠0→mrkF xs=c):=fun k c N Y h Z=>fJ9 N Y h Z
 have HE:Hid (fI (qH xs) xs.length=0→mrkF xs=0):=fun h=>h
 generalize F:xs.length=n at *;clear F;go_enter Tryz.func150,Tryz.ntmps150;go_wp2;go_loopw [3] (fun i w'=>∃k:Nat,k≤n∧i =.int .i64 k∧Hid (fI (qH xs) k=0)∧aa w w') (fun i _=>n-(intOf i).toNat)
 case atStart=>exact⟨0,oM,rfl,rfl,bR _ _⟩
 obtain⟨k,N,rfl,p,d⟩:=hrel;by_cases g:k<n
 ·
  obtain⟨bx,ox,rfl,O⟩:=hx k g;obtain⟨l,G⟩:∃l,l=xs.getD k default:=⟨_,rfl⟩
  rw[←G] at O;have A:Hid (l=xs.getD k default):=G;clear G;obtain⟨R,T⟩:=gD d O;cases h1:inB l.con 1 1000000000
  ·have HC:Hid (mrkF xs=3):=E.out k 3 g p.out (yD (by rw[←A.out,h1];rfl)) oM;clear hx;go_wp2_with (first|(go_at_call 87;refine(pI _ _).mono ?_;rintro e w' ⟨rfl,rfl⟩;rw[h1]));go_ret;exact⟨rH,hE⟩
  cases h2:inB l.val 1 2
  ·have HC:Hid (mrkF xs=3):=E.out k 3 g p.out (yD (by rw[←A.out,h1,h2];rfl)) oM;clear hx;go_wp2_with (first|(go_at_call 87;refine(pI _ _).mono ?_;rintro e w' ⟨rfl,rfl⟩;rw[h1])|(go_at_call 88;refine(mF _ _ _ _).mono ?_;rintro e w' ⟨rfl,rfl⟩;rw[h2]));go_ret;exact⟨rH,hE⟩
  have j:Hid ((inB (xs.getD k default).con 1 1000000000&&inB (xs.getD k default).val 1 2)=true):=by show _=_;rw[←A.out,h1,h2];rfl
  cases k with
  | zero=>
   have q:Hid (fI (qH xs) 1=0):=gU p.out (fDa j.out);clear hx;simp only[Nat.zero_mul,Nat.add_zero] at R T;go_wp2_with (first|(go_at_call 87;refine(pI _ _).mono ?_;rintro e w' ⟨rfl,rfl⟩;rw[h1])|(go_at_call 88;refine(mF _ _ _ _).mono ?_;rintro e w' ⟨rfl,rfl⟩;rw[h2]));go_quiet (fail);go_wp2;exact⟨⟨1,by omega,by go_num,q,qX d _⟩,mI⟩
  | succ m=>
   obtain⟨a0,a5,he,U⟩:=hx m oM;simp only[Option.some.injEq,Addr.mk.injEq,and_true] at he;obtain⟨rfl,rfl⟩:=he;obtain⟨y,r⟩:∃y,y=xs.getD m default:=⟨_,rfl⟩
   rw[←r] at U;have B:Hid (y=xs.getD m default):=r;clear r hx;obtain⟨a3,a4⟩:=gD d U;have H:IntKind.i64.wrap (((m+1:Nat):Int)-1)=(m:Int):=by rw[IntKind.wrap_i64];omega
   have I:(((m+1:Nat):Int)-1)=(m:Int):=oM;have e1:((m+1:Nat):Int)<n:=oM;have e2:(m:Int)<n:=oM;have e3:(0:Int)≤m:=oM;have e4:(0:Int)<((m+1:Nat):Int):=oM;have e5:(0:Int)≤((m+1:Nat):Int):=oM;have J:Hid (l.con≤y.con→mrkF xs=1):=fun h=>E.out (m+1) 1 g p.out (fC8 j.out (by rw[←A.out,←B.out];exact h)) oM
   have C:Hid (y.con<l.con→fI (qH xs) (m+1+1)=0):=fun h=>gU p.out (fC9 j.out (by rw[←A.out,←B.out];exact h))
   clear j;obtain⟨z,s⟩:∃z:Nat,z=m+1:=⟨_,rfl⟩
   have K:Hid (z=m+1):=s;rw[←s] at R T H I e1 e4 e5 C ⊢;clear s p;have e6:decide (0<z)=true:=decide_eq_true (by have:=K.out;omega);by_cases L:l.con≤y.con
   ·have HC:=J.out L;go_wp2_with (first|(go_at_call 87;refine(pI _ _).mono ?_;rintro e w' ⟨rfl,rfl⟩;rw[h1])|(go_at_call 88;refine(mF _ _ _ _).mono ?_;rintro e w' ⟨rfl,rfl⟩;rw[h2]));go_quiet (fail);go_wp2;go_ret;exact⟨by rw[HC];rfl,qX d _⟩
   have q:Hid (fI (qH xs) (z+1)=0):=C.out oM;go_wp2_with (first|(go_at_call 87;refine(pI _ _).mono ?_;rintro e w' ⟨rfl,rfl⟩;rw[h1])|(go_at_call 88;refine(mF _ _ _ _).mono ?_;rintro e w' ⟨rfl,rfl⟩;rw[h2]));go_quiet (fail);go_wp2;exact⟨⟨z+1,by omega,by go_num,q,qX d _⟩,mI⟩
 have M:k=n:=oM;subst M;have HC:=HE.out p.out;go_wp2;go_ret;exact⟨by rw[HC];rfl,hE⟩
theorem fBy (x:Value) (d:Shd) (c:Int) (w:World) (hx:shdR.V w x d) :
  RI 157 #[x,iV c] w (.bool (fP d.held c)):=by
 obtain⟨u1,u2,u3,u4,u5,rfl,_,_,hx,_,_⟩:=hx;obtain⟨E,F,rfl,l,m,hx⟩:=qN hx;unfold maxLen at m;obtain⟨G,_,_,xs,_,_⟩:=d;dsimp only at l hx ⊢;have p:Hid (∀k,k<xs.length→fP (xs.take (k+1)) c=(fP (xs.take k) c||decide ((xs.getD k default).id=c))):=fun k g=>fA9 g
 have H:Hid (fP (xs.take xs.length) c=fP xs c):=by show _=_;rw[List.take_length]
 have I:Hid (∀k,k<xs.length→(xs.getD k default).id=c→fP xs c=true):=fun k g h=>heldIn_mem.2 ⟨k,g,h⟩
 generalize r:xs.length=n at *;clear r;go_enter Tryz.func157,Tryz.ntmps157;go_wp2;go_loopw [5] (fun i w'=>∃k:Nat,k≤n∧i =.int .i64 k∧Hid (fP (xs.take k) c=false)∧w'.cell? ⟨w.heap.size,3,none⟩=some (.slice E n F)∧aa w w') (fun i _=>n-(intOf i).toNat)
 case atStart=>exact⟨0,oM,rfl,by show fP (xs.take 0) c=false;simp[fP],sG,hE⟩
 obtain⟨k,g,rfl,j,C,s⟩:=hrel;have J:w.heap.size<wr.heap.size:=wL wr _ C;by_cases e:k<n
 ·
  obtain⟨K,L,M,N,rfl,D,O,_⟩:=hx k e;have h1:=p.out k e;have h2:=I.out k e;generalize (xs.getD k default).legs.length=R at *;generalize (xs.getD k default).id=q at *;have y:Hid (fP (xs.take (k+1)) c=(fP (xs.take k) c||decide (q=c))):=h1;have z:Hid (q=c→fP xs c=true):=h2;clear hx h1 h2;replace D:=cK s D;by_cases he:q=c
  ·
   have HC:=z.out he;have A:(q==c)=true:=by simp[he]
   clear y j z;go_wp2;go_ret;exact⟨by rw[HC];rfl,hE⟩
  have HC:Hid (fP (xs.take (k+1)) c=false):=by show _=_;rw[y.out,j.out,decide_eq_false he];rfl
  have A:(q==c)=false:=by simp[he]
  clear y j z;go_wp2;exact⟨⟨k+1,by omega,by go_num,HC,C,hE⟩,mI⟩
 have B:k=n:=oM;subst B;have HC:Hid (fP xs c=false):=by show _=_;rw[←H.out,j.out]
 go_wp2;go_ret;exact⟨rH,hE⟩
theorem fBj {α:Type} [Inhabited α] (f:α→Bool) {xs:List α} {k:Nat} (hk:k<xs.length):(xs.take (k+1)).any f=((xs.take k).any f||f (xs.getD k default)):=by
 have e:xs.take (k+1)=xs.take k++[xs.getD k default]:=by rw[List.take_add_one];simp[List.getD,hk]
 rw[e,List.any_append];simp
theorem fKz {α:Type} [Inhabited α] {f:α→Bool} {xs:List α} {k:Nat} (hk:k<xs.length) (h:f (xs.getD k default)=true):xs.any f=true:=List.any_eq_true.2 ⟨xs.getD k default,by simp[List.getD,hk],h⟩
theorem fDq (x y:Value) (xs ys:List Leg) (w:World) (hx:legsR.V w x xs) (hy:legsR.V w y ys) :
  RI 183 #[x,y] w (.bool (touch xs ys)):=by
 obtain⟨ax,cx,rfl,X,E,hx⟩:=hx;obtain⟨ay,cy,rfl,Y,F,hy⟩:=hy;unfold maxLen at E F;have Z:Hid (∀i j,i<xs.length→j<ys.length→pX (xs.getD i default) (ys.getD j default)=true→touch xs ys=true):=fun i j G B h=>fKz G (fKz B h)
 have HO:Hid (∀i,i<xs.length→((xs.take i).any (fun x=>ys.any (fun y=>pX x y)))=false→ys.any (fun y=>pX (xs.getD i default) y)=false→((xs.take (i+1)).any (fun x=>ys.any (fun y=>pX x y)))=false):=fun i G h1 h2=>by rw[fBj _ G,h1,h2];rfl
 have HI:Hid (∀i j,j<ys.length→((ys.take j).any (fun y=>pX (xs.getD i default) y))=false→pX (xs.getD i default) (ys.getD j default)=false→((ys.take (j+1)).any (fun y=>pX (xs.getD i default) y))=false):=fun i j B h1 h2=>by rw[fBj _ B,h1,h2];rfl
 have H:Hid (((xs.take xs.length).any (fun x=>ys.any (fun y=>pX x y)))=touch xs ys):=by show _=_;rw[List.take_length];rfl
 have I:Hid (∀i,((ys.take ys.length).any (fun y=>pX (xs.getD i default) y))=ys.any (fun y=>pX (xs.getD i default) y)):=fun i=>by rw[List.take_length]
 generalize J:xs.length=n at *;generalize K:ys.length=m at *;clear J K;go_enter Tryz.func183,Tryz.ntmps183;go_wp2;go_loopw [5] (fun i w'=>∃k:Nat,k≤n∧i =.int .i64 k∧Hid (((xs.take k).any (fun x=>ys.any (fun y=>pX x y)))=false)∧aa w w') (fun i _=>n-(intOf i).toNat)
 case atStart=>exact⟨0,oM,rfl,by show((xs.take 0).any _)=false;simp,bR _ _⟩
 obtain⟨k,hk,rfl,O,L⟩:=hrel;by_cases r:k<n
 ·
  go_wp2;go_loopw [6] (fun i w'=>∃j:Nat,j≤m∧i =.int .i64 j∧Hid (((ys.take j).any (fun y=>pX (xs.getD k default) y))=false)∧aa w w') (fun i _=>m-(intOf i).toNat)
  case atStart=>exact⟨0,oM,rfl,by show((ys.take 0).any _)=false;simp,L⟩
  rename_i wq;obtain⟨j,B,rfl,z,d⟩:=hrel;by_cases e:j<m
  ·
   obtain⟨bx,ox,rfl,R⟩:=hx k r;obtain⟨a4,oy,rfl,T⟩:=hy j e;have h1:=Z.out k j r e;have h2:=HI.out k j e z.out;obtain⟨l,C⟩:∃l,l=xs.getD k default:=⟨_,rfl⟩
   rw[←C] at R;obtain⟨g,p⟩:∃g,g=ys.getD j default:=⟨_,rfl⟩
   rw[←p] at T;have H1:Hid (pX l g=true→touch xs ys=true):=by rw[C,p];exact h1
   have U:Hid (pX l g=false→((ys.take (j+1)).any (fun y=>pX (xs.getD k default) y))=false):=by rw[C,p];exact h2
   clear C p h1 h2 hx hy;have ga:=(fFo d R).2;obtain⟨a0,a1,a2,a3⟩:=ga;have gb:=(fFo d T).2;obtain⟨c0,c1,c2,c3⟩:=gb;have k1:(k:Int)<n:=oM;have k2:(0:Int)≤k:=oM;have j1:(j:Int)<m:=oM;have j2:(0:Int)≤j:=oM;by_cases A:l.ac=g.ac
   ·
    have q:(l.ac==g.ac)=true:=by simp[A]
    by_cases D:l.ast=g.ast
    ·
     have s:(l.ast==g.ast)=true:=by simp[D]
     have HC:=H1.out (by unfold pX;rw[q,s];rfl);clear A D;go_wp2;go_quiet (fail);go_wp2;go_ret;exact⟨by rw[HC];rfl,qX d _⟩
    have s:(l.ast==g.ast)=false:=by simp[D]
    have HC:Hid (((ys.take (j+1)).any (fun y=>pX (xs.getD k default) y))=false):=U.out (by unfold pX;rw[q,s];rfl);clear A D;go_wp2;go_quiet (fail);go_wp2;exact⟨⟨j+1,by omega,by go_num,HC,qX d _⟩,mI⟩
   have q:(l.ac==g.ac)=false:=by simp[A]
   have HC:Hid (((ys.take (j+1)).any (fun y=>pX (xs.getD k default) y))=false):=U.out (by unfold pX;rw[q];rfl);clear A;go_wp2;go_quiet (fail);go_wp2;exact⟨⟨j+1,by omega,by go_num,HC,qX d _⟩,mI⟩
  have M:j=m:=oM;subst M;have HC:Hid (((xs.take (k+1)).any (fun x=>ys.any (fun y=>pX x y)))=false):=HO.out k r O.out (by rw[←I.out];exact z.out);go_wp2;exact⟨⟨k+1,by omega,by go_num,HC,hE⟩,mI⟩
 have N:k=n:=oM;subst N;have HC:Hid (touch xs ys=false):=by show _=_;rw[←H.out,O.out]
 go_wp2;go_ret;exact⟨rH,hE⟩
def refV (c:Int):Value:=.iface 204 (.int .i64 c)
def fGv (c:Int) (w:World) (e:Ending) (w':World):Prop:=((c=0∧e =.returned (.tuple #[]))∨(¬c=0∧e =.panicked [{v:=refV c,recovered:=false}]))∧aa w w'
def xA (idx:Int) (hs:List Cont) (ls:List Leg):Int:=if fHm idx hs ls=true then 7 else 0
theorem fBx (idx id:Int) (y ul:Value) (hs:List Cont) (ls:List Leg) (w:World) (hy:contsR.V w y hs) (hl:legsR.V w ul ls) (hn:ls.length≤1000) :
  cL 196 #[iV idx,y,.agg #[iV id,ul]] w (fGv (xA idx hs ls) w):=by
 have E:Hid (bW w fun W=>cL 192 #[ul,iV idx] W fun e w'=>∃v,e =.returned v∧w'.ownsRow W.heap.size 168 4 v (onSh idx ls).length (gT (onSh idx ls))∧aa W w'):=fun W Y=>yA ul ls idx W (legsR.below hl Y) oM
 obtain⟨al,cl,rfl⟩:=kK hl;obtain⟨ay,cy,rfl,ae,Z,hy⟩:=qN hy;unfold maxLen at Z;have HY:Hid (∀k,k<hs.length→∃b o p q,ay=some ⟨b,o,none⟩∧w.cell? ⟨b,o+k*2,none⟩=some (iV (hs.getD k default).id)∧w.cell? ⟨b,o+k*2+1,none⟩=some (.slice p (hs.getD k default).legs.length q)∧contR.V w (.agg #[iV (hs.getD k default).id,.slice p (hs.getD k default).legs.length q]) (hs.getD k default)):=hy;have HT:Hid (∀i j,i<(onSh idx ls).length→j<hs.length→fZ (hs.getD j default).legs ((onSh idx ls).getD i default)=true→xA idx hs ls=7):=fun i j hi D h=>by
  unfold xA fHm;rw[if_pos (fKz hi (fKz (f:=fun o:Cont=>fZ o.legs ((onSh idx ls).getD i default)) D h))]
 have HE:Hid ((onSh idx ls).any (fun l=>hs.any (fun o=>fZ o.legs l))=false→xA idx hs ls=0):=fun h=>by unfold xA fHm;rw[h];rfl
 have HO:Hid (∀i,i<(onSh idx ls).length→(((onSh idx ls).take i).any (fun l=>hs.any (fun o=>fZ o.legs l)))=false→hs.any (fun o=>fZ o.legs ((onSh idx ls).getD i default))=false→(((onSh idx ls).take (i+1)).any (fun l=>hs.any (fun o=>fZ o.legs l)))=false):=fun i hi h1 h2=>by rw[fBj _ hi,h1,h2];rfl
 have HI:Hid (∀l j,j<hs.length→((hs.take j).any (fun o=>fZ o.legs l))=false→fZ (hs.getD j default).legs l=false→((hs.take (j+1)).any (fun o=>fZ o.legs l))=false):=fun l j D h1 h2=>by rw[fBj _ D,h1,h2];rfl
 have F:Hid (((onSh idx ls).take (onSh idx ls).length)=onSh idx ls):=List.take_length;have a0:Hid (hs.take hs.length=hs):=List.take_length;clear hy hl;generalize a2:xA idx hs ls=cc at *;generalize a3:onSh idx ls=x at *;generalize ls.length=ll at *;clear a2 a3 hn;generalize hm:hs.length=m at *;clear hm;go_enter Tryz.func196,Tryz.ntmps196;go_wp2_with fail;refine(E.out _ hE).mono ?_;rintro e U ⟨v,rfl,o1,G⟩;have hV:=gX o1;have H:=bT w G;obtain⟨a1,c1,rfl,a4,a5,I⟩:=hV;unfold maxLen at a5;have HX:Hid (∀i,i<x.length→∃b o,a1=some ⟨b,o,none⟩∧mM U b (o+i*4) (x.getD i default)):=I;clear o1 G I E;obtain⟨n,hn⟩:∃n,n=x.length:=⟨_,rfl⟩
 have HN:Hid (x.length=n):=hn.symm;rw[←hn] at HT HO HX a4 F ⊢;clear hn;go_wp2;go_loopw [15] (fun i w'=>∃k:Nat,k≤n∧i =.int .i64 k∧Hid (((x.take k).any (fun l=>hs.any (fun o=>fZ o.legs l)))=false)∧aa U w') (fun i _=>n-(intOf i).toNat)
 case atStart=>exact⟨0,oM,rfl,by show((x.take 0).any _)=false;simp,bR _ _⟩
 obtain⟨k,hk,rfl,HS,z⟩:=hrel;by_cases B:k<n
 ·
  obtain⟨bx,ox,rfl,g1⟩:=HX.out k B;have h1:=HT.out k;have h2:=HO.out k B HS.out;obtain⟨l,hl⟩:∃l,l=x.getD k default:=⟨_,rfl⟩
  rw[←hl] at g1 h1 h2;have H1:Hid (∀j,j<m→fZ (hs.getD j default).legs l=true→cc=7):=fun j D h=>h1 j B D h
  have H2:Hid (hs.any (fun o=>fZ o.legs l)=false→(((x.take (k+1)).any (fun l=>hs.any (fun o=>fZ o.legs l)))=false)):=h2;clear hl h1 h2;obtain⟨c0,af,c2,c3⟩:=(fFo z g1).2;have zb:bx<wr.heap.size:=wL wr _ c0;have a6:aa w wr:=bS H z;go_wp2;obtain⟨r,d⟩:∃r,r=wr.alloc (.cells #[iV l.sh,iV l.ac,iV l.ast,iV l.am] 168):=⟨_,rfl⟩
  have X:cI r wr.heap.size 0 l.sh:=cQ d;have b1:cI r wr.heap.size 1 l.ac:=cQ d;have b2:cI r wr.heap.size 2 l.ast:=cQ d;have b3:cI r wr.heap.size 3 l.am:=cQ d;have J:aa wr r:=by rw[d];exact hE
  rw[←d];clear d;have a7:aa w r:=bS a6 J;have K:aa U r:=bS z J;go_loopw [21] (fun i w'=>∃j:Nat,j≤m∧i =.int .i64 j∧Hid (((hs.take j).any (fun o=>fZ o.legs l))=false)∧aa r w') (fun i _=>m-(intOf i).toNat)
  case atStart=>exact⟨0,oM,rfl,by show((hs.take 0).any _)=false;simp,bR _ _⟩
  rename_i wq;obtain⟨j,D,rfl,L,g⟩:=hrel;refine kR4 g ?_ X b1 b2 b3;clear X b1 b2 b3;intro X b1 b2 b3;have A:aa w wr:=bS a7 g;have M:aa U wr:=bS K g;by_cases s:j<m
  ·
   obtain⟨a8,oy,pp,qq,rfl,g2,g3,hV⟩:=HY.out j s;obtain⟨ul,N,O⟩:=hV;simp only[Value.agg.injEq,Array.mk.injEq,List.cons.injEq,and_true,true_and] at N;subst N;have HP:Hid (bW wr fun W=>RI 171 #[.slice pp (hs.getD j default).legs.length qq,.agg #[iV l.sh,iV l.ac,iV l.ast,iV l.am]] W (.bool (fZ (hs.getD j default).legs l))):=fun W Y=>fAx _ _ l W (legsR.below O (bS A Y))
   have h3:=H1.out j s;have h4:=HI.out l j s L.out;replace g2:=cK A g2;replace g3:=cK A g3;generalize fZ (hs.getD j default).legs l=bb at *;have H3:Hid (bb=true→cc=7):=h3;have H4:Hid (bb=false→((hs.take (j+1)).any (fun o=>fZ o.legs l))=false):=h4;clear h3 h4 O;generalize (hs.getD j default).legs.length=lj at *;generalize (hs.getD j default).id=ij at *;have zy:a8<wr.heap.size:=wL wr _ g2;have zl:=wL wr _ X;dsimp only at zl;go_wp2_with fail;refine(HP.out _ hE).mono ?_;rintro e w4 ⟨rfl,C⟩;have a9:aa w w4:=bS A (bS hE C);have R:aa r w4:=bS g (bS hE C);clear C;cases T:bb
   ·have HC:Hid _:=H4.out T;go_wp2;exact⟨⟨j+1,by omega,by go_num,HC,R⟩,mI⟩
   have HC:=H3.out T;go_wp2;exact⟨rfl,.inr ⟨by rw[HC];omega,by rw[HC];rfl⟩,a9⟩
  have ab:j=m:=oM;subst ab;have HC:Hid (((x.take (k+1)).any (fun l=>hs.any (fun o=>fZ o.legs l)))=false):=H2.out (by have:=L.out;rw[a0.out] at this;exact this);go_wp2;exact⟨⟨k+1,by omega,by go_num,HC,M⟩,mI⟩
 have ad:k=n:=oM;subst ad;have HC:=HE.out (by have:=HS.out;rw[F.out] at this;exact this);go_wp2;go_end0;exact⟨.inl ⟨HC,rfl⟩,bS H z⟩
def mR (idx:Int) (bs:List Bal):List (List Bal):=[if idx=0 then bs else [],if idx=1 then bs else [],if idx=2 then bs else []]
theorem fP8 {idx:Int} {bs:List Bal} (h:0≤idx∧idx≤2):(mR idx bs).getD idx.toNat default=bs:=by
 rcases(show idx=0∨idx=1∨idx=2 by omega) with rfl|rfl|rfl <;> rfl
theorem fJx {idx:Int} {bs:List Bal} (h:gZ bs=0):uH ⟨mR idx bs⟩=0:=by
 have h0:∀b:Bool,gZ (if b=true then bs else [])=0:=fun b=>by cases b <;> first|rfl|exact h
 unfold uH;rw[if_neg (by show ¬((3:Nat)<1∨3<3);omega)];refine fQt fun k d=>?_
 have e:k<3:=d;unfold gAm mR;rcases(show k=0∨k=1∨k=2 by omega) with rfl|rfl|rfl
 ·show gZ (if idx=0 then bs else [])=0;split;exact h;rfl
 ·show gZ (if idx=1 then bs else [])=0;split;exact h;rfl
 show gZ (if idx=2 then bs else [])=0;split;exact h;rfl
theorem pE {idx:Int} {bs:List Bal} (h:qA idx bs=0):(0≤idx∧idx≤2)∧gZ bs=0:=by
 unfold qA at h;split at h
 ·rename_i h1;exact⟨inBi.1 h1,h⟩
 omega
theorem rO (w:World):balsR.V w aj []:=⟨none,0,rfl,Nat.le_refl _,by decide,fun i d=>absurd d (Nat.not_lt_zero _)⟩
theorem fNz {W:World} {G:Nat} {u0 u1 u2:Value} {idx:Int} {bs:List Bal} (c0:W.cell? ⟨G,0,none⟩=some u0) (c1:W.cell? ⟨G,1,none⟩=some u1) (c2:W.cell? ⟨G,2,none⟩=some u2)
  (v0:balsR.V W u0 (if idx=0 then bs else [])) (v1:balsR.V W u1 (if idx=1 then bs else [])) (v2:balsR.V W u2 (if idx=2 then bs else [])):ledgR.V W (.agg #[.slice (some ⟨G,0,none⟩) 3 3]) ⟨mR idx bs⟩:=by
 refine⟨_,rfl,some ⟨G,0,none⟩,3,rfl,Nat.le_refl _,by decide,fun i e=>?_⟩;have g:i<3:=e;rcases(show i=0∨i=1∨i=2 by omega) with rfl|rfl|rfl
 ·exact⟨G,0,u0,rfl,rfl,fun j d=>(by obtain rfl:j=0:=oM;exact c0),v0⟩
 ·exact⟨G,0,u1,rfl,rfl,fun j d=>(by obtain rfl:j=0:=oM;exact c1),v1⟩
 exact⟨G,0,u2,rfl,rfl,fun j d=>(by obtain rfl:j=0:=oM;exact c2),v2⟩
theorem fZn (w:World):(Instr.makeSlice 232 (iV 3) (iV 3)).run Tryz.prog w =.ok (.slice (some ⟨w.heap.size,0,none⟩) 3 3) (w.alloc (.cells #[aj,aj,aj] 30)):=kF
theorem zO (x:Value) (d:Shd) (w:World) (hx:shdR.V w x d) (h0:qA d.idx d.bals=0) :
  cL 198 #[x] w fun e w'=>∃b,e =.returned (.agg #[iV 3,.map (some b)])∧w.heap.size≤b∧Book w' b 54 (mE (mR d.idx d.bals))∧aa w w':=by
 obtain⟨E,s⟩:=pE h0;have q:Hid (∀W y,ledgR.V W y ⟨mR d.idx d.bals⟩→cL 213 #[y] W fun e w'=>∃b,e =.returned (.agg #[iV 3,.map (some b)])∧W.heap.size≤b∧Book w' b 54 (mE (mR d.idx d.bals))∧aa W w'):=fun W y hy=>fRg y ⟨mR d.idx d.bals⟩ W hy (fJx s)
 obtain⟨u1,u2,u3,u4,u5,rfl,h1,h2,J,K,L⟩:=hx;have p:Hid (bW w fun W=>balsR.V W u1 d.bals):=fun W M=>balsR.below h1 M
 obtain⟨F,H,rfl⟩:=fQ h1;obtain⟨O,R,rfl⟩:=fH h2;obtain⟨T,U,rfl⟩:=fM J;obtain⟨X,Y,rfl⟩:=fH K;obtain⟨Z,c5,rfl⟩:=gL L;clear h1 h2 J K L h0 s;generalize d.bals.length=I at *;generalize d.votes.length=n2 at *;generalize d.held.length=n3 at *;generalize d.done.length=n4 at *;generalize d.appl.length=n5 at *;have N:=fZn;obtain⟨bs,z⟩:∃bs,bs=d.bals:=⟨_,rfl⟩
 rw[←z] at q p ⊢;clear z;generalize d.idx=idx at *;rcases(show idx=0∨idx=1∨idx=2 by omega) with rfl|rfl|rfl
 ·
  clear E;go_enter Tryz.func198,Tryz.ntmps198;go_wp2_with fail;refine(q.out _ _ (fNz (G:=w.heap.size+2) (u0:=.slice F I H) (u1:=aj) (u2:=aj) sG sG sG ?v0 ?v1 ?v2)).mono ?_
  case v0=>first|exact p.out _ hE|exact rO _
  case v1=>first|exact p.out _ hE|exact rO _
  case v2=>first|exact p.out _ hE|exact rO _
  rintro e k ⟨b,rfl,hb,j,g⟩;have A:=bT w g;have l:=g.size;simp at hb l;obtain⟨m,r⟩:=bcell g;have B:cI k (w.heap.size+1) 0 0:=cK g sG;have C:cW k (w.heap.size+1) 1 (.map none):=cK g sG;have D:aq k (w.heap.size+1):=fun o=>by rw[r _ _ (by simp;try omega)];simp[go_sem]
  have n:Hid (Book k b 54 (mE (mR 0 bs))):=j;clear g m r j;go_wp2;refine bodyPost_ret (v:=.agg #[iV 3,.map (some b)]) (by simp[results,Tryz.results198,go_sem,B,C,D]) rfl ⟨b,rfl,by omega,?_,qS⟩;exact(n.out.turned (Mod.of_set _ _ _) (by dsimp only;omega)).turned (Mod.of_set _ _ _) (by dsimp only;omega)
 ·
  clear E;go_enter Tryz.func198,Tryz.ntmps198;go_wp2_with fail;refine(q.out _ _ (fNz (G:=w.heap.size+2) (u0:=aj) (u1:=.slice F I H) (u2:=aj) sG sG sG ?v0 ?v1 ?v2)).mono ?_
  case v0=>first|exact p.out _ hE|exact rO _
  case v1=>first|exact p.out _ hE|exact rO _
  case v2=>first|exact p.out _ hE|exact rO _
  rintro e k ⟨b,rfl,hb,j,g⟩;have A:=bT w g;have l:=g.size;simp at hb l;obtain⟨m,r⟩:=bcell g;have B:cI k (w.heap.size+1) 0 0:=cK g sG;have C:cW k (w.heap.size+1) 1 (.map none):=cK g sG;have D:aq k (w.heap.size+1):=fun o=>by rw[r _ _ (by simp;try omega)];simp[go_sem]
  have n:Hid (Book k b 54 (mE (mR 1 bs))):=j;clear g m r j;go_wp2;refine bodyPost_ret (v:=.agg #[iV 3,.map (some b)]) (by simp[results,Tryz.results198,go_sem,B,C,D]) rfl ⟨b,rfl,by omega,?_,qS⟩;exact(n.out.turned (Mod.of_set _ _ _) (by dsimp only;omega)).turned (Mod.of_set _ _ _) (by dsimp only;omega)
 clear E;go_enter Tryz.func198,Tryz.ntmps198;go_wp2_with fail;refine(q.out _ _ (fNz (G:=w.heap.size+2) (u0:=aj) (u1:=aj) (u2:=.slice F I H) sG sG sG ?v0 ?v1 ?v2)).mono ?_
 case v0=>first|exact p.out _ hE|exact rO _
 case v1=>first|exact p.out _ hE|exact rO _
 case v2=>first|exact p.out _ hE|exact rO _
 rintro e k ⟨b,rfl,hb,j,g⟩;have A:=bT w g;have l:=g.size;simp at hb l;obtain⟨m,r⟩:=bcell g;have B:cI k (w.heap.size+1) 0 0:=cK g sG;have C:cW k (w.heap.size+1) 1 (.map none):=cK g sG;have D:aq k (w.heap.size+1):=fun o=>by rw[r _ _ (by simp;try omega)];simp[go_sem]
 have n:Hid (Book k b 54 (mE (mR 2 bs))):=j;clear g m r j;go_wp2;refine bodyPost_ret (v:=.agg #[iV 3,.map (some b)]) (by simp[results,Tryz.results198,go_sem,B,C,D]) rfl ⟨b,rfl,by omega,?_,qS⟩;exact(n.out.turned (Mod.of_set _ _ _) (by dsimp only;omega)).turned (Mod.of_set _ _ _) (by dsimp only;omega)
theorem fRl {idx:Int} {bs:List Bal} (h:0≤idx∧idx≤2) (ls:List Leg):fI (fun k=>canL (mE (mR idx bs)) ((onSh idx ls).getD k default)) (onSh idx ls).length=yK bs (onSh idx ls):=by
 have e:∀k,k<(onSh idx ls).length→canL (mE (mR idx bs)) ((onSh idx ls).getD k default)=canB bs ((onSh idx ls).getD k default):=fun k j=>by
  have m:(onSh idx ls).getD k default ∈ onSh idx ls:=by simp[List.getD,j]
  have d:=(List.mem_filter.1 m).2;simp only[beq_iff_eq] at d;have h1:=fUm (g:=⟨mR idx bs⟩) (l:=(onSh idx ls).getD k default) oM (by show _<((3:Nat):Int);omega);rw[d] at h1;have h2:=fP8 (bs:=bs) h;dsimp only at h1;rw[h2] at h1;exact h1.symm
 unfold yK;have p:∀n,n≤(onSh idx ls).length→fI (fun k=>canL (mE (mR idx bs)) ((onSh idx ls).getD k default)) n=fI (fun k=>canB bs ((onSh idx ls).getD k default)) n:=by
  intro n;induction n with
  | zero=>intro _;rfl
  | succ n ih=>
   intro q;have h1:=ih oM;unfold fI;rw[h1,e n oM]
 exact p _ (Nat.le_refl _)
theorem zU (idx id:Int) (b:Nat) (ul:Value) (bs:List Bal) (ls:List Leg) (w:World) (hb:Book w b 54 (mE (mR idx bs))) (hl:legsR.V w ul ls) (hn:ls.length≤1000) (hi:0≤idx∧idx≤2) (hbf:gZ bs=0) (hlf:∀l ∈ ls,gI l=0) :
  cL 197 #[iV idx,.agg #[iV 3,.map (some b)],.agg #[iV id,ul]] w (fGv (yK bs (onSh idx ls)) w):=by
 have C:Hid (bW w fun W=>cL 192 #[ul,iV idx] W fun e w'=>∃v,e =.returned v∧w'.ownsRow W.heap.size 168 4 v (onSh idx ls).length (gT (onSh idx ls))∧aa W w'):=fun W D=>yA ul ls idx W (legsR.below hl D) oM
 have r:Hid (∀W y,aa w W→legsR.V W y (onSh idx ls)→RI 212 #[.agg #[iV 3,.map (some b)],y] W (iV (yK bs (onSh idx ls)))):=fun W y D hy=>by
  have h:=fD0 3 b 54 (mE (mR idx bs)) y (onSh idx ls) W (hb.below D) hy (fV5 (g:=⟨mR idx bs⟩) (fJx hbf)) (fun k L=>by
   have M:(onSh idx ls).getD k default ∈ onSh idx ls:=by simp[List.getD,L]
   exact hlf _ (List.mem_filter.1 M).1)
  rw[fRl hi ls] at h;exact h
 obtain⟨E,F,rfl⟩:=kK hl;clear hl hn hi hbf hlf hb;generalize ls.length=G at *;obtain⟨s,x⟩:∃s,s=yK bs (onSh idx ls):=⟨_,rfl⟩
 rw[←x] at r ⊢;clear x;go_enter Tryz.func197,Tryz.ntmps197;go_wp2;obtain⟨wr,d⟩:∃wr,wr=(w.alloc (.cells #[iV 3,.map (some b)] 227)).alloc (.cells #[iV id,.slice E G F] 57):=⟨_,rfl⟩
 have N:cI wr w.heap.size 0 3:=cQ d;have O:cW wr w.heap.size 1 (.map (some b)):=cQ d;have q0:cI wr (w.heap.size+1) 0 id:=cQ d;have q1:ah wr (w.heap.size+1) 1 E G F:=cQ d;have n:aa w wr:=by rw[d];exact hE
 rw[←d];clear d;refine wp_region_noPanic ?_;refine fB (fun W=>aa wr W∧cI W w.heap.size 0 3∧cW W w.heap.size 1 (.map (some b))∧ah W (w.heap.size+1) 1 E G F) 7 kF ⟨hE,cK hE N,cK hE O,cK hE q1⟩ (fun hS=>?_);refine tX 0 ?_;refine tX 1 ?_;refine tX 2 ?_;refine tX 3 ?_;refine uS 4 rfl (fun K z=>?_);go_simp;refine(C.out _ (bS n hS.1)).mono ?_;rintro e H ⟨U,rfl,J,m⟩;obtain⟨X,Y,rfl⟩:=fD J;have R:=gX J;have p:aa wr H:=bS hS.1 m;have j:=And.intro p (kS3 m hS.2);refine z _ _ (fun _=>j) ?_;clear z K hS m;have hS:=j;clear j;try simp only[jX]
 refine uS 5 rfl (fun K z=>?_);go_simp;refine(r.out _ _ (bS n hS.1) R).mono ?_;rintro e T ⟨rfl,q⟩;have A:aa wr T:=bS hS.1 q;have j:=And.intro A (kS3 q hS.2);refine z _ _ (fun _=>j) ?_;clear z K hS q;have hS:=j;clear j;try simp only[jX]
 refine tX 6 ?_;refine dP ?_;by_cases B:s=0
 ·
  have I:(s !=0)=false:=by simp[B]
  go_wp2;go_end0;exact⟨.inl ⟨B,rfl⟩,bS n hS.1⟩
 have I:(s !=0)=true:=by simp[B]
 go_wp2;exact⟨rfl,.inr ⟨B,rfl⟩,bS n hS.1⟩
def cmpQ (x y:Int):Int:=if x<y then -1 else if y<x then 1 else 0
theorem cmpQ_neg {x y:Int}:cmpQ x y<0↔x<y:=by unfold cmpQ;split <;> (try split) <;> omega
theorem fT3 {x y:Int}:cmpQ x y=0↔x=y:=by unfold cmpQ;split <;> (try split) <;> omega
theorem fSc (x:Int) (w:World):cL 230 #[iV x] w fun e w'=>e =.returned (.bool false)∧w'=w:=by
 go_enter Tryz.func230,Tryz.ntmps230;go_wp2;go_ret;exact⟨rfl,rfl⟩
theorem fPt (x y:Int) (w:World):cL 210 #[iV x,iV y] w fun e w'=>e =.returned (iV (cmpQ x y))∧w'=w:=by
 go_enter Tryz.func210,Tryz.ntmps210;go_wp2_with (go_at_call 230;refine(fSc _ _).mono ?_;rintro e w' ⟨rfl,rfl⟩);all_goals (go_ret;refine⟨?_,rfl⟩;unfold cmpQ;(repeat' split) <;> first|rfl|(exfalso;omega))
theorem fDb (l:Mrk) (c:Int) (w:World):RI 209 #[.agg #[iV l.con,iV l.val],iV c] w (iV (cmpQ l.con c)):=by
 go_enter Tryz.func209,Tryz.ntmps209;go_wp2_with (go_at_call 210;refine(fPt _ _ _).mono ?_;rintro e w' ⟨rfl,rfl⟩);go_ret;exact⟨rfl,hE⟩
def PlM (xs:List Mrk) (c:Int) (w:World) (e:Ending) (w':World):Prop:=∃i:Nat,i≤xs.length∧e =.returned (.tuple #[.int .i64 i,.bool (decide (i<xs.length∧(xs.getD i default).con=c))])∧(∀k,k<i→(xs.getD k default).con<c)∧(∀k,i≤k→k<xs.length→c≤(xs.getD k default).con)∧aa w w'
theorem fY6 (x:Value) (xs:List Mrk) (c:Int) (w:World) (hx:mrksR.V w x xs) (hn:xs.length≤1048576) (hr:∀i j,i<j→j<xs.length→(xs.getD i default).con<(xs.getD j default).con) :
  cL 208 #[x,.int .i64 c,.func (.func 209) #[] #[]] w (PlM xs c w):=by
 obtain⟨R,cx,rfl,T,C,hx⟩:=hx;unfold maxLen at C;have K:Hid (∀i j,i<j→j<xs.length→(xs.getD i default).con<(xs.getD j default).con):=hr;have L:Hid (∀i,i<xs.length→∃b o,R=some ⟨b,o,none⟩∧qP w b (o+i*2) (xs.getD i default)):=hx;clear hx hr;generalize M:xs.length=n at *;have s:Hid (xs.length=n):=M;clear M;have eg:=enters_of Tryz.func209 kF rfl;go_enter Tryz.func208,Tryz.ntmps208;go_wp2;go_loopw [9,10] (fun a b W=>∃i j:Nat,i≤j∧j≤n∧a =.int .i64 i∧b =.int .i64 j∧Hid (∀k,k<i→(xs.getD k default).con<c)∧Hid (∀k,j≤k→k<n→c≤(xs.getD k default).con)∧aa w W) (fun a b _=>(intOf b).toNat-(intOf a).toNat)
 case atStart=>exact⟨0,n,Nat.zero_le _,Nat.le_refl _,rfl,rfl,fun k h=>absurd h oM,fun k h1 h2=>oM,bR _ _⟩
 obtain⟨i,j,U,p,rfl,rfl,D,E,y⟩:=hrel;by_cases X:i<j
 ·
  have N:(i:Int)<j:=oM;obtain⟨m,hm⟩:∃m:Nat,((i:Int)+j) / 2=(m:Int):=⟨(i+j) / 2,by omega⟩
  have F:i≤m:=oM;have Y:m<j:=oM;have G:(0:Int)≤m:=oM;have z:(m:Int)<n:=oM;obtain⟨Z,ox,rfl,q⟩:=L.out m oM;obtain⟨l,r⟩:∃l,l=xs.getD m default:=⟨_,rfl⟩
  rw[←r] at q;have B:Hid (l=xs.getD m default):=r;clear r;obtain⟨g2,g3⟩:=gD y q;clear q;by_cases d:cmpQ l.con c<0
  ·
   have hd:decide (cmpQ l.con c<0)=true:=decide_eq_true d;have H:Hid (∀k,k<m+1→(xs.getD k default).con<c):=fun k hk=>by
    have h1:(xs.getD m default).con<c:=by rw[←B.out];exact cmpQ_neg.1 d
    by_cases e:k=m
    ·rw[e];exact h1
    have:=K.out k m oM oM;omega
   go_wp2_with (first|(go_at_call 209;refine(fDb l  c _).mono ?_;rintro e O ⟨rfl,A⟩))
   refine⟨⟨m+1,j,by omega,p,by go_num,rfl,H,E,hE⟩,?_⟩;simp[intOf];omega
  have hd:decide (cmpQ l.con c<0)=false:=decide_eq_false d;have I:Hid (∀k,m≤k→k<n→c≤(xs.getD k default).con):=fun k hk a0=>by
   have h1:c≤(xs.getD m default).con:=by rw[←B.out];have:=mt cmpQ_neg.2 d;omega
   by_cases e:k=m
   ·rw[e];exact h1
   have:=K.out m k oM oM;omega
  go_wp2_with (first|(go_at_call 209;refine(fDb l  c _).mono ?_;rintro e O ⟨rfl,A⟩))
  refine⟨⟨i,m,F,by omega,rfl,rfl,D,I,hE⟩,?_⟩;simp[intOf];omega
 obtain rfl:i=j:=oM;have G:(0:Int)≤i:=oM;have a1:¬(i:Int)<i:=oM;by_cases g:i<n
 ·
  obtain⟨Z,ox,rfl,q⟩:=L.out i g;obtain⟨l,r⟩:∃l,l=xs.getD i default:=⟨_,rfl⟩
  rw[←r] at q;have B:Hid (l=xs.getD i default):=r;clear r;obtain⟨g2,g3⟩:=gD y q;clear q;have z:(i:Int)<n:=oM;have J:decide (i<n)=true:=decide_eq_true g;go_wp2_with (first|(go_at_call 209;refine(fDb l  c _).mono ?_;rintro e O ⟨rfl,A⟩));refine bodyPost_ret (v:=.tuple #[.int .i64 i,.bool (cmpQ l.con c==0)]) (by simp[results,Tryz.results208,go_sem]) rfl ?_;refine⟨i,by rw[s.out];exact p,?_,D.out,by rw[s.out];exact E.out,hE⟩;rw[←B.out,s.out];have e:(cmpQ l.con c==0)=decide (i<n∧l.con=c):=by
   rw[Bool.eq_iff_iff];simp[g,fT3]
  rw[e]
 have z:¬(i:Int)<n:=oM;have J:decide (i<n)=false:=decide_eq_false g;go_wp2;refine bodyPost_ret (v:=.tuple #[.int .i64 i,.bool false]) (by simp[results,Tryz.results208,go_sem]) rfl ?_;refine⟨i,by rw[s.out];exact p,?_,D.out,by rw[s.out];exact E.out,hE⟩;rw[s.out,decide_eq_false (fun h=>g h.1)]
theorem fB3 (x:Value) (xs:List Mrk) (c:Int) (w:World) (hx:mrksR.V w x xs) (hn:xs.length≤1048576) (hr:∀i j,i<j→j<xs.length→(xs.getD i default).con<(xs.getD j default).con) :
  cL 193 #[x,iV c] w (PlM xs c w):=by
 have d:Hid (bW w fun W=>cL 208 #[x,iV c,.func (.func 209) #[] #[]] W (PlM xs c W)):=fun W g=>fY6 x xs c W (mrksR.below hx g) hn hr
 obtain⟨a,m,rfl⟩:=fH hx;clear hx hr;go_enter Tryz.func193,Tryz.ntmps193;go_wp2_with fail;refine(d.out _ hE).mono ?_;rintro e n ⟨i,k,rfl,h1,h2,l⟩;go_wp2;refine bodyPost_ret (v:=.tuple #[iV i,.bool (decide (i<xs.length∧(xs.getD i default).con=c))]) (by simp[results,Tryz.results193,go_sem]) rfl ?_;exact⟨i,k,rfl,h1,h2,hE⟩
theorem zG (x:Value) (xs:List Mrk) (c:Int) (w:World) (hx:mrksR.V w x xs) (hn:xs.length≤1048576) (hr:∀i j,i<j→j<xs.length→(xs.getD i default).con<(xs.getD j default).con) :
  RI 174 #[x,iV c] w (iV (fK c xs)):=by
 have z:Hid (bW w fun W=>cL 193 #[x,iV c] W (PlM xs c W)):=fun W A=>fB3 x xs c W (mrksR.below hx A) hn hr
 obtain⟨B,E,rfl,C,m,hx⟩:=hx;unfold maxLen at m;have r:Hid (∀i,i≤xs.length→(∀k,k<i→(xs.getD k default).con<c)→(∀k,i≤k→k<xs.length→c≤(xs.getD k default).con)→fK c xs=if i<xs.length∧(xs.getD i default).con=c then (xs.getD i default).val else 0):=fun i p h1 h2=>fEb hr p h1 h2
 have D:Hid (∀i,i<xs.length→∃b o,B=some ⟨b,o,none⟩∧qP w b (o+i*2) (xs.getD i default)):=hx;clear hx hr;go_enter Tryz.func174,Tryz.ntmps174;go_wp2_with fail;refine(z.out _ hE).mono ?_;rintro e F ⟨i,p,rfl,h1,h2,q⟩;have s:=r.out i p h1 h2;have d:Hid (fK c xs=if i<xs.length∧(xs.getD i default).con=c then (xs.getD i default).val else 0):=s;clear r h1 h2 s;by_cases g:i<xs.length∧(xs.getD i default).con=c
 ·
  have l:decide (i<xs.length∧(xs.getD i default).con=c)=true:=decide_eq_true g;rw[l];have HC:Hid (fK c xs=(xs.getD i default).val):=by show _=_;rw[d.out,if_pos g]
  obtain⟨G,H,rfl,y⟩:=D.out i g.1;obtain⟨I,J⟩:=gD q y;have K:(i:Int)<xs.length:=by have:=g.1;omega
  have L:(0:Int)≤i:=oM;clear l g d y;generalize (xs.getD i default).val=M at *;generalize xs.length=n at *;go_wp2;go_ret;exact⟨rH,hE⟩
 have l:decide (i<xs.length∧(xs.getD i default).con=c)=false:=decide_eq_false g;rw[l];have HC:Hid (fK c xs=0):=by show _=_;rw[d.out,if_neg g]
 clear l g d;go_wp2;go_ret;exact⟨rH,hE⟩
end
end Go.Proofs.YtpibfdebfacooaaGreat

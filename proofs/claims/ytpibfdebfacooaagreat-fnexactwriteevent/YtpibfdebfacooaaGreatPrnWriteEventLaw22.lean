import Derived.Test.YtpibfdebfacooaaGreatPrnWriteEventLaw21
import Derived.Ground.SlsfProg
import Derived.Shelf.SlSortCmp.NoneTotal
set_option maxHeartbeats 16000000
set_option maxRecDepth 20000
set_option linter.all false
namespace Go.Proofs.YtpibfdebfacooaaGreat
open Go.RowKit
variable [dQ Rw] [iH Rw] [dQ Bal] [iH Bal] [dQ Ledg] [iH Ledg] [dQ Leg] [iH Leg] [dQ Cont] [iH Cont] [dQ LedgR] [iH LedgR] [dQ OutcR] [iH OutcR] [dQ Mrk] [iH Mrk] [dQ Shd] [iH Shd] [dQ ShdR] [iH ShdR]
attribute [local go_sem ↓] Go.wp_at_zero Go.wp_at_succ
attribute [local go_sem] cI ah cN iV aj
theorem NO.insAt {α:Type} [Inhabited α] {R:Rep α} {e size:Nat} {lv:Value→List Value} {W:World} {base:Nat} {v':Value} {i:Nat} {xs:List α} {cs:List Value} {us:Nat→Value} {fs:Nat→Nat→Prop} {u:Value} {x:α} {Fu:Nat→Prop}
  (hel:∀j,j<xs.length→R.O W base (fs j) (us j) (xs.getD j default)) (hln:∀j,j<xs.length→(lv (us j)).length=size) (hcell:∀j,j<xs.length→∀o,o<size→cs[j*size+o]? = (lv (us j))[o]?) (hsep:∀j k,j<xs.length→k<xs.length→j≠k→∀b,fs j b→¬fs k b) (hcl:cs.length=xs.length*size)
  (hi:i≤xs.length) (hu:R.O W base Fu u x) (hl:(lv u).length=size) (hd:∀j,j<xs.length→∀b,fs j b→¬Fu b)
  (hr:W.ownsRow base e size v' (xs.length+1) (cs.take (i*size)++lv u++cs.drop (i*size))) (hv:∀b,v'.ownBlock=some b→(∀j,j<xs.length→¬fs j b)∧¬Fu b) :
  ∃F',NO R e size lv W base F' v' (xs.take i++[x]++xs.drop i)∧∀b,F' b→v'.ownBlock=some b∨(∃j,j<xs.length∧fs j b)∨Fu b:=by
 have D:i*size≤xs.length*size:=Nat.mul_le_mul_right _ hi;have E:PO R e size lv W base v' (xs.length+1) (xs.length+1) (insF (fun k=>xs.getD k default) i x) (cs.take (i*size)++lv u++cs.drop (i*size)) (insF us i u) (insF fs i Fu):=by
  refine⟨hr,fun j m=>?_,fun j m=>?_,fun j m o A=>?_,fun j m b hb=>?_,fun j k m p F b h1 h2=>?_⟩
  ·
   rcases Nat.lt_trichotomy j i with h1|h1|h1
   ·rw[qE _ _ h1,qE _ _ h1,qE _ _ h1];exact hel j oM
   ·subst h1;rw[qC,qC,qC];exact hu
   rw[qD _ _ h1,qD _ _ h1,qD _ _ h1];exact hel (j-1) oM
  ·
   rcases Nat.lt_trichotomy j i with h1|h1|h1
   ·rw[qE _ _ h1];exact hln j oM
   ·subst h1;rw[qC];exact hl
   rw[qD _ _ h1];exact hln (j-1) oM
  ·
   have ht:(cs.take (i*size)).length=i*size:=by rw[List.length_take];omega
   rw[List.append_assoc];rcases Nat.lt_trichotomy j i with h1|h1|h1
   ·
    have s:j*size+o<i*size:=by
     have:(j+1)*size≤i*size:=Nat.mul_le_mul_right _ h1;rw[Nat.succ_mul] at this;omega
    rw[qE _ _ h1,List.getElem?_append_left oM,List.getElem?_take,if_pos s];exact hcell j oM o A
   ·subst h1;rw[qC,List.getElem?_append_right oM,ht,show j*size+o-j*size=o by omega,List.getElem?_append_left oM]
   obtain⟨q,rfl⟩:∃q,j=q+1:=⟨j-1,by omega⟩
   have G:i*size≤q*size:=Nat.mul_le_mul_right _ oM;have B:(q+1)*size=q*size+size:=Nat.succ_mul _ _;rw[qD _ _ h1,Nat.add_sub_cancel,List.getElem?_append_right oM,ht,List.getElem?_append_right oM,hl,List.getElem?_drop,B,show i*size+(q*size+size+o-i*size-size)=q*size+o by omega];exact hcell q oM o A
  ·
   intro e;obtain⟨y,z⟩:=hv b e;rcases Nat.lt_trichotomy j i with h1|h1|h1
   ·rw[qE _ _ h1] at hb;exact y j oM hb
   ·subst h1;rw[qC] at hb;exact z hb
   rw[qD _ _ h1] at hb;exact y (j-1) oM hb
  have g:∀j,j<xs.length+1→insF fs i Fu j b→(j=i∧Fu b)∨∃q,q<xs.length∧fs q b∧((j<i∧q=j)∨(i<j∧q+1=j)):=fun j m hb=>by
   rcases Nat.lt_trichotomy j i with h1|h1|h1
   ·rw[qE _ _ h1] at hb;exact .inr ⟨j,by omega,hb,.inl ⟨h1,rfl⟩⟩
   ·subst h1;rw[qC] at hb;exact .inl ⟨rfl,hb⟩
   rw[qD _ _ h1] at hb;exact .inr ⟨j-1,by omega,hb,.inr ⟨h1,by omega⟩⟩
  rcases g j m h1 with ⟨B,r⟩|⟨q,C,r,y⟩
  ·
   rcases g k p h2 with ⟨H,n⟩|⟨q2,l,n,z⟩
   ·omega
   exact hd q2 l b n r
  rcases g k p h2 with ⟨H,n⟩|⟨q2,l,n,z⟩
  ·exact hd q C b r n
  exact hsep q q2 C l oM b r n
 have d:(xs.take i++[x]++xs.drop i).length=xs.length+1:=by simp only[List.length_append,List.length_take,List.length_drop,List.length_cons,List.length_nil];omega
 refine⟨fun b=>v'.ownBlock=some b∨∃k,k<xs.length+1∧insF fs i Fu k b,⟨cs.take (i*size)++lv u++cs.drop (i*size),insF us i u,insF fs i Fu,?_,fun b=>by rw[d]⟩,fun b hb=>?_⟩
 ·rw[d];exact E.cast (fun k p=>fJr xs x i k hi)
 rcases hb with hb|⟨k,p,hb⟩
 ·exact .inl hb
 rcases Nat.lt_trichotomy k i with h1|h1|h1
 ·rw[qE _ _ h1] at hb;exact .inr (.inl ⟨k,by omega,hb⟩)
 ·subst h1;rw[qC] at hb;exact .inr (.inr hb)
 rw[qD _ _ h1] at hb;exact .inr (.inl ⟨k-1,by omega,hb⟩)
theorem fVl {w:World} {B:Nat} {u0 u1:Value} (h0:w.cell? ⟨B,0,none⟩=some u0) (h1:w.cell? ⟨B,1,none⟩=some u1):gP w (.slice (some ⟨B,0,none⟩) 1 1) 1 [u0,u1]:=by
 refine .inr ⟨_,_,rfl,fun j x d=>?_⟩;rw[fCn];match j,d with
 | 0,d=>simp at d;subst d;simpa using h0
 | 1,d=>simp at d;subst d;simpa using h1
 | j+2,d=>simp at d
theorem fGr (Y:World) {o:Oper} {a:Act} {K:Act→World→Prop} {Q:Exit→Act→World→Prop} (hgd:o.guard=none) (s x:Operand)
  (ho:o.op =.call {callee:=.builtin .append,args:=#[s,x],argTypes:=#[38,38]})
  (base:Nat) (v:Value) (n:Nat) (cs:List Value) (hs:a.eval s=v) (u:Value) (m:Nat) (ds:List Value) (hx:a.eval x=u)
  (hown:Y.ownsRow base 57 2 v n cs) (hsrc:gP Y u m ds) (hl:ds.length=m*2) (h1:∀y ∈ ds,y.oneCell'=true) (hlen:n+m≤1073741824) (hbase:base≤Y.heap.size)
  (h:∀v' w',w'.ownsRow base 57 2 v' (n+m) (cs++ds)→Mod (fun b=>v.ownBlock=some b) Y w'→(∀b,v'.ownBlock=some b→v.ownBlock=some b∨(Y.heap.size≤b∧b<w'.heap.size))→K (a.put o.dst v') w'):Oper.wp Tryz.prog o a Y K Q:=by
 obtain⟨j,k,d,e,g⟩:=info_parts rQ;refine fGs Y hgd s x 38 ho 57 j _ 2 32 Tryz.underlying38 k d e g rfl (by decide) (by decide) base v _ n cs hs u m ds hx ⟨hown,rfl⟩ hsrc hl h1 hlen hbase ?_;intro v' w' h1 h2 l;exact h v' w' h1.1 h2 l
def fGq (base:Nat) (d:Shd) (fv:Int):Nat→(Nat→Value)→(Nat→Prop)→World→Prop
 | 1,y,F,w=>(∃s1 s2 s3 s4 s5 f1 f2 f3 f4 f5,y 8 =.agg #[.int .i64 d.idx,.slice s1 d.bals.length f1,.slice s2 d.votes.length f2,.slice s3 d.held.length f3,.slice s4 d.done.length f4,.slice s5 d.appl.length f5])∧shdR.O w base F (y 8) d
 | 6,y,_,_=>y 13 =.int .i64 fv
 | 7,y,_,_=>∃s1 s2 s3 s4 s5 f1 f2 f3 f4 f5,y 8 =.agg #[.int .i64 d.idx,.slice s1 d.bals.length f1,.slice s2 d.votes.length f2,.slice s3 d.held.length f3,.slice s4 d.done.length f4,.slice s5 d.appl.length f5]∧y 14 =.agg #[.int .i64 0,.int .i64 fv,.int .i64 d.idx,.slice s1 d.bals.length f1,.slice s2 d.votes.length f2,.slice s3 d.held.length f3,.slice s4 d.done.length f4,.slice s5 d.appl.length f5]
 | 8,y,F,w=>∃B,y 5 =.pointer (some ⟨B,0,none⟩)∧F B∧base≤B∧B<w.heap.size∧(w.cell? ⟨B,0,none⟩=some (.int .i64 0)∧w.cell? ⟨B,1,none⟩=some (.int .i64 0)∧w.cell? ⟨B,2,none⟩=some (.int .i64 0)∧w.cell? ⟨B,3,none⟩=some (.slice none 0 0)∧w.cell? ⟨B,4,none⟩=some (.slice none 0 0)∧w.cell? ⟨B,5,none⟩=some (.slice none 0 0)∧w.cell? ⟨B,6,none⟩=some (.slice none 0 0)∧w.cell? ⟨B,7,none⟩=some (.slice none 0 0))∧∀o,w.frozen? ⟨B,o,none⟩=false
 | _,_,_,_=>True
theorem fU3 (x y:Value) (d:Shd) (c:Cont) (w:World) (hx:shdR.V w x d) (hy:contR.V w y c) (hok:ShdOk d) (hcf:fA c.id c.legs=0) :
  cL 128 #[x,y] w (rJ w (mX d c)):=by
 have bO:Hid (bW w fun W=>cL 152 #[x] W fun e w'=>∃v F,e =.returned v∧shdR.O w' W.heap.size F v d∧aa W w'):=fun W hW=>fL0 x d W (shdR.below hx hW) ⟨by have:=fAg (pE hok.base).2;omega,by have:=hok.ls.nv;omega,by have:=hok.ls.nh;omega,by have:=hok.ls.nd;omega,by have:=hok.ls.na;omega⟩ (fun k hk=>by have:=hok.held.len hk;omega)
 have aW:Hid (bW w fun W=>RI 154 #[x,y] W (.bool (kV d c))):=fun W hW=>fL2 x y d c W (shdR.below hx hW) (contR.below hy hW) (uK (pE hok.base).2) hcf hok.held
 have aX:Hid (bW w fun W=>cL 155 #[y] W fun e w'=>∃v F,e =.returned v∧contR.O w' W.heap.size F v c∧aa W w'):=fun W hW=>yV y c W (contR.below hy hW) (by have:=fDk hcf;omega)
 have aD:Hid (∀W base F x v,mrksR.O W base F x d.votes→cL 156 #[x,iV c.id,iV v] W fun e w'=>∃u F',e =.returned u∧mrksR.O w' W.heap.size F' u (putM d.votes ⟨c.id,v⟩)∧aa W w'):=fun W base F x v ho=>fL1 x d.votes ⟨c.id,v⟩ base F W ho (by have:=hok.ls.nv;omega)
 have bk:Hid (∀k,k≤d.held.length→(∀j,j<k→(d.held.getD j default).id<c.id)→(k<d.held.length→¬(d.held.getD k default).id<c.id)→putC d.held c=d.held.take k++[c]++d.held.drop k):=fun k hk h1 h2=>by
  unfold putC;rw[fOz hk h1 h2]
 have bP:Hid (d.held.length≤100):=hok.ls.nh;obtain⟨u1,u2,u3,u4,u5,rfl,h1,h2,h3,h4,h5⟩:=hx;have bQ:Hid (∃a c,u3 =.slice a d.held.length c∧d.held.length≤c∧c≤maxLen∧∀k,k<d.held.length→∃b o p q,a=some ⟨b,o,none⟩∧w.cell? ⟨b,o+k*2,none⟩=some (iV (d.held.getD k default).id)∧w.cell? ⟨b,o+k*2+1,none⟩=some (.slice p (d.held.getD k default).legs.length q)∧contR.V w (.agg #[iV (d.held.getD k default).id,.slice p (d.held.getD k default).legs.length q]) (d.held.getD k default)):=qN h3;have bU:Hid (bW w fun W=>RI 153 #[u2,iV c.id] W (iV (fK c.id d.votes))):=fun W hW=>uA u2 _ c.id W (mrksR.below h2 hW)
 obtain⟨a1,c1,rfl⟩:=fQ h1;obtain⟨a2,c2,rfl⟩:=fH h2;obtain⟨a3,c3,rfl⟩:=fM h3;obtain⟨a4,c4,rfl⟩:=fH h4;obtain⟨a5,c5,rfl⟩:=gL h5;obtain⟨_,_,e3,cZ,cq,aY⟩:=bQ.out;simp only[Value.slice.injEq,true_and] at e3;obtain⟨rfl,rfl⟩:=e3;unfold maxLen at cq;have HX:Hid (∀k,k<d.held.length→∃b o p q,a3=some ⟨b,o,none⟩∧w.cell? ⟨b,o+k*2,none⟩=some (iV (d.held.getD k default).id)∧w.cell? ⟨b,o+k*2+1,none⟩=some (.slice p (d.held.getD k default).legs.length q)∧contR.V w (.agg #[iV (d.held.getD k default).id,.slice p (d.held.getD k default).legs.length q]) (d.held.getD k default)):=aY;obtain⟨uy,rfl,hy⟩:=hy;obtain⟨ax,cx,rfl⟩:=kK hy;clear h1 h2 h3 h4 h5 hy bQ aY hok hcf;have d0:d.held.length≤100:=bP.out;have aZ:Hid (¬fK c.id d.votes=0→mX d c=⟨0,fK c.id d.votes,d⟩):=fun h=>fI9 h
 have b0:Hid (fK c.id d.votes=0→100≤d.votes.length→mX d c=errH 2):=fun h h1=>fGp h h1
 have b1:Hid (fK c.id d.votes=0→¬100≤d.votes.length→kV d c=true→mX d c=⟨0,1,votV (zK d c) c.id 1⟩):=fun h h1 h2=>fJa h h1 h2
 have b2:Hid (fK c.id d.votes=0→¬100≤d.votes.length→kV d c=false→mX d c=⟨0,2,votV d c.id 2⟩):=fun h h1 h2=>fM4 h h1 h2
 clear bP;generalize fK c.id d.votes=fv at *;go_enter Tryz.func128,Tryz.ntmps128;go_wp2;obtain⟨wq,l⟩:∃wq,wq=((w.alloc (.cells #[iV d.idx,.slice a1 d.bals.length c1,.slice a2 d.votes.length c2,.slice a3 d.held.length c3,.slice a4 d.done.length c4,.slice a5 d.appl.length c5] 41)).alloc (.cells #[iV c.id,.slice ax c.legs.length cx] 57)).alloc (.cells #[iV 0,iV 0,iV 0,aj,aj,aj,aj,aj] 76):=⟨_,rfl⟩
 have y0:cI wq w.heap.size 0 d.idx:=cQ l;have y1:ah wq w.heap.size 1 a1 d.bals.length c1:=cQ l;have y2:ah wq w.heap.size 2 a2 d.votes.length c2:=cQ l;have y3:ah wq w.heap.size 3 a3 d.held.length c3:=cQ l;have y4:ah wq w.heap.size 4 a4 d.done.length c4:=cQ l;have y5:ah wq w.heap.size 5 a5 d.appl.length c5:=cQ l;have N:cI wq (w.heap.size+1) 0 c.id:=cQ l;have x1:ah wq (w.heap.size+1) 1 ax c.legs.length cx:=cQ l;have T:cI wq (w.heap.size+2) 0 0:=cQ l;have U:cI wq (w.heap.size+2) 1 0:=cQ l;have X:cI wq (w.heap.size+2) 2 0:=cQ l;have Y:cN wq (w.heap.size+2) 3:=cQ l;have Z:cN wq (w.heap.size+2) 4:=cQ l;have r5:cN wq (w.heap.size+2) 5:=cQ l;have r6:cN wq (w.heap.size+2) 6:=cQ l;have r7:cN wq (w.heap.size+2) 7:=cQ l;have rf:aq wq (w.heap.size+2):=fun o=>by rw[l];simp[go_sem]
 have b3:aa w wq:=by rw[l];exact hE
 have zq:w.heap.size+2<wq.heap.size:=by rw[l];simp
 rw[←l];clear l;refine wp_region_noPanic ?_;refine fB (fun W=>aa wq W∧cI W w.heap.size 0 d.idx∧ah W w.heap.size 1 a1 d.bals.length c1∧ah W w.heap.size 2 a2 d.votes.length c2∧ah W w.heap.size 3 a3 d.held.length c3∧ah W w.heap.size 4 a4 d.done.length c4∧ah W w.heap.size 5 a5 d.appl.length c5∧cI W (w.heap.size+1) 0 c.id) 9 kF ⟨hE,cK hE y0,cK hE y1,cK hE y2,cK hE y3,cK hE y4,cK hE y5,cK hE N⟩ (fun hS=>?_);refine tY 0 ?_;refine tY 2 ?_;refine tY 3 ?_;refine tY 4 ?_;refine tY 5 ?_;have bV:aa wq wq.drew:=Below.drew (bR _ _);generalize wq.drew=W0 at *;have cU:=bV.size;have d1:w.heap.size+2<W0.heap.size:=oM;refine uE [(1,8),(6,13),(7,14),(8,5)] (fun _=>[]) (fGq W0.heap.size d fv) kF hS ?_ ?_ ?_ ?_
 ·
  intro F W W' h hm hF;have M:¬F w.heap.size:=fun e=>by have:=hF _ e;omega
  have bX:¬F (w.heap.size+1):=fun e=>by have:=hF _ e;omega
  exact⟨hm.below h.1 h.1.size (fun b hb=>by have:=hF b hb;omega),hm.cell h.2.1 M,hm.cell h.2.2.1 M,hm.cell h.2.2.2.1 M,hm.cell h.2.2.2.2.1 M,hm.cell h.2.2.2.2.2.1 M,hm.cell h.2.2.2.2.2.2.1 M,hm.cell h.2.2.2.2.2.2.2 bX⟩
 ·
  intro p hp;simp only[List.mem_cons,List.not_mem_nil,or_false] at hp;rcases hp with rfl|rfl|rfl|rfl
  all_goals
   intro y y' F F' W W' h hF hm aK al e he
  ·simp only[fGq] at h ⊢;rw[e];exact⟨h.1,shdR.mod h.2 hm (fun b hb hf=>aK b hf hb)⟩
  ·simp only[fGq] at h ⊢;rw[e];exact h
  ·have e1:=he (1,8) (by simp) kF;simp only[fGq] at h ⊢;rw[e,e1];exact h
  simp only[fGq] at h ⊢;rw[e];obtain⟨B,h1,h2,h3,bY,⟨g0,g1,g2,g3,g4,g5,g6,g7⟩,h4⟩:=h;have M:¬F' B:=fun hf=>aK B hf h2
  exact⟨B,h1,h2,h3,Nat.lt_of_lt_of_le bY hm.size,⟨hm.cell g0 M,hm.cell g1 M,hm.cell g2 M,hm.cell g3 M,hm.cell g4 M,hm.cell g5 M,hm.cell g6 M,hm.cell g7 M⟩,fun o=>(hm.frz10 (a:=⟨B,o,none⟩) bY M).trans (h4 o)⟩
 ·
  intro p hp;simp only[List.mem_cons,List.not_mem_nil,or_false] at hp;rcases hp with rfl|rfl|rfl|rfl
  all_goals
   refine⟨_,rfl,rfl,?_⟩;intro y W Φ b4 aE hd K r
  ·clear hd;refine⟨?_⟩;simp only[over,jX,lZ] at r ⊢;go_simp;refine(bO.out _ (bS b3 b4.1)).mono ?_;rintro e w' ⟨v,F,rfl,o3,s⟩;refine r _ _ F (Mod.of_below s) (fun b hb=>.inr (shdR.rng o3 b hb)) ?_;simp only[fGq,updV];obtain⟨C,s2,A,D,E,G,f2,z,H,I,hv⟩:=mW o3;exact⟨⟨C,s2,A,D,E,G,f2,z,H,I,by simpa using hv⟩,by simpa using shdR.base o3 aE.size⟩
  ·clear hd;refine⟨?_⟩;simp only[over,jX,lZ] at r ⊢;go_simp;refine(bU.out _ (bS b3 b4.1)).mono ?_;rintro e w' ⟨rfl,s⟩;refine r _ _ (fun _=>False) (Mod.of_below s) (fun b hb=>hb.elim) ?_;simp only[fGq,updV];rfl
  ·have g1:=(hd (1,8) (by simp) kF (.inr (by simp))).2;have g6:=(hd (6,13) (by simp) kF (.inr (by simp))).2;clear hd;simp only[fGq] at g1 g6;obtain⟨⟨C,s2,A,D,E,G,f2,z,H,I,e1⟩,_⟩:=g1;refine⟨?_⟩;simp only[over,jX,lZ] at r ⊢;simp only[e1,g6] at r ⊢;go_simp;refine r _ _ (fun _=>False) (Mod.refl _ _) (fun b hb=>hb.elim) ?_;simp only[fGq,updV];exact⟨C,s2,A,D,E,G,f2,z,H,I,by simp[e1],by simp⟩
  clear hd;have cr:=aE.size;refine⟨?_⟩;simp only[over,jX,lZ] at r ⊢;go_simp;refine r _ _ (fun b=>b=W.heap.size) (Mod.of_below hE) (fun b hb=>.inr (by rw[hb];simp)) ?_;simp only[fGq,updV];exact⟨W.heap.size,by simp,rfl,cr,by simp,⟨sG,by simp[go_sem],sG,by simp[go_sem],sG,by simp[go_sem],sG,by simp[go_sem]⟩,fun o=>sG⟩
 refine⟨_,rfl,?_⟩;intro y W Φ b4 aE hd aK K r;have g1:=(hd (1,8) (by simp) (by simp)).2;have g7:=(hd (7,14) (by simp) (by simp)).2;have g8:=(hd (8,5) (by simp) (by simp)).2;have bZ:=aK (1,8) (by simp) (8,5) (by simp) (by simp) (by simp) (by simp);clear hd aK;simp only[fGq] at g1 g7 g8;obtain⟨_,o1⟩:=g1;obtain⟨C,s2,A,D,E,G,f2,z,H,I,e8,c0⟩:=g7;obtain⟨B,eB,c8,cV,bf,⟨k0,k1,k2,k3,k4,k5,k6,k7⟩,kf⟩:=g8;rw[e8] at o1;have aL:aa wq W:=bS bV aE;generalize Φ 1=F1 at *;have nB:¬F1 B:=fun h=>bZ B h c8
 clear c8 bZ e8;refine⟨?_⟩;simp only[over,jX,lZ];simp only[c0,eB];clear c0 eB b4 hS;go_simp;refine r _ _ ?_;clear r K;refine NoPanic.normal ?_;have b5:Mod (fun b=>b=B) W ((((((((W.setCell ⟨B,0,none⟩ (iV 0)).setCell ⟨B,1,none⟩ (iV fv)).setCell ⟨B,2,none⟩ (iV d.idx)).setCell ⟨B,3,none⟩ (.slice C d.bals.length G)).setCell ⟨B,4,none⟩ (.slice s2 d.votes.length f2)).setCell ⟨B,5,none⟩ (.slice A d.held.length z)).setCell ⟨B,6,none⟩ (.slice D d.done.length H)).setCell ⟨B,7,none⟩ (.slice E d.appl.length I)):=(((((((Mod.of_set W ⟨B,0,none⟩ _).trans (Mod.of_set _ ⟨B,1,none⟩ _)).trans (Mod.of_set _ ⟨B,2,none⟩ _)).trans (Mod.of_set _ ⟨B,3,none⟩ _)).trans (Mod.of_set _ ⟨B,4,none⟩ _)).trans (Mod.of_set _ ⟨B,5,none⟩ _)).trans (Mod.of_set _ ⟨B,6,none⟩ _)).trans (Mod.of_set _ ⟨B,7,none⟩ _);have t0:((((((((W.setCell ⟨B,0,none⟩ (iV 0)).setCell ⟨B,1,none⟩ (iV fv)).setCell ⟨B,2,none⟩ (iV d.idx)).setCell ⟨B,3,none⟩ (.slice C d.bals.length G)).setCell ⟨B,4,none⟩ (.slice s2 d.votes.length f2)).setCell ⟨B,5,none⟩ (.slice A d.held.length z)).setCell ⟨B,6,none⟩ (.slice D d.done.length H)).setCell ⟨B,7,none⟩ (.slice E d.appl.length I)).cell? ⟨B,0,none⟩=some (iV 0):=by simp[go_sem,k0,k1,k2,k3,k4,k5,k6,k7,kf]
 have t1:((((((((W.setCell ⟨B,0,none⟩ (iV 0)).setCell ⟨B,1,none⟩ (iV fv)).setCell ⟨B,2,none⟩ (iV d.idx)).setCell ⟨B,3,none⟩ (.slice C d.bals.length G)).setCell ⟨B,4,none⟩ (.slice s2 d.votes.length f2)).setCell ⟨B,5,none⟩ (.slice A d.held.length z)).setCell ⟨B,6,none⟩ (.slice D d.done.length H)).setCell ⟨B,7,none⟩ (.slice E d.appl.length I)).cell? ⟨B,1,none⟩=some (iV fv):=by simp[go_sem,k0,k1,k2,k3,k4,k5,k6,k7,kf]
 have t2:((((((((W.setCell ⟨B,0,none⟩ (iV 0)).setCell ⟨B,1,none⟩ (iV fv)).setCell ⟨B,2,none⟩ (iV d.idx)).setCell ⟨B,3,none⟩ (.slice C d.bals.length G)).setCell ⟨B,4,none⟩ (.slice s2 d.votes.length f2)).setCell ⟨B,5,none⟩ (.slice A d.held.length z)).setCell ⟨B,6,none⟩ (.slice D d.done.length H)).setCell ⟨B,7,none⟩ (.slice E d.appl.length I)).cell? ⟨B,2,none⟩=some (iV d.idx):=by simp[go_sem,k0,k1,k2,k3,k4,k5,k6,k7,kf]
 have t3:((((((((W.setCell ⟨B,0,none⟩ (iV 0)).setCell ⟨B,1,none⟩ (iV fv)).setCell ⟨B,2,none⟩ (iV d.idx)).setCell ⟨B,3,none⟩ (.slice C d.bals.length G)).setCell ⟨B,4,none⟩ (.slice s2 d.votes.length f2)).setCell ⟨B,5,none⟩ (.slice A d.held.length z)).setCell ⟨B,6,none⟩ (.slice D d.done.length H)).setCell ⟨B,7,none⟩ (.slice E d.appl.length I)).cell? ⟨B,3,none⟩=some (.slice C d.bals.length G):=by simp[go_sem,k0,k1,k2,k3,k4,k5,k6,k7,kf]
 have t4:((((((((W.setCell ⟨B,0,none⟩ (iV 0)).setCell ⟨B,1,none⟩ (iV fv)).setCell ⟨B,2,none⟩ (iV d.idx)).setCell ⟨B,3,none⟩ (.slice C d.bals.length G)).setCell ⟨B,4,none⟩ (.slice s2 d.votes.length f2)).setCell ⟨B,5,none⟩ (.slice A d.held.length z)).setCell ⟨B,6,none⟩ (.slice D d.done.length H)).setCell ⟨B,7,none⟩ (.slice E d.appl.length I)).cell? ⟨B,4,none⟩=some (.slice s2 d.votes.length f2):=by simp[go_sem,k0,k1,k2,k3,k4,k5,k6,k7,kf]
 have t5:((((((((W.setCell ⟨B,0,none⟩ (iV 0)).setCell ⟨B,1,none⟩ (iV fv)).setCell ⟨B,2,none⟩ (iV d.idx)).setCell ⟨B,3,none⟩ (.slice C d.bals.length G)).setCell ⟨B,4,none⟩ (.slice s2 d.votes.length f2)).setCell ⟨B,5,none⟩ (.slice A d.held.length z)).setCell ⟨B,6,none⟩ (.slice D d.done.length H)).setCell ⟨B,7,none⟩ (.slice E d.appl.length I)).cell? ⟨B,5,none⟩=some (.slice A d.held.length z):=by simp[go_sem,k0,k1,k2,k3,k4,k5,k6,k7,kf]
 have t6:((((((((W.setCell ⟨B,0,none⟩ (iV 0)).setCell ⟨B,1,none⟩ (iV fv)).setCell ⟨B,2,none⟩ (iV d.idx)).setCell ⟨B,3,none⟩ (.slice C d.bals.length G)).setCell ⟨B,4,none⟩ (.slice s2 d.votes.length f2)).setCell ⟨B,5,none⟩ (.slice A d.held.length z)).setCell ⟨B,6,none⟩ (.slice D d.done.length H)).setCell ⟨B,7,none⟩ (.slice E d.appl.length I)).cell? ⟨B,6,none⟩=some (.slice D d.done.length H):=by simp[go_sem,k0,k1,k2,k3,k4,k5,k6,k7,kf]
 have t7:((((((((W.setCell ⟨B,0,none⟩ (iV 0)).setCell ⟨B,1,none⟩ (iV fv)).setCell ⟨B,2,none⟩ (iV d.idx)).setCell ⟨B,3,none⟩ (.slice C d.bals.length G)).setCell ⟨B,4,none⟩ (.slice s2 d.votes.length f2)).setCell ⟨B,5,none⟩ (.slice A d.held.length z)).setCell ⟨B,6,none⟩ (.slice D d.done.length H)).setCell ⟨B,7,none⟩ (.slice E d.appl.length I)).cell? ⟨B,7,none⟩=some (.slice E d.appl.length I):=by simp[go_sem,k0,k1,k2,k3,k4,k5,k6,k7,kf]
 have n:∀o,((((((((W.setCell ⟨B,0,none⟩ (iV 0)).setCell ⟨B,1,none⟩ (iV fv)).setCell ⟨B,2,none⟩ (iV d.idx)).setCell ⟨B,3,none⟩ (.slice C d.bals.length G)).setCell ⟨B,4,none⟩ (.slice s2 d.votes.length f2)).setCell ⟨B,5,none⟩ (.slice A d.held.length z)).setCell ⟨B,6,none⟩ (.slice D d.done.length H)).setCell ⟨B,7,none⟩ (.slice E d.appl.length I)).frozen? ⟨B,o,none⟩=false:=fun o=>by simp[go_sem,kf]
 have zB:B<((((((((W.setCell ⟨B,0,none⟩ (iV 0)).setCell ⟨B,1,none⟩ (iV fv)).setCell ⟨B,2,none⟩ (iV d.idx)).setCell ⟨B,3,none⟩ (.slice C d.bals.length G)).setCell ⟨B,4,none⟩ (.slice s2 d.votes.length f2)).setCell ⟨B,5,none⟩ (.slice A d.held.length z)).setCell ⟨B,6,none⟩ (.slice D d.done.length H)).setCell ⟨B,7,none⟩ (.slice E d.appl.length I)).heap.size:=by simpa using bf
 generalize (((((((W.setCell ⟨B,0,none⟩ (iV 0)).setCell ⟨B,1,none⟩ (iV fv)).setCell ⟨B,2,none⟩ (iV d.idx)).setCell ⟨B,3,none⟩ (.slice C d.bals.length G)).setCell ⟨B,4,none⟩ (.slice s2 d.votes.length f2)).setCell ⟨B,5,none⟩ (.slice A d.held.length z)).setCell ⟨B,6,none⟩ (.slice D d.done.length H)).setCell ⟨B,7,none⟩ (.slice E d.appl.length I)=W1 at *;have b6:Hid (shdR.O W1 W0.heap.size F1 (.agg #[iV d.idx,.slice C d.bals.length G,.slice s2 d.votes.length f2,.slice A d.held.length z,.slice D d.done.length H,.slice E d.appl.length I]) d):=shdR.mod o1 b5 (fun b hb e=>nB (e▸hb));have aA:Hid (¬F1 B):=nB;have ag:aa wq W1:=b5.below aL aL.size (fun b e=>by rw[e];omega);have cX:W0.heap.size≤W1.heap.size:=Nat.le_trans aE.size b5.size;clear o1 nB b5 k0 k1 k2 k3 k4 k5 k6 k7 kf bf aE aL;refine kR12 ag ?_ y0 y1 y2 y3 y4 y5 N x1 T U X Y;clear y0 y1 y2 y3 y4 y5 N x1 T U X Y;intro y0 y1 y2 y3 y4 y5 N x1 T U X Y;refine kR4 ag ?_ Z r5 r6 r7;clear Z r5 r6 r7;intro Z r5 r6 r7;replace rf:=ai ag zq rf;have bl:aa w W1:=bS b3 ag;have ct:w.heap.size+2<W1.heap.size:=by have:=ag.size;omega
 have d2:w.heap.size+2<B:=oM;clear ag bO bU b3;generalize cu:d.bals.length=n1 at *;generalize cv:d.votes.length=n2 at *;generalize ca:d.held.length=J at *;generalize cw:d.done.length=n4 at *;generalize cy:d.appl.length=n5 at *;have b7:Hid (d.held.length=J):=ca;clear cu cv ca cw cy;generalize cb:c.legs.length=nx at *;have cz:Hid (c.legs.length=nx):=cb;clear cb;by_cases bm:fv=0;rotate_left
 ·
  have HC:Hid _:=aZ.out bm;have cY:(fv !=0)=true:=by simp[bm]
  clear aZ b0 b1 b2 aW aX aD;go_wp2;refine bodyPost_ret (v:=.agg #[iV 0,iV fv,iV d.idx,.slice C n1 G,.slice s2 n2 f2,.slice A J z,.slice D n4 H,.slice E n5 I]) (by simp[results,Tryz.results128,go_sem,T,U,X,Y,Z,r5,r6,r7,rf]) rfl ?_;rw[HC.out];refine⟨_,F1,rfl,shdRR.base (vZ shdRR (vX 0 fv b6.out) (fun h=>by have:=(shdR.rng b6.out _ h).1;omega) _ _ _ _ _ _ _ _) oM,?_⟩;exact qS
 subst bm;by_cases hm:100≤n2
 ·have HC:Hid (mX d c=errH 2):=b0.out rfl hm;have cA:(100:Int)≤n2:=oM;clear aZ b0 b1 b2 aW aX aD;go_wp2;refine bodyPost_ret (v:=.agg #[iV 2,iV 0,iV 0,aj,aj,aj,aj,aj]) (by simp[results,Tryz.results128,go_sem,T,U,X,Y,Z,r5,r6,r7,rf]) rfl (mO HC.out ?_);exact qS
 have cA:¬(100:Int)≤n2:=oM;have HY:Hid (kV d c=true→mX d c=⟨0,1,votV (zK d c) c.id 1⟩):=fun h=>b1.out rfl hm h
 have bn:Hid (kV d c=false→mX d c=⟨0,2,votV d c.id 2⟩):=fun h=>b2.out rfl hm h
 clear aZ b0 b1 b2 hm;have bg:Hid (bW w fun W=>RI 154 #[.agg #[iV d.idx,.slice a1 n1 c1,.slice a2 n2 c2,.slice a3 J c3,.slice a4 n4 c4,.slice a5 n5 c5],.agg #[iV c.id,.slice ax nx cx]] W (.bool (kV d c))):=aW.out;clear aW;go_wp2_with fail;obtain⟨W2,ac⟩:∃W2,W2=W1.setCell ⟨B,1,none⟩ (iV 2):=⟨_,rfl⟩
 rw[←ac];have a8:Mod (fun b=>b=B) W1 W2:=by rw[ac];exact Mod.of_set W1 ⟨B,1,none⟩ _
 replace t0:W2.cell? ⟨B,0,none⟩=some (iV 0):=by rw[ac];simp[go_sem,t0,n]
 replace t1:W2.cell? ⟨B,1,none⟩=some (iV 2):=by rw[ac];simp[go_sem,t1,n]
 replace t2:W2.cell? ⟨B,2,none⟩=some (iV d.idx):=by rw[ac];simp[go_sem,t2,n]
 replace t3:W2.cell? ⟨B,3,none⟩=some (.slice C n1 G):=by rw[ac];simp[go_sem,t3,n]
 replace t4:W2.cell? ⟨B,4,none⟩=some (.slice s2 n2 f2):=by rw[ac];simp[go_sem,t4,n]
 replace t5:W2.cell? ⟨B,5,none⟩=some (.slice A J z):=by rw[ac];simp[go_sem,t5,n]
 replace t6:W2.cell? ⟨B,6,none⟩=some (.slice D n4 H):=by rw[ac];simp[go_sem,t6,n]
 replace t7:W2.cell? ⟨B,7,none⟩=some (.slice E n5 I):=by rw[ac];simp[go_sem,t7,n]
 replace n:aq W2 B:=fun o=>by rw[ac];simp[go_sem,n]
 clear ac;have nN:w.heap.size≠B:=oM;have aF:w.heap.size+1≠B:=oM;have aG:w.heap.size+2≠B:=oM;refine kM6 a8 nN ?_ y0 y1 y2 y3 y4 y5;clear y0 y1 y2 y3 y4 y5;intro y0 y1 y2 y3 y4 y5;replace N:=a8.cell N aF;replace x1:=a8.cell x1 aF;refine kM8 a8 aG ?_ T U X Y Z r5 r6 r7;clear T U X Y Z r5 r6 r7;intro T U X Y Z r5 r6 r7;replace rf:aq W2 (w.heap.size+2):=fun o=>(a8.frz10 (a:=⟨w.heap.size+2,o,none⟩) ct aG).trans (rf o)
 have bo:aa w W2:=a8.below bl bl.size (fun b e=>by rw[e];omega);have aH:Hid (shdR.O W2 W0.heap.size F1 (.agg #[iV d.idx,.slice C n1 G,.slice s2 n2 f2,.slice A J z,.slice D n4 H,.slice E n5 I]) d):=shdR.mod b6.out a8 (fun b hb e=>aA.out (e▸hb));have d3:W1.heap.size≤W2.heap.size:=a8.size;clear a8 b6 bl;refine(bg.out W2 bo).mono ?_;rintro e w3 ⟨rfl,s⟩;have b8:aa w w3:=bS bo s;have bp:Hid (shdR.O w3 W0.heap.size F1 (.agg #[iV d.idx,.slice C n1 G,.slice s2 n2 f2,.slice A J z,.slice D n4 H,.slice E n5 I]) d):=shdR.keep aH.out s;have d4:W2.heap.size≤w3.heap.size:=s.size;have cB:B<W2.heap.size:=oM;refine kR12 s ?_ t0 t1 t2 t3 t4 t5 t6 t7 y0 y1 y2 y3;clear t0 t1 t2 t3 t4 t5 t6 t7 y0 y1 y2 y3;intro t0 t1 t2 t3 t4 t5 t6 t7 y0 y1 y2 y3;refine kR12 s ?_ y4 y5 N x1 T U X Y Z r5 r6 r7;clear y4 y5 N x1 T U X Y Z r5 r6 r7;intro y4 y5 N x1 T U X Y Z r5 r6 r7;replace n:=ai s cB n;replace rf:=ai s oM rf;clear s bg aH bo;cases b9:kV d c
 ·
  have HC:Hid _:=bn.out b9;clear bn HY aX b9;obtain⟨G2,o2,bq,LN⟩:=fF8 (d:=d) bp.out;have aM:Hid (∀(w':World) (aw:Nat→Prop) (v:Value) (ys:List Mrk),mrksR.O w' W0.heap.size aw v ys→Mod G2 w3 w'→(∀b,aw b→G2 b∨w3.heap.size≤b)→∃F',shdR.O w' W0.heap.size F' (.agg #[iV d.idx,.slice C n1 G,v,.slice A J z,.slice D n4 H,.slice E n5 I]) ⟨d.idx,d.bals,ys,d.held,d.done,d.appl⟩∧∀b,F' b→F1 b∨w3.heap.size≤b):=LN;have ab:Hid (mrksR.O w3 W0.heap.size G2 (.slice s2 n2 f2) d.votes):=o2;clear LN o2 bq;go_wp2_with fail;refine(aD.out w3 W0.heap.size G2 _ 2 ab.out).mono ?_;rintro e w9 ⟨v9,F9,rfl,o9,a0⟩;obtain⟨a9,c9,rfl⟩:=fD o9.1;obtain⟨F',o',al⟩:=aM.out w9 F9 _ _ (mrksR.base o9 oM) (Mod.of_below a0) (fun b hb=>.inr (mrksR.rng o9 b hb).1);have aN:Hid (shdRR.O w9 W0.heap.size F' (.agg #[iV 0,iV 2,iV d.idx,.slice C n1 G,.slice a9 (putM d.votes ⟨c.id,2⟩).length c9,.slice A J z,.slice D n4 H,.slice E n5 I]) ⟨0,2,votV d c.id 2⟩):=vX (d:=votV d c.id 2) 0 2 o';have br:Hid (∀b,F' b→F1 b∨w3.heap.size≤b):=al;have bs:aa w w9:=bS b8 a0;refine kR12 a0 ?_ t0 t1 t2 t3 t4 t5 t6 t7 T U X Y;clear t0 t1 t2 t3 t4 t5 t6 t7 T U X Y;intro t0 t1 t2 t3 t4 t5 t6 t7 T U X Y;refine kR4 a0 ?_ Z r5 r6 r7;clear Z r5 r6 r7;intro Z r5 r6 r7;replace n:=ai a0 oM n;replace rf:=ai a0 oM rf;generalize (putM d.votes ⟨c.id,2⟩).length=np at *;clear o9 a0 o' al aM ab aD;have bt:w.heap.size≤B:=oM;have L:w.heap.size≤w.heap.size+2:=oM;go_wp2;refine bodyPost_ret (v:=.agg #[iV 0,iV 2,iV d.idx,.slice C n1 G,.slice a9 np c9,.slice A J z,.slice D n4 H,.slice E n5 I]) (by simp[results,Tryz.results128,go_sem,T,U,X,Y,Z,r5,r6,r7,rf]) rfl ?_;rw[HC.out];refine⟨_,F',rfl,shdRR.base (vZ shdRR (fSz shdRR aN.out (fun h=>(br.out _ h).elim aA.out (fun h=>oM)) _) (fun h=>by have:=(shdRR.rng aN.out _ h).1;omega) _ _ _ _ _ _ _ _) oM,?_⟩;exact bset (p:=⟨w.heap.size+2,7,none⟩) (bset (p:=⟨w.heap.size+2,6,none⟩) (bset (p:=⟨w.heap.size+2,5,none⟩) (bset (p:=⟨w.heap.size+2,4,none⟩) (bset (p:=⟨w.heap.size+2,3,none⟩) (bset (p:=⟨w.heap.size+2,2,none⟩) (bset (p:=⟨w.heap.size+2,1,none⟩) (bset (p:=⟨w.heap.size+2,0,none⟩) (bset (p:=⟨B,4,none⟩) bs bt _) L _) L _) L _) L _) L _) L _) L _) L _
 have HC:Hid _:=HY.out b9;clear bn HY b9;go_wp2;obtain⟨W4,ad⟩:∃W4,W4=w3.setCell ⟨B,1,none⟩ (iV 1):=⟨_,rfl⟩
 rw[←ad];have am:Mod (fun b=>b=B) w3 W4:=by rw[ad];exact Mod.of_set w3 ⟨B,1,none⟩ _
 replace t0:W4.cell? ⟨B,0,none⟩=some (iV 0):=by rw[ad];simp[go_sem,t0,n]
 replace t1:W4.cell? ⟨B,1,none⟩=some (iV 1):=by rw[ad];simp[go_sem,t1,n]
 replace t2:W4.cell? ⟨B,2,none⟩=some (iV d.idx):=by rw[ad];simp[go_sem,t2,n]
 replace t3:W4.cell? ⟨B,3,none⟩=some (.slice C n1 G):=by rw[ad];simp[go_sem,t3,n]
 replace t4:W4.cell? ⟨B,4,none⟩=some (.slice s2 n2 f2):=by rw[ad];simp[go_sem,t4,n]
 replace t5:W4.cell? ⟨B,5,none⟩=some (.slice A J z):=by rw[ad];simp[go_sem,t5,n]
 replace t6:W4.cell? ⟨B,6,none⟩=some (.slice D n4 H):=by rw[ad];simp[go_sem,t6,n]
 replace t7:W4.cell? ⟨B,7,none⟩=some (.slice E n5 I):=by rw[ad];simp[go_sem,t7,n]
 replace n:aq W4 B:=fun o=>by rw[ad];simp[go_sem,n]
 clear ad;refine kM6 am nN ?_ y0 y1 y2 y3 y4 y5;clear y0 y1 y2 y3 y4 y5;intro y0 y1 y2 y3 y4 y5;replace N:=am.cell N aF;replace x1:=am.cell x1 aF;refine kM8 am aG ?_ T U X Y Z r5 r6 r7;clear T U X Y Z r5 r6 r7;intro T U X Y Z r5 r6 r7;replace rf:aq W4 (w.heap.size+2):=fun o=>(am.frz10 (a:=⟨w.heap.size+2,o,none⟩) (by dsimp only;omega) aG).trans (rf o)
 have cC:aa w W4:=am.below b8 b8.size (fun b e=>by rw[e];omega);have cc:Hid (shdR.O W4 W0.heap.size F1 (.agg #[iV d.idx,.slice C n1 G,.slice s2 n2 f2,.slice A J z,.slice D n4 H,.slice E n5 I]) d):=shdR.mod bp.out am (fun b hb e=>aA.out (e▸hb));have d5:w3.heap.size≤W4.heap.size:=am.size;clear am bp b8;go_loopw [6] (fun i w'=>∃k:Nat,k≤J∧i =.int .i64 k∧Hid (∀j,j<k→(d.held.getD j default).id<c.id)∧aa W4 w') (fun i _=>J-(intOf i).toNat)
 case atStart=>exact⟨0,oM,rfl,fun j hj=>absurd hj oM,hE⟩
 obtain⟨k,hk,rfl,HJ,ay⟩:=hrel;have bu:aa w wr:=bS cC ay;have zr:=ay.size;have cD:B<W4.heap.size:=oM;refine kR12 ay ?_ t0 t1 t2 t3 t4 t5 t6 t7 y0 y1 y2 y3;clear t0 t1 t2 t3 t4 t5 t6 t7 y0 y1 y2 y3;intro t0 t1 t2 t3 t4 t5 t6 t7 y0 y1 y2 y3;refine kR12 ay ?_ y4 y5 N x1 T U X Y Z r5 r6 r7;clear y4 y5 N x1 T U X Y Z r5 r6 r7;intro y4 y5 N x1 T U X Y Z r5 r6 r7;replace n:=ai ay cD n;replace rf:=ai ay oM rf;have HG:Hid (∃go,go=decide (k<J∧(d.held.getD k default).id<c.id)):=⟨_,rfl⟩;obtain⟨go,aO⟩:=HG.out;have ab:Hid (go=decide (k<J∧(d.held.getD k default).id<c.id)):=aO;clear HG aO;go_upto_region 10 with fail
 go_cut [44] from 29 to 46 (fun c wx=>c =.bool go∧wx=wr.drew)
 case first=>
  by_cases ba:k<J
  ·
   obtain⟨bx,ox,pp,qq,rfl,g0,_,_⟩:=HX.out k ba;replace g0:=cK bu g0;have k1:(k:Int)<J:=oM;have k2:(0:Int)≤k:=oM;clear HJ bk;generalize (d.held.getD k default).id=bv at *;by_cases cd:bv<c.id
   ·refine wp_region_noPanic ?_;refine fB (fun W=>aa wr W∧ah W w.heap.size 3 (some ⟨bx,ox,none⟩) J c3∧cI W (w.heap.size+1) 0 c.id∧cI W bx (ox+k*2) bv) 16 kF ⟨hE,cK hE y3,cK hE N,cK hE g0⟩ (fun hS=>?_);refine tX 0 ?_;refine tX 1 ?_;refine tX 2 ?_;refine tX 3 ?_;refine tX 4 (v:=.bool true) ?_;refine tX 5 ?_;refine tX 6 ?_;refine tX 7 ?_;refine tX 8 ?_;refine tX 9 ?_;refine tX 10 ?_;refine tX 11 ?_;refine tX 12 ?_;refine tX 13 ?_;refine tX 14 (v:=.bool true) ?_;refine tX 15 (v:=.bool true) ?_;refine dP ?_;clear hS;go_wp2;go_meet;exact⟨by rw[ab.out];simp[ba,cd],rfl⟩
   refine wp_region_noPanic ?_;refine fB (fun W=>aa wr W∧ah W w.heap.size 3 (some ⟨bx,ox,none⟩) J c3∧cI W (w.heap.size+1) 0 c.id∧cI W bx (ox+k*2) bv) 16 kF ⟨hE,cK hE y3,cK hE N,cK hE g0⟩ (fun hS=>?_);refine tX 0 ?_;refine tX 1 ?_;refine tX 2 ?_;refine tX 3 ?_;refine tX 4 (v:=.bool true) ?_;refine tX 5 ?_;refine tX 6 ?_;refine tX 7 ?_;refine tX 8 ?_;refine tX 9 ?_;refine tX 10 ?_;refine tX 11 ?_;refine tX 12 ?_;refine tX 13 ?_;refine tX 14 (v:=.bool false) ?_;refine tX 15 (v:=.bool false) ?_;refine dP ?_;clear hS;go_wp2;go_meet;exact⟨by rw[ab.out];simp[cd],rfl⟩
  have d6:¬(k:Int)<J:=oM;refine wp_region_noPanic ?_;refine fB (fun W=>aa wr W∧ah W w.heap.size 3 a3 J c3∧cI W (w.heap.size+1) 0 c.id) 16 kF ⟨hE,cK hE y3,cK hE N⟩ (fun hS=>?_);refine tX 0 ?_;refine tX 1 ?_;refine tX 2 ?_;refine tX 3 ?_;refine tX 4 (v:=.bool false) ?_;refine tX 5 ?_;refine sX 6 fun _=>?_
  refine sX 7 fun _=>?_
  refine sX 8 fun _=>?_
  refine sX 9 fun _=>?_
  refine sX 10 fun _=>?_
  refine sX 11 fun _=>?_
  refine sX 12 fun _=>?_
  refine sX 13 fun _=>?_
  refine sX 14 fun _=>?_
  refine tX 15 (v:=.bool false) ?_;refine dP ?_;clear hS;go_wp2;go_meet;exact⟨by rw[ab.out];simp[ba],rfl⟩
 case rest=>
  obtain⟨rfl,rfl⟩:=hcut;cases go;rotate_left
  ·
   have hh:=of_decide_eq_true ab.out.symm;have cE:Hid (∀j,j<k+1→(d.held.getD j default).id<c.id):=fun j hj=>by
    by_cases e:j=k
    ·rw[e];exact hh.2
    exact HJ.out j oM
   have ba:=hh.1;clear hh ab HJ;go_wp2;exact⟨⟨k+1,by omega,by go_num,cE,bS ay hE⟩,mI⟩
  have aO:=of_decide_eq_false ab.out.symm;have ce:Hid (putC d.held c=d.held.take k++[c]++d.held.drop k):=bk.out k hk HJ.out (fun h1=>by
   by_cases h2:(d.held.getD k default).id<c.id
   ·exact absurd ⟨h1,h2⟩ aO
   first|exact h2|omega)
  have bh:Hid (shdR.O wr W0.heap.size F1 (.agg #[iV d.idx,.slice C n1 G,.slice s2 n2 f2,.slice A J z,.slice D n4 H,.slice E n5 I]) d):=shdR.keep cc.out ay;obtain⟨G3,cF,cG,cf⟩:=xI bh.out;have bi:Hid (∀(w':World) (aw:Nat→Prop) (v:Value) (ys:List Cont),contsR.O w' W0.heap.size aw v ys→Mod G3 wr w'→(∀b,aw b→G3 b∨wr.heap.size≤b)→∃F',shdR.O w' W0.heap.size F' (.agg #[iV d.idx,.slice C n1 G,.slice s2 n2 f2,v,.slice D n4 H,.slice E n5 I]) ⟨d.idx,d.bals,d.votes,ys,d.done,d.appl⟩∧∀b,F' b→F1 b∨wr.heap.size≤b):=cf;obtain⟨cs,us,fs,hp,cg⟩:=cF;have aP:Hid (∀y ∈ cs,y.oneCell'=true):=fLb hp;have aQ:Hid (wr.ownsRow W0.heap.size 57 2 (.slice A J z) J cs):=by have h:=hp.row;rw[b7.out] at h;exact h
  have ch:Hid ((∀j,j<d.held.length→contR.O wr W0.heap.size (fs j) (us j) (d.held.getD j default))∧(∀j,j<d.held.length→(kS (us j)).length=2)∧(∀j,j<d.held.length→∀o,o<2→cs[j*2+o]? = (kS (us j))[o]?)∧(∀j k,j<d.held.length→k<d.held.length→j≠k→∀b,fs j b→¬fs k b)∧(∀j,j<d.held.length→∀b,fs j b→G3 b∧b<wr.heap.size)):=⟨hp.el,hp.ln,hp.cell,hp.sep,fun j hj b hb=>⟨(cg b).2 (.inr ⟨j,hj,hb⟩),(contR.rng (hp.el j hj) b hb).2⟩⟩;have d7:J≤z:=by
   rcases aQ.out.2 with ⟨_,h0⟩|⟨g,cap,cur,ci,_,_,cH,d8,_⟩
   ·omega
   simp only[Value.slice.injEq] at ci;obtain⟨_,_,cJ⟩:=ci;rw[cJ];exact cH
  clear cf cG hp cg bh cc HJ bk ab aO;go_wp2;have d9:(k:Int)≤z:=oM;have da:(k:Int)≤J:=oM;have bb:Hid (cs.length=J*2):=aQ.out.1;have bw:Hid (bW wr fun W=>gP W (.slice A k z) k (cs.take (k*2))):=fun W hW=>(fEi (fO aQ.out hW) hk).1
  have bz:Hid (bW wr fun W=>gP W (.slice (if z=k then A else Option.map (fun x=>x.add (k*2)) A) (J-k) (z-k)) (J-k) (cs.drop (k*2))):=fun W hW=>(fEi (fO aQ.out hW) hk).2
  have bB:Hid ((cs.take (k*2)).length=k*2):=by show _=_;rw[List.length_take,bb.out];try omega
  have bC:Hid ((cs.drop (k*2)).length=(J-k)*2):=by show _=_;rw[List.length_drop,bb.out];try omega
  have bE:Hid (∀y ∈ cs.take (k*2),y.oneCell'=true):=fun y hy=>aP.out y (List.mem_of_mem_take hy)
  have bF:Hid (∀y ∈ cs.drop (k*2),y.oneCell'=true):=fun y hy=>aP.out y (List.mem_of_mem_drop hy)
  obtain⟨P1,bG⟩:∃P,P=cs.take (k*2):=⟨_,rfl⟩
  obtain⟨P2,bH⟩:∃P,P=cs.drop (k*2):=⟨_,rfl⟩
  have bI:Hid (cs.take (k*2)=P1∧cs.drop (k*2)=P2):=⟨bG.symm,bH.symm⟩;rw[←bG] at bw bB bE;rw[←bH] at bz bC bF;clear bG bH;refine wp_region_noPanic ?_;have bc:aa wr wr.drew.drew:=hE;refine fB (fun W=>aa wr W∧ah W B 5 A J z∧cI W (w.heap.size+1) 0 c.id∧ah W (w.heap.size+1) 1 ax nx cx) 19 kF ⟨bc,cK bc t5,cK bc N,cK bc x1⟩ (fun hS=>?_);refine tY 1 ?_;refine tY 2 ?_;refine tY 3 ?_;refine tY 4 ?_;refine tY 5 ?_;refine tY 7 ?_;refine tY 11 ?_;refine tY 12 ?_;refine tY 13 ?_;refine tY 14 ?_;refine tY 15 ?_;generalize (if z=k then A else Option.map (fun x=>x.add (k*2)) A)=q0 at *;refine uS 0 rfl (fun K r=>?_);go_simp;obtain⟨w1,bd⟩:∃w1,w1=(wr.alloc (.cells #[] 57)).drew.drew:=⟨_,rfl⟩
  have o1:w1.ownsRow wr.heap.size 57 2 (.slice (some ⟨wr.heap.size,0,none⟩) 0 0) 0 []:=by
   have h:=World.ownsRow_lit (base:=wr.heap.size) (e:=57) (size:=2) wr #[] 0 (Nat.le_refl _) (by decide) rfl;rw[bd];exact fO h hE
  have ao:aa wr w1:=by rw[bd];exact hE
  rw[←bd];clear bd;refine r _ _ (fun _=>⟨ao,cK ao t5,cK ao N,cK ao x1⟩) ?_;clear r K hS;try simp only[jX]
  refine uS 6 rfl (fun K r=>?_);refine kW rfl ?_;refine fGr w1 ?hg1 (.tmp 47) (.tmp 52) ?ho1 wr.heap.size (.slice (some ⟨wr.heap.size,0,none⟩) 0 0) 0 [] ?hs1 (.slice A k z) k P1 ?hx1 o1 (bw.out w1 ao) bB.out bE.out oM ao.size ?_
  case hg1=>rfl
  case ho1=>rfl
  case hs1=>rfl
  case hx1=>rfl
  intro v2 w2 o2 m2 l2;rw[List.nil_append,Nat.zero_add] at o2;have ar:aa wr w2:=m2.below ao ao.size (fun b hb=>by simp only[Value.ownBlock,Option.some.injEq] at hb;omega);refine r _ _ (fun _=>⟨ar,cK ar t5,cK ar N,cK ar x1⟩) ?_;clear r K m2 l2 o1;have aH:Hid (w2.ownsRow wr.heap.size 57 2 v2 k P1):=o2;obtain⟨p2,q2,rfl⟩:=fD o2;clear o2;try simp only[jX]
  refine uS 8 rfl (fun K r=>?_);go_simp;refine(aX.out _ (bS bu ar)).mono ?_;rintro e au ⟨v3,aB,rfl,aR,aS⟩;obtain⟨a7,c7,rfl⟩:=xW aR;rw[cz.out] at aR ⊢;have s:aa wr au:=bS ar aS;refine r _ _ (fun _=>⟨s,cK s t5,cK s N,cK s x1⟩) ?_;clear r K;have HU:Hid (contR.O au W0.heap.size aB (.agg #[iV c.id,.slice a7 nx c7]) c):=contR.base aR (by have:=ar.size;omega);have aT:Hid (∀b,aB b→w2.heap.size≤b∧b<au.heap.size):=fun b hb=>contR.rng aR b hb
  have bj:Hid (au.ownsRow wr.heap.size 57 2 (.slice p2 k q2) k P1):=fO aH.out aS;have aU:Hid (∀b,(Value.slice p2 k q2).ownBlock=some b→wr.heap.size≤b∧b<w2.heap.size):=fun b hb=>aH.out.lt b hb
  clear aR aH;try simp only[jX]
  refine uS 9 rfl (fun K r=>?_);go_simp;obtain⟨w4,aV⟩:∃w4,w4=au.alloc (.cells #[iV c.id,.slice a7 nx c7] 57):=⟨_,rfl⟩
  rw[←aV];have ak:aa au w4:=by rw[aV];exact hE
  have v0:cI w4 au.heap.size 0 c.id:=cQ aV;have v1:ah w4 au.heap.size 1 a7 nx c7:=cQ aV;clear aV;have av:aa wr w4:=bS s ak;refine r _ _ (fun _=>⟨av,cK av t5,cK av N,cK av x1⟩) ?_;clear r K;try simp only[jX]
  refine uS 10 rfl (fun K r=>?_);refine kW rfl ?_;refine fGr w4 ?hg2 (.tmp 53) (.tmp 56) ?ho2 wr.heap.size (.slice p2 k q2) k P1 ?hs2 (.slice (some ⟨au.heap.size,0,none⟩) 1 1) 1 [iV c.id,.slice a7 nx c7] ?hx2 (fO bj.out ak) (fVl v0 v1) rfl (fun y hy=>by simp only[List.mem_cons,List.not_mem_nil,or_false] at hy;rcases hy with rfl|rfl <;> rfl) oM av.size ?_
  case hg2=>rfl
  case ho2=>rfl
  case hs2=>rfl
  case hx2=>rfl
  intro v5 w5 o5 m5 l5;have af:aa wr w5:=m5.below av av.size (fun b hb=>(aU.out b hb).1);refine r _ _ (fun _=>⟨af,cK af t5,cK af N,cK af x1⟩) ?_;clear r K;have cj:Hid (contR.O w5 W0.heap.size aB (.agg #[iV c.id,.slice a7 nx c7]) c):=contR.mod (contR.keep HU.out ak) m5 (fun b hb e=>by have:=(aU.out b e).2;have:=(aT.out b hb).1;omega);have be:Hid (∀b,v5.ownBlock=some b→wr.heap.size≤b∧¬aB b):=fun b hb=>by
   rcases l5 b hb with h|h
   ·exact⟨(aU.out b h).1,fun hf=>by have:=(aU.out b h).2;have:=(aT.out b hf).1;omega⟩
   exact⟨by have:=av.size;omega,fun hf=>by have:=(aT.out b hf).2;have:=ak.size;omega⟩
  have aC:Hid (∀b,aB b→wr.heap.size≤b∧b<w5.heap.size):=fun b hb=>by have:=aT.out b hb;have:=ar.size;have:=ak.size;have:=m5.size;omega
  have ck:Hid (w5.ownsRow wr.heap.size 57 2 v5 (k+1) (P1++[iV c.id,.slice a7 nx c7])):=o5;obtain⟨p5,q5,rfl⟩:=fD o5;clear o5 m5 l5 v0 v1 bj HU aU aT av ak s aS ar;try simp only[jX]
  refine uS 16 rfl (fun K r=>?_);refine kW rfl ?_;refine fGr w5 ?hg3 (.tmp 57) (.tmp 62) ?ho3 wr.heap.size (.slice p5 (k+1) q5) (k+1) (P1++[iV c.id,.slice a7 nx c7]) ?hs3 (.slice q0 (J-k) (z-k)) (J-k) P2 ?aY ck.out (bz.out w5 af) bC.out bF.out oM af.size ?_
  case hg3=>rfl
  case ho3=>rfl
  case hs3=>rfl
  case aY=>rfl
  intro v6 w6 o6 m6 l6;have m:aa wr w6:=m6.below af af.size (fun b hb=>(be.out b hb).1);refine r _ _ (fun _=>⟨m,cK m t5,cK m N,cK m x1⟩) ?_;clear r K;have cl:Hid (∃F',contsR.O w6 W0.heap.size F' v6 (putC d.held c)∧∀b,F' b→G3 b∨wr.heap.size≤b):=by
   obtain⟨cM,cO,bJ,cm,bK⟩:=ch.out;have cP:contR.O w6 W0.heap.size aB (.agg #[iV c.id,.slice a7 nx c7]) c:=contR.mod cj.out m6 (fun b hb e=>(be.out b e).2 hb);have bL:∀b,v6.ownBlock=some b→wr.heap.size≤b∧¬aB b:=fun b hb=>by
    rcases l6 b hb with h|h
    ·exact be.out b h
    exact⟨by have:=af.size;omega,fun hf=>by have:=(aC.out b hf).2;omega⟩
   have h6:w6.ownsRow W0.heap.size 57 2 v6 (d.held.length+1) (cs.take (k*2)++kS (.agg #[iV c.id,.slice a7 nx c7])++cs.drop (k*2)):=by
    rw[bI.out.1,bI.out.2,b7.out,show J+1=k+1+(J-k) by omega];exact qI o6 oM
   obtain⟨F',h7,h8⟩:=NO.insAt (R:=contR) (lv:=kS) (i:=k) (xs:=d.held) (x:=c) (fs:=fs) (us:=us) (cs:=cs) (fun j hj=>contR.keep (cM j hj) m) cO bJ cm (by rw[bb.out,b7.out]) (by rw[b7.out];omega) cP rfl (fun j hj b h1 h2=>by have:=(bK j hj b h1).2;have:=(aC.out b h2).1;omega) h6 (fun b hb=>⟨fun j hj h=>by have:=(bK j hj b h).2;have:=(bL b hb).1;omega,(bL b hb).2⟩);rw[ce.out];exact⟨F',h7,fun b hb=>by
    rcases h8 b hb with h|⟨j,hj,h⟩|h
    ·exact .inr (bL b h).1
    ·exact .inl (bK j hj b h).1
    exact .inr (aC.out b h).1⟩
  obtain⟨F6,bM,cn⟩:=cl.out;obtain⟨a6,c6,rfl⟩:=fM (contsR.ofO bM);obtain⟨F',o',al⟩:=bi.out w6 F6 _ _ bM (Mod.of_below m) cn;have co:Hid (shdR.O w6 W0.heap.size F' (.agg #[iV d.idx,.slice C n1 G,.slice s2 n2 f2,.slice a6 (putC d.held c).length c6,.slice D n4 H,.slice E n5 I]) (zK d c)):=o';have cR:Hid (∀b,F' b→F1 b∨wr.heap.size≤b):=al;generalize (putC d.held c).length=aI at *;clear o6 m6 l6 bM cn o' al cl bi cj be aC ck ao af ch bw bz bB bC bE bF bI aQ aP bb;try simp only[jX]
  refine uS 17 rfl (fun K r=>?_);go_simp;refine r _ _ (fun _=>⟨m,cK m t5,cK m N,cK m x1⟩) ?_;clear r K;try simp only[jX]
  refine uS 18 rfl (fun K r=>?_);go_simp;refine r _ _ (fun _=>⟨m,cK m t5,cK m N,cK m x1⟩) ?_;clear r K;refine kR12 m ?_ t0 t1 t2 t3 t4 t5 t6 t7 N x1 T U;clear t0 t1 t2 t3 t4 t5 t6 t7 N x1 T U;intro t0 t1 t2 t3 t4 t5 t6 t7 N x1 T U;refine kR6 m ?_ X Y Z r5 r6 r7;clear X Y Z r5 r6 r7;intro X Y Z r5 r6 r7;replace n:=ai m oM n;replace rf:=ai m oM rf;have cp:aa w w6:=bS bu m;have z6:=m.size;try simp only[jX]
  refine uS 19 rfl (fun K r=>?_);go_simp;refine r _ _ (fun h=>absurd rfl h) ?_;clear r K;refine dP ?_;obtain⟨W7,ae⟩:∃W7,W7=w6.setCell ⟨B,5,none⟩ (.slice a6 aI c6):=⟨_,rfl⟩
  rw[←ae];have az:Mod (fun b=>b=B) w6 W7:=by rw[ae];exact Mod.of_set w6 ⟨B,5,none⟩ _
  replace t0:W7.cell? ⟨B,0,none⟩=some (iV 0):=by rw[ae];simp[go_sem,t0,n]
  replace t1:W7.cell? ⟨B,1,none⟩=some (iV 1):=by rw[ae];simp[go_sem,t1,n]
  replace t2:W7.cell? ⟨B,2,none⟩=some (iV d.idx):=by rw[ae];simp[go_sem,t2,n]
  replace t3:W7.cell? ⟨B,3,none⟩=some (.slice C n1 G):=by rw[ae];simp[go_sem,t3,n]
  replace t4:W7.cell? ⟨B,4,none⟩=some (.slice s2 n2 f2):=by rw[ae];simp[go_sem,t4,n]
  replace t5:W7.cell? ⟨B,5,none⟩=some (.slice a6 aI c6):=by rw[ae];simp[go_sem,t5,n]
  replace t6:W7.cell? ⟨B,6,none⟩=some (.slice D n4 H):=by rw[ae];simp[go_sem,t6,n]
  replace t7:W7.cell? ⟨B,7,none⟩=some (.slice E n5 I):=by rw[ae];simp[go_sem,t7,n]
  replace n:aq W7 B:=fun o=>by rw[ae];simp[go_sem,n]
  clear ae;replace N:=az.cell N aF;replace x1:=az.cell x1 aF;refine kM8 az aG ?_ T U X Y Z r5 r6 r7;clear T U X Y Z r5 r6 r7;intro T U X Y Z r5 r6 r7;replace rf:aq W7 (w.heap.size+2):=fun o=>(az.frz10 (a:=⟨w.heap.size+2,o,none⟩) (by dsimp only;omega) aG).trans (rf o)
  have cS:aa w W7:=az.below cp cp.size (fun b e=>by rw[e];omega);have bN:¬F' B:=fun h=>(cR.out B h).elim aA.out (fun h=>oM)
  have cT:Hid (shdR.O W7 W0.heap.size F' (.agg #[iV d.idx,.slice C n1 G,.slice s2 n2 f2,.slice a6 aI c6,.slice D n4 H,.slice E n5 I]) (zK d c)):=shdR.mod co.out az (fun b hb e=>bN (e▸hb));have z7:w6.heap.size≤W7.heap.size:=az.size;clear az co aA;have aA:Hid (¬F' B):=bN;clear bN;obtain⟨G2,o2,bq,LN⟩:=fF8 (d:=(zK d c)) cT.out;have aM:Hid (∀(w':World) (aw:Nat→Prop) (v:Value) (ys:List Mrk),mrksR.O w' W0.heap.size aw v ys→Mod G2 W7 w'→(∀b,aw b→G2 b∨W7.heap.size≤b)→∃aJ,shdR.O w' W0.heap.size aJ (.agg #[iV d.idx,.slice C n1 G,v,.slice a6 aI c6,.slice D n4 H,.slice E n5 I]) ⟨d.idx,d.bals,ys,putC d.held c,d.done,d.appl⟩∧∀b,aJ b→F' b∨W7.heap.size≤b):=LN;have ab:Hid (mrksR.O W7 W0.heap.size G2 (.slice s2 n2 f2) d.votes):=o2;clear LN o2 bq;go_wp2_with fail;refine(aD.out W7 W0.heap.size G2 _ 1 ab.out).mono ?_;rintro e w9 ⟨v9,F9,rfl,o9,a0⟩;obtain⟨a9,c9,rfl⟩:=fD o9.1;obtain⟨aJ,o',al⟩:=aM.out w9 F9 _ _ (mrksR.base o9 oM) (Mod.of_below a0) (fun b hb=>.inr (mrksR.rng o9 b hb).1);have aN:Hid (shdRR.O w9 W0.heap.size aJ (.agg #[iV 0,iV 1,iV d.idx,.slice C n1 G,.slice a9 (putM d.votes ⟨c.id,1⟩).length c9,.slice a6 aI c6,.slice D n4 H,.slice E n5 I]) ⟨0,1,votV (zK d c) c.id 1⟩):=vX (d:=votV (zK d c) c.id 1) 0 1 o';have br:Hid (∀b,aJ b→F' b∨W7.heap.size≤b):=al;have bs:aa w w9:=bS cS a0;refine kR12 a0 ?_ t0 t1 t2 t3 t4 t5 t6 t7 T U X Y;clear t0 t1 t2 t3 t4 t5 t6 t7 T U X Y;intro t0 t1 t2 t3 t4 t5 t6 t7 T U X Y;refine kR4 a0 ?_ Z r5 r6 r7;clear Z r5 r6 r7;intro Z r5 r6 r7;replace n:=ai a0 oM n;replace rf:=ai a0 oM rf;generalize (putM d.votes ⟨c.id,1⟩).length=np at *;clear o9 a0 o' al aM ab aD;have bt:w.heap.size≤B:=oM;have L:w.heap.size≤w.heap.size+2:=oM;go_wp2;refine bodyPost_ret (v:=.agg #[iV 0,iV 1,iV d.idx,.slice C n1 G,.slice a9 np c9,.slice a6 aI c6,.slice D n4 H,.slice E n5 I]) (by simp[results,Tryz.results128,go_sem,T,U,X,Y,Z,r5,r6,r7,rf]) rfl ?_;rw[HC.out];refine⟨_,aJ,rfl,shdRR.base (vZ shdRR (fSz shdRR aN.out (fun h=>(br.out _ h).elim aA.out (fun h=>oM)) _) (fun h=>by have:=(shdRR.rng aN.out _ h).1;omega) _ _ _ _ _ _ _ _) oM,?_⟩;exact bset (p:=⟨w.heap.size+2,7,none⟩) (bset (p:=⟨w.heap.size+2,6,none⟩) (bset (p:=⟨w.heap.size+2,5,none⟩) (bset (p:=⟨w.heap.size+2,4,none⟩) (bset (p:=⟨w.heap.size+2,3,none⟩) (bset (p:=⟨w.heap.size+2,2,none⟩) (bset (p:=⟨w.heap.size+2,1,none⟩) (bset (p:=⟨w.heap.size+2,0,none⟩) (bset (p:=⟨B,4,none⟩) bs bt _) L _) L _) L _) L _) L _) L _) L _) L _
theorem fS3 (x y:Value) (d:Shd) (c:Cont) (w:World) (hx:shdR.V w x d) (hy:contR.V w y c) :
  cL 89 #[x,y] w (rJ w (tH d c)):=by
 have X:Hid (bW w fun W=>RI 126 #[x] W (iV (shdF d))):=fun W G=>fDw x d W (shdR.below hx G)
 have Y:Hid (bW w fun W=>shdF d=0→fA c.id c.legs=0→cL 128 #[x,y] W (rJ W (mX d c))):=fun W G h0 h1=>fU3 x y d c W (shdR.below hx G) (contR.below hy G) (xH h0) h1
 obtain⟨uy,rfl,hy⟩:=hy;have a0:Hid (bW w fun W=>RI 86 #[.agg #[iV c.id,uy]] W (iV (fA c.id c.legs))):=fun W G=>vF c.id uy c.legs W (legsR.below hy G)
 have a7:Hid (bW w fun W=>fA c.id c.legs=0→cL 127 #[.agg #[iV c.id,uy],iV d.idx] W fun e w'=>∃v,e =.returned v∧w'.ownsRow W.heap.size 168 4 v (onSh d.idx c.legs).length (gT (onSh d.idx c.legs))∧aa W w'):=fun W G j=>xZ _ _ _ _ W (legsR.below hy G) (by have:=fDk j;omega)
 obtain⟨a1,a2,a3,a4,a5,c1,c2,c3,c4,c5,rfl⟩:=fCe hx;obtain⟨ax,cx,rfl⟩:=kK hy;clear hx hy;have a8:Hid (¬shdF d=0→tH d c=errH (shdF d)):=fun h=>by unfold tH;rw[if_neg h]
 have a9:Hid (shdF d=0→¬fA c.id c.legs=0→tH d c=errH (fA c.id c.legs)):=fun h h1=>by unfold tH;rw[if_pos h,if_neg h1]
 have ab:Hid (shdF d=0→fA c.id c.legs=0→(onSh d.idx c.legs).length=0→tH d c=errH 4):=fun h h1 h2=>by unfold tH;rw[if_pos h,if_pos h1,if_pos h2]
 have ac:Hid (shdF d=0→fA c.id c.legs=0→¬(onSh d.idx c.legs).length=0→tH d c=mX d c):=fun h h1 h2=>by unfold tH;rw[if_pos h,if_pos h1,if_neg h2]
 generalize d.bals.length=n1 at *;generalize d.votes.length=n2 at *;generalize d.held.length=n3 at *;generalize d.done.length=n4 at *;generalize d.appl.length=n5 at *;generalize c.legs.length=nx at *;generalize tH d c=Z at *;generalize shdF d=sf at *;generalize fA c.id c.legs=cf at *;go_enter Tryz.func89,Tryz.ntmps89;go_wp2_with fail;refine(X.out _ hE).mono ?_;rintro e k ⟨rfl,g⟩;have ad:=bT w g;have am:=g.size;simp at am;have J:cI k w.heap.size 0 d.idx:=cK g sG;have K:ah k w.heap.size 1 a1 n1 c1:=cK g sG;have L:ah k w.heap.size 2 a2 n2 c2:=cK g sG;have M:ah k w.heap.size 3 a3 n3 c3:=cK g sG;have N:ah k w.heap.size 4 a4 n4 c4:=cK g sG;have R:ah k w.heap.size 5 a5 n5 c5:=cK g sG;have T:cI k (w.heap.size+1) 0 c.id:=cK g sG;have U:ah k (w.heap.size+1) 1 ax nx cx:=cK g sG;have m:cI k (w.heap.size+2) 0 0:=cK g sG;have n:cI k (w.heap.size+2) 1 0:=cK g sG;have p:cI k (w.heap.size+2) 2 0:=cK g sG;have q:cN k (w.heap.size+2) 3:=cK g sG;have r:cN k (w.heap.size+2) 4:=cK g sG;have s:cN k (w.heap.size+2) 5:=cK g sG;have z:cN k (w.heap.size+2) 6:=cK g sG
 have A:cN k (w.heap.size+2) 7:=cK g sG;have H:aq k (w.heap.size+2):=ap g;clear g X;by_cases l:sf=0;rotate_left
 ·
  have HC:Hid _:=a8.out l;have ae:(sf !=0)=true:=by simp[l]
  go_wp2;refine bodyPost_ret (v:=.agg #[iV sf,iV 0,iV 0,aj,aj,aj,aj,aj]) (by simp[results,Tryz.results89,go_sem,m,n,p,q,r,s,z,A,H]) rfl (mO HC.out ?_);exact qS
 have ae:(sf !=0)=false:=by simp[l]
 go_wp2_with fail;refine(a0.out _ ad).mono ?_;rintro e w2 ⟨rfl,B⟩;have af:aa w w2:=bS ad B;refine kR12 B ?_ J K L M N R T U m n p q;clear J K L M N R T U m n p q;intro J K L M N R T U m n p q;refine kR4 B ?_ r s z A;clear r s z A;intro r s z A;replace H:=ai B oM H;have ar:=B.size;clear a0 B;by_cases j:cf=0;rotate_left
 ·
  have HC:Hid (Z=errH cf):=a9.out l j;have ag:(cf !=0)=true:=by simp[j]
  go_wp2;refine bodyPost_ret (v:=.agg #[iV cf,iV 0,iV 0,aj,aj,aj,aj,aj]) (by simp[results,Tryz.results89,go_sem,m,n,p,q,r,s,z,A,H]) rfl (mO HC.out ?_);exact qS
 have ag:(cf !=0)=false:=by simp[j]
 go_wp2_with fail;refine(a7.out _ af j).mono ?_;rintro e w3 ⟨v3,rfl,o3,C⟩;obtain⟨a6,c6,rfl⟩:=fD o3;have ak:aa w w3:=bS af C;refine kR12 C ?_ J K L M N R T U m n p q;clear J K L M N R T U m n p q;intro J K L M N R T U m n p q;refine kR4 C ?_ r s z A;clear r s z A;intro r s z A;replace H:=ai C oM H;have au:=C.size;have D:Hid ((onSh d.idx c.legs).length=0→Z=errH 4):=fun h=>ab.out l j h
 have E:Hid (¬(onSh d.idx c.legs).length=0→Z=mX d c):=fun h=>ac.out l j h
 have F:Hid (bW w fun W=>cL 128 #[.agg #[iV d.idx,.slice a1 n1 c1,.slice a2 n2 c2,.slice a3 n3 c3,.slice a4 n4 c4,.slice a5 n5 c5],.agg #[iV c.id,.slice ax nx cx]] W (rJ W (mX d c))):=fun W G=>Y.out W G l j
 clear o3 a8 a9 ab ac a7 Y l j C;generalize (onSh d.idx c.legs).length=nl at *;by_cases hl:nl=0
 ·
  have HC:Hid (Z=errH 4):=D.out hl;have ao:((nl:Int)==0)=true:=by simp[hl]
  clear D E F;go_wp2;refine bodyPost_ret (v:=.agg #[iV 4,iV 0,iV 0,aj,aj,aj,aj,aj]) (by simp[results,Tryz.results89,go_sem,m,n,p,q,r,s,z,A,H]) rfl (mO HC.out ?_);exact qS
 have HC:Hid (Z=mX d c):=E.out hl;have ao:((nl:Int)==0)=false:=by simpa using hl
 clear D E;go_wp2_with fail;refine(F.out _ ak).mono ?_;rintro e w4 ⟨v4,F4,rfl,o4,I⟩;generalize mX d c=VD at *;obtain⟨cd,vt,sd⟩:=VD;obtain⟨p1,p2,p3,p4,p5,m1,m2,m3,m4,m5,q1,q2,q3,q4,q5,rfl⟩:=kR o4;have al:Hid (shdRR.O w4 w3.heap.size F4 (.agg #[iV cd,iV vt,iV sd.idx,.slice p1 m1 q1,.slice p2 m2 q2,.slice p3 m3 q3,.slice p4 m4 q4,.slice p5 m5 q5]) ⟨cd,vt,sd⟩):=o4;have av:aa w w4:=bS ak I;refine kR8 I ?_ m n p q r s z A;clear m n p q r s z A;intro m n p q r s z A;replace H:=ai I oM H;clear o4 I F;go_wp2;refine bodyPost_ret (v:=.agg #[iV cd,iV vt,iV sd.idx,.slice p1 m1 q1,.slice p2 m2 q2,.slice p3 m3 q3,.slice p4 m4 q4,.slice p5 m5 q5]) (by simp[results,Tryz.results89,go_sem,m,n,p,q,r,s,z,A,H]) rfl ?_;rw[HC.out];refine⟨_,F4,rfl,shdRR.base (vZ shdRR al.out (fun h=>by have:=(shdRR.rng al.out _ h).1;omega) _ _ _ _ _ _ _ _) oM,?_⟩;exact qS
end Go.Proofs.YtpibfdebfacooaaGreat
namespace Go.Proofs.YtpibfdebfacooaaGreat
open Go.RowKit
variable [dQ Rw] [iH Rw] [dQ Bal] [iH Bal] [dQ Ledg] [iH Ledg] [dQ Leg] [iH Leg] [dQ Cont] [iH Cont] [dQ LedgR] [iH LedgR] [dQ OutcR] [iH OutcR] [dQ Mrk] [iH Mrk] [dQ Shd] [iH Shd] [dQ ShdR] [iH ShdR]
theorem fK7 {α:Type} [Inhabited α] (f:α→Nat) (M:Nat) (xs:List α) (h:∀k,k<xs.length→f (xs.getD k default)≤M):∀k,k≤xs.length→pG f k xs≤M*k
 | 0,_=>by simp[pG]
 | k+1,hk=>by
  have ih:=fK7 f M xs h k oM;rw[xV f k xs oM];have:=h k oM;rw[Nat.mul_succ];omega
theorem fPu {xs:List Cont} (hn:xs.length≤101) (h:∀k,k<xs.length→(xs.getD k default).legs.length≤8):fDh xs≤909:=by
 have h1:=fK7 rF 8 xs (fun k d=>by have:=h k d;unfold rF fAd;omega) xs.length (Nat.le_refl _);unfold fDh wtL;omega
theorem fV3 {d:Shd} (h1:d.bals.length≤100) (h2:d.votes.length≤101) (h3:d.held.length≤101) (h4:d.done.length≤101) (h5:d.appl.length≤101) (h:∀k,k<d.held.length→(d.held.getD k default).legs.length≤8):fAt d≤2000:=by
 have:=fPu h3 h;unfold fAt qZ fDz fGu;omega
theorem fVq {xs:List Cont} {c:Cont} (h:∀k,k<xs.length→(xs.getD k default).legs.length≤8) (hc:c.legs.length≤8):∀k,k<(putC xs c).length→((putC xs c).getD k default).legs.length≤8:=fun k d=>by
 have e:=fO0 c.id xs;rw[fQp] at d;unfold putC;rw[fJr xs c _ k e];unfold insF;split
 ·exact h k oM
 split
 ·exact hc
 exact h (k-1) oM
theorem yN (c:Int):fCl (errH c)=0:=rfl
theorem fYj (d:Shd) (c:Cont):fCl (tH d c)≤2000:=by
 by_cases h0:shdF d=0
 ·
  have e:=xH h0;have hb:=(uK (pE e.base).2).len;have l:=e.ls.nv;have m:=e.ls.nh;have n:=e.ls.nd;have p:=e.ls.na;have g:∀k,k<d.held.length→(d.held.getD k default).legs.length≤8:=fun k j=>e.held.len j
  unfold tH;rw[if_pos h0];by_cases h1:fA c.id c.legs=0
  ·
   rw[if_pos h1];split
   ·rw[yN];omega
   unfold mX;split
   ·
    split
    ·rw[yN];omega
    split
    ·exact fV3 (d:=⟨d.idx,d.bals,putM d.votes ⟨c.id,1⟩,putC d.held c,d.done,d.appl⟩) (by show d.bals.length≤100;omega) (by show(putM d.votes _).length≤101;rw[fEh];omega) (by show(putC d.held c).length≤101;rw[fQp];omega) (by show d.done.length≤101;omega) (by show d.appl.length≤101;omega) (fVq g (fDk h1))
    exact fV3 (d:=⟨d.idx,d.bals,putM d.votes ⟨c.id,2⟩,d.held,d.done,d.appl⟩) (by show d.bals.length≤100;omega) (by show(putM d.votes _).length≤101;rw[fEh];omega) (by show d.held.length≤101;omega) (by show d.done.length≤101;omega) (by show d.appl.length≤101;omega) g
   exact fV3 (d:=d) oM oM oM oM oM g
  rw[if_neg h1,yN];omega
 unfold tH;rw[if_neg h0,yN];omega
theorem fS4 (x y:Value) (d:Shd) (c:Cont) (w:World) (hx:shdR.V w x d) (hy:contR.V w y c) :
  cL 89 #[x,y] w fun e w'=>∃v F,e =.returned v∧shdRR.O w' w.heap.size F v (tH d c)∧aa w w':=fS3 x y d c w hx hy
theorem fSb (x y:Value) (d:Shd) (c:Cont) (w:World) (hx:shdR.V w x d) (hy:contR.V w y c) :
  cL 145 #[x,y] w fun e w'=>∃v F,e =.returned v∧shdRR.O w' w.heap.size F v (tH d c)∧aa w w':=fSa x y d c w hx hy
end Go.Proofs.YtpibfdebfacooaaGreat
namespace Go.Proofs.YtpibfdebfacooaaGreat
open Go.Shelf
def Tryz.sortK_ren:Go.Shelf.Ren:=⟨fun|6=>242|15=>250|14=>252|28=>263|29=>264|20=>265|21=>266|22=>267|23=>268|24=>269|25=>270|26=>271|27=>272|46=>278|47=>274|48=>275|49=>279|50=>280|57=>282|n=>n,fun|22=>256|24=>254|25=>261|3=>3|39=>174|0=>0|53=>287|55=>173|4=>4|46=>281|45=>280|50=>220|5=>5|9=>9|66=>294|70=>298|76=>302|77=>303|n=>n,fun|n=>n⟩
theorem Tryz.sortK:Go.Proofs.SlLaysF0.n6 Tryz.prog Tryz.sortK_ren:={
 mixed:=kF
 f6:=⟨Tryz.f242.name,by decide,Tryz.func242.trans (congrArg some kF)⟩
 f14:=⟨Tryz.f252.name,by decide,Tryz.func252.trans (congrArg some kF)⟩
 f15:=Tryz.func250.trans (congrArg some kF)
 f20:=⟨Tryz.f265.name,by decide,Tryz.func265.trans (congrArg some kF)⟩
 f21:=⟨Tryz.f266.name,by decide,Tryz.func266.trans (congrArg some kF)⟩
 f22:=⟨Tryz.f267.name,by decide,Tryz.func267.trans (congrArg some kF)⟩
 f23:=⟨Tryz.f268.name,by decide,Tryz.func268.trans (congrArg some kF)⟩
 f24:=⟨Tryz.f269.name,by decide,Tryz.func269.trans (congrArg some kF)⟩
 f25:=⟨Tryz.f270.name,by decide,Tryz.func270.trans (congrArg some kF)⟩
 f26:=⟨Tryz.f271.name,by decide,Tryz.func271.trans (congrArg some kF)⟩
 f27:=⟨Tryz.f272.name,by decide,Tryz.func272.trans (congrArg some kF)⟩
 f28:=Tryz.func263.trans (congrArg some kF)
 f29:=Tryz.func264.trans (congrArg some kF)
 f46:=⟨Tryz.f278.name,by decide,Tryz.func278.trans (congrArg some kF)⟩
 f47:=Tryz.func274.trans (congrArg some kF)
 f48:=Tryz.func275.trans (congrArg some kF)
 f49:=⟨Tryz.f279.name,by decide,Tryz.func279.trans (congrArg some kF)⟩
 f50:=⟨Tryz.f280.name,by decide,Tryz.func280.trans (congrArg some kF)⟩
 f57:=⟨Tryz.f282.name,by decide,Tryz.func282.trans (congrArg some kF)⟩
 t0:=Tryz.underlying0
 a0:=Tryz.isAgg0
 z0:=Tryz.sizeOf0
 v0:=Tryz.zeroValue0
 t3:=Tryz.underlying3
 a3:=Tryz.isAgg3
 z3:=Tryz.sizeOf3
 v3:=Tryz.zeroValue3
 t4:=Tryz.underlying4
 a4:=Tryz.isAgg4
 z4:=Tryz.sizeOf4
 v4:=Tryz.zeroValue4
 t5:=Tryz.underlying5
 a5:=Tryz.isAgg5
 z5:=Tryz.sizeOf5
 v5:=Tryz.zeroValue5
 t9:=Tryz.underlying9
 a9:=Tryz.isAgg9
 z9:=Tryz.sizeOf9
 v9:=Tryz.zeroValue9
 t22:=Tryz.underlying256
 a22:=Tryz.isAgg256
 z22:=Tryz.sizeOf256
 v22:=Tryz.zeroValue256
 t25:=Tryz.underlying261
 a25:=Tryz.isAgg261
 z25:=Tryz.sizeOf261
 v25:=Tryz.zeroValue261
 t39:=Tryz.underlying174
 a39:=Tryz.isAgg174
 z39:=Tryz.sizeOf174
 v39:=Tryz.zeroValue174
 t45:=Tryz.underlying280
 a45:=Tryz.isAgg280
 z45:=Tryz.sizeOf280
 v45:=Tryz.zeroValue280
 t46:=Tryz.underlying281
 a46:=Tryz.isAgg281
 z46:=Tryz.sizeOf281
 v46:=Tryz.zeroValue281
 t50:=Tryz.underlying220
 a50:=Tryz.isAgg220
 z50:=Tryz.sizeOf220
 v50:=Tryz.zeroValue220
 t53:=Tryz.underlying287
 a53:=Tryz.isAgg287
 z53:=Tryz.sizeOf287
 v53:=Tryz.zeroValue287
 t55:=Tryz.underlying173
 a55:=Tryz.isAgg173
 z55:=Tryz.sizeOf173
 v55:=Tryz.zeroValue173
 t66:=Tryz.underlying294
 a66:=Tryz.isAgg294
 z66:=Tryz.sizeOf294
 v66:=Tryz.zeroValue294
 t70:=Tryz.underlying298
 a70:=Tryz.isAgg298
 z70:=Tryz.sizeOf298
 v70:=Tryz.zeroValue298
 t76:=Tryz.underlying302
 a76:=Tryz.isAgg302
 z76:=Tryz.sizeOf302
 v76:=Tryz.zeroValue302
 t77:=Tryz.underlying303
 a77:=Tryz.isAgg303
 z77:=Tryz.sizeOf303
 v77:=Tryz.zeroValue303}
end Go.Proofs.YtpibfdebfacooaaGreat
namespace Go.Proofs.YtpibfdebfacooaaGreat
open Go.RowKit Go.Sort Go.Shelf
variable [dQ Rw] [iH Rw] [dQ Bal] [iH Bal] [dQ Ledg] [iH Ledg] [dQ Leg] [iH Leg] [dQ Cont] [iH Cont]
theorem gAu:SortsK where
 some_:=fun xs g cap base W ho hb hn=>fV7 Tryz.sortK_ren Tryz.sortK rfl rfl xs g cap base W ho hb hn
 none_:=fun W=>AnyF.slices_SortFunc_none Tryz.sortK none 0 (.func (.func 229) #[] #[]) W
end Go.Proofs.YtpibfdebfacooaaGreat
namespace Go.Proofs.YtpibfdebfacooaaGreat
open Go.RowKit
theorem PO.put {α:Type} {R:Rep α} {e size:Nat} {lv:Value→List Value} {w w':World} {base:Nat} {v:Value} {n k j:Nat} {d:Nat→α} {cs cs':List Value} {us:Nat→Value} {fs:Nat→Nat→Prop} {u:Value} {x:α} {F':Nat→Prop}
  (h:PO R e size lv w base v n k d cs us fs) (hj:j<k) (hm:Mod (fun b=>v.ownBlock=some b∨fs j b) w w') (hu:R.O w' base F' u x) (hF:∀b,F' b→fs j b∨w.heap.size≤b) (hl:(lv u).length=size)
  (hr:w'.ownsRow base e size v n cs') (hold:∀i,i<k→i≠j→∀o,o<size→cs'[i*size+o]? = cs[i*size+o]?) (hnew:∀o,o<size→cs'[j*size+o]? = (lv u)[o]?) :
  PO R e size lv w' base v n k (upd d j x) cs' (upd us j u) (upd fs j F'):=by
 have z:∀b,v.ownBlock=some b→b<w.heap.size:=fun b hb=>(h.row.lt b hb).2
 have q:∀i,i<k→∀b,fs i b→b<w.heap.size:=fun i l b hb=>(R.rng (h.el i l) b hb).2
 refine⟨hr,?_,?_,?_,?_,?_⟩
 ·
  intro i l;by_cases g:i=j
  ·subst g;rw[gY,gY,gY];exact hu
  rw[upd_ne _ _ g,upd_ne _ _ g,upd_ne _ _ g];exact R.mod (h.el i l) hm (fun b hb=>by
   rintro(he|he)
   ·exact h.out i l b hb he
   exact h.sep i j l hj g b hb he)
 ·
  intro i l;by_cases g:i=j
  ·subst g;rw[gY];exact hl
  rw[upd_ne _ _ g];exact h.ln i l
 ·
  intro i l o A;by_cases g:i=j
  ·subst g;rw[gY];exact hnew o A
  rw[upd_ne _ _ g,hold i l g o A];exact h.cell i l o A
 ·
  intro i l b hb he;by_cases g:i=j
  ·
   subst g;rw[gY] at hb;rcases hF b hb with h1|h1
   ·exact h.out i l b h1 he
   have:=z b he;omega
  rw[upd_ne _ _ g] at hb;exact h.out i l b hb he
 intro i r l m p b h1 h2;by_cases g:i=j
 ·
  subst g;rw[gY] at h1;rw[upd_ne _ _ (Ne.symm p)] at h2;rcases hF b h1 with s|s
  ·exact h.sep i r l m p b s h2
  have:=q r m b h2;omega
 rw[upd_ne _ _ g] at h1;by_cases y:r=j
 ·
  subst y;rw[gY] at h2;rcases hF b h2 with s|s
  ·exact h.sep i r l m p b h1 s
  have:=q i l b h1;omega
 rw[upd_ne _ _ y] at h2;exact h.sep i r l m p b h1 h2
theorem PO.putS {α:Type} {R:Rep α} {e:Nat} {w w1 w2:World} {base g cap:Nat} {n j:Nat} {d:Nat→α} {cs:List Value} {us:Nat→Value} {fs:Nat→Nat→Prop} {u:Value} {x:α} {F':Nat→Prop}
  (h:PO R e 1 one w base (.slice (some ⟨g,0,none⟩) n cap) n n d cs us fs) (hj:j<n) (hm:Mod (fun b=>fs j b) w w1) (hu:R.O w1 base F' u x) (hF:∀b,F' b→fs j b∨w.heap.size≤b)
  (hr:w2.ownsRow base e 1 (.slice (some ⟨g,0,none⟩) n cap) n (cs.set j u)) (hm2:Mod (fun b=>b=g) w1 w2) :
  PO R e 1 one w2 base (.slice (some ⟨g,0,none⟩) n cap) n n (upd d j x) (cs.set j u) (upd us j u) (upd fs j F'):=by
 have m:cs.length=n:=by simpa using h.row.1
 have r:g<w.heap.size:=(h.row.lt g rfl).2;have k:¬F' g:=fun p=>by
  rcases hF g p with h1|h1
  ·exact h.out j hj g h1 rfl
  omega
 refine h.put hj (Mod.trans (Mod.mono hm (fun b hb=>Or.inr hb)) (Mod.mono hm2 (fun b hb=>Or.inl (by rw[hb];rfl)))) (R.mod hu hm2 (fun b hb e=>k (e▸hb))) hF rfl hr ?_ ?_
 ·intro i s l o q;obtain rfl:o=0:=oM;rw[Nat.mul_one,Nat.add_zero,List.getElem?_set_ne (Ne.symm l)]
 intro o q;obtain rfl:o=0:=oM;rw[Nat.mul_one,Nat.add_zero,List.getElem?_set_self oM];rfl
end Go.Proofs.YtpibfdebfacooaaGreat

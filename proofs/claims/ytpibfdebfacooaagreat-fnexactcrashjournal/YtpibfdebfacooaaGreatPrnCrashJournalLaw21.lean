import Derived.Test.YtpibfdebfacooaaGreatPrnCrashJournalLaw20
import Derived.Ground.SlsfProg
import Derived.Shelf.SlSortCmp.NoneTotal
set_option maxHeartbeats 16000000
set_option maxRecDepth 20000
set_option linter.unusedSimpArgs false
set_option linter.unusedVariables false
set_option linter.unusedSectionVars false
namespace Go.Proofs.YtpibfdebfacooaaGreat
open Go.RowKit
variable [dQ Rw] [iH Rw] [dQ Bal] [iH Bal] [dQ Ledg] [iH Ledg] [dQ Leg] [iH Leg] [dQ Cont] [iH Cont] [dQ LedgR] [iH LedgR] [dQ OutcR] [iH OutcR] [dQ Mrk] [iH Mrk] [dQ Shd] [iH Shd] [dQ ShdR] [iH ShdR]
attribute [local go_sem ↓] Go.wp_at_zero Go.wp_at_succ
theorem NO.insAt {α:Type} [Inhabited α] {R:Rep α} {e size:Nat} {lv:Value→List Value} {W:World} {base:Nat} {v':Value} {i:Nat} {xs:List α} {cs:List Value} {us:Nat→Value} {fs:Nat→Nat→Prop} {u:Value} {x:α} {Fu:Nat→Prop}
  (hel:∀j,j<xs.length→R.O W base (fs j) (us j) (xs.getD j default)) (hln:∀j,j<xs.length→(lv (us j)).length=size) (hcell:∀j,j<xs.length→∀o,o<size→cs[j*size+o]? = (lv (us j))[o]?) (hsep:∀j k,j<xs.length→k<xs.length→j≠k→∀b,fs j b→¬fs k b) (hcl:cs.length=xs.length*size)
  (hi:i≤xs.length) (hu:R.O W base Fu u x) (hl:(lv u).length=size) (hd:∀j,j<xs.length→∀b,fs j b→¬Fu b)
  (hr:W.ownsRow base e size v' (xs.length+1) (cs.take (i*size)++lv u++cs.drop (i*size))) (hv:∀b,v'.ownBlock=some b→(∀j,j<xs.length→¬fs j b)∧¬Fu b) :
  ∃F',NO R e size lv W base F' v' (xs.take i++[x]++xs.drop i)∧∀b,F' b→v'.ownBlock=some b∨(∃j,j<xs.length∧fs j b)∨Fu b:=by
 have him:i*size≤xs.length*size:=Nat.mul_le_mul_right _ hi;have hp:PO R e size lv W base v' (xs.length+1) (xs.length+1) (insF (fun k=>xs.getD k default) i x) (cs.take (i*size)++lv u++cs.drop (i*size)) (insF us i u) (insF fs i Fu):=by
  refine⟨hr,fun j hj=>?_,fun j hj=>?_,fun j hj o ho=>?_,fun j hj b hb=>?_,fun j k hj hk hjk b h1 h2=>?_⟩
  ·
   rcases Nat.lt_trichotomy j i with h1|h1|h1
   ·rw[qB _ _ h1,qB _ _ h1,qB _ _ h1];exact hel j oM
   ·subst h1;rw[pY,pY,pY];exact hu
   rw[qA _ _ h1,qA _ _ h1,qA _ _ h1];exact hel (j-1) oM
  ·
   rcases Nat.lt_trichotomy j i with h1|h1|h1
   ·rw[qB _ _ h1];exact hln j oM
   ·subst h1;rw[pY];exact hl
   rw[qA _ _ h1];exact hln (j-1) oM
  ·
   have ht:(cs.take (i*size)).length=i*size:=by rw[List.length_take];omega
   rw[List.append_assoc];rcases Nat.lt_trichotomy j i with h1|h1|h1
   ·
    have hlt:j*size+o<i*size:=by
     have:(j+1)*size≤i*size:=Nat.mul_le_mul_right _ h1;rw[Nat.succ_mul] at this;omega
    rw[qB _ _ h1,List.getElem?_append_left oM,List.getElem?_take,if_pos hlt];exact hcell j oM o ho
   ·subst h1;rw[pY,List.getElem?_append_right oM,ht,show j*size+o-j*size=o by omega,List.getElem?_append_left oM]
   obtain⟨q,rfl⟩:∃q,j=q+1:=⟨j-1,by omega⟩
   have hge:i*size≤q*size:=Nat.mul_le_mul_right _ oM;have e1:(q+1)*size=q*size+size:=Nat.succ_mul _ _;rw[qA _ _ h1,Nat.add_sub_cancel,List.getElem?_append_right oM,ht,List.getElem?_append_right oM,hl,List.getElem?_drop,e1,show i*size+(q*size+size+o-i*size-size)=q*size+o by omega];exact hcell q oM o ho
  ·
   intro e;obtain⟨g1,g2⟩:=hv b e;rcases Nat.lt_trichotomy j i with h1|h1|h1
   ·rw[qB _ _ h1] at hb;exact g1 j oM hb
   ·subst h1;rw[pY] at hb;exact g2 hb
   rw[qA _ _ h1] at hb;exact g1 (j-1) oM hb
  have key:∀j,j<xs.length+1→insF fs i Fu j b→(j=i∧Fu b)∨∃q,q<xs.length∧fs q b∧((j<i∧q=j)∨(i<j∧q+1=j)):=fun j hj hb=>by
   rcases Nat.lt_trichotomy j i with h1|h1|h1
   ·rw[qB _ _ h1] at hb;exact .inr ⟨j,by omega,hb,.inl ⟨h1,rfl⟩⟩
   ·subst h1;rw[pY] at hb;exact .inl ⟨rfl,hb⟩
   rw[qA _ _ h1] at hb;exact .inr ⟨j-1,by omega,hb,.inr ⟨h1,by omega⟩⟩
  rcases key j hj h1 with ⟨e1,f1⟩|⟨q,hq,f1,g1⟩
  ·
   rcases key k hk h2 with ⟨e2,f2⟩|⟨q2,hq2,f2,g2⟩
   ·omega
   exact hd q2 hq2 b f2 f1
  rcases key k hk h2 with ⟨e2,f2⟩|⟨q2,hq2,f2,g2⟩
  ·exact hd q hq b f1 f2
  exact hsep q q2 hq hq2 oM b f1 f2
 have hlen:(xs.take i++[x]++xs.drop i).length=xs.length+1:=by simp only[List.length_append,List.length_take,List.length_drop,List.length_cons,List.length_nil];omega
 refine⟨fun b=>v'.ownBlock=some b∨∃k,k<xs.length+1∧insF fs i Fu k b,⟨cs.take (i*size)++lv u++cs.drop (i*size),insF us i u,insF fs i Fu,?_,fun b=>by rw[hlen]⟩,fun b hb=>?_⟩
 ·rw[hlen];exact hp.cast (fun k hk=>fIl xs x i k hi)
 rcases hb with hb|⟨k,hk,hb⟩
 ·exact .inl hb
 rcases Nat.lt_trichotomy k i with h1|h1|h1
 ·rw[qB _ _ h1] at hb;exact .inr (.inl ⟨k,by omega,hb⟩)
 ·subst h1;rw[pY] at hb;exact .inr (.inr hb)
 rw[qA _ _ h1] at hb;exact .inr (.inl ⟨k-1,by omega,hb⟩)
theorem fTh {w:World} {B:Nat} {u0 u1:Value} (h0:w.cell? ⟨B,0,none⟩=some u0) (h1:w.cell? ⟨B,1,none⟩=some u1):gU w (.slice (some ⟨B,0,none⟩) 1 1) 1 [u0,u1]:=by
 refine .inr ⟨_,_,rfl,fun j x hj=>?_⟩;rw[fB8];match j,hj with
 | 0,hj=>simp at hj;subst hj;simpa using h0
 | 1,hj=>simp at hj;subst hj;simpa using h1
 | j+2,hj=>simp at hj
theorem fF4 (Y:World) {o:Oper} {a:Act} {K:Act→World→Prop} {Q:Exit→Act→World→Prop} (hgd:o.guard=none) (s x:Operand)
  (ho:o.op =.call {callee:=.builtin .append,args:=#[s,x],argTypes:=#[38,38]})
  (base:Nat) (v:Value) (n:Nat) (cs:List Value) (hs:a.eval s=v) (u:Value) (m:Nat) (ds:List Value) (hx:a.eval x=u)
  (hown:Y.ownsRow base 57 2 v n cs) (hsrc:gU Y u m ds) (hl:ds.length=m*2) (h1:∀y ∈ ds,y.oneCell'=true) (hlen:n+m≤1073741824) (hbase:base≤Y.heap.size)
  (h:∀v' w',w'.ownsRow base 57 2 v' (n+m) (cs++ds)→Mod (fun b=>v.ownBlock=some b) Y w'→(∀b,v'.ownBlock=some b→v.ownBlock=some b∨(Y.heap.size≤b∧b<w'.heap.size))→K (a.put o.dst v') w'):Oper.wp Tryz.prog o a Y K Q:=by
 obtain⟨i0,hi,hz0,hz1,hz2⟩:=info_parts qZ;refine fJo Y hgd s x 38 ho 57 i0 _ 2 32 Tryz.underlying38 hi hz0 hz1 hz2 rfl (by decide) (by decide) base v _ n cs hs u m ds hx ⟨hown,rfl⟩ hsrc hl h1 hlen hbase ?_;intro v' w' h1 h2 h3;exact h v' w' h1.1 h2 h3
def fF3 (base:Nat) (d:Shd) (fv:Int):Nat→(Nat→Value)→(Nat→Prop)→World→Prop
 | 1,y,F,w=>(∃s1 s2 s3 s4 s5 f1 f2 f3 f4 f5,y 8 =.agg #[.int .i64 d.idx,.slice s1 d.bals.length f1,.slice s2 d.votes.length f2,.slice s3 d.held.length f3,.slice s4 d.done.length f4,.slice s5 d.appl.length f5])∧shdR.O w base F (y 8) d
 | 6,y,_,_=>y 13 =.int .i64 fv
 | 7,y,_,_=>∃s1 s2 s3 s4 s5 f1 f2 f3 f4 f5,y 8 =.agg #[.int .i64 d.idx,.slice s1 d.bals.length f1,.slice s2 d.votes.length f2,.slice s3 d.held.length f3,.slice s4 d.done.length f4,.slice s5 d.appl.length f5]∧y 14 =.agg #[.int .i64 0,.int .i64 fv,.int .i64 d.idx,.slice s1 d.bals.length f1,.slice s2 d.votes.length f2,.slice s3 d.held.length f3,.slice s4 d.done.length f4,.slice s5 d.appl.length f5]
 | 8,y,F,w=>∃B,y 5 =.pointer (some ⟨B,0,none⟩)∧F B∧base≤B∧B<w.heap.size∧(w.cell? ⟨B,0,none⟩=some (.int .i64 0)∧w.cell? ⟨B,1,none⟩=some (.int .i64 0)∧w.cell? ⟨B,2,none⟩=some (.int .i64 0)∧w.cell? ⟨B,3,none⟩=some (.slice none 0 0)∧w.cell? ⟨B,4,none⟩=some (.slice none 0 0)∧w.cell? ⟨B,5,none⟩=some (.slice none 0 0)∧w.cell? ⟨B,6,none⟩=some (.slice none 0 0)∧w.cell? ⟨B,7,none⟩=some (.slice none 0 0))∧∀o,w.frozen? ⟨B,o,none⟩=false
 | _,_,_,_=>True
theorem fS4 (x y:Value) (d:Shd) (c:Cont) (w:World) (hx:shdR.V w x d) (hy:contR.V w y c) (hok:ShdOk d) (hcf:fA c.id c.legs=0) :
  Calls Tryz.prog 128 #[x,y] w (rP w (mX d c)):=by
 have HCp:Hid (bW w fun W=>Calls Tryz.prog 152 #[x] W fun e w'=>∃v F,e =.returned v∧shdR.O w' W.heap.size F v d∧Below W.heap.size W w'):=fun W hW=>fKp x d W (shdR.below hx hW) ⟨by have:=zT (pE hok.base).2;omega,by have:=hok.ls.nv;omega,by have:=hok.ls.nh;omega,by have:=hok.ls.nd;omega,by have:=hok.ls.na;omega⟩ (fun k hk=>by have:=hok.held.len hk;omega)
 have HRd:Hid (bW w fun W=>RI 154 #[x,y] W (.bool (kR d c))):=fun W hW=>fKr x y d c W (shdR.below hx hW) (contR.below hy hW) (tQ (pE hok.base).2) hcf hok.held
 have HCc:Hid (bW w fun W=>Calls Tryz.prog 155 #[y] W fun e w'=>∃v F,e =.returned v∧contR.O w' W.heap.size F v c∧Below W.heap.size W w'):=fun W hW=>yG y c W (contR.below hy hW) (by have:=fC2 hcf;omega)
 have HMk:Hid (∀W base F x v,mrksR.O W base F x d.votes→Calls Tryz.prog 156 #[x,.int .i64 c.id,.int .i64 v] W fun e w'=>∃u F',e =.returned u∧mrksR.O w' W.heap.size F' u (putM d.votes ⟨c.id,v⟩)∧Below W.heap.size W w'):=fun W base F x v ho=>fKq x d.votes ⟨c.id,v⟩ base F W ho (by have:=hok.ls.nv;omega)
 have HPo:Hid (∀k,k≤d.held.length→(∀j,j<k→(d.held.getD j default).id<c.id)→(k<d.held.length→¬(d.held.getD k default).id<c.id)→putC d.held c=d.held.take k++[c]++d.held.drop k):=fun k hk h1 h2=>by
  unfold putC;rw[fM7 hk h1 h2]
 have HLh:Hid (d.held.length≤100):=hok.ls.nh;obtain⟨u1,u2,u3,u4,u5,rfl,h1,h2,h3,h4,h5⟩:=hx;have HX3:Hid (∃a c,u3 =.slice a d.held.length c∧d.held.length≤c∧c≤maxLen∧∀k,k<d.held.length→∃b o p q,a=some ⟨b,o,none⟩∧w.cell? ⟨b,o+k*2,none⟩=some (.int .i64 (d.held.getD k default).id)∧w.cell? ⟨b,o+k*2+1,none⟩=some (.slice p (d.held.getD k default).legs.length q)∧contR.V w (.agg #[.int .i64 (d.held.getD k default).id,.slice p (d.held.getD k default).legs.length q]) (d.held.getD k default)):=qH h3;have HFi:Hid (bW w fun W=>RI 153 #[u2,.int .i64 c.id] W (.int .i64 (fK c.id d.votes))):=fun W hW=>rW u2 _ c.id W (mrksR.below h2 hW)
 obtain⟨a1,c1,rfl⟩:=fP h1;obtain⟨a2,c2,rfl⟩:=fF h2;obtain⟨a3,c3,rfl⟩:=fM h3;obtain⟨a4,c4,rfl⟩:=fF h4;obtain⟨a5,c5,rfl⟩:=gJ h5;obtain⟨_,_,e3,hc3,hm3,hx3⟩:=HX3.out;simp only[Value.slice.injEq,true_and] at e3;obtain⟨rfl,rfl⟩:=e3;unfold maxLen at hm3;have HX:Hid (∀k,k<d.held.length→∃b o p q,a3=some ⟨b,o,none⟩∧w.cell? ⟨b,o+k*2,none⟩=some (.int .i64 (d.held.getD k default).id)∧w.cell? ⟨b,o+k*2+1,none⟩=some (.slice p (d.held.getD k default).legs.length q)∧contR.V w (.agg #[.int .i64 (d.held.getD k default).id,.slice p (d.held.getD k default).legs.length q]) (d.held.getD k default)):=hx3;obtain⟨uy,rfl,hy⟩:=hy;obtain⟨ax,cx,rfl⟩:=kP hy;clear h1 h2 h3 h4 h5 hy HX3 hx3 hok hcf;have h3n:d.held.length≤100:=HLh.out;have HE2:Hid (¬fK c.id d.votes=0→mX d c=⟨0,fK c.id d.votes,d⟩):=fun h=>fH8 h
 have HE3:Hid (fK c.id d.votes=0→100≤d.votes.length→mX d c=errH 2):=fun h h1=>fF2 h h1
 have HE4:Hid (fK c.id d.votes=0→¬100≤d.votes.length→kR d c=true→mX d c=⟨0,1,votV (yS d c) c.id 1⟩):=fun h h1 h2=>fH9 h h1 h2
 have HE5:Hid (fK c.id d.votes=0→¬100≤d.votes.length→kR d c=false→mX d c=⟨0,2,votV d c.id 2⟩):=fun h h1 h2=>fLm h h1 h2
 clear HLh;generalize fK c.id d.votes=fv at *;go_enter Tryz.func128,Tryz.ntmps128;go_wp2;obtain⟨wq,hwq⟩:∃wq,wq=((w.alloc (.cells #[.int .i64 d.idx,.slice a1 d.bals.length c1,.slice a2 d.votes.length c2,.slice a3 d.held.length c3,.slice a4 d.done.length c4,.slice a5 d.appl.length c5] 41)).alloc (.cells #[.int .i64 c.id,.slice ax c.legs.length cx] 57)).alloc (.cells #[.int .i64 0,.int .i64 0,.int .i64 0,.slice none 0 0,.slice none 0 0,.slice none 0 0,.slice none 0 0,.slice none 0 0] 76):=⟨_,rfl⟩
 have y0:wq.cell? ⟨w.heap.size,0,none⟩=some (.int .i64 d.idx):=by rw[hwq];simp[go_sem]
 have y1:wq.cell? ⟨w.heap.size,1,none⟩=some (.slice a1 d.bals.length c1):=by rw[hwq];simp[go_sem]
 have y2:wq.cell? ⟨w.heap.size,2,none⟩=some (.slice a2 d.votes.length c2):=by rw[hwq];simp[go_sem]
 have y3:wq.cell? ⟨w.heap.size,3,none⟩=some (.slice a3 d.held.length c3):=by rw[hwq];simp[go_sem]
 have y4:wq.cell? ⟨w.heap.size,4,none⟩=some (.slice a4 d.done.length c4):=by rw[hwq];simp[go_sem]
 have y5:wq.cell? ⟨w.heap.size,5,none⟩=some (.slice a5 d.appl.length c5):=by rw[hwq];simp[go_sem]
 have x0:wq.cell? ⟨w.heap.size+1,0,none⟩=some (.int .i64 c.id):=by rw[hwq];simp[go_sem]
 have x1:wq.cell? ⟨w.heap.size+1,1,none⟩=some (.slice ax c.legs.length cx):=by rw[hwq];simp[go_sem]
 have r0:wq.cell? ⟨w.heap.size+2,0,none⟩=some (.int .i64 0):=by rw[hwq];simp[go_sem]
 have r1:wq.cell? ⟨w.heap.size+2,1,none⟩=some (.int .i64 0):=by rw[hwq];simp[go_sem]
 have r2:wq.cell? ⟨w.heap.size+2,2,none⟩=some (.int .i64 0):=by rw[hwq];simp[go_sem]
 have r3:wq.cell? ⟨w.heap.size+2,3,none⟩=some (.slice none 0 0):=by rw[hwq];simp[go_sem]
 have r4:wq.cell? ⟨w.heap.size+2,4,none⟩=some (.slice none 0 0):=by rw[hwq];simp[go_sem]
 have r5:wq.cell? ⟨w.heap.size+2,5,none⟩=some (.slice none 0 0):=by rw[hwq];simp[go_sem]
 have r6:wq.cell? ⟨w.heap.size+2,6,none⟩=some (.slice none 0 0):=by rw[hwq];simp[go_sem]
 have r7:wq.cell? ⟨w.heap.size+2,7,none⟩=some (.slice none 0 0):=by rw[hwq];simp[go_sem]
 have rf:∀o,wq.frozen? ⟨w.heap.size+2,o,none⟩=false:=fun o=>by rw[hwq];simp[go_sem]
 have hBq:Below w.heap.size w wq:=by rw[hwq];exact qBq
 have zq:w.heap.size+2<wq.heap.size:=by rw[hwq];simp
 rw[←hwq];clear hwq;refine wp_region_noPanic ?_;refine fB (fun W=>Below wq.heap.size wq W∧W.cell? ⟨w.heap.size,0,none⟩=some (.int .i64 d.idx)∧W.cell? ⟨w.heap.size,1,none⟩=some (.slice a1 d.bals.length c1)∧W.cell? ⟨w.heap.size,2,none⟩=some (.slice a2 d.votes.length c2)∧W.cell? ⟨w.heap.size,3,none⟩=some (.slice a3 d.held.length c3)∧W.cell? ⟨w.heap.size,4,none⟩=some (.slice a4 d.done.length c4)∧W.cell? ⟨w.heap.size,5,none⟩=some (.slice a5 d.appl.length c5)∧W.cell? ⟨w.heap.size+1,0,none⟩=some (.int .i64 c.id)) 9 kF ⟨qBq,cK qBq y0,cK qBq y1,cK qBq y2,cK qBq y3,cK qBq y4,cK qBq y5,cK qBq x0⟩ (fun hS=>?_);refine tY 0 ?_;refine tY 2 ?_;refine tY 3 ?_;refine tY 4 ?_;refine tY 5 ?_;have hb0:Below wq.heap.size wq wq.drew:=Below.drew (bR _ _);generalize wq.drew=W0 at *;have hs10:=hb0.size;have hz0:w.heap.size+2<W0.heap.size:=oM;refine fAd [(1,8),(6,13),(7,14),(8,5)] (fun _=>[]) (fF3 W0.heap.size d fv) kF hS ?_ ?_ ?_ ?_
 ·
  intro F W W' h hm hF;have hne:¬F w.heap.size:=fun e=>by have:=hF _ e;omega
  have hne1:¬F (w.heap.size+1):=fun e=>by have:=hF _ e;omega
  exact⟨hm.below h.1 h.1.size (fun b hb=>by have:=hF b hb;omega),hm.cell h.2.1 hne,hm.cell h.2.2.1 hne,hm.cell h.2.2.2.1 hne,hm.cell h.2.2.2.2.1 hne,hm.cell h.2.2.2.2.2.1 hne,hm.cell h.2.2.2.2.2.2.1 hne,hm.cell h.2.2.2.2.2.2.2 hne1⟩
 ·
  intro p hp;simp only[List.mem_cons,List.not_mem_nil,or_false] at hp;rcases hp with rfl|rfl|rfl|rfl
  all_goals
   intro y y' F F' W W' h hF hm hap hF' e he
  ·simp only[fF3] at h ⊢;rw[e];exact⟨h.1,shdR.mod h.2 hm (fun b hb hf=>hap b hf hb)⟩
  ·simp only[fF3] at h ⊢;rw[e];exact h
  ·have e1:=he (1,8) (by simp) kF;simp only[fF3] at h ⊢;rw[e,e1];exact h
  simp only[fF3] at h ⊢;rw[e];obtain⟨B,h1,h2,h3,h3',⟨g0,g1,g2,g3,g4,g5,g6,g7⟩,h4⟩:=h;have hne:¬F' B:=fun hf=>hap B hf h2
  exact⟨B,h1,h2,h3,Nat.lt_of_lt_of_le h3' hm.size,⟨hm.cell g0 hne,hm.cell g1 hne,hm.cell g2 hne,hm.cell g3 hne,hm.cell g4 hne,hm.cell g5 hne,hm.cell g6 hne,hm.cell g7 hne⟩,fun o=>(hm.frz10 (a:=⟨B,o,none⟩) h3' hne).trans (h4 o)⟩
 ·
  intro p hp;simp only[List.mem_cons,List.not_mem_nil,or_false] at hp;rcases hp with rfl|rfl|rfl|rfl
  all_goals
   refine⟨_,rfl,rfl,?_⟩;intro y W Φ hSW hBW hd K hK
  ·clear hd;refine⟨?_⟩;simp only[over,jX,lZ] at hK ⊢;go_simp;refine(HCp.out _ (bS hBq hSW.1)).mono ?_;rintro e w' ⟨v,F,rfl,o3,hb3⟩;refine hK _ _ F (Mod.of_below hb3) (fun b hb=>.inr (shdR.rng o3 b hb)) ?_;simp only[fF3,updV];obtain⟨s1,s2,s3,s4,s5,f1,f2,f3,f4,f5,hv⟩:=mF o3;exact⟨⟨s1,s2,s3,s4,s5,f1,f2,f3,f4,f5,by simpa using hv⟩,by simpa using shdR.base o3 hBW.size⟩
  ·clear hd;refine⟨?_⟩;simp only[over,jX,lZ] at hK ⊢;go_simp;refine(HFi.out _ (bS hBq hSW.1)).mono ?_;rintro e w' ⟨rfl,hb3⟩;refine hK _ _ (fun _=>False) (Mod.of_below hb3) (fun b hb=>hb.elim) ?_;simp only[fF3,updV];rfl
  ·have g1:=(hd (1,8) (by simp) kF (.inr (by simp))).2;have g6:=(hd (6,13) (by simp) kF (.inr (by simp))).2;clear hd;simp only[fF3] at g1 g6;obtain⟨⟨s1,s2,s3,s4,s5,f1,f2,f3,f4,f5,e1⟩,_⟩:=g1;refine⟨?_⟩;simp only[over,jX,lZ] at hK ⊢;simp only[e1,g6] at hK ⊢;go_simp;refine hK _ _ (fun _=>False) (Mod.refl _ _) (fun b hb=>hb.elim) ?_;simp only[fF3,updV];exact⟨s1,s2,s3,s4,s5,f1,f2,f3,f4,f5,by simp[e1],by simp⟩
  clear hd;have hbw:=hBW.size;refine⟨?_⟩;simp only[over,jX,lZ] at hK ⊢;go_simp;refine hK _ _ (fun b=>b=W.heap.size) (Mod.of_below qBq) (fun b hb=>.inr (by rw[hb];simp)) ?_;simp only[fF3,updV];exact⟨W.heap.size,by simp,rfl,hbw,by simp,⟨sG,by simp[go_sem],sG,by simp[go_sem],sG,by simp[go_sem],sG,by simp[go_sem]⟩,fun o=>sG⟩
 refine⟨_,rfl,?_⟩;intro y W Φ hSW hBW hd hap K hK;have g1:=(hd (1,8) (by simp) (by simp)).2;have g7:=(hd (7,14) (by simp) (by simp)).2;have g8:=(hd (8,5) (by simp) (by simp)).2;have p18:=hap (1,8) (by simp) (8,5) (by simp) (by simp) (by simp) (by simp);clear hd hap;simp only[fF3] at g1 g7 g8;obtain⟨_,o1⟩:=g1;obtain⟨s1,s2,s3,s4,s5,f1,f2,f3,f4,f5,e8,e14⟩:=g7;obtain⟨B,eB,hFB,hBlo,hBhi,⟨k0,k1,k2,k3,k4,k5,k6,k7⟩,kf⟩:=g8;rw[e8] at o1;have hBW1:Below wq.heap.size wq W:=bS hb0 hBW;generalize Φ 1=F1 at *;have nB:¬F1 B:=fun h=>p18 B h hFB
 clear hFB p18 e8;refine⟨?_⟩;simp only[over,jX,lZ];simp only[e14,eB];clear e14 eB hSW hS;go_simp;refine hK _ _ ?_;clear hK K;refine NoPanic.normal ?_;have hmB:Mod (fun b=>b=B) W ((((((((W.setCell ⟨B,0,none⟩ (.int .i64 0)).setCell ⟨B,1,none⟩ (.int .i64 fv)).setCell ⟨B,2,none⟩ (.int .i64 d.idx)).setCell ⟨B,3,none⟩ (.slice s1 d.bals.length f1)).setCell ⟨B,4,none⟩ (.slice s2 d.votes.length f2)).setCell ⟨B,5,none⟩ (.slice s3 d.held.length f3)).setCell ⟨B,6,none⟩ (.slice s4 d.done.length f4)).setCell ⟨B,7,none⟩ (.slice s5 d.appl.length f5)):=(((((((Mod.of_set W ⟨B,0,none⟩ _).trans (Mod.of_set _ ⟨B,1,none⟩ _)).trans (Mod.of_set _ ⟨B,2,none⟩ _)).trans (Mod.of_set _ ⟨B,3,none⟩ _)).trans (Mod.of_set _ ⟨B,4,none⟩ _)).trans (Mod.of_set _ ⟨B,5,none⟩ _)).trans (Mod.of_set _ ⟨B,6,none⟩ _)).trans (Mod.of_set _ ⟨B,7,none⟩ _);have t0:((((((((W.setCell ⟨B,0,none⟩ (.int .i64 0)).setCell ⟨B,1,none⟩ (.int .i64 fv)).setCell ⟨B,2,none⟩ (.int .i64 d.idx)).setCell ⟨B,3,none⟩ (.slice s1 d.bals.length f1)).setCell ⟨B,4,none⟩ (.slice s2 d.votes.length f2)).setCell ⟨B,5,none⟩ (.slice s3 d.held.length f3)).setCell ⟨B,6,none⟩ (.slice s4 d.done.length f4)).setCell ⟨B,7,none⟩ (.slice s5 d.appl.length f5)).cell? ⟨B,0,none⟩=some (.int .i64 0):=by simp[go_sem,k0,k1,k2,k3,k4,k5,k6,k7,kf]
 have t1:((((((((W.setCell ⟨B,0,none⟩ (.int .i64 0)).setCell ⟨B,1,none⟩ (.int .i64 fv)).setCell ⟨B,2,none⟩ (.int .i64 d.idx)).setCell ⟨B,3,none⟩ (.slice s1 d.bals.length f1)).setCell ⟨B,4,none⟩ (.slice s2 d.votes.length f2)).setCell ⟨B,5,none⟩ (.slice s3 d.held.length f3)).setCell ⟨B,6,none⟩ (.slice s4 d.done.length f4)).setCell ⟨B,7,none⟩ (.slice s5 d.appl.length f5)).cell? ⟨B,1,none⟩=some (.int .i64 fv):=by simp[go_sem,k0,k1,k2,k3,k4,k5,k6,k7,kf]
 have t2:((((((((W.setCell ⟨B,0,none⟩ (.int .i64 0)).setCell ⟨B,1,none⟩ (.int .i64 fv)).setCell ⟨B,2,none⟩ (.int .i64 d.idx)).setCell ⟨B,3,none⟩ (.slice s1 d.bals.length f1)).setCell ⟨B,4,none⟩ (.slice s2 d.votes.length f2)).setCell ⟨B,5,none⟩ (.slice s3 d.held.length f3)).setCell ⟨B,6,none⟩ (.slice s4 d.done.length f4)).setCell ⟨B,7,none⟩ (.slice s5 d.appl.length f5)).cell? ⟨B,2,none⟩=some (.int .i64 d.idx):=by simp[go_sem,k0,k1,k2,k3,k4,k5,k6,k7,kf]
 have t3:((((((((W.setCell ⟨B,0,none⟩ (.int .i64 0)).setCell ⟨B,1,none⟩ (.int .i64 fv)).setCell ⟨B,2,none⟩ (.int .i64 d.idx)).setCell ⟨B,3,none⟩ (.slice s1 d.bals.length f1)).setCell ⟨B,4,none⟩ (.slice s2 d.votes.length f2)).setCell ⟨B,5,none⟩ (.slice s3 d.held.length f3)).setCell ⟨B,6,none⟩ (.slice s4 d.done.length f4)).setCell ⟨B,7,none⟩ (.slice s5 d.appl.length f5)).cell? ⟨B,3,none⟩=some (.slice s1 d.bals.length f1):=by simp[go_sem,k0,k1,k2,k3,k4,k5,k6,k7,kf]
 have t4:((((((((W.setCell ⟨B,0,none⟩ (.int .i64 0)).setCell ⟨B,1,none⟩ (.int .i64 fv)).setCell ⟨B,2,none⟩ (.int .i64 d.idx)).setCell ⟨B,3,none⟩ (.slice s1 d.bals.length f1)).setCell ⟨B,4,none⟩ (.slice s2 d.votes.length f2)).setCell ⟨B,5,none⟩ (.slice s3 d.held.length f3)).setCell ⟨B,6,none⟩ (.slice s4 d.done.length f4)).setCell ⟨B,7,none⟩ (.slice s5 d.appl.length f5)).cell? ⟨B,4,none⟩=some (.slice s2 d.votes.length f2):=by simp[go_sem,k0,k1,k2,k3,k4,k5,k6,k7,kf]
 have t5:((((((((W.setCell ⟨B,0,none⟩ (.int .i64 0)).setCell ⟨B,1,none⟩ (.int .i64 fv)).setCell ⟨B,2,none⟩ (.int .i64 d.idx)).setCell ⟨B,3,none⟩ (.slice s1 d.bals.length f1)).setCell ⟨B,4,none⟩ (.slice s2 d.votes.length f2)).setCell ⟨B,5,none⟩ (.slice s3 d.held.length f3)).setCell ⟨B,6,none⟩ (.slice s4 d.done.length f4)).setCell ⟨B,7,none⟩ (.slice s5 d.appl.length f5)).cell? ⟨B,5,none⟩=some (.slice s3 d.held.length f3):=by simp[go_sem,k0,k1,k2,k3,k4,k5,k6,k7,kf]
 have t6:((((((((W.setCell ⟨B,0,none⟩ (.int .i64 0)).setCell ⟨B,1,none⟩ (.int .i64 fv)).setCell ⟨B,2,none⟩ (.int .i64 d.idx)).setCell ⟨B,3,none⟩ (.slice s1 d.bals.length f1)).setCell ⟨B,4,none⟩ (.slice s2 d.votes.length f2)).setCell ⟨B,5,none⟩ (.slice s3 d.held.length f3)).setCell ⟨B,6,none⟩ (.slice s4 d.done.length f4)).setCell ⟨B,7,none⟩ (.slice s5 d.appl.length f5)).cell? ⟨B,6,none⟩=some (.slice s4 d.done.length f4):=by simp[go_sem,k0,k1,k2,k3,k4,k5,k6,k7,kf]
 have t7:((((((((W.setCell ⟨B,0,none⟩ (.int .i64 0)).setCell ⟨B,1,none⟩ (.int .i64 fv)).setCell ⟨B,2,none⟩ (.int .i64 d.idx)).setCell ⟨B,3,none⟩ (.slice s1 d.bals.length f1)).setCell ⟨B,4,none⟩ (.slice s2 d.votes.length f2)).setCell ⟨B,5,none⟩ (.slice s3 d.held.length f3)).setCell ⟨B,6,none⟩ (.slice s4 d.done.length f4)).setCell ⟨B,7,none⟩ (.slice s5 d.appl.length f5)).cell? ⟨B,7,none⟩=some (.slice s5 d.appl.length f5):=by simp[go_sem,k0,k1,k2,k3,k4,k5,k6,k7,kf]
 have tf:∀o,((((((((W.setCell ⟨B,0,none⟩ (.int .i64 0)).setCell ⟨B,1,none⟩ (.int .i64 fv)).setCell ⟨B,2,none⟩ (.int .i64 d.idx)).setCell ⟨B,3,none⟩ (.slice s1 d.bals.length f1)).setCell ⟨B,4,none⟩ (.slice s2 d.votes.length f2)).setCell ⟨B,5,none⟩ (.slice s3 d.held.length f3)).setCell ⟨B,6,none⟩ (.slice s4 d.done.length f4)).setCell ⟨B,7,none⟩ (.slice s5 d.appl.length f5)).frozen? ⟨B,o,none⟩=false:=fun o=>by simp[go_sem,kf]
 have zB:B<((((((((W.setCell ⟨B,0,none⟩ (.int .i64 0)).setCell ⟨B,1,none⟩ (.int .i64 fv)).setCell ⟨B,2,none⟩ (.int .i64 d.idx)).setCell ⟨B,3,none⟩ (.slice s1 d.bals.length f1)).setCell ⟨B,4,none⟩ (.slice s2 d.votes.length f2)).setCell ⟨B,5,none⟩ (.slice s3 d.held.length f3)).setCell ⟨B,6,none⟩ (.slice s4 d.done.length f4)).setCell ⟨B,7,none⟩ (.slice s5 d.appl.length f5)).heap.size:=by simpa using hBhi
 generalize (((((((W.setCell ⟨B,0,none⟩ (.int .i64 0)).setCell ⟨B,1,none⟩ (.int .i64 fv)).setCell ⟨B,2,none⟩ (.int .i64 d.idx)).setCell ⟨B,3,none⟩ (.slice s1 d.bals.length f1)).setCell ⟨B,4,none⟩ (.slice s2 d.votes.length f2)).setCell ⟨B,5,none⟩ (.slice s3 d.held.length f3)).setCell ⟨B,6,none⟩ (.slice s4 d.done.length f4)).setCell ⟨B,7,none⟩ (.slice s5 d.appl.length f5)=W1 at *;have HO1:Hid (shdR.O W1 W0.heap.size F1 (.agg #[.int .i64 d.idx,.slice s1 d.bals.length f1,.slice s2 d.votes.length f2,.slice s3 d.held.length f3,.slice s4 d.done.length f4,.slice s5 d.appl.length f5]) d):=shdR.mod o1 hmB (fun b hb e=>nB (e▸hb));have HNB:Hid (¬F1 B):=nB;have hB1q:Below wq.heap.size wq W1:=hmB.below hBW1 hBW1.size (fun b e=>by rw[e];omega);have zW01:W0.heap.size≤W1.heap.size:=Nat.le_trans hBW.size hmB.size;clear o1 nB hmB k0 k1 k2 k3 k4 k5 k6 k7 kf hBhi hBW hBW1;replace y0:=cK hB1q y0;replace y1:=cK hB1q y1;replace y2:=cK hB1q y2;replace y3:=cK hB1q y3;replace y4:=cK hB1q y4;replace y5:=cK hB1q y5;replace x0:=cK hB1q x0;replace x1:=cK hB1q x1;replace r0:=cK hB1q r0;replace r1:=cK hB1q r1;replace r2:=cK hB1q r2;replace r3:=cK hB1q r3;replace r4:=cK hB1q r4;replace r5:=cK hB1q r5;replace r6:=cK hB1q r6;replace r7:=cK hB1q r7;replace rf:∀o,W1.frozen? ⟨w.heap.size+2,o,none⟩=false:=fun o=>by rw[(bcell hB1q).2 _ _ zq];exact rf o
 have hB1:Below w.heap.size w W1:=bS hBq hB1q;have zW1:w.heap.size+2<W1.heap.size:=by have:=hB1q.size;omega
 have hNR:w.heap.size+2<B:=oM;clear hB1q HCp HFi hBq;generalize hn1:d.bals.length=n1 at *;generalize hn2:d.votes.length=n2 at *;generalize hn3:d.held.length=n3 at *;generalize hn4:d.done.length=n4 at *;generalize hn5:d.appl.length=n5 at *;have HN3:Hid (d.held.length=n3):=hn3;clear hn1 hn2 hn3 hn4 hn5;generalize hnx:c.legs.length=nx at *;have HNx:Hid (c.legs.length=nx):=hnx;clear hnx;by_cases hfv:fv=0;rotate_left
 ·
  have HC:Hid _:=HE2.out hfv;have hfv':(fv !=0)=true:=by simp[hfv]
  clear HE2 HE3 HE4 HE5 HRd HCc HMk;go_wp2;refine bodyPost_ret (v:=.agg #[.int .i64 0,.int .i64 fv,.int .i64 d.idx,.slice s1 n1 f1,.slice s2 n2 f2,.slice s3 n3 f3,.slice s4 n4 f4,.slice s5 n5 f5]) (by simp[results,Tryz.results128,go_sem,r0,r1,r2,r3,r4,r5,r6,r7,rf]) rfl ?_;rw[HC.out];refine⟨_,F1,rfl,shdRR.base (vD shdRR (uZ 0 fv HO1.out) (fun h=>by have:=(shdR.rng HO1.out _ h).1;omega) _ _ _ _ _ _ _ _) oM,?_⟩;exact qS
 subst hfv;by_cases hm:100≤n2
 ·have HC:Hid (mX d c=errH 2):=HE3.out rfl hm;have hm2:(100:Int)≤n2:=oM;clear HE2 HE3 HE4 HE5 HRd HCc HMk;go_wp2;refine bodyPost_ret (v:=.agg #[.int .i64 2,.int .i64 0,.int .i64 0,.slice none 0 0,.slice none 0 0,.slice none 0 0,.slice none 0 0,.slice none 0 0]) (by simp[results,Tryz.results128,go_sem,r0,r1,r2,r3,r4,r5,r6,r7,rf]) rfl (mJ HC.out ?_);exact qS
 have hm2:¬(100:Int)≤n2:=oM;have HY:Hid (kR d c=true→mX d c=⟨0,1,votV (yS d c) c.id 1⟩):=fun h=>HE4.out rfl hm h
 have HNo:Hid (kR d c=false→mX d c=⟨0,2,votV d c.id 2⟩):=fun h=>HE5.out rfl hm h
 clear HE2 HE3 HE4 HE5 hm;have HRd2:Hid (bW w fun W=>RI 154 #[.agg #[.int .i64 d.idx,.slice a1 n1 c1,.slice a2 n2 c2,.slice a3 n3 c3,.slice a4 n4 c4,.slice a5 n5 c5],.agg #[.int .i64 c.id,.slice ax nx cx]] W (.bool (kR d c))):=HRd.out;clear HRd;go_wp2_with fail;obtain⟨W2,hW2⟩:∃W2,W2=W1.setCell ⟨B,1,none⟩ (.int .i64 2):=⟨_,rfl⟩
 rw[←hW2];have hm12:Mod (fun b=>b=B) W1 W2:=by rw[hW2];exact Mod.of_set W1 ⟨B,1,none⟩ _
 replace t0:W2.cell? ⟨B,0,none⟩=some (.int .i64 0):=by rw[hW2];simp[go_sem,t0,tf]
 replace t1:W2.cell? ⟨B,1,none⟩=some (.int .i64 2):=by rw[hW2];simp[go_sem,t1,tf]
 replace t2:W2.cell? ⟨B,2,none⟩=some (.int .i64 d.idx):=by rw[hW2];simp[go_sem,t2,tf]
 replace t3:W2.cell? ⟨B,3,none⟩=some (.slice s1 n1 f1):=by rw[hW2];simp[go_sem,t3,tf]
 replace t4:W2.cell? ⟨B,4,none⟩=some (.slice s2 n2 f2):=by rw[hW2];simp[go_sem,t4,tf]
 replace t5:W2.cell? ⟨B,5,none⟩=some (.slice s3 n3 f3):=by rw[hW2];simp[go_sem,t5,tf]
 replace t6:W2.cell? ⟨B,6,none⟩=some (.slice s4 n4 f4):=by rw[hW2];simp[go_sem,t6,tf]
 replace t7:W2.cell? ⟨B,7,none⟩=some (.slice s5 n5 f5):=by rw[hW2];simp[go_sem,t7,tf]
 replace tf:∀o,W2.frozen? ⟨B,o,none⟩=false:=fun o=>by rw[hW2];simp[go_sem,tf]
 clear hW2;have nN:w.heap.size≠B:=oM;have nN1:w.heap.size+1≠B:=oM;have nN2:w.heap.size+2≠B:=oM;replace y0:=hm12.cell y0 nN;replace y1:=hm12.cell y1 nN;replace y2:=hm12.cell y2 nN;replace y3:=hm12.cell y3 nN;replace y4:=hm12.cell y4 nN;replace y5:=hm12.cell y5 nN;replace x0:=hm12.cell x0 nN1;replace x1:=hm12.cell x1 nN1;replace r0:=hm12.cell r0 nN2;replace r1:=hm12.cell r1 nN2;replace r2:=hm12.cell r2 nN2;replace r3:=hm12.cell r3 nN2;replace r4:=hm12.cell r4 nN2;replace r5:=hm12.cell r5 nN2;replace r6:=hm12.cell r6 nN2;replace r7:=hm12.cell r7 nN2;replace rf:∀o,W2.frozen? ⟨w.heap.size+2,o,none⟩=false:=fun o=>(hm12.frz10 (a:=⟨w.heap.size+2,o,none⟩) zW1 nN2).trans (rf o)
 have hB2:Below w.heap.size w W2:=hm12.below hB1 hB1.size (fun b e=>by rw[e];omega);have HO2:Hid (shdR.O W2 W0.heap.size F1 (.agg #[.int .i64 d.idx,.slice s1 n1 f1,.slice s2 n2 f2,.slice s3 n3 f3,.slice s4 n4 f4,.slice s5 n5 f5]) d):=shdR.mod HO1.out hm12 (fun b hb e=>HNB.out (e▸hb));have zW2:W1.heap.size≤W2.heap.size:=hm12.size;clear hm12 HO1 hB1;refine(HRd2.out W2 hB2).mono ?_;rintro e w3 ⟨rfl,hb3⟩;have hB3:Below w.heap.size w w3:=bS hB2 hb3;have HO3:Hid (shdR.O w3 W0.heap.size F1 (.agg #[.int .i64 d.idx,.slice s1 n1 f1,.slice s2 n2 f2,.slice s3 n3 f3,.slice s4 n4 f4,.slice s5 n5 f5]) d):=shdR.keep HO2.out hb3;have zW3:W2.heap.size≤w3.heap.size:=hb3.size;have zB2:B<W2.heap.size:=oM;replace t0:=cK hb3 t0;replace t1:=cK hb3 t1;replace t2:=cK hb3 t2;replace t3:=cK hb3 t3;replace t4:=cK hb3 t4;replace t5:=cK hb3 t5;replace t6:=cK hb3 t6;replace t7:=cK hb3 t7;replace y0:=cK hb3 y0;replace y1:=cK hb3 y1;replace y2:=cK hb3 y2;replace y3:=cK hb3 y3;replace y4:=cK hb3 y4;replace y5:=cK hb3 y5;replace x0:=cK hb3 x0;replace x1:=cK hb3 x1;replace r0:=cK hb3 r0;replace r1:=cK hb3 r1;replace r2:=cK hb3 r2;replace r3:=cK hb3 r3;replace r4:=cK hb3 r4;replace r5:=cK hb3 r5;replace r6:=cK hb3 r6;replace r7:=cK hb3 r7;replace tf:∀o,w3.frozen? ⟨B,o,none⟩=false:=fun o=>by rw[(bcell hb3).2 _ _ zB2];exact tf o
 replace rf:∀o,w3.frozen? ⟨w.heap.size+2,o,none⟩=false:=fun o=>by rw[(bcell hb3).2 _ _ oM];exact rf o
 clear hb3 HRd2 HO2 hB2;cases hrd:kR d c
 ·
  have HC:Hid _:=HNo.out hrd;clear HNo HY HCc hrd;obtain⟨G2,o2,hG2,LN⟩:=fFp (d:=d) HO3.out;have HLN:Hid (∀(w':World) (Fj':Nat→Prop) (v:Value) (ys:List Mrk),mrksR.O w' W0.heap.size Fj' v ys→Mod G2 w3 w'→(∀b,Fj' b→G2 b∨w3.heap.size≤b)→∃F',shdR.O w' W0.heap.size F' (.agg #[.int .i64 d.idx,.slice s1 n1 f1,v,.slice s3 n3 f3,.slice s4 n4 f4,.slice s5 n5 f5]) ⟨d.idx,d.bals,ys,d.held,d.done,d.appl⟩∧∀b,F' b→F1 b∨w3.heap.size≤b):=LN;have HG2:Hid (mrksR.O w3 W0.heap.size G2 (.slice s2 n2 f2) d.votes):=o2;clear LN o2 hG2;go_wp2_with fail;refine(HMk.out w3 W0.heap.size G2 _ 2 HG2.out).mono ?_;rintro e w9 ⟨v9,F9,rfl,o9,hb9⟩;obtain⟨a9,c9,rfl⟩:=fD o9.1;obtain⟨F',o',hF'⟩:=HLN.out w9 F9 _ _ (mrksR.base o9 oM) (Mod.of_below hb9) (fun b hb=>.inr (mrksR.rng o9 b hb).1);have HO':Hid (shdRR.O w9 W0.heap.size F' (.agg #[.int .i64 0,.int .i64 2,.int .i64 d.idx,.slice s1 n1 f1,.slice a9 (putM d.votes ⟨c.id,2⟩).length c9,.slice s3 n3 f3,.slice s4 n4 f4,.slice s5 n5 f5]) ⟨0,2,votV d c.id 2⟩):=uZ (d:=votV d c.id 2) 0 2 o';have HF':Hid (∀b,F' b→F1 b∨w3.heap.size≤b):=hF';have hB9:Below w.heap.size w w9:=bS hB3 hb9;replace t0:=cK hb9 t0;replace t1:=cK hb9 t1;replace t2:=cK hb9 t2;replace t3:=cK hb9 t3;replace t4:=cK hb9 t4;replace t5:=cK hb9 t5;replace t6:=cK hb9 t6;replace t7:=cK hb9 t7;replace r0:=cK hb9 r0;replace r1:=cK hb9 r1;replace r2:=cK hb9 r2;replace r3:=cK hb9 r3;replace r4:=cK hb9 r4;replace r5:=cK hb9 r5;replace r6:=cK hb9 r6;replace r7:=cK hb9 r7;replace tf:∀o,w9.frozen? ⟨B,o,none⟩=false:=fun o=>by rw[(bcell hb9).2 _ _ oM];exact tf o
  replace rf:∀o,w9.frozen? ⟨w.heap.size+2,o,none⟩=false:=fun o=>by rw[(bcell hb9).2 _ _ oM];exact rf o
  generalize (putM d.votes ⟨c.id,2⟩).length=np at *;clear o9 hb9 o' hF' HLN HG2 HMk;have hbB:w.heap.size≤B:=oM;have hbR:w.heap.size≤w.heap.size+2:=oM;go_wp2;refine bodyPost_ret (v:=.agg #[.int .i64 0,.int .i64 2,.int .i64 d.idx,.slice s1 n1 f1,.slice a9 np c9,.slice s3 n3 f3,.slice s4 n4 f4,.slice s5 n5 f5]) (by simp[results,Tryz.results128,go_sem,r0,r1,r2,r3,r4,r5,r6,r7,rf]) rfl ?_;rw[HC.out];refine⟨_,F',rfl,shdRR.base (vD shdRR (fRa shdRR HO'.out (fun h=>(HF'.out _ h).elim HNB.out (fun h=>oM)) _) (fun h=>by have:=(shdRR.rng HO'.out _ h).1;omega) _ _ _ _ _ _ _ _) oM,?_⟩;exact bset (p:=⟨w.heap.size+2,7,none⟩) (bset (p:=⟨w.heap.size+2,6,none⟩) (bset (p:=⟨w.heap.size+2,5,none⟩) (bset (p:=⟨w.heap.size+2,4,none⟩) (bset (p:=⟨w.heap.size+2,3,none⟩) (bset (p:=⟨w.heap.size+2,2,none⟩) (bset (p:=⟨w.heap.size+2,1,none⟩) (bset (p:=⟨w.heap.size+2,0,none⟩) (bset (p:=⟨B,4,none⟩) hB9 hbB _) hbR _) hbR _) hbR _) hbR _) hbR _) hbR _) hbR _) hbR _
 have HC:Hid _:=HY.out hrd;clear HNo HY hrd;go_wp2;obtain⟨W4,hW4⟩:∃W4,W4=w3.setCell ⟨B,1,none⟩ (.int .i64 1):=⟨_,rfl⟩
 rw[←hW4];have hm4:Mod (fun b=>b=B) w3 W4:=by rw[hW4];exact Mod.of_set w3 ⟨B,1,none⟩ _
 replace t0:W4.cell? ⟨B,0,none⟩=some (.int .i64 0):=by rw[hW4];simp[go_sem,t0,tf]
 replace t1:W4.cell? ⟨B,1,none⟩=some (.int .i64 1):=by rw[hW4];simp[go_sem,t1,tf]
 replace t2:W4.cell? ⟨B,2,none⟩=some (.int .i64 d.idx):=by rw[hW4];simp[go_sem,t2,tf]
 replace t3:W4.cell? ⟨B,3,none⟩=some (.slice s1 n1 f1):=by rw[hW4];simp[go_sem,t3,tf]
 replace t4:W4.cell? ⟨B,4,none⟩=some (.slice s2 n2 f2):=by rw[hW4];simp[go_sem,t4,tf]
 replace t5:W4.cell? ⟨B,5,none⟩=some (.slice s3 n3 f3):=by rw[hW4];simp[go_sem,t5,tf]
 replace t6:W4.cell? ⟨B,6,none⟩=some (.slice s4 n4 f4):=by rw[hW4];simp[go_sem,t6,tf]
 replace t7:W4.cell? ⟨B,7,none⟩=some (.slice s5 n5 f5):=by rw[hW4];simp[go_sem,t7,tf]
 replace tf:∀o,W4.frozen? ⟨B,o,none⟩=false:=fun o=>by rw[hW4];simp[go_sem,tf]
 clear hW4;replace y0:=hm4.cell y0 nN;replace y1:=hm4.cell y1 nN;replace y2:=hm4.cell y2 nN;replace y3:=hm4.cell y3 nN;replace y4:=hm4.cell y4 nN;replace y5:=hm4.cell y5 nN;replace x0:=hm4.cell x0 nN1;replace x1:=hm4.cell x1 nN1;replace r0:=hm4.cell r0 nN2;replace r1:=hm4.cell r1 nN2;replace r2:=hm4.cell r2 nN2;replace r3:=hm4.cell r3 nN2;replace r4:=hm4.cell r4 nN2;replace r5:=hm4.cell r5 nN2;replace r6:=hm4.cell r6 nN2;replace r7:=hm4.cell r7 nN2;replace rf:∀o,W4.frozen? ⟨w.heap.size+2,o,none⟩=false:=fun o=>(hm4.frz10 (a:=⟨w.heap.size+2,o,none⟩) (by dsimp only;omega) nN2).trans (rf o)
 have hB4:Below w.heap.size w W4:=hm4.below hB3 hB3.size (fun b e=>by rw[e];omega);have HO4:Hid (shdR.O W4 W0.heap.size F1 (.agg #[.int .i64 d.idx,.slice s1 n1 f1,.slice s2 n2 f2,.slice s3 n3 f3,.slice s4 n4 f4,.slice s5 n5 f5]) d):=shdR.mod HO3.out hm4 (fun b hb e=>HNB.out (e▸hb));have zW4:w3.heap.size≤W4.heap.size:=hm4.size;clear hm4 HO3 hB3;go_loopw [6] (fun i w'=>∃k:Nat,k≤n3∧i =.int .i64 k∧Hid (∀j,j<k→(d.held.getD j default).id<c.id)∧Below W4.heap.size W4 w') (fun i _=>n3-(intOf i).toNat)
 case atStart=>exact⟨0,oM,rfl,fun j hj=>absurd hj oM,qBq⟩
 obtain⟨k,hk,rfl,HJ,hbl⟩:=hrel;have hBr:Below w.heap.size w wr:=bS hB4 hbl;have zr:=hbl.size;have zB4:B<W4.heap.size:=oM;replace t0:=cK hbl t0;replace t1:=cK hbl t1;replace t2:=cK hbl t2;replace t3:=cK hbl t3;replace t4:=cK hbl t4;replace t5:=cK hbl t5;replace t6:=cK hbl t6;replace t7:=cK hbl t7;replace y0:=cK hbl y0;replace y1:=cK hbl y1;replace y2:=cK hbl y2;replace y3:=cK hbl y3;replace y4:=cK hbl y4;replace y5:=cK hbl y5;replace x0:=cK hbl x0;replace x1:=cK hbl x1;replace r0:=cK hbl r0;replace r1:=cK hbl r1;replace r2:=cK hbl r2;replace r3:=cK hbl r3;replace r4:=cK hbl r4;replace r5:=cK hbl r5;replace r6:=cK hbl r6;replace r7:=cK hbl r7;replace tf:∀o,wr.frozen? ⟨B,o,none⟩=false:=fun o=>by rw[(bcell hbl).2 _ _ zB4];exact tf o
 replace rf:∀o,wr.frozen? ⟨w.heap.size+2,o,none⟩=false:=fun o=>by rw[(bcell hbl).2 _ _ oM];exact rf o
 have HG:Hid (∃go,go=decide (k<n3∧(d.held.getD k default).id<c.id)):=⟨_,rfl⟩;obtain⟨go,hgo⟩:=HG.out;have HG2:Hid (go=decide (k<n3∧(d.held.getD k default).id<c.id)):=hgo;clear HG hgo;go_upto_region 10 with fail
 go_cut [44] from 29 to 46 (fun c wx=>c =.bool go∧wx=wr.drew)
 case first=>
  by_cases hlt:k<n3
  ·
   obtain⟨bx,ox,pp,qq,rfl,g0,_,_⟩:=HX.out k hlt;replace g0:=cK hBr g0;have k1:(k:Int)<n3:=oM;have k2:(0:Int)≤k:=oM;clear HJ HPo;generalize (d.held.getD k default).id=kid at *;by_cases hco:kid<c.id
   ·refine wp_region_noPanic ?_;refine fB (fun W=>Below wr.heap.size wr W∧W.cell? ⟨w.heap.size,3,none⟩=some (.slice (some ⟨bx,ox,none⟩) n3 c3)∧W.cell? ⟨w.heap.size+1,0,none⟩=some (.int .i64 c.id)∧W.cell? ⟨bx,ox+k*2,none⟩=some (.int .i64 kid)) 16 kF ⟨qBq,cK qBq y3,cK qBq x0,cK qBq g0⟩ (fun hS=>?_);refine tX 0 ?_;refine tX 1 ?_;refine tX 2 ?_;refine tX 3 ?_;refine tX 4 (v:=.bool true) ?_;refine tX 5 ?_;refine tX 6 ?_;refine tX 7 ?_;refine tX 8 ?_;refine tX 9 ?_;refine tX 10 ?_;refine tX 11 ?_;refine tX 12 ?_;refine tX 13 ?_;refine tX 14 (v:=.bool true) ?_;refine tX 15 (v:=.bool true) ?_;refine dP ?_;clear hS;go_wp2;go_meet;exact⟨by rw[HG2.out];simp[hlt,hco],rfl⟩
   refine wp_region_noPanic ?_;refine fB (fun W=>Below wr.heap.size wr W∧W.cell? ⟨w.heap.size,3,none⟩=some (.slice (some ⟨bx,ox,none⟩) n3 c3)∧W.cell? ⟨w.heap.size+1,0,none⟩=some (.int .i64 c.id)∧W.cell? ⟨bx,ox+k*2,none⟩=some (.int .i64 kid)) 16 kF ⟨qBq,cK qBq y3,cK qBq x0,cK qBq g0⟩ (fun hS=>?_);refine tX 0 ?_;refine tX 1 ?_;refine tX 2 ?_;refine tX 3 ?_;refine tX 4 (v:=.bool true) ?_;refine tX 5 ?_;refine tX 6 ?_;refine tX 7 ?_;refine tX 8 ?_;refine tX 9 ?_;refine tX 10 ?_;refine tX 11 ?_;refine tX 12 ?_;refine tX 13 ?_;refine tX 14 (v:=.bool false) ?_;refine tX 15 (v:=.bool false) ?_;refine dP ?_;clear hS;go_wp2;go_meet;exact⟨by rw[HG2.out];simp[hco],rfl⟩
  have kk1:¬(k:Int)<n3:=oM;refine wp_region_noPanic ?_;refine fB (fun W=>Below wr.heap.size wr W∧W.cell? ⟨w.heap.size,3,none⟩=some (.slice a3 n3 c3)∧W.cell? ⟨w.heap.size+1,0,none⟩=some (.int .i64 c.id)) 16 kF ⟨qBq,cK qBq y3,cK qBq x0⟩ (fun hS=>?_);refine tX 0 ?_;refine tX 1 ?_;refine tX 2 ?_;refine tX 3 ?_;refine tX 4 (v:=.bool false) ?_;refine tX 5 ?_;refine sX 6 fun _=>?_
  refine sX 7 fun _=>?_
  refine sX 8 fun _=>?_
  refine sX 9 fun _=>?_
  refine sX 10 fun _=>?_
  refine sX 11 fun _=>?_
  refine sX 12 fun _=>?_
  refine sX 13 fun _=>?_
  refine sX 14 fun _=>?_
  refine tX 15 (v:=.bool false) ?_;refine dP ?_;clear hS;go_wp2;go_meet;exact⟨by rw[HG2.out];simp[hlt],rfl⟩
 case rest=>
  obtain⟨rfl,rfl⟩:=hcut;cases go;rotate_left
  ·
   have hh:=of_decide_eq_true HG2.out.symm;have HJ2:Hid (∀j,j<k+1→(d.held.getD j default).id<c.id):=fun j hj=>by
    by_cases e:j=k
    ·rw[e];exact hh.2
    exact HJ.out j oM
   have hlt:=hh.1;clear hh HG2 HJ;go_wp2;exact⟨⟨k+1,by omega,by go_num,HJ2,bS hbl qBq⟩,mI⟩
  have hgo:=of_decide_eq_false HG2.out.symm;have HPut:Hid (putC d.held c=d.held.take k++[c]++d.held.drop k):=HPo.out k hk HJ.out (fun h1=>by
   by_cases h2:(d.held.getD k default).id<c.id
   ·exact absurd ⟨h1,h2⟩ hgo
   first|exact h2|omega)
  have HO5':Hid (shdR.O wr W0.heap.size F1 (.agg #[.int .i64 d.idx,.slice s1 n1 f1,.slice s2 n2 f2,.slice s3 n3 f3,.slice s4 n4 f4,.slice s5 n5 f5]) d):=shdR.keep HO4.out hbl;obtain⟨G3,og3,hG3,LN3⟩:=vQ HO5'.out;have HLN3:Hid (∀(w':World) (Fj':Nat→Prop) (v:Value) (ys:List Cont),contsR.O w' W0.heap.size Fj' v ys→Mod G3 wr w'→(∀b,Fj' b→G3 b∨wr.heap.size≤b)→∃F',shdR.O w' W0.heap.size F' (.agg #[.int .i64 d.idx,.slice s1 n1 f1,.slice s2 n2 f2,v,.slice s4 n4 f4,.slice s5 n5 f5]) ⟨d.idx,d.bals,d.votes,ys,d.done,d.appl⟩∧∀b,F' b→F1 b∨wr.heap.size≤b):=LN3;obtain⟨cs,us,fs,hp,hFF⟩:=og3;have HOne:Hid (∀y ∈ cs,y.oneCell'=true):=fJ1 hp;have HRw:Hid (wr.ownsRow W0.heap.size 57 2 (.slice s3 n3 f3) n3 cs):=by have h:=hp.row;rw[HN3.out] at h;exact h
  have HEl:Hid ((∀j,j<d.held.length→contR.O wr W0.heap.size (fs j) (us j) (d.held.getD j default))∧(∀j,j<d.held.length→(kL (us j)).length=2)∧(∀j,j<d.held.length→∀o,o<2→cs[j*2+o]? = (kL (us j))[o]?)∧(∀j k,j<d.held.length→k<d.held.length→j≠k→∀b,fs j b→¬fs k b)∧(∀j,j<d.held.length→∀b,fs j b→G3 b∧b<wr.heap.size)):=⟨hp.el,hp.ln,hp.cell,hp.sep,fun j hj b hb=>⟨(hFF b).2 (.inr ⟨j,hj,hb⟩),(contR.rng (hp.el j hj) b hb).2⟩⟩;have hnf:n3≤f3:=by
   rcases HRw.out.2 with ⟨_,h0⟩|⟨g,cap,cur,hv3,_,_,hnc,hcm,_⟩
   ·omega
   simp only[Value.slice.injEq] at hv3;obtain⟨_,_,hf3⟩:=hv3;rw[hf3];exact hnc
  clear LN3 hG3 hp hFF HO5' HO4 HJ HPo HG2 hgo;go_wp2;have e3':(k:Int)≤f3:=oM;have e4':(k:Int)≤n3:=oM;have HCl:Hid (cs.length=n3*2):=HRw.out.1;have HS1:Hid (bW wr fun W=>gU W (.slice s3 k f3) k (cs.take (k*2))):=fun W hW=>(fDx (fV HRw.out hW) hk).1
  have HS2:Hid (bW wr fun W=>gU W (.slice (if f3=k then s3 else Option.map (fun x=>x.add (k*2)) s3) (n3-k) (f3-k)) (n3-k) (cs.drop (k*2))):=fun W hW=>(fDx (fV HRw.out hW) hk).2
  have HP1:Hid ((cs.take (k*2)).length=k*2):=by show _=_;rw[List.length_take,HCl.out];try omega
  have HP2:Hid ((cs.drop (k*2)).length=(n3-k)*2):=by show _=_;rw[List.length_drop,HCl.out];try omega
  have H11:Hid (∀y ∈ cs.take (k*2),y.oneCell'=true):=fun y hy=>HOne.out y (List.mem_of_mem_take hy)
  have H12:Hid (∀y ∈ cs.drop (k*2),y.oneCell'=true):=fun y hy=>HOne.out y (List.mem_of_mem_drop hy)
  obtain⟨P1,hP1⟩:∃P,P=cs.take (k*2):=⟨_,rfl⟩
  obtain⟨P2,hP2⟩:∃P,P=cs.drop (k*2):=⟨_,rfl⟩
  have HPP:Hid (cs.take (k*2)=P1∧cs.drop (k*2)=P2):=⟨hP1.symm,hP2.symm⟩;rw[←hP1] at HS1 HP1 H11;rw[←hP2] at HS2 HP2 H12;clear hP1 hP2;refine wp_region_noPanic ?_;have hbd:Below wr.heap.size wr wr.drew.drew:=qBq;refine fB (fun W=>Below wr.heap.size wr W∧W.cell? ⟨B,5,none⟩=some (.slice s3 n3 f3)∧W.cell? ⟨w.heap.size+1,0,none⟩=some (.int .i64 c.id)∧W.cell? ⟨w.heap.size+1,1,none⟩=some (.slice ax nx cx)) 19 kF ⟨hbd,cK hbd t5,cK hbd x0,cK hbd x1⟩ (fun hS=>?_);refine tY 1 ?_;refine tY 2 ?_;refine tY 3 ?_;refine tY 4 ?_;refine tY 5 ?_;refine tY 7 ?_;refine tY 11 ?_;refine tY 12 ?_;refine tY 13 ?_;refine tY 14 ?_;refine tY 15 ?_;generalize (if f3=k then s3 else Option.map (fun x=>x.add (k*2)) s3)=q0 at *;refine uS 0 rfl (fun K hK=>?_);go_simp;obtain⟨w1,hw1⟩:∃w1,w1=(wr.alloc (.cells #[] 57)).drew.drew:=⟨_,rfl⟩
  have o1:w1.ownsRow wr.heap.size 57 2 (.slice (some ⟨wr.heap.size,0,none⟩) 0 0) 0 []:=by
   have h:=World.ownsRow_lit (base:=wr.heap.size) (e:=57) (size:=2) wr #[] 0 (Nat.le_refl _) (by decide) rfl;rw[hw1];exact fV h qBq
  have hb1:Below wr.heap.size wr w1:=by rw[hw1];exact qBq
  rw[←hw1];clear hw1;refine hK _ _ (fun _=>⟨hb1,cK hb1 t5,cK hb1 x0,cK hb1 x1⟩) ?_;clear hK K hS;try simp only[jX]
  refine uS 6 rfl (fun K hK=>?_);refine mR rfl ?_;refine fF4 w1 ?hg1 (.tmp 47) (.tmp 52) ?ho1 wr.heap.size (.slice (some ⟨wr.heap.size,0,none⟩) 0 0) 0 [] ?hs1 (.slice s3 k f3) k P1 ?hx1 o1 (HS1.out w1 hb1) HP1.out H11.out oM hb1.size ?_
  case hg1=>rfl
  case ho1=>rfl
  case hs1=>rfl
  case hx1=>rfl
  intro v2 w2 o2 m2 l2;rw[List.nil_append,Nat.zero_add] at o2;have hb2:Below wr.heap.size wr w2:=m2.below hb1 hb1.size (fun b hb=>by simp only[Value.ownBlock,Option.some.injEq] at hb;omega);refine hK _ _ (fun _=>⟨hb2,cK hb2 t5,cK hb2 x0,cK hb2 x1⟩) ?_;clear hK K m2 l2 o1;have HO2:Hid (w2.ownsRow wr.heap.size 57 2 v2 k P1):=o2;obtain⟨p2,q2,rfl⟩:=fD o2;clear o2;try simp only[jX]
  refine uS 8 rfl (fun K hK=>?_);go_simp;refine(HCc.out _ (bS hBr hb2)).mono ?_;rintro e w3' ⟨v3,F3',rfl,o3',hb3'⟩;obtain⟨a7,c7,rfl⟩:=xG o3';rw[HNx.out] at o3' ⊢;have hb3:Below wr.heap.size wr w3':=bS hb2 hb3';refine hK _ _ (fun _=>⟨hb3,cK hb3 t5,cK hb3 x0,cK hb3 x1⟩) ?_;clear hK K;have HU:Hid (contR.O w3' W0.heap.size F3' (.agg #[.int .i64 c.id,.slice a7 nx c7]) c):=contR.base o3' (by have:=hb2.size;omega);have HFu:Hid (∀b,F3' b→w2.heap.size≤b∧b<w3'.heap.size):=fun b hb=>contR.rng o3' b hb
  have HO3r:Hid (w3'.ownsRow wr.heap.size 57 2 (.slice p2 k q2) k P1):=fV HO2.out hb3';have HR2:Hid (∀b,(Value.slice p2 k q2).ownBlock=some b→wr.heap.size≤b∧b<w2.heap.size):=fun b hb=>HO2.out.lt b hb
  clear o3' HO2;try simp only[jX]
  refine uS 9 rfl (fun K hK=>?_);go_simp;obtain⟨w4,hw4⟩:∃w4,w4=w3'.alloc (.cells #[.int .i64 c.id,.slice a7 nx c7] 57):=⟨_,rfl⟩
  rw[←hw4];have hb4':Below w3'.heap.size w3' w4:=by rw[hw4];exact qBq
  have v0:w4.cell? ⟨w3'.heap.size,0,none⟩=some (.int .i64 c.id):=by rw[hw4];simp[go_sem]
  have v1:w4.cell? ⟨w3'.heap.size,1,none⟩=some (.slice a7 nx c7):=by rw[hw4];simp[go_sem]
  clear hw4;have hb4:Below wr.heap.size wr w4:=bS hb3 hb4';refine hK _ _ (fun _=>⟨hb4,cK hb4 t5,cK hb4 x0,cK hb4 x1⟩) ?_;clear hK K;try simp only[jX]
  refine uS 10 rfl (fun K hK=>?_);refine mR rfl ?_;refine fF4 w4 ?hg2 (.tmp 53) (.tmp 56) ?ho2 wr.heap.size (.slice p2 k q2) k P1 ?hs2 (.slice (some ⟨w3'.heap.size,0,none⟩) 1 1) 1 [.int .i64 c.id,.slice a7 nx c7] ?hx2 (fV HO3r.out hb4') (fTh v0 v1) rfl (fun y hy=>by simp only[List.mem_cons,List.not_mem_nil,or_false] at hy;rcases hy with rfl|rfl <;> rfl) oM hb4.size ?_
  case hg2=>rfl
  case ho2=>rfl
  case hs2=>rfl
  case hx2=>rfl
  intro v5 w5 o5 m5 l5;have hb5:Below wr.heap.size wr w5:=m5.below hb4 hb4.size (fun b hb=>(HR2.out b hb).1);refine hK _ _ (fun _=>⟨hb5,cK hb5 t5,cK hb5 x0,cK hb5 x1⟩) ?_;clear hK K;have HU5:Hid (contR.O w5 W0.heap.size F3' (.agg #[.int .i64 c.id,.slice a7 nx c7]) c):=contR.mod (contR.keep HU.out hb4') m5 (fun b hb e=>by have:=(HR2.out b e).2;have:=(HFu.out b hb).1;omega);have HR5:Hid (∀b,v5.ownBlock=some b→wr.heap.size≤b∧¬F3' b):=fun b hb=>by
   rcases l5 b hb with h|h
   ·exact⟨(HR2.out b h).1,fun hf=>by have:=(HR2.out b h).2;have:=(HFu.out b hf).1;omega⟩
   exact⟨by have:=hb4.size;omega,fun hf=>by have:=(HFu.out b hf).2;have:=hb4'.size;omega⟩
  have HFu5:Hid (∀b,F3' b→wr.heap.size≤b∧b<w5.heap.size):=fun b hb=>by have:=HFu.out b hb;have:=hb2.size;have:=hb4'.size;have:=m5.size;omega
  have HO5:Hid (w5.ownsRow wr.heap.size 57 2 v5 (k+1) (P1++[.int .i64 c.id,.slice a7 nx c7])):=o5;obtain⟨p5,q5,rfl⟩:=fD o5;clear o5 m5 l5 v0 v1 HO3r HU HR2 HFu hb4 hb4' hb3 hb3' hb2;try simp only[jX]
  refine uS 16 rfl (fun K hK=>?_);refine mR rfl ?_;refine fF4 w5 ?hg3 (.tmp 57) (.tmp 62) ?ho3 wr.heap.size (.slice p5 (k+1) q5) (k+1) (P1++[.int .i64 c.id,.slice a7 nx c7]) ?hs3 (.slice q0 (n3-k) (f3-k)) (n3-k) P2 ?hx3 HO5.out (HS2.out w5 hb5) HP2.out H12.out oM hb5.size ?_
  case hg3=>rfl
  case ho3=>rfl
  case hs3=>rfl
  case hx3=>rfl
  intro v6 w6 o6 m6 l6;have hb6:Below wr.heap.size wr w6:=m6.below hb5 hb5.size (fun b hb=>(HR5.out b hb).1);refine hK _ _ (fun _=>⟨hb6,cK hb6 t5,cK hb6 x0,cK hb6 x1⟩) ?_;clear hK K;have HIn:Hid (∃F',contsR.O w6 W0.heap.size F' v6 (putC d.held c)∧∀b,F' b→G3 b∨wr.heap.size≤b):=by
   obtain⟨hel,hln,hcell,hsep,hFs⟩:=HEl.out;have hu6:contR.O w6 W0.heap.size F3' (.agg #[.int .i64 c.id,.slice a7 nx c7]) c:=contR.mod HU5.out m6 (fun b hb e=>(HR5.out b e).2 hb);have hv6:∀b,v6.ownBlock=some b→wr.heap.size≤b∧¬F3' b:=fun b hb=>by
    rcases l6 b hb with h|h
    ·exact HR5.out b h
    exact⟨by have:=hb5.size;omega,fun hf=>by have:=(HFu5.out b hf).2;omega⟩
   have h6:w6.ownsRow W0.heap.size 57 2 v6 (d.held.length+1) (cs.take (k*2)++kL (.agg #[.int .i64 c.id,.slice a7 nx c7])++cs.drop (k*2)):=by
    rw[HPP.out.1,HPP.out.2,HN3.out,show n3+1=k+1+(n3-k) by omega];exact rG o6 oM
   obtain⟨F',h7,h8⟩:=NO.insAt (R:=contR) (lv:=kL) (i:=k) (xs:=d.held) (x:=c) (fs:=fs) (us:=us) (cs:=cs) (fun j hj=>contR.keep (hel j hj) hb6) hln hcell hsep (by rw[HCl.out,HN3.out]) (by rw[HN3.out];omega) hu6 rfl (fun j hj b h1 h2=>by have:=(hFs j hj b h1).2;have:=(HFu5.out b h2).1;omega) h6 (fun b hb=>⟨fun j hj h=>by have:=(hFs j hj b h).2;have:=(hv6 b hb).1;omega,(hv6 b hb).2⟩);rw[HPut.out];exact⟨F',h7,fun b hb=>by
    rcases h8 b hb with h|⟨j,hj,h⟩|h
    ·exact .inr (hv6 b h).1
    ·exact .inl (hFs j hj b h).1
    exact .inr (HFu5.out b h).1⟩
  obtain⟨F6,ho6,hF6⟩:=HIn.out;obtain⟨a6,c6,rfl⟩:=fM (contsR.ofO ho6);obtain⟨F',o',hF'⟩:=HLN3.out w6 F6 _ _ ho6 (Mod.of_below hb6) hF6;have HO7:Hid (shdR.O w6 W0.heap.size F' (.agg #[.int .i64 d.idx,.slice s1 n1 f1,.slice s2 n2 f2,.slice a6 (putC d.held c).length c6,.slice s4 n4 f4,.slice s5 n5 f5]) (yS d c)):=o';have HF7:Hid (∀b,F' b→F1 b∨wr.heap.size≤b):=hF';generalize (putC d.held c).length=mpc at *;clear o6 m6 l6 ho6 hF6 o' hF' HIn HLN3 HU5 HR5 HFu5 HO5 hb1 hb5 HEl HS1 HS2 HP1 HP2 H11 H12 HPP HRw HOne HCl;try simp only[jX]
  refine uS 17 rfl (fun K hK=>?_);go_simp;refine hK _ _ (fun _=>⟨hb6,cK hb6 t5,cK hb6 x0,cK hb6 x1⟩) ?_;clear hK K;try simp only[jX]
  refine uS 18 rfl (fun K hK=>?_);go_simp;refine hK _ _ (fun _=>⟨hb6,cK hb6 t5,cK hb6 x0,cK hb6 x1⟩) ?_;clear hK K;replace t0:=cK hb6 t0;replace t1:=cK hb6 t1;replace t2:=cK hb6 t2;replace t3:=cK hb6 t3;replace t4:=cK hb6 t4;replace t5:=cK hb6 t5;replace t6:=cK hb6 t6;replace t7:=cK hb6 t7;replace x0:=cK hb6 x0;replace x1:=cK hb6 x1;replace r0:=cK hb6 r0;replace r1:=cK hb6 r1;replace r2:=cK hb6 r2;replace r3:=cK hb6 r3;replace r4:=cK hb6 r4;replace r5:=cK hb6 r5;replace r6:=cK hb6 r6;replace r7:=cK hb6 r7;replace tf:∀o,w6.frozen? ⟨B,o,none⟩=false:=fun o=>by rw[(bcell hb6).2 _ _ oM];exact tf o
  replace rf:∀o,w6.frozen? ⟨w.heap.size+2,o,none⟩=false:=fun o=>by rw[(bcell hb6).2 _ _ oM];exact rf o
  have hB6:Below w.heap.size w w6:=bS hBr hb6;have z6:=hb6.size;try simp only[jX]
  refine uS 19 rfl (fun K hK=>?_);go_simp;refine hK _ _ (fun h=>absurd rfl h) ?_;clear hK K;refine dP ?_;obtain⟨W7,hW7⟩:∃W7,W7=w6.setCell ⟨B,5,none⟩ (.slice a6 mpc c6):=⟨_,rfl⟩
  rw[←hW7];have hm7:Mod (fun b=>b=B) w6 W7:=by rw[hW7];exact Mod.of_set w6 ⟨B,5,none⟩ _
  replace t0:W7.cell? ⟨B,0,none⟩=some (.int .i64 0):=by rw[hW7];simp[go_sem,t0,tf]
  replace t1:W7.cell? ⟨B,1,none⟩=some (.int .i64 1):=by rw[hW7];simp[go_sem,t1,tf]
  replace t2:W7.cell? ⟨B,2,none⟩=some (.int .i64 d.idx):=by rw[hW7];simp[go_sem,t2,tf]
  replace t3:W7.cell? ⟨B,3,none⟩=some (.slice s1 n1 f1):=by rw[hW7];simp[go_sem,t3,tf]
  replace t4:W7.cell? ⟨B,4,none⟩=some (.slice s2 n2 f2):=by rw[hW7];simp[go_sem,t4,tf]
  replace t5:W7.cell? ⟨B,5,none⟩=some (.slice a6 mpc c6):=by rw[hW7];simp[go_sem,t5,tf]
  replace t6:W7.cell? ⟨B,6,none⟩=some (.slice s4 n4 f4):=by rw[hW7];simp[go_sem,t6,tf]
  replace t7:W7.cell? ⟨B,7,none⟩=some (.slice s5 n5 f5):=by rw[hW7];simp[go_sem,t7,tf]
  replace tf:∀o,W7.frozen? ⟨B,o,none⟩=false:=fun o=>by rw[hW7];simp[go_sem,tf]
  clear hW7;replace x0:=hm7.cell x0 nN1;replace x1:=hm7.cell x1 nN1;replace r0:=hm7.cell r0 nN2;replace r1:=hm7.cell r1 nN2;replace r2:=hm7.cell r2 nN2;replace r3:=hm7.cell r3 nN2;replace r4:=hm7.cell r4 nN2;replace r5:=hm7.cell r5 nN2;replace r6:=hm7.cell r6 nN2;replace r7:=hm7.cell r7 nN2;replace rf:∀o,W7.frozen? ⟨w.heap.size+2,o,none⟩=false:=fun o=>(hm7.frz10 (a:=⟨w.heap.size+2,o,none⟩) (by dsimp only;omega) nN2).trans (rf o)
  have hB7:Below w.heap.size w W7:=hm7.below hB6 hB6.size (fun b e=>by rw[e];omega);have nF7:¬F' B:=fun h=>(HF7.out B h).elim HNB.out (fun h=>oM)
  have HO8:Hid (shdR.O W7 W0.heap.size F' (.agg #[.int .i64 d.idx,.slice s1 n1 f1,.slice s2 n2 f2,.slice a6 mpc c6,.slice s4 n4 f4,.slice s5 n5 f5]) (yS d c)):=shdR.mod HO7.out hm7 (fun b hb e=>nF7 (e▸hb));have z7:w6.heap.size≤W7.heap.size:=hm7.size;clear hm7 HO7 HNB;have HNB:Hid (¬F' B):=nF7;clear nF7;obtain⟨G2,o2,hG2,LN⟩:=fFp (d:=(yS d c)) HO8.out;have HLN:Hid (∀(w':World) (Fj':Nat→Prop) (v:Value) (ys:List Mrk),mrksR.O w' W0.heap.size Fj' v ys→Mod G2 W7 w'→(∀b,Fj' b→G2 b∨W7.heap.size≤b)→∃F9',shdR.O w' W0.heap.size F9' (.agg #[.int .i64 d.idx,.slice s1 n1 f1,v,.slice a6 mpc c6,.slice s4 n4 f4,.slice s5 n5 f5]) ⟨d.idx,d.bals,ys,putC d.held c,d.done,d.appl⟩∧∀b,F9' b→F' b∨W7.heap.size≤b):=LN;have HG2:Hid (mrksR.O W7 W0.heap.size G2 (.slice s2 n2 f2) d.votes):=o2;clear LN o2 hG2;go_wp2_with fail;refine(HMk.out W7 W0.heap.size G2 _ 1 HG2.out).mono ?_;rintro e w9 ⟨v9,F9,rfl,o9,hb9⟩;obtain⟨a9,c9,rfl⟩:=fD o9.1;obtain⟨F9',o',hF'⟩:=HLN.out w9 F9 _ _ (mrksR.base o9 oM) (Mod.of_below hb9) (fun b hb=>.inr (mrksR.rng o9 b hb).1);have HO':Hid (shdRR.O w9 W0.heap.size F9' (.agg #[.int .i64 0,.int .i64 1,.int .i64 d.idx,.slice s1 n1 f1,.slice a9 (putM d.votes ⟨c.id,1⟩).length c9,.slice a6 mpc c6,.slice s4 n4 f4,.slice s5 n5 f5]) ⟨0,1,votV (yS d c) c.id 1⟩):=uZ (d:=votV (yS d c) c.id 1) 0 1 o';have HF':Hid (∀b,F9' b→F' b∨W7.heap.size≤b):=hF';have hB9:Below w.heap.size w w9:=bS hB7 hb9;replace t0:=cK hb9 t0;replace t1:=cK hb9 t1;replace t2:=cK hb9 t2;replace t3:=cK hb9 t3;replace t4:=cK hb9 t4
  replace t5:=cK hb9 t5;replace t6:=cK hb9 t6;replace t7:=cK hb9 t7;replace r0:=cK hb9 r0;replace r1:=cK hb9 r1;replace r2:=cK hb9 r2;replace r3:=cK hb9 r3;replace r4:=cK hb9 r4;replace r5:=cK hb9 r5;replace r6:=cK hb9 r6;replace r7:=cK hb9 r7;replace tf:∀o,w9.frozen? ⟨B,o,none⟩=false:=fun o=>by rw[(bcell hb9).2 _ _ oM];exact tf o
  replace rf:∀o,w9.frozen? ⟨w.heap.size+2,o,none⟩=false:=fun o=>by rw[(bcell hb9).2 _ _ oM];exact rf o
  generalize (putM d.votes ⟨c.id,1⟩).length=np at *;clear o9 hb9 o' hF' HLN HG2 HMk;have hbB:w.heap.size≤B:=oM;have hbR:w.heap.size≤w.heap.size+2:=oM;go_wp2;refine bodyPost_ret (v:=.agg #[.int .i64 0,.int .i64 1,.int .i64 d.idx,.slice s1 n1 f1,.slice a9 np c9,.slice a6 mpc c6,.slice s4 n4 f4,.slice s5 n5 f5]) (by simp[results,Tryz.results128,go_sem,r0,r1,r2,r3,r4,r5,r6,r7,rf]) rfl ?_;rw[HC.out];refine⟨_,F9',rfl,shdRR.base (vD shdRR (fRa shdRR HO'.out (fun h=>(HF'.out _ h).elim HNB.out (fun h=>oM)) _) (fun h=>by have:=(shdRR.rng HO'.out _ h).1;omega) _ _ _ _ _ _ _ _) oM,?_⟩;exact bset (p:=⟨w.heap.size+2,7,none⟩) (bset (p:=⟨w.heap.size+2,6,none⟩) (bset (p:=⟨w.heap.size+2,5,none⟩) (bset (p:=⟨w.heap.size+2,4,none⟩) (bset (p:=⟨w.heap.size+2,3,none⟩) (bset (p:=⟨w.heap.size+2,2,none⟩) (bset (p:=⟨w.heap.size+2,1,none⟩) (bset (p:=⟨w.heap.size+2,0,none⟩) (bset (p:=⟨B,4,none⟩) hB9 hbB _) hbR _) hbR _) hbR _) hbR _) hbR _) hbR _) hbR _) hbR _
theorem fRe (x y:Value) (d:Shd) (c:Cont) (w:World) (hx:shdR.V w x d) (hy:contR.V w y c) :
  Calls Tryz.prog 89 #[x,y] w (rP w (rO d c)):=by
 have HSf:Hid (bW w fun W=>RI 126 #[x] W (.int .i64 (shdF d))):=fun W hW=>fDb x d W (shdR.below hx hW)
 have HVt:Hid (bW w fun W=>shdF d=0→fA c.id c.legs=0→Calls Tryz.prog 128 #[x,y] W (rP W (mX d c))):=fun W hW h0 h1=>fS4 x y d c W (shdR.below hx hW) (contR.below hy hW) (vP h0) h1
 obtain⟨uy,rfl,hy⟩:=hy;have HCf:Hid (bW w fun W=>RI 86 #[.agg #[.int .i64 c.id,uy]] W (.int .i64 (fA c.id c.legs))):=fun W hW=>uJ c.id uy c.legs W (legsR.below hy hW)
 have HLe:Hid (bW w fun W=>fA c.id c.legs=0→Calls Tryz.prog 127 #[.agg #[.int .i64 c.id,uy],.int .i64 d.idx] W fun e w'=>∃v,e =.returned v∧w'.ownsRow W.heap.size 168 4 v (onSh d.idx c.legs).length (gN (onSh d.idx c.legs))∧Below W.heap.size W w'):=fun W hW hcf=>xJ _ _ _ _ W (legsR.below hy hW) (by have:=fC2 hcf;omega)
 obtain⟨a1,a2,a3,a4,a5,c1,c2,c3,c4,c5,rfl⟩:=fB0 hx;obtain⟨ax,cx,rfl⟩:=kP hy;clear hx hy;have HE0:Hid (¬shdF d=0→rO d c=errH (shdF d)):=fun h=>by unfold rO;rw[if_neg h]
 have HE1:Hid (shdF d=0→¬fA c.id c.legs=0→rO d c=errH (fA c.id c.legs)):=fun h h1=>by unfold rO;rw[if_pos h,if_neg h1]
 have HE2:Hid (shdF d=0→fA c.id c.legs=0→(onSh d.idx c.legs).length=0→rO d c=errH 4):=fun h h1 h2=>by unfold rO;rw[if_pos h,if_pos h1,if_pos h2]
 have HE3:Hid (shdF d=0→fA c.id c.legs=0→¬(onSh d.idx c.legs).length=0→rO d c=mX d c):=fun h h1 h2=>by unfold rO;rw[if_pos h,if_pos h1,if_neg h2]
 generalize d.bals.length=n1 at *;generalize d.votes.length=n2 at *;generalize d.held.length=n3 at *;generalize d.done.length=n4 at *;generalize d.appl.length=n5 at *;generalize c.legs.length=nx at *;generalize rO d c=Z at *;generalize shdF d=sf at *;generalize fA c.id c.legs=cf at *;go_enter Tryz.func89,Tryz.ntmps89;go_wp2_with fail;refine(HSf.out _ qBq).mono ?_;rintro e w1 ⟨rfl,hb1⟩;have hB1:=bT w hb1;have hz1:=hb1.size;simp at hz1;have y0:w1.cell? ⟨w.heap.size,0,none⟩=some (.int .i64 d.idx):=cK hb1 sG;have y1:w1.cell? ⟨w.heap.size,1,none⟩=some (.slice a1 n1 c1):=cK hb1 sG;have y2:w1.cell? ⟨w.heap.size,2,none⟩=some (.slice a2 n2 c2):=cK hb1 sG;have y3:w1.cell? ⟨w.heap.size,3,none⟩=some (.slice a3 n3 c3):=cK hb1 sG;have y4:w1.cell? ⟨w.heap.size,4,none⟩=some (.slice a4 n4 c4):=cK hb1 sG;have y5:w1.cell? ⟨w.heap.size,5,none⟩=some (.slice a5 n5 c5):=cK hb1 sG;have x0:w1.cell? ⟨w.heap.size+1,0,none⟩=some (.int .i64 c.id):=cK hb1 sG;have x1:w1.cell? ⟨w.heap.size+1,1,none⟩=some (.slice ax nx cx):=cK hb1 sG;have r0:w1.cell? ⟨w.heap.size+2,0,none⟩=some (.int .i64 0):=cK hb1 sG;have r1:w1.cell? ⟨w.heap.size+2,1,none⟩=some (.int .i64 0):=cK hb1 sG;have r2:w1.cell? ⟨w.heap.size+2,2,none⟩=some (.int .i64 0):=cK hb1 sG;have r3:w1.cell? ⟨w.heap.size+2,3,none⟩=some (.slice none 0 0):=cK hb1 sG;have r4:w1.cell? ⟨w.heap.size+2,4,none⟩=some (.slice none 0 0):=cK hb1 sG;have r5:w1.cell? ⟨w.heap.size+2,5,none⟩=some (.slice none 0 0):=cK hb1 sG;have r6:w1.cell? ⟨w.heap.size+2,6,none⟩=some (.slice none 0 0):=cK hb1 sG
 have r7:w1.cell? ⟨w.heap.size+2,7,none⟩=some (.slice none 0 0):=cK hb1 sG;have rf:∀o,w1.frozen? ⟨w.heap.size+2,o,none⟩=false:=fun o=>by rw[(bcell hb1).2 _ _ (by simp)];simp[go_sem]
 clear hb1 HSf;by_cases hsf:sf=0;rotate_left
 ·
  have HC:Hid _:=HE0.out hsf;have hsf':(sf !=0)=true:=by simp[hsf]
  go_wp2;refine bodyPost_ret (v:=.agg #[.int .i64 sf,.int .i64 0,.int .i64 0,.slice none 0 0,.slice none 0 0,.slice none 0 0,.slice none 0 0,.slice none 0 0]) (by simp[results,Tryz.results89,go_sem,r0,r1,r2,r3,r4,r5,r6,r7,rf]) rfl (mJ HC.out ?_);exact qS
 have hsf':(sf !=0)=false:=by simp[hsf]
 go_wp2_with fail;refine(HCf.out _ hB1).mono ?_;rintro e w2 ⟨rfl,hb2⟩;have hB2:Below w.heap.size w w2:=bS hB1 hb2;replace y0:=cK hb2 y0;replace y1:=cK hb2 y1;replace y2:=cK hb2 y2;replace y3:=cK hb2 y3;replace y4:=cK hb2 y4;replace y5:=cK hb2 y5;replace x0:=cK hb2 x0;replace x1:=cK hb2 x1;replace r0:=cK hb2 r0;replace r1:=cK hb2 r1;replace r2:=cK hb2 r2;replace r3:=cK hb2 r3;replace r4:=cK hb2 r4;replace r5:=cK hb2 r5;replace r6:=cK hb2 r6;replace r7:=cK hb2 r7;replace rf:∀o,w2.frozen? ⟨w.heap.size+2,o,none⟩=false:=fun o=>by rw[(bcell hb2).2 _ _ oM];exact rf o
 have hz2:=hb2.size;clear HCf hb2;by_cases hcf:cf=0;rotate_left
 ·
  have HC:Hid (Z=errH cf):=HE1.out hsf hcf;have hcf':(cf !=0)=true:=by simp[hcf]
  go_wp2;refine bodyPost_ret (v:=.agg #[.int .i64 cf,.int .i64 0,.int .i64 0,.slice none 0 0,.slice none 0 0,.slice none 0 0,.slice none 0 0,.slice none 0 0]) (by simp[results,Tryz.results89,go_sem,r0,r1,r2,r3,r4,r5,r6,r7,rf]) rfl (mJ HC.out ?_);exact qS
 have hcf':(cf !=0)=false:=by simp[hcf]
 go_wp2_with fail;refine(HLe.out _ hB2 hcf).mono ?_;rintro e w3 ⟨v3,rfl,o3,hb3⟩;obtain⟨a6,c6,rfl⟩:=fD o3;have hB3:Below w.heap.size w w3:=bS hB2 hb3;replace y0:=cK hb3 y0;replace y1:=cK hb3 y1;replace y2:=cK hb3 y2;replace y3:=cK hb3 y3;replace y4:=cK hb3 y4;replace y5:=cK hb3 y5;replace x0:=cK hb3 x0;replace x1:=cK hb3 x1;replace r0:=cK hb3 r0;replace r1:=cK hb3 r1;replace r2:=cK hb3 r2;replace r3:=cK hb3 r3;replace r4:=cK hb3 r4;replace r5:=cK hb3 r5;replace r6:=cK hb3 r6;replace r7:=cK hb3 r7;replace rf:∀o,w3.frozen? ⟨w.heap.size+2,o,none⟩=false:=fun o=>by rw[(bcell hb3).2 _ _ oM];exact rf o
 have hz3:=hb3.size;have HE2':Hid ((onSh d.idx c.legs).length=0→Z=errH 4):=fun h=>HE2.out hsf hcf h
 have HE3':Hid (¬(onSh d.idx c.legs).length=0→Z=mX d c):=fun h=>HE3.out hsf hcf h
 have HVt':Hid (bW w fun W=>Calls Tryz.prog 128 #[.agg #[.int .i64 d.idx,.slice a1 n1 c1,.slice a2 n2 c2,.slice a3 n3 c3,.slice a4 n4 c4,.slice a5 n5 c5],.agg #[.int .i64 c.id,.slice ax nx cx]] W (rP W (mX d c))):=fun W hW=>HVt.out W hW hsf hcf
 clear o3 HE0 HE1 HE2 HE3 HLe HVt hsf hcf hb3;generalize (onSh d.idx c.legs).length=nl at *;by_cases hl:nl=0
 ·
  have HC:Hid (Z=errH 4):=HE2'.out hl;have hl':((nl:Int)==0)=true:=by simp[hl]
  clear HE2' HE3' HVt';go_wp2;refine bodyPost_ret (v:=.agg #[.int .i64 4,.int .i64 0,.int .i64 0,.slice none 0 0,.slice none 0 0,.slice none 0 0,.slice none 0 0,.slice none 0 0]) (by simp[results,Tryz.results89,go_sem,r0,r1,r2,r3,r4,r5,r6,r7,rf]) rfl (mJ HC.out ?_);exact qS
 have HC:Hid (Z=mX d c):=HE3'.out hl;have hl':((nl:Int)==0)=false:=by simpa using hl
 clear HE2' HE3';go_wp2_with fail;refine(HVt'.out _ hB3).mono ?_;rintro e w4 ⟨v4,F4,rfl,o4,hb4⟩;generalize mX d c=VD at *;obtain⟨cd,vt,sd⟩:=VD;obtain⟨p1,p2,p3,p4,p5,m1,m2,m3,m4,m5,q1,q2,q3,q4,q5,rfl⟩:=mD o4;have HO4:Hid (shdRR.O w4 w3.heap.size F4 (.agg #[.int .i64 cd,.int .i64 vt,.int .i64 sd.idx,.slice p1 m1 q1,.slice p2 m2 q2,.slice p3 m3 q3,.slice p4 m4 q4,.slice p5 m5 q5]) ⟨cd,vt,sd⟩):=o4;have hB4:Below w.heap.size w w4:=bS hB3 hb4;replace r0:=cK hb4 r0;replace r1:=cK hb4 r1;replace r2:=cK hb4 r2;replace r3:=cK hb4 r3;replace r4:=cK hb4 r4;replace r5:=cK hb4 r5;replace r6:=cK hb4 r6;replace r7:=cK hb4 r7;replace rf:∀o,w4.frozen? ⟨w.heap.size+2,o,none⟩=false:=fun o=>by rw[(bcell hb4).2 _ _ oM];exact rf o
 clear o4 hb4 HVt';go_wp2;refine bodyPost_ret (v:=.agg #[.int .i64 cd,.int .i64 vt,.int .i64 sd.idx,.slice p1 m1 q1,.slice p2 m2 q2,.slice p3 m3 q3,.slice p4 m4 q4,.slice p5 m5 q5]) (by simp[results,Tryz.results89,go_sem,r0,r1,r2,r3,r4,r5,r6,r7,rf]) rfl ?_;rw[HC.out];refine⟨_,F4,rfl,shdRR.base (vD shdRR HO4.out (fun h=>by have:=(shdRR.rng HO4.out _ h).1;omega) _ _ _ _ _ _ _ _) oM,?_⟩;exact qS
end Go.Proofs.YtpibfdebfacooaaGreat
namespace Go.Proofs.YtpibfdebfacooaaGreat
open Go.RowKit
variable [dQ Rw] [iH Rw] [dQ Bal] [iH Bal] [dQ Ledg] [iH Ledg] [dQ Leg] [iH Leg] [dQ Cont] [iH Cont] [dQ LedgR] [iH LedgR] [dQ OutcR] [iH OutcR] [dQ Mrk] [iH Mrk] [dQ Shd] [iH Shd] [dQ ShdR] [iH ShdR]
theorem fJw {α:Type} [Inhabited α] (f:α→Nat) (M:Nat) (xs:List α) (h:∀k,k<xs.length→f (xs.getD k default)≤M):∀k,k≤xs.length→pF f k xs≤M*k
 | 0,_=>by simp[pF]
 | k+1,hk=>by
  have ih:=fJw f M xs h k oM;rw[xE f k xs oM];have:=h k oM;rw[Nat.mul_succ];omega
theorem fN5 {xs:List Cont} (hn:xs.length≤101) (h:∀k,k<xs.length→(xs.getD k default).legs.length≤8):fA4 xs≤909:=by
 have h1:=fJw fB4 8 xs (fun k hk=>by have:=h k hk;unfold fB4 fDf;omega) xs.length (Nat.le_refl _);unfold fA4 wtL;omega
theorem fTv {d:Shd} (h1:d.bals.length≤100) (h2:d.votes.length≤101) (h3:d.held.length≤101) (h4:d.done.length≤101) (h5:d.appl.length≤101) (h:∀k,k<d.held.length→(d.held.getD k default).legs.length≤8):vY d≤2000:=by
 have:=fN5 h3 h;unfold vY pM fB5 fDe;omega
theorem fTl {xs:List Cont} {c:Cont} (h:∀k,k<xs.length→(xs.getD k default).legs.length≤8) (hc:c.legs.length≤8):∀k,k<(putC xs c).length→((putC xs c).getD k default).legs.length≤8:=fun k hk=>by
 have hp:=fM8 c.id xs;rw[fOz] at hk;unfold putC;rw[fIl xs c _ k hp];unfold insF;split
 ·exact h k oM
 split
 ·exact hc
 exact h (k-1) oM
theorem xZ (c:Int):vT (errH c)=0:=rfl
theorem fV2 (d:Shd) (c:Cont):vT (rO d c)≤2000:=by
 by_cases h0:shdF d=0
 ·
  have ok:=vP h0;have hb:=(tQ (pE ok.base).2).len;have l1:=ok.ls.nv;have l2:=ok.ls.nh;have l3:=ok.ls.nd;have l4:=ok.ls.na;have hl:∀k,k<d.held.length→(d.held.getD k default).legs.length≤8:=fun k hk=>ok.held.len hk
  unfold rO;rw[if_pos h0];by_cases h1:fA c.id c.legs=0
  ·
   rw[if_pos h1];split
   ·rw[xZ];omega
   unfold mX;split
   ·
    split
    ·rw[xZ];omega
    split
    ·exact fTv (d:=⟨d.idx,d.bals,putM d.votes ⟨c.id,1⟩,putC d.held c,d.done,d.appl⟩) (by show d.bals.length≤100;omega) (by show(putM d.votes _).length≤101;rw[fDw];omega) (by show(putC d.held c).length≤101;rw[fOz];omega) (by show d.done.length≤101;omega) (by show d.appl.length≤101;omega) (fTl hl (fC2 h1))
    exact fTv (d:=⟨d.idx,d.bals,putM d.votes ⟨c.id,2⟩,d.held,d.done,d.appl⟩) (by show d.bals.length≤100;omega) (by show(putM d.votes _).length≤101;rw[fDw];omega) (by show d.held.length≤101;omega) (by show d.done.length≤101;omega) (by show d.appl.length≤101;omega) hl
   exact fTv (d:=d) oM oM oM oM oM hl
  rw[if_neg h1,xZ];omega
 unfold rO;rw[if_neg h0,xZ];omega
theorem fRf (x y:Value) (d:Shd) (c:Cont) (w:World) (hx:shdR.V w x d) (hy:contR.V w y c) :
  Calls Tryz.prog 89 #[x,y] w fun e w'=>∃v F,e =.returned v∧shdRR.O w' w.heap.size F v (rO d c)∧Below w.heap.size w w':=fRe x y d c w hx hy
theorem fQk (x y:Value) (d:Shd) (c:Cont) (w:World) (hx:shdR.V w x d) (hy:contR.V w y c) :
  Calls Tryz.prog 145 #[x,y] w fun e w'=>∃v F,e =.returned v∧shdRR.O w' w.heap.size F v (rO d c)∧Below w.heap.size w w':=fQj x y d c w hx hy
end Go.Proofs.YtpibfdebfacooaaGreat
namespace Go.Proofs.YtpibfdebfacooaaGreat
open Go.Shelf
def Tryz.sortK_ren:Go.Shelf.Ren:=⟨fun|6=>242|15=>250|14=>252|28=>263|29=>264|20=>265|21=>266|22=>267|23=>268|24=>269|25=>270|26=>271|27=>272|46=>278|47=>274|48=>275|49=>279|50=>280|57=>282|n=>n,fun|22=>256|24=>254|25=>261|3=>3|39=>174|0=>0|53=>287|55=>173|4=>4|46=>281|45=>280|50=>220|5=>5|9=>9|66=>294|70=>298|76=>302|77=>303|n=>n,fun|n=>n⟩
theorem Tryz.sortK:Go.Proofs.SlLaysF0.n6 Tryz.prog Tryz.sortK_ren:={
 mixed:=kF
 f6:=⟨Tryz.f242.name,by decide,Tryz.func242.trans (congrArg some kF)⟩
 f14:=⟨Tryz.f252.name,by decide,Tryz.func252.trans (congrArg some kF)⟩
 f15:=Tryz.func250.trans (congrArg some kF)
 f20:=⟨Tryz.f265.name,by decide,Tryz.func265.trans (congrArg some kF)⟩
 f21:=⟨Tryz.f266.name,by decide,Tryz.func266.trans (congrArg some kF)⟩
 f22:=⟨Tryz.f267.name,by decide,Tryz.func267.trans (congrArg some kF)⟩
 f23:=⟨Tryz.f268.name,by decide,Tryz.func268.trans (congrArg some kF)⟩
 f24:=⟨Tryz.f269.name,by decide,Tryz.func269.trans (congrArg some kF)⟩
 f25:=⟨Tryz.f270.name,by decide,Tryz.func270.trans (congrArg some kF)⟩
 f26:=⟨Tryz.f271.name,by decide,Tryz.func271.trans (congrArg some kF)⟩
 f27:=⟨Tryz.f272.name,by decide,Tryz.func272.trans (congrArg some kF)⟩
 f28:=Tryz.func263.trans (congrArg some kF)
 f29:=Tryz.func264.trans (congrArg some kF)
 f46:=⟨Tryz.f278.name,by decide,Tryz.func278.trans (congrArg some kF)⟩
 f47:=Tryz.func274.trans (congrArg some kF)
 f48:=Tryz.func275.trans (congrArg some kF)
 f49:=⟨Tryz.f279.name,by decide,Tryz.func279.trans (congrArg some kF)⟩
 f50:=⟨Tryz.f280.name,by decide,Tryz.func280.trans (congrArg some kF)⟩
 f57:=⟨Tryz.f282.name,by decide,Tryz.func282.trans (congrArg some kF)⟩
 t0:=Tryz.underlying0
 a0:=Tryz.isAgg0
 z0:=Tryz.sizeOf0
 v0:=Tryz.zeroValue0
 t3:=Tryz.underlying3
 a3:=Tryz.isAgg3
 z3:=Tryz.sizeOf3
 v3:=Tryz.zeroValue3
 t4:=Tryz.underlying4
 a4:=Tryz.isAgg4
 z4:=Tryz.sizeOf4
 v4:=Tryz.zeroValue4
 t5:=Tryz.underlying5
 a5:=Tryz.isAgg5
 z5:=Tryz.sizeOf5
 v5:=Tryz.zeroValue5
 t9:=Tryz.underlying9
 a9:=Tryz.isAgg9
 z9:=Tryz.sizeOf9
 v9:=Tryz.zeroValue9
 t22:=Tryz.underlying256
 a22:=Tryz.isAgg256
 z22:=Tryz.sizeOf256
 v22:=Tryz.zeroValue256
 t25:=Tryz.underlying261
 a25:=Tryz.isAgg261
 z25:=Tryz.sizeOf261
 v25:=Tryz.zeroValue261
 t39:=Tryz.underlying174
 a39:=Tryz.isAgg174
 z39:=Tryz.sizeOf174
 v39:=Tryz.zeroValue174
 t45:=Tryz.underlying280
 a45:=Tryz.isAgg280
 z45:=Tryz.sizeOf280
 v45:=Tryz.zeroValue280
 t46:=Tryz.underlying281
 a46:=Tryz.isAgg281
 z46:=Tryz.sizeOf281
 v46:=Tryz.zeroValue281
 t50:=Tryz.underlying220
 a50:=Tryz.isAgg220
 z50:=Tryz.sizeOf220
 v50:=Tryz.zeroValue220
 t53:=Tryz.underlying287
 a53:=Tryz.isAgg287
 z53:=Tryz.sizeOf287
 v53:=Tryz.zeroValue287
 t55:=Tryz.underlying173
 a55:=Tryz.isAgg173
 z55:=Tryz.sizeOf173
 v55:=Tryz.zeroValue173
 t66:=Tryz.underlying294
 a66:=Tryz.isAgg294
 z66:=Tryz.sizeOf294
 v66:=Tryz.zeroValue294
 t70:=Tryz.underlying298
 a70:=Tryz.isAgg298
 z70:=Tryz.sizeOf298
 v70:=Tryz.zeroValue298
 t76:=Tryz.underlying302
 a76:=Tryz.isAgg302
 z76:=Tryz.sizeOf302
 v76:=Tryz.zeroValue302
 t77:=Tryz.underlying303
 a77:=Tryz.isAgg303
 z77:=Tryz.sizeOf303
 v77:=Tryz.zeroValue303}
end Go.Proofs.YtpibfdebfacooaaGreat
namespace Go.Proofs.YtpibfdebfacooaaGreat
open Go.RowKit Go.Sort Go.Shelf
variable [dQ Rw] [iH Rw] [dQ Bal] [iH Bal] [dQ Ledg] [iH Ledg] [dQ Leg] [iH Leg] [dQ Cont] [iH Cont]
theorem fX2:SortsK where
 some_:=fun xs g cap base W ho hb hn=>fTz Tryz.sortK_ren Tryz.sortK rfl rfl xs g cap base W ho hb hn
 none_:=fun W=>AnyF.slices_SortFunc_none Tryz.sortK none 0 (.func (.func 229) #[] #[]) W
end Go.Proofs.YtpibfdebfacooaaGreat
namespace Go.Proofs.YtpibfdebfacooaaGreat
open Go.RowKit
theorem PO.put {α:Type} {R:Rep α} {e size:Nat} {lv:Value→List Value} {w w':World} {base:Nat} {v:Value} {n k j:Nat} {d:Nat→α} {cs cs':List Value} {us:Nat→Value} {fs:Nat→Nat→Prop} {u:Value} {x:α} {F':Nat→Prop}
  (h:PO R e size lv w base v n k d cs us fs) (hj:j<k) (hm:Mod (fun b=>v.ownBlock=some b∨fs j b) w w') (hu:R.O w' base F' u x) (hF:∀b,F' b→fs j b∨w.heap.size≤b) (hl:(lv u).length=size)
  (hr:w'.ownsRow base e size v n cs') (hold:∀i,i<k→i≠j→∀o,o<size→cs'[i*size+o]? = cs[i*size+o]?) (hnew:∀o,o<size→cs'[j*size+o]? = (lv u)[o]?) :
  PO R e size lv w' base v n k (upd d j x) cs' (upd us j u) (upd fs j F'):=by
 have hlt:∀b,v.ownBlock=some b→b<w.heap.size:=fun b hb=>(h.row.lt b hb).2
 have hfs:∀i,i<k→∀b,fs i b→b<w.heap.size:=fun i hi b hb=>(R.rng (h.el i hi) b hb).2
 refine⟨hr,?_,?_,?_,?_,?_⟩
 ·
  intro i hi;by_cases hik:i=j
  ·subst hik;rw[kJ,kJ,kJ];exact hu
  rw[upd_ne _ _ hik,upd_ne _ _ hik,upd_ne _ _ hik];exact R.mod (h.el i hi) hm (fun b hb=>by
   rintro(he|he)
   ·exact h.out i hi b hb he
   exact h.sep i j hi hj hik b hb he)
 ·
  intro i hi;by_cases hik:i=j
  ·subst hik;rw[kJ];exact hl
  rw[upd_ne _ _ hik];exact h.ln i hi
 ·
  intro i hi o ho;by_cases hik:i=j
  ·subst hik;rw[kJ];exact hnew o ho
  rw[upd_ne _ _ hik,hold i hi hik o ho];exact h.cell i hi o ho
 ·
  intro i hi b hb he;by_cases hik:i=j
  ·
   subst hik;rw[kJ] at hb;rcases hF b hb with h1|h1
   ·exact h.out i hi b h1 he
   have:=hlt b he;omega
  rw[upd_ne _ _ hik] at hb;exact h.out i hi b hb he
 intro i i' hi hi' hii b h1 h2;by_cases hik:i=j
 ·
  subst hik;rw[kJ] at h1;rw[upd_ne _ _ (Ne.symm hii)] at h2;rcases hF b h1 with h3|h3
  ·exact h.sep i i' hi hi' hii b h3 h2
  have:=hfs i' hi' b h2;omega
 rw[upd_ne _ _ hik] at h1;by_cases hjk:i'=j
 ·
  subst hjk;rw[kJ] at h2;rcases hF b h2 with h3|h3
  ·exact h.sep i i' hi hi' hii b h1 h3
  have:=hfs i hi b h1;omega
 rw[upd_ne _ _ hjk] at h2;exact h.sep i i' hi hi' hii b h1 h2
theorem PO.putS {α:Type} {R:Rep α} {e:Nat} {w w1 w2:World} {base g cap:Nat} {n j:Nat} {d:Nat→α} {cs:List Value} {us:Nat→Value} {fs:Nat→Nat→Prop} {u:Value} {x:α} {F':Nat→Prop}
  (h:PO R e 1 one w base (.slice (some ⟨g,0,none⟩) n cap) n n d cs us fs) (hj:j<n) (hm:Mod (fun b=>fs j b) w w1) (hu:R.O w1 base F' u x) (hF:∀b,F' b→fs j b∨w.heap.size≤b)
  (hr:w2.ownsRow base e 1 (.slice (some ⟨g,0,none⟩) n cap) n (cs.set j u)) (hm2:Mod (fun b=>b=g) w1 w2) :
  PO R e 1 one w2 base (.slice (some ⟨g,0,none⟩) n cap) n n (upd d j x) (cs.set j u) (upd us j u) (upd fs j F'):=by
 have hcl:cs.length=n:=by simpa using h.row.1
 have hg:g<w.heap.size:=(h.row.lt g rfl).2;have hgF:¬F' g:=fun hf=>by
  rcases hF g hf with h1|h1
  ·exact h.out j hj g h1 rfl
  omega
 refine h.put hj (Mod.trans (Mod.mono hm (fun b hb=>Or.inr hb)) (Mod.mono hm2 (fun b hb=>Or.inl (by rw[hb];rfl)))) (R.mod hu hm2 (fun b hb e=>hgF (e▸hb))) hF rfl hr ?_ ?_
 ·intro i hi hij o ho;obtain rfl:o=0:=oM;rw[Nat.mul_one,Nat.add_zero,List.getElem?_set_ne (Ne.symm hij)]
 intro o ho;obtain rfl:o=0:=oM;rw[Nat.mul_one,Nat.add_zero,List.getElem?_set_self oM];rfl
end Go.Proofs.YtpibfdebfacooaaGreat

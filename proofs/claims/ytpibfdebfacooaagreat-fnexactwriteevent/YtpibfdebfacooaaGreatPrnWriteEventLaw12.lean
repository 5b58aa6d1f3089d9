import Derived.Test.YtpibfdebfacooaaGreatPrnWriteEventLaw11
import Derived.Maps.RangeWalk
import Derived.Sort.MapsRangeIn
set_option maxHeartbeats 4000000
set_option maxRecDepth 100000
set_option linter.all false
namespace Go.Proofs.YtpibfdebfacooaaGreat
open Go.RowKit
attribute [local go_sem ↓] Go.wp_at_zero Go.wp_at_succ
attribute [local go_sem] cI iV an
section
open Go.Maps
variable [dQ Bal] [iH Bal] [dQ Ledg] [iH Ledg] [dQ Leg] [iH Leg] [dQ Cont] [iH Cont]
theorem gAj (v:Value) (y:DataW Unit × List MemPlace) (h:plainElem Tryz.prog 2 v=some y):∃c:Int,v=(fun c=>Value.int .i64 c) c:=by
 obtain⟨c,rfl,_⟩:=plainElem_int_inv Tryz.underlying2 h;exact⟨c,rfl⟩
theorem gA9 (key:Value) (kl:Lit) (h:keyOf Tryz.prog 254 key=some kl):∃x:Int × Int × Int,key=(fun x:Int × Int × Int=>Value.agg #[iV x.1,iV x.2.1,iV x.2.2]) x:=by
 obtain⟨s,a,t,rfl,_⟩:=fLz h;exact⟨(s,a,t),rfl⟩
end
section
open Go.Shelf Go.Maps
variable [dQ Bal] [iH Bal] [dQ Ledg] [iH Ledg] [dQ Leg] [iH Leg] [dQ Cont] [iH Cont]
attribute [local go_sem] Oper.semAt_some
def KOk (f:Int→Int→Int→Option Int) (ys:List K3):Prop:=ys.Nodup∧∀x ∈ ys,(f x.1 x.2.1 x.2.2).isSome=true
def KDn (f:Int→Int→Int→Option Int) (ys:List K3):Prop:=KOk f ys∧∀s a t,kwf s a t→(f s a t).isSome=true→(s,a,t) ∈ ys
def KLeft (f:Int→Int→Int→Option Int) (pre:List K3) (left:Lit→Bool):Prop:=KOk f pre∧∀s a t kl,keyOf Tryz.prog 254 (kv s a t)=some kl→(left kl=true↔((f s a t).isSome=true∧(s,a,t) ∉ pre))
theorem KLeft.step {f:Int→Int→Int→Option Int} {pre:List K3} {left:Lit→Bool} (h:KLeft f pre left) {s a t:Int} {kl:Lit} (hk:keyOf Tryz.prog 254 (kv s a t)=some kl) (hl:left kl=true) :
  KOk f (pre++[(s,a,t)])∧KLeft f (pre++[(s,a,t)]) (fun z=>left z && !z.sameKey kl):=by
 obtain⟨j,k⟩:=(h.2 s a t kl hk).1 hl;have l:KOk f (pre++[(s,a,t)]):=by
  refine⟨List.nodup_append.2 ⟨h.1.1,by simp,fun x g y hy e=>?_⟩,fun x g=>?_⟩
  ·rw[List.mem_singleton] at hy;rw[hy] at e;rw[e] at g;exact k g
  rcases List.mem_append.1 g with g|g
  ·exact h.1.2 x g
  rw[List.mem_singleton.1 g];exact j
 refine⟨l,l,fun q a' r m d=>?_⟩;have h0:=h.2 q a' r m d;by_cases e:m=kl
 ·subst e;obtain⟨rfl,rfl,rfl⟩:=fQd (holdLaw.inj d hk);simp[WideAt.sameKey_self (holdLaw.key hk)]
 have n:¬((q,a',r)=(s,a,t)):=fun A=>by
  simp only[Prod.mk.injEq] at A;obtain⟨rfl,rfl,rfl⟩:=A;rw[hk] at d;exact e (by simpa using d.symm)
 simp only[sameKey_ne e,Bool.not_false,Bool.and_true,List.mem_append,List.mem_singleton];rw[h0];constructor
 ·rintro⟨h1,h2⟩;exact⟨h1,fun p=>p.elim h2 n⟩
 rintro⟨h1,h2⟩;exact⟨h1,fun p=>h2 (.inl p)⟩
theorem fSv {w w':World} {b r n:Nat} {D:DataW Unit} {left:Lit→Bool} {cnt:Nat} {F:Nat→Prop} (h:w.ranges Tryz.prog 254 (plainElem Tryz.prog 2) b r n D left cnt) (hm:Mod F w w') (hb:¬F b) (hr:¬F r):w'.ranges Tryz.prog 254 (plainElem Tryz.prog 2) b r n D left cnt:=by
 have j:=h.owns.lt;have k:=h.lt;obtain⟨l,d,e,g,m,h1,h2,p,q,s,x⟩:=h;exact⟨l,d,e,g,m,(hm.block b j hb).trans h1,h2,p,q,(hm.block r k hr).trans s,x⟩
theorem fU2 (Bs b m:Nat) (f:Int→Int→Int→Option Int) (R:Nat→Prop) (w:World) (hB:w.cell? ⟨Bs,0,none⟩=some (.map (some b))) (hRB:R Bs) (hRb:R b) (hRw:∀i,R i→i<w.heap.size) (hbk:Book w b m f) :
  Seqy Tryz.prog 243 #[.pointer (some ⟨Bs,0,none⟩)] encK (KOk f) (KDn f) R w:=by
 intro l J Jx W X hm F hJ aw hY h0;have a7:=hm.cell hB (fun h=>h hRB);have a8:Book W b m f:=hbk.turned hm (fun h=>h hRb);have ax:=hm.size;clear hbk hB;obtain⟨D,hD,h1⟩:=a8;have H1:Hid (∀s a t j,keyOf Tryz.prog 254 (kv s a t)=some j→Maps.has D j=(f s a t).isSome∧D.atKey j (.lit (.int .i64 0)) =.lit (.int .i64 ((f s a t).getD 0))):=h1;clear h1;have K:Hid (∀i,R i→i<w.heap.size):=hRw;clear hRw;refine callsIn_of_wp Tryz.func243 rfl trivial ?_ rfl;simp only[Tryz.ntmps243,List.size_toArray,List.length_cons,List.length_nil,Nat.reduceAdd,Nat.reduceSub,Array.replicate_succ,Array.replicate_zero,List.push_toArray,List.append_toArray,List.nil_append,List.cons_append];gi_wp2_with (gi_at_range;refine wpListIn_range_own _ rfl _ 225 rfl 254 2 holdLaw Tryz.underlying225 _ b m D rfl hD ?_;intro w0 k L a9);go_frame;have ay:Hid (b<w.heap.size):=K.out b hRb;obtain⟨r,hr⟩:∃r,W.heap.size=r:=⟨_,rfl⟩
 have az:Hid (W.heap.size=r):=hr;have aA:w.heap.size≤r:=oM;have M:J [] w0 (fun i=>X i∨i=r):=hJ _ _ _ X _ h0 ((Mod.of_grown L).mono (fun i e=>by cases e)) (fun i h=>.inl h) (fun i h=>by
  rcases h with h|h
  ·exact⟨.inl h,by have:=F i h;omega⟩
  exact⟨.inr oM,by omega⟩)
 have N:∀i,(X i∨i=r)→i<w0.heap.size:=fun i h=>by
  rcases h with h|h
  ·have:=F i h;omega
  omega
 rw[hr] at k ⊢;clear hr h0 L a9 a7 hD F;have O:KLeft f [] (Maps.has D):=⟨⟨List.nodup_nil,fun x h=>by cases h⟩,fun s a t j I=>by rw[(H1.out s a t j I).1];simp⟩;gi_loopw [6] (fun _ wr=>∃(d:List K3) (left:Lit→Bool) (n:Nat),Hid (J d wr (fun i=>X i∨i=r))∧wr.ranges (H:=Unit) Tryz.prog 254 (plainElem Tryz.prog 2) b r m D left n∧Hid (KLeft f d left)∧Hid (∀i,(X i∨i=r)→i<wr.heap.size)) (fun _ wr=>wr.rangeLeft b r)
 case atStart=>exact⟨[],_,_,M,k,O,N⟩
 obtain⟨d,left,n,HJ,T,HK,A⟩:=hrel;clear M N k O;gi_wp2_with (gi_at_next;refine wpListIn_next_ranges _ rfl _ rfl 254 holdLaw _ (fun x:Int × Int × Int=>Value.agg #[.int .i64 x.1,.int .i64 x.2.1,.int .i64 x.2.2]) (fun c:Int=>Value.int .i64 c) gA9 gAj b r m D left n rfl T ?_ ?_)
 ·intro _ ab;gi_wp2;go_end0;refine⟨⟨_,rfl⟩,_,fun i h=>.inl h,.inl ⟨d,⟨HK.out.1,fun s a t hw hs=>?_⟩,HJ.out⟩⟩;obtain⟨j,I⟩:=fAn hw;apply Classical.byContradiction;intro hn;have:=(HK.out.2 s a t j I).2 ⟨hs,hn⟩;rw[ab j] at this;cases this
 intro s a t c j y1 y2 G g I U hv ac B V Y aB aC;obtain⟨Z,p⟩:=HK.out.step (s:=s) (a:=a) (t:=t) I U;have a0:Mod (fun i=>X i∨i=r) _ G:=(Mod.of_grown Y).mono (fun i e=>.inr (by simpa using e.symm));have a1:J d G (fun i=>X i∨i=r):=hJ _ _ _ _ _ HJ.out a0 (fun _ h=>h) (fun i h=>⟨.inl h,by have:=A.out i h;omega⟩);have ad:J d (G.alloc (.cells #[.int .i64 s,.int .i64 a,.int .i64 t] 254)) (fun i=>X i∨i=r):=hJ _ _ _ _ _ a1 (vT _ _ _) (fun _ h=>h) (fun i h=>⟨.inl h,by have:=A.out i h;simp;omega⟩);obtain⟨fn,au,a6,av,hy,ae⟩:=hY _ (s,a,t) _ _ ad (fun i h=>.inl h) (fun i h=>by have:=A.out i h;simp;omega) Z;unfold encK kv at hy;dsimp only at hy;have a2:Hid (KLeft f (d++[(s,a,t)]) (fun z=>left z && !z.sameKey j)):=p;have HM:Hid (G.rangeLeft b r<0+n∨True):=.inr trivial;have q:Hid (G.ranges (H:=Unit) Tryz.prog 254 (plainElem Tryz.prog 2) b r m D (fun z=>left z && !z.sameKey j) g):=B;have af:Hid (g<n):=V;have a3:=T.left_eq;clear p Z I U hv ac B V Y a0 a1;have ag:r<G.heap.size:=q.out.lt;have ak:b<G.heap.size:=q.out.owns.lt;have aD:¬R r:=fun h=>by have:=K.out r h;omega
 gi_wp2
 refine⟨rfl,ae.mono ?_⟩;rintro e W3 (⟨rfl,a4,y⟩|⟨rfl,C,y⟩)
 ·
  have E:W3.ranges (H:=Unit) Tryz.prog 254 (plainElem Tryz.prog 2) b r m D (fun z=>left z && !z.sameKey j) g:=fSv (q.out.alloc _) y (fun h=>h (.inl hRb)) (fun h=>h (.inr (.inr rfl)));have al:=y.size;simp only[World.size_alloc] at al;have am:Hid (∀i,(X i∨i=r)→i<W3.heap.size):=fun i h=>by have:=A.out i h;omega
  have ao:Hid (J (d++[(s,a,t)]) W3 (fun i=>X i∨i=r)):=a4;have ar:=E.left_eq;clear a4 y;gi_wp2;go_roundw
  case rel=>exact⟨d++[(s,a,t)],_,g,ao,E,a2,am⟩
  case measure=>
   rw[ar,a3];exact af.out
 have a5:Hid (Jx (d++[(s,a,t)]) W3 (fun i=>X i∨i=r)):=C;clear C y;gi_wp2;refine bodyPost_ret (results_none rfl _ _ _) rfl ?_;exact⟨⟨_,rfl⟩,_,fun i h=>.inl h,.inr ⟨_,a2.out.1,a5.out⟩⟩
end
section
open Go.Sort Go.Shelf
variable [dQ Rw] [iH Rw] [dQ Bal] [iH Bal] [dQ Ledg] [iH Ledg] [dQ Leg] [iH Leg] [dQ Cont] [iH Cont]
structure SortsK:Prop where
 some_:∀(xs:List K3) (g cap base:Nat) (W:World),W.ownsRow base 254 3 (.slice (some ⟨g,0,none⟩) xs.length cap) xs.length (zV xs)→base≤W.heap.size→xs.length≤200 →
  Calls Tryz.prog 242 #[.slice (some ⟨g,0,none⟩) xs.length cap,.func (.func 229) #[] #[]] W fun e w'=>e =.returned (.tuple #[])∧∃ys:List K3,ys.Perm xs∧ys.Pairwise (fun p q=>ltOf cfK q p=false)∧(∀i,i<ys.length→yU w' g (i*3) (ys.getD i default))∧Go.RowKit.Below base W w'
 none_:∀W:World,Calls Tryz.prog 242 #[.slice none 0 0,.func (.func 229) #[] #[]] W fun e w'=>e =.returned (.tuple #[])∧w'=W
def fZ1 (w:World) (v:Value) (ys:List K3):Prop:=∃a c,v =.slice a ys.length c∧∀i,i<ys.length→∃g,a=some ⟨g,0,none⟩∧yU w g (i*3) (ys.getD i default)
theorem fHe (hS:SortsK) (gf:Nat) (lb:Array Value) (Ok Dn:List K3→Prop) (R:Nat→Prop) (w:World) (eg:∀args w,(callFunc gf args).run Tryz.prog w =.ok (.enter gf args) w) (hseq:Seqy Tryz.prog gf lb encK Ok Dn R w) (hR:∀b,R b→b<w.heap.size) (hlen:∀ys,Ok ys→ys.length≤200) (hdl:∀ys,Dn ys→ys.length≤200) :
  cL 227 #[.func (.func gf) #[] lb,.func (.func 229) #[] #[]] w fun e w'=>∃v xs ys,e =.returned v∧Dn xs∧ys.Perm xs∧ys.Pairwise (fun p q=>ltOf cfK q p=false)∧fZ1 w' v ys∧Go.RowKit.Below w.heap.size w w':=by
 have z:=fK8 gf lb Ok Dn R w eg hseq hR hlen;have A:Hid SortsK:=hS;have l:Hid (∀ys,Dn ys→ys.length≤200):=hdl;clear eg hseq hS hdl hlen;go_enter Tryz.func227,Tryz.ntmps227;go_wp2_with fail;refine z.mono ?_;rintro e B ⟨v,xs,rfl,j,m,hb⟩;clear z;have C:=l.out xs j;rcases m.2 with ⟨rfl,k⟩|⟨g,cap,_,rfl,_⟩
 ·have F:xs=[]:=List.eq_nil_of_length_eq_zero k;subst F;go_wp2_with fail;refine(A.out.none_ B).mono ?_;rintro e r ⟨rfl,s⟩;obtain rfl:=s.symm;go_wp2;go_ret;exact⟨_,[],[],rfl,j,List.Perm.refl _,List.Pairwise.nil,⟨none,0,rfl,fun i h=>absurd h (Nat.not_lt_zero _)⟩,hb⟩
 have d:=A.out.some_ xs g cap w.heap.size B m hb.size C;obtain⟨n,k⟩:∃n,n=xs.length:=⟨_,rfl⟩
 rw[←k] at d ⊢;have G:Hid (xs.length=n):=k.symm;clear k m C;go_wp2_with fail;refine d.mono ?_;rintro e r ⟨rfl,ys,D,H,E,x⟩;clear d;have I:Hid (fZ1 r (.slice (some ⟨g,0,none⟩) n cap) ys):=⟨_,_,by rw[D.length_eq,G.out],fun i J=>⟨g,rfl,E i J⟩⟩;have y:Go.RowKit.Below w.heap.size w r:=hb.trans x;clear E;go_wp2;go_ret;exact⟨_,xs,ys,rfl,j,D,H,I.out,y⟩
theorem fSi (w:World) (b:Nat) :
  cL 228 #[.map (some b)] w fun e w'=>e =.returned (.func (.func 243) #[] #[an w.heap.size])∧Go.RowKit.Below w.heap.size w w'∧w'.cell? ⟨w.heap.size,0,none⟩=some (.map (some b)):=by
 go_enter Tryz.func228,Tryz.ntmps228;go_wp2;go_ret;exact⟨rfl,bA (bR _ _) _,by simp[go_sem]⟩
end
section
variable [dQ Leg] [iH Leg]
def onSh (s:Int) (xs:List Leg):List Leg:=xs.filter (fun l=>l.sh==s)
theorem fQn (s:Int) (xs:List Leg) (k:Nat) (h:k<xs.length) (hs:(xs.getD k default).sh=s):onSh s (xs.take (k+1))=onSh s (xs.take k)++[xs.getD k default]:=by
 rw[tF xs k h];simp only[onSh,List.filter_append];simp only[List.filter_cons,List.filter_nil,hs,beq_self_eq_true,if_true]
theorem fMe (s:Int) (xs:List Leg) (k:Nat) (h:k<xs.length) (hs:¬(xs.getD k default).sh=s):onSh s (xs.take (k+1))=onSh s (xs.take k):=by
 rw[tF xs k h];simp only[onSh,List.filter_append,List.filter_cons,List.filter_nil,beq_eq_false_iff_ne.2 hs];simp
theorem fVj (s:Int) (xs:List Leg) (k:Nat):(onSh s (xs.take k)).length≤k:=by
 have:=List.length_filter_le (fun l:Leg=>l.sh==s) (xs.take k);have h2:=List.length_take_le k xs;simp only[onSh];omega
theorem fIf (xs:List Leg) (l:Leg):gT (xs++[l])=gT xs++legC l:=by simp[gT]
theorem fQf (l:Leg):∀u ∈ legC l,u.oneCell'=true:=by
 intro u d;simp only[legC,List.mem_cons,List.not_mem_nil,or_false] at d;rcases d with rfl|rfl|rfl|rfl <;> rfl
theorem fIe {w:World} {b o:Nat} {l:Leg} (h:mM w b o l):∀j u,(legC l)[j]? = some u→w.cell? ((⟨b,o,none⟩:Addr).add j)=some u:=by
 obtain⟨h0,h1,h2,e⟩:=h;intro j u d;match j,d with
 | 0,d=>simp[legC] at d;subst d;simpa [Addr.add] using h0
 | 1,d=>simp[legC] at d;subst d;simpa [Addr.add] using h1
 | 2,d=>simp[legC] at d;subst d;simpa [Addr.add] using h2
 | 3,d=>simp[legC] at d;subst d;simpa [Addr.add] using e
 | j+4,d=>simp[legC] at d
theorem uB {w w':World} {B:Nat} {base e size:Nat} {v:Value} {n:Nat} {xs:List Value} (h:w.ownsRow base e size v n xs) {W:World} (hb:Below B W w) (hB:B≤w.heap.size) (hbase:B≤base) (hg:w.grownBy w' v.ownBlock):Below B W w':=
 hb.grown hg hB (fun k d=>Nat.le_trans hbase (h.lt k d).1)
theorem yA (x:Value) (xs:List Leg) (s:Int) (w:World) (hx:uU w x xs) (hn:xs.length≤1048576) :
  cL 192 #[x,.int .i64 s] w fun e w'=>∃v,e =.returned v∧w'.ownsRow w.heap.size 168 4 v (onSh s xs).length (gT (onSh s xs))∧aa w w':=by
 obtain⟨ax,cx,rfl,L,z,hx⟩:=hx;unfold maxLen at z;obtain⟨M,N,A,B,C⟩:=info_parts fC3;generalize r:xs.length=n at *;have J:Hid (xs.length=n):=r;clear r;go_enter Tryz.func192,Tryz.ntmps192;go_wp2;go_loopw [5,10] (fun v i w'=>∃k:Nat,k≤n∧i =.int .i64 k∧w'.ownsRow w.heap.size 168 4 v (onSh s (xs.take k)).length (gT (onSh s (xs.take k)))∧aa w w') (fun _ i _=>n-(intOf i).toNat)
 case atStart=>exact⟨0,oM,rfl,by simpa [onSh,gT] using World.ownsRow_nil _ _ _ _,bR _ _⟩
 obtain⟨k,hk,rfl,p,d⟩:=hrel;by_cases D:k<n
 ·
  obtain⟨bx,ox,rfl,K⟩:=hx k D;obtain⟨l,E⟩:∃l,l=xs.getD k default:=⟨_,rfl⟩
  rw[←E] at K;have F:Hid (l=xs.getD k default):=E;clear E hx;obtain⟨O,R,T,U⟩:=fJ d K;have y:k<xs.length:=by have:=J.out;omega
  have V:=fVj s xs k;have X:=d.size;by_cases j:l.sh=s
  ·
   have q:=fQn s xs k y (by rw[←F.out];exact j);rw[←F.out] at q;have G:Hid (onSh s (xs.take (k+1))=onSh s (xs.take k)++[l]):=q;have HS:Hid (l.sh=s):=j;have Y:(l.sh==s)=true:=by simpa using j
   generalize onSh s (xs.take k)=ys at *;clear q j;go_wp2_with (at_builtin;refine wpList_append_own _ rfl _ _ 55 rfl w.heap.size 168 M _ 4 32 Tryz.underlying55 N A B C rfl (by decide) _ _ _ rfl ((p.alloc _).alloc _) ⟨wr.heap.size+1,0,none⟩ 1 1 (legC l) rfl rfl ?c1 (fQf l) ?c3 ?c4 ?c5 ?_)
   case c1=>exact fIe (b:=wr.heap.size+1) (o:=0) ⟨sG,by simp[go_sem],sG,by simp[go_sem]⟩
   case c3=>unfold maxLen;omega
   case c4=>omega
   case c5=>simp;omega
   intro v' Z m g _;have H:aa w Z:=uB ((p.alloc _).alloc _) (bA (bA d _) _) (by simp;omega) (Nat.le_refl _) g;clear g p O R T U;go_wp2;refine⟨⟨k+1,by omega,by go_num,?_,H⟩,mI⟩;rw[G.out,fIf,List.length_append];exact m
  have q:=fMe s xs k y (by rw[←F.out];exact j);have G:Hid (onSh s (xs.take (k+1))=onSh s (xs.take k)):=q;have Y:(l.sh==s)=false:=by simpa using j
  clear q j;go_wp2;refine⟨⟨k+1,by omega,by go_num,?_,bA d _⟩,mI⟩;rw[G.out];exact p.alloc _
 go_wp2;go_ret;have I:k=n:=oM;subst I;have t0:xs.take k=xs:=by rw[←J.out];exact List.take_length
 rw[t0] at p;exact⟨_,rfl,p,d⟩
theorem xZ (id:Int) (x:Value) (xs:List Leg) (s:Int) (w:World) (hx:uU w x xs) (hn:xs.length≤1048576) :
  cL 127 #[.agg #[.int .i64 id,x],.int .i64 s] w fun e w'=>∃v,e =.returned v∧w'.ownsRow w.heap.size 168 4 v (onSh s xs).length (gT (onSh s xs))∧aa w w':=by
 obtain⟨O,C,rfl,U,D,hx⟩:=hx;unfold maxLen at D;obtain⟨V,X,E,m,F⟩:=info_parts fC3;generalize A:xs.length=n at *;have R:Hid (xs.length=n):=A;clear A;go_enter Tryz.func127,Tryz.ntmps127;go_wp2;go_loopw [5,6] (fun v i w'=>∃k:Nat,k≤n∧i =.int .i64 k∧w'.ownsRow (w.heap.size+1) 168 4 v (onSh s (xs.take k)).length (gT (onSh s (xs.take k)))∧w'.cell? ⟨w.heap.size,1,none⟩=some (.slice O n C)∧w.heap.size+1≤w'.heap.size∧aa w w') (fun _ i _=>n-(intOf i).toNat)
 case atStart=>
  refine⟨0,oM,rfl,?_,by simp[go_sem],by simp,bA (bA (bR _ _) _) _⟩;have:=World.ownsRow_lit (base:=w.heap.size+1) (e:=168) (size:=4) (w.alloc (.cells #[.int .i64 id,.slice O n C] 57)) #[] 0 (by simp) (by unfold maxLen;omega) rfl;simpa [onSh,gT] using this
 obtain⟨k,hk,rfl,p,q,G,g⟩:=hrel;by_cases H:k<n
 ·
  obtain⟨Y,Z,rfl,T⟩:=hx k H;obtain⟨l,I⟩:∃l,l=xs.getD k default:=⟨_,rfl⟩
  rw[←I] at T;have J:Hid (l=xs.getD k default):=I;clear I hx;obtain⟨a1,a2,a3,a4⟩:=fJ g T;have B:k<xs.length:=by have:=R.out;omega
  have a0:=fVj s xs k;by_cases y:l.sh=s
  ·
   have z:=fQn s xs k B (by rw[←J.out];exact y);rw[←J.out] at z;have K:Hid (onSh s (xs.take (k+1))=onSh s (xs.take k)++[l]):=z;have hd:(l.sh==s)=true:=by simpa using y
   generalize onSh s (xs.take k)=ys at *;clear z y;go_wp2_with (at_builtin;refine wpList_append_own _ rfl _ _ 55 rfl (w.heap.size+1) 168 V _ 4 32 Tryz.underlying55 X E m F rfl (by decide) _ _ _ rfl (p.alloc _) ⟨wr.heap.size,0,none⟩ 1 1 (legC l) rfl rfl ?c1 (fQf l) ?c3 ?c4 ?c5 ?_)
   case c1=>exact fIe (b:=wr.heap.size) (o:=0) ⟨sG,by simp[go_sem],sG,by simp[go_sem]⟩
   case c3=>unfold maxLen;omega
   case c4=>omega
   case c5=>simp;omega
   intro v' L r d _;have hz:w.heap.size<wr.heap.size:=wL _ _ q;have M:aa w L:=uB (p.alloc _) (bA g _) (by simp;omega) oM d;have j:L.cell? ⟨w.heap.size,1,none⟩=some (.slice (some ⟨Y,Z,none⟩) n C):=by
    refine d.cell (cK (bA (bR _ _) _) q) ?_;intro h;have:=(p.alloc (.cells #[.int .i64 l.sh,.int .i64 l.ac,.int .i64 l.ast,.int .i64 l.am] 168)).lt _ h.symm;simp at this;omega
   have m:w.heap.size+1≤L.heap.size:=wL _ _ j;clear d p a1 a2 a3 a4;go_wp2;refine⟨⟨k+1,by omega,by go_num,?_,j,m,M⟩,mI⟩;rw[K.out,fIf,List.length_append];exact r
  have z:=fMe s xs k B (by rw[←J.out];exact y);have K:Hid (onSh s (xs.take (k+1))=onSh s (xs.take k)):=z;have hd:(l.sh==s)=false:=by simpa using y
  clear z y;go_wp2;refine⟨⟨k+1,by omega,by go_num,?_,q,G,g⟩,mI⟩;rw[K.out];exact p
 go_wp2;go_ret;have N:k=n:=oM;subst N;have t0:xs.take k=xs:=by rw[←R.out];exact List.take_length
 rw[t0] at p;exact⟨_,rfl,qI p oM,g⟩
variable [dQ Bal] [iH Bal] [dQ Ledg] [iH Ledg]
def qK (a t v:Int) (st:List Bal × Bool) (b:Bal):List Bal × Bool:=
 if b.ac=a∧b.ast=t then st else if st.2=false∧a*3+t<b.ac*3+b.ast then (st.1++[⟨a,t,v⟩]++[b],true) else (st.1++[b],st.2)
def uR (a t v:Int) (xs:List Bal) (k:Nat):List Bal × Bool:=(xs.take k).foldl (qK a t v) ([],decide (v=0))
def setB (a t v:Int) (xs:List Bal):List Bal:=if (uR a t v xs xs.length).2 then (uR a t v xs xs.length).1 else (uR a t v xs xs.length).1++[⟨a,t,v⟩]
theorem fDd (a t v:Int) (xs:List Bal) {k:Nat} (h:k<xs.length):uR a t v xs (k+1)=qK a t v (uR a t v xs k) (xs.getD k default):=by
 unfold uR;rw[fQ0 xs k h,List.foldl_append];rfl
theorem fKj (a t v:Int) (xs:List Bal):∀k,k≤xs.length→(uR a t v xs k).1.length≤2*k
 | 0,_=>by simp[uR]
 | k+1,h=>by
  have ih:=fKj a t v xs k oM;rw[fDd a t v xs oM];unfold qK;split
  ·omega
  split
  ·simp only[List.length_append,List.length_cons,List.length_nil];omega
  simp only[List.length_append,List.length_cons,List.length_nil];omega
theorem xS (ys:List Bal) (x:Bal):mD (ys++[x])=mD ys++balC x:=by simp[mD]
theorem fAf (x:Bal):∀u ∈ balC x,u.oneCell'=true:=by
 intro u d;simp only[balC,List.mem_cons,List.not_mem_nil,or_false] at d;rcases d with rfl|rfl|rfl <;> rfl
theorem xR {w:World} {b o:Nat} {x:Bal} (h:uX w b o x):∀j u,(balC x)[j]? = some u→w.cell? ((⟨b,o,none⟩:Addr).add j)=some u:=by
 obtain⟨h0,h1,h2⟩:=h;intro j u d;match j,d with
 | 0,d=>simp[balC] at d;subst d;simpa [Addr.add] using h0
 | 1,d=>simp[balC] at d;subst d;simpa [Addr.add] using h1
 | 2,d=>simp[balC] at d;subst d;simpa [Addr.add] using h2
 | j+3,d=>simp[balC] at d
theorem fU9 (x:Value) (xs:List Bal) (a t v:Int) (w:World) (hx:balsR.V w x xs) (hn:xs.length≤1000000) (hk:rR a t=true) (hks:∀k,k<xs.length→rR (xs.getD k default).ac (xs.getD k default).ast=true) :
  cL 185 #[x,.int .i64 a,.int .i64 t,.int .i64 v] w fun e w'=>∃u F,e =.returned u∧balsR.O w' w.heap.size F u (setB a t v xs)∧aa w w':=by
 obtain⟨ax,cx,rfl,af,a5,hx⟩:=hx;unfold maxLen at a5;obtain⟨i0,hi,H,I,J⟩:=info_parts fBc;have a6:Hid (∀k,k<xs.length→rR (xs.getD k default).ac (xs.getD k default).ast=true):=hks;obtain⟨⟨q1,q2⟩,q3,q4⟩:=keyOk_iff.1 hk;clear hks hk;generalize Z:xs.length=n at *;have HN:Hid (xs.length=n):=Z;clear Z;have v1:IntKind.i64.wrap (a*3)=a*3:=qY oM oM;have v2:IntKind.i64.wrap (a*3+t)=a*3+t:=qY oM oM;have ag:(v==0)=decide (v=0):=by by_cases h:v=0 <;> simp[h]
 go_enter Tryz.func185,Tryz.ntmps185;go_wp2;go_loopw [9,10,11] (fun u d i w'=>∃k:Nat,k≤n∧i =.int .i64 k∧d =.bool (uR a t v xs k).2∧w'.ownsRow w.heap.size 103 3 u (uR a t v xs k).1.length (mD (uR a t v xs k).1)∧aa w w') (fun _ _ i _=>n-(intOf i).toNat)
 case atStart=>
  refine⟨0,oM,rfl,by simp[uR],?_,hE⟩;have:=World.ownsRow_lit (base:=w.heap.size) (e:=103) (size:=3) w #[] 0 (by simp) (by unfold maxLen;omega) rfl;simpa [uR,mD] using this
 obtain⟨k,hk,rfl,rfl,r,y⟩:=hrel;have K:=fKj a t v xs k (by rw[HN.out];exact hk);by_cases T:k<n
 ·
  obtain⟨bx,ox,rfl,g1⟩:=hx k T;have A:Hid (uR a t v xs (k+1)=qK a t v (uR a t v xs k) (xs.getD k default)):=fDd a t v xs (by rw[HN.out];exact T);have a0:=a6.out k T;obtain⟨l,hl⟩:∃l,l=xs.getD k default:=⟨_,rfl⟩
  rw[←hl] at g1 A a0;clear hl hx;obtain⟨⟨p1,p2⟩,p3,p4⟩:=keyOk_iff.1 a0;obtain⟨U,D⟩:∃U,U=uR a t v xs k:=⟨_,rfl⟩
  rw[←D] at r A K ⊢;clear D;obtain⟨ys,R⟩:=U;dsimp only at r K ⊢;obtain⟨a1,a2,a3⟩:=kJ y g1;have v3:IntKind.i64.wrap (l.ac*3)=l.ac*3:=qY oM oM;have v4:IntKind.i64.wrap (l.ac*3+l.ast)=l.ac*3+l.ast:=qY oM oM;have a7:=y.size;by_cases L:l.ac=a∧l.ast=t
  ·
   have M:Hid (uR a t v xs (k+1)=(ys,R)):=by show _=_;rw[A.out,qK,if_pos L]
   have m1:(l.ac==a)=true:=by simpa using L.1
   have m2:(l.ast==t)=true:=by simpa using L.2
   clear L;go_wp2;refine⟨⟨k+1,by omega,by go_num,?_,?_,hE⟩,mI⟩
   ·rw[M.out]
   rw[M.out];exact r.alloc _
  have a4:(l.ac==a&&l.ast==t)=false:=by simp;intro e1 e2;exact L ⟨e1,e2⟩
  by_cases p:R=false∧a*3+t<l.ac*3+l.ast
  ·
   obtain⟨rfl,p⟩:=p;have M:Hid (uR a t v xs (k+1)=(ys++[⟨a,t,v⟩]++[l],true)):=by show _=_;rw[A.out,qK,if_neg L,if_pos ⟨rfl,p⟩]
   obtain⟨s,q⟩:∃s:Bal,s=⟨a,t,v⟩:=⟨_,rfl⟩
   rw[←q] at M;have n1:s.ac=a:=by rw[q]
   have n2:s.ast=t:=by rw[q]
   have n3:s.am=v:=by rw[q]
   clear q A L;cases e1:(l.ac==a);all_goals (try (have e2:(l.ast==t)=false:=by(simpa [e1] using a4)))
   all_goals
    go_wp2_with (at_builtin;refine wpList_append_own _ rfl _ _ 30 rfl w.heap.size 103 i0 _ 3 24 Tryz.underlying30 hi H I J rfl (by decide) _ _ _ rfl ((r.alloc _).alloc _) ⟨wr.heap.size+1,0,none⟩ 1 1 (balC s) rfl rfl ?c1 (fAf s) ?c3 ?c4 ?c5 ?_)
    case c1=>
     intro j u E;first
     | exact E
     | (refine xR (b:=wr.heap.size+1) (o:=0) ?_ j u E;exact⟨by simp[go_sem,n1],by simp[go_sem,n2],by simp[go_sem,n3]⟩)
    case c3=>unfold maxLen;omega
    case c4=>omega
    case c5=>first|omega|(simp;omega)
    intro v' N m g _;have C:aa w N:=uB ((r.alloc _).alloc _) (bA (bA y _) _) (by simp;omega) (Nat.le_refl _) g;have a8:∀u,some wr.heap.size≠Value.ownBlock u∨True:=fun _=>.inr trivial
    clear a8;have a9:uX N wr.heap.size 0 l:=by
     have hq:∀o z,((wr.alloc (.cells #[.int .i64 l.ac,.int .i64 l.ast,.int .i64 l.am] 103)).alloc (.cells #[.int .i64 a,.int .i64 t,.int .i64 v] 103)).cell? ⟨wr.heap.size,o,none⟩=some z→N.cell? ⟨wr.heap.size,o,none⟩=some z:=by
      intro o z hz;refine g.cell hz ?_;intro h;have:=r.lt _ h.symm;simp at this
     exact⟨hq _ _ sG,hq _ _ sG,hq _ _ sG⟩
    rw[←List.length_singleton (a:=s),←List.length_append,←xS] at m;obtain⟨b1,b2,b3⟩:=a9;have ak:=wL _ _ b1;have ae:=C.size;clear g r a1 a2 a3;simp only[Nat.zero_add] at b2 b3;go_wp2_with (at_builtin;refine wpList_append_own _ rfl _ _ 30 rfl w.heap.size 103 i0 _ 3 24 Tryz.underlying30 hi H I J rfl (by decide) _ _ _ rfl (m.alloc _) ⟨N.heap.size,0,none⟩ 1 1 (balC l) rfl rfl ?c1 (fAf l) ?c3 ?c4 ?c5 ?_)
    case c1=>
     intro j u E;first
     | exact E
     | (refine xR (b:=N.heap.size) (o:=0) ?_ j u E;exact⟨sG,by simp[go_sem],sG⟩)
    case c3=>unfold maxLen;first|omega|(simp;omega)
    case c4=>first|omega|(simp;omega)
    case c5=>first|omega|(simp;omega)
    intro v2 w2 X B _;have ab:aa w w2:=uB (m.alloc _) (bA C _) (by simp;omega) (Nat.le_refl _) B;clear B m b1 b2 b3;go_wp2;refine⟨⟨k+1,by omega,by go_num,?_,?_,ab⟩,mI⟩
    ·rw[M.out]
    rw[M.out];rw[xS,List.length_append,List.length_append];exact X
  have M:Hid (uR a t v xs (k+1)=(ys++[l],R)):=by show _=_;rw[A.out,qK,if_neg L,if_neg p]
  clear A L;have Y:R=true∨(R=false∧¬a*3+t<l.ac*3+l.ast):=by
   cases R
   ·exact .inr ⟨rfl,fun h=>p ⟨rfl,h⟩⟩
   exact .inl rfl
  clear p;rcases Y with rfl|⟨rfl,p⟩
  all_goals
   cases e1:(l.ac==a);all_goals (try (have e2:(l.ast==t)=false:=by(simpa [e1] using a4)))
   all_goals
    go_wp2_with (at_builtin;refine wpList_append_own _ rfl _ _ 30 rfl w.heap.size 103 i0 _ 3 24 Tryz.underlying30 hi H I J rfl (by decide) _ _ _ rfl ((r.alloc _).alloc _) ⟨wr.heap.size+1,0,none⟩ 1 1 (balC l) rfl rfl ?c1 (fAf l) ?c3 ?c4 ?c5 ?_)
    case c1=>
     intro j u E;first
     | exact E
     | (refine xR (b:=wr.heap.size+1) (o:=0) ?_ j u E;exact⟨sG,by simp[go_sem],sG⟩)
    case c3=>unfold maxLen;omega
    case c4=>omega
    case c5=>first|omega|(simp;omega)
    intro v' N m g _;have C:aa w N:=uB ((r.alloc _).alloc _) (bA (bA y _) _) (by simp;omega) (Nat.le_refl _) g;clear g r a1 a2 a3;go_wp2;refine⟨⟨k+1,by omega,by go_num,?_,?_,C⟩,mI⟩
    ·rw[M.out]
    rw[M.out];rw[xS,List.length_append];exact m
 have ad:k=n:=oM;subst ad;have G:Hid (setB a t v xs=if (uR a t v xs k).2 then (uR a t v xs k).1 else (uR a t v xs k).1++[⟨a,t,v⟩]):=by show _=_;unfold setB;rw[HN.out]
 obtain⟨U,D⟩:∃U,U=uR a t v xs k:=⟨_,rfl⟩
 rw[←D] at r G K ⊢;clear D hx;obtain⟨ys,R⟩:=U;dsimp only at r K G ⊢;have a7:=y.size;cases R
 ·
  obtain⟨s,q⟩:∃s:Bal,s=⟨a,t,v⟩:=⟨_,rfl⟩
  rw[←q] at G;have n1:s.ac=a:=by rw[q]
  have n2:s.ast=t:=by rw[q]
  have n3:s.am=v:=by rw[q]
  clear q;go_wp2_with (at_builtin;refine wpList_append_own _ rfl _ _ 30 rfl w.heap.size 103 i0 _ 3 24 Tryz.underlying30 hi H I J rfl (by decide) _ _ _ rfl (r.alloc _) ⟨wr.heap.size,0,none⟩ 1 1 (balC s) rfl rfl ?c1 (fAf s) ?c3 ?c4 ?c5 ?_)
  case c1=>
   intro j u E;first
   | exact E
   | (refine xR (b:=wr.heap.size) (o:=0) ?_ j u E;exact⟨by simp[go_sem,n1],by simp[go_sem,n2],by simp[go_sem,n3]⟩)
  case c3=>unfold maxLen;omega
  case c4=>omega
  case c5=>first|omega|(simp;omega)
  intro v' N m g _;have C:aa w N:=uB (r.alloc _) (bA y _) (by simp;omega) (Nat.le_refl _) g;clear g r;go_wp2;go_ret;refine⟨_,_,rfl,⟨?_,rfl⟩,C⟩;rw[G.out];simp only[Bool.false_eq_true,if_false];rw[xS,List.length_append];exact m
 go_wp2;go_ret;refine⟨_,rfl,⟨_,?_,rfl⟩,y⟩;rw[G.out,if_pos trivial];exact r
end
section
variable [dQ Bal] [iH Bal]
theorem tQ {w:World} {v:Value} {xs:List Bal} (h:balsR.V w v xs):gP w v xs.length (mD xs):=by
 obtain⟨a,c,rfl,_,_,m⟩:=h;cases a with
 | none=>
  have h0:xs=[]:=by
   cases xs with
   | nil=>rfl
   | cons x r=>obtain⟨b,o,e,_⟩:=m 0 (by simp);cases e
  subst h0;exact .inl ⟨c,rfl,rfl,rfl⟩
 | some ad=>
  refine .inr ⟨ad,c,rfl,fun j x d=>?_⟩;have p:j<xs.length*3:=by
   have:=(List.getElem?_eq_some_iff.1 d).1;rw[rD] at this;exact this
  have n:j / 3<xs.length:=oM;obtain⟨b,o,e,q,s,y⟩:=m (j / 3) n;obtain⟨q0,q1,q2⟩:=fE7 xs (j / 3) n;simp only[Option.some.injEq] at e;subst e;have g:(Addr.mk b o none).add j=⟨b,o+j,none⟩:=by
   by_cases h:j=0
   ·subst h;simp[Addr.add]
   simp[Addr.add,h]
  rw[g];have l:j % 3=0∨j % 3=1∨j % 3=2:=oM;rcases l with l|l|l
  ·have e:j=j / 3*3:=oM;have k:o+j=o+j / 3*3:=oM;rw[k,q];rw[e,q0] at d;exact d
  ·have e:j=j / 3*3+1:=oM;have k:o+j=o+j / 3*3+1:=oM;rw[k,s];rw[e,q1] at d;exact d
  have e:j=j / 3*3+2:=oM;have k:o+j=o+j / 3*3+2:=oM;rw[k,y];rw[e,q2] at d;exact d
end
section
variable [dQ Bal] [iH Bal] [dQ Ledg] [iH Ledg] [dQ Leg] [iH Leg] [dQ Cont] [iH Cont]
def tO (xs:List Bal) (l:Leg):List Bal:=setB l.ac l.ast (hasB l.ac l.ast xs+l.am) xs
def vL (xs:List Bal) (ls:List Leg) (k:Nat):List Bal:=(ls.take k).foldl tO xs
def addB (xs:List Bal) (ls:List Leg):List Bal:=ls.foldl tO xs
theorem fHl (xs:List Bal) (ls:List Leg) {k:Nat} (h:k<ls.length):vL xs ls (k+1)=tO (vL xs ls k) (ls.getD k default):=by
 unfold vL;rw[tF ls k h,List.foldl_append];rfl
theorem fTo (xs:List Bal) (ls:List Leg):vL xs ls ls.length=addB xs ls:=by unfold vL addB;rw[List.take_length]
structure AddOk (xs:List Bal) (ls:List Leg):Prop where
 len:∀k,k≤ls.length→(vL xs ls k).length≤1000000
 keys:∀k,k≤ls.length→∀j,j<(vL xs ls k).length→rR ((vL xs ls k).getD j default).ac ((vL xs ls k).getD j default).ast=true
 leg:∀k,k<ls.length→rR (ls.getD k default).ac (ls.getD k default).ast=true
 sum:∀k,k<ls.length → -9223372036854775808≤hasB (ls.getD k default).ac (ls.getD k default).ast (vL xs ls k)+(ls.getD k default).am∧hasB (ls.getD k default).ac (ls.getD k default).ast (vL xs ls k)+(ls.getD k default).am≤9223372036854775807
theorem fU8 (x y:Value) (xs:List Bal) (ls:List Leg) (w:World) (hx:balsR.V w x xs) (hy:legsR.V w y ls) (hok:AddOk xs ls) :
  cL 158 #[x,y] w fun e w'=>∃u F,e =.returned u∧balsR.O w' w.heap.size F u (addB xs ls)∧aa w w':=by
 have hX:=hx;obtain⟨ax,cx,rfl⟩:=fQ hx;obtain⟨ay,cy,rfl,a9,T,hy⟩:=hy;unfold maxLen at T;obtain⟨i0,hi,U,X,Y⟩:=info_parts fBc;have m:Hid (AddOk xs ls):=hok;have a8:xs.length≤1000000:=hok.len 0 (Nat.zero_le _);clear hok hx;generalize C:ls.length=n at *;have HN:Hid (ls.length=n):=C;clear C;have D:gP (w.alloc (.cells #[] 103)) (.slice ax xs.length cx) xs.length (mD xs):=tQ (balsR.below hX hE);have E:=World.ownsRow_lit (base:=w.heap.size) (e:=103) (size:=3) w #[] 0 (by simp) (by unfold maxLen;omega) rfl;go_enter Tryz.func158,Tryz.ntmps158;go_wp2_with (at_builtin;refine vH _ rfl _ _ 30 rfl w.heap.size 103 i0 _ 3 24 Tryz.underlying30 hi U X Y rfl (by decide) _ _ _ rfl _ xs.length (mD xs) rfl E D ?c1 ?c2 ?c3 ?c4 ?c5 ?_)
 case c1=>rw[rD]
 case c2=>
  intro u hu;simp only[mD,List.mem_flatMap] at hu;obtain⟨b,_,hb⟩:=hu;exact fAf b u hb
 case c3=>unfold maxLen;omega
 case c4=>omega
 intro v' w1 d r q;have Z:aa w w1:=q w hE;have G:∃F,balsR.O w1 w.heap.size F v' xs:=⟨_,d,rfl⟩
 clear d r q D E hX;go_wp2;go_loopw [5,6] (fun u i w'=>∃k:Nat,k≤n∧i =.int .i64 k∧(∃F,balsR.O w' w.heap.size F u (vL xs ls k))∧aa w w') (fun _ i _=>n-(intOf i).toNat)
 case atStart=>exact⟨0,oM,rfl,by simpa [vL] using G,Z⟩
 obtain⟨k,hk,rfl,⟨F,H⟩,p⟩:=hrel;by_cases I:k<n
 ·
  obtain⟨J,K,rfl,g1⟩:=hy k I;have s:k<ls.length:=by rw[HN.out];exact I
  have A:Hid (vL xs ls (k+1)=tO (vL xs ls k) (ls.getD k default)):=fHl xs ls s;have L:=m.out.len k oM;have B:=m.out.keys k oM;have M:=m.out.leg k s;have g:=m.out.sum k s;obtain⟨l,hl⟩:∃l,l=ls.getD k default:=⟨_,rfl⟩
  rw[←hl] at g1 A M g;clear hl hy G;obtain⟨ys,N⟩:∃ys,ys=vL xs ls k:=⟨_,rfl⟩
  rw[←N] at H A L B g;clear N;have a0:Hid (∀j,j<ys.length→rR (ys.getD j default).ac (ys.getD j default).ast=true):=B;clear B;obtain⟨z,R⟩:∃z,z=hasB l.ac l.ast ys:=⟨_,rfl⟩
  rw[←R] at g;have HE:Hid (vL xs ls (k+1)=setB l.ac l.ast (z+l.am) ys):=by show _=_;rw[A.out,tO,R]
  have v1:IntKind.i64.wrap (z+l.am)=z+l.am:=qY g.1 g.2;have g2:=fJ p g1;obtain⟨au,cu,rfl⟩:=fQ (balsR.ofO H);have hV:=balsR.ofO H;have i1:(k:Int)<(n:Int):=oM;obtain⟨a1,a2,a3,a4⟩:=g2;have g3:mM wr J (K+k*4) l:=⟨a1,a2,a3,a4⟩;go_wp2;go_region_held3 (fun w'=>aa wr w'∧cI w' J (K+k*4) l.sh∧cI w' J (K+k*4+1) l.ac∧cI w' J (K+k*4+2) l.ast∧cI w' J (K+k*4+3) l.am)
   ((refine fFo ?_ g3;exact qT))
   (first|(go_at_call 186;refine(fL3 _ ys l.ac l.ast _ (balsR.below hV (Below.drew (bR _ _)))).mono ?_;rw[←R];rintro e w3 ⟨rfl,rfl⟩)|(go_at_call 185;(first|rw[←R,v1]|rw[v1]|skip);refine(fU9 _ ys l.ac l.ast (z+l.am) _ (balsR.below hV (Below.drew (bR _ _))) L M a0.out).mono ?_;rintro e w4 ⟨u4,F4,rfl,o4,ab⟩))
  rename_i hH;have a5:=bS p hH.1;have ad:=hH.1.size;have a6:=p.size;clear hH;go_wp2;refine⟨⟨k+1,by omega,by go_num,⟨F4,?_⟩,a5⟩,mI⟩;rw[HE.out];exact balsR.base o4 (by simpa using a6)
 have a7:k=n:=oM;subst a7;go_wp2;go_ret;refine⟨_,F,rfl,?_,p⟩;rw[←HN.out,fTo] at H;exact H
end
end Go.Proofs.YtpibfdebfacooaaGreat

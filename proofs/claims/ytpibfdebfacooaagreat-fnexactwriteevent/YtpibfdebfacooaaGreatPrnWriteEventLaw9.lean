import Derived.Test.YtpibfdebfacooaaGreatPrnWriteEventLaw8
import Derived.Maps.OwnSet
import Derived.DeepKeys4
import Derived.Lib.Bytealg
import Derived.Lib.Walk
set_option maxHeartbeats 2000000
set_option maxRecDepth 20000
set_option linter.all false
namespace Go.Proofs.YtpibfdebfacooaaGreat
open Go.RowKit
attribute [local go_sem ↓] Go.wp_at_zero Go.wp_at_succ
attribute [local go_sem] cI ah cN iV aj
section
variable [dQ Logg] [iH Logg] [dQ LoggR] [iH LoggR] [dQ BytesR] [iH BytesR] [dQ RecsR] [iH RecsR] [dQ Leg] [iH Leg]
theorem gA4 {a:Option Addr} {n cap:Nat} (h:Int) (h0:0≤h) (h2:h≤n) (hn:n≤cap) :
  ∃a' c',(∀w:World,(Instr.sliceAt 150 (.slice a n cap) none (some (iV h)) none).run Tryz.prog w =.ok (.slice a' h.toNat c') w) ∧
   ∀(w:World) (xs:List Byte),xs.length=n→mP w (.slice a n cap) xs→mP w (.slice a' h.toNat c') (xs.take h.toNat):=by
 have d:Tryz.prog.underlying 150=some (.slice (Tryz.prog.elem 150)):=kF;have g:(sizeOf (Tryz.prog.elem 150)).run Tryz.prog=fun w=>.ok 1 w:=by
  have he:Tryz.prog.elem 150=5:=kF;obtain⟨q,k,l,j,m⟩:=info_parts infoByte;funext w;simp[sizeOf,typeInfo,he,k,j]
 refine⟨if cap=0 then a else a.map (·.add (0*1)),cap-0,fun w=>?_,fun w xs e p=>?_⟩
 ·rw[run_sliceAt_slice (h:=d),run_slice_h (ht:=d) (h0:=h0) (h2:=by omega),g];simp only[Result.andThen,sliced];rw[Nat.sub_zero]
 subst e;have:=pO p 0 h.toNat oM oM;rw[Nat.sub_zero,List.drop_zero] at this;exact this
theorem fDs (x:Value) (d:Logg) (w:World) (hx:loggR.V w x d) (hn:gJ d≤1048576) :
  cL 107 #[x] w fun e w'=>∃v F,e =.returned (.agg #[v,iV d.synced.length])∧bytesR.O w' w.heap.size F v (d.synced++d.loose)∧aa w w':=by
 have H:=hx;obtain⟨u1,u2,rfl,h1,h2⟩:=hx;obtain⟨r,s,rfl⟩:=fF h1;obtain⟨y,z,rfl⟩:=fF h2;unfold gJ kM at hn;have u1:IntKind.i64.wrap (d.synced.length:Int)=d.synced.length:=by rw[IntKind.wrap_i64];omega
 have A:Hid ([d.synced,d.loose].flatten=d.synced++d.loose):=by simp[Hid]
 go_enter Tryz.func107,Tryz.ntmps107;go_wp2;refine wp_region_noPanic ?_;refine fB (fun w'=>aa w w'∧ah w' w.heap.size 0 r d.synced.length s∧ah w' w.heap.size 1 y d.loose.length z) 10 kF ⟨hE,by simp[go_sem],sG⟩ (fun hS=>?_);refine tY 0 ?_;refine tY 1 ?_;refine tY 2 ?_;refine tY 3 ?_;refine tY 6 ?_;refine tY 7 ?_;refine tY 8 ?_;refine uS 4 rfl (fun K k=>?_);go_simp;refine k _ _ (fun _=>⟨hE,by simp[go_sem],sG⟩) ?_;clear k K;try simp only[jX]
 refine uS 5 rfl (fun K k=>?_);go_simp;refine(pR _ [d.synced,d.loose] _ (fNm (g:=w.heap.size+1+1) (by simp[go_sem];done) (by simp[go_sem];done) (bytesR.below h1 hE) (bytesR.below h2 hE)) (by rw[A.out];simp;omega)).mono ?_;rintro e l ⟨v,F,rfl,n,j⟩;rw[A.out] at n;obtain⟨p,q,rfl⟩:=fF (bytesR.ofO n);have m:(fun w'=>aa w w'∧w'.cell? ⟨w.heap.size,0,none⟩=some (.slice r d.synced.length s)∧w'.cell? ⟨w.heap.size,1,none⟩=some (.slice y d.loose.length z)) l:=⟨hE,cK j sG,cK j sG⟩;have B:cN l (w.heap.size+1) 0:=cK j sG;have C:cI l (w.heap.size+1) 1 0:=cK j sG;have I:aq l (w.heap.size+1):=ap j;have D:aa w l:=m.1;have E:Hid (bytesR.O l (w.heap.size+2) F (.slice p (d.synced++d.loose).length q) (d.synced++d.loose)):=bytesR.base n (by simp);refine k _ _ (fun _=>m) ?_;clear k K n j;try simp only[jX]
 refine tY 9 ?_;refine uS 10 rfl (fun K k=>?_);go_simp;refine k _ _ (fun h=>absurd rfl h) ?_;clear k K;refine dP ?_;clear hS m;go_wp2;have G:bytesR.O l (w.heap.size+2) F (.slice p (d.synced.length+d.loose.length) q) (d.synced++d.loose):=by have h:=E.out;simpa using h
 refine bodyPost_ret (v:=.agg #[.slice p (d.synced.length+d.loose.length) q,iV d.synced.length]) ?_ rfl ⟨_,F,rfl,bytesR.base (bytesR.set (bytesR.set G _ (by simp)) _ (by simp)) oM,hE⟩;simp[results,Tryz.results107,go_sem,B,C]
theorem fO2 (x:Value) (xs:List Byte) (w:World) (hx:bytesR.V w x xs) :
  cL 109 #[x] w fun e w'=>∃v F,e =.returned v∧recsRR.O w' w.heap.size F v (fHd xs)∧aa w w':=by
 have j:=hx;obtain⟨p,q,rfl⟩:=fF hx;go_enter Tryz.func109,Tryz.ntmps109;go_wp2_with fail;refine(fJz _ xs _ (bytesR.below j hE)).mono ?_;rintro e r ⟨v,F,rfl,g,hb⟩;have k:=recsRR.ofO g;obtain⟨l,m,rfl⟩:=fIu k;obtain⟨n,s⟩:=bcell hb;have d:=recsRR.base (base':=w.heap.size+1) g (by simp);go_wp2;refine bodyPost_ret (v:=.agg #[iV (fHd xs).code,iV (fHd xs).used,.slice l (fHd xs).records.length m]) ?_ rfl ⟨_,F,rfl,recsRR.base (recsRR.set (recsRR.set (recsRR.set d _ (by simp)) _ (by simp)) _ (by simp)) oM,hE⟩;simp[results,Tryz.results109,go_sem,n]
theorem fHi (x:Value) (xs:List Byte) (k:Nat) (w:World) (hx:bytesR.V w x xs) (hk:k≤xs.length) (hn:xs.length≤1048576) :
  cL 108 #[x,iV k] w fun e w'=>∃v F,e =.returned v∧loggR.O w' w.heap.size F v ⟨xs.take k,[]⟩∧aa w w':=by
 have r:=hx;obtain⟨G,s,rfl⟩:=fF hx;have j:xs.length≤s:=by
  obtain⟨_,_,e,h,_⟩:=hx;simp only[Value.slice.injEq,true_and] at e;omega
 obtain⟨H,I,l,y⟩:=gA4 (a:=G) (n:=xs.length) (cap:=s) (k:Int) oM oM j;have q:(k:Int).toNat=k:=oM;have z:bytesR.V w (.slice H k I) (xs.take k):=by have h:=y _ xs rfl r;rw[q] at h;exact h
 rw[q] at l;have A:(xs.take k).length=k:=by rw[List.length_take];omega
 generalize xs.take k=ys at *;clear y q j;have B:Hid ([ys].flatten=ys):=by simp[Hid]
 go_enter Tryz.func108,Tryz.ntmps108;go_wp2_with fail;refine(pR _ [ys] _ (fNl (g:=w.heap.size+1) (by simp[go_sem];done) (bytesR.below z hE)) (by rw[B.out];omega)).mono ?_;rintro e m ⟨v,F,rfl,p,d⟩;rw[B.out] at p;obtain⟨C,D,rfl⟩:=fF (bytesR.ofO p);have J:cN m w.heap.size 0:=cK d sG;have K:cN m w.heap.size 1:=cK d sG;have N:aq m w.heap.size:=ap d;have L:aa w m:=hE;have M:Hid (bytesR.O m (w.heap.size+1) F (.slice C ys.length D) ys):=bytesR.base p (by simp);clear p d z l r hx;go_wp2;have E:=M.out;rw[A] at E;refine bodyPost_ret (v:=.agg #[.slice C k D,aj]) ?_ rfl ⟨_,F,rfl,fEe (bytesR.base (bytesR.set (bytesR.set E _ (by simp)) _ (by simp)) oM),hE⟩;simp[results,Tryz.results108,go_sem,J,K,A]
def fA5 (c:Int):LoggR:=⟨c,⟨[],[]⟩⟩
def fHh (d:Logg):LoggR:=if logF d=0 then ⟨0,⟨d.synced++d.loose,[]⟩⟩ else fA5 2
def fBo (d:Logg) (k:Int):LoggR:=if logF d=0 then (if 0≤k∧k≤d.loose.length then ⟨0,⟨d.synced++d.loose.take k.toNat,[]⟩⟩ else fA5 3) else fA5 2
def zY (d:Logg):RecsR:=if logF d=0 then fHd (d.synced++d.loose) else ⟨2,0,[]⟩
theorem rE (d:Logg):(logF d=0∧d.synced.length+d.loose.length≤6000)∨logF d=2:=by
 unfold logF;split
 ·exact .inr rfl
 exact .inl ⟨rfl,by omega⟩
theorem fPd (d:Logg):fBo d d.loose.length=fHh d:=by
 unfold fBo fHh;split
 ·rw[if_pos ⟨oM,by omega⟩,show((d.loose.length:Int)).toNat=d.loose.length by omega,List.take_length]
 rfl
theorem fN2 (x:Value) (d:Logg) (k:Int) (w:World) (hx:loggR.V w x d) (hn:gJ d≤1048576) :
  cL 58 #[x,iV k] w fun e w'=>∃v F,e =.returned v∧loggRR.O w' w.heap.size F v (fBo d k)∧aa w w':=by
 have J:=hx;obtain⟨a1,a2,c1,c2,rfl⟩:=mJ hx;have u1:IntKind.i64.wrap (d.loose.length:Int)=d.loose.length:=by unfold gJ kM at hn;rw[IntKind.wrap_i64];omega
 go_enter Tryz.func58,Tryz.ntmps58;go_wp2_with fail;refine(xC _ d _ (loggR.below J hE) hn).mono ?_;rintro e j ⟨rfl,g⟩;have x0:ah j w.heap.size 0 a1 d.synced.length c1:=cK g sG;have x1:ah j w.heap.size 1 a2 d.loose.length c2:=cK g sG;have G:cI j (w.heap.size+1) 0 0:=cK g sG;have H:cN j (w.heap.size+1) 1:=cK g sG;have I:cN j (w.heap.size+1) 2:=cK g sG;have rf:aq j (w.heap.size+1):=ap g;have s1:=g.size;simp only[World.size_alloc] at s1;have m:aa w j:=hE;clear g;have z0:w.heap.size<j.heap.size:=oM;have K:w.heap.size+1<j.heap.size:=oM;rcases rE d with ⟨h0,hl⟩|h0
 rotate_left
 ·
  have r:Hid (fBo d k=fA5 2):=by unfold Hid fBo;rw[if_neg oM]
  rw[h0];go_wp2;refine bodyPost_ret (v:=.agg #[iV 2,aj,aj]) ?_ rfl ?_
  ·simp[results,Tryz.results58,go_sem,G,H,I]
  rw[r.out];exact⟨_,none_,rfl,vJ _ _ _,hE⟩
 rw[h0];have s:=loggR.below J m;clear J hx;go_wp2_with fail;refine(qR _ _ _ _).mono ?_;rintro e w2 ⟨rfl,rfl⟩;by_cases hk:0≤k∧k≤d.loose.length;rotate_left
 ·
  have r:Hid (fBo d k=fA5 3):=by unfold Hid fBo;rw[if_pos h0,if_neg hk]
  have p:inB k 0 d.loose.length=false:=by unfold inB;simp;omega
  rw[p];go_wp2;refine bodyPost_ret (v:=.agg #[iV 3,aj,aj]) ?_ rfl ?_
  ·simp[results,Tryz.results58,go_sem,G,H,I]
  rw[r.out];exact⟨_,none_,rfl,vJ _ _ _,hE⟩
 obtain⟨k0,k1⟩:=hk;have p:inB k 0 d.loose.length=true:=by unfold inB;simp[k0,k1]
 rw[p];obtain⟨n,rfl⟩:∃n:Nat,k=n:=⟨k.toNat,by omega⟩
 have r:Hid (fBo d n=⟨0,⟨(d.synced++d.loose).take (d.synced.length+n),[]⟩⟩):=by
  unfold Hid fBo;rw[if_pos h0,if_pos ⟨k0,k1⟩,List.take_length_add_append];rfl
 go_wp2_with fail;refine(fDs _ d _ s hn).mono ?_;rintro e L ⟨v,F,rfl,q,hb⟩;have M:aa w L:=bS m hb;have N:=bytesR.ofO q;obtain⟨a3,c3,rfl⟩:=fF N;have a0:(d.synced++d.loose).length≤6000:=by rw[List.length_append];exact hl
 have R:d.synced.length+n≤(d.synced++d.loose).length:=by rw[List.length_append];omega
 have u2:IntKind.i64.wrap ((d.synced.length:Int)+n)=((d.synced.length+n:Nat):Int):=by rw[IntKind.wrap_i64];omega
 have a6:Hid ((d.synced++d.loose).length=d.synced.length+d.loose.length):=List.length_append;generalize d.synced++d.loose=bs at *;have y:=cK hb x0;have z:=cK hb x1;have A:=cK hb G;have B:=cK hb H;have C:=cK hb I;have D:=(pJ ⟨rf,K⟩ hb).1;have E:=Nat.lt_of_lt_of_le z0 hb.size;have l:=Nat.lt_of_lt_of_le K hb.size;clear x0 x1 G H I rf z0 K;clear q hb m s;go_wp2_with fail;refine(fHi _ bs (d.synced.length+n) _ (bytesR.below N hE) R oM).mono ?_;rintro e w4 ⟨v,F4,rfl,q,hb⟩;have a7:=bT w hb;have T:=loggR.ofO q;obtain⟨a4,a5,c4,c5,rfl⟩:=mJ T;have hc:=hb;replace hb:aa L w4:=bS hE hc;have a8:w.heap.size+2≤L.heap.size:=l;have a9:=cK hb y;have ab:=cK hb z;have U:=cK hb A;have X:=cK hb B;have Y:=cK hb C;have ac:=(pJ ⟨D,l⟩ hb).1;have ad:=Nat.lt_of_lt_of_le E hb.size;have ae:=Nat.lt_of_lt_of_le l hb.size;clear y z A B C D E l;have Z:=loggR.base (base':=w.heap.size+2) q (by simp;omega);clear q hb M hc N;go_wp2;have af:=fQj Z;refine bodyPost_ret (v:=.agg #[iV 0,.slice a4 (List.take (d.synced.length+n) bs).length c4,.slice a5 0 c5]) ?_ rfl ?_
 ·simp[results,Tryz.results58,go_sem,U,X,Y];try omega
 first|refine⟨_,F4,rfl,?_,hE⟩|refine⟨_,rfl,⟨F4,?_⟩,hE⟩
 rw[r.out];exact loggRR.base (base:=w.heap.size+2) (by(repeat (first|assumption|refine Rep.set _ ?_ _ (by simp;omega)|refine Rep.set _ ?_ _ (by simp)|refine Rep.alloc _ ?_ _|refine Rep.keep _ ?_ (by assumption)))) oM
theorem fR7 (x:Value) (d:Logg) (w:World) (hx:loggR.V w x d) (hn:gJ d≤1048576) :
  cL 98 #[x] w fun e w'=>∃v F,e =.returned v∧loggRR.O w' w.heap.size F v (fHh d)∧aa w w':=by
 have p:=hx;obtain⟨G,H,I,J,rfl⟩:=mJ hx;have u1:IntKind.i64.wrap (d.loose.length:Int)=d.loose.length:=by unfold gJ kM at hn;rw[IntKind.wrap_i64];omega
 go_enter Tryz.func98,Tryz.ntmps98;go_wp2_with fail;refine(fN2 _ d d.loose.length _ (loggR.below p hE) hn).mono ?_;rintro e j ⟨v,F,rfl,m,g⟩;rw[fPd] at m;have k:=loggRR.ofO m;obtain⟨q,r,s,y,rfl⟩:=fAo k;have z:cI j (w.heap.size+1) 0 0:=cK g sG;have A:cN j (w.heap.size+1) 1:=cK g sG;have B:cN j (w.heap.size+1) 2:=cK g sG;have K:aq j (w.heap.size+1):=ap g;have C:aa w j:=hE;have l:=loggRR.base (base':=w.heap.size+2) m (by simp);obtain⟨D,n⟩:∃D,fHh d=D:=⟨_,rfl⟩
 have E:Hid (fHh d=D):=n;rw[n] at l k ⊢;clear n;clear m g p hx;go_wp2;refine bodyPost_ret (v:=.agg #[iV D.code,.slice q D.log.synced.length s,.slice r D.log.loose.length y]) ?_ rfl ⟨_,F,rfl,?_,hE⟩
 ·simp[results,Tryz.results98,go_sem,z,A,B]
 rw[E.out];exact loggRR.base (base:=w.heap.size+2) (loggRR.set (loggRR.set (loggRR.set l _ (by simp)) _ (by simp)) _ (by simp)) oM
theorem fR6 (x:Value) (d:Logg) (w:World) (hx:loggR.V w x d) (hn:gJ d≤1048576) :
  cL 69 #[x] w fun e w'=>∃v F,e =.returned v∧recsRR.O w' w.heap.size F v (zY d)∧aa w w':=by
 have G:=hx;obtain⟨a1,a2,c1,c2,rfl⟩:=mJ hx;go_enter Tryz.func69,Tryz.ntmps69;go_wp2_with fail;refine(xC _ d _ (loggR.below G hE) hn).mono ?_;rintro e j ⟨rfl,g⟩;have X:ah j w.heap.size 0 a1 d.synced.length c1:=cK g sG;have Y:ah j w.heap.size 1 a2 d.loose.length c2:=cK g sG;have H:cI j (w.heap.size+1) 0 0:=cK g sG;have I:cI j (w.heap.size+1) 1 0:=cK g sG;have J:cN j (w.heap.size+1) 2:=cK g sG;have Z:aq j (w.heap.size+1):=ap g;have s1:=g.size;simp only[World.size_alloc] at s1;have l:aa w j:=hE;clear g;have z0:w.heap.size<j.heap.size:=oM;have K:w.heap.size+1<j.heap.size:=oM;rcases rE d with ⟨h0,hl⟩|h0
 rotate_left
 ·
  have E:Hid (zY d=⟨2,0,[]⟩):=by unfold Hid zY;rw[if_neg oM]
  rw[h0];go_wp2;refine bodyPost_ret (v:=.agg #[iV 2,iV 0,aj]) ?_ rfl ?_
  ·simp[results,Tryz.results69,go_sem,H,I,J]
  rw[E.out];exact⟨_,none_,rfl,fF2 _ _ _ _,hE⟩
 rw[h0];have p:=loggR.below G l;clear G hx;have E:Hid (zY d=fHd (d.synced++d.loose)):=by unfold Hid zY;rw[if_pos h0]
 go_wp2_with fail;refine(fDs _ d _ p hn).mono ?_;rintro e w2 ⟨v,F,rfl,n,hb⟩;have q:aa w w2:=bS l hb;have L:=bytesR.ofO n;generalize d.synced++d.loose=bs at *;obtain⟨a3,c3,rfl⟩:=fF L;have a0:∀w:World,(Instr.field 152 (.agg #[.slice a3 bs.length c3,iV (d.synced.length:Int)]) 0).run Tryz.prog w =.ok (.slice a3 bs.length c3) w:=fun _=>kF
 have r:=cK hb X;have s:=cK hb Y;have y:=cK hb H;have z:=cK hb I;have A:=cK hb J;have B:=(pJ ⟨Z,K⟩ hb).1;have C:=Nat.lt_of_lt_of_le z0 hb.size;have k:=Nat.lt_of_lt_of_le K hb.size;clear X Y H I J Z z0 K;clear n hb l p;go_wp2_with fail;refine(fO2 _ bs _ L).mono ?_;rintro e w4 ⟨v,F4,rfl,n,hb⟩;have a4:aa w w4:=bS q hb;have fv:=recsRR.ofO n;obtain⟨a5,c5,rfl⟩:=fIu fv;have M:w.heap.size+2≤w2.heap.size:=k;have a6:=cK hb r;have a7:=cK hb s;have N:=cK hb y;have R:=cK hb z;have T:=cK hb A;have a8:=(pJ ⟨B,k⟩ hb).1;have a9:=Nat.lt_of_lt_of_le C hb.size;have ab:=Nat.lt_of_lt_of_le k hb.size;clear r s y z A B C k;have m:=recsRR.base (base':=w.heap.size+2) n M;rw[←E.out] at m ⊢;obtain⟨D,U⟩:∃D,zY d=D:=⟨_,rfl⟩
 have ED:Hid (zY d=D):=U;rw[U] at m ⊢;clear U;clear n hb q fv E L;go_wp2;refine bodyPost_ret (v:=.agg #[iV D.code,iV D.used,.slice a5 D.records.length c5]) ?_ rfl ⟨_,F4,rfl,?_,hE⟩
 ·simp[results,Tryz.results69,go_sem,N,R,T]
 rw[ED.out];exact recsRR.base (base:=w.heap.size+2) (recsRR.set (recsRR.set (recsRR.set m _ (by simp)) _ (by simp)) _ (by simp)) oM
end
section
def insF {β:Type} (f:Nat→β) (i:Nat) (x:β):Nat→β:=fun k=>if k<i then f k else if k=i then x else f (k-1)
theorem qE {β:Type} (f:Nat→β) {i k:Nat} (x:β) (h:k<i):insF f i x k=f k:=by simp[insF,h]
theorem qC {β:Type} (f:Nat→β) (i:Nat) (x:β):insF f i x i=x:=by simp[insF]
theorem qD {β:Type} (f:Nat→β) {i k:Nat} (x:β) (h:i<k):insF f i x k=f (k-1):=by
 unfold insF;rw[if_neg oM,if_neg oM]
theorem fJr {α:Type} [Inhabited α] (xs:List α) (x:α) (i k:Nat) (hi:i≤xs.length):(xs.take i++[x]++xs.drop i).getD k default=insF (fun k=>xs.getD k default) i x k:=by
 have d:(xs.take i).length=i:=by rw[List.length_take];omega
 simp only[List.getD_eq_getElem?_getD];rw[List.append_assoc];rcases Nat.lt_trichotomy k i with h|h|h
 ·rw[qE _ _ h,List.getElem?_append_left oM,List.getElem?_take,if_pos h]
 ·subst h;rw[qC,List.getElem?_append_right oM,d];simp
 rw[qD _ _ h,List.getElem?_append_right oM,d,List.getElem?_append_right (by simp;omega),List.getElem?_drop];congr 2;simp;omega
theorem PO.ins {α:Type} {R:Rep α} {e size:Nat} {lv:Value→List Value} {W W':World} {base:Nat} {v v':Value} {n i:Nat} {d:Nat→α} {cs:List Value} {us:Nat→Value} {fs:Nat→Nat→Prop} {u:Value} {x:α} {Fu:Nat→Prop}
  (h:PO R e size lv W base v n n d cs us fs) (hi:i≤n) (hu:R.O W base Fu u x) (hl:(lv u).length=size) (hd:∀j,j<n→∀b,fs j b→¬Fu b) (hvu:∀b,Fu b→v.ownBlock≠some b)
  (hr:W'.ownsRow base e size v' (n+1) (cs.take (i*size)++lv u++cs.drop (i*size))) (hm:Mod (fun b=>v.ownBlock=some b) W W') (hv:∀b,v'.ownBlock=some b→v.ownBlock=some b∨W.heap.size≤b) :
  PO R e size lv W' base v' (n+1) (n+1) (insF d i x) (cs.take (i*size)++lv u++cs.drop (i*size)) (insF us i u) (insF fs i Fu):=by
 have E:cs.length=n*size:=h.row.1;have F:i*size≤n*size:=Nat.mul_le_mul_right _ hi;have g:∀b,b<W.heap.size→v.ownBlock≠some b→v'.ownBlock≠some b:=fun b hb G e=>by
  rcases hv b e with h1|h1
  ·exact G h1
  omega
 have s:∀j,j<n→R.O W' base (fs j) (us j) (d j):=fun j l=>R.mod (h.el j l) hm (fun b hb=>h.out j l b hb)
 refine⟨hr,fun j l=>?_,fun j l=>?_,fun j l o A=>?_,fun j l b hb=>?_,fun j k l B H b h1 h2=>?_⟩
 ·
  rcases Nat.lt_trichotomy j i with h1|h1|h1
  ·rw[qE _ _ h1,qE _ _ h1,qE _ _ h1];exact s j oM
  ·subst h1;rw[qC,qC,qC];exact R.mod hu hm (fun b hb=>hvu b hb)
  rw[qD _ _ h1,qD _ _ h1,qD _ _ h1];exact s (j-1) oM
 ·
  rcases Nat.lt_trichotomy j i with h1|h1|h1
  ·rw[qE _ _ h1];exact h.ln j oM
  ·subst h1;rw[qC];exact hl
  rw[qD _ _ h1];exact h.ln (j-1) oM
 ·
  have ht:(cs.take (i*size)).length=i*size:=by rw[List.length_take];omega
  rw[List.append_assoc];rcases Nat.lt_trichotomy j i with h1|h1|h1
  ·
   have z:j*size+o<i*size:=by
    have:(j+1)*size≤i*size:=Nat.mul_le_mul_right _ h1;rw[Nat.succ_mul] at this;omega
   rw[qE _ _ h1,List.getElem?_append_left oM,List.getElem?_take,if_pos z];exact h.cell j oM o A
  ·subst h1;rw[qC,List.getElem?_append_right oM,ht,show j*size+o-j*size=o by omega,List.getElem?_append_left oM]
  obtain⟨q,rfl⟩:∃q,j=q+1:=⟨j-1,by omega⟩
  have I:i*size≤q*size:=Nat.mul_le_mul_right _ oM;have C:(q+1)*size=q*size+size:=Nat.succ_mul _ _;rw[qD _ _ h1,Nat.add_sub_cancel,List.getElem?_append_right oM,ht,List.getElem?_append_right oM,hl,List.getElem?_drop,C,show i*size+(q*size+size+o-i*size-size)=q*size+o by omega];exact h.cell q oM o A
 ·
  rcases Nat.lt_trichotomy j i with h1|h1|h1
  ·rw[qE _ _ h1] at hb;exact g b (R.rng (h.el j oM) b hb).2 (h.out j oM b hb)
  ·subst h1;rw[qC] at hb;exact g b (R.rng hu b hb).2 (hvu b hb)
  rw[qD _ _ h1] at hb;exact g b (R.rng (h.el (j-1) oM) b hb).2 (h.out (j-1) oM b hb)
 have m:∀j,j<n+1→insF fs i Fu j b→(j=i∧Fu b)∨∃q,q<n∧fs q b∧((j<i∧q=j)∨(i<j∧q+1=j)):=fun j l hb=>by
  rcases Nat.lt_trichotomy j i with h1|h1|h1
  ·rw[qE _ _ h1] at hb;exact .inr ⟨j,by omega,hb,.inl ⟨h1,rfl⟩⟩
  ·subst h1;rw[qC] at hb;exact .inl ⟨rfl,hb⟩
  rw[qD _ _ h1] at hb;exact .inr ⟨j-1,by omega,hb,.inr ⟨h1,by omega⟩⟩
 rcases m j l h1 with ⟨C,y⟩|⟨q,D,y,L⟩
 ·
  rcases m k B h2 with ⟨J,r⟩|⟨q2,p,r,K⟩
  ·omega
  exact hd q2 p b r y
 rcases m k B h2 with ⟨J,r⟩|⟨q2,p,r,K⟩
 ·exact hd q D b y r
 exact h.sep q q2 D p oM b y r
theorem NO.ins {α:Type} [Inhabited α] {R:Rep α} {e size:Nat} {lv:Value→List Value} {W W':World} {base:Nat} {v v':Value} {i:Nat} {xs:List α} {cs:List Value} {us:Nat→Value} {fs:Nat→Nat→Prop} {u:Value} {x:α} {F Fu:Nat→Prop}
  (h:PO R e size lv W base v xs.length xs.length (fun i=>xs.getD i default) cs us fs) (hF:∀b,F b↔(v.ownBlock=some b∨∃i,i<xs.length∧fs i b)) (hi:i≤xs.length) (hu:R.O W base Fu u x) (hl:(lv u).length=size) (hd:∀b,F b→¬Fu b)
  (hr:W'.ownsRow base e size v' (xs.length+1) (cs.take (i*size)++lv u++cs.drop (i*size))) (hm:Mod (fun b=>v.ownBlock=some b) W W') (hv:∀b,v'.ownBlock=some b→v.ownBlock=some b∨W.heap.size≤b) :
  ∃F',NO R e size lv W' base F' v' (xs.take i++[x]++xs.drop i)∧∀b,F' b→F b∨Fu b∨W.heap.size≤b:=by
 have g:=h.ins hi hu hl (fun j l b hb=>hd b ((hF b).2 (.inr ⟨j,l,hb⟩))) (fun b hb e=>hd b ((hF b).2 (.inl e)) hb) hr hm hv;have d:(xs.take i++[x]++xs.drop i).length=xs.length+1:=by simp only[List.length_append,List.length_take,List.length_drop,List.length_cons,List.length_nil];omega
 refine⟨fun b=>v'.ownBlock=some b∨∃k,k<xs.length+1∧insF fs i Fu k b,⟨cs.take (i*size)++lv u++cs.drop (i*size),insF us i u,insF fs i Fu,?_,fun b=>by rw[d]⟩,fun b hb=>?_⟩
 ·rw[d];exact g.cast (fun k m=>fJr xs x i k hi)
 rcases hb with hb|⟨k,m,hb⟩
 ·
  rcases hv b hb with h1|h1
  ·exact .inl ((hF b).2 (.inl h1))
  exact .inr (.inr h1)
 rcases Nat.lt_trichotomy k i with h1|h1|h1
 ·rw[qE _ _ h1] at hb;exact .inl ((hF b).2 (.inr ⟨k,by omega,hb⟩))
 ·subst h1;rw[qC] at hb;exact .inr (.inl hb)
 rw[qD _ _ h1] at hb;exact .inl ((hF b).2 (.inr ⟨k-1,by omega,hb⟩))
theorem PO.putN {α:Type} {R:Rep α} {e size:Nat} {lv:Value→List Value} {W W':World} {base:Nat} {v:Value} {n i:Nat} {d:Nat→α} {cs cs':List Value} {us:Nat→Value} {fs:Nat→Nat→Prop} {u:Value} {x:α} {Fu:Nat→Prop}
  (h:PO R e size lv W base v n n d cs us fs) (hi:i<n) (hu:R.O W base Fu u x) (hl:(lv u).length=size) (hd:∀j,j<n→∀b,fs j b→¬Fu b) (hvu:∀b,Fu b→v.ownBlock≠some b)
  (hr:W'.ownsRow base e size v n cs') (hm:Mod (fun b=>v.ownBlock=some b) W W') (hold:∀j,j<n→j≠i→∀o,o<size→cs'[j*size+o]? = cs[j*size+o]?) (hnew:∀o,o<size→cs'[i*size+o]? = (lv u)[o]?) :
  PO R e size lv W' base v n n (upd d i x) cs' (upd us i u) (upd fs i Fu):=by
 refine⟨hr,fun j l=>?_,fun j l=>?_,fun j l o p=>?_,fun j l b hb=>?_,fun j k l q m b h1 h2=>?_⟩
 ·
  by_cases g:j=i
  ·subst g;rw[gY,gY,gY];exact R.mod hu hm (fun b hb=>hvu b hb)
  rw[upd_ne _ _ g,upd_ne _ _ g,upd_ne _ _ g];exact R.mod (h.el j l) hm (fun b hb=>h.out j l b hb)
 ·
  by_cases g:j=i
  ·subst g;rw[gY];exact hl
  rw[upd_ne _ _ g];exact h.ln j l
 ·
  by_cases g:j=i
  ·subst g;rw[gY];exact hnew o p
  rw[upd_ne _ _ g,hold j l g o p];exact h.cell j l o p
 ·
  by_cases g:j=i
  ·subst g;rw[gY] at hb;exact hvu b hb
  rw[upd_ne _ _ g] at hb;exact h.out j l b hb
 by_cases g:j=i
 ·subst g;rw[gY] at h1;rw[upd_ne _ _ (Ne.symm m)] at h2;exact hd k q b h2 h1
 rw[upd_ne _ _ g] at h1;by_cases r:k=i
 ·subst r;rw[gY] at h2;exact hd j l b h1 h2
 rw[upd_ne _ _ r] at h2;exact h.sep j k l q m b h1 h2
theorem fXo {α:Type} [Inhabited α] (xs:List α) (x:α) (i k:Nat) (hi:i<xs.length):(xs.set i x).getD k default=upd (fun k=>xs.getD k default) i x k:=by
 simp only[List.getD_eq_getElem?_getD,List.getElem?_set];by_cases e:i=k
 ·subst e;rw[if_pos rfl,if_pos hi,gY];rfl
 rw[if_neg e,upd_ne _ _ (Ne.symm e)]
theorem NO.put {α:Type} [Inhabited α] {R:Rep α} {e size:Nat} {lv:Value→List Value} {W W':World} {base:Nat} {v:Value} {i:Nat} {xs:List α} {cs cs':List Value} {us:Nat→Value} {fs:Nat→Nat→Prop} {u:Value} {x:α} {F Fu:Nat→Prop}
  (h:PO R e size lv W base v xs.length xs.length (fun i=>xs.getD i default) cs us fs) (hF:∀b,F b↔(v.ownBlock=some b∨∃i,i<xs.length∧fs i b)) (hi:i<xs.length) (hu:R.O W base Fu u x) (hl:(lv u).length=size) (hd:∀b,F b→¬Fu b)
  (hr:W'.ownsRow base e size v xs.length cs') (hm:Mod (fun b=>v.ownBlock=some b) W W') (hold:∀j,j<xs.length→j≠i→∀o,o<size→cs'[j*size+o]? = cs[j*size+o]?) (hnew:∀o,o<size→cs'[i*size+o]? = (lv u)[o]?) :
  ∃F',NO R e size lv W' base F' v (xs.set i x)∧∀b,F' b→F b∨Fu b:=by
 have m:=h.putN hi hu hl (fun j n b hb=>hd b ((hF b).2 (.inr ⟨j,n,hb⟩))) (fun b hb e=>hd b ((hF b).2 (.inl e)) hb) hr hm hold hnew;have d:(xs.set i x).length=xs.length:=by simp
 refine⟨fun b=>v.ownBlock=some b∨∃k,k<xs.length∧upd fs i Fu k b,⟨cs',upd us i u,upd fs i Fu,?_,fun b=>by rw[d]⟩,fun b hb=>?_⟩
 ·rw[d];exact m.cast (fun k g=>fXo xs x i k hi)
 rcases hb with hb|⟨k,g,hb⟩
 ·exact .inl ((hF b).2 (.inl hb))
 by_cases l:k=i
 ·subst l;rw[gY] at hb;exact .inr hb
 rw[upd_ne _ _ l] at hb;exact .inl ((hF b).2 (.inr ⟨k,g,hb⟩))
theorem fKh (w:World) {α:Type} [Inhabited α] {R:Rep α} {lv:Value→List Value} (t ty e:TypeId) (i:TypeInfo) (z:Value) (size bytes:Nat) (ht:Tryz.prog.underlying t=some (.slice e)) (hi:Tryz.prog.info? e=some i) (hz:i.zero=some z)
  (hsize:i.size=size) (hby:i.bytes=bytes) (hzs:z.cells.size=size) (hsz:0<size) (hb1:bytes≤1000)
  (base:Nat) {F Fu:Nat→Prop} (v u:Value) (xs:List α) (x:α) (hown:NO R e size lv w base F v xs) (hu:R.O w base Fu u x) (hl:(lv u).length=size) (h1:∀y ∈ lv u,y.oneCell'=true) (hd:∀b,F b→¬Fu b)
  (ad:Addr) (c:Nat) (hc:∀j y,(lv u)[j]? = some y→w.cell? (ad.add j)=some y) (hn:xs.length≤2000000) (hbase:base≤w.heap.size) :
  ∃v' w' F',(Builtin.append_ #[t,t] ty #[v,.slice (some ad) 1 c]).run Tryz.prog w =.ok v' w'∧NO R e size lv w' base F' v' (xs++[x])∧w.grownBy w' v.ownBlock∧(∀b,F' b→F b∨Fu b∨w.heap.size≤b):=by
 obtain⟨cs,us,fs,g,m⟩:=hown;obtain⟨v',w',n,h2,k,s,d⟩:=run_append_own_at (P:=Tryz.prog) w base t ty e i z size bytes ht hi hz hsize hby hzs hsz v xs.length cs g.row ad 1 c (lv u) oM hc h1 (by unfold maxLen;omega) (Nat.le_trans (Nat.mul_le_mul_left _ hb1) oM) hbase;have p:cs.length=xs.length*size:=g.row.1;have q:cs.take (xs.length*size)++lv u++cs.drop (xs.length*size)=cs++lv u:=by
  rw[List.take_of_length_le oM,List.drop_of_length_le oM,List.append_nil]
 obtain⟨F',l,r⟩:=NO.ins g m (Nat.le_refl _) hu hl hd (by rw[q];exact h2) (Mod.of_grown k) (fun b hb=>by
  rcases d with d|d
  ·exact .inl (d▸hb)
  rw[d] at hb;simp only[Option.some.injEq] at hb;exact .inr oM)
 rw[List.take_of_length_le (Nat.le_refl _),List.drop_of_length_le (Nat.le_refl _),List.append_nil] at l;exact⟨v',w',F',n,l,k,r⟩
theorem fQ6 {w:World} {ops:Array Oper} {rest:List Oper} {o:Oper} {a:Act} {Q:Exit→Act→World→Prop} (hgd:o.guard=none) (s x:Operand) (t t':TypeId)
  (ho:o.op =.call {callee:=.builtin .append,args:=#[s,x],argTypes:=#[t,t']}) (v u:Value) (hs:a.eval s=v) (hx:a.eval x=u) {v':Value} {w':World}
  (hr:(Builtin.append_ #[t,t'] o.type #[v,u]).run Tryz.prog w =.ok v' w') (h:wpList Tryz.prog ops Q rest (a.put o.dst v') w'):wpList Tryz.prog ops Q (o::rest) a w:=by
 refine wpList_plain hgd fun K d=>?_
 unfold Oper.wp execOp;simp only[ho,resolve,invoke,builtin,Sem.run_bind,Sem.run_pure,Result.andThen_ok,List.map_toArray,List.map_cons,List.map_nil,hs,hx,hr];exact d _ _ h
theorem fWa {ops:Array Oper} {o:Oper} {a:Act} {w:World} {K:Act→World→Prop} {Q:Exit→Act→World→Prop} {E:Prop} (hgd:o.guard=none) (s x:Operand) (t t':TypeId)
  (ho:o.op =.call {callee:=.builtin .append,args:=#[s,x],argTypes:=#[t,t']}) (v u:Value) (hs:a.eval s=v) (hx:a.eval x=u) {v':Value} {w':World}
  (hr:(Builtin.append_ #[t,t'] o.type #[v,u]).run Tryz.prog w =.ok v' w') (hK:K (a.put o.dst v') w') :
  if Region.wanted o (yielded ops a.tmps)=true then Oper.wp Tryz.prog o a w K Q else E:=by
 have d:Region.wanted o (yielded ops a.tmps)=true:=by simp[Region.wanted,hgd]
 rw[if_pos d];unfold Oper.wp execOp;simp only[ho,resolve,invoke,builtin,Sem.run_bind,Sem.run_pure,Result.andThen_ok,List.map_toArray,List.map_cons,List.map_nil,hs,hx,hr];exact hK
theorem fQ5 (w:World) {α:Type} [Inhabited α] {R:Rep α} {lv:Value→List Value} {ops:Array Oper} {rest:List Oper} {o:Oper} {a:Act} {Q:Exit→Act→World→Prop} (hgd:o.guard=none) (s x:Operand) (t:TypeId)
  (ho:o.op =.call {callee:=.builtin .append,args:=#[s,x],argTypes:=#[t,t]}) (e:TypeId) (i:TypeInfo) (z:Value) (size bytes:Nat) (ht:Tryz.prog.underlying t=some (.slice e)) (hi:Tryz.prog.info? e=some i) (hz:i.zero=some z)
  (hsize:i.size=size) (hby:i.bytes=bytes) (hzs:z.cells.size=size) (hsz:0<size) (hb1:bytes≤1000)
  (base:Nat) (F Fu:Nat→Prop) (v u:Value) (xs:List α) (y:α) (ad:Addr) (c:Nat) (hs:a.eval s=v) (hx:a.eval x =.slice (some ad) 1 c) (hown:NO R e size lv w base F v xs) (hu:R.O w base Fu u y) (hl:(lv u).length=size) (h1:∀y ∈ lv u,y.oneCell'=true) (hd:∀b,F b→¬Fu b)
  (hc:∀j y,(lv u)[j]? = some y→w.cell? (ad.add j)=some y) (hn:xs.length≤2000000) (hbase:base≤w.heap.size)
  (h:∀v' w' F',NO R e size lv w' base F' v' (xs++[y])→Below base w w'→(∀b,F' b→F b∨Fu b∨w.heap.size≤b)→wpList Tryz.prog ops Q rest (a.put o.dst v') w'):wpList Tryz.prog ops Q (o::rest) a w:=by
 obtain⟨v',w',F',d,h2,g,k⟩:=fKh w t o.type e i z size bytes ht hi hz hsize hby hzs hsz hb1 base v u xs y hown hu hl h1 hd ad c hc hn hbase;obtain⟨cs,us,fs,l,m⟩:=hown;exact fQ6 hgd s x t t ho v _ hs hx d (h v' w' F' h2 ((Below.refl base w).grown g hbase (fun b e=>(l.row.lt b e).1)) k)
theorem fV9 (w:World) {α:Type} [Inhabited α] {R:Rep α} {lv:Value→List Value} {ops:Array Oper} {o:Oper} {a:Act} {K:Act→World→Prop} {Q:Exit→Act→World→Prop} {E:Prop} (hgd:o.guard=none) (s x:Operand) (t:TypeId)
  (ho:o.op =.call {callee:=.builtin .append,args:=#[s,x],argTypes:=#[t,t]}) (e:TypeId) (i:TypeInfo) (z:Value) (size bytes:Nat) (ht:Tryz.prog.underlying t=some (.slice e)) (hi:Tryz.prog.info? e=some i) (hz:i.zero=some z)
  (hsize:i.size=size) (hby:i.bytes=bytes) (hzs:z.cells.size=size) (hsz:0<size) (hb1:bytes≤1000)
  (base:Nat) (F Fu:Nat→Prop) (v u:Value) (xs:List α) (y:α) (ad:Addr) (c:Nat) (hs:a.eval s=v) (hx:a.eval x =.slice (some ad) 1 c) (hown:NO R e size lv w base F v xs) (hu:R.O w base Fu u y) (hl:(lv u).length=size) (h1:∀y ∈ lv u,y.oneCell'=true) (hd:∀b,F b→¬Fu b)
  (hc:∀j y,(lv u)[j]? = some y→w.cell? (ad.add j)=some y) (hn:xs.length≤2000000) (hbase:base≤w.heap.size)
  (h:∀v' w' F',NO R e size lv w' base F' v' (xs++[y])→Below base w w'→(∀b,F' b→F b∨Fu b∨w.heap.size≤b)→K (a.put o.dst v') w') :
  if Region.wanted o (yielded ops a.tmps)=true then Oper.wp Tryz.prog o a w K Q else E:=by
 obtain⟨v',w',F',d,h2,g,k⟩:=fKh w t o.type e i z size bytes ht hi hz hsize hby hzs hsz hb1 base v u xs y hown hu hl h1 hd ad c hc hn hbase;obtain⟨cs,us,fs,l,m⟩:=hown;exact fWa hgd s x t t ho v _ hs hx d (h v' w' F' h2 ((Below.refl base w).grown g hbase (fun b e=>(l.row.lt b e).1)) k)
end
section
variable [dQ Leg] [iH Leg] [dQ Cont] [iH Cont] [dQ Evt] [iH Evt] [dQ EvtsR] [iH EvtsR] [dQ EvtR] [iH EvtR] [dQ BytesR] [iH BytesR] [dQ ContR] [iH ContR] [dQ Logg] [iH Logg] [dQ LoggR] [iH LoggR] [dQ RecsR] [iH RecsR]
def evL (rs:List (List Byte)):List Evt:=rs.map (fun r=>(unpE r).evt)
def allE (rs:List (List Byte)):Bool:=rs.all (fun r=>decide ((unpE r).code=0))
def evsR (xs:List Byte):EvtsR:=
 if allE (recL xs)=true∧recU xs=xs.length then (if (recL xs).length≤60 then ⟨0,evL (recL xs)⟩ else ⟨2,[]⟩) else ⟨5,[]⟩
def evsD (d:Logg):EvtsR:=if logF d=0 then evsR (d.synced++d.loose) else ⟨2,[]⟩
theorem fTq {rs:List (List Byte)} (h:∀j,j<rs.length→(unpE (rs.getD j default)).code=0):allE rs=true:=by
 unfold allE;rw[List.all_eq_true];intro r e;obtain⟨i,d,rfl⟩:=List.getElem_of_mem e;have:=h i d;simp only[List.getD,List.getElem?_eq_getElem d,Option.getD_some] at this;exact decide_eq_true this
theorem fTp {rs:List (List Byte)} {k:Nat} (hk:k<rs.length) (h:¬(unpE (rs.getD k default)).code=0):allE rs=false:=by
 cases ha:allE rs
 ·rfl
 exfalso
 unfold allE at ha;rw[List.all_eq_true] at ha;have:=ha (rs.getD k default) (by simp[List.getD,hk]);exact h (of_decide_eq_true this)
theorem fPy {rs:List (List Byte)} {k:Nat} (hk:k<rs.length):evL (rs.take (k+1))=evL (rs.take k)++[(unpE (rs.getD k default)).evt]:=by
 unfold evL;rw[List.take_add_one,List.map_append];congr 1;simp[List.getD,hk]
theorem fUb (rs:List (List Byte)):(evL rs).length=rs.length:=by unfold evL;rw[List.length_map]
theorem fP1 {xs:List Byte} (h:allE (recL xs)=false∨¬recU xs=xs.length):evsR xs=⟨5,[]⟩:=by
 unfold evsR;rw[if_neg];rintro⟨h1,h2⟩;rcases h with h|h
 ·rw[h1] at h;cases h
 exact h h2
theorem fLh {xs:List Byte} (h:allE (recL xs)=true) (h1:recU xs=xs.length) (h2:¬(recL xs).length≤60):evsR xs=⟨2,[]⟩:=by unfold evsR;rw[if_pos ⟨h,h1⟩,if_neg h2]
theorem fUf {xs:List Byte} (h:allE (recL xs)=true) (h1:recU xs=xs.length) (h2:(recL xs).length≤60):evsR xs=⟨0,evL (recL xs)⟩:=by unfold evsR;rw[if_pos ⟨h,h1⟩,if_pos h2]
theorem fIt (xs:List Byte):(recL xs).length≤xs.length:=by
 have H:∀n (xs:List Byte),xs.length≤n→(recL xs).length≤xs.length:=by
  intro n;induction n with
  | zero=>intro xs h;rw[fKe (yQ oM)];simp
  | succ n ih=>
   intro xs h;by_cases d:fV xs=0
   ·rw[fKe d];simp
   have e:=rA d;have:=ih (xs.drop (fV xs)) (by rw[List.length_drop];omega);rw[fMj d];rw[List.length_drop] at this;simp only[List.length_cons];omega
 exact H _ xs (Nat.le_refl _)
theorem fM9 (w:World) {ops:Array Oper} {rest:List Oper} {o:Oper} {a:Act} {Q:Exit→Act→World→Prop} (hgd:o.guard=none) (s x:Operand)
  (ho:o.op =.call {callee:=.builtin .append,args:=#[s,x],argTypes:=#[78,78]})
  (base:Nat) (F Fu:Nat→Prop) (v:Value) (xs:List Evt) (y:Evt) (g:Nat) (p:Option Addr) (q:Nat) (hs:a.eval s=v) (hx:a.eval x =.slice (some ⟨g,0,none⟩) 1 1) (hown:evtsR.O w base F v xs) (hu:evtR.O w base Fu (.agg #[.bool y.vote,iV y.con.id,.slice p y.con.legs.length q,iV y.out]) y) (hd:∀b,F b→¬Fu b)
  (hc:w.cell? ⟨g,0,none⟩=some (.bool y.vote)∧w.cell? ⟨g,1,none⟩=some (iV y.con.id)∧w.cell? ⟨g,2,none⟩=some (.slice p y.con.legs.length q)∧w.cell? ⟨g,3,none⟩=some (iV y.out)) (hn:xs.length≤2000000) (hbase:base≤w.heap.size)
  (h:∀v' w' F',evtsR.O w' base F' v' (xs++[y])→Below base w w'→(∀b,F' b→F b∨Fu b∨w.heap.size≤b)→wpList Tryz.prog ops Q rest (a.put o.dst v') w'):wpList Tryz.prog ops Q (o::rest) a w:=by
 obtain⟨n,r,e,k,l⟩:=info_parts fXs;exact fQ5 w hgd s x 78 ho 59 n _ 4 48 Tryz.underlying78 r e k l rfl (by decide) (by decide) base F Fu v _ xs y ⟨g,0,none⟩ 1 hs hx hown (evtf_O.2 hu) rfl (fun z m=>by
  simp[fOr,one] at m;rcases m with rfl|rfl|rfl|rfl <;> rfl) hd (fun j A d=>by
  match j,d with
  | 0,d=>simp[fOr,one] at d;subst d;simpa [Addr.add] using hc.1
  | 1,d=>simp[fOr,one] at d;subst d;simpa [Addr.add] using hc.2.1
  | 2,d=>simp[fOr,one] at d;subst d;simpa [Addr.add] using hc.2.2.1
  | 3,d=>simp[fOr,one] at d;subst d;simpa [Addr.add] using hc.2.2.2
  | j+4,d=>simp[fOr,one] at d) hn hbase h
theorem xB (w:World) (base:Nat):evtsR.O w base (fun _=>False) aj []:=
 ⟨[],fun _=>default,fun _ _=>False,⟨World.ownsRow_nil _ _ _ _,fun i d=>absurd d (Nat.not_lt_zero _),fun i d=>absurd d (Nat.not_lt_zero _),fun i d=>absurd d (Nat.not_lt_zero _),fun i d=>absurd d (Nat.not_lt_zero _),fun i j d=>absurd d (Nat.not_lt_zero _)⟩,fun b=>⟨fun h=>h.elim,fun h=>h.elim (fun h=>by simp[Value.ownBlock] at h) (fun ⟨i,d,_⟩=>absurd d (Nat.not_lt_zero _))⟩⟩
theorem fXm (Y:World) (base:Nat) (hb:base≤Y.heap.size):evtsR.O (Y.alloc (.cells #[] 59)) base (fun b=>b=Y.heap.size) (.slice (some ⟨Y.heap.size,0,none⟩) 0 0) []:=
 ⟨[],fun _=>default,fun _ _=>False,⟨World.ownsRow_lit (base:=base) (e:=59) (size:=4) Y #[] 0 hb (by decide) rfl,fun i d=>absurd d (Nat.not_lt_zero _),fun i d=>absurd d (Nat.not_lt_zero _),fun i d=>absurd d (Nat.not_lt_zero _),fun i d=>absurd d (Nat.not_lt_zero _),fun i j d=>absurd d (Nat.not_lt_zero _)⟩,fun b=>⟨fun h=>.inl (by simp[Value.ownBlock,h]),fun h=>h.elim (fun h=>by simpa [Value.ownBlock,eq_comm] using h) (fun ⟨i,d,_⟩=>absurd d (Nat.not_lt_zero _))⟩⟩
theorem fVs {w:World} {v:Value} {rs:List (List Byte)} (h:bytessR.V w v rs):∃a c,v =.slice a rs.length c∧rs.length≤c∧c≤maxLen∧∀k,k<rs.length→∃b o u,a=some ⟨b,o,none⟩∧w.cell? ⟨b,o+k,none⟩=some u∧bytesR.V w u (rs.getD k default):=by
 obtain⟨a,c,rfl,h1,h2,d⟩:=h;refine⟨a,c,rfl,h1,h2,fun k g=>?_⟩;obtain⟨b,o,u,e,_,p,j⟩:=d k g;exact⟨b,o,u,e,fT0 p,j⟩
end
section
open Go.Maps
def kv (s a t:Int):Value:=.agg #[.int .i64 s,.int .i64 a,.int .i64 t]
def kwf (s a t:Int):Prop:=(Lit.int .i64 s).wf=true∧(Lit.int .i64 a).wf=true∧(Lit.int .i64 t).wf=true
theorem fAb {n:Int} (h0 : -9223372036854775808≤n) (h1:n≤9223372036854775807):(Lit.int .i64 n).wf=true:=by
 simp[Lit.wf,IntKind.min,IntKind.max,IntKind.signed,IntKind.bits];omega
theorem fJy:(match Tryz.prog.underlying 254 with|some (.array _ _)|some (.struct _)=>true|_=>false)=true:=by rw[Tryz.underlying254]
theorem holdLaw:Keyed Tryz.prog 254:=Keyed.of_law (deep_law_laid laidOut (m:=2) oM (of_decide_eq_true kF) kF fJy)
theorem fFh:Tryz.prog.cellsOf 254=3:=kF
theorem fXr:Tryz.prog.keyType 254=true:=kF
theorem fLq:∃d,Tryz.prog.types.size+1=d+1+1:=⟨Tryz.prog.types.size-1,by have h:0<Tryz.prog.types.size:=of_decide_eq_true kF;omega⟩
theorem fOa (d:Nat) (n:Int) (h:(Lit.int .i64 n).wf=true):Tryz.prog.keyLits (d+1) 2 [.int .i64 n]=some [.int .i64 n]:=by
 unfold Program.keyLits;rw[Tryz.underlying2];simp[h]
theorem fAn {s a t:Int} (h:kwf s a t):∃kl,keyOf Tryz.prog 254 (kv s a t)=some kl:=by
 obtain⟨d,e⟩:=fLq;obtain⟨h0,h1,h2⟩:=h;have g:Tryz.prog.cellsOf 2=1:=kF;have j:(kv s a t).formed Tryz.prog 254=true:=by simp[kv,Value.formed,Tryz.underlying254,fFh]
 have k:Tryz.prog.keyLits (Tryz.prog.types.size+1) 254 (kv s a t).cells.toList=some [.int .i64 s,.int .i64 a,.int .i64 t]:=by
  rw[e];unfold Program.keyLits;rw[Tryz.underlying254];simp[kv,Value.cells,fFh,g,List.range,List.range.loop,fOa d s h0,fOa d a h1,fOa d t h2]
 unfold keyOf;rw[Tryz.underlying254];dsimp only;rw[if_pos (by rw[fXr,j];rfl),k];exact⟨_,rfl⟩
theorem fBd {d:Nat} {c:Value} {l:List Lit} (h:Tryz.prog.keyLits (d+1) 2 [c]=some l):∃n,c =iV n∧(Lit.int .i64 n).wf=true:=by
 unfold Program.keyLits at h;rw[Tryz.underlying2] at h;cases c <;> simp at h
 obtain⟨⟨rfl,e⟩,_⟩:=h;exact⟨_,rfl,e⟩
theorem fLz {v:Value} {kl:Lit} (h:keyOf Tryz.prog 254 v=some kl):∃s a t,v=kv s a t∧kwf s a t:=by
 obtain⟨xs,L,rfl,e,_⟩:=keyOf_top fJy h;obtain⟨d,m⟩:=fLq;have n:Tryz.prog.cellsOf 2=1:=kF;rw[m] at e;unfold Program.keyLits at e;rw[Tryz.underlying254] at e;simp only[fFh,n] at e;split at e
 ·
  rename_i p;obtain⟨l⟩:=xs;match l,p with
  | [c0,c1,c2],_=>
   simp[List.range,List.range.loop] at e;cases g:Tryz.prog.keyLits (d+1) 2 [c0] with
   | none=>simp[g] at e
   | some l0=>
    cases j:Tryz.prog.keyLits (d+1) 2 [c1] with
    | none=>simp[g,j] at e
    | some l1=>
     cases k:Tryz.prog.keyLits (d+1) 2 [c2] with
     | none=>simp[g,j,k] at e
     | some l2=>
      obtain⟨q,rfl,r⟩:=fBd g;obtain⟨x,rfl,y⟩:=fBd j;obtain⟨z,rfl,A⟩:=fBd k;exact⟨q,x,z,rfl,r,y,A⟩
 cases e
theorem fQd {s a t s' a' t':Int} (h:kv s a t=kv s' a' t'):s=s'∧a=a'∧t=t':=by
 simpa [kv] using h
def Book (w:World) (b n:Nat) (f:Int→Int→Int→Option Int):Prop:=
 ∃D:DataW Unit,w.ownsMap Tryz.prog 254 (plainElem Tryz.prog 2) b n D ∧
  ∀s a t kl,keyOf Tryz.prog 254 (kv s a t)=some kl→Maps.has D kl=(f s a t).isSome∧D.atKey kl (.lit (.int .i64 0)) =.lit (.int .i64 ((f s a t).getD 0))
def upd3 (f:Int→Int→Int→Option Int) (s a t:Int) (v:Option Int):Int→Int→Int→Option Int:=fun s' a' t'=>if s'=s∧a'=a∧t'=t then v else f s' a' t'
theorem fTw (w:World):Book (w.alloc (.map #[] 0)) w.heap.size 0 (fun _ _ _=>none):=
 ⟨_,World.ownsMap_made w _ _ _,fun _ _ _ _ _=>⟨rfl,rfl⟩⟩
theorem Book.lt {w:World} {b n:Nat} {f:Int→Int→Int→Option Int} (h:Book w b n f):b<w.heap.size:=by
 obtain⟨D,d,_⟩:=h;exact d.lt
theorem Book.kept {w w':World} {b n:Nat} {f:Int→Int→Int→Option Int} {row:Option Nat} (h:Book w b n f) (hg:w.grownBy w' row) (hne:some b≠row):Book w' b n f:=by
 obtain⟨D,d,h1⟩:=h;exact⟨D,d.kept hg hne,h1⟩
theorem Book.below {w w':World} {b n:Nat} {f:Int→Int→Int→Option Int} (h:Book w b n f) (hb:aa w w'):Book w' b n f:=h.kept (fAw hb) (by simp)
theorem Book.mono {w:World} {b n n':Nat} {f:Int→Int→Int→Option Int} (h:Book w b n f) (hn:n≤n'):Book w b n' f:=by
 obtain⟨D,d,h1⟩:=h;exact⟨D,d.mono hn,h1⟩
theorem Book.cast {w:World} {b n:Nat} {f g:Int→Int→Int→Option Int} (h:Book w b n f) (hf:∀s a t,kwf s a t→g s a t=f s a t):Book w b n g:=by
 obtain⟨D,j,h1⟩:=h;refine⟨D,j,fun s a t l d=>?_⟩;obtain⟨m,a',p,e,k⟩:=fLz d;obtain⟨rfl,rfl,rfl⟩:=fQd e;rw[hf _ _ _ k];exact h1 _ _ _ _ d
theorem Book.turned {w w':World} {b n:Nat} {f:Int→Int→Int→Option Int} (h:Book w b n f) {F:Nat→Prop} (hm:Mod F w w') (hF:¬F b):Book w' b n f:=by
 obtain⟨D,⟨g,d,hb,h2⟩,h1⟩:=h;refine⟨D,⟨g,d,?_,h2⟩,h1⟩;have e:b<w.heap.size:=by
  rcases Nat.lt_or_ge b w.heap.size with h|h
  ·exact h
  rw[Array.getElem?_eq_none h] at hb;cases hb
 rw[hm.block b e hF];exact hb
theorem fWo (w:World):(zeroValue 2).run Tryz.prog w =.ok (iV 0) w:=kF
theorem Book.look {w:World} {b n:Nat} {f:Int→Int→Int→Option Int} (h:Book w b n f) {s a t:Int} (hw:kwf s a t) :
  (Instr.lookup 225 (.map (some b)) (kv s a t) false).run Tryz.prog w =.ok (iV ((f s a t).getD 0)) w∧(Lit.int .i64 ((f s a t).getD 0)).wf=true:=by
 obtain⟨D,k,h1⟩:=h;obtain⟨l,j⟩:=fAn hw;obtain⟨c,d,e,g⟩:=k.lookup_int holdLaw Tryz.underlying225 Tryz.underlying2 (fWo w) j;have:=(h1 s a t l j).2;rw[e] at this;simp at this;rw[←this];exact⟨d,g⟩
theorem Book.put {w:World} {b n:Nat} {f:Int→Int→Int→Option Int} (h:Book w b n f) {s a t v:Int} (hw:kwf s a t) (hv:(Lit.int .i64 v).wf=true) (hn:n<maxLen) :
  ∃w',(Instr.mapUpdate 225 (.map (some b)) (kv s a t) (iV v)).run Tryz.prog w =.ok () w'∧Book w' b (n+1) (upd3 f s a t (some v))∧w.grownBy w' (some b):=by
 obtain⟨D,l,h1⟩:=h;obtain⟨p,g⟩:=fAn hw;obtain⟨w',j,m,q⟩:=l.update holdLaw Tryz.underlying225 hn g (plainElem_int Tryz.underlying2 hv);refine⟨w',j,⟨_,m,fun r a' x k d=>?_⟩,q⟩;unfold upd3;by_cases e:k=p
 ·subst e;have:=holdLaw.inj d g;obtain⟨rfl,rfl,rfl⟩:=fQd this;rw[if_pos ⟨rfl,rfl,rfl⟩];exact⟨has_put_same l.isMap (holdLaw.key g) _,atKey_put_same l.isMap (holdLaw.key g) _ _⟩
 rw[if_neg (by
  rintro⟨rfl,rfl,rfl⟩;rw[g] at d;exact e (by simpa using d.symm)),has_put_other e,atKey_put_other e]
 exact h1 r a' x k d
theorem Book.del {w:World} {b n:Nat} {f:Int→Int→Int→Option Int} (h:Book w b n f) {s a t:Int} (hw:kwf s a t) (ty:TypeId) :
  ∃w',(Builtin.delete_ #[225,254] ty #[.map (some b),kv s a t]).run Tryz.prog w =.ok (.tuple #[]) w'∧Book w' b n (upd3 f s a t none)∧w.grownBy w' (some b):=by
 obtain⟨D,m,h1⟩:=h;obtain⟨p,k⟩:=fAn hw;obtain⟨w',g,l,q⟩:=m.drop holdLaw Tryz.underlying225 k ty;refine⟨w',g,⟨_,l,fun r a' x j d=>?_⟩,q.grown⟩;unfold upd3;by_cases e:j=p
 ·subst e;have:=holdLaw.inj d k;obtain⟨rfl,rfl,rfl⟩:=fQd this;rw[if_pos ⟨rfl,rfl,rfl⟩];exact⟨has_del_same,atKey_del_same _⟩
 rw[if_neg (by
  rintro⟨rfl,rfl,rfl⟩;rw[k] at d;exact e (by simpa using d.symm)),has_del_other e,atKey_del_other e]
 exact h1 r a' x j d
end
section
structure Rw where
 key:ByteArray
 ver:Int
 val:ByteArray
 gone:Bool
variable [dQ Rw] [iH Rw]
variable [dQ Rw] [iH Rw]
def Fit (xs:List Rw):Prop:=∀i,i<xs.length→(xs.getD i default).key.size≤maxLen∧(xs.getD i default).val.size≤maxLen
def cmpB (a b:ByteArray):Int:=Lib.compareBytes a.data.toList b.data.toList
def cmpI (x y:Int):Int:=if x<y then -1 else if y<x then 1 else 0
def orI (x y:Int):Int:=if x=0 then y else x
def cmpR (a b:Rw):Int:=orI (cmpB a.key b.key) (cmpI b.ver a.ver)
def ahead (a b:Rw):Bool:=decide (cmpR a b<0)
theorem fUv (x:Int) (w:World) :
  cL 230 #[iV x] w fun e w'=>e =.returned (.bool false)∧w'=w:=by
 go_enter Tryz.func230,Tryz.ntmps230;go_wp2;go_ret;exact⟨rfl,rfl⟩
theorem fAv (x y:Int) (w:World) :
  cL 210 #[iV x,iV y] w fun e w'=>e =.returned (iV (cmpI x y))∧w'=w:=by
 go_enter Tryz.func210,Tryz.ntmps210;go_wp2_with (go_at_call 230;refine(fUv _ _).mono ?_;rintro e w' ⟨rfl,rfl⟩);all_goals (go_ret;refine⟨?_,rfl⟩;unfold cmpI;(repeat' split) <;> first|rfl|(exfalso;omega))
end
end Go.Proofs.YtpibfdebfacooaaGreat

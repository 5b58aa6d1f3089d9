import Derived.Test.YtpibfdebfacooaaGreatPrnWriteEventLaw16
set_option maxHeartbeats 16000000
set_option maxRecDepth 20000
set_option linter.all false
namespace Go.Proofs.YtpibfdebfacooaaGreat
open Go.RowKit
variable [dQ Rw] [iH Rw] [dQ Bal] [iH Bal] [dQ Ledg] [iH Ledg] [dQ Leg] [iH Leg] [dQ Cont] [iH Cont] [dQ LedgR] [iH LedgR] [dQ OutcR] [iH OutcR] [dQ Mrk] [iH Mrk] [dQ Shd] [iH Shd] [dQ ShdR] [iH ShdR]
attribute [local go_sem ↓] Go.wp_at_zero Go.wp_at_succ
attribute [local go_sem] cI ah iV
def fAs (s:Shd):Int:=if fI (kD s) s.held.length=0 then (if fI (kH s) s.votes.length=0 then (if yI s.done s.appl=true then zL s else 1) else 1) else fI (kD s) s.held.length
theorem fV1 {s:Shd} (h0:qA s.idx s.bals=0) (h1:¬(100<s.votes.length∨100<s.held.length∨100<s.done.length∨100<s.appl.length)) (h2:mrkF s.votes=0) (h3:mrkF s.done=0):shdF s=fAs s:=by
 unfold shdF mG fAs;rw[if_pos h0,if_neg h1,if_pos h2,if_pos h3];by_cases a:fI (kD s) s.held.length=0
 ·
  rw[if_pos a,if_pos a];by_cases b:fI (kH s) s.votes.length=0
  ·
   rw[if_pos b,if_pos b];by_cases c:yI s.done s.appl=true
   ·rw[if_pos c,if_pos c,if_pos rfl]
   rw[if_neg c,if_neg c,if_neg oM]
  rw[if_neg b,if_neg b,if_neg oM]
 rw[if_neg a,if_neg a,if_neg a]
theorem fTc {s:Shd} {k:Nat} {c:Int} (hk:k<s.held.length) (hs:fI (kD s) k=0) (h:kD s k=c) (hc:c≠0):fAs s=c:=by
 have e:=mV hs (by rw[h];exact hc) _ hk;unfold fAs;rw[e,h,if_neg hc]
theorem fTd {s:Shd} {k:Nat} (h0:fI (kD s) s.held.length=0) (hk:k<s.votes.length) (hs:fI (kH s) k=0) (h:kH s k=1):fAs s=1:=by
 have e:=mV hs (by rw[h];omega) _ hk;unfold fAs;rw[if_pos h0,e,h,if_neg oM]
theorem fTb {s:Shd} (h0:fI (kD s) s.held.length=0) (h1:fI (kH s) s.votes.length=0):fAs s=if yI s.done s.appl=true then zL s else 1:=by
 unfold fAs;rw[if_pos h0,if_pos h1]
theorem fOe {s:Shd} {k:Nat} (hk:k<s.held.length) (hs:fI (gW s) k=0) (h:gW s k=7):zL s=7:=by
 have e:=mV hs (by rw[h];omega) _ hk;unfold zL;rw[e,h,if_neg oM]
theorem fOf {s:Shd} {k:Nat} {c:Int} (h0:fI (gW s) s.held.length=0) (hk:k<s.held.length) (hs:fI (gN s) k=0) (h:gN s k=c) (hc:c≠0):zL s=c:=by
 have e:=mV hs (by rw[h];exact hc) _ hk;unfold zL;rw[if_pos h0,e,h]
theorem fXz {s:Shd} (h0:fI (gW s) s.held.length=0) (h:fI (gN s) s.held.length=0):zL s=0:=by
 unfold zL;rw[if_pos h0,h]
theorem fFb {s:Shd} {k:Nat} (h:¬fA (s.held.getD k default).id (s.held.getD k default).legs=0):kD s k=fA (s.held.getD k default).id (s.held.getD k default).legs:=by unfold kD;rw[if_neg h]
theorem fHz {s:Shd} {k:Nat} (h:fA (s.held.getD k default).id (s.held.getD k default).legs=0) (h2:¬(uP s.held k=true∧¬(onSh s.idx (s.held.getD k default).legs).length=0∧fK (s.held.getD k default).id s.votes=1∧fK (s.held.getD k default).id s.done=0)):kD s k=1:=by unfold kD;rw[if_pos h,if_neg h2]
theorem fLm {s:Shd} {k:Nat} (h:fA (s.held.getD k default).id (s.held.getD k default).legs=0) (h2:uP s.held k=true∧¬(onSh s.idx (s.held.getD k default).legs).length=0∧fK (s.held.getD k default).id s.votes=1∧fK (s.held.getD k default).id s.done=0):kD s k=0:=by unfold kD;rw[if_pos h,if_pos h2]
structure HeldOk (s:Shd):Prop where
 cf:∀k,k<s.held.length→fA (s.held.getD k default).id (s.held.getD k default).legs=0
 rise:∀i j,i<j→j<s.held.length→(s.held.getD i default).id<(s.held.getD j default).id
 leg:∀k,k<s.held.length→¬(onSh s.idx (s.held.getD k default).legs).length=0
 vote:∀k,k<s.held.length→fK (s.held.getD k default).id s.votes=1
 open_:∀k,k<s.held.length→fK (s.held.getD k default).id s.done=0
theorem fFg {s:Shd} (h:fI (kD s) s.held.length=0):HeldOk s:=by
 have h1:=vK h;have h2:∀k,k<s.held.length→fA (s.held.getD k default).id (s.held.getD k default).legs=0∧uP s.held k=true∧¬(onSh s.idx (s.held.getD k default).legs).length=0∧fK (s.held.getD k default).id s.votes=1∧fK (s.held.getD k default).id s.done=0:=fun k g=>by
  have d:=h1 k g;unfold kD at d;split at d
  ·
   rename_i l;split at d
   ·rename_i m;exact⟨l,m⟩
   omega
  rename_i l;exact absurd d l
 have n:∀k,k+1<s.held.length→(s.held.getD k default).id<(s.held.getD (k+1) default).id:=fun k g=>by
  have d:=(h2 (k+1) g).2.1;unfold uP at d;rw[decide_eq_true_iff] at d;rcases d with d|d
  ·omega
  rw[Nat.add_sub_cancel] at d;exact d
 refine⟨fun k g=>(h2 k g).1,fun i j=>?_,fun k g=>(h2 k g).2.2.1,fun k g=>(h2 k g).2.2.2.1,fun k g=>(h2 k g).2.2.2.2⟩;induction j with
 | zero=>intro h;omega
 | succ j ih=>
  intro p q;have:=n j q;by_cases e:i=j
  ·rw[e];exact this
  have:=ih oM oM;omega
theorem HeldOk.fault {s:Shd} (h:HeldOk s) {k:Nat} (hk:k<s.held.length):∀l ∈ (s.held.getD k default).legs,gI l=0:=fun l g=>by
 obtain⟨i,d,rfl⟩:=List.getElem_of_mem g;have h1:=((fAu (h.cf k hk)).2.2.2.1 i d).1;have e:(s.held.getD k default).legs.getD i default=(s.held.getD k default).legs[i]:=by rw[List.getD,List.getElem?_eq_getElem d];rfl
 rw[e] at h1;exact h1
theorem HeldOk.small {s:Shd} (h:HeldOk s) {k:Nat} (hk:k<s.held.length):small (kI s k):=fun j d=>by
 have e:(kI s k).getD j default ∈ kI s k:=by simp[List.getD,d]
 exact(kC (h.fault hk _ (List.mem_filter.1 e).1)).2.2.2.1
theorem HeldOk.len {s:Shd} (h:HeldOk s) {k:Nat} (hk:k<s.held.length):(s.held.getD k default).legs.length≤8:=(fAu (h.cf k hk)).2.2.1
theorem fOi (x:Value) (d:Shd) (w:World) (hx:shdR.V w x d) (hbo:BalsOk d.bals) :
  RI 151 #[x] w (iV (fAs d)):=by
 have aZ:Hid (∀W c,aa w W→RI 157 #[x,iV c] W (.bool (fP d.held c))):=fun W c E=>fBy x d c W (shdR.below hx E)
 have ag:Hid (bW w fun W=>RI 182 #[x] W (.bool (yI d.done d.appl))):=fun W E=>fG3 x d W (shdR.below hx E)
 obtain⟨u1,u2,u3,u4,u5,rfl,h1,h2,h3,h4,h5⟩:=hx;have bh:Hid (∀W c,aa w W→RI 153 #[u2,iV c] W (iV (fK c d.votes))):=fun W c E=>uA u2 _ c W (mrksR.below h2 E)
 have bi:Hid (∀W c,aa w W→RI 153 #[u4,iV c] W (iV (fK c d.done))):=fun W c E=>uA u4 _ c W (mrksR.below h4 E)
 have bC:Hid (∀W y ls,aa w W→legsR.V W y ls→small ls→RI 184 #[u1,y] W (iV (yK d.bals ls))):=fun W y ls E hy hs=>fH9 u1 y d.bals ls W (balsR.below h1 E) hy (fF9 hbo) hs
 have ad:Hid (∀W k p q,aa w W→k<d.held.length→contR.V w (.agg #[iV (d.held.getD k default).id,.slice p (d.held.getD k default).legs.length q]) (d.held.getD k default)→RI 86 #[.agg #[iV (d.held.getD k default).id,.slice p (d.held.getD k default).legs.length q]] W (iV (fA (d.held.getD k default).id (d.held.getD k default).legs))):=fun W k p q E hk hV=>by
  obtain⟨u,e,hu⟩:=contR.below hV E;simp only[Value.agg.injEq,Array.mk.injEq,List.cons.injEq,and_true,true_and] at e;subst e;exact vF _ _ _ W hu
 have ar:Hid (∀W k p q,aa w W→k<d.held.length→fA (d.held.getD k default).id (d.held.getD k default).legs=0→contR.V w (.agg #[iV (d.held.getD k default).id,.slice p (d.held.getD k default).legs.length q]) (d.held.getD k default)→cL 127 #[.agg #[iV (d.held.getD k default).id,.slice p (d.held.getD k default).legs.length q],iV d.idx] W fun e w'=>∃v,e =.returned v∧w'.ownsRow W.heap.size 168 4 v (kI d k).length (gT (kI d k))∧aa W w'):=fun W k p q E hk h0 hV=>by
  obtain⟨u,e,hu⟩:=contR.below hV E;simp only[Value.agg.injEq,Array.mk.injEq,List.cons.injEq,and_true,true_and] at e;subst e;exact xZ _ _ _ _ W hu (by have:=(fAu h0).2.2.1;omega)
 obtain⟨a1,c1,rfl⟩:=fQ h1;obtain⟨a2,c2,rfl,bE,bF,bj⟩:=h2;obtain⟨a3,c3,rfl,bG,bH,bk⟩:=qN h3;obtain⟨a4,c4,rfl⟩:=fH h4;obtain⟨a5,c5,rfl⟩:=gL h5;unfold maxLen at bF bH;have b2:Hid (∀i,i<d.votes.length→∃b o,a2=some ⟨b,o,none⟩∧qP w b (o+i*2) (d.votes.getD i default)):=bj;have au:Hid (∀k,k<d.held.length→∃b o p q,a3=some ⟨b,o,none⟩∧w.cell? ⟨b,o+k*2,none⟩=some (iV (d.held.getD k default).id)∧w.cell? ⟨b,o+k*2+1,none⟩=some (.slice p (d.held.getD k default).legs.length q)∧contR.V w (.agg #[iV (d.held.getD k default).id,.slice p (d.held.getD k default).legs.length q]) (d.held.getD k default)):=bk;have av:Hid (∀k c,k<d.held.length→fI (kD d) k=0→kD d k=c→c≠0→fAs d=c):=fun k c hk hs h hc=>fTc hk hs h hc
 have az:Hid (fI (kD d) d.held.length=0→∀k,k<d.votes.length→fI (kH d) k=0→kH d k=1→fAs d=1):=fun h0 k hk hs h=>fTd h0 hk hs h
 have aA:Hid (fI (kD d) d.held.length=0→fI (kH d) d.votes.length=0→fAs d=if yI d.done d.appl=true then zL d else 1):=fun h0 h1=>fTb h0 h1
 have b3:Hid (∀k,k<d.held.length→fI (gW d) k=0→gW d k=7→zL d=7):=fun k hk hs h=>fOe hk hs h
 have b4:Hid (fI (gW d) d.held.length=0→∀k c,k<d.held.length→fI (gN d) k=0→gN d k=c→c≠0→zL d=c):=fun h0 k c hk hs h hc=>fOf h0 hk hs h hc
 have b5:Hid (fI (gW d) d.held.length=0→fI (gN d) d.held.length=0→zL d=0):=fun h0 h=>fXz h0 h
 have aN:Hid (fI (kD d) d.held.length=0→HeldOk d):=fun h=>fFg h
 clear h1 h3 h4 h5 bj bk;obtain⟨n3,b6⟩:∃n3,n3=d.held.length:=⟨_,rfl⟩
 have bl:Hid (d.held.length=n3):=b6.symm;rw[←b6] at au av az aA b3 b4 b5 aN ad ar aZ ag bG ⊢;clear b6;obtain⟨n2,bm⟩:∃n2,n2=d.votes.length:=⟨_,rfl⟩
 rw[←bm] at b2 az aA bh aZ ag bE ⊢;clear bm;generalize d.bals.length=n1 at *;generalize d.done.length=n4 at *;generalize d.appl.length=n5 at *;obtain⟨Z,hZ⟩:∃Z,Z=fAs d:=⟨_,rfl⟩
 rw[←hZ] at av az aA ⊢;clear hZ;go_enter Tryz.func151,Tryz.ntmps151;go_wp2;obtain⟨w0,a9⟩:∃w0,w0=w.alloc (.cells #[iV d.idx,.slice a1 n1 c1,.slice a2 n2 c2,.slice a3 n3 c3,.slice a4 n4 c4,.slice a5 n5 c5] 41):=⟨_,rfl⟩
 have D:cI w0 w.heap.size 0 d.idx:=cQ a9;have O:ah w0 w.heap.size 1 a1 n1 c1:=cQ a9;have R:ah w0 w.heap.size 2 a2 n2 c2:=cQ a9;have J:ah w0 w.heap.size 3 a3 n3 c3:=cQ a9;have L:ah w0 w.heap.size 4 a4 n4 c4:=cQ a9;have T:ah w0 w.heap.size 5 a5 n5 c5:=cQ a9;have bI:aa w w0:=by rw[a9];exact hE
 rw[←a9];clear a9;go_loopw [3] (fun i w'=>∃k:Nat,k≤n3∧i =.int .i64 k∧Hid (fI (kD d) k=0)∧aa w0 w') (fun i _=>n3-(intOf i).toNat)
 case atStart=>exact⟨0,oM,rfl,rfl,bR _ _⟩
 obtain⟨k,hk,rfl,HS,F⟩:=hrel;refine kR6 F ?_ D O R J L T;clear D O R J L T;intro D O R J L T;have G:aa w wr:=bS bI F;have zq:w.heap.size<wr.heap.size:=wL wr _ D;by_cases H:k<n3
 ·
  obtain⟨bx,ox,pp,qq,rfl,g0,g1,hV⟩:=au.out k H;have bn:Hid (bW wr fun W=>RI 86 #[.agg #[iV (d.held.getD k default).id,.slice pp (d.held.getD k default).legs.length qq]] W (iV (fA (d.held.getD k default).id (d.held.getD k default).legs))):=fun W E=>ad.out W k pp qq (bS G E) H hV
  have b7:Hid (bW wr fun W=>fA (d.held.getD k default).id (d.held.getD k default).legs=0→cL 127 #[.agg #[iV (d.held.getD k default).id,.slice pp (d.held.getD k default).legs.length qq],iV d.idx] W fun e w'=>∃v,e =.returned v∧w'.ownsRow W.heap.size 168 4 v (kI d k).length (gT (kI d k))∧aa W w'):=fun W E h0=>ar.out W k pp qq (bS G E) H h0 hV
  have b8:Hid (bW wr fun W=>RI 153 #[.slice a2 n2 c2,iV (d.held.getD k default).id] W (iV (fK (d.held.getD k default).id d.votes))):=fun W E=>bh.out W _ (bS G E)
  have b9:Hid (bW wr fun W=>RI 153 #[.slice a4 n4 c4,iV (d.held.getD k default).id] W (iV (fK (d.held.getD k default).id d.done))):=fun W E=>bi.out W _ (bS G E)
  have Y:Hid (¬fA (d.held.getD k default).id (d.held.getD k default).legs=0→Z=fA (d.held.getD k default).id (d.held.getD k default).legs):=fun h=>av.out k _ H HS.out (fFb h) h
  have ba:Hid (fA (d.held.getD k default).id (d.held.getD k default).legs=0→¬(uP d.held k=true∧¬(kI d k).length=0∧fK (d.held.getD k default).id d.votes=1∧fK (d.held.getD k default).id d.done=0)→Z=1):=fun h h2=>av.out k 1 H HS.out (fHz h h2) oM
  have bb:Hid (fA (d.held.getD k default).id (d.held.getD k default).legs=0→(uP d.held k=true∧¬(kI d k).length=0∧fK (d.held.getD k default).id d.votes=1∧fK (d.held.getD k default).id d.done=0)→fI (kD d) (k+1)=0):=fun h h2=>gU HS.out (fLm h h2)
  have aW:∀m,k=m+1→∃q,wr.cell? ⟨bx,ox+m*2,none⟩=some (iV q)∧(uP d.held k=decide (q<(d.held.getD k default).id)):=fun m hm=>by
   obtain⟨bJ,bK,_,_,he,g2,_,_⟩:=au.out m oM;simp only[Option.some.injEq,Addr.mk.injEq,and_true] at he;obtain⟨rfl,rfl⟩:=he;refine⟨_,cK G g2,?_⟩;unfold uP;rw[hm,Nat.add_sub_cancel,decide_eq_decide];constructor
   ·
    rintro(h|h)
    ·omega
    exact h
   exact .inr
  have aB:Hid (∀m,k=m+1→∃q,wr.cell? ⟨bx,ox+m*2,none⟩=some (iV q)∧(uP d.held k=decide (q<(d.held.getD k default).id))):=aW;have bc:Hid (k=0→uP d.held k=true):=fun h=>by unfold uP;exact decide_eq_true (.inl h)
  replace g0:=cK G g0;replace g1:=cK G g1;clear hV aW ad ar av HS aN;generalize (d.held.getD k default).legs.length=ll at *;generalize fA (d.held.getD k default).id (d.held.getD k default).legs=cf at *;generalize fK (d.held.getD k default).id d.votes=fv at *;generalize fK (d.held.getD k default).id d.done=fd at *;generalize (d.held.getD k default).id=aC at *;have zb:bx<wr.heap.size:=wL wr _ g0;go_wp2_with fail;refine(bn.out _ hE).mono ?_;rintro e w3 ⟨rfl,ab⟩;have z:=bT wr ab;have b0:cI w3 wr.heap.size 0 aC:=cK ab sG;have b1:ah w3 wr.heap.size 1 pp ll qq:=cK ab sG;clear ab bn;by_cases ak:cf=0;rotate_left
  ·
   have HC:=Y.out ak;have cg:(cf !=0)=true:=by simp[ak]
   clear Y ba bb b7 b8 b9;go_wp2;go_ret;exact⟨by rw[HC];rfl,hE⟩
  have aX:Hid (bW wr fun W=>cL 127 #[.agg #[iV aC,.slice pp ll qq],iV d.idx] W fun e w'=>∃v,e =.returned v∧w'.ownsRow W.heap.size 168 4 v (kI d k).length (gT (kI d k))∧aa W w'):=fun W E=>b7.out W E ak
  have s:Hid (¬(uP d.held k=true∧¬(kI d k).length=0∧fv=1∧fd=0)→Z=1):=fun h=>ba.out ak h
  have C:Hid ((uP d.held k=true∧¬(kI d k).length=0∧fv=1∧fd=0)→fI (kD d) (k+1)=0):=fun h=>bb.out ak h
  rw[ak];clear Y ba bb b7 ak;refine kR7 z ?_ g0 D O R J L T;clear g0 D O R J L T;intro g0 D O R J L T;have ch:=z.size;generalize uP d.held k=rs at *;generalize bL:kI d k=aw at *;clear bL;cases k with
  | zero=>
   have bM:=bc.out rfl;subst bM;clear aB bc;simp only[Nat.zero_mul,Nat.add_zero] at g0 g1;go_wp2;refine wp_region_noPanic ?_;refine fB (fun W=>aa w3 W∧cI W w.heap.size 0 d.idx∧ah W w.heap.size 1 a1 n1 c1∧ah W w.heap.size 2 a2 n2 c2∧ah W w.heap.size 3 (some ⟨bx,ox,none⟩) n3 c3∧ah W w.heap.size 4 a4 n4 c4∧ah W w.heap.size 5 a5 n5 c5∧cI W wr.heap.size 0 aC∧ah W wr.heap.size 1 pp ll qq) 38 kF ⟨hE,cK hE D,cK hE O,cK hE R,cK hE J,cK hE L,cK hE T,cK hE b0,cK hE b1⟩ (fun hS=>?_);refine tX 0 ?_;refine tX 1 (v:=(.bool false)) ?_;refine tX 2 (v:=(.bool false)) ?_;refine sY 3 ?_;refine sY 4 ?_;refine sY 5 ?_;refine sY 6 ?_;refine sY 7 ?_;refine sY 8 ?_;refine sY 9 ?_;refine sY 10 ?_;refine sY 11 ?_;refine sY 12 ?_;refine tX 13 (v:=(.bool false)) ?_;refine tX 14 (v:=(.bool false)) ?_;refine tX 15 ?_;refine tX 16 ?_;refine tX 17 ?_;refine uS 18 rfl (fun K A=>?_);go_simp;refine(aX.out _ (bS z hS.1)).mono ?_;rintro e wz ⟨vl,rfl,ol,n⟩;obtain⟨al,cl,rfl⟩:=fD ol;have r:aa w3 wz:=bS hS.1 n;have g:=And.intro r (kS8 n hS.2);refine A _ _ (fun _=>g) ?_;clear A K hS n;have hS:=g;clear g;try simp only[jX]
   refine tX 19 ?_;by_cases ac:aw.length=0
   ·
    have aD:(((aw.length:Nat):Int)==0)=true:=by simp[ac]
    have HC:=s.out (by rintro⟨_,h,_⟩;exact h ac);clear s C;refine tX 20 (v:=(.bool true)) ?_;refine tX 21 (v:=(.bool true)) ?_;refine tX 22 (v:=(.bool true)) ?_;refine sY 23 ?_;refine sY 24 ?_;refine sY 25 ?_;refine sY 26 ?_;refine sY 27 ?_;refine sY 28 ?_;refine tX 29 (v:=(.bool true)) ?_;refine tX 30 (v:=(.bool true)) ?_;refine sY 31 ?_;refine sY 32 ?_;refine sY 33 ?_;refine sY 34 ?_;refine sY 35 ?_;refine sY 36 ?_;refine tX 37 (v:=(.bool true)) ?_;refine dP ?_;go_wp2;go_ret;exact⟨by first|rfl|(rw[HC];rfl),bS G (bS z hS.1)⟩
   have aD:(((aw.length:Nat):Int)==0)=false:=by simp;exact fun h=>ac (by rw[h];rfl)
   refine tX 20 (v:=(.bool false)) ?_;refine tX 21 (v:=(.bool false)) ?_;refine tX 22 (v:=(.bool false)) ?_;refine tX 23 ?_;refine tX 24 ?_;refine tX 25 ?_;refine tX 26 ?_;refine uS 27 rfl (fun K A=>?_);go_simp;refine(b8.out _ (bS z hS.1)).mono ?_;rintro e wz ⟨rfl,n⟩;have r:aa w3 wz:=bS hS.1 n;have g:=And.intro r (kS8 n hS.2);refine A _ _ (fun _=>g) ?_;clear A K hS n;have hS:=g;clear g;try simp only[jX]
   by_cases a0:fv=1
   rotate_left
   ·
    have aE:(fv !=1)=true:=by simp[a0]
    have HC:=s.out (by rintro⟨_,_,h,_⟩;exact a0 h);clear s C;refine tX 28 (v:=(.bool true)) ?_;refine tX 29 (v:=(.bool true)) ?_;refine tX 30 (v:=(.bool true)) ?_;refine sY 31 ?_;refine sY 32 ?_;refine sY 33 ?_;refine sY 34 ?_;refine sY 35 ?_;refine sY 36 ?_;refine tX 37 (v:=(.bool true)) ?_;refine dP ?_;go_wp2;go_ret;exact⟨by first|rfl|(rw[HC];rfl),bS G (bS z hS.1)⟩
   have aE:(fv !=1)=false:=by simp[a0]
   refine tX 28 (v:=(.bool false)) ?_;refine tX 29 (v:=(.bool false)) ?_;refine tX 30 (v:=(.bool false)) ?_;refine tX 31 ?_;refine tX 32 ?_;refine tX 33 ?_;refine tX 34 ?_;refine uS 35 rfl (fun K A=>?_);go_simp;refine(b9.out _ (bS z hS.1)).mono ?_;rintro e wz ⟨rfl,n⟩;have r:aa w3 wz:=bS hS.1 n;have g:=And.intro r (kS8 n hS.2);refine A _ _ (fun _=>g) ?_;clear A K hS n;have hS:=g;clear g;try simp only[jX]
   by_cases B:fd=0
   rotate_left
   ·
    have ae:(fd !=0)=true:=by simp[B]
    have HC:=s.out (by rintro⟨_,_,_,h⟩;exact B h);clear s C;refine tX 36 (v:=(.bool true)) ?_;refine tX 37 (v:=(.bool true)) ?_;refine dP ?_;go_wp2;go_ret;exact⟨by first|rfl|(rw[HC];rfl),bS G (bS z hS.1)⟩
   have ae:(fd !=0)=false:=by simp[B]
   have HC:Hid (fI (kD d) (0+1)=0):=C.out ⟨by first|rfl|trivial,ac,a0,B⟩;clear s C a0 B;refine tX 36 (v:=(.bool false)) ?_;refine tX 37 (v:=(.bool false)) ?_;refine dP ?_;go_wp2;exact⟨⟨1,by omega,by go_num,HC,bS F (bS z hS.1)⟩,mI⟩
  | succ m=>
   obtain⟨q,gq,hq⟩:=aB.out m rfl;replace gq:=cK z gq;clear aB bc;have bN:IntKind.i64.wrap (((m+1:Nat):Int)-1)=(m:Int):=by rw[IntKind.wrap_i64];omega
   have aO:(((m+1:Nat):Int)-1)=(m:Int):=oM;have e1:((m+1:Nat):Int)<n3:=oM;have e2:(m:Int)<n3:=oM;have e3:(0:Int)≤m:=oM;have e4:(0:Int)<((m+1:Nat):Int):=oM;have e5:(0:Int)≤((m+1:Nat):Int):=oM;obtain⟨ii,bd⟩:∃ii:Nat,ii=m+1:=⟨_,rfl⟩
   have bO:Hid (ii=m+1):=bd;rw[←bd] at g0 g1 bN aO e1 e4 e5 C H hk ⊢;clear bd;have e6:decide (0<ii)=true:=decide_eq_true (by have:=bO.out;omega);have ci:IntKind.i64.wrap (m:Int)=(m:Int):=qY oM oM;go_wp2;refine wp_region_noPanic ?_;refine fB (fun W=>aa w3 W∧cI W w.heap.size 0 d.idx∧ah W w.heap.size 1 a1 n1 c1∧ah W w.heap.size 2 a2 n2 c2∧ah W w.heap.size 3 (some ⟨bx,ox,none⟩) n3 c3∧ah W w.heap.size 4 a4 n4 c4∧ah W w.heap.size 5 a5 n5 c5∧cI W wr.heap.size 0 aC∧ah W wr.heap.size 1 pp ll qq∧cI W bx (ox+m*2) q) 38 kF ⟨hE,cK hE D,cK hE O,cK hE R,cK hE J,cK hE L,cK hE T,cK hE b0,cK hE b1,cK hE gq⟩ (fun hS=>?_);refine tX 0 ?_;refine tX 1 (v:=(.bool true)) ?_;refine tX 2 (v:=(.bool true)) ?_;refine tX 3 ?_;refine tX 4 ?_;refine tX 5 ?_;refine tX 6 ?_;refine tX 7 ?_;refine tX 8 ?_;refine tX 9 ?_;refine tX 10 ?_;refine tX 11 ?_;by_cases cj:aC≤q
   ·rw[decide_eq_false oM] at hq;subst hq;have HC:=s.out (by rintro⟨h,_⟩;exact absurd h (by decide));clear s C;refine tX 12 (v:=(.bool true)) ?_;refine tX 13 (v:=(.bool true)) ?_;refine tX 14 (v:=(.bool true)) ?_;refine sY 15 ?_;refine sY 16 ?_;refine sY 17 ?_;refine sY 18 ?_;refine sY 19 ?_;refine sY 20 ?_;refine tX 21 (v:=(.bool true)) ?_;refine tX 22 (v:=(.bool true)) ?_;refine sY 23 ?_;refine sY 24 ?_;refine sY 25 ?_;refine sY 26 ?_;refine sY 27 ?_;refine sY 28 ?_;refine tX 29 (v:=(.bool true)) ?_;refine tX 30 (v:=(.bool true)) ?_;refine sY 31 ?_;refine sY 32 ?_;refine sY 33 ?_;refine sY 34 ?_;refine sY 35 ?_;refine sY 36 ?_;refine tX 37 (v:=(.bool true)) ?_;refine dP ?_;go_wp2;go_ret;exact⟨by first|rfl|(rw[HC];rfl),bS G (bS z hS.1)⟩
   rw[decide_eq_true oM] at hq;subst hq;refine tX 12 (v:=(.bool false)) ?_;refine tX 13 (v:=(.bool false)) ?_;refine tX 14 (v:=(.bool false)) ?_;refine tX 15 ?_;refine tX 16 ?_;refine tX 17 ?_;refine uS 18 rfl (fun K A=>?_);go_simp;refine(aX.out _ (bS z hS.1)).mono ?_;rintro e wz ⟨vl,rfl,ol,n⟩;obtain⟨al,cl,rfl⟩:=fD ol;have r:aa w3 wz:=bS hS.1 n;have g:=And.intro r (kS9 n hS.2);refine A _ _ (fun _=>g) ?_;clear A K hS n;have hS:=g;clear g;try simp only[jX]
   refine tX 19 ?_;by_cases ac:aw.length=0
   ·
    have aD:(((aw.length:Nat):Int)==0)=true:=by simp[ac]
    have HC:=s.out (by rintro⟨_,h,_⟩;exact h ac);clear s C;refine tX 20 (v:=(.bool true)) ?_;refine tX 21 (v:=(.bool true)) ?_;refine tX 22 (v:=(.bool true)) ?_;refine sY 23 ?_;refine sY 24 ?_;refine sY 25 ?_;refine sY 26 ?_;refine sY 27 ?_;refine sY 28 ?_;refine tX 29 (v:=(.bool true)) ?_;refine tX 30 (v:=(.bool true)) ?_;refine sY 31 ?_;refine sY 32 ?_;refine sY 33 ?_;refine sY 34 ?_;refine sY 35 ?_;refine sY 36 ?_;refine tX 37 (v:=(.bool true)) ?_;refine dP ?_;go_wp2;go_ret;exact⟨by first|rfl|(rw[HC];rfl),bS G (bS z hS.1)⟩
   have aD:(((aw.length:Nat):Int)==0)=false:=by simp;exact fun h=>ac (by rw[h];rfl)
   refine tX 20 (v:=(.bool false)) ?_;refine tX 21 (v:=(.bool false)) ?_;refine tX 22 (v:=(.bool false)) ?_;refine tX 23 ?_;refine tX 24 ?_;refine tX 25 ?_;refine tX 26 ?_;refine uS 27 rfl (fun K A=>?_);go_simp;refine(b8.out _ (bS z hS.1)).mono ?_;rintro e wz ⟨rfl,n⟩;have r:aa w3 wz:=bS hS.1 n;have g:=And.intro r (kS9 n hS.2);refine A _ _ (fun _=>g) ?_;clear A K hS n;have hS:=g;clear g;try simp only[jX]
   by_cases a0:fv=1
   rotate_left
   ·
    have aE:(fv !=1)=true:=by simp[a0]
    have HC:=s.out (by rintro⟨_,_,h,_⟩;exact a0 h);clear s C;refine tX 28 (v:=(.bool true)) ?_;refine tX 29 (v:=(.bool true)) ?_;refine tX 30 (v:=(.bool true)) ?_;refine sY 31 ?_;refine sY 32 ?_;refine sY 33 ?_;refine sY 34 ?_;refine sY 35 ?_;refine sY 36 ?_;refine tX 37 (v:=(.bool true)) ?_;refine dP ?_;go_wp2;go_ret;exact⟨by first|rfl|(rw[HC];rfl),bS G (bS z hS.1)⟩
   have aE:(fv !=1)=false:=by simp[a0]
   refine tX 28 (v:=(.bool false)) ?_;refine tX 29 (v:=(.bool false)) ?_;refine tX 30 (v:=(.bool false)) ?_;refine tX 31 ?_;refine tX 32 ?_;refine tX 33 ?_;refine tX 34 ?_;refine uS 35 rfl (fun K A=>?_);go_simp;refine(b9.out _ (bS z hS.1)).mono ?_;rintro e wz ⟨rfl,n⟩;have r:aa w3 wz:=bS hS.1 n;have g:=And.intro r (kS9 n hS.2);refine A _ _ (fun _=>g) ?_;clear A K hS n;have hS:=g;clear g;try simp only[jX]
   by_cases B:fd=0
   rotate_left
   ·
    have ae:(fd !=0)=true:=by simp[B]
    have HC:=s.out (by rintro⟨_,_,_,h⟩;exact B h);clear s C;refine tX 36 (v:=(.bool true)) ?_;refine tX 37 (v:=(.bool true)) ?_;refine dP ?_;go_wp2;go_ret;exact⟨by first|rfl|(rw[HC];rfl),bS G (bS z hS.1)⟩
   have ae:(fd !=0)=false:=by simp[B]
   have HC:Hid (fI (kD d) (ii+1)=0):=C.out ⟨by first|rfl|trivial,ac,a0,B⟩;clear s C a0 B;refine tX 36 (v:=(.bool false)) ?_;refine tX 37 (v:=(.bool false)) ?_;refine dP ?_;go_wp2;exact⟨⟨ii+1,by omega,by go_num,HC,bS F (bS z hS.1)⟩,mI⟩
 have bP:k=n3:=oM;subst bP;have aY:=aN.out HS.out;have aF:Hid (∀i,i<n2→fI (kH d) i=0→kH d i=1→Z=1):=fun i hi hs h=>az.out HS.out i hi hs h
 have aG:Hid (fI (kH d) n2=0→Z=if yI d.done d.appl=true then zL d else 1):=fun h1=>aA.out HS.out h1
 have bo:Hid (HeldOk d):=aY;clear aY aN az aA av HS ad H;go_wp2;obtain⟨w2,aO⟩:∃w2,w2=wr:=⟨_,rfl⟩
 rw[←aO] at G D O R J L T zq ⊢;clear aO F;go_loopw [6] (fun i w'=>∃j:Nat,j≤n2∧i =.int .i64 j∧Hid (fI (kH d) j=0)∧aa w2 w') (fun i _=>n2-(intOf i).toNat)
 case atStart=>exact⟨0,oM,rfl,rfl,bR _ _⟩
 rename_i wq;obtain⟨j,hj,rfl,HS,F⟩:=hrel;refine kR6 F ?_ D O R J L T;clear D O R J L T;intro D O R J L T;have af:aa w wr:=bS G F;have bQ:w.heap.size<wr.heap.size:=wL wr _ D;by_cases H:j<n2
 ·
  obtain⟨bx,ox,rfl,gm⟩:=b2.out j H;have Y:Hid (kH d j=1→Z=1):=fun h=>aF.out j H HS.out h
  have a8:Hid (kH d j=0→fI (kH d) (j+1)=0):=fun h=>gU HS.out h
  obtain⟨l,hl⟩:∃l,l=d.votes.getD j default:=⟨_,rfl⟩
  have M:Hid (kH d j=if l.val=1∧fP d.held l.con=false∧fK l.con d.done=0 then 1 else 0):=by rw[hl];rfl
  rw[←hl] at gm;clear hl;obtain⟨g0,g1⟩:=gD af gm;have aH:Hid (bW wr fun W=>RI 157 #[.agg #[iV d.idx,.slice a1 n1 c1,.slice (some ⟨bx,ox,none⟩) n2 c2,.slice a3 k c3,.slice a4 n4 c4,.slice a5 n5 c5],iV l.con] W (.bool (fP d.held l.con))):=fun W E=>aZ.out W _ (bS af E)
  have aP:Hid (bW wr fun W=>RI 153 #[.slice a4 n4 c4,iV l.con] W (iV (fK l.con d.done))):=fun W E=>bi.out W _ (bS af E)
  clear HS aF aG gm;have zb:bx<wr.heap.size:=wL wr _ g0;by_cases hv:l.val=1;rotate_left
  ·
   have bU:(l.val==1)=false:=by simp[hv]
   have HC:Hid (fI (kH d) (j+1)=0):=a8.out (by rw[M.out,if_neg (fun h=>hv h.1)]);clear a8 Y M aH aP;go_wp2;exact⟨⟨j+1,by omega,by go_num,HC,hE⟩,mI⟩
  have bU:(l.val==1)=true:=by simp[hv]
  cases hh:fP d.held l.con;rotate_left
  ·have HC:Hid (fI (kH d) (j+1)=0):=a8.out (by rw[M.out,if_neg (fun h=>by rw[hh] at h;exact absurd h.2.1 (by decide))]);rw[hh] at aH;clear a8 Y M aP hh;go_wp2_with fail;refine(aH.out _ hE).mono ?_;rintro e w4 ⟨rfl,ax⟩;have ay:aa w2 w4:=bS F (bS hE ax);clear ax;go_wp2;exact⟨⟨j+1,by omega,by go_num,HC,hE⟩,mI⟩
  rw[hh] at aH M;clear hh;generalize fK l.con d.done=fd at *;go_wp2_with fail;refine(aH.out _ hE).mono ?_;rintro e w4 ⟨rfl,ax⟩;have ay:=bT wr ax;have b0:cI w4 wr.heap.size 0 l.con:=cK ax sG;replace L:=cK ay L;clear ax;by_cases B:fd=0
  ·
   have ae:(fd==0)=true:=by simp[B]
   have HC:=Y.out (by rw[M.out,if_pos (by first|exact⟨hv,rfl,B⟩|exact⟨hv,trivial,B⟩)]);clear a8 Y M B;go_wp2_with fail;refine(aP.out _ ay).mono ?_;rintro e w5 ⟨rfl,aQ⟩;go_wp2;go_ret;exact⟨by rw[HC];rfl,bS af (bS ay aQ)⟩
  have ae:(fd==0)=false:=by simp[B]
  have HC:Hid (fI (kH d) (j+1)=0):=a8.out (by rw[M.out,if_neg (fun h=>B h.2.2)]);clear a8 Y M B;go_wp2_with fail;refine(aP.out _ ay).mono ?_;rintro e w5 ⟨rfl,aQ⟩;have bV:aa w2 w5:=bS F (bS ay aQ);clear aQ;go_wp2;exact⟨⟨j+1,by omega,by go_num,HC,bV⟩,mI⟩
 have bX:j=n2:=oM;subst bX;have HZ:=aG.out HS.out;clear aG aF HS H b2;cases aI:yI d.done d.appl
 ·rw[aI,if_neg (by decide)] at HZ;rw[aI] at ag;go_wp2_with fail;refine(ag.out _ af).mono ?_;rintro e w3 ⟨rfl,ab⟩;go_wp2;go_ret;exact⟨by rw[HZ];rfl,hE⟩
 rw[aI,if_pos rfl] at HZ;rw[aI] at ag;have aR:Hid (Z=zL d):=HZ;clear HZ aI;go_wp2_with fail;refine(ag.out _ af).mono ?_;rintro e w3 ⟨rfl,ab⟩;refine kR6 ab ?_ D O R J L T;clear D O R J L T;intro D O R J L T;have z:aa w w3:=bS af ab;have bY:w.heap.size<w3.heap.size:=wL w3 _ D;clear ab ag F af G bQ;go_wp2;obtain⟨w4,bp⟩:∃w4,w4=w3:=⟨_,rfl⟩
 rw[←bp] at z D O R J L T bY ⊢;clear bp;have be:Hid (∀W x y xs ys,legsR.V W x xs→legsR.V W y ys→RI 183 #[x,y] W (.bool (touch xs ys))):=fun W x y xs ys h1 h2=>fDq x y xs ys W h1 h2
 have bq:Hid (∀i j,j<i→touch (kI d i) (kI d j)=true→gW d i=7):=fun i j hj h=>by
  unfold gW;rw[if_pos (List.any_eq_true.2 ⟨j,List.mem_range.2 hj,h⟩)]
 have br:Hid (∀i,(List.range i).any (fun j=>touch (kI d i) (kI d j))=false→gW d i=0):=fun i h=>by
  unfold gW;rw[h];rfl
 have bs:Hid (∀i j,(List.range j).any (fun j=>touch (kI d i) (kI d j))=false→touch (kI d i) (kI d j)=false→(List.range (j+1)).any (fun j=>touch (kI d i) (kI d j))=false):=fun i j h1 h2=>by
  rw[List.range_succ,List.any_append,h1];simp[h2]
 have ad:Hid (∀i,i<k→fA (d.held.getD i default).id (d.held.getD i default).legs=0):=fun i hi=>bo.out.cf i (by rw[bl.out];exact hi)
 have bZ:Hid (∀i,i<k→small (kI d i)):=fun i hi=>bo.out.small (by rw[bl.out];exact hi)
 go_loopw [8] (fun i w'=>∃j:Nat,j≤k∧i =.int .i64 j∧Hid (fI (gW d) j=0)∧aa w4 w') (fun i _=>k-(intOf i).toNat)
 case atStart=>exact⟨0,oM,rfl,rfl,bR _ _⟩
 rename_i ck;obtain⟨i,hi,rfl,HS,F⟩:=hrel;have aS:aa w wr:=bS z F;refine kR6 F ?_ D O R J L T;clear D O R J L T;intro D O R J L T;have bt:w.heap.size<wr.heap.size:=wL wr _ D;by_cases H:i<k
 ·
  obtain⟨bx,ox,p1,q1,rfl,c0,c6,aT⟩:=au.out i H;go_wp2;obtain⟨w5,aJ⟩:∃w5,w5=wr:=⟨_,rfl⟩
  rw[←aJ] at aS D O R J L T bt F ⊢;clear aJ;go_loopw [9] (fun v w'=>∃j:Nat,j≤i∧v =.int .i64 j∧Hid ((List.range j).any (fun j=>touch (kI d i) (kI d j))=false)∧aa w5 w') (fun v _=>i-(intOf v).toNat)
  case atStart=>exact⟨0,oM,rfl,by show(List.range 0).any _=false;rfl,bR _ _⟩
  rename_i c7;obtain⟨j,hj,rfl,am,X⟩:=hrel;have U:aa w wr:=bS aS X;refine kR6 X ?_ D O R J L T;clear D O R J L T;intro D O R J L T;have c8:w.heap.size<wr.heap.size:=wL wr _ D;by_cases a6:j<i
  ·
   obtain⟨bJ,bK,p2,q2,he,g2,g3,bu⟩:=au.out j oM;simp only[Option.some.injEq,Addr.mk.injEq,and_true] at he;obtain⟨rfl,rfl⟩:=he;have aU:Hid (bW wr fun W=>cL 127 #[.agg #[iV (d.held.getD i default).id,.slice p1 (d.held.getD i default).legs.length q1],iV d.idx] W fun e w'=>∃v,e =.returned v∧w'.ownsRow W.heap.size 168 4 v (kI d i).length (gT (kI d i))∧aa W w'):=fun W E=>ar.out W i p1 q1 (bS U E) H (ad.out i H) aT
   have bv:Hid (bW wr fun W=>cL 127 #[.agg #[iV (d.held.getD j default).id,.slice p2 (d.held.getD j default).legs.length q2],iV d.idx] W fun e w'=>∃v,e =.returned v∧w'.ownsRow W.heap.size 168 4 v (kI d j).length (gT (kI d j))∧aa W w'):=fun W E=>ar.out W j p2 q2 (bS U E) oM (ad.out j oM) bu
   have g0:=cK U c0;have g1:=cK U c6;replace g2:=cK U g2;replace g3:=cK U g3;clear bu;have i1:(i:Int)<k:=oM;have i2:(0:Int)≤i:=oM;have j1:(j:Int)<k:=oM;have j2:(0:Int)≤j:=oM;cases aV:touch (kI d i) (kI d j)
   ·
    have HC:Hid ((List.range (j+1)).any (fun j=>touch (kI d i) (kI d j))=false):=bs.out i j am.out aV;go_wp2;refine wp_region_noPanic ?_;refine fB (fun W=>aa wr W∧cI W w.heap.size 0 d.idx∧ah W w.heap.size 3 (some ⟨bx,ox,none⟩) k c3∧cI W bx (ox+i*2) ((d.held.getD i default).id)∧ah W bx (ox+i*2+1) p1 (d.held.getD i default).legs.length q1∧cI W bx (ox+j*2) ((d.held.getD j default).id)∧ah W bx (ox+j*2+1) p2 (d.held.getD j default).legs.length q2) 17 kF ⟨hE,cK hE D,cK hE J,cK hE g0,cK hE g1,cK hE g2,cK hE g3⟩ (fun hS=>?_);refine tX 0 ?_;refine tX 1 ?_;refine tX 2 ?_;refine tX 3 ?_;refine tX 4 ?_;refine tX 5 ?_;refine tX 6 ?_;refine tX 8 ?_;refine tX 9 ?_;refine tX 10 ?_;refine tX 11 ?_;refine tX 12 ?_;refine tX 13 ?_;refine tX 14 ?_;refine uS 7 rfl (fun K A=>?_);go_simp;refine(aU.out _ hS.1).mono ?_;rintro e aK ⟨vl,rfl,ol,I⟩;obtain⟨al,cl,rfl⟩:=fD ol;have V1:=gX ol;have a7:aa wr aK:=bS hS.1 I;have g:=And.intro a7 (kS6 I hS.2);refine A _ _ (fun _=>g) ?_;clear A K hS I;have hS:=g;clear g;try simp only[jX]
    refine uS 15 rfl (fun K A=>?_);go_simp;refine(bv.out _ hS.1).mono ?_;rintro e bf ⟨c9,rfl,aL,N⟩;obtain⟨ca,cb,rfl⟩:=fD aL;have V2:=gX aL;replace V1:=kE V1 N;have ao:aa wr bf:=bS hS.1 N;have g:=And.intro ao (kS6 N hS.2);refine A _ _ (fun _=>g) ?_;clear A K hS N;have hS:=g;clear g;try simp only[jX]
    refine uS 16 rfl (fun K A=>?_);go_simp;refine(be.out _ _ _ (kI d i) (kI d j) V1 V2).mono ?_;rintro e wz ⟨rfl,n⟩;rw[aV];have r:aa wr wz:=bS hS.1 n;have g:=And.intro r (kS6 n hS.2);refine A _ _ (fun _=>g) ?_;clear A K hS n;have hS:=g;clear g;try simp only[jX]
    refine dP ?_;go_wp2;exact⟨⟨j+1,by omega,by go_num,HC,bS X hS.1⟩,mI⟩
   have HC:Z=7:=aR.out.trans (b3.out i H HS.out (bq.out i j a6 aV));go_wp2;refine wp_region_noPanic ?_;refine fB (fun W=>aa wr W∧cI W w.heap.size 0 d.idx∧ah W w.heap.size 3 (some ⟨bx,ox,none⟩) k c3∧cI W bx (ox+i*2) ((d.held.getD i default).id)∧ah W bx (ox+i*2+1) p1 (d.held.getD i default).legs.length q1∧cI W bx (ox+j*2) ((d.held.getD j default).id)∧ah W bx (ox+j*2+1) p2 (d.held.getD j default).legs.length q2) 17 kF ⟨hE,cK hE D,cK hE J,cK hE g0,cK hE g1,cK hE g2,cK hE g3⟩ (fun hS=>?_);refine tX 0 ?_;refine tX 1 ?_;refine tX 2 ?_;refine tX 3 ?_;refine tX 4 ?_;refine tX 5 ?_;refine tX 6 ?_;refine tX 8 ?_;refine tX 9 ?_;refine tX 10 ?_;refine tX 11 ?_;refine tX 12 ?_;refine tX 13 ?_;refine tX 14 ?_;refine uS 7 rfl (fun K A=>?_);go_simp;refine(aU.out _ hS.1).mono ?_;rintro e aK ⟨vl,rfl,ol,I⟩;obtain⟨al,cl,rfl⟩:=fD ol;have V1:=gX ol;have a7:aa wr aK:=bS hS.1 I;have g:=And.intro a7 (kS6 I hS.2);refine A _ _ (fun _=>g) ?_;clear A K hS I;have hS:=g;clear g;try simp only[jX]
   refine uS 15 rfl (fun K A=>?_);go_simp;refine(bv.out _ hS.1).mono ?_;rintro e bf ⟨c9,rfl,aL,N⟩;obtain⟨ca,cb,rfl⟩:=fD aL;have V2:=gX aL;replace V1:=kE V1 N;have ao:aa wr bf:=bS hS.1 N;have g:=And.intro ao (kS6 N hS.2);refine A _ _ (fun _=>g) ?_;clear A K hS N;have hS:=g;clear g;try simp only[jX]
   refine uS 16 rfl (fun K A=>?_);go_simp;refine(be.out _ _ _ (kI d i) (kI d j) V1 V2).mono ?_;rintro e wz ⟨rfl,n⟩;rw[aV];have r:aa wr wz:=bS hS.1 n;have g:=And.intro r (kS6 n hS.2);refine A _ _ (fun _=>g) ?_;clear A K hS n;have hS:=g;clear g;try simp only[jX]
   refine dP ?_;go_wp2;go_ret;exact⟨by rw[HC];rfl,bS U hS.1⟩
  have bg:j=i:=oM;subst bg;have HC:Hid (fI (gW d) (j+1)=0):=gU HS.out (br.out j am.out);go_wp2;exact⟨⟨j+1,by omega,by go_num,HC,bS F X⟩,mI⟩
 have cc:i=k:=oM;subst cc;have bw:Hid (∀k c,k<i→fI (gN d) k=0→gN d k=c→c≠0→Z=c):=fun k c hk hs h hc=>aR.out.trans (b4.out HS.out k c hk hs h hc)
 have bz:Hid (fI (gN d) i=0→Z=0):=fun h=>aR.out.trans (b5.out HS.out h)
 clear b3 b4 b5 aR HS H bq br bs be;go_wp2;obtain⟨w5,aJ⟩:∃w5,w5=wr:=⟨_,rfl⟩
 rw[←aJ] at aS D O R J L T bt F ⊢;clear aJ;go_loopw [10] (fun v w'=>∃j:Nat,j≤i∧v =.int .i64 j∧Hid (fI (gN d) j=0)∧aa w5 w') (fun v _=>i-(intOf v).toNat)
 case atStart=>exact⟨0,oM,rfl,rfl,bR _ _⟩
 rename_i c7;obtain⟨j,hj,rfl,am,X⟩:=hrel;have U:aa w wr:=bS aS X;refine kR6 X ?_ D O R J L T;clear D O R J L T;intro D O R J L T;have c8:w.heap.size<wr.heap.size:=wL wr _ D;by_cases a6:j<i
 ·
  obtain⟨bx,ox,p1,q1,rfl,g0,g1,aT⟩:=au.out j a6;have aU:Hid (bW wr fun W=>cL 127 #[.agg #[iV (d.held.getD j default).id,.slice p1 (d.held.getD j default).legs.length q1],iV d.idx] W fun e w'=>∃v,e =.returned v∧w'.ownsRow W.heap.size 168 4 v (kI d j).length (gT (kI d j))∧aa W w'):=fun W E=>ar.out W j p1 q1 (bS U E) a6 (ad.out j a6) aT
  have cd:Hid (yK d.bals (kI d j)=gN d j):=rfl;have ce:Hid (∀W y,aa wr W→legsR.V W y (kI d j)→RI 184 #[.slice a1 n1 c1,y] W (iV (gN d j))):=fun W y E hy=>bC.out W y _ (bS U E) hy (bZ.out j a6)
  have Y:Hid (¬gN d j=0→Z=gN d j):=fun h=>bw.out j _ a6 am.out rfl h
  have a8:Hid (gN d j=0→fI (gN d) (j+1)=0):=fun h=>gU am.out h
  replace g0:=cK U g0;replace g1:=cK U g1;clear aT cd am;generalize gN d j=cv at *;have j1:(j:Int)<i:=oM;have j2:(0:Int)≤j:=oM;go_wp2;refine wp_region_noPanic ?_;refine fB (fun W=>aa wr W∧cI W w.heap.size 0 d.idx∧ah W w.heap.size 1 a1 n1 c1∧ah W w.heap.size 3 (some ⟨bx,ox,none⟩) i c3∧cI W bx (ox+j*2) ((d.held.getD j default).id)∧ah W bx (ox+j*2+1) p1 (d.held.getD j default).legs.length q1) 12 kF ⟨hE,cK hE D,cK hE O,cK hE J,cK hE g0,cK hE g1⟩ (fun hS=>?_);refine tX 0 ?_;refine tX 1 ?_;refine tX 2 ?_;refine tX 3 ?_;refine tX 4 ?_;refine tX 5 ?_;refine tX 6 ?_;refine tX 7 ?_;refine tX 8 ?_;refine uS 9 rfl (fun K A=>?_);go_simp;refine(aU.out _ hS.1).mono ?_;rintro e aK ⟨vl,rfl,ol,I⟩;obtain⟨al,cl,rfl⟩:=fD ol;have V1:=gX ol;have a7:aa wr aK:=bS hS.1 I;have g:=And.intro a7 (kS5 I hS.2);refine A _ _ (fun _=>g) ?_;clear A K hS I;have hS:=g;clear g;try simp only[jX]
  refine uS 10 rfl (fun K A=>?_);go_simp;refine(ce.out _ _ hS.1 V1).mono ?_;rintro e wz ⟨rfl,n⟩;have r:aa wr wz:=bS hS.1 n;have g:=And.intro r (kS5 n hS.2);refine A _ _ (fun _=>g) ?_;clear A K hS n;have hS:=g;clear g;try simp only[jX]
  refine tX 11 ?_;refine dP ?_;by_cases aM:cv=0
  ·
   have HC:Hid _:=a8.out aM;have bB:(cv !=0)=false:=by simp[aM]
   clear aM a8 Y;go_wp2;exact⟨⟨j+1,by omega,by go_num,HC,bS X hS.1⟩,mI⟩
  have HC:=Y.out aM;have bB:(cv !=0)=true:=by simp[aM]
  go_wp2;go_ret;exact⟨by rw[HC];rfl,bS U hS.1⟩
 have bg:j=i:=oM;subst bg;have HC:=bz.out am.out;go_wp2;go_ret;exact⟨by rw[HC];rfl,hE⟩
end Go.Proofs.YtpibfdebfacooaaGreat

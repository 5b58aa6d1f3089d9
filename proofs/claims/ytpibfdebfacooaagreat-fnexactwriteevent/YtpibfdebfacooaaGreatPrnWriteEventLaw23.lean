import Derived.Test.YtpibfdebfacooaaGreatPrnWriteEventLaw22
set_option maxHeartbeats 16000000
set_option maxRecDepth 20000
set_option linter.all false
namespace Go.Proofs.YtpibfdebfacooaaGreat
open Go.RowKit
attribute [local go_sem ↓] Go.wp_at_zero Go.wp_at_succ
attribute [local go_sem] cW cI ah cN iV aj an
section
open Go.Sort Go.Shelf
variable [dQ Rw] [iH Rw] [dQ Bal] [iH Bal] [dQ Ledg] [iH Ledg] [dQ Leg] [iH Leg] [dQ Cont] [iH Cont] [dQ LedgR] [iH LedgR]
theorem KDn.perm {f:Int→Int→Int→Option Int} {xs ys:List K3} (h:KDn f xs) (hp:ys.Perm xs):KDn f ys:=
 ⟨⟨hp.symm.nodup h.1.1,fun x d=>h.1.2 x (hp.mem_iff.1 d)⟩,fun s a t e g=>hp.mem_iff.2 (h.2 s a t e g)⟩
theorem fZt {W:World} {base G n:Nat} (h:W.ownsRow base 30 1 (.slice (some ⟨G,0,none⟩) n n) n (madeCells (Value.slice none 0 0).cells (n*1)).toList) (f:Int→Int→Int→Option Int) :
  PO balsR 30 1 one W base (.slice (some ⟨G,0,none⟩) n n) n n (fun i=>shK f [] i) (List.replicate n aj) (fun _=>aj) (fun _ b=>(Value.slice none 0 0).ownBlock=some b):=by
 rw[Nat.mul_one,show(Value.slice none 0 0).cells = #[aj] from rfl,toList_madeCells_one] at h;refine⟨h,fun i d=>⟨⟨rfl,.inl ⟨rfl,rfl⟩⟩,rfl⟩,fun _ _=>rfl,fun i d j e=>?_,fun i d b hb=>(by cases hb),fun i j d e g b hb=>(by cases hb)⟩;obtain rfl:j=0:=oM;simp[one,d]
theorem fGy (n b m:Nat) (f:Int→Int→Int→Option Int) (w:World) (hb:Book w b m f) (hn0:1≤n) (hn:n≤3) (hd:KDom n f) :
  cL 204 #[.agg #[iV n,.map (some b)]] w fun e w'=>∃v F ys,e =.returned (.agg #[v])∧KDn f ys∧ys.Pairwise (fun p q=>ltOf cfK q p=false)∧balssR.O w' w.heap.size F v ((List.range n).map (shK f ys))∧Go.RowKit.Below w.heap.size w w':=by
 have bd:=hb.lt;obtain⟨W0,y⟩:∃W0,W0=(w.alloc (.cells #[iV n,.map (some b)] 227)).alloc (.cells #[aj] 234):=⟨_,rfl⟩
 obtain⟨i0,l,a5,a6,T⟩:=info_parts fUu;obtain⟨d,aE,M,aF⟩:=run_make_full (P:=Tryz.prog) W0 w.heap.size 232 30 i0 _ 1 Tryz.underlying232 l a5 a6 .i64 .i64 n (by rw[T];omega) (by unfold maxLen;omega) (by rw[y];simp;omega);have aG:W0.heap.size=w.heap.size+1+1:=by rw[y];simp
 have U:Go.RowKit.Below W0.heap.size W0 d:=(bR _ _).grown aF (Nat.le_refl _) (fun k h=>by cases h);have k0:cI d w.heap.size 0 n:=cK U (by rw[y];simp[go_sem]);have k1:cW d w.heap.size 1 (.map (some b)):=cK U (by rw[y];simp[go_sem]);have r0:cN d (w.heap.size+1) 0:=cK U (by rw[y];simp[go_sem]);have Z:Go.RowKit.Below w.heap.size w d:=by
  have h1:Go.RowKit.Below w.heap.size w W0:=by rw[y];exact hE
  exact bS h1 U
 have z1:w.heap.size+1+1<d.heap.size:=by
  have:=(M.lt W0.heap.size rfl).2;omega
 have z0:w.heap.size<d.heap.size:=oM;have aW:w.heap.size+1<d.heap.size:=oM;have aH:d.frozen? ⟨w.heap.size+1,0,none⟩=false:=(U.frozen (p:=⟨w.heap.size+1,0,none⟩) (by rw[aG];simp)).trans (by rw[y];simp[go_sem]);rw[aG] at M;rw[y] at aE;clear y aF U l a5 a6 T i0;go_enter Tryz.func204,Tryz.ntmps204;go_wp2_with fail;refine(fSi _ b).mono ?_;rintro e w2 ⟨rfl,ad,q2⟩;have a0:Go.RowKit.Below d.heap.size d w2:=bS (bA (bR _ _) _) ad;have g2:ah w2 d.heap.size 0 (some ⟨w.heap.size+1+1,0,none⟩) n n:=cK ad sG;rw[World.size_alloc] at q2;have T:d.heap.size+1<w2.heap.size:=wL _ _ q2;have ab:=fHe gAu 243 #[an (d.heap.size+1)] (KOk f) (KDn f) (fun i=>i=d.heap.size+1∨i=b) w2 (enters_of Tryz.func243 kF rfl)
  (fU2 _ b m f _ w2 q2 (.inl rfl) (.inr rfl) (fun i l=>by rcases l with rfl|rfl <;> omega) (hb.below (bS Z a0))) (fun i l=>by rcases l with rfl|rfl <;> omega) (fun ys h=>by have:=hd.len h;omega) (fun ys h=>by have:=hd.len h.1;omega)
 rw[World.size_alloc];clear q2 ad aE;go_wp2_with fail;refine ab.mono ?_;rintro e C ⟨v,xs,ys,rfl,hD,hp,hs,aX,ae⟩;clear ab;have HD:Hid (KDn f ys):=hD.perm hp;have HS:Hid (ys.Pairwise (fun p q=>ltOf cfK q p=false)):=hs;have ba:ys.length≤54:=by have:=hd.len HD.out.1;omega
 clear hD hp hs xs;have r:Go.RowKit.Below d.heap.size d C:=bS a0 ae;have aI:Go.RowKit.Below w.heap.size w C:=bS Z r;have aJ:Hid (Book C b m f):=hb.below aI;have e0:cW C w.heap.size 1 (.map (some b)):=cK r k1;have e1:cN C (w.heap.size+1) 0:=cK r r0;have e2:ah C d.heap.size 0 (some ⟨w.heap.size+1+1,0,none⟩) n n:=cK ae g2;have e3:C.frozen? ⟨w.heap.size+1,0,none⟩=false:=(r.frozen (p:=⟨w.heap.size+1,0,none⟩) aW).trans aH;have a7:=fZt (fO M r) f;have af:C.cell? ⟨w.heap.size+1+1,0,none⟩=some aj:=by
  have h:=a7.row.cellAt 0 oM;rw[h,List.getElem?_replicate,if_pos oM]
 have be:d.heap.size<C.heap.size:=wL _ _ e2;obtain⟨av,cv,rfl,a1⟩:=aX;clear hb ae r a0 g2 k0 k1 r0 aH M Z T;have ag:Hid (∀i,i<ys.length→∃g,av=some ⟨g,0,none⟩∧yU C g (i*3) (ys.getD i default)):=a1;clear a1;generalize hq:ys.length=q at *;have HN:Hid (ys.length=q):=hq;clear hq;go_wp2;go_loopw [17] (fun i W=>∃(k:Nat) (cs:List Value) (us:Nat→Value) (fs:Nat→Nat→Prop),k≤q∧i =.int .i64 k∧Hid (PO balsR 30 1 one W w.heap.size (.slice (some ⟨w.heap.size+1+1,0,none⟩) n n) n n (fun i=>shK f (ys.take k) i) cs us fs)∧Hid (∀i,i<n→∀b,fs i b→C.heap.size≤b)∧Mod (fun b=>b=w.heap.size+1+1) C W) (fun i _=>q-(intOf i).toNat)
 case atStart=>exact⟨0,_,_,_,Nat.zero_le _,rfl,a7,fun i l b hb=>(by cases hb),Mod.refl _ _⟩
 obtain⟨k,cs,us,fs,hk,rfl,HP,HF,Y⟩:=hrel;rename World=>w4
 by_cases aK:k<q
 ·
  obtain⟨g,rfl,hc⟩:=ag.out k aK;have aL:g≠w.heap.size+1+1:=fun e=>by
   obtain⟨g',e',h0,_⟩:=ag.out 0 oM;simp only[Option.some.injEq,Addr.mk.injEq,and_true] at e';rw[←e',e,Nat.zero_mul,af] at h0;cases h0
  have ak:k<ys.length:=by rw[HN.out];exact aK
  have al:ys.getD k default=ys[k]:=by simp[List.getD,ak]
  have a2:ys.getD k default ∈ ys:=by rw[al];exact List.getElem_mem _
  have am:ys.take k++[ys.getD k default]=ys.take (k+1):=by rw[al,List.take_add_one,List.getElem?_eq_getElem ak];rfl
  clear ak al;obtain⟨x,hx⟩:∃x,x=ys.getD k default:=⟨_,rfl⟩
  rw[←hx] at hc a2 am;clear hx;have aY:Hid (ys.take k++[x]=ys.take (k+1)):=am;clear am;obtain⟨s,a,t⟩:=x;have D:=HD.out.1.2 _ a2;dsimp only at D;obtain⟨⟨bb,bc⟩,aZ⟩:=hd s a t D;obtain⟨⟨bf,bg⟩,bh,bi⟩:=keyOk_iff.1 aZ;have b0:kwf s a t:=⟨fAb oM oM,fAb oM oM,fAb oM oM⟩;obtain⟨j,rfl⟩:∃j:Nat,s=(j:Int):=⟨s.toNat,by omega⟩
  have E:j<n:=oM;obtain⟨d0,d1,d2⟩:=hc;dsimp only at d0 d1 d2;refine kM3 Y aL ?_ d0 d1 d2;clear d0 d1 d2;intro d0 d1 d2;have f0:=Y.cell e0 (by dsimp only;omega);have f2:=Y.cell e2 (by dsimp only;omega);have b1:=Y.size;have b2:Hid (Book w4 b m f):=aJ.out.turned Y oM;obtain⟨v,hv⟩:∃v,v=(f j a t).getD 0:=⟨_,rfl⟩
  have HV:Hid (v=(f j a t).getD 0):=hv;clear hv a2 D a7 e0 e1 e2 af;have bj:(k:Int)<q:=oM;have bk:(0:Int)≤k:=oM;have bl:IntKind.i64.wrap ((k:Int)+1)=(k:Int)+1:=qY oM oM;go_wp2;have ao:∀W,Go.RowKit.Below w4.heap.size w4 W→(Instr.lookup 225 (.map (some b)) (.agg #[iV j,iV a,iV t]) false).run Tryz.prog W =.ok (iV v) W:=fun W hW=>by rw[HV.out];exact((b2.out.below hW).look b0).1
  refine wp_region_noPanic ?_;refine fB (fun W=>cW W w.heap.size 1 (.map (some b))∧(cI W w4.heap.size 0 j∧cI W w4.heap.size 1 a∧cI W w4.heap.size 2 t)∧(Instr.lookup 225 (.map (some b)) (.agg #[iV j,iV a,iV t]) false).run Tryz.prog W =.ok (iV v) W) 10 kF ⟨cK hE f0,⟨sG,by simp[go_sem],sG⟩,ao _ hE⟩ (fun hS=>?_);refine tY 0 ?_;refine tY 1 ?_;refine tY 2 ?_;refine tY 3 ?_;refine tY 4 ?_;refine tY 5 ?_;refine tY 6 ?_;refine tY 7 ?_;refine tY 8 ?_;refine uS 9 rfl (fun K A=>?_);go_simp;refine A _ _ (fun _=>⟨cK (bA (bR _ _) _) hS.1,⟨cK (bA (bR _ _) _) hS.2.1.1,cK (bA (bR _ _) _) hS.2.1.2.1,cK (bA (bR _ _) _) hS.2.1.2.2⟩,ao _ hE⟩) ?_;clear A K;try simp only[jX]
  refine uS 10 rfl (fun K A=>?_);go_simp;refine A _ _ (fun h=>absurd rfl h) ?_;clear A K;refine dP ?_;have a8:Go.RowKit.Below w4.heap.size w4 ((w4.alloc (.cells #[iV j,iV a,iV t] 254)).alloc (.cells #[iV a,iV t,iV v] 103)).drew:=hE;generalize a9:((w4.alloc (.cells #[iV j,iV a,iV t] 254)).alloc (.cells #[iV a,iV t,iV v] 103)).drew=N at *;have x0:N.cell? ⟨w4.heap.size+1,0,none⟩=some (iV a):=by rw[←a9];simp[go_sem]
  have x1:N.cell? ⟨w4.heap.size+1,1,none⟩=some (iV t):=by rw[←a9];simp[go_sem]
  have x2:N.cell? ⟨w4.heap.size+1,2,none⟩=some (iV v):=by rw[←a9];simp[go_sem]
  clear a9 hS ao;have B:=HP.out.keep a8;have h2:=cK a8 f2;have V:=Y.transB' a8;have bm:(0:Int)≤j:=oM;have bn:(j:Int)<n:=oM;have ar:=B.el j E;have a3:N.cell? ⟨w.heap.size+1+1,j,none⟩=some (us j):=by
   have h:=B.cell j E 0 oM;rw[Nat.mul_one,Nat.add_zero] at h;rw[B.row.cellAt j oM,h];rfl
  have aw:∀b,fs j b→b<w4.heap.size:=fun b hb=>(balsR.rng (HP.out.el j E) b hb).2
  have aM:N.frozen? ⟨w.heap.size+1+1,j,none⟩=false:=B.row.frozenAt j;obtain⟨au,cu,hu⟩:=fQ (balsR.ofO ar);have aN:(shK f (ys.take k) j).length≤54:=by
   unfold shK;rw[List.length_map];refine Nat.le_trans (List.length_filter_le _ _) ?_;rw[List.length_take];omega
  have ax:Hid (PO balsR 30 1 one N w.heap.size (.slice (some ⟨w.heap.size+1+1,0,none⟩) n n) n n (fun i=>shK f (ys.take k) i) cs us fs):=B;obtain⟨G,a4⟩:∃G,G=shK f (ys.take k) j:=⟨_,rfl⟩
  rw[←a4] at ar hu aN;have aO:Hid (G=shK f (ys.take k) j):=a4;obtain⟨L,hL⟩:∃L,L=G.length:=⟨_,rfl⟩
  obtain⟨H,R⟩:=ar;rw[hu] at a3 H R;rw[←hL] at a3 H aN;have HL:Hid (L=G.length):=hL;clear B a4 hL HP Y;rw[←HL.out] at R;have aP:Hid (fs j=fun b=>(Value.slice au L cu).ownBlock=some b):=R;clear R hu;go_wp2;refine wp_region_noPanic ?_;refine fB (fun W=>ah W d.heap.size 0 (some ⟨w.heap.size+1+1,0,none⟩) n n∧ah W (w.heap.size+1+1) j au L cu∧cI W (w4.heap.size+1) 0 a∧cI W (w4.heap.size+1) 1 t∧cI W (w4.heap.size+1) 2 v) 12 kF ⟨cK hE h2,cK hE a3,cK hE x0,cK hE x1,cK hE x2⟩ (fun hS=>?_);refine tY 0 ?_;refine tY 1 ?_;refine tY 2 ?_;refine tY 3 ?_;refine tY 4 ?_;refine tY 5 ?_;refine tY 6 ?_;refine tY 7 ?_;refine tY 8 ?_;refine uS 9 rfl (fun K A=>?_);go_simp;have I:=And.intro (cK (bA (bR _ _) (.cells #[iV a,iV t,iV v] 103)) hS.1) (And.intro (cK (bA (bR _ _) (.cells #[iV a,iV t,iV v] 103)) hS.2.1) (And.intro (cK (bA (bR _ _) (.cells #[iV a,iV t,iV v] 103)) hS.2.2.1) (And.intro (cK (bA (bR _ _) (.cells #[iV a,iV t,iV v] 103)) hS.2.2.2.1) (cK (bA (bR _ _) (.cells #[iV a,iV t,iV v] 103)) hS.2.2.2.2))));refine A _ _ (fun _=>I) ?_;clear A K;try simp only[jX]
  refine uS 10 rfl (fun K A=>?_);obtain⟨i0,l,a5,a6,T⟩:=info_parts fBc;have ay:Go.RowKit.Below N.heap.size N (N.drew.alloc (.cells #[iV a,iV t,iV v] 103)):=hE;have bo:=ay.size;have bp:=a8.size;refine uI _ rfl _ _ 30 rfl w.heap.size 103 i0 _ 3 24 Tryz.underlying30 l a5 a6 T rfl (by decide) (.slice au L cu) L (mD G) rfl (fO H ay) ⟨N.heap.size,0,none⟩ 1 1 (balC ⟨a,t,v⟩) rfl rfl ?_ (fAf _) (by unfold maxLen;omega) oM (by simp;omega) ?_
  ·refine xR (x:=⟨a,t,v⟩) (o:=0) ?_;exact⟨sG,by simp[go_sem],sG⟩
  intro v6 w6 o6 aQ ac;have J:Mod (fs j) (N.drew.alloc (.cells #[iV a,iV t,iV v] 103)) w6:=by rw[aP.out];exact Mod.of_grown aQ
  have z:Mod (fs j) N w6:=(Mod.of_below ay).trans J;have b3:¬fs j d.heap.size:=fun h=>by have:=HF.out j E _ h;omega
  have az:¬fs j (w.heap.size+1+1):=fun h=>ax.out.out j E _ h rfl
  have aA:¬fs j (w4.heap.size+1):=fun h=>by have:=aw _ h;omega
  have aB:=And.intro (J.cell I.1 b3) (And.intro (J.cell I.2.1 az) (And.intro (J.cell I.2.2.1 aA) (And.intro (J.cell I.2.2.2.1 aA) (J.cell I.2.2.2.2 aA))));have bq:w6.frozen? ⟨w.heap.size+1+1,j,none⟩=false:=(fAp z (a:=⟨w.heap.size+1+1,j,none⟩) (show w.heap.size+1+1<N.heap.size by omega) az).trans aM;have br:w6.cell? ⟨w.heap.size+1+1,j,none⟩=some (.slice au L cu):=aB.2.1;obtain⟨p6,c6,b4⟩:=fD o6;subst b4;refine A _ _ (fun _=>aB) ?_;clear A K I hS;try simp only[jX]
  refine uS 11 rfl (fun K A=>?_);go_simp;refine A _ _ (fun _=>aB) ?_;clear A K;try simp only[jX]
  refine uS 12 rfl (fun K A=>?_);go_simp;refine A _ _ (fun h=>absurd rfl h) ?_;clear A K;refine dP ?_;have aC:∀b,(Value.slice p6 (L+1) c6).ownBlock=some b→fs j b∨N.heap.size≤b:=fun b hb=>by
   rw[aP.out];rcases ac with h|h
   ·exact .inl (h▸hb)
   rw[h] at hb;simp at hb;exact .inr oM
  have aR:balsR.O w6 w.heap.size (fun b=>(Value.slice p6 (L+1) c6).ownBlock=some b) (.slice p6 (L+1) c6) (G++[⟨a,t,v⟩]):=by
   refine⟨?_,rfl⟩;rw[xS,List.length_append,←HL.out];exact o6
  have aD:Mod (fun b=>b=w.heap.size+1+1) w6 (w6.setCell ⟨w.heap.size+1+1,j,none⟩ (.slice p6 (L+1) c6)):=Mod.of_set w6 ⟨w.heap.size+1+1,j,none⟩ _;have aS:=z.owns ax.out.row (fun b hb=>by simp[Value.ownBlock] at hb;rw[←hb];exact az);have aT:=(aS.stored j (.slice p6 (L+1) c6)).1;have aU:=ax.out.putS E z aR aC aT aD;have b5:Hid (PO balsR 30 1 one (w6.setCell ⟨w.heap.size+1+1,j,none⟩ (.slice p6 (L+1) c6)) w.heap.size (.slice (some ⟨w.heap.size+1+1,0,none⟩) n n) n n (fun i=>shK f (ys.take (k+1)) i) (cs.set j (.slice p6 (L+1) c6)) (upd us j (.slice p6 (L+1) c6)) (upd fs j (fun b=>(Value.slice p6 (L+1) c6).ownBlock=some b))):=by
   refine aU.cast (fun i l=>?_);rw[←aY.out,fYd];by_cases X:i=j
   ·subst X;rw[gY,if_pos rfl,aO.out,HV.out];rfl
   rw[upd_ne _ _ X,if_neg (fun e=>X (by simp only at e;omega))]
  have b6:Hid (∀i,i<n→∀b,upd fs j (fun b=>(Value.slice p6 (L+1) c6).ownBlock=some b) i b→C.heap.size≤b):=fun i l b hb=>by
   by_cases X:i=j
   ·
    subst X;rw[gY] at hb;rcases aC b hb with h|h
    ·exact HF.out i l b h
    omega
   rw[upd_ne _ _ X] at hb;exact HF.out i l b hb
  have b7:Mod (fun b=>b=w.heap.size+1+1) C (w6.setCell ⟨w.heap.size+1+1,j,none⟩ (.slice p6 (L+1) c6)):=by
   have b8:Mod (fun b=>b=w.heap.size+1+1) C w6:=⟨z.os.trans V.os,z.tape.trans V.tape,z.output.trans V.output,Nat.le_trans V.size z.size,fun i l hn=>(z.block i (Nat.lt_of_lt_of_le l V.size) (fun e=>by have:=HF.out j E i e;omega)).trans (V.block i l hn)⟩;exact b8.trans aD
  clear aU aT aS aR aC aD o6 aQ ac J z;go_wp2;go_roundw
  case rel=>exact⟨k+1,_,_,_,by omega,by simp,b5,b6,b7⟩
  case measure=>simp[intOf];omega
 obtain rfl:k=q:=oM;have f2:=Y.cell e2 (by dsimp only;omega);have f1:=Y.cell e1 (by dsimp only;omega);have f3:w4.frozen? ⟨w.heap.size+1,0,none⟩=false:=(fAp Y (a:=⟨w.heap.size+1,0,none⟩) (show w.heap.size+1<C.heap.size by omega) (show ¬(w.heap.size+1=w.heap.size+1+1) by omega)).trans e3;have b1:=Y.size;have hy:ys.take k=ys:=by rw[←HN.out];exact List.take_length
 rw[hy] at HP;clear hy ag a7 aJ af;go_wp2;have aV:Mod (fun b=>b=w.heap.size+1) w4 (w4.setCell ⟨w.heap.size+1,0,none⟩ (.slice (some ⟨w.heap.size+1+1,0,none⟩) n n)):=Mod.of_set w4 ⟨w.heap.size+1,0,none⟩ _;have B:=HP.out.mod aV (fun b hb e=>by simp[Value.ownBlock] at hb;omega) (fun i l b hb e=>by have:=HF.out i l b hb;omega);have b9:Go.RowKit.Below w.heap.size w (w4.setCell ⟨w.heap.size+1,0,none⟩ (.slice (some ⟨w.heap.size+1+1,0,none⟩) n n)):=Mod.below (F:=fun b=>b=w.heap.size+1+1∨b=w.heap.size+1) aI ((Y.mono (fun b hb=>Or.inl hb)).trans (aV.mono (fun b hb=>Or.inr hb))) oM (fun b hb=>oM);refine bodyPost_ret (v:=.agg #[.slice (some ⟨w.heap.size+1+1,0,none⟩) n n]) (by simp[results,Tryz.results204,go_sem,f1]) rfl ?_;exact⟨_,_,ys,rfl,HD.out,HS.out,⟨cs,us,fs,by
  rw[List.length_map,List.length_range];exact B.cast (fun i l=>by simp[List.getD,l]),fun b=>Iff.rfl⟩,b9⟩
end
section
variable [dQ Rw] [iH Rw] [dQ Bal] [iH Bal] [dQ Ledg] [iH Ledg] [dQ Leg] [iH Leg] [dQ Cont] [iH Cont] [dQ LedgR] [iH LedgR] [dQ OutcR] [iH OutcR] [dQ Mrk] [iH Mrk] [dQ Shd] [iH Shd] [dQ ShdR] [iH ShdR]
theorem fKl {g:Ledg} {ls:List Leg} (h0:uH g=0) (hl:∀x ∈ ls,gI x=0∧x.sh<(g.shards.length:Int)) (h8:ls.length≤8):(1≤g.shards.length∧g.shards.length≤3)∧(∀i,i<g.shards.length→RiseB (g.shards.getD i default))∧(∀l ∈ ls,rR l.ac l.ast=true)∧(∀l ∈ ls,0≤l.sh∧l.sh<(g.shards.length:Int)) ∧
  ∀k,k<ls.length→kwf (ls.getD k default).sh (ls.getD k default).ac (ls.getD k default).ast ∧ -9223372036854775808≤(pU (mE g.shards) (ls.take k) (ls.getD k default).sh (ls.getD k default).ac (ls.getD k default).ast).getD 0+(ls.getD k default).am∧(pU (mE g.shards) (ls.take k) (ls.getD k default).sh (ls.getD k default).ac (ls.getD k default).ast).getD 0+(ls.getD k default).am≤9223372036854775807:=by
 obtain⟨d,p,j⟩:=fEd h0;refine⟨⟨d,p⟩,fun i q=>fZu (j i q),fun l h=>?_,fun l h=>?_,fun k m=>?_⟩
 ·have n:=kC (hl l h).1;exact keyOk_iff.2 ⟨n.2.1,n.2.2.1⟩
 ·exact⟨(kC (hl l h).1).1.1,(hl l h).2⟩
 have e:ls.getD k default=ls[k]:=by simp[List.getD,m]
 have n:=kC (hl _ (List.getElem_mem m)).1;rw[e];have hb:=fNf (fNh h0) (ls.take k) (fun l r=>(kC (hl l (List.mem_of_mem_take r)).1).2.2.2.1) ls[k].sh ls[k].ac ls[k].ast;rw[List.length_take] at hb;have s:=(hl _ (List.getElem_mem m)).2;refine⟨⟨fAb oM oM,fAb oM oM,fAb oM oM⟩,?_,?_⟩ <;> omega
theorem fSu (s:Int) (ls:List Leg):onSh s (onSh s ls)=onSh s ls:=by
 unfold onSh;rw[List.filter_filter];congr 1;funext l;simp
theorem fN0 {idx:Int} {bs:List Bal} {ls:List Leg} (h:0≤idx∧idx≤2):(rZ (mR idx bs) (onSh idx ls)).getD idx.toNat default=addB bs (onSh idx ls):=by
 rw[fF6 _ _ (by show idx.toNat<3;omega)];unfold fKk;rw[fP8 h];have e:((idx.toNat:Nat):Int)=idx:=oM;rw[e,fSu]
theorem fFe {hs:List Cont} {k:Int} {i:Nat} (hi:i<hs.length) (he:(hs.getD i default).id=k) (hb:∀j,j<i→(hs.getD j default).id<k):vS k hs=(hs.getD i default).legs:=by
 induction hs generalizing i with
 | nil=>simp at hi
 | cons x r ih=>
  cases i with
  | zero=>
   simp only[List.getD_cons_zero] at he ⊢;simp[vS,he]
  | succ i=>
   have h0:=hb 0 oM;simp only[List.getD_cons_zero] at h0;have d:¬x.id=k:=oM;simp only[vS,if_neg d];simp only[List.getD_cons_succ] at he ⊢;exact ih (by simpa using hi) he (fun j e=>by have:=hb (j+1) oM;simpa using this)
theorem fSk {hs:List Cont} {k:Int} (h:fP hs k=false):kU k hs=hs:=by
 unfold kU;rw[List.filter_eq_self];intro c d;unfold fP at h;rw[List.any_eq_false] at h;have:=h c d;simpa using this
def tZ (hs:List Cont) (k:Int) (n:Nat):List Nat:=(List.range n).filter (fun j=>!((hs.getD j default).id==k))
theorem fSf (hs:List Cont) (k:Int) (n:Nat):tZ hs k (n+1)=if (hs.getD n default).id=k then tZ hs k n else tZ hs k n++[n]:=by
 unfold tZ;rw[List.range_succ,List.filter_append];by_cases h:(hs.getD n default).id=k
 ·rw[if_pos h,List.filter_cons_of_neg (by simp only[h];simp)];simp
 rw[if_neg h,List.filter_cons_of_pos (by simp only[Bool.not_eq_true',beq_eq_false_iff_ne];exact h)];simp
theorem fXy {hs:List Cont} {k:Int} {n j:Nat} (h:j ∈ tZ hs k n):j<n:=List.mem_range.1 (List.mem_filter.1 h).1
theorem fXx (hs:List Cont) (k:Int) (n:Nat):(tZ hs k n).length≤n:=by
 have:=List.length_filter_le (fun j=>!((hs.getD j default).id==k)) (List.range n);rw[List.length_range] at this;exact this
theorem fSe (hs:List Cont) (k:Int):(tZ hs k hs.length).map (fun j=>hs.getD j default)=kU k hs:=by
 have e:hs=(List.range hs.length).map (fun j=>hs.getD j default):=by
  refine List.ext_getElem (by simp) (fun i h1 h2=>?_);simp[List.getD,h1]
 unfold tZ kU;conv=>rhs;rw[e]
 rw[List.filter_map];rfl
theorem fOd (hs:List Cont) (k:Int) (n:Nat):(tZ hs k n).Nodup:=by
 unfold tZ List.Nodup;exact List.Pairwise.filter _ List.nodup_range
theorem flat_get {f:Nat→List Value} {size:Nat}:∀(js:List Nat),(∀j ∈ js,(f j).length=size)→∀i,i<js.length→∀o,o<size→(js.flatMap f)[i*size+o]? = (f (js.getD i 0))[o]?
 | [],_,i,hi,_,_=>by simp at hi
 | j::js,h,0,_,o,ho=>by
  have hl:=h j (List.mem_cons_self ..);rw[List.flatMap_cons,List.getElem?_append_left oM];simp
 | j::js,h,i+1,hi,o,ho=>by
  have hl:=h j (List.mem_cons_self ..);have ih:=flat_get js (fun x hx=>h x (List.mem_cons_of_mem _ hx)) i (by simpa using hi) o ho;have e:(i+1)*size=i*size+size:=Nat.succ_mul _ _;rw[List.flatMap_cons,List.getElem?_append_right oM,hl,e,show i*size+size+o-size=i*size+o by omega,ih];simp
theorem NO.pick {α:Type} [Inhabited α] {R:Rep α} {e size:Nat} {lv:Value→List Value} {W:World} {base:Nat} {v':Value} {xs:List α} {us:Nat→Value} {fs:Nat→Nat→Prop} (js:List Nat)
  (hel:∀j,j<xs.length→R.O W base (fs j) (us j) (xs.getD j default)) (hln:∀j,j<xs.length→(lv (us j)).length=size) (hsep:∀j k,j<xs.length→k<xs.length→j≠k→∀b,fs j b→¬fs k b)
  (hjs:∀j ∈ js,j<xs.length) (hnd:js.Nodup) (hr:W.ownsRow base e size v' js.length (js.flatMap (fun j=>lv (us j)))) (hv:∀b,v'.ownBlock=some b→∀j,j<xs.length→¬fs j b) :
  ∃F',NO R e size lv W base F' v' (js.map (fun j=>xs.getD j default))∧∀b,F' b→v'.ownBlock=some b∨∃j,j<xs.length∧fs j b:=by
 have l:∀i,i<js.length→js.getD i 0<xs.length:=fun i d=>hjs _ (by simp[List.getD,d])
 have g:(js.map (fun j=>xs.getD j default)).length=js.length:=List.length_map ..;refine⟨fun b=>v'.ownBlock=some b∨∃i,i<js.length∧fs (js.getD i 0) b,⟨js.flatMap (fun j=>lv (us j)),fun i=>us (js.getD i 0),fun i=>fs (js.getD i 0),?_,fun b=>by rw[g]⟩,fun b hb=>?_⟩
 ·
  rw[g];refine⟨hr,fun i d=>?_,fun i d=>hln _ (l i d),fun i d o q=>?_,fun i d b hb e=>hv b e _ (l i d) hb,fun i k d m n b h1 h2=>?_⟩
  ·
   have h:=hel _ (l i d);have e:(js.map (fun j=>xs.getD j default)).getD i default=xs.getD (js.getD i 0) default:=by simp[List.getD,d]
   rw[e];exact h
  ·exact flat_get js (fun j p=>hln j (hjs j p)) i d o q
  refine hsep _ _ (l i d) (l k m) (fun e=>?_) b h1 h2;unfold List.Nodup at hnd;rw[List.pairwise_iff_getElem] at hnd;have r:js.getD i 0=js[i]:=by simp[List.getD,d]
  have s:js.getD k 0=js[k]:=by simp[List.getD,m]
  rw[r,s] at e;rcases Nat.lt_trichotomy i k with h|h|h
  ·exact hnd i k d m h e
  ·exact n h
  exact hnd k i m d h e.symm
 rcases hb with hb|⟨i,d,hb⟩
 ·exact .inl hb
 exact .inr ⟨_,l i d,hb⟩
theorem fW9 (bm:Nat) (k id:Int) (u:Value) (a:Option Addr) (n q:Nat) (hu:u =.slice a n q) (w:World) (hm:w.cell? ⟨bm,0,none⟩=some (iV k)) :
  RI 206 #[.agg #[iV id,u],an bm] w (.bool (id==k)):=by
 subst hu;have d:=wL w _ hm;dsimp only at d;go_enter Tryz.func206,Tryz.ntmps206;go_wp2;go_ret;exact⟨rfl,hE⟩
theorem fQe (x:Value) (xs:List Cont) (k:Int) (bm base:Nat) (F:Nat→Prop) (w:World) (hx:contsR.O w base F x xs) (hm:w.cell? ⟨bm,0,none⟩=some (.int .i64 k)) (hbase:base≤w.heap.size) (hn:xs.length≤1000) :
  cL 205 #[x,.func (.func 206) #[] #[.pointer (some ⟨bm,0,none⟩)]] w fun e w'=>∃v F',e =.returned v∧contsR.O w' base F' v (kU k xs)∧aa w w'∧∀b,F' b→F b∨w.heap.size≤b:=by
 obtain⟨a3,c3,e3,a8,a9,L⟩:=qN (contsR.ofO hx);subst e3;unfold maxLen at a9;have HX:Hid (∀j,j<xs.length→∃b o p q,a3=some ⟨b,o,none⟩∧w.cell? ⟨b,o+j*2,none⟩=some (.int .i64 (xs.getD j default).id)∧w.cell? ⟨b,o+j*2+1,none⟩=some (.slice p (xs.getD j default).legs.length q)∧contR.V w (.agg #[.int .i64 (xs.getD j default).id,.slice p (xs.getD j default).legs.length q]) (xs.getD j default)):=L;obtain⟨cs,us,fs,y,M⟩:=hx;have N:Hid (∀j,j<xs.length→∀u0 u1,(∀b o,a3=some ⟨b,o,none⟩→w.cell? ⟨b,o+j*2,none⟩=some u0∧w.cell? ⟨b,o+j*2+1,none⟩=some u1)→kS (us j)=[u0,u1]):=fun j D u0 u1 h=>by
  rcases y.row.2 with ⟨_,h0⟩|⟨g,cap,cur,hv,_⟩
  ·omega
  simp only[Value.slice.injEq] at hv;obtain⟨rfl,_,_⟩:=hv;obtain⟨B,E⟩:=h g 0 rfl;have hl:=y.ln j D;have c0:=y.cell j D 0 oM;have J:=y.cell j D 1 oM;have ax:cs.length=xs.length*2:=y.row.1;have r0:=y.row.cellAt (j*2) oM;have r1:=y.row.cellAt (j*2+1) oM;rw[Nat.zero_add] at B E;try rw[Nat.zero_add] at r0 r1
  rw[B] at r0;rw[E] at r1;rw[Nat.add_zero,←r0] at c0;rw[←r1] at J;match hlv:kS (us j),hl with
  | [p,q],_=>
   rw[hlv] at c0 J;simp at c0 J;rw[←c0,←J]
 have ab:Hid ((∀j,j<xs.length→contR.O w base (fs j) (us j) (xs.getD j default))∧(∀j,j<xs.length→(kS (us j)).length=2)∧(∀j k,j<xs.length→k<xs.length→j≠k→∀b,fs j b→¬fs k b)∧(∀j,j<xs.length→∀b,fs j b→F b∧b<w.heap.size)):=⟨y.el,y.ln,y.sep,fun j D b hb=>⟨(M b).2 (.inr ⟨j,D,hb⟩),(contR.rng (y.el j D) b hb).2⟩⟩;have ac:Hid (∀j,(tZ xs k j).length≤j):=fun j=>fXx xs k j
 have ad:Hid ((tZ xs k xs.length).map (fun j=>xs.getD j default)=kU k xs):=fSe xs k;clear y M L;obtain⟨n,G⟩:∃n,n=xs.length:=⟨_,rfl⟩
 have HN:Hid (xs.length=n):=G.symm;rw[←G] at HX N a8 hn ⊢;clear G;obtain⟨i0,hi,ae,af,ag⟩:=info_parts rQ;have eg:=enters_of Tryz.func206 kF rfl;go_enter Tryz.func205,Tryz.ntmps205;go_wp2;go_loopw [5,10] (fun v i w'=>∃(j:Nat) (a:Option Addr) (m c:Nat),j≤n∧i =.int .i64 j∧v =.slice a m c∧Hid (m=(tZ xs k j).length)∧Hid (w'.ownsRow w.heap.size 57 2 (.slice a m c) m ((tZ xs k j).flatMap (fun q=>kS (us q))))∧aa w w') (fun _ i _=>n-(intOf i).toNat)
 case atStart=>exact⟨0,none,0,0,Nat.zero_le _,rfl,rfl,rfl,World.ownsRow_nil _ _ _ _,bR _ _⟩
 obtain⟨j,al,m,cl,D,rfl,rfl,K,T,l⟩:=hrel;have zr:=l.size;have ay:m≤n:=by have:=ac.out j;rw[←K.out] at this;omega
 by_cases U:j<n
 ·
  obtain⟨bx,ox,X,Y,rfl,B,E,_⟩:=HX.out j U;have HU:Hid (kS (us j)=[.int .i64 (xs.getD j default).id,.slice X (xs.getD j default).legs.length Y]):=N.out j U _ _ (fun b o e=>by
   simp only[Option.some.injEq,Addr.mk.injEq,and_true] at e;obtain⟨rfl,rfl⟩:=e;exact⟨B,E⟩)
  have HK:Hid (tZ xs k (j+1)=if (xs.getD j default).id=k then tZ xs k j else tZ xs k j++[j]):=fSf xs k j;replace B:=cK l B;replace E:=cK l E;have zb:bx<wr.heap.size:=wL wr _ B;generalize (xs.getD j default).legs.length=nl at *;generalize (xs.getD j default).id=id at *;have A:Hid (bW w fun W=>RI 206 #[.agg #[.int .i64 id,.slice X nl Y],.pointer (some ⟨bm,0,none⟩)] W (.bool (id==k))):=fun W hW=>fW9 bm k id _ X nl Y rfl W (cK hW hm)
  have k1:(j:Int)<n:=oM;have k2:(0:Int)≤j:=oM;by_cases r:id=k
  ·
   have Z:Hid (tZ xs k (j+1)=tZ xs k j):=by show _=_;rw[HK.out,if_pos r]
   have hb:(id==k)=true:=by simp[r]
   rw[hb] at A;clear HK HU r;go_wp2_with (first|(go_at_call 206;refine(A.out _ hE).mono ?_;rintro e C ⟨rfl,s⟩));have z:=bT wr s;exact⟨⟨j+1,al,m,cl,by omega,by go_num,rfl,by show _=_;rw[Z.out];exact K.out,by show World.ownsRow _ _ _ _ _ _ _;rw[Z.out];exact fO T.out z,bS l z⟩,mI⟩
  have Z:Hid (tZ xs k (j+1)=tZ xs k j++[j]):=by show _=_;rw[HK.out,if_neg r]
  have hb:(id==k)=false:=by simpa using r
  rw[hb] at A;clear HK r;go_wp2_with fail;refine(A.out _ hE).mono ?_;rintro e C ⟨rfl,s⟩;have z:=bT wr s;have b0:cI C wr.heap.size 0 id:=cK s sG;have b1:ah C wr.heap.size 1 X nl Y:=cK s sG;have z1:wr.heap.size<C.heap.size:=wL C _ b0;have a0:Hid (C.ownsRow w.heap.size 57 2 (.slice al m cl) m ((tZ xs k j).flatMap (fun q=>kS (us q)))):=fO T.out z;have ak:aa w C:=bS l z;clear s T B E;go_wp2_with (at_builtin;refine wpList_append_own_at _ rfl _ _ 38 rfl w.heap.size 57 i0 _ 2 32 Tryz.underlying38 hi ae af ag rfl (by decide) _ m ((tZ xs k j).flatMap (fun q=>kS (us q))) rfl (a0.out.alloc _) ⟨C.heap.size,0,none⟩ 1 1 [.int .i64 id,.slice X nl Y] rfl rfl ?J ?c2 ?c3 ?c4 ?c5 ?_)
  case J=>
   intro o u d;match o,d with
   | 0,d=>simp at d;subst d;simp[Addr.add,go_sem]
   | 1,d=>simp at d;subst d;simp[Addr.add,go_sem]
   | o+2,d=>simp at d
  case c2=>
   intro u hu;simp only[List.mem_cons,List.not_mem_nil,or_false] at hu;rcases hu with rfl|rfl <;> rfl
  case c3=>unfold maxLen;omega
  case c4=>omega
  case c5=>simp;omega
  intro v2 w2 H a1 _ _;have am:aa w w2:=uB (a0.out.alloc _) (bA ak _) (by simp;omega) (Nat.le_refl _) a1;obtain⟨a2,c2,rfl⟩:=fD H;have ao:Hid (w2.ownsRow w.heap.size 57 2 (.slice a2 (m+1) c2) (m+1) ((tZ xs k (j+1)).flatMap (fun q=>kS (us q)))):=by
   show World.ownsRow _ _ _ _ _ _ _;rw[Z.out,List.flatMap_append,List.flatMap_cons,List.flatMap_nil,List.append_nil,HU.out];exact H
  have ar:Hid (m+1=(tZ xs k (j+1)).length):=by
   show _=_;rw[Z.out,List.length_append,←K.out];rfl
  clear H a1;go_wp2;exact⟨⟨j+1,a2,m+1,c2,by omega,by go_num,rfl,ar,ao,am⟩,mI⟩
 have au:j=n:=oM;subst au;have a4:Hid (∃F',contsR.O wr base F' (.slice al m cl) (kU k xs)∧∀b,F' b→F b∨w.heap.size≤b):=by
  obtain⟨av,aw,a5,a6⟩:=ab.out;have d:=T.out;rw[K.out] at d;obtain⟨F',h1,h2⟩:=NO.pick (R:=contR) (lv:=kS) (e:=57) (size:=2) (xs:=xs) (us:=us) (fs:=fs) (W:=wr) (base:=base) (v':=.slice al (tZ xs k j).length cl) (tZ xs k j) (fun q I=>contR.keep (av q I) l) aw a5 (fun q I=>by rw[HN.out];exact fXy I) (fOd xs k j) (qI d hbase) (fun b hb q I h=>by have:=(d.lt b hb).1;have:=(a6 q I b h).2;omega);have a7:=ad.out;rw[HN.out] at a7;rw[a7] at h1;rw[K.out];exact⟨F',h1,fun b hb=>by
   rcases h2 b hb with h|⟨q,I,h⟩
   ·exact .inr (d.lt b h).1
   exact .inl (a6 q I b h).1⟩
 clear T K;go_wp2;go_ret;obtain⟨F',h1,h2⟩:=a4.out;exact⟨_,F',rfl,h1,hE,h2⟩
def DecE (D:Shd) (base:Nat) (w:World) (e:Ending) (w':World):Prop:=∃v F',e =.returned v∧shdR.O w' base F' v D∧Below base w w'
theorem fW1 {w:World} {base:Nat} {F:Nat→Prop} {v:Value} {xs:List (List Bal)} (h:balssR.O w base F v xs) {i:Nat} (hi:i<xs.length):∃g c p m q Fi,v =.slice (some ⟨g,0,none⟩) xs.length c∧w.cell? ⟨g,i,none⟩=some (.slice p m q)∧balsR.O w base Fi (.slice p m q) (xs.getD i default)∧∀b,Fi b→F b:=by
 obtain⟨cs,us,fs,d,l⟩:=h;rcases d.row.2 with ⟨_,h0⟩|⟨g,cap,cur,rfl,_⟩
 ·omega
 have j:=d.el i hi;obtain⟨p,q,e⟩:=fD j.1;have n:cs.length=xs.length*1:=d.row.1;have k:=d.row.cellAt (i*1) oM;have h2:=d.cell i hi 0 oM;rw[Nat.add_zero] at h2;rw[h2,e] at k;refine⟨g,cap,p,(xs.getD i default).length,q,fs i,rfl,?_,?_,fun b hb=>(l b).2 (.inr ⟨i,hi,hb⟩)⟩
 ·simpa [one] using k
 rw[e] at j;exact j
theorem fXc {d:Shd} {k o:Int} (ho:o=1∨o=2) (hh:o=1→fP d.held k=true) (h:fP d.held k=false):decS d k o=⟨d.idx,d.bals,d.votes,d.held,putM d.done ⟨k,o⟩,d.appl⟩:=by
 unfold decS;have h1:¬o=1:=fun e=>by rw[hh e] at h;cases h
 rw[if_neg h1,fSk h]
theorem fXa {d:Shd} {k o:Int} (h:¬o=1):decS d k o=⟨d.idx,d.bals,d.votes,kU k d.held,putM d.done ⟨k,o⟩,d.appl⟩:=by unfold decS;rw[if_neg h]
theorem fXb {d:Shd} {k o:Int} {ls:List Leg} (h:o=1) (hl:vS k d.held=ls):decS d k o=⟨d.idx,addB d.bals (onSh d.idx ls),d.votes,kU k d.held,putM d.done ⟨k,o⟩,d.appl++[k]⟩:=by unfold decS;rw[if_pos h,hl]
theorem fRr (x:Value) (d:Shd) (k o:Int) (base:Nat) (F:Nat→Prop) (w:World) (hx:shdR.O w base F x d) (hbase:base≤w.heap.size) (hok:ShdOk d) (ho:o=1∨o=2) (hh:o=1→fP d.held k=true) :
  cL 181 #[x,.agg #[iV k,iV o]] w (DecE (decS d k o) base w):=by
 obtain⟨a1,a2,a3,a4,a5,c1,c2,c3,c4,c5,rfl⟩:=mW hx;have HX:Hid (shdR.O w base F (.agg #[iV d.idx,.slice a1 d.bals.length c1,.slice a2 d.votes.length c2,.slice a3 d.held.length c3,.slice a4 d.done.length c4,.slice a5 d.appl.length c5]) d):=hx;have HR:Hid (∀b,F b→base≤b∧b<w.heap.size):=fun b hb=>shdR.rng hx b hb
 have aw:Hid (ShdOk d):=hok;have bh:Hid (d.held.length≤1000):=by have:=hok.ls.nh;show _≤_;omega
 have bi:Hid (∀W Fj,aa w W→mrksR.O W base Fj (.slice a4 d.done.length c4) d.done→cL 194 #[.slice a4 d.done.length c4,.agg #[iV k,iV o]] W fun e w'=>∃u F',e =.returned u∧mrksR.O w' base F' u (putM d.done ⟨k,o⟩)∧Mod Fj W w'∧∀b,F' b→Fj b∨W.heap.size≤b):=fun W Fj hW h=>fJb _ d.done ⟨k,o⟩ base Fj W h (Nat.le_trans hbase hW.size) (by have:=hok.ls.nd;omega) hok.ls.od.rise
 have bj:Hid (∀W v,contsR.V W v d.held→cL 199 #[v,iV k] W (PlC d.held k W)):=fun W v hv=>xM v d.held k W hv (by have:=hok.ls.nh;omega) hok.held.rise
 have bk:Hid (∀i,(∀j,j<i→(d.held.getD j default).id<k)→(∀j,i≤j→j<d.held.length→k≤(d.held.getD j default).id)→fP d.held k=decide (i<d.held.length∧(d.held.getD i default).id=k)):=fun i h1 h2=>fLn hok.held.rise h1 h2
 have aZ:Hid (fP d.held k=false→decS d k o=⟨d.idx,d.bals,d.votes,d.held,putM d.done ⟨k,o⟩,d.appl⟩):=fun h=>fXc ho hh h
 have aP:d.appl.length≤100:=hok.ls.na;clear hx hok ho hh;generalize cq:d.bals.length=n1 at *;generalize cr:d.votes.length=n2 at *;generalize cs:d.done.length=n4 at *;generalize bl:d.appl.length=X at *;have bm:Hid (d.appl.length=X):=bl;have bn:Hid (X≤100):=aP;clear cq cr cs bl aP;obtain⟨n3,b0⟩:∃n3,n3=d.held.length:=⟨_,rfl⟩
 have HN:Hid (d.held.length=n3):=b0.symm;rw[←b0] at HX ⊢;clear b0;obtain⟨wq,A⟩:∃wq,wq=((w.alloc (.cells #[iV d.idx,.slice a1 n1 c1,.slice a2 n2 c2,.slice a3 n3 c3,.slice a4 n4 c4,.slice a5 X c5] 41)).alloc (.cells #[iV k,iV o] 166)).alloc (.cells #[iV 0,aj,aj,aj,aj,aj] 41):=⟨_,rfl⟩
 have b1:aa w wq:=by rw[A];exact hE
 have ct:w.heap.size+2<wq.heap.size:=by rw[A];simp
 have H:cI wq w.heap.size 0 d.idx:=cQ A;have Y:ah wq w.heap.size 1 a1 n1 c1:=cQ A;have Z:ah wq w.heap.size 2 a2 n2 c2:=cQ A;have J:ah wq w.heap.size 3 a3 n3 c3:=cQ A;have z4:ah wq w.heap.size 4 a4 n4 c4:=cQ A;have z5:ah wq w.heap.size 5 a5 X c5:=cQ A;have m0:cI wq (w.heap.size+1) 0 k:=cQ A;have m1:cI wq (w.heap.size+1) 1 o:=cQ A;have L:cI wq (w.heap.size+2) 0 0:=cQ A;have M:cN wq (w.heap.size+2) 1:=cQ A;have N:cN wq (w.heap.size+2) 2:=cQ A;have R:cN wq (w.heap.size+2) 3:=cQ A;have T:cN wq (w.heap.size+2) 4:=cQ A;have U:cN wq (w.heap.size+2) 5:=cQ A;have z:aq wq w.heap.size:=fun o=>by rw[A];simp[go_sem]
 have rf:aq wq (w.heap.size+2):=fun o=>by rw[A];simp[go_sem]
 obtain⟨F4,o4,bo,bp⟩:=fQy (shdR.keep HX.out b1);have bq:Hid (mrksR.O wq base F4 (.slice a4 n4 c4) d.done):=o4;have aJ:Hid (∀b,F4 b→base≤b∧b<w.heap.size):=fun b hb=>HR.out b (bo b hb)
 have aQ:Hid (∀(w':World) (ad:Nat→Prop) (v:Value) (ys:List Mrk),mrksR.O w' base ad v ys→Mod F4 wq w'→(∀b,ad b→F4 b∨wq.heap.size≤b)→∃F',shdR.O w' base F' (.agg #[iV d.idx,.slice a1 n1 c1,.slice a2 n2 c2,.slice a3 n3 c3,v,.slice a5 X c5]) ⟨d.idx,d.bals,d.votes,d.held,ys,d.appl⟩∧∀b,F' b→F b∨wq.heap.size≤b):=bp;clear bp o4 bo HX;go_enter Tryz.func181,Tryz.ntmps181;go_wp2_with fail;rw[←A];clear A;refine(bi.out _ F4 b1 bq.out).mono ?_;rintro e w1 ⟨v1,F1,rfl,o1,ae,l1⟩;obtain⟨p4,q4,rfl⟩:=fD o1.1;obtain⟨Fc,oc,br⟩:=aQ.out w1 F1 _ _ o1 ae l1;have bs:Hid (shdR.O w1 base Fc (.agg #[iV d.idx,.slice a1 n1 c1,.slice a2 n2 c2,.slice a3 n3 c3,.slice p4 (putM d.done ⟨k,o⟩).length q4,.slice a5 X c5]) ⟨d.idx,d.bals,d.votes,d.held,putM d.done ⟨k,o⟩,d.appl⟩):=oc;have ak:Hid (∀b,Fc b→b<w.heap.size∨w.heap.size+3≤b):=fun b hb=>(br b hb).elim (fun h=>.inl (HR.out b h).2) (fun h=>oM)
 have nz:¬F4 w.heap.size:=fun h=>by have:=(aJ.out _ h).2;omega
 have nm:¬F4 (w.heap.size+1):=fun h=>by have:=(aJ.out _ h).2;omega
 have nr:¬F4 (w.heap.size+2):=fun h=>by have:=(aJ.out _ h).2;omega
 have bt:Below base w w1:=ae.below (b1.mono hbase) oM (fun b hb=>(aJ.out b hb).1);refine kM6 ae nz ?_ H Y Z J z4 z5;clear H Y Z J z4 z5;intro H Y Z J z4 z5;replace m0:=ae.cell m0 nm;replace m1:=ae.cell m1 nm;refine kM6 ae nr ?_ L M N R T U;clear L M N R T U;intro L M N R T U;replace z:∀o,World.frozen? w1 ⟨w.heap.size,o,none⟩=false:=fun o=>(ae.frz10 (a:=⟨w.heap.size,o,none⟩) (by dsimp only;omega) nz).trans (z o)
 replace rf:∀o,World.frozen? w1 ⟨w.heap.size+2,o,none⟩=false:=fun o=>(ae.frz10 (a:=⟨w.heap.size+2,o,none⟩) (by dsimp only;omega) nr).trans (rf o)
 have cU:w.heap.size+2<w1.heap.size:=Nat.lt_of_lt_of_le ct ae.size;clear o1 ae l1 oc br aQ bq bi nz nm nr;generalize (putM d.done ⟨k,o⟩).length=np at *;go_wp2_with fail;obtain⟨V1,a0⟩:∃W,W=w1.setCell ⟨w.heap.size,4,none⟩ (.slice p4 np q4):=⟨_,rfl⟩
 rw[←a0];have B:Mod (fun b=>b=w.heap.size) w1 V1:=by rw[a0];exact Mod.of_set w1 ⟨w.heap.size,4,none⟩ _
 replace H:V1.cell? ⟨w.heap.size,0,none⟩=some (iV d.idx):=by rw[a0];simp[go_sem,H,z]
 replace Y:V1.cell? ⟨w.heap.size,1,none⟩=some (.slice a1 n1 c1):=by rw[a0];simp[go_sem,Y,z]
 replace Z:V1.cell? ⟨w.heap.size,2,none⟩=some (.slice a2 n2 c2):=by rw[a0];simp[go_sem,Z,z]
 replace J:V1.cell? ⟨w.heap.size,3,none⟩=some (.slice a3 n3 c3):=by rw[a0];simp[go_sem,J,z]
 replace z4:V1.cell? ⟨w.heap.size,4,none⟩=some (.slice p4 np q4):=by rw[a0];simp[go_sem,z4,z]
 replace z5:V1.cell? ⟨w.heap.size,5,none⟩=some (.slice a5 X c5):=by rw[a0];simp[go_sem,z5,z]
 replace z:aq V1 w.heap.size:=fun o=>by rw[a0];simp[go_sem,z]
 clear a0;replace m0:=B.cell m0 (show w.heap.size+1≠w.heap.size by omega);replace m1:=B.cell m1 (show w.heap.size+1≠w.heap.size by omega);replace L:=B.cell L (show w.heap.size+2≠w.heap.size by omega);replace M:=B.cell M (show w.heap.size+2≠w.heap.size by omega);replace N:=B.cell N (show w.heap.size+2≠w.heap.size by omega);replace R:=B.cell R (show w.heap.size+2≠w.heap.size by omega);replace T:=B.cell T (show w.heap.size+2≠w.heap.size by omega);replace U:=B.cell U (show w.heap.size+2≠w.heap.size by omega);replace rf:aq V1 (w.heap.size+2):=fun o=>(B.frz10 (a:=⟨w.heap.size+2,o,none⟩) (by dsimp only;omega) (show w.heap.size+2≠w.heap.size by omega)).trans (rf o)
 have cR:w.heap.size+2<V1.heap.size:=Nat.lt_of_lt_of_le oM B.size;have b2:Hid (shdR.O V1 base Fc (.agg #[iV d.idx,.slice a1 n1 c1,.slice a2 n2 c2,.slice a3 n3 c3,.slice p4 np q4,.slice a5 X c5]) ⟨d.idx,d.bals,d.votes,d.held,putM d.done ⟨k,o⟩,d.appl⟩):=shdR.mod bs.out B (fun b hb e=>by have:=ak.out b hb;omega);have bu:Below base w V1:=B.below bt oM (fun b e=>by rw[e];exact hbase);clear B bs bt;have aR:Hid (cL 199 #[.slice a3 n3 c3,iV k] V1 (PlC d.held k V1)):=by
  obtain⟨G,hG,_⟩:=xI (d:=⟨d.idx,d.bals,d.votes,d.held,putM d.done ⟨k,o⟩,d.appl⟩) b2.out;exact bj.out V1 _ (contsR.ofO hG)
 refine aR.out.mono ?_;rintro e W1 ⟨i,hi,rfl,p1,p2,au⟩;have HO:Hid (shdR.O W1 base Fc (.agg #[iV d.idx,.slice a1 n1 c1,.slice a2 n2 c2,.slice a3 n3 c3,.slice p4 np q4,.slice a5 X c5]) ⟨d.idx,d.bals,d.votes,d.held,putM d.done ⟨k,o⟩,d.appl⟩):=shdR.keep b2.out au;have am:Below base w W1:=Below.trans bu (au.mono oM);have HH:=bk.out i p1 p2;refine kR14 au ?_ H Y Z J z4 z5 m0 m1 L M N R T U;clear H Y Z J z4 z5 m0 m1 L M N R T U;intro H Y Z J z4 z5 m0 m1 L M N R T U;replace z:=ai au oM z;replace rf:=ai au oM rf;have cS:w.heap.size+2<W1.heap.size:=by have:=au.size;omega
 clear au b2 bu bj aR bk;by_cases ax:i<d.held.length∧(d.held.getD i default).id=k;rotate_left
 ·rw[decide_eq_false ax] at HH ⊢;have HC:Hid _:=aZ.out HH;clear aZ HH ax p1 p2 hi;go_wp2;refine bodyPost_ret (v:=.agg #[iV d.idx,.slice a1 n1 c1,.slice a2 n2 c2,.slice a3 n3 c3,.slice p4 np q4,.slice a5 X c5]) (by simp[results,Tryz.results181,go_sem,L,M,N,R,T,U,rf]) rfl ?_;have aK:base≤w.heap.size:=hbase;have C:base≤w.heap.size+2:=oM;rw[HC.out];exact⟨_,Fc,rfl,fYb shdR (HO.out) (fun h=>by have:=ak.out _ h;omega) _ _ _ _ _ _,((((((am).setCell (p:=⟨w.heap.size+2,0,none⟩) C _).setCell (p:=⟨w.heap.size+2,1,none⟩) C _).setCell (p:=⟨w.heap.size+2,2,none⟩) C _).setCell (p:=⟨w.heap.size+2,3,none⟩) C _).setCell (p:=⟨w.heap.size+2,4,none⟩) C _).setCell (p:=⟨w.heap.size+2,5,none⟩) C _⟩
 rw[decide_eq_true ax];clear aZ HH;by_cases av:o=1;rotate_left
 ·
  have HC:Hid (decS d k o=⟨d.idx,d.bals,d.votes,kU k d.held,putM d.done ⟨k,o⟩,d.appl⟩):=fXa av;have cu:(o==1)=false:=by simpa using av
  clear ax p1 p2 av;go_wp2_with fail;obtain⟨G3,o3,b3,ay⟩:=xI (d:=⟨d.idx,d.bals,d.votes,d.held,putM d.done ⟨k,o⟩,d.appl⟩) HO.out;have ao:Hid (∀(w':World) (ad:Nat→Prop) (v:Value) (ys:List Cont),contsR.O w' base ad v ys→Mod G3 W1 w'→(∀b,ad b→G3 b∨W1.heap.size≤b)→∃F',shdR.O w' base F' (.agg #[iV d.idx,.slice a1 n1 c1,.slice a2 n2 c2,v,.slice p4 np q4,.slice a5 X c5]) ⟨d.idx,d.bals,d.votes,ys,putM d.done ⟨k,o⟩,d.appl⟩∧∀b,F' b→Fc b∨W1.heap.size≤b):=ay;have az:Hid (contsR.O W1 base G3 (.slice a3 n3 c3) d.held):=o3;clear ay o3 b3;have aA:Hid (cL 205 #[.slice a3 n3 c3,.func (.func 206) #[] #[an (w.heap.size+1)]] W1 fun e w'=>∃v F',e =.returned v∧contsR.O w' base F' v (kU k d.held)∧aa W1 w'∧∀b,F' b→G3 b∨W1.heap.size≤b):=fQe _ d.held k (w.heap.size+1) base G3 W1 az.out m0 oM bh.out;refine aA.out.mono ?_;rintro e w8 ⟨v8,F8,rfl,o8,a8,aB⟩;obtain⟨F9,o9,aC⟩:=ao.out w8 F8 _ _ o8 (Mod.of_below a8) aB;obtain⟨p8,q8,e8⟩:=fM (contsR.ofO o8);subst e8;have b4:Hid (shdR.O w8 base F9 (.agg #[iV d.idx,.slice a1 n1 c1,.slice a2 n2 c2,.slice p8 (kU k d.held).length q8,.slice p4 np q4,.slice a5 X c5]) ⟨d.idx,d.bals,d.votes,kU k d.held,putM d.done ⟨k,o⟩,d.appl⟩):=o9;have aD:Hid (∀b,F9 b→b<w.heap.size∨w.heap.size+3≤b):=fun b hb=>(aC b hb).elim (fun h=>ak.out b h) (fun h=>oM)
  have b5:Below base w w8:=Below.trans am (a8.mono oM);generalize (kU k d.held).length=m8 at *;refine kR14 a8 ?_ H Y Z J z4 z5 m0 m1 L M N R T U;clear H Y Z J z4 z5 m0 m1 L M N R T U;intro H Y Z J z4 z5 m0 m1 L M N R T U;replace z:=ai a8 oM z;replace rf:=ai a8 oM rf;have cv:w.heap.size+2<w8.heap.size:=by have:=a8.size;omega
  clear o8 a8 aB o9 aC ao az aA HO ak am;go_wp2;refine bodyPost_ret (v:=.agg #[iV d.idx,.slice a1 n1 c1,.slice a2 n2 c2,.slice p8 m8 q8,.slice p4 np q4,.slice a5 X c5]) (by simp[results,Tryz.results181,go_sem,L,M,N,R,T,U,rf]) rfl ?_;have aK:base≤w.heap.size:=hbase;have C:base≤w.heap.size+2:=oM;rw[HC.out];exact⟨_,F9,rfl,fYb shdR (fSz shdR b4.out (fun h=>by have:=aD.out _ h;omega) _) (fun h=>by have:=aD.out _ h;omega) _ _ _ _ _ _,(((((((b5).setCell (p:=⟨w.heap.size,3,none⟩) aK _).setCell (p:=⟨w.heap.size+2,0,none⟩) C _).setCell (p:=⟨w.heap.size+2,1,none⟩) C _).setCell (p:=⟨w.heap.size+2,2,none⟩) C _).setCell (p:=⟨w.heap.size+2,3,none⟩) C _).setCell (p:=⟨w.heap.size+2,4,none⟩) C _).setCell (p:=⟨w.heap.size+2,5,none⟩) C _⟩
 obtain⟨aE,bv⟩:=ax;have cV:(i:Int)<n3:=by rw[HN.out] at aE;omega
 have cX:(0:Int)≤i:=oM;have bw:Hid (vS k d.held=(d.held.getD i default).legs):=fFe aE bv p1;have HC:Hid (decS d k o=⟨d.idx,addB d.bals (onSh d.idx (d.held.getD i default).legs),d.votes,kU k d.held,putM d.done ⟨k,o⟩,d.appl++[k]⟩):=fXb av bw.out;have bz:∀l ∈ (d.held.getD i default).legs,gI l=0:=aw.out.held.fault aE
 have bB:(d.held.getD i default).legs.length≤8:=aw.out.held.len aE;have bC:Hid (uH ⟨mR d.idx d.bals⟩=0):=fJx (pE aw.out.base).2;have aL:Hid (0≤d.idx∧d.idx≤2):=(pE aw.out.base).1;have b6:Hid ((1≤(mR d.idx d.bals).length∧(mR d.idx d.bals).length≤3)∧_):=fKl (g:=⟨mR d.idx d.bals⟩) (ls:=onSh d.idx (d.held.getD i default).legs) bC.out (fun l hl=>⟨bz l (List.mem_filter.1 hl).1,by
  have h2:=(List.mem_filter.1 hl).2;simp only[beq_iff_eq] at h2;show l.sh<((mR d.idx d.bals).length:Int);have:(mR d.idx d.bals).length=3:=rfl;have:=aL.out;omega⟩) (Nat.le_trans (List.length_filter_le _ _) bB)
 have b7:Hid (shdR.V W1 (.agg #[iV d.idx,.slice a1 n1 c1,.slice a2 n2 c2,.slice a3 n3 c3,.slice p4 np q4,.slice a5 X c5]) ⟨d.idx,d.bals,d.votes,d.held,putM d.done ⟨k,o⟩,d.appl⟩):=shdR.ofO HO.out;obtain⟨bx,ox,pp,qq,g0,g1,hV⟩:∃bx ox pp qq,W1.cell? ⟨bx,ox+i*2,none⟩=some (iV (d.held.getD i default).id)∧W1.cell? ⟨bx,ox+i*2+1,none⟩=some (.slice pp (d.held.getD i default).legs.length qq)∧(a3=some ⟨bx,ox,none⟩∧legsR.V W1 (.slice pp (d.held.getD i default).legs.length qq) (d.held.getD i default).legs):=by
  obtain⟨v1,v2,v3,v4,v5,e,_,_,h3,_⟩:=b7.out;simp only[Value.agg.injEq,Array.mk.injEq,List.cons.injEq,and_true,true_and] at e;obtain⟨_,_,rfl,_⟩:=e;obtain⟨a,c,e3,_,_,cw⟩:=qN h3;obtain⟨b,o',p,q,ea,c0,c1,hv⟩:=cw i aE;simp only[Value.slice.injEq] at e3;obtain⟨rfl,_⟩:=e3;obtain⟨u,eu,hu⟩:=hv;simp only[Value.agg.injEq,Array.mk.injEq,List.cons.injEq,and_true,true_and] at eu;exact⟨b,o',p,q,c0,c1,ea,by rw[eu];exact hu⟩
 obtain⟨cx,bE⟩:=hV;subst cx;have cy:Hid (bW W1 fun W=>legsR.V W (.slice pp (d.held.getD i default).legs.length qq) (d.held.getD i default).legs):=fun W hW=>legsR.below bE hW
 have bF:Hid (bW W1 fun W=>cL 198 #[.agg #[iV d.idx,.slice a1 n1 c1,.slice a2 n2 c2,.slice (some ⟨bx,ox,none⟩) n3 c3,.slice p4 np q4,.slice a5 X c5]] W fun e w'=>∃b,e =.returned (.agg #[iV 3,.map (some b)])∧W.heap.size≤b∧Book w' b 54 (mE (mR d.idx d.bals))∧aa W w'):=fun W hW=>zO _ ⟨d.idx,d.bals,d.votes,d.held,putM d.done ⟨k,o⟩,d.appl⟩ W (shdR.below b7.out hW) aw.out.base
 have bG:Hid (bW W1 fun W=>cL 192 #[.slice pp (d.held.getD i default).legs.length qq,iV d.idx] W fun e w'=>∃v,e =.returned v∧w'.ownsRow W.heap.size 168 4 v (onSh d.idx (d.held.getD i default).legs).length (gT (onSh d.idx (d.held.getD i default).legs))∧aa W w'):=fun W hW=>yA _ _ _ W (cy.out W hW) oM
 have bH:Hid (∀W b y,Book W b 54 (mE (mR d.idx d.bals))→legsR.V W y (onSh d.idx (d.held.getD i default).legs)→cL 203 #[.agg #[iV 3,.map (some b)],y] W fun e w'=>e =.returned (.tuple #[])∧∃m',Book w' b m' (pU (mE (mR d.idx d.bals)) (onSh d.idx (d.held.getD i default).legs))∧Mod (fun i=>i=b) W w'):=fun W b y hB hy=>by
  obtain⟨_,_,_,_,h5⟩:=b6.out;refine(fNg 3 b 54 _ _ _ W hB hy (by have:=List.length_filter_le (fun l:Leg=>l.sh==d.idx) (d.held.getD i default).legs;unfold onSh;omega) h5).mono ?_;rintro e w' ⟨rfl,m',_,h1,h2⟩;exact⟨rfl,m',h1,h2⟩
 have bI:Hid (∀W b m,Book W b m (pU (mE (mR d.idx d.bals)) (onSh d.idx (d.held.getD i default).legs))→cL 204 #[.agg #[iV 3,.map (some b)]] W fun e w'=>∃v F,e =.returned (.agg #[v])∧balssR.O w' W.heap.size F v (rZ (mR d.idx d.bals) (onSh d.idx (d.held.getD i default).legs))∧aa W w'):=fun W b m hB=>by
  obtain⟨⟨h1,h3⟩,hr,hk,hs,h5⟩:=b6.out;have hd:=fOc hr hk hs;refine(fGy 3 b m _ W hB oM oM hd).mono ?_;rintro e w' ⟨v,F,ys,rfl,hD,hP,hO,hb⟩;refine⟨v,F,rfl,?_,hb⟩;rw[←fOn hr hk (by show(mR d.idx d.bals).length≤200;omega) hd hD hP (hs':=(List.range 3).map (shK (pU (mE (mR d.idx d.bals)) (onSh d.idx (d.held.getD i default).legs)) ys)) (by simp[mR]) (fun i hi=>by
   have cz:i<3:=hi;simp[List.getD,cz])]
  exact hO
 have cA:Hid ((rZ (mR d.idx d.bals) (onSh d.idx (d.held.getD i default).legs)).getD d.idx.toNat default=addB d.bals (onSh d.idx (d.held.getD i default).legs)):=fN0 aL.out;have bJ:Hid ((rZ (mR d.idx d.bals) (onSh d.idx (d.held.getD i default).legs)).length=3):=by show _=_;rw[fBg];rfl
 have cu:(o==1)=true:=by simp[av]
 obtain⟨ix,bK⟩:∃ix:Nat,d.idx=(ix:Int):=⟨d.idx.toNat,by have:=aL.out;omega⟩
 have bL:ix<3:=by have:=aL.out;omega
 have bM:Hid (d.idx=(ix:Int)∧d.idx.toNat=ix):=⟨bK,by omega⟩;have bN:=wL W1 _ g1;dsimp only at bN;clear bz bE g0 b6 bC bv p1 p2 b7 av bK;try clear bw
 generalize cB:(d.held.getD i default).legs.length=ll at *;clear cB bB;go_wp2_with fail;refine(bF.out _ (bR _ _)).mono ?_;rintro e w2 ⟨b,rfl,cY,b8,ar⟩;have bO:Hid (Book w2 b 54 (mE (mR d.idx d.bals))):=b8;have zb:=b8.lt;clear b8 bF;have bP:Hid (shdR.O w2 base Fc (.agg #[iV d.idx,.slice a1 n1 c1,.slice a2 n2 c2,.slice (some ⟨bx,ox,none⟩) n3 c3,.slice p4 np q4,.slice a5 X c5]) ⟨d.idx,d.bals,d.votes,d.held,putM d.done ⟨k,o⟩,d.appl⟩):=shdR.keep HO.out ar;have bQ:Below base w w2:=Below.trans am (ar.mono oM);refine kR14 ar ?_ H Y Z J z4 z5 m0 m1 L M N R T U;clear H Y Z J z4 z5 m0 m1 L M N R T U;intro H Y Z J z4 z5 m0 m1 L M N R T U;replace z:=ai ar oM z;replace rf:=ai ar oM rf;replace g1:=cK ar g1;have cZ:w.heap.size+2<w2.heap.size:=by have:=ar.size;omega
 have d0:bx<w2.heap.size:=wL w2 _ g1;go_wp2;obtain⟨w3,aF⟩:∃w3,w3=w2.alloc (.cells #[iV 3,.map (some b)] 227):=⟨_,rfl⟩
 have af:aa w2 w3:=by rw[aF];exact hE
 have k0:cI w3 w2.heap.size 0 3:=cQ aF;have k1:cW w3 w2.heap.size 1 (.map (some b)):=cQ aF;rw[←aF];clear aF;have aS:Hid (Book w3 b 54 (mE (mR d.idx d.bals))):=bO.out.below af;have aT:Hid (shdR.O w3 base Fc (.agg #[iV d.idx,.slice a1 n1 c1,.slice a2 n2 c2,.slice (some ⟨bx,ox,none⟩) n3 c3,.slice p4 np q4,.slice a5 X c5]) ⟨d.idx,d.bals,d.votes,d.held,putM d.done ⟨k,o⟩,d.appl⟩):=shdR.keep bP.out af;have bU:Below base w w3:=Below.trans bQ (af.mono oM);have bV:aa W1 w3:=bS ar af;refine kR14 af ?_ H Y Z J z4 z5 m0 m1 L M N R T U;clear H Y Z J z4 z5 m0 m1 L M N R T U;intro H Y Z J z4 z5 m0 m1 L M N R T U;replace z:=ai af oM z;replace rf:=ai af oM rf;replace g1:=cK af g1;have cC:w.heap.size+2<w3.heap.size:=by have:=af.size;omega
 have zk:w2.heap.size<w3.heap.size:=wL w3 _ k0;have aM:w2.heap.size≠b:=oM;clear bO bP bQ af;have ab:aa w3 w3.drew:=hE;refine wp_region_noPanic ?_;refine fB (fun W=>Mod (fun j=>j=b) w3 W∧cI W w2.heap.size 0 3∧cW W w2.heap.size 1 (.map (some b))∧ah W w.heap.size 3 (some ⟨bx,ox,none⟩) n3 c3∧ah W bx (ox+i*2+1) pp ll qq∧cI W w.heap.size 0 d.idx) 11 kF ⟨Mod.of_below ab,cK ab k0,cK ab k1,cK ab J,cK ab g1,cK ab H⟩ (fun hS=>?_);refine tX 0 ?_;refine tX 1 ?_;refine tX 2 ?_;refine tX 3 ?_;refine tX 4 ?_;refine tX 5 ?_;refine tX 6 ?_;refine tX 7 ?_;refine tX 8 ?_;refine uS 9 rfl (fun K hK=>?_);go_simp;refine(bG.out _ (bS bV ab)).mono ?_;rintro e w4 ⟨v4,rfl,o4,bX⟩;obtain⟨al,cl,rfl⟩:=fD o4;have a9:aa w3 w4:=bS ab bX;have bY:Hid (legsR.V w4 (.slice al (onSh d.idx (d.held.getD i default).legs).length cl) (onSh d.idx (d.held.getD i default).legs)):=gX o4;refine hK _ _ (fun _=>⟨Mod.of_below a9,cK a9 k0,cK a9 k1,cK a9 J,cK a9 g1,cK a9 H⟩) ?_;clear hK K hS o4 bX;generalize cD:(onSh d.idx (d.held.getD i default).legs).length=ol at *;clear cD;try simp only[jX]
 refine uS 10 rfl (fun K hK=>?_);go_simp;refine(bH.out _ b _ (aS.out.below a9) bY.out).mono ?_;rintro e w5 ⟨rfl,m5,aU,bZ⟩;have n:Mod (fun j=>j=b) w3 w5:=(Mod.of_below a9).trans bZ;have nz:w.heap.size≠b:=oM;have nm:w.heap.size+1≠b:=oM;have nr:w.heap.size+2≠b:=oM;have nx:bx≠b:=oM;refine hK _ _ (fun _=>⟨n,n.cell k0 aM,n.cell k1 aM,n.cell J nz,n.cell g1 nx,n.cell H nz⟩) ?_;clear hK K;have aV:Hid (Book w5 b m5 (pU (mE (mR d.idx d.bals)) (onSh d.idx (d.held.getD i default).legs))):=aU;have cE:¬Fc b:=fun h=>by have:=(shdR.rng HO.out b h).2;omega
 have c6:Hid (shdR.O w5 base Fc (.agg #[iV d.idx,.slice a1 n1 c1,.slice a2 n2 c2,.slice (some ⟨bx,ox,none⟩) n3 c3,.slice p4 np q4,.slice a5 X c5]) ⟨d.idx,d.bals,d.votes,d.held,putM d.done ⟨k,o⟩,d.appl⟩):=shdR.mod aT.out n (fun r I e=>cE (e▸I));have c7:Below base w w5:=n.below bU oM (fun r e=>by rw[e];omega);replace k0:=n.cell k0 aM;replace k1:=n.cell k1 aM;refine kM6 n nz ?_ H Y Z J z4 z5;clear H Y Z J z4 z5;intro H Y Z J z4 z5;replace m0:=n.cell m0 nm;replace m1:=n.cell m1 nm;refine kM6 n nr ?_ L M N R T U;clear L M N R T U;intro L M N R T U;replace z:∀o,World.frozen? w5 ⟨w.heap.size,o,none⟩=false:=fun o=>(n.frz10 (a:=⟨w.heap.size,o,none⟩) (by dsimp only;omega) nz).trans (z o)
 replace rf:∀o,World.frozen? w5 ⟨w.heap.size+2,o,none⟩=false:=fun o=>(n.frz10 (a:=⟨w.heap.size+2,o,none⟩) (by dsimp only;omega) nr).trans (rf o)
 have d1:w.heap.size+2<w5.heap.size:=Nat.lt_of_lt_of_le cC n.size;have d2:=n.size;clear aU bZ n aS aT bU bY bH bG g1 a9;try simp only[jX]
 refine dP ?_;go_wp2;refine wp_region_noPanic ?_;have ac:aa w5 w5.drew:=hE;refine fB (fun W=>aa w5 W∧cI W w2.heap.size 0 3∧cW W w2.heap.size 1 (.map (some b))∧cI W w.heap.size 0 d.idx) 8 kF ⟨ac,cK ac k0,cK ac k1,cK ac H⟩ (fun hS=>?_);refine tY 0 ?_;refine tY 3 ?_;refine tY 4 ?_;refine uS 1 rfl (fun K hK=>?_);go_simp;refine(bI.out _ b m5 (aV.out.below ac)).mono ?_;rintro e w6 ⟨v6,F6,rfl,o6,c8⟩;have s:aa w5 w6:=bS ac c8;obtain⟨gg,cg,pb,mb,qb,Fb,e6,gc,ob,c9⟩:=fW1 o6 (i:=ix) (by rw[bJ.out];exact bL);rw[bJ.out] at e6;rw[show(rZ (mR d.idx d.bals) (onSh d.idx (d.held.getD i default).legs)).getD ix default=addB d.bals (onSh d.idx (d.held.getD i default).legs) by rw[←bM.out.2];exact cA.out] at ob;subst e6;have ca:Hid (∀r,Fb r→w5.heap.size≤r):=fun r I=>by have:=(balssR.rng o6 r (c9 r I)).1;have:=ac.size;omega
 have cb:Hid (balsR.O w6 base Fb (.slice pb mb qb) (addB d.bals (onSh d.idx (d.held.getD i default).legs))):=balsR.base ob (by have:=ac.size;omega);refine hK _ _ (fun _=>⟨s,cK s k0,cK s k1,cK s H⟩) ?_;clear hK K hS o6 c8 ob c9 bI aV;have cc:d.idx=(ix:Int):=bM.out.1;have aG:=And.intro s (And.intro (cK s k0) (And.intro (cK s k1) (cK s H)));have d3:(ix:Int)<3:=oM;have d4:(0:Int)≤ix:=oM;try simp only[jX]
 refine uS 2 rfl (fun K hK=>?_);go_simp;refine hK _ _ (fun _=>aG) ?_;clear hK K;try simp only[jX]
 refine uS 5 rfl (fun K hK=>?_);rw[cc] at *;go_simp;refine hK _ _ (fun _=>aG) ?_;clear hK K;try simp only[jX]
 refine uS 6 rfl (fun K hK=>?_);go_simp;refine hK _ _ (fun _=>aG) ?_;clear hK K;try simp only[jX]
 refine uS 7 rfl (fun K hK=>?_);go_simp;refine hK _ _ (fun _=>aG) ?_;clear hK K;refine kR14 s ?_ H Y Z J z4 z5 m0 m1 L M N R T U;clear H Y Z J z4 z5 m0 m1 L M N R T U;intro H Y Z J z4 z5 m0 m1 L M N R T U;replace z:=ai s oM z;replace rf:=ai s oM rf;have d5:w.heap.size+2<w6.heap.size:=by have:=s.size;omega
 obtain⟨G1,cF,cG,cd⟩:=fQx (d:=⟨d.idx,d.bals,d.votes,d.held,putM d.done ⟨k,o⟩,d.appl⟩) c6.out;obtain⟨F7,o7,ce⟩:=cd w6 Fb _ _ cb.out (Mod.of_below s) (fun r I=>.inr (ca.out r I));have cf:Hid (shdR.O w6 base F7 (.agg #[iV d.idx,.slice pb mb qb,.slice a2 n2 c2,.slice (some ⟨bx,ox,none⟩) n3 c3,.slice p4 np q4,.slice a5 X c5]) ⟨d.idx,addB d.bals (onSh d.idx (d.held.getD i default).legs),d.votes,d.held,putM d.done ⟨k,o⟩,d.appl⟩):=o7;have aN:Hid (∀r,F7 r→r<w.heap.size∨w.heap.size+3≤r):=fun r I=>(ce r I).elim (fun h=>ak.out r h) (fun h=>oM)
 have ch:Below base w w6:=Below.trans c7 (s.mono oM);clear o7 ce cd cF cG cb ca c6 s c7 HO ak am;try simp only[jX]
 refine uS 8 rfl (fun K hK=>?_);go_simp;refine hK _ _ (fun h=>absurd rfl h) ?_;clear hK K aG;refine dP ?_;obtain⟨W6,a6⟩:∃W,W=w6.setCell ⟨w.heap.size,1,none⟩ (.slice pb mb qb):=⟨_,rfl⟩
 rw[←a6];have D:Mod (fun b=>b=w.heap.size) w6 W6:=by rw[a6];exact Mod.of_set w6 ⟨w.heap.size,1,none⟩ _
 replace H:W6.cell? ⟨w.heap.size,0,none⟩=some (iV d.idx):=by rw[a6];simp[go_sem,H,z]
 replace Y:W6.cell? ⟨w.heap.size,1,none⟩=some (.slice pb mb qb):=by rw[a6];simp[go_sem,Y,z]
 replace Z:W6.cell? ⟨w.heap.size,2,none⟩=some (.slice a2 n2 c2):=by rw[a6];simp[go_sem,Z,z]
 replace J:W6.cell? ⟨w.heap.size,3,none⟩=some (.slice (some ⟨bx,ox,none⟩) n3 c3):=by rw[a6];simp[go_sem,J,z]
 replace z4:W6.cell? ⟨w.heap.size,4,none⟩=some (.slice p4 np q4):=by rw[a6];simp[go_sem,z4,z]
 replace z5:W6.cell? ⟨w.heap.size,5,none⟩=some (.slice a5 X c5):=by rw[a6];simp[go_sem,z5,z]
 replace z:aq W6 w.heap.size:=fun o=>by rw[a6];simp[go_sem,z]
 clear a6;replace m0:=D.cell m0 (show w.heap.size+1≠w.heap.size by omega);replace m1:=D.cell m1 (show w.heap.size+1≠w.heap.size by omega);replace L:=D.cell L (show w.heap.size+2≠w.heap.size by omega);replace M:=D.cell M (show w.heap.size+2≠w.heap.size by omega);replace N:=D.cell N (show w.heap.size+2≠w.heap.size by omega);replace R:=D.cell R (show w.heap.size+2≠w.heap.size by omega);replace T:=D.cell T (show w.heap.size+2≠w.heap.size by omega);replace U:=D.cell U (show w.heap.size+2≠w.heap.size by omega);replace rf:aq W6 (w.heap.size+2):=fun o=>(D.frz10 (a:=⟨w.heap.size+2,o,none⟩) (by dsimp only;omega) (show w.heap.size+2≠w.heap.size by omega)).trans (rf o)
 have ci:w.heap.size+2<W6.heap.size:=Nat.lt_of_lt_of_le oM D.size;have aH:Hid (shdR.O W6 base F7 (.agg #[iV d.idx,.slice pb mb qb,.slice a2 n2 c2,.slice (some ⟨bx,ox,none⟩) n3 c3,.slice p4 np q4,.slice a5 X c5]) ⟨d.idx,addB d.bals (onSh d.idx (d.held.getD i default).legs),d.votes,d.held,putM d.done ⟨k,o⟩,d.appl⟩):=shdR.mod cf.out D (fun r I e=>by have:=aN.out r I;omega);have aW:Below base w W6:=D.below ch oM (fun r e=>by rw[e];exact hbase);clear D cf ch;obtain⟨G5,b9,cH,cj⟩:=fEl (d:=⟨d.idx,addB d.bals (onSh d.idx (d.held.getD i default).legs),d.votes,d.held,putM d.done ⟨k,o⟩,d.appl⟩) aH.out;have aI:Hid (G5=fun r=>(Value.slice a5 X c5).ownBlock=some r):=b9.2;have ck:Hid (W6.ownsRow base 2 1 (.slice a5 X c5) X (kT d.appl)):=by have h:=b9.1;rw[bm.out] at h;exact h
 have aX:Hid (∀(w':World) (ad:Nat→Prop) (v:Value) (ys:List Int),intsR.O w' base ad v ys→Mod G5 W6 w'→(∀b,ad b→G5 b∨W6.heap.size≤b)→∃F',shdR.O w' base F' (.agg #[iV d.idx,.slice pb mb qb,.slice a2 n2 c2,.slice (some ⟨bx,ox,none⟩) n3 c3,.slice p4 np q4,v]) ⟨d.idx,addB d.bals (onSh d.idx (d.held.getD i default).legs),d.votes,d.held,putM d.done ⟨k,o⟩,ys⟩∧∀b,F' b→F7 b∨W6.heap.size≤b):=cj;clear b9 cH cj;obtain⟨i0,cJ,cM,cO,cP⟩:=info_parts fC2;go_wp2_with (at_builtin;refine wpList_append_own_at _ rfl _ _ 39 rfl base 2 i0 _ 1 8 Tryz.underlying39 cJ cM cO cP rfl (by decide) _ X (kT d.appl) rfl (ck.out.alloc _) ⟨W6.heap.size,0,none⟩ 1 1 [iV k] rfl rfl ?c1 ?c2 ?c3 ?c4 ?c5 ?_)
 case c2=>rfl
 case c3=>unfold maxLen;have:=bn.out;omega
 case c4=>have:=bn.out;omega
 case c5=>first|omega|(simp;omega)
 intro v7 w7 ba cm _ cn;obtain⟨pa,qa,rfl⟩:=fD ba;have ag:Mod G5 W6 w7:=by
  rw[aI.out];exact(Mod.of_below hE).trans (Mod.of_grown cm)
 obtain⟨Fa,oa,co⟩:=aX.out w7 (fun r=>(Value.slice pa (X+1) qa).ownBlock=some r) (.slice pa (X+1) qa) (d.appl++[k]) ⟨by
  rw[List.length_append,bm.out,fAm];exact ba,rfl⟩ ag (fun r I=>by
  rw[aI.out];rcases cn with h|h
  ·exact .inl (h▸I)
  rw[h] at I;simp only[Option.some.injEq] at I;exact .inr (by first|omega|(simp at I;omega)))
 have aO:∀r,w.heap.size≤r→r<w.heap.size+3→¬G5 r:=fun r h1 h2 h=>by
  rw[aI.out] at h;obtain⟨G,hG,bb,_⟩:=fEl (d:=⟨d.idx,addB d.bals (onSh d.idx (d.held.getD i default).legs),d.votes,d.held,putM d.done ⟨k,o⟩,d.appl⟩) aH.out;have bc:=hG.2;have h3:G r:=by rw[bc];exact h
  have:=aN.out r (bb r h3);omega
 have bd:=aO w.heap.size (Nat.le_refl _) oM;have be:=aO (w.heap.size+1) oM oM;have bf:=aO (w.heap.size+2) oM oM;have aY:Hid (shdR.O w7 base Fa (.agg #[iV d.idx,.slice pb mb qb,.slice a2 n2 c2,.slice (some ⟨bx,ox,none⟩) n3 c3,.slice p4 np q4,.slice pa (X+1) qa]) ⟨d.idx,addB d.bals (onSh d.idx (d.held.getD i default).legs),d.votes,d.held,putM d.done ⟨k,o⟩,d.appl++[k]⟩):=oa;have bg:Hid (∀r,Fa r→r<w.heap.size∨w.heap.size+3≤r):=fun r I=>(co r I).elim (fun h=>aN.out r h) (fun h=>oM)
 have cp:Below base w w7:=ag.below aW oM (fun r h=>by
  obtain⟨G,hG,bb,_⟩:=fEl (d:=⟨d.idx,addB d.bals (onSh d.idx (d.held.getD i default).legs),d.votes,d.held,putM d.done ⟨k,o⟩,d.appl⟩) aH.out;rw[aI.out] at h;have bc:=hG.2;have h3:G r:=by rw[bc];exact h
  exact(shdR.rng aH.out r (bb r h3)).1)
 refine kM6 ag bd ?_ H Y Z J z4 z5;clear H Y Z J z4 z5;intro H Y Z J z4 z5;replace m0:=ag.cell m0 be;replace m1:=ag.cell m1 be;refine kM6 ag bf ?_ L M N R T U;clear L M N R T U;intro L M N R T U;replace z:∀o,World.frozen? w7 ⟨w.heap.size,o,none⟩=false:=fun o=>(ag.frz10 (a:=⟨w.heap.size,o,none⟩) (by dsimp only;omega) bd).trans (z o)
 replace rf:∀o,World.frozen? w7 ⟨w.heap.size+2,o,none⟩=false:=fun o=>(ag.frz10 (a:=⟨w.heap.size+2,o,none⟩) (by dsimp only;omega) bf).trans (rf o)
 have d6:w.heap.size+2<w7.heap.size:=Nat.lt_of_lt_of_le ci ag.size;clear oa co aX ba cm cn ag aO bd be bf aI ck aH aN aW k0 k1;go_wp2_with fail;obtain⟨W7,a7⟩:∃W,W=w7.setCell ⟨w.heap.size,5,none⟩ (.slice pa (X+1) qa):=⟨_,rfl⟩
 rw[←a7];have E:Mod (fun b=>b=w.heap.size) w7 W7:=by rw[a7];exact Mod.of_set w7 ⟨w.heap.size,5,none⟩ _
 replace H:W7.cell? ⟨w.heap.size,0,none⟩=some (iV d.idx):=by rw[a7];simp[go_sem,H,z]
 replace Y:W7.cell? ⟨w.heap.size,1,none⟩=some (.slice pb mb qb):=by rw[a7];simp[go_sem,Y,z]
 replace Z:W7.cell? ⟨w.heap.size,2,none⟩=some (.slice a2 n2 c2):=by rw[a7];simp[go_sem,Z,z]
 replace J:W7.cell? ⟨w.heap.size,3,none⟩=some (.slice (some ⟨bx,ox,none⟩) n3 c3):=by rw[a7];simp[go_sem,J,z]
 replace z4:W7.cell? ⟨w.heap.size,4,none⟩=some (.slice p4 np q4):=by rw[a7];simp[go_sem,z4,z]
 replace z5:W7.cell? ⟨w.heap.size,5,none⟩=some (.slice pa (X+1) qa):=by rw[a7];simp[go_sem,z5,z]
 replace z:aq W7 w.heap.size:=fun o=>by rw[a7];simp[go_sem,z]
 clear a7;replace m0:=E.cell m0 (show w.heap.size+1≠w.heap.size by omega);replace m1:=E.cell m1 (show w.heap.size+1≠w.heap.size by omega);replace L:=E.cell L (show w.heap.size+2≠w.heap.size by omega);replace M:=E.cell M (show w.heap.size+2≠w.heap.size by omega);replace N:=E.cell N (show w.heap.size+2≠w.heap.size by omega);replace R:=E.cell R (show w.heap.size+2≠w.heap.size by omega);replace T:=E.cell T (show w.heap.size+2≠w.heap.size by omega);replace U:=E.cell U (show w.heap.size+2≠w.heap.size by omega);replace rf:aq W7 (w.heap.size+2):=fun o=>(E.frz10 (a:=⟨w.heap.size+2,o,none⟩) (by dsimp only;omega) (show w.heap.size+2≠w.heap.size by omega)).trans (rf o)
 have cT:w.heap.size+2<W7.heap.size:=Nat.lt_of_lt_of_le oM E.size;have HO:Hid (shdR.O W7 base Fa (.agg #[iV d.idx,.slice pb mb qb,.slice a2 n2 c2,.slice (some ⟨bx,ox,none⟩) n3 c3,.slice p4 np q4,.slice pa (X+1) qa]) ⟨d.idx,addB d.bals (onSh d.idx (d.held.getD i default).legs),d.votes,d.held,putM d.done ⟨k,o⟩,d.appl++[k]⟩):=shdR.mod aY.out E (fun r I e=>by have:=bg.out r I;omega);have am:Below base w W7:=E.below cp oM (fun r e=>by rw[e];exact hbase);have ak:Hid (∀r,Fa r→r<w.heap.size∨w.heap.size+3≤r):=bg.out;clear E aY cp bg;obtain⟨G3,o3,b3,ay⟩:=xI (d:=⟨d.idx,addB d.bals (onSh d.idx (d.held.getD i default).legs),d.votes,d.held,putM d.done ⟨k,o⟩,d.appl++[k]⟩) HO.out;have ao:Hid (∀(w':World) (ad:Nat→Prop) (v:Value) (ys:List Cont),contsR.O w' base ad v ys→Mod G3 W7 w'→(∀b,ad b→G3 b∨W7.heap.size≤b)→∃F',shdR.O w' base F' (.agg #[iV d.idx,.slice pb mb qb,.slice a2 n2 c2,v,.slice p4 np q4,.slice pa (X+1) qa]) ⟨d.idx,addB d.bals (onSh d.idx (d.held.getD i default).legs),d.votes,ys,putM d.done ⟨k,o⟩,d.appl++[k]⟩∧∀b,F' b→Fa b∨W7.heap.size≤b):=ay;have az:Hid (contsR.O W7 base G3 (.slice (some ⟨bx,ox,none⟩) n3 c3) d.held):=o3;clear ay o3 b3;have aA:Hid (cL 205 #[.slice (some ⟨bx,ox,none⟩) n3 c3,.func (.func 206) #[] #[an (w.heap.size+1)]] W7 fun e w'=>∃v F',e =.returned v∧contsR.O w' base F' v (kU k d.held)∧aa W7 w'∧∀b,F' b→G3 b∨W7.heap.size≤b):=fQe _ d.held k (w.heap.size+1) base G3 W7 az.out m0 oM bh.out
 refine aA.out.mono ?_;rintro e w8 ⟨v8,F8,rfl,o8,a8,aB⟩;obtain⟨F9,o9,aC⟩:=ao.out w8 F8 _ _ o8 (Mod.of_below a8) aB;obtain⟨p8,q8,e8⟩:=fM (contsR.ofO o8);subst e8;have b4:Hid (shdR.O w8 base F9 (.agg #[iV d.idx,.slice pb mb qb,.slice a2 n2 c2,.slice p8 (kU k d.held).length q8,.slice p4 np q4,.slice pa (X+1) qa]) ⟨d.idx,addB d.bals (onSh d.idx (d.held.getD i default).legs),d.votes,kU k d.held,putM d.done ⟨k,o⟩,d.appl++[k]⟩):=o9;have aD:Hid (∀b,F9 b→b<w.heap.size∨w.heap.size+3≤b):=fun b hb=>(aC b hb).elim (fun h=>ak.out b h) (fun h=>oM)
 have b5:Below base w w8:=Below.trans am (a8.mono oM);generalize (kU k d.held).length=m8 at *;refine kR14 a8 ?_ H Y Z J z4 z5 m0 m1 L M N R T U;clear H Y Z J z4 z5 m0 m1 L M N R T U;intro H Y Z J z4 z5 m0 m1 L M N R T U;replace z:=ai a8 oM z;replace rf:=ai a8 oM rf;have cv:w.heap.size+2<w8.heap.size:=by have:=a8.size;omega
 clear o8 a8 aB o9 aC ao az aA HO ak am;go_wp2;refine bodyPost_ret (v:=.agg #[iV d.idx,.slice pb mb qb,.slice a2 n2 c2,.slice p8 m8 q8,.slice p4 np q4,.slice pa (X+1) qa]) (by simp[results,Tryz.results181,go_sem,L,M,N,R,T,U,rf]) rfl ?_;have aK:base≤w.heap.size:=hbase;have C:base≤w.heap.size+2:=oM;rw[HC.out];exact⟨_,F9,rfl,fYb shdR (fSz shdR b4.out (fun h=>by have:=aD.out _ h;omega) _) (fun h=>by have:=aD.out _ h;omega) _ _ _ _ _ _,(((((((b5).setCell (p:=⟨w.heap.size,3,none⟩) aK _).setCell (p:=⟨w.heap.size+2,0,none⟩) C _).setCell (p:=⟨w.heap.size+2,1,none⟩) C _).setCell (p:=⟨w.heap.size+2,2,none⟩) C _).setCell (p:=⟨w.heap.size+2,3,none⟩) C _).setCell (p:=⟨w.heap.size+2,4,none⟩) C _).setCell (p:=⟨w.heap.size+2,5,none⟩) C _⟩
theorem fEx {d:Shd} {k o:Int} (h:¬shdF d=0):kZ d k o=errH (shdF d):=by unfold kZ;rw[if_neg h]
theorem fBp {d:Shd} {k o:Int} (h:shdF d=0) (h1:(inB k 1 1000000000&&inB o 1 2)=false):kZ d k o=errH 3:=by unfold kZ;rw[if_pos h,if_neg (by rw[h1];exact Bool.false_ne_true)]
theorem fHv {d:Shd} {k o:Int} (h:shdF d=0) (h1:(inB k 1 1000000000&&inB o 1 2)=true):kZ d k o=qQ d k o:=by unfold kZ;rw[if_pos h,if_pos h1]
theorem fI4 {d:Shd} {k o:Int} (h:¬fK k d.done=0) (h1:fK k d.done=o):qQ d k o=⟨0,0,d⟩:=by unfold qQ;rw[if_neg h,if_pos h1]
theorem fGk {d:Shd} {k o:Int} (h:¬fK k d.done=0) (h1:¬fK k d.done=o):qQ d k o=errH 7:=by unfold qQ;rw[if_neg h,if_neg h1]
theorem fI2 {d:Shd} {k o:Int} (h:fK k d.done=0) (h1:o=1∧fP d.held k=false):qQ d k o=errH 1:=by unfold qQ;rw[if_pos h,if_pos h1]
theorem fI3 {d:Shd} {k o:Int} (h:fK k d.done=0) (h1:¬(o=1∧fP d.held k=false)) (h2:100≤d.done.length):qQ d k o=errH 2:=by unfold qQ;rw[if_pos h,if_neg h1,if_pos h2]
theorem fQ1 {d:Shd} {k o:Int} (h:fK k d.done=0) (h1:¬(o=1∧fP d.held k=false)) (h2:¬100≤d.done.length):qQ d k o=⟨0,0,decS d k o⟩:=by unfold qQ;rw[if_pos h,if_neg h1,if_neg h2]
theorem fLr (x:Value) (d:Shd) (k o:Int) (w:World) (hx:shdR.V w x d) :
  cL 149 #[x,iV k,iV o] w (rJ w (kZ d k o)):=by
 have aP:Hid (bW w fun W=>RI 179 #[x] W (iV (shdF d))):=fun W hW=>fDn x d W (shdR.below hx hW)
 have Y:Hid (bW w fun W=>ShdOk d→RI 180 #[x,iV k] W (.bool (fP d.held k))):=fun W hW r=>fH4 x d k W (shdR.below hx hW) (by have:=r.ls.nh;omega) r.held.rise
 have H:Hid (bW w fun W=>ShdOk d→cL 68 #[x] W fun e w'=>∃v F,e =.returned v∧shdR.O w' W.heap.size F v d∧aa W w'):=fun W hW r=>vN x d W (shdR.below hx hW) ⟨by have:=fAg (pE r.base).2;omega,by have:=r.ls.nv;omega,by have:=r.ls.nh;omega,by have:=r.ls.nd;omega,by have:=r.ls.na;omega⟩ (fun q hq=>by have:=r.held.len hq;omega)
 have L:Hid (∀W base F v,shdR.O W base F v d→base≤W.heap.size→ShdOk d→(o=1∨o=2)→(o=1→fP d.held k=true)→cL 181 #[v,.agg #[iV k,iV o]] W (DecE (decS d k o) base W)):=fun W base F v h1 h2 h3 h4 h5=>fRr v d k o base F W h1 h2 h3 h4 h5
 obtain⟨u1,u2,u3,u4,u5,rfl,h1,h2,h3,h4,h5⟩:=hx;have aB:Hid (bW w fun W=>ShdOk d→RI 174 #[u4,iV k] W (iV (fK k d.done))):=fun W hW r=>zG u4 d.done k W (mrksR.below h4 hW) (by have:=r.ls.nd;omega) r.ls.od.rise
 obtain⟨a1,c1,rfl⟩:=fQ h1;obtain⟨a2,c2,rfl⟩:=fH h2;obtain⟨a3,c3,rfl⟩:=fM h3;obtain⟨a4,c4,rfl⟩:=fH h4;obtain⟨a5,c5,rfl⟩:=gL h5;clear h1 h2 h3 h4 h5;have aE:Hid (¬shdF d=0→kZ d k o=errH (shdF d)):=fun h=>fEx h
 have aF:Hid (shdF d=0→(inB k 1 1000000000&&inB o 1 2)=false→kZ d k o=errH 3):=fun h h1=>fBp h h1
 have aG:Hid (shdF d=0→(inB k 1 1000000000&&inB o 1 2)=true→kZ d k o=qQ d k o):=fun h h1=>fHv h h1
 have ab:Hid (¬fK k d.done=0→fK k d.done=o→qQ d k o=⟨0,0,d⟩):=fun h h1=>fI4 h h1
 have ac:Hid (¬fK k d.done=0→¬fK k d.done=o→qQ d k o=errH 7):=fun h h1=>fGk h h1
 have ad:Hid (fK k d.done=0→o=1∧fP d.held k=false→qQ d k o=errH 1):=fun h h1=>fI2 h h1
 have ae:Hid (fK k d.done=0→¬(o=1∧fP d.held k=false)→100≤d.done.length→qQ d k o=errH 2):=fun h h1 h2=>fI3 h h1 h2
 have af:Hid (fK k d.done=0→¬(o=1∧fP d.held k=false)→¬100≤d.done.length→qQ d k o=⟨0,0,decS d k o⟩):=fun h h1 h2=>fQ1 h h1 h2
 have aH:Hid (shdF d=0→ShdOk d∧d.done.length≤100):=fun h=>⟨xH h,(xH h).ls.nd⟩
 generalize aQ:d.bals.length=n1 at *;generalize aR:d.votes.length=n2 at *;generalize aS:d.held.length=n3 at *;generalize aI:d.done.length=n4 at *;generalize aT:d.appl.length=n5 at *;have b2:Hid (d.bals.length=n1∧d.votes.length=n2∧d.held.length=n3∧d.done.length=n4∧d.appl.length=n5):=⟨aQ,aR,aS,aI,aT⟩;clear aQ aR aS aI aT;generalize kZ d k o=Z at *;generalize shdF d=sf at *;generalize fK k d.done=fd at *;go_enter Tryz.func149,Tryz.ntmps149;go_wp2_with fail;refine(aP.out _ hE).mono ?_;rintro e w1 ⟨rfl,l⟩;have aJ:=bT w l;have aU:=l.size;simp at aU;have y0:cI w1 w.heap.size 0 d.idx:=cK l sG;have y1:ah w1 w.heap.size 1 a1 n1 c1:=cK l sG;have y2:ah w1 w.heap.size 2 a2 n2 c2:=cK l sG;have y3:ah w1 w.heap.size 3 a3 n3 c3:=cK l sG;have y4:ah w1 w.heap.size 4 a4 n4 c4:=cK l sG;have y5:ah w1 w.heap.size 5 a5 n5 c5:=cK l sG;have s:cI w1 (w.heap.size+1) 0 0:=cK l sG;have y:cI w1 (w.heap.size+1) 1 0:=cK l sG;have z:cI w1 (w.heap.size+1) 2 0:=cK l sG;have A:cN w1 (w.heap.size+1) 3:=cK l sG;have B:cN w1 (w.heap.size+1) 4:=cK l sG;have C:cN w1 (w.heap.size+1) 5:=cK l sG;have D:cN w1 (w.heap.size+1) 6:=cK l sG
 have E:cN w1 (w.heap.size+1) 7:=cK l sG;have K:aq w1 (w.heap.size+1):=ap l;clear l aP;by_cases a0:sf=0;rotate_left
 ·
  have HC:Hid _:=aE.out a0;have aV:(sf !=0)=true:=by simp[a0]
  clear aE aF aG ab ac ad ae af Y H L aB aH;go_wp2;refine bodyPost_ret (v:=.agg #[iV sf,iV 0,iV 0,aj,aj,aj,aj,aj]) (by simp[results,Tryz.results149,go_sem,s,y,z,A,B,C,D,E,K]) rfl (mO HC.out ?_);exact qS
 have aV:(sf !=0)=false:=by simp[a0]
 have al:Hid ((inB k 1 1000000000&&inB o 1 2)=false→Z=errH 3):=fun h=>aF.out a0 h
 have am:Hid ((inB k 1 1000000000&&inB o 1 2)=true→Z=qQ d k o):=fun h=>aG.out a0 h
 obtain⟨r,aI⟩:=aH.out a0;have a6:Hid (ShdOk d):=r;clear aE aF aG aH a0 r;have aK:Hid (inB o 1 2=true→o=1∨o=2):=fun h=>by have:=inBi.1 h;omega
 by_cases hr:(inB k 1 1000000000&&inB o 1 2)=true
 rotate_left
 ·
  have aL:(inB k 1 1000000000&&inB o 1 2)=false:=by simpa using hr
  have HC:Hid (Z=errH 3):=al.out aL;clear al am ab ac ad ae af Y H L aB aK hr;cases hk:inB k 1 1000000000
  ·
   go_wp2_with (first|(go_at_call 146;refine(kX _ _).mono ?_;rintro e w' ⟨rfl,rfl⟩;rw[hk]))
   refine bodyPost_ret (v:=.agg #[iV 3,iV 0,iV 0,aj,aj,aj,aj,aj]) (by simp[results,Tryz.results149,go_sem,s,y,z,A,B,C,D,E,K]) rfl (mO HC.out ?_);exact qS
  have aC:inB o 1 2=false:=by rw[hk] at aL;simpa using aL
  go_wp2_with (first|(go_at_call 146;refine(kX _ _).mono ?_;rintro e w' ⟨rfl,rfl⟩;rw[hk])|(go_at_call 147;refine(kY _ _).mono ?_;rintro e w' ⟨rfl,rfl⟩;rw[aC]))
  refine bodyPost_ret (v:=.agg #[iV 3,iV 0,iV 0,aj,aj,aj,aj,aj]) (by simp[results,Tryz.results149,go_sem,s,y,z,A,B,C,D,E,K]) rfl (mO HC.out ?_);exact qS
 have hk:inB k 1 1000000000=true:=by simp only[Bool.and_eq_true] at hr;exact hr.1
 have aC:inB o 1 2=true:=by simp only[Bool.and_eq_true] at hr;exact hr.2
 have ag:Hid (Z=qQ d k o):=am.out hr;have ao:Hid _:=aK.out aC;clear al am aK hr;go_wp2_with (first|(go_at_call 146;refine(kX _ _).mono ?_;rintro e w' ⟨rfl,rfl⟩;rw[hk])|(go_at_call 147;refine(kY _ _).mono ?_;rintro e w' ⟨rfl,rfl⟩;rw[aC])|fail);refine(aB.out _ aJ a6.out).mono ?_;rintro e w2 ⟨rfl,ar⟩;have a7:aa w w2:=bS aJ ar;refine kR14 ar ?_ y0 y1 y2 y3 y4 y5 s y z A B C D E;clear y0 y1 y2 y3 y4 y5 s y z A B C D E;intro y0 y1 y2 y3 y4 y5 s y z A B C D E;replace K:=ai ar oM K;have b0:w.heap.size+1<w2.heap.size:=by have:=ar.size;omega
 clear ar aB aU aJ;have b3:¬o=0:=by have:=ao.out;omega
 by_cases au:fd=o
 ·
  have aW:¬fd=0:=oM;have HC:Hid (Z=⟨0,0,d⟩):=ag.out.trans (ab.out aW au);have aX:(fd==o)=true:=by simp[au]
  clear ab ac ad ae af Y L;go_wp2_with fail;refine(H.out _ a7 a6.out).mono ?_;rintro e w3 ⟨v3,F3,rfl,o3,n⟩;obtain⟨s1,s2,s3,s4,s5,f1,f2,f3,f4,f5,rfl⟩:=mW o3;obtain⟨m1,I⟩:∃m,m=d.bals.length:=⟨_,rfl⟩
  obtain⟨m2,J⟩:∃m,m=d.votes.length:=⟨_,rfl⟩
  obtain⟨m3,T⟩:∃m,m=d.held.length:=⟨_,rfl⟩
  obtain⟨m4,U⟩:∃m,m=d.done.length:=⟨_,rfl⟩
  obtain⟨m5,X⟩:∃m,m=d.appl.length:=⟨_,rfl⟩
  rw[←I,←J,←T,←U,←X] at o3 ⊢;have ak:Hid (shdR.O w3 w2.heap.size F3 (.agg #[iV d.idx,.slice s1 m1 f1,.slice s2 m2 f2,.slice s3 m3 f3,.slice s4 m4 f4,.slice s5 m5 f5]) d):=o3;clear o3 I J T U X;have av:aa w w3:=bS a7 n;refine kR8 n ?_ s y z A B C D E;clear s y z A B C D E;intro s y z A B C D E;replace K:=ai n oM K;clear n H;go_wp2;refine bodyPost_ret (v:=.agg #[iV 0,iV 0,iV d.idx,.slice s1 m1 f1,.slice s2 m2 f2,.slice s3 m3 f3,.slice s4 m4 f4,.slice s5 m5 f5]) (by simp[results,Tryz.results149,go_sem,s,y,z,A,B,C,D,E,K]) rfl ?_;rw[HC.out];have g:w.heap.size≤w.heap.size+1:=oM;exact⟨_,F3,rfl,shdRR.base (vZ shdRR (vX (d:=d) 0 0 ak.out) (fun h=>by have:=(shdR.rng ak.out _ h).1;omega) _ _ _ _ _ _ _ _) oM,bset (p:=⟨w.heap.size+1,7,none⟩) (bset (p:=⟨w.heap.size+1,6,none⟩) (bset (p:=⟨w.heap.size+1,5,none⟩) (bset (p:=⟨w.heap.size+1,4,none⟩) (bset (p:=⟨w.heap.size+1,3,none⟩) (bset (p:=⟨w.heap.size+1,2,none⟩) (bset (p:=⟨w.heap.size+1,1,none⟩) (bset (p:=⟨w.heap.size+1,0,none⟩) (av) g _) g _) g _) g _) g _) g _) g _) g _⟩
 have aX:(fd==o)=false:=by simpa using au
 by_cases a8:fd=0
 rotate_left
 ·
  have HC:Hid (Z=errH 7):=ag.out.trans (ac.out a8 au);have aY:(fd !=0)=true:=by simp[a8]
  clear ab ac ad ae af Y L H;go_wp2;refine bodyPost_ret (v:=.agg #[iV 7,iV 0,iV 0,aj,aj,aj,aj,aj]) (by simp[results,Tryz.results149,go_sem,s,y,z,A,B,C,D,E,K]) rfl (mO HC.out ?_);exact qS
 have aY:(fd !=0)=false:=by simp[a8]
 have R:Hid (o=1∧fP d.held k=false→Z=errH 1):=fun h=>ag.out.trans (ad.out a8 h)
 have M:Hid (¬(o=1∧fP d.held k=false)→100≤n4→Z=errH 2):=fun h h1=>ag.out.trans (ae.out a8 h h1)
 have N:Hid (¬(o=1∧fP d.held k=false)→¬100≤n4→Z=⟨0,0,decS d k o⟩):=fun h h1=>ag.out.trans (af.out a8 h h1)
 have aw:Hid (¬(o=1∧fP d.held k=false)→o=1→fP d.held k=true):=fun h h1=>by
  cases e:fP d.held k with
  | true=>rfl
  | false=>exact absurd ⟨h1,e⟩ h
 clear ab ac ad ae af ag a8 au;by_cases ax:o=1;rotate_left
 ·
  have aD:(o==1)=false:=by simpa using ax
  have ay:¬(o=1∧fP d.held k=false):=fun h=>ax h.1
  clear Y;have a9:Hid (¬(o=1∧fP d.held k=false)):=ay;clear ay;by_cases hm:100≤n4
  ·
   have HC:Hid (Z=errH 2):=M.out a9.out hm;have I:((n4:Int)==100)=true:=by simp;omega
   have J:(n4:Int)=100:=oM;clear R M N aw L H;go_wp2;refine bodyPost_ret (v:=.agg #[iV 2,iV 0,iV 0,aj,aj,aj,aj,aj]) (by simp[results,Tryz.results149,go_sem,s,y,z,A,B,C,D,E,K]) rfl (mO HC.out ?_);exact qS
  have HC:Hid (Z=⟨0,0,decS d k o⟩):=N.out a9.out hm;have I:((n4:Int)==100)=false:=by simp;omega
  have J:¬(n4:Int)=100:=oM;clear R M N hm;go_wp2_with fail;refine(H.out _ a7 a6.out).mono ?_;rintro e w3 ⟨v3,F3,rfl,o3,n⟩;obtain⟨s1,s2,s3,s4,s5,f1,f2,f3,f4,f5,rfl⟩:=mW o3;obtain⟨m1,I⟩:∃m,m=d.bals.length:=⟨_,rfl⟩
  obtain⟨m2,J⟩:∃m,m=d.votes.length:=⟨_,rfl⟩
  obtain⟨m3,T⟩:∃m,m=d.held.length:=⟨_,rfl⟩
  obtain⟨m4,U⟩:∃m,m=d.done.length:=⟨_,rfl⟩
  obtain⟨m5,X⟩:∃m,m=d.appl.length:=⟨_,rfl⟩
  rw[←I,←J,←T,←U,←X] at o3 ⊢;have ak:Hid (shdR.O w3 w2.heap.size F3 (.agg #[iV d.idx,.slice s1 m1 f1,.slice s2 m2 f2,.slice s3 m3 f3,.slice s4 m4 f4,.slice s5 m5 f5]) d):=o3;clear o3 I J T U X;have av:aa w w3:=bS a7 n;refine kR8 n ?_ s y z A B C D E;clear s y z A B C D E;intro s y z A B C D E;replace K:=ai n oM K;have aM:=n.size;clear n H;go_wp2_with fail;refine(L.out _ _ F3 _ ak.out aM a6.out ao.out (aw.out a9.out)).mono ?_;rintro e w4 ⟨v4,F4,rfl,o4,j⟩;generalize decS d k o=G at *;obtain⟨t1,t2,t3,t4,t5,g1,g2,g3,g4,g5,rfl⟩:=mW o4;have az:Hid (shdR.O w4 w2.heap.size F4 (.agg #[iV G.idx,.slice t1 G.bals.length g1,.slice t2 G.votes.length g2,.slice t3 G.held.length g3,.slice t4 G.done.length g4,.slice t5 G.appl.length g5]) G):=o4;have aN:aa w w4:=Below.trans av (j.mono oM);replace s:=uN j (show w.heap.size+1<w2.heap.size by omega) s;replace y:=uN j (show w.heap.size+1<w2.heap.size by omega) y;replace z:=uN j (show w.heap.size+1<w2.heap.size by omega) z;replace A:=uN j (show w.heap.size+1<w2.heap.size by omega) A;replace B:=uN j (show w.heap.size+1<w2.heap.size by omega) B;replace C:=uN j (show w.heap.size+1<w2.heap.size by omega) C;replace D:=uN j (show w.heap.size+1<w2.heap.size by omega) D;replace E:=uN j (show w.heap.size+1<w2.heap.size by omega) E;replace K:aq w4 (w.heap.size+1):=fun o=>by rw[j.frozen (p:=⟨w.heap.size+1,o,none⟩) (by dsimp only;omega)];exact K o
  clear o4 j L;generalize G.bals.length=l1 at *;generalize G.votes.length=l2 at *;generalize G.held.length=l3 at *;generalize G.done.length=l4 at *;generalize G.appl.length=l5 at *;go_wp2;refine bodyPost_ret (v:=.agg #[iV 0,iV 0,iV G.idx,.slice t1 l1 g1,.slice t2 l2 g2,.slice t3 l3 g3,.slice t4 l4 g4,.slice t5 l5 g5]) (by simp[results,Tryz.results149,go_sem,s,y,z,A,B,C,D,E,K]) rfl ?_;rw[HC.out];have g:w.heap.size≤w.heap.size+1:=oM;exact⟨_,F4,rfl,shdRR.base (vZ shdRR (vX (d:=G) 0 0 az.out) (fun h=>by have:=(shdR.rng az.out _ h).1;omega) _ _ _ _ _ _ _ _) oM,bset (p:=⟨w.heap.size+1,7,none⟩) (bset (p:=⟨w.heap.size+1,6,none⟩) (bset (p:=⟨w.heap.size+1,5,none⟩) (bset (p:=⟨w.heap.size+1,4,none⟩) (bset (p:=⟨w.heap.size+1,3,none⟩) (bset (p:=⟨w.heap.size+1,2,none⟩) (bset (p:=⟨w.heap.size+1,1,none⟩) (bset (p:=⟨w.heap.size+1,0,none⟩) (aN) g _) g _) g _) g _) g _) g _) g _) g _⟩
 have aD:(o==1)=true:=by simp[ax]
 have b1:Hid (o=1):=ax;clear ax;go_wp2_with fail;refine(Y.out _ a7 a6.out).mono ?_;rintro e wk ⟨rfl,aA⟩;have aZ:aa w wk:=bS a7 aA;refine kR14 aA ?_ y0 y1 y2 y3 y4 y5 s y z A B C D E;clear y0 y1 y2 y3 y4 y5 s y z A B C D E;intro y0 y1 y2 y3 y4 y5 s y z A B C D E;replace K:=ai aA oM K;have b4:w.heap.size+1<wk.heap.size:=by have:=aA.size;omega
 clear aA a7 b0 Y;cases aO:fP d.held k
 ·have HC:Hid (Z=errH 1):=R.out ⟨b1.out,aO⟩;clear R M N aw L H;go_wp2;refine bodyPost_ret (v:=.agg #[iV 1,iV 0,iV 0,aj,aj,aj,aj,aj]) (by simp[results,Tryz.results149,go_sem,s,y,z,A,B,C,D,E,K]) rfl (mO HC.out ?_);exact qS
 have ay:¬(o=1∧fP d.held k=false):=fun h=>by rw[aO] at h;cases h.2
 clear aD aO;have a9:Hid (¬(o=1∧fP d.held k=false)):=ay;clear ay;by_cases hm:100≤n4
 ·
  have HC:Hid (Z=errH 2):=M.out a9.out hm;have I:((n4:Int)==100)=true:=by simp;omega
  have J:(n4:Int)=100:=oM;clear R M N aw L H;go_wp2;refine bodyPost_ret (v:=.agg #[iV 2,iV 0,iV 0,aj,aj,aj,aj,aj]) (by simp[results,Tryz.results149,go_sem,s,y,z,A,B,C,D,E,K]) rfl (mO HC.out ?_);exact qS
 have HC:Hid (Z=⟨0,0,decS d k o⟩):=N.out a9.out hm;have I:((n4:Int)==100)=false:=by simp;omega
 have J:¬(n4:Int)=100:=oM;clear R M N hm;go_wp2_with fail;refine(H.out _ aZ a6.out).mono ?_;rintro e w3 ⟨v3,F3,rfl,o3,n⟩;obtain⟨s1,s2,s3,s4,s5,f1,f2,f3,f4,f5,rfl⟩:=mW o3;obtain⟨m1,I⟩:∃m,m=d.bals.length:=⟨_,rfl⟩
 obtain⟨m2,J⟩:∃m,m=d.votes.length:=⟨_,rfl⟩
 obtain⟨m3,T⟩:∃m,m=d.held.length:=⟨_,rfl⟩
 obtain⟨m4,U⟩:∃m,m=d.done.length:=⟨_,rfl⟩
 obtain⟨m5,X⟩:∃m,m=d.appl.length:=⟨_,rfl⟩
 rw[←I,←J,←T,←U,←X] at o3 ⊢;have ak:Hid (shdR.O w3 wk.heap.size F3 (.agg #[iV d.idx,.slice s1 m1 f1,.slice s2 m2 f2,.slice s3 m3 f3,.slice s4 m4 f4,.slice s5 m5 f5]) d):=o3;clear o3 I J T U X;have av:aa w w3:=bS aZ n;refine kR8 n ?_ s y z A B C D E;clear s y z A B C D E;intro s y z A B C D E;replace K:=ai n oM K;have aM:=n.size;clear n H;go_wp2_with fail;refine(L.out _ _ F3 _ ak.out aM a6.out ao.out (aw.out a9.out)).mono ?_;rintro e w4 ⟨v4,F4,rfl,o4,j⟩;generalize decS d k o=G at *;obtain⟨t1,t2,t3,t4,t5,g1,g2,g3,g4,g5,rfl⟩:=mW o4;have az:Hid (shdR.O w4 wk.heap.size F4 (.agg #[iV G.idx,.slice t1 G.bals.length g1,.slice t2 G.votes.length g2,.slice t3 G.held.length g3,.slice t4 G.done.length g4,.slice t5 G.appl.length g5]) G):=o4;have aN:aa w w4:=Below.trans av (j.mono oM);replace s:=uN j (show w.heap.size+1<wk.heap.size by omega) s;replace y:=uN j (show w.heap.size+1<wk.heap.size by omega) y;replace z:=uN j (show w.heap.size+1<wk.heap.size by omega) z;replace A:=uN j (show w.heap.size+1<wk.heap.size by omega) A;replace B:=uN j (show w.heap.size+1<wk.heap.size by omega) B;replace C:=uN j (show w.heap.size+1<wk.heap.size by omega) C;replace D:=uN j (show w.heap.size+1<wk.heap.size by omega) D;replace E:=uN j (show w.heap.size+1<wk.heap.size by omega) E;replace K:aq w4 (w.heap.size+1):=fun o=>by rw[j.frozen (p:=⟨w.heap.size+1,o,none⟩) (by dsimp only;omega)];exact K o
 clear o4 j L;generalize G.bals.length=l1 at *;generalize G.votes.length=l2 at *;generalize G.held.length=l3 at *;generalize G.done.length=l4 at *;generalize G.appl.length=l5 at *;go_wp2;refine bodyPost_ret (v:=.agg #[iV 0,iV 0,iV G.idx,.slice t1 l1 g1,.slice t2 l2 g2,.slice t3 l3 g3,.slice t4 l4 g4,.slice t5 l5 g5]) (by simp[results,Tryz.results149,go_sem,s,y,z,A,B,C,D,E,K]) rfl ?_;rw[HC.out];have g:w.heap.size≤w.heap.size+1:=oM;exact⟨_,F4,rfl,shdRR.base (vZ shdRR (vX (d:=G) 0 0 az.out) (fun h=>by have:=(shdR.rng az.out _ h).1;omega) _ _ _ _ _ _ _ _) oM,bset (p:=⟨w.heap.size+1,7,none⟩) (bset (p:=⟨w.heap.size+1,6,none⟩) (bset (p:=⟨w.heap.size+1,5,none⟩) (bset (p:=⟨w.heap.size+1,4,none⟩) (bset (p:=⟨w.heap.size+1,3,none⟩) (bset (p:=⟨w.heap.size+1,2,none⟩) (bset (p:=⟨w.heap.size+1,1,none⟩) (bset (p:=⟨w.heap.size+1,0,none⟩) (aN) g _) g _) g _) g _) g _) g _) g _) g _⟩
end
end Go.Proofs.YtpibfdebfacooaaGreat

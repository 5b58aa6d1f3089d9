import Derived.Test.YtpibfdebfacooaaGreatPrnCrashJournalLaw21
set_option maxHeartbeats 16000000
set_option maxRecDepth 20000
set_option linter.unusedSectionVars false
set_option linter.unusedVariables false
set_option linter.unusedSimpArgs false
namespace Go.Proofs.YtpibfdebfacooaaGreat
open Go.RowKit
attribute [local go_sem ↓] Go.wp_at_zero Go.wp_at_succ
section
open Go.Sort Go.Shelf
variable [dQ Rw] [iH Rw] [dQ Bal] [iH Bal] [dQ Ledg] [iH Ledg] [dQ Leg] [iH Leg] [dQ Cont] [iH Cont] [dQ LedgR] [iH LedgR]
theorem KDn.perm {f:Int→Int→Int→Option Int} {xs ys:List K3} (h:KDn f xs) (hp:ys.Perm xs):KDn f ys:=
 ⟨⟨hp.symm.nodup h.1.1,fun x hx=>h.1.2 x (hp.mem_iff.1 hx)⟩,fun s a t hk hs=>hp.mem_iff.2 (h.2 s a t hk hs)⟩
theorem fW4 {W:World} {base G n:Nat} (h:W.ownsRow base 30 1 (.slice (some ⟨G,0,none⟩) n n) n (madeCells (Value.slice none 0 0).cells (n*1)).toList) (f:Int→Int→Int→Option Int) :
  PO balsR 30 1 one W base (.slice (some ⟨G,0,none⟩) n n) n n (fun i=>shK f [] i) (List.replicate n (.slice none 0 0)) (fun _=>.slice none 0 0) (fun _ b=>(Value.slice none 0 0).ownBlock=some b):=by
 rw[Nat.mul_one,show(Value.slice none 0 0).cells = #[.slice none 0 0] from rfl,toList_madeCells_one] at h;refine⟨h,fun i hi=>⟨⟨rfl,.inl ⟨rfl,rfl⟩⟩,rfl⟩,fun _ _=>rfl,fun i hi j hj=>?_,fun i hi b hb=>(by cases hb),fun i j hi hj hij b hb=>(by cases hb)⟩;obtain rfl:j=0:=oM;simp[one,hi]
theorem fF9 (n b m:Nat) (f:Int→Int→Int→Option Int) (w:World) (hb:Book w b m f) (hn0:1≤n) (hn:n≤3) (hd:KDom n f) :
  Calls Tryz.prog 204 #[.agg #[.int .i64 n,.map (some b)]] w fun e w'=>∃v F ys,e =.returned (.agg #[v])∧KDn f ys∧ys.Pairwise (fun p q=>ltOf cfK q p=false)∧balssR.O w' w.heap.size F v ((List.range n).map (shK f ys))∧Go.RowKit.Below w.heap.size w w':=by
 have hbl:=hb.lt;obtain⟨W0,hW0⟩:∃W0,W0=(w.alloc (.cells #[.int .i64 n,.map (some b)] 227)).alloc (.cells #[.slice none 0 0] 234):=⟨_,rfl⟩
 obtain⟨i0,hi,hz0,hz1,hz2⟩:=info_parts fSu;obtain⟨w1,hmk,hown,hgr⟩:=run_make_full (P:=Tryz.prog) W0 w.heap.size 232 30 i0 _ 1 Tryz.underlying232 hi hz0 hz1 .i64 .i64 n (by rw[hz2];omega) (by unfold maxLen;omega) (by rw[hW0];simp;omega);have hs0:W0.heap.size=w.heap.size+1+1:=by rw[hW0];simp
 have hB1:Go.RowKit.Below W0.heap.size W0 w1:=(bR _ _).grown hgr (Nat.le_refl _) (fun k h=>by cases h);have k0:w1.cell? ⟨w.heap.size,0,none⟩=some (.int .i64 n):=cK hB1 (by rw[hW0];simp[go_sem]);have k1:w1.cell? ⟨w.heap.size,1,none⟩=some (.map (some b)):=cK hB1 (by rw[hW0];simp[go_sem]);have r0:w1.cell? ⟨w.heap.size+1,0,none⟩=some (.slice none 0 0):=cK hB1 (by rw[hW0];simp[go_sem]);have hbw1:Go.RowKit.Below w.heap.size w w1:=by
  have h1:Go.RowKit.Below w.heap.size w W0:=by rw[hW0];exact qBq
  exact bS h1 hB1
 have z1:w.heap.size+1+1<w1.heap.size:=by
  have:=(hown.lt W0.heap.size rfl).2;omega
 have z0:w.heap.size<w1.heap.size:=oM;have z01:w.heap.size+1<w1.heap.size:=oM;have fr0:w1.frozen? ⟨w.heap.size+1,0,none⟩=false:=(hB1.frozen (p:=⟨w.heap.size+1,0,none⟩) (by rw[hs0];simp)).trans (by rw[hW0];simp[go_sem]);rw[hs0] at hown;rw[hW0] at hmk;clear hW0 hgr hB1 hi hz0 hz1 hz2 i0;go_enter Tryz.func204,Tryz.ntmps204;go_wp2_with fail;refine(fQs _ b).mono ?_;rintro e w2 ⟨rfl,hb2,q2⟩;have hB12:Go.RowKit.Below w1.heap.size w1 w2:=bS (bA (bR _ _) _) hb2;have g2:w2.cell? ⟨w1.heap.size,0,none⟩=some (.slice (some ⟨w.heap.size+1+1,0,none⟩) n n):=cK hb2 sG;rw[World.size_alloc] at q2;have hz2:w1.heap.size+1<w2.heap.size:=wL _ _ q2;have hcon:=fGk fX2 243 #[.pointer (some ⟨w1.heap.size+1,0,none⟩)] (KOk f) (KDn f) (fun i=>i=w1.heap.size+1∨i=b) w2 (enters_of Tryz.func243 kF rfl)
  (fS3 _ b m f _ w2 q2 (.inl rfl) (.inr rfl) (fun i hi=>by rcases hi with rfl|rfl <;> omega) (hb.below (bS hbw1 hB12))) (fun i hi=>by rcases hi with rfl|rfl <;> omega) (fun ys h=>by have:=hd.len h;omega) (fun ys h=>by have:=hd.len h.1;omega)
 rw[World.size_alloc];clear q2 hb2 hmk;go_wp2_with fail;refine hcon.mono ?_;rintro e w3 ⟨v,xs,ys,rfl,hD,hp,hs,hkv,hb3⟩;clear hcon;have HD:Hid (KDn f ys):=hD.perm hp;have HS:Hid (ys.Pairwise (fun p q=>ltOf cfK q p=false)):=hs;have hlen:ys.length≤54:=by have:=hd.len HD.out.1;omega
 clear hD hp hs xs;have hB13:Go.RowKit.Below w1.heap.size w1 w3:=bS hB12 hb3;have hB3:Go.RowKit.Below w.heap.size w w3:=bS hbw1 hB13;have HBK:Hid (Book w3 b m f):=hb.below hB3;have e0:w3.cell? ⟨w.heap.size,1,none⟩=some (.map (some b)):=cK hB13 k1;have e1:w3.cell? ⟨w.heap.size+1,0,none⟩=some (.slice none 0 0):=cK hB13 r0;have e2:w3.cell? ⟨w1.heap.size,0,none⟩=some (.slice (some ⟨w.heap.size+1+1,0,none⟩) n n):=cK hb3 g2;have e3:w3.frozen? ⟨w.heap.size+1,0,none⟩=false:=(hB13.frozen (p:=⟨w.heap.size+1,0,none⟩) z01).trans fr0;have HP0:=fW4 (fV hown hB13) f;have hGc:w3.cell? ⟨w.heap.size+1+1,0,none⟩=some (.slice none 0 0):=by
  have h:=HP0.row.cellAt 0 oM;rw[h,List.getElem?_replicate,if_pos oM]
 have hz3:w1.heap.size<w3.heap.size:=wL _ _ e2;obtain⟨av,cv,rfl,hkeys⟩:=hkv;clear hb hb3 hB13 hB12 g2 k0 k1 r0 fr0 hown hbw1 hz2;have HKE:Hid (∀i,i<ys.length→∃g,av=some ⟨g,0,none⟩∧yF w3 g (i*3) (ys.getD i default)):=hkeys;clear hkeys;generalize hq:ys.length=q at *;have HN:Hid (ys.length=q):=hq;clear hq;go_wp2;go_loopw [17] (fun i W=>∃(k:Nat) (cs:List Value) (us:Nat→Value) (fs:Nat→Nat→Prop),k≤q∧i =.int .i64 k∧Hid (PO balsR 30 1 one W w.heap.size (.slice (some ⟨w.heap.size+1+1,0,none⟩) n n) n n (fun i=>shK f (ys.take k) i) cs us fs)∧Hid (∀i,i<n→∀b,fs i b→w3.heap.size≤b)∧Mod (fun b=>b=w.heap.size+1+1) w3 W) (fun i _=>q-(intOf i).toNat)
 case atStart=>exact⟨0,_,_,_,Nat.zero_le _,rfl,HP0,fun i hi b hb=>(by cases hb),Mod.refl _ _⟩
 obtain⟨k,cs,us,fs,hk,rfl,HP,HF,hM⟩:=hrel;rename World=>w4
 by_cases hlt:k<q
 ·
  obtain⟨g,rfl,hc⟩:=HKE.out k hlt;have hgne:g≠w.heap.size+1+1:=fun e=>by
   obtain⟨g',e',h0,_⟩:=HKE.out 0 oM;simp only[Option.some.injEq,Addr.mk.injEq,and_true] at e';rw[←e',e,Nat.zero_mul,hGc] at h0;cases h0
  have hlk:k<ys.length:=by rw[HN.out];exact hlt
  have hgd:ys.getD k default=ys[k]:=by simp[List.getD,hlk]
  have hmem:ys.getD k default ∈ ys:=by rw[hgd];exact List.getElem_mem _
  have htk:ys.take k++[ys.getD k default]=ys.take (k+1):=by rw[hgd,List.take_add_one,List.getElem?_eq_getElem hlk];rfl
  clear hlk hgd;obtain⟨x,hx⟩:∃x,x=ys.getD k default:=⟨_,rfl⟩
  rw[←hx] at hc hmem htk;clear hx;have HTK:Hid (ys.take k++[x]=ys.take (k+1)):=htk;clear htk;obtain⟨s,a,t⟩:=x;have hsome:=HD.out.1.2 _ hmem;dsimp only at hsome;obtain⟨⟨hs0',hs1'⟩,hko⟩:=hd s a t hsome;obtain⟨⟨ha0,ha1⟩,ht0,ht1⟩:=keyOk_iff.1 hko;have hkw:kwf s a t:=⟨zP oM oM,zP oM oM,zP oM oM⟩;obtain⟨j,rfl⟩:∃j:Nat,s=(j:Int):=⟨s.toNat,by omega⟩
  have hjn:j<n:=oM;obtain⟨d0,d1,d2⟩:=hc;dsimp only at d0 d1 d2;replace d0:=hM.cell d0 hgne;replace d1:=hM.cell d1 hgne;replace d2:=hM.cell d2 hgne;have f0:=hM.cell e0 (by dsimp only;omega);have f2:=hM.cell e2 (by dsimp only;omega);have hz4:=hM.size;have HB4:Hid (Book w4 b m f):=HBK.out.turned hM oM;obtain⟨v,hv⟩:∃v,v=(f j a t).getD 0:=⟨_,rfl⟩
  have HV:Hid (v=(f j a t).getD 0):=hv;clear hv hmem hsome HP0 e0 e1 e2 hGc;have hk':(k:Int)<q:=oM;have hk0:(0:Int)≤k:=oM;have hwk:IntKind.i64.wrap ((k:Int)+1)=(k:Int)+1:=qP oM oM;go_wp2;have HLK:∀W,Go.RowKit.Below w4.heap.size w4 W→(Instr.lookup 225 (.map (some b)) (.agg #[.int .i64 j,.int .i64 a,.int .i64 t]) false).run Tryz.prog W =.ok (.int .i64 v) W:=fun W hW=>by rw[HV.out];exact((HB4.out.below hW).look hkw).1
  refine wp_region_noPanic ?_;refine fB (fun W=>W.cell? ⟨w.heap.size,1,none⟩=some (.map (some b))∧(W.cell? ⟨w4.heap.size,0,none⟩=some (.int .i64 j)∧W.cell? ⟨w4.heap.size,1,none⟩=some (.int .i64 a)∧W.cell? ⟨w4.heap.size,2,none⟩=some (.int .i64 t))∧(Instr.lookup 225 (.map (some b)) (.agg #[.int .i64 j,.int .i64 a,.int .i64 t]) false).run Tryz.prog W =.ok (.int .i64 v) W) 10 kF ⟨cK qBq f0,⟨sG,by simp[go_sem],sG⟩,HLK _ qBq⟩ (fun hS=>?_);refine tY 0 ?_;refine tY 1 ?_;refine tY 2 ?_;refine tY 3 ?_;refine tY 4 ?_;refine tY 5 ?_;refine tY 6 ?_;refine tY 7 ?_;refine tY 8 ?_;refine uS 9 rfl (fun K hK=>?_);go_simp;refine hK _ _ (fun _=>⟨cK (bA (bR _ _) _) hS.1,⟨cK (bA (bR _ _) _) hS.2.1.1,cK (bA (bR _ _) _) hS.2.1.2.1,cK (bA (bR _ _) _) hS.2.1.2.2⟩,HLK _ qBq⟩) ?_;clear hK K;try simp only[jX]
  refine uS 10 rfl (fun K hK=>?_);go_simp;refine hK _ _ (fun h=>absurd rfl h) ?_;clear hK K;refine dP ?_;have hb5:Go.RowKit.Below w4.heap.size w4 ((w4.alloc (.cells #[.int .i64 j,.int .i64 a,.int .i64 t] 254)).alloc (.cells #[.int .i64 a,.int .i64 t,.int .i64 v] 103)).drew:=qBq;generalize hw5:((w4.alloc (.cells #[.int .i64 j,.int .i64 a,.int .i64 t] 254)).alloc (.cells #[.int .i64 a,.int .i64 t,.int .i64 v] 103)).drew=w5 at *;have x0:w5.cell? ⟨w4.heap.size+1,0,none⟩=some (.int .i64 a):=by rw[←hw5];simp[go_sem]
  have x1:w5.cell? ⟨w4.heap.size+1,1,none⟩=some (.int .i64 t):=by rw[←hw5];simp[go_sem]
  have x2:w5.cell? ⟨w4.heap.size+1,2,none⟩=some (.int .i64 v):=by rw[←hw5];simp[go_sem]
  clear hw5 hS HLK;have hp5:=HP.out.keep hb5;have h2:=cK hb5 f2;have hM5:=hM.transB' hb5;have hj0:(0:Int)≤j:=oM;have hj1:(j:Int)<n:=oM;have hel:=hp5.el j hjn;have hcel:w5.cell? ⟨w.heap.size+1+1,j,none⟩=some (us j):=by
   have h:=hp5.cell j hjn 0 oM;rw[Nat.mul_one,Nat.add_zero] at h;rw[hp5.row.cellAt j oM,h];rfl
  have hrngj:∀b,fs j b→b<w4.heap.size:=fun b hb=>(balsR.rng (HP.out.el j hjn) b hb).2
  have hfrj:w5.frozen? ⟨w.heap.size+1+1,j,none⟩=false:=hp5.row.frozenAt j;obtain⟨au,cu,hu⟩:=fP (balsR.ofO hel);have hol:(shK f (ys.take k) j).length≤54:=by
   unfold shK;rw[List.length_map];refine Nat.le_trans (List.length_filter_le _ _) ?_;rw[List.length_take];omega
  have HP5:Hid (PO balsR 30 1 one w5 w.heap.size (.slice (some ⟨w.heap.size+1+1,0,none⟩) n n) n n (fun i=>shK f (ys.take k) i) cs us fs):=hp5;obtain⟨out,hout⟩:∃out,out=shK f (ys.take k) j:=⟨_,rfl⟩
  rw[←hout] at hel hu hol;have HOUT:Hid (out=shK f (ys.take k) j):=hout;obtain⟨L,hL⟩:∃L,L=out.length:=⟨_,rfl⟩
  obtain⟨hown5,hfsj⟩:=hel;rw[hu] at hcel hown5 hfsj;rw[←hL] at hcel hown5 hol;have HL:Hid (L=out.length):=hL;clear hp5 hout hL HP hM;rw[←HL.out] at hfsj;have HFJ:Hid (fs j=fun b=>(Value.slice au L cu).ownBlock=some b):=hfsj;clear hfsj hu;go_wp2;refine wp_region_noPanic ?_;refine fB (fun W=>W.cell? ⟨w1.heap.size,0,none⟩=some (.slice (some ⟨w.heap.size+1+1,0,none⟩) n n)∧W.cell? ⟨w.heap.size+1+1,j,none⟩=some (.slice au L cu)∧W.cell? ⟨w4.heap.size+1,0,none⟩=some (.int .i64 a)∧W.cell? ⟨w4.heap.size+1,1,none⟩=some (.int .i64 t)∧W.cell? ⟨w4.heap.size+1,2,none⟩=some (.int .i64 v)) 12 kF ⟨cK qBq h2,cK qBq hcel,cK qBq x0,cK qBq x1,cK qBq x2⟩ (fun hS=>?_);refine tY 0 ?_;refine tY 1 ?_;refine tY 2 ?_;refine tY 3 ?_;refine tY 4 ?_;refine tY 5 ?_;refine tY 6 ?_;refine tY 7 ?_;refine tY 8 ?_;refine uS 9 rfl (fun K hK=>?_);go_simp;have hSY:=And.intro (cK (bA (bR _ _) (.cells #[.int .i64 a,.int .i64 t,.int .i64 v] 103)) hS.1) (And.intro (cK (bA (bR _ _) (.cells #[.int .i64 a,.int .i64 t,.int .i64 v] 103)) hS.2.1) (And.intro (cK (bA (bR _ _) (.cells #[.int .i64 a,.int .i64 t,.int .i64 v] 103)) hS.2.2.1) (And.intro (cK (bA (bR _ _) (.cells #[.int .i64 a,.int .i64 t,.int .i64 v] 103)) hS.2.2.2.1) (cK (bA (bR _ _) (.cells #[.int .i64 a,.int .i64 t,.int .i64 v] 103)) hS.2.2.2.2))));refine hK _ _ (fun _=>hSY) ?_;clear hK K;try simp only[jX]
  refine uS 10 rfl (fun K hK=>?_);obtain⟨i0,hi,hz0,hz1,hz2⟩:=info_parts fAx;have hbY:Go.RowKit.Below w5.heap.size w5 (w5.drew.alloc (.cells #[.int .i64 a,.int .i64 t,.int .i64 v] 103)):=qBq;have hzY:=hbY.size;have hz5:=hb5.size;refine fAm _ rfl _ _ 30 rfl w.heap.size 103 i0 _ 3 24 Tryz.underlying30 hi hz0 hz1 hz2 rfl (by decide) (.slice au L cu) L (kX out) rfl (fV hown5 hbY) ⟨w5.heap.size,0,none⟩ 1 1 (balC ⟨a,t,v⟩) rfl rfl ?_ (zS _) (by unfold maxLen;omega) oM (by simp;omega) ?_
  ·refine xC (x:=⟨a,t,v⟩) (o:=0) ?_;exact⟨sG,by simp[go_sem],sG⟩
  intro v6 w6 o6 hg6 hloc;have hmY:Mod (fs j) (w5.drew.alloc (.cells #[.int .i64 a,.int .i64 t,.int .i64 v] 103)) w6:=by rw[HFJ.out];exact Mod.of_grown hg6
  have hm6:Mod (fs j) w5 w6:=(Mod.of_below hbY).trans hmY;have hn1:¬fs j w1.heap.size:=fun h=>by have:=HF.out j hjn _ h;omega
  have hn2:¬fs j (w.heap.size+1+1):=fun h=>HP5.out.out j hjn _ h rfl
  have hn3:¬fs j (w4.heap.size+1):=fun h=>by have:=hrngj _ h;omega
  have hS6:=And.intro (hmY.cell hSY.1 hn1) (And.intro (hmY.cell hSY.2.1 hn2) (And.intro (hmY.cell hSY.2.2.1 hn3) (And.intro (hmY.cell hSY.2.2.2.1 hn3) (hmY.cell hSY.2.2.2.2 hn3))));have hf6:w6.frozen? ⟨w.heap.size+1+1,j,none⟩=false:=(fAc hm6 (a:=⟨w.heap.size+1+1,j,none⟩) (show w.heap.size+1+1<w5.heap.size by omega) hn2).trans hfrj;have hc6:w6.cell? ⟨w.heap.size+1+1,j,none⟩=some (.slice au L cu):=hS6.2.1;obtain⟨p6,c6,hv6⟩:=fD o6;subst hv6;refine hK _ _ (fun _=>hS6) ?_;clear hK K hSY hS;try simp only[jX]
  refine uS 11 rfl (fun K hK=>?_);go_simp;refine hK _ _ (fun _=>hS6) ?_;clear hK K;try simp only[jX]
  refine uS 12 rfl (fun K hK=>?_);go_simp;refine hK _ _ (fun h=>absurd rfl h) ?_;clear hK K;refine dP ?_;have hF6:∀b,(Value.slice p6 (L+1) c6).ownBlock=some b→fs j b∨w5.heap.size≤b:=fun b hb=>by
   rw[HFJ.out];rcases hloc with h|h
   ·exact .inl (h▸hb)
   rw[h] at hb;simp at hb;exact .inr oM
  have hO6:balsR.O w6 w.heap.size (fun b=>(Value.slice p6 (L+1) c6).ownBlock=some b) (.slice p6 (L+1) c6) (out++[⟨a,t,v⟩]):=by
   refine⟨?_,rfl⟩;rw[xD,List.length_append,←HL.out];exact o6
  have hm7:Mod (fun b=>b=w.heap.size+1+1) w6 (w6.setCell ⟨w.heap.size+1+1,j,none⟩ (.slice p6 (L+1) c6)):=Mod.of_set w6 ⟨w.heap.size+1+1,j,none⟩ _;have hr6:=hm6.owns HP5.out.row (fun b hb=>by simp[Value.ownBlock] at hb;rw[←hb];exact hn2);have hr7:=(hr6.stored j (.slice p6 (L+1) c6)).1;have hp7:=HP5.out.putS hjn hm6 hO6 hF6 hr7 hm7;have HP7:Hid (PO balsR 30 1 one (w6.setCell ⟨w.heap.size+1+1,j,none⟩ (.slice p6 (L+1) c6)) w.heap.size (.slice (some ⟨w.heap.size+1+1,0,none⟩) n n) n n (fun i=>shK f (ys.take (k+1)) i) (cs.set j (.slice p6 (L+1) c6)) (upd us j (.slice p6 (L+1) c6)) (upd fs j (fun b=>(Value.slice p6 (L+1) c6).ownBlock=some b))):=by
   refine hp7.cast (fun i hi=>?_);rw[←HTK.out,fVy];by_cases hij:i=j
   ·subst hij;rw[kJ,if_pos rfl,HOUT.out,HV.out];rfl
   rw[upd_ne _ _ hij,if_neg (fun e=>hij (by simp only at e;omega))]
  have HF7:Hid (∀i,i<n→∀b,upd fs j (fun b=>(Value.slice p6 (L+1) c6).ownBlock=some b) i b→w3.heap.size≤b):=fun i hi b hb=>by
   by_cases hij:i=j
   ·
    subst hij;rw[kJ] at hb;rcases hF6 b hb with h|h
    ·exact HF.out i hi b h
    omega
   rw[upd_ne _ _ hij] at hb;exact HF.out i hi b hb
  have hM7:Mod (fun b=>b=w.heap.size+1+1) w3 (w6.setCell ⟨w.heap.size+1+1,j,none⟩ (.slice p6 (L+1) c6)):=by
   have h36:Mod (fun b=>b=w.heap.size+1+1) w3 w6:=⟨hm6.os.trans hM5.os,hm6.tape.trans hM5.tape,hm6.output.trans hM5.output,Nat.le_trans hM5.size hm6.size,fun i hi hn=>(hm6.block i (Nat.lt_of_lt_of_le hi hM5.size) (fun e=>by have:=HF.out j hjn i e;omega)).trans (hM5.block i hi hn)⟩;exact h36.trans hm7
  clear hp7 hr7 hr6 hO6 hF6 hm7 o6 hg6 hloc hmY hm6;go_wp2;go_roundw
  case rel=>exact⟨k+1,_,_,_,by omega,by simp,HP7,HF7,hM7⟩
  case measure=>simp[intOf];omega
 obtain rfl:k=q:=oM;have f2:=hM.cell e2 (by dsimp only;omega);have f1:=hM.cell e1 (by dsimp only;omega);have f3:w4.frozen? ⟨w.heap.size+1,0,none⟩=false:=(fAc hM (a:=⟨w.heap.size+1,0,none⟩) (show w.heap.size+1<w3.heap.size by omega) (show ¬(w.heap.size+1=w.heap.size+1+1) by omega)).trans e3;have hz4:=hM.size;have hy:ys.take k=ys:=by rw[←HN.out];exact List.take_length
 rw[hy] at HP;clear hy HKE HP0 HBK hGc;go_wp2;have hm5:Mod (fun b=>b=w.heap.size+1) w4 (w4.setCell ⟨w.heap.size+1,0,none⟩ (.slice (some ⟨w.heap.size+1+1,0,none⟩) n n)):=Mod.of_set w4 ⟨w.heap.size+1,0,none⟩ _;have hp5:=HP.out.mod hm5 (fun b hb e=>by simp[Value.ownBlock] at hb;omega) (fun i hi b hb e=>by have:=HF.out i hi b hb;omega);have hB5:Go.RowKit.Below w.heap.size w (w4.setCell ⟨w.heap.size+1,0,none⟩ (.slice (some ⟨w.heap.size+1+1,0,none⟩) n n)):=Mod.below (F:=fun b=>b=w.heap.size+1+1∨b=w.heap.size+1) hB3 ((hM.mono (fun b hb=>Or.inl hb)).trans (hm5.mono (fun b hb=>Or.inr hb))) oM (fun b hb=>oM);refine bodyPost_ret (v:=.agg #[.slice (some ⟨w.heap.size+1+1,0,none⟩) n n]) (by simp[results,Tryz.results204,go_sem,f1]) rfl ?_;exact⟨_,_,ys,rfl,HD.out,HS.out,⟨cs,us,fs,by
  rw[List.length_map,List.length_range];exact hp5.cast (fun i hi=>by simp[List.getD,hi]),fun b=>Iff.rfl⟩,hB5⟩
end
section
variable [dQ Rw] [iH Rw] [dQ Bal] [iH Bal] [dQ Ledg] [iH Ledg] [dQ Leg] [iH Leg] [dQ Cont] [iH Cont] [dQ LedgR] [iH LedgR] [dQ OutcR] [iH OutcR] [dQ Mrk] [iH Mrk] [dQ Shd] [iH Shd] [dQ ShdR] [iH ShdR]
theorem fJc {g:Ledg} {ls:List Leg} (h0:tJ g=0) (hl:∀x ∈ ls,gI x=0∧x.sh<(g.shards.length:Int)) (h8:ls.length≤8):(1≤g.shards.length∧g.shards.length≤3)∧(∀i,i<g.shards.length→RiseB (g.shards.getD i default))∧(∀l ∈ ls,rA l.ac l.ast=true)∧(∀l ∈ ls,0≤l.sh∧l.sh<(g.shards.length:Int)) ∧
  ∀k,k<ls.length→kwf (ls.getD k default).sh (ls.getD k default).ac (ls.getD k default).ast ∧ -9223372036854775808≤(pO (kY g.shards) (ls.take k) (ls.getD k default).sh (ls.getD k default).ac (ls.getD k default).ast).getD 0+(ls.getD k default).am∧(pO (kY g.shards) (ls.take k) (ls.getD k default).sh (ls.getD k default).ac (ls.getD k default).ast).getD 0+(ls.getD k default).am≤9223372036854775807:=by
 obtain⟨hn0,hn,hbk⟩:=fDt h0;refine⟨⟨hn0,hn⟩,fun i hi=>fW8 (hbk i hi),fun l h=>?_,fun l h=>?_,fun k hk=>?_⟩
 ·have hz:=gZ (hl l h).1;exact keyOk_iff.2 ⟨hz.2.1,hz.2.2.1⟩
 ·exact⟨(gZ (hl l h).1).1.1,(hl l h).2⟩
 have e:ls.getD k default=ls[k]:=by simp[List.getD,hk]
 have hz:=gZ (hl _ (List.getElem_mem hk)).1;rw[e];have hb:=fLw (fLy h0) (ls.take k) (fun l hm=>(gZ (hl l (List.mem_of_mem_take hm)).1).2.2.2.1) ls[k].sh ls[k].ac ls[k].ast;rw[List.length_take] at hb;have hs:=(hl _ (List.getElem_mem hk)).2;refine⟨⟨zP oM oM,zP oM oM,zP oM oM⟩,?_,?_⟩ <;> omega
theorem fQ7 (s:Int) (ls:List Leg):onSh s (onSh s ls)=onSh s ls:=by
 unfold onSh;rw[List.filter_filter];congr 1;funext l;simp
theorem fMb {idx:Int} {bs:List Bal} {ls:List Leg} (h:0≤idx∧idx≤2):(rJ (mM idx bs) (onSh idx ls)).getD idx.toNat default=addB bs (onSh idx ls):=by
 rw[fFn _ _ (by show idx.toNat<3;omega)];unfold fJb;rw[fOk h];have e:((idx.toNat:Nat):Int)=idx:=oM;rw[e,fQ7]
theorem fEr {hs:List Cont} {k:Int} {i:Nat} (hi:i<hs.length) (he:(hs.getD i default).id=k) (hb:∀j,j<i→(hs.getD j default).id<k):uU k hs=(hs.getD i default).legs:=by
 induction hs generalizing i with
 | nil=>simp at hi
 | cons x r ih=>
  cases i with
  | zero=>
   simp only[List.getD_cons_zero] at he ⊢;simp[uU,he]
  | succ i=>
   have h0:=hb 0 oM;simp only[List.getD_cons_zero] at h0;have hne:¬x.id=k:=oM;simp only[uU,if_neg hne];simp only[List.getD_cons_succ] at he ⊢;exact ih (by simpa using hi) he (fun j hj=>by have:=hb (j+1) oM;simpa using this)
theorem fQx {hs:List Cont} {k:Int} (h:fO hs k=false):kN k hs=hs:=by
 unfold kN;rw[List.filter_eq_self];intro c hc;unfold fO at h;rw[List.any_eq_false] at h;have:=h c hc;simpa using this
def rV (hs:List Cont) (k:Int) (n:Nat):List Nat:=(List.range n).filter (fun j=>!((hs.getD j default).id==k))
theorem fQp (hs:List Cont) (k:Int) (n:Nat):rV hs k (n+1)=if (hs.getD n default).id=k then rV hs k n else rV hs k n++[n]:=by
 unfold rV;rw[List.range_succ,List.filter_append];by_cases h:(hs.getD n default).id=k
 ·rw[if_pos h,List.filter_cons_of_neg (by simp only[h];simp)];simp
 rw[if_neg h,List.filter_cons_of_pos (by simp only[Bool.not_eq_true',beq_eq_false_iff_ne];exact h)];simp
theorem fVk {hs:List Cont} {k:Int} {n j:Nat} (h:j ∈ rV hs k n):j<n:=List.mem_range.1 (List.mem_filter.1 h).1
theorem fVj (hs:List Cont) (k:Int) (n:Nat):(rV hs k n).length≤n:=by
 have:=List.length_filter_le (fun j=>!((hs.getD j default).id==k)) (List.range n);rw[List.length_range] at this;exact this
theorem fQo (hs:List Cont) (k:Int):(rV hs k hs.length).map (fun j=>hs.getD j default)=kN k hs:=by
 have e:hs=(List.range hs.length).map (fun j=>hs.getD j default):=by
  refine List.ext_getElem (by simp) (fun i h1 h2=>?_);simp[List.getD,h1]
 unfold rV kN;conv=>rhs;rw[e]
 rw[List.filter_map];rfl
theorem fMq (hs:List Cont) (k:Int) (n:Nat):(rV hs k n).Nodup:=by
 unfold rV List.Nodup;exact List.Pairwise.filter _ List.nodup_range
theorem flat_get {f:Nat→List Value} {size:Nat}:∀(js:List Nat),(∀j ∈ js,(f j).length=size)→∀i,i<js.length→∀o,o<size→(js.flatMap f)[i*size+o]? = (f (js.getD i 0))[o]?
 | [],_,i,hi,_,_=>by simp at hi
 | j::js,h,0,_,o,ho=>by
  have hl:=h j (List.mem_cons_self ..);rw[List.flatMap_cons,List.getElem?_append_left oM];simp
 | j::js,h,i+1,hi,o,ho=>by
  have hl:=h j (List.mem_cons_self ..);have ih:=flat_get js (fun x hx=>h x (List.mem_cons_of_mem _ hx)) i (by simpa using hi) o ho;have e:(i+1)*size=i*size+size:=Nat.succ_mul _ _;rw[List.flatMap_cons,List.getElem?_append_right oM,hl,e,show i*size+size+o-size=i*size+o by omega,ih];simp
theorem NO.pick {α:Type} [Inhabited α] {R:Rep α} {e size:Nat} {lv:Value→List Value} {W:World} {base:Nat} {v':Value} {xs:List α} {us:Nat→Value} {fs:Nat→Nat→Prop} (js:List Nat)
  (hel:∀j,j<xs.length→R.O W base (fs j) (us j) (xs.getD j default)) (hln:∀j,j<xs.length→(lv (us j)).length=size) (hsep:∀j k,j<xs.length→k<xs.length→j≠k→∀b,fs j b→¬fs k b)
  (hjs:∀j ∈ js,j<xs.length) (hnd:js.Nodup) (hr:W.ownsRow base e size v' js.length (js.flatMap (fun j=>lv (us j)))) (hv:∀b,v'.ownBlock=some b→∀j,j<xs.length→¬fs j b) :
  ∃F',NO R e size lv W base F' v' (js.map (fun j=>xs.getD j default))∧∀b,F' b→v'.ownBlock=some b∨∃j,j<xs.length∧fs j b:=by
 have hj:∀i,i<js.length→js.getD i 0<xs.length:=fun i hi=>hjs _ (by simp[List.getD,hi])
 have hlen:(js.map (fun j=>xs.getD j default)).length=js.length:=List.length_map ..;refine⟨fun b=>v'.ownBlock=some b∨∃i,i<js.length∧fs (js.getD i 0) b,⟨js.flatMap (fun j=>lv (us j)),fun i=>us (js.getD i 0),fun i=>fs (js.getD i 0),?_,fun b=>by rw[hlen]⟩,fun b hb=>?_⟩
 ·
  rw[hlen];refine⟨hr,fun i hi=>?_,fun i hi=>hln _ (hj i hi),fun i hi o ho=>?_,fun i hi b hb e=>hv b e _ (hj i hi) hb,fun i k hi hk hik b h1 h2=>?_⟩
  ·
   have h:=hel _ (hj i hi);have e:(js.map (fun j=>xs.getD j default)).getD i default=xs.getD (js.getD i 0) default:=by simp[List.getD,hi]
   rw[e];exact h
  ·exact flat_get js (fun j hj'=>hln j (hjs j hj')) i hi o ho
  refine hsep _ _ (hj i hi) (hj k hk) (fun e=>?_) b h1 h2;unfold List.Nodup at hnd;rw[List.pairwise_iff_getElem] at hnd;have e1:js.getD i 0=js[i]:=by simp[List.getD,hi]
  have e2:js.getD k 0=js[k]:=by simp[List.getD,hk]
  rw[e1,e2] at e;rcases Nat.lt_trichotomy i k with h|h|h
  ·exact hnd i k hi hk h e
  ·exact hik h
  exact hnd k i hk hi h e.symm
 rcases hb with hb|⟨i,hi,hb⟩
 ·exact .inl hb
 exact .inr ⟨_,hj i hi,hb⟩
theorem fUz (bm:Nat) (k id:Int) (u:Value) (a:Option Addr) (n q:Nat) (hu:u =.slice a n q) (w:World) (hm:w.cell? ⟨bm,0,none⟩=some (.int .i64 k)) :
  RI 206 #[.agg #[.int .i64 id,u],.pointer (some ⟨bm,0,none⟩)] w (.bool (id==k)):=by
 subst hu;have zb:=wL w _ hm;dsimp only at zb;go_enter Tryz.func206,Tryz.ntmps206;go_wp2;go_ret;exact⟨rfl,qBq⟩
theorem fOp (x:Value) (xs:List Cont) (k:Int) (bm base:Nat) (F:Nat→Prop) (w:World) (hx:contsR.O w base F x xs) (hm:w.cell? ⟨bm,0,none⟩=some (.int .i64 k)) (hbase:base≤w.heap.size) (hn:xs.length≤1000) :
  Calls Tryz.prog 205 #[x,.func (.func 206) #[] #[.pointer (some ⟨bm,0,none⟩)]] w fun e w'=>∃v F',e =.returned v∧contsR.O w' base F' v (kN k xs)∧Below w.heap.size w w'∧∀b,F' b→F b∨w.heap.size≤b:=by
 obtain⟨a3,c3,e3,hc3,hm3,hx3⟩:=qH (contsR.ofO hx);subst e3;unfold maxLen at hm3;have HX:Hid (∀j,j<xs.length→∃b o p q,a3=some ⟨b,o,none⟩∧w.cell? ⟨b,o+j*2,none⟩=some (.int .i64 (xs.getD j default).id)∧w.cell? ⟨b,o+j*2+1,none⟩=some (.slice p (xs.getD j default).legs.length q)∧contR.V w (.agg #[.int .i64 (xs.getD j default).id,.slice p (xs.getD j default).legs.length q]) (xs.getD j default)):=hx3;obtain⟨cs,us,fs,hp,hFF⟩:=hx;have HUs:Hid (∀j,j<xs.length→∀u0 u1,(∀b o,a3=some ⟨b,o,none⟩→w.cell? ⟨b,o+j*2,none⟩=some u0∧w.cell? ⟨b,o+j*2+1,none⟩=some u1)→kL (us j)=[u0,u1]):=fun j hj u0 u1 h=>by
  rcases hp.row.2 with ⟨_,h0⟩|⟨g,cap,cur,hv,_⟩
  ·omega
  simp only[Value.slice.injEq] at hv;obtain⟨rfl,_,_⟩:=hv;obtain⟨g0,g1⟩:=h g 0 rfl;have hl:=hp.ln j hj;have c0:=hp.cell j hj 0 oM;have c1:=hp.cell j hj 1 oM;have hcl:cs.length=xs.length*2:=hp.row.1;have r0:=hp.row.cellAt (j*2) oM;have r1:=hp.row.cellAt (j*2+1) oM;rw[Nat.zero_add] at g0 g1;try rw[Nat.zero_add] at r0 r1
  rw[g0] at r0;rw[g1] at r1;rw[Nat.add_zero,←r0] at c0;rw[←r1] at c1;match hlv:kL (us j),hl with
  | [p,q],_=>
   rw[hlv] at c0 c1;simp at c0 c1;rw[←c0,←c1]
 have HEl:Hid ((∀j,j<xs.length→contR.O w base (fs j) (us j) (xs.getD j default))∧(∀j,j<xs.length→(kL (us j)).length=2)∧(∀j k,j<xs.length→k<xs.length→j≠k→∀b,fs j b→¬fs k b)∧(∀j,j<xs.length→∀b,fs j b→F b∧b<w.heap.size)):=⟨hp.el,hp.ln,hp.sep,fun j hj b hb=>⟨(hFF b).2 (.inr ⟨j,hj,hb⟩),(contR.rng (hp.el j hj) b hb).2⟩⟩;have HLe:Hid (∀j,(rV xs k j).length≤j):=fun j=>fVj xs k j
 have HFi:Hid ((rV xs k xs.length).map (fun j=>xs.getD j default)=kN k xs):=fQo xs k;clear hp hFF hx3;obtain⟨n,hn'⟩:∃n,n=xs.length:=⟨_,rfl⟩
 have HN:Hid (xs.length=n):=hn'.symm;rw[←hn'] at HX HUs hc3 hn ⊢;clear hn';obtain⟨i0,hi,hz0,hz1,hz2⟩:=info_parts qZ;have eg:=enters_of Tryz.func206 kF rfl;go_enter Tryz.func205,Tryz.ntmps205;go_wp2;go_loopw [5,10] (fun v i w'=>∃(j:Nat) (a:Option Addr) (m c:Nat),j≤n∧i =.int .i64 j∧v =.slice a m c∧Hid (m=(rV xs k j).length)∧Hid (w'.ownsRow w.heap.size 57 2 (.slice a m c) m ((rV xs k j).flatMap (fun q=>kL (us q))))∧Below w.heap.size w w') (fun _ i _=>n-(intOf i).toNat)
 case atStart=>exact⟨0,none,0,0,Nat.zero_le _,rfl,rfl,rfl,World.ownsRow_nil _ _ _ _,bR _ _⟩
 obtain⟨j,al,m,cl,hj,rfl,rfl,HM,HO,hbl⟩:=hrel;have zr:=hbl.size;have hml:m≤n:=by have:=HLe.out j;rw[←HM.out] at this;omega
 by_cases hlt:j<n
 ·
  obtain⟨bx,ox,pp,qq,rfl,g0,g1,_⟩:=HX.out j hlt;have HU:Hid (kL (us j)=[.int .i64 (xs.getD j default).id,.slice pp (xs.getD j default).legs.length qq]):=HUs.out j hlt _ _ (fun b o e=>by
   simp only[Option.some.injEq,Addr.mk.injEq,and_true] at e;obtain⟨rfl,rfl⟩:=e;exact⟨g0,g1⟩)
  have HK:Hid (rV xs k (j+1)=if (xs.getD j default).id=k then rV xs k j else rV xs k j++[j]):=fQp xs k j;replace g0:=cK hbl g0;replace g1:=cK hbl g1;have zb:bx<wr.heap.size:=wL wr _ g0;generalize (xs.getD j default).legs.length=nl at *;generalize (xs.getD j default).id=id at *;have HD1:Hid (bW w fun W=>RI 206 #[.agg #[.int .i64 id,.slice pp nl qq],.pointer (some ⟨bm,0,none⟩)] W (.bool (id==k))):=fun W hW=>fUz bm k id _ pp nl qq rfl W (cK hW hm)
  have k1:(j:Int)<n:=oM;have k2:(0:Int)≤j:=oM;by_cases hid:id=k
  ·
   have HE:Hid (rV xs k (j+1)=rV xs k j):=by show _=_;rw[HK.out,if_pos hid]
   have hb:(id==k)=true:=by simp[hid]
   rw[hb] at HD1;clear HK HU hid;go_wp2_with (first|(go_at_call 206;refine(HD1.out _ qBq).mono ?_;rintro e w1 ⟨rfl,hb1⟩));have hB1:=bT wr hb1;exact⟨⟨j+1,al,m,cl,by omega,by go_num,rfl,by show _=_;rw[HE.out];exact HM.out,by show World.ownsRow _ _ _ _ _ _ _;rw[HE.out];exact fV HO.out hB1,bS hbl hB1⟩,mI⟩
  have HE:Hid (rV xs k (j+1)=rV xs k j++[j]):=by show _=_;rw[HK.out,if_neg hid]
  have hb:(id==k)=false:=by simpa using hid
  rw[hb] at HD1;clear HK hid;go_wp2_with fail;refine(HD1.out _ qBq).mono ?_;rintro e w1 ⟨rfl,hb1⟩;have hB1:=bT wr hb1;have b0:w1.cell? ⟨wr.heap.size,0,none⟩=some (.int .i64 id):=cK hb1 sG;have b1:w1.cell? ⟨wr.heap.size,1,none⟩=some (.slice pp nl qq):=cK hb1 sG;have z1:wr.heap.size<w1.heap.size:=wL w1 _ b0;have HO1:Hid (w1.ownsRow w.heap.size 57 2 (.slice al m cl) m ((rV xs k j).flatMap (fun q=>kL (us q)))):=fV HO.out hB1;have hBl:Below w.heap.size w w1:=bS hbl hB1;clear hb1 HO g0 g1;go_wp2_with (at_builtin;refine wpList_append_own_at _ rfl _ _ 38 rfl w.heap.size 57 i0 _ 2 32 Tryz.underlying38 hi hz0 hz1 hz2 rfl (by decide) _ m ((rV xs k j).flatMap (fun q=>kL (us q))) rfl (HO1.out.alloc _) ⟨w1.heap.size,0,none⟩ 1 1 [.int .i64 id,.slice pp nl qq] rfl rfl ?c1 ?c2 ?c3 ?c4 ?c5 ?_)
  case c1=>
   intro o u ho;match o,ho with
   | 0,ho=>simp at ho;subst ho;simp[Addr.add,go_sem]
   | 1,ho=>simp at ho;subst ho;simp[Addr.add,go_sem]
   | o+2,ho=>simp at ho
  case c2=>
   intro u hu;simp only[List.mem_cons,List.not_mem_nil,or_false] at hu;rcases hu with rfl|rfl <;> rfl
  case c3=>unfold maxLen;omega
  case c4=>omega
  case c5=>simp;omega
  intro v2 w2 ho2 hg2 _ _;have hB2:Below w.heap.size w w2:=rY (HO1.out.alloc _) (bA hBl _) (by simp;omega) (Nat.le_refl _) hg2;obtain⟨a2,c2,rfl⟩:=fD ho2;have HO2:Hid (w2.ownsRow w.heap.size 57 2 (.slice a2 (m+1) c2) (m+1) ((rV xs k (j+1)).flatMap (fun q=>kL (us q)))):=by
   show World.ownsRow _ _ _ _ _ _ _;rw[HE.out,List.flatMap_append,List.flatMap_cons,List.flatMap_nil,List.append_nil,HU.out];exact ho2
  have HM2:Hid (m+1=(rV xs k (j+1)).length):=by
   show _=_;rw[HE.out,List.length_append,←HM.out];rfl
  clear ho2 hg2;go_wp2;exact⟨⟨j+1,a2,m+1,c2,by omega,by go_num,rfl,HM2,HO2,hB2⟩,mI⟩
 have hjn:j=n:=oM;subst hjn;have HRes:Hid (∃F',contsR.O wr base F' (.slice al m cl) (kN k xs)∧∀b,F' b→F b∨w.heap.size≤b):=by
  obtain⟨hel,hln,hsep,hFs⟩:=HEl.out;have ho:=HO.out;rw[HM.out] at ho;obtain⟨F',h1,h2⟩:=NO.pick (R:=contR) (lv:=kL) (e:=57) (size:=2) (xs:=xs) (us:=us) (fs:=fs) (W:=wr) (base:=base) (v':=.slice al (rV xs k j).length cl) (rV xs k j) (fun q hq=>contR.keep (hel q hq) hbl) hln hsep (fun q hq=>by rw[HN.out];exact fVk hq) (fMq xs k j) (rG ho hbase) (fun b hb q hq h=>by have:=(ho.lt b hb).1;have:=(hFs q hq b h).2;omega);have hfi:=HFi.out;rw[HN.out] at hfi;rw[hfi] at h1;rw[HM.out];exact⟨F',h1,fun b hb=>by
   rcases h2 b hb with h|⟨q,hq,h⟩
   ·exact .inr (ho.lt b h).1
   exact .inl (hFs q hq b h).1⟩
 clear HO HM;go_wp2;go_ret;obtain⟨F',h1,h2⟩:=HRes.out;exact⟨_,F',rfl,h1,qBq,h2⟩
def DecE (D:Shd) (base:Nat) (w:World) (e:Ending) (w':World):Prop:=∃v F',e =.returned v∧shdR.O w' base F' v D∧Below base w w'
theorem fUs {w:World} {base:Nat} {F:Nat→Prop} {v:Value} {xs:List (List Bal)} (h:balssR.O w base F v xs) {i:Nat} (hi:i<xs.length):∃g c p m q Fi,v =.slice (some ⟨g,0,none⟩) xs.length c∧w.cell? ⟨g,i,none⟩=some (.slice p m q)∧balsR.O w base Fi (.slice p m q) (xs.getD i default)∧∀b,Fi b→F b:=by
 obtain⟨cs,us,fs,hp,hF⟩:=h;rcases hp.row.2 with ⟨_,h0⟩|⟨g,cap,cur,rfl,_⟩
 ·omega
 have ho:=hp.el i hi;obtain⟨p,q,e⟩:=fD ho.1;have hcl:cs.length=xs.length*1:=hp.row.1;have hc:=hp.row.cellAt (i*1) oM;have h2:=hp.cell i hi 0 oM;rw[Nat.add_zero] at h2;rw[h2,e] at hc;refine⟨g,cap,p,(xs.getD i default).length,q,fs i,rfl,?_,?_,fun b hb=>(hF b).2 (.inr ⟨i,hi,hb⟩)⟩
 ·simpa [one] using hc
 rw[e] at ho;exact ho
theorem fU2 {d:Shd} {k o:Int} (ho:o=1∨o=2) (hh:o=1→fO d.held k=true) (h:fO d.held k=false):decS d k o=⟨d.idx,d.bals,d.votes,d.held,putM d.done ⟨k,o⟩,d.appl⟩:=by
 unfold decS;have h1:¬o=1:=fun e=>by rw[hh e] at h;cases h
 rw[if_neg h1,fQx h]
theorem fU0 {d:Shd} {k o:Int} (h:¬o=1):decS d k o=⟨d.idx,d.bals,d.votes,kN k d.held,putM d.done ⟨k,o⟩,d.appl⟩:=by unfold decS;rw[if_neg h]
theorem fU1 {d:Shd} {k o:Int} {ls:List Leg} (h:o=1) (hl:uU k d.held=ls):decS d k o=⟨d.idx,addB d.bals (onSh d.idx ls),d.votes,kN k d.held,putM d.done ⟨k,o⟩,d.appl++[k]⟩:=by unfold decS;rw[if_pos h,hl]
theorem fP1 (x:Value) (d:Shd) (k o:Int) (base:Nat) (F:Nat→Prop) (w:World) (hx:shdR.O w base F x d) (hbase:base≤w.heap.size) (hok:ShdOk d) (ho:o=1∨o=2) (hh:o=1→fO d.held k=true) :
  Calls Tryz.prog 181 #[x,.agg #[.int .i64 k,.int .i64 o]] w (DecE (decS d k o) base w):=by
 obtain⟨a1,a2,a3,a4,a5,c1,c2,c3,c4,c5,rfl⟩:=mF hx;have HX:Hid (shdR.O w base F (.agg #[.int .i64 d.idx,.slice a1 d.bals.length c1,.slice a2 d.votes.length c2,.slice a3 d.held.length c3,.slice a4 d.done.length c4,.slice a5 d.appl.length c5]) d):=hx;have HR:Hid (∀b,F b→base≤b∧b<w.heap.size):=fun b hb=>shdR.rng hx b hb
 have HOK:Hid (ShdOk d):=hok;have HLh:Hid (d.held.length≤1000):=by have:=hok.ls.nh;show _≤_;omega
 have HWm:Hid (∀W Fj,Below w.heap.size w W→mrksR.O W base Fj (.slice a4 d.done.length c4) d.done→Calls Tryz.prog 194 #[.slice a4 d.done.length c4,.agg #[.int .i64 k,.int .i64 o]] W fun e w'=>∃u F',e =.returned u∧mrksR.O w' base F' u (putM d.done ⟨k,o⟩)∧Mod Fj W w'∧∀b,F' b→Fj b∨W.heap.size≤b):=fun W Fj hW h=>fIa _ d.done ⟨k,o⟩ base Fj W h (Nat.le_trans hbase hW.size) (by have:=hok.ls.nd;omega) hok.ls.od.rise
 have HPl:Hid (∀W v,contsR.V W v d.held→Calls Tryz.prog 199 #[v,.int .i64 k] W (PlC d.held k W)):=fun W v hv=>vX v d.held k W hv (by have:=hok.ls.nh;omega) hok.held.rise
 have HHi:Hid (∀i,(∀j,j<i→(d.held.getD j default).id<k)→(∀j,i≤j→j<d.held.length→k≤(d.held.getD j default).id)→fO d.held k=decide (i<d.held.length∧(d.held.getD i default).id=k)):=fun i h1 h2=>fKc hok.held.rise h1 h2
 have HOu:Hid (fO d.held k=false→decS d k o=⟨d.idx,d.bals,d.votes,d.held,putM d.done ⟨k,o⟩,d.appl⟩):=fun h=>fU2 ho hh h
 have HL5':d.appl.length≤100:=hok.ls.na;clear hx hok ho hh;generalize hn1:d.bals.length=n1 at *;generalize hn2:d.votes.length=n2 at *;generalize hn4:d.done.length=n4 at *;generalize hn5:d.appl.length=n5 at *;have HN5:Hid (d.appl.length=n5):=hn5;have HL5:Hid (n5≤100):=HL5';clear hn1 hn2 hn4 hn5 HL5';obtain⟨n3,hn3⟩:∃n3,n3=d.held.length:=⟨_,rfl⟩
 have HN:Hid (d.held.length=n3):=hn3.symm;rw[←hn3] at HX ⊢;clear hn3;obtain⟨wq,hwq⟩:∃wq,wq=((w.alloc (.cells #[.int .i64 d.idx,.slice a1 n1 c1,.slice a2 n2 c2,.slice a3 n3 c3,.slice a4 n4 c4,.slice a5 n5 c5] 41)).alloc (.cells #[.int .i64 k,.int .i64 o] 166)).alloc (.cells #[.int .i64 0,.slice none 0 0,.slice none 0 0,.slice none 0 0,.slice none 0 0,.slice none 0 0] 41):=⟨_,rfl⟩
 have hBq:Below w.heap.size w wq:=by rw[hwq];exact qBq
 have zNq:w.heap.size+2<wq.heap.size:=by rw[hwq];simp
 have z0:wq.cell? ⟨w.heap.size,0,none⟩=some (.int .i64 d.idx):=by rw[hwq];simp[go_sem]
 have z1:wq.cell? ⟨w.heap.size,1,none⟩=some (.slice a1 n1 c1):=by rw[hwq];simp[go_sem]
 have z2:wq.cell? ⟨w.heap.size,2,none⟩=some (.slice a2 n2 c2):=by rw[hwq];simp[go_sem]
 have z3:wq.cell? ⟨w.heap.size,3,none⟩=some (.slice a3 n3 c3):=by rw[hwq];simp[go_sem]
 have z4:wq.cell? ⟨w.heap.size,4,none⟩=some (.slice a4 n4 c4):=by rw[hwq];simp[go_sem]
 have z5:wq.cell? ⟨w.heap.size,5,none⟩=some (.slice a5 n5 c5):=by rw[hwq];simp[go_sem]
 have m0:wq.cell? ⟨w.heap.size+1,0,none⟩=some (.int .i64 k):=by rw[hwq];simp[go_sem]
 have m1:wq.cell? ⟨w.heap.size+1,1,none⟩=some (.int .i64 o):=by rw[hwq];simp[go_sem]
 have r0:wq.cell? ⟨w.heap.size+2,0,none⟩=some (.int .i64 0):=by rw[hwq];simp[go_sem]
 have r1:wq.cell? ⟨w.heap.size+2,1,none⟩=some (.slice none 0 0):=by rw[hwq];simp[go_sem]
 have r2:wq.cell? ⟨w.heap.size+2,2,none⟩=some (.slice none 0 0):=by rw[hwq];simp[go_sem]
 have r3:wq.cell? ⟨w.heap.size+2,3,none⟩=some (.slice none 0 0):=by rw[hwq];simp[go_sem]
 have r4:wq.cell? ⟨w.heap.size+2,4,none⟩=some (.slice none 0 0):=by rw[hwq];simp[go_sem]
 have r5:wq.cell? ⟨w.heap.size+2,5,none⟩=some (.slice none 0 0):=by rw[hwq];simp[go_sem]
 have zf:∀o,wq.frozen? ⟨w.heap.size,o,none⟩=false:=fun o=>by rw[hwq];simp[go_sem]
 have rf:∀o,wq.frozen? ⟨w.heap.size+2,o,none⟩=false:=fun o=>by rw[hwq];simp[go_sem]
 obtain⟨F4,o4,hF4,LN4⟩:=fO9 (shdR.keep HX.out hBq);have HO4:Hid (mrksR.O wq base F4 (.slice a4 n4 c4) d.done):=o4;have HF4:Hid (∀b,F4 b→base≤b∧b<w.heap.size):=fun b hb=>HR.out b (hF4 b hb)
 have HLN4:Hid (∀(w':World) (Fj':Nat→Prop) (v:Value) (ys:List Mrk),mrksR.O w' base Fj' v ys→Mod F4 wq w'→(∀b,Fj' b→F4 b∨wq.heap.size≤b)→∃F',shdR.O w' base F' (.agg #[.int .i64 d.idx,.slice a1 n1 c1,.slice a2 n2 c2,.slice a3 n3 c3,v,.slice a5 n5 c5]) ⟨d.idx,d.bals,d.votes,d.held,ys,d.appl⟩∧∀b,F' b→F b∨wq.heap.size≤b):=LN4;clear LN4 o4 hF4 HX;go_enter Tryz.func181,Tryz.ntmps181;go_wp2_with fail;rw[←hwq];clear hwq;refine(HWm.out _ F4 hBq HO4.out).mono ?_;rintro e w1 ⟨v1,F1,rfl,o1,m1',l1⟩;obtain⟨p4,q4,rfl⟩:=fD o1.1;obtain⟨Fc,oc,hFc⟩:=HLN4.out w1 F1 _ _ o1 m1' l1;have HOc:Hid (shdR.O w1 base Fc (.agg #[.int .i64 d.idx,.slice a1 n1 c1,.slice a2 n2 c2,.slice a3 n3 c3,.slice p4 (putM d.done ⟨k,o⟩).length q4,.slice a5 n5 c5]) ⟨d.idx,d.bals,d.votes,d.held,putM d.done ⟨k,o⟩,d.appl⟩):=oc;have HFc:Hid (∀b,Fc b→b<w.heap.size∨w.heap.size+3≤b):=fun b hb=>(hFc b hb).elim (fun h=>.inl (HR.out b h).2) (fun h=>oM)
 have nz:¬F4 w.heap.size:=fun h=>by have:=(HF4.out _ h).2;omega
 have nm:¬F4 (w.heap.size+1):=fun h=>by have:=(HF4.out _ h).2;omega
 have nr:¬F4 (w.heap.size+2):=fun h=>by have:=(HF4.out _ h).2;omega
 have hB1:Below base w w1:=m1'.below (hBq.mono hbase) oM (fun b hb=>(HF4.out b hb).1);replace z0:=m1'.cell z0 nz;replace z1:=m1'.cell z1 nz;replace z2:=m1'.cell z2 nz;replace z3:=m1'.cell z3 nz;replace z4:=m1'.cell z4 nz;replace z5:=m1'.cell z5 nz;replace m0:=m1'.cell m0 nm;replace m1:=m1'.cell m1 nm;replace r0:=m1'.cell r0 nr;replace r1:=m1'.cell r1 nr;replace r2:=m1'.cell r2 nr;replace r3:=m1'.cell r3 nr;replace r4:=m1'.cell r4 nr;replace r5:=m1'.cell r5 nr;replace zf:∀o,World.frozen? w1 ⟨w.heap.size,o,none⟩=false:=fun o=>(m1'.frz10 (a:=⟨w.heap.size,o,none⟩) (by dsimp only;omega) nz).trans (zf o)
 replace rf:∀o,World.frozen? w1 ⟨w.heap.size+2,o,none⟩=false:=fun o=>(m1'.frz10 (a:=⟨w.heap.size+2,o,none⟩) (by dsimp only;omega) nr).trans (rf o)
 have zN1:w.heap.size+2<w1.heap.size:=Nat.lt_of_lt_of_le zNq m1'.size;clear o1 m1' l1 oc hFc HLN4 HO4 HWm nz nm nr;generalize (putM d.done ⟨k,o⟩).length=np at *;go_wp2_with fail;obtain⟨V1,hEV1⟩:∃W,W=w1.setCell ⟨w.heap.size,4,none⟩ (.slice p4 np q4):=⟨_,rfl⟩
 rw[←hEV1];have hmV1:Mod (fun b=>b=w.heap.size) w1 V1:=by rw[hEV1];exact Mod.of_set w1 ⟨w.heap.size,4,none⟩ _
 replace z0:V1.cell? ⟨w.heap.size,0,none⟩=some (.int .i64 d.idx):=by rw[hEV1];simp[go_sem,z0,zf]
 replace z1:V1.cell? ⟨w.heap.size,1,none⟩=some (.slice a1 n1 c1):=by rw[hEV1];simp[go_sem,z1,zf]
 replace z2:V1.cell? ⟨w.heap.size,2,none⟩=some (.slice a2 n2 c2):=by rw[hEV1];simp[go_sem,z2,zf]
 replace z3:V1.cell? ⟨w.heap.size,3,none⟩=some (.slice a3 n3 c3):=by rw[hEV1];simp[go_sem,z3,zf]
 replace z4:V1.cell? ⟨w.heap.size,4,none⟩=some (.slice p4 np q4):=by rw[hEV1];simp[go_sem,z4,zf]
 replace z5:V1.cell? ⟨w.heap.size,5,none⟩=some (.slice a5 n5 c5):=by rw[hEV1];simp[go_sem,z5,zf]
 replace zf:∀o,V1.frozen? ⟨w.heap.size,o,none⟩=false:=fun o=>by rw[hEV1];simp[go_sem,zf]
 clear hEV1;replace m0:=hmV1.cell m0 (show w.heap.size+1≠w.heap.size by omega);replace m1:=hmV1.cell m1 (show w.heap.size+1≠w.heap.size by omega);replace r0:=hmV1.cell r0 (show w.heap.size+2≠w.heap.size by omega);replace r1:=hmV1.cell r1 (show w.heap.size+2≠w.heap.size by omega);replace r2:=hmV1.cell r2 (show w.heap.size+2≠w.heap.size by omega);replace r3:=hmV1.cell r3 (show w.heap.size+2≠w.heap.size by omega);replace r4:=hmV1.cell r4 (show w.heap.size+2≠w.heap.size by omega);replace r5:=hmV1.cell r5 (show w.heap.size+2≠w.heap.size by omega);replace rf:∀o,V1.frozen? ⟨w.heap.size+2,o,none⟩=false:=fun o=>(hmV1.frz10 (a:=⟨w.heap.size+2,o,none⟩) (by dsimp only;omega) (show w.heap.size+2≠w.heap.size by omega)).trans (rf o)
 have zNV1:w.heap.size+2<V1.heap.size:=Nat.lt_of_lt_of_le oM hmV1.size;have HOv:Hid (shdR.O V1 base Fc (.agg #[.int .i64 d.idx,.slice a1 n1 c1,.slice a2 n2 c2,.slice a3 n3 c3,.slice p4 np q4,.slice a5 n5 c5]) ⟨d.idx,d.bals,d.votes,d.held,putM d.done ⟨k,o⟩,d.appl⟩):=shdR.mod HOc.out hmV1 (fun b hb e=>by have:=HFc.out b hb;omega);have hBV:Below base w V1:=hmV1.below hB1 oM (fun b e=>by rw[e];exact hbase);clear hmV1 HOc hB1;have HPl1:Hid (Calls Tryz.prog 199 #[.slice a3 n3 c3,.int .i64 k] V1 (PlC d.held k V1)):=by
  obtain⟨G,hG,_⟩:=vQ (d:=⟨d.idx,d.bals,d.votes,d.held,putM d.done ⟨k,o⟩,d.appl⟩) HOv.out;exact HPl.out V1 _ (contsR.ofO hG)
 refine HPl1.out.mono ?_;rintro e W1 ⟨i,hi,rfl,p1,p2,hbP⟩;have HO:Hid (shdR.O W1 base Fc (.agg #[.int .i64 d.idx,.slice a1 n1 c1,.slice a2 n2 c2,.slice a3 n3 c3,.slice p4 np q4,.slice a5 n5 c5]) ⟨d.idx,d.bals,d.votes,d.held,putM d.done ⟨k,o⟩,d.appl⟩):=shdR.keep HOv.out hbP;have hBW:Below base w W1:=Below.trans hBV (hbP.mono oM);have HH:=HHi.out i p1 p2;replace z0:=cK hbP z0;replace z1:=cK hbP z1;replace z2:=cK hbP z2;replace z3:=cK hbP z3;replace z4:=cK hbP z4;replace z5:=cK hbP z5;replace m0:=cK hbP m0;replace m1:=cK hbP m1;replace r0:=cK hbP r0;replace r1:=cK hbP r1;replace r2:=cK hbP r2;replace r3:=cK hbP r3;replace r4:=cK hbP r4;replace r5:=cK hbP r5;replace zf:∀o,World.frozen? W1 ⟨w.heap.size,o,none⟩=false:=fun o=>by rw[(bcell hbP).2 _ _ oM];exact zf o
 replace rf:∀o,World.frozen? W1 ⟨w.heap.size+2,o,none⟩=false:=fun o=>by rw[(bcell hbP).2 _ _ oM];exact rf o
 have zNW1:w.heap.size+2<W1.heap.size:=by have:=hbP.size;omega
 clear hbP HOv hBV HPl HPl1 HHi;by_cases hfd:i<d.held.length∧(d.held.getD i default).id=k;rotate_left
 ·rw[decide_eq_false hfd] at HH ⊢;have HC:Hid _:=HOu.out HH;clear HOu HH hfd p1 p2 hi;go_wp2;refine bodyPost_ret (v:=.agg #[.int .i64 d.idx,.slice a1 n1 c1,.slice a2 n2 c2,.slice a3 n3 c3,.slice p4 np q4,.slice a5 n5 c5]) (by simp[results,Tryz.results181,go_sem,r0,r1,r2,r3,r4,r5,rf]) rfl ?_;have hbN:base≤w.heap.size:=hbase;have hbR:base≤w.heap.size+2:=oM;rw[HC.out];exact⟨_,Fc,rfl,fVw shdR (HO.out) (fun h=>by have:=HFc.out _ h;omega) _ _ _ _ _ _,((((((hBW).setCell (p:=⟨w.heap.size+2,0,none⟩) hbR _).setCell (p:=⟨w.heap.size+2,1,none⟩) hbR _).setCell (p:=⟨w.heap.size+2,2,none⟩) hbR _).setCell (p:=⟨w.heap.size+2,3,none⟩) hbR _).setCell (p:=⟨w.heap.size+2,4,none⟩) hbR _).setCell (p:=⟨w.heap.size+2,5,none⟩) hbR _⟩
 rw[decide_eq_true hfd];clear HOu HH;by_cases ho1:o=1;rotate_left
 ·
  have HC:Hid (decS d k o=⟨d.idx,d.bals,d.votes,kN k d.held,putM d.done ⟨k,o⟩,d.appl⟩):=fU0 ho1;have ho':(o==1)=false:=by simpa using ho1
  clear hfd p1 p2 ho1;go_wp2_with fail;obtain⟨G3,o3,hG3,LN3⟩:=vQ (d:=⟨d.idx,d.bals,d.votes,d.held,putM d.done ⟨k,o⟩,d.appl⟩) HO.out;have HLN3:Hid (∀(w':World) (Fj':Nat→Prop) (v:Value) (ys:List Cont),contsR.O w' base Fj' v ys→Mod G3 W1 w'→(∀b,Fj' b→G3 b∨W1.heap.size≤b)→∃F',shdR.O w' base F' (.agg #[.int .i64 d.idx,.slice a1 n1 c1,.slice a2 n2 c2,v,.slice p4 np q4,.slice a5 n5 c5]) ⟨d.idx,d.bals,d.votes,ys,putM d.done ⟨k,o⟩,d.appl⟩∧∀b,F' b→Fc b∨W1.heap.size≤b):=LN3;have HO3:Hid (contsR.O W1 base G3 (.slice a3 n3 c3) d.held):=o3;clear LN3 o3 hG3;have HLf:Hid (Calls Tryz.prog 205 #[.slice a3 n3 c3,.func (.func 206) #[] #[.pointer (some ⟨w.heap.size+1,0,none⟩)]] W1 fun e w'=>∃v F',e =.returned v∧contsR.O w' base F' v (kN k d.held)∧Below W1.heap.size W1 w'∧∀b,F' b→G3 b∨W1.heap.size≤b):=fOp _ d.held k (w.heap.size+1) base G3 W1 HO3.out m0 oM HLh.out;refine HLf.out.mono ?_;rintro e w8 ⟨v8,F8,rfl,o8,hb8,hF8⟩;obtain⟨F9,o9,hF9⟩:=HLN3.out w8 F8 _ _ o8 (Mod.of_below hb8) hF8;obtain⟨p8,q8,e8⟩:=fM (contsR.ofO o8);subst e8;have HO8:Hid (shdR.O w8 base F9 (.agg #[.int .i64 d.idx,.slice a1 n1 c1,.slice a2 n2 c2,.slice p8 (kN k d.held).length q8,.slice p4 np q4,.slice a5 n5 c5]) ⟨d.idx,d.bals,d.votes,kN k d.held,putM d.done ⟨k,o⟩,d.appl⟩):=o9;have HF9:Hid (∀b,F9 b→b<w.heap.size∨w.heap.size+3≤b):=fun b hb=>(hF9 b hb).elim (fun h=>HFc.out b h) (fun h=>oM)
  have hB8:Below base w w8:=Below.trans hBW (hb8.mono oM);generalize (kN k d.held).length=m8 at *;replace z0:=cK hb8 z0;replace z1:=cK hb8 z1;replace z2:=cK hb8 z2;replace z3:=cK hb8 z3;replace z4:=cK hb8 z4;replace z5:=cK hb8 z5;replace m0:=cK hb8 m0;replace m1:=cK hb8 m1;replace r0:=cK hb8 r0;replace r1:=cK hb8 r1;replace r2:=cK hb8 r2;replace r3:=cK hb8 r3;replace r4:=cK hb8 r4;replace r5:=cK hb8 r5;replace zf:∀o,World.frozen? w8 ⟨w.heap.size,o,none⟩=false:=fun o=>by rw[(bcell hb8).2 _ _ oM];exact zf o
  replace rf:∀o,World.frozen? w8 ⟨w.heap.size+2,o,none⟩=false:=fun o=>by rw[(bcell hb8).2 _ _ oM];exact rf o
  have zN8:w.heap.size+2<w8.heap.size:=by have:=hb8.size;omega
  clear o8 hb8 hF8 o9 hF9 HLN3 HO3 HLf HO HFc hBW;go_wp2;refine bodyPost_ret (v:=.agg #[.int .i64 d.idx,.slice a1 n1 c1,.slice a2 n2 c2,.slice p8 m8 q8,.slice p4 np q4,.slice a5 n5 c5]) (by simp[results,Tryz.results181,go_sem,r0,r1,r2,r3,r4,r5,rf]) rfl ?_;have hbN:base≤w.heap.size:=hbase;have hbR:base≤w.heap.size+2:=oM;rw[HC.out];exact⟨_,F9,rfl,fVw shdR (fRa shdR HO8.out (fun h=>by have:=HF9.out _ h;omega) _) (fun h=>by have:=HF9.out _ h;omega) _ _ _ _ _ _,(((((((hB8).setCell (p:=⟨w.heap.size,3,none⟩) hbN _).setCell (p:=⟨w.heap.size+2,0,none⟩) hbR _).setCell (p:=⟨w.heap.size+2,1,none⟩) hbR _).setCell (p:=⟨w.heap.size+2,2,none⟩) hbR _).setCell (p:=⟨w.heap.size+2,3,none⟩) hbR _).setCell (p:=⟨w.heap.size+2,4,none⟩) hbR _).setCell (p:=⟨w.heap.size+2,5,none⟩) hbR _⟩
 obtain⟨hif,hik⟩:=hfd;have hi1:(i:Int)<n3:=by rw[HN.out] at hif;omega
 have hi2:(0:Int)≤i:=oM;have HLg:Hid (uU k d.held=(d.held.getD i default).legs):=fEr hif hik p1;have HC:Hid (decS d k o=⟨d.idx,addB d.bals (onSh d.idx (d.held.getD i default).legs),d.votes,kN k d.held,putM d.done ⟨k,o⟩,d.appl++[k]⟩):=fU1 ho1 HLg.out;have hfl:∀l ∈ (d.held.getD i default).legs,gI l=0:=HOK.out.held.fault hif
 have h8l:(d.held.getD i default).legs.length≤8:=HOK.out.held.len hif;have HGS:Hid (tJ ⟨mM d.idx d.bals⟩=0):=fIr (pE HOK.out.base).2;have HIx:Hid (0≤d.idx∧d.idx≤2):=(pE HOK.out.base).1;have HST:Hid ((1≤(mM d.idx d.bals).length∧(mM d.idx d.bals).length≤3)∧_):=fJc (g:=⟨mM d.idx d.bals⟩) (ls:=onSh d.idx (d.held.getD i default).legs) HGS.out (fun l hl=>⟨hfl l (List.mem_filter.1 hl).1,by
  have h2:=(List.mem_filter.1 hl).2;simp only[beq_iff_eq] at h2;show l.sh<((mM d.idx d.bals).length:Int);have:(mM d.idx d.bals).length=3:=rfl;have:=HIx.out;omega⟩) (Nat.le_trans (List.length_filter_le _ _) h8l)
 have HVV:Hid (shdR.V W1 (.agg #[.int .i64 d.idx,.slice a1 n1 c1,.slice a2 n2 c2,.slice a3 n3 c3,.slice p4 np q4,.slice a5 n5 c5]) ⟨d.idx,d.bals,d.votes,d.held,putM d.done ⟨k,o⟩,d.appl⟩):=shdR.ofO HO.out;obtain⟨bx,ox,pp,qq,g0,g1,hV⟩:∃bx ox pp qq,W1.cell? ⟨bx,ox+i*2,none⟩=some (.int .i64 (d.held.getD i default).id)∧W1.cell? ⟨bx,ox+i*2+1,none⟩=some (.slice pp (d.held.getD i default).legs.length qq)∧(a3=some ⟨bx,ox,none⟩∧legsR.V W1 (.slice pp (d.held.getD i default).legs.length qq) (d.held.getD i default).legs):=by
  obtain⟨v1,v2,v3,v4,v5,e,_,_,h3,_⟩:=HVV.out;simp only[Value.agg.injEq,Array.mk.injEq,List.cons.injEq,and_true,true_and] at e;obtain⟨_,_,rfl,_⟩:=e;obtain⟨a,c,e3,_,_,hx3⟩:=qH h3;obtain⟨b,o',p,q,ea,c0,c1,hv⟩:=hx3 i hif;simp only[Value.slice.injEq] at e3;obtain⟨rfl,_⟩:=e3;obtain⟨u,eu,hu⟩:=hv;simp only[Value.agg.injEq,Array.mk.injEq,List.cons.injEq,and_true,true_and] at eu;exact⟨b,o',p,q,c0,c1,ea,by rw[eu];exact hu⟩
 obtain⟨ea3,hVl⟩:=hV;subst ea3;have HVL:Hid (bW W1 fun W=>legsR.V W (.slice pp (d.held.getD i default).legs.length qq) (d.held.getD i default).legs):=fun W hW=>legsR.below hVl hW
 have HBo:Hid (bW W1 fun W=>Calls Tryz.prog 198 #[.agg #[.int .i64 d.idx,.slice a1 n1 c1,.slice a2 n2 c2,.slice (some ⟨bx,ox,none⟩) n3 c3,.slice p4 np q4,.slice a5 n5 c5]] W fun e w'=>∃b,e =.returned (.agg #[.int .i64 3,.map (some b)])∧W.heap.size≤b∧Book w' b 54 (kY (mM d.idx d.bals))∧Below W.heap.size W w'):=fun W hW=>yX _ ⟨d.idx,d.bals,d.votes,d.held,putM d.done ⟨k,o⟩,d.appl⟩ W (shdR.below HVV.out hW) HOK.out.base
 have HLo:Hid (bW W1 fun W=>Calls Tryz.prog 192 #[.slice pp (d.held.getD i default).legs.length qq,.int .i64 d.idx] W fun e w'=>∃v,e =.returned v∧w'.ownsRow W.heap.size 168 4 v (onSh d.idx (d.held.getD i default).legs).length (gN (onSh d.idx (d.held.getD i default).legs))∧Below W.heap.size W w'):=fun W hW=>xK _ _ _ W (HVL.out W hW) oM
 have HAd:Hid (∀W b y,Book W b 54 (kY (mM d.idx d.bals))→legsR.V W y (onSh d.idx (d.held.getD i default).legs)→Calls Tryz.prog 203 #[.agg #[.int .i64 3,.map (some b)],y] W fun e w'=>e =.returned (.tuple #[])∧∃m',Book w' b m' (pO (kY (mM d.idx d.bals)) (onSh d.idx (d.held.getD i default).legs))∧Mod (fun i=>i=b) W w'):=fun W b y hB hy=>by
  obtain⟨_,_,_,_,h5⟩:=HST.out;refine(fLx 3 b 54 _ _ _ W hB hy (by have:=List.length_filter_le (fun l:Leg=>l.sh==d.idx) (d.held.getD i default).legs;unfold onSh;omega) h5).mono ?_;rintro e w' ⟨rfl,m',_,h1,h2⟩;exact⟨rfl,m',h1,h2⟩
 have HLd:Hid (∀W b m,Book W b m (pO (kY (mM d.idx d.bals)) (onSh d.idx (d.held.getD i default).legs))→Calls Tryz.prog 204 #[.agg #[.int .i64 3,.map (some b)]] W fun e w'=>∃v F,e =.returned (.agg #[v])∧balssR.O w' W.heap.size F v (rJ (mM d.idx d.bals) (onSh d.idx (d.held.getD i default).legs))∧Below W.heap.size W w'):=fun W b m hB=>by
  obtain⟨⟨h1,h3⟩,hr,hk,hs,h5⟩:=HST.out;have hd:=fMp hr hk hs;refine(fF9 3 b m _ W hB oM oM hd).mono ?_;rintro e w' ⟨v,F,ys,rfl,hD,hP,hO,hb⟩;refine⟨v,F,rfl,?_,hb⟩;rw[←fMz hr hk (by show(mM d.idx d.bals).length≤200;omega) hd hD hP (hs':=(List.range 3).map (shK (pO (kY (mM d.idx d.bals)) (onSh d.idx (d.held.getD i default).legs)) ys)) (by simp[mM]) (fun i hi=>by
   have hi3:i<3:=hi;simp[List.getD,hi3])]
  exact hO
 have HSe:Hid ((rJ (mM d.idx d.bals) (onSh d.idx (d.held.getD i default).legs)).getD d.idx.toNat default=addB d.bals (onSh d.idx (d.held.getD i default).legs)):=fMb HIx.out;have HSl:Hid ((rJ (mM d.idx d.bals) (onSh d.idx (d.held.getD i default).legs)).length=3):=by show _=_;rw[fA0];rfl
 have ho':(o==1)=true:=by simp[ho1]
 obtain⟨ix,hix⟩:∃ix:Nat,d.idx=(ix:Int):=⟨d.idx.toNat,by have:=HIx.out;omega⟩
 have hixl:ix<3:=by have:=HIx.out;omega
 have HIX:Hid (d.idx=(ix:Int)∧d.idx.toNat=ix):=⟨hix,by omega⟩;have zbx0:=wL W1 _ g1;dsimp only at zbx0;clear hfl hVl g0 HST HGS hik p1 p2 HVV ho1 hix;try clear HLg
 generalize hll:(d.held.getD i default).legs.length=ll at *;clear hll h8l;go_wp2_with fail;refine(HBo.out _ (bR _ _)).mono ?_;rintro e w2 ⟨b,rfl,hbb,hbk,hb2⟩;have HBk:Hid (Book w2 b 54 (kY (mM d.idx d.bals))):=hbk;have zb:=hbk.lt;clear hbk HBo;have HO2:Hid (shdR.O w2 base Fc (.agg #[.int .i64 d.idx,.slice a1 n1 c1,.slice a2 n2 c2,.slice (some ⟨bx,ox,none⟩) n3 c3,.slice p4 np q4,.slice a5 n5 c5]) ⟨d.idx,d.bals,d.votes,d.held,putM d.done ⟨k,o⟩,d.appl⟩):=shdR.keep HO.out hb2;have hB2:Below base w w2:=Below.trans hBW (hb2.mono oM);replace z0:=cK hb2 z0;replace z1:=cK hb2 z1;replace z2:=cK hb2 z2;replace z3:=cK hb2 z3;replace z4:=cK hb2 z4;replace z5:=cK hb2 z5;replace m0:=cK hb2 m0;replace m1:=cK hb2 m1;replace r0:=cK hb2 r0;replace r1:=cK hb2 r1;replace r2:=cK hb2 r2;replace r3:=cK hb2 r3;replace r4:=cK hb2 r4;replace r5:=cK hb2 r5;replace zf:∀o,World.frozen? w2 ⟨w.heap.size,o,none⟩=false:=fun o=>by rw[(bcell hb2).2 _ _ oM];exact zf o
 replace rf:∀o,World.frozen? w2 ⟨w.heap.size+2,o,none⟩=false:=fun o=>by rw[(bcell hb2).2 _ _ oM];exact rf o
 replace g1:=cK hb2 g1;have zN2:w.heap.size+2<w2.heap.size:=by have:=hb2.size;omega
 have zbx:bx<w2.heap.size:=wL w2 _ g1;go_wp2;obtain⟨w3,hw3⟩:∃w3,w3=w2.alloc (.cells #[.int .i64 3,.map (some b)] 227):=⟨_,rfl⟩
 have hb3:Below w2.heap.size w2 w3:=by rw[hw3];exact qBq
 have k0:w3.cell? ⟨w2.heap.size,0,none⟩=some (.int .i64 3):=by rw[hw3];simp[go_sem]
 have k1:w3.cell? ⟨w2.heap.size,1,none⟩=some (.map (some b)):=by rw[hw3];simp[go_sem]
 rw[←hw3];clear hw3;have HBk3:Hid (Book w3 b 54 (kY (mM d.idx d.bals))):=HBk.out.below hb3;have HO3':Hid (shdR.O w3 base Fc (.agg #[.int .i64 d.idx,.slice a1 n1 c1,.slice a2 n2 c2,.slice (some ⟨bx,ox,none⟩) n3 c3,.slice p4 np q4,.slice a5 n5 c5]) ⟨d.idx,d.bals,d.votes,d.held,putM d.done ⟨k,o⟩,d.appl⟩):=shdR.keep HO2.out hb3;have hB3:Below base w w3:=Below.trans hB2 (hb3.mono oM);have hb13:Below W1.heap.size W1 w3:=bS hb2 hb3;replace z0:=cK hb3 z0;replace z1:=cK hb3 z1;replace z2:=cK hb3 z2;replace z3:=cK hb3 z3;replace z4:=cK hb3 z4;replace z5:=cK hb3 z5;replace m0:=cK hb3 m0;replace m1:=cK hb3 m1;replace r0:=cK hb3 r0;replace r1:=cK hb3 r1;replace r2:=cK hb3 r2;replace r3:=cK hb3 r3;replace r4:=cK hb3 r4;replace r5:=cK hb3 r5;replace zf:∀o,World.frozen? w3 ⟨w.heap.size,o,none⟩=false:=fun o=>by rw[(bcell hb3).2 _ _ oM];exact zf o
 replace rf:∀o,World.frozen? w3 ⟨w.heap.size+2,o,none⟩=false:=fun o=>by rw[(bcell hb3).2 _ _ oM];exact rf o
 replace g1:=cK hb3 g1;have zN3:w.heap.size+2<w3.heap.size:=by have:=hb3.size;omega
 have zk:w2.heap.size<w3.heap.size:=wL w3 _ k0;have nbk:w2.heap.size≠b:=oM;clear HBk HO2 hB2 hb3;have hbd3:Below w3.heap.size w3 w3.drew:=qBq;refine wp_region_noPanic ?_;refine fB (fun W=>Mod (fun j=>j=b) w3 W∧W.cell? ⟨w2.heap.size,0,none⟩=some (.int .i64 3)∧W.cell? ⟨w2.heap.size,1,none⟩=some (.map (some b))∧W.cell? ⟨w.heap.size,3,none⟩=some (.slice (some ⟨bx,ox,none⟩) n3 c3)∧W.cell? ⟨bx,ox+i*2+1,none⟩=some (.slice pp ll qq)∧W.cell? ⟨w.heap.size,0,none⟩=some (.int .i64 d.idx)) 11 kF ⟨Mod.of_below hbd3,cK hbd3 k0,cK hbd3 k1,cK hbd3 z3,cK hbd3 g1,cK hbd3 z0⟩ (fun hS=>?_);refine tX 0 ?_;refine tX 1 ?_;refine tX 2 ?_;refine tX 3 ?_;refine tX 4 ?_;refine tX 5 ?_;refine tX 6 ?_;refine tX 7 ?_;refine tX 8 ?_;refine uS 9 rfl (fun K hK=>?_);go_simp;refine(HLo.out _ (bS hb13 hbd3)).mono ?_;rintro e w4 ⟨v4,rfl,o4,hb4⟩;obtain⟨al,cl,rfl⟩:=fD o4;have hb34:Below w3.heap.size w3 w4:=bS hbd3 hb4;have HVo:Hid (legsR.V w4 (.slice al (onSh d.idx (d.held.getD i default).legs).length cl) (onSh d.idx (d.held.getD i default).legs)):=gV o4;refine hK _ _ (fun _=>⟨Mod.of_below hb34,cK hb34 k0,cK hb34 k1,cK hb34 z3,cK hb34 g1,cK hb34 z0⟩) ?_;clear hK K hS o4 hb4;generalize hol:(onSh d.idx (d.held.getD i default).legs).length=ol at *;clear hol;try simp only[jX]
 refine uS 10 rfl (fun K hK=>?_);go_simp;refine(HAd.out _ b _ (HBk3.out.below hb34) HVo.out).mono ?_;rintro e w5 ⟨rfl,m5,hbk5,hm5⟩;have hm35:Mod (fun j=>j=b) w3 w5:=(Mod.of_below hb34).trans hm5;have nz:w.heap.size≠b:=oM;have nm:w.heap.size+1≠b:=oM;have nr:w.heap.size+2≠b:=oM;have nx:bx≠b:=oM;refine hK _ _ (fun _=>⟨hm35,hm35.cell k0 nbk,hm35.cell k1 nbk,hm35.cell z3 nz,hm35.cell g1 nx,hm35.cell z0 nz⟩) ?_;clear hK K;have HBk5:Hid (Book w5 b m5 (pO (kY (mM d.idx d.bals)) (onSh d.idx (d.held.getD i default).legs))):=hbk5;have nFc:¬Fc b:=fun h=>by have:=(shdR.rng HO.out b h).2;omega
 have HO5:Hid (shdR.O w5 base Fc (.agg #[.int .i64 d.idx,.slice a1 n1 c1,.slice a2 n2 c2,.slice (some ⟨bx,ox,none⟩) n3 c3,.slice p4 np q4,.slice a5 n5 c5]) ⟨d.idx,d.bals,d.votes,d.held,putM d.done ⟨k,o⟩,d.appl⟩):=shdR.mod HO3'.out hm35 (fun b' hb' e=>nFc (e▸hb'));have hB5:Below base w w5:=hm35.below hB3 oM (fun b' e=>by rw[e];omega);replace k0:=hm35.cell k0 nbk;replace k1:=hm35.cell k1 nbk;replace z0:=hm35.cell z0 nz;replace z1:=hm35.cell z1 nz;replace z2:=hm35.cell z2 nz;replace z3:=hm35.cell z3 nz;replace z4:=hm35.cell z4 nz;replace z5:=hm35.cell z5 nz;replace m0:=hm35.cell m0 nm;replace m1:=hm35.cell m1 nm;replace r0:=hm35.cell r0 nr;replace r1:=hm35.cell r1 nr;replace r2:=hm35.cell r2 nr;replace r3:=hm35.cell r3 nr;replace r4:=hm35.cell r4 nr;replace r5:=hm35.cell r5 nr;replace zf:∀o,World.frozen? w5 ⟨w.heap.size,o,none⟩=false:=fun o=>(hm35.frz10 (a:=⟨w.heap.size,o,none⟩) (by dsimp only;omega) nz).trans (zf o)
 replace rf:∀o,World.frozen? w5 ⟨w.heap.size+2,o,none⟩=false:=fun o=>(hm35.frz10 (a:=⟨w.heap.size+2,o,none⟩) (by dsimp only;omega) nr).trans (rf o)
 have zN5:w.heap.size+2<w5.heap.size:=Nat.lt_of_lt_of_le zN3 hm35.size;have z35:=hm35.size;clear hbk5 hm5 hm35 HBk3 HO3' hB3 HVo HAd HLo g1 hb34;try simp only[jX]
 refine dP ?_;go_wp2;refine wp_region_noPanic ?_;have hbd5:Below w5.heap.size w5 w5.drew:=qBq;refine fB (fun W=>Below w5.heap.size w5 W∧W.cell? ⟨w2.heap.size,0,none⟩=some (.int .i64 3)∧W.cell? ⟨w2.heap.size,1,none⟩=some (.map (some b))∧W.cell? ⟨w.heap.size,0,none⟩=some (.int .i64 d.idx)) 8 kF ⟨hbd5,cK hbd5 k0,cK hbd5 k1,cK hbd5 z0⟩ (fun hS=>?_);refine tY 0 ?_;refine tY 3 ?_;refine tY 4 ?_;refine uS 1 rfl (fun K hK=>?_);go_simp;refine(HLd.out _ b m5 (HBk5.out.below hbd5)).mono ?_;rintro e w6 ⟨v6,F6,rfl,o6,hb6⟩;have hb56:Below w5.heap.size w5 w6:=bS hbd5 hb6;obtain⟨gg,cg,pb,mb,qb,Fb,e6,gc,ob,hFb⟩:=fUs o6 (i:=ix) (by rw[HSl.out];exact hixl);rw[HSl.out] at e6;rw[show(rJ (mM d.idx d.bals) (onSh d.idx (d.held.getD i default).legs)).getD ix default=addB d.bals (onSh d.idx (d.held.getD i default).legs) by rw[←HIX.out.2];exact HSe.out] at ob;subst e6;have HRb:Hid (∀b',Fb b'→w5.heap.size≤b'):=fun b' hb'=>by have:=(balssR.rng o6 b' (hFb b' hb')).1;have:=hbd5.size;omega
 have HOb:Hid (balsR.O w6 base Fb (.slice pb mb qb) (addB d.bals (onSh d.idx (d.held.getD i default).legs))):=balsR.base ob (by have:=hbd5.size;omega);refine hK _ _ (fun _=>⟨hb56,cK hb56 k0,cK hb56 k1,cK hb56 z0⟩) ?_;clear hK K hS o6 hb6 ob hFb HLd HBk5;have hix':d.idx=(ix:Int):=HIX.out.1;have hS6:=And.intro hb56 (And.intro (cK hb56 k0) (And.intro (cK hb56 k1) (cK hb56 z0)));have ixn:(ix:Int)<3:=oM;have ixp:(0:Int)≤ix:=oM;try simp only[jX]
 refine uS 2 rfl (fun K hK=>?_);go_simp;refine hK _ _ (fun _=>hS6) ?_;clear hK K;try simp only[jX]
 refine uS 5 rfl (fun K hK=>?_);rw[hix'] at *;go_simp;refine hK _ _ (fun _=>hS6) ?_;clear hK K;try simp only[jX]
 refine uS 6 rfl (fun K hK=>?_);go_simp;refine hK _ _ (fun _=>hS6) ?_;clear hK K;try simp only[jX]
 refine uS 7 rfl (fun K hK=>?_);go_simp;refine hK _ _ (fun _=>hS6) ?_;clear hK K;replace z0:=cK hb56 z0;replace z1:=cK hb56 z1;replace z2:=cK hb56 z2;replace z3:=cK hb56 z3;replace z4:=cK hb56 z4;replace z5:=cK hb56 z5;replace m0:=cK hb56 m0;replace m1:=cK hb56 m1;replace r0:=cK hb56 r0;replace r1:=cK hb56 r1;replace r2:=cK hb56 r2;replace r3:=cK hb56 r3;replace r4:=cK hb56 r4;replace r5:=cK hb56 r5;replace zf:∀o,World.frozen? w6 ⟨w.heap.size,o,none⟩=false:=fun o=>by rw[(bcell hb56).2 _ _ oM];exact zf o
 replace rf:∀o,World.frozen? w6 ⟨w.heap.size+2,o,none⟩=false:=fun o=>by rw[(bcell hb56).2 _ _ oM];exact rf o
 have zN6:w.heap.size+2<w6.heap.size:=by have:=hb56.size;omega
 obtain⟨G1,og1,hG1,LN1⟩:=fO8 (d:=⟨d.idx,d.bals,d.votes,d.held,putM d.done ⟨k,o⟩,d.appl⟩) HO5.out;obtain⟨F7,o7,hF7⟩:=LN1 w6 Fb _ _ HOb.out (Mod.of_below hb56) (fun b' hb'=>.inr (HRb.out b' hb'));have HO7:Hid (shdR.O w6 base F7 (.agg #[.int .i64 d.idx,.slice pb mb qb,.slice a2 n2 c2,.slice (some ⟨bx,ox,none⟩) n3 c3,.slice p4 np q4,.slice a5 n5 c5]) ⟨d.idx,addB d.bals (onSh d.idx (d.held.getD i default).legs),d.votes,d.held,putM d.done ⟨k,o⟩,d.appl⟩):=o7;have HF7:Hid (∀b',F7 b'→b'<w.heap.size∨w.heap.size+3≤b'):=fun b' hb'=>(hF7 b' hb').elim (fun h=>HFc.out b' h) (fun h=>oM)
 have hB6:Below base w w6:=Below.trans hB5 (hb56.mono oM);clear o7 hF7 LN1 og1 hG1 HOb HRb HO5 hb56 hB5 HO HFc hBW;try simp only[jX]
 refine uS 8 rfl (fun K hK=>?_);go_simp;refine hK _ _ (fun h=>absurd rfl h) ?_;clear hK K hS6;refine dP ?_;obtain⟨W6,hEW6⟩:∃W,W=w6.setCell ⟨w.heap.size,1,none⟩ (.slice pb mb qb):=⟨_,rfl⟩
 rw[←hEW6];have hmW6:Mod (fun b=>b=w.heap.size) w6 W6:=by rw[hEW6];exact Mod.of_set w6 ⟨w.heap.size,1,none⟩ _
 replace z0:W6.cell? ⟨w.heap.size,0,none⟩=some (.int .i64 d.idx):=by rw[hEW6];simp[go_sem,z0,zf]
 replace z1:W6.cell? ⟨w.heap.size,1,none⟩=some (.slice pb mb qb):=by rw[hEW6];simp[go_sem,z1,zf]
 replace z2:W6.cell? ⟨w.heap.size,2,none⟩=some (.slice a2 n2 c2):=by rw[hEW6];simp[go_sem,z2,zf]
 replace z3:W6.cell? ⟨w.heap.size,3,none⟩=some (.slice (some ⟨bx,ox,none⟩) n3 c3):=by rw[hEW6];simp[go_sem,z3,zf]
 replace z4:W6.cell? ⟨w.heap.size,4,none⟩=some (.slice p4 np q4):=by rw[hEW6];simp[go_sem,z4,zf]
 replace z5:W6.cell? ⟨w.heap.size,5,none⟩=some (.slice a5 n5 c5):=by rw[hEW6];simp[go_sem,z5,zf]
 replace zf:∀o,W6.frozen? ⟨w.heap.size,o,none⟩=false:=fun o=>by rw[hEW6];simp[go_sem,zf]
 clear hEW6;replace m0:=hmW6.cell m0 (show w.heap.size+1≠w.heap.size by omega);replace m1:=hmW6.cell m1 (show w.heap.size+1≠w.heap.size by omega);replace r0:=hmW6.cell r0 (show w.heap.size+2≠w.heap.size by omega);replace r1:=hmW6.cell r1 (show w.heap.size+2≠w.heap.size by omega);replace r2:=hmW6.cell r2 (show w.heap.size+2≠w.heap.size by omega);replace r3:=hmW6.cell r3 (show w.heap.size+2≠w.heap.size by omega);replace r4:=hmW6.cell r4 (show w.heap.size+2≠w.heap.size by omega);replace r5:=hmW6.cell r5 (show w.heap.size+2≠w.heap.size by omega);replace rf:∀o,W6.frozen? ⟨w.heap.size+2,o,none⟩=false:=fun o=>(hmW6.frz10 (a:=⟨w.heap.size+2,o,none⟩) (by dsimp only;omega) (show w.heap.size+2≠w.heap.size by omega)).trans (rf o)
 have zNW6:w.heap.size+2<W6.heap.size:=Nat.lt_of_lt_of_le oM hmW6.size;have HO6:Hid (shdR.O W6 base F7 (.agg #[.int .i64 d.idx,.slice pb mb qb,.slice a2 n2 c2,.slice (some ⟨bx,ox,none⟩) n3 c3,.slice p4 np q4,.slice a5 n5 c5]) ⟨d.idx,addB d.bals (onSh d.idx (d.held.getD i default).legs),d.votes,d.held,putM d.done ⟨k,o⟩,d.appl⟩):=shdR.mod HO7.out hmW6 (fun b' hb' e=>by have:=HF7.out b' hb';omega);have hB6':Below base w W6:=hmW6.below hB6 oM (fun b' e=>by rw[e];exact hbase);clear hmW6 HO7 hB6;obtain⟨G5,og5,hG5,LN5⟩:=fD0 (d:=⟨d.idx,addB d.bals (onSh d.idx (d.held.getD i default).legs),d.votes,d.held,putM d.done ⟨k,o⟩,d.appl⟩) HO6.out;have HG5:Hid (G5=fun b'=>(Value.slice a5 n5 c5).ownBlock=some b'):=og5.2;have HOa:Hid (W6.ownsRow base 2 1 (.slice a5 n5 c5) n5 (kM d.appl)):=by have h:=og5.1;rw[HN5.out] at h;exact h
 have HLN5:Hid (∀(w':World) (Fj':Nat→Prop) (v:Value) (ys:List Int),intsR.O w' base Fj' v ys→Mod G5 W6 w'→(∀b,Fj' b→G5 b∨W6.heap.size≤b)→∃F',shdR.O w' base F' (.agg #[.int .i64 d.idx,.slice pb mb qb,.slice a2 n2 c2,.slice (some ⟨bx,ox,none⟩) n3 c3,.slice p4 np q4,v]) ⟨d.idx,addB d.bals (onSh d.idx (d.held.getD i default).legs),d.votes,d.held,putM d.done ⟨k,o⟩,ys⟩∧∀b,F' b→F7 b∨W6.heap.size≤b):=LN5;clear og5 hG5 LN5;obtain⟨i0,hi0,hz0,hz1,hz2⟩:=info_parts fCl;go_wp2_with (at_builtin;refine wpList_append_own_at _ rfl _ _ 39 rfl base 2 i0 _ 1 8 Tryz.underlying39 hi0 hz0 hz1 hz2 rfl (by decide) _ n5 (kM d.appl) rfl (HOa.out.alloc _) ⟨W6.heap.size,0,none⟩ 1 1 [.int .i64 k] rfl rfl ?c1 ?c2 ?c3 ?c4 ?c5 ?_)
 case c2=>rfl
 case c3=>unfold maxLen;have:=HL5.out;omega
 case c4=>have:=HL5.out;omega
 case c5=>first|omega|(simp;omega)
 intro v7 w7 ho7 hg7 _ hp7;obtain⟨pa,qa,rfl⟩:=fD ho7;have hm7:Mod G5 W6 w7:=by
  rw[HG5.out];exact(Mod.of_below qBq).trans (Mod.of_grown hg7)
 obtain⟨Fa,oa,hFa⟩:=HLN5.out w7 (fun b'=>(Value.slice pa (n5+1) qa).ownBlock=some b') (.slice pa (n5+1) qa) (d.appl++[k]) ⟨by
  rw[List.length_append,HN5.out,zY];exact ho7,rfl⟩ hm7 (fun b' hb'=>by
  rw[HG5.out];rcases hp7 with h|h
  ·exact .inl (h▸hb')
  rw[h] at hb';simp only[Option.some.injEq] at hb';exact .inr (by first|omega|(simp at hb';omega)))
 have hN7:∀b',w.heap.size≤b'→b'<w.heap.size+3→¬G5 b':=fun b' h1 h2 h=>by
  rw[HG5.out] at h;obtain⟨G,hG,hGF,_⟩:=fD0 (d:=⟨d.idx,addB d.bals (onSh d.idx (d.held.getD i default).legs),d.votes,d.held,putM d.done ⟨k,o⟩,d.appl⟩) HO6.out;have hGe:=hG.2;have h3:G b':=by rw[hGe];exact h
  have:=HF7.out b' (hGF b' h3);omega
 have n70:=hN7 w.heap.size (Nat.le_refl _) oM;have n71:=hN7 (w.heap.size+1) oM oM;have n72:=hN7 (w.heap.size+2) oM oM;have HOa7:Hid (shdR.O w7 base Fa (.agg #[.int .i64 d.idx,.slice pb mb qb,.slice a2 n2 c2,.slice (some ⟨bx,ox,none⟩) n3 c3,.slice p4 np q4,.slice pa (n5+1) qa]) ⟨d.idx,addB d.bals (onSh d.idx (d.held.getD i default).legs),d.votes,d.held,putM d.done ⟨k,o⟩,d.appl++[k]⟩):=oa;have HFa:Hid (∀b',Fa b'→b'<w.heap.size∨w.heap.size+3≤b'):=fun b' hb'=>(hFa b' hb').elim (fun h=>HF7.out b' h) (fun h=>oM)
 have hB7:Below base w w7:=hm7.below hB6' oM (fun b' h=>by
  obtain⟨G,hG,hGF,_⟩:=fD0 (d:=⟨d.idx,addB d.bals (onSh d.idx (d.held.getD i default).legs),d.votes,d.held,putM d.done ⟨k,o⟩,d.appl⟩) HO6.out;rw[HG5.out] at h;have hGe:=hG.2;have h3:G b':=by rw[hGe];exact h
  exact(shdR.rng HO6.out b' (hGF b' h3)).1)
 replace z0:=hm7.cell z0 n70;replace z1:=hm7.cell z1 n70;replace z2:=hm7.cell z2 n70;replace z3:=hm7.cell z3 n70;replace z4:=hm7.cell z4 n70;replace z5:=hm7.cell z5 n70;replace m0:=hm7.cell m0 n71;replace m1:=hm7.cell m1 n71;replace r0:=hm7.cell r0 n72;replace r1:=hm7.cell r1 n72;replace r2:=hm7.cell r2 n72;replace r3:=hm7.cell r3 n72;replace r4:=hm7.cell r4 n72;replace r5:=hm7.cell r5 n72;replace zf:∀o,World.frozen? w7 ⟨w.heap.size,o,none⟩=false:=fun o=>(hm7.frz10 (a:=⟨w.heap.size,o,none⟩) (by dsimp only;omega) n70).trans (zf o)
 replace rf:∀o,World.frozen? w7 ⟨w.heap.size+2,o,none⟩=false:=fun o=>(hm7.frz10 (a:=⟨w.heap.size+2,o,none⟩) (by dsimp only;omega) n72).trans (rf o)
 have zN7:w.heap.size+2<w7.heap.size:=Nat.lt_of_lt_of_le zNW6 hm7.size;clear oa hFa HLN5 ho7 hg7 hp7 hm7 hN7 n70 n71 n72 HG5 HOa HO6 HF7 hB6' k0 k1;go_wp2_with fail;obtain⟨W7,hEW7⟩:∃W,W=w7.setCell ⟨w.heap.size,5,none⟩ (.slice pa (n5+1) qa):=⟨_,rfl⟩
 rw[←hEW7];have hmW7:Mod (fun b=>b=w.heap.size) w7 W7:=by rw[hEW7];exact Mod.of_set w7 ⟨w.heap.size,5,none⟩ _
 replace z0:W7.cell? ⟨w.heap.size,0,none⟩=some (.int .i64 d.idx):=by rw[hEW7];simp[go_sem,z0,zf]
 replace z1:W7.cell? ⟨w.heap.size,1,none⟩=some (.slice pb mb qb):=by rw[hEW7];simp[go_sem,z1,zf]
 replace z2:W7.cell? ⟨w.heap.size,2,none⟩=some (.slice a2 n2 c2):=by rw[hEW7];simp[go_sem,z2,zf]
 replace z3:W7.cell? ⟨w.heap.size,3,none⟩=some (.slice (some ⟨bx,ox,none⟩) n3 c3):=by rw[hEW7];simp[go_sem,z3,zf]
 replace z4:W7.cell? ⟨w.heap.size,4,none⟩=some (.slice p4 np q4):=by rw[hEW7];simp[go_sem,z4,zf]
 replace z5:W7.cell? ⟨w.heap.size,5,none⟩=some (.slice pa (n5+1) qa):=by rw[hEW7];simp[go_sem,z5,zf]
 replace zf:∀o,W7.frozen? ⟨w.heap.size,o,none⟩=false:=fun o=>by rw[hEW7];simp[go_sem,zf]
 clear hEW7;replace m0:=hmW7.cell m0 (show w.heap.size+1≠w.heap.size by omega);replace m1:=hmW7.cell m1 (show w.heap.size+1≠w.heap.size by omega);replace r0:=hmW7.cell r0 (show w.heap.size+2≠w.heap.size by omega);replace r1:=hmW7.cell r1 (show w.heap.size+2≠w.heap.size by omega);replace r2:=hmW7.cell r2 (show w.heap.size+2≠w.heap.size by omega);replace r3:=hmW7.cell r3 (show w.heap.size+2≠w.heap.size by omega);replace r4:=hmW7.cell r4 (show w.heap.size+2≠w.heap.size by omega);replace r5:=hmW7.cell r5 (show w.heap.size+2≠w.heap.size by omega);replace rf:∀o,W7.frozen? ⟨w.heap.size+2,o,none⟩=false:=fun o=>(hmW7.frz10 (a:=⟨w.heap.size+2,o,none⟩) (by dsimp only;omega) (show w.heap.size+2≠w.heap.size by omega)).trans (rf o)
 have zNW7:w.heap.size+2<W7.heap.size:=Nat.lt_of_lt_of_le oM hmW7.size;have HO:Hid (shdR.O W7 base Fa (.agg #[.int .i64 d.idx,.slice pb mb qb,.slice a2 n2 c2,.slice (some ⟨bx,ox,none⟩) n3 c3,.slice p4 np q4,.slice pa (n5+1) qa]) ⟨d.idx,addB d.bals (onSh d.idx (d.held.getD i default).legs),d.votes,d.held,putM d.done ⟨k,o⟩,d.appl++[k]⟩):=shdR.mod HOa7.out hmW7 (fun b' hb' e=>by have:=HFa.out b' hb';omega);have hBW:Below base w W7:=hmW7.below hB7 oM (fun b' e=>by rw[e];exact hbase);have HFc:Hid (∀b',Fa b'→b'<w.heap.size∨w.heap.size+3≤b'):=HFa.out;clear hmW7 HOa7 hB7 HFa;obtain⟨G3,o3,hG3,LN3⟩:=vQ (d:=⟨d.idx,addB d.bals (onSh d.idx (d.held.getD i default).legs),d.votes,d.held,putM d.done ⟨k,o⟩,d.appl++[k]⟩) HO.out;have HLN3:Hid (∀(w':World) (Fj':Nat→Prop) (v:Value) (ys:List Cont),contsR.O w' base Fj' v ys→Mod G3 W7 w'→(∀b,Fj' b→G3 b∨W7.heap.size≤b)→∃F',shdR.O w' base F' (.agg #[.int .i64 d.idx,.slice pb mb qb,.slice a2 n2 c2,v,.slice p4 np q4,.slice pa (n5+1) qa]) ⟨d.idx,addB d.bals (onSh d.idx (d.held.getD i default).legs),d.votes,ys,putM d.done ⟨k,o⟩,d.appl++[k]⟩∧∀b,F' b→Fa b∨W7.heap.size≤b):=LN3;have HO3:Hid (contsR.O W7 base G3 (.slice (some ⟨bx,ox,none⟩) n3 c3) d.held):=o3;clear LN3 o3 hG3;have HLf:Hid (Calls Tryz.prog 205 #[.slice (some ⟨bx,ox,none⟩) n3 c3,.func (.func 206) #[] #[.pointer (some ⟨w.heap.size+1,0,none⟩)]] W7 fun e w'=>∃v F',e =.returned v∧contsR.O w' base F' v (kN k d.held)∧Below W7.heap.size W7 w'∧∀b,F' b→G3 b∨W7.heap.size≤b):=fOp _ d.held k (w.heap.size+1) base G3 W7 HO3.out m0 oM HLh.out
 refine HLf.out.mono ?_;rintro e w8 ⟨v8,F8,rfl,o8,hb8,hF8⟩;obtain⟨F9,o9,hF9⟩:=HLN3.out w8 F8 _ _ o8 (Mod.of_below hb8) hF8;obtain⟨p8,q8,e8⟩:=fM (contsR.ofO o8);subst e8;have HO8:Hid (shdR.O w8 base F9 (.agg #[.int .i64 d.idx,.slice pb mb qb,.slice a2 n2 c2,.slice p8 (kN k d.held).length q8,.slice p4 np q4,.slice pa (n5+1) qa]) ⟨d.idx,addB d.bals (onSh d.idx (d.held.getD i default).legs),d.votes,kN k d.held,putM d.done ⟨k,o⟩,d.appl++[k]⟩):=o9;have HF9:Hid (∀b,F9 b→b<w.heap.size∨w.heap.size+3≤b):=fun b hb=>(hF9 b hb).elim (fun h=>HFc.out b h) (fun h=>oM)
 have hB8:Below base w w8:=Below.trans hBW (hb8.mono oM);generalize (kN k d.held).length=m8 at *;replace z0:=cK hb8 z0;replace z1:=cK hb8 z1;replace z2:=cK hb8 z2;replace z3:=cK hb8 z3;replace z4:=cK hb8 z4;replace z5:=cK hb8 z5;replace m0:=cK hb8 m0;replace m1:=cK hb8 m1;replace r0:=cK hb8 r0;replace r1:=cK hb8 r1;replace r2:=cK hb8 r2;replace r3:=cK hb8 r3;replace r4:=cK hb8 r4;replace r5:=cK hb8 r5;replace zf:∀o,World.frozen? w8 ⟨w.heap.size,o,none⟩=false:=fun o=>by rw[(bcell hb8).2 _ _ oM];exact zf o
 replace rf:∀o,World.frozen? w8 ⟨w.heap.size+2,o,none⟩=false:=fun o=>by rw[(bcell hb8).2 _ _ oM];exact rf o
 have zN8:w.heap.size+2<w8.heap.size:=by have:=hb8.size;omega
 clear o8 hb8 hF8 o9 hF9 HLN3 HO3 HLf HO HFc hBW;go_wp2;refine bodyPost_ret (v:=.agg #[.int .i64 d.idx,.slice pb mb qb,.slice a2 n2 c2,.slice p8 m8 q8,.slice p4 np q4,.slice pa (n5+1) qa]) (by simp[results,Tryz.results181,go_sem,r0,r1,r2,r3,r4,r5,rf]) rfl ?_;have hbN:base≤w.heap.size:=hbase;have hbR:base≤w.heap.size+2:=oM;rw[HC.out];exact⟨_,F9,rfl,fVw shdR (fRa shdR HO8.out (fun h=>by have:=HF9.out _ h;omega) _) (fun h=>by have:=HF9.out _ h;omega) _ _ _ _ _ _,(((((((hB8).setCell (p:=⟨w.heap.size,3,none⟩) hbN _).setCell (p:=⟨w.heap.size+2,0,none⟩) hbR _).setCell (p:=⟨w.heap.size+2,1,none⟩) hbR _).setCell (p:=⟨w.heap.size+2,2,none⟩) hbR _).setCell (p:=⟨w.heap.size+2,3,none⟩) hbR _).setCell (p:=⟨w.heap.size+2,4,none⟩) hbR _).setCell (p:=⟨w.heap.size+2,5,none⟩) hbR _⟩
theorem fEb {d:Shd} {k o:Int} (h:¬shdF d=0):kW d k o=errH (shdF d):=by unfold kW;rw[if_neg h]
theorem fBc {d:Shd} {k o:Int} (h:shdF d=0) (h1:(inB k 1 1000000000&&inB o 1 2)=false):kW d k o=errH 3:=by unfold kW;rw[if_pos h,if_neg (by rw[h1];exact Bool.false_ne_true)]
theorem fGy {d:Shd} {k o:Int} (h:shdF d=0) (h1:(inB k 1 1000000000&&inB o 1 2)=true):kW d k o=qK d k o:=by unfold kW;rw[if_pos h,if_pos h1]
theorem fH2 {d:Shd} {k o:Int} (h:¬fK k d.done=0) (h1:fK k d.done=o):qK d k o=⟨0,0,d⟩:=by unfold qK;rw[if_neg h,if_pos h1]
theorem fFy {d:Shd} {k o:Int} (h:¬fK k d.done=0) (h1:¬fK k d.done=o):qK d k o=errH 7:=by unfold qK;rw[if_neg h,if_neg h1]
theorem fH0 {d:Shd} {k o:Int} (h:fK k d.done=0) (h1:o=1∧fO d.held k=false):qK d k o=errH 1:=by unfold qK;rw[if_pos h,if_pos h1]
theorem fH1 {d:Shd} {k o:Int} (h:fK k d.done=0) (h1:¬(o=1∧fO d.held k=false)) (h2:100≤d.done.length):qK d k o=errH 2:=by unfold qK;rw[if_pos h,if_neg h1,if_pos h2]
theorem fPd {d:Shd} {k o:Int} (h:fK k d.done=0) (h1:¬(o=1∧fO d.held k=false)) (h2:¬100≤d.done.length):qK d k o=⟨0,0,decS d k o⟩:=by unfold qK;rw[if_pos h,if_neg h1,if_neg h2]
theorem fKh (x:Value) (d:Shd) (k o:Int) (w:World) (hx:shdR.V w x d) :
  Calls Tryz.prog 149 #[x,.int .i64 k,.int .i64 o] w (rP w (kW d k o)):=by
 have HSf:Hid (bW w fun W=>RI 179 #[x] W (.int .i64 (shdF d))):=fun W hW=>fC4 x d W (shdR.below hx hW)
 have HIs:Hid (bW w fun W=>ShdOk d→RI 180 #[x,.int .i64 k] W (.bool (fO d.held k))):=fun W hW hok=>fG6 x d k W (shdR.below hx hW) (by have:=hok.ls.nh;omega) hok.held.rise
 have HCp:Hid (bW w fun W=>ShdOk d→Calls Tryz.prog 68 #[x] W fun e w'=>∃v F,e =.returned v∧shdR.O w' W.heap.size F v d∧Below W.heap.size W w'):=fun W hW hok=>uP x d W (shdR.below hx hW) ⟨by have:=zT (pE hok.base).2;omega,by have:=hok.ls.nv;omega,by have:=hok.ls.nh;omega,by have:=hok.ls.nd;omega,by have:=hok.ls.na;omega⟩ (fun q hq=>by have:=hok.held.len hq;omega)
 have HDe:Hid (∀W base F v,shdR.O W base F v d→base≤W.heap.size→ShdOk d→(o=1∨o=2)→(o=1→fO d.held k=true)→Calls Tryz.prog 181 #[v,.agg #[.int .i64 k,.int .i64 o]] W (DecE (decS d k o) base W)):=fun W base F v h1 h2 h3 h4 h5=>fP1 v d k o base F W h1 h2 h3 h4 h5
 obtain⟨u1,u2,u3,u4,u5,rfl,h1,h2,h3,h4,h5⟩:=hx;have HVi:Hid (bW w fun W=>ShdOk d→RI 174 #[u4,.int .i64 k] W (.int .i64 (fK k d.done))):=fun W hW hok=>yN u4 d.done k W (mrksR.below h4 hW) (by have:=hok.ls.nd;omega) hok.ls.od.rise
 obtain⟨a1,c1,rfl⟩:=fP h1;obtain⟨a2,c2,rfl⟩:=fF h2;obtain⟨a3,c3,rfl⟩:=fM h3;obtain⟨a4,c4,rfl⟩:=fF h4;obtain⟨a5,c5,rfl⟩:=gJ h5;clear h1 h2 h3 h4 h5;have HE0:Hid (¬shdF d=0→kW d k o=errH (shdF d)):=fun h=>fEb h
 have HE1:Hid (shdF d=0→(inB k 1 1000000000&&inB o 1 2)=false→kW d k o=errH 3):=fun h h1=>fBc h h1
 have HE2:Hid (shdF d=0→(inB k 1 1000000000&&inB o 1 2)=true→kW d k o=qK d k o):=fun h h1=>fGy h h1
 have HT0:Hid (¬fK k d.done=0→fK k d.done=o→qK d k o=⟨0,0,d⟩):=fun h h1=>fH2 h h1
 have HT1:Hid (¬fK k d.done=0→¬fK k d.done=o→qK d k o=errH 7):=fun h h1=>fFy h h1
 have HT2:Hid (fK k d.done=0→o=1∧fO d.held k=false→qK d k o=errH 1):=fun h h1=>fH0 h h1
 have HT3:Hid (fK k d.done=0→¬(o=1∧fO d.held k=false)→100≤d.done.length→qK d k o=errH 2):=fun h h1 h2=>fH1 h h1 h2
 have HT4:Hid (fK k d.done=0→¬(o=1∧fO d.held k=false)→¬100≤d.done.length→qK d k o=⟨0,0,decS d k o⟩):=fun h h1 h2=>fPd h h1 h2
 have HOk:Hid (shdF d=0→ShdOk d∧d.done.length≤100):=fun h=>⟨vP h,(vP h).ls.nd⟩
 generalize hn1:d.bals.length=n1 at *;generalize hn2:d.votes.length=n2 at *;generalize hn3:d.held.length=n3 at *;generalize hn4:d.done.length=n4 at *;generalize hn5:d.appl.length=n5 at *;have HNN:Hid (d.bals.length=n1∧d.votes.length=n2∧d.held.length=n3∧d.done.length=n4∧d.appl.length=n5):=⟨hn1,hn2,hn3,hn4,hn5⟩;clear hn1 hn2 hn3 hn4 hn5;generalize kW d k o=Z at *;generalize shdF d=sf at *;generalize fK k d.done=fd at *;go_enter Tryz.func149,Tryz.ntmps149;go_wp2_with fail;refine(HSf.out _ qBq).mono ?_;rintro e w1 ⟨rfl,hb1⟩;have hB1:=bT w hb1;have hz1:=hb1.size;simp at hz1;have y0:w1.cell? ⟨w.heap.size,0,none⟩=some (.int .i64 d.idx):=cK hb1 sG;have y1:w1.cell? ⟨w.heap.size,1,none⟩=some (.slice a1 n1 c1):=cK hb1 sG;have y2:w1.cell? ⟨w.heap.size,2,none⟩=some (.slice a2 n2 c2):=cK hb1 sG;have y3:w1.cell? ⟨w.heap.size,3,none⟩=some (.slice a3 n3 c3):=cK hb1 sG;have y4:w1.cell? ⟨w.heap.size,4,none⟩=some (.slice a4 n4 c4):=cK hb1 sG;have y5:w1.cell? ⟨w.heap.size,5,none⟩=some (.slice a5 n5 c5):=cK hb1 sG;have r0:w1.cell? ⟨w.heap.size+1,0,none⟩=some (.int .i64 0):=cK hb1 sG;have r1:w1.cell? ⟨w.heap.size+1,1,none⟩=some (.int .i64 0):=cK hb1 sG;have r2:w1.cell? ⟨w.heap.size+1,2,none⟩=some (.int .i64 0):=cK hb1 sG;have r3:w1.cell? ⟨w.heap.size+1,3,none⟩=some (.slice none 0 0):=cK hb1 sG;have r4:w1.cell? ⟨w.heap.size+1,4,none⟩=some (.slice none 0 0):=cK hb1 sG;have r5:w1.cell? ⟨w.heap.size+1,5,none⟩=some (.slice none 0 0):=cK hb1 sG;have r6:w1.cell? ⟨w.heap.size+1,6,none⟩=some (.slice none 0 0):=cK hb1 sG
 have r7:w1.cell? ⟨w.heap.size+1,7,none⟩=some (.slice none 0 0):=cK hb1 sG;have rf:∀o,w1.frozen? ⟨w.heap.size+1,o,none⟩=false:=fun o=>by rw[(bcell hb1).2 _ _ (by simp)];simp[go_sem]
 clear hb1 HSf;by_cases hsf:sf=0;rotate_left
 ·
  have HC:Hid _:=HE0.out hsf;have hsf':(sf !=0)=true:=by simp[hsf]
  clear HE0 HE1 HE2 HT0 HT1 HT2 HT3 HT4 HIs HCp HDe HVi HOk;go_wp2;refine bodyPost_ret (v:=.agg #[.int .i64 sf,.int .i64 0,.int .i64 0,.slice none 0 0,.slice none 0 0,.slice none 0 0,.slice none 0 0,.slice none 0 0]) (by simp[results,Tryz.results149,go_sem,r0,r1,r2,r3,r4,r5,r6,r7,rf]) rfl (mJ HC.out ?_);exact qS
 have hsf':(sf !=0)=false:=by simp[hsf]
 have HE1':Hid ((inB k 1 1000000000&&inB o 1 2)=false→Z=errH 3):=fun h=>HE1.out hsf h
 have HE2':Hid ((inB k 1 1000000000&&inB o 1 2)=true→Z=qK d k o):=fun h=>HE2.out hsf h
 obtain⟨hok,hn4⟩:=HOk.out hsf;have HOK:Hid (ShdOk d):=hok;clear HE0 HE1 HE2 HOk hsf hok;have HBo:Hid (inB o 1 2=true→o=1∨o=2):=fun h=>by have:=inBi.1 h;omega
 by_cases hr:(inB k 1 1000000000&&inB o 1 2)=true
 rotate_left
 ·
  have hr':(inB k 1 1000000000&&inB o 1 2)=false:=by simpa using hr
  have HC:Hid (Z=errH 3):=HE1'.out hr';clear HE1' HE2' HT0 HT1 HT2 HT3 HT4 HIs HCp HDe HVi HBo hr;cases hk:inB k 1 1000000000
  ·
   go_wp2_with (first|(go_at_call 146;refine(kT _ _).mono ?_;rintro e w' ⟨rfl,rfl⟩;rw[hk]))
   refine bodyPost_ret (v:=.agg #[.int .i64 3,.int .i64 0,.int .i64 0,.slice none 0 0,.slice none 0 0,.slice none 0 0,.slice none 0 0,.slice none 0 0]) (by simp[results,Tryz.results149,go_sem,r0,r1,r2,r3,r4,r5,r6,r7,rf]) rfl (mJ HC.out ?_);exact qS
  have ho2:inB o 1 2=false:=by rw[hk] at hr';simpa using hr'
  go_wp2_with (first|(go_at_call 146;refine(kT _ _).mono ?_;rintro e w' ⟨rfl,rfl⟩;rw[hk])|(go_at_call 147;refine(kU _ _).mono ?_;rintro e w' ⟨rfl,rfl⟩;rw[ho2]))
  refine bodyPost_ret (v:=.agg #[.int .i64 3,.int .i64 0,.int .i64 0,.slice none 0 0,.slice none 0 0,.slice none 0 0,.slice none 0 0,.slice none 0 0]) (by simp[results,Tryz.results149,go_sem,r0,r1,r2,r3,r4,r5,r6,r7,rf]) rfl (mJ HC.out ?_);exact qS
 have hk:inB k 1 1000000000=true:=by simp only[Bool.and_eq_true] at hr;exact hr.1
 have ho2:inB o 1 2=true:=by simp only[Bool.and_eq_true] at hr;exact hr.2
 have HZT:Hid (Z=qK d k o):=HE2'.out hr;have HO12:Hid _:=HBo.out ho2;clear HE1' HE2' HBo hr;go_wp2_with (first|(go_at_call 146;refine(kT _ _).mono ?_;rintro e w' ⟨rfl,rfl⟩;rw[hk])|(go_at_call 147;refine(kU _ _).mono ?_;rintro e w' ⟨rfl,rfl⟩;rw[ho2])|fail);refine(HVi.out _ hB1 HOK.out).mono ?_;rintro e w2 ⟨rfl,hb2⟩;have hB2:Below w.heap.size w w2:=bS hB1 hb2;replace y0:=cK hb2 y0;replace y1:=cK hb2 y1;replace y2:=cK hb2 y2;replace y3:=cK hb2 y3;replace y4:=cK hb2 y4;replace y5:=cK hb2 y5;replace r0:=cK hb2 r0;replace r1:=cK hb2 r1;replace r2:=cK hb2 r2;replace r3:=cK hb2 r3;replace r4:=cK hb2 r4;replace r5:=cK hb2 r5;replace r6:=cK hb2 r6;replace r7:=cK hb2 r7;replace rf:∀o,w2.frozen? ⟨w.heap.size+1,o,none⟩=false:=fun o=>by rw[(bcell hb2).2 _ _ oM];exact rf o
 have hz2:w.heap.size+1<w2.heap.size:=by have:=hb2.size;omega
 clear hb2 HVi hz1 hB1;have ho0:¬o=0:=by have:=HO12.out;omega
 by_cases hfo:fd=o
 ·
  have hfd0:¬fd=0:=oM;have HC:Hid (Z=⟨0,0,d⟩):=HZT.out.trans (HT0.out hfd0 hfo);have hfo':(fd==o)=true:=by simp[hfo]
  clear HT0 HT1 HT2 HT3 HT4 HIs HDe;go_wp2_with fail;refine(HCp.out _ hB2 HOK.out).mono ?_;rintro e w3 ⟨v3,F3,rfl,o3,hb3⟩;obtain⟨s1,s2,s3,s4,s5,f1,f2,f3,f4,f5,rfl⟩:=mF o3;obtain⟨m1,hm1⟩:∃m,m=d.bals.length:=⟨_,rfl⟩
  obtain⟨m2,hm2⟩:∃m,m=d.votes.length:=⟨_,rfl⟩
  obtain⟨m3,hm3⟩:∃m,m=d.held.length:=⟨_,rfl⟩
  obtain⟨m4,hm4⟩:∃m,m=d.done.length:=⟨_,rfl⟩
  obtain⟨m5,hm5⟩:∃m,m=d.appl.length:=⟨_,rfl⟩
  rw[←hm1,←hm2,←hm3,←hm4,←hm5] at o3 ⊢;have HO3:Hid (shdR.O w3 w2.heap.size F3 (.agg #[.int .i64 d.idx,.slice s1 m1 f1,.slice s2 m2 f2,.slice s3 m3 f3,.slice s4 m4 f4,.slice s5 m5 f5]) d):=o3;clear o3 hm1 hm2 hm3 hm4 hm5;have hB3:Below w.heap.size w w3:=bS hB2 hb3;replace r0:=cK hb3 r0;replace r1:=cK hb3 r1;replace r2:=cK hb3 r2;replace r3:=cK hb3 r3;replace r4:=cK hb3 r4;replace r5:=cK hb3 r5;replace r6:=cK hb3 r6;replace r7:=cK hb3 r7;replace rf:∀o,w3.frozen? ⟨w.heap.size+1,o,none⟩=false:=fun o=>by rw[(bcell hb3).2 _ _ oM];exact rf o
  clear hb3 HCp;go_wp2;refine bodyPost_ret (v:=.agg #[.int .i64 0,.int .i64 0,.int .i64 d.idx,.slice s1 m1 f1,.slice s2 m2 f2,.slice s3 m3 f3,.slice s4 m4 f4,.slice s5 m5 f5]) (by simp[results,Tryz.results149,go_sem,r0,r1,r2,r3,r4,r5,r6,r7,rf]) rfl ?_;rw[HC.out];have hbR:w.heap.size≤w.heap.size+1:=oM;exact⟨_,F3,rfl,shdRR.base (vD shdRR (uZ (d:=d) 0 0 HO3.out) (fun h=>by have:=(shdR.rng HO3.out _ h).1;omega) _ _ _ _ _ _ _ _) oM,bset (p:=⟨w.heap.size+1,7,none⟩) (bset (p:=⟨w.heap.size+1,6,none⟩) (bset (p:=⟨w.heap.size+1,5,none⟩) (bset (p:=⟨w.heap.size+1,4,none⟩) (bset (p:=⟨w.heap.size+1,3,none⟩) (bset (p:=⟨w.heap.size+1,2,none⟩) (bset (p:=⟨w.heap.size+1,1,none⟩) (bset (p:=⟨w.heap.size+1,0,none⟩) (hB3) hbR _) hbR _) hbR _) hbR _) hbR _) hbR _) hbR _) hbR _⟩
 have hfo':(fd==o)=false:=by simpa using hfo
 by_cases hfd:fd=0
 rotate_left
 ·
  have HC:Hid (Z=errH 7):=HZT.out.trans (HT1.out hfd hfo);have hfd':(fd !=0)=true:=by simp[hfd]
  clear HT0 HT1 HT2 HT3 HT4 HIs HDe HCp;go_wp2;refine bodyPost_ret (v:=.agg #[.int .i64 7,.int .i64 0,.int .i64 0,.slice none 0 0,.slice none 0 0,.slice none 0 0,.slice none 0 0,.slice none 0 0]) (by simp[results,Tryz.results149,go_sem,r0,r1,r2,r3,r4,r5,r6,r7,rf]) rfl (mJ HC.out ?_);exact qS
 have hfd':(fd !=0)=false:=by simp[hfd]
 have HT2':Hid (o=1∧fO d.held k=false→Z=errH 1):=fun h=>HZT.out.trans (HT2.out hfd h)
 have HT3':Hid (¬(o=1∧fO d.held k=false)→100≤n4→Z=errH 2):=fun h h1=>HZT.out.trans (HT3.out hfd h h1)
 have HT4':Hid (¬(o=1∧fO d.held k=false)→¬100≤n4→Z=⟨0,0,decS d k o⟩):=fun h h1=>HZT.out.trans (HT4.out hfd h h1)
 have HHt:Hid (¬(o=1∧fO d.held k=false)→o=1→fO d.held k=true):=fun h h1=>by
  cases e:fO d.held k with
  | true=>rfl
  | false=>exact absurd ⟨h1,e⟩ h
 clear HT0 HT1 HT2 HT3 HT4 HZT hfd hfo;by_cases ho1:o=1;rotate_left
 ·
  have ho1':(o==1)=false:=by simpa using ho1
  have hnf:¬(o=1∧fO d.held k=false):=fun h=>ho1 h.1
  clear HIs;have HNF:Hid (¬(o=1∧fO d.held k=false)):=hnf;clear hnf;by_cases hm:100≤n4
  ·
   have HC:Hid (Z=errH 2):=HT3'.out HNF.out hm;have hm1:((n4:Int)==100)=true:=by simp;omega
   have hm2:(n4:Int)=100:=oM;clear HT2' HT3' HT4' HHt HDe HCp;go_wp2;refine bodyPost_ret (v:=.agg #[.int .i64 2,.int .i64 0,.int .i64 0,.slice none 0 0,.slice none 0 0,.slice none 0 0,.slice none 0 0,.slice none 0 0]) (by simp[results,Tryz.results149,go_sem,r0,r1,r2,r3,r4,r5,r6,r7,rf]) rfl (mJ HC.out ?_);exact qS
  have HC:Hid (Z=⟨0,0,decS d k o⟩):=HT4'.out HNF.out hm;have hm1:((n4:Int)==100)=false:=by simp;omega
  have hm2:¬(n4:Int)=100:=oM;clear HT2' HT3' HT4' hm;go_wp2_with fail;refine(HCp.out _ hB2 HOK.out).mono ?_;rintro e w3 ⟨v3,F3,rfl,o3,hb3⟩;obtain⟨s1,s2,s3,s4,s5,f1,f2,f3,f4,f5,rfl⟩:=mF o3;obtain⟨m1,hm1⟩:∃m,m=d.bals.length:=⟨_,rfl⟩
  obtain⟨m2,hm2⟩:∃m,m=d.votes.length:=⟨_,rfl⟩
  obtain⟨m3,hm3⟩:∃m,m=d.held.length:=⟨_,rfl⟩
  obtain⟨m4,hm4⟩:∃m,m=d.done.length:=⟨_,rfl⟩
  obtain⟨m5,hm5⟩:∃m,m=d.appl.length:=⟨_,rfl⟩
  rw[←hm1,←hm2,←hm3,←hm4,←hm5] at o3 ⊢;have HO3:Hid (shdR.O w3 w2.heap.size F3 (.agg #[.int .i64 d.idx,.slice s1 m1 f1,.slice s2 m2 f2,.slice s3 m3 f3,.slice s4 m4 f4,.slice s5 m5 f5]) d):=o3;clear o3 hm1 hm2 hm3 hm4 hm5;have hB3:Below w.heap.size w w3:=bS hB2 hb3;replace r0:=cK hb3 r0;replace r1:=cK hb3 r1;replace r2:=cK hb3 r2;replace r3:=cK hb3 r3;replace r4:=cK hb3 r4;replace r5:=cK hb3 r5;replace r6:=cK hb3 r6;replace r7:=cK hb3 r7;replace rf:∀o,w3.frozen? ⟨w.heap.size+1,o,none⟩=false:=fun o=>by rw[(bcell hb3).2 _ _ oM];exact rf o
  have hz3:=hb3.size;clear hb3 HCp;go_wp2_with fail;refine(HDe.out _ _ F3 _ HO3.out hz3 HOK.out HO12.out (HHt.out HNF.out)).mono ?_;rintro e w4 ⟨v4,F4,rfl,o4,hb4⟩;generalize decS d k o=DS at *;obtain⟨t1,t2,t3,t4,t5,g1,g2,g3,g4,g5,rfl⟩:=mF o4;have HO4:Hid (shdR.O w4 w2.heap.size F4 (.agg #[.int .i64 DS.idx,.slice t1 DS.bals.length g1,.slice t2 DS.votes.length g2,.slice t3 DS.held.length g3,.slice t4 DS.done.length g4,.slice t5 DS.appl.length g5]) DS):=o4;have hB4:Below w.heap.size w w4:=Below.trans hB3 (hb4.mono oM);replace r0:=tT hb4 (show w.heap.size+1<w2.heap.size by omega) r0;replace r1:=tT hb4 (show w.heap.size+1<w2.heap.size by omega) r1;replace r2:=tT hb4 (show w.heap.size+1<w2.heap.size by omega) r2;replace r3:=tT hb4 (show w.heap.size+1<w2.heap.size by omega) r3;replace r4:=tT hb4 (show w.heap.size+1<w2.heap.size by omega) r4;replace r5:=tT hb4 (show w.heap.size+1<w2.heap.size by omega) r5;replace r6:=tT hb4 (show w.heap.size+1<w2.heap.size by omega) r6;replace r7:=tT hb4 (show w.heap.size+1<w2.heap.size by omega) r7;replace rf:∀o,w4.frozen? ⟨w.heap.size+1,o,none⟩=false:=fun o=>by rw[hb4.frozen (p:=⟨w.heap.size+1,o,none⟩) (by dsimp only;omega)];exact rf o
  clear o4 hb4 HDe;generalize DS.bals.length=l1 at *;generalize DS.votes.length=l2 at *;generalize DS.held.length=l3 at *;generalize DS.done.length=l4 at *;generalize DS.appl.length=l5 at *;go_wp2;refine bodyPost_ret (v:=.agg #[.int .i64 0,.int .i64 0,.int .i64 DS.idx,.slice t1 l1 g1,.slice t2 l2 g2,.slice t3 l3 g3,.slice t4 l4 g4,.slice t5 l5 g5]) (by simp[results,Tryz.results149,go_sem,r0,r1,r2,r3,r4,r5,r6,r7,rf]) rfl ?_;rw[HC.out];have hbR:w.heap.size≤w.heap.size+1:=oM;exact⟨_,F4,rfl,shdRR.base (vD shdRR (uZ (d:=DS) 0 0 HO4.out) (fun h=>by have:=(shdR.rng HO4.out _ h).1;omega) _ _ _ _ _ _ _ _) oM,bset (p:=⟨w.heap.size+1,7,none⟩) (bset (p:=⟨w.heap.size+1,6,none⟩) (bset (p:=⟨w.heap.size+1,5,none⟩) (bset (p:=⟨w.heap.size+1,4,none⟩) (bset (p:=⟨w.heap.size+1,3,none⟩) (bset (p:=⟨w.heap.size+1,2,none⟩) (bset (p:=⟨w.heap.size+1,1,none⟩) (bset (p:=⟨w.heap.size+1,0,none⟩) (hB4) hbR _) hbR _) hbR _) hbR _) hbR _) hbR _) hbR _) hbR _⟩
 have ho1':(o==1)=true:=by simp[ho1]
 have HO1:Hid (o=1):=ho1;clear ho1;go_wp2_with fail;refine(HIs.out _ hB2 HOK.out).mono ?_;rintro e wk ⟨rfl,hbk⟩;have hBk:Below w.heap.size w wk:=bS hB2 hbk;replace y0:=cK hbk y0;replace y1:=cK hbk y1;replace y2:=cK hbk y2;replace y3:=cK hbk y3;replace y4:=cK hbk y4;replace y5:=cK hbk y5;replace r0:=cK hbk r0;replace r1:=cK hbk r1;replace r2:=cK hbk r2;replace r3:=cK hbk r3;replace r4:=cK hbk r4;replace r5:=cK hbk r5;replace r6:=cK hbk r6;replace r7:=cK hbk r7;replace rf:∀o,wk.frozen? ⟨w.heap.size+1,o,none⟩=false:=fun o=>by rw[(bcell hbk).2 _ _ oM];exact rf o
 have hzk:w.heap.size+1<wk.heap.size:=by have:=hbk.size;omega
 clear hbk hB2 hz2 HIs;cases hhe:fO d.held k
 ·have HC:Hid (Z=errH 1):=HT2'.out ⟨HO1.out,hhe⟩;clear HT2' HT3' HT4' HHt HDe HCp;go_wp2;refine bodyPost_ret (v:=.agg #[.int .i64 1,.int .i64 0,.int .i64 0,.slice none 0 0,.slice none 0 0,.slice none 0 0,.slice none 0 0,.slice none 0 0]) (by simp[results,Tryz.results149,go_sem,r0,r1,r2,r3,r4,r5,r6,r7,rf]) rfl (mJ HC.out ?_);exact qS
 have hnf:¬(o=1∧fO d.held k=false):=fun h=>by rw[hhe] at h;cases h.2
 clear ho1' hhe;have HNF:Hid (¬(o=1∧fO d.held k=false)):=hnf;clear hnf;by_cases hm:100≤n4
 ·
  have HC:Hid (Z=errH 2):=HT3'.out HNF.out hm;have hm1:((n4:Int)==100)=true:=by simp;omega
  have hm2:(n4:Int)=100:=oM;clear HT2' HT3' HT4' HHt HDe HCp;go_wp2;refine bodyPost_ret (v:=.agg #[.int .i64 2,.int .i64 0,.int .i64 0,.slice none 0 0,.slice none 0 0,.slice none 0 0,.slice none 0 0,.slice none 0 0]) (by simp[results,Tryz.results149,go_sem,r0,r1,r2,r3,r4,r5,r6,r7,rf]) rfl (mJ HC.out ?_);exact qS
 have HC:Hid (Z=⟨0,0,decS d k o⟩):=HT4'.out HNF.out hm;have hm1:((n4:Int)==100)=false:=by simp;omega
 have hm2:¬(n4:Int)=100:=oM;clear HT2' HT3' HT4' hm;go_wp2_with fail;refine(HCp.out _ hBk HOK.out).mono ?_;rintro e w3 ⟨v3,F3,rfl,o3,hb3⟩;obtain⟨s1,s2,s3,s4,s5,f1,f2,f3,f4,f5,rfl⟩:=mF o3;obtain⟨m1,hm1⟩:∃m,m=d.bals.length:=⟨_,rfl⟩
 obtain⟨m2,hm2⟩:∃m,m=d.votes.length:=⟨_,rfl⟩
 obtain⟨m3,hm3⟩:∃m,m=d.held.length:=⟨_,rfl⟩
 obtain⟨m4,hm4⟩:∃m,m=d.done.length:=⟨_,rfl⟩
 obtain⟨m5,hm5⟩:∃m,m=d.appl.length:=⟨_,rfl⟩
 rw[←hm1,←hm2,←hm3,←hm4,←hm5] at o3 ⊢;have HO3:Hid (shdR.O w3 wk.heap.size F3 (.agg #[.int .i64 d.idx,.slice s1 m1 f1,.slice s2 m2 f2,.slice s3 m3 f3,.slice s4 m4 f4,.slice s5 m5 f5]) d):=o3;clear o3 hm1 hm2 hm3 hm4 hm5;have hB3:Below w.heap.size w w3:=bS hBk hb3;replace r0:=cK hb3 r0;replace r1:=cK hb3 r1;replace r2:=cK hb3 r2;replace r3:=cK hb3 r3;replace r4:=cK hb3 r4;replace r5:=cK hb3 r5;replace r6:=cK hb3 r6;replace r7:=cK hb3 r7;replace rf:∀o,w3.frozen? ⟨w.heap.size+1,o,none⟩=false:=fun o=>by rw[(bcell hb3).2 _ _ oM];exact rf o
 have hz3:=hb3.size;clear hb3 HCp;go_wp2_with fail;refine(HDe.out _ _ F3 _ HO3.out hz3 HOK.out HO12.out (HHt.out HNF.out)).mono ?_;rintro e w4 ⟨v4,F4,rfl,o4,hb4⟩;generalize decS d k o=DS at *;obtain⟨t1,t2,t3,t4,t5,g1,g2,g3,g4,g5,rfl⟩:=mF o4;have HO4:Hid (shdR.O w4 wk.heap.size F4 (.agg #[.int .i64 DS.idx,.slice t1 DS.bals.length g1,.slice t2 DS.votes.length g2,.slice t3 DS.held.length g3,.slice t4 DS.done.length g4,.slice t5 DS.appl.length g5]) DS):=o4;have hB4:Below w.heap.size w w4:=Below.trans hB3 (hb4.mono oM);replace r0:=tT hb4 (show w.heap.size+1<wk.heap.size by omega) r0;replace r1:=tT hb4 (show w.heap.size+1<wk.heap.size by omega) r1;replace r2:=tT hb4 (show w.heap.size+1<wk.heap.size by omega) r2;replace r3:=tT hb4 (show w.heap.size+1<wk.heap.size by omega) r3;replace r4:=tT hb4 (show w.heap.size+1<wk.heap.size by omega) r4;replace r5:=tT hb4 (show w.heap.size+1<wk.heap.size by omega) r5;replace r6:=tT hb4 (show w.heap.size+1<wk.heap.size by omega) r6;replace r7:=tT hb4 (show w.heap.size+1<wk.heap.size by omega) r7;replace rf:∀o,w4.frozen? ⟨w.heap.size+1,o,none⟩=false:=fun o=>by rw[hb4.frozen (p:=⟨w.heap.size+1,o,none⟩) (by dsimp only;omega)];exact rf o
 clear o4 hb4 HDe;generalize DS.bals.length=l1 at *;generalize DS.votes.length=l2 at *;generalize DS.held.length=l3 at *;generalize DS.done.length=l4 at *;generalize DS.appl.length=l5 at *;go_wp2;refine bodyPost_ret (v:=.agg #[.int .i64 0,.int .i64 0,.int .i64 DS.idx,.slice t1 l1 g1,.slice t2 l2 g2,.slice t3 l3 g3,.slice t4 l4 g4,.slice t5 l5 g5]) (by simp[results,Tryz.results149,go_sem,r0,r1,r2,r3,r4,r5,r6,r7,rf]) rfl ?_;rw[HC.out];have hbR:w.heap.size≤w.heap.size+1:=oM;exact⟨_,F4,rfl,shdRR.base (vD shdRR (uZ (d:=DS) 0 0 HO4.out) (fun h=>by have:=(shdR.rng HO4.out _ h).1;omega) _ _ _ _ _ _ _ _) oM,bset (p:=⟨w.heap.size+1,7,none⟩) (bset (p:=⟨w.heap.size+1,6,none⟩) (bset (p:=⟨w.heap.size+1,5,none⟩) (bset (p:=⟨w.heap.size+1,4,none⟩) (bset (p:=⟨w.heap.size+1,3,none⟩) (bset (p:=⟨w.heap.size+1,2,none⟩) (bset (p:=⟨w.heap.size+1,1,none⟩) (bset (p:=⟨w.heap.size+1,0,none⟩) (hB4) hbR _) hbR _) hbR _) hbR _) hbR _) hbR _) hbR _) hbR _⟩
end
end Go.Proofs.YtpibfdebfacooaaGreat

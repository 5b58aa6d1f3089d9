import Derived.Test.YtpibfdebfacooaaGreatPrnCrashJournalLaw2
set_option maxHeartbeats 1000000
set_option linter.unusedSectionVars false
set_option linter.unusedSimpArgs false
namespace Go.Proofs.YtpibfdebfacooaaGreat
open Go.RowKit
attribute [local go_sem ↓] Go.wp_at_zero Go.wp_at_succ
section
variable [dQ Leg] [iH Leg]
structure Cont where
 id:Int
 legs:List Leg
variable [dQ Cont] [iH Cont]
def contR:Rep Cont where
 V:=fun w v x=>∃u1,v =.agg #[.int .i64 x.id,u1]∧legsR.V w u1 x.legs
 O:=fun w base F v x=>∃u1 F1,v =.agg #[.int .i64 x.id,u1]∧legsR.O w base F1 u1 x.legs∧(∀b,F b↔(F1 b))
 below:=fun h hb=>by
  obtain⟨u1,rfl,h1⟩:=h;exact⟨u1,rfl,legsR.below h1 hb⟩
 ofO:=fun h=>by
  obtain⟨u1,F1,rfl,h1,_⟩:=h;exact⟨u1,rfl,legsR.ofO h1⟩
 mod:=fun h hm hd=>by
  obtain⟨u1,F1,rfl,h1,hF⟩:=h;exact⟨u1,F1,rfl,legsR.mod h1 hm (fun b hb=>hd b ((hF b).2 hb)),hF⟩
 rng:=fun h b hb=>by
  obtain⟨u1,F1,rfl,h1,hF⟩:=h;rcases(hF b).1 hb with hb
  exact legsR.rng h1 b hb
 base:=fun h hb=>by
  obtain⟨u1,F1,rfl,h1,hF⟩:=h;exact⟨u1,F1,rfl,legsR.base h1 hb,hF⟩
def fB4 (x:Cont):Nat:=fDf x.legs
def kL (v:Value):List Value:=match v with | .agg a=>one (a.getD 0 (.int .i64 0))++one (a.getD 1 (.int .i64 0))|_=>[]
def gH (x:Cont):Nat:=1+qQ x.legs
def rF (k:Int) (x:Cont):Cont:={id:=k,legs:=fOu (k+1) x.legs}
theorem fPx (d:Cont):gH d≤5*(1+fB4 d):=by
 unfold gH fB4;have q1:=fVn d.legs;omega
theorem fJ4 (x y:Value) (d d':Cont) (w:World) (hx:contR.V w x d) (hy:contR.V w y d') :
  RI 54 #[x,y] w (.bool (decide (d=d'))):=by
 obtain⟨u1,rfl,h1⟩:=hx;obtain⟨v1,rfl,k1⟩:=hy;obtain⟨id,legs⟩:=d;obtain⟨id',legs'⟩:=d';dsimp only at h1 k1;go_enter Tryz.func54,Tryz.ntmps54;go_wp2_with fail;all_goals try (go_ret;exact⟨by simp_all,qBq⟩)
 refine(fU6 _ _ legs legs' _ (legsR.below h1 qBq) (legsR.below k1 qBq)).mono ?_;rintro e w1 ⟨rfl,b1⟩;go_wp2;all_goals
  go_ret;exact⟨by simp_all,qBq⟩
variable [dQ Cont] [iH Cont]
def contsR:Rep (List Cont):=nRep contR 57 2 kL
def fA4 (xs:List Cont):Nat:=wtL fB4 xs
def pQ (xs:List Cont):Nat:=cntL gH xs
def fCp (k:Int) (xs:List Cont):List Cont:=mkL rF gH k xs
theorem fM {w:World} {v:Value} {xs:List Cont} (h:contsR.V w v xs):∃a c,v =.slice a xs.length c:=by
 obtain⟨a,c,rfl,_⟩:=h;exact⟨_,_,rfl⟩
theorem fSa (d:List Cont):pQ d≤5*fA4 d:=fWm (fun x=>fPx x) d
theorem qZ:(Tryz.prog.info? 57).map (fun i=>(i.zero,i.size,i.bytes))=some (some (.agg #[.int .i64 0,.slice none 0 0]),2,32):=kF
theorem fS0 {w w':World} {a0 a1 a2 a3:Addr} {x0 x1 x2 x3:Value} (hb:Below w.heap.size w w') (g0:w.cell? a0=some x0) (g1:w.cell? a1=some x1) (g2:w.cell? a2=some x2) (g3:w.cell? a3=some x3):Below w.heap.size w w'∧w'.cell? a0=some x0∧w'.cell? a1=some x1∧w'.cell? a2=some x2∧w'.cell? a3=some x3:=
 ⟨hb,cK hb g0,cK hb g1,cK hb g2,cK hb g3⟩
theorem fIh (x y:Value) (xs ys:List Cont) (w:World) (hx:contsR.V w x xs) (hy:contsR.V w y ys) :
  RI 74 #[x,y] w (.bool (decide (xs=ys))):=by
 obtain⟨ax,cx,rfl,hcx,hmx,hx⟩:=hx;obtain⟨ay,cy,rfl,hcy,hmy,hy⟩:=hy;unfold maxLen at hmx hmy;by_cases hl:ys.length=xs.length
 ·
  rw[hl] at hcy hy ⊢;have HL:Hid (ys.length=xs.length):=hl;clear hl;generalize hn:xs.length=n at *;have HN:Hid (xs.length=n):=hn;clear hn;go_enter Tryz.func74,Tryz.ntmps74;go_wp2;go_loopw [5] (fun i w'=>∃k:Nat,k≤n∧i =.int .i64 k∧(∀j,j<k→xs.getD j default=ys.getD j default)∧Below w.heap.size w w') (fun i _=>n-(intOf i).toNat)
  case atStart=>exact⟨0,oM,rfl,fun j h=>absurd h oM,bR _ _⟩
  obtain⟨k,hk,rfl,hpre,hbl⟩:=hrel;have HP:Hid (∀j,j<k→xs.getD j default=ys.getD j default):=hpre;clear hpre;by_cases hlt:k<n
  ·
   obtain⟨bx,ox,ux,rfl,_,p1,hvx⟩:=hx k hlt;obtain⟨b2,oy,uy,rfl,_,p2,hvy⟩:=hy k hlt;obtain⟨l1,hl1⟩:∃l,l=xs.getD k default:=⟨_,rfl⟩
   obtain⟨l2,hl2⟩:∃l,l=ys.getD k default:=⟨_,rfl⟩
   rw[←hl1] at hvx;rw[←hl2] at hvy;have H1:Hid (l1=xs.getD k default):=hl1;have H2:Hid (l2=ys.getD k default):=hl2;have hvx':=hvx;obtain⟨ux1,rfl,_⟩:=hvx';have hvy':=hvy;obtain⟨uy1,rfl,_⟩:=hvy';have g0:w.cell? ⟨bx,ox+k*2,none⟩=some (.int .i64 l1.id):=p1 0 oM;have g1:w.cell? ⟨bx,ox+k*2+1,none⟩=some (ux1):=p1 1 oM;have g2:w.cell? ⟨b2,oy+k*2,none⟩=some (.int .i64 l2.id):=p2 0 oM;have g3:w.cell? ⟨b2,oy+k*2+1,none⟩=some (uy1):=p2 1 oM;clear hl1 hl2 hx hy p1 p2;go_wp2;go_region_held3 (fun w'=>Below w.heap.size w w'∧w'.cell? ⟨bx,ox+k*2,none⟩=some (.int .i64 l1.id)∧w'.cell? ⟨bx,ox+k*2+1,none⟩=some (ux1)∧w'.cell? ⟨b2,oy+k*2,none⟩=some (.int .i64 l2.id)∧w'.cell? ⟨b2,oy+k*2+1,none⟩=some (uy1)) ((refine fS0 ?_ g0 g1 g2 g3;exact qT)) (first|(go_at_call 54;refine(fJ4 (.agg #[.int .i64 l1.id,ux1]) (.agg #[.int .i64 l2.id,uy1]) l1 l2 _ (contR.below hvx qT) (contR.below hvy qT)).mono ?_;rintro e w' ⟨rfl,hb1⟩));rename_i hH;have hB:=hH.1;clear hH;go_wp2
   ·
    rename_i hle;go_ret;refine⟨?_,hB⟩;have:¬xs=ys:=fun h=>by
     have:l1=l2:=by rw[H1.out,H2.out,h]
     simp[this] at hle
    simp[this]
   rename_i hle;refine⟨⟨k+1,by omega,by go_num,fun j hj=>?_,hB⟩,mI⟩;by_cases hjk:j<k
   ·exact HP.out j hjk
   have:j=k:=oM;subst this;rw[←H1.out,←H2.out];simpa using hle
  go_wp2;go_ret;have:k=n:=oM;subst this;refine⟨?_,hbl⟩;have:xs=ys:=fQ9 (by rw[HL.out,HN.out]) (by rw[HN.out];exact HP.out);simp[this]
 go_enter Tryz.func74,Tryz.ntmps74;have hl':((xs.length:Int)==(ys.length:Int))=false:=by simp;omega
 go_wp2;go_ret;have:¬xs=ys:=fun h=>hl (by rw[h])
 exact⟨by simp[this],bR _ _⟩
theorem fEq (v:Value) (xs:List Cont) (k:Int) (w:World) (hv:contsR.V w v (fCp k xs)) (hw:fA4 xs≤1048576) (hn:k+pQ xs≤1073741824) (hk0:0≤k) :
  Calls Tryz.prog 83 #[v,.int .i64 k] w fun r w'=>r =.returned (.int .i64 (k+pQ xs))∧Below w.heap.size w w':=by
 obtain⟨a,cap,rfl,hnc,hcm,hc⟩:=hv;unfold fCp at hnc hc ⊢;rw[fHj] at hnc hc ⊢;unfold maxLen at hcm;have hW:∀k,k<xs.length→fB4 (xs.getD k default)≤1048576:=fun k hk=>(fX4 hw hk).1
 unfold pQ cntL at hn ⊢;have HT:Hid (∀j,j<xs.length→(mkL rF gH k xs).getD j default=rF (k+pF gH j xs) (xs.getD j default)∧pF gH (j+1) xs=pF gH j xs+gH (xs.getD j default)∧pF gH (j+1) xs≤pF gH xs.length xs):=
  fun j hj=>⟨fOh _ _ _ _ _ hj,xE _ j xs hj,fDr _ _ _ _ hj⟩
 clear hw;generalize xs.length=n at *;go_enter Tryz.func83,Tryz.ntmps83;go_wp2;go_loopw [1,5] (fun q i w'=>∃j:Nat,j≤n∧i =.int .i64 j∧q =.int .i64 (k+pF gH j xs)∧Below w.heap.size w w') (fun _ i _=>n-(intOf i).toNat)
 case atStart=>exact⟨0,oM,rfl,by simp[pF],bR _ _⟩
 obtain⟨j,hj,rfl,rfl,hbl⟩:=hrel;by_cases hlt:j<n
 ·
  obtain⟨bx,ox,ux,rfl,_,p1,hvx⟩:=hc j hlt;obtain⟨t1,t2,t3⟩:=HT.out j hlt;have hw1:=hW j hlt;rw[t1] at hvx;generalize xs.getD j default=l at *;have tC:gH l=1+qQ l.legs:=rfl;rw[tC] at t2;have tW:fB4 l=fDf l.legs:=rfl;rw[tW] at hw1;clear tC tW;obtain⟨q,hq⟩:∃q,q=k+pF gH j xs:=⟨_,rfl⟩
  have hq0:0≤q:=oM;rw[←hq] at hvx ⊢;have T2:Hid (k+pF gH (j+1) xs=q+1+qQ l.legs):=by show _=_;omega
  have hq1:q+1+qQ l.legs≤1073741824:=oM;obtain⟨ux1,rfl,hv1⟩:=hvx;dsimp only[rF] at hv1;have g0:w.cell? ⟨bx,ox+j*2,none⟩=some (.int .i64 (q)):=p1 0 oM;replace g0:=cK hbl g0;have g1:w.cell? ⟨bx,ox+j*2+1,none⟩=some (ux1):=p1 1 oM;replace g1:=cK hbl g1;clear hc p1 t1 t2 t3 hW hq;go_wp2_with fail;refine(fQc ux1 l.legs (q+1) _ (legsR.below hv1 qT) oM oM oM).mono ?_;rintro e wb1 ⟨rfl,b1⟩;go_wp2;refine⟨⟨j+1,by omega,by go_num,?_,qT⟩,mI⟩;rw[T2.out]
 go_wp2;go_ret;have hjn:j=n:=oM;subst hjn;exact⟨rfl,hbl⟩
theorem fE5 (v:Value) (xs:List Cont) (base:Nat) (F:Nat→Prop) (k:Int) (w:World) (ho:contsR.O w base F v xs) (hw:fA4 xs≤1048576) (hn:k+pQ xs≤1073741824) (hk0:0≤k) :
  Calls Tryz.prog 78 #[v,.int .i64 k] w fun r w'=>r =.returned (.int .i64 (k+pQ xs))∧contsR.O w' base F v (fCp k xs)∧Mod F w w':=by
 obtain⟨cs,us,fs,hp,hF⟩:=ho;have hW:∀k,k<xs.length→fB4 (xs.getD k default)≤1048576:=fun k hk=>(fX4 hw hk).1
 unfold pQ cntL at hn ⊢;have HT:Hid (∀j,j<xs.length→(mkL rF gH k xs).getD j default=rF (k+pF gH j xs) (xs.getD j default)∧pF gH (j+1) xs=pF gH j xs+gH (xs.getD j default)∧pF gH (j+1) xs≤pF gH xs.length xs):=
  fun j hj=>⟨fOh _ _ _ _ _ hj,xE _ j xs hj,fDr _ _ _ _ hj⟩
 clear hw;have hcap:=hp.len;obtain⟨av,cv,hav⟩:=fD hp.row;subst hav;have HF:Hid (∀b,F b↔((Value.slice av xs.length cv).ownBlock=some b∨∃i,i<xs.length∧fs i b)):=hF;have HM:Hid ((mkL rF gH k xs).length=xs.length):=fHj _ _ _ _;clear hF;generalize hxl:xs.length=n at *;clear hxl;go_enter Tryz.func78,Tryz.ntmps78;go_wp2;go_loopw [1,5] (fun q i w'=>∃(j:Nat) (cs:List Value) (us:Nat→Value),j≤n∧i =.int .i64 j∧q =.int .i64 (k+pF gH j xs)∧PO contR 57 2 kL w' base (.slice av n cv) n n (fun i=>if i<j then (mkL rF gH k xs).getD i default else xs.getD i default) cs us fs∧Mod F w w') (fun _ i _=>n-(intOf i).toNat)
 case atStart=>exact⟨0,cs,us,Nat.zero_le _,rfl,by simp[pF],hp.cast (fun i hi=>by simp),Mod.refl _ _⟩
 clear hp;obtain⟨j,cs,us,hj,rfl,rfl,hp1,hm⟩:=hrel;by_cases hlt:j<n
 ·
  have he:=hp1.el j hlt;simp only[Nat.lt_irrefl,if_false] at he;obtain⟨g,rfl,hcl⟩:=hp1.at hlt hlt;obtain⟨t1,t2,t3⟩:=HT.out j hlt;have hw1:=hW j hlt;obtain⟨l,hl⟩:∃l,l=xs.getD j default:=⟨_,rfl⟩
  rw[←hl] at t1 t2 hw1 he;have tC:gH l=1+qQ l.legs:=rfl;rw[tC] at t2;have tW:fB4 l=fDf l.legs:=rfl;rw[tW] at hw1;clear tC tW;obtain⟨q,hq⟩:∃q,q=k+pF gH j xs:=⟨_,rfl⟩
  have hq0:0≤q:=oM;rw[←hq] at t1 ⊢;have T1:Hid ((mkL rF gH k xs).getD j default=rF q l):=t1;have T2:Hid (k+pF gH (j+1) xs=q+1+qQ l.legs):=by show _=_;omega
  have hq1:q+1+qQ l.legs≤1073741824:=oM;obtain⟨ux1,F1,hu,h1,hF⟩:=he;rw[hu] at hcl;have g0:wr.cell? ⟨g,j*2,none⟩=some (.int .i64 l.id):=hcl 0 oM;have g1:wr.cell? ⟨g,j*2+1,none⟩=some (ux1):=hcl 1 oM;have hrow:=hp1.row;have hclen:=hrow.1;have hf:=fun j=>hrow.frozenAt j
  clear hl t1 t2 t3 hW hq hcl;go_wp2_with fail;have st1:=hrow.stored (j*2) (.int .i64 (q));replace h1:=legsR.mod h1 (Mod.of_grown st1.2) (fun b hb he=>hp1.out j hlt b ((hF b).2 hb) he);have M1:=(Mod.of_grown st1.2).mono (G:=fun b=>(Value.slice (some ⟨g,0,none⟩) n cv).ownBlock=some b∨fs j b) (fun b hb=>.inl hb);refine(fQ1 ux1 l.legs base F1 (q+1) _ h1 oM oM oM).mono ?_;rintro e wb1 ⟨rfl,r1,m1⟩;have rw1:=m1.owns st1.1 (fun b he hb=>hp1.out j hlt b ((hF b).2 hb) he);have M2:=m1.mono (G:=fun b=>(Value.slice (some ⟨g,0,none⟩) n cv).ownBlock=some b∨fs j b) (fun b hb=>.inr ((hF b).2 hb));go_wp2;have hq:=hp1.turn (u:=(.agg #[.int .i64 (q),ux1])) (x:=rF q l) hlt (M1.trans M2) ⟨ux1,F1,rfl,r1,hF⟩ rfl rw1 ?_ ?_
  ·
   refine⟨⟨j+1,_,_,by omega,by go_num,by rw[T2.out],hq.cast fun i hi=>?_,hm.trans ((M1.trans M2).mono fun b hb=>(HF.out b).2 ?_)⟩,mI⟩
   ·
    by_cases hij:i=j
    ·subst hij;rw[kJ,if_pos oM];exact T1.out
    rw[upd_ne _ _ hij];by_cases h:i<j
    ·rw[if_pos h,if_pos oM]
    rw[if_neg h,if_neg oM]
   rcases hb with hb|hb
   ·exact .inl hb
   exact .inr ⟨j,hlt,hb⟩
  ·intro i hi hij o ho;simp only[List.getElem?_set];rw[if_neg oM]
  intro o ho;have ho':o=0∨o=1:=oM;rcases ho' with rfl|rfl
  ·rw[show j*2+0=j*2 from rfl,List.getElem?_set_self (by(try simp only[List.length_set]);omega)];rfl
  rw[List.getElem?_set_ne oM,hp1.cell j hlt 1 oM,hu];rfl
 go_wp2;go_ret;have hjn:j=n:=oM;subst hjn;refine⟨rfl,⟨cs,us,fs,?_,?_⟩,hm⟩
 ·unfold fCp;rw[HM.out];exact hp1.cast (fun i hi=>by rw[if_pos hi])
 unfold fCp;rw[HM.out];exact HF.out
end
section
variable [dQ Leg] [iH Leg]
def kM (ys:List Int):List Value:=ys.map (Value.int .i64)
theorem fCl:(Tryz.prog.info? 2).map (fun i=>(i.zero,i.size,i.bytes))=some (some (.int .i64 0),1,8):=kF
def vZ (w:World) (v:Value) (ys:List Int):Prop:=
 ∃a cap,v =.slice a ys.length cap∧ys.length≤cap∧cap≤maxLen∧∀i,i<ys.length→∃b o,a=some ⟨b,o,none⟩∧w.cell? ⟨b,o+i,none⟩=some (.int .i64 (ys.getD i 0))
theorem fAp {w w':World} {v:Value} {ys:List Int} (h:vZ w v ys) (hb:Below w.heap.size w w'):vZ w' v ys:=by
 obtain⟨a,cap,rfl,h1,h2,h3⟩:=h;exact⟨a,cap,rfl,h1,h2,fun i hi=>by
  obtain⟨b,o,ha,hc⟩:=h3 i hi;exact⟨b,o,ha,cK hb hc⟩⟩
theorem xS {w:World} {base e:Nat} {v:Value} {ys:List Int} (h:w.ownsRow base e 1 v ys.length (kM ys)):vZ w v ys:=by
 rcases h.2 with ⟨rfl,hn⟩|⟨g,cap,cur,rfl,hb,hg,hnc,hcm,hcs,htake⟩
 ·exact⟨none,0,by rw[hn],oM,by unfold maxLen;omega,fun i hi=>oM⟩
 refine⟨some ⟨g,0,none⟩,cap,rfl,hnc,hcm,fun i hi=>⟨g,0,rfl,?_⟩⟩;rw[Nat.zero_add];refine(h.cellAt i oM).trans ?_;simp[kM,List.getD,hi]
theorem fG3 {xs ys:List Int} (hl:ys.length=xs.length) (h:∀j,j<xs.length→xs.getD j 0=ys.getD j 0):xs=ys:=by
 apply List.ext_getElem oM;intro i h1 h2;have:=h i h1;simpa [List.getD,h1,h2] using this
theorem fJ5 (x y:Value) (xs ys:List Int) (w:World) (hx:vZ w x xs) (hy:vZ w y ys) :
  RI 75 #[x,y] w (.bool (decide (xs=ys))):=by
 obtain⟨ax,cx,rfl,hcx,hmx,hx⟩:=hx;obtain⟨ay,cy,rfl,hcy,hmy,hy⟩:=hy;unfold maxLen at hmx hmy;by_cases hl:ys.length=xs.length
 ·
  rw[hl] at hcy hy ⊢;have HL:Hid (ys.length=xs.length):=hl;clear hl;generalize hn:xs.length=n at *;have HN:Hid (xs.length=n):=hn;clear hn;go_enter Tryz.func75,Tryz.ntmps75;go_wp2;go_loopw [5] (fun i w'=>∃k:Nat,k≤n∧i =.int .i64 k∧(∀j,j<k→xs.getD j 0=ys.getD j 0)∧Below w.heap.size w w') (fun i _=>n-(intOf i).toNat)
  case atStart=>exact⟨0,oM,rfl,fun j h=>absurd h oM,bR _ _⟩
  obtain⟨k,hk,rfl,hpre,hbl⟩:=hrel;have HP:Hid (∀j,j<k→xs.getD j 0=ys.getD j 0):=hpre;clear hpre;by_cases hlt:k<n
  ·
   obtain⟨bx,ox,rfl,h1⟩:=hx k hlt;obtain⟨b2,oy,rfl,h2⟩:=hy k hlt;obtain⟨l1,hl1⟩:∃l,l=xs.getD k 0:=⟨_,rfl⟩
   obtain⟨l2,hl2⟩:∃l,l=ys.getD k 0:=⟨_,rfl⟩
   rw[←hl1] at h1;rw[←hl2] at h2;have H1:Hid (l1=xs.getD k 0):=hl1;have H2:Hid (l2=ys.getD k 0):=hl2;clear hl1 hl2 hx hy;go_wp2;go_region_held3 (fun w'=>Below w.heap.size w w'∧w'.cell? ⟨bx,ox+k,none⟩=some (.int .i64 l1)∧w'.cell? ⟨b2,oy+k,none⟩=some (.int .i64 l2)) ((refine fV8 ?_ h1 h2;repeat (first|exact bR _ _|assumption|refine bD ?_|refine bA ?_ _|refine bS ?_ (by assumption)))) (fail);rename_i hH;have hB:=hH.1;clear hH;go_wp2
   ·
    rename_i hle;go_ret;refine⟨?_,hB⟩;have:¬xs=ys:=fun h=>by
     have:l1=l2:=by rw[H1.out,H2.out,h]
     simp[this] at hle
    simp[this]
   rename_i hle;refine⟨⟨k+1,by omega,by go_num,fun j hj=>?_,hB⟩,mI⟩;by_cases hjk:j<k
   ·exact HP.out j hjk
   have:j=k:=oM;subst this;rw[←H1.out,←H2.out];simpa using hle
  go_wp2;go_ret;have:k=n:=oM;subst this;refine⟨?_,hbl⟩;have:xs=ys:=fG3 (by rw[HL.out,HN.out]) (by rw[HN.out];exact HP.out);simp[this]
 go_enter Tryz.func75,Tryz.ntmps75;have hl':((xs.length:Int)==(ys.length:Int))=false:=by simp;omega
 go_wp2;go_ret;have:¬xs=ys:=fun h=>hl (by rw[h])
 exact⟨by simp[this],bR _ _⟩
def fBr (k:Int) (n:Nat):List Int:=(List.range n).map (fun i:Nat=>k+(i:Int))
theorem rD (k:Int) (n:Nat):(fBr k n).length=n:=by simp[fBr]
theorem fEi (k:Int) (n i:Nat) (h:i<n):(fBr k n).getD i 0=k+i:=by simp[fBr,List.getD,h]
def fT8 (k:Nat) (cs:List Value) (ys:List Int):Prop:=∀j,j<k→cs[j]? = (kM ys)[j]?
theorem fRo {n:Nat} {cs:List Value} {ys:List Int} (h:fT8 n cs ys) (hl:cs.length=n*1) (hn:ys.length=n):cs=kM ys:=by
 apply List.ext_getElem?;intro j;by_cases hj:j<n
 ·exact h j hj
 rw[List.getElem?_eq_none oM,List.getElem?_eq_none (by simp[kM];omega)]
theorem fT9 {k:Nat} {cs:List Value} {ys:List Int} {l:Int} (h:fT8 k cs ys) (hk:k<ys.length) (hl:cs.length=ys.length*1) (he:l=ys.getD k 0):fT8 (k+1) (cs.set k (.int .i64 l)) ys:=by
 intro j hj;rw[List.getElem?_set];by_cases e:k=j
 ·subst e;rw[if_pos rfl,if_pos oM];simp[kM,he,List.getD,hk]
 rw[if_neg e];exact h j oM
theorem fGg (v:Value) (n:Nat) (cs:List Value) (base e:Nat) (k:Int) (w:World) (ho:w.ownsRow base e 1 v n cs) (hn:n≤1048576) (hk0:0≤k) (hk1:k≤1073741824) :
  Calls Tryz.prog 79 #[v,.int .i64 k] w fun r w'=>r =.returned (.int .i64 (k+n))∧w'.ownsRow base e 1 v n (kM (fBr k n))∧w.grownBy w' v.ownBlock:=by
 rcases ho.2 with ⟨rfl,rfl⟩|⟨g,cap,cur,rfl,hb,hg,hnc,hcm,_,_⟩
 ·
  go_enter Tryz.func79,Tryz.ntmps79;go_wp2;go_loopw [1,5] (fun q i w'=>q =.int .i64 k∧i =.int .i64 0∧w'=w) (fun _ _ _=>0)
  case atStart=>exact⟨rfl,rfl,rfl⟩
  obtain⟨rfl,rfl,rfl⟩:=hrel;go_wp2;go_ret;exact⟨by simp,World.ownsRow_nil _ _ _ _,zX _ _⟩
 unfold maxLen at hcm;go_enter Tryz.func79,Tryz.ntmps79;go_wp2;go_loopw [1,5] (fun q i w'=>∃(j:Nat) (cs':List Value),j≤n∧i =.int .i64 j∧q =.int .i64 (k+j)∧w'.ownsRow base e 1 (.slice (some ⟨g,0,none⟩) n cap) n cs'∧fT8 j cs' (fBr k n)∧w.grownBy w' (some g)) (fun _ i _=>n-(intOf i).toNat)
 case atStart=>exact⟨0,cs,Nat.zero_le _,rfl,by simp,ho,fun j h=>oM,zX _ _⟩
 obtain⟨j,cs',hj,rfl,rfl,ho1,hup,hgr⟩:=hrel;have HU:Hid (fT8 j cs' (fBr k n)):=hup;clear hup ho hg;by_cases hlt:j<n
 ·
  obtain⟨u0,g0⟩:=mV ho1 j oM;have hf:=fun j=>ho1.frozenAt j
  go_wp2;have s0:=ho1.stored j (.int .i64 (k+j));refine⟨⟨j+1,_,by omega,by go_num,?_,s0.1,fT9 HU.out (by rw[rD];exact hlt) (by rw[rD];exact ho1.1) (fEi k n j hlt).symm,uQ hgr s0.2⟩,mI⟩;congr 1;omega
 go_wp2;go_ret;have hjn:j=n:=oM;subst hjn;have e':=fRo HU.out ho1.1 (rD k j);rw[e'] at ho1;exact⟨rfl,ho1,hgr⟩
theorem fGc (v:Value) (n:Nat) (k:Int) (w:World) (hv:vZ w v (fBr k n)) (hn:n≤1048576) (hk0:0≤k) (hk1:k≤1073741824) :
  Calls Tryz.prog 84 #[v,.int .i64 k] w fun r w'=>r =.returned (.int .i64 (k+n))∧w'=w:=by
 obtain⟨a,cap,rfl,hnc,hcm,hc⟩:=hv;rw[rD] at hnc hc ⊢;unfold maxLen at hcm;go_enter Tryz.func84,Tryz.ntmps84;go_wp2;go_loopw [1,5] (fun q i w'=>∃j:Nat,j≤n∧i =.int .i64 j∧q =.int .i64 (k+j)∧w'=w) (fun _ i _=>n-(intOf i).toNat)
 case atStart=>exact⟨0,oM,rfl,by simp,rfl⟩
 obtain⟨j,hj,rfl,rfl,rfl⟩:=hrel;by_cases hlt:j<n
 ·obtain⟨b,o,rfl,h1⟩:=hc j hlt;rw[fEi k n j hlt] at h1;clear hc;go_wp2;refine⟨⟨j+1,by omega,by go_num,?_,trivial⟩,mI⟩;congr 1;omega
 go_wp2;go_ret;have hjn:j=n:=oM;subst hjn;exact⟨rfl,rfl⟩
def intsR:Rep (List Int):=fRep 2 1 kM vZ fAp xS
def fDe (xs:List Int):Nat:=xs.length
def xX (xs:List Int):Nat:=xs.length
def fOt (k:Int) (xs:List Int):List Int:=fBr k xs.length
theorem gJ {w:World} {v:Value} {xs:List Int} (h:intsR.V w v xs):∃a c,v =.slice a xs.length c:=by
 obtain⟨a,c,rfl,_⟩:=h;exact⟨_,_,rfl⟩
theorem fVg (d:List Int):xX d≤1*fDe d:=by unfold xX fDe;omega
theorem fP5 (x y:Value) (d d':List Int) (w:World) (hx:intsR.V w x d) (hy:intsR.V w y d') :
  RI 75 #[x,y] w (.bool (decide (d=d'))):=fJ5 x y d d' w hx hy
theorem fKv (v:Value) (d:List Int) (base:Nat) (F:Nat→Prop) (k:Int) (w:World) (ho:intsR.O w base F v d) (hw:fDe d≤1048576) (hn:k+xX d≤1073741824) (hk0:0≤k) :
  Calls Tryz.prog 79 #[v,.int .i64 k] w fun r w'=>r =.returned (.int .i64 (k+xX d))∧intsR.O w' base F v (fOt k d)∧Mod F w w':=by
 refine(fGg v d.length _ base _ k w ho.1 hw hk0 oM).mono ?_;rintro e w' ⟨rfl,h1,h2⟩;refine⟨by simp[xX],⟨?_,ho.2⟩,by rw[ho.2];exact Mod.of_grown h2⟩;unfold fOt;rw[rD];exact h1
theorem fKd (v:Value) (d:List Int) (k:Int) (w:World) (hv:intsR.V w v (fOt k d)) (hw:fDe d≤1048576) (hn:k+xX d≤1073741824) (hk0:0≤k) :
  Calls Tryz.prog 84 #[v,.int .i64 k] w fun r w'=>r =.returned (.int .i64 (k+xX d))∧Below w.heap.size w w':=by
 refine(fGc v d.length k w hv hw hk0 oM).mono ?_;rintro e w' ⟨rfl,rfl⟩;exact⟨by simp[xX],bR _ _⟩
variable [dQ Bal] [iH Bal] [dQ Mrk] [iH Mrk] [dQ Cont] [iH Cont]
structure Shd where
 idx:Int
 bals:List Bal
 votes:List Mrk
 held:List Cont
 done:List Mrk
 appl:List Int
variable [dQ Shd] [iH Shd]
def shdR:Rep Shd where
 V:=fun w v x=>∃u1 u2 u3 u4 u5,v =.agg #[.int .i64 x.idx,u1,u2,u3,u4,u5]∧balsR.V w u1 x.bals∧mrksR.V w u2 x.votes∧contsR.V w u3 x.held∧mrksR.V w u4 x.done∧intsR.V w u5 x.appl
 O:=fun w base F v x=>∃u1 u2 u3 u4 u5 F1 F2 F3 F4 F5,v =.agg #[.int .i64 x.idx,u1,u2,u3,u4,u5]∧balsR.O w base F1 u1 x.bals∧mrksR.O w base F2 u2 x.votes∧contsR.O w base F3 u3 x.held∧mrksR.O w base F4 u4 x.done∧intsR.O w base F5 u5 x.appl∧(∀b,F1 b→¬F2 b)∧(∀b,F1 b→¬F3 b)∧(∀b,F1 b→¬F4 b)∧(∀b,F1 b→¬F5 b)∧(∀b,F2 b→¬F3 b)∧(∀b,F2 b→¬F4 b)∧(∀b,F2 b→¬F5 b)∧(∀b,F3 b→¬F4 b)∧(∀b,F3 b→¬F5 b)∧(∀b,F4 b→¬F5 b)∧(∀b,F b↔(F1 b∨F2 b∨F3 b∨F4 b∨F5 b))
 below:=fun h hb=>by
  obtain⟨u1,u2,u3,u4,u5,rfl,h1,h2,h3,h4,h5⟩:=h;exact⟨u1,u2,u3,u4,u5,rfl,balsR.below h1 hb,mrksR.below h2 hb,contsR.below h3 hb,mrksR.below h4 hb,intsR.below h5 hb⟩
 ofO:=fun h=>by
  obtain⟨u1,u2,u3,u4,u5,F1,F2,F3,F4,F5,rfl,h1,h2,h3,h4,h5,_⟩:=h;exact⟨u1,u2,u3,u4,u5,rfl,balsR.ofO h1,mrksR.ofO h2,contsR.ofO h3,mrksR.ofO h4,intsR.ofO h5⟩
 mod:=fun h hm hd=>by
  obtain⟨u1,u2,u3,u4,u5,F1,F2,F3,F4,F5,rfl,h1,h2,h3,h4,h5,s12,s13,s14,s15,s23,s24,s25,s34,s35,s45,hF⟩:=h;exact⟨u1,u2,u3,u4,u5,F1,F2,F3,F4,F5,rfl,balsR.mod h1 hm (fun b hb=>hd b ((hF b).2 (.inl hb))),mrksR.mod h2 hm (fun b hb=>hd b ((hF b).2 (.inr (.inl hb)))),contsR.mod h3 hm (fun b hb=>hd b ((hF b).2 (.inr (.inr (.inl hb))))),mrksR.mod h4 hm (fun b hb=>hd b ((hF b).2 (.inr (.inr (.inr (.inl hb)))))),intsR.mod h5 hm (fun b hb=>hd b ((hF b).2 (.inr (.inr (.inr (.inr hb)))))),s12,s13,s14,s15,s23,s24,s25,s34,s35,s45,hF⟩
 rng:=fun h b hb=>by
  obtain⟨u1,u2,u3,u4,u5,F1,F2,F3,F4,F5,rfl,h1,h2,h3,h4,h5,s12,s13,s14,s15,s23,s24,s25,s34,s35,s45,hF⟩:=h;rcases(hF b).1 hb with hb|hb|hb|hb|hb
  ·exact balsR.rng h1 b hb
  ·exact mrksR.rng h2 b hb
  ·exact contsR.rng h3 b hb
  ·exact mrksR.rng h4 b hb
  exact intsR.rng h5 b hb
 base:=fun h hb=>by
  obtain⟨u1,u2,u3,u4,u5,F1,F2,F3,F4,F5,rfl,h1,h2,h3,h4,h5,s12,s13,s14,s15,s23,s24,s25,s34,s35,s45,hF⟩:=h;exact⟨u1,u2,u3,u4,u5,F1,F2,F3,F4,F5,rfl,balsR.base h1 hb,mrksR.base h2 hb,contsR.base h3 hb,mrksR.base h4 hb,intsR.base h5 hb,s12,s13,s14,s15,s23,s24,s25,s34,s35,s45,hF⟩
def vY (x:Shd):Nat:=pM x.bals+fB5 x.votes+fA4 x.held+fB5 x.done+fDe x.appl
def fBa (x:Shd):Nat:=mE x.bals+mY x.votes+pQ x.held+mY x.done+xX x.appl
def xN (k:Int) (x:Shd):Shd:={x with bals:=fKx k x.bals,votes:=fKy (k+mE x.bals) x.votes,held:=fCp (k+mE x.bals+mY x.votes) x.held,done:=fKy (k+mE x.bals+mY x.votes+pQ x.held) x.done,appl:=fOt (k+mE x.bals+mY x.votes+pQ x.held+mY x.done) x.appl}
theorem fB0 {w:World} {v:Value} {x:Shd} (h:shdR.V w v x):∃a1 a2 a3 a4 a5 c1 c2 c3 c4 c5,v =.agg #[.int .i64 x.idx,.slice a1 x.bals.length c1,.slice a2 x.votes.length c2,.slice a3 x.held.length c3,.slice a4 x.done.length c4,.slice a5 x.appl.length c5]:=by
 obtain⟨u1,u2,u3,u4,u5,rfl,h1,h2,h3,h4,h5⟩:=h;obtain⟨a1,c1,rfl⟩:=fP h1;obtain⟨a2,c2,rfl⟩:=fF h2;obtain⟨a3,c3,rfl⟩:=fM h3;obtain⟨a4,c4,rfl⟩:=fF h4;obtain⟨a5,c5,rfl⟩:=gJ h5;exact⟨_,_,_,_,_,_,_,_,_,_,rfl⟩
theorem fXc (d:Shd):fBa d≤5*vY d:=by
 unfold fBa vY;have q1:=fNz d.bals;have q2:=fOv d.votes;have q3:=fSa d.held;have q4:=fOv d.done;have q5:=fVg d.appl;omega
theorem fSg (x y:Value) (d d':Shd) (w:World) (hx:shdR.V w x d) (hy:shdR.V w y d') :
  RI 38 #[x,y] w (.bool (decide (d=d'))):=by
 obtain⟨u1,u2,u3,u4,u5,rfl,h1,h2,h3,h4,h5⟩:=hx;obtain⟨v1,v2,v3,v4,v5,rfl,k1,k2,k3,k4,k5⟩:=hy;obtain⟨idx,bals,votes,held,done,appl⟩:=d;obtain⟨idx',bals',votes',held',done',appl'⟩:=d';dsimp only at h1 k1 h2 k2 h3 k3 h4 k4 h5 k5;go_enter Tryz.func38,Tryz.ntmps38;go_wp2_with fail;all_goals try (go_ret;exact⟨by simp_all,qBq⟩)
 refine(fC3 _ _ bals bals' _ (balsR.below h1 qBq) (balsR.below k1 qBq)).mono ?_;rintro e w1 ⟨rfl,b1⟩;have x0:w1.cell? ⟨w.heap.size,0,none⟩=some (.int .i64 idx):=cK b1 sG;have x1:w1.cell? ⟨w.heap.size,1,none⟩=some (u1):=cK b1 sG;have x2:w1.cell? ⟨w.heap.size,2,none⟩=some (u2):=cK b1 sG;have x3:w1.cell? ⟨w.heap.size,3,none⟩=some (u3):=cK b1 sG;have x4:w1.cell? ⟨w.heap.size,4,none⟩=some (u4):=cK b1 sG;have x5:w1.cell? ⟨w.heap.size,5,none⟩=some (u5):=cK b1 sG;have y0:w1.cell? ⟨w.heap.size+1,0,none⟩=some (.int .i64 idx'):=cK b1 sG;have y1:w1.cell? ⟨w.heap.size+1,1,none⟩=some (v1):=cK b1 sG;have y2:w1.cell? ⟨w.heap.size+1,2,none⟩=some (v2):=cK b1 sG;have y3:w1.cell? ⟨w.heap.size+1,3,none⟩=some (v3):=cK b1 sG;have y4:w1.cell? ⟨w.heap.size+1,4,none⟩=some (v4):=cK b1 sG;have y5:w1.cell? ⟨w.heap.size+1,5,none⟩=some (v5):=cK b1 sG;go_wp2_with fail;all_goals try (go_ret;exact⟨by simp_all,qBq⟩)
 refine(fJ6 _ _ votes votes' _ (mrksR.below h2 qBq) (mrksR.below k2 qBq)).mono ?_;rintro e w2 ⟨rfl,b2⟩;replace x0:w2.cell? ⟨w.heap.size,0,none⟩=some (.int .i64 idx):=cK b2 x0;replace x1:w2.cell? ⟨w.heap.size,1,none⟩=some (u1):=cK b2 x1;replace x2:w2.cell? ⟨w.heap.size,2,none⟩=some (u2):=cK b2 x2;replace x3:w2.cell? ⟨w.heap.size,3,none⟩=some (u3):=cK b2 x3;replace x4:w2.cell? ⟨w.heap.size,4,none⟩=some (u4):=cK b2 x4;replace x5:w2.cell? ⟨w.heap.size,5,none⟩=some (u5):=cK b2 x5;replace y0:w2.cell? ⟨w.heap.size+1,0,none⟩=some (.int .i64 idx'):=cK b2 y0;replace y1:w2.cell? ⟨w.heap.size+1,1,none⟩=some (v1):=cK b2 y1;replace y2:w2.cell? ⟨w.heap.size+1,2,none⟩=some (v2):=cK b2 y2;replace y3:w2.cell? ⟨w.heap.size+1,3,none⟩=some (v3):=cK b2 y3;replace y4:w2.cell? ⟨w.heap.size+1,4,none⟩=some (v4):=cK b2 y4;replace y5:w2.cell? ⟨w.heap.size+1,5,none⟩=some (v5):=cK b2 y5;go_wp2_with fail;all_goals try (go_ret;exact⟨by simp_all,qBq⟩)
 refine(fIh _ _ held held' _ (contsR.below h3 qBq) (contsR.below k3 qBq)).mono ?_;rintro e w3 ⟨rfl,b3⟩;replace x0:w3.cell? ⟨w.heap.size,0,none⟩=some (.int .i64 idx):=cK b3 x0;replace x1:w3.cell? ⟨w.heap.size,1,none⟩=some (u1):=cK b3 x1;replace x2:w3.cell? ⟨w.heap.size,2,none⟩=some (u2):=cK b3 x2;replace x3:w3.cell? ⟨w.heap.size,3,none⟩=some (u3):=cK b3 x3;replace x4:w3.cell? ⟨w.heap.size,4,none⟩=some (u4):=cK b3 x4;replace x5:w3.cell? ⟨w.heap.size,5,none⟩=some (u5):=cK b3 x5;replace y0:w3.cell? ⟨w.heap.size+1,0,none⟩=some (.int .i64 idx'):=cK b3 y0;replace y1:w3.cell? ⟨w.heap.size+1,1,none⟩=some (v1):=cK b3 y1;replace y2:w3.cell? ⟨w.heap.size+1,2,none⟩=some (v2):=cK b3 y2;replace y3:w3.cell? ⟨w.heap.size+1,3,none⟩=some (v3):=cK b3 y3;replace y4:w3.cell? ⟨w.heap.size+1,4,none⟩=some (v4):=cK b3 y4;replace y5:w3.cell? ⟨w.heap.size+1,5,none⟩=some (v5):=cK b3 y5;go_wp2_with fail;all_goals try (go_ret;exact⟨by simp_all,qBq⟩)
 refine(fJ6 _ _ done done' _ (mrksR.below h4 qBq) (mrksR.below k4 qBq)).mono ?_;rintro e w4 ⟨rfl,b4⟩;replace x0:w4.cell? ⟨w.heap.size,0,none⟩=some (.int .i64 idx):=cK b4 x0;replace x1:w4.cell? ⟨w.heap.size,1,none⟩=some (u1):=cK b4 x1;replace x2:w4.cell? ⟨w.heap.size,2,none⟩=some (u2):=cK b4 x2;replace x3:w4.cell? ⟨w.heap.size,3,none⟩=some (u3):=cK b4 x3;replace x4:w4.cell? ⟨w.heap.size,4,none⟩=some (u4):=cK b4 x4;replace x5:w4.cell? ⟨w.heap.size,5,none⟩=some (u5):=cK b4 x5;replace y0:w4.cell? ⟨w.heap.size+1,0,none⟩=some (.int .i64 idx'):=cK b4 y0;replace y1:w4.cell? ⟨w.heap.size+1,1,none⟩=some (v1):=cK b4 y1;replace y2:w4.cell? ⟨w.heap.size+1,2,none⟩=some (v2):=cK b4 y2;replace y3:w4.cell? ⟨w.heap.size+1,3,none⟩=some (v3):=cK b4 y3;replace y4:w4.cell? ⟨w.heap.size+1,4,none⟩=some (v4):=cK b4 y4;replace y5:w4.cell? ⟨w.heap.size+1,5,none⟩=some (v5):=cK b4 y5;go_wp2_with fail;all_goals try (go_ret;exact⟨by simp_all,qBq⟩)
 refine(fP5 _ _ appl appl' _ (intsR.below h5 qBq) (intsR.below k5 qBq)).mono ?_;rintro e w5 ⟨rfl,b5⟩;go_wp2;all_goals
  go_ret;exact⟨by simp_all,qBq⟩
theorem fM3 (v:Value) (d:Shd) (base:Nat) (F:Nat→Prop) (k:Int) (w:World) (ho:shdR.O w base F v d) (hw:vY d≤1048576) (hn:k+fBa d≤1073741824) (hk0:0≤k) :
  Calls Tryz.prog 41 #[v,.int .i64 k] w fun r w'=>r =.returned (.int .i64 (k+fBa d))∧shdR.O w' base F v (xN k d)∧Mod F w w':=by
 obtain⟨u1,u2,u3,u4,u5,F1,F2,F3,F4,F5,rfl,h1,h2,h3,h4,h5,s12,s13,s14,s15,s23,s24,s25,s34,s35,s45,hF⟩:=ho;unfold vY at hw;unfold fBa at hn ⊢;have HF:Hid (∀b,F b↔(F1 b∨F2 b∨F3 b∨F4 b∨F5 b)):=hF;clear hF;go_enter Tryz.func41,Tryz.ntmps41;go_wp2_with fail;refine(fAj _ d.bals base F1 k _ (balsR.alloc h1 _) oM oM oM).mono ?_;rintro e w1 ⟨rfl,r1,m1⟩;have h2':=mrksR.mod (mrksR.alloc h2 _) m1 (fun b p q=>s12 b q p);have h3':=contsR.mod (contsR.alloc h3 _) m1 (fun b p q=>s13 b q p);have h4':=mrksR.mod (mrksR.alloc h4 _) m1 (fun b p q=>s14 b q p);have h5':=intsR.mod (intsR.alloc h5 _) m1 (fun b p q=>s15 b q p);have x0:w1.cell? ⟨w.heap.size,0,none⟩=some (.int .i64 d.idx):=m1.cell sG (fun hf=>by have:=balsR.rng h1 _ hf;dsimp only at this;omega);have x1:w1.cell? ⟨w.heap.size,1,none⟩=some (u1):=m1.cell sG (fun hf=>by have:=balsR.rng h1 _ hf;dsimp only at this;omega);have x2:w1.cell? ⟨w.heap.size,2,none⟩=some (u2):=m1.cell sG (fun hf=>by have:=balsR.rng h1 _ hf;dsimp only at this;omega);have x3:w1.cell? ⟨w.heap.size,3,none⟩=some (u3):=m1.cell sG (fun hf=>by have:=balsR.rng h1 _ hf;dsimp only at this;omega);have x4:w1.cell? ⟨w.heap.size,4,none⟩=some (u4):=m1.cell sG (fun hf=>by have:=balsR.rng h1 _ hf;dsimp only at this;omega);have x5:w1.cell? ⟨w.heap.size,5,none⟩=some (u5):=m1.cell sG (fun hf=>by have:=balsR.rng h1 _ hf;dsimp only at this;omega);go_wp2_with fail;refine(fE6 _ d.votes base F2 (k+mE d.bals) _ h2' oM oM oM).mono ?_;rintro e w2 ⟨rfl,r2,m2⟩;have h3'':=contsR.mod h3' m2 (fun b p q=>s23 b q p)
 have h4'':=mrksR.mod h4' m2 (fun b p q=>s24 b q p);have h5'':=intsR.mod h5' m2 (fun b p q=>s25 b q p);replace x0:w2.cell? ⟨w.heap.size,0,none⟩=some (.int .i64 d.idx):=m2.cell x0 (fun hf=>by have:=mrksR.rng h2 _ hf;dsimp only at this;omega);replace x1:w2.cell? ⟨w.heap.size,1,none⟩=some (u1):=m2.cell x1 (fun hf=>by have:=mrksR.rng h2 _ hf;dsimp only at this;omega);replace x2:w2.cell? ⟨w.heap.size,2,none⟩=some (u2):=m2.cell x2 (fun hf=>by have:=mrksR.rng h2 _ hf;dsimp only at this;omega);replace x3:w2.cell? ⟨w.heap.size,3,none⟩=some (u3):=m2.cell x3 (fun hf=>by have:=mrksR.rng h2 _ hf;dsimp only at this;omega);replace x4:w2.cell? ⟨w.heap.size,4,none⟩=some (u4):=m2.cell x4 (fun hf=>by have:=mrksR.rng h2 _ hf;dsimp only at this;omega);replace x5:w2.cell? ⟨w.heap.size,5,none⟩=some (u5):=m2.cell x5 (fun hf=>by have:=mrksR.rng h2 _ hf;dsimp only at this;omega);replace r1:=balsR.mod r1 m2 (fun b p q=>s12 b p q);go_wp2_with fail;refine(fE5 _ d.held base F3 (k+mE d.bals+mY d.votes) _ h3'' oM oM oM).mono ?_;rintro e w3 ⟨rfl,r3,m3⟩;have h4''':=mrksR.mod h4'' m3 (fun b p q=>s34 b q p);have h5''':=intsR.mod h5'' m3 (fun b p q=>s35 b q p);replace x0:w3.cell? ⟨w.heap.size,0,none⟩=some (.int .i64 d.idx):=m3.cell x0 (fun hf=>by have:=contsR.rng h3 _ hf;dsimp only at this;omega);replace x1:w3.cell? ⟨w.heap.size,1,none⟩=some (u1):=m3.cell x1 (fun hf=>by have:=contsR.rng h3 _ hf;dsimp only at this;omega);replace x2:w3.cell? ⟨w.heap.size,2,none⟩=some (u2):=m3.cell x2 (fun hf=>by have:=contsR.rng h3 _ hf;dsimp only at this;omega)
 replace x3:w3.cell? ⟨w.heap.size,3,none⟩=some (u3):=m3.cell x3 (fun hf=>by have:=contsR.rng h3 _ hf;dsimp only at this;omega);replace x4:w3.cell? ⟨w.heap.size,4,none⟩=some (u4):=m3.cell x4 (fun hf=>by have:=contsR.rng h3 _ hf;dsimp only at this;omega);replace x5:w3.cell? ⟨w.heap.size,5,none⟩=some (u5):=m3.cell x5 (fun hf=>by have:=contsR.rng h3 _ hf;dsimp only at this;omega);replace r1:=balsR.mod r1 m3 (fun b p q=>s13 b p q);replace r2:=mrksR.mod r2 m3 (fun b p q=>s23 b p q);go_wp2_with fail;refine(fE6 _ d.done base F4 (k+mE d.bals+mY d.votes+pQ d.held) _ h4''' oM oM oM).mono ?_;rintro e w4 ⟨rfl,r4,m4⟩;have h5'''':=intsR.mod h5''' m4 (fun b p q=>s45 b q p);replace x0:w4.cell? ⟨w.heap.size,0,none⟩=some (.int .i64 d.idx):=m4.cell x0 (fun hf=>by have:=mrksR.rng h4 _ hf;dsimp only at this;omega);replace x1:w4.cell? ⟨w.heap.size,1,none⟩=some (u1):=m4.cell x1 (fun hf=>by have:=mrksR.rng h4 _ hf;dsimp only at this;omega);replace x2:w4.cell? ⟨w.heap.size,2,none⟩=some (u2):=m4.cell x2 (fun hf=>by have:=mrksR.rng h4 _ hf;dsimp only at this;omega);replace x3:w4.cell? ⟨w.heap.size,3,none⟩=some (u3):=m4.cell x3 (fun hf=>by have:=mrksR.rng h4 _ hf;dsimp only at this;omega);replace x4:w4.cell? ⟨w.heap.size,4,none⟩=some (u4):=m4.cell x4 (fun hf=>by have:=mrksR.rng h4 _ hf;dsimp only at this;omega);replace x5:w4.cell? ⟨w.heap.size,5,none⟩=some (u5):=m4.cell x5 (fun hf=>by have:=mrksR.rng h4 _ hf;dsimp only at this;omega);replace r1:=balsR.mod r1 m4 (fun b p q=>s14 b p q);replace r2:=mrksR.mod r2 m4 (fun b p q=>s24 b p q)
 replace r3:=contsR.mod r3 m4 (fun b p q=>s34 b p q);go_wp2_with fail;refine(fKv _ d.appl base F5 (k+mE d.bals+mY d.votes+pQ d.held+mY d.done) _ h5'''' oM oM oM).mono ?_;rintro e w5 ⟨rfl,r5,m5⟩;replace r1:=balsR.mod r1 m5 (fun b p q=>s15 b p q);replace r2:=mrksR.mod r2 m5 (fun b p q=>s25 b p q);replace r3:=contsR.mod r3 m5 (fun b p q=>s35 b p q);replace r4:=mrksR.mod r4 m5 (fun b p q=>s45 b p q);go_wp2;go_ret;refine⟨?_,⟨_,_,_,_,_,F1,F2,F3,F4,F5,rfl,r1,r2,r3,r4,r5,s12,s13,s14,s15,s23,s24,s25,s34,s35,s45,HF.out⟩,((((((Mod.refl F w).alloc _).trans (m1.mono (fun b hb=>(HF.out b).2 (.inl hb)))).trans (m2.mono (fun b hb=>(HF.out b).2 (.inr (.inl hb))))).trans (m3.mono (fun b hb=>(HF.out b).2 (.inr (.inr (.inl hb)))))).trans (m4.mono (fun b hb=>(HF.out b).2 (.inr (.inr (.inr (.inl hb))))))).trans (m5.mono (fun b hb=>(HF.out b).2 (.inr (.inr (.inr (.inr hb))))))⟩;simp;try omega
theorem fL9 (v:Value) (d:Shd) (k:Int) (w:World) (hv:shdR.V w v (xN k d)) (hw:vY d≤1048576) (hn:k+fBa d≤1073741824) (hk0:0≤k) :
  Calls Tryz.prog 43 #[v,.int .i64 k] w fun r w'=>r =.returned (.int .i64 (k+fBa d))∧Below w.heap.size w w':=by
 obtain⟨u1,u2,u3,u4,u5,rfl,h1,h2,h3,h4,h5⟩:=hv;unfold vY at hw;unfold fBa at hn ⊢;go_enter Tryz.func43,Tryz.ntmps43;go_wp2_with fail;refine(fAi _ d.bals k _ (balsR.below h1 qBq) oM oM oM).mono ?_;rintro e w1 ⟨rfl,b1⟩;have x0:w1.cell? ⟨w.heap.size,0,none⟩=some (.int .i64 d.idx):=cK b1 (by simp[go_sem,xN]);have x1:w1.cell? ⟨w.heap.size,1,none⟩=some (u1):=cK b1 (by simp[go_sem,xN]);have x2:w1.cell? ⟨w.heap.size,2,none⟩=some (u2):=cK b1 (by simp[go_sem,xN]);have x3:w1.cell? ⟨w.heap.size,3,none⟩=some (u3):=cK b1 (by simp[go_sem,xN]);have x4:w1.cell? ⟨w.heap.size,4,none⟩=some (u4):=cK b1 (by simp[go_sem,xN]);have x5:w1.cell? ⟨w.heap.size,5,none⟩=some (u5):=cK b1 (by simp[go_sem,xN]);go_wp2_with fail;refine(fEs _ d.votes (k+mE d.bals) _ (mrksR.below h2 qBq) oM oM oM).mono ?_;rintro e w2 ⟨rfl,b2⟩;replace x0:w2.cell? ⟨w.heap.size,0,none⟩=some (.int .i64 d.idx):=cK b2 x0;replace x1:w2.cell? ⟨w.heap.size,1,none⟩=some (u1):=cK b2 x1;replace x2:w2.cell? ⟨w.heap.size,2,none⟩=some (u2):=cK b2 x2;replace x3:w2.cell? ⟨w.heap.size,3,none⟩=some (u3):=cK b2 x3;replace x4:w2.cell? ⟨w.heap.size,4,none⟩=some (u4):=cK b2 x4;replace x5:w2.cell? ⟨w.heap.size,5,none⟩=some (u5):=cK b2 x5;go_wp2_with fail;refine(fEq _ d.held (k+mE d.bals+mY d.votes) _ (contsR.below h3 qBq) oM oM oM).mono ?_;rintro e w3 ⟨rfl,b3⟩;replace x0:w3.cell? ⟨w.heap.size,0,none⟩=some (.int .i64 d.idx):=cK b3 x0;replace x1:w3.cell? ⟨w.heap.size,1,none⟩=some (u1):=cK b3 x1;replace x2:w3.cell? ⟨w.heap.size,2,none⟩=some (u2):=cK b3 x2;replace x3:w3.cell? ⟨w.heap.size,3,none⟩=some (u3):=cK b3 x3
 replace x4:w3.cell? ⟨w.heap.size,4,none⟩=some (u4):=cK b3 x4;replace x5:w3.cell? ⟨w.heap.size,5,none⟩=some (u5):=cK b3 x5;go_wp2_with fail;refine(fEs _ d.done (k+mE d.bals+mY d.votes+pQ d.held) _ (mrksR.below h4 qBq) oM oM oM).mono ?_;rintro e w4 ⟨rfl,b4⟩;replace x0:w4.cell? ⟨w.heap.size,0,none⟩=some (.int .i64 d.idx):=cK b4 x0;replace x1:w4.cell? ⟨w.heap.size,1,none⟩=some (u1):=cK b4 x1;replace x2:w4.cell? ⟨w.heap.size,2,none⟩=some (u2):=cK b4 x2;replace x3:w4.cell? ⟨w.heap.size,3,none⟩=some (u3):=cK b4 x3;replace x4:w4.cell? ⟨w.heap.size,4,none⟩=some (u4):=cK b4 x4;replace x5:w4.cell? ⟨w.heap.size,5,none⟩=some (u5):=cK b4 x5;go_wp2_with fail;refine(fKd _ d.appl (k+mE d.bals+mY d.votes+pQ d.held+mY d.done) _ (intsR.below h5 qBq) oM oM oM).mono ?_;rintro e w5 ⟨rfl,b5⟩;go_wp2;go_ret;refine⟨?_,qBq⟩;simp;try omega
variable [dQ Logg] [iH Logg] [dQ Jrn] [iH Jrn] [dQ Shd] [iH Shd]
structure JrnR where
 code:Int
 jrn:Jrn
 shard:Shd
variable [dQ JrnR] [iH JrnR]
def jrnRR:Rep JrnR where
 V:=fun w v x=>∃u1_1 u1_2_1 u1_2_2 u2_1 u2_2 u2_3 u2_4 u2_5,v =.agg #[.int .i64 x.code,.int .i64 x.jrn.idx,u1_1,u1_2_1,u1_2_2,.int .i64 x.shard.idx,u2_1,u2_2,u2_3,u2_4,u2_5]∧jrnR.V w (.agg #[.int .i64 x.jrn.idx,u1_1,u1_2_1,u1_2_2]) x.jrn∧shdR.V w (.agg #[.int .i64 x.shard.idx,u2_1,u2_2,u2_3,u2_4,u2_5]) x.shard
 O:=fun w base F v x=>∃u1_1 u1_2_1 u1_2_2 u2_1 u2_2 u2_3 u2_4 u2_5 F1 F2,v =.agg #[.int .i64 x.code,.int .i64 x.jrn.idx,u1_1,u1_2_1,u1_2_2,.int .i64 x.shard.idx,u2_1,u2_2,u2_3,u2_4,u2_5]∧jrnR.O w base F1 (.agg #[.int .i64 x.jrn.idx,u1_1,u1_2_1,u1_2_2]) x.jrn∧shdR.O w base F2 (.agg #[.int .i64 x.shard.idx,u2_1,u2_2,u2_3,u2_4,u2_5]) x.shard∧(∀b,F1 b→¬F2 b)∧(∀b,F b↔(F1 b∨F2 b))
 below:=fun h hb=>by
  obtain⟨u1_1,u1_2_1,u1_2_2,u2_1,u2_2,u2_3,u2_4,u2_5,rfl,h1,h2⟩:=h;exact⟨u1_1,u1_2_1,u1_2_2,u2_1,u2_2,u2_3,u2_4,u2_5,rfl,jrnR.below h1 hb,shdR.below h2 hb⟩
 ofO:=fun h=>by
  obtain⟨u1_1,u1_2_1,u1_2_2,u2_1,u2_2,u2_3,u2_4,u2_5,F1,F2,rfl,h1,h2,_⟩:=h;exact⟨u1_1,u1_2_1,u1_2_2,u2_1,u2_2,u2_3,u2_4,u2_5,rfl,jrnR.ofO h1,shdR.ofO h2⟩
 mod:=fun h hm hd=>by
  obtain⟨u1_1,u1_2_1,u1_2_2,u2_1,u2_2,u2_3,u2_4,u2_5,F1,F2,rfl,h1,h2,s12,hF⟩:=h;exact⟨u1_1,u1_2_1,u1_2_2,u2_1,u2_2,u2_3,u2_4,u2_5,F1,F2,rfl,jrnR.mod h1 hm (fun b hb=>hd b ((hF b).2 (.inl hb))),shdR.mod h2 hm (fun b hb=>hd b ((hF b).2 (.inr hb))),s12,hF⟩
 rng:=fun h b hb=>by
  obtain⟨u1_1,u1_2_1,u1_2_2,u2_1,u2_2,u2_3,u2_4,u2_5,F1,F2,rfl,h1,h2,s12,hF⟩:=h;rcases(hF b).1 hb with hb|hb
  ·exact jrnR.rng h1 b hb
  exact shdR.rng h2 b hb
 base:=fun h hb=>by
  obtain⟨u1_1,u1_2_1,u1_2_2,u2_1,u2_2,u2_3,u2_4,u2_5,F1,F2,rfl,h1,h2,s12,hF⟩:=h;exact⟨u1_1,u1_2_1,u1_2_2,u2_1,u2_2,u2_3,u2_4,u2_5,F1,F2,rfl,jrnR.base h1 hb,shdR.base h2 hb,s12,hF⟩
def fAo (x:JrnR):Nat:=mP x.jrn+vY x.shard
def vV (x:JrnR):Nat:=vJ x.jrn+fBa x.shard
def xM (k:Int) (x:JrnR):JrnR:={x with jrn:=yU k x.jrn,shard:=xN (k+vJ x.jrn) x.shard}
theorem zG {w:World} {v:Value} {x:JrnR} (h:jrnRR.V w v x):∃a1_1 a1_2_1 a1_2_2 a2_1 a2_2 a2_3 a2_4 a2_5 c1_1 c1_2_1 c1_2_2 c2_1 c2_2 c2_3 c2_4 c2_5,v =.agg #[.int .i64 x.code,.int .i64 x.jrn.idx,.slice a1_1 x.jrn.start.length c1_1,.slice a1_2_1 x.jrn.log.synced.length c1_2_1,.slice a1_2_2 x.jrn.log.loose.length c1_2_2,.int .i64 x.shard.idx,.slice a2_1 x.shard.bals.length c2_1,.slice a2_2 x.shard.votes.length c2_2,.slice a2_3 x.shard.held.length c2_3,.slice a2_4 x.shard.done.length c2_4,.slice a2_5 x.shard.appl.length c2_5]:=by
 obtain⟨u1_1,u1_2_1,u1_2_2,u2_1,u2_2,u2_3,u2_4,u2_5,rfl,h1,h2⟩:=h;obtain⟨a1_1,a1_2_1,a1_2_2,c1_1,c1_2_1,c1_2_2,e1⟩:=fAa h1;simp only[Value.agg.injEq,Array.mk.injEq,List.cons.injEq,and_true,true_and] at e1;obtain⟨rfl,rfl,rfl⟩:=e1;obtain⟨a2_1,a2_2,a2_3,a2_4,a2_5,c2_1,c2_2,c2_3,c2_4,c2_5,e2⟩:=fB0 h2;simp only[Value.agg.injEq,Array.mk.injEq,List.cons.injEq,and_true,true_and] at e2;obtain⟨rfl,rfl,rfl,rfl,rfl⟩:=e2;exact⟨_,_,_,_,_,_,_,_,_,_,_,_,_,_,_,_,rfl⟩
theorem fVi (d:JrnR):vV d≤5*fAo d:=by
 unfold vV fAo;have q1:=fSx d.jrn;have q2:=fXc d.shard;omega
theorem rU (x y:Value) (d d':JrnR) (w:World) (hx:jrnRR.V w x d) (hy:jrnRR.V w y d') :
  RI 14 #[x,y] w (.bool (decide (d=d'))):=by
 obtain⟨u1_1,u1_2_1,u1_2_2,u2_1,u2_2,u2_3,u2_4,u2_5,rfl,h1,h2⟩:=hx;obtain⟨v1_1,v1_2_1,v1_2_2,v2_1,v2_2,v2_3,v2_4,v2_5,rfl,k1,k2⟩:=hy;obtain⟨code,jrn,shard⟩:=d;obtain⟨code',jrn',shard'⟩:=d';dsimp only at h1 k1 h2 k2;go_enter Tryz.func14,Tryz.ntmps14;go_wp2_with fail;all_goals try (go_ret;exact⟨by simp_all,qBq⟩)
 refine(fEd _ _ jrn jrn' _ (jrnR.below h1 qBq) (jrnR.below k1 qBq)).mono ?_;rintro e w1 ⟨rfl,b1⟩;have x0:w1.cell? ⟨w.heap.size,0,none⟩=some (.int .i64 code):=cK b1 sG;have x1:w1.cell? ⟨w.heap.size,1,none⟩=some (.int .i64 jrn.idx):=cK b1 sG;have x2:w1.cell? ⟨w.heap.size,2,none⟩=some (u1_1):=cK b1 sG;have x3:w1.cell? ⟨w.heap.size,3,none⟩=some (u1_2_1):=cK b1 sG;have x4:w1.cell? ⟨w.heap.size,4,none⟩=some (u1_2_2):=cK b1 sG;have x5:w1.cell? ⟨w.heap.size,5,none⟩=some (.int .i64 shard.idx):=cK b1 sG;have x6:w1.cell? ⟨w.heap.size,6,none⟩=some (u2_1):=cK b1 sG;have x7:w1.cell? ⟨w.heap.size,7,none⟩=some (u2_2):=cK b1 sG;have x8:w1.cell? ⟨w.heap.size,8,none⟩=some (u2_3):=cK b1 sG;have x9:w1.cell? ⟨w.heap.size,9,none⟩=some (u2_4):=cK b1 sG;have x10:w1.cell? ⟨w.heap.size,10,none⟩=some (u2_5):=cK b1 sG;have y0:w1.cell? ⟨w.heap.size+1,0,none⟩=some (.int .i64 code'):=cK b1 sG;have y1:w1.cell? ⟨w.heap.size+1,1,none⟩=some (.int .i64 jrn'.idx):=cK b1 sG;have y2:w1.cell? ⟨w.heap.size+1,2,none⟩=some (v1_1):=cK b1 sG;have y3:w1.cell? ⟨w.heap.size+1,3,none⟩=some (v1_2_1):=cK b1 sG;have y4:w1.cell? ⟨w.heap.size+1,4,none⟩=some (v1_2_2):=cK b1 sG;have y5:w1.cell? ⟨w.heap.size+1,5,none⟩=some (.int .i64 shard'.idx):=cK b1 sG;have y6:w1.cell? ⟨w.heap.size+1,6,none⟩=some (v2_1):=cK b1 sG;have y7:w1.cell? ⟨w.heap.size+1,7,none⟩=some (v2_2):=cK b1 sG;have y8:w1.cell? ⟨w.heap.size+1,8,none⟩=some (v2_3):=cK b1 sG;have y9:w1.cell? ⟨w.heap.size+1,9,none⟩=some (v2_4):=cK b1 sG;have y10:w1.cell? ⟨w.heap.size+1,10,none⟩=some (v2_5):=cK b1 sG
 go_wp2_with fail;all_goals try (go_ret;exact⟨by simp_all,qBq⟩)
 refine(fSg _ _ shard shard' _ (shdR.below h2 qBq) (shdR.below k2 qBq)).mono ?_;rintro e w2 ⟨rfl,b2⟩;go_wp2;all_goals
  go_ret;exact⟨by simp_all,qBq⟩
theorem fAz (v:Value) (d:JrnR) (base:Nat) (F:Nat→Prop) (k:Int) (w:World) (ho:jrnRR.O w base F v d) (hw:fAo d≤1048576) (hn:k+vV d≤1073741824) (hk0:0≤k) :
  Calls Tryz.prog 16 #[v,.int .i64 k] w fun r w'=>r =.returned (.int .i64 (k+vV d))∧jrnRR.O w' base F v (xM k d)∧Mod F w w':=by
 obtain⟨u1_1,u1_2_1,u1_2_2,u2_1,u2_2,u2_3,u2_4,u2_5,F1,F2,rfl,h1,h2,s12,hF⟩:=ho;unfold fAo at hw;unfold vV at hn ⊢;have HF:Hid (∀b,F b↔(F1 b∨F2 b)):=hF;clear hF;go_enter Tryz.func16,Tryz.ntmps16;go_wp2_with fail;refine(fBo _ d.jrn base F1 k _ (jrnR.alloc h1 _) oM oM oM).mono ?_;rintro e w1 ⟨rfl,r1,m1⟩;have h2':=shdR.mod (shdR.alloc h2 _) m1 (fun b p q=>s12 b q p);have x0:w1.cell? ⟨w.heap.size,0,none⟩=some (.int .i64 d.code):=m1.cell sG (fun hf=>by have:=jrnR.rng h1 _ hf;dsimp only at this;omega);have x1:w1.cell? ⟨w.heap.size,1,none⟩=some (.int .i64 d.jrn.idx):=m1.cell sG (fun hf=>by have:=jrnR.rng h1 _ hf;dsimp only at this;omega);have x2:w1.cell? ⟨w.heap.size,2,none⟩=some (u1_1):=m1.cell sG (fun hf=>by have:=jrnR.rng h1 _ hf;dsimp only at this;omega);have x3:w1.cell? ⟨w.heap.size,3,none⟩=some (u1_2_1):=m1.cell sG (fun hf=>by have:=jrnR.rng h1 _ hf;dsimp only at this;omega);have x4:w1.cell? ⟨w.heap.size,4,none⟩=some (u1_2_2):=m1.cell sG (fun hf=>by have:=jrnR.rng h1 _ hf;dsimp only at this;omega);have x5:w1.cell? ⟨w.heap.size,5,none⟩=some (.int .i64 d.shard.idx):=m1.cell sG (fun hf=>by have:=jrnR.rng h1 _ hf;dsimp only at this;omega);have x6:w1.cell? ⟨w.heap.size,6,none⟩=some (u2_1):=m1.cell sG (fun hf=>by have:=jrnR.rng h1 _ hf;dsimp only at this;omega);have x7:w1.cell? ⟨w.heap.size,7,none⟩=some (u2_2):=m1.cell sG (fun hf=>by have:=jrnR.rng h1 _ hf;dsimp only at this;omega);have x8:w1.cell? ⟨w.heap.size,8,none⟩=some (u2_3):=m1.cell sG (fun hf=>by have:=jrnR.rng h1 _ hf;dsimp only at this;omega)
 have x9:w1.cell? ⟨w.heap.size,9,none⟩=some (u2_4):=m1.cell sG (fun hf=>by have:=jrnR.rng h1 _ hf;dsimp only at this;omega);have x10:w1.cell? ⟨w.heap.size,10,none⟩=some (u2_5):=m1.cell sG (fun hf=>by have:=jrnR.rng h1 _ hf;dsimp only at this;omega);go_wp2_with fail;refine(fM3 _ d.shard base F2 (k+vJ d.jrn) _ h2' oM oM oM).mono ?_;rintro e w2 ⟨rfl,r2,m2⟩;replace r1:=jrnR.mod r1 m2 (fun b p q=>s12 b p q);go_wp2;go_ret;refine⟨?_,⟨_,_,_,_,_,_,_,_,F1,F2,rfl,r1,r2,s12,HF.out⟩,(((Mod.refl F w).alloc _).trans (m1.mono (fun b hb=>(HF.out b).2 (.inl hb)))).trans (m2.mono (fun b hb=>(HF.out b).2 (.inr hb)))⟩;simp;try omega
theorem uR (v:Value) (d:JrnR) (k:Int) (w:World) (hv:jrnRR.V w v (xM k d)) (hw:fAo d≤1048576) (hn:k+vV d≤1073741824) (hk0:0≤k) :
  Calls Tryz.prog 17 #[v,.int .i64 k] w fun r w'=>r =.returned (.int .i64 (k+vV d))∧Below w.heap.size w w':=by
 obtain⟨u1_1,u1_2_1,u1_2_2,u2_1,u2_2,u2_3,u2_4,u2_5,rfl,h1,h2⟩:=hv;unfold fAo at hw;unfold vV at hn ⊢;go_enter Tryz.func17,Tryz.ntmps17;go_wp2_with fail;refine(fIp _ d.jrn k _ (jrnR.below h1 qBq) oM oM oM).mono ?_;rintro e w1 ⟨rfl,b1⟩;have x0:w1.cell? ⟨w.heap.size,0,none⟩=some (.int .i64 d.code):=cK b1 (by simp[go_sem,xM,yU,xN]);have x1:w1.cell? ⟨w.heap.size,1,none⟩=some (.int .i64 d.jrn.idx):=cK b1 (by simp[go_sem,xM,yU,xN]);have x2:w1.cell? ⟨w.heap.size,2,none⟩=some (u1_1):=cK b1 (by simp[go_sem,xM,yU,xN]);have x3:w1.cell? ⟨w.heap.size,3,none⟩=some (u1_2_1):=cK b1 (by simp[go_sem,xM,yU,xN]);have x4:w1.cell? ⟨w.heap.size,4,none⟩=some (u1_2_2):=cK b1 (by simp[go_sem,xM,yU,xN]);have x5:w1.cell? ⟨w.heap.size,5,none⟩=some (.int .i64 d.shard.idx):=cK b1 (by simp[go_sem,xM,yU,xN]);have x6:w1.cell? ⟨w.heap.size,6,none⟩=some (u2_1):=cK b1 (by simp[go_sem,xM,yU,xN]);have x7:w1.cell? ⟨w.heap.size,7,none⟩=some (u2_2):=cK b1 (by simp[go_sem,xM,yU,xN]);have x8:w1.cell? ⟨w.heap.size,8,none⟩=some (u2_3):=cK b1 (by simp[go_sem,xM,yU,xN]);have x9:w1.cell? ⟨w.heap.size,9,none⟩=some (u2_4):=cK b1 (by simp[go_sem,xM,yU,xN]);have x10:w1.cell? ⟨w.heap.size,10,none⟩=some (u2_5):=cK b1 (by simp[go_sem,xM,yU,xN]);go_wp2_with fail;refine(fL9 _ d.shard (k+vJ d.jrn) _ (shdR.below h2 qBq) oM oM oM).mono ?_;rintro e w2 ⟨rfl,b2⟩;go_wp2;go_ret;refine⟨?_,qBq⟩;simp;try omega
end
section
variable [dQ Leg] [iH Leg] [dQ Cont] [iH Cont]
structure Evt where
 vote:Bool
 con:Cont
 out:Int
variable [dQ Evt] [iH Evt]
def evtR:Rep Evt where
 V:=fun w v x=>∃u1_1,v =.agg #[.bool x.vote,.int .i64 x.con.id,u1_1,.int .i64 x.out]∧contR.V w (.agg #[.int .i64 x.con.id,u1_1]) x.con
 O:=fun w base F v x=>∃u1_1 F1,v =.agg #[.bool x.vote,.int .i64 x.con.id,u1_1,.int .i64 x.out]∧contR.O w base F1 (.agg #[.int .i64 x.con.id,u1_1]) x.con∧(∀b,F b↔(F1 b))
 below:=fun h hb=>by
  obtain⟨u1_1,rfl,h1⟩:=h;exact⟨u1_1,rfl,contR.below h1 hb⟩
 ofO:=fun h=>by
  obtain⟨u1_1,F1,rfl,h1,_⟩:=h;exact⟨u1_1,rfl,contR.ofO h1⟩
 mod:=fun h hm hd=>by
  obtain⟨u1_1,F1,rfl,h1,hF⟩:=h;exact⟨u1_1,F1,rfl,contR.mod h1 hm (fun b hb=>hd b ((hF b).2 hb)),hF⟩
 rng:=fun h b hb=>by
  obtain⟨u1_1,F1,rfl,h1,hF⟩:=h;rcases(hF b).1 hb with hb
  exact contR.rng h1 b hb
 base:=fun h hb=>by
  obtain⟨u1_1,F1,rfl,h1,hF⟩:=h;exact⟨u1_1,F1,rfl,contR.base h1 hb,hF⟩
def fM2 (v:Value):List Value:=match v with | .agg a=>one (a.getD 0 (.int .i64 0))++one (a.getD 1 (.int .i64 0))++one (a.getD 2 (.int .i64 0))++one (a.getD 3 (.int .i64 0))|_=>[]
variable [dQ Evt] [iH Evt]
def evtfR:Rep Evt where
 V:=fun w v x=>∃u1,v =.agg #[.bool x.vote,.int .i64 x.con.id,u1,.int .i64 x.out]∧legsR.V w u1 x.con.legs
 O:=fun w base F v x=>∃u1 F1,v =.agg #[.bool x.vote,.int .i64 x.con.id,u1,.int .i64 x.out]∧legsR.O w base F1 u1 x.con.legs∧(∀b,F b↔(F1 b))
 below:=fun h hb=>by
  obtain⟨u1,rfl,h1⟩:=h;exact⟨u1,rfl,legsR.below h1 hb⟩
 ofO:=fun h=>by
  obtain⟨u1,F1,rfl,h1,_⟩:=h;exact⟨u1,rfl,legsR.ofO h1⟩
 mod:=fun h hm hd=>by
  obtain⟨u1,F1,rfl,h1,hF⟩:=h;exact⟨u1,F1,rfl,legsR.mod h1 hm (fun b hb=>hd b ((hF b).2 hb)),hF⟩
 rng:=fun h b hb=>by
  obtain⟨u1,F1,rfl,h1,hF⟩:=h;exact legsR.rng h1 b ((hF b).1 hb)
 base:=fun h hb=>by
  obtain⟨u1,F1,rfl,h1,hF⟩:=h;exact⟨u1,F1,rfl,legsR.base h1 hb,hF⟩
theorem evtf_V {w:World} {v:Value} {x:Evt}:evtfR.V w v x↔evtR.V w v x:=by
 constructor
 ·rintro⟨u1,rfl,h1⟩;exact⟨u1,rfl,⟨u1,rfl,h1⟩⟩
 rintro⟨u1,rfl,⟨u2,he,h1⟩⟩;simp only[Value.agg.injEq,Array.mk.injEq,List.cons.injEq,and_true,true_and] at he;subst he;exact⟨_,rfl,h1⟩
theorem evtf_O {w:World} {base:Nat} {F:Nat→Prop} {v:Value} {x:Evt}:evtfR.O w base F v x↔evtR.O w base F v x:=by
 constructor
 ·rintro⟨u1,F1,rfl,h1,hF⟩;exact⟨u1,F,rfl,⟨u1,F1,rfl,h1,hF⟩,fun _=>Iff.rfl⟩
 rintro⟨u1,F1,rfl,⟨u2,F2,he,h1,h2⟩,hF⟩;simp only[Value.agg.injEq,Array.mk.injEq,List.cons.injEq,and_true,true_and] at he;subst he;exact⟨_,F2,rfl,h1,fun b=>(hF b).trans (h2 b)⟩
end
end Go.Proofs.YtpibfdebfacooaaGreat

import Derived.Test.YtbfnobcidnmohaaGreatPrnSafeClusterLaw1
set_option maxHeartbeats 2000000
set_option linter.unusedSectionVars false
set_option linter.unusedSimpArgs false
namespace Go.Proofs.YtbfnobcidnmohaaGreat
open Go.RowKit
attribute [local go_sem ↓] Go.wp_at_zero Go.wp_at_succ
section
variable [dQ Leg] [iH Leg] [dQ Cont] [iH Cont]
def contsR:Rep (List Cont):=nRep contR 60 2 fV6
def gX (xs:List Cont):Nat:=wtL pR xs
theorem gG {w:World} {v:Value} {xs:List Cont} (h:contsR.V w v xs):∃a c,v =.slice a xs.length c:=by
 obtain⟨a,c,rfl,_⟩:=h;exact⟨_,_,rfl⟩
theorem fRv:(Tryz.prog.info? 60).map (fun i=>(i.zero,i.size,i.bytes))=some (some (.agg #[.int .i64 0,.slice none 0 0]),2,32):=kF
theorem fRy {w w':World} {a0 a1 a2 a3:Addr} {x0 x1 x2 x3:Value} (hb:Below w.heap.size w w') (g0:w.cell? a0=some x0) (g1:w.cell? a1=some x1) (g2:w.cell? a2=some x2) (g3:w.cell? a3=some x3):Below w.heap.size w w'∧w'.cell? a0=some x0∧w'.cell? a1=some x1∧w'.cell? a2=some x2∧w'.cell? a3=some x3:=
 ⟨hb,cK hb g0,cK hb g1,cK hb g2,cK hb g3⟩
theorem zP (x y:Value) (xs ys:List Cont) (w:World) (hx:contsR.V w x xs) (hy:contsR.V w y ys) :
  RI 36 #[x,y] w (.bool (decide (xs=ys))):=by
 obtain⟨ax,cx,rfl,hcx,hmx,hx⟩:=hx;obtain⟨ay,cy,rfl,hcy,hmy,hy⟩:=hy;unfold maxLen at hmx hmy;by_cases hl:ys.length=xs.length
 ·
  rw[hl] at hcy hy ⊢;have HL:Hid (ys.length=xs.length):=hl;clear hl;generalize hn:xs.length=n at *;have HN:Hid (xs.length=n):=hn;clear hn;go_enter Tryz.func36,Tryz.ntmps36;go_wp2;go_loopw [5] (fun i w'=>∃k:Nat,k≤n∧i =.int .i64 k∧(∀j,j<k→xs.getD j default=ys.getD j default)∧Below w.heap.size w w') (fun i _=>n-(intOf i).toNat)
  case atStart=>exact⟨0,oM,rfl,fun j h=>absurd h oM,bR _ _⟩
  obtain⟨k,hk,rfl,hpre,hbl⟩:=hrel;have HP:Hid (∀j,j<k→xs.getD j default=ys.getD j default):=hpre;clear hpre;by_cases hlt:k<n
  ·
   obtain⟨bx,ox,ux,rfl,_,p1,hvx⟩:=hx k hlt;obtain⟨b2,oy,uy,rfl,_,p2,hvy⟩:=hy k hlt;obtain⟨l1,hl1⟩:∃l,l=xs.getD k default:=⟨_,rfl⟩
   obtain⟨l2,hl2⟩:∃l,l=ys.getD k default:=⟨_,rfl⟩
   rw[←hl1] at hvx;rw[←hl2] at hvy;have H1:Hid (l1=xs.getD k default):=hl1;have H2:Hid (l2=ys.getD k default):=hl2;have hvx':=hvx;obtain⟨ux1,rfl,_⟩:=hvx';have hvy':=hvy;obtain⟨uy1,rfl,_⟩:=hvy';have g0:w.cell? ⟨bx,ox+k*2,none⟩=some (.int .i64 l1.id):=p1 0 oM;have g1:w.cell? ⟨bx,ox+k*2+1,none⟩=some (ux1):=p1 1 oM;have g2:w.cell? ⟨b2,oy+k*2,none⟩=some (.int .i64 l2.id):=p2 0 oM;have g3:w.cell? ⟨b2,oy+k*2+1,none⟩=some (uy1):=p2 1 oM;clear hl1 hl2 hx hy p1 p2;go_wp2;go_region_held3 (fun w'=>Below w.heap.size w w'∧w'.cell? ⟨bx,ox+k*2,none⟩=some (.int .i64 l1.id)∧w'.cell? ⟨bx,ox+k*2+1,none⟩=some (ux1)∧w'.cell? ⟨b2,oy+k*2,none⟩=some (.int .i64 l2.id)∧w'.cell? ⟨b2,oy+k*2+1,none⟩=some (uy1)) ((refine fRy ?_ g0 g1 g2 g3;(repeat (first|exact bR _ _|assumption|refine bD ?_|refine bA ?_ _|refine bS ?_ (by assumption))))) (first|(go_at_call 92;refine(fH2 (.agg #[.int .i64 l1.id,ux1]) (.agg #[.int .i64 l2.id,uy1]) l1 l2 _ (contR.below hvx qT) (contR.below hvy qT)).mono ?_;rintro e w' ⟨rfl,hb1⟩));rename_i hH;have hB:=hH.1;clear hH;go_wp2
   ·
    rename_i hle;go_ret;refine⟨?_,hB⟩;have:¬xs=ys:=fun h=>by
     have:l1=l2:=by rw[H1.out,H2.out,h]
     simp[this] at hle
    simp[this]
   rename_i hle;refine⟨⟨k+1,by omega,by go_num,fun j hj=>?_,hB⟩,mI⟩;by_cases hjk:j<k
   ·exact HP.out j hjk
   have:j=k:=oM;subst this;rw[←H1.out,←H2.out];simpa using hle
  go_wp2;go_ret;have:k=n:=oM;subst this;refine⟨?_,hbl⟩;have:xs=ys:=uA (by rw[HL.out,HN.out]) (by rw[HN.out];exact HP.out);simp[this]
 go_enter Tryz.func36,Tryz.ntmps36;have hl':((xs.length:Int)==(ys.length:Int))=false:=by simp;omega
 go_wp2;go_ret;have:¬xs=ys:=fun h=>hl (by rw[h])
 exact⟨by simp[this],bR _ _⟩
theorem fAr (x:Value) (xs:List Cont) (w:World) (hx:contsR.V w x xs) (hn:gX xs≤1048576) :
  Calls Tryz.prog 27 #[x] w fun e w'=>∃v F,e =.returned v∧contsR.O w' w.heap.size F v xs∧Below w.heap.size w w':=by
 obtain⟨ax,cx,rfl,hcx,hmx,hx⟩:=hx;unfold maxLen at hmx;unfold gX at hn;have hlen:xs.length≤1048576:=by unfold wtL at hn;omega
 have hW:∀k,k<xs.length→pR (xs.getD k default)≤1048576:=fun k hk=>(fEn hn hk).1
 obtain⟨i0,hi,hz0,hz1,hz2⟩:=info_parts fRv;obtain⟨w1,hmk,hown,hgr⟩:=run_make_full (P:=Tryz.prog) w w.heap.size 31 60 i0 _ 2 Tryz.underlying31 hi hz0 hz1 .i64 .i64 xs.length (by rw[hz2];omega) (by unfold maxLen;omega) (Nat.le_refl _);have hbl0:Below w.heap.size w w1:=(bR _ _).grown hgr (Nat.le_refl _) (fun k h=>by cases h);clear hn;generalize hn':xs.length=n at *;have HN:Hid (xs.length=n):=hn';clear hn';go_enter Tryz.func27,Tryz.ntmps27;go_wp2;go_loopw [4] (fun i w'=>∃(k:Nat) (cs:List Value) (us:Nat→Value) (fs:Nat→Nat→Prop),k≤n∧i =.int .i64 k∧PO contR 60 2 fV6 w' w.heap.size (.slice (some ⟨w.heap.size,0,none⟩) n n) n k (fun i=>xs.getD i default) cs us fs∧Below w.heap.size w w') (fun i _=>n-(intOf i).toNat)
 case atStart=>exact⟨0,_,fun _=>.int .i64 0,fun _ _=>False,Nat.zero_le _,rfl,⟨hown,fun i h=>oM,fun i h=>oM,fun i h=>oM,fun i h=>oM,fun i j h=>oM⟩,hbl0⟩
 obtain⟨k,cs,us,fs,hk,rfl,hp,hbl⟩:=hrel;clear hown hmk hgr hbl0;by_cases hlt:k<n
 ·
  obtain⟨bx,ox,ux,rfl,_,p1,hvx⟩:=hx k hlt;have hw:=hW k hlt;obtain⟨l,hl⟩:∃l,l=xs.getD k default:=⟨_,rfl⟩
  rw[←hl] at hvx hw;have HL:Hid (l=xs.getD k default):=hl;have hvx':=hvx;obtain⟨ux1,rfl,_⟩:=hvx';have g0:w.cell? ⟨bx,ox+k*2,none⟩=some (.int .i64 l.id):=p1 0 oM;replace g0:=cK hbl g0;have g1:w.cell? ⟨bx,ox+k*2+1,none⟩=some (ux1):=p1 1 oM;replace g1:=cK hbl g1;clear hx p1 hW hl;go_wp2_with fail;refine(fJ6 (.agg #[.int .i64 l.id,ux1]) l _ (contR.below hvx qT) hw).mono ?_;rintro e wa ⟨v1,F1,rfl,o1,b1⟩;have ofm1:=contR.ofO o1;obtain⟨x1_1,rfl,y1_1⟩:=ofm1;obtain⟨a1_1,n1_1,rfl⟩:=mM y1_1;have ho1:=(hp.keep b1).row;obtain⟨y0,q0⟩:=fH ho1 (k*2) oM;obtain⟨y1,q1⟩:=fH ho1 (k*2+1) oM;have hf:=fun j=>ho1.frozenAt j
  go_wp2;have s0:=ho1.stored (k*2) (.int .i64 l.id);have s1:=s0.1.stored (k*2+1) (.slice a1_1 l.legs.length n1_1);have hrow:World.ownsRow _ w.heap.size 60 2 (.slice (some ⟨w.heap.size,0,none⟩) n n) n (setRow cs (k*2) [.int .i64 l.id,.slice a1_1 l.legs.length n1_1]):=s1.1;have hcl:=hp.row.1;refine⟨⟨k+1,_,_,_,by omega,by go_num,hp.push (u:=(.agg #[.int .i64 l.id,.slice a1_1 l.legs.length n1_1])) (F:=F1) hbl.size b1 (by rw[←HL.out];exact o1) rfl hrow ((Mod.of_grown s0.2).trans (Mod.of_grown s1.2)) ?_ ?_,?_⟩,mI⟩
  ·intro i hi j hj;exact qJ _ _ _ _ (.inl oM)
  ·intro j hj;exact rD _ _ _ _ (by simp only[List.length_cons,List.length_nil];omega) hj
  exact(((bS hbl b1).setCell (Nat.le_refl _) _).setCell (Nat.le_refl _) _)
 go_wp2;go_ret;have hkn:k=n:=oM;subst hkn;have e:=HN.out;subst e;exact⟨_,_,rfl,⟨cs,us,fs,hp,fun b=>Iff.rfl⟩,hbl⟩
theorem fAq (x:Value) (xs:List Cont) (left:Int) (w:World) (hx:contsR.V w x xs) (h0:0≤left) (h1:left≤1048576) :
  RI 15 #[x,.int .i64 left] w (.int .i64 (fU left (gX xs))):=by
 obtain⟨ax,cx,rfl,hcx,hmx,hx⟩:=hx;unfold maxLen at hmx;unfold gX wtL;have HT:Hid (∀k,k<xs.length→gH pR (k+1) xs=gH pR k xs+pR (xs.getD k default)∧gH pR (k+1) xs≤gH pR xs.length xs):=
  fun k hk=>⟨qH _ k xs hk,uK _ _ _ _ hk⟩
 generalize xs.length=n at *;by_cases h:left<n
 ·have h':left-(n:Int)<0:=oM;clear hx;go_enter Tryz.func15,Tryz.ntmps15;go_wp2;go_ret;exact⟨by simp only[fU];rw[if_pos oM];rfl,bR _ _⟩
 have h':¬left-(n:Int)<0:=oM;go_enter Tryz.func15,Tryz.ntmps15;go_wp2;go_loopw [1,5] (fun l i w'=>∃k:Nat,k≤n∧i =.int .i64 k∧l =.int .i64 (left-n-gH pR k xs)∧0≤left-n-gH pR k xs∧Below w.heap.size w w') (fun _ i _=>n-(intOf i).toNat)
 case atStart=>exact⟨0,oM,rfl,by simp[gH],by simp[gH];omega,bR _ _⟩
 obtain⟨k,hk,rfl,rfl,hpos,hbl⟩:=hrel;by_cases hlt:k<n
 ·
  obtain⟨bx,ox,ux,rfl,_,p1,hvx⟩:=hx k hlt;obtain⟨t2,t3⟩:=HT.out k hlt;generalize xs.getD k default=l at *;have hvx':=hvx;obtain⟨ux1,rfl,_⟩:=hvx';have g0:w.cell? ⟨bx,ox+k*2,none⟩=some (.int .i64 l.id):=p1 0 oM;replace g0:=cK hbl g0;have g1:w.cell? ⟨bx,ox+k*2+1,none⟩=some (ux1):=p1 1 oM;replace g1:=cK hbl g1;generalize hm:pR l=m at *;have HM:Hid (pR l=m):=hm;clear hx p1 hm;generalize gH pR k xs=c at *;go_wp2_with fail;refine(fJy (.agg #[.int .i64 l.id,ux1]) l (left-n-c) _ (contR.below hvx qT) hpos oM).mono ?_;rintro e wa ⟨rfl,b1⟩;rw[HM.out];go_wp2
  ·
   rename_i hneg;go_ret;refine⟨?_,qT⟩;have:fU left ↑(n+gH pR n xs) = -1:=by
    unfold fU at hneg ⊢;rw[if_pos (by split at hneg <;> omega)]
   rw[this];rfl
  rename_i hneg;refine⟨⟨k+1,by omega,by go_num,?_,?_,qT⟩,mI⟩
  ·
   congr 1
   unfold fU at hneg ⊢;split at hneg <;> omega
  unfold fU at hneg;split at hneg <;> omega
 go_wp2;go_ret;have hkn:k=n:=oM;subst hkn;refine⟨?_,hbl⟩;have:fU left ↑(k+gH pR k xs)=left-k-gH pR k xs:=by
  unfold fU;rw[if_neg oM];omega
 rw[this];rfl
end
section
structure Bal where
 ac:Int
 ast:Int
 am:Int
variable [dQ Bal] [iH Bal]
def balV (x:Bal):Value:=.agg #[.int .i64 x.ac,.int .i64 x.ast,.int .i64 x.am]
theorem fG3 (x:Bal) (w:World) :
  RI 180 #[balV x] w (balV x):=by
 obtain⟨a,b,c⟩:=x;unfold balV;go_enter Tryz.func180,Tryz.ntmps180;go_wp2;exact bodyPost_ret (v:=.agg #[.int .i64 a,.int .i64 b,.int .i64 c]) (by simp[results,Tryz.results180,go_sem]) rfl ⟨rfl,bA (bA (bA (bR _ _) _) _) _⟩
theorem fFt (x y:Bal) (w:World) :
  RI 189 #[balV x,balV y] w (.bool (decide (x=y))):=by
 obtain⟨a,b,c⟩:=x;obtain⟨a',b',c'⟩:=y;unfold balV;go_enter Tryz.func189,Tryz.ntmps189;go_wp2;all_goals
  go_ret;exact⟨by simp_all,bA (bA (bR _ _) _) _⟩
def vF (w:World) (b o:Nat) (x:Bal):Prop:=w.cell? ⟨b,o,none⟩=some (.int .i64 x.ac)∧w.cell? ⟨b,o+1,none⟩=some (.int .i64 x.ast)∧w.cell? ⟨b,o+2,none⟩=some (.int .i64 x.am)
def fHa (w:World) (v:Value) (xs:List Bal):Prop:=
 ∃a cap,v =.slice a xs.length cap∧xs.length≤cap∧cap≤maxLen∧∀i,i<xs.length→∃b o,a=some ⟨b,o,none⟩∧vF w b (o+i*3) (xs.getD i default)
theorem kG {w w':World} {b o:Nat} {x:Bal} (hb:Below w.heap.size w w') (h:vF w b o x):vF w' b o x:=by
 obtain⟨h0,h1,h2⟩:=h;exact⟨cK hb h0,cK hb h1,cK hb h2⟩
theorem fKl {w w':World} {v:Value} {xs:List Bal} (h:fHa w v xs) (hb:Below w.heap.size w w'):fHa w' v xs:=by
 obtain⟨a,cap,rfl,h1,h2,h3⟩:=h;exact⟨a,cap,rfl,h1,h2,fun i hi=>by
  obtain⟨b,o,ha,hc⟩:=h3 i hi;exact⟨b,o,ha,kG hb hc⟩⟩
theorem fMy {w w':World} {b o b' o':Nat} {x y:Bal} (hb:Below w.heap.size w w') (h:vF w b o x) (h':vF w b' o' y) :
  Below w.heap.size w w'∧(w'.cell? ⟨b,o,none⟩=some (.int .i64 x.ac)∧w'.cell? ⟨b,o+1,none⟩=some (.int .i64 x.ast)∧w'.cell? ⟨b,o+2,none⟩=some (.int .i64 x.am))∧(w'.cell? ⟨b',o',none⟩=some (.int .i64 y.ac)∧w'.cell? ⟨b',o'+1,none⟩=some (.int .i64 y.ast)∧w'.cell? ⟨b',o'+2,none⟩=some (.int .i64 y.am)):=
 ⟨hb,kG hb h,kG hb h'⟩
theorem fOm {xs ys:List Bal} (hl:ys.length=xs.length) (h:∀j,j<xs.length→xs.getD j default=ys.getD j default):xs=ys:=by
 apply List.ext_getElem oM;intro i h1 h2;have:=h i h1;simpa [List.getD,h1,h2] using this
theorem fD1 (x y:Value) (xs ys:List Bal) (w:World) (hx:fHa w x xs) (hy:fHa w y ys) :
  RI 111 #[x,y] w (.bool (decide (xs=ys))):=by
 obtain⟨ax,cx,rfl,hcx,hmx,hx⟩:=hx;obtain⟨ay,cy,rfl,hcy,hmy,hy⟩:=hy;unfold maxLen at hmx hmy;by_cases hl:ys.length=xs.length
 ·
  rw[hl] at hcy hy ⊢;have HL:Hid (ys.length=xs.length):=hl;clear hl;generalize hn:xs.length=n at *;have HN:Hid (xs.length=n):=hn;clear hn;go_enter Tryz.func111,Tryz.ntmps111;go_wp2;go_loopw [5] (fun i w'=>∃k:Nat,k≤n∧i =.int .i64 k∧(∀j,j<k→xs.getD j default=ys.getD j default)∧Below w.heap.size w w') (fun i _=>n-(intOf i).toNat)
  case atStart=>exact⟨0,oM,rfl,fun j h=>absurd h oM,bR _ _⟩
  obtain⟨k,hk,rfl,hpre,hbl⟩:=hrel;have HP:Hid (∀j,j<k→xs.getD j default=ys.getD j default):=hpre;clear hpre;by_cases hlt:k<n
  ·
   obtain⟨bx,ox,rfl,h1⟩:=hx k hlt;obtain⟨b2,oy,rfl,h2⟩:=hy k hlt;obtain⟨l1,hl1⟩:∃l,l=xs.getD k default:=⟨_,rfl⟩
   obtain⟨l2,hl2⟩:∃l,l=ys.getD k default:=⟨_,rfl⟩
   rw[←hl1] at h1;rw[←hl2] at h2;have H1:Hid (l1=xs.getD k default):=hl1;have H2:Hid (l2=ys.getD k default):=hl2;clear hl1 hl2 hx hy;go_wp2;go_region_held3 (fun w'=>Below w.heap.size w w'∧(w'.cell? ⟨bx,ox+k*3,none⟩=some (.int .i64 l1.ac)∧w'.cell? ⟨bx,ox+k*3+1,none⟩=some (.int .i64 l1.ast)∧w'.cell? ⟨bx,ox+k*3+2,none⟩=some (.int .i64 l1.am))∧(w'.cell? ⟨b2,oy+k*3,none⟩=some (.int .i64 l2.ac)∧w'.cell? ⟨b2,oy+k*3+1,none⟩=some (.int .i64 l2.ast)∧w'.cell? ⟨b2,oy+k*3+2,none⟩=some (.int .i64 l2.am))) ((refine fMy ?_ h1 h2;repeat (first|exact bR _ _|assumption|refine bD ?_|refine bA ?_ _|refine bS ?_ (by assumption)))) (first|(go_at_call 189;refine(fFt l1 l2 _).mono ?_;rintro e w' ⟨rfl,hb1⟩));rename_i hH;have hB:=hH.1;clear hH;go_wp2
   ·
    rename_i hle;go_ret;refine⟨?_,hB⟩;have:¬xs=ys:=fun h=>by
     have:l1=l2:=by rw[H1.out,H2.out,h]
     simp[this] at hle
    simp[this]
   rename_i hle;refine⟨⟨k+1,by omega,by go_num,fun j hj=>?_,hB⟩,mI⟩;by_cases hjk:j<k
   ·exact HP.out j hjk
   have:j=k:=oM;subst this;rw[←H1.out,←H2.out];simpa using hle
  go_wp2;go_ret;have:k=n:=oM;subst this;refine⟨?_,hbl⟩;have:xs=ys:=fOm (by rw[HL.out,HN.out]) (by rw[HN.out];exact HP.out);simp[this]
 go_enter Tryz.func111,Tryz.ntmps111;have hl':((xs.length:Int)==(ys.length:Int))=false:=by simp;omega
 go_wp2;go_ret;have:¬xs=ys:=fun h=>hl (by rw[h])
 exact⟨by simp[this],bR _ _⟩
def balC (x:Bal):List Value:=[.int .i64 x.ac,.int .i64 x.ast,.int .i64 x.am]
def yH (xs:List Bal):List Value:=xs.flatMap balC
theorem fWl:(Tryz.prog.info? 180).map (fun i=>(i.zero,i.size,i.bytes))=some (some (.agg #[.int .i64 0,.int .i64 0,.int .i64 0]),3,24):=kF
theorem fI1 (xs:List Bal):(yH xs).length=xs.length*3:=by
 induction xs with
 | nil=>rfl
 | cons x r ih=>
  have e:yH (x::r)=balC x++yH r:=by simp[yH]
  have l4:(balC x).length=3:=rfl;rw[e,List.length_append,l4,ih,List.length_cons];omega
theorem fIc (xs:List Bal):∀i,i<xs.length→(yH xs)[i*3]? = some (.int .i64 (xs.getD i default).ac)∧(yH xs)[i*3+1]? = some (.int .i64 (xs.getD i default).ast)∧(yH xs)[i*3+2]? = some (.int .i64 (xs.getD i default).am):=by
 induction xs with
 | nil=>intro i h;simp at h
 | cons x r ih=>
  intro i h;cases i with
  | zero=>simp[yH,balC]
  | succ i=>
   have:=ih i (by simpa using h);have e:yH (x::r)=balC x++yH r:=by simp[yH]
   have l4:(balC x).length=3:=rfl;rw[e];refine⟨?_,?_,?_⟩;all_goals rw[List.getElem?_append_right oM,l4]
   ·rw[show(i+1)*3-3=i*3 by omega];simpa using this.1
   ·rw[show(i+1)*3+1-3=i*3+1 by omega];simpa using this.2.1
   rw[show(i+1)*3+2-3=i*3+2 by omega];simpa using this.2.2
theorem fFi {w:World} {base e:Nat} {v:Value} {xs:List Bal} (h:w.ownsRow base e 3 v xs.length (yH xs)):fHa w v xs:=by
 rcases h.2 with ⟨rfl,hn⟩|⟨g,cap,cur,rfl,hb,hg,hnc,hcm,hcs,htake⟩
 ·exact⟨none,0,by rw[hn],oM,by unfold maxLen;omega,fun i hi=>oM⟩
 refine⟨some ⟨g,0,none⟩,cap,rfl,hnc,hcm,fun i hi=>⟨g,0,rfl,?_⟩⟩;obtain⟨h0,h1,h2⟩:=fIc xs i hi;simp only[Nat.zero_add,vF];exact⟨(h.cellAt _ oM).trans h0,(h.cellAt _ oM).trans h1,(h.cellAt _ oM).trans h2⟩
def fCi (k:Nat) (cs:List Value) (xs:List Bal):Prop:=∀j,j<k*3→cs[j]? = (yH xs)[j]?
theorem fHo {n:Nat} {cs:List Value} {xs:List Bal} (h:fCi n cs xs) (hl:cs.length=n*3) (hn:xs.length=n):cs=yH xs:=by
 apply List.ext_getElem?;intro j;by_cases hj:j<n*3
 ·exact h j hj
 rw[List.getElem?_eq_none oM,List.getElem?_eq_none (by rw[fI1];omega)]
theorem fKr {k:Nat} {cs:List Value} {xs:List Bal} {x:Bal} (h:fCi k cs xs) (hk:k<xs.length) (hl:cs.length=xs.length*3) (he:x=xs.getD k default) :
  fCi (k+1) (((cs.set (k*3) (.int .i64 x.ac)).set (k*3+1) (.int .i64 x.ast)).set (k*3+2) (.int .i64 x.am)) xs:=by
 intro j hj;obtain⟨h0,h1,h2⟩:=fIc xs k hk;subst he;simp only[List.getElem?_set,List.length_set];by_cases e2:k*3+2=j
 ·subst e2;simp[h2];omega
 by_cases e1:k*3+1=j
 ·subst e1;simp[h1];omega
 by_cases e0:k*3=j
 ·subst e0;simp[h0];omega
 simp[e0,e1,e2];exact h j oM
theorem fEj (x:Value) (xs:List Bal) (w:World) (hx:fHa w x xs) (hn:xs.length≤1048576) :
  Calls Tryz.prog 101 #[x] w fun e w'=>∃v,e =.returned v∧w'.ownsRow w.heap.size 180 3 v xs.length (yH xs)∧Below w.heap.size w w':=by
 obtain⟨ax,cx,rfl,hcx,hmx,hx⟩:=hx;unfold maxLen at hmx;obtain⟨i0,hi,hz0,hz1,hz2⟩:=info_parts fWl;obtain⟨w1,hmk,hown,hgr⟩:=run_make_full (P:=Tryz.prog) w w.heap.size 68 180 i0 _ 3 Tryz.underlying68 hi hz0 hz1 .i64 .i64 xs.length (by rw[hz2];omega) (by unfold maxLen;omega) (Nat.le_refl _);have hbl0:Below w.heap.size w w1:=(bR _ _).grown hgr (Nat.le_refl _) (fun k h=>by cases h);generalize hn':xs.length=n at *;have HN:Hid (xs.length=n):=hn';clear hn';go_enter Tryz.func101,Tryz.ntmps101;go_wp2;go_loopw [4] (fun i w'=>∃(k:Nat) (cs:List Value),k≤n∧i =.int .i64 k∧w'.ownsRow w.heap.size 180 3 (.slice (some ⟨w.heap.size,0,none⟩) n n) n cs∧fCi k cs xs∧Below w.heap.size w w') (fun i _=>n-(intOf i).toNat)
 case atStart=>exact⟨0,_,Nat.zero_le _,rfl,hown,fun j h=>oM,hbl0⟩
 obtain⟨k,cs,hk,rfl,ho,hup,hbl⟩:=hrel;have HU:Hid (fCi k cs xs):=hup;clear hup hown hmk hgr hbl0;by_cases hlt:k<n
 ·
  obtain⟨bx,ox,rfl,h1⟩:=hx k hlt;obtain⟨l,hl⟩:∃l,l=xs.getD k default:=⟨_,rfl⟩
  rw[←hl] at h1;have H1:Hid (l=xs.getD k default):=hl;clear hl hx;obtain⟨a0,a1,a2⟩:=kG hbl h1;go_wp2_with fail;refine(fG3 l _).mono ?_;rintro e wa ⟨rfl,hba⟩;have ho1:=gT ho hba;obtain⟨u0,g0⟩:=fH ho1 (k*3) oM;obtain⟨u1,g1⟩:=fH ho1 (k*3+1) oM;obtain⟨u2,g2⟩:=fH ho1 (k*3+2) oM;have hf:=fun j=>ho1.frozenAt j
  simp only[balV];go_wp2;have s0:=ho1.stored (k*3) (.int .i64 l.ac);have s1:=s0.1.stored (k*3+1) (.int .i64 l.ast);have s2:=s1.1.stored (k*3+2) (.int .i64 l.am);refine⟨⟨k+1,_,by omega,by go_num,s2.1,fKr HU.out (by have:=HN.out;omega) (by have:=HN.out;have:=ho.1;omega) H1.out,?_⟩,mI⟩;exact(((bS hbl hba).setCell (Nat.le_refl _) _).setCell (Nat.le_refl _) _).setCell (Nat.le_refl _) _
 go_wp2;go_ret;have hkn:k=n:=oM;subst hkn;have e:=fHo HU.out ho.1 HN.out;subst e;exact⟨_,rfl,ho,hbl⟩
theorem fEh (x:Value) (xs:List Bal) (left:Int) (w:World) (hx:fHa w x xs) (h0:0≤left) (h1:left≤1048576) :
  Calls Tryz.prog 97 #[x,.int .i64 left] w fun e w'=>e =.returned (.int .i64 (fU left xs.length))∧w'=w:=by
 obtain⟨ax,cx,rfl,hcx,hmx,hx⟩:=hx;unfold maxLen at hmx;generalize xs.length=n at *;clear hx;by_cases h:left<n
 ·have h':left-(n:Int)<0:=oM;go_enter Tryz.func97,Tryz.ntmps97;go_wp2;go_ret;exact⟨by simp only[fU,if_pos h];rfl,rfl⟩
 have h':¬left-(n:Int)<0:=oM;go_enter Tryz.func97,Tryz.ntmps97;go_wp2;go_ret;exact⟨by rw[fU,if_neg oM];rfl,rfl⟩
variable [dQ Bal] [iH Bal]
def balsR:Rep (List Bal):=fRep 180 3 yH fHa fKl fFi
def qK (xs:List Bal):Nat:=xs.length
theorem gU {w:World} {v:Value} {xs:List Bal} (h:balsR.V w v xs):∃a c,v =.slice a xs.length c:=by
 obtain⟨a,c,rfl,_⟩:=h;exact⟨_,_,rfl⟩
theorem fJ5 (x:Value) (d:List Bal) (w:World) (hx:balsR.V w x d) (hn:qK d≤1048576) :
  Calls Tryz.prog 101 #[x] w fun e w'=>∃v F,e =.returned v∧balsR.O w' w.heap.size F v d∧Below w.heap.size w w':=by
 refine(fEj x d w hx hn).mono ?_;rintro e w' ⟨v,rfl,ho,hb⟩;exact⟨v,_,rfl,⟨ho,rfl⟩,hb⟩
theorem fH1 (x y:Value) (d d':List Bal) (w:World) (hx:balsR.V w x d) (hy:balsR.V w y d') :
  RI 111 #[x,y] w (.bool (decide (d=d'))):=fD1 x y d d' w hx hy
theorem fJx (x:Value) (d:List Bal) (left:Int) (w:World) (hx:balsR.V w x d) (h0:0≤left) (h1:left≤1048576) :
  RI 97 #[x,.int .i64 left] w (.int .i64 (fU left (qK d))):=by
 refine(fEh x d left w hx h0 h1).mono ?_;rintro e w' ⟨rfl,rfl⟩;exact⟨rfl,bR _ _⟩
end
section
structure Mrk where
 con:Int
 val:Int
variable [dQ Mrk] [iH Mrk]
def mrkV (x:Mrk):Value:=.agg #[.int .i64 x.con,.int .i64 x.val]
theorem fQs (x:Mrk) (w:World) :
  RI 201 #[mrkV x] w (mrkV x):=by
 obtain⟨a,b⟩:=x;unfold mrkV;go_enter Tryz.func201,Tryz.ntmps201;go_wp2;exact bodyPost_ret (v:=.agg #[.int .i64 a,.int .i64 b]) (by simp[results,Tryz.results201,go_sem]) rfl ⟨rfl,bA (bA (bA (bR _ _) _) _) _⟩
theorem fO4 (x y:Mrk) (w:World) :
  RI 249 #[mrkV x,mrkV y] w (.bool (decide (x=y))):=by
 obtain⟨a,b⟩:=x;obtain⟨a',b'⟩:=y;unfold mrkV;go_enter Tryz.func249,Tryz.ntmps249;go_wp2;all_goals
  go_ret;exact⟨by simp_all,bA (bA (bR _ _) _) _⟩
def qC (w:World) (b o:Nat) (x:Mrk):Prop:=w.cell? ⟨b,o,none⟩=some (.int .i64 x.con)∧w.cell? ⟨b,o+1,none⟩=some (.int .i64 x.val)
def fHd (w:World) (v:Value) (xs:List Mrk):Prop:=
 ∃a cap,v =.slice a xs.length cap∧xs.length≤cap∧cap≤maxLen∧∀i,i<xs.length→∃b o,a=some ⟨b,o,none⟩∧qC w b (o+i*2) (xs.getD i default)
theorem fV {w w':World} {b o:Nat} {x:Mrk} (hb:Below w.heap.size w w') (h:qC w b o x):qC w' b o x:=by
 obtain⟨h0,h1⟩:=h;exact⟨cK hb h0,cK hb h1⟩
theorem fKn {w w':World} {v:Value} {xs:List Mrk} (h:fHd w v xs) (hb:Below w.heap.size w w'):fHd w' v xs:=by
 obtain⟨a,cap,rfl,h1,h2,h3⟩:=h;exact⟨a,cap,rfl,h1,h2,fun i hi=>by
  obtain⟨b,o,ha,hc⟩:=h3 i hi;exact⟨b,o,ha,fV hb hc⟩⟩
theorem fUq {w w':World} {b o b' o':Nat} {x y:Mrk} (hb:Below w.heap.size w w') (h:qC w b o x) (h':qC w b' o' y) :
  Below w.heap.size w w'∧(w'.cell? ⟨b,o,none⟩=some (.int .i64 x.con)∧w'.cell? ⟨b,o+1,none⟩=some (.int .i64 x.val))∧(w'.cell? ⟨b',o',none⟩=some (.int .i64 y.con)∧w'.cell? ⟨b',o'+1,none⟩=some (.int .i64 y.val)):=
 ⟨hb,fV hb h,fV hb h'⟩
theorem fP3 {xs ys:List Mrk} (hl:ys.length=xs.length) (h:∀j,j<xs.length→xs.getD j default=ys.getD j default):xs=ys:=by
 apply List.ext_getElem oM;intro i h1 h2;have:=h i h1;simpa [List.getD,h1,h2] using this
theorem fK3 (x y:Value) (xs ys:List Mrk) (w:World) (hx:fHd w x xs) (hy:fHd w y ys) :
  RI 173 #[x,y] w (.bool (decide (xs=ys))):=by
 obtain⟨ax,cx,rfl,hcx,hmx,hx⟩:=hx;obtain⟨ay,cy,rfl,hcy,hmy,hy⟩:=hy;unfold maxLen at hmx hmy;by_cases hl:ys.length=xs.length
 ·
  rw[hl] at hcy hy ⊢;have HL:Hid (ys.length=xs.length):=hl;clear hl;generalize hn:xs.length=n at *;have HN:Hid (xs.length=n):=hn;clear hn;go_enter Tryz.func173,Tryz.ntmps173;go_wp2;go_loopw [5] (fun i w'=>∃k:Nat,k≤n∧i =.int .i64 k∧(∀j,j<k→xs.getD j default=ys.getD j default)∧Below w.heap.size w w') (fun i _=>n-(intOf i).toNat)
  case atStart=>exact⟨0,oM,rfl,fun j h=>absurd h oM,bR _ _⟩
  obtain⟨k,hk,rfl,hpre,hbl⟩:=hrel;have HP:Hid (∀j,j<k→xs.getD j default=ys.getD j default):=hpre;clear hpre;by_cases hlt:k<n
  ·
   obtain⟨bx,ox,rfl,h1⟩:=hx k hlt;obtain⟨b2,oy,rfl,h2⟩:=hy k hlt;obtain⟨l1,hl1⟩:∃l,l=xs.getD k default:=⟨_,rfl⟩
   obtain⟨l2,hl2⟩:∃l,l=ys.getD k default:=⟨_,rfl⟩
   rw[←hl1] at h1;rw[←hl2] at h2;have H1:Hid (l1=xs.getD k default):=hl1;have H2:Hid (l2=ys.getD k default):=hl2;clear hl1 hl2 hx hy;go_wp2;go_region_held3 (fun w'=>Below w.heap.size w w'∧(w'.cell? ⟨bx,ox+k*2,none⟩=some (.int .i64 l1.con)∧w'.cell? ⟨bx,ox+k*2+1,none⟩=some (.int .i64 l1.val))∧(w'.cell? ⟨b2,oy+k*2,none⟩=some (.int .i64 l2.con)∧w'.cell? ⟨b2,oy+k*2+1,none⟩=some (.int .i64 l2.val))) ((refine fUq ?_ h1 h2;repeat (first|exact bR _ _|assumption|refine bD ?_|refine bA ?_ _|refine bS ?_ (by assumption)))) (first|(go_at_call 249;refine(fO4 l1 l2 _).mono ?_;rintro e w' ⟨rfl,hb1⟩));rename_i hH;have hB:=hH.1;clear hH;go_wp2
   ·
    rename_i hle;go_ret;refine⟨?_,hB⟩;have:¬xs=ys:=fun h=>by
     have:l1=l2:=by rw[H1.out,H2.out,h]
     simp[this] at hle
    simp[this]
   rename_i hle;refine⟨⟨k+1,by omega,by go_num,fun j hj=>?_,hB⟩,mI⟩;by_cases hjk:j<k
   ·exact HP.out j hjk
   have:j=k:=oM;subst this;rw[←H1.out,←H2.out];simpa using hle
  go_wp2;go_ret;have:k=n:=oM;subst this;refine⟨?_,hbl⟩;have:xs=ys:=fP3 (by rw[HL.out,HN.out]) (by rw[HN.out];exact HP.out);simp[this]
 go_enter Tryz.func173,Tryz.ntmps173;have hl':((xs.length:Int)==(ys.length:Int))=false:=by simp;omega
 go_wp2;go_ret;have:¬xs=ys:=fun h=>hl (by rw[h])
 exact⟨by simp[this],bR _ _⟩
def mrkC (x:Mrk):List Value:=[.int .i64 x.con,.int .i64 x.val]
def qV (xs:List Mrk):List Value:=xs.flatMap mrkC
theorem fRw:(Tryz.prog.info? 141).map (fun i=>(i.zero,i.size,i.bytes))=some (some (.agg #[.int .i64 0,.int .i64 0]),2,16):=kF
theorem xK (xs:List Mrk):(qV xs).length=xs.length*2:=by
 induction xs with
 | nil=>rfl
 | cons x r ih=>
  have e:qV (x::r)=mrkC x++qV r:=by simp[qV]
  have l4:(mrkC x).length=2:=rfl;rw[e,List.length_append,l4,ih,List.length_cons];omega
theorem fCq (xs:List Mrk):∀i,i<xs.length→(qV xs)[i*2]? = some (.int .i64 (xs.getD i default).con)∧(qV xs)[i*2+1]? = some (.int .i64 (xs.getD i default).val):=by
 induction xs with
 | nil=>intro i h;simp at h
 | cons x r ih=>
  intro i h;cases i with
  | zero=>simp[qV,mrkC]
  | succ i=>
   have:=ih i (by simpa using h);have e:qV (x::r)=mrkC x++qV r:=by simp[qV]
   have l4:(mrkC x).length=2:=rfl;rw[e];refine⟨?_,?_⟩;all_goals rw[List.getElem?_append_right oM,l4]
   ·rw[show(i+1)*2-2=i*2 by omega];simpa using this.1
   rw[show(i+1)*2+1-2=i*2+1 by omega];simpa using this.2
theorem zF {w:World} {base e:Nat} {v:Value} {xs:List Mrk} (h:w.ownsRow base e 2 v xs.length (qV xs)):fHd w v xs:=by
 rcases h.2 with ⟨rfl,hn⟩|⟨g,cap,cur,rfl,hb,hg,hnc,hcm,hcs,htake⟩
 ·exact⟨none,0,by rw[hn],oM,by unfold maxLen;omega,fun i hi=>oM⟩
 refine⟨some ⟨g,0,none⟩,cap,rfl,hnc,hcm,fun i hi=>⟨g,0,rfl,?_⟩⟩;obtain⟨h0,h1⟩:=fCq xs i hi;simp only[Nat.zero_add,qC];exact⟨(h.cellAt _ oM).trans h0,(h.cellAt _ oM).trans h1⟩
def fC6 (k:Nat) (cs:List Value) (xs:List Mrk):Prop:=∀j,j<k*2→cs[j]? = (qV xs)[j]?
theorem fI6 {n:Nat} {cs:List Value} {xs:List Mrk} (h:fC6 n cs xs) (hl:cs.length=n*2) (hn:xs.length=n):cs=qV xs:=by
 apply List.ext_getElem?;intro j;by_cases hj:j<n*2
 ·exact h j hj
 rw[List.getElem?_eq_none oM,List.getElem?_eq_none (by rw[xK];omega)]
theorem fLx {k:Nat} {cs:List Value} {xs:List Mrk} {x:Mrk} (h:fC6 k cs xs) (hk:k<xs.length) (hl:cs.length=xs.length*2) (he:x=xs.getD k default) :
  fC6 (k+1) ((cs.set (k*2) (.int .i64 x.con)).set (k*2+1) (.int .i64 x.val)) xs:=by
 intro j hj;obtain⟨h0,h1⟩:=fCq xs k hk;subst he;simp only[List.getElem?_set,List.length_set];by_cases e1:k*2+1=j
 ·subst e1;simp[h1];omega
 by_cases e0:k*2=j
 ·subst e0;simp[h0];omega
 simp[e0,e1];exact h j oM
theorem fMl (x:Value) (xs:List Mrk) (w:World) (hx:fHd w x xs) (hn:xs.length≤1048576) :
  Calls Tryz.prog 138 #[x] w fun e w'=>∃v,e =.returned v∧w'.ownsRow w.heap.size 141 2 v xs.length (qV xs)∧Below w.heap.size w w':=by
 obtain⟨ax,cx,rfl,hcx,hmx,hx⟩:=hx;unfold maxLen at hmx;obtain⟨i0,hi,hz0,hz1,hz2⟩:=info_parts fRw;obtain⟨w1,hmk,hown,hgr⟩:=run_make_full (P:=Tryz.prog) w w.heap.size 69 141 i0 _ 2 Tryz.underlying69 hi hz0 hz1 .i64 .i64 xs.length (by rw[hz2];omega) (by unfold maxLen;omega) (Nat.le_refl _);have hbl0:Below w.heap.size w w1:=(bR _ _).grown hgr (Nat.le_refl _) (fun k h=>by cases h);generalize hn':xs.length=n at *;have HN:Hid (xs.length=n):=hn';clear hn';go_enter Tryz.func138,Tryz.ntmps138;go_wp2;go_loopw [4] (fun i w'=>∃(k:Nat) (cs:List Value),k≤n∧i =.int .i64 k∧w'.ownsRow w.heap.size 141 2 (.slice (some ⟨w.heap.size,0,none⟩) n n) n cs∧fC6 k cs xs∧Below w.heap.size w w') (fun i _=>n-(intOf i).toNat)
 case atStart=>exact⟨0,_,Nat.zero_le _,rfl,hown,fun j h=>oM,hbl0⟩
 obtain⟨k,cs,hk,rfl,ho,hup,hbl⟩:=hrel;have HU:Hid (fC6 k cs xs):=hup;clear hup hown hmk hgr hbl0;by_cases hlt:k<n
 ·
  obtain⟨bx,ox,rfl,h1⟩:=hx k hlt;obtain⟨l,hl⟩:∃l,l=xs.getD k default:=⟨_,rfl⟩
  rw[←hl] at h1;have H1:Hid (l=xs.getD k default):=hl;clear hl hx;obtain⟨a0,a1⟩:=fV hbl h1;go_wp2_with fail;refine(fQs l _).mono ?_;rintro e wa ⟨rfl,hba⟩;have ho1:=gT ho hba;obtain⟨u0,g0⟩:=fH ho1 (k*2) oM;obtain⟨u1,g1⟩:=fH ho1 (k*2+1) oM;have hf:=fun j=>ho1.frozenAt j
  simp only[mrkV];go_wp2;have s0:=ho1.stored (k*2) (.int .i64 l.con);have s1:=s0.1.stored (k*2+1) (.int .i64 l.val);refine⟨⟨k+1,_,by omega,by go_num,s1.1,fLx HU.out (by have:=HN.out;omega) (by have:=HN.out;have:=ho.1;omega) H1.out,?_⟩,mI⟩;exact((bS hbl hba).setCell (Nat.le_refl _) _).setCell (Nat.le_refl _) _
 go_wp2;go_ret;have hkn:k=n:=oM;subst hkn;have e:=fI6 HU.out ho.1 HN.out;subst e;exact⟨_,rfl,ho,hbl⟩
theorem fMg (x:Value) (xs:List Mrk) (left:Int) (w:World) (hx:fHd w x xs) (h0:0≤left) (h1:left≤1048576) :
  Calls Tryz.prog 113 #[x,.int .i64 left] w fun e w'=>e =.returned (.int .i64 (fU left xs.length))∧w'=w:=by
 obtain⟨ax,cx,rfl,hcx,hmx,hx⟩:=hx;unfold maxLen at hmx;generalize xs.length=n at *;clear hx;by_cases h:left<n
 ·have h':left-(n:Int)<0:=oM;go_enter Tryz.func113,Tryz.ntmps113;go_wp2;go_ret;exact⟨by simp only[fU,if_pos h];rfl,rfl⟩
 have h':¬left-(n:Int)<0:=oM;go_enter Tryz.func113,Tryz.ntmps113;go_wp2;go_ret;exact⟨by rw[fU,if_neg oM];rfl,rfl⟩
variable [dQ Mrk] [iH Mrk]
def mrksR:Rep (List Mrk):=fRep 141 2 qV fHd fKn zF
def pI (xs:List Mrk):Nat:=xs.length
theorem fT {w:World} {v:Value} {xs:List Mrk} (h:mrksR.V w v xs):∃a c,v =.slice a xs.length c:=by
 obtain⟨a,c,rfl,_⟩:=h;exact⟨_,_,rfl⟩
theorem fJ9 (x:Value) (d:List Mrk) (w:World) (hx:mrksR.V w x d) (hn:pI d≤1048576) :
  Calls Tryz.prog 138 #[x] w fun e w'=>∃v F,e =.returned v∧mrksR.O w' w.heap.size F v d∧Below w.heap.size w w':=by
 refine(fMl x d w hx hn).mono ?_;rintro e w' ⟨v,rfl,ho,hb⟩;exact⟨v,_,rfl,⟨ho,rfl⟩,hb⟩
theorem fH5 (x y:Value) (d d':List Mrk) (w:World) (hx:mrksR.V w x d) (hy:mrksR.V w y d') :
  RI 173 #[x,y] w (.bool (decide (d=d'))):=fK3 x y d d' w hx hy
theorem fJ1 (x:Value) (d:List Mrk) (left:Int) (w:World) (hx:mrksR.V w x d) (h0:0≤left) (h1:left≤1048576) :
  RI 113 #[x,.int .i64 left] w (.int .i64 (fU left (pI d))):=by
 refine(fMg x d left w hx h0 h1).mono ?_;rintro e w' ⟨rfl,rfl⟩;exact⟨rfl,bR _ _⟩
end
section
variable [dQ Leg] [iH Leg]
def gN (ys:List Int):List Value:=ys.map (Value.int .i64)
theorem fC0:(Tryz.prog.info? 2).map (fun i=>(i.zero,i.size,i.bytes))=some (some (.int .i64 0),1,8):=kF
def qN (w:World) (v:Value) (ys:List Int):Prop:=
 ∃a cap,v =.slice a ys.length cap∧ys.length≤cap∧cap≤maxLen∧∀i,i<ys.length→∃b o,a=some ⟨b,o,none⟩∧w.cell? ⟨b,o+i,none⟩=some (.int .i64 (ys.getD i 0))
theorem yP {w w':World} {v:Value} {ys:List Int} (h:qN w v ys) (hb:Below w.heap.size w w'):qN w' v ys:=by
 obtain⟨a,cap,rfl,h1,h2,h3⟩:=h;exact⟨a,cap,rfl,h1,h2,fun i hi=>by
  obtain⟨b,o,ha,hc⟩:=h3 i hi;exact⟨b,o,ha,cK hb hc⟩⟩
theorem kR {w:World} {base e:Nat} {v:Value} {ys:List Int} (h:w.ownsRow base e 1 v ys.length (gN ys)):qN w v ys:=by
 rcases h.2 with ⟨rfl,hn⟩|⟨g,cap,cur,rfl,hb,hg,hnc,hcm,hcs,htake⟩
 ·exact⟨none,0,by rw[hn],oM,by unfold maxLen;omega,fun i hi=>oM⟩
 refine⟨some ⟨g,0,none⟩,cap,rfl,hnc,hcm,fun i hi=>⟨g,0,rfl,?_⟩⟩;rw[Nat.zero_add];refine(h.cellAt i oM).trans ?_;simp[gN,List.getD,hi]
theorem fE0 {xs ys:List Int} (hl:ys.length=xs.length) (h:∀j,j<xs.length→xs.getD j 0=ys.getD j 0):xs=ys:=by
 apply List.ext_getElem oM;intro i h1 h2;have:=h i h1;simpa [List.getD,h1,h2] using this
theorem fH4 (x y:Value) (xs ys:List Int) (w:World) (hx:qN w x xs) (hy:qN w y ys) :
  RI 174 #[x,y] w (.bool (decide (xs=ys))):=by
 obtain⟨ax,cx,rfl,hcx,hmx,hx⟩:=hx;obtain⟨ay,cy,rfl,hcy,hmy,hy⟩:=hy;unfold maxLen at hmx hmy;by_cases hl:ys.length=xs.length
 ·
  rw[hl] at hcy hy ⊢;have HL:Hid (ys.length=xs.length):=hl;clear hl;generalize hn:xs.length=n at *;have HN:Hid (xs.length=n):=hn;clear hn;go_enter Tryz.func174,Tryz.ntmps174;go_wp2;go_loopw [5] (fun i w'=>∃k:Nat,k≤n∧i =.int .i64 k∧(∀j,j<k→xs.getD j 0=ys.getD j 0)∧Below w.heap.size w w') (fun i _=>n-(intOf i).toNat)
  case atStart=>exact⟨0,oM,rfl,fun j h=>absurd h oM,bR _ _⟩
  obtain⟨k,hk,rfl,hpre,hbl⟩:=hrel;have HP:Hid (∀j,j<k→xs.getD j 0=ys.getD j 0):=hpre;clear hpre;by_cases hlt:k<n
  ·
   obtain⟨bx,ox,rfl,h1⟩:=hx k hlt;obtain⟨b2,oy,rfl,h2⟩:=hy k hlt;obtain⟨l1,hl1⟩:∃l,l=xs.getD k 0:=⟨_,rfl⟩
   obtain⟨l2,hl2⟩:∃l,l=ys.getD k 0:=⟨_,rfl⟩
   rw[←hl1] at h1;rw[←hl2] at h2;have H1:Hid (l1=xs.getD k 0):=hl1;have H2:Hid (l2=ys.getD k 0):=hl2;clear hl1 hl2 hx hy;go_wp2;go_region_held3 (fun w'=>Below w.heap.size w w'∧w'.cell? ⟨bx,ox+k,none⟩=some (.int .i64 l1)∧w'.cell? ⟨b2,oy+k,none⟩=some (.int .i64 l2)) ((refine fV3 ?_ h1 h2;repeat (first|exact bR _ _|assumption|refine bD ?_|refine bA ?_ _|refine bS ?_ (by assumption)))) (fail);rename_i hH;have hB:=hH.1;clear hH;go_wp2
   ·
    rename_i hle;go_ret;refine⟨?_,hB⟩;have:¬xs=ys:=fun h=>by
     have:l1=l2:=by rw[H1.out,H2.out,h]
     simp[this] at hle
    simp[this]
   rename_i hle;refine⟨⟨k+1,by omega,by go_num,fun j hj=>?_,hB⟩,mI⟩;by_cases hjk:j<k
   ·exact HP.out j hjk
   have:j=k:=oM;subst this;rw[←H1.out,←H2.out];simpa using hle
  go_wp2;go_ret;have:k=n:=oM;subst this;refine⟨?_,hbl⟩;have:xs=ys:=fE0 (by rw[HL.out,HN.out]) (by rw[HN.out];exact HP.out);simp[this]
 go_enter Tryz.func174,Tryz.ntmps174;have hl':((xs.length:Int)==(ys.length:Int))=false:=by simp;omega
 go_wp2;go_ret;have:¬xs=ys:=fun h=>hl (by rw[h])
 exact⟨by simp[this],bR _ _⟩
theorem fJ8 (x:Value) (xs:List Int) (w:World) (hx:qN w x xs) (hn:xs.length≤1048576) :
  Calls Tryz.prog 139 #[x] w fun e w'=>∃v,e =.returned v∧w'.ownsRow w.heap.size 2 1 v xs.length (gN xs)∧Below w.heap.size w w':=by
 obtain⟨ax,cx,rfl,hcx,hmx,hx⟩:=hx;unfold maxLen at hmx;obtain⟨i0,hi,hz0,hz1,hz2⟩:=info_parts fC0;obtain⟨w1,hmk,hown,hgr⟩:=run_make_full (P:=Tryz.prog) w w.heap.size 61 2 i0 _ 1 Tryz.underlying61 hi hz0 hz1 .i64 .i64 xs.length (by rw[hz2];omega) (by unfold maxLen;omega) (Nat.le_refl _);have hbl0:Below w.heap.size w w1:=(bR _ _).grown hgr (Nat.le_refl _) (fun k h=>by cases h);generalize hn':xs.length=n at *;have HN:Hid (xs.length=n):=hn';clear hn';go_enter Tryz.func139,Tryz.ntmps139;go_wp2;go_loopw [4] (fun i w'=>∃(k:Nat) (cs:List Value),k≤n∧i =.int .i64 k∧w'.ownsRow w.heap.size 2 1 (.slice (some ⟨w.heap.size,0,none⟩) n n) n cs∧Hid (∀j,j<k→cs[j]? = (gN xs)[j]?)∧Below w.heap.size w w') (fun i _=>n-(intOf i).toNat)
 case atStart=>exact⟨0,_,Nat.zero_le _,rfl,hown,fun j h=>oM,hbl0⟩
 obtain⟨k,cs,hk,rfl,ho,HU,hbl⟩:=hrel;clear hown hmk hgr hbl0;by_cases hlt:k<n
 ·
  obtain⟨bx,ox,rfl,h1⟩:=hx k hlt;obtain⟨l,hl⟩:∃l,l=xs.getD k 0:=⟨_,rfl⟩
  rw[←hl] at h1;have H1:Hid (l=xs.getD k 0):=hl;clear hl hx;have a0:=cK hbl h1;obtain⟨u0,g0⟩:=fH ho k oM;have hf:=fun j=>ho.frozenAt j
  go_wp2;have s0:=ho.stored k (.int .i64 l);refine⟨⟨k+1,_,by omega,by go_num,s0.1,fun j hj=>?_,hbl.setCell (Nat.le_refl _) _⟩,mI⟩;rw[List.getElem?_set];split
  ·rename_i e;subst e;have hl1:=ho.1;have hl2:=HN.out;rw[if_pos oM,H1.out];simp[gN,List.getD,show k<xs.length by omega]
  exact HU.out j oM
 go_wp2;go_ret;have hkn:k=n:=oM;subst hkn;have e:cs=gN xs:=List.ext_getElem? (fun j=>by
  by_cases hj:j<k
  ·exact HU.out j hj
  have h1:=ho.1;have h2:=HN.out;rw[List.getElem?_eq_none oM,List.getElem?_eq_none (by simp[gN];omega)])
 subst e;exact⟨_,rfl,ho,hbl⟩
theorem fJ0 (x:Value) (xs:List Int) (left:Int) (w:World) (hx:qN w x xs) (h0:0≤left) (h1:left≤1048576) :
  Calls Tryz.prog 114 #[x,.int .i64 left] w fun e w'=>e =.returned (.int .i64 (fU left xs.length))∧w'=w:=by
 obtain⟨ax,cx,rfl,hcx,hmx,hx⟩:=hx;unfold maxLen at hmx;generalize xs.length=n at *;clear hx;by_cases h:left<n
 ·have h':left-(n:Int)<0:=oM;go_enter Tryz.func114,Tryz.ntmps114;go_wp2;go_ret;exact⟨by simp only[fU,if_pos h];rfl,rfl⟩
 have h':¬left-(n:Int)<0:=oM;go_enter Tryz.func114,Tryz.ntmps114;go_wp2;go_ret;exact⟨by rw[fU,if_neg oM];rfl,rfl⟩
def intsR:Rep (List Int):=fRep 2 1 gN qN yP kR
def xW (xs:List Int):Nat:=xs.length
theorem gZ {w:World} {v:Value} {xs:List Int} (h:intsR.V w v xs):∃a c,v =.slice a xs.length c:=by
 obtain⟨a,c,rfl,_⟩:=h;exact⟨_,_,rfl⟩
theorem fFf (x:Value) (d:List Int) (w:World) (hx:intsR.V w x d) (hn:xW d≤1048576) :
  Calls Tryz.prog 139 #[x] w fun e w'=>∃v F,e =.returned v∧intsR.O w' w.heap.size F v d∧Below w.heap.size w w':=by
 refine(fJ8 x d w hx hn).mono ?_;rintro e w' ⟨v,rfl,ho,hb⟩;exact⟨v,_,rfl,⟨ho,rfl⟩,hb⟩
theorem fEt (x y:Value) (d d':List Int) (w:World) (hx:intsR.V w x d) (hy:intsR.V w y d') :
  RI 174 #[x,y] w (.bool (decide (d=d'))):=fH4 x y d d' w hx hy
theorem fFe (x:Value) (d:List Int) (left:Int) (w:World) (hx:intsR.V w x d) (h0:0≤left) (h1:left≤1048576) :
  RI 114 #[x,.int .i64 left] w (.int .i64 (fU left (xW d))):=by
 refine(fJ0 x d left w hx h0 h1).mono ?_;rintro e w' ⟨rfl,rfl⟩;exact⟨rfl,bR _ _⟩
variable [dQ Bal] [iH Bal] [dQ Mrk] [iH Mrk] [dQ Cont] [iH Cont]
structure Shd where
 idx:Int
 bals:List Bal
 votes:List Mrk
 held:List Cont
 done:List Mrk
 appl:List Int
variable [dQ Shd] [iH Shd]
def shdR:Rep Shd where
 V:=fun w v x=>∃u1 u2 u3 u4 u5,v =.agg #[.int .i64 x.idx,u1,u2,u3,u4,u5]∧balsR.V w u1 x.bals∧mrksR.V w u2 x.votes∧contsR.V w u3 x.held∧mrksR.V w u4 x.done∧intsR.V w u5 x.appl
 O:=fun w base F v x=>∃u1 u2 u3 u4 u5 F1 F2 F3 F4 F5,v =.agg #[.int .i64 x.idx,u1,u2,u3,u4,u5]∧balsR.O w base F1 u1 x.bals∧mrksR.O w base F2 u2 x.votes∧contsR.O w base F3 u3 x.held∧mrksR.O w base F4 u4 x.done∧intsR.O w base F5 u5 x.appl∧(∀b,F1 b→¬F2 b)∧(∀b,F1 b→¬F3 b)∧(∀b,F1 b→¬F4 b)∧(∀b,F1 b→¬F5 b)∧(∀b,F2 b→¬F3 b)∧(∀b,F2 b→¬F4 b)∧(∀b,F2 b→¬F5 b)∧(∀b,F3 b→¬F4 b)∧(∀b,F3 b→¬F5 b)∧(∀b,F4 b→¬F5 b)∧(∀b,F b↔(F1 b∨F2 b∨F3 b∨F4 b∨F5 b))
 below:=fun h hb=>by
  obtain⟨u1,u2,u3,u4,u5,rfl,h1,h2,h3,h4,h5⟩:=h;exact⟨u1,u2,u3,u4,u5,rfl,balsR.below h1 hb,mrksR.below h2 hb,contsR.below h3 hb,mrksR.below h4 hb,intsR.below h5 hb⟩
 ofO:=fun h=>by
  obtain⟨u1,u2,u3,u4,u5,F1,F2,F3,F4,F5,rfl,h1,h2,h3,h4,h5,_⟩:=h;exact⟨u1,u2,u3,u4,u5,rfl,balsR.ofO h1,mrksR.ofO h2,contsR.ofO h3,mrksR.ofO h4,intsR.ofO h5⟩
 mod:=fun h hm hd=>by
  obtain⟨u1,u2,u3,u4,u5,F1,F2,F3,F4,F5,rfl,h1,h2,h3,h4,h5,s12,s13,s14,s15,s23,s24,s25,s34,s35,s45,hF⟩:=h;exact⟨u1,u2,u3,u4,u5,F1,F2,F3,F4,F5,rfl,balsR.mod h1 hm (fun b hb=>hd b ((hF b).2 (.inl hb))),mrksR.mod h2 hm (fun b hb=>hd b ((hF b).2 (.inr (.inl hb)))),contsR.mod h3 hm (fun b hb=>hd b ((hF b).2 (.inr (.inr (.inl hb))))),mrksR.mod h4 hm (fun b hb=>hd b ((hF b).2 (.inr (.inr (.inr (.inl hb)))))),intsR.mod h5 hm (fun b hb=>hd b ((hF b).2 (.inr (.inr (.inr (.inr hb)))))),s12,s13,s14,s15,s23,s24,s25,s34,s35,s45,hF⟩
 rng:=fun h b hb=>by
  obtain⟨u1,u2,u3,u4,u5,F1,F2,F3,F4,F5,rfl,h1,h2,h3,h4,h5,s12,s13,s14,s15,s23,s24,s25,s34,s35,s45,hF⟩:=h;rcases(hF b).1 hb with hb|hb|hb|hb|hb
  ·exact balsR.rng h1 b hb
  ·exact mrksR.rng h2 b hb
  ·exact contsR.rng h3 b hb
  ·exact mrksR.rng h4 b hb
  exact intsR.rng h5 b hb
 base:=fun h hb=>by
  obtain⟨u1,u2,u3,u4,u5,F1,F2,F3,F4,F5,rfl,h1,h2,h3,h4,h5,s12,s13,s14,s15,s23,s24,s25,s34,s35,s45,hF⟩:=h;exact⟨u1,u2,u3,u4,u5,F1,F2,F3,F4,F5,rfl,balsR.base h1 hb,mrksR.base h2 hb,contsR.base h3 hb,mrksR.base h4 hb,intsR.base h5 hb,s12,s13,s14,s15,s23,s24,s25,s34,s35,s45,hF⟩
def qM (x:Shd):Nat:=qK x.bals+pI x.votes+gX x.held+pI x.done+xW x.appl
def fXt (v:Value):List Value:=match v with | .agg a=>one (a.getD 0 (.int .i64 0))++one (a.getD 1 (.int .i64 0))++one (a.getD 2 (.int .i64 0))++one (a.getD 3 (.int .i64 0))++one (a.getD 4 (.int .i64 0))++one (a.getD 5 (.int .i64 0))|_=>[]
theorem fS4 (x:Value) (d:Shd) (w:World) (hx:shdR.V w x d) (hn:qM d≤1048576) :
  Calls Tryz.prog 72 #[x] w fun e w'=>∃v F,e =.returned v∧shdR.O w' w.heap.size F v d∧Below w.heap.size w w':=by
 obtain⟨u1,u2,u3,u4,u5,rfl,h1,h2,h3,h4,h5⟩:=hx;unfold qM at hn;go_enter Tryz.func72,Tryz.ntmps72;go_wp2_with fail;refine(fJ5 _ d.bals _ (balsR.below h1 qBq) oM).mono ?_;rintro e w1 ⟨v1,F1,rfl,o1,b1⟩;have hB1:=bT w b1;obtain⟨a1,n1,rfl⟩:=gU (balsR.ofO o1);obtain⟨c1,f1⟩:=bcell b1;have z1:=b1.size;simp at z1;have l1:=fun b hb=>balsR.rng o1 b hb
 simp at l1;replace o1:=balsR.base (base':=w.heap.size+3) o1 (by simp;try omega);have y0:w1.cell? ⟨w.heap.size,0,none⟩=some (.int .i64 d.idx):=cK b1 sG;have y1:w1.cell? ⟨w.heap.size,1,none⟩=some (u1):=cK b1 sG;have y2:w1.cell? ⟨w.heap.size,2,none⟩=some (u2):=cK b1 sG;have y3:w1.cell? ⟨w.heap.size,3,none⟩=some (u3):=cK b1 sG;have y4:w1.cell? ⟨w.heap.size,4,none⟩=some (u4):=cK b1 sG;have y5:w1.cell? ⟨w.heap.size,5,none⟩=some (u5):=cK b1 sG;have r0:w1.cell? ⟨w.heap.size+1,0,none⟩=some (.int .i64 0):=cK b1 sG;have r1:w1.cell? ⟨w.heap.size+1,1,none⟩=some (.slice none 0 0):=cK b1 sG;have r2:w1.cell? ⟨w.heap.size+1,2,none⟩=some (.slice none 0 0):=cK b1 sG;have r3:w1.cell? ⟨w.heap.size+1,3,none⟩=some (.slice none 0 0):=cK b1 sG;have r4:w1.cell? ⟨w.heap.size+1,4,none⟩=some (.slice none 0 0):=cK b1 sG;have r5:w1.cell? ⟨w.heap.size+1,5,none⟩=some (.slice none 0 0):=cK b1 sG;have s0:w1.cell? ⟨w.heap.size+2,0,none⟩=some (.int .i64 d.idx):=cK b1 sG;have s1:w1.cell? ⟨w.heap.size+2,1,none⟩=some (.slice none 0 0):=cK b1 sG;have s2:w1.cell? ⟨w.heap.size+2,2,none⟩=some (.slice none 0 0):=cK b1 sG;have s3:w1.cell? ⟨w.heap.size+2,3,none⟩=some (.slice none 0 0):=cK b1 sG;have s4:w1.cell? ⟨w.heap.size+2,4,none⟩=some (.slice none 0 0):=cK b1 sG;have s5:w1.cell? ⟨w.heap.size+2,5,none⟩=some (.slice none 0 0):=cK b1 sG;have t1:∀o,w1.frozen? ⟨w.heap.size+1,o,none⟩=false:=fun o=>by rw[f1 _ _ (by simp;try omega)];simp[go_sem]
 have t2:∀o,w1.frozen? ⟨w.heap.size+2,o,none⟩=false:=fun o=>by rw[f1 _ _ (by simp;try omega)];simp[go_sem]
 clear c1 f1;have x0:=y0;have x1:=y1;have x2:=y2;have x3:=y3;have x4:=y4;have x5:=y5;have q0:=r0;have q1:=r1;have q2:=r2;have q3:=r3;have q4:=r4;have q5:=r5;have p0:=s0;have p1:=s1;have p2:=s2;have p3:=s3;have p4:=s4;have p5:=s5;have qf:=t1;have pf:=t2;clear t1 t2 y0 y1 y2 y3 y4 y5 r0 r1 r2 r3 r4 r5 s0 s1 s2 s3 s4 s5;clear b1;go_wp2_with fail;refine(fJ9 _ d.votes _ (mrksR.below h2 qS) oM).mono ?_;rintro e w2 ⟨v2,F2,rfl,o2,b2⟩;have hB2:Below w.heap.size w w2:=bS qS b2;obtain⟨a2,n2,rfl⟩:=fT (mrksR.ofO o2);obtain⟨c2,f2⟩:=bcell b2;have z2:=b2.size;simp at z2;have l2:=fun b hb=>mrksR.rng o2 b hb
 simp at l2;replace o2:=mrksR.base (base':=w.heap.size+3) o2 (by simp;try omega);have hk1:∀F v x,balsR.O w1 (w.heap.size+3) F v x→balsR.O w2 (w.heap.size+3) F v x:=fun F v x o=>balsR.keep (by(repeat (first|refine Rep.set _ ?_ _ (by simp;omega)|refine Rep.set _ ?_ _ (by simp)|refine Rep.alloc _ ?_ _|assumption))) b2
 replace o1:=hk1 _ _ _ o1;clear hk1;have y0:w2.cell? ⟨w.heap.size,0,none⟩=some (.int .i64 d.idx):=cK b2 (by simp[go_sem,x0,x1,x2,x3,x4,x5,q0,q1,q2,q3,q4,q5,p0,p1,p2,p3,p4,p5]);have y1:w2.cell? ⟨w.heap.size,1,none⟩=some (u1):=cK b2 (by simp[go_sem,x0,x1,x2,x3,x4,x5,q0,q1,q2,q3,q4,q5,p0,p1,p2,p3,p4,p5]);have y2:w2.cell? ⟨w.heap.size,2,none⟩=some (u2):=cK b2 (by simp[go_sem,x0,x1,x2,x3,x4,x5,q0,q1,q2,q3,q4,q5,p0,p1,p2,p3,p4,p5]);have y3:w2.cell? ⟨w.heap.size,3,none⟩=some (u3):=cK b2 (by simp[go_sem,x0,x1,x2,x3,x4,x5,q0,q1,q2,q3,q4,q5,p0,p1,p2,p3,p4,p5]);have y4:w2.cell? ⟨w.heap.size,4,none⟩=some (u4):=cK b2 (by simp[go_sem,x0,x1,x2,x3,x4,x5,q0,q1,q2,q3,q4,q5,p0,p1,p2,p3,p4,p5]);have y5:w2.cell? ⟨w.heap.size,5,none⟩=some (u5):=cK b2 (by simp[go_sem,x0,x1,x2,x3,x4,x5,q0,q1,q2,q3,q4,q5,p0,p1,p2,p3,p4,p5]);have r0:w2.cell? ⟨w.heap.size+1,0,none⟩=some (.int .i64 0):=cK b2 (by simp[go_sem,x0,x1,x2,x3,x4,x5,q0,q1,q2,q3,q4,q5,p0,p1,p2,p3,p4,p5]);have r1:w2.cell? ⟨w.heap.size+1,1,none⟩=some (.slice none 0 0):=cK b2 (by simp[go_sem,x0,x1,x2,x3,x4,x5,q0,q1,q2,q3,q4,q5,p0,p1,p2,p3,p4,p5]);have r2:w2.cell? ⟨w.heap.size+1,2,none⟩=some (.slice none 0 0):=cK b2 (by simp[go_sem,x0,x1,x2,x3,x4,x5,q0,q1,q2,q3,q4,q5,p0,p1,p2,p3,p4,p5]);have r3:w2.cell? ⟨w.heap.size+1,3,none⟩=some (.slice none 0 0):=cK b2 (by simp[go_sem,x0,x1,x2,x3,x4,x5,q0,q1,q2,q3,q4,q5,p0,p1,p2,p3,p4,p5]);have r4:w2.cell? ⟨w.heap.size+1,4,none⟩=some (.slice none 0 0):=cK b2 (by simp[go_sem,x0,x1,x2,x3,x4,x5,q0,q1,q2,q3,q4,q5,p0,p1,p2,p3,p4,p5])
 have r5:w2.cell? ⟨w.heap.size+1,5,none⟩=some (.slice none 0 0):=cK b2 (by simp[go_sem,x0,x1,x2,x3,x4,x5,q0,q1,q2,q3,q4,q5,p0,p1,p2,p3,p4,p5]);have s0:w2.cell? ⟨w.heap.size+2,0,none⟩=some (.int .i64 d.idx):=cK b2 (by simp[go_sem,x0,x1,x2,x3,x4,x5,q0,q1,q2,q3,q4,q5,p0,p1,p2,p3,p4,p5]);have s1:w2.cell? ⟨w.heap.size+2,1,none⟩=some (.slice a1 d.bals.length n1):=cK b2 (by simp[go_sem,x0,x1,x2,x3,x4,x5,q0,q1,q2,q3,q4,q5,p0,p1,p2,p3,p4,p5]);have s2:w2.cell? ⟨w.heap.size+2,2,none⟩=some (.slice none 0 0):=cK b2 (by simp[go_sem,x0,x1,x2,x3,x4,x5,q0,q1,q2,q3,q4,q5,p0,p1,p2,p3,p4,p5]);have s3:w2.cell? ⟨w.heap.size+2,3,none⟩=some (.slice none 0 0):=cK b2 (by simp[go_sem,x0,x1,x2,x3,x4,x5,q0,q1,q2,q3,q4,q5,p0,p1,p2,p3,p4,p5]);have s4:w2.cell? ⟨w.heap.size+2,4,none⟩=some (.slice none 0 0):=cK b2 (by simp[go_sem,x0,x1,x2,x3,x4,x5,q0,q1,q2,q3,q4,q5,p0,p1,p2,p3,p4,p5]);have s5:w2.cell? ⟨w.heap.size+2,5,none⟩=some (.slice none 0 0):=cK b2 (by simp[go_sem,x0,x1,x2,x3,x4,x5,q0,q1,q2,q3,q4,q5,p0,p1,p2,p3,p4,p5]);have t1:∀o,w2.frozen? ⟨w.heap.size+1,o,none⟩=false:=fun o=>by rw[f2 _ _ (by simp;try omega)];simp[go_sem,qf]
 have t2:∀o,w2.frozen? ⟨w.heap.size+2,o,none⟩=false:=fun o=>by rw[f2 _ _ (by simp;try omega)];simp[go_sem,pf]
 clear x0 x1 x2 x3 x4 x5 q0 q1 q2 q3 q4 q5 p0 p1 p2 p3 p4 p5 qf pf;clear c2 f2;have x0:=y0;have x1:=y1;have x2:=y2;have x3:=y3;have x4:=y4;have x5:=y5;have q0:=r0;have q1:=r1;have q2:=r2;have q3:=r3;have q4:=r4;have q5:=r5;have p0:=s0;have p1:=s1;have p2:=s2;have p3:=s3;have p4:=s4;have p5:=s5;have qf:=t1;have pf:=t2;clear t1 t2 y0 y1 y2 y3 y4 y5 r0 r1 r2 r3 r4 r5 s0 s1 s2 s3 s4 s5;clear b2 hB1;go_wp2_with fail;refine(fAr _ d.held _ (contsR.below h3 qS) oM).mono ?_;rintro e w3 ⟨v3,F3,rfl,o3,b3⟩;have hB3:Below w.heap.size w w3:=bS qS b3;obtain⟨a3,n3,rfl⟩:=gG (contsR.ofO o3);obtain⟨c3,f3⟩:=bcell b3;have z3:=b3.size;simp at z3;have l3:=fun b hb=>contsR.rng o3 b hb
 simp at l3;replace o3:=contsR.base (base':=w.heap.size+3) o3 (by simp;try omega);have hk1:∀F v x,balsR.O w2 (w.heap.size+3) F v x→balsR.O w3 (w.heap.size+3) F v x:=fun F v x o=>balsR.keep (by(repeat (first|refine Rep.set _ ?_ _ (by simp;omega)|refine Rep.set _ ?_ _ (by simp)|refine Rep.alloc _ ?_ _|assumption))) b3
 replace o1:=hk1 _ _ _ o1;clear hk1;have hk2:∀F v x,mrksR.O w2 (w.heap.size+3) F v x→mrksR.O w3 (w.heap.size+3) F v x:=fun F v x o=>mrksR.keep (by(repeat (first|refine Rep.set _ ?_ _ (by simp;omega)|refine Rep.set _ ?_ _ (by simp)|refine Rep.alloc _ ?_ _|assumption))) b3
 replace o2:=hk2 _ _ _ o2;clear hk2;have y0:w3.cell? ⟨w.heap.size,0,none⟩=some (.int .i64 d.idx):=cK b3 (by simp[go_sem,x0,x1,x2,x3,x4,x5,q0,q1,q2,q3,q4,q5,p0,p1,p2,p3,p4,p5]);have y1:w3.cell? ⟨w.heap.size,1,none⟩=some (u1):=cK b3 (by simp[go_sem,x0,x1,x2,x3,x4,x5,q0,q1,q2,q3,q4,q5,p0,p1,p2,p3,p4,p5]);have y2:w3.cell? ⟨w.heap.size,2,none⟩=some (u2):=cK b3 (by simp[go_sem,x0,x1,x2,x3,x4,x5,q0,q1,q2,q3,q4,q5,p0,p1,p2,p3,p4,p5]);have y3:w3.cell? ⟨w.heap.size,3,none⟩=some (u3):=cK b3 (by simp[go_sem,x0,x1,x2,x3,x4,x5,q0,q1,q2,q3,q4,q5,p0,p1,p2,p3,p4,p5]);have y4:w3.cell? ⟨w.heap.size,4,none⟩=some (u4):=cK b3 (by simp[go_sem,x0,x1,x2,x3,x4,x5,q0,q1,q2,q3,q4,q5,p0,p1,p2,p3,p4,p5]);have y5:w3.cell? ⟨w.heap.size,5,none⟩=some (u5):=cK b3 (by simp[go_sem,x0,x1,x2,x3,x4,x5,q0,q1,q2,q3,q4,q5,p0,p1,p2,p3,p4,p5]);have r0:w3.cell? ⟨w.heap.size+1,0,none⟩=some (.int .i64 0):=cK b3 (by simp[go_sem,x0,x1,x2,x3,x4,x5,q0,q1,q2,q3,q4,q5,p0,p1,p2,p3,p4,p5]);have r1:w3.cell? ⟨w.heap.size+1,1,none⟩=some (.slice none 0 0):=cK b3 (by simp[go_sem,x0,x1,x2,x3,x4,x5,q0,q1,q2,q3,q4,q5,p0,p1,p2,p3,p4,p5]);have r2:w3.cell? ⟨w.heap.size+1,2,none⟩=some (.slice none 0 0):=cK b3 (by simp[go_sem,x0,x1,x2,x3,x4,x5,q0,q1,q2,q3,q4,q5,p0,p1,p2,p3,p4,p5]);have r3:w3.cell? ⟨w.heap.size+1,3,none⟩=some (.slice none 0 0):=cK b3 (by simp[go_sem,x0,x1,x2,x3,x4,x5,q0,q1,q2,q3,q4,q5,p0,p1,p2,p3,p4,p5]);have r4:w3.cell? ⟨w.heap.size+1,4,none⟩=some (.slice none 0 0):=cK b3 (by simp[go_sem,x0,x1,x2,x3,x4,x5,q0,q1,q2,q3,q4,q5,p0,p1,p2,p3,p4,p5])
 have r5:w3.cell? ⟨w.heap.size+1,5,none⟩=some (.slice none 0 0):=cK b3 (by simp[go_sem,x0,x1,x2,x3,x4,x5,q0,q1,q2,q3,q4,q5,p0,p1,p2,p3,p4,p5]);have s0:w3.cell? ⟨w.heap.size+2,0,none⟩=some (.int .i64 d.idx):=cK b3 (by simp[go_sem,x0,x1,x2,x3,x4,x5,q0,q1,q2,q3,q4,q5,p0,p1,p2,p3,p4,p5]);have s1:w3.cell? ⟨w.heap.size+2,1,none⟩=some (.slice a1 d.bals.length n1):=cK b3 (by simp[go_sem,x0,x1,x2,x3,x4,x5,q0,q1,q2,q3,q4,q5,p0,p1,p2,p3,p4,p5]);have s2:w3.cell? ⟨w.heap.size+2,2,none⟩=some (.slice a2 d.votes.length n2):=cK b3 (by simp[go_sem,x0,x1,x2,x3,x4,x5,q0,q1,q2,q3,q4,q5,p0,p1,p2,p3,p4,p5]);have s3:w3.cell? ⟨w.heap.size+2,3,none⟩=some (.slice none 0 0):=cK b3 (by simp[go_sem,x0,x1,x2,x3,x4,x5,q0,q1,q2,q3,q4,q5,p0,p1,p2,p3,p4,p5]);have s4:w3.cell? ⟨w.heap.size+2,4,none⟩=some (.slice none 0 0):=cK b3 (by simp[go_sem,x0,x1,x2,x3,x4,x5,q0,q1,q2,q3,q4,q5,p0,p1,p2,p3,p4,p5]);have s5:w3.cell? ⟨w.heap.size+2,5,none⟩=some (.slice none 0 0):=cK b3 (by simp[go_sem,x0,x1,x2,x3,x4,x5,q0,q1,q2,q3,q4,q5,p0,p1,p2,p3,p4,p5]);have t1:∀o,w3.frozen? ⟨w.heap.size+1,o,none⟩=false:=fun o=>by rw[f3 _ _ (by simp;try omega)];simp[go_sem,qf]
 have t2:∀o,w3.frozen? ⟨w.heap.size+2,o,none⟩=false:=fun o=>by rw[f3 _ _ (by simp;try omega)];simp[go_sem,pf]
 clear x0 x1 x2 x3 x4 x5 q0 q1 q2 q3 q4 q5 p0 p1 p2 p3 p4 p5 qf pf;clear c3 f3;have x0:=y0;have x1:=y1;have x2:=y2;have x3:=y3;have x4:=y4;have x5:=y5;have q0:=r0;have q1:=r1;have q2:=r2;have q3:=r3;have q4:=r4;have q5:=r5;have p0:=s0;have p1:=s1;have p2:=s2;have p3:=s3;have p4:=s4;have p5:=s5;have qf:=t1;have pf:=t2;clear t1 t2 y0 y1 y2 y3 y4 y5 r0 r1 r2 r3 r4 r5 s0 s1 s2 s3 s4 s5;clear b3 hB2;go_wp2_with fail;refine(fJ9 _ d.done _ (mrksR.below h4 qS) oM).mono ?_;rintro e w4 ⟨v4,F4,rfl,o4,b4⟩;have hB4:Below w.heap.size w w4:=bS qS b4;obtain⟨a4,n4,rfl⟩:=fT (mrksR.ofO o4);obtain⟨c4,f4⟩:=bcell b4;have z4:=b4.size;simp at z4;have l4:=fun b hb=>mrksR.rng o4 b hb
 simp at l4;replace o4:=mrksR.base (base':=w.heap.size+3) o4 (by simp;try omega);have hk1:∀F v x,balsR.O w3 (w.heap.size+3) F v x→balsR.O w4 (w.heap.size+3) F v x:=fun F v x o=>balsR.keep (by(repeat (first|refine Rep.set _ ?_ _ (by simp;omega)|refine Rep.set _ ?_ _ (by simp)|refine Rep.alloc _ ?_ _|assumption))) b4
 replace o1:=hk1 _ _ _ o1;clear hk1;have hk2:∀F v x,mrksR.O w3 (w.heap.size+3) F v x→mrksR.O w4 (w.heap.size+3) F v x:=fun F v x o=>mrksR.keep (by(repeat (first|refine Rep.set _ ?_ _ (by simp;omega)|refine Rep.set _ ?_ _ (by simp)|refine Rep.alloc _ ?_ _|assumption))) b4
 replace o2:=hk2 _ _ _ o2;clear hk2;have hk3:∀F v x,contsR.O w3 (w.heap.size+3) F v x→contsR.O w4 (w.heap.size+3) F v x:=fun F v x o=>contsR.keep (by(repeat (first|refine Rep.set _ ?_ _ (by simp;omega)|refine Rep.set _ ?_ _ (by simp)|refine Rep.alloc _ ?_ _|assumption))) b4
 replace o3:=hk3 _ _ _ o3;clear hk3;have y0:w4.cell? ⟨w.heap.size,0,none⟩=some (.int .i64 d.idx):=cK b4 (by simp[go_sem,x0,x1,x2,x3,x4,x5,q0,q1,q2,q3,q4,q5,p0,p1,p2,p3,p4,p5]);have y1:w4.cell? ⟨w.heap.size,1,none⟩=some (u1):=cK b4 (by simp[go_sem,x0,x1,x2,x3,x4,x5,q0,q1,q2,q3,q4,q5,p0,p1,p2,p3,p4,p5]);have y2:w4.cell? ⟨w.heap.size,2,none⟩=some (u2):=cK b4 (by simp[go_sem,x0,x1,x2,x3,x4,x5,q0,q1,q2,q3,q4,q5,p0,p1,p2,p3,p4,p5]);have y3:w4.cell? ⟨w.heap.size,3,none⟩=some (u3):=cK b4 (by simp[go_sem,x0,x1,x2,x3,x4,x5,q0,q1,q2,q3,q4,q5,p0,p1,p2,p3,p4,p5]);have y4:w4.cell? ⟨w.heap.size,4,none⟩=some (u4):=cK b4 (by simp[go_sem,x0,x1,x2,x3,x4,x5,q0,q1,q2,q3,q4,q5,p0,p1,p2,p3,p4,p5]);have y5:w4.cell? ⟨w.heap.size,5,none⟩=some (u5):=cK b4 (by simp[go_sem,x0,x1,x2,x3,x4,x5,q0,q1,q2,q3,q4,q5,p0,p1,p2,p3,p4,p5]);have r0:w4.cell? ⟨w.heap.size+1,0,none⟩=some (.int .i64 0):=cK b4 (by simp[go_sem,x0,x1,x2,x3,x4,x5,q0,q1,q2,q3,q4,q5,p0,p1,p2,p3,p4,p5]);have r1:w4.cell? ⟨w.heap.size+1,1,none⟩=some (.slice none 0 0):=cK b4 (by simp[go_sem,x0,x1,x2,x3,x4,x5,q0,q1,q2,q3,q4,q5,p0,p1,p2,p3,p4,p5]);have r2:w4.cell? ⟨w.heap.size+1,2,none⟩=some (.slice none 0 0):=cK b4 (by simp[go_sem,x0,x1,x2,x3,x4,x5,q0,q1,q2,q3,q4,q5,p0,p1,p2,p3,p4,p5]);have r3:w4.cell? ⟨w.heap.size+1,3,none⟩=some (.slice none 0 0):=cK b4 (by simp[go_sem,x0,x1,x2,x3,x4,x5,q0,q1,q2,q3,q4,q5,p0,p1,p2,p3,p4,p5]);have r4:w4.cell? ⟨w.heap.size+1,4,none⟩=some (.slice none 0 0):=cK b4 (by simp[go_sem,x0,x1,x2,x3,x4,x5,q0,q1,q2,q3,q4,q5,p0,p1,p2,p3,p4,p5])
 have r5:w4.cell? ⟨w.heap.size+1,5,none⟩=some (.slice none 0 0):=cK b4 (by simp[go_sem,x0,x1,x2,x3,x4,x5,q0,q1,q2,q3,q4,q5,p0,p1,p2,p3,p4,p5]);have s0:w4.cell? ⟨w.heap.size+2,0,none⟩=some (.int .i64 d.idx):=cK b4 (by simp[go_sem,x0,x1,x2,x3,x4,x5,q0,q1,q2,q3,q4,q5,p0,p1,p2,p3,p4,p5]);have s1:w4.cell? ⟨w.heap.size+2,1,none⟩=some (.slice a1 d.bals.length n1):=cK b4 (by simp[go_sem,x0,x1,x2,x3,x4,x5,q0,q1,q2,q3,q4,q5,p0,p1,p2,p3,p4,p5]);have s2:w4.cell? ⟨w.heap.size+2,2,none⟩=some (.slice a2 d.votes.length n2):=cK b4 (by simp[go_sem,x0,x1,x2,x3,x4,x5,q0,q1,q2,q3,q4,q5,p0,p1,p2,p3,p4,p5]);have s3:w4.cell? ⟨w.heap.size+2,3,none⟩=some (.slice a3 d.held.length n3):=cK b4 (by simp[go_sem,x0,x1,x2,x3,x4,x5,q0,q1,q2,q3,q4,q5,p0,p1,p2,p3,p4,p5]);have s4:w4.cell? ⟨w.heap.size+2,4,none⟩=some (.slice none 0 0):=cK b4 (by simp[go_sem,x0,x1,x2,x3,x4,x5,q0,q1,q2,q3,q4,q5,p0,p1,p2,p3,p4,p5]);have s5:w4.cell? ⟨w.heap.size+2,5,none⟩=some (.slice none 0 0):=cK b4 (by simp[go_sem,x0,x1,x2,x3,x4,x5,q0,q1,q2,q3,q4,q5,p0,p1,p2,p3,p4,p5]);have t1:∀o,w4.frozen? ⟨w.heap.size+1,o,none⟩=false:=fun o=>by rw[f4 _ _ (by simp;try omega)];simp[go_sem,qf]
 have t2:∀o,w4.frozen? ⟨w.heap.size+2,o,none⟩=false:=fun o=>by rw[f4 _ _ (by simp;try omega)];simp[go_sem,pf]
 clear x0 x1 x2 x3 x4 x5 q0 q1 q2 q3 q4 q5 p0 p1 p2 p3 p4 p5 qf pf;clear c4 f4;have x0:=y0;have x1:=y1;have x2:=y2;have x3:=y3;have x4:=y4;have x5:=y5;have q0:=r0;have q1:=r1;have q2:=r2;have q3:=r3;have q4:=r4;have q5:=r5;have p0:=s0;have p1:=s1;have p2:=s2;have p3:=s3;have p4:=s4;have p5:=s5;have qf:=t1;have pf:=t2;clear t1 t2 y0 y1 y2 y3 y4 y5 r0 r1 r2 r3 r4 r5 s0 s1 s2 s3 s4 s5;clear b4 hB3;go_wp2_with fail;refine(fFf _ d.appl _ (intsR.below h5 qS) oM).mono ?_;rintro e w5 ⟨v5,F5,rfl,o5,b5⟩;have hB5:Below w.heap.size w w5:=bS qS b5;obtain⟨a5,n5,rfl⟩:=gZ (intsR.ofO o5);obtain⟨c5,f5⟩:=bcell b5;have z5:=b5.size;simp at z5;have l5:=fun b hb=>intsR.rng o5 b hb
 simp at l5;replace o5:=intsR.base (base':=w.heap.size+3) o5 (by simp;try omega);have hk1:∀F v x,balsR.O w4 (w.heap.size+3) F v x→balsR.O w5 (w.heap.size+3) F v x:=fun F v x o=>balsR.keep (by(repeat (first|refine Rep.set _ ?_ _ (by simp;omega)|refine Rep.set _ ?_ _ (by simp)|refine Rep.alloc _ ?_ _|assumption))) b5
 replace o1:=hk1 _ _ _ o1;clear hk1;have hk2:∀F v x,mrksR.O w4 (w.heap.size+3) F v x→mrksR.O w5 (w.heap.size+3) F v x:=fun F v x o=>mrksR.keep (by(repeat (first|refine Rep.set _ ?_ _ (by simp;omega)|refine Rep.set _ ?_ _ (by simp)|refine Rep.alloc _ ?_ _|assumption))) b5
 replace o2:=hk2 _ _ _ o2;clear hk2;have hk3:∀F v x,contsR.O w4 (w.heap.size+3) F v x→contsR.O w5 (w.heap.size+3) F v x:=fun F v x o=>contsR.keep (by(repeat (first|refine Rep.set _ ?_ _ (by simp;omega)|refine Rep.set _ ?_ _ (by simp)|refine Rep.alloc _ ?_ _|assumption))) b5
 replace o3:=hk3 _ _ _ o3;clear hk3;have hk4:∀F v x,mrksR.O w4 (w.heap.size+3) F v x→mrksR.O w5 (w.heap.size+3) F v x:=fun F v x o=>mrksR.keep (by(repeat (first|refine Rep.set _ ?_ _ (by simp;omega)|refine Rep.set _ ?_ _ (by simp)|refine Rep.alloc _ ?_ _|assumption))) b5
 replace o4:=hk4 _ _ _ o4;clear hk4;have y0:w5.cell? ⟨w.heap.size,0,none⟩=some (.int .i64 d.idx):=cK b5 (by simp[go_sem,x0,x1,x2,x3,x4,x5,q0,q1,q2,q3,q4,q5,p0,p1,p2,p3,p4,p5]);have y1:w5.cell? ⟨w.heap.size,1,none⟩=some (u1):=cK b5 (by simp[go_sem,x0,x1,x2,x3,x4,x5,q0,q1,q2,q3,q4,q5,p0,p1,p2,p3,p4,p5]);have y2:w5.cell? ⟨w.heap.size,2,none⟩=some (u2):=cK b5 (by simp[go_sem,x0,x1,x2,x3,x4,x5,q0,q1,q2,q3,q4,q5,p0,p1,p2,p3,p4,p5]);have y3:w5.cell? ⟨w.heap.size,3,none⟩=some (u3):=cK b5 (by simp[go_sem,x0,x1,x2,x3,x4,x5,q0,q1,q2,q3,q4,q5,p0,p1,p2,p3,p4,p5]);have y4:w5.cell? ⟨w.heap.size,4,none⟩=some (u4):=cK b5 (by simp[go_sem,x0,x1,x2,x3,x4,x5,q0,q1,q2,q3,q4,q5,p0,p1,p2,p3,p4,p5]);have y5:w5.cell? ⟨w.heap.size,5,none⟩=some (u5):=cK b5 (by simp[go_sem,x0,x1,x2,x3,x4,x5,q0,q1,q2,q3,q4,q5,p0,p1,p2,p3,p4,p5]);have r0:w5.cell? ⟨w.heap.size+1,0,none⟩=some (.int .i64 0):=cK b5 (by simp[go_sem,x0,x1,x2,x3,x4,x5,q0,q1,q2,q3,q4,q5,p0,p1,p2,p3,p4,p5]);have r1:w5.cell? ⟨w.heap.size+1,1,none⟩=some (.slice none 0 0):=cK b5 (by simp[go_sem,x0,x1,x2,x3,x4,x5,q0,q1,q2,q3,q4,q5,p0,p1,p2,p3,p4,p5]);have r2:w5.cell? ⟨w.heap.size+1,2,none⟩=some (.slice none 0 0):=cK b5 (by simp[go_sem,x0,x1,x2,x3,x4,x5,q0,q1,q2,q3,q4,q5,p0,p1,p2,p3,p4,p5]);have r3:w5.cell? ⟨w.heap.size+1,3,none⟩=some (.slice none 0 0):=cK b5 (by simp[go_sem,x0,x1,x2,x3,x4,x5,q0,q1,q2,q3,q4,q5,p0,p1,p2,p3,p4,p5]);have r4:w5.cell? ⟨w.heap.size+1,4,none⟩=some (.slice none 0 0):=cK b5 (by simp[go_sem,x0,x1,x2,x3,x4,x5,q0,q1,q2,q3,q4,q5,p0,p1,p2,p3,p4,p5])
 have r5:w5.cell? ⟨w.heap.size+1,5,none⟩=some (.slice none 0 0):=cK b5 (by simp[go_sem,x0,x1,x2,x3,x4,x5,q0,q1,q2,q3,q4,q5,p0,p1,p2,p3,p4,p5]);have s0:w5.cell? ⟨w.heap.size+2,0,none⟩=some (.int .i64 d.idx):=cK b5 (by simp[go_sem,x0,x1,x2,x3,x4,x5,q0,q1,q2,q3,q4,q5,p0,p1,p2,p3,p4,p5]);have s1:w5.cell? ⟨w.heap.size+2,1,none⟩=some (.slice a1 d.bals.length n1):=cK b5 (by simp[go_sem,x0,x1,x2,x3,x4,x5,q0,q1,q2,q3,q4,q5,p0,p1,p2,p3,p4,p5]);have s2:w5.cell? ⟨w.heap.size+2,2,none⟩=some (.slice a2 d.votes.length n2):=cK b5 (by simp[go_sem,x0,x1,x2,x3,x4,x5,q0,q1,q2,q3,q4,q5,p0,p1,p2,p3,p4,p5]);have s3:w5.cell? ⟨w.heap.size+2,3,none⟩=some (.slice a3 d.held.length n3):=cK b5 (by simp[go_sem,x0,x1,x2,x3,x4,x5,q0,q1,q2,q3,q4,q5,p0,p1,p2,p3,p4,p5]);have s4:w5.cell? ⟨w.heap.size+2,4,none⟩=some (.slice a4 d.done.length n4):=cK b5 (by simp[go_sem,x0,x1,x2,x3,x4,x5,q0,q1,q2,q3,q4,q5,p0,p1,p2,p3,p4,p5]);have s5:w5.cell? ⟨w.heap.size+2,5,none⟩=some (.slice none 0 0):=cK b5 (by simp[go_sem,x0,x1,x2,x3,x4,x5,q0,q1,q2,q3,q4,q5,p0,p1,p2,p3,p4,p5]);have t1:∀o,w5.frozen? ⟨w.heap.size+1,o,none⟩=false:=fun o=>by rw[f5 _ _ (by simp;try omega)];simp[go_sem,qf]
 have t2:∀o,w5.frozen? ⟨w.heap.size+2,o,none⟩=false:=fun o=>by rw[f5 _ _ (by simp;try omega)];simp[go_sem,pf]
 clear x0 x1 x2 x3 x4 x5 q0 q1 q2 q3 q4 q5 p0 p1 p2 p3 p4 p5 qf pf;clear c5 f5;have x0:=y0;have x1:=y1;have x2:=y2;have x3:=y3;have x4:=y4;have x5:=y5;have q0:=r0;have q1:=r1;have q2:=r2;have q3:=r3;have q4:=r4;have q5:=r5;have p0:=s0;have p1:=s1;have p2:=s2;have p3:=s3;have p4:=s4;have p5:=s5;have qf:=t1;have pf:=t2;clear t1 t2 y0 y1 y2 y3 y4 y5 r0 r1 r2 r3 r4 r5 s0 s1 s2 s3 s4 s5;clear b5 hB4;go_wp2;refine bodyPost_ret (v:=.agg #[.int .i64 d.idx,.slice a1 d.bals.length n1,.slice a2 d.votes.length n2,.slice a3 d.held.length n3,.slice a4 d.done.length n4,.slice a5 d.appl.length n5]) ?_ rfl ⟨_,fun b=>F1 b∨F2 b∨F3 b∨F4 b∨F5 b,rfl,⟨_,_,_,_,_,F1,F2,F3,F4,F5,rfl,balsR.base (base:=w.heap.size+3) (by(repeat (first|refine Rep.set _ ?_ _ (by simp;omega)|refine Rep.set _ ?_ _ (by simp)|refine Rep.alloc _ ?_ _|assumption))) oM,mrksR.base (base:=w.heap.size+3) (by(repeat (first|refine Rep.set _ ?_ _ (by simp;omega)|refine Rep.set _ ?_ _ (by simp)|refine Rep.alloc _ ?_ _|assumption))) oM,contsR.base (base:=w.heap.size+3) (by(repeat (first|refine Rep.set _ ?_ _ (by simp;omega)|refine Rep.set _ ?_ _ (by simp)|refine Rep.alloc _ ?_ _|assumption))) oM,mrksR.base (base:=w.heap.size+3) (by(repeat (first|refine Rep.set _ ?_ _ (by simp;omega)|refine Rep.set _ ?_ _ (by simp)|refine Rep.alloc _ ?_ _|assumption))) oM,intsR.base (base:=w.heap.size+3) (by(repeat (first|refine Rep.set _ ?_ _ (by simp;omega)|refine Rep.set _ ?_ _ (by simp)|refine Rep.alloc _ ?_ _|assumption))) oM,fun b p q=>by have:=(l1 b p).2;have:=(l2 b q).1;omega,fun b p q=>by have:=(l1 b p).2;have:=(l3 b q).1;omega,fun b p q=>by have:=(l1 b p).2;have:=(l4 b q).1;omega,fun b p q=>by have:=(l1 b p).2;have:=(l5 b q).1;omega,fun b p q=>by have:=(l2 b p).2;have:=(l3 b q).1;omega,fun b p q=>by have:=(l2 b p).2;have:=(l4 b q).1;omega,fun b p q=>by have:=(l2 b p).2;have:=(l5 b q).1;omega,fun b p q=>by have:=(l3 b p).2;have:=(l4 b q).1;omega,fun b p q=>by have:=(l3 b p).2;have:=(l5 b q).1;omega,fun b p q=>by have:=(l4 b p).2;have:=(l5 b q).1;omega,fun b=>Iff.rfl⟩,qS⟩
 simp[results,Tryz.results72,go_sem,q0,q1,q2,q3,q4,q5,p0,p1,p2,p3,p4,p5,qf,pf]
theorem fS1 (x:Value) (d:Shd) (left:Int) (w:World) (hx:shdR.V w x d) (h0:0≤left) (h1:left≤1048576) :
  RI 58 #[x,.int .i64 left] w (.int .i64 (fU left (qM d))):=by
 obtain⟨u1,u2,u3,u4,u5,rfl,k1,k2,k3,k4,k5⟩:=hx;go_enter Tryz.func58,Tryz.ntmps58;go_wp2_with fail;refine(fJx _ d.bals left _ (balsR.below k1 qBq) h0 h1).mono ?_;rintro e w1 ⟨rfl,b1⟩;have x0:w1.cell? ⟨w.heap.size,0,none⟩=some (.int .i64 d.idx):=cK b1 sG;have x1:w1.cell? ⟨w.heap.size,1,none⟩=some (u1):=cK b1 sG;have x2:w1.cell? ⟨w.heap.size,2,none⟩=some (u2):=cK b1 sG;have x3:w1.cell? ⟨w.heap.size,3,none⟩=some (u3):=cK b1 sG;have x4:w1.cell? ⟨w.heap.size,4,none⟩=some (u4):=cK b1 sG;have x5:w1.cell? ⟨w.heap.size,5,none⟩=some (u5):=cK b1 sG;go_wp2_with fail
 ·rename_i h;go_ret;refine⟨?_,qBq⟩;rw[kS (n:=qK d.bals) oM (qM d) (by unfold qM;omega)];rfl
 rename_i h;refine(fJ1 _ d.votes (fU left (qK d.bals:Nat)) _ (mrksR.below k2 qBq) oM (by have:=rO (n:=qK d.bals) h0;omega)).mono ?_;rintro e w2 ⟨rfl,b2⟩;replace x0:w2.cell? ⟨w.heap.size,0,none⟩=some (.int .i64 d.idx):=cK b2 x0;replace x1:w2.cell? ⟨w.heap.size,1,none⟩=some (u1):=cK b2 x1;replace x2:w2.cell? ⟨w.heap.size,2,none⟩=some (u2):=cK b2 x2;replace x3:w2.cell? ⟨w.heap.size,3,none⟩=some (u3):=cK b2 x3;replace x4:w2.cell? ⟨w.heap.size,4,none⟩=some (u4):=cK b2 x4;replace x5:w2.cell? ⟨w.heap.size,5,none⟩=some (u5):=cK b2 x5;rw[pY (n:=qK d.bals) oM];go_wp2_with fail
 ·rename_i h;go_ret;refine⟨?_,qBq⟩;rw[kS (n:=qK d.bals+pI d.votes) (by first|omega|(rw[Int.natCast_add];omega)) (qM d) (by unfold qM;omega)];rfl
 rename_i h;refine(fAq _ d.held (fU left (qK d.bals+pI d.votes:Nat)) _ (contsR.below k3 qBq) (by first|omega|(simp only[Int.natCast_add] at *;omega)) (by have:=rO (n:=qK d.bals+pI d.votes) h0;omega)).mono ?_;rintro e w3 ⟨rfl,b3⟩;replace x0:w3.cell? ⟨w.heap.size,0,none⟩=some (.int .i64 d.idx):=cK b3 x0;replace x1:w3.cell? ⟨w.heap.size,1,none⟩=some (u1):=cK b3 x1;replace x2:w3.cell? ⟨w.heap.size,2,none⟩=some (u2):=cK b3 x2;replace x3:w3.cell? ⟨w.heap.size,3,none⟩=some (u3):=cK b3 x3;replace x4:w3.cell? ⟨w.heap.size,4,none⟩=some (u4):=cK b3 x4;replace x5:w3.cell? ⟨w.heap.size,5,none⟩=some (u5):=cK b3 x5;rw[pY (n:=qK d.bals+pI d.votes) (by first|omega|(simp only[Int.natCast_add] at *;omega))];go_wp2_with fail
 ·rename_i h;go_ret;refine⟨?_,qBq⟩;rw[kS (n:=qK d.bals+pI d.votes+gX d.held) (by first|omega|(simp only[Int.natCast_add] at *;omega)) (qM d) (by unfold qM;omega)];rfl
 rename_i h;refine(fJ1 _ d.done (fU left (qK d.bals+pI d.votes+gX d.held:Nat)) _ (mrksR.below k4 qBq) (by first|omega|(simp only[Int.natCast_add] at *;omega)) (by have:=rO (n:=qK d.bals+pI d.votes+gX d.held) h0;omega)).mono ?_;rintro e w4 ⟨rfl,b4⟩;replace x0:w4.cell? ⟨w.heap.size,0,none⟩=some (.int .i64 d.idx):=cK b4 x0;replace x1:w4.cell? ⟨w.heap.size,1,none⟩=some (u1):=cK b4 x1;replace x2:w4.cell? ⟨w.heap.size,2,none⟩=some (u2):=cK b4 x2;replace x3:w4.cell? ⟨w.heap.size,3,none⟩=some (u3):=cK b4 x3;replace x4:w4.cell? ⟨w.heap.size,4,none⟩=some (u4):=cK b4 x4;replace x5:w4.cell? ⟨w.heap.size,5,none⟩=some (u5):=cK b4 x5;rw[pY (n:=qK d.bals+pI d.votes+gX d.held) (by first|omega|(simp only[Int.natCast_add] at *;omega))];go_wp2_with fail
 ·rename_i h;go_ret;refine⟨?_,qBq⟩;rw[kS (n:=qK d.bals+pI d.votes+gX d.held+pI d.done) (by first|omega|(simp only[Int.natCast_add] at *;omega)) (qM d) (by unfold qM;omega)];rfl
 rename_i h;refine(fFe _ d.appl (fU left (qK d.bals+pI d.votes+gX d.held+pI d.done:Nat)) _ (intsR.below k5 qBq) (by first|omega|(simp only[Int.natCast_add] at *;omega)) (by have:=rO (n:=qK d.bals+pI d.votes+gX d.held+pI d.done) h0;omega)).mono ?_;rintro e w5 ⟨rfl,b5⟩;rw[pY (n:=qK d.bals+pI d.votes+gX d.held+pI d.done) (by first|omega|(simp only[Int.natCast_add] at *;omega))];go_wp2
 ·rename_i h;go_ret;refine⟨?_,qBq⟩;rw[kS (n:=qK d.bals+pI d.votes+gX d.held+pI d.done+xW d.appl) (by first|omega|(simp only[Int.natCast_add] at *;omega)) (qM d) (by unfold qM;omega)];rfl
 rename_i h;go_ret;exact⟨rfl,qBq⟩
theorem fRo (x y:Value) (d d':Shd) (w:World) (hx:shdR.V w x d) (hy:shdR.V w y d') :
  RI 93 #[x,y] w (.bool (decide (d=d'))):=by
 obtain⟨u1,u2,u3,u4,u5,rfl,h1,h2,h3,h4,h5⟩:=hx;obtain⟨v1,v2,v3,v4,v5,rfl,k1,k2,k3,k4,k5⟩:=hy;obtain⟨idx,bals,votes,held,done,appl⟩:=d;obtain⟨idx',bals',votes',held',done',appl'⟩:=d';dsimp only at h1 k1 h2 k2 h3 k3 h4 k4 h5 k5;go_enter Tryz.func93,Tryz.ntmps93;go_wp2_with fail;all_goals try (go_ret;exact⟨by simp_all,qBq⟩)
 refine(fH1 _ _ bals bals' _ (balsR.below h1 qBq) (balsR.below k1 qBq)).mono ?_;rintro e w1 ⟨rfl,b1⟩;have x0:w1.cell? ⟨w.heap.size,0,none⟩=some (.int .i64 idx):=cK b1 sG;have x1:w1.cell? ⟨w.heap.size,1,none⟩=some (u1):=cK b1 sG;have x2:w1.cell? ⟨w.heap.size,2,none⟩=some (u2):=cK b1 sG;have x3:w1.cell? ⟨w.heap.size,3,none⟩=some (u3):=cK b1 sG;have x4:w1.cell? ⟨w.heap.size,4,none⟩=some (u4):=cK b1 sG;have x5:w1.cell? ⟨w.heap.size,5,none⟩=some (u5):=cK b1 sG;have y0:w1.cell? ⟨w.heap.size+1,0,none⟩=some (.int .i64 idx'):=cK b1 sG;have y1:w1.cell? ⟨w.heap.size+1,1,none⟩=some (v1):=cK b1 sG;have y2:w1.cell? ⟨w.heap.size+1,2,none⟩=some (v2):=cK b1 sG;have y3:w1.cell? ⟨w.heap.size+1,3,none⟩=some (v3):=cK b1 sG;have y4:w1.cell? ⟨w.heap.size+1,4,none⟩=some (v4):=cK b1 sG;have y5:w1.cell? ⟨w.heap.size+1,5,none⟩=some (v5):=cK b1 sG;go_wp2_with fail;all_goals try (go_ret;exact⟨by simp_all,qBq⟩)
 refine(fH5 _ _ votes votes' _ (mrksR.below h2 qBq) (mrksR.below k2 qBq)).mono ?_;rintro e w2 ⟨rfl,b2⟩;replace x0:w2.cell? ⟨w.heap.size,0,none⟩=some (.int .i64 idx):=cK b2 x0;replace x1:w2.cell? ⟨w.heap.size,1,none⟩=some (u1):=cK b2 x1;replace x2:w2.cell? ⟨w.heap.size,2,none⟩=some (u2):=cK b2 x2;replace x3:w2.cell? ⟨w.heap.size,3,none⟩=some (u3):=cK b2 x3;replace x4:w2.cell? ⟨w.heap.size,4,none⟩=some (u4):=cK b2 x4;replace x5:w2.cell? ⟨w.heap.size,5,none⟩=some (u5):=cK b2 x5;replace y0:w2.cell? ⟨w.heap.size+1,0,none⟩=some (.int .i64 idx'):=cK b2 y0;replace y1:w2.cell? ⟨w.heap.size+1,1,none⟩=some (v1):=cK b2 y1;replace y2:w2.cell? ⟨w.heap.size+1,2,none⟩=some (v2):=cK b2 y2;replace y3:w2.cell? ⟨w.heap.size+1,3,none⟩=some (v3):=cK b2 y3;replace y4:w2.cell? ⟨w.heap.size+1,4,none⟩=some (v4):=cK b2 y4;replace y5:w2.cell? ⟨w.heap.size+1,5,none⟩=some (v5):=cK b2 y5;go_wp2_with fail;all_goals try (go_ret;exact⟨by simp_all,qBq⟩)
 refine(zP _ _ held held' _ (contsR.below h3 qBq) (contsR.below k3 qBq)).mono ?_;rintro e w3 ⟨rfl,b3⟩;replace x0:w3.cell? ⟨w.heap.size,0,none⟩=some (.int .i64 idx):=cK b3 x0;replace x1:w3.cell? ⟨w.heap.size,1,none⟩=some (u1):=cK b3 x1;replace x2:w3.cell? ⟨w.heap.size,2,none⟩=some (u2):=cK b3 x2;replace x3:w3.cell? ⟨w.heap.size,3,none⟩=some (u3):=cK b3 x3;replace x4:w3.cell? ⟨w.heap.size,4,none⟩=some (u4):=cK b3 x4;replace x5:w3.cell? ⟨w.heap.size,5,none⟩=some (u5):=cK b3 x5;replace y0:w3.cell? ⟨w.heap.size+1,0,none⟩=some (.int .i64 idx'):=cK b3 y0;replace y1:w3.cell? ⟨w.heap.size+1,1,none⟩=some (v1):=cK b3 y1;replace y2:w3.cell? ⟨w.heap.size+1,2,none⟩=some (v2):=cK b3 y2;replace y3:w3.cell? ⟨w.heap.size+1,3,none⟩=some (v3):=cK b3 y3;replace y4:w3.cell? ⟨w.heap.size+1,4,none⟩=some (v4):=cK b3 y4;replace y5:w3.cell? ⟨w.heap.size+1,5,none⟩=some (v5):=cK b3 y5;go_wp2_with fail;all_goals try (go_ret;exact⟨by simp_all,qBq⟩)
 refine(fH5 _ _ done done' _ (mrksR.below h4 qBq) (mrksR.below k4 qBq)).mono ?_;rintro e w4 ⟨rfl,b4⟩;replace x0:w4.cell? ⟨w.heap.size,0,none⟩=some (.int .i64 idx):=cK b4 x0;replace x1:w4.cell? ⟨w.heap.size,1,none⟩=some (u1):=cK b4 x1;replace x2:w4.cell? ⟨w.heap.size,2,none⟩=some (u2):=cK b4 x2;replace x3:w4.cell? ⟨w.heap.size,3,none⟩=some (u3):=cK b4 x3;replace x4:w4.cell? ⟨w.heap.size,4,none⟩=some (u4):=cK b4 x4;replace x5:w4.cell? ⟨w.heap.size,5,none⟩=some (u5):=cK b4 x5;replace y0:w4.cell? ⟨w.heap.size+1,0,none⟩=some (.int .i64 idx'):=cK b4 y0;replace y1:w4.cell? ⟨w.heap.size+1,1,none⟩=some (v1):=cK b4 y1;replace y2:w4.cell? ⟨w.heap.size+1,2,none⟩=some (v2):=cK b4 y2;replace y3:w4.cell? ⟨w.heap.size+1,3,none⟩=some (v3):=cK b4 y3;replace y4:w4.cell? ⟨w.heap.size+1,4,none⟩=some (v4):=cK b4 y4;replace y5:w4.cell? ⟨w.heap.size+1,5,none⟩=some (v5):=cK b4 y5;go_wp2_with fail;all_goals try (go_ret;exact⟨by simp_all,qBq⟩)
 refine(fEt _ _ appl appl' _ (intsR.below h5 qBq) (intsR.below k5 qBq)).mono ?_;rintro e w5 ⟨rfl,b5⟩;go_wp2;all_goals
  go_ret;exact⟨by simp_all,qBq⟩
end
end Go.Proofs.YtbfnobcidnmohaaGreat

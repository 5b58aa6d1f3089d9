import Derived.Test.YtbfnobcidnmohaaGreatPrnSafeClusterLaw3
set_option maxHeartbeats 2000000
set_option linter.unusedSectionVars false
set_option linter.unusedSimpArgs false
namespace Go.Proofs.YtbfnobcidnmohaaGreat
open Go.RowKit
attribute [local go_sem ↓] Go.wp_at_zero Go.wp_at_succ
section
variable [dQ Leg] [iH Leg] [dQ Vot] [iH Vot] [dQ Trr] [iH Trr]
def trysR:Rep (List Trr):=nRep trrR 238 6 fXu
def xY (xs:List Trr):Nat:=wtL tV xs
theorem fKd {w:World} {v:Value} {xs:List Trr} (h:trysR.V w v xs):∃a c,v =.slice a xs.length c:=by
 obtain⟨a,c,rfl,_⟩:=h;exact⟨_,_,rfl⟩
theorem fUb:(Tryz.prog.info? 238).map (fun i=>(i.zero,i.size,i.bytes))=some (some (.agg #[.int .i64 0,.int .i64 0,.int .i64 0,.int .i64 0,.slice none 0 0,.slice none 0 0]),6,80):=kF
theorem fUg {w w':World} {a0 a1 a2 a3 a4 a5 a6 a7 a8 a9 a10 a11:Addr} {x0 x1 x2 x3 x4 x5 x6 x7 x8 x9 x10 x11:Value} (hb:Below w.heap.size w w') (g0:w.cell? a0=some x0) (g1:w.cell? a1=some x1) (g2:w.cell? a2=some x2) (g3:w.cell? a3=some x3) (g4:w.cell? a4=some x4) (g5:w.cell? a5=some x5) (g6:w.cell? a6=some x6) (g7:w.cell? a7=some x7) (g8:w.cell? a8=some x8) (g9:w.cell? a9=some x9) (g10:w.cell? a10=some x10) (g11:w.cell? a11=some x11):Below w.heap.size w w'∧w'.cell? a0=some x0∧w'.cell? a1=some x1∧w'.cell? a2=some x2∧w'.cell? a3=some x3∧w'.cell? a4=some x4∧w'.cell? a5=some x5∧w'.cell? a6=some x6∧w'.cell? a7=some x7∧w'.cell? a8=some x8∧w'.cell? a9=some x9∧w'.cell? a10=some x10∧w'.cell? a11=some x11:=
 ⟨hb,cK hb g0,cK hb g1,cK hb g2,cK hb g3,cK hb g4,cK hb g5,cK hb g6,cK hb g7,cK hb g8,cK hb g9,cK hb g10,cK hb g11⟩
theorem fT0 (x y:Value) (xs ys:List Trr) (w:World) (hx:trysR.V w x xs) (hy:trysR.V w y ys) :
  RI 176 #[x,y] w (.bool (decide (xs=ys))):=by
 obtain⟨ax,cx,rfl,hcx,hmx,hx⟩:=hx;obtain⟨ay,cy,rfl,hcy,hmy,hy⟩:=hy;unfold maxLen at hmx hmy;by_cases hl:ys.length=xs.length
 ·
  rw[hl] at hcy hy ⊢;have HL:Hid (ys.length=xs.length):=hl;clear hl;generalize hn:xs.length=n at *;have HN:Hid (xs.length=n):=hn;clear hn;go_enter Tryz.func176,Tryz.ntmps176;go_wp2;go_loopw [5] (fun i w'=>∃k:Nat,k≤n∧i =.int .i64 k∧(∀j,j<k→xs.getD j default=ys.getD j default)∧Below w.heap.size w w') (fun i _=>n-(intOf i).toNat)
  case atStart=>exact⟨0,oM,rfl,fun j h=>absurd h oM,bR _ _⟩
  obtain⟨k,hk,rfl,hpre,hbl⟩:=hrel;have HP:Hid (∀j,j<k→xs.getD j default=ys.getD j default):=hpre;clear hpre;by_cases hlt:k<n
  ·
   obtain⟨bx,ox,ux,rfl,_,p1,hvx⟩:=hx k hlt;obtain⟨b2,oy,uy,rfl,_,p2,hvy⟩:=hy k hlt;obtain⟨l1,hl1⟩:∃l,l=xs.getD k default:=⟨_,rfl⟩
   obtain⟨l2,hl2⟩:∃l,l=ys.getD k default:=⟨_,rfl⟩
   rw[←hl1] at hvx;rw[←hl2] at hvy;have H1:Hid (l1=xs.getD k default):=hl1;have H2:Hid (l2=ys.getD k default):=hl2;have hvx':=hvx;obtain⟨ux1,ux2,rfl,_,_⟩:=hvx';have hvy':=hvy;obtain⟨uy1,uy2,rfl,_,_⟩:=hvy';have g0:w.cell? ⟨bx,ox+k*6,none⟩=some (.int .i64 l1.con):=p1 0 oM;have g1:w.cell? ⟨bx,ox+k*6+1,none⟩=some (.int .i64 l1.sh):=p1 1 oM;have g2:w.cell? ⟨bx,ox+k*6+2,none⟩=some (.int .i64 l1.bal):=p1 2 oM;have g3:w.cell? ⟨bx,ox+k*6+3,none⟩=some (.int .i64 l1.val):=p1 3 oM;have g4:w.cell? ⟨bx,ox+k*6+4,none⟩=some (ux1):=p1 4 oM;have g5:w.cell? ⟨bx,ox+k*6+5,none⟩=some (ux2):=p1 5 oM;have g6:w.cell? ⟨b2,oy+k*6,none⟩=some (.int .i64 l2.con):=p2 0 oM;have g7:w.cell? ⟨b2,oy+k*6+1,none⟩=some (.int .i64 l2.sh):=p2 1 oM;have g8:w.cell? ⟨b2,oy+k*6+2,none⟩=some (.int .i64 l2.bal):=p2 2 oM;have g9:w.cell? ⟨b2,oy+k*6+3,none⟩=some (.int .i64 l2.val):=p2 3 oM;have g10:w.cell? ⟨b2,oy+k*6+4,none⟩=some (uy1):=p2 4 oM;have g11:w.cell? ⟨b2,oy+k*6+5,none⟩=some (uy2):=p2 5 oM;clear hl1 hl2 hx hy p1 p2;go_wp2;go_region_held3 (fun w'=>Below w.heap.size w w'∧w'.cell? ⟨bx,ox+k*6,none⟩=some (.int .i64 l1.con)∧w'.cell? ⟨bx,ox+k*6+1,none⟩=some (.int .i64 l1.sh)∧w'.cell? ⟨bx,ox+k*6+2,none⟩=some (.int .i64 l1.bal)∧w'.cell? ⟨bx,ox+k*6+3,none⟩=some (.int .i64 l1.val)∧w'.cell? ⟨bx,ox+k*6+4,none⟩=some (ux1)∧w'.cell? ⟨bx,ox+k*6+5,none⟩=some (ux2)∧w'.cell? ⟨b2,oy+k*6,none⟩=some (.int .i64 l2.con)∧w'.cell? ⟨b2,oy+k*6+1,none⟩=some (.int .i64 l2.sh)∧w'.cell? ⟨b2,oy+k*6+2,none⟩=some (.int .i64 l2.bal)∧w'.cell? ⟨b2,oy+k*6+3,none⟩=some (.int .i64 l2.val)∧w'.cell? ⟨b2,oy+k*6+4,none⟩=some (uy1)∧w'.cell? ⟨b2,oy+k*6+5,none⟩=some (uy2)) ((refine fUg ?_ g0 g1 g2 g3 g4 g5 g6 g7 g8 g9 g10 g11;(repeat (first|exact bR _ _|assumption|refine bD ?_|refine bA ?_ _|refine bS ?_ (by assumption))))) (first|(go_at_call 251;refine(fWg (.agg #[.int .i64 l1.con,.int .i64 l1.sh,.int .i64 l1.bal,.int .i64 l1.val,ux1,ux2]) (.agg #[.int .i64 l2.con,.int .i64 l2.sh,.int .i64 l2.bal,.int .i64 l2.val,uy1,uy2]) l1 l2 _ (trrR.below hvx qT) (trrR.below hvy qT)).mono ?_;rintro e w' ⟨rfl,hb1⟩))
   rename_i hH;have hB:=hH.1;clear hH;go_wp2
   ·
    rename_i hle;go_ret;refine⟨?_,hB⟩;have:¬xs=ys:=fun h=>by
     have:l1=l2:=by rw[H1.out,H2.out,h]
     simp[this] at hle
    simp[this]
   rename_i hle;refine⟨⟨k+1,by omega,by go_num,fun j hj=>?_,hB⟩,mI⟩;by_cases hjk:j<k
   ·exact HP.out j hjk
   have:j=k:=oM;subst this;rw[←H1.out,←H2.out];simpa using hle
  go_wp2;go_ret;have:k=n:=oM;subst this;refine⟨?_,hbl⟩;have:xs=ys:=uA (by rw[HL.out,HN.out]) (by rw[HN.out];exact HP.out);simp[this]
 go_enter Tryz.func176,Tryz.ntmps176;have hl':((xs.length:Int)==(ys.length:Int))=false:=by simp;omega
 go_wp2;go_ret;have:¬xs=ys:=fun h=>hl (by rw[h])
 exact⟨by simp[this],bR _ _⟩
theorem fVr (x:Value) (xs:List Trr) (w:World) (hx:trysR.V w x xs) (hn:xY xs≤1048576) :
  Calls Tryz.prog 141 #[x] w fun e w'=>∃v F,e =.returned v∧trysR.O w' w.heap.size F v xs∧Below w.heap.size w w':=by
 obtain⟨ax,cx,rfl,hcx,hmx,hx⟩:=hx;unfold maxLen at hmx;unfold xY at hn;have hlen:xs.length≤1048576:=by unfold wtL at hn;omega
 have hW:∀k,k<xs.length→tV (xs.getD k default)≤1048576:=fun k hk=>(fEn hn hk).1
 obtain⟨i0,hi,hz0,hz1,hz2⟩:=info_parts fUb;obtain⟨w1,hmk,hown,hgr⟩:=run_make_full (P:=Tryz.prog) w w.heap.size 146 238 i0 _ 6 Tryz.underlying146 hi hz0 hz1 .i64 .i64 xs.length (by rw[hz2];omega) (by unfold maxLen;omega) (Nat.le_refl _);have hbl0:Below w.heap.size w w1:=(bR _ _).grown hgr (Nat.le_refl _) (fun k h=>by cases h);clear hn;generalize hn':xs.length=n at *;have HN:Hid (xs.length=n):=hn';clear hn';go_enter Tryz.func141,Tryz.ntmps141;go_wp2;go_loopw [4] (fun i w'=>∃(k:Nat) (cs:List Value) (us:Nat→Value) (fs:Nat→Nat→Prop),k≤n∧i =.int .i64 k∧PO trrR 238 6 fXu w' w.heap.size (.slice (some ⟨w.heap.size,0,none⟩) n n) n k (fun i=>xs.getD i default) cs us fs∧Below w.heap.size w w') (fun i _=>n-(intOf i).toNat)
 case atStart=>exact⟨0,_,fun _=>.int .i64 0,fun _ _=>False,Nat.zero_le _,rfl,⟨hown,fun i h=>oM,fun i h=>oM,fun i h=>oM,fun i h=>oM,fun i j h=>oM⟩,hbl0⟩
 obtain⟨k,cs,us,fs,hk,rfl,hp,hbl⟩:=hrel;clear hown hmk hgr hbl0;by_cases hlt:k<n
 ·
  obtain⟨bx,ox,ux,rfl,_,p1,hvx⟩:=hx k hlt;have hw:=hW k hlt;obtain⟨l,hl⟩:∃l,l=xs.getD k default:=⟨_,rfl⟩
  rw[←hl] at hvx hw;have HL:Hid (l=xs.getD k default):=hl;have hvx':=hvx;obtain⟨ux1,ux2,rfl,_,_⟩:=hvx';have g0:w.cell? ⟨bx,ox+k*6,none⟩=some (.int .i64 l.con):=p1 0 oM;replace g0:=cK hbl g0;have g1:w.cell? ⟨bx,ox+k*6+1,none⟩=some (.int .i64 l.sh):=p1 1 oM;replace g1:=cK hbl g1;have g2:w.cell? ⟨bx,ox+k*6+2,none⟩=some (.int .i64 l.bal):=p1 2 oM;replace g2:=cK hbl g2;have g3:w.cell? ⟨bx,ox+k*6+3,none⟩=some (.int .i64 l.val):=p1 3 oM;replace g3:=cK hbl g3;have g4:w.cell? ⟨bx,ox+k*6+4,none⟩=some (ux1):=p1 4 oM;replace g4:=cK hbl g4;have g5:w.cell? ⟨bx,ox+k*6+5,none⟩=some (ux2):=p1 5 oM;replace g5:=cK hbl g5;clear hx p1 hW hl;go_wp2_with fail;refine(fXc (.agg #[.int .i64 l.con,.int .i64 l.sh,.int .i64 l.bal,.int .i64 l.val,ux1,ux2]) l _ (trrR.below hvx qT) hw).mono ?_;rintro e wa ⟨v1,F1,rfl,o1,b1⟩;have ofm1:=trrR.ofO o1;obtain⟨x1_1,x1_2,rfl,y1_1,y1_2⟩:=ofm1;obtain⟨a1_1,n1_1,rfl⟩:=gZ y1_1;obtain⟨a1_2,n1_2,rfl⟩:=gJ y1_2;have ho1:=(hp.keep b1).row;obtain⟨y0,q0⟩:=fH ho1 (k*6) oM;obtain⟨y1,q1⟩:=fH ho1 (k*6+1) oM;obtain⟨y2,q2⟩:=fH ho1 (k*6+2) oM;obtain⟨y3,q3⟩:=fH ho1 (k*6+3) oM;obtain⟨y4,q4⟩:=fH ho1 (k*6+4) oM;obtain⟨y5,q5⟩:=fH ho1 (k*6+5) oM;have hf:=fun j=>ho1.frozenAt j
  go_wp2;have s0:=ho1.stored (k*6) (.int .i64 l.con);have s1:=s0.1.stored (k*6+1) (.int .i64 l.sh);have s2:=s1.1.stored (k*6+2) (.int .i64 l.bal);have s3:=s2.1.stored (k*6+3) (.int .i64 l.val);have s4:=s3.1.stored (k*6+4) (.slice a1_1 l.frm.length n1_1);have s5:=s4.1.stored (k*6+5) (.slice a1_2 l.olds.length n1_2);have hrow:World.ownsRow _ w.heap.size 238 6 (.slice (some ⟨w.heap.size,0,none⟩) n n) n (setRow cs (k*6) [.int .i64 l.con,.int .i64 l.sh,.int .i64 l.bal,.int .i64 l.val,.slice a1_1 l.frm.length n1_1,.slice a1_2 l.olds.length n1_2]):=s5.1;have hcl:=hp.row.1;refine⟨⟨k+1,_,_,_,by omega,by go_num,hp.push (u:=(.agg #[.int .i64 l.con,.int .i64 l.sh,.int .i64 l.bal,.int .i64 l.val,.slice a1_1 l.frm.length n1_1,.slice a1_2 l.olds.length n1_2])) (F:=F1) hbl.size b1 (by rw[←HL.out];exact o1) rfl hrow ((((((Mod.of_grown s0.2).trans (Mod.of_grown s1.2)).trans (Mod.of_grown s2.2)).trans (Mod.of_grown s3.2)).trans (Mod.of_grown s4.2)).trans (Mod.of_grown s5.2)) ?_ ?_,?_⟩,mI⟩
  ·intro i hi j hj;exact qJ _ _ _ _ (.inl oM)
  ·intro j hj;exact rD _ _ _ _ (by simp only[List.length_cons,List.length_nil];omega) hj
  exact(((((((bS hbl b1).setCell (Nat.le_refl _) _).setCell (Nat.le_refl _) _).setCell (Nat.le_refl _) _).setCell (Nat.le_refl _) _).setCell (Nat.le_refl _) _).setCell (Nat.le_refl _) _)
 go_wp2;go_ret;have hkn:k=n:=oM;subst hkn;have e:=HN.out;subst e;exact⟨_,_,rfl,⟨cs,us,fs,hp,fun b=>Iff.rfl⟩,hbl⟩
theorem fVn (x:Value) (xs:List Trr) (left:Int) (w:World) (hx:trysR.V w x xs) (h0:0≤left) (h1:left≤1048576) :
  RI 116 #[x,.int .i64 left] w (.int .i64 (fU left (xY xs))):=by
 obtain⟨ax,cx,rfl,hcx,hmx,hx⟩:=hx;unfold maxLen at hmx;unfold xY wtL;have HT:Hid (∀k,k<xs.length→gH tV (k+1) xs=gH tV k xs+tV (xs.getD k default)∧gH tV (k+1) xs≤gH tV xs.length xs):=
  fun k hk=>⟨qH _ k xs hk,uK _ _ _ _ hk⟩
 generalize xs.length=n at *;by_cases h:left<n
 ·have h':left-(n:Int)<0:=oM;clear hx;go_enter Tryz.func116,Tryz.ntmps116;go_wp2;go_ret;exact⟨by simp only[fU];rw[if_pos oM];rfl,bR _ _⟩
 have h':¬left-(n:Int)<0:=oM;go_enter Tryz.func116,Tryz.ntmps116;go_wp2;go_loopw [1,5] (fun l i w'=>∃k:Nat,k≤n∧i =.int .i64 k∧l =.int .i64 (left-n-gH tV k xs)∧0≤left-n-gH tV k xs∧Below w.heap.size w w') (fun _ i _=>n-(intOf i).toNat)
 case atStart=>exact⟨0,oM,rfl,by simp[gH],by simp[gH];omega,bR _ _⟩
 obtain⟨k,hk,rfl,rfl,hpos,hbl⟩:=hrel;by_cases hlt:k<n
 ·
  obtain⟨bx,ox,ux,rfl,_,p1,hvx⟩:=hx k hlt;obtain⟨t2,t3⟩:=HT.out k hlt;generalize xs.getD k default=l at *;have hvx':=hvx;obtain⟨ux1,ux2,rfl,_,_⟩:=hvx';have g0:w.cell? ⟨bx,ox+k*6,none⟩=some (.int .i64 l.con):=p1 0 oM;replace g0:=cK hbl g0;have g1:w.cell? ⟨bx,ox+k*6+1,none⟩=some (.int .i64 l.sh):=p1 1 oM;replace g1:=cK hbl g1;have g2:w.cell? ⟨bx,ox+k*6+2,none⟩=some (.int .i64 l.bal):=p1 2 oM;replace g2:=cK hbl g2;have g3:w.cell? ⟨bx,ox+k*6+3,none⟩=some (.int .i64 l.val):=p1 3 oM;replace g3:=cK hbl g3;have g4:w.cell? ⟨bx,ox+k*6+4,none⟩=some (ux1):=p1 4 oM;replace g4:=cK hbl g4;have g5:w.cell? ⟨bx,ox+k*6+5,none⟩=some (ux2):=p1 5 oM;replace g5:=cK hbl g5;generalize hm:tV l=m at *;have HM:Hid (tV l=m):=hm;clear hx p1 hm;generalize gH tV k xs=c at *;go_wp2_with fail;refine(fXb (.agg #[.int .i64 l.con,.int .i64 l.sh,.int .i64 l.bal,.int .i64 l.val,ux1,ux2]) l (left-n-c) _ (trrR.below hvx qT) hpos oM).mono ?_;rintro e wa ⟨rfl,b1⟩;rw[HM.out];go_wp2
  ·
   rename_i hneg;go_ret;refine⟨?_,qT⟩;have:fU left ↑(n+gH tV n xs) = -1:=by
    unfold fU at hneg ⊢;rw[if_pos (by split at hneg <;> omega)]
   rw[this];rfl
  rename_i hneg;refine⟨⟨k+1,by omega,by go_num,?_,?_,qT⟩,mI⟩
  ·
   congr 1
   unfold fU at hneg ⊢;split at hneg <;> omega
  unfold fU at hneg;split at hneg <;> omega
 go_wp2;go_ret;have hkn:k=n:=oM;subst hkn;refine⟨?_,hbl⟩;have:fU left ↑(k+gH tV k xs)=left-k-gH tV k xs:=by
  unfold fU;rw[if_neg oM];omega
 rw[this];rfl
end
section
structure Hrd where
 con:Int
 sh:Int
 bal:Int
 val:Int
 frm:Int
variable [dQ Hrd] [iH Hrd]
def hrdV (x:Hrd):Value:=.agg #[.int .i64 x.con,.int .i64 x.sh,.int .i64 x.bal,.int .i64 x.val,.int .i64 x.frm]
theorem fMj (x:Hrd) (w:World) :
  RI 204 #[hrdV x] w (hrdV x):=by
 obtain⟨a,b,c,d,e⟩:=x;unfold hrdV;go_enter Tryz.func204,Tryz.ntmps204;go_wp2;exact bodyPost_ret (v:=.agg #[.int .i64 a,.int .i64 b,.int .i64 c,.int .i64 d,.int .i64 e]) (by simp[results,Tryz.results204,go_sem]) rfl ⟨rfl,bA (bA (bA (bR _ _) _) _) _⟩
theorem fK1 (x y:Hrd) (w:World) :
  RI 252 #[hrdV x,hrdV y] w (.bool (decide (x=y))):=by
 obtain⟨a,b,c,d,e⟩:=x;obtain⟨a',b',c',d',e'⟩:=y;unfold hrdV;go_enter Tryz.func252,Tryz.ntmps252;go_wp2;all_goals
  go_ret;exact⟨by simp_all,bA (bA (bR _ _) _) _⟩
def yA (w:World) (b o:Nat) (x:Hrd):Prop:=w.cell? ⟨b,o,none⟩=some (.int .i64 x.con)∧w.cell? ⟨b,o+1,none⟩=some (.int .i64 x.sh)∧w.cell? ⟨b,o+2,none⟩=some (.int .i64 x.bal)∧w.cell? ⟨b,o+3,none⟩=some (.int .i64 x.val)∧w.cell? ⟨b,o+4,none⟩=some (.int .i64 x.frm)
def fHb (w:World) (v:Value) (xs:List Hrd):Prop:=
 ∃a cap,v =.slice a xs.length cap∧xs.length≤cap∧cap≤maxLen∧∀i,i<xs.length→∃b o,a=some ⟨b,o,none⟩∧yA w b (o+i*5) (xs.getD i default)
theorem rG {w w':World} {b o:Nat} {x:Hrd} (hb:Below w.heap.size w w') (h:yA w b o x):yA w' b o x:=by
 obtain⟨h0,h1,h2,h3,h4⟩:=h;exact⟨cK hb h0,cK hb h1,cK hb h2,cK hb h3,cK hb h4⟩
theorem fKm {w w':World} {v:Value} {xs:List Hrd} (h:fHb w v xs) (hb:Below w.heap.size w w'):fHb w' v xs:=by
 obtain⟨a,cap,rfl,h1,h2,h3⟩:=h;exact⟨a,cap,rfl,h1,h2,fun i hi=>by
  obtain⟨b,o,ha,hc⟩:=h3 i hi;exact⟨b,o,ha,rG hb hc⟩⟩
theorem fT7 {w w':World} {b o b' o':Nat} {x y:Hrd} (hb:Below w.heap.size w w') (h:yA w b o x) (h':yA w b' o' y) :
  Below w.heap.size w w'∧(w'.cell? ⟨b,o,none⟩=some (.int .i64 x.con)∧w'.cell? ⟨b,o+1,none⟩=some (.int .i64 x.sh)∧w'.cell? ⟨b,o+2,none⟩=some (.int .i64 x.bal)∧w'.cell? ⟨b,o+3,none⟩=some (.int .i64 x.val)∧w'.cell? ⟨b,o+4,none⟩=some (.int .i64 x.frm))∧(w'.cell? ⟨b',o',none⟩=some (.int .i64 y.con)∧w'.cell? ⟨b',o'+1,none⟩=some (.int .i64 y.sh)∧w'.cell? ⟨b',o'+2,none⟩=some (.int .i64 y.bal)∧w'.cell? ⟨b',o'+3,none⟩=some (.int .i64 y.val)∧w'.cell? ⟨b',o'+4,none⟩=some (.int .i64 y.frm)):=
 ⟨hb,rG hb h,rG hb h'⟩
theorem fPg {xs ys:List Hrd} (hl:ys.length=xs.length) (h:∀j,j<xs.length→xs.getD j default=ys.getD j default):xs=ys:=by
 apply List.ext_getElem oM;intro i h1 h2;have:=h i h1;simpa [List.getD,h1,h2] using this
theorem fH3 (x y:Value) (xs ys:List Hrd) (w:World) (hx:fHb w x xs) (hy:fHb w y ys) :
  RI 177 #[x,y] w (.bool (decide (xs=ys))):=by
 obtain⟨ax,cx,rfl,hcx,hmx,hx⟩:=hx;obtain⟨ay,cy,rfl,hcy,hmy,hy⟩:=hy;unfold maxLen at hmx hmy;by_cases hl:ys.length=xs.length
 ·
  rw[hl] at hcy hy ⊢;have HL:Hid (ys.length=xs.length):=hl;clear hl;generalize hn:xs.length=n at *;have HN:Hid (xs.length=n):=hn;clear hn;go_enter Tryz.func177,Tryz.ntmps177;go_wp2;go_loopw [5] (fun i w'=>∃k:Nat,k≤n∧i =.int .i64 k∧(∀j,j<k→xs.getD j default=ys.getD j default)∧Below w.heap.size w w') (fun i _=>n-(intOf i).toNat)
  case atStart=>exact⟨0,oM,rfl,fun j h=>absurd h oM,bR _ _⟩
  obtain⟨k,hk,rfl,hpre,hbl⟩:=hrel;have HP:Hid (∀j,j<k→xs.getD j default=ys.getD j default):=hpre;clear hpre;by_cases hlt:k<n
  ·
   obtain⟨bx,ox,rfl,h1⟩:=hx k hlt;obtain⟨b2,oy,rfl,h2⟩:=hy k hlt;obtain⟨l1,hl1⟩:∃l,l=xs.getD k default:=⟨_,rfl⟩
   obtain⟨l2,hl2⟩:∃l,l=ys.getD k default:=⟨_,rfl⟩
   rw[←hl1] at h1;rw[←hl2] at h2;have H1:Hid (l1=xs.getD k default):=hl1;have H2:Hid (l2=ys.getD k default):=hl2;clear hl1 hl2 hx hy;go_wp2;go_region_held3 (fun w'=>Below w.heap.size w w'∧(w'.cell? ⟨bx,ox+k*5,none⟩=some (.int .i64 l1.con)∧w'.cell? ⟨bx,ox+k*5+1,none⟩=some (.int .i64 l1.sh)∧w'.cell? ⟨bx,ox+k*5+2,none⟩=some (.int .i64 l1.bal)∧w'.cell? ⟨bx,ox+k*5+3,none⟩=some (.int .i64 l1.val)∧w'.cell? ⟨bx,ox+k*5+4,none⟩=some (.int .i64 l1.frm))∧(w'.cell? ⟨b2,oy+k*5,none⟩=some (.int .i64 l2.con)∧w'.cell? ⟨b2,oy+k*5+1,none⟩=some (.int .i64 l2.sh)∧w'.cell? ⟨b2,oy+k*5+2,none⟩=some (.int .i64 l2.bal)∧w'.cell? ⟨b2,oy+k*5+3,none⟩=some (.int .i64 l2.val)∧w'.cell? ⟨b2,oy+k*5+4,none⟩=some (.int .i64 l2.frm))) ((refine fT7 ?_ h1 h2;repeat (first|exact bR _ _|assumption|refine bD ?_|refine bA ?_ _|refine bS ?_ (by assumption)))) (first|(go_at_call 252;refine(fK1 l1 l2 _).mono ?_;rintro e w' ⟨rfl,hb1⟩));rename_i hH;have hB:=hH.1;clear hH;go_wp2
   ·
    rename_i hle;go_ret;refine⟨?_,hB⟩;have:¬xs=ys:=fun h=>by
     have:l1=l2:=by rw[H1.out,H2.out,h]
     simp[this] at hle
    simp[this]
   rename_i hle;refine⟨⟨k+1,by omega,by go_num,fun j hj=>?_,hB⟩,mI⟩;by_cases hjk:j<k
   ·exact HP.out j hjk
   have:j=k:=oM;subst this;rw[←H1.out,←H2.out];simpa using hle
  go_wp2;go_ret;have:k=n:=oM;subst this;refine⟨?_,hbl⟩;have:xs=ys:=fPg (by rw[HL.out,HN.out]) (by rw[HN.out];exact HP.out);simp[this]
 go_enter Tryz.func177,Tryz.ntmps177;have hl':((xs.length:Int)==(ys.length:Int))=false:=by simp;omega
 go_wp2;go_ret;have:¬xs=ys:=fun h=>hl (by rw[h])
 exact⟨by simp[this],bR _ _⟩
def hrdC (x:Hrd):List Value:=[.int .i64 x.con,.int .i64 x.sh,.int .i64 x.bal,.int .i64 x.val,.int .i64 x.frm]
def vY (xs:List Hrd):List Value:=xs.flatMap hrdC
theorem fWm:(Tryz.prog.info? 209).map (fun i=>(i.zero,i.size,i.bytes))=some (some (.agg #[.int .i64 0,.int .i64 0,.int .i64 0,.int .i64 0,.int .i64 0]),5,40):=kF
theorem fI2 (xs:List Hrd):(vY xs).length=xs.length*5:=by
 induction xs with
 | nil=>rfl
 | cons x r ih=>
  have e:vY (x::r)=hrdC x++vY r:=by simp[vY]
  have l4:(hrdC x).length=5:=rfl;rw[e,List.length_append,l4,ih,List.length_cons];omega
theorem fId (xs:List Hrd):∀i,i<xs.length→(vY xs)[i*5]? = some (.int .i64 (xs.getD i default).con)∧(vY xs)[i*5+1]? = some (.int .i64 (xs.getD i default).sh)∧(vY xs)[i*5+2]? = some (.int .i64 (xs.getD i default).bal)∧(vY xs)[i*5+3]? = some (.int .i64 (xs.getD i default).val)∧(vY xs)[i*5+4]? = some (.int .i64 (xs.getD i default).frm):=by
 induction xs with
 | nil=>intro i h;simp at h
 | cons x r ih=>
  intro i h;cases i with
  | zero=>simp[vY,hrdC]
  | succ i=>
   have:=ih i (by simpa using h);have e:vY (x::r)=hrdC x++vY r:=by simp[vY]
   have l4:(hrdC x).length=5:=rfl;rw[e];refine⟨?_,?_,?_,?_,?_⟩;all_goals rw[List.getElem?_append_right oM,l4]
   ·rw[show(i+1)*5-5=i*5 by omega];simpa using this.1
   ·rw[show(i+1)*5+1-5=i*5+1 by omega];simpa using this.2.1
   ·rw[show(i+1)*5+2-5=i*5+2 by omega];simpa using this.2.2.1
   ·rw[show(i+1)*5+3-5=i*5+3 by omega];simpa using this.2.2.2.1
   rw[show(i+1)*5+4-5=i*5+4 by omega];simpa using this.2.2.2.2
theorem fFj {w:World} {base e:Nat} {v:Value} {xs:List Hrd} (h:w.ownsRow base e 5 v xs.length (vY xs)):fHb w v xs:=by
 rcases h.2 with ⟨rfl,hn⟩|⟨g,cap,cur,rfl,hb,hg,hnc,hcm,hcs,htake⟩
 ·exact⟨none,0,by rw[hn],oM,by unfold maxLen;omega,fun i hi=>oM⟩
 refine⟨some ⟨g,0,none⟩,cap,rfl,hnc,hcm,fun i hi=>⟨g,0,rfl,?_⟩⟩;obtain⟨h0,h1,h2,h3,h4⟩:=fId xs i hi;simp only[Nat.zero_add,yA];exact⟨(h.cellAt _ oM).trans h0,(h.cellAt _ oM).trans h1,(h.cellAt _ oM).trans h2,(h.cellAt _ oM).trans h3,(h.cellAt _ oM).trans h4⟩
def fCx (k:Nat) (cs:List Value) (xs:List Hrd):Prop:=∀j,j<k*5→cs[j]? = (vY xs)[j]?
theorem fIh {n:Nat} {cs:List Value} {xs:List Hrd} (h:fCx n cs xs) (hl:cs.length=n*5) (hn:xs.length=n):cs=vY xs:=by
 apply List.ext_getElem?;intro j;by_cases hj:j<n*5
 ·exact h j hj
 rw[List.getElem?_eq_none oM,List.getElem?_eq_none (by rw[fI2];omega)]
theorem fLb {k:Nat} {cs:List Value} {xs:List Hrd} {x:Hrd} (h:fCx k cs xs) (hk:k<xs.length) (hl:cs.length=xs.length*5) (he:x=xs.getD k default) :
  fCx (k+1) (((((cs.set (k*5) (.int .i64 x.con)).set (k*5+1) (.int .i64 x.sh)).set (k*5+2) (.int .i64 x.bal)).set (k*5+3) (.int .i64 x.val)).set (k*5+4) (.int .i64 x.frm)) xs:=by
 intro j hj;obtain⟨h0,h1,h2,h3,h4⟩:=fId xs k hk;subst he;simp only[List.getElem?_set,List.length_set];by_cases e4:k*5+4=j
 ·subst e4;simp[h4];omega
 by_cases e3:k*5+3=j
 ·subst e3;simp[h3];omega
 by_cases e2:k*5+2=j
 ·subst e2;simp[h2];omega
 by_cases e1:k*5+1=j
 ·subst e1;simp[h1];omega
 by_cases e0:k*5=j
 ·subst e0;simp[h0];omega
 simp[e0,e1,e2,e3,e4];exact h j oM
theorem fJ7 (x:Value) (xs:List Hrd) (w:World) (hx:fHb w x xs) (hn:xs.length≤1048576) :
  Calls Tryz.prog 142 #[x] w fun e w'=>∃v,e =.returned v∧w'.ownsRow w.heap.size 209 5 v xs.length (vY xs)∧Below w.heap.size w w':=by
 obtain⟨ax,cx,rfl,hcx,hmx,hx⟩:=hx;unfold maxLen at hmx;obtain⟨i0,hi,hz0,hz1,hz2⟩:=info_parts fWm;obtain⟨w1,hmk,hown,hgr⟩:=run_make_full (P:=Tryz.prog) w w.heap.size 147 209 i0 _ 5 Tryz.underlying147 hi hz0 hz1 .i64 .i64 xs.length (by rw[hz2];omega) (by unfold maxLen;omega) (Nat.le_refl _);have hbl0:Below w.heap.size w w1:=(bR _ _).grown hgr (Nat.le_refl _) (fun k h=>by cases h);generalize hn':xs.length=n at *;have HN:Hid (xs.length=n):=hn';clear hn';go_enter Tryz.func142,Tryz.ntmps142;go_wp2;go_loopw [4] (fun i w'=>∃(k:Nat) (cs:List Value),k≤n∧i =.int .i64 k∧w'.ownsRow w.heap.size 209 5 (.slice (some ⟨w.heap.size,0,none⟩) n n) n cs∧fCx k cs xs∧Below w.heap.size w w') (fun i _=>n-(intOf i).toNat)
 case atStart=>exact⟨0,_,Nat.zero_le _,rfl,hown,fun j h=>oM,hbl0⟩
 obtain⟨k,cs,hk,rfl,ho,hup,hbl⟩:=hrel;have HU:Hid (fCx k cs xs):=hup;clear hup hown hmk hgr hbl0;by_cases hlt:k<n
 ·
  obtain⟨bx,ox,rfl,h1⟩:=hx k hlt;obtain⟨l,hl⟩:∃l,l=xs.getD k default:=⟨_,rfl⟩
  rw[←hl] at h1;have H1:Hid (l=xs.getD k default):=hl;clear hl hx;obtain⟨a0,a1,a2,a3,a4⟩:=rG hbl h1;go_wp2_with fail;refine(fMj l _).mono ?_;rintro e wa ⟨rfl,hba⟩;have ho1:=gT ho hba;obtain⟨u0,g0⟩:=fH ho1 (k*5) oM;obtain⟨u1,g1⟩:=fH ho1 (k*5+1) oM;obtain⟨u2,g2⟩:=fH ho1 (k*5+2) oM;obtain⟨u3,g3⟩:=fH ho1 (k*5+3) oM;obtain⟨u4,g4⟩:=fH ho1 (k*5+4) oM;have hf:=fun j=>ho1.frozenAt j
  simp only[hrdV];go_wp2;have s0:=ho1.stored (k*5) (.int .i64 l.con);have s1:=s0.1.stored (k*5+1) (.int .i64 l.sh);have s2:=s1.1.stored (k*5+2) (.int .i64 l.bal);have s3:=s2.1.stored (k*5+3) (.int .i64 l.val);have s4:=s3.1.stored (k*5+4) (.int .i64 l.frm);refine⟨⟨k+1,_,by omega,by go_num,s4.1,fLb HU.out (by have:=HN.out;omega) (by have:=HN.out;have:=ho.1;omega) H1.out,?_⟩,mI⟩;exact(((((bS hbl hba).setCell (Nat.le_refl _) _).setCell (Nat.le_refl _) _).setCell (Nat.le_refl _) _).setCell (Nat.le_refl _) _).setCell (Nat.le_refl _) _
 go_wp2;go_ret;have hkn:k=n:=oM;subst hkn;have e:=fIh HU.out ho.1 HN.out;subst e;exact⟨_,rfl,ho,hbl⟩
theorem fJz (x:Value) (xs:List Hrd) (left:Int) (w:World) (hx:fHb w x xs) (h0:0≤left) (h1:left≤1048576) :
  Calls Tryz.prog 117 #[x,.int .i64 left] w fun e w'=>e =.returned (.int .i64 (fU left xs.length))∧w'=w:=by
 obtain⟨ax,cx,rfl,hcx,hmx,hx⟩:=hx;unfold maxLen at hmx;generalize xs.length=n at *;clear hx;by_cases h:left<n
 ·have h':left-(n:Int)<0:=oM;go_enter Tryz.func117,Tryz.ntmps117;go_wp2;go_ret;exact⟨by simp only[fU,if_pos h];rfl,rfl⟩
 have h':¬left-(n:Int)<0:=oM;go_enter Tryz.func117,Tryz.ntmps117;go_wp2;go_ret;exact⟨by rw[fU,if_neg oM];rfl,rfl⟩
variable [dQ Hrd] [iH Hrd]
def hrdsR:Rep (List Hrd):=fRep 209 5 vY fHb fKm fFj
def fOa (xs:List Hrd):Nat:=xs.length
theorem fIi {w:World} {v:Value} {xs:List Hrd} (h:hrdsR.V w v xs):∃a c,v =.slice a xs.length c:=by
 obtain⟨a,c,rfl,_⟩:=h;exact⟨_,_,rfl⟩
theorem fQp (x:Value) (d:List Hrd) (w:World) (hx:hrdsR.V w x d) (hn:fOa d≤1048576) :
  Calls Tryz.prog 142 #[x] w fun e w'=>∃v F,e =.returned v∧hrdsR.O w' w.heap.size F v d∧Below w.heap.size w w':=by
 refine(fJ7 x d w hx hn).mono ?_;rintro e w' ⟨v,rfl,ho,hb⟩;exact⟨v,_,rfl,⟨ho,rfl⟩,hb⟩
theorem fO1 (x y:Value) (d d':List Hrd) (w:World) (hx:hrdsR.V w x d) (hy:hrdsR.V w y d') :
  RI 177 #[x,y] w (.bool (decide (d=d'))):=fH3 x y d d' w hx hy
theorem fQh (x:Value) (d:List Hrd) (left:Int) (w:World) (hx:hrdsR.V w x d) (h0:0≤left) (h1:left≤1048576) :
  RI 117 #[x,.int .i64 left] w (.int .i64 (fU left (fOa d))):=by
 refine(fJz x d left w hx h0 h1).mono ?_;rintro e w' ⟨rfl,rfl⟩;exact⟨rfl,bR _ _⟩
variable [dQ Leg] [iH Leg] [dQ Vot] [iH Vot] [dQ Trr] [iH Trr]
structure Ldr where
 count:Int
 tries:List Trr
 known:List Hrd
variable [dQ Ldr] [iH Ldr]
def ldrR:Rep Ldr where
 V:=fun w v x=>∃u1 u2,v =.agg #[.int .i64 x.count,u1,u2]∧trysR.V w u1 x.tries∧hrdsR.V w u2 x.known
 O:=fun w base F v x=>∃u1 u2 F1 F2,v =.agg #[.int .i64 x.count,u1,u2]∧trysR.O w base F1 u1 x.tries∧hrdsR.O w base F2 u2 x.known∧(∀b,F1 b→¬F2 b)∧(∀b,F b↔(F1 b∨F2 b))
 below:=fun h hb=>by
  obtain⟨u1,u2,rfl,h1,h2⟩:=h;exact⟨u1,u2,rfl,trysR.below h1 hb,hrdsR.below h2 hb⟩
 ofO:=fun h=>by
  obtain⟨u1,u2,F1,F2,rfl,h1,h2,_⟩:=h;exact⟨u1,u2,rfl,trysR.ofO h1,hrdsR.ofO h2⟩
 mod:=fun h hm hd=>by
  obtain⟨u1,u2,F1,F2,rfl,h1,h2,s12,hF⟩:=h;exact⟨u1,u2,F1,F2,rfl,trysR.mod h1 hm (fun b hb=>hd b ((hF b).2 (.inl hb))),hrdsR.mod h2 hm (fun b hb=>hd b ((hF b).2 (.inr hb))),s12,hF⟩
 rng:=fun h b hb=>by
  obtain⟨u1,u2,F1,F2,rfl,h1,h2,s12,hF⟩:=h;rcases(hF b).1 hb with hb|hb
  ·exact trysR.rng h1 b hb
  exact hrdsR.rng h2 b hb
 base:=fun h hb=>by
  obtain⟨u1,u2,F1,F2,rfl,h1,h2,s12,hF⟩:=h;exact⟨u1,u2,F1,F2,rfl,trysR.base h1 hb,hrdsR.base h2 hb,s12,hF⟩
def tT (x:Ldr):Nat:=xY x.tries+fOa x.known
def fXs (v:Value):List Value:=match v with | .agg a=>one (a.getD 0 (.int .i64 0))++one (a.getD 1 (.int .i64 0))++one (a.getD 2 (.int .i64 0))|_=>[]
theorem fQq (x:Value) (d:Ldr) (w:World) (hx:ldrR.V w x d) (hn:tT d≤1048576) :
  Calls Tryz.prog 74 #[x] w fun e w'=>∃v F,e =.returned v∧ldrR.O w' w.heap.size F v d∧Below w.heap.size w w':=by
 obtain⟨u1,u2,rfl,h1,h2⟩:=hx;unfold tT at hn;go_enter Tryz.func74,Tryz.ntmps74;go_wp2_with fail;refine(fVr _ d.tries _ (trysR.below h1 qBq) oM).mono ?_;rintro e w1 ⟨v1,F1,rfl,o1,b1⟩;obtain⟨a1,n1,rfl⟩:=fKd (trysR.ofO o1);obtain⟨c1,f1⟩:=bcell b1;have z1:=b1.size;simp at z1;have l1:=fun b hb=>trysR.rng o1 b hb
 simp at l1;replace o1:=trysR.base (base':=w.heap.size+3) o1 (by simp;try omega);have y0:w1.cell? ⟨w.heap.size,0,none⟩=some (.int .i64 d.count):=cK b1 sG;have y1:w1.cell? ⟨w.heap.size,1,none⟩=some (u1):=cK b1 sG;have y2:w1.cell? ⟨w.heap.size,2,none⟩=some (u2):=cK b1 sG;have r0:w1.cell? ⟨w.heap.size+1,0,none⟩=some (.int .i64 0):=cK b1 sG;have r1:w1.cell? ⟨w.heap.size+1,1,none⟩=some (.slice none 0 0):=cK b1 sG;have r2:w1.cell? ⟨w.heap.size+1,2,none⟩=some (.slice none 0 0):=cK b1 sG;have s0:w1.cell? ⟨w.heap.size+2,0,none⟩=some (.int .i64 d.count):=cK b1 sG;have s1:w1.cell? ⟨w.heap.size+2,1,none⟩=some (.slice none 0 0):=cK b1 sG;have s2:w1.cell? ⟨w.heap.size+2,2,none⟩=some (.slice none 0 0):=cK b1 sG;have t1:∀o,w1.frozen? ⟨w.heap.size+1,o,none⟩=false:=fun o=>by rw[f1 _ _ (by simp;try omega)];simp[go_sem]
 have t2:∀o,w1.frozen? ⟨w.heap.size+2,o,none⟩=false:=fun o=>by rw[f1 _ _ (by simp;try omega)];simp[go_sem]
 clear c1 f1;have x0:=y0;have x1:=y1;have x2:=y2;have q0:=r0;have q1:=r1;have q2:=r2;have p0:=s0;have p1:=s1;have p2:=s2;have qf:=t1;have pf:=t2;clear t1 t2 y0 y1 y2 r0 r1 r2 s0 s1 s2;go_wp2_with fail;refine(fQp _ d.known _ (hrdsR.below h2 qBq) oM).mono ?_;rintro e w2 ⟨v2,F2,rfl,o2,b2⟩;obtain⟨a2,n2,rfl⟩:=fIi (hrdsR.ofO o2);obtain⟨c2,f2⟩:=bcell b2;have z2:=b2.size;simp at z2;have l2:=fun b hb=>hrdsR.rng o2 b hb
 simp at l2;replace o2:=hrdsR.base (base':=w.heap.size+3) o2 (by simp;try omega);have y0:w2.cell? ⟨w.heap.size,0,none⟩=some (.int .i64 d.count):=cK b2 (by simp[go_sem,x0,x1,x2,q0,q1,q2,p0,p1,p2]);have y1:w2.cell? ⟨w.heap.size,1,none⟩=some (u1):=cK b2 (by simp[go_sem,x0,x1,x2,q0,q1,q2,p0,p1,p2]);have y2:w2.cell? ⟨w.heap.size,2,none⟩=some (u2):=cK b2 (by simp[go_sem,x0,x1,x2,q0,q1,q2,p0,p1,p2]);have r0:w2.cell? ⟨w.heap.size+1,0,none⟩=some (.int .i64 0):=cK b2 (by simp[go_sem,x0,x1,x2,q0,q1,q2,p0,p1,p2]);have r1:w2.cell? ⟨w.heap.size+1,1,none⟩=some (.slice none 0 0):=cK b2 (by simp[go_sem,x0,x1,x2,q0,q1,q2,p0,p1,p2]);have r2:w2.cell? ⟨w.heap.size+1,2,none⟩=some (.slice none 0 0):=cK b2 (by simp[go_sem,x0,x1,x2,q0,q1,q2,p0,p1,p2]);have s0:w2.cell? ⟨w.heap.size+2,0,none⟩=some (.int .i64 d.count):=cK b2 (by simp[go_sem,x0,x1,x2,q0,q1,q2,p0,p1,p2]);have s1:w2.cell? ⟨w.heap.size+2,1,none⟩=some (.slice a1 d.tries.length n1):=cK b2 (by simp[go_sem,x0,x1,x2,q0,q1,q2,p0,p1,p2]);have s2:w2.cell? ⟨w.heap.size+2,2,none⟩=some (.slice none 0 0):=cK b2 (by simp[go_sem,x0,x1,x2,q0,q1,q2,p0,p1,p2]);have t1:∀o,w2.frozen? ⟨w.heap.size+1,o,none⟩=false:=fun o=>by rw[f2 _ _ (by simp;try omega)];simp[go_sem,qf]
 have t2:∀o,w2.frozen? ⟨w.heap.size+2,o,none⟩=false:=fun o=>by rw[f2 _ _ (by simp;try omega)];simp[go_sem,pf]
 clear x0 x1 x2 q0 q1 q2 p0 p1 p2 qf pf;clear c2 f2;have x0:=y0;have x1:=y1;have x2:=y2;have q0:=r0;have q1:=r1;have q2:=r2;have p0:=s0;have p1:=s1;have p2:=s2;have qf:=t1;have pf:=t2;clear t1 t2 y0 y1 y2 r0 r1 r2 s0 s1 s2;go_wp2;refine bodyPost_ret (v:=.agg #[.int .i64 d.count,.slice a1 d.tries.length n1,.slice a2 d.known.length n2]) ?_ rfl ⟨_,fun b=>F1 b∨F2 b,rfl,⟨_,_,F1,F2,rfl,trysR.base (base:=w.heap.size+3) (by(repeat (first|assumption|refine Rep.set _ ?_ _ (by simp;omega)|refine Rep.set _ ?_ _ (by simp)|refine Rep.alloc _ ?_ _|refine Rep.keep _ ?_ (by assumption)))) oM,hrdsR.base (base:=w.heap.size+3) (by(repeat (first|assumption|refine Rep.set _ ?_ _ (by simp;omega)|refine Rep.set _ ?_ _ (by simp)|refine Rep.alloc _ ?_ _|refine Rep.keep _ ?_ (by assumption)))) oM,fun b p q=>by have:=(l1 b p).2;have:=(l2 b q).1;omega,fun b=>Iff.rfl⟩,qBq⟩;simp[results,Tryz.results74,go_sem,q0,q1,q2,p0,p1,p2,qf,pf]
theorem fQi (x:Value) (d:Ldr) (left:Int) (w:World) (hx:ldrR.V w x d) (h0:0≤left) (h1:left≤1048576) :
  RI 60 #[x,.int .i64 left] w (.int .i64 (fU left (tT d))):=by
 obtain⟨u1,u2,rfl,k1,k2⟩:=hx;go_enter Tryz.func60,Tryz.ntmps60;go_wp2_with fail;refine(fVn _ d.tries left _ (trysR.below k1 qBq) h0 h1).mono ?_;rintro e w1 ⟨rfl,b1⟩;have x0:w1.cell? ⟨w.heap.size,0,none⟩=some (.int .i64 d.count):=cK b1 sG;have x1:w1.cell? ⟨w.heap.size,1,none⟩=some (u1):=cK b1 sG;have x2:w1.cell? ⟨w.heap.size,2,none⟩=some (u2):=cK b1 sG;go_wp2_with fail
 ·rename_i h;go_ret;refine⟨?_,qBq⟩;rw[kS (n:=xY d.tries) oM (tT d) (by unfold tT;omega)];rfl
 rename_i h;refine(fQh _ d.known (fU left (xY d.tries:Nat)) _ (hrdsR.below k2 qBq) oM (by have:=rO (n:=xY d.tries) h0;omega)).mono ?_;rintro e w2 ⟨rfl,b2⟩;rw[pY (n:=xY d.tries) oM];go_wp2
 ·rename_i h;go_ret;refine⟨?_,qBq⟩;rw[kS (n:=xY d.tries+fOa d.known) (by first|omega|(rw[Int.natCast_add];omega)) (tT d) (by unfold tT;omega)];rfl
 rename_i h;go_ret;exact⟨rfl,qBq⟩
theorem fO2 (x y:Value) (d d':Ldr) (w:World) (hx:ldrR.V w x d) (hy:ldrR.V w y d') :
  RI 95 #[x,y] w (.bool (decide (d=d'))):=by
 obtain⟨u1,u2,rfl,h1,h2⟩:=hx;obtain⟨v1,v2,rfl,k1,k2⟩:=hy;obtain⟨count,tries,known⟩:=d;obtain⟨count',tries',known'⟩:=d';dsimp only at h1 k1 h2 k2;go_enter Tryz.func95,Tryz.ntmps95;go_wp2_with fail;all_goals try (go_ret;exact⟨by simp_all,qBq⟩)
 refine(fT0 _ _ tries tries' _ (trysR.below h1 qBq) (trysR.below k1 qBq)).mono ?_;rintro e w1 ⟨rfl,b1⟩;have x0:w1.cell? ⟨w.heap.size,0,none⟩=some (.int .i64 count):=cK b1 sG;have x1:w1.cell? ⟨w.heap.size,1,none⟩=some (u1):=cK b1 sG;have x2:w1.cell? ⟨w.heap.size,2,none⟩=some (u2):=cK b1 sG;have y0:w1.cell? ⟨w.heap.size+1,0,none⟩=some (.int .i64 count'):=cK b1 sG;have y1:w1.cell? ⟨w.heap.size+1,1,none⟩=some (v1):=cK b1 sG;have y2:w1.cell? ⟨w.heap.size+1,2,none⟩=some (v2):=cK b1 sG;go_wp2_with fail;all_goals try (go_ret;exact⟨by simp_all,qBq⟩)
 refine(fO1 _ _ known known' _ (hrdsR.below h2 qBq) (hrdsR.below k2 qBq)).mono ?_;rintro e w2 ⟨rfl,b2⟩;go_wp2;all_goals
  go_ret;exact⟨by simp_all,qBq⟩
variable [dQ Ldr] [iH Ldr]
def ldrsR:Rep (List Ldr):=nRep ldrR 149 3 fXs
def xX (xs:List Ldr):Nat:=wtL tT xs
theorem xJ {w:World} {v:Value} {xs:List Ldr} (h:ldrsR.V w v xs):∃a c,v =.slice a xs.length c:=by
 obtain⟨a,c,rfl,_⟩:=h;exact⟨_,_,rfl⟩
theorem fT9:(Tryz.prog.info? 149).map (fun i=>(i.zero,i.size,i.bytes))=some (some (.agg #[.int .i64 0,.slice none 0 0,.slice none 0 0]),3,56):=kF
theorem fUd {w w':World} {a0 a1 a2 a3 a4 a5:Addr} {x0 x1 x2 x3 x4 x5:Value} (hb:Below w.heap.size w w') (g0:w.cell? a0=some x0) (g1:w.cell? a1=some x1) (g2:w.cell? a2=some x2) (g3:w.cell? a3=some x3) (g4:w.cell? a4=some x4) (g5:w.cell? a5=some x5):Below w.heap.size w w'∧w'.cell? a0=some x0∧w'.cell? a1=some x1∧w'.cell? a2=some x2∧w'.cell? a3=some x3∧w'.cell? a4=some x4∧w'.cell? a5=some x5:=
 ⟨hb,cK hb g0,cK hb g1,cK hb g2,cK hb g3,cK hb g4,cK hb g5⟩
theorem fK2 (x y:Value) (xs ys:List Ldr) (w:World) (hx:ldrsR.V w x xs) (hy:ldrsR.V w y ys) :
  RI 39 #[x,y] w (.bool (decide (xs=ys))):=by
 obtain⟨ax,cx,rfl,hcx,hmx,hx⟩:=hx;obtain⟨ay,cy,rfl,hcy,hmy,hy⟩:=hy;unfold maxLen at hmx hmy;by_cases hl:ys.length=xs.length
 ·
  rw[hl] at hcy hy ⊢;have HL:Hid (ys.length=xs.length):=hl;clear hl;generalize hn:xs.length=n at *;have HN:Hid (xs.length=n):=hn;clear hn;go_enter Tryz.func39,Tryz.ntmps39;go_wp2;go_loopw [5] (fun i w'=>∃k:Nat,k≤n∧i =.int .i64 k∧(∀j,j<k→xs.getD j default=ys.getD j default)∧Below w.heap.size w w') (fun i _=>n-(intOf i).toNat)
  case atStart=>exact⟨0,oM,rfl,fun j h=>absurd h oM,bR _ _⟩
  obtain⟨k,hk,rfl,hpre,hbl⟩:=hrel;have HP:Hid (∀j,j<k→xs.getD j default=ys.getD j default):=hpre;clear hpre;by_cases hlt:k<n
  ·
   obtain⟨bx,ox,ux,rfl,_,p1,hvx⟩:=hx k hlt;obtain⟨b2,oy,uy,rfl,_,p2,hvy⟩:=hy k hlt;obtain⟨l1,hl1⟩:∃l,l=xs.getD k default:=⟨_,rfl⟩
   obtain⟨l2,hl2⟩:∃l,l=ys.getD k default:=⟨_,rfl⟩
   rw[←hl1] at hvx;rw[←hl2] at hvy;have H1:Hid (l1=xs.getD k default):=hl1;have H2:Hid (l2=ys.getD k default):=hl2;have hvx':=hvx;obtain⟨ux1,ux2,rfl,_,_⟩:=hvx';have hvy':=hvy;obtain⟨uy1,uy2,rfl,_,_⟩:=hvy';have g0:w.cell? ⟨bx,ox+k*3,none⟩=some (.int .i64 l1.count):=p1 0 oM;have g1:w.cell? ⟨bx,ox+k*3+1,none⟩=some (ux1):=p1 1 oM;have g2:w.cell? ⟨bx,ox+k*3+2,none⟩=some (ux2):=p1 2 oM;have g3:w.cell? ⟨b2,oy+k*3,none⟩=some (.int .i64 l2.count):=p2 0 oM;have g4:w.cell? ⟨b2,oy+k*3+1,none⟩=some (uy1):=p2 1 oM;have g5:w.cell? ⟨b2,oy+k*3+2,none⟩=some (uy2):=p2 2 oM;clear hl1 hl2 hx hy p1 p2;go_wp2;go_region_held3 (fun w'=>Below w.heap.size w w'∧w'.cell? ⟨bx,ox+k*3,none⟩=some (.int .i64 l1.count)∧w'.cell? ⟨bx,ox+k*3+1,none⟩=some (ux1)∧w'.cell? ⟨bx,ox+k*3+2,none⟩=some (ux2)∧w'.cell? ⟨b2,oy+k*3,none⟩=some (.int .i64 l2.count)∧w'.cell? ⟨b2,oy+k*3+1,none⟩=some (uy1)∧w'.cell? ⟨b2,oy+k*3+2,none⟩=some (uy2)) ((refine fUd ?_ g0 g1 g2 g3 g4 g5;(repeat (first|exact bR _ _|assumption|refine bD ?_|refine bA ?_ _|refine bS ?_ (by assumption))))) (first|(go_at_call 95;refine(fO2 (.agg #[.int .i64 l1.count,ux1,ux2]) (.agg #[.int .i64 l2.count,uy1,uy2]) l1 l2 _ (ldrR.below hvx qT) (ldrR.below hvy qT)).mono ?_;rintro e w' ⟨rfl,hb1⟩));rename_i hH;have hB:=hH.1;clear hH;go_wp2
   ·
    rename_i hle;go_ret;refine⟨?_,hB⟩;have:¬xs=ys:=fun h=>by
     have:l1=l2:=by rw[H1.out,H2.out,h]
     simp[this] at hle
    simp[this]
   rename_i hle;refine⟨⟨k+1,by omega,by go_num,fun j hj=>?_,hB⟩,mI⟩;by_cases hjk:j<k
   ·exact HP.out j hjk
   have:j=k:=oM;subst this;rw[←H1.out,←H2.out];simpa using hle
  go_wp2;go_ret;have:k=n:=oM;subst this;refine⟨?_,hbl⟩;have:xs=ys:=uA (by rw[HL.out,HN.out]) (by rw[HN.out];exact HP.out);simp[this]
 go_enter Tryz.func39,Tryz.ntmps39;have hl':((xs.length:Int)==(ys.length:Int))=false:=by simp;omega
 go_wp2;go_ret;have:¬xs=ys:=fun h=>hl (by rw[h])
 exact⟨by simp[this],bR _ _⟩
theorem fMk (x:Value) (xs:List Ldr) (w:World) (hx:ldrsR.V w x xs) (hn:xX xs≤1048576) :
  Calls Tryz.prog 30 #[x] w fun e w'=>∃v F,e =.returned v∧ldrsR.O w' w.heap.size F v xs∧Below w.heap.size w w':=by
 obtain⟨ax,cx,rfl,hcx,hmx,hx⟩:=hx;unfold maxLen at hmx;unfold xX at hn;have hlen:xs.length≤1048576:=by unfold wtL at hn;omega
 have hW:∀k,k<xs.length→tT (xs.getD k default)≤1048576:=fun k hk=>(fEn hn hk).1
 obtain⟨i0,hi,hz0,hz1,hz2⟩:=info_parts fT9;obtain⟨w1,hmk,hown,hgr⟩:=run_make_full (P:=Tryz.prog) w w.heap.size 34 149 i0 _ 3 Tryz.underlying34 hi hz0 hz1 .i64 .i64 xs.length (by rw[hz2];omega) (by unfold maxLen;omega) (Nat.le_refl _);have hbl0:Below w.heap.size w w1:=(bR _ _).grown hgr (Nat.le_refl _) (fun k h=>by cases h);clear hn;generalize hn':xs.length=n at *;have HN:Hid (xs.length=n):=hn';clear hn';go_enter Tryz.func30,Tryz.ntmps30;go_wp2;go_loopw [4] (fun i w'=>∃(k:Nat) (cs:List Value) (us:Nat→Value) (fs:Nat→Nat→Prop),k≤n∧i =.int .i64 k∧PO ldrR 149 3 fXs w' w.heap.size (.slice (some ⟨w.heap.size,0,none⟩) n n) n k (fun i=>xs.getD i default) cs us fs∧Below w.heap.size w w') (fun i _=>n-(intOf i).toNat)
 case atStart=>exact⟨0,_,fun _=>.int .i64 0,fun _ _=>False,Nat.zero_le _,rfl,⟨hown,fun i h=>oM,fun i h=>oM,fun i h=>oM,fun i h=>oM,fun i j h=>oM⟩,hbl0⟩
 obtain⟨k,cs,us,fs,hk,rfl,hp,hbl⟩:=hrel;clear hown hmk hgr hbl0;by_cases hlt:k<n
 ·
  obtain⟨bx,ox,ux,rfl,_,p1,hvx⟩:=hx k hlt;have hw:=hW k hlt;obtain⟨l,hl⟩:∃l,l=xs.getD k default:=⟨_,rfl⟩
  rw[←hl] at hvx hw;have HL:Hid (l=xs.getD k default):=hl;have hvx':=hvx;obtain⟨ux1,ux2,rfl,_,_⟩:=hvx';have g0:w.cell? ⟨bx,ox+k*3,none⟩=some (.int .i64 l.count):=p1 0 oM;replace g0:=cK hbl g0;have g1:w.cell? ⟨bx,ox+k*3+1,none⟩=some (ux1):=p1 1 oM;replace g1:=cK hbl g1;have g2:w.cell? ⟨bx,ox+k*3+2,none⟩=some (ux2):=p1 2 oM;replace g2:=cK hbl g2;clear hx p1 hW hl;go_wp2_with fail;refine(fQq (.agg #[.int .i64 l.count,ux1,ux2]) l _ (ldrR.below hvx qT) hw).mono ?_;rintro e wa ⟨v1,F1,rfl,o1,b1⟩;have ofm1:=ldrR.ofO o1;obtain⟨x1_1,x1_2,rfl,y1_1,y1_2⟩:=ofm1;obtain⟨a1_1,n1_1,rfl⟩:=fKd y1_1;obtain⟨a1_2,n1_2,rfl⟩:=fIi y1_2;have ho1:=(hp.keep b1).row;obtain⟨y0,q0⟩:=fH ho1 (k*3) oM;obtain⟨y1,q1⟩:=fH ho1 (k*3+1) oM;obtain⟨y2,q2⟩:=fH ho1 (k*3+2) oM;have hf:=fun j=>ho1.frozenAt j
  go_wp2;have s0:=ho1.stored (k*3) (.int .i64 l.count);have s1:=s0.1.stored (k*3+1) (.slice a1_1 l.tries.length n1_1);have s2:=s1.1.stored (k*3+2) (.slice a1_2 l.known.length n1_2);have hrow:World.ownsRow _ w.heap.size 149 3 (.slice (some ⟨w.heap.size,0,none⟩) n n) n (setRow cs (k*3) [.int .i64 l.count,.slice a1_1 l.tries.length n1_1,.slice a1_2 l.known.length n1_2]):=s2.1;have hcl:=hp.row.1;refine⟨⟨k+1,_,_,_,by omega,by go_num,hp.push (u:=(.agg #[.int .i64 l.count,.slice a1_1 l.tries.length n1_1,.slice a1_2 l.known.length n1_2])) (F:=F1) hbl.size b1 (by rw[←HL.out];exact o1) rfl hrow (((Mod.of_grown s0.2).trans (Mod.of_grown s1.2)).trans (Mod.of_grown s2.2)) ?_ ?_,?_⟩,mI⟩
  ·intro i hi j hj;exact qJ _ _ _ _ (.inl oM)
  ·intro j hj;exact rD _ _ _ _ (by simp only[List.length_cons,List.length_nil];omega) hj
  exact((((bS hbl b1).setCell (Nat.le_refl _) _).setCell (Nat.le_refl _) _).setCell (Nat.le_refl _) _)
 go_wp2;go_ret;have hkn:k=n:=oM;subst hkn;have e:=HN.out;subst e;exact⟨_,_,rfl,⟨cs,us,fs,hp,fun b=>Iff.rfl⟩,hbl⟩
theorem fMf (x:Value) (xs:List Ldr) (left:Int) (w:World) (hx:ldrsR.V w x xs) (h0:0≤left) (h1:left≤1048576) :
  RI 18 #[x,.int .i64 left] w (.int .i64 (fU left (xX xs))):=by
 obtain⟨ax,cx,rfl,hcx,hmx,hx⟩:=hx;unfold maxLen at hmx;unfold xX wtL;have HT:Hid (∀k,k<xs.length→gH tT (k+1) xs=gH tT k xs+tT (xs.getD k default)∧gH tT (k+1) xs≤gH tT xs.length xs):=
  fun k hk=>⟨qH _ k xs hk,uK _ _ _ _ hk⟩
 generalize xs.length=n at *;by_cases h:left<n
 ·have h':left-(n:Int)<0:=oM;clear hx;go_enter Tryz.func18,Tryz.ntmps18;go_wp2;go_ret;exact⟨by simp only[fU];rw[if_pos oM];rfl,bR _ _⟩
 have h':¬left-(n:Int)<0:=oM;go_enter Tryz.func18,Tryz.ntmps18;go_wp2;go_loopw [1,5] (fun l i w'=>∃k:Nat,k≤n∧i =.int .i64 k∧l =.int .i64 (left-n-gH tT k xs)∧0≤left-n-gH tT k xs∧Below w.heap.size w w') (fun _ i _=>n-(intOf i).toNat)
 case atStart=>exact⟨0,oM,rfl,by simp[gH],by simp[gH];omega,bR _ _⟩
 obtain⟨k,hk,rfl,rfl,hpos,hbl⟩:=hrel;by_cases hlt:k<n
 ·
  obtain⟨bx,ox,ux,rfl,_,p1,hvx⟩:=hx k hlt;obtain⟨t2,t3⟩:=HT.out k hlt;generalize xs.getD k default=l at *;have hvx':=hvx;obtain⟨ux1,ux2,rfl,_,_⟩:=hvx';have g0:w.cell? ⟨bx,ox+k*3,none⟩=some (.int .i64 l.count):=p1 0 oM;replace g0:=cK hbl g0;have g1:w.cell? ⟨bx,ox+k*3+1,none⟩=some (ux1):=p1 1 oM;replace g1:=cK hbl g1;have g2:w.cell? ⟨bx,ox+k*3+2,none⟩=some (ux2):=p1 2 oM;replace g2:=cK hbl g2;generalize hm:tT l=m at *;have HM:Hid (tT l=m):=hm;clear hx p1 hm;generalize gH tT k xs=c at *;go_wp2_with fail;refine(fQi (.agg #[.int .i64 l.count,ux1,ux2]) l (left-n-c) _ (ldrR.below hvx qT) hpos oM).mono ?_;rintro e wa ⟨rfl,b1⟩;rw[HM.out];go_wp2
  ·
   rename_i hneg;go_ret;refine⟨?_,qT⟩;have:fU left ↑(n+gH tT n xs) = -1:=by
    unfold fU at hneg ⊢;rw[if_pos (by split at hneg <;> omega)]
   rw[this];rfl
  rename_i hneg;refine⟨⟨k+1,by omega,by go_num,?_,?_,qT⟩,mI⟩
  ·
   congr 1
   unfold fU at hneg ⊢;split at hneg <;> omega
  unfold fU at hneg;split at hneg <;> omega
 go_wp2;go_ret;have hkn:k=n:=oM;subst hkn;refine⟨?_,hbl⟩;have:fU left ↑(k+gH tT k xs)=left-k-gH tT k xs:=by
  unfold fU;rw[if_neg oM];omega
 rw[this];rfl
end
section
variable [dQ Vot] [iH Vot]
structure Msg where
 kind:Int
 to:Int
 frm:Int
 con:Int
 sh:Int
 bal:Int
 val:Int
 ob:Int
 ov:Int
variable [dQ Msg] [iH Msg]
def msgV (x:Msg):Value:=.agg #[.int .i64 x.kind,.int .i64 x.to,.int .i64 x.frm,.int .i64 x.con,.int .i64 x.sh,.int .i64 x.bal,.int .i64 x.val,.int .i64 x.ob,.int .i64 x.ov]
theorem fG4 (x:Msg) (w:World) :
  RI 75 #[msgV x] w (msgV x):=by
 unfold msgV;go_enter Tryz.func75,Tryz.ntmps75;go_wp2_with fail;refine(fBe ⟨x.ob,x.ov⟩ _).mono ?_;rintro e w0 ⟨rfl,b0⟩;have hB0:=bT w b0;obtain⟨c0,f0⟩:=bcell b0;have z0:=b0.size;simp at z0;have x0:w0.cell? ⟨w.heap.size,0,none⟩=some (.int .i64 x.kind):=cK b0 sG;have x1:w0.cell? ⟨w.heap.size,1,none⟩=some (.int .i64 x.to):=cK b0 sG;have x2:w0.cell? ⟨w.heap.size,2,none⟩=some (.int .i64 x.frm):=cK b0 sG;have x3:w0.cell? ⟨w.heap.size,3,none⟩=some (.int .i64 x.con):=cK b0 sG;have x4:w0.cell? ⟨w.heap.size,4,none⟩=some (.int .i64 x.sh):=cK b0 sG;have x5:w0.cell? ⟨w.heap.size,5,none⟩=some (.int .i64 x.bal):=cK b0 sG;have x6:w0.cell? ⟨w.heap.size,6,none⟩=some (.int .i64 x.val):=cK b0 sG;have x7:w0.cell? ⟨w.heap.size,7,none⟩=some (.int .i64 x.ob):=cK b0 sG;have x8:w0.cell? ⟨w.heap.size,8,none⟩=some (.int .i64 x.ov):=cK b0 sG;have q0:w0.cell? ⟨w.heap.size+1,0,none⟩=some (.int .i64 0):=cK b0 sG;have q1:w0.cell? ⟨w.heap.size+1,1,none⟩=some (.int .i64 0):=cK b0 sG;have q2:w0.cell? ⟨w.heap.size+1,2,none⟩=some (.int .i64 0):=cK b0 sG;have q3:w0.cell? ⟨w.heap.size+1,3,none⟩=some (.int .i64 0):=cK b0 sG;have q4:w0.cell? ⟨w.heap.size+1,4,none⟩=some (.int .i64 0):=cK b0 sG;have q5:w0.cell? ⟨w.heap.size+1,5,none⟩=some (.int .i64 0):=cK b0 sG;have q6:w0.cell? ⟨w.heap.size+1,6,none⟩=some (.int .i64 0):=cK b0 sG;have q7:w0.cell? ⟨w.heap.size+1,7,none⟩=some (.int .i64 0):=cK b0 sG;have q8:w0.cell? ⟨w.heap.size+1,8,none⟩=some (.int .i64 0):=cK b0 sG;have p0:w0.cell? ⟨w.heap.size+2,0,none⟩=some (.int .i64 x.kind):=cK b0 sG
 have p1:w0.cell? ⟨w.heap.size+2,1,none⟩=some (.int .i64 x.to):=cK b0 sG;have p2:w0.cell? ⟨w.heap.size+2,2,none⟩=some (.int .i64 x.frm):=cK b0 sG;have p3:w0.cell? ⟨w.heap.size+2,3,none⟩=some (.int .i64 x.con):=cK b0 sG;have p4:w0.cell? ⟨w.heap.size+2,4,none⟩=some (.int .i64 x.sh):=cK b0 sG;have p5:w0.cell? ⟨w.heap.size+2,5,none⟩=some (.int .i64 x.bal):=cK b0 sG;have p6:w0.cell? ⟨w.heap.size+2,6,none⟩=some (.int .i64 x.val):=cK b0 sG;have p7:w0.cell? ⟨w.heap.size+2,7,none⟩=some (.int .i64 0):=cK b0 sG;have p8:w0.cell? ⟨w.heap.size+2,8,none⟩=some (.int .i64 0):=cK b0 sG;have qf:∀o,w0.frozen? ⟨w.heap.size+1,o,none⟩=false:=fun o=>by rw[f0 _ _ (by simp;try omega)];simp[go_sem]
 have pf:∀o,w0.frozen? ⟨w.heap.size+2,o,none⟩=false:=fun o=>by rw[f0 _ _ (by simp;try omega)];simp[go_sem]
 clear c0 f0 b0;simp only[votV];go_wp2;exact bodyPost_ret (v:=.agg #[.int .i64 x.kind,.int .i64 x.to,.int .i64 x.frm,.int .i64 x.con,.int .i64 x.sh,.int .i64 x.bal,.int .i64 x.val,.int .i64 x.ob,.int .i64 x.ov]) (by simp[results,Tryz.results75,go_sem,q0,q1,q2,q3,q4,q5,q6,q7,q8,p0,p1,p2,p3,p4,p5,p6,p7,p8,qf,pf]) rfl ⟨rfl,qS⟩
theorem fFu (x y:Msg) (w:World) :
  RI 96 #[msgV x,msgV y] w (.bool (decide (x=y))):=by
 obtain⟨a,b,c,d,e,f,g,h,i⟩:=x;obtain⟨a',b',c',d',e',f',g',h',i'⟩:=y;unfold msgV;go_enter Tryz.func96,Tryz.ntmps96;go_wp2_with fail;all_goals try (go_ret;exact⟨by first|(simp_all;done)|(simp_all;intros;exfalso;omega),qBq⟩)
 refine(fAz ⟨h,i⟩ ⟨h',i'⟩ _).mono ?_;rintro e w0 ⟨rfl,b0⟩;by_cases he:(⟨h,i⟩:Vot)=⟨h',i'⟩
 ·
  have he':=he;simp only[Vot.mk.injEq] at he';obtain⟨rfl,rfl⟩:=he';go_wp2;all_goals
   go_ret;exact⟨by simp_all,qBq⟩
 have hne:¬(⟨a,b,c,d,e,f,g,h,i⟩:Msg)=⟨a',b',c',d',e',f',g',h',i'⟩:=fun h=>he (by simp only[Msg.mk.injEq] at h;simp only[Vot.mk.injEq];exact⟨h.2.2.2.2.2.2.2.1,h.2.2.2.2.2.2.2.2⟩)
 simp only[he,decide_false];go_wp2;all_goals
  go_ret;exact⟨by rw[decide_eq_false hne];rfl,qBq⟩
def yC (w:World) (b o:Nat) (x:Msg):Prop:=w.cell? ⟨b,o,none⟩=some (.int .i64 x.kind)∧w.cell? ⟨b,o+1,none⟩=some (.int .i64 x.to)∧w.cell? ⟨b,o+2,none⟩=some (.int .i64 x.frm)∧w.cell? ⟨b,o+3,none⟩=some (.int .i64 x.con)∧w.cell? ⟨b,o+4,none⟩=some (.int .i64 x.sh)∧w.cell? ⟨b,o+5,none⟩=some (.int .i64 x.bal)∧w.cell? ⟨b,o+6,none⟩=some (.int .i64 x.val)∧w.cell? ⟨b,o+7,none⟩=some (.int .i64 x.ob)∧w.cell? ⟨b,o+8,none⟩=some (.int .i64 x.ov)
def fHe (w:World) (v:Value) (xs:List Msg):Prop:=
 ∃a cap,v =.slice a xs.length cap∧xs.length≤cap∧cap≤maxLen∧∀i,i<xs.length→∃b o,a=some ⟨b,o,none⟩∧yC w b (o+i*9) (xs.getD i default)
theorem rM {w w':World} {b o:Nat} {x:Msg} (hb:Below w.heap.size w w') (h:yC w b o x):yC w' b o x:=by
 obtain⟨h0,h1,h2,h3,h4,h5,h6,h7,h8⟩:=h;exact⟨cK hb h0,cK hb h1,cK hb h2,cK hb h3,cK hb h4,cK hb h5,cK hb h6,cK hb h7,cK hb h8⟩
theorem fKo {w w':World} {v:Value} {xs:List Msg} (h:fHe w v xs) (hb:Below w.heap.size w w'):fHe w' v xs:=by
 obtain⟨a,cap,rfl,h1,h2,h3⟩:=h;exact⟨a,cap,rfl,h1,h2,fun i hi=>by
  obtain⟨b,o,ha,hc⟩:=h3 i hi;exact⟨b,o,ha,rM hb hc⟩⟩
theorem fUt {w w':World} {b o b' o':Nat} {x y:Msg} (hb:Below w.heap.size w w') (h:yC w b o x) (h':yC w b' o' y) :
  Below w.heap.size w w'∧(w'.cell? ⟨b,o,none⟩=some (.int .i64 x.kind)∧w'.cell? ⟨b,o+1,none⟩=some (.int .i64 x.to)∧w'.cell? ⟨b,o+2,none⟩=some (.int .i64 x.frm)∧w'.cell? ⟨b,o+3,none⟩=some (.int .i64 x.con)∧w'.cell? ⟨b,o+4,none⟩=some (.int .i64 x.sh)∧w'.cell? ⟨b,o+5,none⟩=some (.int .i64 x.bal)∧w'.cell? ⟨b,o+6,none⟩=some (.int .i64 x.val)∧w'.cell? ⟨b,o+7,none⟩=some (.int .i64 x.ob)∧w'.cell? ⟨b,o+8,none⟩=some (.int .i64 x.ov))∧(w'.cell? ⟨b',o',none⟩=some (.int .i64 y.kind)∧w'.cell? ⟨b',o'+1,none⟩=some (.int .i64 y.to)∧w'.cell? ⟨b',o'+2,none⟩=some (.int .i64 y.frm)∧w'.cell? ⟨b',o'+3,none⟩=some (.int .i64 y.con)∧w'.cell? ⟨b',o'+4,none⟩=some (.int .i64 y.sh)∧w'.cell? ⟨b',o'+5,none⟩=some (.int .i64 y.bal)∧w'.cell? ⟨b',o'+6,none⟩=some (.int .i64 y.val)∧w'.cell? ⟨b',o'+7,none⟩=some (.int .i64 y.ob)∧w'.cell? ⟨b',o'+8,none⟩=some (.int .i64 y.ov)):=
 ⟨hb,rM hb h,rM hb h'⟩
theorem fP5 {xs ys:List Msg} (hl:ys.length=xs.length) (h:∀j,j<xs.length→xs.getD j default=ys.getD j default):xs=ys:=by
 apply List.ext_getElem oM;intro i h1 h2;have:=h i h1;simpa [List.getD,h1,h2] using this
theorem fD2 (x y:Value) (xs ys:List Msg) (w:World) (hx:fHe w x xs) (hy:fHe w y ys) :
  RI 40 #[x,y] w (.bool (decide (xs=ys))):=by
 obtain⟨ax,cx,rfl,hcx,hmx,hx⟩:=hx;obtain⟨ay,cy,rfl,hcy,hmy,hy⟩:=hy;unfold maxLen at hmx hmy;by_cases hl:ys.length=xs.length
 ·
  rw[hl] at hcy hy ⊢;have HL:Hid (ys.length=xs.length):=hl;clear hl;generalize hn:xs.length=n at *;have HN:Hid (xs.length=n):=hn;clear hn;go_enter Tryz.func40,Tryz.ntmps40;go_wp2;go_loopw [5] (fun i w'=>∃k:Nat,k≤n∧i =.int .i64 k∧(∀j,j<k→xs.getD j default=ys.getD j default)∧Below w.heap.size w w') (fun i _=>n-(intOf i).toNat)
  case atStart=>exact⟨0,oM,rfl,fun j h=>absurd h oM,bR _ _⟩
  obtain⟨k,hk,rfl,hpre,hbl⟩:=hrel;have HP:Hid (∀j,j<k→xs.getD j default=ys.getD j default):=hpre;clear hpre;by_cases hlt:k<n
  ·
   obtain⟨bx,ox,rfl,h1⟩:=hx k hlt;obtain⟨b2,oy,rfl,h2⟩:=hy k hlt;obtain⟨l1,hl1⟩:∃l,l=xs.getD k default:=⟨_,rfl⟩
   obtain⟨l2,hl2⟩:∃l,l=ys.getD k default:=⟨_,rfl⟩
   rw[←hl1] at h1;rw[←hl2] at h2;have H1:Hid (l1=xs.getD k default):=hl1;have H2:Hid (l2=ys.getD k default):=hl2;clear hl1 hl2 hx hy;go_wp2;go_region_held3 (fun w'=>Below w.heap.size w w'∧(w'.cell? ⟨bx,ox+k*9,none⟩=some (.int .i64 l1.kind)∧w'.cell? ⟨bx,ox+k*9+1,none⟩=some (.int .i64 l1.to)∧w'.cell? ⟨bx,ox+k*9+2,none⟩=some (.int .i64 l1.frm)∧w'.cell? ⟨bx,ox+k*9+3,none⟩=some (.int .i64 l1.con)∧w'.cell? ⟨bx,ox+k*9+4,none⟩=some (.int .i64 l1.sh)∧w'.cell? ⟨bx,ox+k*9+5,none⟩=some (.int .i64 l1.bal)∧w'.cell? ⟨bx,ox+k*9+6,none⟩=some (.int .i64 l1.val)∧w'.cell? ⟨bx,ox+k*9+7,none⟩=some (.int .i64 l1.ob)∧w'.cell? ⟨bx,ox+k*9+8,none⟩=some (.int .i64 l1.ov))∧(w'.cell? ⟨b2,oy+k*9,none⟩=some (.int .i64 l2.kind)∧w'.cell? ⟨b2,oy+k*9+1,none⟩=some (.int .i64 l2.to)∧w'.cell? ⟨b2,oy+k*9+2,none⟩=some (.int .i64 l2.frm)∧w'.cell? ⟨b2,oy+k*9+3,none⟩=some (.int .i64 l2.con)∧w'.cell? ⟨b2,oy+k*9+4,none⟩=some (.int .i64 l2.sh)∧w'.cell? ⟨b2,oy+k*9+5,none⟩=some (.int .i64 l2.bal)∧w'.cell? ⟨b2,oy+k*9+6,none⟩=some (.int .i64 l2.val)∧w'.cell? ⟨b2,oy+k*9+7,none⟩=some (.int .i64 l2.ob)∧w'.cell? ⟨b2,oy+k*9+8,none⟩=some (.int .i64 l2.ov))) ((refine fUt ?_ h1 h2;repeat (first|exact bR _ _|assumption|refine bD ?_|refine bA ?_ _|refine bS ?_ (by assumption)))) (first|(go_at_call 96;refine(fFu l1 l2 _).mono ?_;rintro e w' ⟨rfl,hb1⟩));rename_i hH;have hB:=hH.1;clear hH;go_wp2
   ·
    rename_i hle;go_ret;refine⟨?_,hB⟩;have:¬xs=ys:=fun h=>by
     have:l1=l2:=by rw[H1.out,H2.out,h]
     simp[this] at hle
    simp[this]
   rename_i hle;refine⟨⟨k+1,by omega,by go_num,fun j hj=>?_,hB⟩,mI⟩;by_cases hjk:j<k
   ·exact HP.out j hjk
   have:j=k:=oM;subst this;rw[←H1.out,←H2.out];simpa using hle
  go_wp2;go_ret;have:k=n:=oM;subst this;refine⟨?_,hbl⟩;have:xs=ys:=fP5 (by rw[HL.out,HN.out]) (by rw[HN.out];exact HP.out);simp[this]
 go_enter Tryz.func40,Tryz.ntmps40;have hl':((xs.length:Int)==(ys.length:Int))=false:=by simp;omega
 go_wp2;go_ret;have:¬xs=ys:=fun h=>hl (by rw[h])
 exact⟨by simp[this],bR _ _⟩
def msgC (x:Msg):List Value:=[.int .i64 x.kind,.int .i64 x.to,.int .i64 x.frm,.int .i64 x.con,.int .i64 x.sh,.int .i64 x.bal,.int .i64 x.val,.int .i64 x.ob,.int .i64 x.ov]
def uH (xs:List Msg):List Value:=xs.flatMap msgC
theorem fWn:(Tryz.prog.info? 128).map (fun i=>(i.zero,i.size,i.bytes))=some (some (.agg #[.int .i64 0,.int .i64 0,.int .i64 0,.int .i64 0,.int .i64 0,.int .i64 0,.int .i64 0,.int .i64 0,.int .i64 0]),9,72):=kF
theorem fI4 (xs:List Msg):(uH xs).length=xs.length*9:=by
 induction xs with
 | nil=>rfl
 | cons x r ih=>
  have e:uH (x::r)=msgC x++uH r:=by simp[uH]
  have l4:(msgC x).length=9:=rfl;rw[e,List.length_append,l4,ih,List.length_cons];omega
theorem fIe (xs:List Msg):∀i,i<xs.length→(uH xs)[i*9]? = some (.int .i64 (xs.getD i default).kind)∧(uH xs)[i*9+1]? = some (.int .i64 (xs.getD i default).to)∧(uH xs)[i*9+2]? = some (.int .i64 (xs.getD i default).frm)∧(uH xs)[i*9+3]? = some (.int .i64 (xs.getD i default).con)∧(uH xs)[i*9+4]? = some (.int .i64 (xs.getD i default).sh)∧(uH xs)[i*9+5]? = some (.int .i64 (xs.getD i default).bal)∧(uH xs)[i*9+6]? = some (.int .i64 (xs.getD i default).val)∧(uH xs)[i*9+7]? = some (.int .i64 (xs.getD i default).ob)∧(uH xs)[i*9+8]? = some (.int .i64 (xs.getD i default).ov):=by
 induction xs with
 | nil=>intro i h;simp at h
 | cons x r ih=>
  intro i h;cases i with
  | zero=>simp[uH,msgC]
  | succ i=>
   have:=ih i (by simpa using h);have e:uH (x::r)=msgC x++uH r:=by simp[uH]
   have l4:(msgC x).length=9:=rfl;rw[e];refine⟨?_,?_,?_,?_,?_,?_,?_,?_,?_⟩;all_goals rw[List.getElem?_append_right oM,l4]
   ·rw[show(i+1)*9-9=i*9 by omega];simpa using this.1
   ·rw[show(i+1)*9+1-9=i*9+1 by omega];simpa using this.2.1
   ·rw[show(i+1)*9+2-9=i*9+2 by omega];simpa using this.2.2.1
   ·rw[show(i+1)*9+3-9=i*9+3 by omega];simpa using this.2.2.2.1
   ·rw[show(i+1)*9+4-9=i*9+4 by omega];simpa using this.2.2.2.2.1
   ·rw[show(i+1)*9+5-9=i*9+5 by omega];simpa using this.2.2.2.2.2.1
   ·rw[show(i+1)*9+6-9=i*9+6 by omega];simpa using this.2.2.2.2.2.2.1
   ·rw[show(i+1)*9+7-9=i*9+7 by omega];simpa using this.2.2.2.2.2.2.2.1
   rw[show(i+1)*9+8-9=i*9+8 by omega];simpa using this.2.2.2.2.2.2.2.2
theorem fFk {w:World} {base e:Nat} {v:Value} {xs:List Msg} (h:w.ownsRow base e 9 v xs.length (uH xs)):fHe w v xs:=by
 rcases h.2 with ⟨rfl,hn⟩|⟨g,cap,cur,rfl,hb,hg,hnc,hcm,hcs,htake⟩
 ·exact⟨none,0,by rw[hn],oM,by unfold maxLen;omega,fun i hi=>oM⟩
 refine⟨some ⟨g,0,none⟩,cap,rfl,hnc,hcm,fun i hi=>⟨g,0,rfl,?_⟩⟩;obtain⟨h0,h1,h2,h3,h4,h5,h6,h7,h8⟩:=fIe xs i hi;simp only[Nat.zero_add,yC];exact⟨(h.cellAt _ oM).trans h0,(h.cellAt _ oM).trans h1,(h.cellAt _ oM).trans h2,(h.cellAt _ oM).trans h3,(h.cellAt _ oM).trans h4,(h.cellAt _ oM).trans h5,(h.cellAt _ oM).trans h6,(h.cellAt _ oM).trans h7,(h.cellAt _ oM).trans h8⟩
def fC7 (k:Nat) (cs:List Value) (xs:List Msg):Prop:=∀j,j<k*9→cs[j]? = (uH xs)[j]?
theorem fJc {n:Nat} {cs:List Value} {xs:List Msg} (h:fC7 n cs xs) (hl:cs.length=n*9) (hn:xs.length=n):cs=uH xs:=by
 apply List.ext_getElem?;intro j;by_cases hj:j<n*9
 ·exact h j hj
 rw[List.getElem?_eq_none oM,List.getElem?_eq_none (by rw[fI4];omega)]
theorem fLy {k:Nat} {cs:List Value} {xs:List Msg} {x:Msg} (h:fC7 k cs xs) (hk:k<xs.length) (hl:cs.length=xs.length*9) (he:x=xs.getD k default) :
  fC7 (k+1) (((((((((cs.set (k*9) (.int .i64 x.kind)).set (k*9+1) (.int .i64 x.to)).set (k*9+2) (.int .i64 x.frm)).set (k*9+3) (.int .i64 x.con)).set (k*9+4) (.int .i64 x.sh)).set (k*9+5) (.int .i64 x.bal)).set (k*9+6) (.int .i64 x.val)).set (k*9+7) (.int .i64 x.ob)).set (k*9+8) (.int .i64 x.ov)) xs:=by
 intro j hj;obtain⟨h0,h1,h2,h3,h4,h5,h6,h7,h8⟩:=fIe xs k hk;subst he;simp only[List.getElem?_set,List.length_set];by_cases e8:k*9+8=j
 ·subst e8;simp[h8];omega
 by_cases e7:k*9+7=j
 ·subst e7;simp[h7];omega
 by_cases e6:k*9+6=j
 ·subst e6;simp[h6];omega
 by_cases e5:k*9+5=j
 ·subst e5;simp[h5];omega
 by_cases e4:k*9+4=j
 ·subst e4;simp[h4];omega
 by_cases e3:k*9+3=j
 ·subst e3;simp[h3];omega
 by_cases e2:k*9+2=j
 ·subst e2;simp[h2];omega
 by_cases e1:k*9+1=j
 ·subst e1;simp[h1];omega
 by_cases e0:k*9=j
 ·subst e0;simp[h0];omega
 simp[e0,e1,e2,e3,e4,e5,e6,e7,e8];exact h j oM
theorem fEk (x:Value) (xs:List Msg) (w:World) (hx:fHe w x xs) (hn:xs.length≤1048576) :
  Calls Tryz.prog 31 #[x] w fun e w'=>∃v,e =.returned v∧w'.ownsRow w.heap.size 128 9 v xs.length (uH xs)∧Below w.heap.size w w':=by
 obtain⟨ax,cx,rfl,hcx,hmx,hx⟩:=hx;unfold maxLen at hmx;obtain⟨i0,hi,hz0,hz1,hz2⟩:=info_parts fWn;obtain⟨w1,hmk,hown,hgr⟩:=run_make_full (P:=Tryz.prog) w w.heap.size 35 128 i0 _ 9 Tryz.underlying35 hi hz0 hz1 .i64 .i64 xs.length (by rw[hz2];omega) (by unfold maxLen;omega) (Nat.le_refl _);have hbl0:Below w.heap.size w w1:=(bR _ _).grown hgr (Nat.le_refl _) (fun k h=>by cases h);generalize hn':xs.length=n at *;have HN:Hid (xs.length=n):=hn';clear hn';go_enter Tryz.func31,Tryz.ntmps31;go_wp2;go_loopw [4] (fun i w'=>∃(k:Nat) (cs:List Value),k≤n∧i =.int .i64 k∧w'.ownsRow w.heap.size 128 9 (.slice (some ⟨w.heap.size,0,none⟩) n n) n cs∧fC7 k cs xs∧Below w.heap.size w w') (fun i _=>n-(intOf i).toNat)
 case atStart=>exact⟨0,_,Nat.zero_le _,rfl,hown,fun j h=>oM,hbl0⟩
 obtain⟨k,cs,hk,rfl,ho,hup,hbl⟩:=hrel;have HU:Hid (fC7 k cs xs):=hup;clear hup hown hmk hgr hbl0;by_cases hlt:k<n
 ·
  obtain⟨bx,ox,rfl,h1⟩:=hx k hlt;obtain⟨l,hl⟩:∃l,l=xs.getD k default:=⟨_,rfl⟩
  rw[←hl] at h1;have H1:Hid (l=xs.getD k default):=hl;clear hl hx;obtain⟨a0,a1,a2,a3,a4,a5,a6,a7,a8⟩:=rM hbl h1;go_wp2_with fail;refine(fG4 l _).mono ?_;rintro e wa ⟨rfl,hba⟩;have ho1:=gT ho hba;obtain⟨u0,g0⟩:=fH ho1 (k*9) oM;obtain⟨u1,g1⟩:=fH ho1 (k*9+1) oM;obtain⟨u2,g2⟩:=fH ho1 (k*9+2) oM;obtain⟨u3,g3⟩:=fH ho1 (k*9+3) oM;obtain⟨u4,g4⟩:=fH ho1 (k*9+4) oM;obtain⟨u5,g5⟩:=fH ho1 (k*9+5) oM;obtain⟨u6,g6⟩:=fH ho1 (k*9+6) oM;obtain⟨u7,g7⟩:=fH ho1 (k*9+7) oM;obtain⟨u8,g8⟩:=fH ho1 (k*9+8) oM;have hf:=fun j=>ho1.frozenAt j
  simp only[msgV];go_wp2;have s0:=ho1.stored (k*9) (.int .i64 l.kind);have s1:=s0.1.stored (k*9+1) (.int .i64 l.to);have s2:=s1.1.stored (k*9+2) (.int .i64 l.frm);have s3:=s2.1.stored (k*9+3) (.int .i64 l.con);have s4:=s3.1.stored (k*9+4) (.int .i64 l.sh);have s5:=s4.1.stored (k*9+5) (.int .i64 l.bal);have s6:=s5.1.stored (k*9+6) (.int .i64 l.val);have s7:=s6.1.stored (k*9+7) (.int .i64 l.ob);have s8:=s7.1.stored (k*9+8) (.int .i64 l.ov);refine⟨⟨k+1,_,by omega,by go_num,s8.1,fLy HU.out (by have:=HN.out;omega) (by have:=HN.out;have:=ho.1;omega) H1.out,?_⟩,mI⟩;exact(((((((((bS hbl hba).setCell (Nat.le_refl _) _).setCell (Nat.le_refl _) _).setCell (Nat.le_refl _) _).setCell (Nat.le_refl _) _).setCell (Nat.le_refl _) _).setCell (Nat.le_refl _) _).setCell (Nat.le_refl _) _).setCell (Nat.le_refl _) _).setCell (Nat.le_refl _) _
 go_wp2;go_ret;have hkn:k=n:=oM;subst hkn;have e:=fJc HU.out ho.1 HN.out;subst e;exact⟨_,rfl,ho,hbl⟩
theorem fEi (x:Value) (xs:List Msg) (left:Int) (w:World) (hx:fHe w x xs) (h0:0≤left) (h1:left≤1048576) :
  Calls Tryz.prog 19 #[x,.int .i64 left] w fun e w'=>e =.returned (.int .i64 (fU left xs.length))∧w'=w:=by
 obtain⟨ax,cx,rfl,hcx,hmx,hx⟩:=hx;unfold maxLen at hmx;generalize xs.length=n at *;clear hx;by_cases h:left<n
 ·have h':left-(n:Int)<0:=oM;go_enter Tryz.func19,Tryz.ntmps19;go_wp2;go_ret;exact⟨by simp only[fU,if_pos h];rfl,rfl⟩
 have h':¬left-(n:Int)<0:=oM;go_enter Tryz.func19,Tryz.ntmps19;go_wp2;go_ret;exact⟨by rw[fU,if_neg oM];rfl,rfl⟩
variable [dQ Msg] [iH Msg]
def msgsR:Rep (List Msg):=fRep 128 9 uH fHe fKo fFk
def fOb (xs:List Msg):Nat:=xs.length
theorem fAf {w:World} {v:Value} {xs:List Msg} (h:msgsR.V w v xs):∃a c,v =.slice a xs.length c:=by
 obtain⟨a,c,rfl,_⟩:=h;exact⟨_,_,rfl⟩
theorem fKa (x:Value) (d:List Msg) (w:World) (hx:msgsR.V w x d) (hn:fOb d≤1048576) :
  Calls Tryz.prog 31 #[x] w fun e w'=>∃v F,e =.returned v∧msgsR.O w' w.heap.size F v d∧Below w.heap.size w w':=by
 refine(fEk x d w hx hn).mono ?_;rintro e w' ⟨v,rfl,ho,hb⟩;exact⟨v,_,rfl,⟨ho,rfl⟩,hb⟩
theorem fH6 (x y:Value) (d d':List Msg) (w:World) (hx:msgsR.V w x d) (hy:msgsR.V w y d') :
  RI 40 #[x,y] w (.bool (decide (d=d'))):=fD2 x y d d' w hx hy
theorem fJ2 (x:Value) (d:List Msg) (left:Int) (w:World) (hx:msgsR.V w x d) (h0:0≤left) (h1:left≤1048576) :
  RI 19 #[x,.int .i64 left] w (.int .i64 (fU left (fOb d))):=by
 refine(fEi x d left w hx h0 h1).mono ?_;rintro e w' ⟨rfl,rfl⟩;exact⟨rfl,bR _ _⟩
variable [dQ Leg] [iH Leg] [dQ Cont] [iH Cont] [dQ Bal] [iH Bal] [dQ Mrk] [iH Mrk] [dQ Shd] [iH Shd] [dQ Slt] [iH Slt] [dQ Acc] [iH Acc] [dQ Trr] [iH Trr] [dQ Hrd] [iH Hrd] [dQ Ldr] [iH Ldr]
structure Clu where
 cons:List Cont
 shards:List Shd
 accs:List Acc
 ldrs:List Ldr
 msgs:List Msg
variable [dQ Clu] [iH Clu]
def cluR:Rep Clu where
 V:=fun w v x=>∃u1 u2 u3 u4 u5,v =.agg #[u1,u2,u3,u4,u5]∧contsR.V w u1 x.cons∧shdsR.V w u2 x.shards∧accsR.V w u3 x.accs∧ldrsR.V w u4 x.ldrs∧msgsR.V w u5 x.msgs
 O:=fun w base F v x=>∃u1 u2 u3 u4 u5 F1 F2 F3 F4 F5,v =.agg #[u1,u2,u3,u4,u5]∧contsR.O w base F1 u1 x.cons∧shdsR.O w base F2 u2 x.shards∧accsR.O w base F3 u3 x.accs∧ldrsR.O w base F4 u4 x.ldrs∧msgsR.O w base F5 u5 x.msgs∧(∀b,F1 b→¬F2 b)∧(∀b,F1 b→¬F3 b)∧(∀b,F1 b→¬F4 b)∧(∀b,F1 b→¬F5 b)∧(∀b,F2 b→¬F3 b)∧(∀b,F2 b→¬F4 b)∧(∀b,F2 b→¬F5 b)∧(∀b,F3 b→¬F4 b)∧(∀b,F3 b→¬F5 b)∧(∀b,F4 b→¬F5 b)∧(∀b,F b↔(F1 b∨F2 b∨F3 b∨F4 b∨F5 b))
 below:=fun h hb=>by
  obtain⟨u1,u2,u3,u4,u5,rfl,h1,h2,h3,h4,h5⟩:=h;exact⟨u1,u2,u3,u4,u5,rfl,contsR.below h1 hb,shdsR.below h2 hb,accsR.below h3 hb,ldrsR.below h4 hb,msgsR.below h5 hb⟩
 ofO:=fun h=>by
  obtain⟨u1,u2,u3,u4,u5,F1,F2,F3,F4,F5,rfl,h1,h2,h3,h4,h5,_⟩:=h;exact⟨u1,u2,u3,u4,u5,rfl,contsR.ofO h1,shdsR.ofO h2,accsR.ofO h3,ldrsR.ofO h4,msgsR.ofO h5⟩
 mod:=fun h hm hd=>by
  obtain⟨u1,u2,u3,u4,u5,F1,F2,F3,F4,F5,rfl,h1,h2,h3,h4,h5,s12,s13,s14,s15,s23,s24,s25,s34,s35,s45,hF⟩:=h;exact⟨u1,u2,u3,u4,u5,F1,F2,F3,F4,F5,rfl,contsR.mod h1 hm (fun b hb=>hd b ((hF b).2 (.inl hb))),shdsR.mod h2 hm (fun b hb=>hd b ((hF b).2 (.inr (.inl hb)))),accsR.mod h3 hm (fun b hb=>hd b ((hF b).2 (.inr (.inr (.inl hb))))),ldrsR.mod h4 hm (fun b hb=>hd b ((hF b).2 (.inr (.inr (.inr (.inl hb)))))),msgsR.mod h5 hm (fun b hb=>hd b ((hF b).2 (.inr (.inr (.inr (.inr hb)))))),s12,s13,s14,s15,s23,s24,s25,s34,s35,s45,hF⟩
 rng:=fun h b hb=>by
  obtain⟨u1,u2,u3,u4,u5,F1,F2,F3,F4,F5,rfl,h1,h2,h3,h4,h5,s12,s13,s14,s15,s23,s24,s25,s34,s35,s45,hF⟩:=h;rcases(hF b).1 hb with hb|hb|hb|hb|hb
  ·exact contsR.rng h1 b hb
  ·exact shdsR.rng h2 b hb
  ·exact accsR.rng h3 b hb
  ·exact ldrsR.rng h4 b hb
  exact msgsR.rng h5 b hb
 base:=fun h hb=>by
  obtain⟨u1,u2,u3,u4,u5,F1,F2,F3,F4,F5,rfl,h1,h2,h3,h4,h5,s12,s13,s14,s15,s23,s24,s25,s34,s35,s45,hF⟩:=h;exact⟨u1,u2,u3,u4,u5,F1,F2,F3,F4,F5,rfl,contsR.base h1 hb,shdsR.base h2 hb,accsR.base h3 hb,ldrsR.base h4 hb,msgsR.base h5 hb,s12,s13,s14,s15,s23,s24,s25,s34,s35,s45,hF⟩
def tH (x:Clu):Nat:=gX x.cons+qX x.shards+uN x.accs+xX x.ldrs+fOb x.msgs
theorem fTq {w:World} {v:Value} {x:Clu} (h:cluR.V w v x):∃a1 a2 a3 a4 a5 c1 c2 c3 c4 c5,v =.agg #[.slice a1 x.cons.length c1,.slice a2 x.shards.length c2,.slice a3 x.accs.length c3,.slice a4 x.ldrs.length c4,.slice a5 x.msgs.length c5]:=by
 obtain⟨u1,u2,u3,u4,u5,rfl,h1,h2,h3,h4,h5⟩:=h;obtain⟨a1,c1,rfl⟩:=gG h1;obtain⟨a2,c2,rfl⟩:=xP h2;obtain⟨a3,c3,rfl⟩:=qP h3;obtain⟨a4,c4,rfl⟩:=xJ h4;obtain⟨a5,c5,rfl⟩:=fAf h5;exact⟨_,_,_,_,_,_,_,_,_,_,rfl⟩
theorem fMi (x:Value) (d:Clu) (w:World) (hx:cluR.V w x d) (hn:tH d≤1048576) :
  Calls Tryz.prog 7 #[x] w fun e w'=>∃v F,e =.returned v∧cluR.O w' w.heap.size F v d∧Below w.heap.size w w':=by
 obtain⟨u1,u2,u3,u4,u5,rfl,h1,h2,h3,h4,h5⟩:=hx;unfold tH at hn;go_enter Tryz.func7,Tryz.ntmps7;go_wp2_with fail;refine(fAr _ d.cons _ (contsR.below h1 qBq) oM).mono ?_;rintro e w1 ⟨v1,F1,rfl,o1,b1⟩;have hB1:=bT w b1;obtain⟨a1,n1,rfl⟩:=gG (contsR.ofO o1);obtain⟨c1,f1⟩:=bcell b1;have z1:=b1.size;simp at z1;have l1:=fun b hb=>contsR.rng o1 b hb
 simp at l1;replace o1:=contsR.base (base':=w.heap.size+3) o1 (by simp;try omega);have y0:w1.cell? ⟨w.heap.size,0,none⟩=some (u1):=cK b1 sG;have y1:w1.cell? ⟨w.heap.size,1,none⟩=some (u2):=cK b1 sG;have y2:w1.cell? ⟨w.heap.size,2,none⟩=some (u3):=cK b1 sG;have y3:w1.cell? ⟨w.heap.size,3,none⟩=some (u4):=cK b1 sG;have y4:w1.cell? ⟨w.heap.size,4,none⟩=some (u5):=cK b1 sG;have r0:w1.cell? ⟨w.heap.size+1,0,none⟩=some (.slice none 0 0):=cK b1 sG;have r1:w1.cell? ⟨w.heap.size+1,1,none⟩=some (.slice none 0 0):=cK b1 sG;have r2:w1.cell? ⟨w.heap.size+1,2,none⟩=some (.slice none 0 0):=cK b1 sG;have r3:w1.cell? ⟨w.heap.size+1,3,none⟩=some (.slice none 0 0):=cK b1 sG;have r4:w1.cell? ⟨w.heap.size+1,4,none⟩=some (.slice none 0 0):=cK b1 sG;have s0:w1.cell? ⟨w.heap.size+2,0,none⟩=some (.slice none 0 0):=cK b1 sG;have s1:w1.cell? ⟨w.heap.size+2,1,none⟩=some (.slice none 0 0):=cK b1 sG;have s2:w1.cell? ⟨w.heap.size+2,2,none⟩=some (.slice none 0 0):=cK b1 sG;have s3:w1.cell? ⟨w.heap.size+2,3,none⟩=some (.slice none 0 0):=cK b1 sG;have s4:w1.cell? ⟨w.heap.size+2,4,none⟩=some (.slice none 0 0):=cK b1 sG;have t1:∀o,w1.frozen? ⟨w.heap.size+1,o,none⟩=false:=fun o=>by rw[f1 _ _ (by simp;try omega)];simp[go_sem]
 have t2:∀o,w1.frozen? ⟨w.heap.size+2,o,none⟩=false:=fun o=>by rw[f1 _ _ (by simp;try omega)];simp[go_sem]
 clear c1 f1;have x0:=y0;have x1:=y1;have x2:=y2;have x3:=y3;have x4:=y4;have q0:=r0;have q1:=r1;have q2:=r2;have q3:=r3;have q4:=r4;have p0:=s0;have p1:=s1;have p2:=s2;have p3:=s3;have p4:=s4;have qf:=t1;have pf:=t2;clear t1 t2 y0 y1 y2 y3 y4 r0 r1 r2 r3 r4 s0 s1 s2 s3 s4;clear b1;go_wp2_with fail;refine(fQt _ d.shards _ (shdsR.below h2 qS) oM).mono ?_;rintro e w2 ⟨v2,F2,rfl,o2,b2⟩;have hB2:Below w.heap.size w w2:=bS qS b2;obtain⟨a2,n2,rfl⟩:=xP (shdsR.ofO o2);obtain⟨c2,f2⟩:=bcell b2;have z2:=b2.size;simp at z2;have l2:=fun b hb=>shdsR.rng o2 b hb
 simp at l2;replace o2:=shdsR.base (base':=w.heap.size+3) o2 (by simp;try omega);have hk1:∀F v x,contsR.O w1 (w.heap.size+3) F v x→contsR.O w2 (w.heap.size+3) F v x:=fun F v x o=>contsR.keep (by(repeat (first|refine Rep.set _ ?_ _ (by simp;omega)|refine Rep.set _ ?_ _ (by simp)|refine Rep.alloc _ ?_ _|assumption))) b2
 replace o1:=hk1 _ _ _ o1;clear hk1;have y0:w2.cell? ⟨w.heap.size,0,none⟩=some (u1):=cK b2 (by simp[go_sem,x0,x1,x2,x3,x4,q0,q1,q2,q3,q4,p0,p1,p2,p3,p4]);have y1:w2.cell? ⟨w.heap.size,1,none⟩=some (u2):=cK b2 (by simp[go_sem,x0,x1,x2,x3,x4,q0,q1,q2,q3,q4,p0,p1,p2,p3,p4]);have y2:w2.cell? ⟨w.heap.size,2,none⟩=some (u3):=cK b2 (by simp[go_sem,x0,x1,x2,x3,x4,q0,q1,q2,q3,q4,p0,p1,p2,p3,p4]);have y3:w2.cell? ⟨w.heap.size,3,none⟩=some (u4):=cK b2 (by simp[go_sem,x0,x1,x2,x3,x4,q0,q1,q2,q3,q4,p0,p1,p2,p3,p4]);have y4:w2.cell? ⟨w.heap.size,4,none⟩=some (u5):=cK b2 (by simp[go_sem,x0,x1,x2,x3,x4,q0,q1,q2,q3,q4,p0,p1,p2,p3,p4]);have r0:w2.cell? ⟨w.heap.size+1,0,none⟩=some (.slice none 0 0):=cK b2 (by simp[go_sem,x0,x1,x2,x3,x4,q0,q1,q2,q3,q4,p0,p1,p2,p3,p4]);have r1:w2.cell? ⟨w.heap.size+1,1,none⟩=some (.slice none 0 0):=cK b2 (by simp[go_sem,x0,x1,x2,x3,x4,q0,q1,q2,q3,q4,p0,p1,p2,p3,p4]);have r2:w2.cell? ⟨w.heap.size+1,2,none⟩=some (.slice none 0 0):=cK b2 (by simp[go_sem,x0,x1,x2,x3,x4,q0,q1,q2,q3,q4,p0,p1,p2,p3,p4]);have r3:w2.cell? ⟨w.heap.size+1,3,none⟩=some (.slice none 0 0):=cK b2 (by simp[go_sem,x0,x1,x2,x3,x4,q0,q1,q2,q3,q4,p0,p1,p2,p3,p4]);have r4:w2.cell? ⟨w.heap.size+1,4,none⟩=some (.slice none 0 0):=cK b2 (by simp[go_sem,x0,x1,x2,x3,x4,q0,q1,q2,q3,q4,p0,p1,p2,p3,p4]);have s0:w2.cell? ⟨w.heap.size+2,0,none⟩=some (.slice a1 d.cons.length n1):=cK b2 (by simp[go_sem,x0,x1,x2,x3,x4,q0,q1,q2,q3,q4,p0,p1,p2,p3,p4]);have s1:w2.cell? ⟨w.heap.size+2,1,none⟩=some (.slice none 0 0):=cK b2 (by simp[go_sem,x0,x1,x2,x3,x4,q0,q1,q2,q3,q4,p0,p1,p2,p3,p4])
 have s2:w2.cell? ⟨w.heap.size+2,2,none⟩=some (.slice none 0 0):=cK b2 (by simp[go_sem,x0,x1,x2,x3,x4,q0,q1,q2,q3,q4,p0,p1,p2,p3,p4]);have s3:w2.cell? ⟨w.heap.size+2,3,none⟩=some (.slice none 0 0):=cK b2 (by simp[go_sem,x0,x1,x2,x3,x4,q0,q1,q2,q3,q4,p0,p1,p2,p3,p4]);have s4:w2.cell? ⟨w.heap.size+2,4,none⟩=some (.slice none 0 0):=cK b2 (by simp[go_sem,x0,x1,x2,x3,x4,q0,q1,q2,q3,q4,p0,p1,p2,p3,p4]);have t1:∀o,w2.frozen? ⟨w.heap.size+1,o,none⟩=false:=fun o=>by rw[f2 _ _ (by simp;try omega)];simp[go_sem,qf]
 have t2:∀o,w2.frozen? ⟨w.heap.size+2,o,none⟩=false:=fun o=>by rw[f2 _ _ (by simp;try omega)];simp[go_sem,pf]
 clear x0 x1 x2 x3 x4 q0 q1 q2 q3 q4 p0 p1 p2 p3 p4 qf pf;clear c2 f2;have x0:=y0;have x1:=y1;have x2:=y2;have x3:=y3;have x4:=y4;have q0:=r0;have q1:=r1;have q2:=r2;have q3:=r3;have q4:=r4;have p0:=s0;have p1:=s1;have p2:=s2;have p3:=s3;have p4:=s4;have qf:=t1;have pf:=t2;clear t1 t2 y0 y1 y2 y3 y4 r0 r1 r2 r3 r4 s0 s1 s2 s3 s4;clear b2 hB1;go_wp2_with fail;refine(fG2 _ d.accs _ (accsR.below h3 qS) oM).mono ?_;rintro e w3 ⟨v3,F3,rfl,o3,b3⟩;have hB3:Below w.heap.size w w3:=bS qS b3;obtain⟨a3,n3,rfl⟩:=qP (accsR.ofO o3);obtain⟨c3,f3⟩:=bcell b3;have z3:=b3.size;simp at z3;have l3:=fun b hb=>accsR.rng o3 b hb
 simp at l3;replace o3:=accsR.base (base':=w.heap.size+3) o3 (by simp;try omega);have hk1:∀F v x,contsR.O w2 (w.heap.size+3) F v x→contsR.O w3 (w.heap.size+3) F v x:=fun F v x o=>contsR.keep (by(repeat (first|refine Rep.set _ ?_ _ (by simp;omega)|refine Rep.set _ ?_ _ (by simp)|refine Rep.alloc _ ?_ _|assumption))) b3
 replace o1:=hk1 _ _ _ o1;clear hk1;have hk2:∀F v x,shdsR.O w2 (w.heap.size+3) F v x→shdsR.O w3 (w.heap.size+3) F v x:=fun F v x o=>shdsR.keep (by(repeat (first|refine Rep.set _ ?_ _ (by simp;omega)|refine Rep.set _ ?_ _ (by simp)|refine Rep.alloc _ ?_ _|assumption))) b3
 replace o2:=hk2 _ _ _ o2;clear hk2;have y0:w3.cell? ⟨w.heap.size,0,none⟩=some (u1):=cK b3 (by simp[go_sem,x0,x1,x2,x3,x4,q0,q1,q2,q3,q4,p0,p1,p2,p3,p4]);have y1:w3.cell? ⟨w.heap.size,1,none⟩=some (u2):=cK b3 (by simp[go_sem,x0,x1,x2,x3,x4,q0,q1,q2,q3,q4,p0,p1,p2,p3,p4]);have y2:w3.cell? ⟨w.heap.size,2,none⟩=some (u3):=cK b3 (by simp[go_sem,x0,x1,x2,x3,x4,q0,q1,q2,q3,q4,p0,p1,p2,p3,p4]);have y3:w3.cell? ⟨w.heap.size,3,none⟩=some (u4):=cK b3 (by simp[go_sem,x0,x1,x2,x3,x4,q0,q1,q2,q3,q4,p0,p1,p2,p3,p4]);have y4:w3.cell? ⟨w.heap.size,4,none⟩=some (u5):=cK b3 (by simp[go_sem,x0,x1,x2,x3,x4,q0,q1,q2,q3,q4,p0,p1,p2,p3,p4]);have r0:w3.cell? ⟨w.heap.size+1,0,none⟩=some (.slice none 0 0):=cK b3 (by simp[go_sem,x0,x1,x2,x3,x4,q0,q1,q2,q3,q4,p0,p1,p2,p3,p4]);have r1:w3.cell? ⟨w.heap.size+1,1,none⟩=some (.slice none 0 0):=cK b3 (by simp[go_sem,x0,x1,x2,x3,x4,q0,q1,q2,q3,q4,p0,p1,p2,p3,p4]);have r2:w3.cell? ⟨w.heap.size+1,2,none⟩=some (.slice none 0 0):=cK b3 (by simp[go_sem,x0,x1,x2,x3,x4,q0,q1,q2,q3,q4,p0,p1,p2,p3,p4]);have r3:w3.cell? ⟨w.heap.size+1,3,none⟩=some (.slice none 0 0):=cK b3 (by simp[go_sem,x0,x1,x2,x3,x4,q0,q1,q2,q3,q4,p0,p1,p2,p3,p4]);have r4:w3.cell? ⟨w.heap.size+1,4,none⟩=some (.slice none 0 0):=cK b3 (by simp[go_sem,x0,x1,x2,x3,x4,q0,q1,q2,q3,q4,p0,p1,p2,p3,p4]);have s0:w3.cell? ⟨w.heap.size+2,0,none⟩=some (.slice a1 d.cons.length n1):=cK b3 (by simp[go_sem,x0,x1,x2,x3,x4,q0,q1,q2,q3,q4,p0,p1,p2,p3,p4]);have s1:w3.cell? ⟨w.heap.size+2,1,none⟩=some (.slice a2 d.shards.length n2):=cK b3 (by simp[go_sem,x0,x1,x2,x3,x4,q0,q1,q2,q3,q4,p0,p1,p2,p3,p4])
 have s2:w3.cell? ⟨w.heap.size+2,2,none⟩=some (.slice none 0 0):=cK b3 (by simp[go_sem,x0,x1,x2,x3,x4,q0,q1,q2,q3,q4,p0,p1,p2,p3,p4]);have s3:w3.cell? ⟨w.heap.size+2,3,none⟩=some (.slice none 0 0):=cK b3 (by simp[go_sem,x0,x1,x2,x3,x4,q0,q1,q2,q3,q4,p0,p1,p2,p3,p4]);have s4:w3.cell? ⟨w.heap.size+2,4,none⟩=some (.slice none 0 0):=cK b3 (by simp[go_sem,x0,x1,x2,x3,x4,q0,q1,q2,q3,q4,p0,p1,p2,p3,p4]);have t1:∀o,w3.frozen? ⟨w.heap.size+1,o,none⟩=false:=fun o=>by rw[f3 _ _ (by simp;try omega)];simp[go_sem,qf]
 have t2:∀o,w3.frozen? ⟨w.heap.size+2,o,none⟩=false:=fun o=>by rw[f3 _ _ (by simp;try omega)];simp[go_sem,pf]
 clear x0 x1 x2 x3 x4 q0 q1 q2 q3 q4 p0 p1 p2 p3 p4 qf pf;clear c3 f3;have x0:=y0;have x1:=y1;have x2:=y2;have x3:=y3;have x4:=y4;have q0:=r0;have q1:=r1;have q2:=r2;have q3:=r3;have q4:=r4;have p0:=s0;have p1:=s1;have p2:=s2;have p3:=s3;have p4:=s4;have qf:=t1;have pf:=t2;clear t1 t2 y0 y1 y2 y3 y4 r0 r1 r2 r3 r4 s0 s1 s2 s3 s4;clear b3 hB2;go_wp2_with fail;refine(fMk _ d.ldrs _ (ldrsR.below h4 qS) oM).mono ?_;rintro e w4 ⟨v4,F4,rfl,o4,b4⟩;have hB4:Below w.heap.size w w4:=bS qS b4;obtain⟨a4,n4,rfl⟩:=xJ (ldrsR.ofO o4);obtain⟨c4,f4⟩:=bcell b4;have z4:=b4.size;simp at z4;have l4:=fun b hb=>ldrsR.rng o4 b hb
 simp at l4;replace o4:=ldrsR.base (base':=w.heap.size+3) o4 (by simp;try omega);have hk1:∀F v x,contsR.O w3 (w.heap.size+3) F v x→contsR.O w4 (w.heap.size+3) F v x:=fun F v x o=>contsR.keep (by(repeat (first|refine Rep.set _ ?_ _ (by simp;omega)|refine Rep.set _ ?_ _ (by simp)|refine Rep.alloc _ ?_ _|assumption))) b4
 replace o1:=hk1 _ _ _ o1;clear hk1;have hk2:∀F v x,shdsR.O w3 (w.heap.size+3) F v x→shdsR.O w4 (w.heap.size+3) F v x:=fun F v x o=>shdsR.keep (by(repeat (first|refine Rep.set _ ?_ _ (by simp;omega)|refine Rep.set _ ?_ _ (by simp)|refine Rep.alloc _ ?_ _|assumption))) b4
 replace o2:=hk2 _ _ _ o2;clear hk2;have hk3:∀F v x,accsR.O w3 (w.heap.size+3) F v x→accsR.O w4 (w.heap.size+3) F v x:=fun F v x o=>accsR.keep (by(repeat (first|refine Rep.set _ ?_ _ (by simp;omega)|refine Rep.set _ ?_ _ (by simp)|refine Rep.alloc _ ?_ _|assumption))) b4
 replace o3:=hk3 _ _ _ o3;clear hk3;have y0:w4.cell? ⟨w.heap.size,0,none⟩=some (u1):=cK b4 (by simp[go_sem,x0,x1,x2,x3,x4,q0,q1,q2,q3,q4,p0,p1,p2,p3,p4]);have y1:w4.cell? ⟨w.heap.size,1,none⟩=some (u2):=cK b4 (by simp[go_sem,x0,x1,x2,x3,x4,q0,q1,q2,q3,q4,p0,p1,p2,p3,p4]);have y2:w4.cell? ⟨w.heap.size,2,none⟩=some (u3):=cK b4 (by simp[go_sem,x0,x1,x2,x3,x4,q0,q1,q2,q3,q4,p0,p1,p2,p3,p4]);have y3:w4.cell? ⟨w.heap.size,3,none⟩=some (u4):=cK b4 (by simp[go_sem,x0,x1,x2,x3,x4,q0,q1,q2,q3,q4,p0,p1,p2,p3,p4]);have y4:w4.cell? ⟨w.heap.size,4,none⟩=some (u5):=cK b4 (by simp[go_sem,x0,x1,x2,x3,x4,q0,q1,q2,q3,q4,p0,p1,p2,p3,p4]);have r0:w4.cell? ⟨w.heap.size+1,0,none⟩=some (.slice none 0 0):=cK b4 (by simp[go_sem,x0,x1,x2,x3,x4,q0,q1,q2,q3,q4,p0,p1,p2,p3,p4]);have r1:w4.cell? ⟨w.heap.size+1,1,none⟩=some (.slice none 0 0):=cK b4 (by simp[go_sem,x0,x1,x2,x3,x4,q0,q1,q2,q3,q4,p0,p1,p2,p3,p4]);have r2:w4.cell? ⟨w.heap.size+1,2,none⟩=some (.slice none 0 0):=cK b4 (by simp[go_sem,x0,x1,x2,x3,x4,q0,q1,q2,q3,q4,p0,p1,p2,p3,p4]);have r3:w4.cell? ⟨w.heap.size+1,3,none⟩=some (.slice none 0 0):=cK b4 (by simp[go_sem,x0,x1,x2,x3,x4,q0,q1,q2,q3,q4,p0,p1,p2,p3,p4]);have r4:w4.cell? ⟨w.heap.size+1,4,none⟩=some (.slice none 0 0):=cK b4 (by simp[go_sem,x0,x1,x2,x3,x4,q0,q1,q2,q3,q4,p0,p1,p2,p3,p4]);have s0:w4.cell? ⟨w.heap.size+2,0,none⟩=some (.slice a1 d.cons.length n1):=cK b4 (by simp[go_sem,x0,x1,x2,x3,x4,q0,q1,q2,q3,q4,p0,p1,p2,p3,p4]);have s1:w4.cell? ⟨w.heap.size+2,1,none⟩=some (.slice a2 d.shards.length n2):=cK b4 (by simp[go_sem,x0,x1,x2,x3,x4,q0,q1,q2,q3,q4,p0,p1,p2,p3,p4])
 have s2:w4.cell? ⟨w.heap.size+2,2,none⟩=some (.slice a3 d.accs.length n3):=cK b4 (by simp[go_sem,x0,x1,x2,x3,x4,q0,q1,q2,q3,q4,p0,p1,p2,p3,p4]);have s3:w4.cell? ⟨w.heap.size+2,3,none⟩=some (.slice none 0 0):=cK b4 (by simp[go_sem,x0,x1,x2,x3,x4,q0,q1,q2,q3,q4,p0,p1,p2,p3,p4]);have s4:w4.cell? ⟨w.heap.size+2,4,none⟩=some (.slice none 0 0):=cK b4 (by simp[go_sem,x0,x1,x2,x3,x4,q0,q1,q2,q3,q4,p0,p1,p2,p3,p4]);have t1:∀o,w4.frozen? ⟨w.heap.size+1,o,none⟩=false:=fun o=>by rw[f4 _ _ (by simp;try omega)];simp[go_sem,qf]
 have t2:∀o,w4.frozen? ⟨w.heap.size+2,o,none⟩=false:=fun o=>by rw[f4 _ _ (by simp;try omega)];simp[go_sem,pf]
 clear x0 x1 x2 x3 x4 q0 q1 q2 q3 q4 p0 p1 p2 p3 p4 qf pf;clear c4 f4;have x0:=y0;have x1:=y1;have x2:=y2;have x3:=y3;have x4:=y4;have q0:=r0;have q1:=r1;have q2:=r2;have q3:=r3;have q4:=r4;have p0:=s0;have p1:=s1;have p2:=s2;have p3:=s3;have p4:=s4;have qf:=t1;have pf:=t2;clear t1 t2 y0 y1 y2 y3 y4 r0 r1 r2 r3 r4 s0 s1 s2 s3 s4;clear b4 hB3;go_wp2_with fail;refine(fKa _ d.msgs _ (msgsR.below h5 qS) oM).mono ?_;rintro e w5 ⟨v5,F5,rfl,o5,b5⟩;have hB5:Below w.heap.size w w5:=bS qS b5;obtain⟨a5,n5,rfl⟩:=fAf (msgsR.ofO o5);obtain⟨c5,f5⟩:=bcell b5;have z5:=b5.size;simp at z5;have l5:=fun b hb=>msgsR.rng o5 b hb
 simp at l5;replace o5:=msgsR.base (base':=w.heap.size+3) o5 (by simp;try omega);have hk1:∀F v x,contsR.O w4 (w.heap.size+3) F v x→contsR.O w5 (w.heap.size+3) F v x:=fun F v x o=>contsR.keep (by(repeat (first|refine Rep.set _ ?_ _ (by simp;omega)|refine Rep.set _ ?_ _ (by simp)|refine Rep.alloc _ ?_ _|assumption))) b5
 replace o1:=hk1 _ _ _ o1;clear hk1;have hk2:∀F v x,shdsR.O w4 (w.heap.size+3) F v x→shdsR.O w5 (w.heap.size+3) F v x:=fun F v x o=>shdsR.keep (by(repeat (first|refine Rep.set _ ?_ _ (by simp;omega)|refine Rep.set _ ?_ _ (by simp)|refine Rep.alloc _ ?_ _|assumption))) b5
 replace o2:=hk2 _ _ _ o2;clear hk2;have hk3:∀F v x,accsR.O w4 (w.heap.size+3) F v x→accsR.O w5 (w.heap.size+3) F v x:=fun F v x o=>accsR.keep (by(repeat (first|refine Rep.set _ ?_ _ (by simp;omega)|refine Rep.set _ ?_ _ (by simp)|refine Rep.alloc _ ?_ _|assumption))) b5
 replace o3:=hk3 _ _ _ o3;clear hk3;have hk4:∀F v x,ldrsR.O w4 (w.heap.size+3) F v x→ldrsR.O w5 (w.heap.size+3) F v x:=fun F v x o=>ldrsR.keep (by(repeat (first|refine Rep.set _ ?_ _ (by simp;omega)|refine Rep.set _ ?_ _ (by simp)|refine Rep.alloc _ ?_ _|assumption))) b5
 replace o4:=hk4 _ _ _ o4;clear hk4;have y0:w5.cell? ⟨w.heap.size,0,none⟩=some (u1):=cK b5 (by simp[go_sem,x0,x1,x2,x3,x4,q0,q1,q2,q3,q4,p0,p1,p2,p3,p4]);have y1:w5.cell? ⟨w.heap.size,1,none⟩=some (u2):=cK b5 (by simp[go_sem,x0,x1,x2,x3,x4,q0,q1,q2,q3,q4,p0,p1,p2,p3,p4]);have y2:w5.cell? ⟨w.heap.size,2,none⟩=some (u3):=cK b5 (by simp[go_sem,x0,x1,x2,x3,x4,q0,q1,q2,q3,q4,p0,p1,p2,p3,p4]);have y3:w5.cell? ⟨w.heap.size,3,none⟩=some (u4):=cK b5 (by simp[go_sem,x0,x1,x2,x3,x4,q0,q1,q2,q3,q4,p0,p1,p2,p3,p4]);have y4:w5.cell? ⟨w.heap.size,4,none⟩=some (u5):=cK b5 (by simp[go_sem,x0,x1,x2,x3,x4,q0,q1,q2,q3,q4,p0,p1,p2,p3,p4]);have r0:w5.cell? ⟨w.heap.size+1,0,none⟩=some (.slice none 0 0):=cK b5 (by simp[go_sem,x0,x1,x2,x3,x4,q0,q1,q2,q3,q4,p0,p1,p2,p3,p4]);have r1:w5.cell? ⟨w.heap.size+1,1,none⟩=some (.slice none 0 0):=cK b5 (by simp[go_sem,x0,x1,x2,x3,x4,q0,q1,q2,q3,q4,p0,p1,p2,p3,p4]);have r2:w5.cell? ⟨w.heap.size+1,2,none⟩=some (.slice none 0 0):=cK b5 (by simp[go_sem,x0,x1,x2,x3,x4,q0,q1,q2,q3,q4,p0,p1,p2,p3,p4]);have r3:w5.cell? ⟨w.heap.size+1,3,none⟩=some (.slice none 0 0):=cK b5 (by simp[go_sem,x0,x1,x2,x3,x4,q0,q1,q2,q3,q4,p0,p1,p2,p3,p4]);have r4:w5.cell? ⟨w.heap.size+1,4,none⟩=some (.slice none 0 0):=cK b5 (by simp[go_sem,x0,x1,x2,x3,x4,q0,q1,q2,q3,q4,p0,p1,p2,p3,p4]);have s0:w5.cell? ⟨w.heap.size+2,0,none⟩=some (.slice a1 d.cons.length n1):=cK b5 (by simp[go_sem,x0,x1,x2,x3,x4,q0,q1,q2,q3,q4,p0,p1,p2,p3,p4]);have s1:w5.cell? ⟨w.heap.size+2,1,none⟩=some (.slice a2 d.shards.length n2):=cK b5 (by simp[go_sem,x0,x1,x2,x3,x4,q0,q1,q2,q3,q4,p0,p1,p2,p3,p4])
 have s2:w5.cell? ⟨w.heap.size+2,2,none⟩=some (.slice a3 d.accs.length n3):=cK b5 (by simp[go_sem,x0,x1,x2,x3,x4,q0,q1,q2,q3,q4,p0,p1,p2,p3,p4]);have s3:w5.cell? ⟨w.heap.size+2,3,none⟩=some (.slice a4 d.ldrs.length n4):=cK b5 (by simp[go_sem,x0,x1,x2,x3,x4,q0,q1,q2,q3,q4,p0,p1,p2,p3,p4]);have s4:w5.cell? ⟨w.heap.size+2,4,none⟩=some (.slice none 0 0):=cK b5 (by simp[go_sem,x0,x1,x2,x3,x4,q0,q1,q2,q3,q4,p0,p1,p2,p3,p4]);have t1:∀o,w5.frozen? ⟨w.heap.size+1,o,none⟩=false:=fun o=>by rw[f5 _ _ (by simp;try omega)];simp[go_sem,qf]
 have t2:∀o,w5.frozen? ⟨w.heap.size+2,o,none⟩=false:=fun o=>by rw[f5 _ _ (by simp;try omega)];simp[go_sem,pf]
 clear x0 x1 x2 x3 x4 q0 q1 q2 q3 q4 p0 p1 p2 p3 p4 qf pf;clear c5 f5;have x0:=y0;have x1:=y1;have x2:=y2;have x3:=y3;have x4:=y4;have q0:=r0;have q1:=r1;have q2:=r2;have q3:=r3;have q4:=r4;have p0:=s0;have p1:=s1;have p2:=s2;have p3:=s3;have p4:=s4;have qf:=t1;have pf:=t2;clear t1 t2 y0 y1 y2 y3 y4 r0 r1 r2 r3 r4 s0 s1 s2 s3 s4;clear b5 hB4;go_wp2;refine bodyPost_ret (v:=.agg #[.slice a1 d.cons.length n1,.slice a2 d.shards.length n2,.slice a3 d.accs.length n3,.slice a4 d.ldrs.length n4,.slice a5 d.msgs.length n5]) ?_ rfl ⟨_,fun b=>F1 b∨F2 b∨F3 b∨F4 b∨F5 b,rfl,⟨_,_,_,_,_,F1,F2,F3,F4,F5,rfl,contsR.base (base:=w.heap.size+3) (by(repeat (first|refine Rep.set _ ?_ _ (by simp;omega)|refine Rep.set _ ?_ _ (by simp)|refine Rep.alloc _ ?_ _|assumption))) oM,shdsR.base (base:=w.heap.size+3) (by(repeat (first|refine Rep.set _ ?_ _ (by simp;omega)|refine Rep.set _ ?_ _ (by simp)|refine Rep.alloc _ ?_ _|assumption))) oM,accsR.base (base:=w.heap.size+3) (by(repeat (first|refine Rep.set _ ?_ _ (by simp;omega)|refine Rep.set _ ?_ _ (by simp)|refine Rep.alloc _ ?_ _|assumption))) oM,ldrsR.base (base:=w.heap.size+3) (by(repeat (first|refine Rep.set _ ?_ _ (by simp;omega)|refine Rep.set _ ?_ _ (by simp)|refine Rep.alloc _ ?_ _|assumption))) oM,msgsR.base (base:=w.heap.size+3) (by(repeat (first|refine Rep.set _ ?_ _ (by simp;omega)|refine Rep.set _ ?_ _ (by simp)|refine Rep.alloc _ ?_ _|assumption))) oM,fun b p q=>by have:=(l1 b p).2;have:=(l2 b q).1;omega,fun b p q=>by have:=(l1 b p).2;have:=(l3 b q).1;omega,fun b p q=>by have:=(l1 b p).2;have:=(l4 b q).1;omega,fun b p q=>by have:=(l1 b p).2;have:=(l5 b q).1;omega,fun b p q=>by have:=(l2 b p).2;have:=(l3 b q).1;omega,fun b p q=>by have:=(l2 b p).2;have:=(l4 b q).1;omega,fun b p q=>by have:=(l2 b p).2;have:=(l5 b q).1;omega,fun b p q=>by have:=(l3 b p).2;have:=(l4 b q).1;omega,fun b p q=>by have:=(l3 b p).2;have:=(l5 b q).1;omega,fun b p q=>by have:=(l4 b p).2;have:=(l5 b q).1;omega,fun b=>Iff.rfl⟩,qS⟩
 simp[results,Tryz.results7,go_sem,q0,q1,q2,q3,q4,p0,p1,p2,p3,p4,qf,pf]
theorem fMe (x:Value) (d:Clu) (left:Int) (w:World) (hx:cluR.V w x d) (h0:0≤left) (h1:left≤1048576) :
  RI 5 #[x,.int .i64 left] w (.int .i64 (fU left (tH d))):=by
 obtain⟨u1,u2,u3,u4,u5,rfl,k1,k2,k3,k4,k5⟩:=hx;go_enter Tryz.func5,Tryz.ntmps5;go_wp2_with fail;refine(fAq _ d.cons left _ (contsR.below k1 qBq) h0 h1).mono ?_;rintro e w1 ⟨rfl,b1⟩;have x0:w1.cell? ⟨w.heap.size,0,none⟩=some (u1):=cK b1 sG;have x1:w1.cell? ⟨w.heap.size,1,none⟩=some (u2):=cK b1 sG;have x2:w1.cell? ⟨w.heap.size,2,none⟩=some (u3):=cK b1 sG;have x3:w1.cell? ⟨w.heap.size,3,none⟩=some (u4):=cK b1 sG;have x4:w1.cell? ⟨w.heap.size,4,none⟩=some (u5):=cK b1 sG;go_wp2_with fail
 ·rename_i h;go_ret;refine⟨?_,qBq⟩;rw[kS (n:=gX d.cons) oM (tH d) (by unfold tH;omega)];rfl
 rename_i h;refine(fQk _ d.shards (fU left (gX d.cons:Nat)) _ (shdsR.below k2 qBq) oM (by have:=rO (n:=gX d.cons) h0;omega)).mono ?_;rintro e w2 ⟨rfl,b2⟩;replace x0:w2.cell? ⟨w.heap.size,0,none⟩=some (u1):=cK b2 x0;replace x1:w2.cell? ⟨w.heap.size,1,none⟩=some (u2):=cK b2 x1;replace x2:w2.cell? ⟨w.heap.size,2,none⟩=some (u3):=cK b2 x2;replace x3:w2.cell? ⟨w.heap.size,3,none⟩=some (u4):=cK b2 x3;replace x4:w2.cell? ⟨w.heap.size,4,none⟩=some (u5):=cK b2 x4;rw[pY (n:=gX d.cons) oM];go_wp2_with fail
 ·rename_i h;go_ret;refine⟨?_,qBq⟩;rw[kS (n:=gX d.cons+qX d.shards) (by first|omega|(rw[Int.natCast_add];omega)) (tH d) (by unfold tH;omega)];rfl
 rename_i h;refine(fG0 _ d.accs (fU left (gX d.cons+qX d.shards:Nat)) _ (accsR.below k3 qBq) (by first|omega|(simp only[Int.natCast_add] at *;omega)) (by have:=rO (n:=gX d.cons+qX d.shards) h0;omega)).mono ?_;rintro e w3 ⟨rfl,b3⟩;replace x0:w3.cell? ⟨w.heap.size,0,none⟩=some (u1):=cK b3 x0;replace x1:w3.cell? ⟨w.heap.size,1,none⟩=some (u2):=cK b3 x1;replace x2:w3.cell? ⟨w.heap.size,2,none⟩=some (u3):=cK b3 x2;replace x3:w3.cell? ⟨w.heap.size,3,none⟩=some (u4):=cK b3 x3;replace x4:w3.cell? ⟨w.heap.size,4,none⟩=some (u5):=cK b3 x4;rw[pY (n:=gX d.cons+qX d.shards) (by first|omega|(simp only[Int.natCast_add] at *;omega))];go_wp2_with fail
 ·rename_i h;go_ret;refine⟨?_,qBq⟩;rw[kS (n:=gX d.cons+qX d.shards+uN d.accs) (by first|omega|(simp only[Int.natCast_add] at *;omega)) (tH d) (by unfold tH;omega)];rfl
 rename_i h;refine(fMf _ d.ldrs (fU left (gX d.cons+qX d.shards+uN d.accs:Nat)) _ (ldrsR.below k4 qBq) (by first|omega|(simp only[Int.natCast_add] at *;omega)) (by have:=rO (n:=gX d.cons+qX d.shards+uN d.accs) h0;omega)).mono ?_;rintro e w4 ⟨rfl,b4⟩;replace x0:w4.cell? ⟨w.heap.size,0,none⟩=some (u1):=cK b4 x0;replace x1:w4.cell? ⟨w.heap.size,1,none⟩=some (u2):=cK b4 x1;replace x2:w4.cell? ⟨w.heap.size,2,none⟩=some (u3):=cK b4 x2;replace x3:w4.cell? ⟨w.heap.size,3,none⟩=some (u4):=cK b4 x3;replace x4:w4.cell? ⟨w.heap.size,4,none⟩=some (u5):=cK b4 x4;rw[pY (n:=gX d.cons+qX d.shards+uN d.accs) (by first|omega|(simp only[Int.natCast_add] at *;omega))];go_wp2_with fail
 ·rename_i h;go_ret;refine⟨?_,qBq⟩;rw[kS (n:=gX d.cons+qX d.shards+uN d.accs+xX d.ldrs) (by first|omega|(simp only[Int.natCast_add] at *;omega)) (tH d) (by unfold tH;omega)];rfl
 rename_i h;refine(fJ2 _ d.msgs (fU left (gX d.cons+qX d.shards+uN d.accs+xX d.ldrs:Nat)) _ (msgsR.below k5 qBq) (by first|omega|(simp only[Int.natCast_add] at *;omega)) (by have:=rO (n:=gX d.cons+qX d.shards+uN d.accs+xX d.ldrs) h0;omega)).mono ?_;rintro e w5 ⟨rfl,b5⟩;rw[pY (n:=gX d.cons+qX d.shards+uN d.accs+xX d.ldrs) (by first|omega|(simp only[Int.natCast_add] at *;omega))];go_wp2
 ·rename_i h;go_ret;refine⟨?_,qBq⟩;rw[kS (n:=gX d.cons+qX d.shards+uN d.accs+xX d.ldrs+fOb d.msgs) (by first|omega|(simp only[Int.natCast_add] at *;omega)) (tH d) (by unfold tH;omega)];rfl
 rename_i h;go_ret;exact⟨rfl,qBq⟩
theorem fK0 (x y:Value) (d d':Clu) (w:World) (hx:cluR.V w x d) (hy:cluR.V w y d') :
  RI 9 #[x,y] w (.bool (decide (d=d'))):=by
 obtain⟨u1,u2,u3,u4,u5,rfl,h1,h2,h3,h4,h5⟩:=hx;obtain⟨v1,v2,v3,v4,v5,rfl,k1,k2,k3,k4,k5⟩:=hy;obtain⟨cons,shards,accs,ldrs,msgs⟩:=d;obtain⟨cons',shards',accs',ldrs',msgs'⟩:=d';dsimp only at h1 k1 h2 k2 h3 k3 h4 k4 h5 k5;go_enter Tryz.func9,Tryz.ntmps9;go_wp2_with fail;all_goals try (go_ret;exact⟨by simp_all,qBq⟩)
 refine(zP _ _ cons cons' _ (contsR.below h1 qBq) (contsR.below k1 qBq)).mono ?_;rintro e w1 ⟨rfl,b1⟩;have x0:w1.cell? ⟨w.heap.size,0,none⟩=some (u1):=cK b1 sG;have x1:w1.cell? ⟨w.heap.size,1,none⟩=some (u2):=cK b1 sG;have x2:w1.cell? ⟨w.heap.size,2,none⟩=some (u3):=cK b1 sG;have x3:w1.cell? ⟨w.heap.size,3,none⟩=some (u4):=cK b1 sG;have x4:w1.cell? ⟨w.heap.size,4,none⟩=some (u5):=cK b1 sG;have y0:w1.cell? ⟨w.heap.size+1,0,none⟩=some (v1):=cK b1 sG;have y1:w1.cell? ⟨w.heap.size+1,1,none⟩=some (v2):=cK b1 sG;have y2:w1.cell? ⟨w.heap.size+1,2,none⟩=some (v3):=cK b1 sG;have y3:w1.cell? ⟨w.heap.size+1,3,none⟩=some (v4):=cK b1 sG;have y4:w1.cell? ⟨w.heap.size+1,4,none⟩=some (v5):=cK b1 sG;go_wp2_with fail;all_goals try (go_ret;exact⟨by simp_all,qBq⟩)
 refine(fO5 _ _ shards shards' _ (shdsR.below h2 qBq) (shdsR.below k2 qBq)).mono ?_;rintro e w2 ⟨rfl,b2⟩;replace x0:w2.cell? ⟨w.heap.size,0,none⟩=some (u1):=cK b2 x0;replace x1:w2.cell? ⟨w.heap.size,1,none⟩=some (u2):=cK b2 x1;replace x2:w2.cell? ⟨w.heap.size,2,none⟩=some (u3):=cK b2 x2;replace x3:w2.cell? ⟨w.heap.size,3,none⟩=some (u4):=cK b2 x3;replace x4:w2.cell? ⟨w.heap.size,4,none⟩=some (u5):=cK b2 x4;replace y0:w2.cell? ⟨w.heap.size+1,0,none⟩=some (v1):=cK b2 y0;replace y1:w2.cell? ⟨w.heap.size+1,1,none⟩=some (v2):=cK b2 y1;replace y2:w2.cell? ⟨w.heap.size+1,2,none⟩=some (v3):=cK b2 y2;replace y3:w2.cell? ⟨w.heap.size+1,3,none⟩=some (v4):=cK b2 y3;replace y4:w2.cell? ⟨w.heap.size+1,4,none⟩=some (v5):=cK b2 y4;go_wp2_with fail;all_goals try (go_ret;exact⟨by simp_all,qBq⟩)
 refine(fFs _ _ accs accs' _ (accsR.below h3 qBq) (accsR.below k3 qBq)).mono ?_;rintro e w3 ⟨rfl,b3⟩;replace x0:w3.cell? ⟨w.heap.size,0,none⟩=some (u1):=cK b3 x0;replace x1:w3.cell? ⟨w.heap.size,1,none⟩=some (u2):=cK b3 x1;replace x2:w3.cell? ⟨w.heap.size,2,none⟩=some (u3):=cK b3 x2;replace x3:w3.cell? ⟨w.heap.size,3,none⟩=some (u4):=cK b3 x3;replace x4:w3.cell? ⟨w.heap.size,4,none⟩=some (u5):=cK b3 x4;replace y0:w3.cell? ⟨w.heap.size+1,0,none⟩=some (v1):=cK b3 y0;replace y1:w3.cell? ⟨w.heap.size+1,1,none⟩=some (v2):=cK b3 y1;replace y2:w3.cell? ⟨w.heap.size+1,2,none⟩=some (v3):=cK b3 y2;replace y3:w3.cell? ⟨w.heap.size+1,3,none⟩=some (v4):=cK b3 y3;replace y4:w3.cell? ⟨w.heap.size+1,4,none⟩=some (v5):=cK b3 y4;go_wp2_with fail;all_goals try (go_ret;exact⟨by simp_all,qBq⟩)
 refine(fK2 _ _ ldrs ldrs' _ (ldrsR.below h4 qBq) (ldrsR.below k4 qBq)).mono ?_;rintro e w4 ⟨rfl,b4⟩;replace x0:w4.cell? ⟨w.heap.size,0,none⟩=some (u1):=cK b4 x0;replace x1:w4.cell? ⟨w.heap.size,1,none⟩=some (u2):=cK b4 x1;replace x2:w4.cell? ⟨w.heap.size,2,none⟩=some (u3):=cK b4 x2;replace x3:w4.cell? ⟨w.heap.size,3,none⟩=some (u4):=cK b4 x3;replace x4:w4.cell? ⟨w.heap.size,4,none⟩=some (u5):=cK b4 x4;replace y0:w4.cell? ⟨w.heap.size+1,0,none⟩=some (v1):=cK b4 y0;replace y1:w4.cell? ⟨w.heap.size+1,1,none⟩=some (v2):=cK b4 y1;replace y2:w4.cell? ⟨w.heap.size+1,2,none⟩=some (v3):=cK b4 y2;replace y3:w4.cell? ⟨w.heap.size+1,3,none⟩=some (v4):=cK b4 y3;replace y4:w4.cell? ⟨w.heap.size+1,4,none⟩=some (v5):=cK b4 y4;go_wp2_with fail;all_goals try (go_ret;exact⟨by simp_all,qBq⟩)
 refine(fH6 _ _ msgs msgs' _ (msgsR.below h5 qBq) (msgsR.below k5 qBq)).mono ?_;rintro e w5 ⟨rfl,b5⟩;go_wp2;all_goals
  go_ret;exact⟨by simp_all,qBq⟩
end
end Go.Proofs.YtbfnobcidnmohaaGreat

import Derived.Test.YtbfnobcidnmohaaGreatPrnSafeClusterLaw2
set_option maxHeartbeats 2000000
set_option linter.unusedSectionVars false
set_option linter.unusedSimpArgs false
namespace Go.Proofs.YtbfnobcidnmohaaGreat
open Go.RowKit
attribute [local go_sem ↓] Go.wp_at_zero Go.wp_at_succ
section
variable [dQ Bal] [iH Bal] [dQ Mrk] [iH Mrk] [dQ Leg] [iH Leg] [dQ Cont] [iH Cont] [dQ Shd] [iH Shd]
def shdsR:Rep (List Shd):=nRep shdR 71 6 fXt
def qX (xs:List Shd):Nat:=wtL qM xs
theorem xP {w:World} {v:Value} {xs:List Shd} (h:shdsR.V w v xs):∃a c,v =.slice a xs.length c:=by
 obtain⟨a,c,rfl,_⟩:=h;exact⟨_,_,rfl⟩
theorem fUa:(Tryz.prog.info? 71).map (fun i=>(i.zero,i.size,i.bytes))=some (some (.agg #[.int .i64 0,.slice none 0 0,.slice none 0 0,.slice none 0 0,.slice none 0 0,.slice none 0 0]),6,128):=kF
theorem fUe {w w':World} {a0 a1 a2 a3 a4 a5 a6 a7 a8 a9 a10 a11:Addr} {x0 x1 x2 x3 x4 x5 x6 x7 x8 x9 x10 x11:Value} (hb:Below w.heap.size w w') (g0:w.cell? a0=some x0) (g1:w.cell? a1=some x1) (g2:w.cell? a2=some x2) (g3:w.cell? a3=some x3) (g4:w.cell? a4=some x4) (g5:w.cell? a5=some x5) (g6:w.cell? a6=some x6) (g7:w.cell? a7=some x7) (g8:w.cell? a8=some x8) (g9:w.cell? a9=some x9) (g10:w.cell? a10=some x10) (g11:w.cell? a11=some x11):Below w.heap.size w w'∧w'.cell? a0=some x0∧w'.cell? a1=some x1∧w'.cell? a2=some x2∧w'.cell? a3=some x3∧w'.cell? a4=some x4∧w'.cell? a5=some x5∧w'.cell? a6=some x6∧w'.cell? a7=some x7∧w'.cell? a8=some x8∧w'.cell? a9=some x9∧w'.cell? a10=some x10∧w'.cell? a11=some x11:=
 ⟨hb,cK hb g0,cK hb g1,cK hb g2,cK hb g3,cK hb g4,cK hb g5,cK hb g6,cK hb g7,cK hb g8,cK hb g9,cK hb g10,cK hb g11⟩
theorem fO5 (x y:Value) (xs ys:List Shd) (w:World) (hx:shdsR.V w x xs) (hy:shdsR.V w y ys) :
  RI 37 #[x,y] w (.bool (decide (xs=ys))):=by
 obtain⟨ax,cx,rfl,hcx,hmx,hx⟩:=hx;obtain⟨ay,cy,rfl,hcy,hmy,hy⟩:=hy;unfold maxLen at hmx hmy;by_cases hl:ys.length=xs.length
 ·
  rw[hl] at hcy hy ⊢;have HL:Hid (ys.length=xs.length):=hl;clear hl;generalize hn:xs.length=n at *;have HN:Hid (xs.length=n):=hn;clear hn;go_enter Tryz.func37,Tryz.ntmps37;go_wp2;go_loopw [5] (fun i w'=>∃k:Nat,k≤n∧i =.int .i64 k∧(∀j,j<k→xs.getD j default=ys.getD j default)∧Below w.heap.size w w') (fun i _=>n-(intOf i).toNat)
  case atStart=>exact⟨0,oM,rfl,fun j h=>absurd h oM,bR _ _⟩
  obtain⟨k,hk,rfl,hpre,hbl⟩:=hrel;have HP:Hid (∀j,j<k→xs.getD j default=ys.getD j default):=hpre;clear hpre;by_cases hlt:k<n
  ·
   obtain⟨bx,ox,ux,rfl,_,p1,hvx⟩:=hx k hlt;obtain⟨b2,oy,uy,rfl,_,p2,hvy⟩:=hy k hlt;obtain⟨l1,hl1⟩:∃l,l=xs.getD k default:=⟨_,rfl⟩
   obtain⟨l2,hl2⟩:∃l,l=ys.getD k default:=⟨_,rfl⟩
   rw[←hl1] at hvx;rw[←hl2] at hvy;have H1:Hid (l1=xs.getD k default):=hl1;have H2:Hid (l2=ys.getD k default):=hl2;have hvx':=hvx;obtain⟨ux1,ux2,ux3,ux4,ux5,rfl,_,_,_,_,_⟩:=hvx';have hvy':=hvy;obtain⟨uy1,uy2,uy3,uy4,uy5,rfl,_,_,_,_,_⟩:=hvy';have g0:w.cell? ⟨bx,ox+k*6,none⟩=some (.int .i64 l1.idx):=p1 0 oM;have g1:w.cell? ⟨bx,ox+k*6+1,none⟩=some (ux1):=p1 1 oM;have g2:w.cell? ⟨bx,ox+k*6+2,none⟩=some (ux2):=p1 2 oM;have g3:w.cell? ⟨bx,ox+k*6+3,none⟩=some (ux3):=p1 3 oM;have g4:w.cell? ⟨bx,ox+k*6+4,none⟩=some (ux4):=p1 4 oM;have g5:w.cell? ⟨bx,ox+k*6+5,none⟩=some (ux5):=p1 5 oM;have g6:w.cell? ⟨b2,oy+k*6,none⟩=some (.int .i64 l2.idx):=p2 0 oM;have g7:w.cell? ⟨b2,oy+k*6+1,none⟩=some (uy1):=p2 1 oM;have g8:w.cell? ⟨b2,oy+k*6+2,none⟩=some (uy2):=p2 2 oM;have g9:w.cell? ⟨b2,oy+k*6+3,none⟩=some (uy3):=p2 3 oM;have g10:w.cell? ⟨b2,oy+k*6+4,none⟩=some (uy4):=p2 4 oM;have g11:w.cell? ⟨b2,oy+k*6+5,none⟩=some (uy5):=p2 5 oM;clear hl1 hl2 hx hy p1 p2;go_wp2;go_region_held3 (fun w'=>Below w.heap.size w w'∧w'.cell? ⟨bx,ox+k*6,none⟩=some (.int .i64 l1.idx)∧w'.cell? ⟨bx,ox+k*6+1,none⟩=some (ux1)∧w'.cell? ⟨bx,ox+k*6+2,none⟩=some (ux2)∧w'.cell? ⟨bx,ox+k*6+3,none⟩=some (ux3)∧w'.cell? ⟨bx,ox+k*6+4,none⟩=some (ux4)∧w'.cell? ⟨bx,ox+k*6+5,none⟩=some (ux5)∧w'.cell? ⟨b2,oy+k*6,none⟩=some (.int .i64 l2.idx)∧w'.cell? ⟨b2,oy+k*6+1,none⟩=some (uy1)∧w'.cell? ⟨b2,oy+k*6+2,none⟩=some (uy2)∧w'.cell? ⟨b2,oy+k*6+3,none⟩=some (uy3)∧w'.cell? ⟨b2,oy+k*6+4,none⟩=some (uy4)∧w'.cell? ⟨b2,oy+k*6+5,none⟩=some (uy5)) ((refine fUe ?_ g0 g1 g2 g3 g4 g5 g6 g7 g8 g9 g10 g11;(repeat (first|exact bR _ _|assumption|refine bD ?_|refine bA ?_ _|refine bS ?_ (by assumption))))) (first|(go_at_call 93;refine(fRo (.agg #[.int .i64 l1.idx,ux1,ux2,ux3,ux4,ux5]) (.agg #[.int .i64 l2.idx,uy1,uy2,uy3,uy4,uy5]) l1 l2 _ (shdR.below hvx qT) (shdR.below hvy qT)).mono ?_;rintro e w' ⟨rfl,hb1⟩))
   rename_i hH;have hB:=hH.1;clear hH;go_wp2
   ·
    rename_i hle;go_ret;refine⟨?_,hB⟩;have:¬xs=ys:=fun h=>by
     have:l1=l2:=by rw[H1.out,H2.out,h]
     simp[this] at hle
    simp[this]
   rename_i hle;refine⟨⟨k+1,by omega,by go_num,fun j hj=>?_,hB⟩,mI⟩;by_cases hjk:j<k
   ·exact HP.out j hjk
   have:j=k:=oM;subst this;rw[←H1.out,←H2.out];simpa using hle
  go_wp2;go_ret;have:k=n:=oM;subst this;refine⟨?_,hbl⟩;have:xs=ys:=uA (by rw[HL.out,HN.out]) (by rw[HN.out];exact HP.out);simp[this]
 go_enter Tryz.func37,Tryz.ntmps37;have hl':((xs.length:Int)==(ys.length:Int))=false:=by simp;omega
 go_wp2;go_ret;have:¬xs=ys:=fun h=>hl (by rw[h])
 exact⟨by simp[this],bR _ _⟩
theorem fQt (x:Value) (xs:List Shd) (w:World) (hx:shdsR.V w x xs) (hn:qX xs≤1048576) :
  Calls Tryz.prog 28 #[x] w fun e w'=>∃v F,e =.returned v∧shdsR.O w' w.heap.size F v xs∧Below w.heap.size w w':=by
 obtain⟨ax,cx,rfl,hcx,hmx,hx⟩:=hx;unfold maxLen at hmx;unfold qX at hn;have hlen:xs.length≤1048576:=by unfold wtL at hn;omega
 have hW:∀k,k<xs.length→qM (xs.getD k default)≤1048576:=fun k hk=>(fEn hn hk).1
 obtain⟨i0,hi,hz0,hz1,hz2⟩:=info_parts fUa;obtain⟨w1,hmk,hown,hgr⟩:=run_make_full (P:=Tryz.prog) w w.heap.size 32 71 i0 _ 6 Tryz.underlying32 hi hz0 hz1 .i64 .i64 xs.length (by rw[hz2];omega) (by unfold maxLen;omega) (Nat.le_refl _);have hbl0:Below w.heap.size w w1:=(bR _ _).grown hgr (Nat.le_refl _) (fun k h=>by cases h);clear hn;generalize hn':xs.length=n at *;have HN:Hid (xs.length=n):=hn';clear hn';go_enter Tryz.func28,Tryz.ntmps28;go_wp2;go_loopw [4] (fun i w'=>∃(k:Nat) (cs:List Value) (us:Nat→Value) (fs:Nat→Nat→Prop),k≤n∧i =.int .i64 k∧PO shdR 71 6 fXt w' w.heap.size (.slice (some ⟨w.heap.size,0,none⟩) n n) n k (fun i=>xs.getD i default) cs us fs∧Below w.heap.size w w') (fun i _=>n-(intOf i).toNat)
 case atStart=>exact⟨0,_,fun _=>.int .i64 0,fun _ _=>False,Nat.zero_le _,rfl,⟨hown,fun i h=>oM,fun i h=>oM,fun i h=>oM,fun i h=>oM,fun i j h=>oM⟩,hbl0⟩
 obtain⟨k,cs,us,fs,hk,rfl,hp,hbl⟩:=hrel;clear hown hmk hgr hbl0;by_cases hlt:k<n
 ·
  obtain⟨bx,ox,ux,rfl,_,p1,hvx⟩:=hx k hlt;have hw:=hW k hlt;obtain⟨l,hl⟩:∃l,l=xs.getD k default:=⟨_,rfl⟩
  rw[←hl] at hvx hw;have HL:Hid (l=xs.getD k default):=hl;have hvx':=hvx;obtain⟨ux1,ux2,ux3,ux4,ux5,rfl,_,_,_,_,_⟩:=hvx';have g0:w.cell? ⟨bx,ox+k*6,none⟩=some (.int .i64 l.idx):=p1 0 oM;replace g0:=cK hbl g0;have g1:w.cell? ⟨bx,ox+k*6+1,none⟩=some (ux1):=p1 1 oM;replace g1:=cK hbl g1;have g2:w.cell? ⟨bx,ox+k*6+2,none⟩=some (ux2):=p1 2 oM;replace g2:=cK hbl g2;have g3:w.cell? ⟨bx,ox+k*6+3,none⟩=some (ux3):=p1 3 oM;replace g3:=cK hbl g3;have g4:w.cell? ⟨bx,ox+k*6+4,none⟩=some (ux4):=p1 4 oM;replace g4:=cK hbl g4;have g5:w.cell? ⟨bx,ox+k*6+5,none⟩=some (ux5):=p1 5 oM;replace g5:=cK hbl g5;clear hx p1 hW hl;go_wp2_with fail;refine(fS4 (.agg #[.int .i64 l.idx,ux1,ux2,ux3,ux4,ux5]) l _ (shdR.below hvx qT) hw).mono ?_;rintro e wa ⟨v1,F1,rfl,o1,b1⟩;have ofm1:=shdR.ofO o1;obtain⟨x1_1,x1_2,x1_3,x1_4,x1_5,rfl,y1_1,y1_2,y1_3,y1_4,y1_5⟩:=ofm1;obtain⟨a1_1,n1_1,rfl⟩:=gU y1_1;obtain⟨a1_2,n1_2,rfl⟩:=fT y1_2;obtain⟨a1_3,n1_3,rfl⟩:=gG y1_3;obtain⟨a1_4,n1_4,rfl⟩:=fT y1_4;obtain⟨a1_5,n1_5,rfl⟩:=gZ y1_5;have ho1:=(hp.keep b1).row;obtain⟨y0,q0⟩:=fH ho1 (k*6) oM;obtain⟨y1,q1⟩:=fH ho1 (k*6+1) oM;obtain⟨y2,q2⟩:=fH ho1 (k*6+2) oM;obtain⟨y3,q3⟩:=fH ho1 (k*6+3) oM;obtain⟨y4,q4⟩:=fH ho1 (k*6+4) oM;obtain⟨y5,q5⟩:=fH ho1 (k*6+5) oM;have hf:=fun j=>ho1.frozenAt j
  go_wp2;have s0:=ho1.stored (k*6) (.int .i64 l.idx);have s1:=s0.1.stored (k*6+1) (.slice a1_1 l.bals.length n1_1);have s2:=s1.1.stored (k*6+2) (.slice a1_2 l.votes.length n1_2);have s3:=s2.1.stored (k*6+3) (.slice a1_3 l.held.length n1_3);have s4:=s3.1.stored (k*6+4) (.slice a1_4 l.done.length n1_4);have s5:=s4.1.stored (k*6+5) (.slice a1_5 l.appl.length n1_5);have hrow:World.ownsRow _ w.heap.size 71 6 (.slice (some ⟨w.heap.size,0,none⟩) n n) n (setRow cs (k*6) [.int .i64 l.idx,.slice a1_1 l.bals.length n1_1,.slice a1_2 l.votes.length n1_2,.slice a1_3 l.held.length n1_3,.slice a1_4 l.done.length n1_4,.slice a1_5 l.appl.length n1_5]):=s5.1;have hcl:=hp.row.1;refine⟨⟨k+1,_,_,_,by omega,by go_num,hp.push (u:=(.agg #[.int .i64 l.idx,.slice a1_1 l.bals.length n1_1,.slice a1_2 l.votes.length n1_2,.slice a1_3 l.held.length n1_3,.slice a1_4 l.done.length n1_4,.slice a1_5 l.appl.length n1_5])) (F:=F1) hbl.size b1 (by rw[←HL.out];exact o1) rfl hrow ((((((Mod.of_grown s0.2).trans (Mod.of_grown s1.2)).trans (Mod.of_grown s2.2)).trans (Mod.of_grown s3.2)).trans (Mod.of_grown s4.2)).trans (Mod.of_grown s5.2)) ?_ ?_,?_⟩,mI⟩
  ·intro i hi j hj;exact qJ _ _ _ _ (.inl oM)
  ·intro j hj;exact rD _ _ _ _ (by simp only[List.length_cons,List.length_nil];omega) hj
  exact(((((((bS hbl b1).setCell (Nat.le_refl _) _).setCell (Nat.le_refl _) _).setCell (Nat.le_refl _) _).setCell (Nat.le_refl _) _).setCell (Nat.le_refl _) _).setCell (Nat.le_refl _) _)
 go_wp2;go_ret;have hkn:k=n:=oM;subst hkn;have e:=HN.out;subst e;exact⟨_,_,rfl,⟨cs,us,fs,hp,fun b=>Iff.rfl⟩,hbl⟩
theorem fQk (x:Value) (xs:List Shd) (left:Int) (w:World) (hx:shdsR.V w x xs) (h0:0≤left) (h1:left≤1048576) :
  RI 16 #[x,.int .i64 left] w (.int .i64 (fU left (qX xs))):=by
 obtain⟨ax,cx,rfl,hcx,hmx,hx⟩:=hx;unfold maxLen at hmx;unfold qX wtL;have HT:Hid (∀k,k<xs.length→gH qM (k+1) xs=gH qM k xs+qM (xs.getD k default)∧gH qM (k+1) xs≤gH qM xs.length xs):=
  fun k hk=>⟨qH _ k xs hk,uK _ _ _ _ hk⟩
 generalize xs.length=n at *;by_cases h:left<n
 ·have h':left-(n:Int)<0:=oM;clear hx;go_enter Tryz.func16,Tryz.ntmps16;go_wp2;go_ret;exact⟨by simp only[fU];rw[if_pos oM];rfl,bR _ _⟩
 have h':¬left-(n:Int)<0:=oM;go_enter Tryz.func16,Tryz.ntmps16;go_wp2;go_loopw [1,5] (fun l i w'=>∃k:Nat,k≤n∧i =.int .i64 k∧l =.int .i64 (left-n-gH qM k xs)∧0≤left-n-gH qM k xs∧Below w.heap.size w w') (fun _ i _=>n-(intOf i).toNat)
 case atStart=>exact⟨0,oM,rfl,by simp[gH],by simp[gH];omega,bR _ _⟩
 obtain⟨k,hk,rfl,rfl,hpos,hbl⟩:=hrel;by_cases hlt:k<n
 ·
  obtain⟨bx,ox,ux,rfl,_,p1,hvx⟩:=hx k hlt;obtain⟨t2,t3⟩:=HT.out k hlt;generalize xs.getD k default=l at *;have hvx':=hvx;obtain⟨ux1,ux2,ux3,ux4,ux5,rfl,_,_,_,_,_⟩:=hvx';have g0:w.cell? ⟨bx,ox+k*6,none⟩=some (.int .i64 l.idx):=p1 0 oM;replace g0:=cK hbl g0;have g1:w.cell? ⟨bx,ox+k*6+1,none⟩=some (ux1):=p1 1 oM;replace g1:=cK hbl g1;have g2:w.cell? ⟨bx,ox+k*6+2,none⟩=some (ux2):=p1 2 oM;replace g2:=cK hbl g2;have g3:w.cell? ⟨bx,ox+k*6+3,none⟩=some (ux3):=p1 3 oM;replace g3:=cK hbl g3;have g4:w.cell? ⟨bx,ox+k*6+4,none⟩=some (ux4):=p1 4 oM;replace g4:=cK hbl g4;have g5:w.cell? ⟨bx,ox+k*6+5,none⟩=some (ux5):=p1 5 oM;replace g5:=cK hbl g5;generalize hm:qM l=m at *;have HM:Hid (qM l=m):=hm;clear hx p1 hm;generalize gH qM k xs=c at *;go_wp2_with fail;refine(fS1 (.agg #[.int .i64 l.idx,ux1,ux2,ux3,ux4,ux5]) l (left-n-c) _ (shdR.below hvx qT) hpos oM).mono ?_;rintro e wa ⟨rfl,b1⟩;rw[HM.out];go_wp2
  ·
   rename_i hneg;go_ret;refine⟨?_,qT⟩;have:fU left ↑(n+gH qM n xs) = -1:=by
    unfold fU at hneg ⊢;rw[if_pos (by split at hneg <;> omega)]
   rw[this];rfl
  rename_i hneg;refine⟨⟨k+1,by omega,by go_num,?_,?_,qT⟩,mI⟩
  ·
   congr 1
   unfold fU at hneg ⊢;split at hneg <;> omega
  unfold fU at hneg;split at hneg <;> omega
 go_wp2;go_ret;have hkn:k=n:=oM;subst hkn;refine⟨?_,hbl⟩;have:fU left ↑(k+gH qM k xs)=left-k-gH qM k xs:=by
  unfold fU;rw[if_neg oM];omega
 rw[this];rfl
end
section
structure Vot where
 bal:Int
 val:Int
variable [dQ Vot] [iH Vot]
def votV (x:Vot):Value:=.agg #[.int .i64 x.bal,.int .i64 x.val]
theorem fBe (x:Vot) (w:World) :
  RI 143 #[votV x] w (votV x):=by
 obtain⟨a,b⟩:=x;unfold votV;go_enter Tryz.func143,Tryz.ntmps143;go_wp2;exact bodyPost_ret (v:=.agg #[.int .i64 a,.int .i64 b]) (by simp[results,Tryz.results143,go_sem]) rfl ⟨rfl,bA (bA (bA (bR _ _) _) _) _⟩
theorem fAz (x y:Vot) (w:World) :
  RI 178 #[votV x,votV y] w (.bool (decide (x=y))):=by
 obtain⟨a,b⟩:=x;obtain⟨a',b'⟩:=y;unfold votV;go_enter Tryz.func178,Tryz.ntmps178;go_wp2;all_goals
  go_ret;exact⟨by simp_all,bA (bA (bR _ _) _) _⟩
def rP (w:World) (b o:Nat) (x:Vot):Prop:=w.cell? ⟨b,o,none⟩=some (.int .i64 x.bal)∧w.cell? ⟨b,o+1,none⟩=some (.int .i64 x.val)
def fHf (w:World) (v:Value) (xs:List Vot):Prop:=
 ∃a cap,v =.slice a xs.length cap∧xs.length≤cap∧cap≤maxLen∧∀i,i<xs.length→∃b o,a=some ⟨b,o,none⟩∧rP w b (o+i*2) (xs.getD i default)
theorem gL {w w':World} {b o:Nat} {x:Vot} (hb:Below w.heap.size w w') (h:rP w b o x):rP w' b o x:=by
 obtain⟨h0,h1⟩:=h;exact⟨cK hb h0,cK hb h1⟩
theorem fKp {w w':World} {v:Value} {xs:List Vot} (h:fHf w v xs) (hb:Below w.heap.size w w'):fHf w' v xs:=by
 obtain⟨a,cap,rfl,h1,h2,h3⟩:=h;exact⟨a,cap,rfl,h1,h2,fun i hi=>by
  obtain⟨b,o,ha,hc⟩:=h3 i hi;exact⟨b,o,ha,gL hb hc⟩⟩
theorem fVt {w w':World} {b o b' o':Nat} {x y:Vot} (hb:Below w.heap.size w w') (h:rP w b o x) (h':rP w b' o' y) :
  Below w.heap.size w w'∧(w'.cell? ⟨b,o,none⟩=some (.int .i64 x.bal)∧w'.cell? ⟨b,o+1,none⟩=some (.int .i64 x.val))∧(w'.cell? ⟨b',o',none⟩=some (.int .i64 y.bal)∧w'.cell? ⟨b',o'+1,none⟩=some (.int .i64 y.val)):=
 ⟨hb,gL hb h,gL hb h'⟩
theorem fQy {xs ys:List Vot} (hl:ys.length=xs.length) (h:∀j,j<xs.length→xs.getD j default=ys.getD j default):xs=ys:=by
 apply List.ext_getElem oM;intro i h1 h2;have:=h i h1;simpa [List.getD,h1,h2] using this
theorem fK4 (x y:Value) (xs ys:List Vot) (w:World) (hx:fHf w x xs) (hy:fHf w y ys) :
  RI 293 #[x,y] w (.bool (decide (xs=ys))):=by
 obtain⟨ax,cx,rfl,hcx,hmx,hx⟩:=hx;obtain⟨ay,cy,rfl,hcy,hmy,hy⟩:=hy;unfold maxLen at hmx hmy;by_cases hl:ys.length=xs.length
 ·
  rw[hl] at hcy hy ⊢;have HL:Hid (ys.length=xs.length):=hl;clear hl;generalize hn:xs.length=n at *;have HN:Hid (xs.length=n):=hn;clear hn;go_enter Tryz.func293,Tryz.ntmps293;go_wp2;go_loopw [5] (fun i w'=>∃k:Nat,k≤n∧i =.int .i64 k∧(∀j,j<k→xs.getD j default=ys.getD j default)∧Below w.heap.size w w') (fun i _=>n-(intOf i).toNat)
  case atStart=>exact⟨0,oM,rfl,fun j h=>absurd h oM,bR _ _⟩
  obtain⟨k,hk,rfl,hpre,hbl⟩:=hrel;have HP:Hid (∀j,j<k→xs.getD j default=ys.getD j default):=hpre;clear hpre;by_cases hlt:k<n
  ·
   obtain⟨bx,ox,rfl,h1⟩:=hx k hlt;obtain⟨b2,oy,rfl,h2⟩:=hy k hlt;obtain⟨l1,hl1⟩:∃l,l=xs.getD k default:=⟨_,rfl⟩
   obtain⟨l2,hl2⟩:∃l,l=ys.getD k default:=⟨_,rfl⟩
   rw[←hl1] at h1;rw[←hl2] at h2;have H1:Hid (l1=xs.getD k default):=hl1;have H2:Hid (l2=ys.getD k default):=hl2;clear hl1 hl2 hx hy;go_wp2;go_region_held3 (fun w'=>Below w.heap.size w w'∧(w'.cell? ⟨bx,ox+k*2,none⟩=some (.int .i64 l1.bal)∧w'.cell? ⟨bx,ox+k*2+1,none⟩=some (.int .i64 l1.val))∧(w'.cell? ⟨b2,oy+k*2,none⟩=some (.int .i64 l2.bal)∧w'.cell? ⟨b2,oy+k*2+1,none⟩=some (.int .i64 l2.val))) ((refine fVt ?_ h1 h2;repeat (first|exact bR _ _|assumption|refine bD ?_|refine bA ?_ _|refine bS ?_ (by assumption)))) (first|(go_at_call 178;refine(fAz l1 l2 _).mono ?_;rintro e w' ⟨rfl,hb1⟩));rename_i hH;have hB:=hH.1;clear hH;go_wp2
   ·
    rename_i hle;go_ret;refine⟨?_,hB⟩;have:¬xs=ys:=fun h=>by
     have:l1=l2:=by rw[H1.out,H2.out,h]
     simp[this] at hle
    simp[this]
   rename_i hle;refine⟨⟨k+1,by omega,by go_num,fun j hj=>?_,hB⟩,mI⟩;by_cases hjk:j<k
   ·exact HP.out j hjk
   have:j=k:=oM;subst this;rw[←H1.out,←H2.out];simpa using hle
  go_wp2;go_ret;have:k=n:=oM;subst this;refine⟨?_,hbl⟩;have:xs=ys:=fQy (by rw[HL.out,HN.out]) (by rw[HN.out];exact HP.out);simp[this]
 go_enter Tryz.func293,Tryz.ntmps293;have hl':((xs.length:Int)==(ys.length:Int))=false:=by simp;omega
 go_wp2;go_ret;have:¬xs=ys:=fun h=>hl (by rw[h])
 exact⟨by simp[this],bR _ _⟩
def votC (x:Vot):List Value:=[.int .i64 x.bal,.int .i64 x.val]
def kJ (xs:List Vot):List Value:=xs.flatMap votC
theorem fLi:(Tryz.prog.info? 126).map (fun i=>(i.zero,i.size,i.bytes))=some (some (.agg #[.int .i64 0,.int .i64 0]),2,16):=kF
theorem rU (xs:List Vot):(kJ xs).length=xs.length*2:=by
 induction xs with
 | nil=>rfl
 | cons x r ih=>
  have e:kJ (x::r)=votC x++kJ r:=by simp[kJ]
  have l4:(votC x).length=2:=rfl;rw[e,List.length_append,l4,ih,List.length_cons];omega
theorem uC (xs:List Vot):∀i,i<xs.length→(kJ xs)[i*2]? = some (.int .i64 (xs.getD i default).bal)∧(kJ xs)[i*2+1]? = some (.int .i64 (xs.getD i default).val):=by
 induction xs with
 | nil=>intro i h;simp at h
 | cons x r ih=>
  intro i h;cases i with
  | zero=>simp[kJ,votC]
  | succ i=>
   have:=ih i (by simpa using h);have e:kJ (x::r)=votC x++kJ r:=by simp[kJ]
   have l4:(votC x).length=2:=rfl;rw[e];refine⟨?_,?_⟩;all_goals rw[List.getElem?_append_right oM,l4]
   ·rw[show(i+1)*2-2=i*2 by omega];simpa using this.1
   rw[show(i+1)*2+1-2=i*2+1 by omega];simpa using this.2
theorem zG {w:World} {base e:Nat} {v:Value} {xs:List Vot} (h:w.ownsRow base e 2 v xs.length (kJ xs)):fHf w v xs:=by
 rcases h.2 with ⟨rfl,hn⟩|⟨g,cap,cur,rfl,hb,hg,hnc,hcm,hcs,htake⟩
 ·exact⟨none,0,by rw[hn],oM,by unfold maxLen;omega,fun i hi=>oM⟩
 refine⟨some ⟨g,0,none⟩,cap,rfl,hnc,hcm,fun i hi=>⟨g,0,rfl,?_⟩⟩;obtain⟨h0,h1⟩:=uC xs i hi;simp only[Nat.zero_add,rP];exact⟨(h.cellAt _ oM).trans h0,(h.cellAt _ oM).trans h1⟩
def fDv (k:Nat) (cs:List Value) (xs:List Vot):Prop:=∀j,j<k*2→cs[j]? = (kJ xs)[j]?
theorem fKg {n:Nat} {cs:List Value} {xs:List Vot} (h:fDv n cs xs) (hl:cs.length=n*2) (hn:xs.length=n):cs=kJ xs:=by
 apply List.ext_getElem?;intro j;by_cases hj:j<n*2
 ·exact h j hj
 rw[List.getElem?_eq_none oM,List.getElem?_eq_none (by rw[rU];omega)]
theorem fMp {k:Nat} {cs:List Value} {xs:List Vot} {x:Vot} (h:fDv k cs xs) (hk:k<xs.length) (hl:cs.length=xs.length*2) (he:x=xs.getD k default) :
  fDv (k+1) ((cs.set (k*2) (.int .i64 x.bal)).set (k*2+1) (.int .i64 x.val)) xs:=by
 intro j hj;obtain⟨h0,h1⟩:=uC xs k hk;subst he;simp only[List.getElem?_set,List.length_set];by_cases e1:k*2+1=j
 ·subst e1;simp[h1];omega
 by_cases e0:k*2=j
 ·subst e0;simp[h0];omega
 simp[e0,e1];exact h j oM
theorem fMm (x:Value) (xs:List Vot) (w:World) (hx:fHf w x xs) (hn:xs.length≤1048576) :
  Calls Tryz.prog 263 #[x] w fun e w'=>∃v,e =.returned v∧w'.ownsRow w.heap.size 126 2 v xs.length (kJ xs)∧Below w.heap.size w w':=by
 obtain⟨ax,cx,rfl,hcx,hmx,hx⟩:=hx;unfold maxLen at hmx;obtain⟨i0,hi,hz0,hz1,hz2⟩:=info_parts fLi;obtain⟨w1,hmk,hown,hgr⟩:=run_make_full (P:=Tryz.prog) w w.heap.size 133 126 i0 _ 2 Tryz.underlying133 hi hz0 hz1 .i64 .i64 xs.length (by rw[hz2];omega) (by unfold maxLen;omega) (Nat.le_refl _);have hbl0:Below w.heap.size w w1:=(bR _ _).grown hgr (Nat.le_refl _) (fun k h=>by cases h);generalize hn':xs.length=n at *;have HN:Hid (xs.length=n):=hn';clear hn';go_enter Tryz.func263,Tryz.ntmps263;go_wp2;go_loopw [4] (fun i w'=>∃(k:Nat) (cs:List Value),k≤n∧i =.int .i64 k∧w'.ownsRow w.heap.size 126 2 (.slice (some ⟨w.heap.size,0,none⟩) n n) n cs∧fDv k cs xs∧Below w.heap.size w w') (fun i _=>n-(intOf i).toNat)
 case atStart=>exact⟨0,_,Nat.zero_le _,rfl,hown,fun j h=>oM,hbl0⟩
 obtain⟨k,cs,hk,rfl,ho,hup,hbl⟩:=hrel;have HU:Hid (fDv k cs xs):=hup;clear hup hown hmk hgr hbl0;by_cases hlt:k<n
 ·
  obtain⟨bx,ox,rfl,h1⟩:=hx k hlt;obtain⟨l,hl⟩:∃l,l=xs.getD k default:=⟨_,rfl⟩
  rw[←hl] at h1;have H1:Hid (l=xs.getD k default):=hl;clear hl hx;obtain⟨a0,a1⟩:=gL hbl h1;go_wp2_with fail;refine(fBe l _).mono ?_;rintro e wa ⟨rfl,hba⟩;have ho1:=gT ho hba;obtain⟨u0,g0⟩:=fH ho1 (k*2) oM;obtain⟨u1,g1⟩:=fH ho1 (k*2+1) oM;have hf:=fun j=>ho1.frozenAt j
  simp only[votV];go_wp2;have s0:=ho1.stored (k*2) (.int .i64 l.bal);have s1:=s0.1.stored (k*2+1) (.int .i64 l.val);refine⟨⟨k+1,_,by omega,by go_num,s1.1,fMp HU.out (by have:=HN.out;omega) (by have:=HN.out;have:=ho.1;omega) H1.out,?_⟩,mI⟩;exact((bS hbl hba).setCell (Nat.le_refl _) _).setCell (Nat.le_refl _) _
 go_wp2;go_ret;have hkn:k=n:=oM;subst hkn;have e:=fKg HU.out ho.1 HN.out;subst e;exact⟨_,rfl,ho,hbl⟩
theorem fMh (x:Value) (xs:List Vot) (left:Int) (w:World) (hx:fHf w x xs) (h0:0≤left) (h1:left≤1048576) :
  Calls Tryz.prog 258 #[x,.int .i64 left] w fun e w'=>e =.returned (.int .i64 (fU left xs.length))∧w'=w:=by
 obtain⟨ax,cx,rfl,hcx,hmx,hx⟩:=hx;unfold maxLen at hmx;generalize xs.length=n at *;clear hx;by_cases h:left<n
 ·have h':left-(n:Int)<0:=oM;go_enter Tryz.func258,Tryz.ntmps258;go_wp2;go_ret;exact⟨by simp only[fU,if_pos h];rfl,rfl⟩
 have h':¬left-(n:Int)<0:=oM;go_enter Tryz.func258,Tryz.ntmps258;go_wp2;go_ret;exact⟨by rw[fU,if_neg oM];rfl,rfl⟩
variable [dQ Vot] [iH Vot]
def votsR:Rep (List Vot):=fRep 126 2 kJ fHf fKp zG
def fFh (xs:List Vot):Nat:=xs.length
theorem gJ {w:World} {v:Value} {xs:List Vot} (h:votsR.V w v xs):∃a c,v =.slice a xs.length c:=by
 obtain⟨a,c,rfl,_⟩:=h;exact⟨_,_,rfl⟩
theorem fKb (x:Value) (d:List Vot) (w:World) (hx:votsR.V w x d) (hn:fFh d≤1048576) :
  Calls Tryz.prog 263 #[x] w fun e w'=>∃v F,e =.returned v∧votsR.O w' w.heap.size F v d∧Below w.heap.size w w':=by
 refine(fMm x d w hx hn).mono ?_;rintro e w' ⟨v,rfl,ho,hb⟩;exact⟨v,_,rfl,⟨ho,rfl⟩,hb⟩
theorem fH7 (x y:Value) (d d':List Vot) (w:World) (hx:votsR.V w x d) (hy:votsR.V w y d') :
  RI 293 #[x,y] w (.bool (decide (d=d'))):=fK4 x y d d' w hx hy
theorem fJ3 (x:Value) (d:List Vot) (left:Int) (w:World) (hx:votsR.V w x d) (h0:0≤left) (h1:left≤1048576) :
  RI 258 #[x,.int .i64 left] w (.int .i64 (fU left (fFh d))):=by
 refine(fMh x d left w hx h0 h1).mono ?_;rintro e w' ⟨rfl,rfl⟩;exact⟨rfl,bR _ _⟩
structure Slt where
 con:Int
 sh:Int
 pr:Int
 lb:Int
 lv:Int
 cast:List Vot
variable [dQ Slt] [iH Slt]
def sltR:Rep Slt where
 V:=fun w v x=>∃u1,v =.agg #[.int .i64 x.con,.int .i64 x.sh,.int .i64 x.pr,.int .i64 x.lb,.int .i64 x.lv,u1]∧votsR.V w u1 x.cast
 O:=fun w base F v x=>∃u1 F1,v =.agg #[.int .i64 x.con,.int .i64 x.sh,.int .i64 x.pr,.int .i64 x.lb,.int .i64 x.lv,u1]∧votsR.O w base F1 u1 x.cast∧(∀b,F b↔(F1 b))
 below:=fun h hb=>by
  obtain⟨u1,rfl,h1⟩:=h;exact⟨u1,rfl,votsR.below h1 hb⟩
 ofO:=fun h=>by
  obtain⟨u1,F1,rfl,h1,_⟩:=h;exact⟨u1,rfl,votsR.ofO h1⟩
 mod:=fun h hm hd=>by
  obtain⟨u1,F1,rfl,h1,hF⟩:=h;exact⟨u1,F1,rfl,votsR.mod h1 hm (fun b hb=>hd b ((hF b).2 hb)),hF⟩
 rng:=fun h b hb=>by
  obtain⟨u1,F1,rfl,h1,hF⟩:=h;rcases(hF b).1 hb with hb
  exact votsR.rng h1 b hb
 base:=fun h hb=>by
  obtain⟨u1,F1,rfl,h1,hF⟩:=h;exact⟨u1,F1,rfl,votsR.base h1 hb,hF⟩
def vB (x:Slt):Nat:=fFh x.cast
def uU (v:Value):List Value:=match v with | .agg a=>one (a.getD 0 (.int .i64 0))++one (a.getD 1 (.int .i64 0))++one (a.getD 2 (.int .i64 0))++one (a.getD 3 (.int .i64 0))++one (a.getD 4 (.int .i64 0))++one (a.getD 5 (.int .i64 0))|_=>[]
theorem fVq (x:Value) (d:Slt) (w:World) (hx:sltR.V w x d) (hn:vB d≤1048576) :
  Calls Tryz.prog 202 #[x] w fun e w'=>∃v F,e =.returned v∧sltR.O w' w.heap.size F v d∧Below w.heap.size w w':=by
 obtain⟨u1,rfl,h1⟩:=hx;unfold vB at hn;go_enter Tryz.func202,Tryz.ntmps202;go_wp2_with fail;refine(fBe ⟨d.lb,d.lv⟩ _).mono ?_;rintro e w0 ⟨rfl,b0⟩;have hB0:=bT w b0;obtain⟨c0,f0⟩:=bcell b0;have z0:=b0.size;simp at z0;have x0:w0.cell? ⟨w.heap.size,0,none⟩=some (.int .i64 d.con):=cK b0 sG;have x1:w0.cell? ⟨w.heap.size,1,none⟩=some (.int .i64 d.sh):=cK b0 sG;have x2:w0.cell? ⟨w.heap.size,2,none⟩=some (.int .i64 d.pr):=cK b0 sG;have x3:w0.cell? ⟨w.heap.size,3,none⟩=some (.int .i64 d.lb):=cK b0 sG;have x4:w0.cell? ⟨w.heap.size,4,none⟩=some (.int .i64 d.lv):=cK b0 sG;have x5:w0.cell? ⟨w.heap.size,5,none⟩=some (u1):=cK b0 sG;have q0:w0.cell? ⟨w.heap.size+1,0,none⟩=some (.int .i64 0):=cK b0 sG;have q1:w0.cell? ⟨w.heap.size+1,1,none⟩=some (.int .i64 0):=cK b0 sG;have q2:w0.cell? ⟨w.heap.size+1,2,none⟩=some (.int .i64 0):=cK b0 sG;have q3:w0.cell? ⟨w.heap.size+1,3,none⟩=some (.int .i64 0):=cK b0 sG;have q4:w0.cell? ⟨w.heap.size+1,4,none⟩=some (.int .i64 0):=cK b0 sG;have q5:w0.cell? ⟨w.heap.size+1,5,none⟩=some (.slice none 0 0):=cK b0 sG;have p0:w0.cell? ⟨w.heap.size+2,0,none⟩=some (.int .i64 d.con):=cK b0 sG;have p1:w0.cell? ⟨w.heap.size+2,1,none⟩=some (.int .i64 d.sh):=cK b0 sG;have p2:w0.cell? ⟨w.heap.size+2,2,none⟩=some (.int .i64 d.pr):=cK b0 sG;have p3:w0.cell? ⟨w.heap.size+2,3,none⟩=some (.int .i64 0):=cK b0 sG;have p4:w0.cell? ⟨w.heap.size+2,4,none⟩=some (.int .i64 0):=cK b0 sG;have p5:w0.cell? ⟨w.heap.size+2,5,none⟩=some (.slice none 0 0):=cK b0 sG;have qf:∀o,w0.frozen? ⟨w.heap.size+1,o,none⟩=false:=fun o=>by rw[f0 _ _ (by simp;try omega)];simp[go_sem]
 have pf:∀o,w0.frozen? ⟨w.heap.size+2,o,none⟩=false:=fun o=>by rw[f0 _ _ (by simp;try omega)];simp[go_sem]
 clear c0 f0 b0;simp only[votV];go_wp2_with fail;refine(fKb _ d.cast _ (votsR.below h1 qS) oM).mono ?_;rintro e w1 ⟨v1,F1,rfl,o1,b1⟩;have hB1:Below w.heap.size w w1:=bS qS b1;obtain⟨a1,n1,rfl⟩:=gJ (votsR.ofO o1);obtain⟨c1,f1⟩:=bcell b1;have z1:=b1.size;simp at z1;replace o1:=votsR.base (base':=w.heap.size+3) o1 (by simp;try omega);have y0:w1.cell? ⟨w.heap.size,0,none⟩=some (.int .i64 d.con):=cK b1 (by simp[go_sem,x0,x1,x2,x3,x4,x5,q0,q1,q2,q3,q4,q5,p0,p1,p2,p3,p4,p5]);have y1:w1.cell? ⟨w.heap.size,1,none⟩=some (.int .i64 d.sh):=cK b1 (by simp[go_sem,x0,x1,x2,x3,x4,x5,q0,q1,q2,q3,q4,q5,p0,p1,p2,p3,p4,p5]);have y2:w1.cell? ⟨w.heap.size,2,none⟩=some (.int .i64 d.pr):=cK b1 (by simp[go_sem,x0,x1,x2,x3,x4,x5,q0,q1,q2,q3,q4,q5,p0,p1,p2,p3,p4,p5]);have y3:w1.cell? ⟨w.heap.size,3,none⟩=some (.int .i64 d.lb):=cK b1 (by simp[go_sem,x0,x1,x2,x3,x4,x5,q0,q1,q2,q3,q4,q5,p0,p1,p2,p3,p4,p5]);have y4:w1.cell? ⟨w.heap.size,4,none⟩=some (.int .i64 d.lv):=cK b1 (by simp[go_sem,x0,x1,x2,x3,x4,x5,q0,q1,q2,q3,q4,q5,p0,p1,p2,p3,p4,p5]);have y5:w1.cell? ⟨w.heap.size,5,none⟩=some (u1):=cK b1 (by simp[go_sem,x0,x1,x2,x3,x4,x5,q0,q1,q2,q3,q4,q5,p0,p1,p2,p3,p4,p5]);have r0:w1.cell? ⟨w.heap.size+1,0,none⟩=some (.int .i64 0):=cK b1 (by simp[go_sem,x0,x1,x2,x3,x4,x5,q0,q1,q2,q3,q4,q5,p0,p1,p2,p3,p4,p5]);have r1:w1.cell? ⟨w.heap.size+1,1,none⟩=some (.int .i64 0):=cK b1 (by simp[go_sem,x0,x1,x2,x3,x4,x5,q0,q1,q2,q3,q4,q5,p0,p1,p2,p3,p4,p5]);have r2:w1.cell? ⟨w.heap.size+1,2,none⟩=some (.int .i64 0):=cK b1 (by simp[go_sem,x0,x1,x2,x3,x4,x5,q0,q1,q2,q3,q4,q5,p0,p1,p2,p3,p4,p5])
 have r3:w1.cell? ⟨w.heap.size+1,3,none⟩=some (.int .i64 0):=cK b1 (by simp[go_sem,x0,x1,x2,x3,x4,x5,q0,q1,q2,q3,q4,q5,p0,p1,p2,p3,p4,p5]);have r4:w1.cell? ⟨w.heap.size+1,4,none⟩=some (.int .i64 0):=cK b1 (by simp[go_sem,x0,x1,x2,x3,x4,x5,q0,q1,q2,q3,q4,q5,p0,p1,p2,p3,p4,p5]);have r5:w1.cell? ⟨w.heap.size+1,5,none⟩=some (.slice none 0 0):=cK b1 (by simp[go_sem,x0,x1,x2,x3,x4,x5,q0,q1,q2,q3,q4,q5,p0,p1,p2,p3,p4,p5]);have s0:w1.cell? ⟨w.heap.size+2,0,none⟩=some (.int .i64 d.con):=cK b1 (by simp[go_sem,x0,x1,x2,x3,x4,x5,q0,q1,q2,q3,q4,q5,p0,p1,p2,p3,p4,p5]);have s1:w1.cell? ⟨w.heap.size+2,1,none⟩=some (.int .i64 d.sh):=cK b1 (by simp[go_sem,x0,x1,x2,x3,x4,x5,q0,q1,q2,q3,q4,q5,p0,p1,p2,p3,p4,p5]);have s2:w1.cell? ⟨w.heap.size+2,2,none⟩=some (.int .i64 d.pr):=cK b1 (by simp[go_sem,x0,x1,x2,x3,x4,x5,q0,q1,q2,q3,q4,q5,p0,p1,p2,p3,p4,p5]);have s3:w1.cell? ⟨w.heap.size+2,3,none⟩=some (.int .i64 d.lb):=cK b1 (by simp[go_sem,x0,x1,x2,x3,x4,x5,q0,q1,q2,q3,q4,q5,p0,p1,p2,p3,p4,p5]);have s4:w1.cell? ⟨w.heap.size+2,4,none⟩=some (.int .i64 d.lv):=cK b1 (by simp[go_sem,x0,x1,x2,x3,x4,x5,q0,q1,q2,q3,q4,q5,p0,p1,p2,p3,p4,p5]);have s5:w1.cell? ⟨w.heap.size+2,5,none⟩=some (.slice none 0 0):=cK b1 (by simp[go_sem,x0,x1,x2,x3,x4,x5,q0,q1,q2,q3,q4,q5,p0,p1,p2,p3,p4,p5]);have t1:∀o,w1.frozen? ⟨w.heap.size+1,o,none⟩=false:=fun o=>by rw[f1 _ _ (by simp;try omega)];simp[go_sem,qf]
 have t2:∀o,w1.frozen? ⟨w.heap.size+2,o,none⟩=false:=fun o=>by rw[f1 _ _ (by simp;try omega)];simp[go_sem,pf]
 clear x0 x1 x2 x3 x4 x5 q0 q1 q2 q3 q4 q5 p0 p1 p2 p3 p4 p5 qf pf;clear c1 f1;have x0:=y0;have x1:=y1;have x2:=y2;have x3:=y3;have x4:=y4;have x5:=y5;have q0:=r0;have q1:=r1;have q2:=r2;have q3:=r3;have q4:=r4;have q5:=r5;have p0:=s0;have p1:=s1;have p2:=s2;have p3:=s3;have p4:=s4;have p5:=s5;have qf:=t1;have pf:=t2;clear t1 t2 y0 y1 y2 y3 y4 y5 r0 r1 r2 r3 r4 r5 s0 s1 s2 s3 s4 s5;clear b1 hB0;go_wp2;refine bodyPost_ret (v:=.agg #[.int .i64 d.con,.int .i64 d.sh,.int .i64 d.pr,.int .i64 d.lb,.int .i64 d.lv,.slice a1 d.cast.length n1]) ?_ rfl ⟨_,fun b=>F1 b,rfl,⟨_,F1,rfl,votsR.base (base:=w.heap.size+3) (by(repeat (first|refine Rep.set _ ?_ _ (by simp;omega)|refine Rep.set _ ?_ _ (by simp)|refine Rep.alloc _ ?_ _|assumption))) oM,fun b=>Iff.rfl⟩,qS⟩;simp[results,Tryz.results202,go_sem,q0,q1,q2,q3,q4,q5,p0,p1,p2,p3,p4,p5,qf,pf]
theorem fVm (x:Value) (d:Slt) (left:Int) (w:World) (hx:sltR.V w x d) (h0:0≤left) (h1:left≤1048576) :
  RI 190 #[x,.int .i64 left] w (.int .i64 (fU left (vB d))):=by
 obtain⟨u1,rfl,k1⟩:=hx;go_enter Tryz.func190,Tryz.ntmps190;go_wp2_with fail;refine(fJ3 _ d.cast left _ (votsR.below k1 qBq) h0 h1).mono ?_;rintro e w1 ⟨rfl,b1⟩;go_wp2
 ·rename_i h;go_ret;refine⟨?_,qBq⟩;rw[kS (n:=fFh d.cast) oM (vB d) (by unfold vB;omega)];rfl
 rename_i h;go_ret;exact⟨rfl,qBq⟩
theorem fTz (x y:Value) (d d':Slt) (w:World) (hx:sltR.V w x d) (hy:sltR.V w y d') :
  RI 250 #[x,y] w (.bool (decide (d=d'))):=by
 obtain⟨u1,rfl,h1⟩:=hx;obtain⟨v1,rfl,k1⟩:=hy;obtain⟨con,sh,pr,lb,lv,cast⟩:=d;obtain⟨con',sh',pr',lb',lv',cast'⟩:=d';dsimp only at h1 k1;go_enter Tryz.func250,Tryz.ntmps250;go_wp2_with fail;all_goals try (go_ret;exact⟨by first|(simp_all;done)|(simp_all;intros;exfalso;omega),qBq⟩)
 refine(fAz ⟨lb,lv⟩ ⟨lb',lv'⟩ _).mono ?_;rintro e w0 ⟨rfl,b0⟩;have x0:w0.cell? ⟨w.heap.size,0,none⟩=some (.int .i64 con):=cK b0 sG;have x1:w0.cell? ⟨w.heap.size,1,none⟩=some (.int .i64 sh):=cK b0 sG;have x2:w0.cell? ⟨w.heap.size,2,none⟩=some (.int .i64 pr):=cK b0 sG;have x3:w0.cell? ⟨w.heap.size,3,none⟩=some (.int .i64 lb):=cK b0 sG;have x4:w0.cell? ⟨w.heap.size,4,none⟩=some (.int .i64 lv):=cK b0 sG;have x5:w0.cell? ⟨w.heap.size,5,none⟩=some (u1):=cK b0 sG;have y0:w0.cell? ⟨w.heap.size+1,0,none⟩=some (.int .i64 con'):=cK b0 sG;have y1:w0.cell? ⟨w.heap.size+1,1,none⟩=some (.int .i64 sh'):=cK b0 sG;have y2:w0.cell? ⟨w.heap.size+1,2,none⟩=some (.int .i64 pr'):=cK b0 sG;have y3:w0.cell? ⟨w.heap.size+1,3,none⟩=some (.int .i64 lb'):=cK b0 sG;have y4:w0.cell? ⟨w.heap.size+1,4,none⟩=some (.int .i64 lv'):=cK b0 sG;have y5:w0.cell? ⟨w.heap.size+1,5,none⟩=some (v1):=cK b0 sG;go_wp2_with fail;all_goals try (go_ret;exact⟨by first|(simp_all;done)|(simp_all;intros;exfalso;omega),qBq⟩)
 refine(fH7 _ _ cast cast' _ (votsR.below h1 qBq) (votsR.below k1 qBq)).mono ?_;rintro e w1 ⟨rfl,b1⟩;go_wp2;all_goals
  go_ret;exact⟨by first|(simp_all;done)|(simp_all;intros;exfalso;omega),qBq⟩
variable [dQ Slt] [iH Slt]
def sltsR:Rep (List Slt):=nRep sltR 136 6 uU
def fFg (xs:List Slt):Nat:=wtL vB xs
theorem pX {w:World} {v:Value} {xs:List Slt} (h:sltsR.V w v xs):∃a c,v =.slice a xs.length c:=by
 obtain⟨a,c,rfl,_⟩:=h;exact⟨_,_,rfl⟩
theorem fNh:(Tryz.prog.info? 136).map (fun i=>(i.zero,i.size,i.bytes))=some (some (.agg #[.int .i64 0,.int .i64 0,.int .i64 0,.int .i64 0,.int .i64 0,.slice none 0 0]),6,64):=kF
theorem fUf {w w':World} {a0 a1 a2 a3 a4 a5 a6 a7 a8 a9 a10 a11:Addr} {x0 x1 x2 x3 x4 x5 x6 x7 x8 x9 x10 x11:Value} (hb:Below w.heap.size w w') (g0:w.cell? a0=some x0) (g1:w.cell? a1=some x1) (g2:w.cell? a2=some x2) (g3:w.cell? a3=some x3) (g4:w.cell? a4=some x4) (g5:w.cell? a5=some x5) (g6:w.cell? a6=some x6) (g7:w.cell? a7=some x7) (g8:w.cell? a8=some x8) (g9:w.cell? a9=some x9) (g10:w.cell? a10=some x10) (g11:w.cell? a11=some x11):Below w.heap.size w w'∧w'.cell? a0=some x0∧w'.cell? a1=some x1∧w'.cell? a2=some x2∧w'.cell? a3=some x3∧w'.cell? a4=some x4∧w'.cell? a5=some x5∧w'.cell? a6=some x6∧w'.cell? a7=some x7∧w'.cell? a8=some x8∧w'.cell? a9=some x9∧w'.cell? a10=some x10∧w'.cell? a11=some x11:=
 ⟨hb,cK hb g0,cK hb g1,cK hb g2,cK hb g3,cK hb g4,cK hb g5,cK hb g6,cK hb g7,cK hb g8,cK hb g9,cK hb g10,cK hb g11⟩
theorem fRp (x y:Value) (xs ys:List Slt) (w:World) (hx:sltsR.V w x xs) (hy:sltsR.V w y ys) :
  RI 175 #[x,y] w (.bool (decide (xs=ys))):=by
 obtain⟨ax,cx,rfl,hcx,hmx,hx⟩:=hx;obtain⟨ay,cy,rfl,hcy,hmy,hy⟩:=hy;unfold maxLen at hmx hmy;by_cases hl:ys.length=xs.length
 ·
  rw[hl] at hcy hy ⊢;have HL:Hid (ys.length=xs.length):=hl;clear hl;generalize hn:xs.length=n at *;have HN:Hid (xs.length=n):=hn;clear hn;go_enter Tryz.func175,Tryz.ntmps175;go_wp2;go_loopw [5] (fun i w'=>∃k:Nat,k≤n∧i =.int .i64 k∧(∀j,j<k→xs.getD j default=ys.getD j default)∧Below w.heap.size w w') (fun i _=>n-(intOf i).toNat)
  case atStart=>exact⟨0,oM,rfl,fun j h=>absurd h oM,bR _ _⟩
  obtain⟨k,hk,rfl,hpre,hbl⟩:=hrel;have HP:Hid (∀j,j<k→xs.getD j default=ys.getD j default):=hpre;clear hpre;by_cases hlt:k<n
  ·
   obtain⟨bx,ox,ux,rfl,_,p1,hvx⟩:=hx k hlt;obtain⟨b2,oy,uy,rfl,_,p2,hvy⟩:=hy k hlt;obtain⟨l1,hl1⟩:∃l,l=xs.getD k default:=⟨_,rfl⟩
   obtain⟨l2,hl2⟩:∃l,l=ys.getD k default:=⟨_,rfl⟩
   rw[←hl1] at hvx;rw[←hl2] at hvy;have H1:Hid (l1=xs.getD k default):=hl1;have H2:Hid (l2=ys.getD k default):=hl2;have hvx':=hvx;obtain⟨ux1,rfl,_⟩:=hvx';have hvy':=hvy;obtain⟨uy1,rfl,_⟩:=hvy';have g0:w.cell? ⟨bx,ox+k*6,none⟩=some (.int .i64 l1.con):=p1 0 oM;have g1:w.cell? ⟨bx,ox+k*6+1,none⟩=some (.int .i64 l1.sh):=p1 1 oM;have g2:w.cell? ⟨bx,ox+k*6+2,none⟩=some (.int .i64 l1.pr):=p1 2 oM;have g3:w.cell? ⟨bx,ox+k*6+3,none⟩=some (.int .i64 l1.lb):=p1 3 oM;have g4:w.cell? ⟨bx,ox+k*6+4,none⟩=some (.int .i64 l1.lv):=p1 4 oM;have g5:w.cell? ⟨bx,ox+k*6+5,none⟩=some (ux1):=p1 5 oM;have g6:w.cell? ⟨b2,oy+k*6,none⟩=some (.int .i64 l2.con):=p2 0 oM;have g7:w.cell? ⟨b2,oy+k*6+1,none⟩=some (.int .i64 l2.sh):=p2 1 oM;have g8:w.cell? ⟨b2,oy+k*6+2,none⟩=some (.int .i64 l2.pr):=p2 2 oM;have g9:w.cell? ⟨b2,oy+k*6+3,none⟩=some (.int .i64 l2.lb):=p2 3 oM;have g10:w.cell? ⟨b2,oy+k*6+4,none⟩=some (.int .i64 l2.lv):=p2 4 oM;have g11:w.cell? ⟨b2,oy+k*6+5,none⟩=some (uy1):=p2 5 oM;clear hl1 hl2 hx hy p1 p2;go_wp2;go_region_held3 (fun w'=>Below w.heap.size w w'∧w'.cell? ⟨bx,ox+k*6,none⟩=some (.int .i64 l1.con)∧w'.cell? ⟨bx,ox+k*6+1,none⟩=some (.int .i64 l1.sh)∧w'.cell? ⟨bx,ox+k*6+2,none⟩=some (.int .i64 l1.pr)∧w'.cell? ⟨bx,ox+k*6+3,none⟩=some (.int .i64 l1.lb)∧w'.cell? ⟨bx,ox+k*6+4,none⟩=some (.int .i64 l1.lv)∧w'.cell? ⟨bx,ox+k*6+5,none⟩=some (ux1)∧w'.cell? ⟨b2,oy+k*6,none⟩=some (.int .i64 l2.con)∧w'.cell? ⟨b2,oy+k*6+1,none⟩=some (.int .i64 l2.sh)∧w'.cell? ⟨b2,oy+k*6+2,none⟩=some (.int .i64 l2.pr)∧w'.cell? ⟨b2,oy+k*6+3,none⟩=some (.int .i64 l2.lb)∧w'.cell? ⟨b2,oy+k*6+4,none⟩=some (.int .i64 l2.lv)∧w'.cell? ⟨b2,oy+k*6+5,none⟩=some (uy1)) ((refine fUf ?_ g0 g1 g2 g3 g4 g5 g6 g7 g8 g9 g10 g11;(repeat (first|exact bR _ _|assumption|refine bD ?_|refine bA ?_ _|refine bS ?_ (by assumption))))) (first|(go_at_call 250;refine(fTz (.agg #[.int .i64 l1.con,.int .i64 l1.sh,.int .i64 l1.pr,.int .i64 l1.lb,.int .i64 l1.lv,ux1]) (.agg #[.int .i64 l2.con,.int .i64 l2.sh,.int .i64 l2.pr,.int .i64 l2.lb,.int .i64 l2.lv,uy1]) l1 l2 _ (sltR.below hvx qT) (sltR.below hvy qT)).mono ?_;rintro e w' ⟨rfl,hb1⟩))
   rename_i hH;have hB:=hH.1;clear hH;go_wp2
   ·
    rename_i hle;go_ret;refine⟨?_,hB⟩;have:¬xs=ys:=fun h=>by
     have:l1=l2:=by rw[H1.out,H2.out,h]
     simp[this] at hle
    simp[this]
   rename_i hle;refine⟨⟨k+1,by omega,by go_num,fun j hj=>?_,hB⟩,mI⟩;by_cases hjk:j<k
   ·exact HP.out j hjk
   have:j=k:=oM;subst this;rw[←H1.out,←H2.out];simpa using hle
  go_wp2;go_ret;have:k=n:=oM;subst this;refine⟨?_,hbl⟩;have:xs=ys:=uA (by rw[HL.out,HN.out]) (by rw[HN.out];exact HP.out);simp[this]
 go_enter Tryz.func175,Tryz.ntmps175;have hl':((xs.length:Int)==(ys.length:Int))=false:=by simp;omega
 go_wp2;go_ret;have:¬xs=ys:=fun h=>hl (by rw[h])
 exact⟨by simp[this],bR _ _⟩
theorem fS5 (x:Value) (xs:List Slt) (w:World) (hx:sltsR.V w x xs) (hn:fFg xs≤1048576) :
  Calls Tryz.prog 140 #[x] w fun e w'=>∃v F,e =.returned v∧sltsR.O w' w.heap.size F v xs∧Below w.heap.size w w':=by
 obtain⟨ax,cx,rfl,hcx,hmx,hx⟩:=hx;unfold maxLen at hmx;unfold fFg at hn;have hlen:xs.length≤1048576:=by unfold wtL at hn;omega
 have hW:∀k,k<xs.length→vB (xs.getD k default)≤1048576:=fun k hk=>(fEn hn hk).1
 obtain⟨i0,hi,hz0,hz1,hz2⟩:=info_parts fNh;obtain⟨w1,hmk,hown,hgr⟩:=run_make_full (P:=Tryz.prog) w w.heap.size 64 136 i0 _ 6 Tryz.underlying64 hi hz0 hz1 .i64 .i64 xs.length (by rw[hz2];omega) (by unfold maxLen;omega) (Nat.le_refl _);have hbl0:Below w.heap.size w w1:=(bR _ _).grown hgr (Nat.le_refl _) (fun k h=>by cases h);clear hn;generalize hn':xs.length=n at *;have HN:Hid (xs.length=n):=hn';clear hn';go_enter Tryz.func140,Tryz.ntmps140;go_wp2;go_loopw [4] (fun i w'=>∃(k:Nat) (cs:List Value) (us:Nat→Value) (fs:Nat→Nat→Prop),k≤n∧i =.int .i64 k∧PO sltR 136 6 uU w' w.heap.size (.slice (some ⟨w.heap.size,0,none⟩) n n) n k (fun i=>xs.getD i default) cs us fs∧Below w.heap.size w w') (fun i _=>n-(intOf i).toNat)
 case atStart=>exact⟨0,_,fun _=>.int .i64 0,fun _ _=>False,Nat.zero_le _,rfl,⟨hown,fun i h=>oM,fun i h=>oM,fun i h=>oM,fun i h=>oM,fun i j h=>oM⟩,hbl0⟩
 obtain⟨k,cs,us,fs,hk,rfl,hp,hbl⟩:=hrel;clear hown hmk hgr hbl0;by_cases hlt:k<n
 ·
  obtain⟨bx,ox,ux,rfl,_,p1,hvx⟩:=hx k hlt;have hw:=hW k hlt;obtain⟨l,hl⟩:∃l,l=xs.getD k default:=⟨_,rfl⟩
  rw[←hl] at hvx hw;have HL:Hid (l=xs.getD k default):=hl;have hvx':=hvx;obtain⟨ux1,rfl,_⟩:=hvx';have g0:w.cell? ⟨bx,ox+k*6,none⟩=some (.int .i64 l.con):=p1 0 oM;replace g0:=cK hbl g0;have g1:w.cell? ⟨bx,ox+k*6+1,none⟩=some (.int .i64 l.sh):=p1 1 oM;replace g1:=cK hbl g1;have g2:w.cell? ⟨bx,ox+k*6+2,none⟩=some (.int .i64 l.pr):=p1 2 oM;replace g2:=cK hbl g2;have g3:w.cell? ⟨bx,ox+k*6+3,none⟩=some (.int .i64 l.lb):=p1 3 oM;replace g3:=cK hbl g3;have g4:w.cell? ⟨bx,ox+k*6+4,none⟩=some (.int .i64 l.lv):=p1 4 oM;replace g4:=cK hbl g4;have g5:w.cell? ⟨bx,ox+k*6+5,none⟩=some (ux1):=p1 5 oM;replace g5:=cK hbl g5;clear hx p1 hW hl;go_wp2_with fail;refine(fVq (.agg #[.int .i64 l.con,.int .i64 l.sh,.int .i64 l.pr,.int .i64 l.lb,.int .i64 l.lv,ux1]) l _ (sltR.below hvx qT) hw).mono ?_;rintro e wa ⟨v1,F1,rfl,o1,b1⟩;have ofm1:=sltR.ofO o1;obtain⟨x1_1,rfl,y1_1⟩:=ofm1;obtain⟨a1_1,n1_1,rfl⟩:=gJ y1_1;have ho1:=(hp.keep b1).row;obtain⟨y0,q0⟩:=fH ho1 (k*6) oM;obtain⟨y1,q1⟩:=fH ho1 (k*6+1) oM;obtain⟨y2,q2⟩:=fH ho1 (k*6+2) oM;obtain⟨y3,q3⟩:=fH ho1 (k*6+3) oM;obtain⟨y4,q4⟩:=fH ho1 (k*6+4) oM;obtain⟨y5,q5⟩:=fH ho1 (k*6+5) oM;have hf:=fun j=>ho1.frozenAt j
  go_wp2;have s0:=ho1.stored (k*6) (.int .i64 l.con);have s1:=s0.1.stored (k*6+1) (.int .i64 l.sh);have s2:=s1.1.stored (k*6+2) (.int .i64 l.pr);have s3:=s2.1.stored (k*6+3) (.int .i64 l.lb);have s4:=s3.1.stored (k*6+4) (.int .i64 l.lv);have s5:=s4.1.stored (k*6+5) (.slice a1_1 l.cast.length n1_1);have hrow:World.ownsRow _ w.heap.size 136 6 (.slice (some ⟨w.heap.size,0,none⟩) n n) n (setRow cs (k*6) [.int .i64 l.con,.int .i64 l.sh,.int .i64 l.pr,.int .i64 l.lb,.int .i64 l.lv,.slice a1_1 l.cast.length n1_1]):=s5.1;have hcl:=hp.row.1;refine⟨⟨k+1,_,_,_,by omega,by go_num,hp.push (u:=(.agg #[.int .i64 l.con,.int .i64 l.sh,.int .i64 l.pr,.int .i64 l.lb,.int .i64 l.lv,.slice a1_1 l.cast.length n1_1])) (F:=F1) hbl.size b1 (by rw[←HL.out];exact o1) rfl hrow ((((((Mod.of_grown s0.2).trans (Mod.of_grown s1.2)).trans (Mod.of_grown s2.2)).trans (Mod.of_grown s3.2)).trans (Mod.of_grown s4.2)).trans (Mod.of_grown s5.2)) ?_ ?_,?_⟩,mI⟩
  ·intro i hi j hj;exact qJ _ _ _ _ (.inl oM)
  ·intro j hj;exact rD _ _ _ _ (by simp only[List.length_cons,List.length_nil];omega) hj
  exact(((((((bS hbl b1).setCell (Nat.le_refl _) _).setCell (Nat.le_refl _) _).setCell (Nat.le_refl _) _).setCell (Nat.le_refl _) _).setCell (Nat.le_refl _) _).setCell (Nat.le_refl _) _)
 go_wp2;go_ret;have hkn:k=n:=oM;subst hkn;have e:=HN.out;subst e;exact⟨_,_,rfl,⟨cs,us,fs,hp,fun b=>Iff.rfl⟩,hbl⟩
theorem fS2 (x:Value) (xs:List Slt) (left:Int) (w:World) (hx:sltsR.V w x xs) (h0:0≤left) (h1:left≤1048576) :
  RI 115 #[x,.int .i64 left] w (.int .i64 (fU left (fFg xs))):=by
 obtain⟨ax,cx,rfl,hcx,hmx,hx⟩:=hx;unfold maxLen at hmx;unfold fFg wtL;have HT:Hid (∀k,k<xs.length→gH vB (k+1) xs=gH vB k xs+vB (xs.getD k default)∧gH vB (k+1) xs≤gH vB xs.length xs):=
  fun k hk=>⟨qH _ k xs hk,uK _ _ _ _ hk⟩
 generalize xs.length=n at *;by_cases h:left<n
 ·have h':left-(n:Int)<0:=oM;clear hx;go_enter Tryz.func115,Tryz.ntmps115;go_wp2;go_ret;exact⟨by simp only[fU];rw[if_pos oM];rfl,bR _ _⟩
 have h':¬left-(n:Int)<0:=oM;go_enter Tryz.func115,Tryz.ntmps115;go_wp2;go_loopw [1,5] (fun l i w'=>∃k:Nat,k≤n∧i =.int .i64 k∧l =.int .i64 (left-n-gH vB k xs)∧0≤left-n-gH vB k xs∧Below w.heap.size w w') (fun _ i _=>n-(intOf i).toNat)
 case atStart=>exact⟨0,oM,rfl,by simp[gH],by simp[gH];omega,bR _ _⟩
 obtain⟨k,hk,rfl,rfl,hpos,hbl⟩:=hrel;by_cases hlt:k<n
 ·
  obtain⟨bx,ox,ux,rfl,_,p1,hvx⟩:=hx k hlt;obtain⟨t2,t3⟩:=HT.out k hlt;generalize xs.getD k default=l at *;have hvx':=hvx;obtain⟨ux1,rfl,_⟩:=hvx';have g0:w.cell? ⟨bx,ox+k*6,none⟩=some (.int .i64 l.con):=p1 0 oM;replace g0:=cK hbl g0;have g1:w.cell? ⟨bx,ox+k*6+1,none⟩=some (.int .i64 l.sh):=p1 1 oM;replace g1:=cK hbl g1;have g2:w.cell? ⟨bx,ox+k*6+2,none⟩=some (.int .i64 l.pr):=p1 2 oM;replace g2:=cK hbl g2;have g3:w.cell? ⟨bx,ox+k*6+3,none⟩=some (.int .i64 l.lb):=p1 3 oM;replace g3:=cK hbl g3;have g4:w.cell? ⟨bx,ox+k*6+4,none⟩=some (.int .i64 l.lv):=p1 4 oM;replace g4:=cK hbl g4;have g5:w.cell? ⟨bx,ox+k*6+5,none⟩=some (ux1):=p1 5 oM;replace g5:=cK hbl g5;generalize hm:vB l=m at *;have HM:Hid (vB l=m):=hm;clear hx p1 hm;generalize gH vB k xs=c at *;go_wp2_with fail;refine(fVm (.agg #[.int .i64 l.con,.int .i64 l.sh,.int .i64 l.pr,.int .i64 l.lb,.int .i64 l.lv,ux1]) l (left-n-c) _ (sltR.below hvx qT) hpos oM).mono ?_;rintro e wa ⟨rfl,b1⟩;rw[HM.out];go_wp2
  ·
   rename_i hneg;go_ret;refine⟨?_,qT⟩;have:fU left ↑(n+gH vB n xs) = -1:=by
    unfold fU at hneg ⊢;rw[if_pos (by split at hneg <;> omega)]
   rw[this];rfl
  rename_i hneg;refine⟨⟨k+1,by omega,by go_num,?_,?_,qT⟩,mI⟩
  ·
   congr 1
   unfold fU at hneg ⊢;split at hneg <;> omega
  unfold fU at hneg;split at hneg <;> omega
 go_wp2;go_ret;have hkn:k=n:=oM;subst hkn;refine⟨?_,hbl⟩;have:fU left ↑(k+gH vB k xs)=left-k-gH vB k xs:=by
  unfold fU;rw[if_neg oM];omega
 rw[this];rfl
structure Acc where
 slots:List Slt
variable [dQ Acc] [iH Acc]
def accR:Rep Acc where
 V:=fun w v x=>∃u1,v =.agg #[u1]∧sltsR.V w u1 x.slots
 O:=fun w base F v x=>∃u1 F1,v =.agg #[u1]∧sltsR.O w base F1 u1 x.slots∧(∀b,F b↔(F1 b))
 below:=fun h hb=>by
  obtain⟨u1,rfl,h1⟩:=h;exact⟨u1,rfl,sltsR.below h1 hb⟩
 ofO:=fun h=>by
  obtain⟨u1,F1,rfl,h1,_⟩:=h;exact⟨u1,rfl,sltsR.ofO h1⟩
 mod:=fun h hm hd=>by
  obtain⟨u1,F1,rfl,h1,hF⟩:=h;exact⟨u1,F1,rfl,sltsR.mod h1 hm (fun b hb=>hd b ((hF b).2 hb)),hF⟩
 rng:=fun h b hb=>by
  obtain⟨u1,F1,rfl,h1,hF⟩:=h;rcases(hF b).1 hb with hb
  exact sltsR.rng h1 b hb
 base:=fun h hb=>by
  obtain⟨u1,F1,rfl,h1,hF⟩:=h;exact⟨u1,F1,rfl,sltsR.base h1 hb,hF⟩
def uZ (x:Acc):Nat:=fFg x.slots
def fWr (v:Value):List Value:=match v with | .agg a=>one (a.getD 0 (.int .i64 0))|_=>[]
theorem fJ4 (x:Value) (d:Acc) (w:World) (hx:accR.V w x d) (hn:uZ d≤1048576) :
  Calls Tryz.prog 73 #[x] w fun e w'=>∃v F,e =.returned v∧accR.O w' w.heap.size F v d∧Below w.heap.size w w':=by
 obtain⟨u1,rfl,h1⟩:=hx;unfold uZ at hn;go_enter Tryz.func73,Tryz.ntmps73;go_wp2_with fail;refine(fS5 _ d.slots _ (sltsR.below h1 qBq) oM).mono ?_;rintro e w1 ⟨v1,F1,rfl,o1,b1⟩;obtain⟨a1,n1,rfl⟩:=pX (sltsR.ofO o1);obtain⟨c1,f1⟩:=bcell b1;have z1:=b1.size;simp at z1;replace o1:=sltsR.base (base':=w.heap.size+3) o1 (by simp;try omega);go_wp2;refine bodyPost_ret (v:=.agg #[.slice a1 d.slots.length n1]) ?_ rfl ⟨_,fun b=>F1 b,rfl,⟨_,F1,rfl,sltsR.base (base:=w.heap.size+3) (by(repeat (first|assumption|refine Rep.set _ ?_ _ (by simp;omega)|refine Rep.set _ ?_ _ (by simp)|refine Rep.alloc _ ?_ _|refine Rep.keep _ ?_ (by assumption)))) oM,fun b=>Iff.rfl⟩,qBq⟩;simp[results,Tryz.results73,go_sem,c1]
theorem fJw (x:Value) (d:Acc) (left:Int) (w:World) (hx:accR.V w x d) (h0:0≤left) (h1:left≤1048576) :
  RI 59 #[x,.int .i64 left] w (.int .i64 (fU left (uZ d))):=by
 obtain⟨u1,rfl,k1⟩:=hx;go_enter Tryz.func59,Tryz.ntmps59;go_wp2_with fail;refine(fS2 _ d.slots left _ (sltsR.below k1 qBq) h0 h1).mono ?_;rintro e w1 ⟨rfl,b1⟩;go_wp2
 ·rename_i h;go_ret;refine⟨?_,qBq⟩;rw[kS (n:=fFg d.slots) oM (uZ d) (by unfold uZ;omega)];rfl
 rename_i h;go_ret;exact⟨rfl,qBq⟩
theorem fH0 (x y:Value) (d d':Acc) (w:World) (hx:accR.V w x d) (hy:accR.V w y d') :
  RI 94 #[x,y] w (.bool (decide (d=d'))):=by
 obtain⟨u1,rfl,h1⟩:=hx;obtain⟨v1,rfl,k1⟩:=hy;obtain⟨slots⟩:=d;obtain⟨slots'⟩:=d';dsimp only at h1 k1;go_enter Tryz.func94,Tryz.ntmps94;go_wp2_with fail;all_goals try (go_ret;exact⟨by simp_all,qBq⟩)
 refine(fRp _ _ slots slots' _ (sltsR.below h1 qBq) (sltsR.below k1 qBq)).mono ?_;rintro e w1 ⟨rfl,b1⟩;go_wp2;all_goals
  go_ret;exact⟨by simp_all,qBq⟩
variable [dQ Acc] [iH Acc]
def accsR:Rep (List Acc):=nRep accR 139 1 fWr
def uN (xs:List Acc):Nat:=wtL uZ xs
theorem qP {w:World} {v:Value} {xs:List Acc} (h:accsR.V w v xs):∃a c,v =.slice a xs.length c:=by
 obtain⟨a,c,rfl,_⟩:=h;exact⟨_,_,rfl⟩
theorem fT8:(Tryz.prog.info? 139).map (fun i=>(i.zero,i.size,i.bytes))=some (some (.agg #[.slice none 0 0]),1,24):=kF
theorem fUc {w w':World} {a0 a1:Addr} {x0 x1:Value} (hb:Below w.heap.size w w') (g0:w.cell? a0=some x0) (g1:w.cell? a1=some x1):Below w.heap.size w w'∧w'.cell? a0=some x0∧w'.cell? a1=some x1:=
 ⟨hb,cK hb g0,cK hb g1⟩
theorem fFs (x y:Value) (xs ys:List Acc) (w:World) (hx:accsR.V w x xs) (hy:accsR.V w y ys) :
  RI 38 #[x,y] w (.bool (decide (xs=ys))):=by
 obtain⟨ax,cx,rfl,hcx,hmx,hx⟩:=hx;obtain⟨ay,cy,rfl,hcy,hmy,hy⟩:=hy;unfold maxLen at hmx hmy;by_cases hl:ys.length=xs.length
 ·
  rw[hl] at hcy hy ⊢;have HL:Hid (ys.length=xs.length):=hl;clear hl;generalize hn:xs.length=n at *;have HN:Hid (xs.length=n):=hn;clear hn;go_enter Tryz.func38,Tryz.ntmps38;go_wp2;go_loopw [5] (fun i w'=>∃k:Nat,k≤n∧i =.int .i64 k∧(∀j,j<k→xs.getD j default=ys.getD j default)∧Below w.heap.size w w') (fun i _=>n-(intOf i).toNat)
  case atStart=>exact⟨0,oM,rfl,fun j h=>absurd h oM,bR _ _⟩
  obtain⟨k,hk,rfl,hpre,hbl⟩:=hrel;have HP:Hid (∀j,j<k→xs.getD j default=ys.getD j default):=hpre;clear hpre;by_cases hlt:k<n
  ·
   obtain⟨bx,ox,ux,rfl,_,p1,hvx⟩:=hx k hlt;obtain⟨b2,oy,uy,rfl,_,p2,hvy⟩:=hy k hlt;obtain⟨l1,hl1⟩:∃l,l=xs.getD k default:=⟨_,rfl⟩
   obtain⟨l2,hl2⟩:∃l,l=ys.getD k default:=⟨_,rfl⟩
   rw[←hl1] at hvx;rw[←hl2] at hvy;have H1:Hid (l1=xs.getD k default):=hl1;have H2:Hid (l2=ys.getD k default):=hl2;have hvx':=hvx;obtain⟨ux1,rfl,_⟩:=hvx';have hvy':=hvy;obtain⟨uy1,rfl,_⟩:=hvy';have g0:w.cell? ⟨bx,ox+k,none⟩=some (ux1):=fHt p1;have g1:w.cell? ⟨b2,oy+k,none⟩=some (uy1):=fHt p2;clear hl1 hl2 hx hy p1 p2;go_wp2;go_region_held3 (fun w'=>Below w.heap.size w w'∧w'.cell? ⟨bx,ox+k,none⟩=some (ux1)∧w'.cell? ⟨b2,oy+k,none⟩=some (uy1)) ((refine fUc ?_ g0 g1;(repeat (first|exact bR _ _|assumption|refine bD ?_|refine bA ?_ _|refine bS ?_ (by assumption))))) (first|(go_at_call 94;refine(fH0 (.agg #[ux1]) (.agg #[uy1]) l1 l2 _ (accR.below hvx qT) (accR.below hvy qT)).mono ?_;rintro e w' ⟨rfl,hb1⟩));rename_i hH;have hB:=hH.1;clear hH;go_wp2
   ·
    rename_i hle;go_ret;refine⟨?_,hB⟩;have:¬xs=ys:=fun h=>by
     have:l1=l2:=by rw[H1.out,H2.out,h]
     simp[this] at hle
    simp[this]
   rename_i hle;refine⟨⟨k+1,by omega,by go_num,fun j hj=>?_,hB⟩,mI⟩;by_cases hjk:j<k
   ·exact HP.out j hjk
   have:j=k:=oM;subst this;rw[←H1.out,←H2.out];simpa using hle
  go_wp2;go_ret;have:k=n:=oM;subst this;refine⟨?_,hbl⟩;have:xs=ys:=uA (by rw[HL.out,HN.out]) (by rw[HN.out];exact HP.out);simp[this]
 go_enter Tryz.func38,Tryz.ntmps38;have hl':((xs.length:Int)==(ys.length:Int))=false:=by simp;omega
 go_wp2;go_ret;have:¬xs=ys:=fun h=>hl (by rw[h])
 exact⟨by simp[this],bR _ _⟩
theorem fG2 (x:Value) (xs:List Acc) (w:World) (hx:accsR.V w x xs) (hn:uN xs≤1048576) :
  Calls Tryz.prog 29 #[x] w fun e w'=>∃v F,e =.returned v∧accsR.O w' w.heap.size F v xs∧Below w.heap.size w w':=by
 obtain⟨ax,cx,rfl,hcx,hmx,hx⟩:=hx;unfold maxLen at hmx;unfold uN at hn;have hlen:xs.length≤1048576:=by unfold wtL at hn;omega
 have hW:∀k,k<xs.length→uZ (xs.getD k default)≤1048576:=fun k hk=>(fEn hn hk).1
 obtain⟨i0,hi,hz0,hz1,hz2⟩:=info_parts fT8;obtain⟨w1,hmk,hown,hgr⟩:=run_make_full (P:=Tryz.prog) w w.heap.size 33 139 i0 _ 1 Tryz.underlying33 hi hz0 hz1 .i64 .i64 xs.length (by rw[hz2];omega) (by unfold maxLen;omega) (Nat.le_refl _);have hbl0:Below w.heap.size w w1:=(bR _ _).grown hgr (Nat.le_refl _) (fun k h=>by cases h);clear hn;generalize hn':xs.length=n at *;have HN:Hid (xs.length=n):=hn';clear hn';go_enter Tryz.func29,Tryz.ntmps29;go_wp2;go_loopw [4] (fun i w'=>∃(k:Nat) (cs:List Value) (us:Nat→Value) (fs:Nat→Nat→Prop),k≤n∧i =.int .i64 k∧PO accR 139 1 fWr w' w.heap.size (.slice (some ⟨w.heap.size,0,none⟩) n n) n k (fun i=>xs.getD i default) cs us fs∧Below w.heap.size w w') (fun i _=>n-(intOf i).toNat)
 case atStart=>exact⟨0,_,fun _=>.int .i64 0,fun _ _=>False,Nat.zero_le _,rfl,⟨hown,fun i h=>oM,fun i h=>oM,fun i h=>oM,fun i h=>oM,fun i j h=>oM⟩,hbl0⟩
 obtain⟨k,cs,us,fs,hk,rfl,hp,hbl⟩:=hrel;clear hown hmk hgr hbl0;by_cases hlt:k<n
 ·
  obtain⟨bx,ox,ux,rfl,_,p1,hvx⟩:=hx k hlt;have hw:=hW k hlt;obtain⟨l,hl⟩:∃l,l=xs.getD k default:=⟨_,rfl⟩
  rw[←hl] at hvx hw;have HL:Hid (l=xs.getD k default):=hl;have hvx':=hvx;obtain⟨ux1,rfl,_⟩:=hvx';have g0:w.cell? ⟨bx,ox+k,none⟩=some (ux1):=fHt p1;replace g0:=cK hbl g0;clear hx p1 hW hl;go_wp2_with fail;refine(fJ4 (.agg #[ux1]) l _ (accR.below hvx qT) hw).mono ?_;rintro e wa ⟨v1,F1,rfl,o1,b1⟩;have ofm1:=accR.ofO o1;obtain⟨x1_1,rfl,y1_1⟩:=ofm1;obtain⟨a1_1,n1_1,rfl⟩:=pX y1_1;have ho1:=(hp.keep b1).row;obtain⟨y0,q0⟩:=fH ho1 (k) oM;have hf:=fun j=>ho1.frozenAt j
  go_wp2;have s0:=ho1.stored (k) (.slice a1_1 l.slots.length n1_1);have hcs:cs.set k (.slice a1_1 l.slots.length n1_1)=setRow cs (k*1) [.slice a1_1 l.slots.length n1_1]:=by rw[Nat.mul_one];rfl
  have hrow:=s0.1;rw[hcs] at hrow;have hcl:=hp.row.1;refine⟨⟨k+1,_,_,_,by omega,by go_num,hp.push (u:=(.agg #[.slice a1_1 l.slots.length n1_1])) (F:=F1) hbl.size b1 (by rw[←HL.out];exact o1) rfl hrow (Mod.of_grown s0.2) ?_ ?_,?_⟩,mI⟩
  ·intro i hi j hj;exact qJ _ _ _ _ (.inl oM)
  ·intro j hj;exact rD _ _ _ _ (by simp only[List.length_cons,List.length_nil];omega) hj
  exact((bS hbl b1).setCell (Nat.le_refl _) _)
 go_wp2;go_ret;have hkn:k=n:=oM;subst hkn;have e:=HN.out;subst e;exact⟨_,_,rfl,⟨cs,us,fs,hp,fun b=>Iff.rfl⟩,hbl⟩
theorem fG0 (x:Value) (xs:List Acc) (left:Int) (w:World) (hx:accsR.V w x xs) (h0:0≤left) (h1:left≤1048576) :
  RI 17 #[x,.int .i64 left] w (.int .i64 (fU left (uN xs))):=by
 obtain⟨ax,cx,rfl,hcx,hmx,hx⟩:=hx;unfold maxLen at hmx;unfold uN wtL;have HT:Hid (∀k,k<xs.length→gH uZ (k+1) xs=gH uZ k xs+uZ (xs.getD k default)∧gH uZ (k+1) xs≤gH uZ xs.length xs):=
  fun k hk=>⟨qH _ k xs hk,uK _ _ _ _ hk⟩
 generalize xs.length=n at *;by_cases h:left<n
 ·have h':left-(n:Int)<0:=oM;clear hx;go_enter Tryz.func17,Tryz.ntmps17;go_wp2;go_ret;exact⟨by simp only[fU];rw[if_pos oM];rfl,bR _ _⟩
 have h':¬left-(n:Int)<0:=oM;go_enter Tryz.func17,Tryz.ntmps17;go_wp2;go_loopw [1,5] (fun l i w'=>∃k:Nat,k≤n∧i =.int .i64 k∧l =.int .i64 (left-n-gH uZ k xs)∧0≤left-n-gH uZ k xs∧Below w.heap.size w w') (fun _ i _=>n-(intOf i).toNat)
 case atStart=>exact⟨0,oM,rfl,by simp[gH],by simp[gH];omega,bR _ _⟩
 obtain⟨k,hk,rfl,rfl,hpos,hbl⟩:=hrel;by_cases hlt:k<n
 ·
  obtain⟨bx,ox,ux,rfl,_,p1,hvx⟩:=hx k hlt;obtain⟨t2,t3⟩:=HT.out k hlt;generalize xs.getD k default=l at *;have hvx':=hvx;obtain⟨ux1,rfl,_⟩:=hvx';have g0:w.cell? ⟨bx,ox+k,none⟩=some (ux1):=fHt p1;replace g0:=cK hbl g0;generalize hm:uZ l=m at *;have HM:Hid (uZ l=m):=hm;clear hx p1 hm;generalize gH uZ k xs=c at *;go_wp2_with fail;refine(fJw (.agg #[ux1]) l (left-n-c) _ (accR.below hvx qT) hpos oM).mono ?_;rintro e wa ⟨rfl,b1⟩;rw[HM.out];go_wp2
  ·
   rename_i hneg;go_ret;refine⟨?_,qT⟩;have:fU left ↑(n+gH uZ n xs) = -1:=by
    unfold fU at hneg ⊢;rw[if_pos (by split at hneg <;> omega)]
   rw[this];rfl
  rename_i hneg;refine⟨⟨k+1,by omega,by go_num,?_,?_,qT⟩,mI⟩
  ·
   congr 1
   unfold fU at hneg ⊢;split at hneg <;> omega
  unfold fU at hneg;split at hneg <;> omega
 go_wp2;go_ret;have hkn:k=n:=oM;subst hkn;refine⟨?_,hbl⟩;have:fU left ↑(k+gH uZ k xs)=left-k-gH uZ k xs:=by
  unfold fU;rw[if_neg oM];omega
 rw[this];rfl
end
section
variable [dQ Leg] [iH Leg] [dQ Vot] [iH Vot]
structure Trr where
 con:Int
 sh:Int
 bal:Int
 val:Int
 frm:List Int
 olds:List Vot
variable [dQ Trr] [iH Trr]
def trrR:Rep Trr where
 V:=fun w v x=>∃u1 u2,v =.agg #[.int .i64 x.con,.int .i64 x.sh,.int .i64 x.bal,.int .i64 x.val,u1,u2]∧intsR.V w u1 x.frm∧votsR.V w u2 x.olds
 O:=fun w base F v x=>∃u1 u2 F1 F2,v =.agg #[.int .i64 x.con,.int .i64 x.sh,.int .i64 x.bal,.int .i64 x.val,u1,u2]∧intsR.O w base F1 u1 x.frm∧votsR.O w base F2 u2 x.olds∧(∀b,F1 b→¬F2 b)∧(∀b,F b↔(F1 b∨F2 b))
 below:=fun h hb=>by
  obtain⟨u1,u2,rfl,h1,h2⟩:=h;exact⟨u1,u2,rfl,intsR.below h1 hb,votsR.below h2 hb⟩
 ofO:=fun h=>by
  obtain⟨u1,u2,F1,F2,rfl,h1,h2,_⟩:=h;exact⟨u1,u2,rfl,intsR.ofO h1,votsR.ofO h2⟩
 mod:=fun h hm hd=>by
  obtain⟨u1,u2,F1,F2,rfl,h1,h2,s12,hF⟩:=h;exact⟨u1,u2,F1,F2,rfl,intsR.mod h1 hm (fun b hb=>hd b ((hF b).2 (.inl hb))),votsR.mod h2 hm (fun b hb=>hd b ((hF b).2 (.inr hb))),s12,hF⟩
 rng:=fun h b hb=>by
  obtain⟨u1,u2,F1,F2,rfl,h1,h2,s12,hF⟩:=h;rcases(hF b).1 hb with hb|hb
  ·exact intsR.rng h1 b hb
  exact votsR.rng h2 b hb
 base:=fun h hb=>by
  obtain⟨u1,u2,F1,F2,rfl,h1,h2,s12,hF⟩:=h;exact⟨u1,u2,F1,F2,rfl,intsR.base h1 hb,votsR.base h2 hb,s12,hF⟩
def tV (x:Trr):Nat:=xW x.frm+fFh x.olds
def fXu (v:Value):List Value:=match v with | .agg a=>one (a.getD 0 (.int .i64 0))++one (a.getD 1 (.int .i64 0))++one (a.getD 2 (.int .i64 0))++one (a.getD 3 (.int .i64 0))++one (a.getD 4 (.int .i64 0))++one (a.getD 5 (.int .i64 0))|_=>[]
theorem fXc (x:Value) (d:Trr) (w:World) (hx:trrR.V w x d) (hn:tV d≤1048576) :
  Calls Tryz.prog 203 #[x] w fun e w'=>∃v F,e =.returned v∧trrR.O w' w.heap.size F v d∧Below w.heap.size w w':=by
 obtain⟨u1,u2,rfl,h1,h2⟩:=hx;unfold tV at hn;go_enter Tryz.func203,Tryz.ntmps203;go_wp2_with fail;refine(fFf _ d.frm _ (intsR.below h1 qBq) oM).mono ?_;rintro e w1 ⟨v1,F1,rfl,o1,b1⟩;have hB1:=bT w b1;obtain⟨a1,n1,rfl⟩:=gZ (intsR.ofO o1);obtain⟨c1,f1⟩:=bcell b1;have z1:=b1.size;simp at z1;have l1:=fun b hb=>intsR.rng o1 b hb
 simp at l1;replace o1:=intsR.base (base':=w.heap.size+3) o1 (by simp;try omega);have y0:w1.cell? ⟨w.heap.size,0,none⟩=some (.int .i64 d.con):=cK b1 sG;have y1:w1.cell? ⟨w.heap.size,1,none⟩=some (.int .i64 d.sh):=cK b1 sG;have y2:w1.cell? ⟨w.heap.size,2,none⟩=some (.int .i64 d.bal):=cK b1 sG;have y3:w1.cell? ⟨w.heap.size,3,none⟩=some (.int .i64 d.val):=cK b1 sG;have y4:w1.cell? ⟨w.heap.size,4,none⟩=some (u1):=cK b1 sG;have y5:w1.cell? ⟨w.heap.size,5,none⟩=some (u2):=cK b1 sG;have r0:w1.cell? ⟨w.heap.size+1,0,none⟩=some (.int .i64 0):=cK b1 sG;have r1:w1.cell? ⟨w.heap.size+1,1,none⟩=some (.int .i64 0):=cK b1 sG;have r2:w1.cell? ⟨w.heap.size+1,2,none⟩=some (.int .i64 0):=cK b1 sG;have r3:w1.cell? ⟨w.heap.size+1,3,none⟩=some (.int .i64 0):=cK b1 sG;have r4:w1.cell? ⟨w.heap.size+1,4,none⟩=some (.slice none 0 0):=cK b1 sG;have r5:w1.cell? ⟨w.heap.size+1,5,none⟩=some (.slice none 0 0):=cK b1 sG;have s0:w1.cell? ⟨w.heap.size+2,0,none⟩=some (.int .i64 d.con):=cK b1 sG;have s1:w1.cell? ⟨w.heap.size+2,1,none⟩=some (.int .i64 d.sh):=cK b1 sG;have s2:w1.cell? ⟨w.heap.size+2,2,none⟩=some (.int .i64 d.bal):=cK b1 sG;have s3:w1.cell? ⟨w.heap.size+2,3,none⟩=some (.int .i64 d.val):=cK b1 sG;have s4:w1.cell? ⟨w.heap.size+2,4,none⟩=some (.slice none 0 0):=cK b1 sG;have s5:w1.cell? ⟨w.heap.size+2,5,none⟩=some (.slice none 0 0):=cK b1 sG;have t1:∀o,w1.frozen? ⟨w.heap.size+1,o,none⟩=false:=fun o=>by rw[f1 _ _ (by simp;try omega)];simp[go_sem]
 have t2:∀o,w1.frozen? ⟨w.heap.size+2,o,none⟩=false:=fun o=>by rw[f1 _ _ (by simp;try omega)];simp[go_sem]
 clear c1 f1;have x0:=y0;have x1:=y1;have x2:=y2;have x3:=y3;have x4:=y4;have x5:=y5;have q0:=r0;have q1:=r1;have q2:=r2;have q3:=r3;have q4:=r4;have q5:=r5;have p0:=s0;have p1:=s1;have p2:=s2;have p3:=s3;have p4:=s4;have p5:=s5;have qf:=t1;have pf:=t2;clear t1 t2 y0 y1 y2 y3 y4 y5 r0 r1 r2 r3 r4 r5 s0 s1 s2 s3 s4 s5;clear b1;go_wp2_with fail;refine(fKb _ d.olds _ (votsR.below h2 qS) oM).mono ?_;rintro e w2 ⟨v2,F2,rfl,o2,b2⟩;have hB2:Below w.heap.size w w2:=bS qS b2;obtain⟨a2,n2,rfl⟩:=gJ (votsR.ofO o2);obtain⟨c2,f2⟩:=bcell b2;have z2:=b2.size;simp at z2;have l2:=fun b hb=>votsR.rng o2 b hb
 simp at l2;replace o2:=votsR.base (base':=w.heap.size+3) o2 (by simp;try omega);have hk1:∀F v x,intsR.O w1 (w.heap.size+3) F v x→intsR.O w2 (w.heap.size+3) F v x:=fun F v x o=>intsR.keep (by(repeat (first|refine Rep.set _ ?_ _ (by simp;omega)|refine Rep.set _ ?_ _ (by simp)|refine Rep.alloc _ ?_ _|assumption))) b2
 replace o1:=hk1 _ _ _ o1;clear hk1;have y0:w2.cell? ⟨w.heap.size,0,none⟩=some (.int .i64 d.con):=cK b2 (by simp[go_sem,x0,x1,x2,x3,x4,x5,q0,q1,q2,q3,q4,q5,p0,p1,p2,p3,p4,p5]);have y1:w2.cell? ⟨w.heap.size,1,none⟩=some (.int .i64 d.sh):=cK b2 (by simp[go_sem,x0,x1,x2,x3,x4,x5,q0,q1,q2,q3,q4,q5,p0,p1,p2,p3,p4,p5]);have y2:w2.cell? ⟨w.heap.size,2,none⟩=some (.int .i64 d.bal):=cK b2 (by simp[go_sem,x0,x1,x2,x3,x4,x5,q0,q1,q2,q3,q4,q5,p0,p1,p2,p3,p4,p5]);have y3:w2.cell? ⟨w.heap.size,3,none⟩=some (.int .i64 d.val):=cK b2 (by simp[go_sem,x0,x1,x2,x3,x4,x5,q0,q1,q2,q3,q4,q5,p0,p1,p2,p3,p4,p5]);have y4:w2.cell? ⟨w.heap.size,4,none⟩=some (u1):=cK b2 (by simp[go_sem,x0,x1,x2,x3,x4,x5,q0,q1,q2,q3,q4,q5,p0,p1,p2,p3,p4,p5]);have y5:w2.cell? ⟨w.heap.size,5,none⟩=some (u2):=cK b2 (by simp[go_sem,x0,x1,x2,x3,x4,x5,q0,q1,q2,q3,q4,q5,p0,p1,p2,p3,p4,p5]);have r0:w2.cell? ⟨w.heap.size+1,0,none⟩=some (.int .i64 0):=cK b2 (by simp[go_sem,x0,x1,x2,x3,x4,x5,q0,q1,q2,q3,q4,q5,p0,p1,p2,p3,p4,p5]);have r1:w2.cell? ⟨w.heap.size+1,1,none⟩=some (.int .i64 0):=cK b2 (by simp[go_sem,x0,x1,x2,x3,x4,x5,q0,q1,q2,q3,q4,q5,p0,p1,p2,p3,p4,p5]);have r2:w2.cell? ⟨w.heap.size+1,2,none⟩=some (.int .i64 0):=cK b2 (by simp[go_sem,x0,x1,x2,x3,x4,x5,q0,q1,q2,q3,q4,q5,p0,p1,p2,p3,p4,p5]);have r3:w2.cell? ⟨w.heap.size+1,3,none⟩=some (.int .i64 0):=cK b2 (by simp[go_sem,x0,x1,x2,x3,x4,x5,q0,q1,q2,q3,q4,q5,p0,p1,p2,p3,p4,p5]);have r4:w2.cell? ⟨w.heap.size+1,4,none⟩=some (.slice none 0 0):=cK b2 (by simp[go_sem,x0,x1,x2,x3,x4,x5,q0,q1,q2,q3,q4,q5,p0,p1,p2,p3,p4,p5])
 have r5:w2.cell? ⟨w.heap.size+1,5,none⟩=some (.slice none 0 0):=cK b2 (by simp[go_sem,x0,x1,x2,x3,x4,x5,q0,q1,q2,q3,q4,q5,p0,p1,p2,p3,p4,p5]);have s0:w2.cell? ⟨w.heap.size+2,0,none⟩=some (.int .i64 d.con):=cK b2 (by simp[go_sem,x0,x1,x2,x3,x4,x5,q0,q1,q2,q3,q4,q5,p0,p1,p2,p3,p4,p5]);have s1:w2.cell? ⟨w.heap.size+2,1,none⟩=some (.int .i64 d.sh):=cK b2 (by simp[go_sem,x0,x1,x2,x3,x4,x5,q0,q1,q2,q3,q4,q5,p0,p1,p2,p3,p4,p5]);have s2:w2.cell? ⟨w.heap.size+2,2,none⟩=some (.int .i64 d.bal):=cK b2 (by simp[go_sem,x0,x1,x2,x3,x4,x5,q0,q1,q2,q3,q4,q5,p0,p1,p2,p3,p4,p5]);have s3:w2.cell? ⟨w.heap.size+2,3,none⟩=some (.int .i64 d.val):=cK b2 (by simp[go_sem,x0,x1,x2,x3,x4,x5,q0,q1,q2,q3,q4,q5,p0,p1,p2,p3,p4,p5]);have s4:w2.cell? ⟨w.heap.size+2,4,none⟩=some (.slice a1 d.frm.length n1):=cK b2 (by simp[go_sem,x0,x1,x2,x3,x4,x5,q0,q1,q2,q3,q4,q5,p0,p1,p2,p3,p4,p5]);have s5:w2.cell? ⟨w.heap.size+2,5,none⟩=some (.slice none 0 0):=cK b2 (by simp[go_sem,x0,x1,x2,x3,x4,x5,q0,q1,q2,q3,q4,q5,p0,p1,p2,p3,p4,p5]);have t1:∀o,w2.frozen? ⟨w.heap.size+1,o,none⟩=false:=fun o=>by rw[f2 _ _ (by simp;try omega)];simp[go_sem,qf]
 have t2:∀o,w2.frozen? ⟨w.heap.size+2,o,none⟩=false:=fun o=>by rw[f2 _ _ (by simp;try omega)];simp[go_sem,pf]
 clear x0 x1 x2 x3 x4 x5 q0 q1 q2 q3 q4 q5 p0 p1 p2 p3 p4 p5 qf pf;clear c2 f2;have x0:=y0;have x1:=y1;have x2:=y2;have x3:=y3;have x4:=y4;have x5:=y5;have q0:=r0;have q1:=r1;have q2:=r2;have q3:=r3;have q4:=r4;have q5:=r5;have p0:=s0;have p1:=s1;have p2:=s2;have p3:=s3;have p4:=s4;have p5:=s5;have qf:=t1;have pf:=t2;clear t1 t2 y0 y1 y2 y3 y4 y5 r0 r1 r2 r3 r4 r5 s0 s1 s2 s3 s4 s5;clear b2 hB1;go_wp2;refine bodyPost_ret (v:=.agg #[.int .i64 d.con,.int .i64 d.sh,.int .i64 d.bal,.int .i64 d.val,.slice a1 d.frm.length n1,.slice a2 d.olds.length n2]) ?_ rfl ⟨_,fun b=>F1 b∨F2 b,rfl,⟨_,_,F1,F2,rfl,intsR.base (base:=w.heap.size+3) (by(repeat (first|refine Rep.set _ ?_ _ (by simp;omega)|refine Rep.set _ ?_ _ (by simp)|refine Rep.alloc _ ?_ _|assumption))) oM,votsR.base (base:=w.heap.size+3) (by(repeat (first|refine Rep.set _ ?_ _ (by simp;omega)|refine Rep.set _ ?_ _ (by simp)|refine Rep.alloc _ ?_ _|assumption))) oM,fun b p q=>by have:=(l1 b p).2;have:=(l2 b q).1;omega,fun b=>Iff.rfl⟩,qS⟩;simp[results,Tryz.results203,go_sem,q0,q1,q2,q3,q4,q5,p0,p1,p2,p3,p4,p5,qf,pf]
theorem fXb (x:Value) (d:Trr) (left:Int) (w:World) (hx:trrR.V w x d) (h0:0≤left) (h1:left≤1048576) :
  RI 191 #[x,.int .i64 left] w (.int .i64 (fU left (tV d))):=by
 obtain⟨u1,u2,rfl,k1,k2⟩:=hx;go_enter Tryz.func191,Tryz.ntmps191;go_wp2_with fail;refine(fFe _ d.frm left _ (intsR.below k1 qBq) h0 h1).mono ?_;rintro e w1 ⟨rfl,b1⟩;have x0:w1.cell? ⟨w.heap.size,0,none⟩=some (.int .i64 d.con):=cK b1 sG;have x1:w1.cell? ⟨w.heap.size,1,none⟩=some (.int .i64 d.sh):=cK b1 sG;have x2:w1.cell? ⟨w.heap.size,2,none⟩=some (.int .i64 d.bal):=cK b1 sG;have x3:w1.cell? ⟨w.heap.size,3,none⟩=some (.int .i64 d.val):=cK b1 sG;have x4:w1.cell? ⟨w.heap.size,4,none⟩=some (u1):=cK b1 sG;have x5:w1.cell? ⟨w.heap.size,5,none⟩=some (u2):=cK b1 sG;go_wp2_with fail
 ·rename_i h;go_ret;refine⟨?_,qBq⟩;rw[kS (n:=xW d.frm) oM (tV d) (by unfold tV;omega)];rfl
 rename_i h;refine(fJ3 _ d.olds (fU left (xW d.frm:Nat)) _ (votsR.below k2 qBq) oM (by have:=rO (n:=xW d.frm) h0;omega)).mono ?_;rintro e w2 ⟨rfl,b2⟩;rw[pY (n:=xW d.frm) oM];go_wp2
 ·rename_i h;go_ret;refine⟨?_,qBq⟩;rw[kS (n:=xW d.frm+fFh d.olds) (by first|omega|(rw[Int.natCast_add];omega)) (tV d) (by unfold tV;omega)];rfl
 rename_i h;go_ret;exact⟨rfl,qBq⟩
theorem fWg (x y:Value) (d d':Trr) (w:World) (hx:trrR.V w x d) (hy:trrR.V w y d') :
  RI 251 #[x,y] w (.bool (decide (d=d'))):=by
 obtain⟨u1,u2,rfl,h1,h2⟩:=hx;obtain⟨v1,v2,rfl,k1,k2⟩:=hy;obtain⟨con,sh,bal,val,frm,olds⟩:=d;obtain⟨con',sh',bal',val',frm',olds'⟩:=d';dsimp only at h1 k1 h2 k2;go_enter Tryz.func251,Tryz.ntmps251;go_wp2_with fail;all_goals try (go_ret;exact⟨by simp_all,qBq⟩)
 refine(fEt _ _ frm frm' _ (intsR.below h1 qBq) (intsR.below k1 qBq)).mono ?_;rintro e w1 ⟨rfl,b1⟩;have x0:w1.cell? ⟨w.heap.size,0,none⟩=some (.int .i64 con):=cK b1 sG;have x1:w1.cell? ⟨w.heap.size,1,none⟩=some (.int .i64 sh):=cK b1 sG;have x2:w1.cell? ⟨w.heap.size,2,none⟩=some (.int .i64 bal):=cK b1 sG;have x3:w1.cell? ⟨w.heap.size,3,none⟩=some (.int .i64 val):=cK b1 sG;have x4:w1.cell? ⟨w.heap.size,4,none⟩=some (u1):=cK b1 sG;have x5:w1.cell? ⟨w.heap.size,5,none⟩=some (u2):=cK b1 sG;have y0:w1.cell? ⟨w.heap.size+1,0,none⟩=some (.int .i64 con'):=cK b1 sG;have y1:w1.cell? ⟨w.heap.size+1,1,none⟩=some (.int .i64 sh'):=cK b1 sG;have y2:w1.cell? ⟨w.heap.size+1,2,none⟩=some (.int .i64 bal'):=cK b1 sG;have y3:w1.cell? ⟨w.heap.size+1,3,none⟩=some (.int .i64 val'):=cK b1 sG;have y4:w1.cell? ⟨w.heap.size+1,4,none⟩=some (v1):=cK b1 sG;have y5:w1.cell? ⟨w.heap.size+1,5,none⟩=some (v2):=cK b1 sG;go_wp2_with fail;all_goals try (go_ret;exact⟨by simp_all,qBq⟩)
 refine(fH7 _ _ olds olds' _ (votsR.below h2 qBq) (votsR.below k2 qBq)).mono ?_;rintro e w2 ⟨rfl,b2⟩;go_wp2;all_goals
  go_ret;exact⟨by simp_all,qBq⟩
end
end Go.Proofs.YtbfnobcidnmohaaGreat

import Derived.Test.YtpibfdebfacooaaGreatPrnCrashJournalLaw14
import Derived.Recover
set_option maxHeartbeats 8000000
set_option maxRecDepth 20000
set_option linter.unusedSimpArgs false
set_option linter.unusedVariables false
set_option linter.unusedSectionVars false
namespace Go.Proofs.YtpibfdebfacooaaGreat
open Go.RowKit
attribute [local go_sem ↓] Go.wp_at_zero Go.wp_at_succ
section
variable [dQ Rw] [iH Rw] [dQ Bal] [iH Bal] [dQ Ledg] [iH Ledg] [dQ Leg] [iH Leg] [dQ Cont] [iH Cont] [dQ LedgR] [iH LedgR] [dQ OutcR] [iH OutcR] [dQ Mrk] [iH Mrk] [dQ Shd] [iH Shd] [dQ ShdR] [iH ShdR]
theorem fBj (x:Value) (d:Shd) (c:Int) (w:World) (hx:shdR.V w x d) :
  RI 157 #[x,.int .i64 c] w (.bool (fO d.held c)):=by
 obtain⟨u1,u2,u3,u4,u5,rfl,_,_,hx,_,_⟩:=hx;obtain⟨ax,cx,rfl,hcx,hmx,hx⟩:=qH hx;unfold maxLen at hmx;obtain⟨idx,_,_,xs,_,_⟩:=d;dsimp only at hcx hx ⊢;have HS0:Hid (∀k,k<xs.length→fO (xs.take (k+1)) c=(fO (xs.take k) c||decide ((xs.getD k default).id=c))):=fun k hk=>fAw hk
 have HE:Hid (fO (xs.take xs.length) c=fO xs c):=by show _=_;rw[List.take_length]
 have HT:Hid (∀k,k<xs.length→(xs.getD k default).id=c→fO xs c=true):=fun k hk h=>heldIn_mem.2 ⟨k,hk,h⟩
 generalize hn':xs.length=n at *;clear hn';go_enter Tryz.func157,Tryz.ntmps157;go_wp2;go_loopw [5] (fun i w'=>∃k:Nat,k≤n∧i =.int .i64 k∧Hid (fO (xs.take k) c=false)∧w'.cell? ⟨w.heap.size,3,none⟩=some (.slice ax n cx)∧Below w.heap.size w w') (fun i _=>n-(intOf i).toNat)
 case atStart=>exact⟨0,oM,rfl,by show fO (xs.take 0) c=false;simp[fO],sG,qBq⟩
 obtain⟨k,hk,rfl,HS,hq,hbl⟩:=hrel;have zq:w.heap.size<wr.heap.size:=wL wr _ hq;by_cases hlt:k<n
 ·
  obtain⟨bx,ox,pp,qq,rfl,g0,g1,_⟩:=hx k hlt;have h1:=HS0.out k hlt;have h2:=HT.out k hlt;generalize (xs.getD k default).legs.length=ll at *;generalize (xs.getD k default).id=q at *;have H1:Hid (fO (xs.take (k+1)) c=(fO (xs.take k) c||decide (q=c))):=h1;have H2:Hid (q=c→fO xs c=true):=h2;clear hx h1 h2;replace g0:=cK hbl g0;by_cases he:q=c
  ·
   have HC:=H2.out he;have he':(q==c)=true:=by simp[he]
   clear H1 HS H2;go_wp2;go_ret;exact⟨by rw[HC];rfl,qBq⟩
  have HC:Hid (fO (xs.take (k+1)) c=false):=by show _=_;rw[H1.out,HS.out,decide_eq_false he];rfl
  have he':(q==c)=false:=by simp[he]
  clear H1 HS H2;go_wp2;exact⟨⟨k+1,by omega,by go_num,HC,hq,qBq⟩,mI⟩
 have hkn:k=n:=oM;subst hkn;have HC:Hid (fO xs c=false):=by show _=_;rw[←HE.out,HS.out]
 go_wp2;go_ret;exact⟨rH,qBq⟩
theorem fA5 {α:Type} [Inhabited α] (f:α→Bool) {xs:List α} {k:Nat} (hk:k<xs.length):(xs.take (k+1)).any f=((xs.take k).any f||f (xs.getD k default)):=by
 have e:xs.take (k+1)=xs.take k++[xs.getD k default]:=by rw[List.take_add_one];simp[List.getD,hk]
 rw[e,List.any_append];simp
theorem fJq {α:Type} [Inhabited α] {f:α→Bool} {xs:List α} {k:Nat} (hk:k<xs.length) (h:f (xs.getD k default)=true):xs.any f=true:=List.any_eq_true.2 ⟨xs.getD k default,by simp[List.getD,hk],h⟩
theorem fC7 (x y:Value) (xs ys:List Leg) (w:World) (hx:legsR.V w x xs) (hy:legsR.V w y ys) :
  RI 183 #[x,y] w (.bool (touch xs ys)):=by
 obtain⟨ax,cx,rfl,hcx,hmx,hx⟩:=hx;obtain⟨ay,cy,rfl,hcy,hmy,hy⟩:=hy;unfold maxLen at hmx hmy;have HT:Hid (∀i j,i<xs.length→j<ys.length→pU (xs.getD i default) (ys.getD j default)=true→touch xs ys=true):=fun i j hi hj h=>fJq hi (fJq hj h)
 have HO:Hid (∀i,i<xs.length→((xs.take i).any (fun x=>ys.any (fun y=>pU x y)))=false→ys.any (fun y=>pU (xs.getD i default) y)=false→((xs.take (i+1)).any (fun x=>ys.any (fun y=>pU x y)))=false):=fun i hi h1 h2=>by rw[fA5 _ hi,h1,h2];rfl
 have HI:Hid (∀i j,j<ys.length→((ys.take j).any (fun y=>pU (xs.getD i default) y))=false→pU (xs.getD i default) (ys.getD j default)=false→((ys.take (j+1)).any (fun y=>pU (xs.getD i default) y))=false):=fun i j hj h1 h2=>by rw[fA5 _ hj,h1,h2];rfl
 have HE1:Hid (((xs.take xs.length).any (fun x=>ys.any (fun y=>pU x y)))=touch xs ys):=by show _=_;rw[List.take_length];rfl
 have HE2:Hid (∀i,((ys.take ys.length).any (fun y=>pU (xs.getD i default) y))=ys.any (fun y=>pU (xs.getD i default) y)):=fun i=>by rw[List.take_length]
 generalize hn':xs.length=n at *;generalize hm':ys.length=m at *;clear hn' hm';go_enter Tryz.func183,Tryz.ntmps183;go_wp2;go_loopw [5] (fun i w'=>∃k:Nat,k≤n∧i =.int .i64 k∧Hid (((xs.take k).any (fun x=>ys.any (fun y=>pU x y)))=false)∧Below w.heap.size w w') (fun i _=>n-(intOf i).toNat)
 case atStart=>exact⟨0,oM,rfl,by show((xs.take 0).any _)=false;simp,bR _ _⟩
 obtain⟨k,hk,rfl,HS,hbl⟩:=hrel;by_cases hlt:k<n
 ·
  go_wp2;go_loopw [6] (fun i w'=>∃j:Nat,j≤m∧i =.int .i64 j∧Hid (((ys.take j).any (fun y=>pU (xs.getD k default) y))=false)∧Below w.heap.size w w') (fun i _=>m-(intOf i).toNat)
  case atStart=>exact⟨0,oM,rfl,by show((ys.take 0).any _)=false;simp,hbl⟩
  rename_i wq;obtain⟨j,hj,rfl,HS2,hbl2⟩:=hrel;by_cases hlt2:j<m
  ·
   obtain⟨bx,ox,rfl,g1⟩:=hx k hlt;obtain⟨by_,oy,rfl,g2⟩:=hy j hlt2;have h1:=HT.out k j hlt hlt2;have h2:=HI.out k j hlt2 HS2.out;obtain⟨l,hl⟩:∃l,l=xs.getD k default:=⟨_,rfl⟩
   rw[←hl] at g1;obtain⟨l',hl'⟩:∃l',l'=ys.getD j default:=⟨_,rfl⟩
   rw[←hl'] at g2;have H1:Hid (pU l l'=true→touch xs ys=true):=by rw[hl,hl'];exact h1
   have H2:Hid (pU l l'=false→((ys.take (j+1)).any (fun y=>pU (xs.getD k default) y))=false):=by rw[hl,hl'];exact h2
   clear hl hl' h1 h2 hx hy;have ga:=(fE3 hbl2 g1).2;obtain⟨a0,a1,a2,a3⟩:=ga;have gb:=(fE3 hbl2 g2).2;obtain⟨c0,c1,c2,c3⟩:=gb;have k1:(k:Int)<n:=oM;have k2:(0:Int)≤k:=oM;have j1:(j:Int)<m:=oM;have j2:(0:Int)≤j:=oM;by_cases e1:l.ac=l'.ac
   ·
    have e1':(l.ac==l'.ac)=true:=by simp[e1]
    by_cases e2:l.ast=l'.ast
    ·
     have e2':(l.ast==l'.ast)=true:=by simp[e2]
     have HC:=H1.out (by unfold pU;rw[e1',e2'];rfl);clear e1 e2;go_wp2;go_quiet (fail);go_wp2;go_ret;exact⟨by rw[HC];rfl,qN hbl2 _⟩
    have e2':(l.ast==l'.ast)=false:=by simp[e2]
    have HC:Hid (((ys.take (j+1)).any (fun y=>pU (xs.getD k default) y))=false):=H2.out (by unfold pU;rw[e1',e2'];rfl);clear e1 e2;go_wp2;go_quiet (fail);go_wp2;exact⟨⟨j+1,by omega,by go_num,HC,qN hbl2 _⟩,mI⟩
   have e1':(l.ac==l'.ac)=false:=by simp[e1]
   have HC:Hid (((ys.take (j+1)).any (fun y=>pU (xs.getD k default) y))=false):=H2.out (by unfold pU;rw[e1'];rfl);clear e1;go_wp2;go_quiet (fail);go_wp2;exact⟨⟨j+1,by omega,by go_num,HC,qN hbl2 _⟩,mI⟩
  have hjm:j=m:=oM;subst hjm;have HC:Hid (((xs.take (k+1)).any (fun x=>ys.any (fun y=>pU x y)))=false):=HO.out k hlt HS.out (by rw[←HE2.out];exact HS2.out);go_wp2;exact⟨⟨k+1,by omega,by go_num,HC,qBq⟩,mI⟩
 have hkn:k=n:=oM;subst hkn;have HC:Hid (touch xs ys=false):=by show _=_;rw[←HE1.out,HS.out]
 go_wp2;go_ret;exact⟨rH,qBq⟩
def refV (c:Int):Value:=.iface 204 (.int .i64 c)
def fF6 (c:Int) (w:World) (e:Ending) (w':World):Prop:=((c=0∧e =.returned (.tuple #[]))∨(¬c=0∧e =.panicked [{v:=refV c,recovered:=false}]))∧Below w.heap.size w w'
def vF (idx:Int) (hs:List Cont) (ls:List Leg):Int:=if fGq idx hs ls=true then 7 else 0
theorem fBh (idx id:Int) (y ul:Value) (hs:List Cont) (ls:List Leg) (w:World) (hy:contsR.V w y hs) (hl:legsR.V w ul ls) (hn:ls.length≤1000) :
  Calls Tryz.prog 196 #[.int .i64 idx,y,.agg #[.int .i64 id,ul]] w (fF6 (vF idx hs ls) w):=by
 have HLe:Hid (bW w fun W=>Calls Tryz.prog 192 #[ul,.int .i64 idx] W fun e w'=>∃v,e =.returned v∧w'.ownsRow W.heap.size 168 4 v (onSh idx ls).length (gN (onSh idx ls))∧Below W.heap.size W w'):=fun W hW=>xK ul ls idx W (legsR.below hl hW) oM
 obtain⟨al,cl,rfl⟩:=kP hl;obtain⟨ay,cy,rfl,hcy,hmy,hy⟩:=qH hy;unfold maxLen at hmy;have HY:Hid (∀k,k<hs.length→∃b o p q,ay=some ⟨b,o,none⟩∧w.cell? ⟨b,o+k*2,none⟩=some (.int .i64 (hs.getD k default).id)∧w.cell? ⟨b,o+k*2+1,none⟩=some (.slice p (hs.getD k default).legs.length q)∧contR.V w (.agg #[.int .i64 (hs.getD k default).id,.slice p (hs.getD k default).legs.length q]) (hs.getD k default)):=hy;have HT:Hid (∀i j,i<(onSh idx ls).length→j<hs.length→fU (hs.getD j default).legs ((onSh idx ls).getD i default)=true→vF idx hs ls=7):=fun i j hi hj h=>by
  unfold vF fGq;rw[if_pos (fJq hi (fJq (f:=fun o:Cont=>fU o.legs ((onSh idx ls).getD i default)) hj h))]
 have HE:Hid ((onSh idx ls).any (fun l=>hs.any (fun o=>fU o.legs l))=false→vF idx hs ls=0):=fun h=>by unfold vF fGq;rw[h];rfl
 have HO:Hid (∀i,i<(onSh idx ls).length→(((onSh idx ls).take i).any (fun l=>hs.any (fun o=>fU o.legs l)))=false→hs.any (fun o=>fU o.legs ((onSh idx ls).getD i default))=false→(((onSh idx ls).take (i+1)).any (fun l=>hs.any (fun o=>fU o.legs l)))=false):=fun i hi h1 h2=>by rw[fA5 _ hi,h1,h2];rfl
 have HI:Hid (∀l j,j<hs.length→((hs.take j).any (fun o=>fU o.legs l))=false→fU (hs.getD j default).legs l=false→((hs.take (j+1)).any (fun o=>fU o.legs l))=false):=fun l j hj h1 h2=>by rw[fA5 _ hj,h1,h2];rfl
 have HE1:Hid (((onSh idx ls).take (onSh idx ls).length)=onSh idx ls):=List.take_length;have HE2:Hid (hs.take hs.length=hs):=List.take_length;clear hy hl;generalize hcc:vF idx hs ls=cc at *;generalize hlg:onSh idx ls=lg at *;generalize ls.length=ll at *;clear hcc hlg hn;generalize hm:hs.length=m at *;clear hm;go_enter Tryz.func196,Tryz.ntmps196;go_wp2_with fail;refine(HLe.out _ qBq).mono ?_;rintro e w1 ⟨v,rfl,o1,hb1⟩;have hV:=gV o1;have hB1:=bT w hb1;obtain⟨a1,c1,rfl,hc1,hm1,hx1⟩:=hV;unfold maxLen at hm1;have HX:Hid (∀i,i<lg.length→∃b o,a1=some ⟨b,o,none⟩∧mH w1 b (o+i*4) (lg.getD i default)):=hx1;clear o1 hb1 hx1 HLe;obtain⟨n,hn⟩:∃n,n=lg.length:=⟨_,rfl⟩
 have HN:Hid (lg.length=n):=hn.symm;rw[←hn] at HT HO HX hc1 HE1 ⊢;clear hn;go_wp2;go_loopw [15] (fun i w'=>∃k:Nat,k≤n∧i =.int .i64 k∧Hid (((lg.take k).any (fun l=>hs.any (fun o=>fU o.legs l)))=false)∧Below w1.heap.size w1 w') (fun i _=>n-(intOf i).toNat)
 case atStart=>exact⟨0,oM,rfl,by show((lg.take 0).any _)=false;simp,bR _ _⟩
 obtain⟨k,hk,rfl,HS,hbl⟩:=hrel;by_cases hlt:k<n
 ·
  obtain⟨bx,ox,rfl,g1⟩:=HX.out k hlt;have h1:=HT.out k;have h2:=HO.out k hlt HS.out;obtain⟨l,hl⟩:∃l,l=lg.getD k default:=⟨_,rfl⟩
  rw[←hl] at g1 h1 h2;have H1:Hid (∀j,j<m→fU (hs.getD j default).legs l=true→cc=7):=fun j hj h=>h1 j hlt hj h
  have H2:Hid (hs.any (fun o=>fU o.legs l)=false→(((lg.take (k+1)).any (fun l=>hs.any (fun o=>fU o.legs l)))=false)):=h2;clear hl h1 h2;obtain⟨c0,c1',c2,c3⟩:=(fE3 hbl g1).2;have zb:bx<wr.heap.size:=wL wr _ c0;have hBr:Below w.heap.size w wr:=bS hB1 hbl;go_wp2;obtain⟨w2,hw2⟩:∃w2,w2=wr.alloc (.cells #[.int .i64 l.sh,.int .i64 l.ac,.int .i64 l.ast,.int .i64 l.am] 168):=⟨_,rfl⟩
  have b0:w2.cell? ⟨wr.heap.size,0,none⟩=some (.int .i64 l.sh):=by rw[hw2];simp[go_sem]
  have b1:w2.cell? ⟨wr.heap.size,1,none⟩=some (.int .i64 l.ac):=by rw[hw2];simp[go_sem]
  have b2:w2.cell? ⟨wr.heap.size,2,none⟩=some (.int .i64 l.ast):=by rw[hw2];simp[go_sem]
  have b3:w2.cell? ⟨wr.heap.size,3,none⟩=some (.int .i64 l.am):=by rw[hw2];simp[go_sem]
  have hb2:Below wr.heap.size wr w2:=by rw[hw2];exact qBq
  rw[←hw2];clear hw2;have hB2:Below w.heap.size w w2:=bS hBr hb2;have hBw2:Below w1.heap.size w1 w2:=bS hbl hb2;go_loopw [21] (fun i w'=>∃j:Nat,j≤m∧i =.int .i64 j∧Hid (((hs.take j).any (fun o=>fU o.legs l))=false)∧Below w2.heap.size w2 w') (fun i _=>m-(intOf i).toNat)
  case atStart=>exact⟨0,oM,rfl,by show((hs.take 0).any _)=false;simp,bR _ _⟩
  rename_i wq;obtain⟨j,hj,rfl,HS2,hbl2⟩:=hrel;replace b0:=cK hbl2 b0;replace b1:=cK hbl2 b1;replace b2:=cK hbl2 b2;replace b3:=cK hbl2 b3;have hBq:Below w.heap.size w wr:=bS hB2 hbl2;have hB1q:Below w1.heap.size w1 wr:=bS hBw2 hbl2;by_cases hlt2:j<m
  ·
   obtain⟨by_,oy,pp,qq,rfl,g2,g3,hV⟩:=HY.out j hlt2;obtain⟨ul,hul,hvl⟩:=hV;simp only[Value.agg.injEq,Array.mk.injEq,List.cons.injEq,and_true,true_and] at hul;subst hul;have HP:Hid (bW wr fun W=>RI 171 #[.slice pp (hs.getD j default).legs.length qq,.agg #[.int .i64 l.sh,.int .i64 l.ac,.int .i64 l.ast,.int .i64 l.am]] W (.bool (fU (hs.getD j default).legs l))):=fun W hW=>fAh _ _ l W (legsR.below hvl (bS hBq hW))
   have h3:=H1.out j hlt2;have h4:=HI.out l j hlt2 HS2.out;replace g2:=cK hBq g2;replace g3:=cK hBq g3;generalize fU (hs.getD j default).legs l=bb at *;have H3:Hid (bb=true→cc=7):=h3;have H4:Hid (bb=false→((hs.take (j+1)).any (fun o=>fU o.legs l))=false):=h4;clear h3 h4 hvl;generalize (hs.getD j default).legs.length=lj at *;generalize (hs.getD j default).id=ij at *;have zy:by_<wr.heap.size:=wL wr _ g2;have zl:=wL wr _ b0;dsimp only at zl;go_wp2_with fail;refine(HP.out _ qBq).mono ?_;rintro e w4 ⟨rfl,hb4⟩;have hB4:Below w.heap.size w w4:=bS hBq (bS qBq hb4);have hB24:Below w2.heap.size w2 w4:=bS hbl2 (bS qBq hb4);clear hb4;cases hbb:bb
   ·have HC:Hid _:=H4.out hbb;go_wp2;exact⟨⟨j+1,by omega,by go_num,HC,hB24⟩,mI⟩
   have HC:=H3.out hbb;go_wp2;exact⟨rfl,.inr ⟨by rw[HC];omega,by rw[HC];rfl⟩,hB4⟩
  have hjm:j=m:=oM;subst hjm;have HC:Hid (((lg.take (k+1)).any (fun l=>hs.any (fun o=>fU o.legs l)))=false):=H2.out (by have:=HS2.out;rw[HE2.out] at this;exact this);go_wp2;exact⟨⟨k+1,by omega,by go_num,HC,hB1q⟩,mI⟩
 have hkn:k=n:=oM;subst hkn;have HC:=HE.out (by have:=HS.out;rw[HE1.out] at this;exact this);go_wp2;go_end0;exact⟨.inl ⟨HC,rfl⟩,bS hB1 hbl⟩
def mM (idx:Int) (bs:List Bal):List (List Bal):=[if idx=0 then bs else [],if idx=1 then bs else [],if idx=2 then bs else []]
theorem fOk {idx:Int} {bs:List Bal} (h:0≤idx∧idx≤2):(mM idx bs).getD idx.toNat default=bs:=by
 rcases(show idx=0∨idx=1∨idx=2 by omega) with rfl|rfl|rfl <;> rfl
theorem fIr {idx:Int} {bs:List Bal} (h:gY bs=0):tJ ⟨mM idx bs⟩=0:=by
 have h0:∀b:Bool,gY (if b=true then bs else [])=0:=fun b=>by cases b <;> first|rfl|exact h
 unfold tJ;rw[if_neg (by show ¬((3:Nat)<1∨3<3);omega)];refine fO4 fun k hk=>?_
 have hk3:k<3:=hk;unfold fXy mM;rcases(show k=0∨k=1∨k=2 by omega) with rfl|rfl|rfl
 ·show gY (if idx=0 then bs else [])=0;split;exact h;rfl
 ·show gY (if idx=1 then bs else [])=0;split;exact h;rfl
 show gY (if idx=2 then bs else [])=0;split;exact h;rfl
theorem pE {idx:Int} {bs:List Bal} (h:pW idx bs=0):(0≤idx∧idx≤2)∧gY bs=0:=by
 unfold pW at h;split at h
 ·rename_i h1;exact⟨inBi.1 h1,h⟩
 omega
theorem qX (w:World):balsR.V w (.slice none 0 0) []:=⟨none,0,rfl,Nat.le_refl _,by decide,fun i hi=>absurd hi (Nat.not_lt_zero _)⟩
theorem fMa {W:World} {G:Nat} {u0 u1 u2:Value} {idx:Int} {bs:List Bal} (c0:W.cell? ⟨G,0,none⟩=some u0) (c1:W.cell? ⟨G,1,none⟩=some u1) (c2:W.cell? ⟨G,2,none⟩=some u2)
  (v0:balsR.V W u0 (if idx=0 then bs else [])) (v1:balsR.V W u1 (if idx=1 then bs else [])) (v2:balsR.V W u2 (if idx=2 then bs else [])):ledgR.V W (.agg #[.slice (some ⟨G,0,none⟩) 3 3]) ⟨mM idx bs⟩:=by
 refine⟨_,rfl,some ⟨G,0,none⟩,3,rfl,Nat.le_refl _,by decide,fun i hi=>?_⟩;have hi3:i<3:=hi;rcases(show i=0∨i=1∨i=2 by omega) with rfl|rfl|rfl
 ·exact⟨G,0,u0,rfl,rfl,fun j hj=>(by obtain rfl:j=0:=oM;exact c0),v0⟩
 ·exact⟨G,0,u1,rfl,rfl,fun j hj=>(by obtain rfl:j=0:=oM;exact c1),v1⟩
 exact⟨G,0,u2,rfl,rfl,fun j hj=>(by obtain rfl:j=0:=oM;exact c2),v2⟩
theorem fWz (w:World):(Instr.makeSlice 232 (.int .i64 3) (.int .i64 3)).run Tryz.prog w =.ok (.slice (some ⟨w.heap.size,0,none⟩) 3 3) (w.alloc (.cells #[.slice none 0 0,.slice none 0 0,.slice none 0 0] 30)):=kF
theorem yX (x:Value) (d:Shd) (w:World) (hx:shdR.V w x d) (h0:pW d.idx d.bals=0) :
  Calls Tryz.prog 198 #[x] w fun e w'=>∃b,e =.returned (.agg #[.int .i64 3,.map (some b)])∧w.heap.size≤b∧Book w' b 54 (kY (mM d.idx d.bals))∧Below w.heap.size w w':=by
 obtain⟨hi,hbf⟩:=pE h0;have HBo:Hid (∀W y,ledgR.V W y ⟨mM d.idx d.bals⟩→Calls Tryz.prog 213 #[y] W fun e w'=>∃b,e =.returned (.agg #[.int .i64 3,.map (some b)])∧W.heap.size≤b∧Book w' b 54 (kY (mM d.idx d.bals))∧Below W.heap.size W w'):=fun W y hy=>fPq y ⟨mM d.idx d.bals⟩ W hy (fIr hbf)
 obtain⟨u1,u2,u3,u4,u5,rfl,h1,h2,h3,h4,h5⟩:=hx;have HV:Hid (bW w fun W=>balsR.V W u1 d.bals):=fun W hW=>balsR.below h1 hW
 obtain⟨a1,c1,rfl⟩:=fP h1;obtain⟨a2,c2,rfl⟩:=fF h2;obtain⟨a3,c3,rfl⟩:=fM h3;obtain⟨a4,c4,rfl⟩:=fF h4;obtain⟨a5,c5,rfl⟩:=gJ h5;clear h1 h2 h3 h4 h5 h0 hbf;generalize d.bals.length=n1 at *;generalize d.votes.length=n2 at *;generalize d.held.length=n3 at *;generalize d.done.length=n4 at *;generalize d.appl.length=n5 at *;have hmk:=fWz;obtain⟨bs,hbs⟩:∃bs,bs=d.bals:=⟨_,rfl⟩
 rw[←hbs] at HBo HV ⊢;clear hbs;generalize d.idx=idx at *;rcases(show idx=0∨idx=1∨idx=2 by omega) with rfl|rfl|rfl
 ·
  clear hi;go_enter Tryz.func198,Tryz.ntmps198;go_wp2_with fail;refine(HBo.out _ _ (fMa (G:=w.heap.size+2) (u0:=.slice a1 n1 c1) (u1:=.slice none 0 0) (u2:=.slice none 0 0) sG sG sG ?v0 ?v1 ?v2)).mono ?_
  case v0=>first|exact HV.out _ qBq|exact qX _
  case v1=>first|exact HV.out _ qBq|exact qX _
  case v2=>first|exact HV.out _ qBq|exact qX _
  rintro e w1 ⟨b,rfl,hb,hbk,hb1⟩;have hB1:=bT w hb1;have hz1:=hb1.size;simp at hb hz1;obtain⟨c1',f1⟩:=bcell hb1;have r0:w1.cell? ⟨w.heap.size+1,0,none⟩=some (.int .i64 0):=cK hb1 sG;have r1:w1.cell? ⟨w.heap.size+1,1,none⟩=some (.map none):=cK hb1 sG;have rf:∀o,w1.frozen? ⟨w.heap.size+1,o,none⟩=false:=fun o=>by rw[f1 _ _ (by simp;try omega)];simp[go_sem]
  have HBk:Hid (Book w1 b 54 (kY (mM 0 bs))):=hbk;clear hb1 c1' f1 hbk;go_wp2;refine bodyPost_ret (v:=.agg #[.int .i64 3,.map (some b)]) (by simp[results,Tryz.results198,go_sem,r0,r1,rf]) rfl ⟨b,rfl,by omega,?_,qS⟩;exact(HBk.out.turned (Mod.of_set _ _ _) (by dsimp only;omega)).turned (Mod.of_set _ _ _) (by dsimp only;omega)
 ·
  clear hi;go_enter Tryz.func198,Tryz.ntmps198;go_wp2_with fail;refine(HBo.out _ _ (fMa (G:=w.heap.size+2) (u0:=.slice none 0 0) (u1:=.slice a1 n1 c1) (u2:=.slice none 0 0) sG sG sG ?v0 ?v1 ?v2)).mono ?_
  case v0=>first|exact HV.out _ qBq|exact qX _
  case v1=>first|exact HV.out _ qBq|exact qX _
  case v2=>first|exact HV.out _ qBq|exact qX _
  rintro e w1 ⟨b,rfl,hb,hbk,hb1⟩;have hB1:=bT w hb1;have hz1:=hb1.size;simp at hb hz1;obtain⟨c1',f1⟩:=bcell hb1;have r0:w1.cell? ⟨w.heap.size+1,0,none⟩=some (.int .i64 0):=cK hb1 sG;have r1:w1.cell? ⟨w.heap.size+1,1,none⟩=some (.map none):=cK hb1 sG;have rf:∀o,w1.frozen? ⟨w.heap.size+1,o,none⟩=false:=fun o=>by rw[f1 _ _ (by simp;try omega)];simp[go_sem]
  have HBk:Hid (Book w1 b 54 (kY (mM 1 bs))):=hbk;clear hb1 c1' f1 hbk;go_wp2;refine bodyPost_ret (v:=.agg #[.int .i64 3,.map (some b)]) (by simp[results,Tryz.results198,go_sem,r0,r1,rf]) rfl ⟨b,rfl,by omega,?_,qS⟩;exact(HBk.out.turned (Mod.of_set _ _ _) (by dsimp only;omega)).turned (Mod.of_set _ _ _) (by dsimp only;omega)
 clear hi;go_enter Tryz.func198,Tryz.ntmps198;go_wp2_with fail;refine(HBo.out _ _ (fMa (G:=w.heap.size+2) (u0:=.slice none 0 0) (u1:=.slice none 0 0) (u2:=.slice a1 n1 c1) sG sG sG ?v0 ?v1 ?v2)).mono ?_
 case v0=>first|exact HV.out _ qBq|exact qX _
 case v1=>first|exact HV.out _ qBq|exact qX _
 case v2=>first|exact HV.out _ qBq|exact qX _
 rintro e w1 ⟨b,rfl,hb,hbk,hb1⟩;have hB1:=bT w hb1;have hz1:=hb1.size;simp at hb hz1;obtain⟨c1',f1⟩:=bcell hb1;have r0:w1.cell? ⟨w.heap.size+1,0,none⟩=some (.int .i64 0):=cK hb1 sG;have r1:w1.cell? ⟨w.heap.size+1,1,none⟩=some (.map none):=cK hb1 sG;have rf:∀o,w1.frozen? ⟨w.heap.size+1,o,none⟩=false:=fun o=>by rw[f1 _ _ (by simp;try omega)];simp[go_sem]
 have HBk:Hid (Book w1 b 54 (kY (mM 2 bs))):=hbk;clear hb1 c1' f1 hbk;go_wp2;refine bodyPost_ret (v:=.agg #[.int .i64 3,.map (some b)]) (by simp[results,Tryz.results198,go_sem,r0,r1,rf]) rfl ⟨b,rfl,by omega,?_,qS⟩;exact(HBk.out.turned (Mod.of_set _ _ _) (by dsimp only;omega)).turned (Mod.of_set _ _ _) (by dsimp only;omega)
theorem fPv {idx:Int} {bs:List Bal} (h:0≤idx∧idx≤2) (ls:List Leg):fJ (fun k=>canL (kY (mM idx bs)) ((onSh idx ls).getD k default)) (onSh idx ls).length=xW bs (onSh idx ls):=by
 have e:∀k,k<(onSh idx ls).length→canL (kY (mM idx bs)) ((onSh idx ls).getD k default)=canB bs ((onSh idx ls).getD k default):=fun k hk=>by
  have hm:(onSh idx ls).getD k default ∈ onSh idx ls:=by simp[List.getD,hk]
  have hs:=(List.mem_filter.1 hm).2;simp only[beq_iff_eq] at hs;have h1:=fSn (g:=⟨mM idx bs⟩) (l:=(onSh idx ls).getD k default) oM (by show _<((3:Nat):Int);omega);rw[hs] at h1;have h2:=fOk (bs:=bs) h;dsimp only at h1;rw[h2] at h1;exact h1.symm
 unfold xW;have hg:∀n,n≤(onSh idx ls).length→fJ (fun k=>canL (kY (mM idx bs)) ((onSh idx ls).getD k default)) n=fJ (fun k=>canB bs ((onSh idx ls).getD k default)) n:=by
  intro n;induction n with
  | zero=>intro _;rfl
  | succ n ih=>
   intro hn;have h1:=ih oM;unfold fJ;rw[h1,e n oM]
 exact hg _ (Nat.le_refl _)
theorem zH (idx id:Int) (b:Nat) (ul:Value) (bs:List Bal) (ls:List Leg) (w:World) (hb:Book w b 54 (kY (mM idx bs))) (hl:legsR.V w ul ls) (hn:ls.length≤1000) (hi:0≤idx∧idx≤2) (hbf:gY bs=0) (hlf:∀l ∈ ls,gI l=0) :
  Calls Tryz.prog 197 #[.int .i64 idx,.agg #[.int .i64 3,.map (some b)],.agg #[.int .i64 id,ul]] w (fF6 (xW bs (onSh idx ls)) w):=by
 have HLe:Hid (bW w fun W=>Calls Tryz.prog 192 #[ul,.int .i64 idx] W fun e w'=>∃v,e =.returned v∧w'.ownsRow W.heap.size 168 4 v (onSh idx ls).length (gN (onSh idx ls))∧Below W.heap.size W w'):=fun W hW=>xK ul ls idx W (legsR.below hl hW) oM
 have HAm:Hid (∀W y,Below w.heap.size w W→legsR.V W y (onSh idx ls)→RI 212 #[.agg #[.int .i64 3,.map (some b)],y] W (.int .i64 (xW bs (onSh idx ls)))):=fun W y hW hy=>by
  have h:=fDg 3 b 54 (kY (mM idx bs)) y (onSh idx ls) W (hb.below hW) hy (fTx (g:=⟨mM idx bs⟩) (fIr hbf)) (fun k hk=>by
   have hm:(onSh idx ls).getD k default ∈ onSh idx ls:=by simp[List.getD,hk]
   exact hlf _ (List.mem_filter.1 hm).1)
  rw[fPv hi ls] at h;exact h
 obtain⟨al,cl,rfl⟩:=kP hl;clear hl hn hi hbf hlf hb;generalize ls.length=ll at *;obtain⟨cc,hcc⟩:∃cc,cc=xW bs (onSh idx ls):=⟨_,rfl⟩
 rw[←hcc] at HAm ⊢;clear hcc;go_enter Tryz.func197,Tryz.ntmps197;go_wp2;obtain⟨wr,hwr⟩:∃wr,wr=(w.alloc (.cells #[.int .i64 3,.map (some b)] 227)).alloc (.cells #[.int .i64 id,.slice al ll cl] 57):=⟨_,rfl⟩
 have p0:wr.cell? ⟨w.heap.size,0,none⟩=some (.int .i64 3):=by rw[hwr];simp[go_sem]
 have p1:wr.cell? ⟨w.heap.size,1,none⟩=some (.map (some b)):=by rw[hwr];simp[go_sem]
 have q0:wr.cell? ⟨w.heap.size+1,0,none⟩=some (.int .i64 id):=by rw[hwr];simp[go_sem]
 have q1:wr.cell? ⟨w.heap.size+1,1,none⟩=some (.slice al ll cl):=by rw[hwr];simp[go_sem]
 have hBr:Below w.heap.size w wr:=by rw[hwr];exact qBq
 rw[←hwr];clear hwr;refine wp_region_noPanic ?_;refine fB (fun W=>Below wr.heap.size wr W∧W.cell? ⟨w.heap.size,0,none⟩=some (.int .i64 3)∧W.cell? ⟨w.heap.size,1,none⟩=some (.map (some b))∧W.cell? ⟨w.heap.size+1,1,none⟩=some (.slice al ll cl)) 7 kF ⟨qBq,cK qBq p0,cK qBq p1,cK qBq q1⟩ (fun hS=>?_);refine tX 0 ?_;refine tX 1 ?_;refine tX 2 ?_;refine tX 3 ?_;refine uS 4 rfl (fun K hK=>?_);go_simp;refine(HLe.out _ (bS hBr hS.1)).mono ?_;rintro e wz1 ⟨vl,rfl,ol,hbz1⟩;obtain⟨a5,c5,rfl⟩:=fD ol;have V1:=gV ol;have hbz1':Below wr.heap.size wr wz1:=bS hS.1 hbz1;have hS3:=And.intro hbz1' (kS3 hbz1 hS.2);refine hK _ _ (fun _=>hS3) ?_;clear hK K hS hbz1;have hS:=hS3;clear hS3;try simp only[jX]
 refine uS 5 rfl (fun K hK=>?_);go_simp;refine(HAm.out _ _ (bS hBr hS.1) V1).mono ?_;rintro e wz ⟨rfl,hbz⟩;have hbz':Below wr.heap.size wr wz:=bS hS.1 hbz;have hS3:=And.intro hbz' (kS3 hbz hS.2);refine hK _ _ (fun _=>hS3) ?_;clear hK K hS hbz;have hS:=hS3;clear hS3;try simp only[jX]
 refine tX 6 ?_;refine dP ?_;by_cases hc:cc=0
 ·
  have hc':(cc !=0)=false:=by simp[hc]
  go_wp2;go_end0;exact⟨.inl ⟨hc,rfl⟩,bS hBr hS.1⟩
 have hc':(cc !=0)=true:=by simp[hc]
 go_wp2;exact⟨rfl,.inr ⟨hc,rfl⟩,bS hBr hS.1⟩
def cmpQ (x y:Int):Int:=if x<y then -1 else if y<x then 1 else 0
theorem cmpQ_neg {x y:Int}:cmpQ x y<0↔x<y:=by unfold cmpQ;split <;> (try split) <;> omega
theorem fR9 {x y:Int}:cmpQ x y=0↔x=y:=by unfold cmpQ;split <;> (try split) <;> omega
theorem fQm (x:Int) (w:World):Calls Tryz.prog 230 #[.int .i64 x] w fun e w'=>e =.returned (.bool false)∧w'=w:=by
 go_enter Tryz.func230,Tryz.ntmps230;go_wp2;go_ret;exact⟨rfl,rfl⟩
theorem fN4 (x y:Int) (w:World):Calls Tryz.prog 210 #[.int .i64 x,.int .i64 y] w fun e w'=>e =.returned (.int .i64 (cmpQ x y))∧w'=w:=by
 go_enter Tryz.func210,Tryz.ntmps210;go_wp2_with (go_at_call 230;refine(fQm _ _).mono ?_;rintro e w' ⟨rfl,rfl⟩);all_goals (go_ret;refine⟨?_,rfl⟩;unfold cmpQ;(repeat' split) <;> first|rfl|(exfalso;omega))
theorem fCt (l:Mrk) (c:Int) (w:World):RI 209 #[.agg #[.int .i64 l.con,.int .i64 l.val],.int .i64 c] w (.int .i64 (cmpQ l.con c)):=by
 go_enter Tryz.func209,Tryz.ntmps209;go_wp2_with (go_at_call 210;refine(fN4 _ _ _).mono ?_;rintro e w' ⟨rfl,rfl⟩);go_ret;exact⟨rfl,qBq⟩
def PlM (xs:List Mrk) (c:Int) (w:World) (e:Ending) (w':World):Prop:=∃i:Nat,i≤xs.length∧e =.returned (.tuple #[.int .i64 i,.bool (decide (i<xs.length∧(xs.getD i default).con=c))])∧(∀k,k<i→(xs.getD k default).con<c)∧(∀k,i≤k→k<xs.length→c≤(xs.getD k default).con)∧Below w.heap.size w w'
theorem fWj (x:Value) (xs:List Mrk) (c:Int) (w:World) (hx:mrksR.V w x xs) (hn:xs.length≤1048576) (hr:∀i j,i<j→j<xs.length→(xs.getD i default).con<(xs.getD j default).con) :
  Calls Tryz.prog 208 #[x,.int .i64 c,.func (.func 209) #[] #[]] w (PlM xs c w):=by
 obtain⟨ax,cx,rfl,hcx,hmx,hx⟩:=hx;unfold maxLen at hmx;have HR:Hid (∀i j,i<j→j<xs.length→(xs.getD i default).con<(xs.getD j default).con):=hr;have HX:Hid (∀i,i<xs.length→∃b o,ax=some ⟨b,o,none⟩∧qJ w b (o+i*2) (xs.getD i default)):=hx;clear hx hr;generalize hN:xs.length=n at *;have HN:Hid (xs.length=n):=hN;clear hN;have eg:=enters_of Tryz.func209 kF rfl;go_enter Tryz.func208,Tryz.ntmps208;go_wp2;go_loopw [9,10] (fun a b W=>∃i j:Nat,i≤j∧j≤n∧a =.int .i64 i∧b =.int .i64 j∧Hid (∀k,k<i→(xs.getD k default).con<c)∧Hid (∀k,j≤k→k<n→c≤(xs.getD k default).con)∧Below w.heap.size w W) (fun a b _=>(intOf b).toNat-(intOf a).toNat)
 case atStart=>exact⟨0,n,Nat.zero_le _,Nat.le_refl _,rfl,rfl,fun k h=>absurd h oM,fun k h1 h2=>oM,bR _ _⟩
 obtain⟨i,j,hij,hjn,rfl,rfl,HA,HB,hbl⟩:=hrel;by_cases hlt:i<j
 ·
  have hlt':(i:Int)<j:=oM;obtain⟨m,hm⟩:∃m:Nat,((i:Int)+j) / 2=(m:Int):=⟨(i+j) / 2,by omega⟩
  have hm1:i≤m:=oM;have hm2:m<j:=oM;have hi4:(0:Int)≤m:=oM;have hi5:(m:Int)<n:=oM;obtain⟨bx,ox,rfl,g1⟩:=HX.out m oM;obtain⟨l,hl⟩:∃l,l=xs.getD m default:=⟨_,rfl⟩
  rw[←hl] at g1;have HL:Hid (l=xs.getD m default):=hl;clear hl;obtain⟨g2,g3⟩:=gF hbl g1;clear g1;by_cases hneg:cmpQ l.con c<0
  ·
   have hd:decide (cmpQ l.con c<0)=true:=decide_eq_true hneg;have HA2:Hid (∀k,k<m+1→(xs.getD k default).con<c):=fun k hk=>by
    have h1:(xs.getD m default).con<c:=by rw[←HL.out];exact cmpQ_neg.1 hneg
    by_cases e:k=m
    ·rw[e];exact h1
    have:=HR.out k m oM oM;omega
   go_wp2_with (first|(go_at_call 209;refine(fCt l  c _).mono ?_;rintro e wa ⟨rfl,hb1⟩))
   refine⟨⟨m+1,j,by omega,hjn,by go_num,rfl,HA2,HB,qBq⟩,?_⟩;simp[intOf];omega
  have hd:decide (cmpQ l.con c<0)=false:=decide_eq_false hneg;have HB2:Hid (∀k,m≤k→k<n→c≤(xs.getD k default).con):=fun k hk hkn=>by
   have h1:c≤(xs.getD m default).con:=by rw[←HL.out];have:=mt cmpQ_neg.2 hneg;omega
   by_cases e:k=m
   ·rw[e];exact h1
   have:=HR.out m k oM oM;omega
  go_wp2_with (first|(go_at_call 209;refine(fCt l  c _).mono ?_;rintro e wa ⟨rfl,hb1⟩))
  refine⟨⟨i,m,hm1,by omega,rfl,rfl,HA,HB2,qBq⟩,?_⟩;simp[intOf];omega
 obtain rfl:i=j:=oM;have hi4:(0:Int)≤i:=oM;have hnl:¬(i:Int)<i:=oM;by_cases hin:i<n
 ·
  obtain⟨bx,ox,rfl,g1⟩:=HX.out i hin;obtain⟨l,hl⟩:∃l,l=xs.getD i default:=⟨_,rfl⟩
  rw[←hl] at g1;have HL:Hid (l=xs.getD i default):=hl;clear hl;obtain⟨g2,g3⟩:=gF hbl g1;clear g1;have hi5:(i:Int)<n:=oM;have hi6:decide (i<n)=true:=decide_eq_true hin;go_wp2_with (first|(go_at_call 209;refine(fCt l  c _).mono ?_;rintro e wa ⟨rfl,hb1⟩));refine bodyPost_ret (v:=.tuple #[.int .i64 i,.bool (cmpQ l.con c==0)]) (by simp[results,Tryz.results208,go_sem]) rfl ?_;refine⟨i,by rw[HN.out];exact hjn,?_,HA.out,by rw[HN.out];exact HB.out,qBq⟩;rw[←HL.out,HN.out];have e:(cmpQ l.con c==0)=decide (i<n∧l.con=c):=by
   rw[Bool.eq_iff_iff];simp[hin,fR9]
  rw[e]
 have hi5:¬(i:Int)<n:=oM;have hi6:decide (i<n)=false:=decide_eq_false hin;go_wp2;refine bodyPost_ret (v:=.tuple #[.int .i64 i,.bool false]) (by simp[results,Tryz.results208,go_sem]) rfl ?_;refine⟨i,by rw[HN.out];exact hjn,?_,HA.out,by rw[HN.out];exact HB.out,qBq⟩;rw[HN.out,decide_eq_false (fun h=>hin h.1)]
theorem fBp (x:Value) (xs:List Mrk) (c:Int) (w:World) (hx:mrksR.V w x xs) (hn:xs.length≤1048576) (hr:∀i j,i<j→j<xs.length→(xs.getD i default).con<(xs.getD j default).con) :
  Calls Tryz.prog 193 #[x,.int .i64 c] w (PlM xs c w):=by
 have HB:Hid (bW w fun W=>Calls Tryz.prog 208 #[x,.int .i64 c,.func (.func 209) #[] #[]] W (PlM xs c W)):=fun W hW=>fWj x xs c W (mrksR.below hx hW) hn hr
 obtain⟨a,ca,rfl⟩:=fF hx;clear hx hr;go_enter Tryz.func193,Tryz.ntmps193;go_wp2_with fail;refine(HB.out _ qBq).mono ?_;rintro e w1 ⟨i,hi,rfl,h1,h2,hb1⟩;go_wp2;refine bodyPost_ret (v:=.tuple #[.int .i64 i,.bool (decide (i<xs.length∧(xs.getD i default).con=c))]) (by simp[results,Tryz.results193,go_sem]) rfl ?_;exact⟨i,hi,rfl,h1,h2,qBq⟩
theorem yN (x:Value) (xs:List Mrk) (c:Int) (w:World) (hx:mrksR.V w x xs) (hn:xs.length≤1048576) (hr:∀i j,i<j→j<xs.length→(xs.getD i default).con<(xs.getD j default).con) :
  RI 174 #[x,.int .i64 c] w (.int .i64 (fK c xs)):=by
 have HB:Hid (bW w fun W=>Calls Tryz.prog 193 #[x,.int .i64 c] W (PlM xs c W)):=fun W hW=>fBp x xs c W (mrksR.below hx hW) hn hr
 obtain⟨ax,cx,rfl,hcx,hmx,hx⟩:=hx;unfold maxLen at hmx;have HF:Hid (∀i,i≤xs.length→(∀k,k<i→(xs.getD k default).con<c)→(∀k,i≤k→k<xs.length→c≤(xs.getD k default).con)→fK c xs=if i<xs.length∧(xs.getD i default).con=c then (xs.getD i default).val else 0):=fun i hi h1 h2=>fDs hr hi h1 h2
 have HX:Hid (∀i,i<xs.length→∃b o,ax=some ⟨b,o,none⟩∧qJ w b (o+i*2) (xs.getD i default)):=hx;clear hx hr;go_enter Tryz.func174,Tryz.ntmps174;go_wp2_with fail;refine(HB.out _ qBq).mono ?_;rintro e w1 ⟨i,hi,rfl,h1,h2,hb1⟩;have hf:=HF.out i hi h1 h2;have HFd:Hid (fK c xs=if i<xs.length∧(xs.getD i default).con=c then (xs.getD i default).val else 0):=hf;clear HF h1 h2 hf;by_cases hc:i<xs.length∧(xs.getD i default).con=c
 ·
  have hd:decide (i<xs.length∧(xs.getD i default).con=c)=true:=decide_eq_true hc;rw[hd];have HC:Hid (fK c xs=(xs.getD i default).val):=by show _=_;rw[HFd.out,if_pos hc]
  obtain⟨bx,ox,rfl,g1⟩:=HX.out i hc.1;obtain⟨g2,g3⟩:=gF hb1 g1;have i1:(i:Int)<xs.length:=by have:=hc.1;omega
  have i2:(0:Int)≤i:=oM;clear hd hc HFd g1;generalize (xs.getD i default).val=vv at *;generalize xs.length=n at *;go_wp2;go_ret;exact⟨rH,qBq⟩
 have hd:decide (i<xs.length∧(xs.getD i default).con=c)=false:=decide_eq_false hc;rw[hd];have HC:Hid (fK c xs=0):=by show _=_;rw[HFd.out,if_neg hc]
 clear hd hc HFd;go_wp2;go_ret;exact⟨rH,qBq⟩
theorem fAs (l:Cont) (u:Value) (c:Int) (w:World):RI 215 #[.agg #[.int .i64 l.id,u],.int .i64 c] w (.int .i64 (cmpQ l.id c)):=by
 go_enter Tryz.func215,Tryz.ntmps215;go_wp2_with (go_at_call 210;refine(fN4 _ _ _).mono ?_;rintro e w' ⟨rfl,rfl⟩);go_ret;exact⟨rfl,qBq⟩
def PlC (xs:List Cont) (c:Int) (w:World) (e:Ending) (w':World):Prop:=∃i:Nat,i≤xs.length∧e =.returned (.tuple #[.int .i64 i,.bool (decide (i<xs.length∧(xs.getD i default).id=c))])∧(∀k,k<i→(xs.getD k default).id<c)∧(∀k,i≤k→k<xs.length→c≤(xs.getD k default).id)∧Below w.heap.size w w'
theorem fWh (x:Value) (xs:List Cont) (c:Int) (w:World) (hx:contsR.V w x xs) (hn:xs.length≤1048576) (hr:∀i j,i<j→j<xs.length→(xs.getD i default).id<(xs.getD j default).id) :
  Calls Tryz.prog 214 #[x,.int .i64 c,.func (.func 215) #[] #[]] w (PlC xs c w):=by
 obtain⟨ax,cx,rfl,hcx,hmx,hx⟩:=qH hx;unfold maxLen at hmx;have HR:Hid (∀i j,i<j→j<xs.length→(xs.getD i default).id<(xs.getD j default).id):=hr;have HX:Hid (∀k,k<xs.length→∃b o p q,ax=some ⟨b,o,none⟩∧w.cell? ⟨b,o+k*2,none⟩=some (.int .i64 (xs.getD k default).id)∧w.cell? ⟨b,o+k*2+1,none⟩=some (.slice p (xs.getD k default).legs.length q)∧contR.V w (.agg #[.int .i64 (xs.getD k default).id,.slice p (xs.getD k default).legs.length q]) (xs.getD k default)):=hx;clear hx hr;generalize hN:xs.length=n at *;have HN:Hid (xs.length=n):=hN;clear hN;have eg:=enters_of Tryz.func215 kF rfl;go_enter Tryz.func214,Tryz.ntmps214;go_wp2;go_loopw [9,10] (fun a b W=>∃i j:Nat,i≤j∧j≤n∧a =.int .i64 i∧b =.int .i64 j∧Hid (∀k,k<i→(xs.getD k default).id<c)∧Hid (∀k,j≤k→k<n→c≤(xs.getD k default).id)∧Below w.heap.size w W) (fun a b _=>(intOf b).toNat-(intOf a).toNat)
 case atStart=>exact⟨0,n,Nat.zero_le _,Nat.le_refl _,rfl,rfl,fun k h=>absurd h oM,fun k h1 h2=>oM,bR _ _⟩
 obtain⟨i,j,hij,hjn,rfl,rfl,HA,HB,hbl⟩:=hrel;by_cases hlt:i<j
 ·
  have hlt':(i:Int)<j:=oM;obtain⟨m,hm⟩:∃m:Nat,((i:Int)+j) / 2=(m:Int):=⟨(i+j) / 2,by omega⟩
  have hm1:i≤m:=oM;have hm2:m<j:=oM;have hi4:(0:Int)≤m:=oM;have hi5:(m:Int)<n:=oM;obtain⟨bx,ox,pp,qq,rfl,g2,g3,_⟩:=HX.out m oM;obtain⟨l,hl⟩:∃l,l=xs.getD m default:=⟨_,rfl⟩
  rw[←hl] at g2 g3;have HL:Hid (l=xs.getD m default):=hl;clear hl;replace g2:=cK hbl g2;replace g3:=cK hbl g3;by_cases hneg:cmpQ l.id c<0
  ·
   have hd:decide (cmpQ l.id c<0)=true:=decide_eq_true hneg;have HA2:Hid (∀k,k<m+1→(xs.getD k default).id<c):=fun k hk=>by
    have h1:(xs.getD m default).id<c:=by rw[←HL.out];exact cmpQ_neg.1 hneg
    by_cases e:k=m
    ·rw[e];exact h1
    have:=HR.out k m oM oM;omega
   go_wp2_with (first|(go_at_call 215;refine(fAs l _ c _).mono ?_;rintro e wa ⟨rfl,hb1⟩))
   refine⟨⟨m+1,j,by omega,hjn,by go_num,rfl,HA2,HB,qBq⟩,?_⟩;simp[intOf];omega
  have hd:decide (cmpQ l.id c<0)=false:=decide_eq_false hneg;have HB2:Hid (∀k,m≤k→k<n→c≤(xs.getD k default).id):=fun k hk hkn=>by
   have h1:c≤(xs.getD m default).id:=by rw[←HL.out];have:=mt cmpQ_neg.2 hneg;omega
   by_cases e:k=m
   ·rw[e];exact h1
   have:=HR.out m k oM oM;omega
  go_wp2_with (first|(go_at_call 215;refine(fAs l _ c _).mono ?_;rintro e wa ⟨rfl,hb1⟩))
  refine⟨⟨i,m,hm1,by omega,rfl,rfl,HA,HB2,qBq⟩,?_⟩;simp[intOf];omega
 obtain rfl:i=j:=oM;have hi4:(0:Int)≤i:=oM;have hnl:¬(i:Int)<i:=oM;by_cases hin:i<n
 ·
  obtain⟨bx,ox,pp,qq,rfl,g2,g3,_⟩:=HX.out i hin;obtain⟨l,hl⟩:∃l,l=xs.getD i default:=⟨_,rfl⟩
  rw[←hl] at g2 g3;have HL:Hid (l=xs.getD i default):=hl;clear hl;replace g2:=cK hbl g2;replace g3:=cK hbl g3;have hi5:(i:Int)<n:=oM;have hi6:decide (i<n)=true:=decide_eq_true hin;go_wp2_with (first|(go_at_call 215;refine(fAs l _ c _).mono ?_;rintro e wa ⟨rfl,hb1⟩));refine bodyPost_ret (v:=.tuple #[.int .i64 i,.bool (cmpQ l.id c==0)]) (by simp[results,Tryz.results214,go_sem]) rfl ?_;refine⟨i,by rw[HN.out];exact hjn,?_,HA.out,by rw[HN.out];exact HB.out,qBq⟩;rw[←HL.out,HN.out];have e:(cmpQ l.id c==0)=decide (i<n∧l.id=c):=by
   rw[Bool.eq_iff_iff];simp[hin,fR9]
  rw[e]
 have hi5:¬(i:Int)<n:=oM;have hi6:decide (i<n)=false:=decide_eq_false hin;go_wp2;refine bodyPost_ret (v:=.tuple #[.int .i64 i,.bool false]) (by simp[results,Tryz.results214,go_sem]) rfl ?_;refine⟨i,by rw[HN.out];exact hjn,?_,HA.out,by rw[HN.out];exact HB.out,qBq⟩;rw[HN.out,decide_eq_false (fun h=>hin h.1)]
theorem vX (x:Value) (xs:List Cont) (c:Int) (w:World) (hx:contsR.V w x xs) (hn:xs.length≤1048576) (hr:∀i j,i<j→j<xs.length→(xs.getD i default).id<(xs.getD j default).id) :
  Calls Tryz.prog 199 #[x,.int .i64 c] w (PlC xs c w):=by
 have HB:Hid (bW w fun W=>Calls Tryz.prog 214 #[x,.int .i64 c,.func (.func 215) #[] #[]] W (PlC xs c W)):=fun W hW=>fWh x xs c W (contsR.below hx hW) hn hr
 obtain⟨a,ca,rfl⟩:=fM hx;clear hx hr;go_enter Tryz.func199,Tryz.ntmps199;go_wp2_with fail;refine(HB.out _ qBq).mono ?_;rintro e w1 ⟨i,hi,rfl,h1,h2,hb1⟩;go_wp2;refine bodyPost_ret (v:=.tuple #[.int .i64 i,.bool (decide (i<xs.length∧(xs.getD i default).id=c))]) (by simp[results,Tryz.results199,go_sem]) rfl ?_;exact⟨i,hi,rfl,h1,h2,qBq⟩
theorem fG6 (x:Value) (d:Shd) (c:Int) (w:World) (hx:shdR.V w x d) (hn:d.held.length≤1048576) (hr:∀i j,i<j→j<d.held.length→(d.held.getD i default).id<(d.held.getD j default).id) :
  RI 180 #[x,.int .i64 c] w (.bool (fO d.held c)):=by
 obtain⟨u1,u2,u3,u4,u5,rfl,_,_,h3,_,_⟩:=hx;have HB:Hid (bW w fun W=>Calls Tryz.prog 199 #[u3,.int .i64 c] W (PlC d.held c W)):=fun W hW=>vX u3 d.held c W (contsR.below h3 hW) hn hr
 have HF:Hid (∀i,(∀k,k<i→(d.held.getD k default).id<c)→(∀k,i≤k→k<d.held.length→c≤(d.held.getD k default).id)→fO d.held c=decide (i<d.held.length∧(d.held.getD i default).id=c)):=fun i h1 h2=>fKc hr h1 h2
 obtain⟨a3,c3,rfl⟩:=fM h3;clear h3 hr;go_enter Tryz.func180,Tryz.ntmps180;go_wp2_with fail;refine(HB.out _ qBq).mono ?_;rintro e w1 ⟨i,hi,rfl,h1,h2,hb1⟩;have HC:Hid (fO d.held c=decide (i<d.held.length∧(d.held.getD i default).id=c)):=HF.out i h1 h2;clear HF h1 h2;generalize decide (i<d.held.length∧(d.held.getD i default).id=c)=bb at *;go_wp2;go_ret;exact⟨rH,qBq⟩
theorem vL (n:Int) (w:World):Calls Tryz.prog 219 #[.int .i64 n] w fun e w'=>e =.returned (.bool (inB n 1 2))∧w'=w:=by
 go_enter Tryz.func219,Tryz.ntmps219;go_wp2_with (go_at_call 106;refine(qL _ _ _ _).mono ?_;rintro e w' ⟨rfl,rfl⟩);go_ret;exact⟨rfl,rfl⟩
theorem kU (n:Int) (w:World):Calls Tryz.prog 147 #[.int .i64 n] w fun e w'=>e =.returned (.bool (inB n 1 2))∧w'=w:=by
 go_enter Tryz.func147,Tryz.ntmps147;go_wp2_with (go_at_call 106;refine(qL _ _ _ _).mono ?_;rintro e w' ⟨rfl,rfl⟩);go_ret;exact⟨rfl,rfl⟩
theorem fQ3 (x:Value) (xs:List Mrk) (w:World) (hx:mrksR.V w x xs) :
  RI 218 #[x,.func (.func 219) #[] #[]] w (.int .i64 (mrkF xs)):=by
 obtain⟨ax,cx,rfl,hcx,hmx,hx⟩:=hx;unfold maxLen at hmx;have HH:Hid (∀k c,k<xs.length→fJ (qE xs) k=0→qE xs k=c→c≠0→mrkF xs=c):=fun k c hk hs h hc=>fI2 hk hs h hc
 have HE:Hid (fJ (qE xs) xs.length=0→mrkF xs=0):=fun h=>h
 generalize hn':xs.length=n at *;clear hn';have eg:=enters_of Tryz.func219 kF rfl;go_enter Tryz.func218,Tryz.ntmps218;go_wp2;go_loopw [9] (fun i w'=>∃k:Nat,k≤n∧i =.int .i64 k∧Hid (fJ (qE xs) k=0)∧Below w.heap.size w w') (fun i _=>n-(intOf i).toNat)
 case atStart=>exact⟨0,oM,rfl,rfl,bR _ _⟩
 obtain⟨k,hk,rfl,HS,hbl⟩:=hrel;by_cases hlt:k<n
 ·
  obtain⟨bx,ox,rfl,g1⟩:=hx k hlt;obtain⟨l,hl⟩:∃l,l=xs.getD k default:=⟨_,rfl⟩
  rw[←hl] at g1;have HL:Hid (l=xs.getD k default):=hl;clear hl;obtain⟨a1,a2⟩:=gF hbl g1;have zb:bx<wr.heap.size:=wL wr _ a1;cases h1:inB l.con 1 1000000000
  ·have HC:Hid (mrkF xs=3):=HH.out k 3 hlt HS.out (xO (by rw[←HL.out,h1];rfl)) oM;clear hx;go_wp2_with (first|(go_at_call 146;refine(kT _ _).mono ?_;rintro e w' ⟨rfl,rfl⟩;rw[h1]));go_ret;exact⟨rH,qBq⟩
  cases h2:inB l.val 1 2
  ·have HC:Hid (mrkF xs=3):=HH.out k 3 hlt HS.out (xO (by rw[←HL.out,h1,h2];rfl)) oM;clear hx;go_wp2_with (first|(go_at_call 146;refine(kT _ _).mono ?_;rintro e w' ⟨rfl,rfl⟩;rw[h1])|(go_at_call 219;refine(vL _ _).mono ?_;rintro e w' ⟨rfl,rfl⟩;rw[h2]));go_ret;exact⟨rH,qBq⟩
  have hok:Hid ((inB (xs.getD k default).con 1 1000000000&&inB (xs.getD k default).val 1 2)=true):=by show _=_;rw[←HL.out,h1,h2];rfl
  cases k with
  | zero=>
   have HS2:Hid (fJ (qE xs) 1=0):=gP HS.out (fCs hok.out);clear hx;simp only[Nat.zero_mul,Nat.add_zero] at a1 a2;go_wp2_with (first|(go_at_call 146;refine(kT _ _).mono ?_;rintro e w' ⟨rfl,rfl⟩;rw[h1])|(go_at_call 219;refine(vL _ _).mono ?_;rintro e w' ⟨rfl,rfl⟩;rw[h2]));go_quiet (fail);go_wp2;exact⟨⟨1,by omega,by go_num,HS2,qN qBq _⟩,mI⟩
  | succ m=>
   obtain⟨bx',ox',he,g2⟩:=hx m oM;simp only[Option.some.injEq,Addr.mk.injEq,and_true] at he;obtain⟨rfl,rfl⟩:=he;obtain⟨l',hl'⟩:∃l',l'=xs.getD m default:=⟨_,rfl⟩
   rw[←hl'] at g2;have HL':Hid (l'=xs.getD m default):=hl';clear hl' hx;obtain⟨a3,a4⟩:=gF hbl g2;have hw1:IntKind.i64.wrap (((m+1:Nat):Int)-1)=(m:Int):=by rw[IntKind.wrap_i64];omega
   have hw2:(((m+1:Nat):Int)-1)=(m:Int):=oM;have hw3:IntKind.i64.wrap (m:Int)=(m:Int):=qP oM oM;have e1:((m+1:Nat):Int)<n:=oM;have e2:(m:Int)<n:=oM;have e3:(0:Int)≤m:=oM;have e4:(0:Int)<((m+1:Nat):Int):=oM;have e5:(0:Int)≤((m+1:Nat):Int):=oM;have HFa:Hid (l.con≤l'.con→mrkF xs=1):=fun h=>HH.out (m+1) 1 hlt HS.out (fCq hok.out (by rw[←HL.out,←HL'.out];exact h)) oM
   have HRi:Hid (l'.con<l.con→fJ (qE xs) (m+1+1)=0):=fun h=>gP HS.out (fCr hok.out (by rw[←HL.out,←HL'.out];exact h))
   clear hok;obtain⟨ii,hii⟩:∃ii:Nat,ii=m+1:=⟨_,rfl⟩
   have HII:Hid (ii=m+1):=hii;rw[←hii] at a1 a2 hw1 hw2 e1 e4 e5 HRi ⊢;clear hii HS;have e6:decide (0<ii)=true:=decide_eq_true (by have:=HII.out;omega);by_cases hle:l.con≤l'.con
   ·have HC:=HFa.out hle;go_wp2_with (first|(go_at_call 146;refine(kT _ _).mono ?_;rintro e w' ⟨rfl,rfl⟩;rw[h1])|(go_at_call 219;refine(vL _ _).mono ?_;rintro e w' ⟨rfl,rfl⟩;rw[h2]));go_quiet (fail);go_wp2;go_ret;exact⟨by rw[HC];rfl,qN qBq _⟩
   have HS2:Hid (fJ (qE xs) (ii+1)=0):=HRi.out oM;go_wp2_with (first|(go_at_call 146;refine(kT _ _).mono ?_;rintro e w' ⟨rfl,rfl⟩;rw[h1])|(go_at_call 219;refine(vL _ _).mono ?_;rintro e w' ⟨rfl,rfl⟩;rw[h2]));go_quiet (fail);go_wp2;exact⟨⟨ii+1,by omega,by go_num,HS2,qN qBq _⟩,mI⟩
 have hkn:k=n:=oM;subst hkn;have HC:=HE.out HS.out;go_wp2;go_ret;exact⟨by rw[HC];rfl,qBq⟩
theorem fQ2 (x:Value) (xs:List Mrk) (w:World) (hx:mrksR.V w x xs) :
  RI 218 #[x,.func (.func 147) #[] #[]] w (.int .i64 (mrkF xs)):=by
 obtain⟨ax,cx,rfl,hcx,hmx,hx⟩:=hx;unfold maxLen at hmx;have HH:Hid (∀k c,k<xs.length→fJ (qE xs) k=0→qE xs k=c→c≠0→mrkF xs=c):=fun k c hk hs h hc=>fI2 hk hs h hc
 have HE:Hid (fJ (qE xs) xs.length=0→mrkF xs=0):=fun h=>h
 generalize hn':xs.length=n at *;clear hn';have eg:=enters_of Tryz.func147 kF rfl;go_enter Tryz.func218,Tryz.ntmps218;go_wp2;go_loopw [9] (fun i w'=>∃k:Nat,k≤n∧i =.int .i64 k∧Hid (fJ (qE xs) k=0)∧Below w.heap.size w w') (fun i _=>n-(intOf i).toNat)
 case atStart=>exact⟨0,oM,rfl,rfl,bR _ _⟩
 obtain⟨k,hk,rfl,HS,hbl⟩:=hrel;by_cases hlt:k<n
 ·
  obtain⟨bx,ox,rfl,g1⟩:=hx k hlt;obtain⟨l,hl⟩:∃l,l=xs.getD k default:=⟨_,rfl⟩
  rw[←hl] at g1;have HL:Hid (l=xs.getD k default):=hl;clear hl;obtain⟨a1,a2⟩:=gF hbl g1;have zb:bx<wr.heap.size:=wL wr _ a1;cases h1:inB l.con 1 1000000000
  ·have HC:Hid (mrkF xs=3):=HH.out k 3 hlt HS.out (xO (by rw[←HL.out,h1];rfl)) oM;clear hx;go_wp2_with (first|(go_at_call 146;refine(kT _ _).mono ?_;rintro e w' ⟨rfl,rfl⟩;rw[h1]));go_ret;exact⟨rH,qBq⟩
  cases h2:inB l.val 1 2
  ·have HC:Hid (mrkF xs=3):=HH.out k 3 hlt HS.out (xO (by rw[←HL.out,h1,h2];rfl)) oM;clear hx;go_wp2_with (first|(go_at_call 146;refine(kT _ _).mono ?_;rintro e w' ⟨rfl,rfl⟩;rw[h1])|(go_at_call 147;refine(kU _ _).mono ?_;rintro e w' ⟨rfl,rfl⟩;rw[h2]));go_ret;exact⟨rH,qBq⟩
  have hok:Hid ((inB (xs.getD k default).con 1 1000000000&&inB (xs.getD k default).val 1 2)=true):=by show _=_;rw[←HL.out,h1,h2];rfl
  cases k with
  | zero=>
   have HS2:Hid (fJ (qE xs) 1=0):=gP HS.out (fCs hok.out);clear hx;simp only[Nat.zero_mul,Nat.add_zero] at a1 a2;go_wp2_with (first|(go_at_call 146;refine(kT _ _).mono ?_;rintro e w' ⟨rfl,rfl⟩;rw[h1])|(go_at_call 147;refine(kU _ _).mono ?_;rintro e w' ⟨rfl,rfl⟩;rw[h2]));go_quiet (fail);go_wp2;exact⟨⟨1,by omega,by go_num,HS2,qN qBq _⟩,mI⟩
  | succ m=>
   obtain⟨bx',ox',he,g2⟩:=hx m oM;simp only[Option.some.injEq,Addr.mk.injEq,and_true] at he;obtain⟨rfl,rfl⟩:=he;obtain⟨l',hl'⟩:∃l',l'=xs.getD m default:=⟨_,rfl⟩
   rw[←hl'] at g2;have HL':Hid (l'=xs.getD m default):=hl';clear hl' hx;obtain⟨a3,a4⟩:=gF hbl g2;have hw1:IntKind.i64.wrap (((m+1:Nat):Int)-1)=(m:Int):=by rw[IntKind.wrap_i64];omega
   have hw2:(((m+1:Nat):Int)-1)=(m:Int):=oM;have hw3:IntKind.i64.wrap (m:Int)=(m:Int):=qP oM oM;have e1:((m+1:Nat):Int)<n:=oM;have e2:(m:Int)<n:=oM;have e3:(0:Int)≤m:=oM;have e4:(0:Int)<((m+1:Nat):Int):=oM;have e5:(0:Int)≤((m+1:Nat):Int):=oM;have HFa:Hid (l.con≤l'.con→mrkF xs=1):=fun h=>HH.out (m+1) 1 hlt HS.out (fCq hok.out (by rw[←HL.out,←HL'.out];exact h)) oM
   have HRi:Hid (l'.con<l.con→fJ (qE xs) (m+1+1)=0):=fun h=>gP HS.out (fCr hok.out (by rw[←HL.out,←HL'.out];exact h))
   clear hok;obtain⟨ii,hii⟩:∃ii:Nat,ii=m+1:=⟨_,rfl⟩
   have HII:Hid (ii=m+1):=hii;rw[←hii] at a1 a2 hw1 hw2 e1 e4 e5 HRi ⊢;clear hii HS;have e6:decide (0<ii)=true:=decide_eq_true (by have:=HII.out;omega);by_cases hle:l.con≤l'.con
   ·have HC:=HFa.out hle;go_wp2_with (first|(go_at_call 146;refine(kT _ _).mono ?_;rintro e w' ⟨rfl,rfl⟩;rw[h1])|(go_at_call 147;refine(kU _ _).mono ?_;rintro e w' ⟨rfl,rfl⟩;rw[h2]));go_quiet (fail);go_wp2;go_ret;exact⟨by rw[HC];rfl,qN qBq _⟩
   have HS2:Hid (fJ (qE xs) (ii+1)=0):=HRi.out oM;go_wp2_with (first|(go_at_call 146;refine(kT _ _).mono ?_;rintro e w' ⟨rfl,rfl⟩;rw[h1])|(go_at_call 147;refine(kU _ _).mono ?_;rintro e w' ⟨rfl,rfl⟩;rw[h2]));go_quiet (fail);go_wp2;exact⟨⟨ii+1,by omega,by go_num,HS2,qN qBq _⟩,mI⟩
 have hkn:k=n:=oM;subst hkn;have HC:=HE.out HS.out;go_wp2;go_ret;exact⟨by rw[HC];rfl,qBq⟩
theorem fG5 (x:Value) (d:Shd) (c:Int) (w:World) (hx:shdR.V w x d) (hn:d.done.length≤1048576) (hok:MrksOk d.done) :
  RI 195 #[x,.int .i64 c] w (.bool (fK c d.done !=0)):=by
 obtain⟨u1,u2,u3,u4,u5,rfl,h1,h2,h3,h4,h5⟩:=hx;have HV:Hid (bW w fun W=>RI 174 #[u4,.int .i64 c] W (.int .i64 (fK c d.done))):=fun W hW=>yN u4 _ c W (mrksR.below h4 hW) hn hok.rise
 obtain⟨a1,c1,rfl⟩:=fP h1;obtain⟨a2,c2,rfl⟩:=fF h2;obtain⟨a3,c3,rfl⟩:=fM h3;obtain⟨a4,c4,rfl⟩:=fF h4;obtain⟨a5,c5,rfl⟩:=gJ h5;clear h1 h2 h3 h4 h5 hok hn;generalize d.bals.length=n1 at *;generalize d.votes.length=n2 at *;generalize d.held.length=n3 at *;generalize d.done.length=n4 at *;generalize d.appl.length=n5 at *;generalize fK c d.done=f at *;go_enter Tryz.func195,Tryz.ntmps195;go_wp2_with (first|(go_at_call 174;refine(HV.out _ qBq).mono ?_;rintro e w1 ⟨rfl,hb1⟩));go_ret;exact⟨rfl,qBq⟩
def qM (d:Shd) (c:Int):Bool:=(fK c d.votes==1) && !(fK c d.done !=0)
theorem fGs (x:Value) (d:Shd) (c:Int) (w:World) (hx:shdR.V w x d) (hn:d.votes.length≤1048576∧d.done.length≤1048576) (hov:MrksOk d.votes) (hod:MrksOk d.done) :
  RI 235 #[x,.int .i64 c] w (.bool (qM d c)):=by
 have HD:Hid (bW w fun W=>RI 195 #[x,.int .i64 c] W (.bool (fK c d.done !=0))):=fun W hW=>fG5 x d c W (shdR.below hx hW) hn.2 hod
 obtain⟨u1,u2,u3,u4,u5,rfl,h1,h2,h3,h4,h5⟩:=hx;have HV:Hid (bW w fun W=>RI 174 #[u2,.int .i64 c] W (.int .i64 (fK c d.votes))):=fun W hW=>yN u2 _ c W (mrksR.below h2 hW) hn.1 hov.rise
 obtain⟨a1,c1,rfl⟩:=fP h1;obtain⟨a2,c2,rfl⟩:=fF h2;obtain⟨a3,c3,rfl⟩:=fM h3;obtain⟨a4,c4,rfl⟩:=fF h4;obtain⟨a5,c5,rfl⟩:=gJ h5;clear h1 h2 h3 h4 h5 hov hod hn;generalize d.bals.length=n1 at *;generalize d.votes.length=n2 at *;generalize d.held.length=n3 at *;generalize d.done.length=n4 at *;generalize d.appl.length=n5 at *;unfold qM;generalize fK c d.done=f at *;generalize fK c d.votes=g at *;by_cases hg:g=1
 ·
  have hg':(g==1)=true:=by simp[hg]
  rw[hg'];go_enter Tryz.func235,Tryz.ntmps235;go_wp2_with fail;refine(HV.out _ qBq).mono ?_;rintro e w1 ⟨rfl,hb1⟩;have hB1:=bT w hb1;have y0:w1.cell? ⟨w.heap.size,0,none⟩=some (.int .i64 d.idx):=cK hb1 sG;have y1:w1.cell? ⟨w.heap.size,1,none⟩=some (.slice a1 n1 c1):=cK hb1 sG;have y2:w1.cell? ⟨w.heap.size,2,none⟩=some (.slice a2 n2 c2):=cK hb1 sG;have y3:w1.cell? ⟨w.heap.size,3,none⟩=some (.slice a3 n3 c3):=cK hb1 sG;have y4:w1.cell? ⟨w.heap.size,4,none⟩=some (.slice a4 n4 c4):=cK hb1 sG;have y5:w1.cell? ⟨w.heap.size,5,none⟩=some (.slice a5 n5 c5):=cK hb1 sG;clear hb1;go_wp2_with (first|(go_at_call 195;refine(HD.out _ qBq).mono ?_;rintro e w2 ⟨rfl,hb2⟩));go_ret;exact⟨by simp,qBq⟩
 have hg':(g==1)=false:=by simp[hg]
 rw[hg'];go_enter Tryz.func235,Tryz.ntmps235;go_wp2_with (first|(go_at_call 174;refine(HV.out _ qBq).mono ?_;rintro e w1 ⟨rfl,hb1⟩));go_ret;exact⟨by simp,qBq⟩
end
section
theorem fRr {P:Program} {ops:Array Oper} {Q:Exit→Act→World→Prop} {md:Region.Mode} {S:World→Prop} {t:Nat} {i:Nat} {oi:Oper} {f:Nat} {listed:Array Bool} {a:Act} {w:World} (hi:ops[i]? = some oi) (hsel:Region.noSelect ops=true) (ht:ops[t]? = none)
  (hf:Region.free md ops listed i=true) (hr:(Region.ready md ops listed).contains i=true) (hQ:∀c a w,Q (.panic c) (a.put oi.dst undef) w→Q (.panic c) a w)
  (hwd:Region.wanted oi (yielded ops a.tmps)=false) (hS:S w)
  (h:gW P md ops Q S t f (listed.setIfInBounds i true) (a.put oi.dst undef) w):gW P md ops Q S t (f+1) listed a w:=
 fA2 hi hsel ht hQ f listed a w (Region.free_spec hi hf) (by simpa using hr) (Or.inr ⟨hwd,rfl⟩) hS h
theorem sU {P:Program} {ops:Array Oper} {Q:Exit→Act→World→Prop} {md:Region.Mode} {S:World→Prop} {t:Nat} (i:Nat) {oi:Oper} {f:Nat} {listed:Array Bool} {a:Act} {w:World} (hi:ops[i]? = some oi) (hS:S w) (h:gW P md ops Q S t f (listed.setIfInBounds i true) (a.put oi.dst undef) w) (hb:(Region.noSelect ops&&(ops[t]?).isNone&&Region.free md ops listed i&&(Region.ready md ops listed).contains i)=true:=by kernel_rfl) (hQ:∀c a w,Q (.panic c) (a.put oi.dst undef) w→Q (.panic c) a w:=by exact fun _ _ _ h=>h) (hwd:Region.wanted oi (yielded ops a.tmps)=false:=by rfl):gW P md ops Q S t (f+1) listed a w:=by
 simp only[Bool.and_eq_true] at hb;exact fRr hi hb.1.1.1 (by simpa using hb.1.1.2) hb.1.2 hb.2 hQ hwd hS h
theorem sY {P:Program} {ops:Array Oper} {Q:Exit→Act→World→Prop} {md:Region.Mode} {S:World→Prop} {t:Nat} (i:Nat) {oi:Oper} {f:Nat} {listed:Array Bool} {a a':Act} {w:World} (h:gW P md ops Q S t f (listed.setIfInBounds i true) a' w) (hi:ops[i]? = some oi:=by rfl) (hS:S w:=by assumption) (hb:(Region.noSelect ops&&(ops[t]?).isNone&&Region.free md ops listed i&&(Region.ready md ops listed).contains i)=true:=by kernel_rfl) (hQ:∀c a w,Q (.panic c) (a.put oi.dst undef) w→Q (.panic c) a w:=by exact fun _ _ _ h=>h) (hwd:Region.wanted oi (yielded ops a.tmps)=false:=by rfl) (ha:a.put oi.dst undef=a':=by first|(simp only[jX];done)|(simp only[jX];rfl)|rfl):gW P md ops Q S t (f+1) listed a w:=sU i hi hS (by rw[ha];exact h) hb hQ hwd
end
section
variable [dQ Rw] [iH Rw] [dQ Bal] [iH Bal] [dQ Ledg] [iH Ledg] [dQ Leg] [iH Leg] [dQ Cont] [iH Cont] [dQ LedgR] [iH LedgR] [dQ OutcR] [iH OutcR] [dQ Mrk] [iH Mrk] [dQ Shd] [iH Shd] [dQ ShdR] [iH ShdR]
theorem fS5 (x:Value) (xs:List Int) (c:Int) (w:World) (hx:vZ w x xs) :
  Calls Tryz.prog 207 #[x,.int .i64 c] w fun e w'=>e =.returned (.bool (decide (c ∈ xs)))∧w'=w:=by
 obtain⟨ax,cx,rfl,hcx,hmx,hx⟩:=hx;unfold maxLen at hmx;have HT:Hid (∀k,k<xs.length→xs.getD k 0=c→decide (c ∈ xs)=true):=fun k hk h=>decide_eq_true (by rw[←h];simp[List.getD,hk])
 have HS0:Hid (∀k,k<xs.length→¬c ∈ xs.take k→¬xs.getD k 0=c→¬c ∈ xs.take (k+1)):=fun k hk h1 h2=>by
  rw[List.take_add_one];intro h;rw[List.mem_append] at h;rcases h with h|h
  ·exact h1 h
  simp[hk] at h;exact h2 (by simp[List.getD,hk,h])
 have HE:Hid (¬c ∈ xs.take xs.length→decide (c ∈ xs)=false):=fun h=>decide_eq_false (by rw[List.take_length] at h;exact h)
 generalize hn':xs.length=n at *;clear hn';go_enter Tryz.func207,Tryz.ntmps207;go_wp2;go_loopw [5] (fun i w'=>∃k:Nat,k≤n∧i =.int .i64 k∧Hid (¬c ∈ xs.take k)∧Hid (w'=w)) (fun i _=>n-(intOf i).toNat)
 case atStart=>exact⟨0,oM,rfl,by show ¬c ∈ xs.take 0;simp,rfl⟩
 obtain⟨k,hk,rfl,HS,HW⟩:=hrel;by_cases hlt:k<n
 ·
  obtain⟨bx,ox,rfl,g1⟩:=hx k hlt;have h1:=HT.out k hlt;have h2:=HS0.out k hlt HS.out;generalize xs.getD k 0=q at *;have H1:Hid (q=c→decide (c ∈ xs)=true):=h1;have H2:Hid (¬q=c→¬c ∈ xs.take (k+1)):=h2;clear hx h1 h2;rw[←HW.out] at g1;by_cases he:q=c
  ·
   have HC:=H1.out he;have he':(q==c)=true:=by simp[he]
   clear H1 HS H2;go_wp2;go_ret;exact⟨by rw[HC];rfl,HW.out⟩
  have HC:Hid _:=H2.out he;have he':(q==c)=false:=by simp[he]
  clear H1 HS H2;go_wp2;exact⟨⟨k+1,by omega,by go_num,HC,HW⟩,mI⟩
 have hkn:k=n:=oM;subst hkn;have HC:=HE.out HS.out;go_wp2;go_ret;exact⟨by rw[HC];rfl,HW.out⟩
theorem fPj {w:World} {a:Option Addr} {n c k:Nat} {xs:List Int} (hx:vZ w (.slice a n c) xs) (hk:k≤n):vZ w (.slice a k c) (xs.take k):=by
 obtain⟨a',c',e,h1,h2,h3⟩:=hx;simp only[Value.slice.injEq] at e;obtain⟨rfl,rfl,rfl⟩:=e;refine⟨a,c,by rw[List.length_take,Nat.min_eq_left hk],by rw[List.length_take];omega,h2,fun i hi=>?_⟩;rw[List.length_take] at hi;obtain⟨b,o,e,hc⟩:=h3 i oM;refine⟨b,o,e,?_⟩;rw[hc];simp[List.getD,List.getElem?_take,show i<k by omega]
theorem fGe (x:Value) (d:Shd) (w:World) (hx:shdR.V w x d) :
  RI 182 #[x] w (.bool (xU d.done d.appl)):=by
 obtain⟨u1,u2,u3,u4,u5,rfl,h1,h2,h3,h4,h5⟩:=hx;obtain⟨idx,bs,vs,hs,ds,as_⟩:=d;dsimp only at h1 h2 h3 h4 h5 ⊢;have HFi:Hid (∀W c,Below w.heap.size w W→RI 153 #[u4,.int .i64 c] W (.int .i64 (fK c ds))):=fun W c hW=>rW u4 ds c W (mrksR.below h4 hW)
 obtain⟨a1,c1,rfl⟩:=fP h1;obtain⟨a2,c2,rfl⟩:=fF h2;obtain⟨a3,c3,rfl⟩:=fM h3;obtain⟨a4,c4,rfl,hc4,hm4,hx4⟩:=h4;have HIV:Hid (∀W k,Below w.heap.size w W→k≤as_.length→∀a c,u5 =.slice a as_.length c→vZ W (.slice a k c) (as_.take k)):=fun W k hW hk a c e=>fPj (fAp (by rw[←e];exact h5) hW) hk
 obtain⟨a5,c5,rfl,hc5,hm5,hx5⟩:=h5;unfold maxLen at hm4 hm5;have HHa:Hid (∀W k c,Below w.heap.size w W→k≤as_.length→Calls Tryz.prog 207 #[.slice a5 k c5,.int .i64 c] W fun e w'=>e =.returned (.bool (decide (c ∈ as_.take k)))∧w'=W):=fun W k c hW hk=>fS5 _ _ c W (HIV.out W k hW hk a5 c5 rfl)
 have HX5:Hid (∀i,i<as_.length→∃b o,a5=some ⟨b,o,none⟩∧w.cell? ⟨b,o+i,none⟩=some (.int .i64 (as_.getD i 0))):=hx5;have HDs:Hid (∀k,k<ds.length→kE (ds.take (k+1))=if (ds.getD k default).val=1 then kE (ds.take k)++[(ds.getD k default).con] else kE (ds.take k)):=fun k hk=>fGz hk
 have HDe:Hid (kE (ds.take ds.length)=kE ds):=by show _=_;rw[List.take_length]
 have HDl:Hid (∀k,(kE (ds.take k)).length≤k):=fun k=>Nat.le_trans (fOa _) (by rw[List.length_take];omega)
 have HB1:Hid (∀k,k<as_.length→¬fK (as_.getD k 0) ds=1→xU ds as_=false):=fun k hk h=>by unfold xU;exact decide_eq_false (fun h2=>h (h2.2 k hk).1)
 have HB2:Hid (∀k,k<as_.length→as_.getD k 0 ∈ as_.take k→xU ds as_=false):=fun k hk h=>by unfold xU;exact decide_eq_false (fun h2=>(h2.2 k hk).2 h)
 have HOk:Hid ((∀k,k<as_.length→fK (as_.getD k 0) ds=1∧¬as_.getD k 0 ∈ as_.take k)→xU ds as_=decide ((kE ds).length=as_.length)):=fun h=>by unfold xU;rw[decide_eq_decide];exact⟨fun h2=>h2.1,fun h2=>⟨h2,h⟩⟩
 clear h1 h2 h3 hx5 HIV;generalize bs.length=n1 at *;generalize vs.length=n2 at *;generalize hs.length=n3 at *;generalize hn4:ds.length=n4 at *;generalize hn5:as_.length=n5 at *;clear hn4 hn5;go_enter Tryz.func182,Tryz.ntmps182;go_wp2;go_loopw [3,4] (fun q i w'=>∃k m:Nat,k≤n4∧q =.int .i64 m∧i =.int .i64 k∧Hid ((kE (ds.take k)).length=m)∧(w'.cell? ⟨w.heap.size,4,none⟩=some (.slice a4 n4 c4)∧w'.cell? ⟨w.heap.size,5,none⟩=some (.slice a5 n5 c5))∧Below w.heap.size w w') (fun q i _=>n4-(intOf i).toNat)
 case atStart=>exact⟨0,0,Nat.zero_le _,rfl,rfl,by show(kE (ds.take 0)).length=0;simp[kE],sG,qBq⟩
 obtain⟨k,m,hk,rfl,rfl,HM,⟨y4,y5⟩,hbl⟩:=hrel;have zq:w.heap.size<wr.heap.size:=wL wr _ y4;by_cases hlt:k<n4
 ·
  obtain⟨bx,ox,rfl,g1⟩:=hx4 k hlt;have h1:=HDs.out k hlt;have hl:=HDl.out k;obtain⟨l,hl'⟩:∃l,l=ds.getD k default:=⟨_,rfl⟩
  rw[←hl'] at g1 h1;have H1:Hid (kE (ds.take (k+1))=if l.val=1 then kE (ds.take k)++[l.con] else kE (ds.take k)):=h1;clear hl' h1 hx4;obtain⟨g2,g3⟩:=gF hbl g1;have hmk:m≤k:=by rw[←HM.out];exact hl
  by_cases he:l.val=1
  ·
   have he':(l.val==1)=true:=by simp[he]
   have HC:Hid ((kE (ds.take (k+1))).length=m+1):=by show _=_;rw[H1.out,if_pos he,List.length_append,HM.out];rfl
   clear H1 HM hl;rw[he] at g3;go_wp2;exact⟨⟨k+1,m+1,by omega,by go_num,by go_num,HC,⟨y4,y5⟩,qBq⟩,mI⟩
  have he':(l.val==1)=false:=by simp[he]
  have HC:Hid ((kE (ds.take (k+1))).length=m):=by show _=_;rw[H1.out,if_neg he,HM.out]
  clear H1 HM hl;go_wp2;exact⟨⟨k+1,m,by omega,rfl,by go_num,HC,⟨y4,y5⟩,qBq⟩,mI⟩
 have hkn:k=n4:=oM;subst hkn;have HMm:Hid ((kE ds).length=m):=by show _=_;rw[←HDe.out];exact HM.out
 clear HM hx4 HDs HDl HDe;go_wp2;obtain⟨w2,hw2⟩:∃w2,w2=wr:=⟨_,rfl⟩
 rw[←hw2] at hbl y4 y5 zq ⊢;clear hw2;go_loopw [5] (fun i w'=>∃j:Nat,j≤n5∧i =.int .i64 j∧Hid (∀i,i<j→fK (as_.getD i 0) ds=1∧¬as_.getD i 0 ∈ as_.take i)∧Below w2.heap.size w2 w') (fun i _=>n5-(intOf i).toNat)
 case atStart=>exact⟨0,oM,rfl,fun i hi=>absurd hi oM,bR _ _⟩
 rename_i wq;obtain⟨j,hj,rfl,HA,hb2⟩:=hrel;replace y4:=cK hb2 y4;replace y5:=cK hb2 y5;have hBr:Below w.heap.size w wr:=bS hbl hb2;have zq2:w.heap.size<wr.heap.size:=wL wr _ y4;by_cases hlt2:j<n5
 ·
  obtain⟨bx,ox,rfl,g1⟩:=HX5.out j hlt2;have h1:=HB1.out j hlt2;have h2:=HB2.out j hlt2;have h3:Hid (fK (as_.getD j 0) ds=1→¬as_.getD j 0 ∈ as_.take j→∀i,i<j+1→fK (as_.getD i 0) ds=1∧¬as_.getD i 0 ∈ as_.take i):=fun q1 q2 i hi=>by
   by_cases e:i=j
   ·rw[e];exact⟨q1,q2⟩
   exact HA.out i oM
  replace g1:=cK hBr g1;generalize as_.getD j 0=q at *;have H1:Hid (¬fK q ds=1→xU ds as_=false):=h1;have H2:Hid (q ∈ as_.take j→xU ds as_=false):=h2;clear h1 h2;have k1:(j:Int)<n5:=oM;have k2:(0:Int)≤j:=oM;have k3:(j:Int)≤n5:=oM;have k4:(j:Int)≤c5:=oM;have HFq:Hid (bW wr fun W=>RI 153 #[.slice a4 k c4,.int .i64 q] W (.int .i64 (fK q ds))):=fun W hW=>HFi.out W q (bS hBr hW)
  have HHq:Hid (bW wr fun W=>Calls Tryz.prog 207 #[.slice (some ⟨bx,ox,none⟩) j c5,.int .i64 q] W fun e w'=>e =.returned (.bool (decide (q ∈ as_.take j)))∧w'=W):=fun W hW=>HHa.out W j q (bS hBr hW) oM
  generalize fK q ds=f at *;by_cases hf:f=1
  ·
   have hf':(f !=1)=false:=by simp[hf]
   rw[hf] at HFq h3;clear H1 hf hf';cases hin:decide (q ∈ as_.take j)
   ·
    have HA2:Hid (∀i,i<j+1→fK (as_.getD i 0) ds=1∧¬as_.getD i 0 ∈ as_.take i):=h3.out rfl (of_decide_eq_false hin);rw[hin] at HHq;clear hin H2 h3;go_wp2;refine wp_region_noPanic ?_;refine fB (fun W=>Below wr.heap.size wr W∧W.cell? ⟨w.heap.size,4,none⟩=some (.slice a4 k c4)∧W.cell? ⟨w.heap.size,5,none⟩=some (.slice (some ⟨bx,ox,none⟩) n5 c5)∧W.cell? ⟨bx,ox+j,none⟩=some (.int .i64 q)) 21 kF ⟨qBq,cK qBq y4,cK qBq y5,cK qBq g1⟩ (fun hS=>?_);refine tX 0 ?_;refine tX 1 ?_;refine tX 2 ?_;refine tX 3 ?_;refine tX 4 ?_;refine tX 5 ?_;refine tX 6 ?_;refine uS 7 rfl (fun K hK=>?_);go_simp;refine(HFq.out _ hS.1).mono ?_;rintro e wz ⟨rfl,hbz⟩;have hbz':Below wr.heap.size wr wz:=bS hS.1 hbz;have hS3:=And.intro hbz' (kS3 hbz hS.2);refine hK _ _ (fun _=>hS3) ?_;clear hK K hS hbz;have hS:=hS3;clear hS3;try simp only[jX]
    refine tX 8 (v:=(.bool false)) ?_;refine tX 9 (v:=(.bool false)) ?_;refine tX 10 ?_;refine tX 11 ?_;refine tX 12 ?_;refine tX 13 ?_;refine tX 14 ?_;refine tX 15 ?_;refine tX 16 ?_;refine tX 17 ?_;refine tX 18 ?_;refine uS 19 rfl (fun K hK=>?_);go_simp;refine(HHq.out _ hS.1).mono ?_;rintro e wy ⟨rfl,hwy⟩;obtain rfl:=hwy.symm;refine hK _ _ (fun _=>hS) ?_;clear hK K hwy;try simp only[jX]
    refine tX 20 (v:=(.bool false)) ?_;refine dP ?_;go_wp2;exact⟨⟨j+1,by omega,by go_num,HA2,bS hb2 hS.1⟩,mI⟩
   have HC:=H2.out (of_decide_eq_true hin);rw[hin] at HHq;clear hin H2 h3;go_wp2;refine wp_region_noPanic ?_;refine fB (fun W=>Below wr.heap.size wr W∧W.cell? ⟨w.heap.size,4,none⟩=some (.slice a4 k c4)∧W.cell? ⟨w.heap.size,5,none⟩=some (.slice (some ⟨bx,ox,none⟩) n5 c5)∧W.cell? ⟨bx,ox+j,none⟩=some (.int .i64 q)) 21 kF ⟨qBq,cK qBq y4,cK qBq y5,cK qBq g1⟩ (fun hS=>?_);refine tX 0 ?_;refine tX 1 ?_;refine tX 2 ?_;refine tX 3 ?_;refine tX 4 ?_;refine tX 5 ?_;refine tX 6 ?_;refine uS 7 rfl (fun K hK=>?_);go_simp;refine(HFq.out _ hS.1).mono ?_;rintro e wz ⟨rfl,hbz⟩;have hbz':Below wr.heap.size wr wz:=bS hS.1 hbz;have hS3:=And.intro hbz' (kS3 hbz hS.2);refine hK _ _ (fun _=>hS3) ?_;clear hK K hS hbz;have hS:=hS3;clear hS3;try simp only[jX]
   refine tX 8 (v:=(.bool false)) ?_;refine tX 9 (v:=(.bool false)) ?_;refine tX 10 ?_;refine tX 11 ?_;refine tX 12 ?_;refine tX 13 ?_;refine tX 14 ?_;refine tX 15 ?_;refine tX 16 ?_;refine tX 17 ?_;refine tX 18 ?_;refine uS 19 rfl (fun K hK=>?_);go_simp;refine(HHq.out _ hS.1).mono ?_;rintro e wy ⟨rfl,hwy⟩;obtain rfl:=hwy.symm;refine hK _ _ (fun _=>hS) ?_;clear hK K hwy;try simp only[jX]
   refine tX 20 (v:=(.bool true)) ?_;refine dP ?_;go_wp2;go_ret;exact⟨by rw[HC];rfl,bS hBr hS.1⟩
  have HC:=H1.out hf;have hf':(f !=1)=true:=by simp[hf]
  clear H1 H2 h3 hf HHq;go_wp2;refine wp_region_noPanic ?_;refine fB (fun W=>Below wr.heap.size wr W∧W.cell? ⟨w.heap.size,4,none⟩=some (.slice a4 k c4)∧W.cell? ⟨w.heap.size,5,none⟩=some (.slice (some ⟨bx,ox,none⟩) n5 c5)∧W.cell? ⟨bx,ox+j,none⟩=some (.int .i64 q)) 21 kF ⟨qBq,cK qBq y4,cK qBq y5,cK qBq g1⟩ (fun hS=>?_);refine tX 0 ?_;refine tX 1 ?_;refine tX 2 ?_;refine tX 3 ?_;refine tX 4 ?_;refine tX 5 ?_;refine tX 6 ?_;refine uS 7 rfl (fun K hK=>?_);go_simp;refine(HFq.out _ hS.1).mono ?_;rintro e wz ⟨rfl,hbz⟩;have hbz':Below wr.heap.size wr wz:=bS hS.1 hbz;have hS3:=And.intro hbz' (kS3 hbz hS.2);refine hK _ _ (fun _=>hS3) ?_;clear hK K hS hbz;have hS:=hS3;clear hS3;try simp only[jX]
  refine tX 8 (v:=(.bool true)) ?_;refine tX 9 (v:=(.bool true)) ?_;refine sY 10 ?_;refine sY 11 ?_;refine sY 12 ?_;refine sY 13 ?_;refine sY 14 ?_;refine sY 15 ?_;refine sY 16 ?_;refine sY 17 ?_;refine sY 18 ?_;refine sY 19 ?_;refine tX 20 (v:=(.bool true)) ?_;refine dP ?_;go_wp2;go_ret;exact⟨by rw[HC];rfl,bS hBr hS.1⟩
 have hjn:j=n5:=oM;subst hjn;have HC:=HOk.out HA.out;rw[HMm.out] at HC;have hcmp:((m:Int)==(j:Int))=decide (m=j):=by rw[Bool.eq_iff_iff];simp;omega
 rw[←hcmp] at HC;clear hcmp;go_wp2;go_ret;exact⟨by rw[HC];rfl,qBq⟩
end
end Go.Proofs.YtpibfdebfacooaaGreat

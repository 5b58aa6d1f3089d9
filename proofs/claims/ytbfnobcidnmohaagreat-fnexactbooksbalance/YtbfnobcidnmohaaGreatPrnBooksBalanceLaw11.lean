import Derived.Test.YtbfnobcidnmohaaGreatPrnBooksBalanceLaw10
import Derived.RegionTactic
import Derived.ChangeAlike
import Derived.BigRegion
import Derived.Maps.AppendAt
set_option maxHeartbeats 2000000
set_option linter.unusedSectionVars false
set_option linter.unusedVariables false
set_option linter.unusedSimpArgs false
namespace Go.Proofs.YtbfnobcidnmohaaGreat
open Go.RowKit Go.Sort Go.Shelf
variable [DecidableEq Rw] [Inhabited Rw] [DecidableEq Bal] [Inhabited Bal] [DecidableEq Ledg] [Inhabited Ledg] [DecidableEq Leg] [Inhabited Leg] [DecidableEq Cont] [Inhabited Cont]
attribute [local go_sem ↓] Go.wp_at_zero Go.wp_at_succ
theorem fOc (w:World) (b:Nat) :
  Calls Tryz.prog 109 #[.map (some b)] w fun e w'=>e = .returned (.func (.func 187) #[] #[.pointer (some ⟨w.heap.size,0,none⟩)])∧Go.RowKit.Below w.heap.size w w'∧w'.cell? ⟨w.heap.size,0,none⟩=some (.map (some b)):=by
 go_enter Tryz.func109,Tryz.ntmps109;go_wp2;go_ret;exact⟨rfl,bA (Below.refl _ _) _,by simp[go_sem]⟩
end Go.Proofs.YtbfnobcidnmohaaGreat
namespace Go.Proofs.YtbfnobcidnmohaaGreat
open Go.RowKit
variable [DecidableEq Bal] [Inhabited Bal] [DecidableEq Ledg] [Inhabited Ledg] [DecidableEq Leg] [Inhabited Leg]
attribute [local go_sem ↓] Go.wp_at_zero Go.wp_at_succ
def pI (a t v:Int) (st:List Bal × Bool) (b:Bal):List Bal × Bool:=
 if b.ac=a∧b.ast=t then st else if st.2=false∧a*3+t<b.ac*3+b.ast then (st.1++[⟨a,t,v⟩]++[b],true) else (st.1++[b],st.2)
def rQ (a t v:Int) (xs:List Bal) (k:Nat):List Bal × Bool:=(xs.take k).foldl (pI a t v) ([],decide (v=0))
def setB (a t v:Int) (xs:List Bal):List Bal:=if (rQ a t v xs xs.length).2 then (rQ a t v xs xs.length).1 else (rQ a t v xs xs.length).1++[⟨a,t,v⟩]
theorem fAy (a t v:Int) (xs:List Bal) {k:Nat} (h:k<xs.length):rQ a t v xs (k+1)=pI a t v (rQ a t v xs k) (xs.getD k default):=by
 unfold rQ;rw[fMw xs k h,List.foldl_append];rfl
theorem fMt (a t v:Int) (xs:List Bal):∀k,k≤xs.length→(rQ a t v xs k).1.length≤2*k
 | 0,_=>by simp[rQ]
 | k+1,h=>by
  have ih:=fMt a t v xs k (by omega);rw[fAy a t v xs (by omega)];unfold pI;split
  ·
   omega
  split
  ·
   simp only[List.length_append,List.length_cons,List.length_nil];omega
  simp only[List.length_append,List.length_cons,List.length_nil];omega
theorem uP (ys:List Bal) (x:Bal):kV (ys++[x])=kV ys++balC x:=by simp[kV]
theorem xQ (x:Bal):∀u ∈ balC x,u.oneCell'=true:=by
 intro u hu;simp only[balC,List.mem_cons,List.not_mem_nil,or_false] at hu;rcases hu with rfl|rfl|rfl <;> rfl
theorem uO {w:World} {b o:Nat} {x:Bal} (h:rY w b o x):∀j u,(balC x)[j]? = some u→w.cell? ((⟨b,o,none⟩:Addr).add j)=some u:=by
 obtain⟨h0,h1,h2⟩:=h;intro j u hj;match j,hj with
 | 0,hj=>simp[balC] at hj;subst hj;simpa [Addr.add] using h0
 | 1,hj=>simp[balC] at hj;subst hj;simpa [Addr.add] using h1
 | 2,hj=>simp[balC] at hj;subst hj;simpa [Addr.add] using h2
 | j+3,hj=>simp[balC] at hj
theorem fQq (x:Value) (xs:List Bal) (a t v:Int) (w:World) (hx:balsR.V w x xs) (hn:xs.length≤1000000) (hk:qN a t=true) (hks:∀k,k<xs.length→qN (xs.getD k default).ac (xs.getD k default).ast=true) :
  Calls Tryz.prog 99 #[x,.int .i64 a,.int .i64 t,.int .i64 v] w fun e w'=>∃u F,e = .returned u∧balsR.O w' w.heap.size F u (setB a t v xs)∧Below w.heap.size w w':=by
 obtain⟨ax,cx,rfl,hcx,hmx,hx⟩:=hx;unfold maxLen at hmx;obtain⟨i0,hi,hz0,hz1,hz2⟩:=info_parts fAo;have HKS:Hid (∀k,k<xs.length→qN (xs.getD k default).ac (xs.getD k default).ast=true):=hks;obtain⟨⟨q1,q2⟩,q3,q4⟩:=keyOk_iff.1 hk;clear hks hk;generalize hn':xs.length=n at *;have HN:Hid (xs.length=n):=hn';clear hn';have v1:IntKind.i64.wrap (a*3)=a*3:=gM (by omega) (by omega);have v2:IntKind.i64.wrap (a*3+t)=a*3+t:=gM (by omega) (by omega);have hd0:(v==0)=decide (v=0):=by by_cases h:v=0 <;> simp[h]
 go_enter Tryz.func99,Tryz.ntmps99;go_wp2;go_loopw [9,10,11] (fun u d i w'=>∃k:Nat,k≤n∧i = .int .i64 k∧d = .bool (rQ a t v xs k).2∧w'.ownsRow w.heap.size 180 3 u (rQ a t v xs k).1.length (kV (rQ a t v xs k).1)∧Below w.heap.size w w') (fun _ _ i _=>n-(intOf i).toNat)
 case atStart=>
  refine⟨0,Nat.zero_le _,rfl,by simp[rQ],?_,qBq⟩;have:=World.ownsRow_lit (base:=w.heap.size) (e:=180) (size:=3) w #[] 0 (by simp) (by unfold maxLen;omega) rfl;simpa [rQ,kV] using this
 obtain⟨k,hk,rfl,rfl,ho,hbl⟩:=hrel;have hle:=fMt a t v xs k (by rw[HN.out];exact hk);by_cases hlt:k<n
 ·
  obtain⟨bx,ox,rfl,g1⟩:=hx k hlt;have HST:Hid (rQ a t v xs (k+1)=pI a t v (rQ a t v xs k) (xs.getD k default)):=fAy a t v xs (by rw[HN.out];exact hlt);have hkk:=HKS.out k hlt;obtain⟨l,hl⟩:∃l,l=xs.getD k default:=⟨_,rfl⟩
  rw[←hl] at g1 HST hkk;clear hl hx;obtain⟨⟨p1,p2⟩,p3,p4⟩:=keyOk_iff.1 hkk;obtain⟨st,hst⟩:∃st,st=rQ a t v xs k:=⟨_,rfl⟩
  rw[←hst] at ho HST hle ⊢;clear hst;obtain⟨ys,dn⟩:=st;dsimp only at ho hle ⊢;obtain⟨a1,a2,a3⟩:=gH hbl g1;have v3:IntKind.i64.wrap (l.ac*3)=l.ac*3:=gM (by omega) (by omega);have v4:IntKind.i64.wrap (l.ac*3+l.ast)=l.ac*3+l.ast:=gM (by omega) (by omega);have hws:=hbl.size;by_cases hm:l.ac=a∧l.ast=t
  ·
   have HE:Hid (rQ a t v xs (k+1)=(ys,dn)):=by show _=_;rw[HST.out,pI,if_pos hm]
   have m1:(l.ac==a)=true:=by simpa using hm.1
   have m2:(l.ast==t)=true:=by simpa using hm.2
   clear hm;go_wp2;refine⟨⟨k+1,by omega,by go_num,?_,?_,qBq⟩,by simp[intOf];omega⟩
   ·
    rw[HE.out]
   rw[HE.out];exact ho.alloc _
  have hm2:(l.ac==a&&l.ast==t)=false:=by simp;intro e1 e2;exact hm ⟨e1,e2⟩
  by_cases hins:dn=false∧a*3+t<l.ac*3+l.ast
  ·
   obtain⟨rfl,hins⟩:=hins;have HE:Hid (rQ a t v xs (k+1)=(ys++[⟨a,t,v⟩]++[l],true)):=by show _=_;rw[HST.out,pI,if_neg hm,if_pos ⟨rfl,hins⟩]
   obtain⟨nw,hnw⟩:∃nw:Bal,nw=⟨a,t,v⟩:=⟨_,rfl⟩
   rw[←hnw] at HE;have n1:nw.ac=a:=by rw[hnw]
   have n2:nw.ast=t:=by rw[hnw]
   have n3:nw.am=v:=by rw[hnw]
   clear hnw HST hm;cases e1:(l.ac==a);all_goals (try (have e2:(l.ast==t)=false:=by(simpa [e1] using hm2)))
   all_goals
    go_wp2_with (at_builtin;refine wpList_append_own _ rfl _ _ 68 rfl w.heap.size 180 i0 _ 3 24 Tryz.underlying68 hi hz0 hz1 hz2 rfl (by decide) _ _ _ rfl ((ho.alloc _).alloc _) ⟨wr.heap.size+1,0,none⟩ 1 1 (balC nw) rfl rfl ?c1 (xQ nw) ?c3 ?c4 ?c5 ?_)
    case c1=>
     intro j u hj;first
     | exact hj
     | (refine uO (b:=wr.heap.size+1) (o:=0) ?_ j u hj;exact⟨by simp[go_sem,n1],by simp[go_sem,n2],by simp[go_sem,n3]⟩)
    case c3=>unfold maxLen;omega
    case c4=>omega
    case c5=>first|omega|(simp;omega)
    intro v' w1 hown' hgrow _;have hB1:Below w.heap.size w w1:=qY ((ho.alloc _).alloc _) (bA (bA hbl _) _) (by simp;omega) (Nat.le_refl _) hgrow;have hne:∀u,some wr.heap.size≠Value.ownBlock u∨True:=fun _=>.inr trivial
    clear hne;have hbx:rY w1 wr.heap.size 0 l:=by
     have hq:∀o z,((wr.alloc (.cells #[.int .i64 l.ac,.int .i64 l.ast,.int .i64 l.am] 180)).alloc (.cells #[.int .i64 a,.int .i64 t,.int .i64 v] 180)).cell? ⟨wr.heap.size,o,none⟩=some z→w1.cell? ⟨wr.heap.size,o,none⟩=some z:=by
      intro o z hz;refine hgrow.cell hz ?_;intro h;have:=ho.lt _ h.symm;simp at this
     exact⟨hq _ _ (by simp[go_sem]),hq _ _ (by simp[go_sem]),hq _ _ (by simp[go_sem])⟩
    rw[←List.length_singleton (a:=nw),←List.length_append,←uP] at hown';obtain⟨b1,b2,b3⟩:=hbx;have hwz:=wL _ _ b1;have hws1:=hB1.size;clear hgrow ho a1 a2 a3;simp only[Nat.zero_add] at b2 b3;go_wp2_with (at_builtin;refine wpList_append_own _ rfl _ _ 68 rfl w.heap.size 180 i0 _ 3 24 Tryz.underlying68 hi hz0 hz1 hz2 rfl (by decide) _ _ _ rfl (hown'.alloc _) ⟨w1.heap.size,0,none⟩ 1 1 (balC l) rfl rfl ?c1 (xQ l) ?c3 ?c4 ?c5 ?_)
    case c1=>
     intro j u hj;first
     | exact hj
     | (refine uO (b:=w1.heap.size) (o:=0) ?_ j u hj;exact⟨by simp[go_sem],by simp[go_sem],by simp[go_sem]⟩)
    case c3=>unfold maxLen;first|omega|(simp;omega)
    case c4=>first|omega|(simp;omega)
    case c5=>first|omega|(simp;omega)
    intro v2 w2 hown2 hgrow2 _;have hB2:Below w.heap.size w w2:=qY (hown'.alloc _) (bA hB1 _) (by simp;omega) (Nat.le_refl _) hgrow2;clear hgrow2 hown' b1 b2 b3;go_wp2;refine⟨⟨k+1,by omega,by go_num,?_,?_,hB2⟩,by simp[intOf];omega⟩
    ·
     rw[HE.out]
    rw[HE.out];rw[uP,List.length_append,List.length_append];exact hown2
  have HE:Hid (rQ a t v xs (k+1)=(ys++[l],dn)):=by show _=_;rw[HST.out,pI,if_neg hm,if_neg hins]
  clear HST hm;have hcase:dn=true∨(dn=false∧¬a*3+t<l.ac*3+l.ast):=by
   cases dn
   ·
    exact .inr ⟨rfl,fun h=>hins ⟨rfl,h⟩⟩
   exact .inl rfl
  clear hins;rcases hcase with rfl|⟨rfl,hins⟩
  all_goals
   cases e1:(l.ac==a);all_goals (try (have e2:(l.ast==t)=false:=by(simpa [e1] using hm2)))
   all_goals
    go_wp2_with (at_builtin;refine wpList_append_own _ rfl _ _ 68 rfl w.heap.size 180 i0 _ 3 24 Tryz.underlying68 hi hz0 hz1 hz2 rfl (by decide) _ _ _ rfl ((ho.alloc _).alloc _) ⟨wr.heap.size+1,0,none⟩ 1 1 (balC l) rfl rfl ?c1 (xQ l) ?c3 ?c4 ?c5 ?_)
    case c1=>
     intro j u hj;first
     | exact hj
     | (refine uO (b:=wr.heap.size+1) (o:=0) ?_ j u hj;exact⟨by simp[go_sem],by simp[go_sem],by simp[go_sem]⟩)
    case c3=>unfold maxLen;omega
    case c4=>omega
    case c5=>first|omega|(simp;omega)
    intro v' w1 hown' hgrow _;have hB1:Below w.heap.size w w1:=qY ((ho.alloc _).alloc _) (bA (bA hbl _) _) (by simp;omega) (Nat.le_refl _) hgrow;clear hgrow ho a1 a2 a3;go_wp2;refine⟨⟨k+1,by omega,by go_num,?_,?_,hB1⟩,by simp[intOf];omega⟩
    ·
     rw[HE.out]
    rw[HE.out];rw[uP,List.length_append];exact hown'
 have hkn:k=n:=by omega
 subst hkn;have HSB:Hid (setB a t v xs=if (rQ a t v xs k).2 then (rQ a t v xs k).1 else (rQ a t v xs k).1++[⟨a,t,v⟩]):=by show _=_;unfold setB;rw[HN.out]
 obtain⟨st,hst⟩:∃st,st=rQ a t v xs k:=⟨_,rfl⟩
 rw[←hst] at ho HSB hle ⊢;clear hst hx;obtain⟨ys,dn⟩:=st;dsimp only at ho hle HSB ⊢;have hws:=hbl.size;cases dn
 ·
  obtain⟨nw,hnw⟩:∃nw:Bal,nw=⟨a,t,v⟩:=⟨_,rfl⟩
  rw[←hnw] at HSB;have n1:nw.ac=a:=by rw[hnw]
  have n2:nw.ast=t:=by rw[hnw]
  have n3:nw.am=v:=by rw[hnw]
  clear hnw;go_wp2_with (at_builtin;refine wpList_append_own _ rfl _ _ 68 rfl w.heap.size 180 i0 _ 3 24 Tryz.underlying68 hi hz0 hz1 hz2 rfl (by decide) _ _ _ rfl (ho.alloc _) ⟨wr.heap.size,0,none⟩ 1 1 (balC nw) rfl rfl ?c1 (xQ nw) ?c3 ?c4 ?c5 ?_)
  case c1=>
   intro j u hj;first
   | exact hj
   | (refine uO (b:=wr.heap.size) (o:=0) ?_ j u hj;exact⟨by simp[go_sem,n1],by simp[go_sem,n2],by simp[go_sem,n3]⟩)
  case c3=>unfold maxLen;omega
  case c4=>omega
  case c5=>first|omega|(simp;omega)
  intro v' w1 hown' hgrow _;have hB1:Below w.heap.size w w1:=qY (ho.alloc _) (bA hbl _) (by simp;omega) (Nat.le_refl _) hgrow;clear hgrow ho;go_wp2;go_ret;refine⟨_,_,rfl,⟨?_,rfl⟩,hB1⟩;rw[HSB.out];simp only[Bool.false_eq_true,if_false];rw[uP,List.length_append];exact hown'
 go_wp2;go_ret;refine⟨_,rfl,⟨_,?_,rfl⟩,hbl⟩;rw[HSB.out,if_pos trivial];exact ho
end Go.Proofs.YtbfnobcidnmohaaGreat
namespace Go.Proofs.YtbfnobcidnmohaaGreat
open Go.RowKit
variable [DecidableEq Bal] [Inhabited Bal]
theorem yN {w:World} {v:Value} {xs:List Bal} (h:balsR.V w v xs):vK w v xs.length (kV xs):=by
 obtain⟨a,c,rfl,_,_,hc⟩:=h;cases a with
 | none=>
  have h0:xs=[]:=by
   cases xs with
   | nil=>rfl
   | cons x r=>obtain⟨b,o,e,_⟩:=hc 0 (by simp);cases e
  subst h0;exact .inl ⟨c,rfl,rfl,rfl⟩
 | some ad=>
  refine .inr ⟨ad,c,rfl,fun j x hj=>?_⟩;have hjl:j<xs.length*3:=by
   have:=(List.getElem?_eq_some_iff.1 hj).1;rw[rJ] at this;exact this
  have hi:j / 3<xs.length:=by omega
  obtain⟨b,o,e,g0,g1,g2⟩:=hc (j / 3) hi;obtain⟨q0,q1,q2⟩:=fCf xs (j / 3) hi;simp only[Option.some.injEq] at e;subst e;have hadd:(Addr.mk b o none).add j=⟨b,o+j,none⟩:=by
   by_cases h:j=0
   ·
    subst h;simp[Addr.add]
   simp[Addr.add,h]
  rw[hadd];have hm:j % 3=0∨j % 3=1∨j % 3=2:=by omega
  rcases hm with hm|hm|hm
  ·
   have e:j=j / 3*3:=by omega
   have e2:o+j=o+j / 3*3:=by omega
   rw[e2,g0];rw[e,q0] at hj;exact hj
  ·
   have e:j=j / 3*3+1:=by omega
   have e2:o+j=o+j / 3*3+1:=by omega
   rw[e2,g1];rw[e,q1] at hj;exact hj
  have e:j=j / 3*3+2:=by omega
  have e2:o+j=o+j / 3*3+2:=by omega
  rw[e2,g2];rw[e,q2] at hj;exact hj
end Go.Proofs.YtbfnobcidnmohaaGreat
namespace Go.Proofs.YtbfnobcidnmohaaGreat
open Go.RowKit
variable [DecidableEq Bal] [Inhabited Bal] [DecidableEq Ledg] [Inhabited Ledg] [DecidableEq Leg] [Inhabited Leg] [DecidableEq Cont] [Inhabited Cont]
attribute [local go_sem ↓] Go.wp_at_zero Go.wp_at_succ
def uZ (xs:List Bal) (l:Leg):List Bal:=setB l.ac l.ast (hasB l.ac l.ast xs+l.am) xs
def uN (xs:List Bal) (ls:List Leg) (k:Nat):List Bal:=(ls.take k).foldl uZ xs
def addB (xs:List Bal) (ls:List Leg):List Bal:=ls.foldl uZ xs
theorem fNa (xs:List Bal) (ls:List Leg) {k:Nat} (h:k<ls.length):uN xs ls (k+1)=uZ (uN xs ls k) (ls.getD k default):=by
 unfold uN;rw[qC ls k h,List.foldl_append];rfl
theorem fPp (xs:List Bal) (ls:List Leg):uN xs ls ls.length=addB xs ls:=by unfold uN addB;rw[List.take_length]
structure AddOk (xs:List Bal) (ls:List Leg):Prop where
 len:∀k,k≤ls.length→(uN xs ls k).length≤1000000
 keys:∀k,k≤ls.length→∀j,j<(uN xs ls k).length→qN ((uN xs ls k).getD j default).ac ((uN xs ls k).getD j default).ast=true
 leg:∀k,k<ls.length→qN (ls.getD k default).ac (ls.getD k default).ast=true
 sum:∀k,k<ls.length → -9223372036854775808≤hasB (ls.getD k default).ac (ls.getD k default).ast (uN xs ls k)+(ls.getD k default).am∧hasB (ls.getD k default).ac (ls.getD k default).ast (uN xs ls k)+(ls.getD k default).am≤9223372036854775807
theorem fQp (x y:Value) (xs:List Bal) (ls:List Leg) (w:World) (hx:balsR.V w x xs) (hy:legsR.V w y ls) (hok:AddOk xs ls) :
  Calls Tryz.prog 43 #[x,y] w fun e w'=>∃u F,e = .returned u∧balsR.O w' w.heap.size F u (addB xs ls)∧Below w.heap.size w w':=by
 have hX:=hx;obtain⟨ax,cx,rfl⟩:=fJ hx;obtain⟨ay,cy,rfl,hcy,hmy,hy⟩:=hy;unfold maxLen at hmy;obtain⟨i0,hi,hz0,hz1,hz2⟩:=info_parts fAo;have HOK:Hid (AddOk xs ls):=hok;have hlen:xs.length≤1000000:=hok.len 0 (Nat.zero_le _);clear hok hx;generalize hn':ls.length=n at *;have HN:Hid (ls.length=n):=hn';clear hn';have hs0:vK (w.alloc (.cells #[] 180)) (.slice ax xs.length cx) xs.length (kV xs):=yN (balsR.below hX (qBq));have ho0:=World.ownsRow_lit (base:=w.heap.size) (e:=180) (size:=3) w #[] 0 (by simp) (by unfold maxLen;omega) rfl;go_enter Tryz.func43,Tryz.ntmps43;go_wp2_with (at_builtin;refine fAe _ rfl _ _ 68 rfl w.heap.size 180 i0 _ 3 24 Tryz.underlying68 hi hz0 hz1 hz2 rfl (by decide) _ _ _ rfl _ xs.length (kV xs) rfl ho0 hs0 ?c1 ?c2 ?c3 ?c4 ?c5 ?_)
 case c1=>rw[rJ]
 case c2=>
  intro u hu;simp only[kV,List.mem_flatMap] at hu;obtain⟨b,_,hb⟩:=hu;exact xQ b u hb
 case c3=>unfold maxLen;omega
 case c4=>omega
 intro v' w1 hown' hgrow hbel;have hB1:Below w.heap.size w w1:=hbel w (qBq);have ho1:∃F,balsR.O w1 w.heap.size F v' xs:=⟨_,hown',rfl⟩
 clear hown' hgrow hbel hs0 ho0 hX;go_wp2;go_loopw [5,6] (fun u i w'=>∃k:Nat,k≤n∧i = .int .i64 k∧(∃F,balsR.O w' w.heap.size F u (uN xs ls k))∧Below w.heap.size w w') (fun _ i _=>n-(intOf i).toNat)
 case atStart=>exact⟨0,Nat.zero_le _,rfl,by simpa [uN] using ho1,hB1⟩
 obtain⟨k,hk,rfl,⟨F,ho⟩,hbl⟩:=hrel;by_cases hlt:k<n
 ·
  obtain⟨bx,ox,rfl,g1⟩:=hy k hlt;have hkl:k<ls.length:=by rw[HN.out];exact hlt
  have HST:Hid (uN xs ls (k+1)=uZ (uN xs ls k) (ls.getD k default)):=fNa xs ls hkl;have hl1:=HOK.out.len k (by omega);have hl2:=HOK.out.keys k (by omega);have hl3:=HOK.out.leg k hkl;have hl4:=HOK.out.sum k hkl;obtain⟨l,hl⟩:∃l,l=ls.getD k default:=⟨_,rfl⟩
  rw[←hl] at g1 HST hl3 hl4;clear hl hy ho1;obtain⟨ys,hys⟩:∃ys,ys=uN xs ls k:=⟨_,rfl⟩
  rw[←hys] at ho HST hl1 hl2 hl4;clear hys;have HK2:Hid (∀j,j<ys.length→qN (ys.getD j default).ac (ys.getD j default).ast=true):=hl2;clear hl2;obtain⟨z,hz⟩:∃z,z=hasB l.ac l.ast ys:=⟨_,rfl⟩
  rw[←hz] at hl4;have HE:Hid (uN xs ls (k+1)=setB l.ac l.ast (z+l.am) ys):=by show _=_;rw[HST.out,uZ,hz]
  have v1:IntKind.i64.wrap (z+l.am)=z+l.am:=gM hl4.1 hl4.2;have g2:=fF hbl g1;obtain⟨au,cu,rfl⟩:=fJ (balsR.ofO ho);have hV:=balsR.ofO ho;have i1:(k:Int)<(n:Int):=by omega
  obtain⟨a1,a2,a3,a4⟩:=g2;have g3:kQ wr bx (ox+k*4) l:=⟨a1,a2,a3,a4⟩;go_wp2;go_region_held3 (fun w'=>Below wr.heap.size wr w'∧w'.cell? ⟨bx,ox+k*4,none⟩=some (.int .i64 l.sh)∧w'.cell? ⟨bx,ox+k*4+1,none⟩=some (.int .i64 l.ac)∧w'.cell? ⟨bx,ox+k*4+2,none⟩=some (.int .i64 l.ast)∧w'.cell? ⟨bx,ox+k*4+3,none⟩=some (.int .i64 l.am))
   ((refine fCt ?_ g3;(repeat (first|exact bR _ _|assumption|refine bD ?_|refine bA ?_ _|refine bS ?_ (by assumption)))))
   (first|(go_at_call 100;refine(fH8 _ ys l.ac l.ast _ (balsR.below hV (Below.drew (Below.refl _ _)))).mono ?_;rw[←hz];rintro e w3 ⟨rfl,rfl⟩)|(go_at_call 99;(first|rw[←hz,v1]|rw[v1]|skip);refine(fQq _ ys l.ac l.ast (z+l.am) _ (balsR.below hV (Below.drew (Below.refl _ _))) hl1 hl3 HK2.out).mono ?_;rintro e w4 ⟨u4,F4,rfl,o4,hb4⟩))
  rename_i hH;have hB4:=bS hbl hH.1;have hsz:=hH.1.size;have hw0:=hbl.size;clear hH;go_wp2;refine⟨⟨k+1,by omega,by go_num,⟨F4,?_⟩,hB4⟩,by simp[intOf];omega⟩;rw[HE.out];exact balsR.base o4 (by simpa using hw0)
 have hkn:k=n:=by omega
 subst hkn;go_wp2;go_ret;refine⟨_,F,rfl,?_,hbl⟩;rw[←HN.out,fPp] at ho;exact ho
end Go.Proofs.YtbfnobcidnmohaaGreat
namespace Go.Proofs.YtbfnobcidnmohaaGreat
open Go.RowKit
variable [DecidableEq Bal] [Inhabited Bal] [DecidableEq Ledg] [Inhabited Ledg]
attribute [local go_sem ↓] Go.wp_at_zero Go.wp_at_succ
structure LedgR where
 code:Int
 ledger:Ledg
variable [DecidableEq LedgR] [Inhabited LedgR]
end Go.Proofs.YtbfnobcidnmohaaGreat
namespace Go.Proofs.YtbfnobcidnmohaaGreat
open Go.RowKit
theorem PO.append {α:Type} {R:Rep α} {e size:Nat} {lv:Value→List Value} {w Y w':World} {base:Nat} {v v':Value} {n:Nat} {d:Nat→α} {cs:List Value} {us:Nat→Value} {fs:Nat→Nat→Prop} {u:Value} {F':Nat→Prop}
  (h:PO R e size lv w base v n n d cs us fs) (hbs:base≤w.heap.size) (hb:Below w.heap.size w Y) (hu:R.O Y w.heap.size F' u (d n)) (hl:(lv u).length=size)
  (hr:w'.ownsRow base e size v' (n+1) (cs++lv u)) (hg:Y.grownBy w' v.ownBlock) (hloc:v'.ownBlock=v.ownBlock∨∃g,v'.ownBlock=some g∧Y.heap.size≤g) :
  PO R e size lv w' base v' (n+1) (n+1) d (cs++lv u) (upd us n u) (upd fs n F'):=by
 have hlt:∀b,v.ownBlock=some b→b<w.heap.size:=fun b hb=>(h.row.lt b hb).2
 have hF:∀b,F' b→w.heap.size≤b∧b<Y.heap.size:=fun b hb=>R.rng hu b hb
 have hfs:∀i,i<n→∀b,fs i b→b<w.heap.size:=fun i hi b hb=>(R.rng (h.el i hi) b hb).2
 have hcl:cs.length=n*size:=h.row.1;refine⟨hr,?_,?_,?_,?_,?_⟩
 ·
  intro i hi;by_cases hik:i=n
  ·
   subst hik;rw[mU,mU];exact R.base (R.mod hu (Mod.of_grown hg) (fun b hb he=>by have:=hlt b he;have:=(hF b hb).1;omega)) hbs
  rw[upd_ne _ _ hik,upd_ne _ _ hik];exact R.mod (R.keep (h.el i (by omega)) hb) (Mod.of_grown hg) (fun b hb=>h.out i (by omega) b hb)
 ·
  intro i hi;by_cases hik:i=n
  ·
   subst hik;rw[mU];exact hl
  rw[upd_ne _ _ hik];exact h.ln i (by omega)
 ·
  intro i hi j hj;by_cases hik:i=n
  ·
   subst hik;rw[mU,List.getElem?_append_right (by omega),hcl];congr 1;omega
  rw[upd_ne _ _ hik,←h.cell i (by omega) j hj,List.getElem?_append_left];rw[hcl];have:i*size+size≤n*size:=by rw[←Nat.succ_mul];exact Nat.mul_le_mul_right _ (by omega)
  omega
 ·
  intro i hi b hb he;by_cases hik:i=n
  ·
   subst hik;rw[mU] at hb;rcases hloc with hloc|⟨g,hg',hge⟩
   ·
    rw[hloc] at he;have:=hlt b he;have:=(hF b hb).1;omega
   rw[hg'] at he;simp only[Option.some.injEq] at he;have:=(hF b hb).2;omega
  rw[upd_ne _ _ hik] at hb;rcases hloc with hloc|⟨g,hg',hge⟩
  ·
   rw[hloc] at he;exact h.out i (by omega) b hb he
  rw[hg'] at he;simp only[Option.some.injEq] at he;have:=hfs i (by omega) b hb;have:=hb;have:=h.row;have:=hlt;have hYw:w.heap.size≤Y.heap.size:=by
   have:=‹Below w.heap.size w Y›;exact this.size
  omega
 intro i j hi hj hij b h1 h2;by_cases hik:i=n
 ·
  subst hik;rw[mU] at h1;rw[upd_ne _ _ (Ne.symm hij)] at h2;have:=(hF b h1).1;have:=hfs j (by omega) b h2;omega
 rw[upd_ne _ _ hik] at h1;by_cases hjk:j=n
 ·
  subst hjk;rw[mU] at h2;have:=(hF b h2).1;have:=hfs i (by omega) b h1;omega
 rw[upd_ne _ _ hjk] at h2;exact h.sep i j (by omega) (by omega) hij b h1 h2
section
variable {P : Program} (w : World)
theorem yK {ops:Array Oper} {o:Oper} {a:Act} {K:Act→World→Prop} {Q:Exit→Act→World→Prop} {E:Prop} (hgd:o.guard=none) (s x:Operand) (t:TypeId)
  (ho:o.op = .call {callee:=.builtin .append,args:=#[s,x],argTypes:=#[t,t]})
  (base:Nat) (e:TypeId) (i:TypeInfo) (z:Value) (size bytes:Nat) (ht:P.underlying t=some (.slice e)) (hi:P.info? e=some i) (hz:i.zero=some z)
  (hsize:i.size=size) (hby:i.bytes=bytes) (hzs:z.cells.size=size) (hsz:0<size)
  (v:Value) (n:Nat) (xs:List Value) (hs:a.eval s=v) (hown:w.ownsRow base e size v n xs)
  (ad:Addr) (m c:Nat) (news:List Value) (hx:a.eval x = .slice (some ad) m c) (hl:news.length=m*size) (hnews:∀j u,news[j]? = some u→w.cell? (ad.add j)=some u) (h1:∀u ∈ news,u.oneCell'=true)
  (h63:n+m≤maxLen) (hbytes:(n+m)*bytes≤140737488355328) (hbase:base≤w.heap.size)
  (h:∀v' w',w'.ownsRow base e size v' (n+m) (xs++news)→w.grownBy w' v.ownBlock→(v'.ownBlock=v.ownBlock∨v'.ownBlock=some w.heap.size)→K (a.put o.dst v') w') :
  if Region.wanted o (yielded ops a.tmps)=true then Oper.wp P o a w K Q else E:=by
 have hw:Region.wanted o (yielded ops a.tmps)=true:=by simp[Region.wanted,hgd]
 rw[if_pos hw];obtain⟨v',w',hr,h2,h3,_,h5⟩:=run_append_own_at (P:=P) w base t o.type e i z size bytes ht hi hz hsize hby hzs hsz v n xs hown ad m c news hl hnews h1 h63 hbytes hbase;unfold Oper.wp execOp;simp only[ho,resolve,invoke,builtin,Sem.run_bind,Sem.run_pure,Result.andThen_ok,List.map_toArray,List.map_cons,List.map_nil,hs,hx,hr];exact h v' w' h2 h3 h5
end
end Go.Proofs.YtbfnobcidnmohaaGreat
namespace Go.Proofs.YtbfnobcidnmohaaGreat
open Go.RowKit
variable [DecidableEq Bal] [Inhabited Bal] [DecidableEq Ledg] [Inhabited Ledg] [DecidableEq Leg] [Inhabited Leg] [DecidableEq Cont] [Inhabited Cont] [DecidableEq LedgR] [Inhabited LedgR]
attribute [local go_sem ↓] Go.wp_at_zero Go.wp_at_succ
def fBz (g:List (List Bal)) (ls:List Leg) (i:Nat):List Bal:=addB (g.getD i default) (onSh i ls)
def pU (g:List (List Bal)) (ls:List Leg):List (List Bal):=(List.range g.length).map (fBz g ls)
theorem tZ (g:List (List Bal)) (ls:List Leg):(pU g ls).length=g.length:=by simp[pU]
theorem yX (g:List (List Bal)) (ls:List Leg) {i:Nat} (h:i<g.length):(pU g ls).getD i default=fBz g ls i:=by simp[pU,List.getD,h]
theorem tT {F:Nat→Prop} {w w':World} (h:Mod F w w') {a:Addr} (hl:a.block<w.heap.size) (hn:¬F a.block):w'.frozen? a=w.frozen? a:=World.frozen?_of_block (h.block a.block hl hn)
structure StSt (w W:World) (n:Nat) (ag:Option Addr) (cg:Nat) (id:Int) (ac:Option Addr) (m cc:Nat) (v:Value):Prop where
 g0:W.cell? ⟨w.heap.size,0,none⟩=some (.slice ag n cg)
 y0:W.cell? ⟨w.heap.size+1,0,none⟩=some (.int .i64 id)
 y1:W.cell? ⟨w.heap.size+1,1,none⟩=some (.slice ac m cc)
 r0:W.cell? ⟨w.heap.size+1+1,0,none⟩=some (.slice none 0 0)
 o0:W.cell? ⟨w.heap.size+1+1+1,0,none⟩=some v
 rf:∀o,W.frozen? ⟨w.heap.size+1+1,o,none⟩=false
 of:∀o,W.frozen? ⟨w.heap.size+1+1+1,o,none⟩=false
 sz:w.heap.size+4≤W.heap.size
 blw:Below w.heap.size w W
theorem StSt.mod {w W W':World} {n:Nat} {ag:Option Addr} {cg:Nat} {id:Int} {ac:Option Addr} {m cc:Nat} {v:Value} {F:Nat→Prop} (h:StSt w W n ag cg id ac m cc v) (hm:Mod F W W') (hF:∀b,F b→w.heap.size+4≤b):StSt w W' n ag cg id ac m cc v:=by
 have hsz:=h.sz;have hn:∀b,b<w.heap.size+4→¬F b:=fun b hb e=>by have:=hF b e;omega
 exact⟨hm.cell h.g0 (hn _ (by dsimp only;omega)),hm.cell h.y0 (hn _ (by dsimp only;omega)),hm.cell h.y1 (hn _ (by dsimp only;omega)),hm.cell h.r0 (hn _ (by dsimp only;omega)),hm.cell h.o0 (hn _ (by dsimp only;omega)),
  fun o=>(tT hm (a:=⟨w.heap.size+1+1,o,none⟩) (by dsimp only;omega) (hn _ (by dsimp only;omega))).trans (h.rf o),fun o=>(tT hm (a:=⟨w.heap.size+1+1+1,o,none⟩) (by dsimp only;omega) (hn _ (by dsimp only;omega))).trans (h.of o),Nat.le_trans hsz hm.size,hm.below h.blw (by omega) (fun b hb=>by have:=hF b hb;omega)⟩
theorem StSt.below {w W W':World} {n:Nat} {ag:Option Addr} {cg:Nat} {id:Int} {ac:Option Addr} {m cc:Nat} {v:Value} (h:StSt w W n ag cg id ac m cc v) (hb:Below W.heap.size W W'):StSt w W' n ag cg id ac m cc v:=
 h.mod (F:=fun _=>False) (Mod.of_below hb) (fun _ e=>e.elim)
theorem StSt.put {w W:World} {n:Nat} {ag:Option Addr} {cg:Nat} {id:Int} {ac:Option Addr} {m cc:Nat} {v:Value} (h:StSt w W n ag cg id ac m cc v) (v':Value):StSt w (W.setCell ⟨w.heap.size+1+1+1,0,none⟩ v') n ag cg id ac m cc v':=
 ⟨by rw[mI (by simp)];exact h.g0,by rw[mI (by simp)];exact h.y0,by rw[mI (by simp)];exact h.y1,by rw[mI (by simp)];exact h.r0,yB h.o0,fun o=>by rw[World.frozen?_setCell];exact h.rf o,fun o=>by rw[World.frozen?_setCell];exact h.of o,by simpa using h.sz,h.blw.setCell (by dsimp only;omega) _⟩
theorem StSt.all {w W:World} {n:Nat} {ag:Option Addr} {cg:Nat} {id:Int} {ac:Option Addr} {m cc:Nat} {v:Value} {b o k:Nat} {u:Value} (h:StSt w W n ag cg id ac m cc v) (hc:W.cell? ⟨b,o+k,none⟩=some u) :
  StSt w W n ag cg id ac m cc v∧W.cell? ⟨w.heap.size+1+1+1,0,none⟩=some v∧W.cell? ⟨w.heap.size,0,none⟩=some (.slice ag n cg)∧W.cell? ⟨w.heap.size+1,0,none⟩=some (.int .i64 id)∧W.cell? ⟨w.heap.size+1,1,none⟩=some (.slice ac m cc)∧W.cell? ⟨b,o+k,none⟩=some u:=
 ⟨h,h.o0,h.g0,h.y0,h.y1,hc⟩
theorem fC2 (a t v:Int) (xs:List Bal):∀k,k≤xs.length→∀x ∈ (rQ a t v xs k).1,x ∈ xs∨x=⟨a,t,v⟩
 | 0,_,x,h=>by simp[rQ] at h
 | k+1,hk,x,h=>by
  have ih:=fC2 a t v xs k (by omega);have hm:xs.getD k default ∈ xs:=by
   have e:xs.getD k default=xs[k]:=by simp[List.getD,show k<xs.length by omega]
   rw[e];exact List.getElem_mem _
  rw[fAy a t v xs (by omega)] at h;unfold pI at h;split at h
  ·
   exact ih x h
  split at h
  ·
   simp only[List.append_assoc,List.mem_append,List.mem_singleton] at h;rcases h with h|h|h
   ·
    exact ih x h
   ·
    exact .inr h
   rw[h];exact .inl hm
  simp only[List.mem_append,List.mem_singleton] at h;rcases h with h|h
  ·
   exact ih x h
  rw[h];exact .inl hm
theorem fTn {a t v:Int} {xs:List Bal} {x:Bal} (h:x ∈ setB a t v xs):x ∈ xs∨x=⟨a,t,v⟩:=by
 unfold setB at h;split at h
 ·
  exact fC2 a t v xs _ (Nat.le_refl _) x h
 simp only[List.mem_append,List.mem_singleton] at h;rcases h with h|h
 ·
  exact fC2 a t v xs _ (Nat.le_refl _) x h
 exact .inr h
theorem fAm {M:Int} (hM:0≤M) {a t:Int}:∀{xs:List Bal},(∀x ∈ xs,-M≤x.am∧x.am≤M) → -M≤hasB a t xs∧hasB a t xs≤M
 | [],_=>by simp only[hasB];omega
 | x::xs,h=>by
  have ih:=fAm hM (a:=a) (t:=t) (xs:=xs) (fun y hy=>h y (List.mem_cons_of_mem _ hy));simp only[hasB];split
  ·
   exact h x (List.mem_cons_self ..)
  exact ih
end Go.Proofs.YtbfnobcidnmohaaGreat

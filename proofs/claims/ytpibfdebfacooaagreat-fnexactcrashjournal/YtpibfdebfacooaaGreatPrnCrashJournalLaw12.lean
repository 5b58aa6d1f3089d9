import Derived.Test.YtpibfdebfacooaaGreatPrnCrashJournalLaw11
set_option maxHeartbeats 2000000
set_option linter.unusedSectionVars false
set_option linter.unusedSimpArgs false
set_option linter.unusedVariables false
namespace Go.Proofs.YtpibfdebfacooaaGreat
open Go.RowKit
attribute [local go_sem ↓] Go.wp_at_zero Go.wp_at_succ
section
variable [dQ Leg] [iH Leg]
def onSh (s:Int) (xs:List Leg):List Leg:=xs.filter (fun l=>l.sh==s)
theorem fOx (s:Int) (xs:List Leg) (k:Nat) (h:k<xs.length) (hs:(xs.getD k default).sh=s):onSh s (xs.take (k+1))=onSh s (xs.take k)++[xs.getD k default]:=by
 rw[rM xs k h];simp only[onSh,List.filter_append];simp only[List.filter_cons,List.filter_nil,hs,beq_self_eq_true,if_true]
theorem fK1 (s:Int) (xs:List Leg) (k:Nat) (h:k<xs.length) (hs:¬(xs.getD k default).sh=s):onSh s (xs.take (k+1))=onSh s (xs.take k):=by
 rw[rM xs k h];simp only[onSh,List.filter_append,List.filter_cons,List.filter_nil,beq_eq_false_iff_ne.2 hs];simp
theorem fTf (s:Int) (xs:List Leg) (k:Nat):(onSh s (xs.take k)).length≤k:=by
 have:=List.length_filter_le (fun l:Leg=>l.sh==s) (xs.take k);have h2:=List.length_take_le k xs;simp only[onSh];omega
theorem fHe (xs:List Leg) (l:Leg):gN (xs++[l])=gN xs++legC l:=by simp[gN]
theorem fOq (l:Leg):∀u ∈ legC l,u.oneCell'=true:=by
 intro u hu;simp only[legC,List.mem_cons,List.not_mem_nil,or_false] at hu;rcases hu with rfl|rfl|rfl|rfl <;> rfl
theorem fHd {w:World} {b o:Nat} {l:Leg} (h:mH w b o l):∀j u,(legC l)[j]? = some u→w.cell? ((⟨b,o,none⟩:Addr).add j)=some u:=by
 obtain⟨h0,h1,h2,h3⟩:=h;intro j u hj;match j,hj with
 | 0,hj=>simp[legC] at hj;subst hj;simpa [Addr.add] using h0
 | 1,hj=>simp[legC] at hj;subst hj;simpa [Addr.add] using h1
 | 2,hj=>simp[legC] at hj;subst hj;simpa [Addr.add] using h2
 | 3,hj=>simp[legC] at hj;subst hj;simpa [Addr.add] using h3
 | j+4,hj=>simp[legC] at hj
theorem rY {w w':World} {B:Nat} {base e size:Nat} {v:Value} {n:Nat} {xs:List Value} (h:w.ownsRow base e size v n xs) {W:World} (hb:Below B W w) (hB:B≤w.heap.size) (hbase:B≤base) (hg:w.grownBy w' v.ownBlock):Below B W w':=
 hb.grown hg hB (fun k hk=>Nat.le_trans hbase (h.lt k hk).1)
theorem xK (x:Value) (xs:List Leg) (s:Int) (w:World) (hx:vB w x xs) (hn:xs.length≤1048576) :
  Calls Tryz.prog 192 #[x,.int .i64 s] w fun e w'=>∃v,e =.returned v∧w'.ownsRow w.heap.size 168 4 v (onSh s xs).length (gN (onSh s xs))∧Below w.heap.size w w':=by
 obtain⟨ax,cx,rfl,hcx,hmx,hx⟩:=hx;unfold maxLen at hmx;obtain⟨i0,hi,hz0,hz1,hz2⟩:=info_parts fEx;generalize hn':xs.length=n at *;have HN:Hid (xs.length=n):=hn';clear hn';go_enter Tryz.func192,Tryz.ntmps192;go_wp2;go_loopw [5,10] (fun v i w'=>∃k:Nat,k≤n∧i =.int .i64 k∧w'.ownsRow w.heap.size 168 4 v (onSh s (xs.take k)).length (gN (onSh s (xs.take k)))∧Below w.heap.size w w') (fun _ i _=>n-(intOf i).toNat)
 case atStart=>exact⟨0,oM,rfl,by simpa [onSh,gN] using World.ownsRow_nil _ _ _ _,bR _ _⟩
 obtain⟨k,hk,rfl,ho,hbl⟩:=hrel;by_cases hlt:k<n
 ·
  obtain⟨bx,ox,rfl,g1⟩:=hx k hlt;obtain⟨l,hl⟩:∃l,l=xs.getD k default:=⟨_,rfl⟩
  rw[←hl] at g1;have HL:Hid (l=xs.getD k default):=hl;clear hl hx;obtain⟨a1,a2,a3,a4⟩:=fQ hbl g1;have hkx:k<xs.length:=by have:=HN.out;omega
  have hle:=fTf s xs k;have hsz:=hbl.size;by_cases hs:l.sh=s
  ·
   have e1:=fOx s xs k hkx (by rw[←HL.out];exact hs);rw[←HL.out] at e1;have HE:Hid (onSh s (xs.take (k+1))=onSh s (xs.take k)++[l]):=e1;have HS:Hid (l.sh=s):=hs;have hd:(l.sh==s)=true:=by simpa using hs
   generalize onSh s (xs.take k)=ys at *;clear e1 hs;go_wp2_with (at_builtin;refine wpList_append_own _ rfl _ _ 55 rfl w.heap.size 168 i0 _ 4 32 Tryz.underlying55 hi hz0 hz1 hz2 rfl (by decide) _ _ _ rfl ((ho.alloc _).alloc _) ⟨wr.heap.size+1,0,none⟩ 1 1 (legC l) rfl rfl ?c1 (fOq l) ?c3 ?c4 ?c5 ?_)
   case c1=>exact fHd (b:=wr.heap.size+1) (o:=0) ⟨sG,by simp[go_sem],sG,by simp[go_sem]⟩
   case c3=>unfold maxLen;omega
   case c4=>omega
   case c5=>simp;omega
   intro v' w1 hown' hgrow _;have hB1:Below w.heap.size w w1:=rY ((ho.alloc _).alloc _) (bA (bA hbl _) _) (by simp;omega) (Nat.le_refl _) hgrow;clear hgrow ho a1 a2 a3 a4;go_wp2;refine⟨⟨k+1,by omega,by go_num,?_,hB1⟩,mI⟩;rw[HE.out,fHe,List.length_append];exact hown'
  have e1:=fK1 s xs k hkx (by rw[←HL.out];exact hs);have HE:Hid (onSh s (xs.take (k+1))=onSh s (xs.take k)):=e1;have hd:(l.sh==s)=false:=by simpa using hs
  clear e1 hs;go_wp2;refine⟨⟨k+1,by omega,by go_num,?_,bA hbl _⟩,mI⟩;rw[HE.out];exact ho.alloc _
 go_wp2;go_ret;have hkn:k=n:=oM;subst hkn;have t0:xs.take k=xs:=by rw[←HN.out];exact List.take_length
 rw[t0] at ho;exact⟨_,rfl,ho,hbl⟩
theorem xJ (id:Int) (x:Value) (xs:List Leg) (s:Int) (w:World) (hx:vB w x xs) (hn:xs.length≤1048576) :
  Calls Tryz.prog 127 #[.agg #[.int .i64 id,x],.int .i64 s] w fun e w'=>∃v,e =.returned v∧w'.ownsRow w.heap.size 168 4 v (onSh s xs).length (gN (onSh s xs))∧Below w.heap.size w w':=by
 obtain⟨ax,cx,rfl,hcx,hmx,hx⟩:=hx;unfold maxLen at hmx;obtain⟨i0,hi,hz0,hz1,hz2⟩:=info_parts fEx;generalize hn':xs.length=n at *;have HN:Hid (xs.length=n):=hn';clear hn';go_enter Tryz.func127,Tryz.ntmps127;go_wp2;go_loopw [5,6] (fun v i w'=>∃k:Nat,k≤n∧i =.int .i64 k∧w'.ownsRow (w.heap.size+1) 168 4 v (onSh s (xs.take k)).length (gN (onSh s (xs.take k)))∧w'.cell? ⟨w.heap.size,1,none⟩=some (.slice ax n cx)∧w.heap.size+1≤w'.heap.size∧Below w.heap.size w w') (fun _ i _=>n-(intOf i).toNat)
 case atStart=>
  refine⟨0,oM,rfl,?_,by simp[go_sem],by simp,bA (bA (bR _ _) _) _⟩;have:=World.ownsRow_lit (base:=w.heap.size+1) (e:=168) (size:=4) (w.alloc (.cells #[.int .i64 id,.slice ax n cx] 57)) #[] 0 (by simp) (by unfold maxLen;omega) rfl;simpa [onSh,gN] using this
 obtain⟨k,hk,rfl,ho,hbx,hsz,hbl⟩:=hrel;by_cases hlt:k<n
 ·
  obtain⟨bx,ox,rfl,g1⟩:=hx k hlt;obtain⟨l,hl⟩:∃l,l=xs.getD k default:=⟨_,rfl⟩
  rw[←hl] at g1;have HL:Hid (l=xs.getD k default):=hl;clear hl hx;obtain⟨a1,a2,a3,a4⟩:=fQ hbl g1;have hkx:k<xs.length:=by have:=HN.out;omega
  have hle:=fTf s xs k;by_cases hs:l.sh=s
  ·
   have e1:=fOx s xs k hkx (by rw[←HL.out];exact hs);rw[←HL.out] at e1;have HE:Hid (onSh s (xs.take (k+1))=onSh s (xs.take k)++[l]):=e1;have hd:(l.sh==s)=true:=by simpa using hs
   generalize onSh s (xs.take k)=ys at *;clear e1 hs;go_wp2_with (at_builtin;refine wpList_append_own _ rfl _ _ 55 rfl (w.heap.size+1) 168 i0 _ 4 32 Tryz.underlying55 hi hz0 hz1 hz2 rfl (by decide) _ _ _ rfl (ho.alloc _) ⟨wr.heap.size,0,none⟩ 1 1 (legC l) rfl rfl ?c1 (fOq l) ?c3 ?c4 ?c5 ?_)
   case c1=>exact fHd (b:=wr.heap.size) (o:=0) ⟨sG,by simp[go_sem],sG,by simp[go_sem]⟩
   case c3=>unfold maxLen;omega
   case c4=>omega
   case c5=>simp;omega
   intro v' w1 hown' hgrow _;have hz:w.heap.size<wr.heap.size:=wL _ _ hbx;have hB1:Below w.heap.size w w1:=rY (ho.alloc _) (bA hbl _) (by simp;omega) oM hgrow;have hbx1:w1.cell? ⟨w.heap.size,1,none⟩=some (.slice (some ⟨bx,ox,none⟩) n cx):=by
    refine hgrow.cell (cK (bA (bR _ _) _) hbx) ?_;intro h;have:=(ho.alloc (.cells #[.int .i64 l.sh,.int .i64 l.ac,.int .i64 l.ast,.int .i64 l.am] 168)).lt _ h.symm;simp at this;omega
   have hz1:w.heap.size+1≤w1.heap.size:=wL _ _ hbx1;clear hgrow ho a1 a2 a3 a4;go_wp2;refine⟨⟨k+1,by omega,by go_num,?_,hbx1,hz1,hB1⟩,mI⟩;rw[HE.out,fHe,List.length_append];exact hown'
  have e1:=fK1 s xs k hkx (by rw[←HL.out];exact hs);have HE:Hid (onSh s (xs.take (k+1))=onSh s (xs.take k)):=e1;have hd:(l.sh==s)=false:=by simpa using hs
  clear e1 hs;go_wp2;refine⟨⟨k+1,by omega,by go_num,?_,hbx,hsz,hbl⟩,mI⟩;rw[HE.out];exact ho
 go_wp2;go_ret;have hkn:k=n:=oM;subst hkn;have t0:xs.take k=xs:=by rw[←HN.out];exact List.take_length
 rw[t0] at ho;exact⟨_,rfl,rG ho oM,hbl⟩
variable [dQ Bal] [iH Bal] [dQ Ledg] [iH Ledg]
def qF (a t v:Int) (st:List Bal × Bool) (b:Bal):List Bal × Bool:=
 if b.ac=a∧b.ast=t then st else if st.2=false∧a*3+t<b.ac*3+b.ast then (st.1++[⟨a,t,v⟩]++[b],true) else (st.1++[b],st.2)
def uB (a t v:Int) (xs:List Bal) (k:Nat):List Bal × Bool:=(xs.take k).foldl (qF a t v) ([],decide (v=0))
def setB (a t v:Int) (xs:List Bal):List Bal:=if (uB a t v xs xs.length).2 then (uB a t v xs xs.length).1 else (uB a t v xs xs.length).1++[⟨a,t,v⟩]
theorem fCx (a t v:Int) (xs:List Bal) {k:Nat} (h:k<xs.length):uB a t v xs (k+1)=qF a t v (uB a t v xs k) (xs.getD k default):=by
 unfold uB;rw[fPc xs k h,List.foldl_append];rfl
theorem fJa (a t v:Int) (xs:List Bal):∀k,k≤xs.length→(uB a t v xs k).1.length≤2*k
 | 0,_=>by simp[uB]
 | k+1,h=>by
  have ih:=fJa a t v xs k oM;rw[fCx a t v xs oM];unfold qF;split
  ·omega
  split
  ·simp only[List.length_append,List.length_cons,List.length_nil];omega
  simp only[List.length_append,List.length_cons,List.length_nil];omega
theorem xD (ys:List Bal) (x:Bal):kX (ys++[x])=kX ys++balC x:=by simp[kX]
theorem zS (x:Bal):∀u ∈ balC x,u.oneCell'=true:=by
 intro u hu;simp only[balC,List.mem_cons,List.not_mem_nil,or_false] at hu;rcases hu with rfl|rfl|rfl <;> rfl
theorem xC {w:World} {b o:Nat} {x:Bal} (h:uD w b o x):∀j u,(balC x)[j]? = some u→w.cell? ((⟨b,o,none⟩:Addr).add j)=some u:=by
 obtain⟨h0,h1,h2⟩:=h;intro j u hj;match j,hj with
 | 0,hj=>simp[balC] at hj;subst hj;simpa [Addr.add] using h0
 | 1,hj=>simp[balC] at hj;subst hj;simpa [Addr.add] using h1
 | 2,hj=>simp[balC] at hj;subst hj;simpa [Addr.add] using h2
 | j+3,hj=>simp[balC] at hj
theorem fS7 (x:Value) (xs:List Bal) (a t v:Int) (w:World) (hx:balsR.V w x xs) (hn:xs.length≤1000000) (hk:rA a t=true) (hks:∀k,k<xs.length→rA (xs.getD k default).ac (xs.getD k default).ast=true) :
  Calls Tryz.prog 185 #[x,.int .i64 a,.int .i64 t,.int .i64 v] w fun e w'=>∃u F,e =.returned u∧balsR.O w' w.heap.size F u (setB a t v xs)∧Below w.heap.size w w':=by
 obtain⟨ax,cx,rfl,hcx,hmx,hx⟩:=hx;unfold maxLen at hmx;obtain⟨i0,hi,hz0,hz1,hz2⟩:=info_parts fAx;have HKS:Hid (∀k,k<xs.length→rA (xs.getD k default).ac (xs.getD k default).ast=true):=hks;obtain⟨⟨q1,q2⟩,q3,q4⟩:=keyOk_iff.1 hk;clear hks hk;generalize hn':xs.length=n at *;have HN:Hid (xs.length=n):=hn';clear hn';have v1:IntKind.i64.wrap (a*3)=a*3:=qP oM oM;have v2:IntKind.i64.wrap (a*3+t)=a*3+t:=qP oM oM;have hd0:(v==0)=decide (v=0):=by by_cases h:v=0 <;> simp[h]
 go_enter Tryz.func185,Tryz.ntmps185;go_wp2;go_loopw [9,10,11] (fun u d i w'=>∃k:Nat,k≤n∧i =.int .i64 k∧d =.bool (uB a t v xs k).2∧w'.ownsRow w.heap.size 103 3 u (uB a t v xs k).1.length (kX (uB a t v xs k).1)∧Below w.heap.size w w') (fun _ _ i _=>n-(intOf i).toNat)
 case atStart=>
  refine⟨0,oM,rfl,by simp[uB],?_,qBq⟩;have:=World.ownsRow_lit (base:=w.heap.size) (e:=103) (size:=3) w #[] 0 (by simp) (by unfold maxLen;omega) rfl;simpa [uB,kX] using this
 obtain⟨k,hk,rfl,rfl,ho,hbl⟩:=hrel;have hle:=fJa a t v xs k (by rw[HN.out];exact hk);by_cases hlt:k<n
 ·
  obtain⟨bx,ox,rfl,g1⟩:=hx k hlt;have HST:Hid (uB a t v xs (k+1)=qF a t v (uB a t v xs k) (xs.getD k default)):=fCx a t v xs (by rw[HN.out];exact hlt);have hkk:=HKS.out k hlt;obtain⟨l,hl⟩:∃l,l=xs.getD k default:=⟨_,rfl⟩
  rw[←hl] at g1 HST hkk;clear hl hx;obtain⟨⟨p1,p2⟩,p3,p4⟩:=keyOk_iff.1 hkk;obtain⟨st,hst⟩:∃st,st=uB a t v xs k:=⟨_,rfl⟩
  rw[←hst] at ho HST hle ⊢;clear hst;obtain⟨ys,dn⟩:=st;dsimp only at ho hle ⊢;obtain⟨a1,a2,a3⟩:=kI hbl g1;have v3:IntKind.i64.wrap (l.ac*3)=l.ac*3:=qP oM oM;have v4:IntKind.i64.wrap (l.ac*3+l.ast)=l.ac*3+l.ast:=qP oM oM;have hws:=hbl.size;by_cases hm:l.ac=a∧l.ast=t
  ·
   have HE:Hid (uB a t v xs (k+1)=(ys,dn)):=by show _=_;rw[HST.out,qF,if_pos hm]
   have m1:(l.ac==a)=true:=by simpa using hm.1
   have m2:(l.ast==t)=true:=by simpa using hm.2
   clear hm;go_wp2;refine⟨⟨k+1,by omega,by go_num,?_,?_,qBq⟩,mI⟩
   ·rw[HE.out]
   rw[HE.out];exact ho.alloc _
  have hm2:(l.ac==a&&l.ast==t)=false:=by simp;intro e1 e2;exact hm ⟨e1,e2⟩
  by_cases hins:dn=false∧a*3+t<l.ac*3+l.ast
  ·
   obtain⟨rfl,hins⟩:=hins;have HE:Hid (uB a t v xs (k+1)=(ys++[⟨a,t,v⟩]++[l],true)):=by show _=_;rw[HST.out,qF,if_neg hm,if_pos ⟨rfl,hins⟩]
   obtain⟨nw,hnw⟩:∃nw:Bal,nw=⟨a,t,v⟩:=⟨_,rfl⟩
   rw[←hnw] at HE;have n1:nw.ac=a:=by rw[hnw]
   have n2:nw.ast=t:=by rw[hnw]
   have n3:nw.am=v:=by rw[hnw]
   clear hnw HST hm;cases e1:(l.ac==a);all_goals (try (have e2:(l.ast==t)=false:=by(simpa [e1] using hm2)))
   all_goals
    go_wp2_with (at_builtin;refine wpList_append_own _ rfl _ _ 30 rfl w.heap.size 103 i0 _ 3 24 Tryz.underlying30 hi hz0 hz1 hz2 rfl (by decide) _ _ _ rfl ((ho.alloc _).alloc _) ⟨wr.heap.size+1,0,none⟩ 1 1 (balC nw) rfl rfl ?c1 (zS nw) ?c3 ?c4 ?c5 ?_)
    case c1=>
     intro j u hj;first
     | exact hj
     | (refine xC (b:=wr.heap.size+1) (o:=0) ?_ j u hj;exact⟨by simp[go_sem,n1],by simp[go_sem,n2],by simp[go_sem,n3]⟩)
    case c3=>unfold maxLen;omega
    case c4=>omega
    case c5=>first|omega|(simp;omega)
    intro v' w1 hown' hgrow _;have hB1:Below w.heap.size w w1:=rY ((ho.alloc _).alloc _) (bA (bA hbl _) _) (by simp;omega) (Nat.le_refl _) hgrow;have hne:∀u,some wr.heap.size≠Value.ownBlock u∨True:=fun _=>.inr trivial
    clear hne;have hbx:uD w1 wr.heap.size 0 l:=by
     have hq:∀o z,((wr.alloc (.cells #[.int .i64 l.ac,.int .i64 l.ast,.int .i64 l.am] 103)).alloc (.cells #[.int .i64 a,.int .i64 t,.int .i64 v] 103)).cell? ⟨wr.heap.size,o,none⟩=some z→w1.cell? ⟨wr.heap.size,o,none⟩=some z:=by
      intro o z hz;refine hgrow.cell hz ?_;intro h;have:=ho.lt _ h.symm;simp at this
     exact⟨hq _ _ sG,hq _ _ sG,hq _ _ sG⟩
    rw[←List.length_singleton (a:=nw),←List.length_append,←xD] at hown';obtain⟨b1,b2,b3⟩:=hbx;have hwz:=wL _ _ b1;have hws1:=hB1.size;clear hgrow ho a1 a2 a3;simp only[Nat.zero_add] at b2 b3;go_wp2_with (at_builtin;refine wpList_append_own _ rfl _ _ 30 rfl w.heap.size 103 i0 _ 3 24 Tryz.underlying30 hi hz0 hz1 hz2 rfl (by decide) _ _ _ rfl (hown'.alloc _) ⟨w1.heap.size,0,none⟩ 1 1 (balC l) rfl rfl ?c1 (zS l) ?c3 ?c4 ?c5 ?_)
    case c1=>
     intro j u hj;first
     | exact hj
     | (refine xC (b:=w1.heap.size) (o:=0) ?_ j u hj;exact⟨sG,by simp[go_sem],sG⟩)
    case c3=>unfold maxLen;first|omega|(simp;omega)
    case c4=>first|omega|(simp;omega)
    case c5=>first|omega|(simp;omega)
    intro v2 w2 hown2 hgrow2 _;have hB2:Below w.heap.size w w2:=rY (hown'.alloc _) (bA hB1 _) (by simp;omega) (Nat.le_refl _) hgrow2;clear hgrow2 hown' b1 b2 b3;go_wp2;refine⟨⟨k+1,by omega,by go_num,?_,?_,hB2⟩,mI⟩
    ·rw[HE.out]
    rw[HE.out];rw[xD,List.length_append,List.length_append];exact hown2
  have HE:Hid (uB a t v xs (k+1)=(ys++[l],dn)):=by show _=_;rw[HST.out,qF,if_neg hm,if_neg hins]
  clear HST hm;have hcase:dn=true∨(dn=false∧¬a*3+t<l.ac*3+l.ast):=by
   cases dn
   ·exact .inr ⟨rfl,fun h=>hins ⟨rfl,h⟩⟩
   exact .inl rfl
  clear hins;rcases hcase with rfl|⟨rfl,hins⟩
  all_goals
   cases e1:(l.ac==a);all_goals (try (have e2:(l.ast==t)=false:=by(simpa [e1] using hm2)))
   all_goals
    go_wp2_with (at_builtin;refine wpList_append_own _ rfl _ _ 30 rfl w.heap.size 103 i0 _ 3 24 Tryz.underlying30 hi hz0 hz1 hz2 rfl (by decide) _ _ _ rfl ((ho.alloc _).alloc _) ⟨wr.heap.size+1,0,none⟩ 1 1 (balC l) rfl rfl ?c1 (zS l) ?c3 ?c4 ?c5 ?_)
    case c1=>
     intro j u hj;first
     | exact hj
     | (refine xC (b:=wr.heap.size+1) (o:=0) ?_ j u hj;exact⟨sG,by simp[go_sem],sG⟩)
    case c3=>unfold maxLen;omega
    case c4=>omega
    case c5=>first|omega|(simp;omega)
    intro v' w1 hown' hgrow _;have hB1:Below w.heap.size w w1:=rY ((ho.alloc _).alloc _) (bA (bA hbl _) _) (by simp;omega) (Nat.le_refl _) hgrow;clear hgrow ho a1 a2 a3;go_wp2;refine⟨⟨k+1,by omega,by go_num,?_,?_,hB1⟩,mI⟩
    ·rw[HE.out]
    rw[HE.out];rw[xD,List.length_append];exact hown'
 have hkn:k=n:=oM;subst hkn;have HSB:Hid (setB a t v xs=if (uB a t v xs k).2 then (uB a t v xs k).1 else (uB a t v xs k).1++[⟨a,t,v⟩]):=by show _=_;unfold setB;rw[HN.out]
 obtain⟨st,hst⟩:∃st,st=uB a t v xs k:=⟨_,rfl⟩
 rw[←hst] at ho HSB hle ⊢;clear hst hx;obtain⟨ys,dn⟩:=st;dsimp only at ho hle HSB ⊢;have hws:=hbl.size;cases dn
 ·
  obtain⟨nw,hnw⟩:∃nw:Bal,nw=⟨a,t,v⟩:=⟨_,rfl⟩
  rw[←hnw] at HSB;have n1:nw.ac=a:=by rw[hnw]
  have n2:nw.ast=t:=by rw[hnw]
  have n3:nw.am=v:=by rw[hnw]
  clear hnw;go_wp2_with (at_builtin;refine wpList_append_own _ rfl _ _ 30 rfl w.heap.size 103 i0 _ 3 24 Tryz.underlying30 hi hz0 hz1 hz2 rfl (by decide) _ _ _ rfl (ho.alloc _) ⟨wr.heap.size,0,none⟩ 1 1 (balC nw) rfl rfl ?c1 (zS nw) ?c3 ?c4 ?c5 ?_)
  case c1=>
   intro j u hj;first
   | exact hj
   | (refine xC (b:=wr.heap.size) (o:=0) ?_ j u hj;exact⟨by simp[go_sem,n1],by simp[go_sem,n2],by simp[go_sem,n3]⟩)
  case c3=>unfold maxLen;omega
  case c4=>omega
  case c5=>first|omega|(simp;omega)
  intro v' w1 hown' hgrow _;have hB1:Below w.heap.size w w1:=rY (ho.alloc _) (bA hbl _) (by simp;omega) (Nat.le_refl _) hgrow;clear hgrow ho;go_wp2;go_ret;refine⟨_,_,rfl,⟨?_,rfl⟩,hB1⟩;rw[HSB.out];simp only[Bool.false_eq_true,if_false];rw[xD,List.length_append];exact hown'
 go_wp2;go_ret;refine⟨_,rfl,⟨_,?_,rfl⟩,hbl⟩;rw[HSB.out,if_pos trivial];exact ho
end
section
variable [dQ Bal] [iH Bal]
theorem rR {w:World} {v:Value} {xs:List Bal} (h:balsR.V w v xs):gU w v xs.length (kX xs):=by
 obtain⟨a,c,rfl,_,_,hc⟩:=h;cases a with
 | none=>
  have h0:xs=[]:=by
   cases xs with
   | nil=>rfl
   | cons x r=>obtain⟨b,o,e,_⟩:=hc 0 (by simp);cases e
  subst h0;exact .inl ⟨c,rfl,rfl,rfl⟩
 | some ad=>
  refine .inr ⟨ad,c,rfl,fun j x hj=>?_⟩;have hjl:j<xs.length*3:=by
   have:=(List.getElem?_eq_some_iff.1 hj).1;rw[qV] at this;exact this
  have hi:j / 3<xs.length:=oM;obtain⟨b,o,e,g0,g1,g2⟩:=hc (j / 3) hi;obtain⟨q0,q1,q2⟩:=fEk xs (j / 3) hi;simp only[Option.some.injEq] at e;subst e;have hadd:(Addr.mk b o none).add j=⟨b,o+j,none⟩:=by
   by_cases h:j=0
   ·subst h;simp[Addr.add]
   simp[Addr.add,h]
  rw[hadd];have hm:j % 3=0∨j % 3=1∨j % 3=2:=oM;rcases hm with hm|hm|hm
  ·have e:j=j / 3*3:=oM;have e2:o+j=o+j / 3*3:=oM;rw[e2,g0];rw[e,q0] at hj;exact hj
  ·have e:j=j / 3*3+1:=oM;have e2:o+j=o+j / 3*3+1:=oM;rw[e2,g1];rw[e,q1] at hj;exact hj
  have e:j=j / 3*3+2:=oM;have e2:o+j=o+j / 3*3+2:=oM;rw[e2,g2];rw[e,q2] at hj;exact hj
end
section
variable [dQ Bal] [iH Bal] [dQ Ledg] [iH Ledg] [dQ Leg] [iH Leg] [dQ Cont] [iH Cont]
def rQ (xs:List Bal) (l:Leg):List Bal:=setB l.ac l.ast (hasB l.ac l.ast xs+l.am) xs
def uN (xs:List Bal) (ls:List Leg) (k:Nat):List Bal:=(ls.take k).foldl rQ xs
def addB (xs:List Bal) (ls:List Leg):List Bal:=ls.foldl rQ xs
theorem fGp (xs:List Bal) (ls:List Leg) {k:Nat} (h:k<ls.length):uN xs ls (k+1)=rQ (uN xs ls k) (ls.getD k default):=by
 unfold uN;rw[rM ls k h,List.foldl_append];rfl
theorem fRt (xs:List Bal) (ls:List Leg):uN xs ls ls.length=addB xs ls:=by unfold uN addB;rw[List.take_length]
structure AddOk (xs:List Bal) (ls:List Leg):Prop where
 len:∀k,k≤ls.length→(uN xs ls k).length≤1000000
 keys:∀k,k≤ls.length→∀j,j<(uN xs ls k).length→rA ((uN xs ls k).getD j default).ac ((uN xs ls k).getD j default).ast=true
 leg:∀k,k<ls.length→rA (ls.getD k default).ac (ls.getD k default).ast=true
 sum:∀k,k<ls.length → -9223372036854775808≤hasB (ls.getD k default).ac (ls.getD k default).ast (uN xs ls k)+(ls.getD k default).am∧hasB (ls.getD k default).ac (ls.getD k default).ast (uN xs ls k)+(ls.getD k default).am≤9223372036854775807
theorem fS6 (x y:Value) (xs:List Bal) (ls:List Leg) (w:World) (hx:balsR.V w x xs) (hy:legsR.V w y ls) (hok:AddOk xs ls) :
  Calls Tryz.prog 158 #[x,y] w fun e w'=>∃u F,e =.returned u∧balsR.O w' w.heap.size F u (addB xs ls)∧Below w.heap.size w w':=by
 have hX:=hx;obtain⟨ax,cx,rfl⟩:=fP hx;obtain⟨ay,cy,rfl,hcy,hmy,hy⟩:=hy;unfold maxLen at hmy;obtain⟨i0,hi,hz0,hz1,hz2⟩:=info_parts fAx;have HOK:Hid (AddOk xs ls):=hok;have hlen:xs.length≤1000000:=hok.len 0 (Nat.zero_le _);clear hok hx;generalize hn':ls.length=n at *;have HN:Hid (ls.length=n):=hn';clear hn';have hs0:gU (w.alloc (.cells #[] 103)) (.slice ax xs.length cx) xs.length (kX xs):=rR (balsR.below hX qBq);have ho0:=World.ownsRow_lit (base:=w.heap.size) (e:=103) (size:=3) w #[] 0 (by simp) (by unfold maxLen;omega) rfl;go_enter Tryz.func158,Tryz.ntmps158;go_wp2_with (at_builtin;refine uK _ rfl _ _ 30 rfl w.heap.size 103 i0 _ 3 24 Tryz.underlying30 hi hz0 hz1 hz2 rfl (by decide) _ _ _ rfl _ xs.length (kX xs) rfl ho0 hs0 ?c1 ?c2 ?c3 ?c4 ?c5 ?_)
 case c1=>rw[qV]
 case c2=>
  intro u hu;simp only[kX,List.mem_flatMap] at hu;obtain⟨b,_,hb⟩:=hu;exact zS b u hb
 case c3=>unfold maxLen;omega
 case c4=>omega
 intro v' w1 hown' hgrow hbel;have hB1:Below w.heap.size w w1:=hbel w qBq;have ho1:∃F,balsR.O w1 w.heap.size F v' xs:=⟨_,hown',rfl⟩
 clear hown' hgrow hbel hs0 ho0 hX;go_wp2;go_loopw [5,6] (fun u i w'=>∃k:Nat,k≤n∧i =.int .i64 k∧(∃F,balsR.O w' w.heap.size F u (uN xs ls k))∧Below w.heap.size w w') (fun _ i _=>n-(intOf i).toNat)
 case atStart=>exact⟨0,oM,rfl,by simpa [uN] using ho1,hB1⟩
 obtain⟨k,hk,rfl,⟨F,ho⟩,hbl⟩:=hrel;by_cases hlt:k<n
 ·
  obtain⟨bx,ox,rfl,g1⟩:=hy k hlt;have hkl:k<ls.length:=by rw[HN.out];exact hlt
  have HST:Hid (uN xs ls (k+1)=rQ (uN xs ls k) (ls.getD k default)):=fGp xs ls hkl;have hl1:=HOK.out.len k oM;have hl2:=HOK.out.keys k oM;have hl3:=HOK.out.leg k hkl;have hl4:=HOK.out.sum k hkl;obtain⟨l,hl⟩:∃l,l=ls.getD k default:=⟨_,rfl⟩
  rw[←hl] at g1 HST hl3 hl4;clear hl hy ho1;obtain⟨ys,hys⟩:∃ys,ys=uN xs ls k:=⟨_,rfl⟩
  rw[←hys] at ho HST hl1 hl2 hl4;clear hys;have HK2:Hid (∀j,j<ys.length→rA (ys.getD j default).ac (ys.getD j default).ast=true):=hl2;clear hl2;obtain⟨z,hz⟩:∃z,z=hasB l.ac l.ast ys:=⟨_,rfl⟩
  rw[←hz] at hl4;have HE:Hid (uN xs ls (k+1)=setB l.ac l.ast (z+l.am) ys):=by show _=_;rw[HST.out,rQ,hz]
  have v1:IntKind.i64.wrap (z+l.am)=z+l.am:=qP hl4.1 hl4.2;have g2:=fQ hbl g1;obtain⟨au,cu,rfl⟩:=fP (balsR.ofO ho);have hV:=balsR.ofO ho;have i1:(k:Int)<(n:Int):=oM;obtain⟨a1,a2,a3,a4⟩:=g2;have g3:mH wr bx (ox+k*4) l:=⟨a1,a2,a3,a4⟩;go_wp2;go_region_held3 (fun w'=>Below wr.heap.size wr w'∧w'.cell? ⟨bx,ox+k*4,none⟩=some (.int .i64 l.sh)∧w'.cell? ⟨bx,ox+k*4+1,none⟩=some (.int .i64 l.ac)∧w'.cell? ⟨bx,ox+k*4+2,none⟩=some (.int .i64 l.ast)∧w'.cell? ⟨bx,ox+k*4+3,none⟩=some (.int .i64 l.am))
   ((refine fE3 ?_ g3;exact qT))
   (first|(go_at_call 186;refine(fKt _ ys l.ac l.ast _ (balsR.below hV (Below.drew (bR _ _)))).mono ?_;rw[←hz];rintro e w3 ⟨rfl,rfl⟩)|(go_at_call 185;(first|rw[←hz,v1]|rw[v1]|skip);refine(fS7 _ ys l.ac l.ast (z+l.am) _ (balsR.below hV (Below.drew (bR _ _))) hl1 hl3 HK2.out).mono ?_;rintro e w4 ⟨u4,F4,rfl,o4,hb4⟩))
  rename_i hH;have hB4:=bS hbl hH.1;have hsz:=hH.1.size;have hw0:=hbl.size;clear hH;go_wp2;refine⟨⟨k+1,by omega,by go_num,⟨F4,?_⟩,hB4⟩,mI⟩;rw[HE.out];exact balsR.base o4 (by simpa using hw0)
 have hkn:k=n:=oM;subst hkn;go_wp2;go_ret;refine⟨_,F,rfl,?_,hbl⟩;rw[←HN.out,fRt] at ho;exact ho
end
section
variable [dQ Bal] [iH Bal] [dQ Ledg] [iH Ledg]
structure LedgR where
 code:Int
 ledger:Ledg
variable [dQ LedgR] [iH LedgR]
variable [dQ Leg] [iH Leg] [dQ Cont] [iH Cont] [dQ LedgR] [iH LedgR]
def fJb (g:List (List Bal)) (ls:List Leg) (i:Nat):List Bal:=addB (g.getD i default) (onSh i ls)
def rJ (g:List (List Bal)) (ls:List Leg):List (List Bal):=(List.range g.length).map (fJb g ls)
theorem fA0 (g:List (List Bal)) (ls:List Leg):(rJ g ls).length=g.length:=by simp[rJ]
theorem fFn (g:List (List Bal)) (ls:List Leg) {i:Nat} (h:i<g.length):(rJ g ls).getD i default=fJb g ls i:=by simp[rJ,List.getD,h]
theorem fAc {F:Nat→Prop} {w w':World} (h:Mod F w w') {a:Addr} (hl:a.block<w.heap.size) (hn:¬F a.block):w'.frozen? a=w.frozen? a:=World.frozen?_of_block (h.block a.block hl hn)
structure StSt (w W:World) (n:Nat) (ag:Option Addr) (cg:Nat) (id:Int) (ac:Option Addr) (m cc:Nat) (v:Value):Prop where
 g0:W.cell? ⟨w.heap.size,0,none⟩=some (.slice ag n cg)
 y0:W.cell? ⟨w.heap.size+1,0,none⟩=some (.int .i64 id)
 y1:W.cell? ⟨w.heap.size+1,1,none⟩=some (.slice ac m cc)
 r0:W.cell? ⟨w.heap.size+1+1,0,none⟩=some (.slice none 0 0)
 o0:W.cell? ⟨w.heap.size+1+1+1,0,none⟩=some v
 rf:∀o,W.frozen? ⟨w.heap.size+1+1,o,none⟩=false
 of:∀o,W.frozen? ⟨w.heap.size+1+1+1,o,none⟩=false
 sz:w.heap.size+4≤W.heap.size
 blw:Below w.heap.size w W
theorem StSt.mod {w W W':World} {n:Nat} {ag:Option Addr} {cg:Nat} {id:Int} {ac:Option Addr} {m cc:Nat} {v:Value} {F:Nat→Prop} (h:StSt w W n ag cg id ac m cc v) (hm:Mod F W W') (hF:∀b,F b→w.heap.size+4≤b):StSt w W' n ag cg id ac m cc v:=by
 have hsz:=h.sz;have hn:∀b,b<w.heap.size+4→¬F b:=fun b hb e=>by have:=hF b e;omega
 exact⟨hm.cell h.g0 (hn _ (by dsimp only;omega)),hm.cell h.y0 (hn _ (by dsimp only;omega)),hm.cell h.y1 (hn _ (by dsimp only;omega)),hm.cell h.r0 (hn _ (by dsimp only;omega)),hm.cell h.o0 (hn _ (by dsimp only;omega)),
  fun o=>(fAc hm (a:=⟨w.heap.size+1+1,o,none⟩) (by dsimp only;omega) (hn _ (by dsimp only;omega))).trans (h.rf o),fun o=>(fAc hm (a:=⟨w.heap.size+1+1+1,o,none⟩) (by dsimp only;omega) (hn _ (by dsimp only;omega))).trans (h.of o),Nat.le_trans hsz hm.size,hm.below h.blw oM (fun b hb=>by have:=hF b hb;omega)⟩
theorem StSt.below {w W W':World} {n:Nat} {ag:Option Addr} {cg:Nat} {id:Int} {ac:Option Addr} {m cc:Nat} {v:Value} (h:StSt w W n ag cg id ac m cc v) (hb:Below W.heap.size W W'):StSt w W' n ag cg id ac m cc v:=
 h.mod (F:=fun _=>False) (Mod.of_below hb) (fun _ e=>e.elim)
theorem StSt.put {w W:World} {n:Nat} {ag:Option Addr} {cg:Nat} {id:Int} {ac:Option Addr} {m cc:Nat} {v:Value} (h:StSt w W n ag cg id ac m cc v) (v':Value):StSt w (W.setCell ⟨w.heap.size+1+1+1,0,none⟩ v') n ag cg id ac m cc v':=
 ⟨by rw[kD (by simp)];exact h.g0,by rw[kD (by simp)];exact h.y0,by rw[kD (by simp)];exact h.y1,by rw[kD (by simp)];exact h.r0,vO h.o0,fun o=>by rw[World.frozen?_setCell];exact h.rf o,fun o=>by rw[World.frozen?_setCell];exact h.of o,by simpa using h.sz,h.blw.setCell (by dsimp only;omega) _⟩
theorem StSt.all {w W:World} {n:Nat} {ag:Option Addr} {cg:Nat} {id:Int} {ac:Option Addr} {m cc:Nat} {v:Value} {b o k:Nat} {u:Value} (h:StSt w W n ag cg id ac m cc v) (hc:W.cell? ⟨b,o+k,none⟩=some u) :
  StSt w W n ag cg id ac m cc v∧W.cell? ⟨w.heap.size+1+1+1,0,none⟩=some v∧W.cell? ⟨w.heap.size,0,none⟩=some (.slice ag n cg)∧W.cell? ⟨w.heap.size+1,0,none⟩=some (.int .i64 id)∧W.cell? ⟨w.heap.size+1,1,none⟩=some (.slice ac m cc)∧W.cell? ⟨b,o+k,none⟩=some u:=
 ⟨h,h.o0,h.g0,h.y0,h.y1,hc⟩
theorem fFm (a t v:Int) (xs:List Bal):∀k,k≤xs.length→∀x ∈ (uB a t v xs k).1,x ∈ xs∨x=⟨a,t,v⟩
 | 0,_,x,h=>by simp[uB] at h
 | k+1,hk,x,h=>by
  have ih:=fFm a t v xs k oM;have hm:xs.getD k default ∈ xs:=by
   have e:xs.getD k default=xs[k]:=by simp[List.getD,show k<xs.length by omega]
   rw[e];exact List.getElem_mem _
  rw[fCx a t v xs oM] at h;unfold qF at h;split at h
  ·exact ih x h
  split at h
  ·
   simp only[List.append_assoc,List.mem_append,List.mem_singleton] at h;rcases h with h|h|h
   ·exact ih x h
   ·exact .inr h
   rw[h];exact .inl hm
  simp only[List.mem_append,List.mem_singleton] at h;rcases h with h|h
  ·exact ih x h
  rw[h];exact .inl hm
theorem fO7 {a t v:Int} {xs:List Bal} {x:Bal} (h:x ∈ setB a t v xs):x ∈ xs∨x=⟨a,t,v⟩:=by
 unfold setB at h;split at h
 ·exact fFm a t v xs _ (Nat.le_refl _) x h
 simp only[List.mem_append,List.mem_singleton] at h;rcases h with h|h
 ·exact fFm a t v xs _ (Nat.le_refl _) x h
 exact .inr h
theorem fTs (a t v:Int) (xs:List Bal):(setB a t v xs).length≤2*xs.length+1:=by
 have:=fJa a t v xs xs.length (Nat.le_refl _);unfold setB;split
 ·omega
 rw[List.length_append];simp only[List.length_cons,List.length_nil];omega
theorem fCk {M:Int} (hM:0≤M) {a t:Int}:∀{xs:List Bal},(∀x ∈ xs,-M≤x.am∧x.am≤M) → -M≤hasB a t xs∧hasB a t xs≤M
 | [],_=>by simp only[hasB];omega
 | x::xs,h=>by
  have ih:=fCk hM (a:=a) (t:=t) (xs:=xs) (fun y hy=>h y (List.mem_cons_of_mem _ hy));simp only[hasB];split
  ·exact h x (List.mem_cons_self ..)
  exact ih
structure AddSt (k:Nat) (xs:List Bal):Prop where
 len:xs.length+1≤19*2 ^ k
 key:∀x ∈ xs,rA x.ac x.ast=true
 am:∀x ∈ xs,-((k+1:Nat)*1000000000000:Int)≤x.am∧x.am≤((k+1:Nat)*1000000000000:Int)
theorem fNx {xs:List Bal} {ls:List Leg} (hx:BalsOk xs) (hl:∀k,k<ls.length→gI (ls.getD k default)=0):∀k,k≤ls.length→AddSt k (uN xs ls k)
 | 0,_=>by
  have e:uN xs ls 0=xs:=by simp[uN]
  have hm:∀x ∈ xs,uO x=true:=fun x h=>by
   obtain⟨i,hi,rfl⟩:=List.mem_iff_getElem.1 h;have:=hx.ok i hi;simpa [List.getD,hi] using this
  rw[e];refine⟨by have:=hx.len;omega,fun x h=>yV (hm x h),fun x h=>?_⟩;have:=(balOk_iff.1 (hm x h)).2;omega
 | k+1,hk=>by
  have ih:=fNx hx hl k oM;have hz:=gZ (hl k oM);rw[fGp xs ls oM];generalize uN xs ls k=ys at *;generalize ls.getD k default=l at *;unfold rQ;have hb:=fCk (M:=((k+1:Nat)*1000000000000:Int)) oM (a:=l.ac) (t:=l.ast) ih.am;refine⟨?_,fun x h=>?_,fun x h=>?_⟩
  ·have h1:=fTs l.ac l.ast (hasB l.ac l.ast ys+l.am) ys;have h2:=ih.len;rw[Nat.pow_succ];omega
  ·
   rcases fO7 h with h|rfl
   ·exact ih.key x h
   exact keyOk_iff.2 ⟨hz.2.1,hz.2.2.1⟩
  rcases fO7 h with h|rfl
  ·have:=ih.am x h;omega
  dsimp only;have:=hz.2.2.2.1;omega
theorem fUp {xs:List Bal} {ls:List Leg} (hx:BalsOk xs) (hl:∀x ∈ ls,gI x=0) (h8:ls.length≤8):AddOk xs ls:=by
 have hl':∀k,k<ls.length→gI (ls.getD k default)=0:=fun k hk=>by
  have e:ls.getD k default=ls[k]:=by simp[List.getD,hk]
  rw[e];exact hl _ (List.getElem_mem hk)
 have hs:=fNx hx hl';refine⟨fun k hk=>?_,fun k hk j hj=>?_,fun k hk=>?_,fun k hk=>?_⟩
 ·have h1:=(hs k hk).len;have h2:2 ^ k≤2 ^ 8:=Nat.pow_le_pow_right oM oM;omega
 ·
  have e:(uN xs ls k).getD j default=(uN xs ls k)[j]:=by simp[List.getD,hj]
  rw[e];exact(hs k hk).key _ (List.getElem_mem hj)
 ·have hz:=gZ (hl' k hk);exact keyOk_iff.2 ⟨hz.2.1,hz.2.2.1⟩
 have hz:=gZ (hl' k hk);have hb:=fCk (M:=((k+1:Nat)*1000000000000:Int)) oM (a:=(ls.getD k default).ac) (t:=(ls.getD k default).ast) (hs k oM).am;omega
end
section
variable [dQ Bal] [iH Bal] [dQ Ledg] [iH Ledg] [dQ Leg] [iH Leg] [dQ Cont] [iH Cont] [dQ LedgR] [iH LedgR]
def plB (x:Bal):Int:=x.ac*3+x.ast
structure RiseB (xs:List Bal):Prop where
 rise:xs.Pairwise (fun p q=>plB p<plB q)
 key:∀x ∈ xs,rA x.ac x.ast=true
theorem fTj {x y:Bal} (hx:rA x.ac x.ast=true) (hy:rA y.ac y.ast=true) (h:plB x=plB y):x.ac=y.ac∧x.ast=y.ast:=by
 have h1:=keyOk_iff.1 hx;have h2:=keyOk_iff.1 hy;unfold plB at h;omega
theorem RiseB.tail {x:Bal} {xs:List Bal} (h:RiseB (x::xs)):RiseB xs:=⟨(List.pairwise_cons.1 h.rise).2,fun y hy=>h.key y (List.mem_cons_of_mem _ hy)⟩
theorem zW {a t:Int}:∀{xs:List Bal} {v:Int},getB a t xs=some v→∃x ∈ xs,x.ac=a∧x.ast=t∧x.am=v
 | [],_,h=>by simp[getB] at h
 | x::xs,v,h=>by
  simp only[getB] at h;split at h
  ·rename_i hc;exact⟨x,List.mem_cons_self ..,hc.1,hc.2,by simpa using h⟩
  obtain⟨y,hy,e⟩:=zW h;exact⟨y,List.mem_cons_of_mem _ hy,e⟩
theorem fOg {a t:Int} {xs:List Bal} (h:∀x ∈ xs,¬(x.ac=a∧x.ast=t)):getB a t xs=none:=by
 cases hg:getB a t xs with
 | none=>rfl
 | some v=>
  obtain⟨x,hx,e1,e2,_⟩:=zW hg;exact absurd ⟨e1,e2⟩ (h x hx)
theorem pK (x:Bal) (xs:List Bal):getB x.ac x.ast (x::xs)=some x.am:=by
 simp only[getB];rw[if_pos ⟨trivial,trivial⟩]
theorem pX {x:Bal} {xs:List Bal} {a t:Int} (h:¬(x.ac=a∧x.ast=t)):getB a t (x::xs)=getB a t xs:=by
 simp only[getB];rw[if_neg h]
theorem fAk {x:Bal} {xs:List Bal} (h:RiseB (x::xs)):getB x.ac x.ast xs=none:=fOg (fun y hy e=>by
 have:=(List.pairwise_cons.1 h.rise).1 y hy;unfold plB at this;omega)
theorem fO2:∀{xs ys:List Bal},RiseB xs→RiseB ys→(∀a t,getB a t xs=getB a t ys)→xs=ys
 | [],[],_,_,_=>rfl
 | [],y::ys,_,_,h=>by
  have:=h y.ac y.ast;rw[pK] at this;simp[getB] at this
 | x::xs,[],_,_,h=>by
  have:=h x.ac x.ast;rw[pK] at this;simp[getB] at this
 | x::xs,y::ys,hx,hy,h=>by
  have hxk:=hx.key x (List.mem_cons_self ..);have hyk:=hy.key y (List.mem_cons_self ..);have hpl:plB x=plB y:=by
   rcases Int.lt_trichotomy (plB x) (plB y) with hl|hl|hl
   ·
    have h1:=h x.ac x.ast;rw[pK] at h1;obtain⟨z,hz,e1,e2,_⟩:=zW h1.symm;have hzp:plB z=plB x:=by unfold plB;rw[e1,e2]
    rcases List.mem_cons.1 hz with rfl|hz
    ·omega
    have:=(List.pairwise_cons.1 hy.rise).1 z hz;omega
   ·exact hl
   have h1:=h y.ac y.ast;rw[pK] at h1;obtain⟨z,hz,e1,e2,_⟩:=zW h1;have hzp:plB z=plB y:=by unfold plB;rw[e1,e2]
   rcases List.mem_cons.1 hz with rfl|hz
   ·omega
   have:=(List.pairwise_cons.1 hx.rise).1 z hz;omega
  obtain⟨e1,e2⟩:=fTj hxk hyk hpl;have hxy:x=y:=by
   have h1:=h x.ac x.ast;rw[pK,e1,e2,pK] at h1;obtain⟨a,t,v⟩:=x;obtain⟨a',t',v'⟩:=y;simp only at e1 e2;simp only[Option.some.injEq] at h1;rw[e1,e2,h1]
  subst hxy;congr 1;refine fO2 hx.tail hy.tail (fun a t=>?_);by_cases hc:x.ac=a∧x.ast=t
  ·rw[←hc.1,←hc.2,fAk hx,fAk hy]
  have:=h a t;rw[pX hc,pX hc] at this;exact this
def setR (a t v:Int):List Bal→Bool→List Bal
 | [],d=>if d then [] else [⟨a,t,v⟩]
 | b::r,d=>if b.ac=a∧b.ast=t then setR a t v r d else if d=false∧a*3+t<b.ac*3+b.ast then ⟨a,t,v⟩::b::setR a t v r true else b::setR a t v r d
theorem fDz (a t v:Int):∀(xs acc:List Bal) (d:Bool),(if (xs.foldl (qF a t v) (acc,d)).2 then (xs.foldl (qF a t v) (acc,d)).1 else (xs.foldl (qF a t v) (acc,d)).1++[⟨a,t,v⟩])=acc++setR a t v xs d
 | [],acc,d=>by
  cases d <;> simp[setR]
 | b::r,acc,d=>by
  rw[List.foldl_cons];unfold setR;by_cases h1:b.ac=a∧b.ast=t
  ·
   have e:qF a t v (acc,d) b=(acc,d):=by unfold qF;rw[if_pos h1]
   rw[e,fDz a t v r acc d,if_pos h1]
  by_cases h2:d=false∧a*3+t<b.ac*3+b.ast
  ·
   have e:qF a t v (acc,d) b=(acc++[⟨a,t,v⟩]++[b],true):=by unfold qF;rw[if_neg h1,if_pos h2]
   rw[e,fDz a t v r _ true,if_neg h1,if_pos h2];simp
  have e:qF a t v (acc,d) b=(acc++[b],d):=by unfold qF;rw[if_neg h1,if_neg h2]
  rw[e,fDz a t v r _ d,if_neg h1,if_neg h2];simp
theorem fX0 (a t v:Int) (xs:List Bal):setB a t v xs=setR a t v xs (decide (v=0)):=by
 have h:=fDz a t v xs [] (decide (v=0));rw[List.nil_append] at h;unfold setB uB;rw[List.take_length];exact h
theorem fDy {a t v:Int}:∀{xs:List Bal} {d:Bool} {x:Bal},x ∈ setR a t v xs d→x ∈ xs∨x=⟨a,t,v⟩
 | [],d,x,h=>by
  unfold setR at h;split at h
  ·cases h
  exact .inr (List.mem_singleton.1 h)
 | b::r,d,x,h=>by
  unfold setR at h;split at h
  ·
   rcases fDy h with h|h
   ·exact .inl (List.mem_cons_of_mem _ h)
   exact .inr h
  split at h
  ·
   rcases List.mem_cons.1 h with h|h
   ·exact .inr h
   rcases List.mem_cons.1 h with h|h
   ·exact .inl (by rw[h];exact List.mem_cons_self ..)
   rcases fDy h with h|h
   ·exact .inl (List.mem_cons_of_mem _ h)
   exact .inr h
  rcases List.mem_cons.1 h with h|h
  ·exact .inl (by rw[h];exact List.mem_cons_self ..)
  rcases fDy h with h|h
  ·exact .inl (List.mem_cons_of_mem _ h)
  exact .inr h
theorem fBz {a t v:Int}:∀(xs:List Bal),setR a t v xs true=xs.filter (fun b=>!decide (b.ac=a∧b.ast=t))
 | []=>rfl
 | b::r=>by
  unfold setR;by_cases h1:b.ac=a∧b.ast=t
  ·rw[if_pos h1,fBz r,List.filter_cons_of_neg (by simp[h1])]
  rw[if_neg h1,if_neg (by simp),fBz r,List.filter_cons_of_pos (by rw[decide_eq_false h1];rfl)]
theorem fAv {a t a' t':Int}:∀(xs:List Bal),getB a' t' (xs.filter (fun b=>!decide (b.ac=a∧b.ast=t)))=if a'=a∧t'=t then none else getB a' t' xs
 | []=>by simp[getB]
 | b::r=>by
  by_cases h1:b.ac=a∧b.ast=t
  ·
   rw[List.filter_cons_of_neg (by simp[h1]),fAv r];split
   ·rfl
   rename_i h2;rw[pX (fun h3=>h2 ⟨h3.1.symm.trans h1.1,h3.2.symm.trans h1.2⟩)]
  rw[List.filter_cons_of_pos (by rw[decide_eq_false h1];rfl)];by_cases h3:b.ac=a'∧b.ast=t'
  ·rw[←h3.1,←h3.2,pK,pK,if_neg h1]
  rw[pX h3,pX h3,fAv r]
theorem fNa {xs:List Bal} (h:RiseB xs) (p:Bal→Bool):RiseB (xs.filter p):=⟨List.Pairwise.sublist List.filter_sublist h.rise,fun x hx=>h.key x (List.mem_filter.1 hx).1⟩
theorem fHu {a t v:Int} (hk:rA a t=true):∀{xs:List Bal},RiseB xs→RiseB (setR a t v xs false)∧∀a' t',getB a' t' (setR a t v xs false)=if a'=a∧t'=t then some v else getB a' t' xs
 | [],_=>by
  unfold setR;rw[if_neg (by simp)];refine⟨⟨by simp,fun x hx=>by rw[List.mem_singleton.1 hx];exact hk⟩,fun a' t'=>?_⟩;by_cases e:a'=a∧t'=t
  ·rw[if_pos e,e.1,e.2];exact pK ⟨a,t,v⟩ []
  rw[if_neg e,pX (fun h=>e ⟨h.1.symm,h.2.symm⟩)]
 | b::r,h=>by
  have hb:=h.key b (List.mem_cons_self ..);have ih:=fHu (v:=v) hk (xs:=r) h.tail;have hp:=(List.pairwise_cons.1 h.rise).1;unfold setR;by_cases h1:b.ac=a∧b.ast=t
  ·
   rw[if_pos h1];refine⟨ih.1,fun a' t'=>?_⟩;rw[ih.2];split
   ·rfl
   rename_i h2;rw[pX (fun h3=>h2 ⟨h3.1.symm.trans h1.1,h3.2.symm.trans h1.2⟩)]
  rw[if_neg h1];by_cases h2:a*3+t<b.ac*3+b.ast
  ·
   rw[if_pos ⟨rfl,h2⟩,fBz r];have hnone:∀y ∈ r,¬(y.ac=a∧y.ast=t):=fun y hy e=>by
    have:=hp y hy;unfold plB at this;rw[e.1,e.2] at this;omega
   have hf:r.filter (fun b=>!decide (b.ac=a∧b.ast=t))=r:=List.filter_eq_self.2 (fun y hy=>by rw[decide_eq_false (hnone y hy)];rfl);rw[hf];refine⟨⟨?_,fun x hx=>?_⟩,fun a' t'=>?_⟩
   ·
    rw[List.pairwise_cons];refine⟨fun y hy=>?_,h.rise⟩;show a*3+t<plB y;rcases List.mem_cons.1 hy with rfl|hy
    ·exact h2
    have:=hp y hy;unfold plB at this ⊢;omega
   ·
    rcases List.mem_cons.1 hx with rfl|hx
    ·exact hk
    exact h.key x hx
   by_cases e:a'=a∧t'=t
   ·rw[if_pos e,e.1,e.2];exact pK ⟨a,t,v⟩ _
   rw[if_neg e,pX (fun h=>e ⟨h.1.symm,h.2.symm⟩)]
  rw[if_neg (fun h3=>h2 h3.2)];have hlt:plB b<a*3+t:=by
   have hne:plB b≠a*3+t:=fun e=>h1 (fTj (y:=⟨a,t,v⟩) hb hk e)
   unfold plB at hne ⊢;omega
  refine⟨⟨?_,fun x hx=>?_⟩,fun a' t'=>?_⟩
  ·
   rw[List.pairwise_cons];refine⟨fun y hy=>?_,ih.1.rise⟩;rcases fDy hy with hy|rfl
   ·exact hp y hy
   exact hlt
  ·
   rcases List.mem_cons.1 hx with rfl|hx
   ·exact hb
   exact ih.1.key x hx
  by_cases e3:b.ac=a'∧b.ast=t'
  ·rw[←e3.1,←e3.2,pK,pK,if_neg h1]
  rw[pX e3,pX e3,ih.2]
theorem fTr {a t v:Int} (hk:rA a t=true) {xs:List Bal} (h:RiseB xs):RiseB (setB a t v xs)∧∀a' t',getB a' t' (setB a t v xs)=if a'=a∧t'=t then (if v=0 then none else some v) else getB a' t' xs:=by
 rw[fX0];by_cases hv:v=0
 ·rw[decide_eq_true hv,fBz,if_pos hv];exact⟨fNa h _,fun a' t'=>fAv xs⟩
 rw[decide_eq_false hv,if_neg hv];exact fHu hk h
end
end Go.Proofs.YtpibfdebfacooaaGreat

import Derived.Test.YtpibfdebfacooaaGreatPrnCrashJournalLaw10
import Derived.Maps.RangeWalk
import Derived.Sort.MapsRangeIn
set_option maxHeartbeats 4000000
set_option maxRecDepth 100000
set_option linter.unusedSectionVars false
set_option linter.unusedVariables false
set_option linter.unusedSimpArgs false
namespace Go.Proofs.YtpibfdebfacooaaGreat
open Go.RowKit
attribute [local go_sem ↓] Go.wp_at_zero Go.wp_at_succ
section
variable [dQ Bal] [iH Bal] [dQ Ledg] [iH Ledg] [dQ Leg] [iH Leg]
theorem fBk (a s:Int) (w:World):Calls Tryz.prog 164 #[.int .i64 a,.int .i64 s] w fun e w'=>e =.returned (.bool (rA a s))∧w'=w:=by
 unfold rA;cases h1:inB a 0 5;all_goals
  go_enter Tryz.func164,Tryz.ntmps164;go_wp2_with (go_at_call 88;refine(kV _ _ _ _).mono ?_;rintro e w' ⟨rfl,rfl⟩);go_ret;exact⟨by simp,rfl⟩
theorem yD (x:Bal) (w:World):RI 138 #[.agg #[.int .i64 x.ac,.int .i64 x.ast,.int .i64 x.am]] w (.bool (uO x)):=by
 unfold uO rA;cases h1:inB x.ac 0 5
 ·go_enter Tryz.func138,Tryz.ntmps138;go_wp2_with (go_at_call 165;refine(yC _ _).mono ?_;rintro e w' ⟨rfl,rfl⟩);go_ret;exact⟨by simp,bA (bR _ _) _⟩
 cases h2:inB x.ast 0 2;all_goals
  go_enter Tryz.func138,Tryz.ntmps138;go_wp2_with (first|(go_at_call 165;refine(yC _ _).mono ?_;rintro e w' ⟨rfl,rfl⟩)|(go_at_call 166;refine(fEy _ _).mono ?_;rintro e w' ⟨rfl,rfl⟩)|(go_at_call 106;refine(qL _ _ _ _).mono ?_;rintro e w' ⟨rfl,rfl⟩));go_ret;exact⟨by simp,bA (bR _ _) _⟩
theorem fDp (x y:Bal) (w:World):RI 139 #[.agg #[.int .i64 x.ac,.int .i64 x.ast,.int .i64 x.am],.agg #[.int .i64 y.ac,.int .i64 y.ast,.int .i64 y.am]] w (.bool (behind x y)):=by
 unfold behind;go_enter Tryz.func139,Tryz.ntmps139;go_wp2;all_goals
  go_ret;exact⟨by simp_all,bA (bA (bR _ _) _) _⟩
theorem fA7 {xs:List Bal} {k:Nat} (h:uO (xs.getD k default)=false):yR xs k=3:=by unfold yR;rw[h];rfl
theorem fD3 {xs:List Bal} (h:uO (xs.getD 0 default)=true):yR xs 0=0:=by simp only[yR,h];simp
theorem zR {xs:List Bal} {k:Nat} (h:uO (xs.getD (k+1) default)=true):yR xs (k+1)=if behind (xs.getD (k+1) default) (xs.getD k default)=false then 1 else 0:=by
 simp only[yR,h,if_true,Nat.add_sub_cancel];simp
theorem tO {xs:List Bal} {k:Nat} {c:Int} (h18:xs.length≤18) (hk:k<xs.length) (h:fJ (yR xs) k=0) (hc:yR xs k=c) (h0:c≠0):gY xs=c:=by
 rw[gY,if_neg oM,mW h (by rw[hc];exact h0) _ hk,hc]
theorem fUq {xs:List Bal} {k:Nat} (h:yR xs k=0):uO (xs.getD k default)=true:=by
 cases e:uO (xs.getD k default) with
 | true=>rfl
 | false=>rw[fA7 e] at h;omega
theorem yQ (x:Value) (xs:List Bal) (w:World) (hx:balsR.V w x xs) :
  RI 137 #[x] w (.int .i64 (gY xs)):=by
 obtain⟨ax,cx,rfl,hcx,hmx,hx⟩:=hx;unfold maxLen at hmx;by_cases h18:18<xs.length
 ·
  have e:gY xs=2:=by simp[gY,h18]
  rw[e];go_enter Tryz.func137,Tryz.ntmps137;go_wp2;go_ret;exact⟨rfl,bR _ _⟩
 generalize hn':xs.length=n at *;have HN:Hid (xs.length=n):=hn';clear hn';go_enter Tryz.func137,Tryz.ntmps137;go_wp2;go_loopw [3] (fun i w'=>∃k:Nat,k≤n∧i =.int .i64 k∧fJ (yR xs) k=0∧Below w.heap.size w w') (fun i _=>n-(intOf i).toNat)
 case atStart=>exact⟨0,oM,rfl,rfl,bR _ _⟩
 obtain⟨k,hk,rfl,hs,hbl⟩:=hrel;have HS:Hid (fJ (yR xs) k=0):=hs;clear hs;by_cases hlt:k<n
 ·
  obtain⟨bx,ox,rfl,g1⟩:=hx k hlt;obtain⟨l,hl⟩:∃l,l=xs.getD k default:=⟨_,rfl⟩
  rw[←hl] at g1;have HL:Hid (l=xs.getD k default):=hl;clear hl;obtain⟨a1,a2,a3⟩:=kI hbl g1;cases h1:rA l.ac l.ast
  ·clear hx;go_wp2_with (first|(go_at_call 164;refine(fBk _ _ _).mono ?_;rintro e w' ⟨rfl,rfl⟩)|(go_at_call 88;refine(kV _ _ _ _).mono ?_;rintro e w' ⟨rfl,rfl⟩));go_ret;refine⟨?_,bA hbl _⟩;rw[tO (k:=k) (c:=3) (by rw[HN.out];omega) (by rw[HN.out];exact hlt) HS.out (fA7 (by rw[←HL.out];simp[uO,h1])) oM];rfl
  cases h2:inB l.am 1 1000000000000
  ·clear hx;go_wp2_with (first|(go_at_call 164;refine(fBk _ _ _).mono ?_;rintro e w' ⟨rfl,rfl⟩)|(go_at_call 88;refine(kV _ _ _ _).mono ?_;rintro e w' ⟨rfl,rfl⟩));go_ret;refine⟨?_,bA hbl _⟩;rw[tO (k:=k) (c:=3) (by rw[HN.out];omega) (by rw[HN.out];exact hlt) HS.out (fA7 (by rw[←HL.out];simp[uO,h2])) oM];rfl
  have hok:uO (xs.getD k default)=true:=by rw[←HL.out];simp[uO,h1,h2]
  cases k with
  | zero=>
   clear hx;simp only[Nat.zero_mul,Nat.add_zero] at a1 a2 a3;go_wp2_with (first|(go_at_call 164;refine(fBk _ _ _).mono ?_;rintro e w' ⟨rfl,rfl⟩)|(go_at_call 88;refine(kV _ _ _ _).mono ?_;rintro e w' ⟨rfl,rfl⟩));go_quiet (fail);go_wp2;exact⟨⟨1,by omega,by go_num,gP HS.out (fD3 hok),qN (bA hbl _) _⟩,mI⟩
  | succ m=>
   obtain⟨b',o',he,g2⟩:=hx m oM;simp only[Option.some.injEq,Addr.mk.injEq,and_true] at he;obtain⟨rfl,rfl⟩:=he;have hok':uO (xs.getD m default)=true:=fUq (uM HS.out m oM);obtain⟨o,ho⟩:∃o,o=xs.getD m default:=⟨_,rfl⟩
   rw[←ho] at g2 hok';have HO:Hid (o=xs.getD m default):=ho;clear ho hx;obtain⟨d1,d2,d3⟩:=kI hbl g2;obtain⟨⟨⟨p1,p2⟩,p3,p4⟩,p5,p6⟩:=balOk_iff.1 hok';obtain⟨⟨q1,q2⟩,q3,q4⟩:=keyOk_iff.1 h1;have i1:(m:Int)<(n:Int):=oM;have z5:bx<wr.heap.size:=wL wr _ d1;have i2:m<n:=oM;have v1:IntKind.i64.wrap (m:Int)=m:=qP oM oM;have v2:IntKind.i64.wrap (l.ac*3)=l.ac*3:=qP oM oM;have v3:IntKind.i64.wrap (l.ac*3+l.ast)=l.ac*3+l.ast:=qP oM oM;have v4:IntKind.i64.wrap (o.ac*3)=o.ac*3:=qP oM oM;have v5:IntKind.i64.wrap (o.ac*3+o.ast)=o.ac*3+o.ast:=qP oM oM;have hbi:=fGu (b:=l) (a:=o) h1 (yV hok');have HBI:Hid (behind l o=false↔l.ac*3+l.ast≤o.ac*3+o.ast):=hbi;clear hbi;go_wp2_with (first|(go_at_call 164;refine(fBk _ _ _).mono ?_;rintro e w' ⟨rfl,rfl⟩)|(go_at_call 88;refine(kV _ _ _ _).mono ?_;rintro e w' ⟨rfl,rfl⟩));go_quiet (fail);go_wp2
   ·
    rename_i hle;go_ret;refine⟨?_,qN (bA hbl _) _⟩;have hb0:yR xs (m+1)=1:=by rw[zR hok,←HL.out,←HO.out,if_pos (HBI.out.2 hle)]
    rw[tO (k:=m+1) (c:=1) (by rw[HN.out];omega) (by rw[HN.out];exact hlt) HS.out hb0 oM];rfl
   rename_i hle;refine⟨⟨m+1+1,by omega,by go_num,gP HS.out ?_,qN (bA hbl _) _⟩,mI⟩;rw[zR hok,←HL.out,←HO.out,if_neg (fun e=>by have:=HBI.out.1 e;omega)]
 go_wp2;go_ret;have hkn:k=n:=oM;subst hkn;refine⟨?_,hbl⟩;rw[gY,if_neg (by rw[HN.out];omega),HN.out,HS.out];rfl
theorem yP (x:Value) (xs:List Bal) (w:World) (hx:balsR.V w x xs) :
  RI 112 #[x] w (.int .i64 (gY xs)):=by
 obtain⟨ax,cx,rfl,hcx,hmx,hx⟩:=hx;unfold maxLen at hmx;by_cases h18:18<xs.length
 ·
  have e:gY xs=2:=by simp[gY,h18]
  rw[e];go_enter Tryz.func112,Tryz.ntmps112;go_wp2;go_ret;exact⟨rfl,bR _ _⟩
 generalize hn':xs.length=n at *;have HN:Hid (xs.length=n):=hn';clear hn';go_enter Tryz.func112,Tryz.ntmps112;go_wp2;go_loopw [10] (fun i w'=>∃k:Nat,k≤n∧i =.int .i64 k∧fJ (yR xs) k=0∧Below w.heap.size w w') (fun i _=>n-(intOf i).toNat)
 case atStart=>exact⟨0,oM,rfl,rfl,bR _ _⟩
 obtain⟨k,hk,rfl,hs,hbl⟩:=hrel;have HS:Hid (fJ (yR xs) k=0):=hs;clear hs;by_cases hlt:k<n
 ·
  obtain⟨bx,ox,rfl,g1⟩:=hx k hlt;obtain⟨l,hl⟩:∃l,l=xs.getD k default:=⟨_,rfl⟩
  rw[←hl] at g1;have HL:Hid (l=xs.getD k default):=hl;clear hl;obtain⟨a1,a2,a3⟩:=kI hbl g1;cases hok:uO l
  ·clear hx;go_wp2_with (go_at_call 138;refine(yD l _).mono ?_;rintro e w' ⟨rfl,hb⟩);go_ret;refine⟨?_,bS (bA hbl _) hb⟩;rw[tO (k:=k) (c:=3) (by rw[HN.out];omega) (by rw[HN.out];exact hlt) HS.out (fA7 (by rw[←HL.out];exact hok)) oM];rfl
  have hok2:uO (xs.getD k default)=true:=by rw[←HL.out];exact hok
  cases k with
  | zero=>
   clear hx;simp only[Nat.zero_mul,Nat.add_zero] at a1 a2 a3;go_wp2_with (go_at_call 138;refine(yD l _).mono ?_;rintro e w' ⟨rfl,hb⟩);go_quiet (fail);go_wp2;exact⟨⟨1,by omega,by go_num,gP HS.out (fD3 hok2),qN (bS (bA hbl _) hb) _⟩,mI⟩
  | succ m=>
   obtain⟨b',o',he,g2⟩:=hx m oM;simp only[Option.some.injEq,Addr.mk.injEq,and_true] at he;obtain⟨rfl,rfl⟩:=he;obtain⟨o,ho⟩:∃o,o=xs.getD m default:=⟨_,rfl⟩
   rw[←ho] at g2;have HO:Hid (o=xs.getD m default):=ho;clear ho hx;obtain⟨d1,d2,d3⟩:=kI hbl g2;have i1:(m:Int)<(n:Int):=oM;have v1:IntKind.i64.wrap (m:Int)=m:=qP oM oM;go_wp2_with (go_at_call 138;refine(yD l _).mono ?_;rintro e w' ⟨rfl,hb⟩);have hB:=bS (bA hbl _) hb;have g3:=kI hB g2;have g4:uD w' wr.heap.size 0 l:=⟨cK hb sG,cK hb sG,cK hb sG⟩;clear hb d1 d2 d3 a1 a2 a3 g1 g2;have z5:bx<w'.heap.size:=wL w' _ g3.1;have z6:wr.heap.size<w'.heap.size:=wL w' _ g4.1;go_region_held3 (fun w''=>Below w'.heap.size w' w''∧(w''.cell? ⟨wr.heap.size,0,none⟩=some (.int .i64 l.ac)∧w''.cell? ⟨wr.heap.size,1,none⟩=some (.int .i64 l.ast)∧w''.cell? ⟨wr.heap.size,2,none⟩=some (.int .i64 l.am))∧(w''.cell? ⟨bx,ox+m*3,none⟩=some (.int .i64 o.ac)∧w''.cell? ⟨bx,ox+m*3+1,none⟩=some (.int .i64 o.ast)∧w''.cell? ⟨bx,ox+m*3+2,none⟩=some (.int .i64 o.am)))
    ((refine fNy ?_ g4 g3;repeat (first|exact bR _ _|assumption|refine bD ?_|refine bA ?_ _|refine bS ?_ (by assumption))))
    (first|(go_at_call 139;refine(fDp l o _).mono ?_;rintro e w3 ⟨rfl,hb3⟩))
   rename_i hH;have hB3:=bS hB hH.1;clear hH;cases hbe:behind l o
   ·
    go_wp2;go_ret;refine⟨?_,hB3⟩;have hb0:yR xs (m+1)=1:=by rw[zR hok2,←HL.out,←HO.out,if_pos hbe]
    rw[tO (k:=m+1) (c:=1) (by rw[HN.out];omega) (by rw[HN.out];exact hlt) HS.out hb0 oM];rfl
   go_wp2;refine⟨⟨m+1+1,by omega,by go_num,gP HS.out ?_,hB3⟩,mI⟩;rw[zR hok2,←HL.out,←HO.out,if_neg (by rw[hbe];simp)]
 go_wp2;go_ret;have hkn:k=n:=oM;subst hkn;refine⟨?_,hbl⟩;rw[gY,if_neg (by rw[HN.out];omega),HN.out,HS.out];rfl
theorem fKt (x:Value) (xs:List Bal) (a s:Int) (w:World) (hx:balsR.V w x xs) :
  Calls Tryz.prog 186 #[x,.int .i64 a,.int .i64 s] w fun e w'=>e =.returned (.int .i64 (hasB a s xs))∧w'=w:=by
 obtain⟨ax,cx,rfl,hcx,hmx,hx⟩:=hx;unfold maxLen at hmx;generalize hn':xs.length=n at *;have HN:Hid (xs.length=n):=hn';clear hn';go_enter Tryz.func186,Tryz.ntmps186;go_wp2;go_loopw [7] (fun i w'=>∃k:Nat,k≤n∧i =.int .i64 k∧hasB a s (xs.drop k)=hasB a s xs∧w'=w) (fun i _=>n-(intOf i).toNat)
 case atStart=>exact⟨0,oM,rfl,rfl,rfl⟩
 obtain⟨k,hk,rfl,hs,rfl⟩:=hrel;have HS:Hid (hasB a s (xs.drop k)=hasB a s xs):=hs;clear hs;by_cases hlt:k<n
 ·
  obtain⟨bx,ox,rfl,g1⟩:=hx k hlt;have HD:Hid (hasB a s (xs.drop k)=if (xs.getD k default).ac=a∧(xs.getD k default).ast=s then (xs.getD k default).am else hasB a s (xs.drop (k+1))):=fSo (by rw[HN.out];exact hlt);obtain⟨l,hl⟩:∃l,l=xs.getD k default:=⟨_,rfl⟩
  rw[←hl] at g1 HD;clear hl hx;obtain⟨a1,a2,a3⟩:=g1;go_wp2
  ·rename_i e1 e2;go_ret;refine⟨?_,rfl⟩;rw[←HS.out,HD.out,if_pos ⟨e1,by simpa using e2⟩];rfl
  ·rename_i e1 e2;refine⟨⟨k+1,by omega,by go_num,?_,trivial⟩,mI⟩;rw[←HS.out,HD.out,if_neg (fun h=>by simp_all)]
  rename_i e1;refine⟨⟨k+1,by omega,by go_num,?_,trivial⟩,mI⟩;rw[←HS.out,HD.out,if_neg (fun h=>by simp_all)]
 go_wp2;go_ret;refine⟨?_,rfl⟩;rw[←HS.out,List.drop_eq_nil_of_le (by rw[HN.out];omega)];rfl
variable [dQ Cont] [iH Cont]
def canV (v:Int):Int:=if v<0 then 6 else if 1000000000000<v then 3 else 0
def canB (xs:List Bal) (l:Leg):Int:=canV (hasB l.ac l.ast xs+l.am)
def canL (f:Int→Int→Int→Option Int) (l:Leg):Int:=canV ((f l.sh l.ac l.ast).getD 0+l.am)
def fPa (xs:List Bal):Prop:=∀a t,0≤hasB a t xs∧hasB a t xs≤1000000000000
theorem fL8 {a t:Int}:∀{xs:List Bal},(∀k,k<xs.length→uO (xs.getD k default)=true)→0≤hasB a t xs∧hasB a t xs≤1000000000000
 | [],_=>by simp[hasB]
 | x::r,h=>by
  simp only[hasB];split
  ·have:=(balOk_iff.1 (h 0 (by simp))).2;simp only[List.getD_cons_zero] at this;omega
  exact fL8 (fun k hk=>by have:=h (k+1) (by simpa using hk);simpa only[List.getD_cons_succ] using this)
theorem fFq {xs:List Bal} (h:BalsOk xs):fPa xs:=fun _ _=>fL8 h.ok
theorem fE3 {w w':World} {b o:Nat} {l:Leg} (hb:Below w.heap.size w w') (h:mH w b o l) :
  Below w.heap.size w w'∧w'.cell? ⟨b,o,none⟩=some (.int .i64 l.sh)∧w'.cell? ⟨b,o+1,none⟩=some (.int .i64 l.ac)∧w'.cell? ⟨b,o+2,none⟩=some (.int .i64 l.ast)∧w'.cell? ⟨b,o+3,none⟩=some (.int .i64 l.am):=
 ⟨hb,fQ hb h⟩
theorem fHa (x y:Value) (xs:List Bal) (ls:List Leg) (w:World) (hx:balsR.V w x xs) (hy:legsR.V w y ls) (hs:fPa xs) (ha:small ls) :
  RI 184 #[x,y] w (.int .i64 (fJ (fun k=>canB xs (ls.getD k default)) ls.length)):=by
 have hX:=hx;obtain⟨ax,cx,rfl⟩:=fP hx;obtain⟨ay,cy,rfl,hcy,hmy,hy⟩:=hy;unfold maxLen at hmy;have HA:Hid (small ls):=ha;have HSM:Hid (fPa xs):=hs;clear ha hs hx;generalize hn':ls.length=n at *;have HN:Hid (ls.length=n):=hn';clear hn';go_enter Tryz.func184,Tryz.ntmps184;go_wp2;go_loopw [5] (fun i w'=>∃k:Nat,k≤n∧i =.int .i64 k∧fJ (fun k=>canB xs (ls.getD k default)) k=0∧Below w.heap.size w w') (fun i _=>n-(intOf i).toNat)
 case atStart=>exact⟨0,oM,rfl,rfl,bR _ _⟩
 obtain⟨k,hk,rfl,hs,hbl⟩:=hrel;have HS:Hid (fJ (fun k=>canB xs (ls.getD k default)) k=0):=hs;clear hs;by_cases hlt:k<n
 ·
  obtain⟨bx,ox,rfl,g1⟩:=hy k hlt;have hsm:=HA.out k (by rw[HN.out];exact hlt);obtain⟨l,hl⟩:∃l,l=ls.getD k default:=⟨_,rfl⟩
  rw[←hl] at g1 hsm;have HL:Hid (l=ls.getD k default):=hl;clear hl hy;have hhs:=HSM.out l.ac l.ast;have g2:=fQ hbl g1;obtain⟨a1,a2,a3,a4⟩:=g2;have hXr:=balsR.below hX hbl;obtain⟨v,hv⟩:∃v,v=hasB l.ac l.ast xs:=⟨_,rfl⟩
  rw[←hv] at hhs;have HV:Hid (v=hasB l.ac l.ast xs):=hv;have v1:IntKind.i64.wrap (v+l.am)=v+l.am:=qP oM oM;have i1:(k:Int)<(n:Int):=oM;have HAT:Hid (canB xs (ls.getD k default)=canV (v+l.am)):=by show _=_;rw[←HL.out,canB,HV.out]
  clear hsm hhs;have g3:mH wr bx (ox+k*4) l:=⟨a1,a2,a3,a4⟩;go_wp2;go_region_held3 (fun w'=>Below wr.heap.size wr w'∧w'.cell? ⟨bx,ox+k*4,none⟩=some (.int .i64 l.sh)∧w'.cell? ⟨bx,ox+k*4+1,none⟩=some (.int .i64 l.ac)∧w'.cell? ⟨bx,ox+k*4+2,none⟩=some (.int .i64 l.ast)∧w'.cell? ⟨bx,ox+k*4+3,none⟩=some (.int .i64 l.am))
   ((refine fE3 ?_ g3;exact qT))
   (first|(go_at_call 186;refine(fKt _ xs l.ac l.ast _ (balsR.below hXr (Below.drew (bR _ _)))).mono ?_;rw[←hv];rintro e w3 ⟨rfl,rfl⟩))
  rename_i hH;have hB:=bS hbl hH.1;clear hH;rw[←hv,v1];clear hv v1;generalize v+l.am=z at *;go_wp2
  ·rename_i c1;go_ret;refine⟨?_,hB⟩;rw[mW HS.out (by rw[HAT.out,canV,if_pos c1];omega) _ hlt,HAT.out,canV,if_pos c1];rfl
  ·rename_i c1 c2;go_ret;refine⟨?_,hB⟩;rw[mW HS.out (by rw[HAT.out,canV,if_neg oM,if_pos c2];omega) _ hlt,HAT.out,canV,if_neg oM,if_pos c2];rfl
  rename_i c1 c2;refine⟨⟨k+1,by omega,by go_num,gP HS.out ?_,hB⟩,mI⟩;rw[HAT.out,canV,if_neg oM,if_neg oM]
 go_wp2;go_ret;have hkn:k=n:=oM;subst hkn;refine⟨?_,hbl⟩;rw[HS.out];rfl
theorem fSn {g:Ledg} {l:Leg} (h0:0≤l.sh) (h:l.sh<g.shards.length):canB (g.shards.getD l.sh.toNat default) l=canL (kY g.shards) l:=by
 rw[canB,canL,fBf,kY,if_pos ⟨h0,h⟩]
theorem fPu {g:Ledg} (h:tJ g=0):∀k,k<g.shards.length→fPa (g.shards.getD k default):=fun k hk=>fFq ((fDt h).2.2 k hk)
theorem fC5 (l:Leg) (w:World):RI 226 #[.agg #[.int .i64 l.sh,.int .i64 l.ac,.int .i64 l.ast,.int .i64 l.am]] w (kv l.sh l.ac l.ast):=by
 go_enter Tryz.func226,Tryz.ntmps226;go_wp2_with fail;refine(fKn _ _ _ _).mono ?_;rintro e w1 ⟨rfl,hb1⟩;have hB1:Below w.heap.size w w1:=qBq;have r0:w1.cell? ⟨w.heap.size+1,0,none⟩=some (.int .i64 0):=cK hb1 sG;have r1:w1.cell? ⟨w.heap.size+1,1,none⟩=some (.int .i64 0):=cK hb1 sG;have r2:w1.cell? ⟨w.heap.size+1,2,none⟩=some (.int .i64 0):=cK hb1 sG;have hrf:∀o,w1.frozen? ⟨w.heap.size+1,o,none⟩=false:=fun o=>by rw[(bcell hb1).2 _ _ (by simp)];simp[go_sem]
 clear hb1;unfold kv;go_wp2;refine bodyPost_ret (v:=.agg #[.int .i64 l.sh,.int .i64 l.ac,.int .i64 l.ast]) ?_ rfl ⟨rfl,qBq⟩;simp[results,Tryz.results226,go_sem,r0,r1,r2]
def fTw (f:Int→Int→Int→Option Int):Prop:=∀s a t,0≤(f s a t).getD 0∧(f s a t).getD 0≤1000000000000
theorem fTx {g:Ledg} (h:tJ g=0):fTw (kY g.shards):=fun s a t=>by
 unfold kY;split
 ·rename_i hs;rw[←fBf];exact fPu h s.toNat oM a t
 simp
theorem fDg (n:Nat) (b m:Nat) (f:Int→Int→Int→Option Int) (y:Value) (ls:List Leg) (w:World) (hb:Book w b m f) (hy:legsR.V w y ls) (hs:fTw f) (hok:∀k,k<ls.length→gI (ls.getD k default)=0) :
  RI 212 #[.agg #[.int .i64 n,.map (some b)],y] w (.int .i64 (fJ (fun k=>canL f (ls.getD k default)) ls.length)):=by
 obtain⟨ay,cy,rfl,hcy,hmy,hy⟩:=hy;unfold maxLen at hmy;have HOK:Hid (∀k,k<ls.length→gI (ls.getD k default)=0):=hok;have HSM:Hid (fTw f):=hs;clear hs hok;generalize hn':ls.length=q at *;have HN:Hid (ls.length=q):=hn';clear hn';go_enter Tryz.func212,Tryz.ntmps212;go_wp2;go_loopw [10] (fun i w'=>∃k:Nat,k≤q∧i =.int .i64 k∧fJ (fun k=>canL f (ls.getD k default)) k=0∧w'.cell? ⟨w.heap.size,1,none⟩=some (.map (some b))∧Below w.heap.size w w') (fun i _=>q-(intOf i).toNat)
 case atStart=>exact⟨0,oM,rfl,rfl,by simp[go_sem],qBq⟩
 obtain⟨k,hk,rfl,hs,hc1,hbl⟩:=hrel;have HS:Hid (fJ (fun k=>canL f (ls.getD k default)) k=0):=hs;clear hs;by_cases hlt:k<q
 ·
  obtain⟨bx,ox,rfl,g1⟩:=hy k hlt;have hlf:=HOK.out k hlt;obtain⟨l,hl⟩:∃l,l=ls.getD k default:=⟨_,rfl⟩
  rw[←hl] at g1 hlf;have HL:Hid (l=ls.getD k default):=hl;clear hl hy;obtain⟨⟨s0,s1⟩,⟨t0,t1⟩,⟨t2,t3⟩,⟨t4,t5⟩,t6⟩:=gZ hlf;have hhs:=HSM.out l.sh l.ac l.ast;obtain⟨a1,a2,a3,a4⟩:=fQ hbl g1;have hw:kwf l.sh l.ac l.ast:=⟨zP oM oM,zP oM oM,zP oM oM⟩;obtain⟨v,hv⟩:∃v,v=(f l.sh l.ac l.ast).getD 0:=⟨_,rfl⟩
  rw[←hv] at hhs;have HAT:Hid (canL f (ls.getD k default)=canV (v+l.am)):=by show _=_;rw[←HL.out,canL,hv]
  have hlk:∀W,Below w.heap.size w W→(Instr.lookup 225 (.map (some b)) (kv l.sh l.ac l.ast) false).run Tryz.prog W =.ok (.int .i64 v) W:=fun W hW=>by rw[hv];exact((hb.below hW).look hw).1
  clear hv;have v1:IntKind.i64.wrap (v+l.am)=v+l.am:=qP oM oM;have hz:w.heap.size<wr.heap.size:=wL _ _ hc1;have h0:Below w.heap.size w (wr.alloc (.cells #[.int .i64 l.sh,.int .i64 l.ac,.int .i64 l.ast,.int .i64 l.am] 168))∧(wr.alloc (.cells #[.int .i64 l.sh,.int .i64 l.ac,.int .i64 l.ast,.int .i64 l.am] 168)).cell? ⟨w.heap.size,1,none⟩=some (.map (some b))∧(wr.alloc (.cells #[.int .i64 l.sh,.int .i64 l.ac,.int .i64 l.ast,.int .i64 l.am] 168)).cell? ⟨wr.heap.size,0,none⟩=some (.int .i64 l.sh)∧(wr.alloc (.cells #[.int .i64 l.sh,.int .i64 l.ac,.int .i64 l.ast,.int .i64 l.am] 168)).cell? ⟨wr.heap.size,1,none⟩=some (.int .i64 l.ac)∧(wr.alloc (.cells #[.int .i64 l.sh,.int .i64 l.ac,.int .i64 l.ast,.int .i64 l.am] 168)).cell? ⟨wr.heap.size,2,none⟩=some (.int .i64 l.ast)∧(wr.alloc (.cells #[.int .i64 l.sh,.int .i64 l.ac,.int .i64 l.ast,.int .i64 l.am] 168)).cell? ⟨wr.heap.size,3,none⟩=some (.int .i64 l.am):=
   ⟨qBq,cK (bA (bR _ _) _) hc1,by simp[go_sem],sG,by simp[go_sem],sG⟩
  go_wp2;generalize hW:wr.alloc (.cells #[.int .i64 l.sh,.int .i64 l.ac,.int .i64 l.ast,.int .i64 l.am] 168)=W at *;clear hW a1 a2 a3 a4 g1 hc1;go_region_held3 (fun w'=>Below w.heap.size w w'∧w'.cell? ⟨w.heap.size,1,none⟩=some (.map (some b))∧w'.cell? ⟨wr.heap.size,0,none⟩=some (.int .i64 l.sh)∧w'.cell? ⟨wr.heap.size,1,none⟩=some (.int .i64 l.ac)∧w'.cell? ⟨wr.heap.size,2,none⟩=some (.int .i64 l.ast)∧w'.cell? ⟨wr.heap.size,3,none⟩=some (.int .i64 l.am))
   ((first|exact fS2 h0 (Below.drew (bR _ _))|exact hS3))
   (first|(go_at_call 226;refine(fC5 l _).mono ?_;rintro e w3 ⟨rfl,hb5⟩;have hS3:=fS2 (fS2 h0 (Below.drew (bR _ _))) hb5;have hl5:=hlk _ hS3.1))
  rename_i hH;have hB:=hH.1;have hc2:=hH.2.1;clear hH hS3 hl5 hlk;generalize v+l.am=z at *;go_wp2
  ·rename_i c1;go_ret;refine⟨?_,hB⟩;rw[mW HS.out (by rw[HAT.out,canV,if_pos c1];omega) _ hlt,HAT.out,canV,if_pos c1];rfl
  ·rename_i c1 c2;go_ret;refine⟨?_,hB⟩;rw[mW HS.out (by rw[HAT.out,canV,if_neg oM,if_pos c2];omega) _ hlt,HAT.out,canV,if_neg oM,if_pos c2];rfl
  rename_i c1 c2;refine⟨⟨k+1,by omega,by go_num,gP HS.out ?_,hc2,hB⟩,mI⟩;rw[HAT.out,canV,if_neg oM,if_neg oM]
 go_wp2;go_ret;have hkn:k=q:=oM;subst hkn;refine⟨?_,hbl⟩;rw[HS.out];rfl
end
section
open Go.Maps
variable [dQ Bal] [iH Bal] [dQ Ledg] [iH Ledg] [dQ Leg] [iH Leg] [dQ Cont] [iH Cont]
theorem fXv (v:Value) (y:DataW Unit × List MemPlace) (h:plainElem Tryz.prog 2 v=some y):∃c:Int,v=(fun c=>Value.int .i64 c) c:=by
 obtain⟨c,rfl,_⟩:=plainElem_int_inv Tryz.underlying2 h;exact⟨c,rfl⟩
theorem fYb (key:Value) (kl:Lit) (h:keyOf Tryz.prog 254 key=some kl):∃x:Int × Int × Int,key=(fun x:Int × Int × Int=>Value.agg #[.int .i64 x.1,.int .i64 x.2.1,.int .i64 x.2.2]) x:=by
 obtain⟨s,a,t,rfl,_⟩:=fKo h;exact⟨(s,a,t),rfl⟩
end
section
open Go.Shelf Go.Maps
variable [dQ Bal] [iH Bal] [dQ Ledg] [iH Ledg] [dQ Leg] [iH Leg] [dQ Cont] [iH Cont]
attribute [local go_sem] Oper.semAt_some
def KOk (f:Int→Int→Int→Option Int) (ys:List K3):Prop:=ys.Nodup∧∀x ∈ ys,(f x.1 x.2.1 x.2.2).isSome=true
def KDn (f:Int→Int→Int→Option Int) (ys:List K3):Prop:=KOk f ys∧∀s a t,kwf s a t→(f s a t).isSome=true→(s,a,t) ∈ ys
def KLeft (f:Int→Int→Int→Option Int) (pre:List K3) (left:Lit→Bool):Prop:=KOk f pre∧∀s a t kl,keyOf Tryz.prog 254 (kv s a t)=some kl→(left kl=true↔((f s a t).isSome=true∧(s,a,t) ∉ pre))
theorem KLeft.step {f:Int→Int→Int→Option Int} {pre:List K3} {left:Lit→Bool} (h:KLeft f pre left) {s a t:Int} {kl:Lit} (hk:keyOf Tryz.prog 254 (kv s a t)=some kl) (hl:left kl=true) :
  KOk f (pre++[(s,a,t)])∧KLeft f (pre++[(s,a,t)]) (fun z=>left z && !z.sameKey kl):=by
 obtain⟨hsome,hnot⟩:=(h.2 s a t kl hk).1 hl;have hok:KOk f (pre++[(s,a,t)]):=by
  refine⟨List.nodup_append.2 ⟨h.1.1,by simp,fun x hx y hy e=>?_⟩,fun x hx=>?_⟩
  ·rw[List.mem_singleton] at hy;rw[hy] at e;rw[e] at hx;exact hnot hx
  rcases List.mem_append.1 hx with hx|hx
  ·exact h.1.2 x hx
  rw[List.mem_singleton.1 hx];exact hsome
 refine⟨hok,hok,fun s' a' t' kl' hk'=>?_⟩;have h0:=h.2 s' a' t' kl' hk';by_cases e:kl'=kl
 ·subst e;obtain⟨rfl,rfl,rfl⟩:=fOo (holdLaw.inj hk' hk);simp[WideAt.sameKey_self (holdLaw.key hk)]
 have hne:¬((s',a',t')=(s,a,t)):=fun e'=>by
  simp only[Prod.mk.injEq] at e';obtain⟨rfl,rfl,rfl⟩:=e';rw[hk] at hk';exact e (by simpa using hk'.symm)
 simp only[sameKey_ne e,Bool.not_false,Bool.and_true,List.mem_append,List.mem_singleton];rw[h0];constructor
 ·rintro⟨h1,h2⟩;exact⟨h1,fun h3=>h3.elim h2 hne⟩
 rintro⟨h1,h2⟩;exact⟨h1,fun h3=>h2 (.inl h3)⟩
theorem fQ8 {w w':World} {b r n:Nat} {D:DataW Unit} {left:Lit→Bool} {cnt:Nat} {F:Nat→Prop} (h:w.ranges Tryz.prog 254 (plainElem Tryz.prog 2) b r n D left cnt) (hm:Mod F w w') (hb:¬F b) (hr:¬F r):w'.ranges Tryz.prog 254 (plainElem Tryz.prog 2) b r n D left cnt:=by
 have hlb:=h.owns.lt;have hlr:=h.lt;obtain⟨es,clock,since,seen,c0,h1,h2,h3,h4,h5,h6⟩:=h;exact⟨es,clock,since,seen,c0,(hm.block b hlb hb).trans h1,h2,h3,h4,(hm.block r hlr hr).trans h5,h6⟩
theorem fS3 (Bs b m:Nat) (f:Int→Int→Int→Option Int) (R:Nat→Prop) (w:World) (hB:w.cell? ⟨Bs,0,none⟩=some (.map (some b))) (hRB:R Bs) (hRb:R b) (hRw:∀i,R i→i<w.heap.size) (hbk:Book w b m f) :
  Seqy Tryz.prog 243 #[.pointer (some ⟨Bs,0,none⟩)] encK (KOk f) (KDn f) R w:=by
 intro l J Jx W X hm hXa hJ hJx hY h0;have hBW:=hm.cell hB (fun h=>h hRB);have hbW:Book W b m f:=hbk.turned hm (fun h=>h hRb);have hWz:=hm.size;clear hbk hB;obtain⟨D,hD,h1⟩:=hbW;have H1:Hid (∀s a t kl,keyOf Tryz.prog 254 (kv s a t)=some kl→Maps.has D kl=(f s a t).isSome∧D.atKey kl (.lit (.int .i64 0)) =.lit (.int .i64 ((f s a t).getD 0))):=h1;clear h1;have HRW:Hid (∀i,R i→i<w.heap.size):=hRw;clear hRw;refine callsIn_of_wp Tryz.func243 rfl trivial ?_ rfl;simp only[Tryz.ntmps243,List.size_toArray,List.length_cons,List.length_nil,Nat.reduceAdd,Nat.reduceSub,Array.replicate_succ,Array.replicate_zero,List.push_toArray,List.append_toArray,List.nil_append,List.cons_append];gi_wp2_with (gi_at_range;refine wpListIn_range_own _ rfl _ 225 rfl 254 2 holdLaw Tryz.underlying225 _ b m D rfl hD ?_;intro w0 hrg0 hg0 hs0);go_frame;have HLT:Hid (b<w.heap.size):=HRW.out b hRb;obtain⟨r,hr⟩:∃r,W.heap.size=r:=⟨_,rfl⟩
 have HWR:Hid (W.heap.size=r):=hr;have hwr:w.heap.size≤r:=oM;have hJ0:J [] w0 (fun i=>X i∨i=r):=hJ _ _ _ X _ h0 ((Mod.of_grown hg0).mono (fun i e=>by cases e)) (fun i h=>.inl h) (fun i h=>by
  rcases h with h|h
  ·exact⟨.inl h,by have:=hXa i h;omega⟩
  exact⟨.inr oM,by omega⟩)
 have hX0:∀i,(X i∨i=r)→i<w0.heap.size:=fun i h=>by
  rcases h with h|h
  ·have:=hXa i h;omega
  omega
 rw[hr] at hrg0 ⊢;clear hr h0 hg0 hs0 hBW hD hXa;have hk0:KLeft f [] (Maps.has D):=⟨⟨List.nodup_nil,fun x h=>by cases h⟩,fun s a t kl hk=>by rw[(H1.out s a t kl hk).1];simp⟩;gi_loopw [6] (fun _ wr=>∃(pre:List K3) (left:Lit→Bool) (cnt:Nat),Hid (J pre wr (fun i=>X i∨i=r))∧wr.ranges (H:=Unit) Tryz.prog 254 (plainElem Tryz.prog 2) b r m D left cnt∧Hid (KLeft f pre left)∧Hid (∀i,(X i∨i=r)→i<wr.heap.size)) (fun _ wr=>wr.rangeLeft b r)
 case atStart=>exact⟨[],_,_,hJ0,hrg0,hk0,hX0⟩
 obtain⟨pre,left,cnt,HJ,hrg,HK,HXa⟩:=hrel;clear hJ0 hX0 hrg0 hk0;gi_wp2_with (gi_at_next;refine wpListIn_next_ranges _ rfl _ rfl 254 holdLaw _ (fun x:Int × Int × Int=>Value.agg #[.int .i64 x.1,.int .i64 x.2.1,.int .i64 x.2.2]) (fun c:Int=>Value.int .i64 c) fYb fXv b r m D left cnt rfl hrg ?_ ?_)
 ·intro _ hl0;gi_wp2;go_end0;refine⟨⟨_,rfl⟩,_,fun i h=>.inl h,.inl ⟨pre,⟨HK.out.1,fun s a t hw hs=>?_⟩,HJ.out⟩⟩;obtain⟨kl,hk⟩:=fAb hw;apply Classical.byContradiction;intro hn;have:=(HK.out.2 s a t kl hk).2 ⟨hs,hn⟩;rw[hl0 kl] at this;cases this
 intro s a t c kl y1 y2 w1 cnt1 hk hlk hv hat hrg1 hlt hg1 hs1 hen;obtain⟨hok,hleft⟩:=HK.out.step (s:=s) (a:=a) (t:=t) hk hlk;have hm1:Mod (fun i=>X i∨i=r) _ w1:=(Mod.of_grown hg1).mono (fun i e=>.inr (by simpa using e.symm));have hJ1:J pre w1 (fun i=>X i∨i=r):=hJ _ _ _ _ _ HJ.out hm1 (fun _ h=>h) (fun i h=>⟨.inl h,by have:=HXa.out i h;omega⟩);have hJ2:J pre (w1.alloc (.cells #[.int .i64 s,.int .i64 a,.int .i64 t] 254)) (fun i=>X i∨i=r):=hJ _ _ _ _ _ hJ1 (uV _ _ _) (fun _ h=>h) (fun i h=>⟨.inl h,by have:=HXa.out i h;simp;omega⟩);obtain⟨fn,tmps,assign,body,hy,hR2⟩:=hY _ (s,a,t) _ _ hJ2 (fun i h=>.inl h) (fun i h=>by have:=HXa.out i h;simp;omega) hok;unfold encK kv at hy;dsimp only at hy;have HLF:Hid (KLeft f (pre++[(s,a,t)]) (fun z=>left z && !z.sameKey kl)):=hleft;have HM:Hid (w1.rangeLeft b r<0+cnt∨True):=.inr trivial;have HRG1:Hid (w1.ranges (H:=Unit) Tryz.prog 254 (plainElem Tryz.prog 2) b r m D (fun z=>left z && !z.sameKey kl) cnt1):=hrg1;have HCN:Hid (cnt1<cnt):=hlt;have hcnt:=hrg.left_eq;clear hleft hok hk hlk hv hat hrg1 hlt hg1 hm1 hJ1;have hrltb:r<w1.heap.size:=HRG1.out.lt;have hbltb:b<w1.heap.size:=HRG1.out.owns.lt;have hnR:¬R r:=fun h=>by have:=HRW.out r h;omega
 gi_wp2
 refine⟨rfl,hR2.mono ?_⟩;rintro e W3 (⟨rfl,hJ3,hk3⟩|⟨rfl,hJx3,hk3⟩)
 ·
  have hrg3:W3.ranges (H:=Unit) Tryz.prog 254 (plainElem Tryz.prog 2) b r m D (fun z=>left z && !z.sameKey kl) cnt1:=fQ8 (HRG1.out.alloc _) hk3 (fun h=>h (.inl hRb)) (fun h=>h (.inr (.inr rfl)));have hs3:=hk3.size;simp only[World.size_alloc] at hs3;have HX3:Hid (∀i,(X i∨i=r)→i<W3.heap.size):=fun i h=>by have:=HXa.out i h;omega
  have HJ3:Hid (J (pre++[(s,a,t)]) W3 (fun i=>X i∨i=r)):=hJ3;have hl3:=hrg3.left_eq;clear hJ3 hk3;gi_wp2;go_roundw
  case rel=>exact⟨pre++[(s,a,t)],_,cnt1,HJ3,hrg3,HLF,HX3⟩
  case measure=>
   rw[hl3,hcnt];exact HCN.out
 have HJx3:Hid (Jx (pre++[(s,a,t)]) W3 (fun i=>X i∨i=r)):=hJx3;clear hJx3 hk3;gi_wp2;refine bodyPost_ret (results_none rfl _ _ _) rfl ?_;exact⟨⟨_,rfl⟩,_,fun i h=>.inl h,.inr ⟨_,HLF.out.1,HJx3.out⟩⟩
end
section
open Go.Sort Go.Shelf
variable [dQ Rw] [iH Rw] [dQ Bal] [iH Bal] [dQ Ledg] [iH Ledg] [dQ Leg] [iH Leg] [dQ Cont] [iH Cont]
structure SortsK:Prop where
 some_:∀(xs:List K3) (g cap base:Nat) (W:World),W.ownsRow base 254 3 (.slice (some ⟨g,0,none⟩) xs.length cap) xs.length (zI xs)→base≤W.heap.size→xs.length≤200 →
  Calls Tryz.prog 242 #[.slice (some ⟨g,0,none⟩) xs.length cap,.func (.func 229) #[] #[]] W fun e w'=>e =.returned (.tuple #[])∧∃ys:List K3,ys.Perm xs∧ys.Pairwise (fun p q=>ltOf cfK q p=false)∧(∀i,i<ys.length→yF w' g (i*3) (ys.getD i default))∧Go.RowKit.Below base W w'
 none_:∀W:World,Calls Tryz.prog 242 #[.slice none 0 0,.func (.func 229) #[] #[]] W fun e w'=>e =.returned (.tuple #[])∧w'=W
def fXg (w:World) (v:Value) (ys:List K3):Prop:=∃a c,v =.slice a ys.length c∧∀i,i<ys.length→∃g,a=some ⟨g,0,none⟩∧yF w g (i*3) (ys.getD i default)
theorem fGk (hS:SortsK) (gf:Nat) (lb:Array Value) (Ok Dn:List K3→Prop) (R:Nat→Prop) (w:World) (eg:∀args w,(callFunc gf args).run Tryz.prog w =.ok (.enter gf args) w) (hseq:Seqy Tryz.prog gf lb encK Ok Dn R w) (hR:∀b,R b→b<w.heap.size) (hlen:∀ys,Ok ys→ys.length≤200) (hdl:∀ys,Dn ys→ys.length≤200) :
  Calls Tryz.prog 227 #[.func (.func gf) #[] lb,.func (.func 229) #[] #[]] w fun e w'=>∃v xs ys,e =.returned v∧Dn xs∧ys.Perm xs∧ys.Pairwise (fun p q=>ltOf cfK q p=false)∧fXg w' v ys∧Go.RowKit.Below w.heap.size w w':=by
 have hc:=fJy gf lb Ok Dn R w eg hseq hR hlen;have HS:Hid SortsK:=hS;have HDL:Hid (∀ys,Dn ys→ys.length≤200):=hdl;clear eg hseq hS hdl hlen;go_enter Tryz.func227,Tryz.ntmps227;go_wp2_with fail;refine hc.mono ?_;rintro e w1 ⟨v,xs,rfl,hDn,ho,hb⟩;clear hc;have hl:=HDL.out xs hDn;rcases ho.2 with ⟨rfl,hn⟩|⟨g,cap,_,rfl,_⟩
 ·have hx:xs=[]:=List.eq_nil_of_length_eq_zero hn;subst hx;go_wp2_with fail;refine(HS.out.none_ w1).mono ?_;rintro e w2 ⟨rfl,hw2⟩;obtain rfl:=hw2.symm;go_wp2;go_ret;exact⟨_,[],[],rfl,hDn,List.Perm.refl _,List.Pairwise.nil,⟨none,0,rfl,fun i h=>absurd h (Nat.not_lt_zero _)⟩,hb⟩
 have hcon:=HS.out.some_ xs g cap w.heap.size w1 ho hb.size hl;obtain⟨n,hn⟩:∃n,n=xs.length:=⟨_,rfl⟩
 rw[←hn] at hcon ⊢;have HN:Hid (xs.length=n):=hn.symm;clear hn ho hl;go_wp2_with fail;refine hcon.mono ?_;rintro e w2 ⟨rfl,ys,hp,hs,hk,hb2⟩;clear hcon;have HK:Hid (fXg w2 (.slice (some ⟨g,0,none⟩) n cap) ys):=⟨_,_,by rw[hp.length_eq,HN.out],fun i hi=>⟨g,rfl,hk i hi⟩⟩;have hB2:Go.RowKit.Below w.heap.size w w2:=hb.trans hb2;clear hk;go_wp2;go_ret;exact⟨_,xs,ys,rfl,hDn,hp,hs,HK.out,hB2⟩
theorem fQs (w:World) (b:Nat) :
  Calls Tryz.prog 228 #[.map (some b)] w fun e w'=>e =.returned (.func (.func 243) #[] #[.pointer (some ⟨w.heap.size,0,none⟩)])∧Go.RowKit.Below w.heap.size w w'∧w'.cell? ⟨w.heap.size,0,none⟩=some (.map (some b)):=by
 go_enter Tryz.func228,Tryz.ntmps228;go_wp2;go_ret;exact⟨rfl,bA (bR _ _) _,by simp[go_sem]⟩
end
end Go.Proofs.YtpibfdebfacooaaGreat

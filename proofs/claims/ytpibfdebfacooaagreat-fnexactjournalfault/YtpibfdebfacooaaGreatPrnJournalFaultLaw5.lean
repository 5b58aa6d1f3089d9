import Derived.Test.YtpibfdebfacooaaGreatPrnJournalFaultLaw2
import Derived.RegionTactic
import Derived.ChangeAlike
import Derived.BigRegion
import Derived.Maps.AppendAt
set_option maxHeartbeats 2000000
set_option linter.unusedSectionVars false
namespace Go.Proofs.YtpibfdebfacooaaGreat
open Go.RowKit
attribute [local go_sem ↓] Go.wp_at_zero Go.wp_at_succ
section
variable [dQ Leg] [iH Leg]
def inB (n lo hi:Int):Bool:=decide (lo≤n)&&decide (n≤hi)
theorem kL (n lo hi:Int) (w:World) :
  Calls Tryz.prog 88 #[.int .i64 n,.int .i64 lo,.int .i64 hi] w fun e w'=>e =.returned (.bool (inB n lo hi))∧w'=w:=by
 by_cases h1:lo≤n
 all_goals
  go_enter Tryz.func88,Tryz.ntmps88;go_wp2;go_ret;exact⟨by first|(simp[inB,h1];done)|(simp[inB];omega),rfl⟩
theorem qG (n lo hi:Int) (w:World) :
  Calls Tryz.prog 106 #[.int .i64 n,.int .i64 lo,.int .i64 hi] w fun e w'=>e =.returned (.bool (inB n lo hi))∧w'=w:=by
 by_cases h1:lo≤n
 all_goals
  go_enter Tryz.func106,Tryz.ntmps106;go_wp2;go_ret;exact⟨by first|(simp[inB,h1];done)|(simp[inB];omega),rfl⟩
theorem mK (n:Int) (w:World) :
  Calls Tryz.prog 87 #[.int .i64 n] w fun e w'=>e =.returned (.bool (inB n 1 1000000000))∧w'=w:=by
 go_enter Tryz.func87,Tryz.ntmps87;go_wp2_with (go_at_call 88;refine(kL _ _ _ _).mono ?_;rintro e w' ⟨rfl,rfl⟩);go_ret;exact⟨rfl,rfl⟩
theorem kG (n:Int) (w:World) :
  Calls Tryz.prog 146 #[.int .i64 n] w fun e w'=>e =.returned (.bool (inB n 1 1000000000))∧w'=w:=by
 go_enter Tryz.func146,Tryz.ntmps146;go_wp2_with (go_at_call 106;refine(qG _ _ _ _).mono ?_;rintro e w' ⟨rfl,rfl⟩);go_ret;exact⟨rfl,rfl⟩
theorem tH (n:Int) (w:World) :
  Calls Tryz.prog 111 #[.int .i64 n] w fun e w'=>e =.returned (.bool (inB n 0 2))∧w'=w:=by
 go_enter Tryz.func111,Tryz.ntmps111;go_wp2_with (go_at_call 106;refine(qG _ _ _ _).mono ?_;rintro e w' ⟨rfl,rfl⟩);go_ret;exact⟨rfl,rfl⟩
theorem vF (n:Int) (w:World) :
  Calls Tryz.prog 165 #[.int .i64 n] w fun e w'=>e =.returned (.bool (inB n 0 5))∧w'=w:=by
 go_enter Tryz.func165,Tryz.ntmps165;go_wp2_with (go_at_call 106;refine(qG _ _ _ _).mono ?_;rintro e w' ⟨rfl,rfl⟩);go_ret;exact⟨rfl,rfl⟩
theorem fB9 (n:Int) (w:World) :
  Calls Tryz.prog 166 #[.int .i64 n] w fun e w'=>e =.returned (.bool (inB n 0 2))∧w'=w:=by
 go_enter Tryz.func166,Tryz.ntmps166;go_wp2_with (go_at_call 106;refine(qG _ _ _ _).mono ?_;rintro e w' ⟨rfl,rfl⟩);go_ret;exact⟨rfl,rfl⟩
def fHh (l:Leg):Bool:=inB l.sh 0 2&&inB l.ac 0 5&&inB l.ast 0 2
def gD (l:Leg):Int:=if fHh l&&inB l.am (-1000000000000) 1000000000000 then (if l.am=0 then 1 else 0) else 3
theorem fIz (l:Leg) (w:World) :
  RI 189 #[legV l] w (.bool (fHh l)):=by
 obtain⟨a,b,c,d⟩:=l;unfold legV fHh;go_enter Tryz.func189,Tryz.ntmps189;go_wp2_with (first|(go_at_call 111;refine(tH _ _).mono ?_;rintro e w' ⟨rfl,rfl⟩)|(go_at_call 165;refine(vF _ _).mono ?_;rintro e w' ⟨rfl,rfl⟩)|(go_at_call 166;refine(fB9 _ _).mono ?_;rintro e w' ⟨rfl,rfl⟩));all_goals
  go_ret;exact⟨by simp[*],(by repeat (first|exact bR _ _|(refine Below.drew ?_)|(refine Below.alloc ?_ (by first|(simp;done)|(simp;omega)) _)))⟩
theorem fBb (l:Leg) (w:World) :
  RI 125 #[legV l] w (.int .i64 (gD l)):=by
 obtain⟨a,b,c,d⟩:=l;unfold legV;go_enter Tryz.func125,Tryz.ntmps125;go_wp2_with (go_at_call 88;refine(kL _ _ _ _).mono ?_;rintro e w' ⟨rfl,rfl⟩);all_goals
  go_ret;exact⟨by simp_all [gD,fHh],(by repeat (first|exact bR _ _|(refine Below.drew ?_)|(refine Below.alloc ?_ (by first|(simp;done)|(simp;omega)) _)))⟩
theorem fA8 (l:Leg) (w:World) :
  RI 170 #[legV l] w (.int .i64 (gD l)):=by
 obtain⟨a,b,c,d⟩:=l;unfold legV;go_enter Tryz.func170,Tryz.ntmps170;go_wp2_with (first|(go_at_call 189;refine(fIz ⟨a,b,c,d⟩ _).mono ?_;rintro e w' ⟨rfl,hb⟩;obtain⟨hc,hf⟩:=bcell hb)|(go_at_call 106;refine(qG _ _ _ _).mono ?_;rintro e w' ⟨rfl,rfl⟩));all_goals
  go_ret;exact⟨by simp_all [gD],((bR _ _).alloc (Nat.le_refl _) _).trans (hb.mono (by simp))⟩
theorem fCh (l:Leg) (w:World) :
  RI 190 #[legV l] w (legV ⟨l.sh,l.ac,l.ast,0⟩):=by
 obtain⟨a,b,c,d⟩:=l;unfold legV;go_enter Tryz.func190,Tryz.ntmps190;go_wp2;exact bodyPost_ret (v:=.agg #[.int .i64 a,.int .i64 b,.int .i64 c,.int .i64 0]) (by simp[results,Tryz.results190,go_sem]) rfl ⟨rfl,(by repeat (first|exact bR _ _|(refine Below.drew ?_)|(refine Below.alloc ?_ (by first|(simp;done)|(simp;omega)) _)))⟩
def rF (a b:Leg):Bool:=a.sh==b.sh&&(a.ac==b.ac&&a.ast==b.ast)
def fQ (pre:List Leg) (l:Leg):Bool:=pre.any (fun o=>rF o l)
def scan (pre:List Leg):List Leg→Int
 | []=>0
 | l::r=>if gD l=0 then (if fQ pre l then 7 else scan (pre++[l]) r) else gD l
def sumA (a:Int):List Leg→Int
 | []=>0
 | l::r=>(if l.ast=a then l.am else 0)+sumA a r
def fA (id:Int) (xs:List Leg):Int:=
 if inB id 1 1000000000 then
  (if xs.length<2∨8<xs.length then 2
  else if scan [] xs=0 then (if sumA 0 xs=0∧sumA 1 xs=0∧sumA 2 xs=0 then 0 else 1) else scan [] xs)
 else 3
def okTo (xs:List Leg) (k:Nat):Prop:=∀j,j<k→gD (xs.getD j default)=0∧fQ (xs.take j) (xs.getD j default)=false
theorem fBw (xs:List Leg) (k:Nat) (h:k<xs.length):xs.drop k=xs.getD k default::xs.drop (k+1):=by
 rw[List.drop_eq_getElem_cons h];simp[List.getD,h]
theorem qM (xs:List Leg) (k:Nat) (h:k<xs.length):xs.take (k+1)=xs.take k++[xs.getD k default]:=by
 rw[List.take_succ_eq_append_getElem h];simp[List.getD,h]
theorem fFv (xs:List Leg):∀k,k≤xs.length→okTo xs k→scan [] xs=scan (xs.take k) (xs.drop k)
 | 0,_,_=>by simp
 | k+1,hk,h=>by
  have ih:=fFv xs k oM (fun j hj=>h j oM);obtain⟨h1,h2⟩:=h k oM;rw[ih,fBw xs k oM,scan,if_pos h1,if_neg (by rw[h2];decide),qM xs k oM]
theorem fK3 {xs:List Leg} {k:Nat} (hk:k<xs.length) (h:okTo xs k) (hb:¬gD (xs.getD k default)=0):scan [] xs=gD (xs.getD k default):=by
 rw[fFv xs k oM h,fBw xs k hk,scan,if_neg hb]
theorem fEs {xs:List Leg} {k:Nat} (hk:k<xs.length) (h:okTo xs k) (h0:gD (xs.getD k default)=0) (hb:fQ (xs.take k) (xs.getD k default)=true):scan [] xs=7:=by
 rw[fFv xs k oM h,fBw xs k hk,scan,if_pos h0,if_pos hb]
theorem fJm {xs:List Leg} (h:okTo xs xs.length):scan [] xs=0:=by
 rw[fFv xs xs.length (Nat.le_refl _) h];simp[scan]
theorem fCf {xs:List Leg} {k:Nat} (h:okTo xs k) (h0:gD (xs.getD k default)=0) (h1:fQ (xs.take k) (xs.getD k default)=false):okTo xs (k+1):=by
 intro j hj;by_cases e:j<k
 ·exact h j e
 have:j=k:=oM;subst this;exact⟨h0,h1⟩
theorem fQ9 (n lo hi:Int):inB n lo hi=true↔lo≤n∧n≤hi:=by simp[inB]
theorem gQ {l:Leg} (h:gD l=0):(0≤l.sh∧l.sh≤2)∧(0≤l.ac∧l.ac≤5)∧(0≤l.ast∧l.ast≤2)∧(-1000000000000≤l.am∧l.am≤1000000000000)∧l.am≠0:=by
 unfold gD at h;split at h
 ·
  rename_i hp;simp[fHh,fQ9] at hp;split at h
  ·omega
  exact⟨oM,by omega,by omega,by omega,by assumption⟩
 omega
theorem fJv (a:Int) (l r:List Leg):sumA a (l++r)=sumA a l+sumA a r:=by
 induction l with
 | nil=>simp[sumA]
 | cons x l ih=>simp only[List.cons_append,sumA,ih];omega
theorem fHt (a:Int) (xs:List Leg) (k:Nat) (h:k<xs.length):sumA a (xs.take (k+1))=sumA a (xs.take k)+if (xs.getD k default).ast=a then (xs.getD k default).am else 0:=by
 rw[qM xs k h,fJv];simp[sumA]
theorem fEx (a:Int) (xs:List Leg):∀k,k≤xs.length→okTo xs k → -(k*1000000000000:Int)≤sumA a (xs.take k)∧sumA a (xs.take k)≤k*1000000000000
 | 0,_,_=>by simp[sumA]
 | k+1,hk,h=>by
  have ih:=fEx a xs k oM (fun j hj=>h j oM);have hb:=(gQ (h k oM).1).2.2.2.1;rw[fHt a xs k oM];split <;> omega
theorem rP (xs:List Leg) (k:Nat) (h:k<xs.length) (l:Leg):fQ (xs.take (k+1)) l=(fQ (xs.take k) l||rF (xs.getD k default) l):=by
 rw[qM xs k h];simp[fQ]
theorem zD {xs:List Leg} {k m:Nat} {l:Leg} (hkm:k≤m) (h:fQ (xs.take k) l=true):fQ (xs.take m) l=true:=by
 simp only[fQ,List.any_eq_true] at h ⊢;obtain⟨o,ho,hs⟩:=h;exact⟨o,(List.take_subset_take_left xs hkm) ho,hs⟩
theorem fGl {id:Int} {xs:List Leg} (hid:inB id 1 1000000000=true) (h2:2≤xs.length) (h8:xs.length≤8):fA id xs=if scan [] xs=0 then (if sumA 0 xs=0∧sumA 1 xs=0∧sumA 2 xs=0 then 0 else 1) else scan [] xs:=by
 rw[fA,if_pos hid,if_neg oM]
theorem fQq {id:Int} {xs:List Leg} (hid:inB id 1 1000000000=true) (h2:2≤xs.length) (h8:xs.length≤8) {k:Nat} (hk:k<xs.length) (h:okTo xs k) (hb:¬gD (xs.getD k default)=0):fA id xs=gD (xs.getD k default):=by
 rw[fGl hid h2 h8,fK3 hk h hb,if_neg hb]
theorem fJ7 {id:Int} {xs:List Leg} (hid:inB id 1 1000000000=true) (h2:2≤xs.length) (h8:xs.length≤8) {k:Nat} (hk:k<xs.length) (h:okTo xs k) (h0:gD (xs.getD k default)=0) (hb:fQ (xs.take k) (xs.getD k default)=true):fA id xs=7:=by
 rw[fGl hid h2 h8,fEs hk h h0 hb,if_neg (by decide)]
theorem fRv {id:Int} {xs:List Leg} (hid:inB id 1 1000000000=true) (h2:2≤xs.length) (h8:xs.length≤8) (h:okTo xs xs.length) (hs:¬(sumA 0 xs=0∧sumA 1 xs=0∧sumA 2 xs=0)):fA id xs=1:=by
 rw[fGl hid h2 h8,fJm h,if_pos rfl,if_neg hs]
theorem fQ3 {id:Int} {xs:List Leg} (hid:inB id 1 1000000000=true) (h2:2≤xs.length) (h8:xs.length≤8) (h:okTo xs xs.length) (hs:sumA 0 xs=0∧sumA 1 xs=0∧sumA 2 xs=0):fA id xs=0:=by
 rw[fGl hid h2 h8,fJm h,if_pos rfl,if_pos hs]
end
section
variable [dQ Leg] [iH Leg]
theorem fSp (w:World):(Instr.makeSlice 39 (.int .i64 3) (.int .i64 3)).run Tryz.prog w =.ok (.slice (some ⟨w.heap.size,0,none⟩) 3 3) (w.alloc (.cells #[.int .i64 0,.int .i64 0,.int .i64 0] 2)):=kF
theorem fCs (id:Int) (x:Value) (xs:List Leg) (w:World) (hx:uX w x xs) (h:inB id 1 1000000000=false∨xs.length<2∨8<xs.length) :
  RI 86 #[.agg #[.int .i64 id,x]] w (.int .i64 (fA id xs)):=by
 obtain⟨ax,cx,rfl,hcx,hmx,hx⟩:=hx;unfold maxLen at hmx;clear hx;by_cases hid:inB id 1 1000000000=false
 ·go_enter Tryz.func86,Tryz.ntmps86;go_wp2_with (go_at_call 87;refine(mK _ _).mono ?_;rintro e w' ⟨rfl,rfl⟩);go_ret;exact⟨by simp[fA,hid],bA (bR _ _) _⟩
 have hid':inB id 1 1000000000=true:=by simpa using hid
 have hn:xs.length<2∨8<xs.length:=by
  rcases h with h|h
  ·exact absurd h hid
  exact h
 have hcf:fA id xs=2:=by simp[fA,hid',hn]
 rw[hcf];generalize xs.length=n at *;clear hid h hcf;rcases hn with hn|hn
 ·have h1:(n:Int)<2:=oM;go_enter Tryz.func86,Tryz.ntmps86;go_wp2_with (go_at_call 87;refine(mK _ _).mono ?_;rintro e w' ⟨rfl,rfl⟩);go_ret;exact⟨rfl,bA (bR _ _) _⟩
 have h1:¬(n:Int)<2:=oM;have h2:(8:Int)<(n:Int):=oM;go_enter Tryz.func86,Tryz.ntmps86;go_wp2_with (go_at_call 87;refine(mK _ _).mono ?_;rintro e w' ⟨rfl,rfl⟩);go_ret;exact⟨rfl,bA (bR _ _) _⟩
theorem fDj (id:Int) (x:Value) (xs:List Leg) (w:World) (hx:uX w x xs) (hid:inB id 1 1000000000=true) (hn2:2≤xs.length) (hn8:xs.length≤8) :
  RI 86 #[.agg #[.int .i64 id,x]] w (.int .i64 (fA id xs)):=by
 obtain⟨ax,cx,rfl,hcx,hmx,hx⟩:=hx;unfold maxLen at hmx;generalize hn':xs.length=n at *;have HN:Hid (xs.length=n):=hn';clear hn';have h1:¬(n:Int)<2:=oM;have h2:¬(8:Int)<(n:Int):=oM;have hmk:=fSp;go_enter Tryz.func86,Tryz.ntmps86;go_wp2_with (go_at_call 87;refine(mK _ _).mono ?_;rintro e w' ⟨rfl,rfl⟩);go_loopw [4] (fun i w'=>∃k:Nat,k≤n∧i =.int .i64 k∧okTo xs k∧(∀j:Nat,j<3→w'.cell? ⟨w.heap.size+1,j,none⟩=some (.int .i64 (sumA j (xs.take k)))∧w'.frozen? ⟨w.heap.size+1,j,none⟩=false) ∧
   w'.cell? ⟨w.heap.size,1,none⟩=some (.slice ax n cx)∧w.heap.size+1<w'.heap.size∧Below w.heap.size w w') (fun i _=>n-(intOf i).toNat)
 case atStart=>
  refine⟨0,oM,rfl,fun j h=>oM,fun j hj=>?_,by simp[go_sem],by simp,bA (bA (bR _ _) _) _⟩;match j,hj with
  | 0,_=>exact⟨by simp[go_sem,sumA],sG⟩
  | 1,_=>exact⟨by simp[go_sem,sumA],sG⟩
  | 2,_=>exact⟨by simp[go_sem,sumA],sG⟩
 obtain⟨k,hk,rfl,hok,hs,hcx1,hsz,hbl⟩:=hrel;generalize wr=wo at *;have HO:Hid (okTo xs k):=hok;have HS:Hid (∀j:Nat,j<3→wo.cell? ⟨w.heap.size+1,j,none⟩=some (.int .i64 (sumA j (xs.take k)))∧wo.frozen? ⟨w.heap.size+1,j,none⟩=false):=hs;clear hok hs;by_cases hlt:k<n
 ·
  obtain⟨bx,ox,rfl,g1⟩:=hx k hlt;obtain⟨l,hl⟩:∃l,l=xs.getD k default:=⟨_,rfl⟩
  rw[←hl] at g1;have HL:Hid (l=xs.getD k default):=hl;clear hl;obtain⟨a1,a2,a3,a4⟩:=fK hbl g1;go_wp2_with fail;refine(fBb l _).mono ?_;rintro e w2 ⟨rfl,hb2⟩;obtain⟨hc2,hf2⟩:=bcell hb2;have hbl2:Below w.heap.size w w2:=bS (bA hbl _) hb2;have hz2:wo.heap.size<w2.heap.size:=by have:=hb2.size;simp at this;omega
  have hcx2:w2.cell? ⟨w.heap.size,1,none⟩=some (.slice (some ⟨bx,ox,none⟩) n cx):=by
   rw[hc2 _ _ (by simp;omega)];simp[go_sem,hcx1,show w.heap.size<wo.heap.size by omega]
  have hl2:kW w2 wo.heap.size 0 l:=by
   refine⟨?_,?_,?_,?_⟩ <;> (rw[hc2 _ _ (by simp)];simp[go_sem])
  have HS2:Hid (∀j:Nat,j<3→w2.cell? ⟨w.heap.size+1,j,none⟩=some (.int .i64 (sumA j (xs.take k)))∧w2.frozen? ⟨w.heap.size+1,j,none⟩=false):=by
   intro j hj;have:=HS.out j hj;rw[hc2 _ _ (by simp;omega),hf2 _ _ (by simp;omega)];simpa [go_sem,hsz] using this
  clear hc2 hf2 hb2 a1 a2 a3 a4 hcx1 HS hbl;by_cases hlf:gD l=0
  ·
   have HF:Hid (gD l=0):=hlf;rw[hlf];clear hlf;go_wp2;go_loopw [7] (fun i w'=>∃m:Nat,m≤k∧i =.int .i64 m∧fQ (xs.take m) l=false∧Below w2.heap.size w2 w') (fun i _=>k-(intOf i).toNat)
   case atStart=>exact⟨0,oM,rfl,by simp[fQ],bR _ _⟩
   obtain⟨m,hm,rfl,hp,hb3⟩:=hrel;have HP:Hid (fQ (xs.take m) l=false):=hp;clear hp;by_cases hmk':m<k
   ·
    obtain⟨b',o',he,g2⟩:=hx m oM;simp only[Option.some.injEq,Addr.mk.injEq,and_true] at he;obtain⟨rfl,rfl⟩:=he;obtain⟨o,ho⟩:∃o,o=xs.getD m default:=⟨_,rfl⟩
    rw[←ho] at g2;have HO2:Hid (o=xs.getD m default):=ho;clear ho;obtain⟨c1,c2,c3,c4⟩:=fK (bS hbl2 hb3) g2;obtain⟨d1,d2,d3,d4⟩:=fK hb3 hl2;simp only[Nat.zero_add] at d1 d2 d3 d4;have e1:wr.cell? ⟨w.heap.size,1,none⟩=some (.slice (some ⟨bx,ox,none⟩) n cx):=by
     rw[(bcell hb3).1 _ _ oM];exact hcx2
    have hz3:wo.heap.size<wr.heap.size:=by have:=hb3.size;omega
    have hz4:w.heap.size<wr.heap.size:=oM;have hz5:bx<wr.heap.size:=wL wr _ c1;go_wp2
    ·
     rename_i s1 s2 s3;go_ret;refine⟨?_,bA (bS hbl2 hb3) _⟩;have hp:fQ (xs.take k) (xs.getD k default)=true:=by
      refine zD (k:=m+1) oM ?_;rw[rP xs m (by have:=HN.out;omega),←HL.out,←HO2.out];have:l.ast=o.ast:=by simpa using (Eq.symm (by simpa using s3:o.ast=l.ast))
      simp[rF,s1,s2,this]
     have:=HN.out;rw[fJ7 hid oM oM (k:=k) oM HO.out (by rw[←HL.out];exact HF.out) hp];rfl
    all_goals
     refine⟨⟨m+1,by omega,by go_num,?_,bA hb3 _⟩,mI⟩;rw[rP xs m (by have:=HN.out;omega),←HO2.out,HP.out];simp_all [rF]
   have hmk2:m=k:=oM;subst hmk2;obtain⟨d1,d2,d3,d4⟩:=fK hb3 hl2;simp only[Nat.zero_add] at d1 d2 d3 d4;have hz3:wo.heap.size<wr.heap.size:=by have:=hb3.size;omega
   have hz4:w.heap.size<wr.heap.size:=oM;have lz:=gQ HF.out;obtain⟨_,_,⟨q1,q2⟩,⟨q3,q4⟩,_⟩:=lz;have q2':l.ast<3:=oM;have HS3:Hid (∀j:Nat,j<3→wr.cell? ⟨w.heap.size+1,j,none⟩=some (.int .i64 (sumA j (xs.take m)))∧wr.frozen? ⟨w.heap.size+1,j,none⟩=false):=by
    intro j hj;rw[(bcell hb3).1 _ _ oM,(bcell hb3).2 _ _ oM];exact HS2.out j hj
   have f1:=HS3.out l.ast.toNat oM;obtain⟨f1,f2⟩:=f1;rw[show((l.ast.toNat:Nat):Int)=l.ast by omega] at f1;obtain⟨s,hs⟩:∃s,s=sumA l.ast (xs.take m):=⟨_,rfl⟩
   have sb:=fEx l.ast xs m (by have:=HN.out;omega) HO.out;rw[←hs] at f1 sb;have HSS:Hid (s=sumA l.ast (xs.take m)):=hs;clear hs;obtain⟨sb1,sb2⟩:=sb;have sb3 : -8000000000000≤s:=oM;have sb4:s≤8000000000000:=oM;clear sb1 sb2;go_wp2;go_region;go_wp2;have hmn:m<xs.length:=by have:=HN.out;omega
   refine⟨⟨m+1,by omega,by go_num,fCf HO.out (by rw[←HL.out];exact HF.out) (by rw[←HL.out];exact HP.out),?_,?_,by simp;omega,?_⟩,mI⟩
   ·
    intro j hj;have old:=HS3.out j hj;show(wr.setCell _ _).cell? _=_∧(wr.setCell _ _).frozen? _=_;rw[World.frozen?_setCell];refine⟨?_,old.2⟩;rw[fHt (j:Int) xs m hmn,←HL.out];by_cases hje:l.ast.toNat=j
    ·subst hje;rw[uE f1,HSS.out,show((l.ast.toNat:Nat):Int)=l.ast by omega,if_pos rfl]
    rw[gU (by simp),old.1,if_neg oM,Int.add_zero]
   ·show(wr.setCell _ _).cell? _=_;rw[gU (by simp)];rw[(bcell hb3).1 _ _ oM];exact hcx2
   exact(bset (bS hbl2 hb3) (by simp) _).drew
  have hd:(gD l==0)=false:=by simpa using hlf
  go_wp2;go_ret;refine⟨?_,hbl2⟩;have:=HN.out;rw[fQq hid oM oM (k:=k) oM HO.out (by rw[←HL.out];exact hlf),←HL.out];rfl
 have hkn:k=n:=oM;subst hkn;have t0:xs.take k=xs:=by rw[←HN.out];exact List.take_length
 rw[t0] at HS;have HO':Hid (okTo xs xs.length):=by rw[HN.out];exact HO.out
 clear HO;go_wp2;go_loopw [9] (fun i w'=>∃m:Nat,m≤3∧i =.int .i64 m∧(∀j:Nat,j<m→sumA j xs=0)∧w'=wo) (fun i _=>3-(intOf i).toNat)
 case atStart=>exact⟨0,by omega,rfl,fun j h=>oM,rfl⟩
 obtain⟨m,hm,rfl,hp,rfl⟩:=hrel;have HP:Hid (∀j:Nat,j<m→sumA j xs=0):=hp;clear hp;by_cases hm3:m<3
 ·
  obtain⟨f1,_⟩:=HS.out m hm3;obtain⟨s,hs⟩:∃s,s=sumA m xs:=⟨_,rfl⟩
  rw[←hs] at f1;have HSS:Hid (s=sumA m xs):=hs;clear hs;by_cases hs0:s=0
  ·
   subst hs0;go_wp2;refine⟨⟨m+1,by omega,by go_num,fun j hj=>?_,trivial⟩,mI⟩;by_cases hjm:j<m
   ·exact HP.out j hjm
   have:j=m:=oM;subst this;exact HSS.out.symm
  have hd:(s==0)=false:=by simpa using hs0
  go_wp2;go_ret;have:=HN.out;rw[fRv hid oM oM HO'.out]
  ·exact⟨rfl,hbl⟩
  intro ⟨z0,z1,z2⟩;apply hs0;rw[HSS.out];match m,hm3 with
  | 0,_=>exact z0
  | 1,_=>exact z1
  | 2,_=>exact z2
 have hm3':m=3:=oM;subst hm3';go_wp2;go_ret;have:=HN.out;rw[fQ3 hid oM oM HO'.out ⟨HP.out 0 oM,HP.out 1 oM,HP.out 2 oM⟩];exact⟨rfl,hbl⟩
theorem rT (id:Int) (x:Value) (xs:List Leg) (w:World) (hx:uX w x xs) :
  RI 86 #[.agg #[.int .i64 id,x]] w (.int .i64 (fA id xs)):=by
 by_cases h:inB id 1 1000000000=false∨xs.length<2∨8<xs.length
 ·exact fCs id x xs w hx h
 have h1:inB id 1 1000000000=true:=by
  cases hb:inB id 1 1000000000 with
  | true=>rfl
  | false=>exact absurd (Or.inl hb) h
 exact fDj id x xs w hx h1 oM oM
theorem fLy:Tryz.prog.eqGuardType Tryz.prog.depth 168=false:=kF
theorem fP2 (o l:Leg) (w:World):(binOp .eql 168 (.agg #[.int .i64 o.sh,.int .i64 o.ac,.int .i64 o.ast,.int .i64 0]) (.agg #[.int .i64 l.sh,.int .i64 l.ac,.int .i64 l.ast,.int .i64 0])).run Tryz.prog w =.ok (.bool (rF o l)) w:=by
 rw[run_eql_struct,run_equalIn_struct w 9999 168 _ _ kF kF];have hf : (Tryz.prog.fieldsOf 168).toList = [{ name := "Shard", type := 2, offset := 0, embedded := false, tag := "", pkgPath := "", byteOffset := 0 }, { name := "Account", type := 2, offset := 1, embedded := false, tag := "", pkgPath := "", byteOffset := 8 }, { name := "Asset", type := 2, offset := 2, embedded := false, tag := "", pkgPath := "", byteOffset := 16 }, { name := "Amount", type := 2, offset := 3, embedded := false, tag := "", pkgPath := "", byteOffset := 24 }] := kF
 rw[hf];simp[Op.eqFields,go_sem,rF];by_cases e1:o.sh=l.sh <;> by_cases e2:o.ac=l.ac <;> by_cases e3:o.ast=l.ast <;> simp[e1,e2,e3]
theorem yF (x:Value) (xs:List Leg) (l:Leg) (w:World) (hx:uX w x xs) :
  RI 171 #[x,legV l] w (.bool (fQ xs l)):=by
 obtain⟨ax,cx,rfl,hcx,hmx,hx⟩:=hx;unfold maxLen at hmx;generalize hn':xs.length=n at *;have HN:Hid (xs.length=n):=hn';clear hn';unfold legV;go_enter Tryz.func171,Tryz.ntmps171;go_wp2;go_loopw [9] (fun i w'=>∃k:Nat,k≤n∧i =.int .i64 k∧fQ (xs.take k) l=false∧kW w' w.heap.size 0 l∧w.heap.size<w'.heap.size∧Below w.heap.size w w') (fun i _=>n-(intOf i).toNat)
 case atStart=>exact⟨0,oM,rfl,by simp[fQ],⟨sG,by simp[go_sem],sG,by simp[go_sem]⟩,by simp,bA (bR _ _) _⟩
 obtain⟨k,hk,rfl,hp,hl,hz,hbl⟩:=hrel;have HP:Hid (fQ (xs.take k) l=false):=hp;clear hp;by_cases hlt:k<n
 ·
  obtain⟨bx,ox,rfl,g1⟩:=hx k hlt;obtain⟨o,ho⟩:∃o,o=xs.getD k default:=⟨_,rfl⟩
  rw[←ho] at g1;have HO:Hid (o=xs.getD k default):=ho;clear ho hx;obtain⟨a1,a2,a3,a4⟩:=fK hbl g1;have h1:kW (wr.alloc (.cells #[.int .i64 o.sh,.int .i64 o.ac,.int .i64 o.ast,.int .i64 o.am] 168)) wr.heap.size 0 o:=⟨sG,by simp[go_sem],sG,by simp[go_sem]⟩;have h2:=fK (bA (Below.refl _ wr) (.cells #[.int .i64 o.sh,.int .i64 o.ac,.int .i64 o.ast,.int .i64 o.am] 168)) hl;go_wp2;generalize hW:wr.alloc (.cells #[.int .i64 o.sh,.int .i64 o.ac,.int .i64 o.ast,.int .i64 o.am] 168)=W at *;have HW:Hid (wr.alloc (.cells #[.int .i64 o.sh,.int .i64 o.ac,.int .i64 o.ast,.int .i64 o.am] 168)=W):=hW;clear hW;have heq:=fP2 o l;have hgd:=fLy;go_region_held3 (fun w'=>Below W.heap.size W w'∧(w'.cell? ⟨wr.heap.size,0,none⟩=some (.int .i64 o.sh)∧w'.cell? ⟨wr.heap.size,1,none⟩=some (.int .i64 o.ac)∧w'.cell? ⟨wr.heap.size,2,none⟩=some (.int .i64 o.ast)∧w'.cell? ⟨wr.heap.size,3,none⟩=some (.int .i64 o.am))∧(w'.cell? ⟨w.heap.size,0,none⟩=some (.int .i64 l.sh)∧w'.cell? ⟨w.heap.size,1,none⟩=some (.int .i64 l.ac)∧w'.cell? ⟨w.heap.size,2,none⟩=some (.int .i64 l.ast)∧w'.cell? ⟨w.heap.size,3,none⟩=some (.int .i64 l.am))) ((refine keep2 ?_ h1 h2;repeat (first|exact bR _ _|assumption|refine bD ?_|refine bA ?_ _|refine bS ?_ (by assumption)))) (first|(go_at_call_of 190 (o.sh);refine(fCh o _).mono ?_;rintro e w' ⟨rfl,hb1⟩;simp only[legV])|(go_at_call_of 190 (l.sh);refine(fCh l _).mono ?_;rintro e w' ⟨rfl,hb2⟩;simp only[legV]));all_goals
   rename_i hH;have hB:=hH.1;clear hH heq hgd;have hBw:Below w.heap.size w w':=by
    have e:=HW.out;subst e;exact bS (bA hbl _) hB
   go_wp2
   ·
    rename_i hs;go_ret;refine⟨?_,hBw⟩;have:fQ xs l=true:=by
     have h:=zD (xs:=xs) (k:=k+1) (m:=xs.length) (l:=l) (by have:=HN.out;omega) (by rw[rP xs k (by have:=HN.out;omega),←HO.out,hs];simp);rwa [List.take_length] at h
    rw[this];rfl
   rename_i hs;refine⟨⟨k+1,by omega,by go_num,?_,fK hB h2,by have:=wL _ _ (fK hB h2).1;simpa using this,hBw⟩,mI⟩;rw[rP xs k (by have:=HN.out;omega),←HO.out,HP.out];simpa using hs
 go_wp2;go_ret;have hkn:k=n:=oM;subst hkn;have t0:xs.take k=xs:=by rw[←HN.out];exact List.take_length
 have:=HP.out;rw[t0] at this;exact⟨by rw[this];rfl,hbl⟩
def mY (a:Int):List Leg→Int
 | []=>0
 | l::r=>(if l.ast=a∧0<l.am then l.am else 0)+mY a r
def pE (a:Int):List Leg→Int
 | []=>0
 | l::r=>(if l.ast=a∧¬0<l.am then l.am else 0)+pE a r
theorem fIl (a:Int) (xs:List Leg):mY a xs+pE a xs=sumA a xs:=by
 induction xs with
 | nil=>simp[mY,pE,sumA]
 | cons l r ih=>
  simp only[mY,pE,sumA];by_cases h1:l.ast=a <;> by_cases h2:0<l.am <;> simp[h1,h2] <;> omega
theorem fFg (a:Int) (l r:List Leg):mY a (l++r)=mY a l+mY a r:=by
 induction l with
 | nil=>simp[mY]
 | cons x l ih=>simp only[List.cons_append,mY,ih];omega
theorem fF5 (a:Int) (l r:List Leg):pE a (l++r)=pE a l+pE a r:=by
 induction l with
 | nil=>simp[pE]
 | cons x l ih=>simp only[List.cons_append,pE,ih];omega
theorem fB1 (a:Int) (xs:List Leg) (k:Nat) (h:k<xs.length):mY a (xs.take (k+1))=mY a (xs.take k)+if (xs.getD k default).ast=a∧0<(xs.getD k default).am then (xs.getD k default).am else 0:=by
 rw[qM xs k h,fFg];simp[mY]
theorem fCw (a:Int) (xs:List Leg) (k:Nat) (h:k<xs.length):pE a (xs.take (k+1))=pE a (xs.take k)+if (xs.getD k default).ast=a∧¬0<(xs.getD k default).am then (xs.getD k default).am else 0:=by
 rw[qM xs k h,fF5];simp[pE]
def small (xs:List Leg):Prop:=∀j,j<xs.length → -1000000000000≤(xs.getD j default).am∧(xs.getD j default).am≤1000000000000
theorem fJn {xs:List Leg} (h:okTo xs xs.length):small xs:=fun j hj=>(gQ (h j hj).1).2.2.2.1
theorem xD (a:Int) (xs:List Leg) (hs:small xs):∀k,k≤xs.length→0≤mY a (xs.take k)∧mY a (xs.take k)≤k*1000000000000
 | 0,_=>by simp[mY]
 | k+1,hk=>by
  have ih:=xD a xs hs k oM;have hb:=hs k oM;rw[fB1 a xs k oM];split <;> omega
theorem xN (a:Int) (xs:List Leg) (hs:small xs):∀k,k≤xs.length → -(k*1000000000000:Int)≤pE a (xs.take k)∧pE a (xs.take k)≤0
 | 0,_=>by simp[pE]
 | k+1,hk=>by
  have ih:=xN a xs hs k oM;have hb:=hs k oM;rw[fCw a xs k oM];split <;> omega
theorem fMz (x:Value) (xs:List Leg) (asset:Int) (w:World) (hx:uX w x xs) (hn8:xs.length≤8) (hs:small xs) :
  RI 191 #[x,.int .i64 asset] w (.agg #[.int .i64 (mY asset xs),.int .i64 (pE asset xs)]):=by
 obtain⟨ax,cx,rfl,hcx,hmx,hx⟩:=hx;unfold maxLen at hmx;have HS:Hid (small xs):=hs;clear hs;generalize hn':xs.length=n at *;have HN:Hid (xs.length=n):=hn';clear hn';go_enter Tryz.func191,Tryz.ntmps191;go_wp2;go_loopw [10] (fun i w'=>∃k:Nat,k≤n∧i =.int .i64 k∧w'.cell? ⟨w.heap.size+1,0,none⟩=some (.int .i64 (mY asset (xs.take k)))∧w'.cell? ⟨w.heap.size+1,1,none⟩=some (.int .i64 (pE asset (xs.take k))) ∧
   (∀o,w'.frozen? ⟨w.heap.size+1,o,none⟩=false)∧(∀o,w'.frozen? ⟨w.heap.size,o,none⟩=false)∧w'.cell? ⟨w.heap.size,0,none⟩=some (.int .i64 0)∧w'.cell? ⟨w.heap.size,1,none⟩=some (.int .i64 0)∧w.heap.size+1<w'.heap.size∧Below w.heap.size w w') (fun i _=>n-(intOf i).toNat)
 case atStart=>exact⟨0,oM,rfl,by simp[go_sem,mY],by simp[go_sem,pE],sG,by simp[go_sem],sG,by simp[go_sem],by simp,bA (bA (bR _ _) _) _⟩
 obtain⟨k,hk,rfl,hg,ht,hf1,hf0,hr0,hr1,hz,hbl⟩:=hrel;by_cases hlt:k<n
 ·
  obtain⟨bx,ox,rfl,g1⟩:=hx k hlt;obtain⟨l,hl⟩:∃l,l=xs.getD k default:=⟨_,rfl⟩
  rw[←hl] at g1;have HL:Hid (l=xs.getD k default):=hl;clear hl hx;obtain⟨a1,a2,a3,a4⟩:=fK hbl g1;have gb:=xD asset xs HS.out k (by have:=HN.out;omega);have tb:=xN asset xs HS.out k (by have:=HN.out;omega);have sb:=HS.out k (by have:=HN.out;omega);rw[←HL.out] at sb;obtain⟨g,hge⟩:∃g,g=mY asset (xs.take k):=⟨_,rfl⟩
  obtain⟨t,hte⟩:∃t,t=pE asset (xs.take k):=⟨_,rfl⟩
  rw[←hge] at hg gb;rw[←hte] at ht tb;have HG:Hid (g=mY asset (xs.take k)):=hge;have HT:Hid (t=pE asset (xs.take k)):=hte;clear hge hte;obtain⟨sb1,sb2⟩:=sb;have gb1:0≤g:=gb.1;have gb2:g≤8000000000000:=oM;have tb1 : -8000000000000≤t:=oM;have tb2:t≤0:=tb.2;clear gb tb;have hkx:k<xs.length:=by have:=HN.out;omega
  have eg:mY asset (xs.take (k+1))=g+if l.ast=asset∧0<l.am then l.am else 0:=by rw[fB1 asset xs k hkx,←HL.out,HG.out]
  have et:pE asset (xs.take (k+1))=t+if l.ast=asset∧¬0<l.am then l.am else 0:=by rw[fCw asset xs k hkx,←HL.out,HT.out]
  have HEG:Hid (mY asset (xs.take (k+1))=g+if l.ast=asset∧0<l.am then l.am else 0):=eg;have HET:Hid (pE asset (xs.take (k+1))=t+if l.ast=asset∧¬0<l.am then l.am else 0):=et;clear eg et;have hz0:w.heap.size<wr.heap.size:=oM;go_wp2
  ·
   rename_i h1;have h1':¬l.ast=asset:=by simpa using h1
   have e1:=HEG.out;have e2:=HET.out;rw[if_neg (fun h=>h1' h.1),Int.add_zero] at e1 e2;refine⟨⟨k+1,by omega,by go_num,?_,?_,?_,?_,?_,?_,?_,bA hbl _⟩,mI⟩
   ·rw[e1];simp[go_sem,hz,hg]
   ·rw[e2];simp[go_sem,hz,ht]
   ·simp[go_sem,hz,hf1]
   ·simp[go_sem,hz0,hf0]
   ·simp[go_sem,hz0,hr0]
   ·simp[go_sem,hz0,hr1]
   simp;omega
  ·
   rename_i h1 h2;have h1':l.ast=asset:=by simpa using h1
   have e1:=HEG.out;have e2:=HET.out;rw[if_pos ⟨h1',h2⟩] at e1;rw[if_neg (fun h=>h.2 h2),Int.add_zero] at e2;refine⟨⟨k+1,by omega,by go_num,?_,?_,?_,?_,?_,?_,?_,bA (bset hbl (by simp) _) _⟩,mI⟩
   ·rw[e1,World.cell?_alloc_past _ _ _ (by simp;omega)];exact uE hg
   ·rw[e2,World.cell?_alloc_past _ _ _ (by simp;omega),gU (by simp)];exact ht
   ·simp[go_sem,hz,hf1]
   ·simp[go_sem,hz0,hf0]
   ·rw[World.cell?_alloc_past _ _ _ (by simp;omega),gU (by simp)];exact hr0
   ·rw[World.cell?_alloc_past _ _ _ (by simp;omega),gU (by simp)];exact hr1
   simp;omega
  rename_i h1 h2;have h1':l.ast=asset:=by simpa using h1
  have e1:=HEG.out;have e2:=HET.out;rw[if_neg (fun h=>oM),Int.add_zero] at e1;rw[if_pos ⟨h1',oM⟩] at e2;refine⟨⟨k+1,by omega,by go_num,?_,?_,?_,?_,?_,?_,?_,bA (bset hbl (by simp) _) _⟩,mI⟩
  ·rw[e1,World.cell?_alloc_past _ _ _ (by simp;omega),gU (by simp)];exact hg
  ·rw[e2,World.cell?_alloc_past _ _ _ (by simp;omega)];exact uE ht
  ·simp[go_sem,hz,hf1]
  ·simp[go_sem,hz0,hf0]
  ·rw[World.cell?_alloc_past _ _ _ (by simp;omega),gU (by simp)];exact hr0
  ·rw[World.cell?_alloc_past _ _ _ (by simp;omega),gU (by simp)];exact hr1
  simp;omega
 have hkn:k=n:=oM;subst hkn;have t0:xs.take k=xs:=by rw[←HN.out];exact List.take_length
 rw[t0] at hg ht;go_wp2;refine bodyPost_ret (v:=.agg #[.int .i64 (mY asset xs),.int .i64 (pE asset xs)]) ?_ rfl ⟨rfl,bset (bset hbl (by simp) _) (by simp) _⟩;simp[results,Tryz.results191,go_sem,hr0,hr1]
def fO5 (xs:List Leg):Int:=if sumA 0 xs=0∧sumA 1 xs=0∧sumA 2 xs=0 then 0 else 1
theorem fF4 (x:Value) (xs:List Leg) (w:World) (hx:uX w x xs) (hn8:xs.length≤8) (hs:small xs) :
  RI 172 #[x] w (.int .i64 (fO5 xs)):=by
 have HS:Hid (small xs):=hs;clear hs;go_enter Tryz.func172,Tryz.ntmps172;go_wp2;go_loopw [3] (fun i w'=>∃m:Nat,m≤3∧i =.int .i64 m∧(∀j:Nat,j<m→sumA j xs=0)∧Below w.heap.size w w') (fun i _=>3-(intOf i).toNat)
 case atStart=>exact⟨0,by omega,rfl,fun j h=>oM,bR _ _⟩
 obtain⟨m,hm,rfl,hp,hbl⟩:=hrel;have HP:Hid (∀j:Nat,j<m→sumA j xs=0):=hp;clear hp;by_cases hm3:m<3
 ·
  have hm3':(m:Int)<3:=oM;have gb:=xD m xs HS.out xs.length (Nat.le_refl _);have tb:=xN m xs HS.out xs.length (Nat.le_refl _);have gt:=fIl m xs;rw[List.take_length] at gb tb;go_wp2_with fail;refine(fMz x xs m _ (kE hx hbl) hn8 HS.out).mono ?_;rintro e w1 ⟨rfl,hb1⟩;obtain⟨g,hge⟩:∃g,g=mY m xs:=⟨_,rfl⟩
  obtain⟨t,hte⟩:∃t,t=pE m xs:=⟨_,rfl⟩
  obtain⟨s,hse⟩:∃s,s=sumA m xs:=⟨_,rfl⟩
  rw[←hge,←hte,←hse] at gt;rw[←hge] at gb;rw[←hte] at tb;rw[←hge,←hte];have HSS:Hid (s=sumA m xs):=hse;have HGT:Hid (g+t=s):=gt;clear hge hte hse gt;have gb1:0≤g:=gb.1;have gb2:g≤8000000000000:=oM;have tb1 : -8000000000000≤t:=oM;have tb2:t≤0:=tb.2;clear gb tb;by_cases hs0:g+t=0
  ·
   have hd:(g+t==0)=true:=by simpa using hs0
   have HD:Hid (g+t=0):=hs0;clear hs0;go_wp2;refine⟨⟨m+1,by omega,by go_num,fun j hj=>?_,bA (bS hbl hb1) _⟩,mI⟩;by_cases hjm:j<m
   ·exact HP.out j hjm
   have:j=m:=oM;subst this;rw[←HSS.out,←HGT.out,HD.out]
  have hd:(g+t==0)=false:=by simpa using hs0
  have HD:Hid (¬g+t=0):=hs0;clear hs0;go_wp2;go_ret;refine⟨?_,bA (bS hbl hb1) _⟩;rw[fO5,if_neg]
  ·rfl
  intro ⟨z0,z1,z2⟩;apply HD.out;rw[HGT.out,HSS.out];match m,hm3 with
  | 0,_=>exact z0
  | 1,_=>exact z1
  | 2,_=>exact z2
 have hm3':m=3:=oM;subst hm3';go_wp2;go_ret;rw[fO5,if_pos ⟨HP.out 0 oM,HP.out 1 oM,HP.out 2 oM⟩];exact⟨rfl,hbl⟩
theorem fB7 (id:Int) (x:Value) (xs:List Leg) (w:World) (hx:uX w x xs) (h:inB id 1 1000000000=false∨xs.length<2∨8<xs.length) :
  RI 142 #[.agg #[.int .i64 id,x]] w (.int .i64 (fA id xs)):=by
 obtain⟨ax,cx,rfl,hcx,hmx,hx⟩:=hx;unfold maxLen at hmx;clear hx;by_cases hid:inB id 1 1000000000=false
 ·go_enter Tryz.func142,Tryz.ntmps142;go_wp2_with (go_at_call 146;refine(kG _ _).mono ?_;rintro e w' ⟨rfl,rfl⟩);go_ret;exact⟨by simp[fA,hid],bA (bR _ _) _⟩
 have hid':inB id 1 1000000000=true:=by simpa using hid
 have hn:xs.length<2∨8<xs.length:=by
  rcases h with h|h
  ·exact absurd h hid
  exact h
 have hcf:fA id xs=2:=by simp[fA,hid',hn]
 rw[hcf];generalize xs.length=n at *;clear hid h hcf;rcases hn with hn|hn
 ·have h1:(n:Int)<2:=oM;go_enter Tryz.func142,Tryz.ntmps142;go_wp2_with (go_at_call 146;refine(kG _ _).mono ?_;rintro e w' ⟨rfl,rfl⟩);go_ret;exact⟨rfl,bA (bR _ _) _⟩
 have h1:¬(n:Int)<2:=oM;have h2:(8:Int)<(n:Int):=oM;go_enter Tryz.func142,Tryz.ntmps142;go_wp2_with (go_at_call 146;refine(kG _ _).mono ?_;rintro e w' ⟨rfl,rfl⟩);go_ret;exact⟨rfl,bA (bR _ _) _⟩
theorem fL2 (xs:List Leg) (k i:Nat) (h:i<k):(xs.take k).getD i default=xs.getD i default:=by
 simp[List.getD,h]
theorem fLi {w:World} {a:Option Addr} {cap n k:Nat} {xs:List Leg} (hn:xs.length=n) (hk:k≤n) (h1:n≤cap) (h2:cap≤maxLen) (h:∀i,i<n→∃b o,a=some ⟨b,o,none⟩∧kW w b (o+i*4) (xs.getD i default)) :
  uX w (.slice a k cap) (xs.take k):=by
 have hl:(xs.take k).length=k:=by rw[List.length_take];omega
 refine⟨a,cap,by rw[hl],oM,h2,fun i hi=>?_⟩;rw[hl] at hi;obtain⟨b,o,ha,hc⟩:=h i oM;exact⟨b,o,ha,by rw[fL2 xs k i hi];exact hc⟩
theorem fDc (id:Int) (x:Value) (xs:List Leg) (w:World) (hx:uX w x xs) (hid:inB id 1 1000000000=true) (hn2:2≤xs.length) (hn8:xs.length≤8) :
  RI 142 #[.agg #[.int .i64 id,x]] w (.int .i64 (fA id xs)):=by
 have hx0:=hx;obtain⟨ax,cx,rfl,hcx,hmx,hx⟩:=hx;have HX0:Hid (uX w (.slice ax xs.length cx) xs):=hx0;clear hx0;have HMX:Hid (cx≤maxLen):=hmx;unfold maxLen at hmx;generalize hn':xs.length=n at *;have HN:Hid (xs.length=n):=hn';clear hn';have h1:¬(n:Int)<2:=oM;have h2:¬(8:Int)<(n:Int):=oM;go_enter Tryz.func142,Tryz.ntmps142;go_wp2_with (go_at_call 146;refine(kG _ _).mono ?_;rintro e w' ⟨rfl,rfl⟩);go_loopw [23] (fun i w'=>∃k:Nat,k≤n∧i =.int .i64 k∧okTo xs k∧w'.cell? ⟨w.heap.size,1,none⟩=some (.slice ax n cx)∧w.heap.size<w'.heap.size∧Below w.heap.size w w') (fun i _=>n-(intOf i).toNat)
 case atStart=>exact⟨0,oM,rfl,fun j h=>oM,by simp[go_sem],by simp,bA (bR _ _) _⟩
 obtain⟨k,hk,rfl,hok,hcx1,hsz,hbl⟩:=hrel;generalize wr=wo at *;have HO:Hid (okTo xs k):=hok;clear hok;by_cases hlt:k<n
 ·
  obtain⟨bx,ox,rfl,g1⟩:=hx k hlt;have HX:Hid (∀i,i<n→∃b o,some (⟨bx,ox,none⟩:Addr)=some ⟨b,o,none⟩∧kW w b (o+i*4) (xs.getD i default)):=hx;clear hx;obtain⟨l,hl⟩:∃l,l=xs.getD k default:=⟨_,rfl⟩
  rw[←hl] at g1;have HL:Hid (l=xs.getD k default):=hl;clear hl;obtain⟨a1,a2,a3,a4⟩:=fK hbl g1;go_wp2_with fail;refine(fA8 l _).mono ?_;rintro e w2 ⟨rfl,hb2⟩;obtain⟨hc2,hf2⟩:=bcell hb2;have hbl2:Below w.heap.size w w2:=bS (bA hbl _) hb2;have hz2:wo.heap.size<w2.heap.size:=by have:=hb2.size;simp at this;omega
  have hcx2:w2.cell? ⟨w.heap.size,1,none⟩=some (.slice (some ⟨bx,ox,none⟩) n cx):=by
   rw[hc2 _ _ (by simp;omega)];simp[go_sem,hcx1,show w.heap.size<wo.heap.size by omega]
  have hl2:kW w2 wo.heap.size 0 l:=by
   refine⟨?_,?_,?_,?_⟩ <;> (rw[hc2 _ _ (by simp)];simp[go_sem])
  clear hc2 hf2 hb2 a1 a2 a3 a4 hcx1 hbl;by_cases hlf:gD l=0
  ·
   have HF:Hid (gD l=0):=hlf;rw[hlf];clear hlf;have hkb:(k:Int)≤(cx:Int):=oM;have hk0:(0:Int)≤(k:Int):=oM;go_wp2;go_region_held3 (fun w'=>Below w2.heap.size w2 w'∧w'.cell? ⟨w.heap.size,1,none⟩=some (.slice (some ⟨bx,ox,none⟩) n cx)∧w'.cell? ⟨wo.heap.size,0,none⟩=some (.int .i64 l.sh)∧w'.cell? ⟨wo.heap.size,1,none⟩=some (.int .i64 l.ac)∧w'.cell? ⟨wo.heap.size,2,none⟩=some (.int .i64 l.ast)∧w'.cell? ⟨wo.heap.size,3,none⟩=some (.int .i64 l.am))
    ((refine(fun hb=>⟨hb,(hb.cell (p:=⟨w.heap.size,1,none⟩) (by exact Nat.lt_trans hsz hz2)).trans hcx2,fK hb hl2⟩:Below w2.heap.size w2 _→_) ?_;repeat (first|exact bR _ _|assumption|refine bD ?_|refine bS ?_ (by assumption))))
    (first|(go_at_call 171;refine(yF _ (xs.take k) l _ ?_).mono ?_;exact fLi HN.out hk hcx HMX.out (fun i hi=>(HX.out i hi).imp fun b h=>h.imp fun o h=>⟨h.1,fK (bS hbl2 (bR _ _).drew) h.2⟩);rintro e w' ⟨rfl,hb3⟩))
   rename_i hH;have hB:=hH.1;have hc1':=hH.2.1;clear hH;have hBw:Below w.heap.size w w':=bS hbl2 hB;go_wp2
   ·rename_i hs;go_ret;refine⟨?_,hBw⟩;have:=HN.out;rw[fJ7 hid oM oM (k:=k) oM HO.out (by rw[←HL.out];exact HF.out) (by rw[←HL.out];exact hs)];rfl
   rename_i hs;refine⟨⟨k+1,by omega,by go_num,fCf HO.out (by rw[←HL.out];exact HF.out) (by rw[←HL.out];simpa using hs),hc1',by have:=hB.size;omega,hBw⟩,mI⟩
  have hd:(gD l==0)=false:=by simpa using hlf
  go_wp2;go_ret;refine⟨?_,hbl2⟩;have:=HN.out;rw[fQq hid oM oM (k:=k) oM HO.out (by rw[←HL.out];exact hlf),←HL.out];rfl
 have hkn:k=n:=oM;subst hkn;have HO':Hid (okTo xs xs.length):=by rw[HN.out];exact HO.out
 go_wp2_with fail;refine(fF4 _ xs _ (kE HX0.out hbl) (by have:=HN.out;omega) (fJn HO'.out)).mono ?_;rintro e w1 ⟨rfl,hb1⟩;go_wp2;go_ret;refine⟨?_,bS hbl hb1⟩;have:=HN.out;have e:fA id xs=fO5 xs:=by
  rw[fGl hid oM oM,fJm HO'.out,if_pos rfl,fO5]
 rw[e];rfl
theorem rQ (id:Int) (x:Value) (xs:List Leg) (w:World) (hx:uX w x xs) :
  RI 142 #[.agg #[.int .i64 id,x]] w (.int .i64 (fA id xs)):=by
 by_cases h:inB id 1 1000000000=false∨xs.length<2∨8<xs.length
 ·exact fB7 id x xs w hx h
 have h1:inB id 1 1000000000=true:=by
  cases hb:inB id 1 1000000000 with
  | true=>rfl
  | false=>exact absurd (Or.inl hb) h
 exact fDc id x xs w hx h1 oM oM
theorem fEn {xs:List Leg} (h:scan [] xs=0):∀k,k≤xs.length→okTo xs k
 | 0,_=>fun j hj=>oM
 | k+1,hk=>by
  have ih:=fEn h k oM;by_cases h0:gD (xs.getD k default)=0
  ·
   cases h1:fQ (xs.take k) (xs.getD k default) with
   | false=>exact fCf ih h0 h1
   | true=>have:=fEs oM ih h0 h1;omega
  have:=fK3 oM ih h0;omega
theorem fDv {id:Int} {xs:List Leg} (h:fA id xs=0):inB id 1 1000000000=true∧2≤xs.length∧xs.length≤8∧okTo xs xs.length∧sumA 0 xs=0∧sumA 1 xs=0∧sumA 2 xs=0:=by
 unfold fA at h;split at h
 ·
  rename_i h1;split at h
  ·omega
  split at h
  ·
   rename_i h3;split at h
   ·rename_i h4;exact⟨h1,by omega,by omega,fEn h3 _ (Nat.le_refl _),h4⟩
   omega
  omega
 omega
end
section
theorem fR9 {w w':World} {a0:Addr} {x0:Value} {a1:Addr} {x1:Value} {a2:Addr} {x2:Value} (hb:Below w.heap.size w w') (g0:w.cell? a0=some x0) (g1:w.cell? a1=some x1) (g2:w.cell? a2=some x2):Below w.heap.size w w'∧w'.cell? a0=some x0∧w'.cell? a1=some x1∧w'.cell? a2=some x2:=
 ⟨hb,cK hb g0,cK hb g1,cK hb g2⟩
theorem fSa {w w':World} {a0:Addr} {x0:Value} {a1:Addr} {x1:Value} {a2:Addr} {x2:Value} {a3:Addr} {x3:Value} (hb:Below w.heap.size w w') (g0:w.cell? a0=some x0) (g1:w.cell? a1=some x1) (g2:w.cell? a2=some x2) (g3:w.cell? a3=some x3):Below w.heap.size w w'∧w'.cell? a0=some x0∧w'.cell? a1=some x1∧w'.cell? a2=some x2∧w'.cell? a3=some x3:=
 ⟨hb,cK hb g0,cK hb g1,cK hb g2,cK hb g3⟩
theorem fSb {w w':World} {a0:Addr} {x0:Value} {a1:Addr} {x1:Value} {a2:Addr} {x2:Value} {a3:Addr} {x3:Value} {a4:Addr} {x4:Value} {a5:Addr} {x5:Value} {a6:Addr} {x6:Value} {a7:Addr} {x7:Value} (hb:Below w.heap.size w w') (g0:w.cell? a0=some x0) (g1:w.cell? a1=some x1) (g2:w.cell? a2=some x2) (g3:w.cell? a3=some x3) (g4:w.cell? a4=some x4) (g5:w.cell? a5=some x5) (g6:w.cell? a6=some x6) (g7:w.cell? a7=some x7):Below w.heap.size w w'∧w'.cell? a0=some x0∧w'.cell? a1=some x1∧w'.cell? a2=some x2∧w'.cell? a3=some x3∧w'.cell? a4=some x4∧w'.cell? a5=some x5∧w'.cell? a6=some x6∧w'.cell? a7=some x7:=
 ⟨hb,cK hb g0,cK hb g1,cK hb g2,cK hb g3,cK hb g4,cK hb g5,cK hb g6,cK hb g7⟩
theorem fOb {w W W':World} {a1 a2:Addr} {v1 v2:Value} (h:Below w.heap.size w W∧W.cell? a1=some v1∧W.cell? a2=some v2) (hb:Below W.heap.size W W'):Below w.heap.size w W'∧W'.cell? a1=some v1∧W'.cell? a2=some v2:=
 ⟨bS h.1 hb,cK hb (h.2.1),cK hb (h.2.2)⟩
theorem zH {w W W':World} {a1 a2 a3 a4:Addr} {v1 v2 v3 v4:Value} (h:Below w.heap.size w W∧W.cell? a1=some v1∧W.cell? a2=some v2∧W.cell? a3=some v3∧W.cell? a4=some v4) (hb:Below W.heap.size W W'):Below w.heap.size w W'∧W'.cell? a1=some v1∧W'.cell? a2=some v2∧W'.cell? a3=some v3∧W'.cell? a4=some v4:=
 ⟨bS h.1 hb,cK hb (h.2.1),cK hb (h.2.2.1),cK hb (h.2.2.2.1),cK hb (h.2.2.2.2)⟩
theorem fRa {w W W':World} {a1 a2 a3 a4:Addr} {v1 v2 v3 v4:Value} {b:Nat} (h:Below w.heap.size w W∧W.cell? a1=some v1∧W.cell? a2=some v2∧W.cell? a3=some v3∧W.cell? a4=some v4) (hg:W.grownBy W' (some b)) (hl:w.heap.size≤b) (n1:some a1.block≠some b) (n2:some a2.block≠some b) (n3:some a3.block≠some b) (n4:some a4.block≠some b):Below w.heap.size w W'∧W'.cell? a1=some v1∧W'.cell? a2=some v2∧W'.cell? a3=some v3∧W'.cell? a4=some v4:=
 ⟨h.1.grown hg h.1.size (fun k e=>by cases e;exact hl),hg.cell (h.2.1) n1,hg.cell (h.2.2.1) n2,hg.cell (h.2.2.2.1) n3,hg.cell (h.2.2.2.2) n4⟩
theorem fOc {w W W':World} {a1 a2 a3 a4 a5:Addr} {v1 v2 v3 v4 v5:Value} (h:Below w.heap.size w W∧W.cell? a1=some v1∧W.cell? a2=some v2∧W.cell? a3=some v3∧W.cell? a4=some v4∧W.cell? a5=some v5) (hb:Below W.heap.size W W'):Below w.heap.size w W'∧W'.cell? a1=some v1∧W'.cell? a2=some v2∧W'.cell? a3=some v3∧W'.cell? a4=some v4∧W'.cell? a5=some v5:=
 ⟨bS h.1 hb,cK hb (h.2.1),cK hb (h.2.2.1),cK hb (h.2.2.2.1),cK hb (h.2.2.2.2.1),cK hb (h.2.2.2.2.2)⟩
theorem fNk {Y w':World} {B t:Nat} {v1 v2:Value} (hb:Below (Y.alloc (.cells #[v1,v2] t)).heap.size (Y.alloc (.cells #[v1,v2] t)) w') (e:B=Y.heap.size):w'.cell? ⟨B,0,none⟩=some v1∧w'.cell? ⟨B,1,none⟩=some v2∧(∀o,w'.frozen? ⟨B,o,none⟩=false)∧B<w'.heap.size:=by
 subst e;have h:=hb.size;simp only[World.size_alloc] at h;exact⟨cK hb sG,cK hb sG,fun o=>by rw[(bcell hb).2 _ _ (by simp)];simp[go_sem],oM⟩
theorem fNl {Y w':World} {B t:Nat} {v1 v2 v3:Value} (hb:Below (Y.alloc (.cells #[v1,v2,v3] t)).heap.size (Y.alloc (.cells #[v1,v2,v3] t)) w') (e:B=Y.heap.size):w'.cell? ⟨B,0,none⟩=some v1∧w'.cell? ⟨B,1,none⟩=some v2∧w'.cell? ⟨B,2,none⟩=some v3∧(∀o,w'.frozen? ⟨B,o,none⟩=false)∧B<w'.heap.size:=by
 subst e;have h:=hb.size;simp only[World.size_alloc] at h;exact⟨cK hb sG,cK hb sG,cK hb sG,fun o=>by rw[(bcell hb).2 _ _ (by simp)];simp[go_sem],oM⟩
theorem uZ {W w':World} {B:Nat} (h:(∀o,W.frozen? ⟨B,o,none⟩=false)∧B<W.heap.size) (hb:Below W.heap.size W w'):(∀o,w'.frozen? ⟨B,o,none⟩=false)∧B<w'.heap.size:=
 ⟨fun o=>by rw[(bcell hb).2 _ _ h.2];exact h.1 o,Nat.lt_of_lt_of_le h.2 hb.size⟩
theorem PO.append {α:Type} {R:Rep α} {e size:Nat} {lv:Value→List Value} {w Y w':World} {base:Nat} {v v':Value} {n:Nat} {d:Nat→α} {cs:List Value} {us:Nat→Value} {fs:Nat→Nat→Prop} {u:Value} {F':Nat→Prop}
  (h:PO R e size lv w base v n n d cs us fs) (hbs:base≤w.heap.size) (hb:Below w.heap.size w Y) (hu:R.O Y w.heap.size F' u (d n)) (hl:(lv u).length=size)
  (hr:w'.ownsRow base e size v' (n+1) (cs++lv u)) (hg:Y.grownBy w' v.ownBlock) (hloc:v'.ownBlock=v.ownBlock∨∃g,v'.ownBlock=some g∧Y.heap.size≤g) :
  PO R e size lv w' base v' (n+1) (n+1) d (cs++lv u) (upd us n u) (upd fs n F'):=by
 have hlt:∀b,v.ownBlock=some b→b<w.heap.size:=fun b hb=>(h.row.lt b hb).2
 have hF:∀b,F' b→w.heap.size≤b∧b<Y.heap.size:=fun b hb=>R.rng hu b hb
 have hfs:∀i,i<n→∀b,fs i b→b<w.heap.size:=fun i hi b hb=>(R.rng (h.el i hi) b hb).2
 have hcl:cs.length=n*size:=h.row.1;refine⟨hr,?_,?_,?_,?_,?_⟩
 ·
  intro i hi;by_cases hik:i=n
  ·subst hik;rw[kP,kP];exact R.base (R.mod hu (Mod.of_grown hg) (fun b hb he=>by have:=hlt b he;have:=(hF b hb).1;omega)) hbs
  rw[upd_ne _ _ hik,upd_ne _ _ hik];exact R.mod (R.keep (h.el i oM) hb) (Mod.of_grown hg) (fun b hb=>h.out i oM b hb)
 ·
  intro i hi;by_cases hik:i=n
  ·subst hik;rw[kP];exact hl
  rw[upd_ne _ _ hik];exact h.ln i oM
 ·
  intro i hi j hj;by_cases hik:i=n
  ·subst hik;rw[kP,List.getElem?_append_right oM,hcl];congr 1;omega
  rw[upd_ne _ _ hik,←h.cell i oM j hj,List.getElem?_append_left];rw[hcl];have:i*size+size≤n*size:=by rw[←Nat.succ_mul];exact Nat.mul_le_mul_right _ oM
  omega
 ·
  intro i hi b hb he;by_cases hik:i=n
  ·
   subst hik;rw[kP] at hb;rcases hloc with hloc|⟨g,hg',hge⟩
   ·rw[hloc] at he;have:=hlt b he;have:=(hF b hb).1;omega
   rw[hg'] at he;simp only[Option.some.injEq] at he;have:=(hF b hb).2;omega
  rw[upd_ne _ _ hik] at hb;rcases hloc with hloc|⟨g,hg',hge⟩
  ·rw[hloc] at he;exact h.out i oM b hb he
  rw[hg'] at he;simp only[Option.some.injEq] at he;have:=hfs i oM b hb;have:=hb;have:=h.row;have:=hlt;have hYw:w.heap.size≤Y.heap.size:=by
   have:=‹Below w.heap.size w Y›;exact this.size
  omega
 intro i j hi hj hij b h1 h2;by_cases hik:i=n
 ·subst hik;rw[kP] at h1;rw[upd_ne _ _ (Ne.symm hij)] at h2;have:=(hF b h1).1;have:=hfs j oM b h2;omega
 rw[upd_ne _ _ hik] at h1;by_cases hjk:j=n
 ·subst hjk;rw[kP] at h2;have:=(hF b h2).1;have:=hfs i oM b h1;omega
 rw[upd_ne _ _ hjk] at h2;exact h.sep i j oM oM hij b h1 h2
section
variable {P : Program} (w : World)
theorem yI {ops:Array Oper} {o:Oper} {a:Act} {K:Act→World→Prop} {Q:Exit→Act→World→Prop} {E:Prop} (hgd:o.guard=none) (s x:Operand) (t:TypeId)
  (ho:o.op =.call {callee:=.builtin .append,args:=#[s,x],argTypes:=#[t,t]})
  (base:Nat) (e:TypeId) (i:TypeInfo) (z:Value) (size bytes:Nat) (ht:P.underlying t=some (.slice e)) (hi:P.info? e=some i) (hz:i.zero=some z)
  (hsize:i.size=size) (hby:i.bytes=bytes) (hzs:z.cells.size=size) (hsz:0<size)
  (v:Value) (n:Nat) (xs:List Value) (hs:a.eval s=v) (hown:w.ownsRow base e size v n xs)
  (ad:Addr) (m c:Nat) (news:List Value) (hx:a.eval x =.slice (some ad) m c) (hl:news.length=m*size) (hnews:∀j u,news[j]? = some u→w.cell? (ad.add j)=some u) (h1:∀u ∈ news,u.oneCell'=true)
  (h63:n+m≤maxLen) (hbytes:(n+m)*bytes≤140737488355328) (hbase:base≤w.heap.size)
  (h:∀v' w',w'.ownsRow base e size v' (n+m) (xs++news)→w.grownBy w' v.ownBlock→(v'.ownBlock=v.ownBlock∨v'.ownBlock=some w.heap.size)→K (a.put o.dst v') w') :
  if Region.wanted o (yielded ops a.tmps)=true then Oper.wp P o a w K Q else E:=by
 have hw:Region.wanted o (yielded ops a.tmps)=true:=by simp[Region.wanted,hgd]
 rw[if_pos hw];obtain⟨v',w',hr,h2,h3,_,h5⟩:=run_append_own_at (P:=P) w base t o.type e i z size bytes ht hi hz hsize hby hzs hsz v n xs hown ad m c news hl hnews h1 h63 hbytes hbase;unfold Oper.wp execOp;simp only[ho,resolve,invoke,builtin,Sem.run_bind,Sem.run_pure,Result.andThen_ok,List.map_toArray,List.map_cons,List.map_nil,hs,hx,hr];exact h v' w' h2 h3 h5
end
end
end Go.Proofs.YtpibfdebfacooaaGreat

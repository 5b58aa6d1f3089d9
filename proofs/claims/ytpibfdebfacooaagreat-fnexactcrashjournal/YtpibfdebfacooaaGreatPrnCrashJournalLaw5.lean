import Derived.Test.YtpibfdebfacooaaGreatPrnCrashJournalLaw2
import Derived.RegionTactic
import Derived.ChangeAlike
import Derived.BigRegion
set_option maxHeartbeats 2000000
set_option linter.unusedSectionVars false
namespace Go.Proofs.YtpibfdebfacooaaGreat
open Go.RowKit
attribute [local go_sem ↓] Go.wp_at_zero Go.wp_at_succ
section
structure BytesR where
 code:Int
 bytes:List Byte
variable [dQ BytesR] [iH BytesR]
end
section
variable [dQ Leg] [iH Leg]
def inB (n lo hi:Int):Bool:=decide (lo≤n)&&decide (n≤hi)
theorem kV (n lo hi:Int) (w:World) :
  Calls Tryz.prog 88 #[.int .i64 n,.int .i64 lo,.int .i64 hi] w fun e w'=>e =.returned (.bool (inB n lo hi))∧w'=w:=by
 by_cases h1:lo≤n
 all_goals
  go_enter Tryz.func88,Tryz.ntmps88;go_wp2;go_ret;exact⟨by first|(simp[inB,h1];done)|(simp[inB];omega),rfl⟩
theorem qL (n lo hi:Int) (w:World) :
  Calls Tryz.prog 106 #[.int .i64 n,.int .i64 lo,.int .i64 hi] w fun e w'=>e =.returned (.bool (inB n lo hi))∧w'=w:=by
 by_cases h1:lo≤n
 all_goals
  go_enter Tryz.func106,Tryz.ntmps106;go_wp2;go_ret;exact⟨by first|(simp[inB,h1];done)|(simp[inB];omega),rfl⟩
theorem pG (n:Int) (w:World) :
  Calls Tryz.prog 87 #[.int .i64 n] w fun e w'=>e =.returned (.bool (inB n 1 1000000000))∧w'=w:=by
 go_enter Tryz.func87,Tryz.ntmps87;go_wp2_with (go_at_call 88;refine(kV _ _ _ _).mono ?_;rintro e w' ⟨rfl,rfl⟩);go_ret;exact⟨rfl,rfl⟩
theorem kT (n:Int) (w:World) :
  Calls Tryz.prog 146 #[.int .i64 n] w fun e w'=>e =.returned (.bool (inB n 1 1000000000))∧w'=w:=by
 go_enter Tryz.func146,Tryz.ntmps146;go_wp2_with (go_at_call 106;refine(qL _ _ _ _).mono ?_;rintro e w' ⟨rfl,rfl⟩);go_ret;exact⟨rfl,rfl⟩
theorem uT (n:Int) (w:World) :
  Calls Tryz.prog 111 #[.int .i64 n] w fun e w'=>e =.returned (.bool (inB n 0 2))∧w'=w:=by
 go_enter Tryz.func111,Tryz.ntmps111;go_wp2_with (go_at_call 106;refine(qL _ _ _ _).mono ?_;rintro e w' ⟨rfl,rfl⟩);go_ret;exact⟨rfl,rfl⟩
theorem yC (n:Int) (w:World) :
  Calls Tryz.prog 165 #[.int .i64 n] w fun e w'=>e =.returned (.bool (inB n 0 5))∧w'=w:=by
 go_enter Tryz.func165,Tryz.ntmps165;go_wp2_with (go_at_call 106;refine(qL _ _ _ _).mono ?_;rintro e w' ⟨rfl,rfl⟩);go_ret;exact⟨rfl,rfl⟩
theorem fEy (n:Int) (w:World) :
  Calls Tryz.prog 166 #[.int .i64 n] w fun e w'=>e =.returned (.bool (inB n 0 2))∧w'=w:=by
 go_enter Tryz.func166,Tryz.ntmps166;go_wp2_with (go_at_call 106;refine(qL _ _ _ _).mono ?_;rintro e w' ⟨rfl,rfl⟩);go_ret;exact⟨rfl,rfl⟩
def fK3 (l:Leg):Bool:=inB l.sh 0 2&&inB l.ac 0 5&&inB l.ast 0 2
def gI (l:Leg):Int:=if fK3 l&&inB l.am (-1000000000000) 1000000000000 then (if l.am=0 then 1 else 0) else 3
theorem fMn (l:Leg) (w:World) :
  RI 189 #[legV l] w (.bool (fK3 l)):=by
 obtain⟨a,b,c,d⟩:=l;unfold legV fK3;go_enter Tryz.func189,Tryz.ntmps189;go_wp2_with (first|(go_at_call 111;refine(uT _ _).mono ?_;rintro e w' ⟨rfl,rfl⟩)|(go_at_call 165;refine(yC _ _).mono ?_;rintro e w' ⟨rfl,rfl⟩)|(go_at_call 166;refine(fEy _ _).mono ?_;rintro e w' ⟨rfl,rfl⟩));all_goals
  go_ret;exact⟨by simp[*],(by repeat (first|exact bR _ _|(refine Below.drew ?_)|(refine Below.alloc ?_ (by first|(simp;done)|(simp;omega)) _)))⟩
theorem fDo (l:Leg) (w:World) :
  RI 125 #[legV l] w (.int .i64 (gI l)):=by
 obtain⟨a,b,c,d⟩:=l;unfold legV;go_enter Tryz.func125,Tryz.ntmps125;go_wp2_with (go_at_call 88;refine(kV _ _ _ _).mono ?_;rintro e w' ⟨rfl,rfl⟩);all_goals
  go_ret;exact⟨by simp_all [gI,fK3],(by repeat (first|exact bR _ _|(refine Below.drew ?_)|(refine Below.alloc ?_ (by first|(simp;done)|(simp;omega)) _)))⟩
theorem fDj (l:Leg) (w:World) :
  RI 170 #[legV l] w (.int .i64 (gI l)):=by
 obtain⟨a,b,c,d⟩:=l;unfold legV;go_enter Tryz.func170,Tryz.ntmps170;go_wp2_with (first|(go_at_call 189;refine(fMn ⟨a,b,c,d⟩ _).mono ?_;rintro e w' ⟨rfl,hb⟩;obtain⟨hc,hf⟩:=bcell hb)|(go_at_call 106;refine(qL _ _ _ _).mono ?_;rintro e w' ⟨rfl,rfl⟩));all_goals
  go_ret;exact⟨by simp_all [gI],((bR _ _).alloc (Nat.le_refl _) _).trans (hb.mono (by simp))⟩
theorem fFf (l:Leg) (w:World) :
  RI 190 #[legV l] w (legV ⟨l.sh,l.ac,l.ast,0⟩):=by
 obtain⟨a,b,c,d⟩:=l;unfold legV;go_enter Tryz.func190,Tryz.ntmps190;go_wp2;exact bodyPost_ret (v:=.agg #[.int .i64 a,.int .i64 b,.int .i64 c,.int .i64 0]) (by simp[results,Tryz.results190,go_sem]) rfl ⟨rfl,(by repeat (first|exact bR _ _|(refine Below.drew ?_)|(refine Below.alloc ?_ (by first|(simp;done)|(simp;omega)) _)))⟩
def uA (a b:Leg):Bool:=a.sh==b.sh&&(a.ac==b.ac&&a.ast==b.ast)
def fU (pre:List Leg) (l:Leg):Bool:=pre.any (fun o=>uA o l)
def scan (pre:List Leg):List Leg→Int
 | []=>0
 | l::r=>if gI l=0 then (if fU pre l then 7 else scan (pre++[l]) r) else gI l
def sumA (a:Int):List Leg→Int
 | []=>0
 | l::r=>(if l.ast=a then l.am else 0)+sumA a r
def fA (id:Int) (xs:List Leg):Int:=
 if inB id 1 1000000000 then
  (if xs.length<2∨8<xs.length then 2
  else if scan [] xs=0 then (if sumA 0 xs=0∧sumA 1 xs=0∧sumA 2 xs=0 then 0 else 1) else scan [] xs)
 else 3
def okTo (xs:List Leg) (k:Nat):Prop:=∀j,j<k→gI (xs.getD j default)=0∧fU (xs.take j) (xs.getD j default)=false
theorem fEc (xs:List Leg) (k:Nat) (h:k<xs.length):xs.drop k=xs.getD k default::xs.drop (k+1):=by
 rw[List.drop_eq_getElem_cons h];simp[List.getD,h]
theorem rM (xs:List Leg) (k:Nat) (h:k<xs.length):xs.take (k+1)=xs.take k++[xs.getD k default]:=by
 rw[List.take_succ_eq_append_getElem h];simp[List.getD,h]
theorem fI9 (xs:List Leg):∀k,k≤xs.length→okTo xs k→scan [] xs=scan (xs.take k) (xs.drop k)
 | 0,_,_=>by simp
 | k+1,hk,h=>by
  have ih:=fI9 xs k oM (fun j hj=>h j oM);obtain⟨h1,h2⟩:=h k oM;rw[ih,fEc xs k oM,scan,if_pos h1,if_neg (by rw[h2];decide),rM xs k oM]
theorem fO5 {xs:List Leg} {k:Nat} (hk:k<xs.length) (h:okTo xs k) (hb:¬gI (xs.getD k default)=0):scan [] xs=gI (xs.getD k default):=by
 rw[fI9 xs k oM h,fEc xs k hk,scan,if_neg hb]
theorem fHt {xs:List Leg} {k:Nat} (hk:k<xs.length) (h:okTo xs k) (h0:gI (xs.getD k default)=0) (hb:fU (xs.take k) (xs.getD k default)=true):scan [] xs=7:=by
 rw[fI9 xs k oM h,fEc xs k hk,scan,if_pos h0,if_pos hb]
theorem fNb {xs:List Leg} (h:okTo xs xs.length):scan [] xs=0:=by
 rw[fI9 xs xs.length (Nat.le_refl _) h];simp[scan]
theorem fFd {xs:List Leg} {k:Nat} (h:okTo xs k) (h0:gI (xs.getD k default)=0) (h1:fU (xs.take k) (xs.getD k default)=false):okTo xs (k+1):=by
 intro j hj;by_cases e:j<k
 ·exact h j e
 have:j=k:=oM;subst this;exact⟨h0,h1⟩
theorem fWt (n lo hi:Int):inB n lo hi=true↔lo≤n∧n≤hi:=by simp[inB]
theorem gZ {l:Leg} (h:gI l=0):(0≤l.sh∧l.sh≤2)∧(0≤l.ac∧l.ac≤5)∧(0≤l.ast∧l.ast≤2)∧(-1000000000000≤l.am∧l.am≤1000000000000)∧l.am≠0:=by
 unfold gI at h;split at h
 ·
  rename_i hp;simp[fK3,fWt] at hp;split at h
  ·omega
  exact⟨oM,by omega,by omega,by omega,by assumption⟩
 omega
theorem fNm (a:Int) (l r:List Leg):sumA a (l++r)=sumA a l+sumA a r:=by
 induction l with
 | nil=>simp[sumA]
 | cons x l ih=>simp only[List.cons_append,sumA,ih];omega
theorem fLe (a:Int) (xs:List Leg) (k:Nat) (h:k<xs.length):sumA a (xs.take (k+1))=sumA a (xs.take k)+if (xs.getD k default).ast=a then (xs.getD k default).am else 0:=by
 rw[rM xs k h,fNm];simp[sumA]
theorem fHy (a:Int) (xs:List Leg):∀k,k≤xs.length→okTo xs k → -(k*1000000000000:Int)≤sumA a (xs.take k)∧sumA a (xs.take k)≤k*1000000000000
 | 0,_,_=>by simp[sumA]
 | k+1,hk,h=>by
  have ih:=fHy a xs k oM (fun j hj=>h j oM);have hb:=(gZ (h k oM).1).2.2.2.1;rw[fLe a xs k oM];split <;> omega
theorem uF (xs:List Leg) (k:Nat) (h:k<xs.length) (l:Leg):fU (xs.take (k+1)) l=(fU (xs.take k) l||uA (xs.getD k default) l):=by
 rw[rM xs k h];simp[fU]
theorem fBg {xs:List Leg} {k m:Nat} {l:Leg} (hkm:k≤m) (h:fU (xs.take k) l=true):fU (xs.take m) l=true:=by
 simp only[fU,List.any_eq_true] at h ⊢;obtain⟨o,ho,hs⟩:=h;exact⟨o,(List.take_subset_take_left xs hkm) ho,hs⟩
theorem fJv {id:Int} {xs:List Leg} (hid:inB id 1 1000000000=true) (h2:2≤xs.length) (h8:xs.length≤8):fA id xs=if scan [] xs=0 then (if sumA 0 xs=0∧sumA 1 xs=0∧sumA 2 xs=0 then 0 else 1) else scan [] xs:=by
 rw[fA,if_pos hid,if_neg oM]
theorem fV5 {id:Int} {xs:List Leg} (hid:inB id 1 1000000000=true) (h2:2≤xs.length) (h8:xs.length≤8) {k:Nat} (hk:k<xs.length) (h:okTo xs k) (hb:¬gI (xs.getD k default)=0):fA id xs=gI (xs.getD k default):=by
 rw[fJv hid h2 h8,fO5 hk h hb,if_neg hb]
theorem fN1 {id:Int} {xs:List Leg} (hid:inB id 1 1000000000=true) (h2:2≤xs.length) (h8:xs.length≤8) {k:Nat} (hk:k<xs.length) (h:okTo xs k) (h0:gI (xs.getD k default)=0) (hb:fU (xs.take k) (xs.getD k default)=true):fA id xs=7:=by
 rw[fJv hid h2 h8,fHt hk h h0 hb,if_neg (by decide)]
theorem fXj {id:Int} {xs:List Leg} (hid:inB id 1 1000000000=true) (h2:2≤xs.length) (h8:xs.length≤8) (h:okTo xs xs.length) (hs:¬(sumA 0 xs=0∧sumA 1 xs=0∧sumA 2 xs=0)):fA id xs=1:=by
 rw[fJv hid h2 h8,fNb h,if_pos rfl,if_neg hs]
theorem fWl {id:Int} {xs:List Leg} (hid:inB id 1 1000000000=true) (h2:2≤xs.length) (h8:xs.length≤8) (h:okTo xs xs.length) (hs:sumA 0 xs=0∧sumA 1 xs=0∧sumA 2 xs=0):fA id xs=0:=by
 rw[fJv hid h2 h8,fNb h,if_pos rfl,if_pos hs]
end
section
variable [dQ Leg] [iH Leg]
theorem fYc (w:World):(Instr.makeSlice 39 (.int .i64 3) (.int .i64 3)).run Tryz.prog w =.ok (.slice (some ⟨w.heap.size,0,none⟩) 3 3) (w.alloc (.cells #[.int .i64 0,.int .i64 0,.int .i64 0] 2)):=kF
theorem fFt (id:Int) (x:Value) (xs:List Leg) (w:World) (hx:vB w x xs) (h:inB id 1 1000000000=false∨xs.length<2∨8<xs.length) :
  RI 86 #[.agg #[.int .i64 id,x]] w (.int .i64 (fA id xs)):=by
 obtain⟨ax,cx,rfl,hcx,hmx,hx⟩:=hx;unfold maxLen at hmx;clear hx;by_cases hid:inB id 1 1000000000=false
 ·go_enter Tryz.func86,Tryz.ntmps86;go_wp2_with (go_at_call 87;refine(pG _ _).mono ?_;rintro e w' ⟨rfl,rfl⟩);go_ret;exact⟨by simp[fA,hid],bA (bR _ _) _⟩
 have hid':inB id 1 1000000000=true:=by simpa using hid
 have hn:xs.length<2∨8<xs.length:=by
  rcases h with h|h
  ·exact absurd h hid
  exact h
 have hcf:fA id xs=2:=by simp[fA,hid',hn]
 rw[hcf];generalize xs.length=n at *;clear hid h hcf;rcases hn with hn|hn
 ·have h1:(n:Int)<2:=oM;go_enter Tryz.func86,Tryz.ntmps86;go_wp2_with (go_at_call 87;refine(pG _ _).mono ?_;rintro e w' ⟨rfl,rfl⟩);go_ret;exact⟨rfl,bA (bR _ _) _⟩
 have h1:¬(n:Int)<2:=oM;have h2:(8:Int)<(n:Int):=oM;go_enter Tryz.func86,Tryz.ntmps86;go_wp2_with (go_at_call 87;refine(pG _ _).mono ?_;rintro e w' ⟨rfl,rfl⟩);go_ret;exact⟨rfl,bA (bR _ _) _⟩
theorem fGl (id:Int) (x:Value) (xs:List Leg) (w:World) (hx:vB w x xs) (hid:inB id 1 1000000000=true) (hn2:2≤xs.length) (hn8:xs.length≤8) :
  RI 86 #[.agg #[.int .i64 id,x]] w (.int .i64 (fA id xs)):=by
 obtain⟨ax,cx,rfl,hcx,hmx,hx⟩:=hx;unfold maxLen at hmx;generalize hn':xs.length=n at *;have HN:Hid (xs.length=n):=hn';clear hn';have h1:¬(n:Int)<2:=oM;have h2:¬(8:Int)<(n:Int):=oM;have hmk:=fYc;go_enter Tryz.func86,Tryz.ntmps86;go_wp2_with (go_at_call 87;refine(pG _ _).mono ?_;rintro e w' ⟨rfl,rfl⟩);go_loopw [4] (fun i w'=>∃k:Nat,k≤n∧i =.int .i64 k∧okTo xs k∧(∀j:Nat,j<3→w'.cell? ⟨w.heap.size+1,j,none⟩=some (.int .i64 (sumA j (xs.take k)))∧w'.frozen? ⟨w.heap.size+1,j,none⟩=false) ∧
   w'.cell? ⟨w.heap.size,1,none⟩=some (.slice ax n cx)∧w.heap.size+1<w'.heap.size∧Below w.heap.size w w') (fun i _=>n-(intOf i).toNat)
 case atStart=>
  refine⟨0,oM,rfl,fun j h=>oM,fun j hj=>?_,by simp[go_sem],by simp,bA (bA (bR _ _) _) _⟩;match j,hj with
  | 0,_=>exact⟨by simp[go_sem,sumA],sG⟩
  | 1,_=>exact⟨by simp[go_sem,sumA],sG⟩
  | 2,_=>exact⟨by simp[go_sem,sumA],sG⟩
 obtain⟨k,hk,rfl,hok,hs,hcx1,hsz,hbl⟩:=hrel;generalize wr=wo at *;have HO:Hid (okTo xs k):=hok;have HS:Hid (∀j:Nat,j<3→wo.cell? ⟨w.heap.size+1,j,none⟩=some (.int .i64 (sumA j (xs.take k)))∧wo.frozen? ⟨w.heap.size+1,j,none⟩=false):=hs;clear hok hs;by_cases hlt:k<n
 ·
  obtain⟨bx,ox,rfl,g1⟩:=hx k hlt;obtain⟨l,hl⟩:∃l,l=xs.getD k default:=⟨_,rfl⟩
  rw[←hl] at g1;have HL:Hid (l=xs.getD k default):=hl;clear hl;obtain⟨a1,a2,a3,a4⟩:=fQ hbl g1;go_wp2_with fail;refine(fDo l _).mono ?_;rintro e w2 ⟨rfl,hb2⟩;obtain⟨hc2,hf2⟩:=bcell hb2;have hbl2:Below w.heap.size w w2:=bS (bA hbl _) hb2;have hz2:wo.heap.size<w2.heap.size:=by have:=hb2.size;simp at this;omega
  have hcx2:w2.cell? ⟨w.heap.size,1,none⟩=some (.slice (some ⟨bx,ox,none⟩) n cx):=by
   rw[hc2 _ _ (by simp;omega)];simp[go_sem,hcx1,show w.heap.size<wo.heap.size by omega]
  have hl2:mH w2 wo.heap.size 0 l:=by
   refine⟨?_,?_,?_,?_⟩ <;> (rw[hc2 _ _ (by simp)];simp[go_sem])
  have HS2:Hid (∀j:Nat,j<3→w2.cell? ⟨w.heap.size+1,j,none⟩=some (.int .i64 (sumA j (xs.take k)))∧w2.frozen? ⟨w.heap.size+1,j,none⟩=false):=by
   intro j hj;have:=HS.out j hj;rw[hc2 _ _ (by simp;omega),hf2 _ _ (by simp;omega)];simpa [go_sem,hsz] using this
  clear hc2 hf2 hb2 a1 a2 a3 a4 hcx1 HS hbl;by_cases hlf:gI l=0
  ·
   have HF:Hid (gI l=0):=hlf;rw[hlf];clear hlf;go_wp2;go_loopw [7] (fun i w'=>∃m:Nat,m≤k∧i =.int .i64 m∧fU (xs.take m) l=false∧Below w2.heap.size w2 w') (fun i _=>k-(intOf i).toNat)
   case atStart=>exact⟨0,oM,rfl,by simp[fU],bR _ _⟩
   obtain⟨m,hm,rfl,hp,hb3⟩:=hrel;have HP:Hid (fU (xs.take m) l=false):=hp;clear hp;by_cases hmk':m<k
   ·
    obtain⟨b',o',he,g2⟩:=hx m oM;simp only[Option.some.injEq,Addr.mk.injEq,and_true] at he;obtain⟨rfl,rfl⟩:=he;obtain⟨o,ho⟩:∃o,o=xs.getD m default:=⟨_,rfl⟩
    rw[←ho] at g2;have HO2:Hid (o=xs.getD m default):=ho;clear ho;obtain⟨c1,c2,c3,c4⟩:=fQ (bS hbl2 hb3) g2;obtain⟨d1,d2,d3,d4⟩:=fQ hb3 hl2;simp only[Nat.zero_add] at d1 d2 d3 d4;have e1:wr.cell? ⟨w.heap.size,1,none⟩=some (.slice (some ⟨bx,ox,none⟩) n cx):=by
     rw[(bcell hb3).1 _ _ oM];exact hcx2
    have hz3:wo.heap.size<wr.heap.size:=by have:=hb3.size;omega
    have hz4:w.heap.size<wr.heap.size:=oM;have hz5:bx<wr.heap.size:=wL wr _ c1;go_wp2
    ·
     rename_i s1 s2 s3;go_ret;refine⟨?_,bA (bS hbl2 hb3) _⟩;have hp:fU (xs.take k) (xs.getD k default)=true:=by
      refine fBg (k:=m+1) oM ?_;rw[uF xs m (by have:=HN.out;omega),←HL.out,←HO2.out];have:l.ast=o.ast:=by simpa using (Eq.symm (by simpa using s3:o.ast=l.ast))
      simp[uA,s1,s2,this]
     have:=HN.out;rw[fN1 hid oM oM (k:=k) oM HO.out (by rw[←HL.out];exact HF.out) hp];rfl
    all_goals
     refine⟨⟨m+1,by omega,by go_num,?_,bA hb3 _⟩,mI⟩;rw[uF xs m (by have:=HN.out;omega),←HO2.out,HP.out];simp_all [uA]
   have hmk2:m=k:=oM;subst hmk2;obtain⟨d1,d2,d3,d4⟩:=fQ hb3 hl2;simp only[Nat.zero_add] at d1 d2 d3 d4;have hz3:wo.heap.size<wr.heap.size:=by have:=hb3.size;omega
   have hz4:w.heap.size<wr.heap.size:=oM;have lz:=gZ HF.out;obtain⟨_,_,⟨q1,q2⟩,⟨q3,q4⟩,_⟩:=lz;have q2':l.ast<3:=oM;have HS3:Hid (∀j:Nat,j<3→wr.cell? ⟨w.heap.size+1,j,none⟩=some (.int .i64 (sumA j (xs.take m)))∧wr.frozen? ⟨w.heap.size+1,j,none⟩=false):=by
    intro j hj;rw[(bcell hb3).1 _ _ oM,(bcell hb3).2 _ _ oM];exact HS2.out j hj
   have f1:=HS3.out l.ast.toNat oM;obtain⟨f1,f2⟩:=f1;rw[show((l.ast.toNat:Nat):Int)=l.ast by omega] at f1;obtain⟨s,hs⟩:∃s,s=sumA l.ast (xs.take m):=⟨_,rfl⟩
   have sb:=fHy l.ast xs m (by have:=HN.out;omega) HO.out;rw[←hs] at f1 sb;have HSS:Hid (s=sumA l.ast (xs.take m)):=hs;clear hs;obtain⟨sb1,sb2⟩:=sb;have sb3 : -8000000000000≤s:=oM;have sb4:s≤8000000000000:=oM;clear sb1 sb2;go_wp2;go_region;go_wp2;have hmn:m<xs.length:=by have:=HN.out;omega
   refine⟨⟨m+1,by omega,by go_num,fFd HO.out (by rw[←HL.out];exact HF.out) (by rw[←HL.out];exact HP.out),?_,?_,by simp;omega,?_⟩,mI⟩
   ·
    intro j hj;have old:=HS3.out j hj;show(wr.setCell _ _).cell? _=_∧(wr.setCell _ _).frozen? _=_;rw[World.frozen?_setCell];refine⟨?_,old.2⟩;rw[fLe (j:Int) xs m hmn,←HL.out];by_cases hje:l.ast.toNat=j
    ·subst hje;rw[vO f1,HSS.out,show((l.ast.toNat:Nat):Int)=l.ast by omega,if_pos rfl]
    rw[kD (by simp),old.1,if_neg oM,Int.add_zero]
   ·show(wr.setCell _ _).cell? _=_;rw[kD (by simp)];rw[(bcell hb3).1 _ _ oM];exact hcx2
   exact(bset (bS hbl2 hb3) (by simp) _).drew
  have hd:(gI l==0)=false:=by simpa using hlf
  go_wp2;go_ret;refine⟨?_,hbl2⟩;have:=HN.out;rw[fV5 hid oM oM (k:=k) oM HO.out (by rw[←HL.out];exact hlf),←HL.out];rfl
 have hkn:k=n:=oM;subst hkn;have t0:xs.take k=xs:=by rw[←HN.out];exact List.take_length
 rw[t0] at HS;have HO':Hid (okTo xs xs.length):=by rw[HN.out];exact HO.out
 clear HO;go_wp2;go_loopw [9] (fun i w'=>∃m:Nat,m≤3∧i =.int .i64 m∧(∀j:Nat,j<m→sumA j xs=0)∧w'=wo) (fun i _=>3-(intOf i).toNat)
 case atStart=>exact⟨0,by omega,rfl,fun j h=>oM,rfl⟩
 obtain⟨m,hm,rfl,hp,rfl⟩:=hrel;have HP:Hid (∀j:Nat,j<m→sumA j xs=0):=hp;clear hp;by_cases hm3:m<3
 ·
  obtain⟨f1,_⟩:=HS.out m hm3;obtain⟨s,hs⟩:∃s,s=sumA m xs:=⟨_,rfl⟩
  rw[←hs] at f1;have HSS:Hid (s=sumA m xs):=hs;clear hs;by_cases hs0:s=0
  ·
   subst hs0;go_wp2;refine⟨⟨m+1,by omega,by go_num,fun j hj=>?_,trivial⟩,mI⟩;by_cases hjm:j<m
   ·exact HP.out j hjm
   have:j=m:=oM;subst this;exact HSS.out.symm
  have hd:(s==0)=false:=by simpa using hs0
  go_wp2;go_ret;have:=HN.out;rw[fXj hid oM oM HO'.out]
  ·exact⟨rfl,hbl⟩
  intro ⟨z0,z1,z2⟩;apply hs0;rw[HSS.out];match m,hm3 with
  | 0,_=>exact z0
  | 1,_=>exact z1
  | 2,_=>exact z2
 have hm3':m=3:=oM;subst hm3';go_wp2;go_ret;have:=HN.out;rw[fWl hid oM oM HO'.out ⟨HP.out 0 oM,HP.out 1 oM,HP.out 2 oM⟩];exact⟨rfl,hbl⟩
theorem uJ (id:Int) (x:Value) (xs:List Leg) (w:World) (hx:vB w x xs) :
  RI 86 #[.agg #[.int .i64 id,x]] w (.int .i64 (fA id xs)):=by
 by_cases h:inB id 1 1000000000=false∨xs.length<2∨8<xs.length
 ·exact fFt id x xs w hx h
 have h1:inB id 1 1000000000=true:=by
  cases hb:inB id 1 1000000000 with
  | true=>rfl
  | false=>exact absurd (Or.inl hb) h
 exact fGl id x xs w hx h1 oM oM
theorem fP4:Tryz.prog.eqGuardType Tryz.prog.depth 168=false:=kF
theorem fU7 (o l:Leg) (w:World):(binOp .eql 168 (.agg #[.int .i64 o.sh,.int .i64 o.ac,.int .i64 o.ast,.int .i64 0]) (.agg #[.int .i64 l.sh,.int .i64 l.ac,.int .i64 l.ast,.int .i64 0])).run Tryz.prog w =.ok (.bool (uA o l)) w:=by
 rw[run_eql_struct,run_equalIn_struct w 9999 168 _ _ kF kF];have hf : (Tryz.prog.fieldsOf 168).toList = [{ name := "Shard", type := 2, offset := 0, embedded := false, tag := "", pkgPath := "", byteOffset := 0 }, { name := "Account", type := 2, offset := 1, embedded := false, tag := "", pkgPath := "", byteOffset := 8 }, { name := "Asset", type := 2, offset := 2, embedded := false, tag := "", pkgPath := "", byteOffset := 16 }, { name := "Amount", type := 2, offset := 3, embedded := false, tag := "", pkgPath := "", byteOffset := 24 }] := kF
 rw[hf];simp[Op.eqFields,go_sem,uA];by_cases e1:o.sh=l.sh <;> by_cases e2:o.ac=l.ac <;> by_cases e3:o.ast=l.ast <;> simp[e1,e2,e3]
theorem fAh (x:Value) (xs:List Leg) (l:Leg) (w:World) (hx:vB w x xs) :
  RI 171 #[x,legV l] w (.bool (fU xs l)):=by
 obtain⟨ax,cx,rfl,hcx,hmx,hx⟩:=hx;unfold maxLen at hmx;generalize hn':xs.length=n at *;have HN:Hid (xs.length=n):=hn';clear hn';unfold legV;go_enter Tryz.func171,Tryz.ntmps171;go_wp2;go_loopw [9] (fun i w'=>∃k:Nat,k≤n∧i =.int .i64 k∧fU (xs.take k) l=false∧mH w' w.heap.size 0 l∧w.heap.size<w'.heap.size∧Below w.heap.size w w') (fun i _=>n-(intOf i).toNat)
 case atStart=>exact⟨0,oM,rfl,by simp[fU],⟨sG,by simp[go_sem],sG,by simp[go_sem]⟩,by simp,bA (bR _ _) _⟩
 obtain⟨k,hk,rfl,hp,hl,hz,hbl⟩:=hrel;have HP:Hid (fU (xs.take k) l=false):=hp;clear hp;by_cases hlt:k<n
 ·
  obtain⟨bx,ox,rfl,g1⟩:=hx k hlt;obtain⟨o,ho⟩:∃o,o=xs.getD k default:=⟨_,rfl⟩
  rw[←ho] at g1;have HO:Hid (o=xs.getD k default):=ho;clear ho hx;obtain⟨a1,a2,a3,a4⟩:=fQ hbl g1;have h1:mH (wr.alloc (.cells #[.int .i64 o.sh,.int .i64 o.ac,.int .i64 o.ast,.int .i64 o.am] 168)) wr.heap.size 0 o:=⟨sG,by simp[go_sem],sG,by simp[go_sem]⟩;have h2:=fQ (bA (Below.refl _ wr) (.cells #[.int .i64 o.sh,.int .i64 o.ac,.int .i64 o.ast,.int .i64 o.am] 168)) hl;go_wp2;generalize hW:wr.alloc (.cells #[.int .i64 o.sh,.int .i64 o.ac,.int .i64 o.ast,.int .i64 o.am] 168)=W at *;have HW:Hid (wr.alloc (.cells #[.int .i64 o.sh,.int .i64 o.ac,.int .i64 o.ast,.int .i64 o.am] 168)=W):=hW;clear hW;have heq:=fU7 o l;have hgd:=fP4;go_region_held3 (fun w'=>Below W.heap.size W w'∧(w'.cell? ⟨wr.heap.size,0,none⟩=some (.int .i64 o.sh)∧w'.cell? ⟨wr.heap.size,1,none⟩=some (.int .i64 o.ac)∧w'.cell? ⟨wr.heap.size,2,none⟩=some (.int .i64 o.ast)∧w'.cell? ⟨wr.heap.size,3,none⟩=some (.int .i64 o.am))∧(w'.cell? ⟨w.heap.size,0,none⟩=some (.int .i64 l.sh)∧w'.cell? ⟨w.heap.size,1,none⟩=some (.int .i64 l.ac)∧w'.cell? ⟨w.heap.size,2,none⟩=some (.int .i64 l.ast)∧w'.cell? ⟨w.heap.size,3,none⟩=some (.int .i64 l.am))) ((refine keep2 ?_ h1 h2;repeat (first|exact bR _ _|assumption|refine bD ?_|refine bA ?_ _|refine bS ?_ (by assumption)))) (first|(go_at_call_of 190 (o.sh);refine(fFf o _).mono ?_;rintro e w' ⟨rfl,hb1⟩;simp only[legV])|(go_at_call_of 190 (l.sh);refine(fFf l _).mono ?_;rintro e w' ⟨rfl,hb2⟩;simp only[legV]));all_goals
   rename_i hH;have hB:=hH.1;clear hH heq hgd;have hBw:Below w.heap.size w w':=by
    have e:=HW.out;subst e;exact bS (bA hbl _) hB
   go_wp2
   ·
    rename_i hs;go_ret;refine⟨?_,hBw⟩;have:fU xs l=true:=by
     have h:=fBg (xs:=xs) (k:=k+1) (m:=xs.length) (l:=l) (by have:=HN.out;omega) (by rw[uF xs k (by have:=HN.out;omega),←HO.out,hs];simp);rwa [List.take_length] at h
    rw[this];rfl
   rename_i hs;refine⟨⟨k+1,by omega,by go_num,?_,fQ hB h2,by have:=wL _ _ (fQ hB h2).1;simpa using this,hBw⟩,mI⟩;rw[uF xs k (by have:=HN.out;omega),←HO.out,HP.out];simpa using hs
 go_wp2;go_ret;have hkn:k=n:=oM;subst hkn;have t0:xs.take k=xs:=by rw[←HN.out];exact List.take_length
 have:=HP.out;rw[t0] at this;exact⟨by rw[this];rfl,hbl⟩
def pR (a:Int):List Leg→Int
 | []=>0
 | l::r=>(if l.ast=a∧0<l.am then l.am else 0)+pR a r
def pV (a:Int):List Leg→Int
 | []=>0
 | l::r=>(if l.ast=a∧¬0<l.am then l.am else 0)+pV a r
theorem fL7 (a:Int) (xs:List Leg):pR a xs+pV a xs=sumA a xs:=by
 induction xs with
 | nil=>simp[pR,pV,sumA]
 | cons l r ih=>
  simp only[pR,pV,sumA];by_cases h1:l.ast=a <;> by_cases h2:0<l.am <;> simp[h1,h2] <;> omega
theorem fIn (a:Int) (l r:List Leg):pR a (l++r)=pR a l+pR a r:=by
 induction l with
 | nil=>simp[pR]
 | cons x l ih=>simp only[List.cons_append,pR,ih];omega
theorem fJh (a:Int) (l r:List Leg):pV a (l++r)=pV a l+pV a r:=by
 induction l with
 | nil=>simp[pV]
 | cons x l ih=>simp only[List.cons_append,pV,ih];omega
theorem fEm (a:Int) (xs:List Leg) (k:Nat) (h:k<xs.length):pR a (xs.take (k+1))=pR a (xs.take k)+if (xs.getD k default).ast=a∧0<(xs.getD k default).am then (xs.getD k default).am else 0:=by
 rw[rM xs k h,fIn];simp[pR]
theorem fFx (a:Int) (xs:List Leg) (k:Nat) (h:k<xs.length):pV a (xs.take (k+1))=pV a (xs.take k)+if (xs.getD k default).ast=a∧¬0<(xs.getD k default).am then (xs.getD k default).am else 0:=by
 rw[rM xs k h,fJh];simp[pV]
def small (xs:List Leg):Prop:=∀j,j<xs.length → -1000000000000≤(xs.getD j default).am∧(xs.getD j default).am≤1000000000000
theorem fNd {xs:List Leg} (h:okTo xs xs.length):small xs:=fun j hj=>(gZ (h j hj).1).2.2.2.1
theorem zC (a:Int) (xs:List Leg) (hs:small xs):∀k,k≤xs.length→0≤pR a (xs.take k)∧pR a (xs.take k)≤k*1000000000000
 | 0,_=>by simp[pR]
 | k+1,hk=>by
  have ih:=zC a xs hs k oM;have hb:=hs k oM;rw[fEm a xs k oM];split <;> omega
theorem zN (a:Int) (xs:List Leg) (hs:small xs):∀k,k≤xs.length → -(k*1000000000000:Int)≤pV a (xs.take k)∧pV a (xs.take k)≤0
 | 0,_=>by simp[pV]
 | k+1,hk=>by
  have ih:=zN a xs hs k oM;have hb:=hs k oM;rw[fFx a xs k oM];split <;> omega
theorem fRi (x:Value) (xs:List Leg) (asset:Int) (w:World) (hx:vB w x xs) (hn8:xs.length≤8) (hs:small xs) :
  RI 191 #[x,.int .i64 asset] w (.agg #[.int .i64 (pR asset xs),.int .i64 (pV asset xs)]):=by
 obtain⟨ax,cx,rfl,hcx,hmx,hx⟩:=hx;unfold maxLen at hmx;have HS:Hid (small xs):=hs;clear hs;generalize hn':xs.length=n at *;have HN:Hid (xs.length=n):=hn';clear hn';go_enter Tryz.func191,Tryz.ntmps191;go_wp2;go_loopw [10] (fun i w'=>∃k:Nat,k≤n∧i =.int .i64 k∧w'.cell? ⟨w.heap.size+1,0,none⟩=some (.int .i64 (pR asset (xs.take k)))∧w'.cell? ⟨w.heap.size+1,1,none⟩=some (.int .i64 (pV asset (xs.take k))) ∧
   (∀o,w'.frozen? ⟨w.heap.size+1,o,none⟩=false)∧(∀o,w'.frozen? ⟨w.heap.size,o,none⟩=false)∧w'.cell? ⟨w.heap.size,0,none⟩=some (.int .i64 0)∧w'.cell? ⟨w.heap.size,1,none⟩=some (.int .i64 0)∧w.heap.size+1<w'.heap.size∧Below w.heap.size w w') (fun i _=>n-(intOf i).toNat)
 case atStart=>exact⟨0,oM,rfl,by simp[go_sem,pR],by simp[go_sem,pV],sG,by simp[go_sem],sG,by simp[go_sem],by simp,bA (bA (bR _ _) _) _⟩
 obtain⟨k,hk,rfl,hg,ht,hf1,hf0,hr0,hr1,hz,hbl⟩:=hrel;by_cases hlt:k<n
 ·
  obtain⟨bx,ox,rfl,g1⟩:=hx k hlt;obtain⟨l,hl⟩:∃l,l=xs.getD k default:=⟨_,rfl⟩
  rw[←hl] at g1;have HL:Hid (l=xs.getD k default):=hl;clear hl hx;obtain⟨a1,a2,a3,a4⟩:=fQ hbl g1;have gb:=zC asset xs HS.out k (by have:=HN.out;omega);have tb:=zN asset xs HS.out k (by have:=HN.out;omega);have sb:=HS.out k (by have:=HN.out;omega);rw[←HL.out] at sb;obtain⟨g,hge⟩:∃g,g=pR asset (xs.take k):=⟨_,rfl⟩
  obtain⟨t,hte⟩:∃t,t=pV asset (xs.take k):=⟨_,rfl⟩
  rw[←hge] at hg gb;rw[←hte] at ht tb;have HG:Hid (g=pR asset (xs.take k)):=hge;have HT:Hid (t=pV asset (xs.take k)):=hte;clear hge hte;obtain⟨sb1,sb2⟩:=sb;have gb1:0≤g:=gb.1;have gb2:g≤8000000000000:=oM;have tb1 : -8000000000000≤t:=oM;have tb2:t≤0:=tb.2;clear gb tb;have hkx:k<xs.length:=by have:=HN.out;omega
  have eg:pR asset (xs.take (k+1))=g+if l.ast=asset∧0<l.am then l.am else 0:=by rw[fEm asset xs k hkx,←HL.out,HG.out]
  have et:pV asset (xs.take (k+1))=t+if l.ast=asset∧¬0<l.am then l.am else 0:=by rw[fFx asset xs k hkx,←HL.out,HT.out]
  have HEG:Hid (pR asset (xs.take (k+1))=g+if l.ast=asset∧0<l.am then l.am else 0):=eg;have HET:Hid (pV asset (xs.take (k+1))=t+if l.ast=asset∧¬0<l.am then l.am else 0):=et;clear eg et;have hz0:w.heap.size<wr.heap.size:=oM;go_wp2
  ·
   rename_i h1;have h1':¬l.ast=asset:=by simpa using h1
   have e1:=HEG.out;have e2:=HET.out;rw[if_neg (fun h=>h1' h.1),Int.add_zero] at e1 e2;refine⟨⟨k+1,by omega,by go_num,?_,?_,?_,?_,?_,?_,?_,bA hbl _⟩,mI⟩
   ·rw[e1];simp[go_sem,hz,hg]
   ·rw[e2];simp[go_sem,hz,ht]
   ·simp[go_sem,hz,hf1]
   ·simp[go_sem,hz0,hf0]
   ·simp[go_sem,hz0,hr0]
   ·simp[go_sem,hz0,hr1]
   simp;omega
  ·
   rename_i h1 h2;have h1':l.ast=asset:=by simpa using h1
   have e1:=HEG.out;have e2:=HET.out;rw[if_pos ⟨h1',h2⟩] at e1;rw[if_neg (fun h=>h.2 h2),Int.add_zero] at e2;refine⟨⟨k+1,by omega,by go_num,?_,?_,?_,?_,?_,?_,?_,bA (bset hbl (by simp) _) _⟩,mI⟩
   ·rw[e1,World.cell?_alloc_past _ _ _ (by simp;omega)];exact vO hg
   ·rw[e2,World.cell?_alloc_past _ _ _ (by simp;omega),kD (by simp)];exact ht
   ·simp[go_sem,hz,hf1]
   ·simp[go_sem,hz0,hf0]
   ·rw[World.cell?_alloc_past _ _ _ (by simp;omega),kD (by simp)];exact hr0
   ·rw[World.cell?_alloc_past _ _ _ (by simp;omega),kD (by simp)];exact hr1
   simp;omega
  rename_i h1 h2;have h1':l.ast=asset:=by simpa using h1
  have e1:=HEG.out;have e2:=HET.out;rw[if_neg (fun h=>oM),Int.add_zero] at e1;rw[if_pos ⟨h1',oM⟩] at e2;refine⟨⟨k+1,by omega,by go_num,?_,?_,?_,?_,?_,?_,?_,bA (bset hbl (by simp) _) _⟩,mI⟩
  ·rw[e1,World.cell?_alloc_past _ _ _ (by simp;omega),kD (by simp)];exact hg
  ·rw[e2,World.cell?_alloc_past _ _ _ (by simp;omega)];exact vO ht
  ·simp[go_sem,hz,hf1]
  ·simp[go_sem,hz0,hf0]
  ·rw[World.cell?_alloc_past _ _ _ (by simp;omega),kD (by simp)];exact hr0
  ·rw[World.cell?_alloc_past _ _ _ (by simp;omega),kD (by simp)];exact hr1
  simp;omega
 have hkn:k=n:=oM;subst hkn;have t0:xs.take k=xs:=by rw[←HN.out];exact List.take_length
 rw[t0] at hg ht;go_wp2;refine bodyPost_ret (v:=.agg #[.int .i64 (pR asset xs),.int .i64 (pV asset xs)]) ?_ rfl ⟨rfl,bset (bset hbl (by simp) _) (by simp) _⟩;simp[results,Tryz.results191,go_sem,hr0,hr1]
def fT6 (xs:List Leg):Int:=if sumA 0 xs=0∧sumA 1 xs=0∧sumA 2 xs=0 then 0 else 1
theorem fJg (x:Value) (xs:List Leg) (w:World) (hx:vB w x xs) (hn8:xs.length≤8) (hs:small xs) :
  RI 172 #[x] w (.int .i64 (fT6 xs)):=by
 have HS:Hid (small xs):=hs;clear hs;go_enter Tryz.func172,Tryz.ntmps172;go_wp2;go_loopw [3] (fun i w'=>∃m:Nat,m≤3∧i =.int .i64 m∧(∀j:Nat,j<m→sumA j xs=0)∧Below w.heap.size w w') (fun i _=>3-(intOf i).toNat)
 case atStart=>exact⟨0,by omega,rfl,fun j h=>oM,bR _ _⟩
 obtain⟨m,hm,rfl,hp,hbl⟩:=hrel;have HP:Hid (∀j:Nat,j<m→sumA j xs=0):=hp;clear hp;by_cases hm3:m<3
 ·
  have hm3':(m:Int)<3:=oM;have gb:=zC m xs HS.out xs.length (Nat.le_refl _);have tb:=zN m xs HS.out xs.length (Nat.le_refl _);have gt:=fL7 m xs;rw[List.take_length] at gb tb;go_wp2_with fail;refine(fRi x xs m _ (kS hx hbl) hn8 HS.out).mono ?_;rintro e w1 ⟨rfl,hb1⟩;obtain⟨g,hge⟩:∃g,g=pR m xs:=⟨_,rfl⟩
  obtain⟨t,hte⟩:∃t,t=pV m xs:=⟨_,rfl⟩
  obtain⟨s,hse⟩:∃s,s=sumA m xs:=⟨_,rfl⟩
  rw[←hge,←hte,←hse] at gt;rw[←hge] at gb;rw[←hte] at tb;rw[←hge,←hte];have HSS:Hid (s=sumA m xs):=hse;have HGT:Hid (g+t=s):=gt;clear hge hte hse gt;have gb1:0≤g:=gb.1;have gb2:g≤8000000000000:=oM;have tb1 : -8000000000000≤t:=oM;have tb2:t≤0:=tb.2;clear gb tb;by_cases hs0:g+t=0
  ·
   have hd:(g+t==0)=true:=by simpa using hs0
   have HD:Hid (g+t=0):=hs0;clear hs0;go_wp2;refine⟨⟨m+1,by omega,by go_num,fun j hj=>?_,bA (bS hbl hb1) _⟩,mI⟩;by_cases hjm:j<m
   ·exact HP.out j hjm
   have:j=m:=oM;subst this;rw[←HSS.out,←HGT.out,HD.out]
  have hd:(g+t==0)=false:=by simpa using hs0
  have HD:Hid (¬g+t=0):=hs0;clear hs0;go_wp2;go_ret;refine⟨?_,bA (bS hbl hb1) _⟩;rw[fT6,if_neg]
  ·rfl
  intro ⟨z0,z1,z2⟩;apply HD.out;rw[HGT.out,HSS.out];match m,hm3 with
  | 0,_=>exact z0
  | 1,_=>exact z1
  | 2,_=>exact z2
 have hm3':m=3:=oM;subst hm3';go_wp2;go_ret;rw[fT6,if_pos ⟨HP.out 0 oM,HP.out 1 oM,HP.out 2 oM⟩];exact⟨rfl,hbl⟩
theorem fEw (id:Int) (x:Value) (xs:List Leg) (w:World) (hx:vB w x xs) (h:inB id 1 1000000000=false∨xs.length<2∨8<xs.length) :
  RI 142 #[.agg #[.int .i64 id,x]] w (.int .i64 (fA id xs)):=by
 obtain⟨ax,cx,rfl,hcx,hmx,hx⟩:=hx;unfold maxLen at hmx;clear hx;by_cases hid:inB id 1 1000000000=false
 ·go_enter Tryz.func142,Tryz.ntmps142;go_wp2_with (go_at_call 146;refine(kT _ _).mono ?_;rintro e w' ⟨rfl,rfl⟩);go_ret;exact⟨by simp[fA,hid],bA (bR _ _) _⟩
 have hid':inB id 1 1000000000=true:=by simpa using hid
 have hn:xs.length<2∨8<xs.length:=by
  rcases h with h|h
  ·exact absurd h hid
  exact h
 have hcf:fA id xs=2:=by simp[fA,hid',hn]
 rw[hcf];generalize xs.length=n at *;clear hid h hcf;rcases hn with hn|hn
 ·have h1:(n:Int)<2:=oM;go_enter Tryz.func142,Tryz.ntmps142;go_wp2_with (go_at_call 146;refine(kT _ _).mono ?_;rintro e w' ⟨rfl,rfl⟩);go_ret;exact⟨rfl,bA (bR _ _) _⟩
 have h1:¬(n:Int)<2:=oM;have h2:(8:Int)<(n:Int):=oM;go_enter Tryz.func142,Tryz.ntmps142;go_wp2_with (go_at_call 146;refine(kT _ _).mono ?_;rintro e w' ⟨rfl,rfl⟩);go_ret;exact⟨rfl,bA (bR _ _) _⟩
theorem fQb (xs:List Leg) (k i:Nat) (h:i<k):(xs.take k).getD i default=xs.getD i default:=by
 simp[List.getD,h]
theorem fPl {w:World} {a:Option Addr} {cap n k:Nat} {xs:List Leg} (hn:xs.length=n) (hk:k≤n) (h1:n≤cap) (h2:cap≤maxLen) (h:∀i,i<n→∃b o,a=some ⟨b,o,none⟩∧mH w b (o+i*4) (xs.getD i default)) :
  vB w (.slice a k cap) (xs.take k):=by
 have hl:(xs.take k).length=k:=by rw[List.length_take];omega
 refine⟨a,cap,by rw[hl],oM,h2,fun i hi=>?_⟩;rw[hl] at hi;obtain⟨b,o,ha,hc⟩:=h i oM;exact⟨b,o,ha,by rw[fQb xs k i hi];exact hc⟩
theorem fGd (id:Int) (x:Value) (xs:List Leg) (w:World) (hx:vB w x xs) (hid:inB id 1 1000000000=true) (hn2:2≤xs.length) (hn8:xs.length≤8) :
  RI 142 #[.agg #[.int .i64 id,x]] w (.int .i64 (fA id xs)):=by
 have hx0:=hx;obtain⟨ax,cx,rfl,hcx,hmx,hx⟩:=hx;have HX0:Hid (vB w (.slice ax xs.length cx) xs):=hx0;clear hx0;have HMX:Hid (cx≤maxLen):=hmx;unfold maxLen at hmx;generalize hn':xs.length=n at *;have HN:Hid (xs.length=n):=hn';clear hn';have h1:¬(n:Int)<2:=oM;have h2:¬(8:Int)<(n:Int):=oM;go_enter Tryz.func142,Tryz.ntmps142;go_wp2_with (go_at_call 146;refine(kT _ _).mono ?_;rintro e w' ⟨rfl,rfl⟩);go_loopw [23] (fun i w'=>∃k:Nat,k≤n∧i =.int .i64 k∧okTo xs k∧w'.cell? ⟨w.heap.size,1,none⟩=some (.slice ax n cx)∧w.heap.size<w'.heap.size∧Below w.heap.size w w') (fun i _=>n-(intOf i).toNat)
 case atStart=>exact⟨0,oM,rfl,fun j h=>oM,by simp[go_sem],by simp,bA (bR _ _) _⟩
 obtain⟨k,hk,rfl,hok,hcx1,hsz,hbl⟩:=hrel;generalize wr=wo at *;have HO:Hid (okTo xs k):=hok;clear hok;by_cases hlt:k<n
 ·
  obtain⟨bx,ox,rfl,g1⟩:=hx k hlt;have HX:Hid (∀i,i<n→∃b o,some (⟨bx,ox,none⟩:Addr)=some ⟨b,o,none⟩∧mH w b (o+i*4) (xs.getD i default)):=hx;clear hx;obtain⟨l,hl⟩:∃l,l=xs.getD k default:=⟨_,rfl⟩
  rw[←hl] at g1;have HL:Hid (l=xs.getD k default):=hl;clear hl;obtain⟨a1,a2,a3,a4⟩:=fQ hbl g1;go_wp2_with fail;refine(fDj l _).mono ?_;rintro e w2 ⟨rfl,hb2⟩;obtain⟨hc2,hf2⟩:=bcell hb2;have hbl2:Below w.heap.size w w2:=bS (bA hbl _) hb2;have hz2:wo.heap.size<w2.heap.size:=by have:=hb2.size;simp at this;omega
  have hcx2:w2.cell? ⟨w.heap.size,1,none⟩=some (.slice (some ⟨bx,ox,none⟩) n cx):=by
   rw[hc2 _ _ (by simp;omega)];simp[go_sem,hcx1,show w.heap.size<wo.heap.size by omega]
  have hl2:mH w2 wo.heap.size 0 l:=by
   refine⟨?_,?_,?_,?_⟩ <;> (rw[hc2 _ _ (by simp)];simp[go_sem])
  clear hc2 hf2 hb2 a1 a2 a3 a4 hcx1 hbl;by_cases hlf:gI l=0
  ·
   have HF:Hid (gI l=0):=hlf;rw[hlf];clear hlf;have hkb:(k:Int)≤(cx:Int):=oM;have hk0:(0:Int)≤(k:Int):=oM;go_wp2;go_region_held3 (fun w'=>Below w2.heap.size w2 w'∧w'.cell? ⟨w.heap.size,1,none⟩=some (.slice (some ⟨bx,ox,none⟩) n cx)∧w'.cell? ⟨wo.heap.size,0,none⟩=some (.int .i64 l.sh)∧w'.cell? ⟨wo.heap.size,1,none⟩=some (.int .i64 l.ac)∧w'.cell? ⟨wo.heap.size,2,none⟩=some (.int .i64 l.ast)∧w'.cell? ⟨wo.heap.size,3,none⟩=some (.int .i64 l.am))
    ((refine(fun hb=>⟨hb,(hb.cell (p:=⟨w.heap.size,1,none⟩) (by exact Nat.lt_trans hsz hz2)).trans hcx2,fQ hb hl2⟩:Below w2.heap.size w2 _→_) ?_;repeat (first|exact bR _ _|assumption|refine bD ?_|refine bS ?_ (by assumption))))
    (first|(go_at_call 171;refine(fAh _ (xs.take k) l _ ?_).mono ?_;exact fPl HN.out hk hcx HMX.out (fun i hi=>(HX.out i hi).imp fun b h=>h.imp fun o h=>⟨h.1,fQ (bS hbl2 (bR _ _).drew) h.2⟩);rintro e w' ⟨rfl,hb3⟩))
   rename_i hH;have hB:=hH.1;have hc1':=hH.2.1;clear hH;have hBw:Below w.heap.size w w':=bS hbl2 hB;go_wp2
   ·rename_i hs;go_ret;refine⟨?_,hBw⟩;have:=HN.out;rw[fN1 hid oM oM (k:=k) oM HO.out (by rw[←HL.out];exact HF.out) (by rw[←HL.out];exact hs)];rfl
   rename_i hs;refine⟨⟨k+1,by omega,by go_num,fFd HO.out (by rw[←HL.out];exact HF.out) (by rw[←HL.out];simpa using hs),hc1',by have:=hB.size;omega,hBw⟩,mI⟩
  have hd:(gI l==0)=false:=by simpa using hlf
  go_wp2;go_ret;refine⟨?_,hbl2⟩;have:=HN.out;rw[fV5 hid oM oM (k:=k) oM HO.out (by rw[←HL.out];exact hlf),←HL.out];rfl
 have hkn:k=n:=oM;subst hkn;have HO':Hid (okTo xs xs.length):=by rw[HN.out];exact HO.out
 go_wp2_with fail;refine(fJg _ xs _ (kS HX0.out hbl) (by have:=HN.out;omega) (fNd HO'.out)).mono ?_;rintro e w1 ⟨rfl,hb1⟩;go_wp2;go_ret;refine⟨?_,bS hbl hb1⟩;have:=HN.out;have e:fA id xs=fT6 xs:=by
  rw[fJv hid oM oM,fNb HO'.out,if_pos rfl,fT6]
 rw[e];rfl
theorem uG (id:Int) (x:Value) (xs:List Leg) (w:World) (hx:vB w x xs) :
  RI 142 #[.agg #[.int .i64 id,x]] w (.int .i64 (fA id xs)):=by
 by_cases h:inB id 1 1000000000=false∨xs.length<2∨8<xs.length
 ·exact fEw id x xs w hx h
 have h1:inB id 1 1000000000=true:=by
  cases hb:inB id 1 1000000000 with
  | true=>rfl
  | false=>exact absurd (Or.inl hb) h
 exact fGd id x xs w hx h1 oM oM
theorem fHp {xs:List Leg} (h:scan [] xs=0):∀k,k≤xs.length→okTo xs k
 | 0,_=>fun j hj=>oM
 | k+1,hk=>by
  have ih:=fHp h k oM;by_cases h0:gI (xs.getD k default)=0
  ·
   cases h1:fU (xs.take k) (xs.getD k default) with
   | false=>exact fFd ih h0 h1
   | true=>have:=fHt oM ih h0 h1;omega
  have:=fO5 oM ih h0;omega
theorem fGv {id:Int} {xs:List Leg} (h:fA id xs=0):inB id 1 1000000000=true∧2≤xs.length∧xs.length≤8∧okTo xs xs.length∧sumA 0 xs=0∧sumA 1 xs=0∧sumA 2 xs=0:=by
 unfold fA at h;split at h
 ·
  rename_i h1;split at h
  ·omega
  split at h
  ·
   rename_i h3;split at h
   ·rename_i h4;exact⟨h1,by omega,by omega,fHp h3 _ (Nat.le_refl _),h4⟩
   omega
  omega
 omega
end
section
theorem fXw {w w':World} {a0:Addr} {x0:Value} {a1:Addr} {x1:Value} {a2:Addr} {x2:Value} (hb:Below w.heap.size w w') (g0:w.cell? a0=some x0) (g1:w.cell? a1=some x1) (g2:w.cell? a2=some x2):Below w.heap.size w w'∧w'.cell? a0=some x0∧w'.cell? a1=some x1∧w'.cell? a2=some x2:=
 ⟨hb,cK hb g0,cK hb g1,cK hb g2⟩
theorem fXx {w w':World} {a0:Addr} {x0:Value} {a1:Addr} {x1:Value} {a2:Addr} {x2:Value} {a3:Addr} {x3:Value} (hb:Below w.heap.size w w') (g0:w.cell? a0=some x0) (g1:w.cell? a1=some x1) (g2:w.cell? a2=some x2) (g3:w.cell? a3=some x3):Below w.heap.size w w'∧w'.cell? a0=some x0∧w'.cell? a1=some x1∧w'.cell? a2=some x2∧w'.cell? a3=some x3:=
 ⟨hb,cK hb g0,cK hb g1,cK hb g2,cK hb g3⟩
theorem fS1 {w W W':World} {a1 a2:Addr} {v1 v2:Value} (h:Below w.heap.size w W∧W.cell? a1=some v1∧W.cell? a2=some v2) (hb:Below W.heap.size W W'):Below w.heap.size w W'∧W'.cell? a1=some v1∧W'.cell? a2=some v2:=
 ⟨bS h.1 hb,cK hb (h.2.1),cK hb (h.2.2)⟩
theorem fBi {w W W':World} {a1 a2 a3 a4:Addr} {v1 v2 v3 v4:Value} (h:Below w.heap.size w W∧W.cell? a1=some v1∧W.cell? a2=some v2∧W.cell? a3=some v3∧W.cell? a4=some v4) (hb:Below W.heap.size W W'):Below w.heap.size w W'∧W'.cell? a1=some v1∧W'.cell? a2=some v2∧W'.cell? a3=some v3∧W'.cell? a4=some v4:=
 ⟨bS h.1 hb,cK hb (h.2.1),cK hb (h.2.2.1),cK hb (h.2.2.2.1),cK hb (h.2.2.2.2)⟩
theorem fWv {w W W':World} {a1 a2 a3 a4:Addr} {v1 v2 v3 v4:Value} {b:Nat} (h:Below w.heap.size w W∧W.cell? a1=some v1∧W.cell? a2=some v2∧W.cell? a3=some v3∧W.cell? a4=some v4) (hg:W.grownBy W' (some b)) (hl:w.heap.size≤b) (n1:some a1.block≠some b) (n2:some a2.block≠some b) (n3:some a3.block≠some b) (n4:some a4.block≠some b):Below w.heap.size w W'∧W'.cell? a1=some v1∧W'.cell? a2=some v2∧W'.cell? a3=some v3∧W'.cell? a4=some v4:=
 ⟨h.1.grown hg h.1.size (fun k e=>by cases e;exact hl),hg.cell (h.2.1) n1,hg.cell (h.2.2.1) n2,hg.cell (h.2.2.2.1) n3,hg.cell (h.2.2.2.2) n4⟩
theorem fS2 {w W W':World} {a1 a2 a3 a4 a5:Addr} {v1 v2 v3 v4 v5:Value} (h:Below w.heap.size w W∧W.cell? a1=some v1∧W.cell? a2=some v2∧W.cell? a3=some v3∧W.cell? a4=some v4∧W.cell? a5=some v5) (hb:Below W.heap.size W W'):Below w.heap.size w W'∧W'.cell? a1=some v1∧W'.cell? a2=some v2∧W'.cell? a3=some v3∧W'.cell? a4=some v4∧W'.cell? a5=some v5:=
 ⟨bS h.1 hb,cK hb (h.2.1),cK hb (h.2.2.1),cK hb (h.2.2.2.1),cK hb (h.2.2.2.2.1),cK hb (h.2.2.2.2.2)⟩
theorem fR2 {Y w':World} {B t:Nat} {v1 v2:Value} (hb:Below (Y.alloc (.cells #[v1,v2] t)).heap.size (Y.alloc (.cells #[v1,v2] t)) w') (e:B=Y.heap.size):w'.cell? ⟨B,0,none⟩=some v1∧w'.cell? ⟨B,1,none⟩=some v2∧(∀o,w'.frozen? ⟨B,o,none⟩=false)∧B<w'.heap.size:=by
 subst e;have h:=hb.size;simp only[World.size_alloc] at h;exact⟨cK hb sG,cK hb sG,fun o=>by rw[(bcell hb).2 _ _ (by simp)];simp[go_sem],oM⟩
theorem fR3 {Y w':World} {B t:Nat} {v1 v2 v3:Value} (hb:Below (Y.alloc (.cells #[v1,v2,v3] t)).heap.size (Y.alloc (.cells #[v1,v2,v3] t)) w') (e:B=Y.heap.size):w'.cell? ⟨B,0,none⟩=some v1∧w'.cell? ⟨B,1,none⟩=some v2∧w'.cell? ⟨B,2,none⟩=some v3∧(∀o,w'.frozen? ⟨B,o,none⟩=false)∧B<w'.heap.size:=by
 subst e;have h:=hb.size;simp only[World.size_alloc] at h;exact⟨cK hb sG,cK hb sG,cK hb sG,fun o=>by rw[(bcell hb).2 _ _ (by simp)];simp[go_sem],oM⟩
theorem qY {W w':World} {B:Nat} (h:(∀o,W.frozen? ⟨B,o,none⟩=false)∧B<W.heap.size) (hb:Below W.heap.size W w'):(∀o,w'.frozen? ⟨B,o,none⟩=false)∧B<w'.heap.size:=
 ⟨fun o=>by rw[(bcell hb).2 _ _ h.2];exact h.1 o,Nat.lt_of_lt_of_le h.2 hb.size⟩
end
end Go.Proofs.YtpibfdebfacooaaGreat

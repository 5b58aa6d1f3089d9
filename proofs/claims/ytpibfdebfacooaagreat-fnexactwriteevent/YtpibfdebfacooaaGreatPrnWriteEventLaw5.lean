import Derived.Test.YtpibfdebfacooaaGreatPrnWriteEventLaw2
import Derived.RegionTactic
import Derived.ChangeAlike
import Derived.BigRegion
set_option maxHeartbeats 2000000
set_option linter.all false
namespace Go.Proofs.YtpibfdebfacooaaGreat
open Go.RowKit
attribute [local go_sem ↓] Go.wp_at_zero Go.wp_at_succ
attribute [local go_sem] cI ah iV
section
structure BytesR where
 code:Int
 bytes:List Byte
variable [dQ BytesR] [iH BytesR]
def bytesRR:Rep BytesR where
 V:=fun w v x=>∃u1,v =.agg #[.int .i64 x.code,u1]∧bytesR.V w u1 x.bytes
 O:=fun w base F v x=>∃u1 F1,v =.agg #[.int .i64 x.code,u1]∧bytesR.O w base F1 u1 x.bytes∧(∀b,F b↔(F1 b))
 below:=fun h hb=>by
  obtain⟨u1,rfl,h1⟩:=h;exact⟨u1,rfl,bytesR.below h1 hb⟩
 ofO:=fun h=>by
  obtain⟨u1,F1,rfl,h1,_⟩:=h;exact⟨u1,rfl,bytesR.ofO h1⟩
 mod:=fun h hm hd=>by
  obtain⟨u1,F1,rfl,h1,hF⟩:=h;exact⟨u1,F1,rfl,bytesR.mod h1 hm (fun b hb=>hd b ((hF b).2 hb)),hF⟩
 rng:=fun h b hb=>by
  obtain⟨u1,F1,rfl,h1,hF⟩:=h;rcases(hF b).1 hb with hb
  exact bytesR.rng h1 b hb
 base:=fun h hb=>by
  obtain⟨u1,F1,rfl,h1,hF⟩:=h;exact⟨u1,F1,rfl,bytesR.base h1 hb,hF⟩
theorem fNj {w:World} {v:Value} {x:BytesR} (h:bytesRR.V w v x):∃a1 c1,v =.agg #[iV x.code,.slice a1 x.bytes.length c1]:=by
 obtain⟨u1,rfl,h1⟩:=h;obtain⟨a1,c1,rfl⟩:=fF h1;exact⟨_,_,rfl⟩
end
section
variable [dQ Leg] [iH Leg]
def inB (n lo hi:Int):Bool:=decide (lo≤n)&&decide (n≤hi)
theorem mF (n lo hi:Int) (w:World) :
  cL 88 #[iV n,iV lo,iV hi] w fun e w'=>e =.returned (.bool (inB n lo hi))∧w'=w:=by
 by_cases h1:lo≤n
 all_goals
  go_enter Tryz.func88,Tryz.ntmps88;go_wp2;go_ret;exact⟨by first|(simp[inB,h1];done)|(simp[inB];omega),rfl⟩
theorem qR (n lo hi:Int) (w:World) :
  cL 106 #[iV n,iV lo,iV hi] w fun e w'=>e =.returned (.bool (inB n lo hi))∧w'=w:=by
 by_cases h1:lo≤n
 all_goals
  go_enter Tryz.func106,Tryz.ntmps106;go_wp2;go_ret;exact⟨by first|(simp[inB,h1];done)|(simp[inB];omega),rfl⟩
theorem pI (n:Int) (w:World) :
  cL 87 #[iV n] w fun e w'=>e =.returned (.bool (inB n 1 1000000000))∧w'=w:=by
 go_enter Tryz.func87,Tryz.ntmps87;go_wp2_with (go_at_call 88;refine(mF _ _ _ _).mono ?_;rintro e w' ⟨rfl,rfl⟩);go_ret;exact⟨rfl,rfl⟩
theorem kX (n:Int) (w:World) :
  cL 146 #[iV n] w fun e w'=>e =.returned (.bool (inB n 1 1000000000))∧w'=w:=by
 go_enter Tryz.func146,Tryz.ntmps146;go_wp2_with (go_at_call 106;refine(qR _ _ _ _).mono ?_;rintro e w' ⟨rfl,rfl⟩);go_ret;exact⟨rfl,rfl⟩
theorem vR (n:Int) (w:World) :
  cL 111 #[iV n] w fun e w'=>e =.returned (.bool (inB n 0 2))∧w'=w:=by
 go_enter Tryz.func111,Tryz.ntmps111;go_wp2_with (go_at_call 106;refine(qR _ _ _ _).mono ?_;rintro e w' ⟨rfl,rfl⟩);go_ret;exact⟨rfl,rfl⟩
theorem yR (n:Int) (w:World) :
  cL 165 #[iV n] w fun e w'=>e =.returned (.bool (inB n 0 5))∧w'=w:=by
 go_enter Tryz.func165,Tryz.ntmps165;go_wp2_with (go_at_call 106;refine(qR _ _ _ _).mono ?_;rintro e w' ⟨rfl,rfl⟩);go_ret;exact⟨rfl,rfl⟩
theorem fFk (n:Int) (w:World) :
  cL 166 #[iV n] w fun e w'=>e =.returned (.bool (inB n 0 2))∧w'=w:=by
 go_enter Tryz.func166,Tryz.ntmps166;go_wp2_with (go_at_call 106;refine(qR _ _ _ _).mono ?_;rintro e w' ⟨rfl,rfl⟩);go_ret;exact⟨rfl,rfl⟩
def fMh (l:Leg):Bool:=inB l.sh 0 2&&inB l.ac 0 5&&inB l.ast 0 2
def gI (l:Leg):Int:=if fMh l&&inB l.am (-1000000000000) 1000000000000 then (if l.am=0 then 1 else 0) else 3
theorem fOb (l:Leg) (w:World) :
  RI 189 #[legV l] w (.bool (fMh l)):=by
 obtain⟨a,b,c,d⟩:=l;unfold legV fMh;go_enter Tryz.func189,Tryz.ntmps189;go_wp2_with (first|(go_at_call 111;refine(vR _ _).mono ?_;rintro e w' ⟨rfl,rfl⟩)|(go_at_call 165;refine(yR _ _).mono ?_;rintro e w' ⟨rfl,rfl⟩)|(go_at_call 166;refine(fFk _ _).mono ?_;rintro e w' ⟨rfl,rfl⟩));all_goals
  go_ret;exact⟨by simp[*],(by repeat (first|exact bR _ _|(refine Below.drew ?_)|(refine Below.alloc ?_ (by first|(simp;done)|(simp;omega)) _)))⟩
theorem fD7 (l:Leg) (w:World) :
  RI 125 #[legV l] w (iV (gI l)):=by
 obtain⟨a,b,c,d⟩:=l;unfold legV;go_enter Tryz.func125,Tryz.ntmps125;go_wp2_with (go_at_call 88;refine(mF _ _ _ _).mono ?_;rintro e w' ⟨rfl,rfl⟩);all_goals
  go_ret;exact⟨by simp_all [gI,fMh],(by repeat (first|exact bR _ _|(refine Below.drew ?_)|(refine Below.alloc ?_ (by first|(simp;done)|(simp;omega)) _)))⟩
theorem fD3 (l:Leg) (w:World) :
  RI 170 #[legV l] w (iV (gI l)):=by
 obtain⟨a,b,c,d⟩:=l;unfold legV;go_enter Tryz.func170,Tryz.ntmps170;go_wp2_with (first|(go_at_call 189;refine(fOb ⟨a,b,c,d⟩ _).mono ?_;rintro e w' ⟨rfl,hb⟩;obtain⟨g,j⟩:=bcell hb)|(go_at_call 106;refine(qR _ _ _ _).mono ?_;rintro e w' ⟨rfl,rfl⟩));all_goals
  go_ret;exact⟨by simp_all [gI],((bR _ _).alloc (Nat.le_refl _) _).trans (hb.mono (by simp))⟩
theorem fFz (l:Leg) (w:World) :
  RI 190 #[legV l] w (legV ⟨l.sh,l.ac,l.ast,0⟩):=by
 obtain⟨a,b,c,d⟩:=l;unfold legV;go_enter Tryz.func190,Tryz.ntmps190;go_wp2;exact bodyPost_ret (v:=.agg #[iV a,iV b,iV c,iV 0]) (by simp[results,Tryz.results190,go_sem]) rfl ⟨rfl,(by repeat (first|exact bR _ _|(refine Below.drew ?_)|(refine Below.alloc ?_ (by first|(simp;done)|(simp;omega)) _)))⟩
def uQ (a b:Leg):Bool:=a.sh==b.sh&&(a.ac==b.ac&&a.ast==b.ast)
def fZ (pre:List Leg) (l:Leg):Bool:=pre.any (fun o=>uQ o l)
def scan (pre:List Leg):List Leg→Int
 | []=>0
 | l::r=>if gI l=0 then (if fZ pre l then 7 else scan (pre++[l]) r) else gI l
def sumA (a:Int):List Leg→Int
 | []=>0
 | l::r=>(if l.ast=a then l.am else 0)+sumA a r
def fA (id:Int) (xs:List Leg):Int:=
 if inB id 1 1000000000 then
  (if xs.length<2∨8<xs.length then 2
  else if scan [] xs=0 then (if sumA 0 xs=0∧sumA 1 xs=0∧sumA 2 xs=0 then 0 else 1) else scan [] xs)
 else 3
def okTo (xs:List Leg) (k:Nat):Prop:=∀j,j<k→gI (xs.getD j default)=0∧fZ (xs.take j) (xs.getD j default)=false
theorem fEy (xs:List Leg) (k:Nat) (h:k<xs.length):xs.drop k=xs.getD k default::xs.drop (k+1):=by
 rw[List.drop_eq_getElem_cons h];simp[List.getD,h]
theorem tF (xs:List Leg) (k:Nat) (h:k<xs.length):xs.take (k+1)=xs.take k++[xs.getD k default]:=by
 rw[List.take_succ_eq_append_getElem h];simp[List.getD,h]
theorem fKi (xs:List Leg):∀k,k≤xs.length→okTo xs k→scan [] xs=scan (xs.take k) (xs.drop k)
 | 0,_,_=>by simp
 | k+1,hk,h=>by
  have ih:=fKi xs k oM (fun j hj=>h j oM);obtain⟨h1,h2⟩:=h k oM;rw[ih,fEy xs k oM,scan,if_pos h1,if_neg (by rw[h2];decide),tF xs k oM]
theorem fQu {xs:List Leg} {k:Nat} (hk:k<xs.length) (h:okTo xs k) (hb:¬gI (xs.getD k default)=0):scan [] xs=gI (xs.getD k default):=by
 rw[fKi xs k oM h,fEy xs k hk,scan,if_neg hb]
theorem fIv {xs:List Leg} {k:Nat} (hk:k<xs.length) (h:okTo xs k) (h0:gI (xs.getD k default)=0) (hb:fZ (xs.take k) (xs.getD k default)=true):scan [] xs=7:=by
 rw[fKi xs k oM h,fEy xs k hk,scan,if_pos h0,if_pos hb]
theorem fO4 {xs:List Leg} (h:okTo xs xs.length):scan [] xs=0:=by
 rw[fKi xs xs.length (Nat.le_refl _) h];simp[scan]
theorem fFx {xs:List Leg} {k:Nat} (h:okTo xs k) (h0:gI (xs.getD k default)=0) (h1:fZ (xs.take k) (xs.getD k default)=false):okTo xs (k+1):=by
 intro j d;by_cases e:j<k
 ·exact h j e
 have:j=k:=oM;subst this;exact⟨h0,h1⟩
theorem fZi (n lo hi:Int):inB n lo hi=true↔lo≤n∧n≤hi:=by simp[inB]
theorem kC {l:Leg} (h:gI l=0):(0≤l.sh∧l.sh≤2)∧(0≤l.ac∧l.ac≤5)∧(0≤l.ast∧l.ast≤2)∧(-1000000000000≤l.am∧l.am≤1000000000000)∧l.am≠0:=by
 unfold gI at h;split at h
 ·
  rename_i d;simp[fMh,fZi] at d;split at h
  ·omega
  exact⟨oM,by omega,by omega,by omega,by assumption⟩
 omega
theorem fPc (a:Int) (l r:List Leg):sumA a (l++r)=sumA a l+sumA a r:=by
 induction l with
 | nil=>simp[sumA]
 | cons x l ih=>simp only[List.cons_append,sumA,ih];omega
theorem fMv (a:Int) (xs:List Leg) (k:Nat) (h:k<xs.length):sumA a (xs.take (k+1))=sumA a (xs.take k)+if (xs.getD k default).ast=a then (xs.getD k default).am else 0:=by
 rw[tF xs k h,fPc];simp[sumA]
theorem fI0 (a:Int) (xs:List Leg):∀k,k≤xs.length→okTo xs k → -(k*1000000000000:Int)≤sumA a (xs.take k)∧sumA a (xs.take k)≤k*1000000000000
 | 0,_,_=>by simp[sumA]
 | k+1,hk,h=>by
  have ih:=fI0 a xs k oM (fun j hj=>h j oM);have hb:=(kC (h k oM).1).2.2.2.1;rw[fMv a xs k oM];split <;> omega
theorem vB (xs:List Leg) (k:Nat) (h:k<xs.length) (l:Leg):fZ (xs.take (k+1)) l=(fZ (xs.take k) l||uQ (xs.getD k default) l):=by
 rw[tF xs k h];simp[fZ]
theorem fBv {xs:List Leg} {k m:Nat} {l:Leg} (hkm:k≤m) (h:fZ (xs.take k) l=true):fZ (xs.take m) l=true:=by
 simp only[fZ,List.any_eq_true] at h ⊢;obtain⟨o,d,e⟩:=h;exact⟨o,(List.take_subset_take_left xs hkm) d,e⟩
theorem fK6 {id:Int} {xs:List Leg} (hid:inB id 1 1000000000=true) (h2:2≤xs.length) (h8:xs.length≤8):fA id xs=if scan [] xs=0 then (if sumA 0 xs=0∧sumA 1 xs=0∧sumA 2 xs=0 then 0 else 1) else scan [] xs:=by
 rw[fA,if_pos hid,if_neg oM]
theorem fYm {id:Int} {xs:List Leg} (hid:inB id 1 1000000000=true) (h2:2≤xs.length) (h8:xs.length≤8) {k:Nat} (hk:k<xs.length) (h:okTo xs k) (hb:¬gI (xs.getD k default)=0):fA id xs=gI (xs.getD k default):=by
 rw[fK6 hid h2 h8,fQu hk h hb,if_neg hb]
theorem fPr {id:Int} {xs:List Leg} (hid:inB id 1 1000000000=true) (h2:2≤xs.length) (h8:xs.length≤8) {k:Nat} (hk:k<xs.length) (h:okTo xs k) (h0:gI (xs.getD k default)=0) (hb:fZ (xs.take k) (xs.getD k default)=true):fA id xs=7:=by
 rw[fK6 hid h2 h8,fIv hk h h0 hb,if_neg (by decide)]
theorem fZ5 {id:Int} {xs:List Leg} (hid:inB id 1 1000000000=true) (h2:2≤xs.length) (h8:xs.length≤8) (h:okTo xs xs.length) (hs:¬(sumA 0 xs=0∧sumA 1 xs=0∧sumA 2 xs=0)):fA id xs=1:=by
 rw[fK6 hid h2 h8,fO4 h,if_pos rfl,if_neg hs]
theorem fY7 {id:Int} {xs:List Leg} (hid:inB id 1 1000000000=true) (h2:2≤xs.length) (h8:xs.length≤8) (h:okTo xs xs.length) (hs:sumA 0 xs=0∧sumA 1 xs=0∧sumA 2 xs=0):fA id xs=0:=by
 rw[fK6 hid h2 h8,fO4 h,if_pos rfl,if_pos hs]
end
section
variable [dQ Leg] [iH Leg]
theorem gBa (w:World):(Instr.makeSlice 39 (iV 3) (iV 3)).run Tryz.prog w =.ok (.slice (some ⟨w.heap.size,0,none⟩) 3 3) (w.alloc (.cells #[iV 0,iV 0,iV 0] 2)):=kF
theorem fGe (id:Int) (x:Value) (xs:List Leg) (w:World) (hx:uU w x xs) (h:inB id 1 1000000000=false∨xs.length<2∨8<xs.length) :
  RI 86 #[.agg #[iV id,x]] w (iV (fA id xs)):=by
 obtain⟨p,q,rfl,m,l,hx⟩:=hx;unfold maxLen at l;clear hx;by_cases d:inB id 1 1000000000=false
 ·go_enter Tryz.func86,Tryz.ntmps86;go_wp2_with (go_at_call 87;refine(pI _ _).mono ?_;rintro e w' ⟨rfl,rfl⟩);go_ret;exact⟨by simp[fA,d],bA (bR _ _) _⟩
 have g:inB id 1 1000000000=true:=by simpa using d
 have k:xs.length<2∨8<xs.length:=by
  rcases h with h|h
  ·exact absurd h d
  exact h
 have j:fA id xs=2:=by simp[fA,g,k]
 rw[j];generalize xs.length=n at *;clear d h j;rcases k with k|k
 ·have h1:(n:Int)<2:=oM;go_enter Tryz.func86,Tryz.ntmps86;go_wp2_with (go_at_call 87;refine(pI _ _).mono ?_;rintro e w' ⟨rfl,rfl⟩);go_ret;exact⟨rfl,bA (bR _ _) _⟩
 have h1:¬(n:Int)<2:=oM;have h2:(8:Int)<(n:Int):=oM;go_enter Tryz.func86,Tryz.ntmps86;go_wp2_with (go_at_call 87;refine(pI _ _).mono ?_;rintro e w' ⟨rfl,rfl⟩);go_ret;exact⟨rfl,bA (bR _ _) _⟩
theorem fHf (id:Int) (x:Value) (xs:List Leg) (w:World) (hx:uU w x xs) (hid:inB id 1 1000000000=true) (hn2:2≤xs.length) (hn8:xs.length≤8) :
  RI 86 #[.agg #[iV id,x]] w (iV (fA id xs)):=by
 obtain⟨ax,cx,rfl,ao,a6,hx⟩:=hx;unfold maxLen at a6;generalize N:xs.length=n at *;have r:Hid (xs.length=n):=N;clear N;have h1:¬(n:Int)<2:=oM;have h2:¬(8:Int)<(n:Int):=oM;have ar:=gBa;go_enter Tryz.func86,Tryz.ntmps86;go_wp2_with (go_at_call 87;refine(pI _ _).mono ?_;rintro e w' ⟨rfl,rfl⟩);go_loopw [4] (fun i w'=>∃k:Nat,k≤n∧i =.int .i64 k∧okTo xs k∧(∀j:Nat,j<3→w'.cell? ⟨w.heap.size+1,j,none⟩=some (.int .i64 (sumA j (xs.take k)))∧w'.frozen? ⟨w.heap.size+1,j,none⟩=false) ∧
   w'.cell? ⟨w.heap.size,1,none⟩=some (.slice ax n cx)∧w.heap.size+1<w'.heap.size∧aa w w') (fun i _=>n-(intOf i).toNat)
 case atStart=>
  refine⟨0,oM,rfl,fun j h=>oM,fun j C=>?_,by simp[go_sem],by simp,bA (bA (bR _ _) _) _⟩;match j,C with
  | 0,_=>exact⟨by simp[go_sem,sumA],sG⟩
  | 1,_=>exact⟨by simp[go_sem,sumA],sG⟩
  | 2,_=>exact⟨by simp[go_sem,sumA],sG⟩
 obtain⟨k,hk,rfl,O,y,D,a7,p⟩:=hrel;generalize wr=E at *;have M:Hid (okTo xs k):=O;have HS:Hid (∀j:Nat,j<3→E.cell? ⟨w.heap.size+1,j,none⟩=some (iV (sumA j (xs.take k)))∧E.frozen? ⟨w.heap.size+1,j,none⟩=false):=y;clear O y;by_cases a8:k<n
 ·
  obtain⟨bx,ox,rfl,g1⟩:=hx k a8;obtain⟨l,hl⟩:∃l,l=xs.getD k default:=⟨_,rfl⟩
  rw[←hl] at g1;have G:Hid (l=xs.getD k default):=hl;clear hl;obtain⟨a1,a2,a3,a4⟩:=fJ p g1;go_wp2_with fail;refine(fD7 l _).mono ?_;rintro e H ⟨rfl,z⟩;obtain⟨A,R⟩:=bcell z;have g:aa w H:=bS (bA p _) z;have au:E.heap.size<H.heap.size:=by have:=z.size;simp at this;omega
  have F:H.cell? ⟨w.heap.size,1,none⟩=some (.slice (some ⟨bx,ox,none⟩) n cx):=by
   rw[A _ _ (by simp;omega)];simp[go_sem,D,show w.heap.size<E.heap.size by omega]
  have T:mM H E.heap.size 0 l:=by
   refine⟨?_,?_,?_,?_⟩ <;> (rw[A _ _ (by simp)];simp[go_sem])
  have a9:Hid (∀j:Nat,j<3→H.cell? ⟨w.heap.size+1,j,none⟩=some (iV (sumA j (xs.take k)))∧H.frozen? ⟨w.heap.size+1,j,none⟩=false):=by
   intro j C;have:=HS.out j C;rw[A _ _ (by simp;omega),R _ _ (by simp;omega)];simpa [go_sem,a7] using this
  clear A R z a1 a2 a3 a4 D HS p;by_cases q:gI l=0
  ·
   have HF:Hid (gI l=0):=q;rw[q];clear q;go_wp2;go_loopw [7] (fun i w'=>∃m:Nat,m≤k∧i =.int .i64 m∧fZ (xs.take m) l=false∧aa H w') (fun i _=>k-(intOf i).toNat)
   case atStart=>exact⟨0,oM,rfl,by simp[fZ],bR _ _⟩
   obtain⟨m,hm,rfl,I,d⟩:=hrel;have J:Hid (fZ (xs.take m) l=false):=I;clear I;by_cases am:m<k
   ·
    obtain⟨b',o',he,g2⟩:=hx m oM;simp only[Option.some.injEq,Addr.mk.injEq,and_true] at he;obtain⟨rfl,rfl⟩:=he;obtain⟨o,ho⟩:∃o,o=xs.getD m default:=⟨_,rfl⟩
    rw[←ho] at g2;have U:Hid (o=xs.getD m default):=ho;clear ho;obtain⟨c1,c2,c3,c4⟩:=fJ (bS g d) g2;obtain⟨d1,d2,d3,d4⟩:=fJ d T;simp only[Nat.zero_add] at d1 d2 d3 d4;have e1:wr.cell? ⟨w.heap.size,1,none⟩=some (.slice (some ⟨bx,ox,none⟩) n cx):=by
     rw[(bcell d).1 _ _ oM];exact F
    have ab:E.heap.size<wr.heap.size:=by have:=d.size;omega
    have ac:w.heap.size<wr.heap.size:=oM;have av:bx<wr.heap.size:=wL wr _ c1;go_wp2
    ·
     rename_i s1 s2 s3;go_ret;refine⟨?_,bA (bS g d) _⟩;have I:fZ (xs.take k) (xs.getD k default)=true:=by
      refine fBv (k:=m+1) oM ?_;rw[vB xs m (by have:=r.out;omega),←G.out,←U.out];have:l.ast=o.ast:=by simpa using (Eq.symm (by simpa using s3:o.ast=l.ast))
      simp[uQ,s1,s2,this]
     have:=r.out;rw[fPr hid oM oM (k:=k) oM M.out (by rw[←G.out];exact HF.out) I];rfl
    all_goals
     refine⟨⟨m+1,by omega,by go_num,?_,bA d _⟩,mI⟩;rw[vB xs m (by have:=r.out;omega),←U.out,J.out];simp_all [uQ]
   have V:m=k:=oM;subst V;obtain⟨d1,d2,d3,d4⟩:=fJ d T;simp only[Nat.zero_add] at d1 d2 d3 d4;have ab:E.heap.size<wr.heap.size:=by have:=d.size;omega
   have ac:w.heap.size<wr.heap.size:=oM;have lz:=kC HF.out;obtain⟨_,_,⟨q1,q2⟩,⟨q3,q4⟩,_⟩:=lz;have aw:l.ast<3:=oM;have X:Hid (∀j:Nat,j<3→wr.cell? ⟨w.heap.size+1,j,none⟩=some (iV (sumA j (xs.take m)))∧wr.frozen? ⟨w.heap.size+1,j,none⟩=false):=by
    intro j C;rw[(bcell d).1 _ _ oM,(bcell d).2 _ _ oM];exact a9.out j C
   have K:=X.out l.ast.toNat oM;obtain⟨K,f2⟩:=K;rw[show((l.ast.toNat:Nat):Int)=l.ast by omega] at K;obtain⟨s,y⟩:∃s,s=sumA l.ast (xs.take m):=⟨_,rfl⟩
   have sb:=fI0 l.ast xs m (by have:=r.out;omega) M.out;rw[←y] at K sb;have B:Hid (s=sumA l.ast (xs.take m)):=y;clear y;obtain⟨ad,ae⟩:=sb;have ay : -8000000000000≤s:=oM;have az:s≤8000000000000:=oM;clear ad ae;go_wp2;go_region;go_wp2;have af:m<xs.length:=by have:=r.out;omega
   refine⟨⟨m+1,by omega,by go_num,fFx M.out (by rw[←G.out];exact HF.out) (by rw[←G.out];exact J.out),?_,?_,by simp;omega,?_⟩,mI⟩
   ·
    intro j C;have Y:=X.out j C;show(wr.setCell _ _).cell? _=_∧(wr.setCell _ _).frozen? _=_;rw[World.frozen?_setCell];refine⟨?_,Y.2⟩;rw[fMv (j:Int) xs m af,←G.out];by_cases ag:l.ast.toNat=j
    ·subst ag;rw[mY K,B.out,show((l.ast.toNat:Nat):Int)=l.ast by omega,if_pos rfl]
    rw[fU (by simp),Y.1,if_neg oM,Int.add_zero]
   ·show(wr.setCell _ _).cell? _=_;rw[fU (by simp)];rw[(bcell d).1 _ _ oM];exact F
   exact(bset (bS g d) (by simp) _).drew
  have hd:(gI l==0)=false:=by simpa using q
  go_wp2;go_ret;refine⟨?_,g⟩;have:=r.out;rw[fYm hid oM oM (k:=k) oM M.out (by rw[←G.out];exact q),←G.out];rfl
 have ak:k=n:=oM;subst ak;have t0:xs.take k=xs:=by rw[←r.out];exact List.take_length
 rw[t0] at HS;have Z:Hid (okTo xs xs.length):=by rw[r.out];exact M.out
 clear M;go_wp2;go_loopw [9] (fun i w'=>∃m:Nat,m≤3∧i =.int .i64 m∧(∀j:Nat,j<m→sumA j xs=0)∧w'=E) (fun i _=>3-(intOf i).toNat)
 case atStart=>exact⟨0,by omega,rfl,fun j h=>oM,rfl⟩
 obtain⟨m,hm,rfl,I,rfl⟩:=hrel;have J:Hid (∀j:Nat,j<m→sumA j xs=0):=I;clear I;by_cases a0:m<3
 ·
  obtain⟨K,_⟩:=HS.out m a0;obtain⟨s,y⟩:∃s,s=sumA m xs:=⟨_,rfl⟩
  rw[←y] at K;have B:Hid (s=sumA m xs):=y;clear y;by_cases L:s=0
  ·
   subst L;go_wp2;refine⟨⟨m+1,by omega,by go_num,fun j C=>?_,trivial⟩,mI⟩;by_cases al:j<m
   ·exact J.out j al
   have:j=m:=oM;subst this;exact B.out.symm
  have hd:(s==0)=false:=by simpa using L
  go_wp2;go_ret;have:=r.out;rw[fZ5 hid oM oM Z.out]
  ·exact⟨rfl,p⟩
  intro ⟨z0,z1,z2⟩;apply L;rw[B.out];match m,a0 with
  | 0,_=>exact z0
  | 1,_=>exact z1
  | 2,_=>exact z2
 have a5:m=3:=oM;subst a5;go_wp2;go_ret;have:=r.out;rw[fY7 hid oM oM Z.out ⟨J.out 0 oM,J.out 1 oM,J.out 2 oM⟩];exact⟨rfl,p⟩
theorem vF (id:Int) (x:Value) (xs:List Leg) (w:World) (hx:uU w x xs) :
  RI 86 #[.agg #[iV id,x]] w (iV (fA id xs)):=by
 by_cases h:inB id 1 1000000000=false∨xs.length<2∨8<xs.length
 ·exact fGe id x xs w hx h
 have h1:inB id 1 1000000000=true:=by
  cases hb:inB id 1 1000000000 with
  | true=>rfl
  | false=>exact absurd (Or.inl hb) h
 exact fHf id x xs w hx h1 oM oM
theorem fRu:Tryz.prog.eqGuardType Tryz.prog.depth 168=false:=kF
theorem fXh (o l:Leg) (w:World):(binOp .eql 168 (.agg #[iV o.sh,iV o.ac,iV o.ast,iV 0]) (.agg #[iV l.sh,iV l.ac,iV l.ast,iV 0])).run Tryz.prog w =.ok (.bool (uQ o l)) w:=by
 rw[run_eql_struct,run_equalIn_struct w 9999 168 _ _ kF kF];have d : (Tryz.prog.fieldsOf 168).toList = [{ name := "Shard", type := 2, offset := 0, embedded := false, tag := "", pkgPath := "", byteOffset := 0 }, { name := "Account", type := 2, offset := 1, embedded := false, tag := "", pkgPath := "", byteOffset := 8 }, { name := "Asset", type := 2, offset := 2, embedded := false, tag := "", pkgPath := "", byteOffset := 16 }, { name := "Amount", type := 2, offset := 3, embedded := false, tag := "", pkgPath := "", byteOffset := 24 }] := kF
 rw[d];simp[Op.eqFields,go_sem,uQ];by_cases e:o.sh=l.sh <;> by_cases g:o.ac=l.ac <;> by_cases j:o.ast=l.ast <;> simp[e,g,j]
theorem fAx (x:Value) (xs:List Leg) (l:Leg) (w:World) (hx:uU w x xs) :
  RI 171 #[x,legV l] w (.bool (fZ xs l)):=by
 obtain⟨R,T,rfl,J,q,hx⟩:=hx;unfold maxLen at q;generalize g:xs.length=n at *;have p:Hid (xs.length=n):=g;clear g;unfold legV;go_enter Tryz.func171,Tryz.ntmps171;go_wp2;go_loopw [9] (fun i w'=>∃k:Nat,k≤n∧i =.int .i64 k∧fZ (xs.take k) l=false∧mM w' w.heap.size 0 l∧w.heap.size<w'.heap.size∧aa w w') (fun i _=>n-(intOf i).toNat)
 case atStart=>exact⟨0,oM,rfl,by simp[fZ],⟨sG,by simp[go_sem],sG,by simp[go_sem]⟩,by simp,bA (bR _ _) _⟩
 obtain⟨k,U,rfl,D,K,V,d⟩:=hrel;have E:Hid (fZ (xs.take k) l=false):=D;clear D;by_cases r:k<n
 ·
  obtain⟨X,Y,rfl,F⟩:=hx k r;obtain⟨o,s⟩:∃o,o=xs.getD k default:=⟨_,rfl⟩
  rw[←s] at F;have G:Hid (o=xs.getD k default):=s;clear s hx;obtain⟨Z,a2,a3,a4⟩:=fJ d F;have h1:mM (wr.alloc (.cells #[iV o.sh,iV o.ac,iV o.ast,iV o.am] 168)) wr.heap.size 0 o:=⟨sG,by simp[go_sem],sG,by simp[go_sem]⟩;have h2:=fJ (bA (Below.refl _ wr) (.cells #[iV o.sh,iV o.ac,iV o.ast,iV o.am] 168)) K;go_wp2;generalize H:wr.alloc (.cells #[iV o.sh,iV o.ac,iV o.ast,iV o.am] 168)=W at *;have L:Hid (wr.alloc (.cells #[iV o.sh,iV o.ac,iV o.ast,iV o.am] 168)=W):=H;clear H;have y:=fXh o l;have z:=fRu;go_region_held3 (fun w'=>aa W w'∧(cI w' wr.heap.size 0 o.sh∧cI w' wr.heap.size 1 o.ac∧cI w' wr.heap.size 2 o.ast∧cI w' wr.heap.size 3 o.am)∧(cI w' w.heap.size 0 l.sh∧cI w' w.heap.size 1 l.ac∧cI w' w.heap.size 2 l.ast∧cI w' w.heap.size 3 l.am)) ((refine keep2 ?_ h1 h2;repeat (first|exact bR _ _|assumption|refine bD ?_|refine bA ?_ _|refine bS ?_ (by assumption)))) (first|(go_at_call_of 190 (o.sh);refine(fFz o _).mono ?_;rintro e w' ⟨rfl,M⟩;simp only[legV])|(go_at_call_of 190 (l.sh);refine(fFz l _).mono ?_;rintro e w' ⟨rfl,N⟩;simp only[legV]));all_goals
   rename_i I;have A:=I.1;clear I y z;have j:aa w w':=by
    have e:=L.out;subst e;exact bS (bA d _) A
   go_wp2
   ·
    rename_i B;go_ret;refine⟨?_,j⟩;have:fZ xs l=true:=by
     have h:=fBv (xs:=xs) (k:=k+1) (m:=xs.length) (l:=l) (by have:=p.out;omega) (by rw[vB xs k (by have:=p.out;omega),←G.out,B];simp);rwa [List.take_length] at h
    rw[this];rfl
   rename_i B;refine⟨⟨k+1,by omega,by go_num,?_,fJ A h2,by have:=wL _ _ (fJ A h2).1;simpa using this,j⟩,mI⟩;rw[vB xs k (by have:=p.out;omega),←G.out,E.out];simpa using B
 go_wp2;go_ret;have C:k=n:=oM;subst C;have O:xs.take k=xs:=by rw[←p.out];exact List.take_length
 have:=E.out;rw[O] at this;exact⟨by rw[this];rfl,d⟩
def pW (a:Int):List Leg→Int
 | []=>0
 | l::r=>(if l.ast=a∧0<l.am then l.am else 0)+pW a r
def pY (a:Int):List Leg→Int
 | []=>0
 | l::r=>(if l.ast=a∧¬0<l.am then l.am else 0)+pY a r
theorem fNw (a:Int) (xs:List Leg):pW a xs+pY a xs=sumA a xs:=by
 induction xs with
 | nil=>simp[pW,pY,sumA]
 | cons l r ih=>
  simp only[pW,pY,sumA];by_cases h1:l.ast=a <;> by_cases h2:0<l.am <;> simp[h1,h2] <;> omega
theorem fJt (a:Int) (l r:List Leg):pW a (l++r)=pW a l+pW a r:=by
 induction l with
 | nil=>simp[pW]
 | cons x l ih=>simp only[List.cons_append,pW,ih];omega
theorem fKr (a:Int) (l r:List Leg):pY a (l++r)=pY a l+pY a r:=by
 induction l with
 | nil=>simp[pY]
 | cons x l ih=>simp only[List.cons_append,pY,ih];omega
theorem fE9 (a:Int) (xs:List Leg) (k:Nat) (h:k<xs.length):pW a (xs.take (k+1))=pW a (xs.take k)+if (xs.getD k default).ast=a∧0<(xs.getD k default).am then (xs.getD k default).am else 0:=by
 rw[tF xs k h,fJt];simp[pW]
theorem fGj (a:Int) (xs:List Leg) (k:Nat) (h:k<xs.length):pY a (xs.take (k+1))=pY a (xs.take k)+if (xs.getD k default).ast=a∧¬0<(xs.getD k default).am then (xs.getD k default).am else 0:=by
 rw[tF xs k h,fKr];simp[pY]
def small (xs:List Leg):Prop:=∀j,j<xs.length → -1000000000000≤(xs.getD j default).am∧(xs.getD j default).am≤1000000000000
theorem fO6 {xs:List Leg} (h:okTo xs xs.length):small xs:=fun j d=>(kC (h j d).1).2.2.2.1
theorem zS (a:Int) (xs:List Leg) (hs:small xs):∀k,k≤xs.length→0≤pW a (xs.take k)∧pW a (xs.take k)≤k*1000000000000
 | 0,_=>by simp[pW]
 | k+1,hk=>by
  have ih:=zS a xs hs k oM;have hb:=hs k oM;rw[fE9 a xs k oM];split <;> omega
theorem fAa (a:Int) (xs:List Leg) (hs:small xs):∀k,k≤xs.length → -(k*1000000000000:Int)≤pY a (xs.take k)∧pY a (xs.take k)≤0
 | 0,_=>by simp[pY]
 | k+1,hk=>by
  have ih:=fAa a xs hs k oM;have hb:=hs k oM;rw[fGj a xs k oM];split <;> omega
theorem fS9 (x:Value) (xs:List Leg) (asset:Int) (w:World) (hx:uU w x xs) (hn8:xs.length≤8) (hs:small xs) :
  RI 191 #[x,iV asset] w (.agg #[iV (pW asset xs),iV (pY asset xs)]):=by
 obtain⟨ax,cx,rfl,Y,I,hx⟩:=hx;unfold maxLen at I;have J:Hid (small xs):=hs;clear hs;generalize D:xs.length=n at *;have E:Hid (xs.length=n):=D;clear D;go_enter Tryz.func191,Tryz.ntmps191;go_wp2;go_loopw [10] (fun i w'=>∃k:Nat,k≤n∧i =.int .i64 k∧w'.cell? ⟨w.heap.size+1,0,none⟩=some (.int .i64 (pW asset (xs.take k)))∧w'.cell? ⟨w.heap.size+1,1,none⟩=some (.int .i64 (pY asset (xs.take k))) ∧
   (∀o,w'.frozen? ⟨w.heap.size+1,o,none⟩=false)∧(∀o,w'.frozen? ⟨w.heap.size,o,none⟩=false)∧w'.cell? ⟨w.heap.size,0,none⟩=some (.int .i64 0)∧w'.cell? ⟨w.heap.size,1,none⟩=some (.int .i64 0)∧w.heap.size+1<w'.heap.size∧aa w w') (fun i _=>n-(intOf i).toNat)
 case atStart=>exact⟨0,oM,rfl,by simp[go_sem,pW],by simp[go_sem,pY],sG,by simp[go_sem],sG,by simp[go_sem],by simp,bA (bA (bR _ _) _) _⟩
 obtain⟨k,hk,rfl,F,ht,s,y,m,p,G,d⟩:=hrel;by_cases K:k<n
 ·
  obtain⟨bx,ox,rfl,T⟩:=hx k K;obtain⟨l,L⟩:∃l,l=xs.getD k default:=⟨_,rfl⟩
  rw[←L] at T;have M:Hid (l=xs.getD k default):=L;clear L hx;obtain⟨a1,a2,a3,a4⟩:=fJ d T;have N:=zS asset xs J.out k (by have:=E.out;omega);have O:=fAa asset xs J.out k (by have:=E.out;omega);have U:=J.out k (by have:=E.out;omega);rw[←M.out] at U;obtain⟨g,z⟩:∃g,g=pW asset (xs.take k):=⟨_,rfl⟩
  obtain⟨t,A⟩:∃t,t=pY asset (xs.take k):=⟨_,rfl⟩
  rw[←z] at F N;rw[←A] at ht O;have Z:Hid (g=pW asset (xs.take k)):=z;have HT:Hid (t=pY asset (xs.take k)):=A;clear z A;obtain⟨a0,a5⟩:=U;have a6:0≤g:=N.1;have a7:g≤8000000000000:=oM;have a8 : -8000000000000≤t:=oM;have a9:t≤0:=O.2;clear N O;have H:k<xs.length:=by have:=E.out;omega
  have V:pW asset (xs.take (k+1))=g+if l.ast=asset∧0<l.am then l.am else 0:=by rw[fE9 asset xs k H,←M.out,Z.out]
  have X:pY asset (xs.take (k+1))=t+if l.ast=asset∧¬0<l.am then l.am else 0:=by rw[fGj asset xs k H,←M.out,HT.out]
  have B:Hid (pW asset (xs.take (k+1))=g+if l.ast=asset∧0<l.am then l.am else 0):=V;have C:Hid (pY asset (xs.take (k+1))=t+if l.ast=asset∧¬0<l.am then l.am else 0):=X;clear V X;have e:w.heap.size<wr.heap.size:=oM;go_wp2
  ·
   rename_i h1;have j:¬l.ast=asset:=by simpa using h1
   have q:=B.out;have r:=C.out;rw[if_neg (fun h=>j h.1),Int.add_zero] at q r;refine⟨⟨k+1,by omega,by go_num,?_,?_,?_,?_,?_,?_,?_,bA d _⟩,mI⟩
   ·rw[q];simp[go_sem,G,F]
   ·rw[r];simp[go_sem,G,ht]
   ·simp[go_sem,G,s]
   ·simp[go_sem,e,y]
   ·simp[go_sem,e,m]
   ·simp[go_sem,e,p]
   simp;omega
  ·
   rename_i h1 h2;have j:l.ast=asset:=by simpa using h1
   have q:=B.out;have r:=C.out;rw[if_pos ⟨j,h2⟩] at q;rw[if_neg (fun h=>h.2 h2),Int.add_zero] at r;refine⟨⟨k+1,by omega,by go_num,?_,?_,?_,?_,?_,?_,?_,bA (bset d (by simp) _) _⟩,mI⟩
   ·rw[q,World.cell?_alloc_past _ _ _ (by simp;omega)];exact mY F
   ·rw[r,World.cell?_alloc_past _ _ _ (by simp;omega),fU (by simp)];exact ht
   ·simp[go_sem,G,s]
   ·simp[go_sem,e,y]
   ·rw[World.cell?_alloc_past _ _ _ (by simp;omega),fU (by simp)];exact m
   ·rw[World.cell?_alloc_past _ _ _ (by simp;omega),fU (by simp)];exact p
   simp;omega
  rename_i h1 h2;have j:l.ast=asset:=by simpa using h1
  have q:=B.out;have r:=C.out;rw[if_neg (fun h=>oM),Int.add_zero] at q;rw[if_pos ⟨j,oM⟩] at r;refine⟨⟨k+1,by omega,by go_num,?_,?_,?_,?_,?_,?_,?_,bA (bset d (by simp) _) _⟩,mI⟩
  ·rw[q,World.cell?_alloc_past _ _ _ (by simp;omega),fU (by simp)];exact F
  ·rw[r,World.cell?_alloc_past _ _ _ (by simp;omega)];exact mY ht
  ·simp[go_sem,G,s]
  ·simp[go_sem,e,y]
  ·rw[World.cell?_alloc_past _ _ _ (by simp;omega),fU (by simp)];exact m
  ·rw[World.cell?_alloc_past _ _ _ (by simp;omega),fU (by simp)];exact p
  simp;omega
 have R:k=n:=oM;subst R;have t0:xs.take k=xs:=by rw[←E.out];exact List.take_length
 rw[t0] at F ht;go_wp2;refine bodyPost_ret (v:=.agg #[iV (pW asset xs),iV (pY asset xs)]) ?_ rfl ⟨rfl,bset (bset d (by simp) _) (by simp) _⟩;simp[results,Tryz.results191,go_sem,m,p]
def fWb (xs:List Leg):Int:=if sumA 0 xs=0∧sumA 1 xs=0∧sumA 2 xs=0 then 0 else 1
theorem fKp (x:Value) (xs:List Leg) (w:World) (hx:uU w x xs) (hn8:xs.length≤8) (hs:small xs) :
  RI 172 #[x] w (iV (fWb xs)):=by
 have D:Hid (small xs):=hs;clear hs;go_enter Tryz.func172,Tryz.ntmps172;go_wp2;go_loopw [3] (fun i w'=>∃m:Nat,m≤3∧i =.int .i64 m∧(∀j:Nat,j<m→sumA j xs=0)∧aa w w') (fun i _=>3-(intOf i).toNat)
 case atStart=>exact⟨0,by omega,rfl,fun j h=>oM,bR _ _⟩
 obtain⟨m,U,rfl,I,k⟩:=hrel;have A:Hid (∀j:Nat,j<m→sumA j xs=0):=I;clear I;by_cases E:m<3
 ·
  have p:(m:Int)<3:=oM;have B:=zS m xs D.out xs.length (Nat.le_refl _);have C:=fAa m xs D.out xs.length (Nat.le_refl _);have F:=fNw m xs;rw[List.take_length] at B C;go_wp2_with fail;refine(fS9 x xs m _ (kE hx k) hn8 D.out).mono ?_;rintro e V ⟨rfl,r⟩;obtain⟨g,l⟩:∃g,g=pW m xs:=⟨_,rfl⟩
  obtain⟨t,n⟩:∃t,t=pY m xs:=⟨_,rfl⟩
  obtain⟨s,q⟩:∃s,s=sumA m xs:=⟨_,rfl⟩
  rw[←l,←n,←q] at F;rw[←l] at B;rw[←n] at C;rw[←l,←n];have y:Hid (s=sumA m xs):=q;have z:Hid (g+t=s):=F;clear l n q F;have J:0≤g:=B.1;have K:g≤8000000000000:=oM;have L : -8000000000000≤t:=oM;have M:t≤0:=C.2;clear B C;by_cases d:g+t=0
  ·
   have N:(g+t==0)=true:=by simpa using d
   have G:Hid (g+t=0):=d;clear d;go_wp2;refine⟨⟨m+1,by omega,by go_num,fun j X=>?_,bA (bS k r) _⟩,mI⟩;by_cases H:j<m
   ·exact A.out j H
   have:j=m:=oM;subst this;rw[←y.out,←z.out,G.out]
  have N:(g+t==0)=false:=by simpa using d
  have G:Hid (¬g+t=0):=d;clear d;go_wp2;go_ret;refine⟨?_,bA (bS k r) _⟩;rw[fWb,if_neg]
  ·rfl
  intro ⟨O,R,T⟩;apply G.out;rw[z.out,y.out];match m,E with
  | 0,_=>exact O
  | 1,_=>exact R
  | 2,_=>exact T
 have p:m=3:=oM;subst p;go_wp2;go_ret;rw[fWb,if_pos ⟨A.out 0 oM,A.out 1 oM,A.out 2 oM⟩];exact⟨rfl,k⟩
theorem fFj (id:Int) (x:Value) (xs:List Leg) (w:World) (hx:uU w x xs) (h:inB id 1 1000000000=false∨xs.length<2∨8<xs.length) :
  RI 142 #[.agg #[iV id,x]] w (iV (fA id xs)):=by
 obtain⟨p,q,rfl,m,l,hx⟩:=hx;unfold maxLen at l;clear hx;by_cases d:inB id 1 1000000000=false
 ·go_enter Tryz.func142,Tryz.ntmps142;go_wp2_with (go_at_call 146;refine(kX _ _).mono ?_;rintro e w' ⟨rfl,rfl⟩);go_ret;exact⟨by simp[fA,d],bA (bR _ _) _⟩
 have g:inB id 1 1000000000=true:=by simpa using d
 have k:xs.length<2∨8<xs.length:=by
  rcases h with h|h
  ·exact absurd h d
  exact h
 have j:fA id xs=2:=by simp[fA,g,k]
 rw[j];generalize xs.length=n at *;clear d h j;rcases k with k|k
 ·have h1:(n:Int)<2:=oM;go_enter Tryz.func142,Tryz.ntmps142;go_wp2_with (go_at_call 146;refine(kX _ _).mono ?_;rintro e w' ⟨rfl,rfl⟩);go_ret;exact⟨rfl,bA (bR _ _) _⟩
 have h1:¬(n:Int)<2:=oM;have h2:(8:Int)<(n:Int):=oM;go_enter Tryz.func142,Tryz.ntmps142;go_wp2_with (go_at_call 146;refine(kX _ _).mono ?_;rintro e w' ⟨rfl,rfl⟩);go_ret;exact⟨rfl,bA (bR _ _) _⟩
theorem fR3 (xs:List Leg) (k i:Nat) (h:i<k):(xs.take k).getD i default=xs.getD i default:=by
 simp[List.getD,h]
theorem fRa {w:World} {a:Option Addr} {cap n k:Nat} {xs:List Leg} (hn:xs.length=n) (hk:k≤n) (h1:n≤cap) (h2:cap≤maxLen) (h:∀i,i<n→∃b o,a=some ⟨b,o,none⟩∧mM w b (o+i*4) (xs.getD i default)) :
  uU w (.slice a k cap) (xs.take k):=by
 have d:(xs.take k).length=k:=by rw[List.length_take];omega
 refine⟨a,cap,by rw[d],oM,h2,fun i e=>?_⟩;rw[d] at e;obtain⟨b,o,ha,g⟩:=h i oM;exact⟨b,o,ha,by rw[fR3 xs k i e];exact g⟩
theorem fG2 (id:Int) (x:Value) (xs:List Leg) (w:World) (hx:uU w x xs) (hid:inB id 1 1000000000=true) (hn2:2≤xs.length) (hn8:xs.length≤8) :
  RI 142 #[.agg #[iV id,x]] w (iV (fA id xs)):=by
 have D:=hx;obtain⟨ax,z,rfl,M,E,hx⟩:=hx;have N:Hid (uU w (.slice ax xs.length z) xs):=D;clear D;have O:Hid (z≤maxLen):=E;unfold maxLen at E;generalize F:xs.length=n at *;have A:Hid (xs.length=n):=F;clear F;have h1:¬(n:Int)<2:=oM;have h2:¬(8:Int)<(n:Int):=oM;go_enter Tryz.func142,Tryz.ntmps142;go_wp2_with (go_at_call 146;refine(kX _ _).mono ?_;rintro e w' ⟨rfl,rfl⟩);go_loopw [23] (fun i w'=>∃k:Nat,k≤n∧i =.int .i64 k∧okTo xs k∧w'.cell? ⟨w.heap.size,1,none⟩=some (.slice ax n z)∧w.heap.size<w'.heap.size∧aa w w') (fun i _=>n-(intOf i).toNat)
 case atStart=>exact⟨0,oM,rfl,fun j h=>oM,by simp[go_sem],by simp,bA (bR _ _) _⟩
 obtain⟨k,hk,rfl,G,r,R,d⟩:=hrel;generalize wr=s at *;have L:Hid (okTo xs k):=G;clear G;by_cases T:k<n
 ·
  obtain⟨U,V,rfl,g1⟩:=hx k T;have HX:Hid (∀i,i<n→∃b o,some (⟨U,V,none⟩:Addr)=some ⟨b,o,none⟩∧mM w b (o+i*4) (xs.getD i default)):=hx;clear hx;obtain⟨l,X⟩:∃l,l=xs.getD k default:=⟨_,rfl⟩
  rw[←X] at g1;have B:Hid (l=xs.getD k default):=X;clear X;obtain⟨a1,a2,a3,a4⟩:=fJ d g1;go_wp2_with fail;refine(fD3 l _).mono ?_;rintro e C ⟨rfl,q⟩;obtain⟨y,Y⟩:=bcell q;have g:aa w C:=bS (bA d _) q;have Z:s.heap.size<C.heap.size:=by have:=q.size;simp at this;omega
  have H:C.cell? ⟨w.heap.size,1,none⟩=some (.slice (some ⟨U,V,none⟩) n z):=by
   rw[y _ _ (by simp;omega)];simp[go_sem,r,show w.heap.size<s.heap.size by omega]
  have a0:mM C s.heap.size 0 l:=by
   refine⟨?_,?_,?_,?_⟩ <;> (rw[y _ _ (by simp)];simp[go_sem])
  clear y Y q a1 a2 a3 a4 r d;by_cases m:gI l=0
  ·
   have HF:Hid (gI l=0):=m;rw[m];clear m;have a7:(k:Int)≤(z:Int):=oM;have a8:(0:Int)≤(k:Int):=oM;go_wp2;go_region_held3 (fun w'=>aa C w'∧ah w' w.heap.size 1 (some ⟨U,V,none⟩) n z∧cI w' s.heap.size 0 l.sh∧cI w' s.heap.size 1 l.ac∧cI w' s.heap.size 2 l.ast∧cI w' s.heap.size 3 l.am)
    ((refine(fun hb=>⟨hb,(hb.cell (p:=⟨w.heap.size,1,none⟩) (by exact Nat.lt_trans R Z)).trans H,fJ hb a0⟩:aa C _→_) ?_;repeat (first|exact bR _ _|assumption|refine bD ?_|refine bS ?_ (by assumption))))
    (first|(go_at_call 171;refine(fAx _ (xs.take k) l _ ?_).mono ?_;exact fRa A.out hk M O.out (fun i hi=>(HX.out i hi).imp fun b h=>h.imp fun o h=>⟨h.1,fJ (bS g (bR _ _).drew) h.2⟩);rintro e w' ⟨rfl,a9⟩))
   rename_i hH;have hB:=hH.1;have I:=hH.2.1;clear hH;have J:aa w w':=bS g hB;go_wp2
   ·rename_i hs;go_ret;refine⟨?_,J⟩;have:=A.out;rw[fPr hid oM oM (k:=k) oM L.out (by rw[←B.out];exact HF.out) (by rw[←B.out];exact hs)];rfl
   rename_i hs;refine⟨⟨k+1,by omega,by go_num,fFx L.out (by rw[←B.out];exact HF.out) (by rw[←B.out];simpa using hs),I,by have:=hB.size;omega,J⟩,mI⟩
  have hd:(gI l==0)=false:=by simpa using m
  go_wp2;go_ret;refine⟨?_,g⟩;have:=A.out;rw[fYm hid oM oM (k:=k) oM L.out (by rw[←B.out];exact m),←B.out];rfl
 have a5:k=n:=oM;subst a5;have K:Hid (okTo xs xs.length):=by rw[A.out];exact L.out
 go_wp2_with fail;refine(fKp _ xs _ (kE N.out d) (by have:=A.out;omega) (fO6 K.out)).mono ?_;rintro e w1 ⟨rfl,a6⟩;go_wp2;go_ret;refine⟨?_,bS d a6⟩;have:=A.out;have e:fA id xs=fWb xs:=by
  rw[fK6 hid oM oM,fO4 K.out,if_pos rfl,fWb]
 rw[e];rfl
theorem rP (id:Int) (x:Value) (xs:List Leg) (w:World) (hx:uU w x xs) :
  RI 142 #[.agg #[iV id,x]] w (iV (fA id xs)):=by
 by_cases h:inB id 1 1000000000=false∨xs.length<2∨8<xs.length
 ·exact fFj id x xs w hx h
 have h1:inB id 1 1000000000=true:=by
  cases hb:inB id 1 1000000000 with
  | true=>rfl
  | false=>exact absurd (Or.inl hb) h
 exact fG2 id x xs w hx h1 oM oM
theorem fIr {xs:List Leg} (h:scan [] xs=0):∀k,k≤xs.length→okTo xs k
 | 0,_=>fun j hj=>oM
 | k+1,hk=>by
  have ih:=fIr h k oM;by_cases h0:gI (xs.getD k default)=0
  ·
   cases h1:fZ (xs.take k) (xs.getD k default) with
   | false=>exact fFx ih h0 h1
   | true=>have:=fIv oM ih h0 h1;omega
  have:=fQu oM ih h0;omega
theorem fAu {id:Int} {xs:List Leg} (h:fA id xs=0):inB id 1 1000000000=true∧2≤xs.length∧xs.length≤8∧okTo xs xs.length∧sumA 0 xs=0∧sumA 1 xs=0∧sumA 2 xs=0:=by
 unfold fA at h;split at h
 ·
  rename_i h1;split at h
  ·omega
  split at h
  ·
   rename_i d;split at h
   ·rename_i e;exact⟨h1,by omega,by omega,fIr d _ (Nat.le_refl _),e⟩
   omega
  omega
 omega
end
section
theorem gAk {w w':World} {a0:Addr} {x0:Value} {a1:Addr} {x1:Value} {a2:Addr} {x2:Value} (hb:aa w w') (g0:w.cell? a0=some x0) (g1:w.cell? a1=some x1) (g2:w.cell? a2=some x2):aa w w'∧w'.cell? a0=some x0∧w'.cell? a1=some x1∧w'.cell? a2=some x2:=
 ⟨hb,cK hb g0,cK hb g1,cK hb g2⟩
theorem gAl {w w':World} {a0:Addr} {x0:Value} {a1:Addr} {x1:Value} {a2:Addr} {x2:Value} {a3:Addr} {x3:Value} (hb:aa w w') (g0:w.cell? a0=some x0) (g1:w.cell? a1=some x1) (g2:w.cell? a2=some x2) (g3:w.cell? a3=some x3):aa w w'∧w'.cell? a0=some x0∧w'.cell? a1=some x1∧w'.cell? a2=some x2∧w'.cell? a3=some x3:=
 ⟨hb,cK hb g0,cK hb g1,cK hb g2,cK hb g3⟩
theorem fU0 {w W W':World} {a1 a2:Addr} {v1 v2:Value} (h:aa w W∧W.cell? a1=some v1∧W.cell? a2=some v2) (hb:aa W W'):aa w W'∧W'.cell? a1=some v1∧W'.cell? a2=some v2:=
 ⟨bS h.1 hb,cK hb (h.2.1),cK hb (h.2.2)⟩
theorem uL {w W W':World} {a1 a2 a3 a4:Addr} {v1 v2 v3 v4:Value} (h:aa w W∧W.cell? a1=some v1∧W.cell? a2=some v2∧W.cell? a3=some v3∧W.cell? a4=some v4) (hb:aa W W'):aa w W'∧W'.cell? a1=some v1∧W'.cell? a2=some v2∧W'.cell? a3=some v3∧W'.cell? a4=some v4:=
 ⟨bS h.1 hb,cK hb (h.2.1),cK hb (h.2.2.1),cK hb (h.2.2.2.1),cK hb (h.2.2.2.2)⟩
theorem fZj {w W W':World} {a1 a2 a3 a4:Addr} {v1 v2 v3 v4:Value} {b:Nat} (h:aa w W∧W.cell? a1=some v1∧W.cell? a2=some v2∧W.cell? a3=some v3∧W.cell? a4=some v4) (hg:W.grownBy W' (some b)) (hl:w.heap.size≤b) (n1:some a1.block≠some b) (n2:some a2.block≠some b) (n3:some a3.block≠some b) (n4:some a4.block≠some b):aa w W'∧W'.cell? a1=some v1∧W'.cell? a2=some v2∧W'.cell? a3=some v3∧W'.cell? a4=some v4:=
 ⟨h.1.grown hg h.1.size (fun k e=>by cases e;exact hl),hg.cell (h.2.1) n1,hg.cell (h.2.2.1) n2,hg.cell (h.2.2.2.1) n3,hg.cell (h.2.2.2.2) n4⟩
theorem fU1 {w W W':World} {a1 a2 a3 a4 a5:Addr} {v1 v2 v3 v4 v5:Value} (h:aa w W∧W.cell? a1=some v1∧W.cell? a2=some v2∧W.cell? a3=some v3∧W.cell? a4=some v4∧W.cell? a5=some v5) (hb:aa W W'):aa w W'∧W'.cell? a1=some v1∧W'.cell? a2=some v2∧W'.cell? a3=some v3∧W'.cell? a4=some v4∧W'.cell? a5=some v5:=
 ⟨bS h.1 hb,cK hb (h.2.1),cK hb (h.2.2.1),cK hb (h.2.2.2.1),cK hb (h.2.2.2.2.1),cK hb (h.2.2.2.2.2)⟩
theorem fJg {Y w':World} {B t:Nat} {v1 v2:Value} (hb:Below (Y.alloc (.cells #[v1,v2] t)).heap.size (Y.alloc (.cells #[v1,v2] t)) w') (e:B=Y.heap.size):w'.cell? ⟨B,0,none⟩=some v1∧w'.cell? ⟨B,1,none⟩=some v2∧(∀o,w'.frozen? ⟨B,o,none⟩=false)∧B<w'.heap.size:=by
 subst e;have h:=hb.size;simp only[World.size_alloc] at h;exact⟨cK hb sG,cK hb sG,fun o=>by rw[(bcell hb).2 _ _ (by simp)];simp[go_sem],oM⟩
theorem fTx {Y w':World} {B t:Nat} {v1 v2 v3:Value} (hb:Below (Y.alloc (.cells #[v1,v2,v3] t)).heap.size (Y.alloc (.cells #[v1,v2,v3] t)) w') (e:B=Y.heap.size):w'.cell? ⟨B,0,none⟩=some v1∧w'.cell? ⟨B,1,none⟩=some v2∧w'.cell? ⟨B,2,none⟩=some v3∧(∀o,w'.frozen? ⟨B,o,none⟩=false)∧B<w'.heap.size:=by
 subst e;have h:=hb.size;simp only[World.size_alloc] at h;exact⟨cK hb sG,cK hb sG,cK hb sG,fun o=>by rw[(bcell hb).2 _ _ (by simp)];simp[go_sem],oM⟩
theorem pJ {W w':World} {B:Nat} (h:(∀o,W.frozen? ⟨B,o,none⟩=false)∧B<W.heap.size) (hb:aa W w'):(∀o,w'.frozen? ⟨B,o,none⟩=false)∧B<w'.heap.size:=
 ⟨fun o=>by rw[(bcell hb).2 _ _ h.2];exact h.1 o,Nat.lt_of_lt_of_le h.2 hb.size⟩
end
end Go.Proofs.YtpibfdebfacooaaGreat

import Derived.Test.YtbfnobcidnmohaaGreatPrnSafeClusterLaw5
import Derived.RegionTactic
import Derived.ChangeAlike
import Derived.BigRegion
set_option maxHeartbeats 2000000
set_option maxRecDepth 20000
set_option linter.unusedSectionVars false
namespace Go.Proofs.YtbfnobcidnmohaaGreat
open Go.RowKit
attribute [local go_sem ↓] Go.wp_at_zero Go.wp_at_succ
section
variable [dQ Leg] [iH Leg]
theorem fX8 (w:World):(Instr.makeSlice 61 (.int .i64 3) (.int .i64 3)).run Tryz.prog w =.ok (.slice (some ⟨w.heap.size,0,none⟩) 3 3) (w.alloc (.cells #[.int .i64 0,.int .i64 0,.int .i64 0] 2)):=kF
theorem fDl (id:Int) (x:Value) (xs:List Leg) (w:World) (hx:mK w x xs) (h:inB id 1 1000000000=false∨xs.length<2∨8<xs.length) :
  RI 118 #[.agg #[.int .i64 id,x]] w (.int .i64 (fA id xs)):=by
 obtain⟨ax,cx,rfl,hcx,hmx,hx⟩:=hx;unfold maxLen at hmx;clear hx;by_cases hid:inB id 1 1000000000=false
 ·go_enter Tryz.func118,Tryz.ntmps118;go_wp2_with (go_at_call 192;refine(mD _ _).mono ?_;rintro e w' ⟨rfl,rfl⟩);go_ret;exact⟨by simp[fA,hid],bA (bR _ _) _⟩
 have hid':inB id 1 1000000000=true:=by simpa using hid
 have hn:xs.length<2∨8<xs.length:=by
  rcases h with h|h
  ·exact absurd h hid
  exact h
 have hcf:fA id xs=2:=by simp[fA,hid',hn]
 rw[hcf];generalize xs.length=n at *;clear hid h hcf;rcases hn with hn|hn
 ·have h1:(n:Int)<2:=oM;go_enter Tryz.func118,Tryz.ntmps118;go_wp2_with (go_at_call 192;refine(mD _ _).mono ?_;rintro e w' ⟨rfl,rfl⟩);go_ret;exact⟨rfl,bA (bR _ _) _⟩
 have h1:¬(n:Int)<2:=oM;have h2:(8:Int)<(n:Int):=oM;go_enter Tryz.func118,Tryz.ntmps118;go_wp2_with (go_at_call 192;refine(mD _ _).mono ?_;rintro e w' ⟨rfl,rfl⟩);go_ret;exact⟨rfl,bA (bR _ _) _⟩
theorem fEc (id:Int) (x:Value) (xs:List Leg) (w:World) (hx:mK w x xs) (hid:inB id 1 1000000000=true) (hn2:2≤xs.length) (hn8:xs.length≤8) :
  RI 118 #[.agg #[.int .i64 id,x]] w (.int .i64 (fA id xs)):=by
 obtain⟨ax,cx,rfl,hcx,hmx,hx⟩:=hx;unfold maxLen at hmx;generalize hn':xs.length=n at *;have HN:Hid (xs.length=n):=hn';clear hn';have h1:¬(n:Int)<2:=oM;have h2:¬(8:Int)<(n:Int):=oM;have hmk:=fX8;go_enter Tryz.func118,Tryz.ntmps118;go_wp2_with (go_at_call 192;refine(mD _ _).mono ?_;rintro e w' ⟨rfl,rfl⟩);go_loopw [4] (fun i w'=>∃k:Nat,k≤n∧i =.int .i64 k∧okTo xs k∧(∀j:Nat,j<3→w'.cell? ⟨w.heap.size+1,j,none⟩=some (.int .i64 (sumA j (xs.take k)))∧w'.frozen? ⟨w.heap.size+1,j,none⟩=false) ∧
   w'.cell? ⟨w.heap.size,1,none⟩=some (.slice ax n cx)∧w.heap.size+1<w'.heap.size∧Below w.heap.size w w') (fun i _=>n-(intOf i).toNat)
 case atStart=>
  refine⟨0,oM,rfl,fun j h=>oM,fun j hj=>?_,by simp[go_sem],by simp,bA (bA (bR _ _) _) _⟩;match j,hj with
  | 0,_=>exact⟨by simp[go_sem,sumA],sG⟩
  | 1,_=>exact⟨by simp[go_sem,sumA],sG⟩
  | 2,_=>exact⟨by simp[go_sem,sumA],sG⟩
 obtain⟨k,hk,rfl,hok,hs,hcx1,hsz,hbl⟩:=hrel;generalize wr=wo at *;have HO:Hid (okTo xs k):=hok;have HS:Hid (∀j:Nat,j<3→wo.cell? ⟨w.heap.size+1,j,none⟩=some (.int .i64 (sumA j (xs.take k)))∧wo.frozen? ⟨w.heap.size+1,j,none⟩=false):=hs;clear hok hs;by_cases hlt:k<n
 ·
  obtain⟨bx,ox,rfl,g1⟩:=hx k hlt;obtain⟨l,hl⟩:∃l,l=xs.getD k default:=⟨_,rfl⟩
  rw[←hl] at g1;have HL:Hid (l=xs.getD k default):=hl;clear hl;obtain⟨a1,a2,a3,a4⟩:=fG hbl g1;go_wp2_with fail;refine(fB3 l _).mono ?_;rintro e w2 ⟨rfl,hb2⟩;obtain⟨hc2,hf2⟩:=bcell hb2;have hbl2:Below w.heap.size w w2:=bS (bA hbl _) hb2;have hz2:wo.heap.size<w2.heap.size:=by have:=hb2.size;simp at this;omega
  have hcx2:w2.cell? ⟨w.heap.size,1,none⟩=some (.slice (some ⟨bx,ox,none⟩) n cx):=by
   rw[hc2 _ _ (by simp;omega)];simp[go_sem,hcx1,show w.heap.size<wo.heap.size by omega]
  have hl2:mE w2 wo.heap.size 0 l:=by
   refine⟨?_,?_,?_,?_⟩ <;> (rw[hc2 _ _ (by simp)];simp[go_sem])
  have HS2:Hid (∀j:Nat,j<3→w2.cell? ⟨w.heap.size+1,j,none⟩=some (.int .i64 (sumA j (xs.take k)))∧w2.frozen? ⟨w.heap.size+1,j,none⟩=false):=by
   intro j hj;have:=HS.out j hj;rw[hc2 _ _ (by simp;omega),hf2 _ _ (by simp;omega)];simpa [go_sem,hsz] using this
  clear hc2 hf2 hb2 a1 a2 a3 a4 hcx1 HS hbl;by_cases hlf:gQ l=0
  ·
   have HF:Hid (gQ l=0):=hlf;rw[hlf];clear hlf;go_wp2;go_loopw [7] (fun i w'=>∃m:Nat,m≤k∧i =.int .i64 m∧fP (xs.take m) l=false∧Below w2.heap.size w2 w') (fun i _=>k-(intOf i).toNat)
   case atStart=>exact⟨0,oM,rfl,by simp[fP],bR _ _⟩
   obtain⟨m,hm,rfl,hp,hb3⟩:=hrel;have HP:Hid (fP (xs.take m) l=false):=hp;clear hp;by_cases hmk':m<k
   ·
    obtain⟨b',o',he,g2⟩:=hx m oM;simp only[Option.some.injEq,Addr.mk.injEq,and_true] at he;obtain⟨rfl,rfl⟩:=he;obtain⟨o,ho⟩:∃o,o=xs.getD m default:=⟨_,rfl⟩
    rw[←ho] at g2;have HO2:Hid (o=xs.getD m default):=ho;clear ho;obtain⟨c1,c2,c3,c4⟩:=fG (bS hbl2 hb3) g2;obtain⟨d1,d2,d3,d4⟩:=fG hb3 hl2;simp only[Nat.zero_add] at d1 d2 d3 d4;have e1:wr.cell? ⟨w.heap.size,1,none⟩=some (.slice (some ⟨bx,ox,none⟩) n cx):=by
     rw[(bcell hb3).1 _ _ oM];exact hcx2
    have hz3:wo.heap.size<wr.heap.size:=by have:=hb3.size;omega
    have hz4:w.heap.size<wr.heap.size:=oM;have hz5:bx<wr.heap.size:=wL wr _ c1;go_wp2
    ·
     rename_i s1 s2 s3;go_ret;refine⟨?_,bA (bS hbl2 hb3) _⟩;have hp:fP (xs.take k) (xs.getD k default)=true:=by
      refine zT (k:=m+1) oM ?_;rw[tQ xs m (by have:=HN.out;omega),←HL.out,←HO2.out];have:l.ast=o.ast:=by simpa using (Eq.symm (by simpa using s3:o.ast=l.ast))
      simp[rX,s1,s2,this]
     have:=HN.out;rw[fM3 hid oM oM (k:=k) oM HO.out (by rw[←HL.out];exact HF.out) hp];rfl
    all_goals
     refine⟨⟨m+1,by omega,by go_num,?_,bA hb3 _⟩,mI⟩;rw[tQ xs m (by have:=HN.out;omega),←HO2.out,HP.out];simp_all [rX]
   have hmk2:m=k:=oM;subst hmk2;obtain⟨d1,d2,d3,d4⟩:=fG hb3 hl2;simp only[Nat.zero_add] at d1 d2 d3 d4;have hz3:wo.heap.size<wr.heap.size:=by have:=hb3.size;omega
   have hz4:w.heap.size<wr.heap.size:=oM;have lz:=pK HF.out;obtain⟨_,_,⟨q1,q2⟩,⟨q3,q4⟩,_⟩:=lz;have q2':l.ast<3:=oM;have HS3:Hid (∀j:Nat,j<3→wr.cell? ⟨w.heap.size+1,j,none⟩=some (.int .i64 (sumA j (xs.take m)))∧wr.frozen? ⟨w.heap.size+1,j,none⟩=false):=by
    intro j hj;rw[(bcell hb3).1 _ _ oM,(bcell hb3).2 _ _ oM];exact HS2.out j hj
   have f1:=HS3.out l.ast.toNat oM;obtain⟨f1,f2⟩:=f1;rw[show((l.ast.toNat:Nat):Int)=l.ast by omega] at f1;obtain⟨s,hs⟩:∃s,s=sumA l.ast (xs.take m):=⟨_,rfl⟩
   have sb:=fFd l.ast xs m (by have:=HN.out;omega) HO.out;rw[←hs] at f1 sb;have HSS:Hid (s=sumA l.ast (xs.take m)):=hs;clear hs;obtain⟨sb1,sb2⟩:=sb;have sb3 : -8000000000000≤s:=oM;have sb4:s≤8000000000000:=oM;clear sb1 sb2;go_wp2;go_region;go_wp2;have hmn:m<xs.length:=by have:=HN.out;omega
   refine⟨⟨m+1,by omega,by go_num,fDa HO.out (by rw[←HL.out];exact HF.out) (by rw[←HL.out];exact HP.out),?_,?_,by simp;omega,?_⟩,mI⟩
   ·
    intro j hj;have old:=HS3.out j hj;show(wr.setCell _ _).cell? _=_∧(wr.setCell _ _).frozen? _=_;rw[World.frozen?_setCell];refine⟨?_,old.2⟩;rw[fJv (j:Int) xs m hmn,←HL.out];by_cases hje:l.ast.toNat=j
    ·subst hje;rw[fAj f1,HSS.out,show((l.ast.toNat:Nat):Int)=l.ast by omega,if_pos rfl]
    rw[mP (by simp),old.1,if_neg oM,Int.add_zero]
   ·show(wr.setCell _ _).cell? _=_;rw[mP (by simp)];rw[(bcell hb3).1 _ _ oM];exact hcx2
   exact(bset (bS hbl2 hb3) (by simp) _).drew
  have hd:(gQ l==0)=false:=by simpa using hlf
  go_wp2;go_ret;refine⟨?_,hbl2⟩;have:=HN.out;rw[fVx hid oM oM (k:=k) oM HO.out (by rw[←HL.out];exact hlf),←HL.out];rfl
 have hkn:k=n:=oM;subst hkn;have t0:xs.take k=xs:=by rw[←HN.out];exact List.take_length
 rw[t0] at HS;have HO':Hid (okTo xs xs.length):=by rw[HN.out];exact HO.out
 clear HO;go_wp2;go_loopw [9] (fun i w'=>∃m:Nat,m≤3∧i =.int .i64 m∧(∀j:Nat,j<m→sumA j xs=0)∧w'=wo) (fun i _=>3-(intOf i).toNat)
 case atStart=>exact⟨0,by omega,rfl,fun j h=>oM,rfl⟩
 obtain⟨m,hm,rfl,hp,rfl⟩:=hrel;have HP:Hid (∀j:Nat,j<m→sumA j xs=0):=hp;clear hp;by_cases hm3:m<3
 ·
  obtain⟨f1,_⟩:=HS.out m hm3;obtain⟨s,hs⟩:∃s,s=sumA m xs:=⟨_,rfl⟩
  rw[←hs] at f1;have HSS:Hid (s=sumA m xs):=hs;clear hs;by_cases hs0:s=0
  ·
   subst hs0;go_wp2;refine⟨⟨m+1,by omega,by go_num,fun j hj=>?_,trivial⟩,mI⟩;by_cases hjm:j<m
   ·exact HP.out j hjm
   have:j=m:=oM;subst this;exact HSS.out.symm
  have hd:(s==0)=false:=by simpa using hs0
  go_wp2;go_ret;have:=HN.out;rw[fXm hid oM oM HO'.out]
  ·exact⟨rfl,hbl⟩
  intro ⟨z0,z1,z2⟩;apply hs0;rw[HSS.out];match m,hm3 with
  | 0,_=>exact z0
  | 1,_=>exact z1
  | 2,_=>exact z2
 have hm3':m=3:=oM;subst hm3';go_wp2;go_ret;have:=HN.out;rw[fWe hid oM oM HO'.out ⟨HP.out 0 oM,HP.out 1 oM,HP.out 2 oM⟩];exact⟨rfl,hbl⟩
theorem fAn (id:Int) (x:Value) (xs:List Leg) (w:World) (hx:mK w x xs) :
  RI 118 #[.agg #[.int .i64 id,x]] w (.int .i64 (fA id xs)):=by
 by_cases h:inB id 1 1000000000=false∨xs.length<2∨8<xs.length
 ·exact fDl id x xs w hx h
 have h1:inB id 1 1000000000=true:=by
  cases hb:inB id 1 1000000000 with
  | true=>rfl
  | false=>exact absurd (Or.inl hb) h
 exact fEc id x xs w hx h1 oM oM
theorem fO0:Tryz.prog.eqGuardType Tryz.prog.depth 131=false:=kF
theorem fT1 (o l:Leg) (w:World):(binOp .eql 131 (.agg #[.int .i64 o.sh,.int .i64 o.ac,.int .i64 o.ast,.int .i64 0]) (.agg #[.int .i64 l.sh,.int .i64 l.ac,.int .i64 l.ast,.int .i64 0])).run Tryz.prog w =.ok (.bool (rX o l)) w:=by
 rw[run_eql_struct,run_equalIn_struct w 9999 131 _ _ kF kF];have hf : (Tryz.prog.fieldsOf 131).toList = [{ name := "Shard", type := 2, offset := 0, embedded := false, tag := "", pkgPath := "", byteOffset := 0 }, { name := "Account", type := 2, offset := 1, embedded := false, tag := "", pkgPath := "", byteOffset := 8 }, { name := "Asset", type := 2, offset := 2, embedded := false, tag := "", pkgPath := "", byteOffset := 16 }, { name := "Amount", type := 2, offset := 3, embedded := false, tag := "", pkgPath := "", byteOffset := 24 }] := kF
 rw[hf];simp[Op.eqFields,go_sem,rX];by_cases e1:o.sh=l.sh <;> by_cases e2:o.ac=l.ac <;> by_cases e3:o.ast=l.ast <;> simp[e1,e2,e3]
theorem yK (x:Value) (xs:List Leg) (l:Leg) (w:World) (hx:mK w x xs) :
  RI 241 #[x,legV l] w (.bool (fP xs l)):=by
 obtain⟨ax,cx,rfl,hcx,hmx,hx⟩:=hx;unfold maxLen at hmx;generalize hn':xs.length=n at *;have HN:Hid (xs.length=n):=hn';clear hn';unfold legV;go_enter Tryz.func241,Tryz.ntmps241;go_wp2;go_loopw [9] (fun i w'=>∃k:Nat,k≤n∧i =.int .i64 k∧fP (xs.take k) l=false∧mE w' w.heap.size 0 l∧w.heap.size<w'.heap.size∧Below w.heap.size w w') (fun i _=>n-(intOf i).toNat)
 case atStart=>exact⟨0,oM,rfl,by simp[fP],⟨sG,by simp[go_sem],sG,by simp[go_sem]⟩,by simp,bA (bR _ _) _⟩
 obtain⟨k,hk,rfl,hp,hl,hz,hbl⟩:=hrel;have HP:Hid (fP (xs.take k) l=false):=hp;clear hp;by_cases hlt:k<n
 ·
  obtain⟨bx,ox,rfl,g1⟩:=hx k hlt;obtain⟨o,ho⟩:∃o,o=xs.getD k default:=⟨_,rfl⟩
  rw[←ho] at g1;have HO:Hid (o=xs.getD k default):=ho;clear ho hx;obtain⟨a1,a2,a3,a4⟩:=fG hbl g1;have h1:mE (wr.alloc (.cells #[.int .i64 o.sh,.int .i64 o.ac,.int .i64 o.ast,.int .i64 o.am] 131)) wr.heap.size 0 o:=⟨sG,by simp[go_sem],sG,by simp[go_sem]⟩;have h2:=fG (bA (Below.refl _ wr) (.cells #[.int .i64 o.sh,.int .i64 o.ac,.int .i64 o.ast,.int .i64 o.am] 131)) hl;go_wp2;generalize hW:wr.alloc (.cells #[.int .i64 o.sh,.int .i64 o.ac,.int .i64 o.ast,.int .i64 o.am] 131)=W at *;have HW:Hid (wr.alloc (.cells #[.int .i64 o.sh,.int .i64 o.ac,.int .i64 o.ast,.int .i64 o.am] 131)=W):=hW;clear hW;have heq:=fT1 o l;have hgd:=fO0;go_region_held3 (fun w'=>Below W.heap.size W w'∧(w'.cell? ⟨wr.heap.size,0,none⟩=some (.int .i64 o.sh)∧w'.cell? ⟨wr.heap.size,1,none⟩=some (.int .i64 o.ac)∧w'.cell? ⟨wr.heap.size,2,none⟩=some (.int .i64 o.ast)∧w'.cell? ⟨wr.heap.size,3,none⟩=some (.int .i64 o.am))∧(w'.cell? ⟨w.heap.size,0,none⟩=some (.int .i64 l.sh)∧w'.cell? ⟨w.heap.size,1,none⟩=some (.int .i64 l.ac)∧w'.cell? ⟨w.heap.size,2,none⟩=some (.int .i64 l.ast)∧w'.cell? ⟨w.heap.size,3,none⟩=some (.int .i64 l.am))) ((refine keep2 ?_ h1 h2;repeat (first|exact bR _ _|assumption|refine bD ?_|refine bA ?_ _|refine bS ?_ (by assumption)))) (first|(go_at_call_of 289 (o.sh);refine(fDc o _).mono ?_;rintro e w' ⟨rfl,hb1⟩;simp only[legV])|(go_at_call_of 289 (l.sh);refine(fDc l _).mono ?_;rintro e w' ⟨rfl,hb2⟩;simp only[legV]));all_goals
   rename_i hH;have hB:=hH.1;clear hH heq hgd;have hBw:Below w.heap.size w w':=by
    have e:=HW.out;subst e;exact bS (bA hbl _) hB
   go_wp2
   ·
    rename_i hs;go_ret;refine⟨?_,hBw⟩;have:fP xs l=true:=by
     have h:=zT (xs:=xs) (k:=k+1) (m:=xs.length) (l:=l) (by have:=HN.out;omega) (by rw[tQ xs k (by have:=HN.out;omega),←HO.out,hs];simp);rwa [List.take_length] at h
    rw[this];rfl
   rename_i hs;refine⟨⟨k+1,by omega,by go_num,?_,fG hB h2,by have:=wL _ _ (fG hB h2).1;simpa using this,hBw⟩,mI⟩;rw[tQ xs k (by have:=HN.out;omega),←HO.out,HP.out];simpa using hs
 go_wp2;go_ret;have hkn:k=n:=oM;subst hkn;have t0:xs.take k=xs:=by rw[←HN.out];exact List.take_length
 have:=HP.out;rw[t0] at this;exact⟨by rw[this];rfl,hbl⟩
def mR (a:Int):List Leg→Int
 | []=>0
 | l::r=>(if l.ast=a∧0<l.am then l.am else 0)+mR a r
def mW (a:Int):List Leg→Int
 | []=>0
 | l::r=>(if l.ast=a∧¬0<l.am then l.am else 0)+mW a r
theorem fK7 (a:Int) (xs:List Leg):mR a xs+mW a xs=sumA a xs:=by
 induction xs with
 | nil=>simp[mR,mW,sumA]
 | cons l r ih=>
  simp only[mR,mW,sumA];by_cases h1:l.ast=a <;> by_cases h2:0<l.am <;> simp[h1,h2] <;> omega
theorem fFw (a:Int) (l r:List Leg):mR a (l++r)=mR a l+mR a r:=by
 induction l with
 | nil=>simp[mR]
 | cons x l ih=>simp only[List.cons_append,mR,ih];omega
theorem fG1 (a:Int) (l r:List Leg):mW a (l++r)=mW a l+mW a r:=by
 induction l with
 | nil=>simp[mW]
 | cons x l ih=>simp only[List.cons_append,mW,ih];omega
theorem fCr (a:Int) (xs:List Leg) (k:Nat) (h:k<xs.length):mR a (xs.take (k+1))=mR a (xs.take k)+if (xs.getD k default).ast=a∧0<(xs.getD k default).am then (xs.getD k default).am else 0:=by
 rw[rY xs k h,fFw];simp[mR]
theorem fDo (a:Int) (xs:List Leg) (k:Nat) (h:k<xs.length):mW a (xs.take (k+1))=mW a (xs.take k)+if (xs.getD k default).ast=a∧¬0<(xs.getD k default).am then (xs.getD k default).am else 0:=by
 rw[rY xs k h,fG1];simp[mW]
def small (xs:List Leg):Prop:=∀j,j<xs.length → -1000000000000≤(xs.getD j default).am∧(xs.getD j default).am≤1000000000000
theorem fL9 {xs:List Leg} (h:okTo xs xs.length):small xs:=fun j hj=>(pK (h j hj).1).2.2.2.1
theorem xD (a:Int) (xs:List Leg) (hs:small xs):∀k,k≤xs.length→0≤mR a (xs.take k)∧mR a (xs.take k)≤k*1000000000000
 | 0,_=>by simp[mR]
 | k+1,hk=>by
  have ih:=xD a xs hs k oM;have hb:=hs k oM;rw[fCr a xs k oM];split <;> omega
theorem xS (a:Int) (xs:List Leg) (hs:small xs):∀k,k≤xs.length → -(k*1000000000000:Int)≤mW a (xs.take k)∧mW a (xs.take k)≤0
 | 0,_=>by simp[mW]
 | k+1,hk=>by
  have ih:=xS a xs hs k oM;have hb:=hs k oM;rw[fDo a xs k oM];split <;> omega
theorem fQg (x:Value) (xs:List Leg) (asset:Int) (w:World) (hx:mK w x xs) (hn8:xs.length≤8) (hs:small xs) :
  RI 290 #[x,.int .i64 asset] w (.agg #[.int .i64 (mR asset xs),.int .i64 (mW asset xs)]):=by
 obtain⟨ax,cx,rfl,hcx,hmx,hx⟩:=hx;unfold maxLen at hmx;have HS:Hid (small xs):=hs;clear hs;generalize hn':xs.length=n at *;have HN:Hid (xs.length=n):=hn';clear hn';go_enter Tryz.func290,Tryz.ntmps290;go_wp2;go_loopw [10] (fun i w'=>∃k:Nat,k≤n∧i =.int .i64 k∧w'.cell? ⟨w.heap.size+1,0,none⟩=some (.int .i64 (mR asset (xs.take k)))∧w'.cell? ⟨w.heap.size+1,1,none⟩=some (.int .i64 (mW asset (xs.take k))) ∧
   (∀o,w'.frozen? ⟨w.heap.size+1,o,none⟩=false)∧(∀o,w'.frozen? ⟨w.heap.size,o,none⟩=false)∧w'.cell? ⟨w.heap.size,0,none⟩=some (.int .i64 0)∧w'.cell? ⟨w.heap.size,1,none⟩=some (.int .i64 0)∧w.heap.size+1<w'.heap.size∧Below w.heap.size w w') (fun i _=>n-(intOf i).toNat)
 case atStart=>exact⟨0,oM,rfl,by simp[go_sem,mR],by simp[go_sem,mW],sG,by simp[go_sem],sG,by simp[go_sem],by simp,bA (bA (bR _ _) _) _⟩
 obtain⟨k,hk,rfl,hg,ht,hf1,hf0,hr0,hr1,hz,hbl⟩:=hrel;by_cases hlt:k<n
 ·
  obtain⟨bx,ox,rfl,g1⟩:=hx k hlt;obtain⟨l,hl⟩:∃l,l=xs.getD k default:=⟨_,rfl⟩
  rw[←hl] at g1;have HL:Hid (l=xs.getD k default):=hl;clear hl hx;obtain⟨a1,a2,a3,a4⟩:=fG hbl g1;have gb:=xD asset xs HS.out k (by have:=HN.out;omega);have tb:=xS asset xs HS.out k (by have:=HN.out;omega);have sb:=HS.out k (by have:=HN.out;omega);rw[←HL.out] at sb;obtain⟨g,hge⟩:∃g,g=mR asset (xs.take k):=⟨_,rfl⟩
  obtain⟨t,hte⟩:∃t,t=mW asset (xs.take k):=⟨_,rfl⟩
  rw[←hge] at hg gb;rw[←hte] at ht tb;have HG:Hid (g=mR asset (xs.take k)):=hge;have HT:Hid (t=mW asset (xs.take k)):=hte;clear hge hte;obtain⟨sb1,sb2⟩:=sb;have gb1:0≤g:=gb.1;have gb2:g≤8000000000000:=oM;have tb1 : -8000000000000≤t:=oM;have tb2:t≤0:=tb.2;clear gb tb;have hkx:k<xs.length:=by have:=HN.out;omega
  have eg:mR asset (xs.take (k+1))=g+if l.ast=asset∧0<l.am then l.am else 0:=by rw[fCr asset xs k hkx,←HL.out,HG.out]
  have et:mW asset (xs.take (k+1))=t+if l.ast=asset∧¬0<l.am then l.am else 0:=by rw[fDo asset xs k hkx,←HL.out,HT.out]
  have HEG:Hid (mR asset (xs.take (k+1))=g+if l.ast=asset∧0<l.am then l.am else 0):=eg;have HET:Hid (mW asset (xs.take (k+1))=t+if l.ast=asset∧¬0<l.am then l.am else 0):=et;clear eg et;have hz0:w.heap.size<wr.heap.size:=oM;go_wp2
  ·
   rename_i h1;have h1':¬l.ast=asset:=by simpa using h1
   have e1:=HEG.out;have e2:=HET.out;rw[if_neg (fun h=>h1' h.1),Int.add_zero] at e1 e2;refine⟨⟨k+1,by omega,by go_num,?_,?_,?_,?_,?_,?_,?_,bA hbl _⟩,mI⟩
   ·rw[e1];simp[go_sem,hz,hg]
   ·rw[e2];simp[go_sem,hz,ht]
   ·simp[go_sem,hz,hf1]
   ·simp[go_sem,hz0,hf0]
   ·simp[go_sem,hz0,hr0]
   ·simp[go_sem,hz0,hr1]
   simp;omega
  ·
   rename_i h1 h2;have h1':l.ast=asset:=by simpa using h1
   have e1:=HEG.out;have e2:=HET.out;rw[if_pos ⟨h1',h2⟩] at e1;rw[if_neg (fun h=>h.2 h2),Int.add_zero] at e2;refine⟨⟨k+1,by omega,by go_num,?_,?_,?_,?_,?_,?_,?_,bA (bset hbl (by simp) _) _⟩,mI⟩
   ·rw[e1,World.cell?_alloc_past _ _ _ (by simp;omega)];exact fAj hg
   ·rw[e2,World.cell?_alloc_past _ _ _ (by simp;omega),mP (by simp)];exact ht
   ·simp[go_sem,hz,hf1]
   ·simp[go_sem,hz0,hf0]
   ·rw[World.cell?_alloc_past _ _ _ (by simp;omega),mP (by simp)];exact hr0
   ·rw[World.cell?_alloc_past _ _ _ (by simp;omega),mP (by simp)];exact hr1
   simp;omega
  rename_i h1 h2;have h1':l.ast=asset:=by simpa using h1
  have e1:=HEG.out;have e2:=HET.out;rw[if_neg (fun h=>oM),Int.add_zero] at e1;rw[if_pos ⟨h1',oM⟩] at e2;refine⟨⟨k+1,by omega,by go_num,?_,?_,?_,?_,?_,?_,?_,bA (bset hbl (by simp) _) _⟩,mI⟩
  ·rw[e1,World.cell?_alloc_past _ _ _ (by simp;omega),mP (by simp)];exact hg
  ·rw[e2,World.cell?_alloc_past _ _ _ (by simp;omega)];exact fAj ht
  ·simp[go_sem,hz,hf1]
  ·simp[go_sem,hz0,hf0]
  ·rw[World.cell?_alloc_past _ _ _ (by simp;omega),mP (by simp)];exact hr0
  ·rw[World.cell?_alloc_past _ _ _ (by simp;omega),mP (by simp)];exact hr1
  simp;omega
 have hkn:k=n:=oM;subst hkn;have t0:xs.take k=xs:=by rw[←HN.out];exact List.take_length
 rw[t0] at hg ht;go_wp2;refine bodyPost_ret (v:=.agg #[.int .i64 (mR asset xs),.int .i64 (mW asset xs)]) ?_ rfl ⟨rfl,bset (bset hbl (by simp) _) (by simp) _⟩;simp[results,Tryz.results290,go_sem,hr0,hr1]
def fS0 (xs:List Leg):Int:=if sumA 0 xs=0∧sumA 1 xs=0∧sumA 2 xs=0 then 0 else 1
theorem fGz (x:Value) (xs:List Leg) (w:World) (hx:mK w x xs) (hn8:xs.length≤8) (hs:small xs) :
  RI 242 #[x] w (.int .i64 (fS0 xs)):=by
 have HS:Hid (small xs):=hs;clear hs;go_enter Tryz.func242,Tryz.ntmps242;go_wp2;go_loopw [3] (fun i w'=>∃m:Nat,m≤3∧i =.int .i64 m∧(∀j:Nat,j<m→sumA j xs=0)∧Below w.heap.size w w') (fun i _=>3-(intOf i).toNat)
 case atStart=>exact⟨0,by omega,rfl,fun j h=>oM,bR _ _⟩
 obtain⟨m,hm,rfl,hp,hbl⟩:=hrel;have HP:Hid (∀j:Nat,j<m→sumA j xs=0):=hp;clear hp;by_cases hm3:m<3
 ·
  have hm3':(m:Int)<3:=oM;have gb:=xD m xs HS.out xs.length (Nat.le_refl _);have tb:=xS m xs HS.out xs.length (Nat.le_refl _);have gt:=fK7 m xs;rw[List.take_length] at gb tb;go_wp2_with fail;refine(fQg x xs m _ (kV hx hbl) hn8 HS.out).mono ?_;rintro e w1 ⟨rfl,hb1⟩;obtain⟨g,hge⟩:∃g,g=mR m xs:=⟨_,rfl⟩
  obtain⟨t,hte⟩:∃t,t=mW m xs:=⟨_,rfl⟩
  obtain⟨s,hse⟩:∃s,s=sumA m xs:=⟨_,rfl⟩
  rw[←hge,←hte,←hse] at gt;rw[←hge] at gb;rw[←hte] at tb;rw[←hge,←hte];have HSS:Hid (s=sumA m xs):=hse;have HGT:Hid (g+t=s):=gt;clear hge hte hse gt;have gb1:0≤g:=gb.1;have gb2:g≤8000000000000:=oM;have tb1 : -8000000000000≤t:=oM;have tb2:t≤0:=tb.2;clear gb tb;by_cases hs0:g+t=0
  ·
   have hd:(g+t==0)=true:=by simpa using hs0
   have HD:Hid (g+t=0):=hs0;clear hs0;go_wp2;refine⟨⟨m+1,by omega,by go_num,fun j hj=>?_,bA (bS hbl hb1) _⟩,mI⟩;by_cases hjm:j<m
   ·exact HP.out j hjm
   have:j=m:=oM;subst this;rw[←HSS.out,←HGT.out,HD.out]
  have hd:(g+t==0)=false:=by simpa using hs0
  have HD:Hid (¬g+t=0):=hs0;clear hs0;go_wp2;go_ret;refine⟨?_,bA (bS hbl hb1) _⟩;rw[fS0,if_neg]
  ·rfl
  intro ⟨z0,z1,z2⟩;apply HD.out;rw[HGT.out,HSS.out];match m,hm3 with
  | 0,_=>exact z0
  | 1,_=>exact z1
  | 2,_=>exact z2
 have hm3':m=3:=oM;subst hm3';go_wp2;go_ret;rw[fS0,if_pos ⟨HP.out 0 oM,HP.out 1 oM,HP.out 2 oM⟩];exact⟨rfl,hbl⟩
theorem fCy (id:Int) (x:Value) (xs:List Leg) (w:World) (hx:mK w x xs) (h:inB id 1 1000000000=false∨xs.length<2∨8<xs.length) :
  RI 163 #[.agg #[.int .i64 id,x]] w (.int .i64 (fA id xs)):=by
 obtain⟨ax,cx,rfl,hcx,hmx,hx⟩:=hx;unfold maxLen at hmx;clear hx;by_cases hid:inB id 1 1000000000=false
 ·go_enter Tryz.func163,Tryz.ntmps163;go_wp2_with (go_at_call 237;refine(kE _ _).mono ?_;rintro e w' ⟨rfl,rfl⟩);go_ret;exact⟨by simp[fA,hid],bA (bR _ _) _⟩
 have hid':inB id 1 1000000000=true:=by simpa using hid
 have hn:xs.length<2∨8<xs.length:=by
  rcases h with h|h
  ·exact absurd h hid
  exact h
 have hcf:fA id xs=2:=by simp[fA,hid',hn]
 rw[hcf];generalize xs.length=n at *;clear hid h hcf;rcases hn with hn|hn
 ·have h1:(n:Int)<2:=oM;go_enter Tryz.func163,Tryz.ntmps163;go_wp2_with (go_at_call 237;refine(kE _ _).mono ?_;rintro e w' ⟨rfl,rfl⟩);go_ret;exact⟨rfl,bA (bR _ _) _⟩
 have h1:¬(n:Int)<2:=oM;have h2:(8:Int)<(n:Int):=oM;go_enter Tryz.func163,Tryz.ntmps163;go_wp2_with (go_at_call 237;refine(kE _ _).mono ?_;rintro e w' ⟨rfl,rfl⟩);go_ret;exact⟨rfl,bA (bR _ _) _⟩
theorem fPe (xs:List Leg) (k i:Nat) (h:i<k):(xs.take k).getD i default=xs.getD i default:=by
 simp[List.getD,h]
theorem fOe {w:World} {a:Option Addr} {cap n k:Nat} {xs:List Leg} (hn:xs.length=n) (hk:k≤n) (h1:n≤cap) (h2:cap≤maxLen) (h:∀i,i<n→∃b o,a=some ⟨b,o,none⟩∧mE w b (o+i*4) (xs.getD i default)) :
  mK w (.slice a k cap) (xs.take k):=by
 have hl:(xs.take k).length=k:=by rw[List.length_take];omega
 refine⟨a,cap,by rw[hl],oM,h2,fun i hi=>?_⟩;rw[hl] at hi;obtain⟨b,o,ha,hc⟩:=h i oM;exact⟨b,o,ha,by rw[fPe xs k i hi];exact hc⟩
theorem fD3 (id:Int) (x:Value) (xs:List Leg) (w:World) (hx:mK w x xs) (hid:inB id 1 1000000000=true) (hn2:2≤xs.length) (hn8:xs.length≤8) :
  RI 163 #[.agg #[.int .i64 id,x]] w (.int .i64 (fA id xs)):=by
 have hx0:=hx;obtain⟨ax,cx,rfl,hcx,hmx,hx⟩:=hx;have HX0:Hid (mK w (.slice ax xs.length cx) xs):=hx0;clear hx0;have HMX:Hid (cx≤maxLen):=hmx;unfold maxLen at hmx;generalize hn':xs.length=n at *;have HN:Hid (xs.length=n):=hn';clear hn';have h1:¬(n:Int)<2:=oM;have h2:¬(8:Int)<(n:Int):=oM;go_enter Tryz.func163,Tryz.ntmps163;go_wp2_with (go_at_call 237;refine(kE _ _).mono ?_;rintro e w' ⟨rfl,rfl⟩);go_loopw [23] (fun i w'=>∃k:Nat,k≤n∧i =.int .i64 k∧okTo xs k∧w'.cell? ⟨w.heap.size,1,none⟩=some (.slice ax n cx)∧w.heap.size<w'.heap.size∧Below w.heap.size w w') (fun i _=>n-(intOf i).toNat)
 case atStart=>exact⟨0,oM,rfl,fun j h=>oM,by simp[go_sem],by simp,bA (bR _ _) _⟩
 obtain⟨k,hk,rfl,hok,hcx1,hsz,hbl⟩:=hrel;generalize wr=wo at *;have HO:Hid (okTo xs k):=hok;clear hok;by_cases hlt:k<n
 ·
  obtain⟨bx,ox,rfl,g1⟩:=hx k hlt;have HX:Hid (∀i,i<n→∃b o,some (⟨bx,ox,none⟩:Addr)=some ⟨b,o,none⟩∧mE w b (o+i*4) (xs.getD i default)):=hx;clear hx;obtain⟨l,hl⟩:∃l,l=xs.getD k default:=⟨_,rfl⟩
  rw[←hl] at g1;have HL:Hid (l=xs.getD k default):=hl;clear hl;obtain⟨a1,a2,a3,a4⟩:=fG hbl g1;go_wp2_with fail;refine(fBy l _).mono ?_;rintro e w2 ⟨rfl,hb2⟩;obtain⟨hc2,hf2⟩:=bcell hb2;have hbl2:Below w.heap.size w w2:=bS (bA hbl _) hb2;have hz2:wo.heap.size<w2.heap.size:=by have:=hb2.size;simp at this;omega
  have hcx2:w2.cell? ⟨w.heap.size,1,none⟩=some (.slice (some ⟨bx,ox,none⟩) n cx):=by
   rw[hc2 _ _ (by simp;omega)];simp[go_sem,hcx1,show w.heap.size<wo.heap.size by omega]
  have hl2:mE w2 wo.heap.size 0 l:=by
   refine⟨?_,?_,?_,?_⟩ <;> (rw[hc2 _ _ (by simp)];simp[go_sem])
  clear hc2 hf2 hb2 a1 a2 a3 a4 hcx1 hbl;by_cases hlf:gQ l=0
  ·
   have HF:Hid (gQ l=0):=hlf;rw[hlf];clear hlf;have hkb:(k:Int)≤(cx:Int):=oM;have hk0:(0:Int)≤(k:Int):=oM;go_wp2;go_region_held3 (fun w'=>Below w2.heap.size w2 w'∧w'.cell? ⟨w.heap.size,1,none⟩=some (.slice (some ⟨bx,ox,none⟩) n cx)∧w'.cell? ⟨wo.heap.size,0,none⟩=some (.int .i64 l.sh)∧w'.cell? ⟨wo.heap.size,1,none⟩=some (.int .i64 l.ac)∧w'.cell? ⟨wo.heap.size,2,none⟩=some (.int .i64 l.ast)∧w'.cell? ⟨wo.heap.size,3,none⟩=some (.int .i64 l.am))
    ((refine(fun hb=>⟨hb,(hb.cell (p:=⟨w.heap.size,1,none⟩) (by exact Nat.lt_trans hsz hz2)).trans hcx2,fG hb hl2⟩:Below w2.heap.size w2 _→_) ?_;repeat (first|exact bR _ _|assumption|refine bD ?_|refine bS ?_ (by assumption))))
    (first|(go_at_call 241;refine(yK _ (xs.take k) l _ ?_).mono ?_;exact fOe HN.out hk hcx HMX.out (fun i hi=>(HX.out i hi).imp fun b h=>h.imp fun o h=>⟨h.1,fG (bS hbl2 (bR _ _).drew) h.2⟩);rintro e w' ⟨rfl,hb3⟩))
   rename_i hH;have hB:=hH.1;have hc1':=hH.2.1;clear hH;have hBw:Below w.heap.size w w':=bS hbl2 hB;go_wp2
   ·rename_i hs;go_ret;refine⟨?_,hBw⟩;have:=HN.out;rw[fM3 hid oM oM (k:=k) oM HO.out (by rw[←HL.out];exact HF.out) (by rw[←HL.out];exact hs)];rfl
   rename_i hs;refine⟨⟨k+1,by omega,by go_num,fDa HO.out (by rw[←HL.out];exact HF.out) (by rw[←HL.out];simpa using hs),hc1',by have:=hB.size;omega,hBw⟩,mI⟩
  have hd:(gQ l==0)=false:=by simpa using hlf
  go_wp2;go_ret;refine⟨?_,hbl2⟩;have:=HN.out;rw[fVx hid oM oM (k:=k) oM HO.out (by rw[←HL.out];exact hlf),←HL.out];rfl
 have hkn:k=n:=oM;subst hkn;have HO':Hid (okTo xs xs.length):=by rw[HN.out];exact HO.out
 go_wp2_with fail;refine(fGz _ xs _ (kV HX0.out hbl) (by have:=HN.out;omega) (fL9 HO'.out)).mono ?_;rintro e w1 ⟨rfl,hb1⟩;go_wp2;go_ret;refine⟨?_,bS hbl hb1⟩;have:=HN.out;have e:fA id xs=fS0 xs:=by
  rw[fHu hid oM oM,fL3 HO'.out,if_pos rfl,fS0]
 rw[e];rfl
theorem vJ (id:Int) (x:Value) (xs:List Leg) (w:World) (hx:mK w x xs) :
  RI 163 #[.agg #[.int .i64 id,x]] w (.int .i64 (fA id xs)):=by
 by_cases h:inB id 1 1000000000=false∨xs.length<2∨8<xs.length
 ·exact fCy id x xs w hx h
 have h1:inB id 1 1000000000=true:=by
  cases hb:inB id 1 1000000000 with
  | true=>rfl
  | false=>exact absurd (Or.inl hb) h
 exact fD3 id x xs w hx h1 oM oM
theorem fE7 {xs:List Leg} (h:scan [] xs=0):∀k,k≤xs.length→okTo xs k
 | 0,_=>fun j hj=>oM
 | k+1,hk=>by
  have ih:=fE7 h k oM;by_cases h0:gQ (xs.getD k default)=0
  ·
   cases h1:fP (xs.take k) (xs.getD k default) with
   | false=>exact fDa ih h0 h1
   | true=>have:=fE9 oM ih h0 h1;omega
  have:=fNw oM ih h0;omega
theorem fBi {id:Int} {xs:List Leg} (h:fA id xs=0):inB id 1 1000000000=true∧2≤xs.length∧xs.length≤8∧okTo xs xs.length∧sumA 0 xs=0∧sumA 1 xs=0∧sumA 2 xs=0:=by
 unfold fA at h;split at h
 ·
  rename_i h1;split at h
  ·omega
  split at h
  ·
   rename_i h3;split at h
   ·rename_i h4;exact⟨h1,by omega,by omega,fE7 h3 _ (Nat.le_refl _),h4⟩
   omega
  omega
 omega
def onSh (s:Int) (xs:List Leg):List Leg:=xs.filter (fun l=>l.sh==s)
theorem fNo (s:Int) (xs:List Leg) (k:Nat) (h:k<xs.length) (hs:(xs.getD k default).sh=s):onSh s (xs.take (k+1))=onSh s (xs.take k)++[xs.getD k default]:=by
 rw[rY xs k h];simp only[onSh,List.filter_append];simp only[List.filter_cons,List.filter_nil,hs,beq_self_eq_true,if_true]
theorem fJe (s:Int) (xs:List Leg) (k:Nat) (h:k<xs.length) (hs:¬(xs.getD k default).sh=s):onSh s (xs.take (k+1))=onSh s (xs.take k):=by
 rw[rY xs k h];simp only[onSh,List.filter_append,List.filter_cons,List.filter_nil,beq_eq_false_iff_ne.2 hs];simp
theorem fSd (s:Int) (xs:List Leg) (k:Nat):(onSh s (xs.take k)).length≤k:=by
 have:=List.length_filter_le (fun l:Leg=>l.sh==s) (xs.take k);have h2:=List.length_take_le k xs;simp only[onSh];omega
theorem fE4 (xs:List Leg) (l:Leg):mY (xs++[l])=mY xs++legC l:=by simp[mY]
theorem fNl (l:Leg):∀u ∈ legC l,u.oneCell'=true:=by
 intro u hu;simp only[legC,List.mem_cons,List.not_mem_nil,or_false] at hu;rcases hu with rfl|rfl|rfl|rfl <;> rfl
theorem fE3 {w:World} {b o:Nat} {l:Leg} (h:mE w b o l):∀j u,(legC l)[j]? = some u→w.cell? ((⟨b,o,none⟩:Addr).add j)=some u:=by
 obtain⟨h0,h1,h2,h3⟩:=h;intro j u hj;match j,hj with
 | 0,hj=>simp[legC] at hj;subst hj;simpa [Addr.add] using h0
 | 1,hj=>simp[legC] at hj;subst hj;simpa [Addr.add] using h1
 | 2,hj=>simp[legC] at hj;subst hj;simpa [Addr.add] using h2
 | 3,hj=>simp[legC] at hj;subst hj;simpa [Addr.add] using h3
 | j+4,hj=>simp[legC] at hj
theorem fA9 {w w':World} {B:Nat} {base e size:Nat} {v:Value} {n:Nat} {xs:List Value} (h:w.ownsRow base e size v n xs) {W:World} (hb:Below B W w) (hB:B≤w.heap.size) (hbase:B≤base) (hg:w.grownBy w' v.ownBlock):Below B W w':=
 hb.grown hg hB (fun k hk=>Nat.le_trans hbase (h.lt k hk).1)
theorem yB (x:Value) (xs:List Leg) (s:Int) (w:World) (hx:mK w x xs) (hn:xs.length≤1048576) :
  Calls Tryz.prog 52 #[x,.int .i64 s] w fun e w'=>∃v,e =.returned v∧w'.ownsRow w.heap.size 131 4 v (onSh s xs).length (mY (onSh s xs))∧Below w.heap.size w w':=by
 obtain⟨ax,cx,rfl,hcx,hmx,hx⟩:=hx;unfold maxLen at hmx;obtain⟨i0,hi,hz0,hz1,hz2⟩:=info_parts fLh;generalize hn':xs.length=n at *;have HN:Hid (xs.length=n):=hn';clear hn';go_enter Tryz.func52,Tryz.ntmps52;go_wp2;go_loopw [5,10] (fun v i w'=>∃k:Nat,k≤n∧i =.int .i64 k∧w'.ownsRow w.heap.size 131 4 v (onSh s (xs.take k)).length (mY (onSh s (xs.take k)))∧Below w.heap.size w w') (fun _ i _=>n-(intOf i).toNat)
 case atStart=>exact⟨0,oM,rfl,by simpa [onSh,mY] using World.ownsRow_nil _ _ _ _,bR _ _⟩
 obtain⟨k,hk,rfl,ho,hbl⟩:=hrel;by_cases hlt:k<n
 ·
  obtain⟨bx,ox,rfl,g1⟩:=hx k hlt;obtain⟨l,hl⟩:∃l,l=xs.getD k default:=⟨_,rfl⟩
  rw[←hl] at g1;have HL:Hid (l=xs.getD k default):=hl;clear hl hx;obtain⟨a1,a2,a3,a4⟩:=fG hbl g1;have hkx:k<xs.length:=by have:=HN.out;omega
  have hle:=fSd s xs k;have hsz:=hbl.size;by_cases hs:l.sh=s
  ·
   have e1:=fNo s xs k hkx (by rw[←HL.out];exact hs);rw[←HL.out] at e1;have HE:Hid (onSh s (xs.take (k+1))=onSh s (xs.take k)++[l]):=e1;have HS:Hid (l.sh=s):=hs;have hd:(l.sh==s)=true:=by simpa using hs
   generalize onSh s (xs.take k)=ys at *;clear e1 hs;go_wp2_with (at_builtin;refine wpList_append_own _ rfl _ _ 58 rfl w.heap.size 131 i0 _ 4 32 Tryz.underlying58 hi hz0 hz1 hz2 rfl (by decide) _ _ _ rfl ((ho.alloc _).alloc _) ⟨wr.heap.size+1,0,none⟩ 1 1 (legC l) rfl rfl ?c1 (fNl l) ?c3 ?c4 ?c5 ?_)
   case c1=>exact fE3 (b:=wr.heap.size+1) (o:=0) ⟨sG,by simp[go_sem],sG,by simp[go_sem]⟩
   case c3=>unfold maxLen;omega
   case c4=>omega
   case c5=>simp;omega
   intro v' w1 hown' hgrow _;have hB1:Below w.heap.size w w1:=fA9 ((ho.alloc _).alloc _) (bA (bA hbl _) _) (by simp;omega) (Nat.le_refl _) hgrow;clear hgrow ho a1 a2 a3 a4;go_wp2;refine⟨⟨k+1,by omega,by go_num,?_,hB1⟩,mI⟩;rw[HE.out,fE4,List.length_append];exact hown'
  have e1:=fJe s xs k hkx (by rw[←HL.out];exact hs);have HE:Hid (onSh s (xs.take (k+1))=onSh s (xs.take k)):=e1;have hd:(l.sh==s)=false:=by simpa using hs
  clear e1 hs;go_wp2;refine⟨⟨k+1,by omega,by go_num,?_,bA hbl _⟩,mI⟩;rw[HE.out];exact ho.alloc _
 go_wp2;go_ret;have hkn:k=n:=oM;subst hkn;have t0:xs.take k=xs:=by rw[←HN.out];exact List.take_length
 rw[t0] at ho;exact⟨_,rfl,ho,hbl⟩
theorem fPr (id:Int) (x:Value) (xs:List Leg) (s:Int) (w:World) (hx:mK w x xs) (hn:xs.length≤1048576) :
  Calls Tryz.prog 44 #[.agg #[.int .i64 id,x],.int .i64 s] w fun e w'=>∃v,e =.returned v∧w'.ownsRow w.heap.size 131 4 v (onSh s xs).length (mY (onSh s xs))∧Below w.heap.size w w':=by
 obtain⟨ax,cx,rfl,hcx,hmx,hx⟩:=hx;unfold maxLen at hmx;obtain⟨i0,hi,hz0,hz1,hz2⟩:=info_parts fLh;generalize hn':xs.length=n at *;have HN:Hid (xs.length=n):=hn';clear hn';go_enter Tryz.func44,Tryz.ntmps44;go_wp2;go_loopw [5,6] (fun v i w'=>∃k:Nat,k≤n∧i =.int .i64 k∧w'.ownsRow (w.heap.size+1) 131 4 v (onSh s (xs.take k)).length (mY (onSh s (xs.take k)))∧w'.cell? ⟨w.heap.size,1,none⟩=some (.slice ax n cx)∧w.heap.size+1≤w'.heap.size∧Below w.heap.size w w') (fun _ i _=>n-(intOf i).toNat)
 case atStart=>
  refine⟨0,oM,rfl,?_,by simp[go_sem],by simp,bA (bA (bR _ _) _) _⟩;have:=World.ownsRow_lit (base:=w.heap.size+1) (e:=131) (size:=4) (w.alloc (.cells #[.int .i64 id,.slice ax n cx] 60)) #[] 0 (by simp) (by unfold maxLen;omega) rfl;simpa [onSh,mY] using this
 obtain⟨k,hk,rfl,ho,hbx,hsz,hbl⟩:=hrel;by_cases hlt:k<n
 ·
  obtain⟨bx,ox,rfl,g1⟩:=hx k hlt;obtain⟨l,hl⟩:∃l,l=xs.getD k default:=⟨_,rfl⟩
  rw[←hl] at g1;have HL:Hid (l=xs.getD k default):=hl;clear hl hx;obtain⟨a1,a2,a3,a4⟩:=fG hbl g1;have hkx:k<xs.length:=by have:=HN.out;omega
  have hle:=fSd s xs k;by_cases hs:l.sh=s
  ·
   have e1:=fNo s xs k hkx (by rw[←HL.out];exact hs);rw[←HL.out] at e1;have HE:Hid (onSh s (xs.take (k+1))=onSh s (xs.take k)++[l]):=e1;have hd:(l.sh==s)=true:=by simpa using hs
   generalize onSh s (xs.take k)=ys at *;clear e1 hs;go_wp2_with (at_builtin;refine wpList_append_own _ rfl _ _ 58 rfl (w.heap.size+1) 131 i0 _ 4 32 Tryz.underlying58 hi hz0 hz1 hz2 rfl (by decide) _ _ _ rfl (ho.alloc _) ⟨wr.heap.size,0,none⟩ 1 1 (legC l) rfl rfl ?c1 (fNl l) ?c3 ?c4 ?c5 ?_)
   case c1=>exact fE3 (b:=wr.heap.size) (o:=0) ⟨sG,by simp[go_sem],sG,by simp[go_sem]⟩
   case c3=>unfold maxLen;omega
   case c4=>omega
   case c5=>simp;omega
   intro v' w1 hown' hgrow _;have hz:w.heap.size<wr.heap.size:=wL _ _ hbx;have hB1:Below w.heap.size w w1:=fA9 (ho.alloc _) (bA hbl _) (by simp;omega) oM hgrow;have hbx1:w1.cell? ⟨w.heap.size,1,none⟩=some (.slice (some ⟨bx,ox,none⟩) n cx):=by
    refine hgrow.cell (cK (bA (bR _ _) _) hbx) ?_;intro h;have:=(ho.alloc (.cells #[.int .i64 l.sh,.int .i64 l.ac,.int .i64 l.ast,.int .i64 l.am] 131)).lt _ h.symm;simp at this;omega
   have hz1:w.heap.size+1≤w1.heap.size:=wL _ _ hbx1;clear hgrow ho a1 a2 a3 a4;go_wp2;refine⟨⟨k+1,by omega,by go_num,?_,hbx1,hz1,hB1⟩,mI⟩;rw[HE.out,fE4,List.length_append];exact hown'
  have e1:=fJe s xs k hkx (by rw[←HL.out];exact hs);have HE:Hid (onSh s (xs.take (k+1))=onSh s (xs.take k)):=e1;have hd:(l.sh==s)=false:=by simpa using hs
  clear e1 hs;go_wp2;refine⟨⟨k+1,by omega,by go_num,?_,hbx,hsz,hbl⟩,mI⟩;rw[HE.out];exact ho
 go_wp2;go_ret;have hkn:k=n:=oM;subst hkn;have t0:xs.take k=xs:=by rw[←HN.out];exact List.take_length
 rw[t0] at ho;exact⟨_,rfl,mF ho oM,hbl⟩
def hasS (xs:List Leg) (s:Int):Bool:=xs.any (fun l=>l.sh==s)
def sl (p0 p1 p2:Bool):List Int:=(if p0 then [0] else [])++(if p1 then [1] else [])++(if p2 then [2] else [])
def fD (xs:List Leg):List Int:=sl (hasS xs 0) (hasS xs 1) (hasS xs 2)
theorem fW8 (p0 p1 p2:Bool):(sl p0 p1 p2).length≤3:=by cases p0 <;> cases p1 <;> cases p2 <;> decide
theorem fXy (p0 p1 p2:Bool) (v:Int) (h0:0≤v) (h2:v≤2):putI (sl p0 p1 p2) v=sl (p0||v==0) (p1||v==1) (p2||v==2):=by
 have:v=0∨v=1∨v=2:=oM;rcases this with rfl|rfl|rfl <;> cases p0 <;> cases p1 <;> cases p2 <;> decide
theorem zU (xs:List Leg) (k:Nat) (h:k<xs.length) (s:Int):hasS (xs.take (k+1)) s=(hasS (xs.take k) s||(xs.getD k default).sh==s):=by
 rw[rY xs k h];simp[hasS]
theorem fP9 (xs:List Leg) (k:Nat) (h:k<xs.length) (h0:0≤(xs.getD k default).sh) (h2:(xs.getD k default).sh≤2):putI (fD (xs.take k)) (xs.getD k default).sh=fD (xs.take (k+1)):=by
 unfold fD;rw[fXy _ _ _ _ h0 h2,zU xs k h,zU xs k h,zU xs k h]
theorem fNp (xs:List Leg) (s:Int):(0<(onSh s xs).length)↔hasS xs s=true:=by
 unfold onSh hasS;rw[List.length_pos_iff_exists_mem];simp[List.mem_filter]
def slTo (xs:List Leg):Nat→List Int
 | 0=>[]
 | m+1=>slTo xs m++(if hasS xs m then [(m:Int)] else [])
theorem fQb (xs:List Leg):slTo xs 3=fD xs:=by
 simp[slTo,fD,sl]
theorem fSr (xs:List Leg):∀m,(slTo xs m).length≤m
 | 0=>by simp[slTo]
 | m+1=>by
  have:=fSr xs m;simp only[slTo,List.length_append];split <;> simp <;> omega
theorem xI (id:Int) (x:Value) (xs:List Leg) (w:World) (hx:mK w x xs) (hn:xs.length≤1048576) (hb:∀j,j<xs.length→0≤(xs.getD j default).sh∧(xs.getD j default).sh≤2) :
  Calls Tryz.prog 21 #[.agg #[.int .i64 id,x]] w fun e w'=>∃v,e =.returned v∧w'.ownsRow w.heap.size 2 1 v (fD xs).length (gN (fD xs))∧Below w.heap.size w w':=by
 obtain⟨ax,cx,rfl,hcx,hmx,hx⟩:=hx;unfold maxLen at hmx;have HB:Hid (∀j,j<xs.length→0≤(xs.getD j default).sh∧(xs.getD j default).sh≤2):=hb;clear hb;generalize hn':xs.length=n at *;have HN:Hid (xs.length=n):=hn';clear hn';go_enter Tryz.func21,Tryz.ntmps21;go_wp2;go_loopw [3,4] (fun v i w'=>∃k:Nat,k≤n∧i =.int .i64 k∧w'.ownsRow (w.heap.size+1) 2 1 v (fD (xs.take k)).length (gN (fD (xs.take k)))∧¬v =.slice none 0 0∧w'.cell? ⟨w.heap.size,1,none⟩=some (.slice ax n cx)∧Below w.heap.size w w') (fun _ i _=>n-(intOf i).toNat)
 case atStart=>
  refine⟨0,oM,rfl,?_,by simp,by simp[go_sem],bA (bA (bR _ _) _) _⟩;have:=World.ownsRow_lit (base:=w.heap.size+1) (e:=2) (size:=1) (w.alloc (.cells #[.int .i64 id,.slice ax n cx] 60)) #[] 0 (by simp) (by unfold maxLen;omega) rfl;simpa [fD,sl,hasS,gN] using this
 obtain⟨k,hk,rfl,ho,hnn,hbx,hbl⟩:=hrel;by_cases hlt:k<n
 ·
  obtain⟨bx,ox,rfl,g1⟩:=hx k hlt;obtain⟨l,hl⟩:∃l,l=xs.getD k default:=⟨_,rfl⟩
  rw[←hl] at g1;have HL:Hid (l=xs.getD k default):=hl;clear hl hx;obtain⟨a1,a2,a3,a4⟩:=fG hbl g1;have hkx:k<xs.length:=by have:=HN.out;omega
  have HE:=fP9 xs k hkx (HB.out k hlt).1 (HB.out k hlt).2;rw[←HL.out] at HE;have HE':Hid (putI (fD (xs.take k)) l.sh=fD (xs.take (k+1))):=HE;have hle:(fD (xs.take k)).length≤3:=fW8 _ _ _;have hz:w.heap.size<wr.heap.size:=wL _ _ hbx;obtain⟨g,cap,hv⟩:∃g cap,u3 =.slice (some ⟨g,0,none⟩) (fD (xs.take k)).length cap:=by
   rcases ho.2 with ⟨h,_⟩|⟨g,cap,cur,h,_⟩
   ·exact absurd h hnn
   exact⟨g,cap,h⟩
  subst hv;clear HE hnn;go_wp2_with fail;refine(fIy g 0 cap (w.heap.size+1) (fD (xs.take k)) l.sh _ oM oM ho).mono ?_;rintro r w1 ⟨u,rfl,ho1,hnn1,hb1⟩;rw[HE'.out] at ho1;have hbx1:=cK hb1 hbx;have hbl1:=bS hbl hb1;clear ho hb1 a1 a2 a3 a4 hbl hbx;go_wp2;exact⟨⟨k+1,by omega,by go_num,ho1,hnn1,hbx1,hbl1⟩,mI⟩
 go_wp2;go_ret;have hkn:k=n:=oM;subst hkn;have t0:xs.take k=xs:=by rw[←HN.out];exact List.take_length
 rw[t0] at ho;exact⟨_,rfl,mF ho oM,hbl⟩
def fDf (id:Int) (xs:List Leg):Int:=fA id xs
def fAk (id:Int) (xs:List Leg):List Int:=if fA id xs=0 then fD xs else []
theorem fNx {xs:List Leg} (h:okTo xs xs.length):∀j,j<xs.length→0≤(xs.getD j default).sh∧(xs.getD j default).sh≤2:=fun j hj=>(pK (h j hj).1).1
theorem vV (id:Int) (x:Value) (xs:List Leg) (w:World) (hx:mK w x xs) :
  Calls Tryz.prog 86 #[.agg #[.int .i64 id,x]] w fun e w'=>∃v,e =.returned (.agg #[.int .i64 (fDf id xs),v])∧w'.ownsRow w.heap.size 2 1 v (fAk id xs).length (gN (fAk id xs))∧Below w.heap.size w w':=by
 obtain⟨i0,hi,hz0,hz1,hz2⟩:=info_parts fC0;go_enter Tryz.func86,Tryz.ntmps86;go_wp2_with fail;refine(vJ id x xs _ (kV hx (bA (bA (bR _ _) _) _))).mono ?_;rintro e w1 ⟨rfl,hb1⟩;have hB1:Below w.heap.size w w1:=bS (bA (bA (bR _ _) _) _) hb1;obtain⟨hc1,hf1⟩:=bcell hb1;by_cases hcf:fA id xs=0
 ·
  have HC:Hid (fA id xs=0):=hcf;rw[hcf];clear hcf;obtain⟨_,hl2,hl8,_⟩:=fBi HC.out;have hcb:w1.cell? ⟨w.heap.size,1,none⟩=some x:=by rw[hc1 _ _ (by simp;omega)];simp[go_sem]
  have hr0:w1.cell? ⟨w.heap.size+1,0,none⟩=some (.int .i64 0):=by rw[hc1 _ _ (by simp)];simp[go_sem]
  have hr1:w1.cell? ⟨w.heap.size+1,1,none⟩=some (.slice none 0 0):=by rw[hc1 _ _ (by simp)];simp[go_sem]
  have hrf:∀o,w1.frozen? ⟨w.heap.size+1,o,none⟩=false:=fun o=>by rw[hf1 _ _ (by simp)];simp[go_sem]
  have hz:w.heap.size+1<w1.heap.size:=wL _ _ hr0;clear hc1 hf1 hb1;go_wp2;go_loopw [4,5] (fun v i w'=>∃m:Nat,m≤3∧i =.int .i64 m∧w'.ownsRow w1.heap.size 2 1 v (slTo xs m).length (gN (slTo xs m))∧w'.cell? ⟨w.heap.size,1,none⟩=some x∧w'.cell? ⟨w.heap.size+1,0,none⟩=some (.int .i64 0)∧w'.cell? ⟨w.heap.size+1,1,none⟩=some (.slice none 0 0) ∧
    (∀o,w'.frozen? ⟨w.heap.size+1,o,none⟩=false)∧w1.heap.size≤w'.heap.size∧Below w.heap.size w w') (fun _ i _=>3-(intOf i).toNat)
  case atStart=>exact⟨0,by omega,rfl,by simpa [slTo,gN] using World.ownsRow_nil _ _ _ _,hcb,hr0,hr1,hrf,Nat.le_refl _,hB1⟩
  obtain⟨m,hm,rfl,ho,k1,k2,k3,k4,k5,k6⟩:=hrel;clear hcb hr0 hr1 hrf hB1;by_cases hm3:m<3
  ·
   have hm3':(m:Int)<3:=oM;go_wp2_with fail;refine(yB x xs m _ (kV hx k6) oM).mono ?_;rintro e w2 ⟨v2,rfl,ho2,hb2⟩;obtain⟨p,q,rfl⟩:=gF ho2;have ho':=gT ho hb2;have j1:=cK hb2 k1;have j2:=cK hb2 k2;have j3:=cK hb2 k3;have j4:∀o,w2.frozen? ⟨w.heap.size+1,o,none⟩=false:=fun o=>by rw[(bcell hb2).2 _ _ oM];exact k4 o
   have j5:w1.heap.size≤w2.heap.size:=Nat.le_trans k5 hb2.size;have j6:=bS k6 hb2;have hle:=fSr xs m;clear k1 k2 k3 k4 k5 k6 hb2 ho2 ho;by_cases hp:0<(onSh m xs).length
   ·
    have hh:hasS xs m=true:=(fNp xs m).1 hp;have HE:Hid (slTo xs (m+1)=slTo xs m++[(m:Int)]):=by show _=_;simp[slTo,hh]
    have hp':(0:Int)<((onSh m xs).length:Int):=oM;clear hh;generalize slTo xs m=ys at *;go_wp2_with (at_builtin;refine wpList_append_own _ rfl _ _ 61 rfl w1.heap.size 2 i0 _ 1 8 Tryz.underlying61 hi hz0 hz1 hz2 rfl (by decide) _ _ _ rfl (ho'.alloc _) ⟨w2.heap.size,0,none⟩ 1 1 (gN [(m:Int)]) rfl rfl ?c1 (fAa _) ?c3 ?c4 ?c5 ?_)
    case c1=>exact yY sG
    case c3=>unfold maxLen;omega
    case c4=>omega
    case c5=>simp;omega
    intro v' w3 hown' hgrow _;have o1:=fXx (ho'.alloc (.cells #[.int .i64 m] 2));have i1:=hgrow.cell (cK (bA (bR _ _) _) j1) (fGo o1 (.inl (by simp;omega)));have i2:=hgrow.cell (cK (bA (bR _ _) _) j2) (fGo o1 (.inl (by simp;omega)));have i3:=hgrow.cell (cK (bA (bR _ _) _) j3) (fGo o1 (.inl (by simp;omega)));have i4:∀o,w3.frozen? ⟨w.heap.size+1,o,none⟩=false:=fun o=>by
     rw[World.frozen?_of_block (w:=w2.alloc (.cells #[.int .i64 m] 2)) (hgrow.block (w.heap.size+1) (by simp;omega) (fGo o1 (.inl oM))),(bcell (bA (bR _ _) _)).2 _ _ oM];exact j4 o
    have i5:w1.heap.size≤w3.heap.size:=by have:=hgrow.size;simp at this;omega
    have i6:Below w.heap.size w w3:=fA9 (ho'.alloc _) (bA j6 _) (by simp;omega) oM hgrow;clear hgrow ho' j1 j2 j3 j4 j5 j6 o1;go_wp2;refine⟨⟨m+1,by omega,by go_num,?_,i1,i2,i3,i4,i5,i6⟩,mI⟩;rw[HE.out,List.length_append];simpa [gN] using hown'
   have hh:hasS xs m=false:=by
    cases h:hasS xs m with
    | false=>rfl
    | true=>exact absurd ((fNp xs m).2 h) hp
   have HE:Hid (slTo xs (m+1)=slTo xs m):=by show _=_;simp[slTo,hh]
   have hp':¬(0:Int)<((onSh m xs).length:Int):=oM;clear hh;go_wp2;refine⟨⟨m+1,by omega,by go_num,?_,j1,j2,j3,j4,j5,j6⟩,mI⟩;rw[HE.out];exact ho'
  have hm3':m=3:=oM;subst hm3';rw[fQb] at ho;obtain⟨p,q,hv⟩:=gF ho;subst hv;go_wp2;have hal:fAk id xs=fD xs:=if_pos HC.out;refine bodyPost_ret (v:=.agg #[.int .i64 0,.slice p (fD xs).length q]) ?_ rfl ⟨.slice p (fD xs).length q,?_,?_,bset (bset k6 (by simp) _) (by simp) _⟩
  ·simp[results,Tryz.results86,go_sem,k2,k3]
  ·simp[fDf,HC.out]
  rw[hal];exact mF (xO (xO ho (by simp;omega) _) (by simp;omega) _) oM
 have hd:(fA id xs==0)=false:=by simpa using hcf
 go_wp2;have hal:fAk id xs=[]:=if_neg hcf;refine bodyPost_ret (v:=.agg #[.int .i64 (fA id xs),.slice none 0 0]) ?_ rfl ⟨.slice none 0 0,rfl,?_,bset (bset hB1 (by simp) _) (by simp) _⟩
 ·simp[results,Tryz.results86,go_sem,hc1]
 rw[hal];exact World.ownsRow_nil _ _ _ _
end
section
section
variable {P : Program} {ops : Array Oper} {Q : Exit → Act → World → Prop} {md : Region.Mode} {S : World → Prop} {t : Nat}
def gI (P:Program) (md:Region.Mode) (ops:Array Oper) (Q:Exit→Act→World→Prop) (S:World→Prop) (t:Nat):Nat→Array Bool→Act→World→Prop
 | 0,listed,a,w=>Region.ready md ops listed=[]∧Q .normal a w
 | f+1,listed,a,w=>(Region.ready md ops listed=[]→Q .normal a w)∧∀i ∈ Region.ready md ops listed,wpOp P ops Q i (fun a' w'=>(i≠t→S w')∧gI P md ops Q S t f (listed.setIfInBounds i true) a' w') a w
theorem fN4:∀(f:Nat) (listed:Array Bool) (a:Act) (w:World),gI P md ops Q S t f listed a w→wpAny P md ops Q f listed a w
 | 0,_,_,_,h=>h
 | f+1,_,_,_,h=>⟨h.1,fun i hi=>wpOp_mono (fun _ _ h'=>fN4 f _ _ _ h'.2) (h.2 i hi)⟩
def waitsFor (md:Region.Mode) (ops:Array Oper) (t i:Nat):Bool:=
 match ops[t]? with
 | some o=>o.after.any (fun e=>Region.binds md e&&e.on==i)
 | none=>false
theorem fQv {i:Nat} {oi:Oper} {v:Value} (hi:ops[i]? = some oi) (hsel:Region.noSelect ops=true) (hw:waitsFor md ops t i=true)
  (hQ:∀c a w,Q (.panic c) (a.put oi.dst v) w→Q (.panic c) a w) :
  ∀(f:Nat) (listed:Array Bool) (a:Act) (w:World),
   (∀j oj,ops[j]? = some oj→j≠i→listed.getD j true=false→(∀e ∈ oj.after,Region.binds md e=true→e.on≠i)→oi.apart ops oj=true) →
   i ∈ Region.ready md ops listed→YieldsIf P ops S oi v a→S w →
   gI P md ops Q S t f (listed.setIfInBounds i true) (a.put oi.dst v) w→gI P md ops Q S t (f+1) listed a w:=by
 intro f;induction f with
 | zero=>
  intro listed a w _ hr hy hS H;refine⟨fun h=>(by rw[h] at hr;cases hr),fun j hj=>?_⟩;by_cases hji:j=i
  ·subst hji;exact hy.wpOp hi hS ⟨fun _=>hS,H⟩
  have hm:=ready_mono hj hji;rw[H.1] at hm;cases hm
 | succ f ih=>
  intro listed a w hfree hr hy hS H;refine⟨fun h=>(by rw[h] at hr;cases hr),fun j hj=>?_⟩;by_cases hji:j=i
  ·subst hji;exact hy.wpOp hi hS ⟨fun _=>hS,H⟩
  obtain⟨hjun,oj,hoj,hall⟩:=mem_ready.1 hj;have hun:=(mem_ready.1 hr).1;have hnl:¬listed.getD i false=true:=by
   intro h1;rcases Nat.lt_or_ge i listed.size with h'|h'
   ·simp[h'] at hun h1;rw[hun] at h1;cases h1
   simp[Array.getElem?_eq_none h'] at h1
  have hnot:∀e ∈ oj.after,Region.binds md e=true→e.on≠i:=fun e he hb heq=>hnl (by rw[←heq];exact hall e he hb)
  have hjt:j≠t:=by
   rintro rfl;unfold waitsFor at hw;rw[hoj] at hw;obtain⟨e,he,hb⟩:=Array.any_eq_true'.1 hw;simp only[Bool.and_eq_true,beq_iff_eq] at hb;exact hnot e he hb.1 hb.2
  have h1:=H.2 j (ready_mono hj hji);have h2:=wpOp_putIf hoj (hfree j oj hoj hji hjun hnot) (fun cs b=>Region.noSelect_spec hsel i oi cs b hi) (fun cs b=>Region.noSelect_spec hsel j oj cs b hoj) hQ hy h1;refine wpOp_mono (fun a' w' h3=>⟨h3.2.1,ih (listed.setIfInBounds j true) a' w' ?_ (ready_mono hr (Ne.symm hji)) h3.1 (h3.2.1 hjt) ?_⟩) h2
  ·
   intro k ok hk hki hunk hno;refine hfree k ok hk hki ?_ hno;by_cases hjk:j=k
   ·subst hjk;exact hjun
   rw[getD_set_ne true hjk] at hunk;exact hunk
  rw[Array.setIfInBounds_comm _ _ hji];exact h3.2.2
theorem fKf {i:Nat} {oi:Oper} {v:Value} {f:Nat} {listed:Array Bool} {a:Act} {w:World} (hi:ops[i]? = some oi) (hsel:Region.noSelect ops=true) (hw:waitsFor md ops t i=true)
  (hf:Region.free md ops listed i=true) (hr:(Region.ready md ops listed).contains i=true) (hQ:∀c a w,Q (.panic c) (a.put oi.dst v) w→Q (.panic c) a w)
  (hwd:Region.wanted oi (yielded ops a.tmps)=true) (hS:S w) (hy:∀w,S w→(execOp a.eval oi).run P w =.ok (.value v) w)
  (h:gI P md ops Q S t f (listed.setIfInBounds i true) (a.put oi.dst v) w):gI P md ops Q S t (f+1) listed a w:=
 fQv hi hsel hw hQ f listed a w (Region.free_spec hi hf) (by simpa using hr) (Or.inl ⟨hwd,hy⟩) hS h
theorem tK {i:Nat} {oi:Oper} {v:Value} {f:Nat} {listed:Array Bool} {a:Act} {w:World} (hi:ops[i]? = some oi) (hb:(Region.noSelect ops&&waitsFor md ops t i&&Region.free md ops listed i&&(Region.ready md ops listed).contains i)=true)
  (hS:S w) (hy:∀w,S w→(execOp a.eval oi).run P w =.ok (.value v) w)
  (h:gI P md ops Q S t f (listed.setIfInBounds i true) (a.put oi.dst v) w) (hQ:∀c a w,Q (.panic c) (a.put oi.dst v) w→Q (.panic c) a w:=by exact fun _ _ _ h=>h) (hwd:Region.wanted oi (yielded ops a.tmps)=true:=by rfl):gI P md ops Q S t (f+1) listed a w:=by
 simp only[Bool.and_eq_true] at hb;exact fKf hi hb.1.1.1 hb.1.1.2 hb.1.2 hb.2 hQ hwd hS hy h
theorem tL (i:Nat) {oi:Oper} {v:Value} {f:Nat} {listed:Array Bool} {a:Act} {w:World} (hi:ops[i]? = some oi) (hS:S w) (h:gI P md ops Q S t f (listed.setIfInBounds i true) (a.put oi.dst v) w) (hb:(Region.noSelect ops&&waitsFor md ops t i&&Region.free md ops listed i&&(Region.ready md ops listed).contains i)=true:=by kernel_rfl) (hQ:∀c a w,Q (.panic c) (a.put oi.dst v) w→Q (.panic c) a w:=by exact fun _ _ _ h=>h) (hwd:Region.wanted oi (yielded ops a.tmps)=true:=by rfl) (hy:∀w,S w→(execOp a.eval oi).run P w =.ok (.value v) w:=by intro wS hSw;(try dsimp only at hSw);go_simp;try with_reducible rfl):gI P md ops Q S t (f+1) listed a w:=by
 simp only[Bool.and_eq_true] at hb;exact fKf hi hb.1.1.1 hb.1.1.2 hb.1.2 hb.2 hQ hwd hS hy h
theorem tY (i:Nat) {oi:Oper} {v:Value} {f:Nat} {listed:Array Bool} {a a':Act} {w:World} (h:gI P md ops Q S t f (listed.setIfInBounds i true) a' w) (hi:ops[i]? = some oi:=by rfl) (hS:S w:=by assumption) (hb:(Region.noSelect ops&&waitsFor md ops t i&&Region.free md ops listed i&&(Region.ready md ops listed).contains i)=true:=by kernel_rfl) (hQ:∀c a w,Q (.panic c) (a.put oi.dst v) w→Q (.panic c) a w:=by exact fun _ _ _ h=>h) (hwd:Region.wanted oi (yielded ops a.tmps)=true:=by rfl) (hy:∀w,S w→(execOp a.eval oi).run P w =.ok (.value v) w:=by intro wS hSw;(try dsimp only at hSw);go_simp;try with_reducible rfl) (ha:a.put oi.dst v=a':=by first|(simp only[jX];done)|(simp only[jX];rfl)|rfl):gI P md ops Q S t (f+1) listed a w:=by
 subst ha;exact tL i hi hS h hb hQ hwd hy
theorem fS9 {i:Nat} {o:Oper} {f:Nat} {listed:Array Bool} {a:Act} {w:World} (hr:Region.ready md ops listed=[i]) (hi:ops[i]? = some o)
  (h:∀K:Act→World→Prop,(∀a' w',(i≠t→S w')→gI P md ops Q S t f (listed.setIfInBounds i true) a' w'→K a' w')→if Region.wanted o (yielded ops a.tmps)=true then Oper.wp P o a w K Q else K (a.put o.dst undef) w) :
  gI P md ops Q S t (f+1) listed a w:=by
 refine⟨fun h0=>(by rw[hr] at h0;cases h0),fun j hj=>?_⟩;rw[hr] at hj;have e:j=i:=by simpa using hj
 subst e;have h1:=h (fun a' w'=>(j≠t→S w')∧gI P md ops Q S t f (listed.setIfInBounds j true) a' w') (fun _ _ p q=>⟨p,q⟩);unfold wpOp;simp only[hi];split
 ·rename_i hw;rw[if_pos hw] at h1;exact .inl h1
 rename_i hw;rw[if_neg hw] at h1;exact h1
theorem uS (i:Nat) {o:Oper} {f:Nat} {listed:Array Bool} {a:Act} {w:World} (hi:ops[i]? = some o)
  (h:∀K:Act→World→Prop,(∀a' w',(i≠t→S w')→gI P md ops Q S t f (listed.setIfInBounds i true) a' w'→K a' w')→if Region.wanted o (yielded ops a.tmps)=true then Oper.wp P o a w K Q else K (a.put o.dst undef) w) (hr:Region.ready md ops listed=[i]:=by kernel_rfl) :
  gI P md ops Q S t (f+1) listed a w:=fS9 hr hi h
theorem fAv {listed:Array Bool} {a:Act} {w:World} {f:Nat} (hr:Region.ready md ops listed=[]) (h:Q .normal a w):gI P md ops Q S t f listed a w:=by
 cases f with
 | zero=>exact⟨hr,h⟩
 | succ f=>exact⟨fun _=>h,by rw[hr];simp⟩
theorem dN {listed:Array Bool} {a:Act} {w:World} {f:Nat} (h:Q .normal a w) (hr:Region.ready md ops listed=[]:=by kernel_rfl):gI P md ops Q S t f listed a w:=fAv hr h
theorem dP {listed:Array Bool} {a:Act} {w:World} {f:Nat} {Q:Exit→Act→World→Prop} (h:Q .normal a w) (hr:Region.ready md ops listed=[]:=by kernel_rfl):gI P md ops (NoPanic Q) S t f listed a w:=dN (NoPanic.normal h) hr
theorem fB {id:Nat} {a:Act} {w:World} (S:World→Prop) (t:Nat) (hm:P.follows .mixedOrders=true) (hS:S w.drew) (h:S w.drew→gI P .any ops Q S t ops.size (Array.replicate ops.size false) a w.drew):(Code.region id ops true).wp P Q a w:=
 wp_region_any hm (fN4 _ _ _ _ (h hS))
end
section
variable {P : Program} {ops : Array Oper} {Q : Exit → Act → World → Prop} {md : Region.Mode} {S : World → Prop} {t : Nat}
theorem yZ {i:Nat} {oi:Oper} {v:Value} (hi:ops[i]? = some oi) (hsel:Region.noSelect ops=true) (ht:ops[t]? = none)
  (hQ:∀c a w,Q (.panic c) (a.put oi.dst v) w→Q (.panic c) a w) :
  ∀(f:Nat) (listed:Array Bool) (a:Act) (w:World),
   (∀j oj,ops[j]? = some oj→j≠i→listed.getD j true=false→(∀e ∈ oj.after,Region.binds md e=true→e.on≠i)→oi.apart ops oj=true) →
   i ∈ Region.ready md ops listed→YieldsIf P ops S oi v a→S w →
   gI P md ops Q S t f (listed.setIfInBounds i true) (a.put oi.dst v) w→gI P md ops Q S t (f+1) listed a w:=by
 intro f;induction f with
 | zero=>
  intro listed a w _ hr hy hS H;refine⟨fun h=>(by rw[h] at hr;cases hr),fun j hj=>?_⟩;by_cases hji:j=i
  ·subst hji;exact hy.wpOp hi hS ⟨fun _=>hS,H⟩
  have hm:=ready_mono hj hji;rw[H.1] at hm;cases hm
 | succ f ih=>
  intro listed a w hfree hr hy hS H;refine⟨fun h=>(by rw[h] at hr;cases hr),fun j hj=>?_⟩;by_cases hji:j=i
  ·subst hji;exact hy.wpOp hi hS ⟨fun _=>hS,H⟩
  obtain⟨hjun,oj,hoj,hall⟩:=mem_ready.1 hj;have hun:=(mem_ready.1 hr).1;have hnl:¬listed.getD i false=true:=by
   intro h1;rcases Nat.lt_or_ge i listed.size with h'|h'
   ·simp[h'] at hun h1;rw[hun] at h1;cases h1
   simp[Array.getElem?_eq_none h'] at h1
  have hnot:∀e ∈ oj.after,Region.binds md e=true→e.on≠i:=fun e he hb heq=>hnl (by rw[←heq];exact hall e he hb)
  have hjt:j≠t:=by
   rintro rfl;rw[ht] at hoj;cases hoj
  have h1:=H.2 j (ready_mono hj hji);have h2:=wpOp_putIf hoj (hfree j oj hoj hji hjun hnot) (fun cs b=>Region.noSelect_spec hsel i oi cs b hi) (fun cs b=>Region.noSelect_spec hsel j oj cs b hoj) hQ hy h1;refine wpOp_mono (fun a' w' h3=>⟨h3.2.1,ih (listed.setIfInBounds j true) a' w' ?_ (ready_mono hr (Ne.symm hji)) h3.1 (h3.2.1 hjt) ?_⟩) h2
  ·
   intro k ok hk hki hunk hno;refine hfree k ok hk hki ?_ hno;by_cases hjk:j=k
   ·subst hjk;exact hjun
   rw[getD_set_ne true hjk] at hunk;exact hunk
  rw[Array.setIfInBounds_comm _ _ hji];exact h3.2.2
theorem kP {i:Nat} {oi:Oper} {v:Value} {f:Nat} {listed:Array Bool} {a:Act} {w:World} (hi:ops[i]? = some oi) (hsel:Region.noSelect ops=true) (ht:ops[t]? = none)
  (hf:Region.free md ops listed i=true) (hr:(Region.ready md ops listed).contains i=true) (hQ:∀c a w,Q (.panic c) (a.put oi.dst v) w→Q (.panic c) a w)
  (hwd:Region.wanted oi (yielded ops a.tmps)=true) (hS:S w) (hy:∀w,S w→(execOp a.eval oi).run P w =.ok (.value v) w)
  (h:gI P md ops Q S t f (listed.setIfInBounds i true) (a.put oi.dst v) w):gI P md ops Q S t (f+1) listed a w:=
 yZ hi hsel ht hQ f listed a w (Region.free_spec hi hf) (by simpa using hr) (Or.inl ⟨hwd,hy⟩) hS h
theorem tN {i:Nat} {oi:Oper} {v:Value} {f:Nat} {listed:Array Bool} {a:Act} {w:World} (hi:ops[i]? = some oi) (hb:(Region.noSelect ops&&(ops[t]?).isNone&&Region.free md ops listed i&&(Region.ready md ops listed).contains i)=true)
  (hS:S w) (hy:∀w,S w→(execOp a.eval oi).run P w =.ok (.value v) w)
  (h:gI P md ops Q S t f (listed.setIfInBounds i true) (a.put oi.dst v) w) (hQ:∀c a w,Q (.panic c) (a.put oi.dst v) w→Q (.panic c) a w:=by exact fun _ _ _ h=>h) (hwd:Region.wanted oi (yielded ops a.tmps)=true:=by rfl):gI P md ops Q S t (f+1) listed a w:=by
 simp only[Bool.and_eq_true] at hb;exact kP hi hb.1.1.1 (by simpa using hb.1.1.2) hb.1.2 hb.2 hQ hwd hS hy h
theorem tM (i:Nat) {oi:Oper} {v:Value} {f:Nat} {listed:Array Bool} {a:Act} {w:World} (hi:ops[i]? = some oi) (hS:S w) (h:gI P md ops Q S t f (listed.setIfInBounds i true) (a.put oi.dst v) w) (hb:(Region.noSelect ops&&(ops[t]?).isNone&&Region.free md ops listed i&&(Region.ready md ops listed).contains i)=true:=by kernel_rfl) (hQ:∀c a w,Q (.panic c) (a.put oi.dst v) w→Q (.panic c) a w:=by exact fun _ _ _ h=>h) (hwd:Region.wanted oi (yielded ops a.tmps)=true:=by rfl) (hy:∀w,S w→(execOp a.eval oi).run P w =.ok (.value v) w:=by intro wS hSw;(try dsimp only at hSw);go_simp;try with_reducible rfl):gI P md ops Q S t (f+1) listed a w:=by
 simp only[Bool.and_eq_true] at hb;exact kP hi hb.1.1.1 (by simpa using hb.1.1.2) hb.1.2 hb.2 hQ hwd hS hy h
theorem tX (i:Nat) {oi:Oper} {v:Value} {f:Nat} {listed:Array Bool} {a a':Act} {w:World} (h:gI P md ops Q S t f (listed.setIfInBounds i true) a' w) (hi:ops[i]? = some oi:=by rfl) (hS:S w:=by assumption) (hb:(Region.noSelect ops&&(ops[t]?).isNone&&Region.free md ops listed i&&(Region.ready md ops listed).contains i)=true:=by kernel_rfl) (hQ:∀c a w,Q (.panic c) (a.put oi.dst v) w→Q (.panic c) a w:=by exact fun _ _ _ h=>h) (hwd:Region.wanted oi (yielded ops a.tmps)=true:=by rfl) (hy:∀w,S w→(execOp a.eval oi).run P w =.ok (.value v) w:=by intro wS hSw;(try dsimp only at hSw);go_simp;try with_reducible rfl) (ha:a.put oi.dst v=a':=by first|(simp only[jX];done)|(simp only[jX];rfl)|rfl):gI P md ops Q S t (f+1) listed a w:=by
 subst ha;exact tM i hi hS h hb hQ hwd hy
theorem fQw {i:Nat} {oi:Oper} {f:Nat} {listed:Array Bool} {a:Act} {w:World} (hi:ops[i]? = some oi) (hsel:Region.noSelect ops=true) (ht:ops[t]? = none)
  (hf:Region.free md ops listed i=true) (hr:(Region.ready md ops listed).contains i=true) (hQ:∀c a w,Q (.panic c) (a.put oi.dst undef) w→Q (.panic c) a w)
  (hwd:Region.wanted oi (yielded ops a.tmps)=false) (hS:S w)
  (h:∀u:Value,gI P md ops Q S t f (listed.setIfInBounds i true) (a.put oi.dst u) w):gI P md ops Q S t (f+1) listed a w:=
 yZ hi hsel ht hQ f listed a w (Region.free_spec hi hf) (by simpa using hr) (Or.inr ⟨hwd,rfl⟩) hS (h undef)
theorem sN (i:Nat) {oi:Oper} {f:Nat} {listed:Array Bool} {a:Act} {w:World} (hi:ops[i]? = some oi) (hS:S w) (h:∀u:Value,gI P md ops Q S t f (listed.setIfInBounds i true) (a.put oi.dst u) w) (hb:(Region.noSelect ops&&(ops[t]?).isNone&&Region.free md ops listed i&&(Region.ready md ops listed).contains i)=true:=by kernel_rfl) (hQ:∀c a w,Q (.panic c) (a.put oi.dst undef) w→Q (.panic c) a w:=by exact fun _ _ _ h=>h) (hwd:Region.wanted oi (yielded ops a.tmps)=false:=by rfl):gI P md ops Q S t (f+1) listed a w:=by
 simp only[Bool.and_eq_true] at hb;exact fQw hi hb.1.1.1 (by simpa using hb.1.1.2) hb.1.2 hb.2 hQ hwd hS h
theorem sX (i:Nat) {oi:Oper} {f:Nat} {listed:Array Bool} {a:Act} {a':Value→Act} {w:World} (h:∀u:Value,gI P md ops Q S t f (listed.setIfInBounds i true) (a' u) w) (hi:ops[i]? = some oi:=by rfl) (hS:S w:=by assumption) (hb:(Region.noSelect ops&&(ops[t]?).isNone&&Region.free md ops listed i&&(Region.ready md ops listed).contains i)=true:=by kernel_rfl) (hQ:∀c a w,Q (.panic c) (a.put oi.dst undef) w→Q (.panic c) a w:=by exact fun _ _ _ h=>h) (hwd:Region.wanted oi (yielded ops a.tmps)=false:=by rfl) (ha:∀u,a.put oi.dst u=a' u:=by intro u;first|(simp only[jX];done)|(simp only[jX];rfl)|rfl):gI P md ops Q S t (f+1) listed a w:=sN i hi hS (fun u=>by rw[ha u];exact h u) hb hQ hwd
end
end
end Go.Proofs.YtbfnobcidnmohaaGreat

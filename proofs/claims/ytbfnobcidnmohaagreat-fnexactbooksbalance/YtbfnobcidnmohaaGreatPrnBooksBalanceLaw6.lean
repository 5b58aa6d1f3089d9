import Derived.Test.YtbfnobcidnmohaaGreatPrnBooksBalanceLaw5
import Derived.RegionTactic
import Derived.ChangeAlike
import Derived.BigRegion
import Derived.Deep.RegionHeld3
set_option maxHeartbeats 2000000
set_option maxRecDepth 20000
set_option linter.unusedSectionVars false
namespace Go.Proofs.YtbfnobcidnmohaaGreat
open Go.RowKit
variable [DecidableEq Leg] [Inhabited Leg]
attribute [local go_sem ↓] Go.wp_at_zero Go.wp_at_succ
theorem fVt (w:World):(Instr.makeSlice 61 (.int .i64 3) (.int .i64 3)).run Tryz.prog w = .ok (.slice (some ⟨w.heap.size,0,none⟩) 3 3) (w.alloc (.cells #[.int .i64 0,.int .i64 0,.int .i64 0] 2)):=by kernel_rfl
theorem fC8 (id:Int) (x:Value) (xs:List Leg) (w:World) (hx:mJ w x xs) (h:inB id 1 1000000000=false∨xs.length<2∨8<xs.length) :
  Calls Tryz.prog 118 #[.agg #[.int .i64 id,x]] w fun e w'=>e = .returned (.int .i64 (fB id xs))∧Below w.heap.size w w':=by
 obtain⟨ax,cx,rfl,hcx,hmx,hx⟩:=hx;unfold maxLen at hmx;clear hx;by_cases hid:inB id 1 1000000000=false
 ·
  go_enter Tryz.func118,Tryz.ntmps118;go_wp2_with (go_at_call 192;refine(mO _ _).mono ?_;rintro e w' ⟨rfl,rfl⟩);go_ret;exact⟨by simp[fB,hid],bA (Below.refl _ _) _⟩
 have hid':inB id 1 1000000000=true:=by simpa using hid
 have hn:xs.length<2∨8<xs.length:=by
  rcases h with h|h
  ·
   exact absurd h hid
  exact h
 have hcf:fB id xs=2:=by simp[fB,hid',hn]
 rw[hcf];generalize xs.length=n at *;clear hid h hcf;rcases hn with hn|hn
 ·
  have h1:(n:Int)<2:=by omega
  go_enter Tryz.func118,Tryz.ntmps118;go_wp2_with (go_at_call 192;refine(mO _ _).mono ?_;rintro e w' ⟨rfl,rfl⟩);go_ret;exact⟨rfl,bA (Below.refl _ _) _⟩
 have h1:¬(n:Int)<2:=by omega
 have h2:(8:Int)<(n:Int):=by omega
 go_enter Tryz.func118,Tryz.ntmps118;go_wp2_with (go_at_call 192;refine(mO _ _).mono ?_;rintro e w' ⟨rfl,rfl⟩);go_ret;exact⟨rfl,bA (Below.refl _ _) _⟩
theorem fD5 (id:Int) (x:Value) (xs:List Leg) (w:World) (hx:mJ w x xs) (hid:inB id 1 1000000000=true) (hn2:2≤xs.length) (hn8:xs.length≤8) :
  Calls Tryz.prog 118 #[.agg #[.int .i64 id,x]] w fun e w'=>e = .returned (.int .i64 (fB id xs))∧Below w.heap.size w w':=by
 obtain⟨ax,cx,rfl,hcx,hmx,hx⟩:=hx;unfold maxLen at hmx;generalize hn':xs.length=n at *;have HN:Hid (xs.length=n):=hn';clear hn';have h1:¬(n:Int)<2:=by omega
 have h2:¬(8:Int)<(n:Int):=by omega
 have hmk:=fVt;go_enter Tryz.func118,Tryz.ntmps118;go_wp2_with (go_at_call 192;refine(mO _ _).mono ?_;rintro e w' ⟨rfl,rfl⟩);go_loopw [4] (fun i w'=>∃k:Nat,k≤n∧i = .int .i64 k∧okTo xs k∧(∀j:Nat,j<3→w'.cell? ⟨w.heap.size+1,j,none⟩=some (.int .i64 (sumA j (xs.take k)))∧w'.frozen? ⟨w.heap.size+1,j,none⟩=false) ∧
   w'.cell? ⟨w.heap.size,1,none⟩=some (.slice ax n cx)∧w.heap.size+1<w'.heap.size∧Below w.heap.size w w') (fun i _=>n-(intOf i).toNat)
 case atStart=>
  refine⟨0,Nat.zero_le _,rfl,fun j h=>by omega,fun j hj=>?_,by simp[go_sem],by simp,bA (bA (Below.refl _ _) _) _⟩;match j,hj with
  | 0,_=>exact⟨by simp[go_sem,sumA],by simp[go_sem]⟩
  | 1,_=>exact⟨by simp[go_sem,sumA],by simp[go_sem]⟩
  | 2,_=>exact⟨by simp[go_sem,sumA],by simp[go_sem]⟩
 obtain⟨k,hk,rfl,hok,hs,hcx1,hsz,hbl⟩:=hrel;generalize wr=wo at *;have HO:Hid (okTo xs k):=hok;have HS:Hid (∀j:Nat,j<3→wo.cell? ⟨w.heap.size+1,j,none⟩=some (.int .i64 (sumA j (xs.take k)))∧wo.frozen? ⟨w.heap.size+1,j,none⟩=false):=hs;clear hok hs;by_cases hlt:k<n
 ·
  obtain⟨bx,ox,rfl,g1⟩:=hx k hlt;obtain⟨l,hl⟩:∃l,l=xs.getD k default:=⟨_,rfl⟩
  rw[←hl] at g1;have HL:Hid (l=xs.getD k default):=hl;clear hl;obtain⟨a1,a2,a3,a4⟩:=fF hbl g1;go_wp2_with fail;refine(fBq l _).mono ?_;rintro e w2 ⟨rfl,hb2⟩;obtain⟨hc2,hf2⟩:=bcell hb2;have hbl2:Below w.heap.size w w2:=bS (bA hbl _) hb2;have hz2:wo.heap.size<w2.heap.size:=by have:=hb2.size;simp at this;omega
  have hcx2:w2.cell? ⟨w.heap.size,1,none⟩=some (.slice (some ⟨bx,ox,none⟩) n cx):=by
   rw[hc2 _ _ (by simp;omega)];simp[go_sem,hcx1,show w.heap.size<wo.heap.size by omega]
  have hl2:kQ w2 wo.heap.size 0 l:=by
   refine⟨?_,?_,?_,?_⟩ <;> (rw[hc2 _ _ (by simp)];simp[go_sem])
  have HS2:Hid (∀j:Nat,j<3→w2.cell? ⟨w.heap.size+1,j,none⟩=some (.int .i64 (sumA j (xs.take k)))∧w2.frozen? ⟨w.heap.size+1,j,none⟩=false):=by
   intro j hj;have:=HS.out j hj;rw[hc2 _ _ (by simp;omega),hf2 _ _ (by simp;omega)];simpa [go_sem,hsz] using this
  clear hc2 hf2 hb2 a1 a2 a3 a4 hcx1 HS hbl;by_cases hlf:gF l=0
  ·
   have HF:Hid (gF l=0):=hlf;rw[hlf];clear hlf;go_wp2;go_loopw [7] (fun i w'=>∃m:Nat,m≤k∧i = .int .i64 m∧fM (xs.take m) l=false∧Below w2.heap.size w2 w') (fun i _=>k-(intOf i).toNat)
   case atStart=>exact⟨0,Nat.zero_le _,rfl,by simp[fM],Below.refl _ _⟩
   obtain⟨m,hm,rfl,hp,hb3⟩:=hrel;have HP:Hid (fM (xs.take m) l=false):=hp;clear hp;by_cases hmk':m<k
   ·
    obtain⟨b',o',he,g2⟩:=hx m (by omega);simp only[Option.some.injEq,Addr.mk.injEq,and_true] at he;obtain⟨rfl,rfl⟩:=he;obtain⟨o,ho⟩:∃o,o=xs.getD m default:=⟨_,rfl⟩
    rw[←ho] at g2;have HO2:Hid (o=xs.getD m default):=ho;clear ho;obtain⟨c1,c2,c3,c4⟩:=fF (bS hbl2 hb3) g2;obtain⟨d1,d2,d3,d4⟩:=fF hb3 hl2;simp only[Nat.zero_add] at d1 d2 d3 d4;have e1:wr.cell? ⟨w.heap.size,1,none⟩=some (.slice (some ⟨bx,ox,none⟩) n cx):=by
     rw[(bcell hb3).1 _ _ (by omega)];exact hcx2
    have hz3:wo.heap.size<wr.heap.size:=by have:=hb3.size;omega
    have hz4:w.heap.size<wr.heap.size:=by omega
    have hz5:bx<wr.heap.size:=wL wr _ c1;go_wp2
    ·
     rename_i s1 s2 s3;go_ret;refine⟨?_,bA (bS hbl2 hb3) _⟩;have hp:fM (xs.take k) (xs.getD k default)=true:=by
      refine zL (k:=m+1) (by omega) ?_;rw[tH xs m (by have:=HN.out;omega),←HL.out,←HO2.out];have:l.ast=o.ast:=by simpa using (Eq.symm (by simpa using s3:o.ast=l.ast))
      simp[rP,s1,s2,this]
     have:=HN.out;rw[fLy hid (by omega) (by omega) (k:=k) (by omega) HO.out (by rw[←HL.out];exact HF.out) hp];rfl
    all_goals
     refine⟨⟨m+1,by omega,by go_num,?_,bA hb3 _⟩,by simp[intOf];omega⟩;rw[tH xs m (by have:=HN.out;omega),←HO2.out,HP.out];simp_all [rP]
   have hmk2:m=k:=by omega
   subst hmk2;obtain⟨d1,d2,d3,d4⟩:=fF hb3 hl2;simp only[Nat.zero_add] at d1 d2 d3 d4;have hz3:wo.heap.size<wr.heap.size:=by have:=hb3.size;omega
   have hz4:w.heap.size<wr.heap.size:=by omega
   have lz:=gP HF.out;obtain⟨_,_,⟨q1,q2⟩,⟨q3,q4⟩,_⟩:=lz;have q2':l.ast<3:=by omega
   have HS3:Hid (∀j:Nat,j<3→wr.cell? ⟨w.heap.size+1,j,none⟩=some (.int .i64 (sumA j (xs.take m)))∧wr.frozen? ⟨w.heap.size+1,j,none⟩=false):=by
    intro j hj;rw[(bcell hb3).1 _ _ (by omega),(bcell hb3).2 _ _ (by omega)];exact HS2.out j hj
   have f1:=HS3.out l.ast.toNat (by omega);obtain⟨f1,f2⟩:=f1;rw[show((l.ast.toNat:Nat):Int)=l.ast by omega] at f1;obtain⟨s,hs⟩:∃s,s=sumA l.ast (xs.take m):=⟨_,rfl⟩
   have sb:=fEy l.ast xs m (by have:=HN.out;omega) HO.out;rw[←hs] at f1 sb;have HSS:Hid (s=sumA l.ast (xs.take m)):=hs;clear hs;obtain⟨sb1,sb2⟩:=sb;have sb3 : -8000000000000≤s:=by omega
   have sb4:s≤8000000000000:=by omega
   clear sb1 sb2;go_wp2;go_region;go_wp2;have hmn:m<xs.length:=by have:=HN.out;omega
   refine⟨⟨m+1,by omega,by go_num,fCz HO.out (by rw[←HL.out];exact HF.out) (by rw[←HL.out];exact HP.out),?_,?_,by simp;omega,?_⟩,by simp[intOf];omega⟩
   ·
    intro j hj;have old:=HS3.out j hj;show(wr.setCell _ _).cell? _=_∧(wr.setCell _ _).frozen? _=_;rw[World.frozen?_setCell];refine⟨?_,old.2⟩;rw[fI4 (j:Int) xs m hmn,←HL.out];by_cases hje:l.ast.toNat=j
    ·
     subst hje;rw[yB f1,HSS.out,show((l.ast.toNat:Nat):Int)=l.ast by omega,if_pos rfl]
    rw[mI (by simp),old.1,if_neg (by omega),Int.add_zero]
   ·
    show(wr.setCell _ _).cell? _=_;rw[mI (by simp)];rw[(bcell hb3).1 _ _ (by omega)];exact hcx2
   exact(bset (bS hbl2 hb3) (by simp) _).drew
  have hd:(gF l==0)=false:=by simpa using hlf
  go_wp2;go_ret;refine⟨?_,hbl2⟩;have:=HN.out;rw[fT3 hid (by omega) (by omega) (k:=k) (by omega) HO.out (by rw[←HL.out];exact hlf),←HL.out];rfl
 have hkn:k=n:=by omega
 subst hkn;have t0:xs.take k=xs:=by rw[←HN.out];exact List.take_length
 rw[t0] at HS;have HO':Hid (okTo xs xs.length):=by rw[HN.out];exact HO.out
 clear HO;go_wp2;go_loopw [9] (fun i w'=>∃m:Nat,m≤3∧i = .int .i64 m∧(∀j:Nat,j<m→sumA j xs=0)∧w'=wo) (fun i _=>3-(intOf i).toNat)
 case atStart=>exact⟨0,by omega,rfl,fun j h=>by omega,rfl⟩
 obtain⟨m,hm,rfl,hp,rfl⟩:=hrel;have HP:Hid (∀j:Nat,j<m→sumA j xs=0):=hp;clear hp;by_cases hm3:m<3
 ·
  obtain⟨f1,_⟩:=HS.out m hm3;obtain⟨s,hs⟩:∃s,s=sumA m xs:=⟨_,rfl⟩
  rw[←hs] at f1;have HSS:Hid (s=sumA m xs):=hs;clear hs;by_cases hs0:s=0
  ·
   subst hs0;go_wp2;refine⟨⟨m+1,by omega,by go_num,fun j hj=>?_,trivial⟩,by simp[intOf];omega⟩;by_cases hjm:j<m
   ·
    exact HP.out j hjm
   have:j=m:=by omega
   subst this;exact HSS.out.symm
  have hd:(s==0)=false:=by simpa using hs0
  go_wp2;go_ret;have:=HN.out;rw[fVd hid (by omega) (by omega) HO'.out]
  ·
   exact⟨rfl,hbl⟩
  intro ⟨z0,z1,z2⟩;apply hs0;rw[HSS.out];match m,hm3 with
  | 0,_=>exact z0
  | 1,_=>exact z1
  | 2,_=>exact z2
 have hm3':m=3:=by omega
 subst hm3';go_wp2;go_ret;have:=HN.out;rw[fUi hid (by omega) (by omega) HO'.out ⟨HP.out 0 (by omega),HP.out 1 (by omega),HP.out 2 (by omega)⟩];exact⟨rfl,hbl⟩
theorem zW (id:Int) (x:Value) (xs:List Leg) (w:World) (hx:mJ w x xs) :
  Calls Tryz.prog 118 #[.agg #[.int .i64 id,x]] w fun e w'=>e = .returned (.int .i64 (fB id xs))∧Below w.heap.size w w':=by
 by_cases h:inB id 1 1000000000=false∨xs.length<2∨8<xs.length
 ·
  exact fC8 id x xs w hx h
 have h1:inB id 1 1000000000=true:=by
  cases hb:inB id 1 1000000000 with
  | true=>rfl
  | false=>exact absurd (Or.inl hb) h
 exact fD5 id x xs w hx h1 (by omega) (by omega)
theorem fNp:Tryz.prog.eqGuardType Tryz.prog.depth 131=false:=by kernel_rfl
theorem fSi (o l:Leg) (w:World):(binOp .eql 131 (.agg #[.int .i64 o.sh,.int .i64 o.ac,.int .i64 o.ast,.int .i64 0]) (.agg #[.int .i64 l.sh,.int .i64 l.ac,.int .i64 l.ast,.int .i64 0])).run Tryz.prog w = .ok (.bool (rP o l)) w:=by
 rw[run_eql_struct,run_equalIn_struct w 9999 131 _ _ (by kernel_rfl) (by kernel_rfl)];have hf : (Tryz.prog.fieldsOf 131).toList = [{ name := "Shard", type := 2, offset := 0, embedded := false, tag := "", pkgPath := "", byteOffset := 0 }, { name := "Account", type := 2, offset := 1, embedded := false, tag := "", pkgPath := "", byteOffset := 8 }, { name := "Asset", type := 2, offset := 2, embedded := false, tag := "", pkgPath := "", byteOffset := 16 }, { name := "Amount", type := 2, offset := 3, embedded := false, tag := "", pkgPath := "", byteOffset := 24 }] := by kernel_rfl
 rw[hf];simp[Op.eqFields,go_sem,rP];by_cases e1:o.sh=l.sh <;> by_cases e2:o.ac=l.ac <;> by_cases e3:o.ast=l.ast <;> simp[e1,e2,e3]
theorem yG (x:Value) (xs:List Leg) (l:Leg) (w:World) (hx:mJ w x xs) :
  Calls Tryz.prog 241 #[x,legV l] w fun e w'=>e = .returned (.bool (fM xs l))∧Below w.heap.size w w':=by
 obtain⟨ax,cx,rfl,hcx,hmx,hx⟩:=hx;unfold maxLen at hmx;generalize hn':xs.length=n at *;have HN:Hid (xs.length=n):=hn';clear hn';unfold legV;go_enter Tryz.func241,Tryz.ntmps241;go_wp2;go_loopw [9] (fun i w'=>∃k:Nat,k≤n∧i = .int .i64 k∧fM (xs.take k) l=false∧kQ w' w.heap.size 0 l∧w.heap.size<w'.heap.size∧Below w.heap.size w w') (fun i _=>n-(intOf i).toNat)
 case atStart=>exact⟨0,Nat.zero_le _,rfl,by simp[fM],⟨by simp[go_sem],by simp[go_sem],by simp[go_sem],by simp[go_sem]⟩,by simp,bA (Below.refl _ _) _⟩
 obtain⟨k,hk,rfl,hp,hl,hz,hbl⟩:=hrel;have HP:Hid (fM (xs.take k) l=false):=hp;clear hp;by_cases hlt:k<n
 ·
  obtain⟨bx,ox,rfl,g1⟩:=hx k hlt;obtain⟨o,ho⟩:∃o,o=xs.getD k default:=⟨_,rfl⟩
  rw[←ho] at g1;have HO:Hid (o=xs.getD k default):=ho;clear ho hx;obtain⟨a1,a2,a3,a4⟩:=fF hbl g1;have h1:kQ (wr.alloc (.cells #[.int .i64 o.sh,.int .i64 o.ac,.int .i64 o.ast,.int .i64 o.am] 131)) wr.heap.size 0 o:=⟨by simp[go_sem],by simp[go_sem],by simp[go_sem],by simp[go_sem]⟩;have h2:=fF (bA (Below.refl _ wr) (.cells #[.int .i64 o.sh,.int .i64 o.ac,.int .i64 o.ast,.int .i64 o.am] 131)) hl;go_wp2;generalize hW:wr.alloc (.cells #[.int .i64 o.sh,.int .i64 o.ac,.int .i64 o.ast,.int .i64 o.am] 131)=W at *;have HW:Hid (wr.alloc (.cells #[.int .i64 o.sh,.int .i64 o.ac,.int .i64 o.ast,.int .i64 o.am] 131)=W):=hW;clear hW;have heq:=fSi o l;have hgd:=fNp;go_region_held3 (fun w'=>Below W.heap.size W w'∧(w'.cell? ⟨wr.heap.size,0,none⟩=some (.int .i64 o.sh)∧w'.cell? ⟨wr.heap.size,1,none⟩=some (.int .i64 o.ac)∧w'.cell? ⟨wr.heap.size,2,none⟩=some (.int .i64 o.ast)∧w'.cell? ⟨wr.heap.size,3,none⟩=some (.int .i64 o.am))∧(w'.cell? ⟨w.heap.size,0,none⟩=some (.int .i64 l.sh)∧w'.cell? ⟨w.heap.size,1,none⟩=some (.int .i64 l.ac)∧w'.cell? ⟨w.heap.size,2,none⟩=some (.int .i64 l.ast)∧w'.cell? ⟨w.heap.size,3,none⟩=some (.int .i64 l.am))) ((refine keep2 ?_ h1 h2;repeat (first|exact bR _ _|assumption|refine bD ?_|refine bA ?_ _|refine bS ?_ (by assumption)))) (first|(go_at_call_of 289 (o.sh);refine(fC1 o _).mono ?_;rintro e w' ⟨rfl,hb1⟩;simp only[legV])|(go_at_call_of 289 (l.sh);refine(fC1 l _).mono ?_;rintro e w' ⟨rfl,hb2⟩;simp only[legV]));all_goals
   rename_i hH;have hB:=hH.1;clear hH heq hgd;have hBw:Below w.heap.size w w':=by
    have e:=HW.out;subst e;exact bS (bA hbl _) hB
   go_wp2
   ·
    rename_i hs;go_ret;refine⟨?_,hBw⟩;have:fM xs l=true:=by
     have h:=zL (xs:=xs) (k:=k+1) (m:=xs.length) (l:=l) (by have:=HN.out;omega) (by rw[tH xs k (by have:=HN.out;omega),←HO.out,hs];simp);rwa [List.take_length] at h
    rw[this];rfl
   rename_i hs;refine⟨⟨k+1,by omega,by go_num,?_,fF hB h2,by have:=wL _ _ (fF hB h2).1;simpa using this,hBw⟩,by simp[intOf];omega⟩;rw[tH xs k (by have:=HN.out;omega),←HO.out,HP.out];simpa using hs
 go_wp2;go_ret;have hkn:k=n:=by omega
 subst hkn;have t0:xs.take k=xs:=by rw[←HN.out];exact List.take_length
 have:=HP.out;rw[t0] at this;exact⟨by rw[this];rfl,hbl⟩
def mM (a:Int):List Leg→Int
 | []=>0
 | l::r=>(if l.ast=a∧0<l.am then l.am else 0)+mM a r
def mR (a:Int):List Leg→Int
 | []=>0
 | l::r=>(if l.ast=a∧¬0<l.am then l.am else 0)+mR a r
theorem fKe (a:Int) (xs:List Leg):mM a xs+mR a xs=sumA a xs:=by
 induction xs with
 | nil=>simp[mM,mR,sumA]
 | cons l r ih=>
  simp only[mM,mR,sumA];by_cases h1:l.ast=a <;> by_cases h2:0<l.am <;> simp[h1,h2] <;> omega
theorem fFg (a:Int) (l r:List Leg):mM a (l++r)=mM a l+mM a r:=by
 induction l with
 | nil=>simp[mM]
 | cons x l ih=>simp only[List.cons_append,mM,ih];omega
theorem fGg (a:Int) (l r:List Leg):mR a (l++r)=mR a l+mR a r:=by
 induction l with
 | nil=>simp[mR]
 | cons x l ih=>simp only[List.cons_append,mR,ih];omega
theorem fCh (a:Int) (xs:List Leg) (k:Nat) (h:k<xs.length):mM a (xs.take (k+1))=mM a (xs.take k)+if (xs.getD k default).ast=a∧0<(xs.getD k default).am then (xs.getD k default).am else 0:=by
 rw[qC xs k h,fFg];simp[mM]
theorem fDc (a:Int) (xs:List Leg) (k:Nat) (h:k<xs.length):mR a (xs.take (k+1))=mR a (xs.take k)+if (xs.getD k default).ast=a∧¬0<(xs.getD k default).am then (xs.getD k default).am else 0:=by
 rw[qC xs k h,fGg];simp[mR]
def small (xs:List Leg):Prop:=∀j,j<xs.length → -1000000000000≤(xs.getD j default).am∧(xs.getD j default).am≤1000000000000
theorem fLa {xs:List Leg} (h:okTo xs xs.length):small xs:=fun j hj=>(gP (h j hj).1).2.2.2.1
theorem vU (a:Int) (xs:List Leg) (hs:small xs):∀k,k≤xs.length→0≤mM a (xs.take k)∧mM a (xs.take k)≤k*1000000000000
 | 0,_=>by simp[mM]
 | k+1,hk=>by
  have ih:=vU a xs hs k (by omega);have hb:=hs k (by omega);rw[fCh a xs k (by omega)];split <;> omega
theorem xH (a:Int) (xs:List Leg) (hs:small xs):∀k,k≤xs.length → -(k*1000000000000:Int)≤mR a (xs.take k)∧mR a (xs.take k)≤0
 | 0,_=>by simp[mR]
 | k+1,hk=>by
  have ih:=xH a xs hs k (by omega);have hb:=hs k (by omega);rw[fDc a xs k (by omega)];split <;> omega
theorem fO2 (x:Value) (xs:List Leg) (asset:Int) (w:World) (hx:mJ w x xs) (hn8:xs.length≤8) (hs:small xs) :
  Calls Tryz.prog 290 #[x,.int .i64 asset] w fun e w'=>e = .returned (.agg #[.int .i64 (mM asset xs),.int .i64 (mR asset xs)])∧Below w.heap.size w w':=by
 obtain⟨ax,cx,rfl,hcx,hmx,hx⟩:=hx;unfold maxLen at hmx;have HS:Hid (small xs):=hs;clear hs;generalize hn':xs.length=n at *;have HN:Hid (xs.length=n):=hn';clear hn';go_enter Tryz.func290,Tryz.ntmps290;go_wp2;go_loopw [10] (fun i w'=>∃k:Nat,k≤n∧i = .int .i64 k∧w'.cell? ⟨w.heap.size+1,0,none⟩=some (.int .i64 (mM asset (xs.take k)))∧w'.cell? ⟨w.heap.size+1,1,none⟩=some (.int .i64 (mR asset (xs.take k))) ∧
   (∀o,w'.frozen? ⟨w.heap.size+1,o,none⟩=false)∧(∀o,w'.frozen? ⟨w.heap.size,o,none⟩=false)∧w'.cell? ⟨w.heap.size,0,none⟩=some (.int .i64 0)∧w'.cell? ⟨w.heap.size,1,none⟩=some (.int .i64 0)∧w.heap.size+1<w'.heap.size∧Below w.heap.size w w') (fun i _=>n-(intOf i).toNat)
 case atStart=>exact⟨0,Nat.zero_le _,rfl,by simp[go_sem,mM],by simp[go_sem,mR],by simp[go_sem],by simp[go_sem],by simp[go_sem],by simp[go_sem],by simp,bA (bA (Below.refl _ _) _) _⟩
 obtain⟨k,hk,rfl,hg,ht,hf1,hf0,hr0,hr1,hz,hbl⟩:=hrel;by_cases hlt:k<n
 ·
  obtain⟨bx,ox,rfl,g1⟩:=hx k hlt;obtain⟨l,hl⟩:∃l,l=xs.getD k default:=⟨_,rfl⟩
  rw[←hl] at g1;have HL:Hid (l=xs.getD k default):=hl;clear hl hx;obtain⟨a1,a2,a3,a4⟩:=fF hbl g1;have gb:=vU asset xs HS.out k (by have:=HN.out;omega);have tb:=xH asset xs HS.out k (by have:=HN.out;omega);have sb:=HS.out k (by have:=HN.out;omega);rw[←HL.out] at sb;obtain⟨g,hge⟩:∃g,g=mM asset (xs.take k):=⟨_,rfl⟩
  obtain⟨t,hte⟩:∃t,t=mR asset (xs.take k):=⟨_,rfl⟩
  rw[←hge] at hg gb;rw[←hte] at ht tb;have HG:Hid (g=mM asset (xs.take k)):=hge;have HT:Hid (t=mR asset (xs.take k)):=hte;clear hge hte;obtain⟨sb1,sb2⟩:=sb;have gb1:0≤g:=gb.1;have gb2:g≤8000000000000:=by omega
  have tb1 : -8000000000000≤t:=by omega
  have tb2:t≤0:=tb.2;clear gb tb;have hkx:k<xs.length:=by have:=HN.out;omega
  have eg:mM asset (xs.take (k+1))=g+if l.ast=asset∧0<l.am then l.am else 0:=by rw[fCh asset xs k hkx,←HL.out,HG.out]
  have et:mR asset (xs.take (k+1))=t+if l.ast=asset∧¬0<l.am then l.am else 0:=by rw[fDc asset xs k hkx,←HL.out,HT.out]
  have HEG:Hid (mM asset (xs.take (k+1))=g+if l.ast=asset∧0<l.am then l.am else 0):=eg;have HET:Hid (mR asset (xs.take (k+1))=t+if l.ast=asset∧¬0<l.am then l.am else 0):=et;clear eg et;have hz0:w.heap.size<wr.heap.size:=by omega
  go_wp2
  ·
   rename_i h1;have h1':¬l.ast=asset:=by simpa using h1
   have e1:=HEG.out;have e2:=HET.out;rw[if_neg (fun h=>h1' h.1),Int.add_zero] at e1 e2;refine⟨⟨k+1,by omega,by go_num,?_,?_,?_,?_,?_,?_,?_,bA hbl _⟩,by simp[intOf];omega⟩
   ·
    rw[e1];simp[go_sem,hz,hg]
   ·
    rw[e2];simp[go_sem,hz,ht]
   ·
    simp[go_sem,hz,hf1]
   ·
    simp[go_sem,hz0,hf0]
   ·
    simp[go_sem,hz0,hr0]
   ·
    simp[go_sem,hz0,hr1]
   simp;omega
  ·
   rename_i h1 h2;have h1':l.ast=asset:=by simpa using h1
   have e1:=HEG.out;have e2:=HET.out;rw[if_pos ⟨h1',h2⟩] at e1;rw[if_neg (fun h=>h.2 h2),Int.add_zero] at e2;refine⟨⟨k+1,by omega,by go_num,?_,?_,?_,?_,?_,?_,?_,bA (bset hbl (by simp) _) _⟩,by simp[intOf];omega⟩
   ·
    rw[e1,World.cell?_alloc_past _ _ _ (by simp;omega)];exact yB hg
   ·
    rw[e2,World.cell?_alloc_past _ _ _ (by simp;omega),mI (by simp)];exact ht
   ·
    simp[go_sem,hz,hf1]
   ·
    simp[go_sem,hz0,hf0]
   ·
    rw[World.cell?_alloc_past _ _ _ (by simp;omega),mI (by simp)];exact hr0
   ·
    rw[World.cell?_alloc_past _ _ _ (by simp;omega),mI (by simp)];exact hr1
   simp;omega
  rename_i h1 h2;have h1':l.ast=asset:=by simpa using h1
  have e1:=HEG.out;have e2:=HET.out;rw[if_neg (fun h=>by omega),Int.add_zero] at e1;rw[if_pos ⟨h1',by omega⟩] at e2;refine⟨⟨k+1,by omega,by go_num,?_,?_,?_,?_,?_,?_,?_,bA (bset hbl (by simp) _) _⟩,by simp[intOf];omega⟩
  ·
   rw[e1,World.cell?_alloc_past _ _ _ (by simp;omega),mI (by simp)];exact hg
  ·
   rw[e2,World.cell?_alloc_past _ _ _ (by simp;omega)];exact yB ht
  ·
   simp[go_sem,hz,hf1]
  ·
   simp[go_sem,hz0,hf0]
  ·
   rw[World.cell?_alloc_past _ _ _ (by simp;omega),mI (by simp)];exact hr0
  ·
   rw[World.cell?_alloc_past _ _ _ (by simp;omega),mI (by simp)];exact hr1
  simp;omega
 have hkn:k=n:=by omega
 subst hkn;have t0:xs.take k=xs:=by rw[←HN.out];exact List.take_length
 rw[t0] at hg ht;go_wp2;refine bodyPost_ret (v:=.agg #[.int .i64 (mM asset xs),.int .i64 (mR asset xs)]) ?_ rfl ⟨rfl,bset (bset hbl (by simp) _) (by simp) _⟩;simp[results,Tryz.results290,go_sem,hr0,hr1]
def fRh (xs:List Leg):Int:=if sumA 0 xs=0∧sumA 1 xs=0∧sumA 2 xs=0 then 0 else 1
theorem fGd (x:Value) (xs:List Leg) (w:World) (hx:mJ w x xs) (hn8:xs.length≤8) (hs:small xs) :
  Calls Tryz.prog 242 #[x] w fun e w'=>e = .returned (.int .i64 (fRh xs))∧Below w.heap.size w w':=by
 have HS:Hid (small xs):=hs;clear hs;go_enter Tryz.func242,Tryz.ntmps242;go_wp2;go_loopw [3] (fun i w'=>∃m:Nat,m≤3∧i = .int .i64 m∧(∀j:Nat,j<m→sumA j xs=0)∧Below w.heap.size w w') (fun i _=>3-(intOf i).toNat)
 case atStart=>exact⟨0,by omega,rfl,fun j h=>by omega,Below.refl _ _⟩
 obtain⟨m,hm,rfl,hp,hbl⟩:=hrel;have HP:Hid (∀j:Nat,j<m→sumA j xs=0):=hp;clear hp;by_cases hm3:m<3
 ·
  have hm3':(m:Int)<3:=by omega
  have gb:=vU m xs HS.out xs.length (Nat.le_refl _);have tb:=xH m xs HS.out xs.length (Nat.le_refl _);have gt:=fKe m xs;rw[List.take_length] at gb tb;go_wp2_with fail;refine(fO2 x xs m _ (kU hx hbl) hn8 HS.out).mono ?_;rintro e w1 ⟨rfl,hb1⟩;obtain⟨g,hge⟩:∃g,g=mM m xs:=⟨_,rfl⟩
  obtain⟨t,hte⟩:∃t,t=mR m xs:=⟨_,rfl⟩
  obtain⟨s,hse⟩:∃s,s=sumA m xs:=⟨_,rfl⟩
  rw[←hge,←hte,←hse] at gt;rw[←hge] at gb;rw[←hte] at tb;rw[←hge,←hte];have HSS:Hid (s=sumA m xs):=hse;have HGT:Hid (g+t=s):=gt;clear hge hte hse gt;have gb1:0≤g:=gb.1;have gb2:g≤8000000000000:=by omega
  have tb1 : -8000000000000≤t:=by omega
  have tb2:t≤0:=tb.2;clear gb tb;by_cases hs0:g+t=0
  ·
   have hd:(g+t==0)=true:=by simpa using hs0
   have HD:Hid (g+t=0):=hs0;clear hs0;go_wp2;refine⟨⟨m+1,by omega,by go_num,fun j hj=>?_,bA (bS hbl hb1) _⟩,by simp[intOf];omega⟩;by_cases hjm:j<m
   ·
    exact HP.out j hjm
   have:j=m:=by omega
   subst this;rw[←HSS.out,←HGT.out,HD.out]
  have hd:(g+t==0)=false:=by simpa using hs0
  have HD:Hid (¬g+t=0):=hs0;clear hs0;go_wp2;go_ret;refine⟨?_,bA (bS hbl hb1) _⟩;rw[fRh,if_neg]
  ·
   rfl
  intro ⟨z0,z1,z2⟩;apply HD.out;rw[HGT.out,HSS.out];match m,hm3 with
  | 0,_=>exact z0
  | 1,_=>exact z1
  | 2,_=>exact z2
 have hm3':m=3:=by omega
 subst hm3';go_wp2;go_ret;rw[fRh,if_pos ⟨HP.out 0 (by omega),HP.out 1 (by omega),HP.out 2 (by omega)⟩];exact⟨rfl,hbl⟩
theorem fCn (id:Int) (x:Value) (xs:List Leg) (w:World) (hx:mJ w x xs) (h:inB id 1 1000000000=false∨xs.length<2∨8<xs.length) :
  Calls Tryz.prog 163 #[.agg #[.int .i64 id,x]] w fun e w'=>e = .returned (.int .i64 (fB id xs))∧Below w.heap.size w w':=by
 obtain⟨ax,cx,rfl,hcx,hmx,hx⟩:=hx;unfold maxLen at hmx;clear hx;by_cases hid:inB id 1 1000000000=false
 ·
  go_enter Tryz.func163,Tryz.ntmps163;go_wp2_with (go_at_call 237;refine(kR _ _).mono ?_;rintro e w' ⟨rfl,rfl⟩);go_ret;exact⟨by simp[fB,hid],bA (Below.refl _ _) _⟩
 have hid':inB id 1 1000000000=true:=by simpa using hid
 have hn:xs.length<2∨8<xs.length:=by
  rcases h with h|h
  ·
   exact absurd h hid
  exact h
 have hcf:fB id xs=2:=by simp[fB,hid',hn]
 rw[hcf];generalize xs.length=n at *;clear hid h hcf;rcases hn with hn|hn
 ·
  have h1:(n:Int)<2:=by omega
  go_enter Tryz.func163,Tryz.ntmps163;go_wp2_with (go_at_call 237;refine(kR _ _).mono ?_;rintro e w' ⟨rfl,rfl⟩);go_ret;exact⟨rfl,bA (Below.refl _ _) _⟩
 have h1:¬(n:Int)<2:=by omega
 have h2:(8:Int)<(n:Int):=by omega
 go_enter Tryz.func163,Tryz.ntmps163;go_wp2_with (go_at_call 237;refine(kR _ _).mono ?_;rintro e w' ⟨rfl,rfl⟩);go_ret;exact⟨rfl,bA (Below.refl _ _) _⟩
theorem fN2 (xs:List Leg) (k i:Nat) (h:i<k):(xs.take k).getD i default=xs.getD i default:=by
 simp[List.getD,h]
theorem fM8 {w:World} {a:Option Addr} {cap n k:Nat} {xs:List Leg} (hn:xs.length=n) (hk:k≤n) (h1:n≤cap) (h2:cap≤maxLen) (h:∀i,i<n→∃b o,a=some ⟨b,o,none⟩∧kQ w b (o+i*4) (xs.getD i default)) :
  mJ w (.slice a k cap) (xs.take k):=by
 have hl:(xs.take k).length=k:=by rw[List.length_take];omega
 refine⟨a,cap,by rw[hl],by omega,h2,fun i hi=>?_⟩;rw[hl] at hi;obtain⟨b,o,ha,hc⟩:=h i (by omega);exact⟨b,o,ha,by rw[fN2 xs k i hi];exact hc⟩
theorem fDv (id:Int) (x:Value) (xs:List Leg) (w:World) (hx:mJ w x xs) (hid:inB id 1 1000000000=true) (hn2:2≤xs.length) (hn8:xs.length≤8) :
  Calls Tryz.prog 163 #[.agg #[.int .i64 id,x]] w fun e w'=>e = .returned (.int .i64 (fB id xs))∧Below w.heap.size w w':=by
 have hx0:=hx;obtain⟨ax,cx,rfl,hcx,hmx,hx⟩:=hx;have HX0:Hid (mJ w (.slice ax xs.length cx) xs):=hx0;clear hx0;have HMX:Hid (cx≤maxLen):=hmx;unfold maxLen at hmx;generalize hn':xs.length=n at *;have HN:Hid (xs.length=n):=hn';clear hn';have h1:¬(n:Int)<2:=by omega
 have h2:¬(8:Int)<(n:Int):=by omega
 go_enter Tryz.func163,Tryz.ntmps163;go_wp2_with (go_at_call 237;refine(kR _ _).mono ?_;rintro e w' ⟨rfl,rfl⟩);go_loopw [23] (fun i w'=>∃k:Nat,k≤n∧i = .int .i64 k∧okTo xs k∧w'.cell? ⟨w.heap.size,1,none⟩=some (.slice ax n cx)∧w.heap.size<w'.heap.size∧Below w.heap.size w w') (fun i _=>n-(intOf i).toNat)
 case atStart=>exact⟨0,Nat.zero_le _,rfl,fun j h=>by omega,by simp[go_sem],by simp,bA (Below.refl _ _) _⟩
 obtain⟨k,hk,rfl,hok,hcx1,hsz,hbl⟩:=hrel;generalize wr=wo at *;have HO:Hid (okTo xs k):=hok;clear hok;by_cases hlt:k<n
 ·
  obtain⟨bx,ox,rfl,g1⟩:=hx k hlt;have HX:Hid (∀i,i<n→∃b o,some (⟨bx,ox,none⟩:Addr)=some ⟨b,o,none⟩∧kQ w b (o+i*4) (xs.getD i default)):=hx;clear hx;obtain⟨l,hl⟩:∃l,l=xs.getD k default:=⟨_,rfl⟩
  rw[←hl] at g1;have HL:Hid (l=xs.getD k default):=hl;clear hl;obtain⟨a1,a2,a3,a4⟩:=fF hbl g1;go_wp2_with fail;refine(fBk l _).mono ?_;rintro e w2 ⟨rfl,hb2⟩;obtain⟨hc2,hf2⟩:=bcell hb2;have hbl2:Below w.heap.size w w2:=bS (bA hbl _) hb2;have hz2:wo.heap.size<w2.heap.size:=by have:=hb2.size;simp at this;omega
  have hcx2:w2.cell? ⟨w.heap.size,1,none⟩=some (.slice (some ⟨bx,ox,none⟩) n cx):=by
   rw[hc2 _ _ (by simp;omega)];simp[go_sem,hcx1,show w.heap.size<wo.heap.size by omega]
  have hl2:kQ w2 wo.heap.size 0 l:=by
   refine⟨?_,?_,?_,?_⟩ <;> (rw[hc2 _ _ (by simp)];simp[go_sem])
  clear hc2 hf2 hb2 a1 a2 a3 a4 hcx1 hbl;by_cases hlf:gF l=0
  ·
   have HF:Hid (gF l=0):=hlf;rw[hlf];clear hlf;have hkb:(k:Int)≤(cx:Int):=by omega
   have hk0:(0:Int)≤(k:Int):=by omega
   go_wp2;go_region_held3 (fun w'=>Below w2.heap.size w2 w'∧w'.cell? ⟨w.heap.size,1,none⟩=some (.slice (some ⟨bx,ox,none⟩) n cx)∧w'.cell? ⟨wo.heap.size,0,none⟩=some (.int .i64 l.sh)∧w'.cell? ⟨wo.heap.size,1,none⟩=some (.int .i64 l.ac)∧w'.cell? ⟨wo.heap.size,2,none⟩=some (.int .i64 l.ast)∧w'.cell? ⟨wo.heap.size,3,none⟩=some (.int .i64 l.am))
    ((refine(fun hb=>⟨hb,(hb.cell (p:=⟨w.heap.size,1,none⟩) (by exact Nat.lt_trans hsz hz2)).trans hcx2,fF hb hl2⟩:Below w2.heap.size w2 _→_) ?_;repeat (first|exact bR _ _|assumption|refine bD ?_|refine bS ?_ (by assumption))))
    (first|(go_at_call 241;refine(yG _ (xs.take k) l _ ?_).mono ?_;exact fM8 HN.out hk hcx HMX.out (fun i hi=>(HX.out i hi).imp fun b h=>h.imp fun o h=>⟨h.1,fF (bS hbl2 (Below.refl _ _).drew) h.2⟩);rintro e w' ⟨rfl,hb3⟩))
   rename_i hH;have hB:=hH.1;have hc1':=hH.2.1;clear hH;have hBw:Below w.heap.size w w':=bS hbl2 hB;go_wp2
   ·
    rename_i hs;go_ret;refine⟨?_,hBw⟩;have:=HN.out;rw[fLy hid (by omega) (by omega) (k:=k) (by omega) HO.out (by rw[←HL.out];exact HF.out) (by rw[←HL.out];exact hs)];rfl
   rename_i hs;refine⟨⟨k+1,by omega,by go_num,fCz HO.out (by rw[←HL.out];exact HF.out) (by rw[←HL.out];simpa using hs),hc1',by have:=hB.size;omega,hBw⟩,by simp[intOf];omega⟩
  have hd:(gF l==0)=false:=by simpa using hlf
  go_wp2;go_ret;refine⟨?_,hbl2⟩;have:=HN.out;rw[fT3 hid (by omega) (by omega) (k:=k) (by omega) HO.out (by rw[←HL.out];exact hlf),←HL.out];rfl
 have hkn:k=n:=by omega
 subst hkn;have HO':Hid (okTo xs xs.length):=by rw[HN.out];exact HO.out
 go_wp2_with fail;refine(fGd _ xs _ (kU HX0.out hbl) (by have:=HN.out;omega) (fLa HO'.out)).mono ?_;rintro e w1 ⟨rfl,hb1⟩;go_wp2;go_ret;refine⟨?_,bS hbl hb1⟩;have:=HN.out;have e:fB id xs=fRh xs:=by
  rw[fG7 hid (by omega) (by omega),fK7 HO'.out,if_pos rfl,fRh]
 rw[e];rfl
theorem zO (id:Int) (x:Value) (xs:List Leg) (w:World) (hx:mJ w x xs) :
  Calls Tryz.prog 163 #[.agg #[.int .i64 id,x]] w fun e w'=>e = .returned (.int .i64 (fB id xs))∧Below w.heap.size w w':=by
 by_cases h:inB id 1 1000000000=false∨xs.length<2∨8<xs.length
 ·
  exact fCn id x xs w hx h
 have h1:inB id 1 1000000000=true:=by
  cases hb:inB id 1 1000000000 with
  | true=>rfl
  | false=>exact absurd (Or.inl hb) h
 exact fDv id x xs w hx h1 (by omega) (by omega)
theorem fEv {xs:List Leg} (h:scan [] xs=0):∀k,k≤xs.length→okTo xs k
 | 0,_=>fun j hj=>by omega
 | k+1,hk=>by
  have ih:=fEv h k (by omega);by_cases h0:gF (xs.getD k default)=0
  ·
   cases h1:fM (xs.take k) (xs.getD k default) with
   | false=>exact fCz ih h0 h1
   | true=>have:=fEw (by omega) ih h0 h1;omega
  have:=fMr (by omega) ih h0;omega
theorem fB6 {id:Int} {xs:List Leg} (h:fB id xs=0):inB id 1 1000000000=true∧2≤xs.length∧xs.length≤8∧okTo xs xs.length∧sumA 0 xs=0∧sumA 1 xs=0∧sumA 2 xs=0:=by
 unfold fB at h;split at h
 ·
  rename_i h1;split at h
  ·
   omega
  split at h
  ·
   rename_i h3;split at h
   ·
    rename_i h4;exact⟨h1,by omega,by omega,fEv h3 _ (Nat.le_refl _),h4⟩
   omega
  omega
 omega
def onSh (s:Int) (xs:List Leg):List Leg:=xs.filter (fun l=>l.sh==s)
theorem fMk (s:Int) (xs:List Leg) (k:Nat) (h:k<xs.length) (hs:(xs.getD k default).sh=s):onSh s (xs.take (k+1))=onSh s (xs.take k)++[xs.getD k default]:=by
 rw[qC xs k h];simp only[onSh,List.filter_append];simp only[List.filter_cons,List.filter_nil,hs,beq_self_eq_true,if_true]
theorem fIm (s:Int) (xs:List Leg) (k:Nat) (h:k<xs.length) (hs:¬(xs.getD k default).sh=s):onSh s (xs.take (k+1))=onSh s (xs.take k):=by
 rw[qC xs k h];simp only[onSh,List.filter_append,List.filter_cons,List.filter_nil,beq_eq_false_iff_ne.2 hs];simp
theorem fQv (s:Int) (xs:List Leg) (k:Nat):(onSh s (xs.take k)).length≤k:=by
 have:=List.length_filter_le (fun l:Leg=>l.sh==s) (xs.take k);have h2:=List.length_take_le k xs;simp only[onSh];omega
theorem fEu (xs:List Leg) (l:Leg):mV (xs++[l])=mV xs++legC l:=by simp[mV]
theorem fMh (l:Leg):∀u ∈ legC l,u.oneCell'=true:=by
 intro u hu;simp only[legC,List.mem_cons,List.not_mem_nil,or_false] at hu;rcases hu with rfl|rfl|rfl|rfl <;> rfl
theorem fEt {w:World} {b o:Nat} {l:Leg} (h:kQ w b o l):∀j u,(legC l)[j]? = some u→w.cell? ((⟨b,o,none⟩:Addr).add j)=some u:=by
 obtain⟨h0,h1,h2,h3⟩:=h;intro j u hj;match j,hj with
 | 0,hj=>simp[legC] at hj;subst hj;simpa [Addr.add] using h0
 | 1,hj=>simp[legC] at hj;subst hj;simpa [Addr.add] using h1
 | 2,hj=>simp[legC] at hj;subst hj;simpa [Addr.add] using h2
 | 3,hj=>simp[legC] at hj;subst hj;simpa [Addr.add] using h3
 | j+4,hj=>simp[legC] at hj
theorem qY {w w':World} {B:Nat} {base e size:Nat} {v:Value} {n:Nat} {xs:List Value} (h:w.ownsRow base e size v n xs) {W:World} (hb:Below B W w) (hB:B≤w.heap.size) (hbase:B≤base) (hg:w.grownBy w' v.ownBlock):Below B W w':=
 hb.grown hg hB (fun k hk=>Nat.le_trans hbase (h.lt k hk).1)
theorem xX (x:Value) (xs:List Leg) (s:Int) (w:World) (hx:mJ w x xs) (hn:xs.length≤1048576) :
  Calls Tryz.prog 52 #[x,.int .i64 s] w fun e w'=>∃v,e = .returned v∧w'.ownsRow w.heap.size 131 4 v (onSh s xs).length (mV (onSh s xs))∧Below w.heap.size w w':=by
 obtain⟨ax,cx,rfl,hcx,hmx,hx⟩:=hx;unfold maxLen at hmx;obtain⟨i0,hi,hz0,hz1,hz2⟩:=info_parts fKo;generalize hn':xs.length=n at *;have HN:Hid (xs.length=n):=hn';clear hn';go_enter Tryz.func52,Tryz.ntmps52;go_wp2;go_loopw [5,10] (fun v i w'=>∃k:Nat,k≤n∧i = .int .i64 k∧w'.ownsRow w.heap.size 131 4 v (onSh s (xs.take k)).length (mV (onSh s (xs.take k)))∧Below w.heap.size w w') (fun _ i _=>n-(intOf i).toNat)
 case atStart=>exact⟨0,Nat.zero_le _,rfl,by simpa [onSh,mV] using World.ownsRow_nil _ _ _ _,Below.refl _ _⟩
 obtain⟨k,hk,rfl,ho,hbl⟩:=hrel;by_cases hlt:k<n
 ·
  obtain⟨bx,ox,rfl,g1⟩:=hx k hlt;obtain⟨l,hl⟩:∃l,l=xs.getD k default:=⟨_,rfl⟩
  rw[←hl] at g1;have HL:Hid (l=xs.getD k default):=hl;clear hl hx;obtain⟨a1,a2,a3,a4⟩:=fF hbl g1;have hkx:k<xs.length:=by have:=HN.out;omega
  have hle:=fQv s xs k;have hsz:=hbl.size;by_cases hs:l.sh=s
  ·
   have e1:=fMk s xs k hkx (by rw[←HL.out];exact hs);rw[←HL.out] at e1;have HE:Hid (onSh s (xs.take (k+1))=onSh s (xs.take k)++[l]):=e1;have HS:Hid (l.sh=s):=hs;have hd:(l.sh==s)=true:=by simpa using hs
   generalize onSh s (xs.take k)=ys at *;clear e1 hs;go_wp2_with (at_builtin;refine wpList_append_own _ rfl _ _ 58 rfl w.heap.size 131 i0 _ 4 32 Tryz.underlying58 hi hz0 hz1 hz2 rfl (by decide) _ _ _ rfl ((ho.alloc _).alloc _) ⟨wr.heap.size+1,0,none⟩ 1 1 (legC l) rfl rfl ?c1 (fMh l) ?c3 ?c4 ?c5 ?_)
   case c1=>exact fEt (b:=wr.heap.size+1) (o:=0) ⟨by simp[go_sem],by simp[go_sem],by simp[go_sem],by simp[go_sem]⟩
   case c3=>unfold maxLen;omega
   case c4=>omega
   case c5=>simp;omega
   intro v' w1 hown' hgrow _;have hB1:Below w.heap.size w w1:=qY ((ho.alloc _).alloc _) (bA (bA hbl _) _) (by simp;omega) (Nat.le_refl _) hgrow;clear hgrow ho a1 a2 a3 a4;go_wp2;refine⟨⟨k+1,by omega,by go_num,?_,hB1⟩,by simp[intOf];omega⟩;rw[HE.out,fEu,List.length_append];exact hown'
  have e1:=fIm s xs k hkx (by rw[←HL.out];exact hs);have HE:Hid (onSh s (xs.take (k+1))=onSh s (xs.take k)):=e1;have hd:(l.sh==s)=false:=by simpa using hs
  clear e1 hs;go_wp2;refine⟨⟨k+1,by omega,by go_num,?_,bA hbl _⟩,by simp[intOf];omega⟩;rw[HE.out];exact ho.alloc _
 go_wp2;go_ret;have hkn:k=n:=by omega
 subst hkn;have t0:xs.take k=xs:=by rw[←HN.out];exact List.take_length
 rw[t0] at ho;exact⟨_,rfl,ho,hbl⟩
theorem fEs (id:Int) (x:Value) (xs:List Leg) (s:Int) (w:World) (hx:mJ w x xs) (hn:xs.length≤1048576) :
  Calls Tryz.prog 44 #[.agg #[.int .i64 id,x],.int .i64 s] w fun e w'=>∃v,e = .returned v∧w'.ownsRow w.heap.size 131 4 v (onSh s xs).length (mV (onSh s xs))∧Below w.heap.size w w':=by
 obtain⟨ax,cx,rfl,hcx,hmx,hx⟩:=hx;unfold maxLen at hmx;obtain⟨i0,hi,hz0,hz1,hz2⟩:=info_parts fKo;generalize hn':xs.length=n at *;have HN:Hid (xs.length=n):=hn';clear hn';go_enter Tryz.func44,Tryz.ntmps44;go_wp2;go_loopw [5,6] (fun v i w'=>∃k:Nat,k≤n∧i = .int .i64 k∧w'.ownsRow (w.heap.size+1) 131 4 v (onSh s (xs.take k)).length (mV (onSh s (xs.take k)))∧w'.cell? ⟨w.heap.size,1,none⟩=some (.slice ax n cx)∧w.heap.size+1≤w'.heap.size∧Below w.heap.size w w') (fun _ i _=>n-(intOf i).toNat)
 case atStart=>
  refine⟨0,Nat.zero_le _,rfl,?_,by simp[go_sem],by simp,bA (bA (Below.refl _ _) _) _⟩;have:=World.ownsRow_lit (base:=w.heap.size+1) (e:=131) (size:=4) (w.alloc (.cells #[.int .i64 id,.slice ax n cx] 60)) #[] 0 (by simp) (by unfold maxLen;omega) rfl;simpa [onSh,mV] using this
 obtain⟨k,hk,rfl,ho,hbx,hsz,hbl⟩:=hrel;by_cases hlt:k<n
 ·
  obtain⟨bx,ox,rfl,g1⟩:=hx k hlt;obtain⟨l,hl⟩:∃l,l=xs.getD k default:=⟨_,rfl⟩
  rw[←hl] at g1;have HL:Hid (l=xs.getD k default):=hl;clear hl hx;obtain⟨a1,a2,a3,a4⟩:=fF hbl g1;have hkx:k<xs.length:=by have:=HN.out;omega
  have hle:=fQv s xs k;by_cases hs:l.sh=s
  ·
   have e1:=fMk s xs k hkx (by rw[←HL.out];exact hs);rw[←HL.out] at e1;have HE:Hid (onSh s (xs.take (k+1))=onSh s (xs.take k)++[l]):=e1;have hd:(l.sh==s)=true:=by simpa using hs
   generalize onSh s (xs.take k)=ys at *;clear e1 hs;go_wp2_with (at_builtin;refine wpList_append_own _ rfl _ _ 58 rfl (w.heap.size+1) 131 i0 _ 4 32 Tryz.underlying58 hi hz0 hz1 hz2 rfl (by decide) _ _ _ rfl (ho.alloc _) ⟨wr.heap.size,0,none⟩ 1 1 (legC l) rfl rfl ?c1 (fMh l) ?c3 ?c4 ?c5 ?_)
   case c1=>exact fEt (b:=wr.heap.size) (o:=0) ⟨by simp[go_sem],by simp[go_sem],by simp[go_sem],by simp[go_sem]⟩
   case c3=>unfold maxLen;omega
   case c4=>omega
   case c5=>simp;omega
   intro v' w1 hown' hgrow _;have hz:w.heap.size<wr.heap.size:=wL _ _ hbx;have hB1:Below w.heap.size w w1:=qY (ho.alloc _) (bA hbl _) (by simp;omega) (by omega) hgrow;have hbx1:w1.cell? ⟨w.heap.size,1,none⟩=some (.slice (some ⟨bx,ox,none⟩) n cx):=by
    refine hgrow.cell (cK (bA (Below.refl _ _) _) hbx) ?_;intro h;have:=(ho.alloc (.cells #[.int .i64 l.sh,.int .i64 l.ac,.int .i64 l.ast,.int .i64 l.am] 131)).lt _ h.symm;simp at this;omega
   have hz1:w.heap.size+1≤w1.heap.size:=wL _ _ hbx1;clear hgrow ho a1 a2 a3 a4;go_wp2;refine⟨⟨k+1,by omega,by go_num,?_,hbx1,hz1,hB1⟩,by simp[intOf];omega⟩;rw[HE.out,fEu,List.length_append];exact hown'
  have e1:=fIm s xs k hkx (by rw[←HL.out];exact hs);have HE:Hid (onSh s (xs.take (k+1))=onSh s (xs.take k)):=e1;have hd:(l.sh==s)=false:=by simpa using hs
  clear e1 hs;go_wp2;refine⟨⟨k+1,by omega,by go_num,?_,hbx,hsz,hbl⟩,by simp[intOf];omega⟩;rw[HE.out];exact ho
 go_wp2;go_ret;have hkn:k=n:=by omega
 subst hkn;have t0:xs.take k=xs:=by rw[←HN.out];exact List.take_length
 rw[t0] at ho;exact⟨_,rfl,pY ho (by omega),hbl⟩
def hasS (xs:List Leg) (s:Int):Bool:=xs.any (fun l=>l.sh==s)
def sl (p0 p1 p2:Bool):List Int:=(if p0 then [0] else [])++(if p1 then [1] else [])++(if p2 then [2] else [])
def kK (xs:List Leg):List Int:=sl (hasS xs 0) (hasS xs 1) (hasS xs 2)
theorem fVw (p0 p1 p2:Bool):(sl p0 p1 p2).length≤3:=by cases p0 <;> cases p1 <;> cases p2 <;> decide
theorem fVm (p0 p1 p2:Bool) (v:Int) (h0:0≤v) (h2:v≤2):putI (sl p0 p1 p2) v=sl (p0||v==0) (p1||v==1) (p2||v==2):=by
 have:v=0∨v=1∨v=2:=by omega
 rcases this with rfl|rfl|rfl <;> cases p0 <;> cases p1 <;> cases p2 <;> decide
theorem zM (xs:List Leg) (k:Nat) (h:k<xs.length) (s:Int):hasS (xs.take (k+1)) s=(hasS (xs.take k) s||(xs.getD k default).sh==s):=by
 rw[qC xs k h];simp[hasS]
theorem fOx (xs:List Leg) (k:Nat) (h:k<xs.length) (h0:0≤(xs.getD k default).sh) (h2:(xs.getD k default).sh≤2):putI (kK (xs.take k)) (xs.getD k default).sh=kK (xs.take (k+1)):=by
 unfold kK;rw[fVm _ _ _ _ h0 h2,zM xs k h,zM xs k h,zM xs k h]
theorem fH7 (id:Int) (x:Value) (xs:List Leg) (w:World) (hx:mJ w x xs) (hn:xs.length≤1048576) (hb:∀j,j<xs.length→0≤(xs.getD j default).sh∧(xs.getD j default).sh≤2) :
  Calls Tryz.prog 21 #[.agg #[.int .i64 id,x]] w fun e w'=>∃v,e = .returned v∧w'.ownsRow w.heap.size 2 1 v (kK xs).length (gY (kK xs))∧Below w.heap.size w w':=by
 obtain⟨ax,cx,rfl,hcx,hmx,hx⟩:=hx;unfold maxLen at hmx;have HB:Hid (∀j,j<xs.length→0≤(xs.getD j default).sh∧(xs.getD j default).sh≤2):=hb;clear hb;generalize hn':xs.length=n at *;have HN:Hid (xs.length=n):=hn';clear hn';go_enter Tryz.func21,Tryz.ntmps21;go_wp2;go_loopw [3,4] (fun v i w'=>∃k:Nat,k≤n∧i = .int .i64 k∧w'.ownsRow (w.heap.size+1) 2 1 v (kK (xs.take k)).length (gY (kK (xs.take k)))∧¬v = .slice none 0 0∧w'.cell? ⟨w.heap.size,1,none⟩=some (.slice ax n cx)∧Below w.heap.size w w') (fun _ i _=>n-(intOf i).toNat)
 case atStart=>
  refine⟨0,Nat.zero_le _,rfl,?_,by simp,by simp[go_sem],bA (bA (Below.refl _ _) _) _⟩;have:=World.ownsRow_lit (base:=w.heap.size+1) (e:=2) (size:=1) (w.alloc (.cells #[.int .i64 id,.slice ax n cx] 60)) #[] 0 (by simp) (by unfold maxLen;omega) rfl;simpa [kK,sl,hasS,gY] using this
 obtain⟨k,hk,rfl,ho,hnn,hbx,hbl⟩:=hrel;by_cases hlt:k<n
 ·
  obtain⟨bx,ox,rfl,g1⟩:=hx k hlt;obtain⟨l,hl⟩:∃l,l=xs.getD k default:=⟨_,rfl⟩
  rw[←hl] at g1;have HL:Hid (l=xs.getD k default):=hl;clear hl hx;obtain⟨a1,a2,a3,a4⟩:=fF hbl g1;have hkx:k<xs.length:=by have:=HN.out;omega
  have HE:=fOx xs k hkx (HB.out k hlt).1 (HB.out k hlt).2;rw[←HL.out] at HE;have HE':Hid (putI (kK (xs.take k)) l.sh=kK (xs.take (k+1))):=HE;have hle:(kK (xs.take k)).length≤3:=fVw _ _ _;have hz:w.heap.size<wr.heap.size:=wL _ _ hbx;obtain⟨g,cap,hv⟩:∃g cap,u3 = .slice (some ⟨g,0,none⟩) (kK (xs.take k)).length cap:=by
   rcases ho.2 with ⟨h,_⟩|⟨g,cap,cur,h,_⟩
   ·
    exact absurd h hnn
   exact⟨g,cap,h⟩
  subst hv;clear HE hnn;go_wp2_with fail;refine(fH6 g 0 cap (w.heap.size+1) (kK (xs.take k)) l.sh _ (by omega) (by omega) ho).mono ?_;rintro r w1 ⟨u,rfl,ho1,hnn1,hb1⟩;rw[HE'.out] at ho1;have hbx1:=cK hb1 hbx;have hbl1:=bS hbl hb1;clear ho hb1 a1 a2 a3 a4 hbl hbx;go_wp2;exact⟨⟨k+1,by omega,by go_num,ho1,hnn1,hbx1,hbl1⟩,by simp[intOf];omega⟩
 go_wp2;go_ret;have hkn:k=n:=by omega
 subst hkn;have t0:xs.take k=xs:=by rw[←HN.out];exact List.take_length
 rw[t0] at ho;exact⟨_,rfl,pY ho (by omega),hbl⟩
theorem fTq {xs:List Leg} (h:okTo xs xs.length):∀j,j<xs.length→0≤(xs.getD j default).sh∧(xs.getD j default).sh≤2:=fun j hj=>(gP (h j hj).1).1
end Go.Proofs.YtbfnobcidnmohaaGreat
namespace Go.Proofs.YtbfnobcidnmohaaGreat
open Go.RowKit
section
variable {P : Program} {ops : Array Oper} {Q : Exit → Act → World → Prop} {md : Region.Mode} {S : World → Prop} {t : Nat}
def kG (P:Program) (md:Region.Mode) (ops:Array Oper) (Q:Exit→Act→World→Prop) (S:World→Prop) (t:Nat):Nat→Array Bool→Act→World→Prop
 | 0,listed,a,w=>Region.ready md ops listed=[]∧Q .normal a w
 | f+1,listed,a,w=>(Region.ready md ops listed=[]→Q .normal a w)∧∀i ∈ Region.ready md ops listed,wpOp P ops Q i (fun a' w'=>(i≠t→S w')∧kG P md ops Q S t f (listed.setIfInBounds i true) a' w') a w
theorem fM0:∀(f:Nat) (listed:Array Bool) (a:Act) (w:World),kG P md ops Q S t f listed a w→wpAny P md ops Q f listed a w
 | 0,_,_,_,h=>h
 | f+1,_,_,_,h=>⟨h.1,fun i hi=>wpOp_mono (fun _ _ h'=>fM0 f _ _ _ h'.2) (h.2 i hi)⟩
def waitsFor (md:Region.Mode) (ops:Array Oper) (t i:Nat):Bool:=
 match ops[t]? with
 | some o=>o.after.any (fun e=>Region.binds md e&&e.on==i)
 | none=>false
theorem fPk {i:Nat} {oi:Oper} {v:Value} (hi:ops[i]? = some oi) (hsel:Region.noSelect ops=true) (hw:waitsFor md ops t i=true)
  (hQ:∀c a w,Q (.panic c) (a.put oi.dst v) w→Q (.panic c) a w) :
  ∀(f:Nat) (listed:Array Bool) (a:Act) (w:World),
   (∀j oj,ops[j]? = some oj→j≠i→listed.getD j true=false→(∀e ∈ oj.after,Region.binds md e=true→e.on≠i)→oi.apart ops oj=true) →
   i ∈ Region.ready md ops listed→YieldsIf P ops S oi v a→S w →
   kG P md ops Q S t f (listed.setIfInBounds i true) (a.put oi.dst v) w→kG P md ops Q S t (f+1) listed a w:=by
 intro f;induction f with
 | zero=>
  intro listed a w _ hr hy hS H;refine⟨fun h=>(by rw[h] at hr;cases hr),fun j hj=>?_⟩;by_cases hji:j=i
  ·
   subst hji;exact hy.wpOp hi hS ⟨fun _=>hS,H⟩
  have hm:=ready_mono hj hji;rw[H.1] at hm;cases hm
 | succ f ih=>
  intro listed a w hfree hr hy hS H;refine⟨fun h=>(by rw[h] at hr;cases hr),fun j hj=>?_⟩;by_cases hji:j=i
  ·
   subst hji;exact hy.wpOp hi hS ⟨fun _=>hS,H⟩
  obtain⟨hjun,oj,hoj,hall⟩:=mem_ready.1 hj;have hun:=(mem_ready.1 hr).1;have hnl:¬listed.getD i false=true:=by
   intro h1;rcases Nat.lt_or_ge i listed.size with h'|h'
   ·
    simp[h'] at hun h1;rw[hun] at h1;cases h1
   simp[Array.getElem?_eq_none h'] at h1
  have hnot:∀e ∈ oj.after,Region.binds md e=true→e.on≠i:=fun e he hb heq=>hnl (by rw[←heq];exact hall e he hb)
  have hjt:j≠t:=by
   rintro rfl;unfold waitsFor at hw;rw[hoj] at hw;obtain⟨e,he,hb⟩:=Array.any_eq_true'.1 hw;simp only[Bool.and_eq_true,beq_iff_eq] at hb;exact hnot e he hb.1 hb.2
  have h1:=H.2 j (ready_mono hj hji);have h2:=wpOp_putIf hoj (hfree j oj hoj hji hjun hnot) (fun cs b=>Region.noSelect_spec hsel i oi cs b hi) (fun cs b=>Region.noSelect_spec hsel j oj cs b hoj) hQ hy h1;refine wpOp_mono (fun a' w' h3=>⟨h3.2.1,ih (listed.setIfInBounds j true) a' w' ?_ (ready_mono hr (Ne.symm hji)) h3.1 (h3.2.1 hjt) ?_⟩) h2
  ·
   intro k ok hk hki hunk hno;refine hfree k ok hk hki ?_ hno;by_cases hjk:j=k
   ·
    subst hjk;exact hjun
   rw[getD_set_ne true hjk] at hunk;exact hunk
  rw[Array.setIfInBounds_comm _ _ hji];exact h3.2.2
theorem fJn {i:Nat} {oi:Oper} {v:Value} {f:Nat} {listed:Array Bool} {a:Act} {w:World} (hi:ops[i]? = some oi) (hsel:Region.noSelect ops=true) (hw:waitsFor md ops t i=true)
  (hf:Region.free md ops listed i=true) (hr:(Region.ready md ops listed).contains i=true) (hQ:∀c a w,Q (.panic c) (a.put oi.dst v) w→Q (.panic c) a w)
  (hwd:Region.wanted oi (yielded ops a.tmps)=true) (hS:S w) (hy:∀w,S w→(execOp a.eval oi).run P w = .ok (.value v) w)
  (h:kG P md ops Q S t f (listed.setIfInBounds i true) (a.put oi.dst v) w):kG P md ops Q S t (f+1) listed a w:=
 fPk hi hsel hw hQ f listed a w (Region.free_spec hi hf) (by simpa using hr) (Or.inl ⟨hwd,hy⟩) hS h
theorem tK {i:Nat} {oi:Oper} {v:Value} {f:Nat} {listed:Array Bool} {a:Act} {w:World} (hi:ops[i]? = some oi) (hb:(Region.noSelect ops&&waitsFor md ops t i&&Region.free md ops listed i&&(Region.ready md ops listed).contains i)=true)
  (hS:S w) (hy:∀w,S w→(execOp a.eval oi).run P w = .ok (.value v) w)
  (h:kG P md ops Q S t f (listed.setIfInBounds i true) (a.put oi.dst v) w) (hQ:∀c a w,Q (.panic c) (a.put oi.dst v) w→Q (.panic c) a w:=by exact fun _ _ _ h=>h) (hwd:Region.wanted oi (yielded ops a.tmps)=true:=by rfl):kG P md ops Q S t (f+1) listed a w:=by
 simp only[Bool.and_eq_true] at hb;exact fJn hi hb.1.1.1 hb.1.1.2 hb.1.2 hb.2 hQ hwd hS hy h
theorem tL (i:Nat) {oi:Oper} {v:Value} {f:Nat} {listed:Array Bool} {a:Act} {w:World} (hi:ops[i]? = some oi) (hS:S w) (h:kG P md ops Q S t f (listed.setIfInBounds i true) (a.put oi.dst v) w) (hb:(Region.noSelect ops&&waitsFor md ops t i&&Region.free md ops listed i&&(Region.ready md ops listed).contains i)=true:=by kernel_rfl) (hQ:∀c a w,Q (.panic c) (a.put oi.dst v) w→Q (.panic c) a w:=by exact fun _ _ _ h=>h) (hwd:Region.wanted oi (yielded ops a.tmps)=true:=by rfl) (hy:∀w,S w→(execOp a.eval oi).run P w = .ok (.value v) w:=by intro wS hSw;(try dsimp only at hSw);go_simp;try with_reducible rfl):kG P md ops Q S t (f+1) listed a w:=by
 simp only[Bool.and_eq_true] at hb;exact fJn hi hb.1.1.1 hb.1.1.2 hb.1.2 hb.2 hQ hwd hS hy h
theorem fRo {i:Nat} {o:Oper} {f:Nat} {listed:Array Bool} {a:Act} {w:World} (hr:Region.ready md ops listed=[i]) (hi:ops[i]? = some o)
  (h:∀K:Act→World→Prop,(∀a' w',(i≠t→S w')→kG P md ops Q S t f (listed.setIfInBounds i true) a' w'→K a' w')→if Region.wanted o (yielded ops a.tmps)=true then Oper.wp P o a w K Q else K (a.put o.dst undef) w) :
  kG P md ops Q S t (f+1) listed a w:=by
 refine⟨fun h0=>(by rw[hr] at h0;cases h0),fun j hj=>?_⟩;rw[hr] at hj;have e:j=i:=by simpa using hj
 subst e;have h1:=h (fun a' w'=>(j≠t→S w')∧kG P md ops Q S t f (listed.setIfInBounds j true) a' w') (fun _ _ p q=>⟨p,q⟩);unfold wpOp;simp only[hi];split
 ·
  rename_i hw;rw[if_pos hw] at h1;exact .inl h1
 rename_i hw;rw[if_neg hw] at h1;exact h1
theorem uS (i:Nat) {o:Oper} {f:Nat} {listed:Array Bool} {a:Act} {w:World} (hi:ops[i]? = some o)
  (h:∀K:Act→World→Prop,(∀a' w',(i≠t→S w')→kG P md ops Q S t f (listed.setIfInBounds i true) a' w'→K a' w')→if Region.wanted o (yielded ops a.tmps)=true then Oper.wp P o a w K Q else K (a.put o.dst undef) w) (hr:Region.ready md ops listed=[i]:=by kernel_rfl) :
  kG P md ops Q S t (f+1) listed a w:=fRo hr hi h
theorem fDe {listed:Array Bool} {a:Act} {w:World} {f:Nat} (hr:Region.ready md ops listed=[]) (h:Q .normal a w):kG P md ops Q S t f listed a w:=by
 cases f with
 | zero=>exact⟨hr,h⟩
 | succ f=>exact⟨fun _=>h,by rw[hr];simp⟩
theorem dN {listed:Array Bool} {a:Act} {w:World} {f:Nat} (h:Q .normal a w) (hr:Region.ready md ops listed=[]:=by kernel_rfl):kG P md ops Q S t f listed a w:=fDe hr h
theorem fA {id:Nat} {a:Act} {w:World} (S:World→Prop) (t:Nat) (hm:P.follows .mixedOrders=true) (hS:S w.drew) (h:S w.drew→kG P .any ops Q S t ops.size (Array.replicate ops.size false) a w.drew):(Code.region id ops true).wp P Q a w:=
 wp_region_any hm (fM0 _ _ _ _ (h hS))
end
section
variable {P : Program} {ops : Array Oper} {Q : Exit → Act → World → Prop} {md : Region.Mode} {S : World → Prop} {t : Nat}
theorem yY {i:Nat} {oi:Oper} {v:Value} (hi:ops[i]? = some oi) (hsel:Region.noSelect ops=true) (ht:ops[t]? = none)
  (hQ:∀c a w,Q (.panic c) (a.put oi.dst v) w→Q (.panic c) a w) :
  ∀(f:Nat) (listed:Array Bool) (a:Act) (w:World),
   (∀j oj,ops[j]? = some oj→j≠i→listed.getD j true=false→(∀e ∈ oj.after,Region.binds md e=true→e.on≠i)→oi.apart ops oj=true) →
   i ∈ Region.ready md ops listed→YieldsIf P ops S oi v a→S w →
   kG P md ops Q S t f (listed.setIfInBounds i true) (a.put oi.dst v) w→kG P md ops Q S t (f+1) listed a w:=by
 intro f;induction f with
 | zero=>
  intro listed a w _ hr hy hS H;refine⟨fun h=>(by rw[h] at hr;cases hr),fun j hj=>?_⟩;by_cases hji:j=i
  ·
   subst hji;exact hy.wpOp hi hS ⟨fun _=>hS,H⟩
  have hm:=ready_mono hj hji;rw[H.1] at hm;cases hm
 | succ f ih=>
  intro listed a w hfree hr hy hS H;refine⟨fun h=>(by rw[h] at hr;cases hr),fun j hj=>?_⟩;by_cases hji:j=i
  ·
   subst hji;exact hy.wpOp hi hS ⟨fun _=>hS,H⟩
  obtain⟨hjun,oj,hoj,hall⟩:=mem_ready.1 hj;have hun:=(mem_ready.1 hr).1;have hnl:¬listed.getD i false=true:=by
   intro h1;rcases Nat.lt_or_ge i listed.size with h'|h'
   ·
    simp[h'] at hun h1;rw[hun] at h1;cases h1
   simp[Array.getElem?_eq_none h'] at h1
  have hnot:∀e ∈ oj.after,Region.binds md e=true→e.on≠i:=fun e he hb heq=>hnl (by rw[←heq];exact hall e he hb)
  have hjt:j≠t:=by
   rintro rfl;rw[ht] at hoj;cases hoj
  have h1:=H.2 j (ready_mono hj hji);have h2:=wpOp_putIf hoj (hfree j oj hoj hji hjun hnot) (fun cs b=>Region.noSelect_spec hsel i oi cs b hi) (fun cs b=>Region.noSelect_spec hsel j oj cs b hoj) hQ hy h1;refine wpOp_mono (fun a' w' h3=>⟨h3.2.1,ih (listed.setIfInBounds j true) a' w' ?_ (ready_mono hr (Ne.symm hji)) h3.1 (h3.2.1 hjt) ?_⟩) h2
  ·
   intro k ok hk hki hunk hno;refine hfree k ok hk hki ?_ hno;by_cases hjk:j=k
   ·
    subst hjk;exact hjun
   rw[getD_set_ne true hjk] at hunk;exact hunk
  rw[Array.setIfInBounds_comm _ _ hji];exact h3.2.2
theorem kL {i:Nat} {oi:Oper} {v:Value} {f:Nat} {listed:Array Bool} {a:Act} {w:World} (hi:ops[i]? = some oi) (hsel:Region.noSelect ops=true) (ht:ops[t]? = none)
  (hf:Region.free md ops listed i=true) (hr:(Region.ready md ops listed).contains i=true) (hQ:∀c a w,Q (.panic c) (a.put oi.dst v) w→Q (.panic c) a w)
  (hwd:Region.wanted oi (yielded ops a.tmps)=true) (hS:S w) (hy:∀w,S w→(execOp a.eval oi).run P w = .ok (.value v) w)
  (h:kG P md ops Q S t f (listed.setIfInBounds i true) (a.put oi.dst v) w):kG P md ops Q S t (f+1) listed a w:=
 yY hi hsel ht hQ f listed a w (Region.free_spec hi hf) (by simpa using hr) (Or.inl ⟨hwd,hy⟩) hS h
theorem tN {i:Nat} {oi:Oper} {v:Value} {f:Nat} {listed:Array Bool} {a:Act} {w:World} (hi:ops[i]? = some oi) (hb:(Region.noSelect ops&&(ops[t]?).isNone&&Region.free md ops listed i&&(Region.ready md ops listed).contains i)=true)
  (hS:S w) (hy:∀w,S w→(execOp a.eval oi).run P w = .ok (.value v) w)
  (h:kG P md ops Q S t f (listed.setIfInBounds i true) (a.put oi.dst v) w) (hQ:∀c a w,Q (.panic c) (a.put oi.dst v) w→Q (.panic c) a w:=by exact fun _ _ _ h=>h) (hwd:Region.wanted oi (yielded ops a.tmps)=true:=by rfl):kG P md ops Q S t (f+1) listed a w:=by
 simp only[Bool.and_eq_true] at hb;exact kL hi hb.1.1.1 (by simpa using hb.1.1.2) hb.1.2 hb.2 hQ hwd hS hy h
theorem tM (i:Nat) {oi:Oper} {v:Value} {f:Nat} {listed:Array Bool} {a:Act} {w:World} (hi:ops[i]? = some oi) (hS:S w) (h:kG P md ops Q S t f (listed.setIfInBounds i true) (a.put oi.dst v) w) (hb:(Region.noSelect ops&&(ops[t]?).isNone&&Region.free md ops listed i&&(Region.ready md ops listed).contains i)=true:=by kernel_rfl) (hQ:∀c a w,Q (.panic c) (a.put oi.dst v) w→Q (.panic c) a w:=by exact fun _ _ _ h=>h) (hwd:Region.wanted oi (yielded ops a.tmps)=true:=by rfl) (hy:∀w,S w→(execOp a.eval oi).run P w = .ok (.value v) w:=by intro wS hSw;(try dsimp only at hSw);go_simp;try with_reducible rfl):kG P md ops Q S t (f+1) listed a w:=by
 simp only[Bool.and_eq_true] at hb;exact kL hi hb.1.1.1 (by simpa using hb.1.1.2) hb.1.2 hb.2 hQ hwd hS hy h
theorem fPl {i:Nat} {oi:Oper} {f:Nat} {listed:Array Bool} {a:Act} {w:World} (hi:ops[i]? = some oi) (hsel:Region.noSelect ops=true) (ht:ops[t]? = none)
  (hf:Region.free md ops listed i=true) (hr:(Region.ready md ops listed).contains i=true) (hQ:∀c a w,Q (.panic c) (a.put oi.dst undef) w→Q (.panic c) a w)
  (hwd:Region.wanted oi (yielded ops a.tmps)=false) (hS:S w)
  (h:∀u:Value,kG P md ops Q S t f (listed.setIfInBounds i true) (a.put oi.dst u) w):kG P md ops Q S t (f+1) listed a w:=
 yY hi hsel ht hQ f listed a w (Region.free_spec hi hf) (by simpa using hr) (Or.inr ⟨hwd,rfl⟩) hS (h undef)
theorem sN (i:Nat) {oi:Oper} {f:Nat} {listed:Array Bool} {a:Act} {w:World} (hi:ops[i]? = some oi) (hS:S w) (h:∀u:Value,kG P md ops Q S t f (listed.setIfInBounds i true) (a.put oi.dst u) w) (hb:(Region.noSelect ops&&(ops[t]?).isNone&&Region.free md ops listed i&&(Region.ready md ops listed).contains i)=true:=by kernel_rfl) (hQ:∀c a w,Q (.panic c) (a.put oi.dst undef) w→Q (.panic c) a w:=by exact fun _ _ _ h=>h) (hwd:Region.wanted oi (yielded ops a.tmps)=false:=by rfl):kG P md ops Q S t (f+1) listed a w:=by
 simp only[Bool.and_eq_true] at hb;exact fPl hi hb.1.1.1 (by simpa using hb.1.1.2) hb.1.2 hb.2 hQ hwd hS h
end
end Go.Proofs.YtbfnobcidnmohaaGreat

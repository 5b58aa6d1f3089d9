import Derived.Test.YtpibfdebfacooaaGreatPrnWriteEventLaw7
set_option maxHeartbeats 4000000
set_option maxRecDepth 20000
set_option linter.all false
namespace Go.Proofs.YtpibfdebfacooaaGreat
open Go.RowKit
attribute [local go_sem ↓] Go.wp_at_zero Go.wp_at_succ
attribute [local go_sem] cW cI ah cN iV aj
section
variable [dQ BytesR] [iH BytesR]
def fN (xs:List Byte):Nat:=(xs.getD 0 0).val*256+(xs.getD 1 0).val
def fC (xs:List Byte):Nat:=(xs.getD 2 0).val*256+(xs.getD 3 0).val
def fV (xs:List Byte):Nat:=if 1≤fN xs∧fN xs≤500∧4+fN xs≤xs.length∧chk ((xs.drop 4).take (fN xs))=fC xs then 4+fN xs else 0
theorem rA {xs:List Byte} (h:¬fV xs=0):fV xs=4+fN xs∧1≤fN xs∧fN xs≤500∧4+fN xs≤xs.length:=by
 unfold fV at h ⊢;split at h
 ·rename_i h1;rw[if_pos h1];exact⟨rfl,h1.1,h1.2.1,h1.2.2.1⟩
 exact absurd rfl h
def fHb:Nat→List Byte→List (List Byte)
 | 0,_=>[]
 | f+1,xs=>if fV xs=0 then [] else (xs.drop 4).take (fV xs-4)::fHb f (xs.drop (fV xs))
def fHc:Nat→List Byte→Nat
 | 0,_=>0
 | f+1,xs=>if fV xs=0 then 0 else fV xs+fHc f (xs.drop (fV xs))
def recL (xs:List Byte):List (List Byte):=fHb xs.length xs
def recU (xs:List Byte):Nat:=fHc xs.length xs
theorem yQ {xs:List Byte} (h:xs.length=0):fV xs=0:=by
 unfold fV;rw[if_neg];omega
theorem fF1:∀(f g:Nat) (xs:List Byte),xs.length≤f→xs.length≤g→fHb f xs=fHb g xs∧fHc f xs=fHc g xs
 | 0,0,_,_,_=>⟨rfl,rfl⟩
 | 0,g+1,xs,h,_=>by
  have hz:=yQ (xs:=xs) oM;simp only[fHb,fHc,if_pos hz];exact⟨trivial,trivial⟩
 | f+1,0,xs,_,h=>by
  have hz:=yQ (xs:=xs) oM;simp only[fHb,fHc,if_pos hz];exact⟨trivial,trivial⟩
 | f+1,g+1,xs,h1,h2=>by
  by_cases hz:fV xs=0
  ·simp only[fHb,fHc,if_pos hz];exact⟨trivial,trivial⟩
  have hp:=rA hz;have ih:=fF1 f g (xs.drop (fV xs)) (by rw[List.length_drop];omega) (by rw[List.length_drop];omega);simp only[fHb,fHc,if_neg hz,ih.1,ih.2];exact⟨trivial,trivial⟩
theorem fKe {xs:List Byte} (h:fV xs=0):recL xs=[]:=by
 unfold recL;cases d:xs.length with
 | zero=>rfl
 | succ f=>simp only[fHb,if_pos h]
theorem fKf {xs:List Byte} (h:fV xs=0):recU xs=0:=by
 unfold recU;cases d:xs.length with
 | zero=>rfl
 | succ f=>simp only[fHc,if_pos h]
theorem fMj {xs:List Byte} (h:¬fV xs=0):recL xs=(xs.drop 4).take (fV xs-4)::recL (xs.drop (fV xs)):=by
 have d:=rA h;unfold recL;cases e:xs.length with
 | zero=>omega
 | succ f=>
  simp only[fHb,if_neg h];rw[(fF1 f (xs.drop (fV xs)).length (xs.drop (fV xs)) (by rw[List.length_drop];omega) (Nat.le_refl _)).1]
theorem fMk {xs:List Byte} (h:¬fV xs=0):recU xs=fV xs+recU (xs.drop (fV xs)):=by
 have d:=rA h;unfold recU;cases e:xs.length with
 | zero=>omega
 | succ f=>
  simp only[fHc,if_neg h];rw[(fF1 f (xs.drop (fV xs)).length (xs.drop (fV xs)) (by rw[List.length_drop];omega) (Nat.le_refl _)).2]
theorem fZh (xs:List Byte) (h:2≤xs.length):hiN (xs.take 2)=(fN xs:Int):=by
 match xs,h with
 | a::b::r,_=>simp[hiN,fN,List.getD]
theorem fUr (xs:List Byte) (h:4≤xs.length):hiN ((xs.drop 2).take 2)=(fC xs:Int):=by
 match xs,h with
 | a::b::c::d::r,_=>simp[hiN,fC,List.getD]
theorem gA7 (xs:List Byte):fN xs<65536:=by
 have:=(xs.getD 0 0).isLt;have:=(xs.getD 1 0).isLt;unfold fN;omega
theorem gA6 (xs:List Byte):fC xs<65536:=by
 have:=(xs.getD 2 0).isLt;have:=(xs.getD 3 0).isLt;unfold fC;omega
theorem yP (x:Value) (xs:List Byte) (w:World) (hx:mP w x xs) :
  RI 163 #[x] w (iV (fV xs)):=by
 have s:=hx;obtain⟨B,C,rfl,l,F,_⟩:=hx;unfold maxLen at F;by_cases h4:xs.length<4
 ·
  have p:Hid (fV xs=0):=by
   unfold Hid fV;rw[if_neg];omega
  rw[p.out];generalize xs.length=n at *;go_enter Tryz.func163,Tryz.ntmps163;go_wp2;go_ret;exact⟨rfl,bR _ _⟩
 obtain⟨Y,Z,g,R⟩:=cutH (a:=B) (n:=xs.length) (cap:=C) 2 oM oM l;have G:=fZh xs oM;have H:=gA7 xs;obtain⟨m,I⟩:∃m,fN xs=m:=⟨_,rfl⟩
 rw[I] at G H;have J:Hid (fN xs=m):=I;have u1:hiN (xs.take 2) % 18446744073709551616=m:=by rw[G];omega
 have u2:IntKind.i64.wrap (m:Int)=m:=by rw[IntKind.wrap_i64];omega
 have d:Hid (∀(w:World) (ys:List Byte),ys.length=xs.length→mP w (.slice B xs.length C) ys→mP w (.slice Y (2:Int).toNat Z) (ys.take (2:Int).toNat)):=R;clear R I G;by_cases hb:m=0∨500<m∨xs.length<4+m
 ·
  have p:Hid (fV xs=0):=by
   unfold Hid fV;rw[if_neg];rw[J.out];omega
  rw[p.out];go_enter Tryz.func163,Tryz.ntmps163;go_wp2_with fail;refine(fAh _ (xs.take 2) _ (d.out _ xs rfl s)).mono ?_;rintro e D ⟨rfl,rfl⟩;rw[u1];generalize xs.length=n at *;clear u1 g d;rcases hb with hb|hb|hb
  all_goals
   go_wp2;all_goals
    go_ret;exact⟨rfl,bR _ _⟩
 have a0:¬m=0:=oM;have a4:¬500<m:=oM;have a5:¬xs.length<4+m:=oM;have d1:((4:Int)+(m:Int)==4)=false:=by simp;omega
 have d2:¬(504:Int)<4+(m:Int):=oM;have d3:¬(xs.length:Int)<4+(m:Int):=oM;obtain⟨a2,c2,y,T⟩:=cutB (a:=B) (n:=xs.length) (cap:=C) 2 4 oM oM oM l;obtain⟨a3,c3,z,U⟩:=cutB (a:=B) (n:=xs.length) (cap:=C) 4 (4+m) oM oM oM l;have j:=T _ xs rfl s;have k:=U _ xs rfl s;rw[show((4:Int)+(m:Int)-4).toNat=m by omega] at k;rw[show((4:Int)+(m:Int)-4).toNat=m by omega] at z;rw[show((4:Int)-2).toNat=2 by omega] at y j;rw[show(2:Int).toNat=2 by omega] at j;rw[show(4:Int).toNat=4 by omega] at k;have K:=gA6 xs;have L:=fUr xs oM;obtain⟨q,M⟩:∃q,fC xs=q:=⟨_,rfl⟩
 rw[M] at L K;have V:Hid (fC xs=q):=M;have u3:IntKind.i64.wrap (hiN ((xs.drop 2).take 2))=q:=by rw[L,IntKind.wrap_i64];omega
 obtain⟨r,X⟩:∃r,chk ((xs.drop 4).take m)=r:=⟨_,rfl⟩
 have E:Hid (chk ((xs.drop 4).take m)=r):=X;clear T U M X L hb;by_cases A:(q:Int)=r
 ·
  have p:Hid (fV xs=4+m):=by
   unfold Hid fV;rw[J.out,V.out,E.out,if_pos];omega
  rw[p.out];have hd:((q:Int)==r)=true:=by simpa using A
  go_enter Tryz.func163,Tryz.ntmps163;go_wp2_with fail;refine(fAh _ (xs.take 2) _ (d.out _ xs rfl s)).mono ?_;rintro e D ⟨rfl,rfl⟩;rw[u1];clear u1 g d A;go_wp2;go_region_held3 (fun w'=>aa D w') (exact hE) (first|(go_at_call 169;refine(uO _ _ _ (gF j hE)).mono ?_;rintro e N ⟨rfl,rfl⟩;rw[u3])|(go_at_call 162;refine(fBb _ _ _ (gF k hE)).mono ?_;rintro e N ⟨rfl,rfl⟩;rw[E.out]));all_goals
   rename_i O;go_wp2;go_ret;exact⟨rfl,O⟩
 have p:Hid (fV xs=0):=by
  unfold Hid fV;rw[J.out,V.out,E.out,if_neg];intro h;exact A h.2.2.2.symm
 rw[p.out];have hd:((q:Int)==r)=false:=by simpa using A
 go_enter Tryz.func163,Tryz.ntmps163;go_wp2_with fail;refine(fAh _ (xs.take 2) _ (d.out _ xs rfl s)).mono ?_;rintro e D ⟨rfl,rfl⟩;rw[u1];clear u1 g d A;go_wp2;go_region_held3 (fun w'=>aa D w') (exact hE) (first|(go_at_call 169;refine(uO _ _ _ (gF j hE)).mono ?_;rintro e N ⟨rfl,rfl⟩;rw[u3])|(go_at_call 162;refine(fBb _ _ _ (gF k hE)).mono ?_;rintro e N ⟨rfl,rfl⟩;rw[E.out]));all_goals
  rename_i O;go_wp2;go_ret;exact⟨rfl,O⟩
end
section
structure RecsR where
 code:Int
 used:Int
 records:List (List Byte)
variable [dQ RecsR] [iH RecsR]
def recsRR:Rep RecsR where
 V:=fun w v x=>∃u1,v =.agg #[.int .i64 x.code,.int .i64 x.used,u1]∧bytessR.V w u1 x.records
 O:=fun w base F v x=>∃u1 F1,v =.agg #[.int .i64 x.code,.int .i64 x.used,u1]∧bytessR.O w base F1 u1 x.records∧(∀b,F b↔(F1 b))
 below:=fun h hb=>by
  obtain⟨u1,rfl,h1⟩:=h;exact⟨u1,rfl,bytessR.below h1 hb⟩
 ofO:=fun h=>by
  obtain⟨u1,F1,rfl,h1,_⟩:=h;exact⟨u1,rfl,bytessR.ofO h1⟩
 mod:=fun h hm hd=>by
  obtain⟨u1,F1,rfl,h1,hF⟩:=h;exact⟨u1,F1,rfl,bytessR.mod h1 hm (fun b hb=>hd b ((hF b).2 hb)),hF⟩
 rng:=fun h b hb=>by
  obtain⟨u1,F1,rfl,h1,hF⟩:=h;rcases(hF b).1 hb with hb
  exact bytessR.rng h1 b hb
 base:=fun h hb=>by
  obtain⟨u1,F1,rfl,h1,hF⟩:=h;exact⟨u1,F1,rfl,bytessR.base h1 hb,hF⟩
theorem fIu {w:World} {v:Value} {x:RecsR} (h:recsRR.V w v x):∃a1 c1,v =.agg #[iV x.code,iV x.used,.slice a1 x.records.length c1]:=by
 obtain⟨u1,rfl,h1⟩:=h;obtain⟨a1,c1,rfl⟩:=fNn h1;exact⟨_,_,rfl⟩
variable [dQ BytesR] [iH BytesR] [dQ RecsR] [iH RecsR]
theorem getD_drop (xs:List Byte) (k i:Nat):(xs.drop k).getD i 0=xs.getD (k+i) 0:=by simp[List.getD]
theorem fZe (xs:List Byte) (k:Nat):fN (xs.drop k)=(xs.getD k 0).val*256+(xs.getD (k+1) 0).val:=by unfold fN;rw[getD_drop,getD_drop];rfl
theorem fZd (xs:List Byte) (k:Nat):fC (xs.drop k)=(xs.getD (k+2) 0).val*256+(xs.getD (k+3) 0).val:=by unfold fC;rw[getD_drop,getD_drop]
theorem fJq {xs:List Byte} (h:xs.length≤4):fV xs=0:=by
 unfold fV;rw[if_neg];omega
def fEm (xs:List Byte) (k:Nat) (out:List (List Byte)):Prop:=
 k≤xs.length∧out.length≤k∧recL xs=out++recL (xs.drop k)∧recU xs=k+recU (xs.drop k)
theorem fGa (xs:List Byte):fEm xs 0 []:=⟨oM,by simp,by simp,by simp⟩
theorem fV6 {xs:List Byte} {k:Nat} {out:List (List Byte)} (h:fEm xs k out) (hz:fV (xs.drop k)=0):recL xs=out∧recU xs=k:=by
 obtain⟨_,_,d,e⟩:=h;rw[fKe hz,List.append_nil] at d;rw[fKf hz,Nat.add_zero] at e;exact⟨d,e⟩
theorem fIx {xs:List Byte} {k m:Nat} {out:List (List Byte)} (h:fEm xs k out) (hz:fV (xs.drop k)=4+m) (hm:1≤m):fEm xs (k+4+m) (out++[(xs.drop (k+4)).take m]):=by
 obtain⟨h1,h2,e,g⟩:=h;have d:¬fV (xs.drop k)=0:=oM;have j:=rA d;rw[List.length_drop] at j;refine⟨oM,by rw[List.length_append,List.length_singleton];omega,?_,?_⟩
 ·rw[e,fMj d,hz,List.drop_drop,List.drop_drop,List.append_assoc,show k+(4+m)=k+4+m by omega,show 4+m-4=m by omega];rfl
 rw[g,fMk d,hz,List.drop_drop,show k+(4+m)=k+4+m by omega];omega
theorem fHp {B:Nat} {w Y:World} (h:Below B w Y) (n:Nat):Below B w (Y.drewN n):=h.trans ⟨rfl,rfl,rfl,Nat.le_refl _,fun _ _=>rfl⟩
theorem fKg {wz:World} {base:Nat} {xs:List Byte} {k:Nat} {out:List (List Byte)} {v:Value} (hso:fEm xs k out) (hz:fV (xs.drop k)=0) (hro:xO wz base v out) :
  (∃F,bytessR.O wz base F v (recL xs))∧recU xs=k:=by
 obtain⟨d,e⟩:=fV6 hso hz;rw[d];exact⟨fVx hro,e⟩
theorem fJ5 (x:Value) (xs:List Byte) (w:World) (hx:mP w x xs) (hn:xs.length≤6000) :
  cL 104 #[x] w fun e w'=>∃v F,e =.returned (.tuple #[v,iV (recU xs)])∧bytessR.O w' w.heap.size F v (recL xs)∧aa w w':=by
 have hX:=hx;obtain⟨ax,cx,rfl,au,ae,hx⟩:=hx;unfold maxLen at ae;go_enter Tryz.func104,Tryz.ntmps104;go_wp2;go_loopw [4,5] (fun v i w'=>∃(k:Nat) (d:List (List Byte)),i =.int .i64 k∧fEm xs k d∧xO w' w.heap.size v d∧aa w w') (fun _ i _=>xs.length-(intOf i).toNat)
 case atStart=>
  refine⟨0,[],rfl,fGa xs,fMo ?_,bA (bR _ _) _⟩;exact World.ownsRow_lit (base:=w.heap.size) (e:=23) (size:=1) w #[] 0 (by simp) (by unfold maxLen;omega) rfl
 obtain⟨k,d,rfl,D,a0,j⟩:=hrel;have aw:=D.1;have ay:=D.2.1;obtain⟨av,cv,rfl⟩:=fAr a0;have E:Hid (fEm xs k d):=D;have G:Hid (xO wr w.heap.size (.slice av d.length cv) d):=a0;clear D a0;by_cases az:k+4<xs.length
 ·
  obtain⟨b,o,rfl,g0⟩:=hx k oM;obtain⟨b',o',e,g1⟩:=hx (k+1) oM;simp only[Option.some.injEq,Addr.mk.injEq,and_true] at e;obtain⟨rfl,rfl⟩:=e;obtain⟨b',o',e,g2⟩:=hx (k+2) oM;simp only[Option.some.injEq,Addr.mk.injEq,and_true] at e;obtain⟨rfl,rfl⟩:=e;obtain⟨b',o',e,g3⟩:=hx (k+3) oM;simp only[Option.some.injEq,Addr.mk.injEq,and_true] at e;obtain⟨rfl,rfl⟩:=e;have a2:=fZe xs k;have a3:=fZd xs k;obtain⟨R,H⟩:∃p,(xs.getD k 0).val=p:=⟨_,rfl⟩
  obtain⟨p1,I⟩:∃p,(xs.getD (k+1) 0).val=p:=⟨_,rfl⟩
  obtain⟨T,J⟩:∃p,(xs.getD (k+2) 0).val=p:=⟨_,rfl⟩
  obtain⟨p3,K⟩:∃p,(xs.getD (k+3) 0).val=p:=⟨_,rfl⟩
  have l0:R<256:=by rw[←H];exact(xs.getD k 0).isLt
  have l1:p1<256:=by rw[←I];exact(xs.getD (k+1) 0).isLt
  have l2:T<256:=by rw[←J];exact(xs.getD (k+2) 0).isLt
  have l3:p3<256:=by rw[←K];exact(xs.getD (k+3) 0).isLt
  rw[H,I] at a2;rw[J,K] at a3;rw[H] at g0;rw[I] at g1;rw[J] at g2;rw[K] at g3;refine kR4 j ?_ g0 g1 g2 g3;clear g0 g1 g2 g3;intro g0 g1 g2 g3;obtain⟨m,hm⟩:∃m,R*256+p1=m:=⟨_,rfl⟩
  obtain⟨q,hq⟩:∃q,T*256+p3=q:=⟨_,rfl⟩
  have HN:Hid (fN (xs.drop k)=m):=by rw[←hm];exact a2
  have HC:Hid (fC (xs.drop k)=q):=by rw[←hq];exact a3
  have v0:IntKind.i64.wrap (R:Int)=R:=by rw[IntKind.wrap_i64];omega
  have v1:IntKind.i64.wrap (p1:Int)=p1:=by rw[IntKind.wrap_i64];omega
  have v2:IntKind.i64.wrap (T:Int)=T:=by rw[IntKind.wrap_i64];omega
  have v3:IntKind.i64.wrap (p3:Int)=p3:=by rw[IntKind.wrap_i64];omega
  have v4:IntKind.i64.wrap ((R:Int)*256)=R*256:=by rw[IntKind.wrap_i64];omega
  have v5:IntKind.i64.wrap ((T:Int)*256)=T*256:=by rw[IntKind.wrap_i64];omega
  have v6:IntKind.i64.wrap ((R:Int)*256+p1)=m:=by rw[IntKind.wrap_i64];omega
  have v7:IntKind.i64.wrap ((T:Int)*256+p3)=q:=by rw[IntKind.wrap_i64];omega
  have v8:IntKind.i64.wrap ((k:Int)+1)=k+1:=by rw[IntKind.wrap_i64];omega
  have v9:IntKind.i64.wrap ((k:Int)+2)=k+2:=by rw[IntKind.wrap_i64];omega
  have aA:IntKind.i64.wrap ((k:Int)+3)=k+3:=by rw[IntKind.wrap_i64];omega
  have i0:((k:Int)+1).toNat=k+1:=oM;have i2:((k:Int)+2).toNat=k+2:=oM;have i3:((k:Int)+3).toNat=k+3:=oM;have aB:m<65536:=oM;have HM:Hid (R*256+p1=m):=hm;have HQ:Hid (T*256+p3=q):=hq;clear H I J K hm hq a2 a3 hx;by_cases l:m<1∨500<m∨xs.length<k+4+m
  ·
   have HZ:Hid (fV (xs.drop k)=0):=by
    unfold Hid fV;rw[if_neg];rw[HN.out,List.length_drop];omega
   go_wp2;go_quiet (fail);rcases l with l|l|l
   all_goals
    go_wp2;all_goals
     obtain⟨⟨F,U⟩,hU⟩:=fKg E.out HZ.out G.out;refine bodyPost_ret (v:=.tuple #[.slice av d.length cv,iV k]) (by simp[results,Tryz.results104,go_sem]) rfl ?_;rw[hU];have g:=fHp (Below.refl wr.heap.size wr) nq;first|exact⟨_,F,rfl,bytessR.keep U g,bS j g⟩|exact⟨_,rfl,⟨F,bytessR.keep U g⟩,bS j g⟩
  have d1:¬(m:Int)<1:=oM;have d2:¬(500:Int)<(m:Int):=oM;have d3:¬(xs.length:Int)<(k:Int)+4+(m:Int):=oM;have af:1≤m:=oM;have s:=pO hX (k+4) (k+4+m) oM oM;rw[if_neg oM] at s;simp only[Option.map_some,Nat.mul_one,addP] at s;rw[show(xs.drop (k+4)).take (k+4+m-(k+4))=(xs.drop (k+4)).take m by rw[show k+4+m-(k+4)=m by omega]] at s;replace s:=gF s j;obtain⟨y,L⟩:∃y,(xs.drop (k+4)).take m=y:=⟨_,rfl⟩
  rw[L] at s;have aC:y.length≤500:=by rw[←L,List.length_take,List.length_drop];omega
  have a4:Hid ((xs.drop (k+4)).take m=y):=L;obtain⟨r,hr⟩:∃r,chk y=r:=⟨_,rfl⟩
  have HR:Hid (chk y=r):=hr;have ag:m≤500:=oM;clear l L hr;go_wp2;go_quiet (fail);go_wp2;have z:=fHp (Below.refl wr.heap.size wr) nq;generalize wr.drewN nq=V at *;replace g2:=cK z g2;replace g3:=cK z g3;replace s:=gF s z;have n:=zC G.out z;clear G g0 g1;have M:aa w V:=bS j z;clear j z;generalize Value.slice (some ⟨b,o+(k+4),none⟩) (k+4+m-(k+4)) (cx-(k+4))=sv at *;have N:∀W:World,aa V W→cL 132 #[sv] W fun e w'=>e =.returned (iV r)∧w'=W:=fun W hW=>by
   rw[←HR.out];exact fGc _ _ _ (gF s hW)
  by_cases hc:r=(q:Int)
  ·
   have HZ:Hid (fV (xs.drop k)=4+m):=by
    unfold Hid fV;rw[HN.out,HC.out,List.length_drop,List.drop_drop,a4.out,HR.out,if_pos];omega
   have hd:(r==(q:Int))=true:=by simpa using hc
   go_quiet (first|(go_at_call 132;refine Calls.quiet_of_same (N _ ?_);exact fHp (bR _ _) _))
   have g:=fHp (Below.refl V.heap.size V) nq;generalize V.drewN nq=A at *;clear N g2 g3 hc hd;replace s:=gF s g;have a7:=zC n g;have X:aa w A:=bS M g;clear n g M;have ak:=X.size;have Y:=World.ownsRow_lit (base:=A.heap.size) (e:=5) (size:=1) A #[] 0 (by simp) (by unfold maxLen;omega) rfl;have B:World.ownsRow (A.alloc (.cells #[] 5)) A.heap.size 5 1 (.slice (some ⟨A.heap.size,0,none⟩) 0 0) ([]:List Byte).length (fT []):=Y;have a8:=gF s (bA (bR _ _) (.cells #[] 5));have Z:=kN a8;have C:([]:List Byte).length+y.length≤1073741824:=by simp only[List.length_nil];omega
   have a9:A.heap.size≤(A.alloc (.cells #[] 5)).heap.size:=by simp
   clear Y;go_wp2_with (at_builtin;refine qL _ rfl _ _ rfl A.heap.size _ [] rfl _ y rfl B Z C a9 ?_);intro v1 w4 o1 hg hB;have ab:=hB A (bA (bR _ _) _);have a5:bytesR.O w4 A.heap.size (fun b=>v1.ownBlock=some b) v1 y:=⟨by simpa using o1,rfl⟩;obtain⟨a1,c1,rfl⟩:=fF (bytesR.ofO a5);clear hB hg o1 B Z C a9 a8;have al:d.length≤1048576:=oM;go_wp2_with (at_builtin;refine fDy A w4 rfl _ _ rfl w.heap.size _ d a7 ak ab _ _ y a5 rfl rfl al ?_);intro v2 w5 ac ad;have am:=ad w X;have ao:Hid (xO w5 w.heap.size v2 (d++[y])):=ac;clear a7 ad ac a5 ab;have a6:=fIx E.out HZ.out af;rw[a4.out] at a6;have ar:Hid (fEm xs (k+4+m) (d++[y])):=a6;clear a6;go_wp2;refine⟨⟨k+4+m,d++[y],nU,ar.out,ao.out,am⟩,mI⟩
  have HZ:Hid (fV (xs.drop k)=0):=by
   unfold Hid fV;rw[if_neg];rw[HN.out,HC.out,List.length_drop,List.drop_drop,a4.out,HR.out];omega
  have hd:(r==(q:Int))=false:=by simpa using hc
  go_quiet (first|(go_at_call 132;refine Calls.quiet_of_same (N _ ?_);exact fHp (bR _ _) _))
  have g:=fHp (Below.refl V.heap.size V) nq;generalize V.drewN nq=A at *;obtain⟨⟨F,U⟩,hU⟩:=fKg E.out HZ.out n;clear N s n;go_wp2;refine bodyPost_ret (v:=.tuple #[.slice av d.length cv,iV k]) (by simp[results,Tryz.results104,go_sem]) rfl ?_;rw[hU];first|exact⟨_,F,rfl,bytessR.keep U g,bS M g⟩|exact⟨_,rfl,⟨F,bytessR.keep U g⟩,bS M g⟩
 go_wp2;refine bodyPost_ret (v:=.tuple #[.slice av d.length cv,iV k]) (by simp[results,Tryz.results104,go_sem]) rfl ?_;obtain⟨⟨F,U⟩,hU⟩:=fKg E.out (fJq (by rw[List.length_drop];omega)) G.out;rw[hU];first|exact⟨_,F,rfl,U,j⟩|exact⟨_,rfl,⟨F,U⟩,j⟩
def fHd (xs:List Byte):RecsR:=if xs.length≤6000 then ⟨0,recU xs,recL xs⟩ else ⟨2,0,[]⟩
theorem fF2 (w:World) (base:Nat) (c u:Int):recsRR.O w base none_ (.agg #[iV c,iV u,aj]) ⟨c,u,[]⟩:=
 ⟨aj,none_,rfl,⟨[],fun _=>iV 0,fun _ _=>False,⟨World.ownsRow_nil w base 23 1,fun _ h=>absurd h (Nat.not_lt_zero _),fun _ h=>absurd h (Nat.not_lt_zero _),fun _ h=>absurd h (Nat.not_lt_zero _),fun _ h=>absurd h (Nat.not_lt_zero _),fun _ _ h=>absurd h (Nat.not_lt_zero _)⟩,fun b=>by simp[none_,Value.ownBlock]⟩,fun b=>Iff.rfl⟩
theorem fJz (x:Value) (xs:List Byte) (w:World) (hx:bytesR.V w x xs) :
  cL 136 #[x] w fun e w'=>∃v F,e =.returned v∧recsRR.O w' w.heap.size F v (fHd xs)∧aa w w':=by
 have hX:=hx;obtain⟨ax,cx,rfl,al,ab,hx⟩:=hx;unfold maxLen at ab;by_cases h:xs.length≤6000
 ·
  have HD:Hid (fHd xs=⟨0,recU xs,recL xs⟩):=if_pos h;go_enter Tryz.func136,Tryz.ntmps136;go_wp2_with fail;refine(yP _ xs _ (bytesR.below hX hE)).mono ?_;rintro e w1 ⟨rfl,E⟩;have d:cI w1 w.heap.size 0 0:=cK E sG;have l:cI w1 w.heap.size 1 0:=cK E sG;have q:cN w1 w.heap.size 2:=cK E sG;have y:(∀o,w1.frozen? ⟨w.heap.size,o,none⟩=false)∧w.heap.size<w1.heap.size:=(fTx E rfl).2.2.2;have a0:aa w w1:=hE;have HS:Hid (fV (xs.drop 0)=fV xs):=by simp[Hid]
  clear E;go_wp2;go_loopw [3,4,5] (fun v i j w'=>∃(k sz:Nat) (r:List (List Byte)),i =.int .i64 k∧j =.int .i64 sz∧fV (xs.drop k)=sz∧fEm xs k r∧xO w' (w.heap.size+1) v r ∧
    (w'.cell? ⟨w.heap.size,0,none⟩=some (.int .i64 0)∧w'.cell? ⟨w.heap.size,1,none⟩=some (.int .i64 0)∧w'.cell? ⟨w.heap.size,2,none⟩=some (.slice none 0 0))∧((∀o,w'.frozen? ⟨w.heap.size,o,none⟩=false)∧w.heap.size<w'.heap.size)∧aa w w') (fun _ i _ _=>xs.length-(intOf i).toNat)
  case atStart=>
   refine⟨0,fV xs,[],rfl,rfl,HS.out,fGa xs,fMo (World.ownsRow_nil _ _ _ _),⟨d,l,q⟩,y,a0⟩
  clear d l q y a0;obtain⟨k,sz,r,rfl,rfl,a1,K,G,⟨d,l,q⟩,y,R⟩:=hrel;have am:=K.1;have ao:=K.2.1;obtain⟨av,cv,rfl⟩:=fAr G;have a2:Hid (fEm xs k r):=K;have H:Hid (fV (xs.drop k)=sz):=a1;clear K a1;by_cases h0:sz=0
  ·
   subst h0;obtain⟨⟨F,hO⟩,hU⟩:=fKg a2.out H.out G;obtain⟨y,ar⟩:=y;have HO:Hid (bytessR.O wr (w.heap.size+1) F (.slice av r.length cv) (recL xs)):=hO;clear hO G;go_wp2;refine bodyPost_ret (v:=.agg #[iV 0,iV k,.slice av r.length cv]) ?_ rfl ?_
   ·simp[results,Tryz.results136,go_sem,d,l,q]
   rw[HD.out,hU];have a4:=bytessR.set (bytessR.set (bytessR.set HO.out (p:=⟨w.heap.size,0,none⟩) (iV 0) (by simp)) (p:=⟨w.heap.size,1,none⟩) (iV k) (by simp)) (p:=⟨w.heap.size,2,none⟩) (.slice av r.length cv) (by simp);first|exact⟨_,F,rfl,⟨_,F,rfl,bytessR.base a4 oM,fun b=>Iff.rfl⟩,hE⟩|exact⟨_,rfl,⟨F,⟨_,F,rfl,bytessR.base a4 oM,fun b=>Iff.rfl⟩⟩,hE⟩
  have hp:=rA (xs:=xs.drop k) (by rw[H.out];exact h0);rw[H.out,List.length_drop] at hp;obtain⟨m,hm⟩:∃m,fN (xs.drop k)=m:=⟨_,rfl⟩
  rw[hm] at hp;obtain⟨rfl,ac,au,aw⟩:=hp;clear hm h0;have ay:k+4+m≤xs.length:=oM;obtain⟨b,o,rfl,_⟩:=hx 0 oM;have ad:w.heap.size+1≤wr.heap.size:=y.2;have z:=pO hX (k+4) (k+(4+m)) oM oM;rw[if_neg oM] at z;simp only[Option.map_some,Nat.mul_one,addP] at z;replace z:=gF z R;have L:=pO hX (k+(4+m)) xs.length oM oM;simp only[Option.map_some,Nat.mul_one,addP] at L;rw[show(xs.drop (k+(4+m))).take (xs.length-(k+(4+m)))=xs.drop (k+(4+m)) from List.take_of_length_le (by rw[List.length_drop];omega)] at L;rw[show(xs.drop (k+4)).take (k+(4+m)-(k+4))=(xs.drop (k+4)).take m by rw[show k+(4+m)-(k+4)=m by omega]] at z;obtain⟨D,M⟩:∃D,(xs.drop (k+4)).take m=D:=⟨_,rfl⟩
  rw[M] at z;have a6:[D].flatten.length≤1073741824:=by
   simp only[List.flatten_cons,List.flatten_nil,List.append_nil];rw[←M,List.length_take,List.length_drop];omega
  have ae:Hid ([D].flatten.length≤1073741824):=a6;have af:Hid ((xs.drop (k+4)).take m=D):=M;have HZ:Hid (fV (xs.drop k)=4+m):=H.out;clear M H a6 hx;go_wp2_with fail;generalize Value.slice (some ⟨b,o+(k+4),none⟩) (k+(4+m)-(k+4)) (cx-(k+4))=sv at *;refine(pR _ [D] _ (fNl (g:=wr.heap.size) sG (bytesR.below z hE)) ae.out).mono ?_;rintro e w4 ⟨v3,F3,rfl,o3,a7⟩;have ag:=a7.size;rw[World.size_alloc] at ag;have T:bytesR.O w4 wr.heap.size F3 v3 D:=bytesR.base (by simpa using o3) (by simp);have N:aa wr w4:=hE;obtain⟨a3,c3,rfl⟩:=fF (bytesR.ofO T);clear o3 z a7;have ak:r.length≤1048576:=oM;go_wp2_with (at_builtin;refine fDy wr w4 rfl _ _ rfl (w.heap.size+1) _ r G ad N _ _ D T rfl rfl ak ?_);intro v5 w5 U hB;have A:=hB wr (bR _ _);replace d:=(A.cell (p:=⟨w.heap.size,0,none⟩) (by simp)).trans d;replace l:=(A.cell (p:=⟨w.heap.size,1,none⟩) (by simp)).trans l;replace q:=(A.cell (p:=⟨w.heap.size,2,none⟩) (by simp)).trans q;have B:(∀o,w5.frozen? ⟨w.heap.size,o,none⟩=false)∧w.heap.size<w5.heap.size:=⟨fun o=>(A.frozen (p:=⟨w.heap.size,o,none⟩) (by simp)).trans (y.1 o),Nat.lt_of_lt_of_le y.2 A.size⟩;have I:aa w w5:=R.trans (A.mono oM);have a8:Hid (xO w5 (w.heap.size+1) v5 (r++[D])):=U;obtain⟨a5,c5,rfl⟩:=fAr U;have X:=fIx a2.out HZ.out ac;rw[af.out,show k+4+m=k+(4+m) by omega] at X;have a9:Hid (fEm xs (k+(4+m)) (r++[D])):=X;have C:=gF L I;clear X U hB A y G T N R L
  by_cases Y:cx=k+(4+m)
  ·rw[if_pos Y,show cx-(k+(4+m))=0 by omega] at C;go_wp2_with fail;refine(yP _ (xs.drop (k+(4+m))) _ C).mono ?_;rintro e w6 ⟨rfl,s⟩;refine kR3 s ?_ d l q;clear d l q;intro d l q;replace B:=pJ B s;have Z:=bS I s;have J:=zC a8.out s;rw[List.length_append,List.length_singleton] at J;clear s I C Y;go_wp2;refine⟨⟨k+(4+m),_,r++[D],nU,rfl,rfl,a9.out,J,⟨d,l,q⟩,B,Z⟩,mI⟩
  rw[if_neg Y] at C;go_wp2_with fail;refine(yP _ (xs.drop (k+(4+m))) _ C).mono ?_;rintro e w6 ⟨rfl,s⟩;refine kR3 s ?_ d l q;clear d l q;intro d l q;replace B:=pJ B s;have Z:=bS I s;have J:=zC a8.out s;rw[List.length_append,List.length_singleton] at J;clear s I C;go_wp2;refine⟨⟨k+(4+m),_,r++[D],nU,rfl,rfl,a9.out,J,⟨d,l,q⟩,B,Z⟩,mI⟩
 have HD:Hid (fHd xs=⟨2,0,[]⟩):=if_neg h;generalize xs.length=n at *;go_enter Tryz.func136,Tryz.ntmps136;go_wp2;refine bodyPost_ret (v:=.agg #[iV 2,iV 0,aj]) ?_ rfl ?_
 ·simp[results,Tryz.results136,go_sem]
 rw[HD.out];first|exact⟨_,none_,rfl,fF2 _ _ _ _,hE⟩|exact⟨_,rfl,⟨none_,fF2 _ _ _ _⟩,hE⟩
variable [dQ Logg] [iH Logg] [dQ LoggR] [iH LoggR] [dQ Leg] [iH Leg]
theorem fMt (Y:World) {ops:Array Oper} {o:Oper} {a:Act} {K:Act→World→Prop} {Q:Exit→Act→World→Prop} {E:Prop} (hgd:o.guard=none) (s x:Operand)
  (ho:o.op =.call {callee:=.builtin .append,args:=#[s,x],argTypes:=#[23,23]})
  (base:Nat) (v:Value) (xs:List Byte) (hs:a.eval s=v) (u:Value) (ys:List Byte) (hx:a.eval x=u)
  (hown:Y.ownsRow base 5 1 v xs.length (fT xs)) (hsrc:gP Y u ys.length (fT ys)) (hlen:xs.length+ys.length≤1073741824) (hbase:base≤Y.heap.size)
  (h:∀v' w',w'.ownsRow base 5 1 v' (xs++ys).length (fT (xs++ys))→Y.grownBy w' v.ownBlock→(∀W:World,Below base W Y→Below base W w')→K (a.put o.dst v') w') :
  if Region.wanted o (yielded ops a.tmps)=true then Oper.wp Tryz.prog o a Y K Q else E:=by
 obtain⟨j,k,d,e,g⟩:=info_parts infoByte;refine uD Y hgd s x 23 ho base 5 j _ 1 1 Tryz.underlying23 k d e g rfl (by decide) v xs.length (fT xs) hs u ys.length (fT ys) hx hown hsrc (by rw[qO];omega) (xU ys) (by unfold maxLen;omega) oM hbase ?_;intro v' w' h1 h2 l;refine h v' w' ?_ h2 l;rw[List.length_append,uZ];exact h1
theorem fKb {W Y:World} {base:Nat} (hb:Below (W.alloc (.cells #[] 5)).heap.size (W.alloc (.cells #[] 5)) Y) (g:Nat) (hg:g=W.heap.size) (h:base≤g):Y.ownsRow base 5 1 (.slice (some ⟨g,0,none⟩) 0 0) ([]:List Byte).length (fT []):=by
 subst hg;exact fO (World.ownsRow_lit (base:=base) (e:=5) (size:=1) W #[] 0 h (by unfold maxLen;omega) rfl) hb
theorem fEr (w:World) (base:Nat):bytesR.O w base none_ aj []:=
 ⟨by simpa [fT] using World.ownsRow_nil w base 5 1,by funext b;simp[none_,Value.ownBlock]⟩
theorem fEe {w:World} {base:Nat} {F:Nat→Prop} {v:Value} {xs:List Byte} (h:bytesR.O w base F v xs):loggR.O w base F (.agg #[v,aj]) ⟨xs,[]⟩:=
 ⟨_,_,F,none_,rfl,h,fEr w base,fun _ _ h=>h.elim,fun b=>by simp[none_]⟩
theorem fQj {w:World} {base:Nat} {F:Nat→Prop} {u1 u2:Value} {x:Logg} (h:loggR.O w base F (.agg #[u1,u2]) x):loggRR.O w base F (.agg #[iV 0,u1,u2]) ⟨0,x⟩:=
 ⟨_,_,F,rfl,h,fun _=>Iff.rfl⟩
theorem vJ (w:World) (base:Nat) (c:Int):loggRR.O w base none_ (.agg #[iV c,aj,aj]) ⟨c,⟨[],[]⟩⟩:=
 ⟨_,_,none_,rfl,fEe (fEr w base),fun _=>Iff.rfl⟩
theorem fVr (xs:List Byte):recU xs≤xs.length:=by
 have H:∀n (xs:List Byte),xs.length≤n→recU xs≤xs.length:=by
  intro n;induction n with
  | zero=>intro xs h;rw[fKf (yQ oM)];omega
  | succ n ih=>
   intro xs h;by_cases d:fV xs=0
   ·rw[fKf d];omega
   have e:=rA d;have:=ih (xs.drop (fV xs)) (by rw[List.length_drop];omega);rw[fMk d];rw[List.length_drop] at this;omega
 exact H _ xs (Nat.le_refl _)
def logF (d:Logg):Int:=if 6000<d.synced.length+d.loose.length then 2 else 0
theorem fDv (x:Value) (d:Logg) (w:World) (hx:loggR.V w x d) (hn:gJ d≤1048576) :
  RI 91 #[x] w (iV (logF d)):=by
 obtain⟨l,m,n,p,rfl⟩:=mJ hx;unfold gJ kM at hn;unfold logF;clear hx;generalize d.synced.length=e at *;generalize d.loose.length=g at *;have q:IntKind.i64.wrap ((e:Int)+g)=e+g:=by rw[IntKind.wrap_i64];omega
 by_cases h:6000<e+g
 ·have j:=h;have k:(6000:Int)<(e:Int)+g:=oM;go_enter Tryz.func91,Tryz.ntmps91;go_wp2;go_ret;exact⟨by simp[j],hE⟩
 have j:=h;have k:¬(6000:Int)<(e:Int)+g:=oM;go_enter Tryz.func91,Tryz.ntmps91;go_wp2;go_ret;exact⟨by simp[j],hE⟩
theorem xC (x:Value) (d:Logg) (w:World) (hx:loggR.V w x d) (hn:gJ d≤1048576) :
  RI 105 #[x] w (iV (logF d)):=by
 obtain⟨l,m,n,p,rfl⟩:=mJ hx;unfold gJ kM at hn;unfold logF;clear hx;generalize d.synced.length=e at *;generalize d.loose.length=g at *;have q:IntKind.i64.wrap ((e:Int)+g)=e+g:=by rw[IntKind.wrap_i64];omega
 by_cases h:6000<e+g
 ·have j:=h;have k:(6000:Int)<(e:Int)+g:=oM;go_enter Tryz.func105,Tryz.ntmps105;go_wp2;go_ret;exact⟨by simp[j],hE⟩
 have j:=h;have k:¬(6000:Int)<(e:Int)+g:=oM;go_enter Tryz.func105,Tryz.ntmps105;go_wp2;go_ret;exact⟨by simp[j],hE⟩
theorem fIb (x:Value) (d:Logg) (w:World) (hx:loggR.V w x d) (hn:gJ d≤1048576) :
  cL 50 #[x] w fun e w'=>∃v F,e =.returned v∧loggR.O w' w.heap.size F v ⟨d.synced++d.loose,[]⟩∧aa w w':=by
 have Y:=hx;obtain⟨u1,u2,rfl,h1,h2⟩:=hx;obtain⟨D,E,rfl⟩:=fF h1;obtain⟨G,H,rfl⟩:=fF h2;unfold gJ kM at hn;go_enter Tryz.func50,Tryz.ntmps50;go_wp2;refine wp_region_noPanic ?_;refine fB (fun w'=>aa w w'∧ah w' w.heap.size 0 D d.synced.length E∧ah w' w.heap.size 1 G d.loose.length H) 8 kF ⟨hE,by simp[go_sem],sG⟩ (fun hS=>?_);refine tY 1 ?_;refine tY 2 ?_;refine tY 4 ?_;refine tY 5 ?_;refine uS 0 rfl (fun K k=>?_);go_simp;refine k _ _ (fun _=>⟨hE,by simp[go_sem],sG⟩) ?_;clear k K;try simp only[jX]
 refine uS 3 rfl (fun K k=>?_);refine fMt _ rfl _ _ rfl (w.heap.size+2) (.slice (some ⟨w.heap.size+2,0,none⟩) 0 0) [] rfl _ d.synced rfl (fKb (W:=(w.alloc _).alloc _) (Below.drew (bR _ _)) _ (by simp) oM) (kN (bytesR.below h1 hE)) (by simp;omega) (by simp) ?_;intro Z I s y n;have j:=n ((w.alloc _).alloc _) (Below.drew (Below.alloc (bR _ _) (by simp) _));have l:aa w I:=Below.trans hE (j.mono oM);clear n y;obtain⟨p6,q6,rfl⟩:=fD s;have z:=j.size;simp at z;refine k _ _ (fun _=>⟨l,(j.cell (p:=⟨w.heap.size,0,none⟩) (by simp)).trans sG,(j.cell (p:=⟨w.heap.size,1,none⟩) (by simp)).trans sG⟩) ?_;clear k K;try simp only[jX]
 refine uS 6 rfl (fun K k=>?_);have J:gP I _ (d.loose).length (fT (d.loose)):=kN (bytesR.below h2 l);refine fMt _ rfl _ _ rfl (w.heap.size+2) _ ([]++d.synced) rfl _ (d.loose) rfl s J (by simp;omega) z ?_;intro v9 m A B q;have g:=q _ j;have r:aa w m:=Below.trans hE (g.mono oM);clear q B J j l s z;obtain⟨L,M,rfl⟩:=fD A;have N:=g.size;simp at N;refine k _ _ (fun _=>⟨r,(g.cell (p:=⟨w.heap.size,0,none⟩) (by simp)).trans sG,(g.cell (p:=⟨w.heap.size,1,none⟩) (by simp)).trans sG⟩) ?_;clear k K;try simp only[jX]
 have C:(fun w'=>aa w w'∧w'.cell? ⟨w.heap.size,0,none⟩=some (.slice D d.synced.length E)∧w'.cell? ⟨w.heap.size,1,none⟩=some (.slice G d.loose.length H)) m:=⟨r,(g.cell (p:=⟨w.heap.size,0,none⟩) (by simp)).trans sG,(g.cell (p:=⟨w.heap.size,1,none⟩) (by simp)).trans sG⟩;have R:m.cell? ⟨w.heap.size+1,0,none⟩=some aj:=(g.cell (p:=⟨w.heap.size+1,0,none⟩) (by simp)).trans sG;have T:m.cell? ⟨w.heap.size+1,1,none⟩=some aj:=(g.cell (p:=⟨w.heap.size+1,1,none⟩) (by simp)).trans sG;have rf:aq m (w.heap.size+1):=fun o=>(g.frozen (p:=⟨w.heap.size+1,o,none⟩) (by simp)).trans sG
 have U:Hid (World.ownsRow m (w.heap.size+2) 5 1 _ _ _):=A;clear A g;refine tY 7 ?_;refine uS 8 rfl (fun K k=>?_);go_simp;refine k _ _ (fun h=>absurd rfl h) ?_;clear k K;refine dP ?_;clear hS C;go_wp2;have X:bytesR.O m (w.heap.size+2) _ (.slice L (d.synced.length+d.loose.length) M) (d.synced++d.loose):=⟨by have h:=U.out;simpa using h,rfl⟩;refine bodyPost_ret (v:=.agg #[.slice L (d.synced.length+d.loose.length) M,aj]) ?_ rfl ⟨_,_,rfl,fEe (bytesR.base (bytesR.set (bytesR.set X _ (by simp)) _ (by simp)) oM),hE⟩;simp[results,Tryz.results50,go_sem,R,T]
variable [dQ Cont] [iH Cont] [dQ Evt] [iH Evt] [dQ EvtR] [iH EvtR] [dQ ContR] [iH ContR]
theorem pF {w:World} {x:Value} {d:Evt} (hx:evtR.V w x d):∃a c,x =.agg #[.bool d.vote,iV d.con.id,.slice a d.con.legs.length c,iV d.out]∧uU w (.slice a d.con.legs.length c) d.con.legs:=by
 obtain⟨u,rfl,h1⟩:=evtf_V.2 hx;obtain⟨a,c,rfl⟩:=kK h1;exact⟨a,c,rfl,h1⟩
theorem fGd (x:Value) (d:Evt) (w:World) (hx:evtR.V w x d) :
  RI 45 #[x] w (iV (evtF d)):=by
 obtain⟨a,c,rfl,r⟩:=pF hx;obtain⟨b,⟨id,ls⟩,o⟩:=d;dsimp only at r ⊢;clear hx;cases b
 ·
  have g:Hid (evtF ⟨false,⟨id,ls⟩,o⟩=if (inB id 1 1000000000&&inB o 1 2)=true then (if ls.length=0 then 0 else 1) else 3):=rfl;generalize evtF ⟨false,⟨id,ls⟩,o⟩=R at *;generalize ls.length=n at *;clear r;cases m:inB id 1 1000000000
  ·rw[m] at g;go_enter Tryz.func45,Tryz.ntmps45;go_wp2_with (first|(go_at_call 87;refine(pI _ _).mono ?_;rintro e w' ⟨rfl,j⟩;obtain rfl:=j.symm;rw[m]));go_ret;exact⟨by rw[g.out];rfl,hE⟩
  cases k:inB o 1 2
  ·rw[m,k] at g;go_enter Tryz.func45,Tryz.ntmps45;go_wp2_with (first|(go_at_call 87;refine(pI _ _).mono ?_;rintro e w' ⟨rfl,j⟩;obtain rfl:=j.symm;rw[m])|(go_at_call 88;refine(mF _ _ _ _).mono ?_;rintro e w' ⟨rfl,j⟩;obtain rfl:=j.symm;rw[k]));go_ret;exact⟨by rw[g.out];rfl,hE⟩
  rw[m,k] at g;by_cases s:n=0
  ·
   have l:Hid (R=0):=by show _=_;rw[g.out,s];rfl
   have y:¬(0:Int)<(n:Int):=oM;clear g s;go_enter Tryz.func45,Tryz.ntmps45;go_wp2_with (first|(go_at_call 87;refine(pI _ _).mono ?_;rintro e w' ⟨rfl,j⟩;obtain rfl:=j.symm;rw[m])|(go_at_call 88;refine(mF _ _ _ _).mono ?_;rintro e w' ⟨rfl,j⟩;obtain rfl:=j.symm;rw[k]));go_ret;exact⟨by rw[l.out];rfl,hE⟩
  have l:Hid (R=1):=by show _=_;rw[g.out,if_neg s];rfl
  have y:(0:Int)<(n:Int):=oM;clear g s;go_enter Tryz.func45,Tryz.ntmps45;go_wp2_with (first|(go_at_call 87;refine(pI _ _).mono ?_;rintro e w' ⟨rfl,j⟩;obtain rfl:=j.symm;rw[m])|(go_at_call 88;refine(mF _ _ _ _).mono ?_;rintro e w' ⟨rfl,j⟩;obtain rfl:=j.symm;rw[k]));go_ret;exact⟨by rw[l.out];rfl,hE⟩
 have g:Hid (evtF ⟨true,⟨id,ls⟩,o⟩=if fA id ls=0 then (if o=0 then 0 else 1) else fA id ls):=rfl;have HC:Hid (bW w fun W=>RI 86 #[.agg #[iV id,.slice a ls.length c]] W (iV (fA id ls))):=fun W C=>vF id _ ls W (kE r C)
 generalize evtF ⟨true,⟨id,ls⟩,o⟩=R at *;clear r;generalize fA id ls=z at *;generalize ls.length=n at *;go_enter Tryz.func45,Tryz.ntmps45;go_wp2_with fail;refine(HC.out _ hE).mono ?_;rintro e B ⟨rfl,q⟩;have D:aa w B:=hE;have F:cI B w.heap.size 3 o:=cK q sG;clear q HC;by_cases p:z=0
 ·
  rw[p] at g ⊢;by_cases k:o=0
  ·
   have l:Hid (R=0):=by show _=_;rw[g.out,k];rfl
   have A:(o !=0)=false:=by simp[k]
   clear g k p;go_wp2;go_ret;exact⟨by rw[l.out];rfl,hE⟩
  have l:Hid (R=1):=by show _=_;rw[g.out,if_neg k];rfl
  have A:(o !=0)=true:=by simp[k]
  clear g k p;go_wp2;go_ret;exact⟨by rw[l.out];rfl,hE⟩
 have l:Hid (R=z):=by show _=_;rw[g.out,if_neg p]
 have E:(z !=0)=true:=by simp[p]
 clear g p;go_wp2;go_ret;exact⟨by rw[l.out];rfl,hE⟩
end
section
def over (a:Act) (ds:List Nat) (y:Nat→Value):Act:={a with tmps:=ds.foldl (fun t s=>t.setIfInBounds s (y s)) a.tmps}
theorem fP2:∀(ds:List Nat) (T:Array Value) (y:Nat→Value) (d:Nat) (v:Value),d ∉ ds →
  (ds.foldl (fun t s=>t.setIfInBounds s (y s)) T).setIfInBounds d v=ds.foldl (fun t s=>t.setIfInBounds s (y s)) (T.setIfInBounds d v)
 | [],_,_,_,_,_=>rfl
 | e::ds,T,y,d,v,h=>by
  have h1:d≠e:=fun c=>h (by rw[c];exact List.mem_cons_self)
  have h2:d ∉ ds:=fun c=>h (List.mem_cons_of_mem _ c)
  simp only[List.foldl_cons];rw[fP2 ds _ y d v h2,Array.setIfInBounds_comm _ _ (Ne.symm h1)]
theorem fHy:∀(ds:List Nat) (T:Array Value) (y y':Nat→Value),(∀s ∈ ds,y s=y' s) →
  ds.foldl (fun t s=>t.setIfInBounds s (y s)) T=ds.foldl (fun t s=>t.setIfInBounds s (y' s)) T
 | [],_,_,_,_=>rfl
 | e::ds,T,y,y',h=>by
  simp only[List.foldl_cons];rw[h e List.mem_cons_self];exact fHy ds _ y y' (fun s hs=>h s (List.mem_cons_of_mem _ hs))
def updV (y:Nat→Value) (d:Nat) (v:Value):Nat→Value:=fun s=>if s=d then v else y s
theorem fP3:∀(ds:List Nat) (T:Array Value) (y:Nat→Value) (d:Nat) (v:Value),d ∈ ds→ds.Nodup →
  (ds.foldl (fun t s=>t.setIfInBounds s (y s)) T).setIfInBounds d v=ds.foldl (fun t s=>t.setIfInBounds s (updV y d v s)) T
 | [],_,_,_,_,h,_=>absurd h List.not_mem_nil
 | e::ds,T,y,d,v,h,hn=>by
  obtain⟨h1,h2⟩:=List.nodup_cons.1 hn;simp only[List.foldl_cons];by_cases hd:d=e
  ·subst hd;rw[fP2 ds _ y d v h1,Array.setIfInBounds_setIfInBounds];have e1:updV y d v d=v:=if_pos rfl;rw[e1];exact fHy ds _ _ _ (fun s hs=>(if_neg (fun c:s=d=>h1 (c▸hs))).symm)
  have hm:d ∈ ds:=(List.mem_cons.1 h).resolve_left hd;have e1:updV y d v e=y e:=if_neg (fun c=>hd c.symm);rw[e1];exact fP3 ds _ y d v hm h2
theorem fKc {a:Act} {ds:List Nat} {y:Nat→Value} {d:Nat} {v:Value} (h:d ∈ ds) (hn:ds.Nodup):(over a ds y).put (some d) v=over a ds (updV y d v):=by
 simp only[over,Act.put];rw[fP3 ds _ y d v h hn]
theorem over_self (a:Act):∀ds:List Nat,over a ds (fun s=>a.tmps.getD s undef)=a:=by
 intro ds;have H:∀ds:List Nat,ds.foldl (fun t s=>t.setIfInBounds s (a.tmps.getD s undef)) a.tmps=a.tmps:=by
  intro ds;induction ds with
  | nil=>rfl
  | cons d ds ih=>
   simp only[List.foldl_cons];have e:a.tmps.setIfInBounds d (a.tmps.getD d undef)=a.tmps:=by
    apply Array.ext_getElem?;intro i;rw[Array.getElem?_setIfInBounds];split
    ·
     rename_i h;subst h;split
     ·rename_i h;simp[h]
     rename_i h;simp[Array.getElem?_eq_none (Nat.le_of_not_lt h)]
    rfl
   rw[e];exact ih
 simp only[over];rw[H ds]
theorem fJ1:∀(L:List (Nat × Nat)),(L.map Prod.fst).Nodup→∀p ∈ L,∀q ∈ L,p.1=q.1→p=q
 | [],_,p,hp,_,_,_=>absurd hp List.not_mem_nil
 | a::L,hn,p,hp,q,hq,h=>by
  obtain⟨h1,h2⟩:=List.nodup_cons.1 hn;rcases List.mem_cons.1 hp with hp1|hp1
  ·
   rcases List.mem_cons.1 hq with hq1|hq1
   ·rw[hp1,hq1]
   exact absurd (by rw[←hp1,h];exact List.mem_map_of_mem hq1) h1
  rcases List.mem_cons.1 hq with hq1|hq1
  ·exact absurd (by rw[←hq1,←h];exact List.mem_map_of_mem hp1) h1
  exact fJ1 L h2 p hp1 q hq1 h
theorem fJ2:∀(L:List (Nat × Nat)),(L.map Prod.snd).Nodup→∀p ∈ L,∀q ∈ L,p.2=q.2→p=q
 | [],_,p,hp,_,_,_=>absurd hp List.not_mem_nil
 | a::L,hn,p,hp,q,hq,h=>by
  obtain⟨h1,h2⟩:=List.nodup_cons.1 hn;rcases List.mem_cons.1 hp with hp1|hp1
  ·
   rcases List.mem_cons.1 hq with hq1|hq1
   ·rw[hp1,hq1]
   exact absurd (by rw[←hp1,h];exact List.mem_map_of_mem hq1) h1
  rcases List.mem_cons.1 hq with hq1|hq1
  ·exact absurd (by rw[←hq1,←h];exact List.mem_map_of_mem hp1) h1
  exact fJ2 L h2 p hp1 q hq1 h
theorem yO {F F':Nat × Nat→Bool}:∀{L:List (Nat × Nat)},(L.map Prod.fst).Nodup→∀{p:Nat × Nat},p ∈ L→F p=true→F' p=false→(∀q ∈ L,q≠p→F' q=F q)→(L.filter F).length=(L.filter F').length+1
 | [],_,_,hp,_,_,_=>absurd hp List.not_mem_nil
 | a::L,hn,p,hp,h1,h2,h3=>by
  obtain⟨g1,g2⟩:=List.nodup_cons.1 hn;by_cases e:a=p
  ·subst e;rw[List.filter_cons_of_pos h1,List.filter_cons_of_neg (by rw[h2];exact Bool.false_ne_true)];have h4:L.filter F=L.filter F':=List.filter_congr (fun q hq=>(h3 q (List.mem_cons_of_mem _ hq) (fun c=>g1 (c▸List.mem_map_of_mem hq))).symm);rw[h4,List.length_cons]
  have hm:p ∈ L:=(List.mem_cons.1 hp).resolve_left (fun c=>e c.symm);have ih:=yO g2 hm h1 h2 (fun q hq hne=>h3 q (List.mem_cons_of_mem _ hq) hne);have ha:=h3 a List.mem_cons_self e;cases hF:F a with
  | true=>rw[List.filter_cons_of_pos hF,List.filter_cons_of_pos (by rw[ha,hF]),List.length_cons,List.length_cons,ih]
  | false=>rw[List.filter_cons_of_neg (by rw[hF];exact Bool.false_ne_true),List.filter_cons_of_neg (by rw[ha,hF];exact Bool.false_ne_true),ih]
section
variable {P : Program} {ops : Array Oper} {Q : Exit → Act → World → Prop} {md : Region.Mode} {S : World → Prop} {t : Nat}
def fMm (md:Region.Mode) (ops:Array Oper):Bool:=(List.range ops.size).all fun i=>match ops[i]? with|some o=>o.after.all fun e=>!Region.binds md e||decide (e.on<i)|none=>true
theorem fDc {listed:Array Bool} (hr:fMm md ops=true) (hs:listed.size=ops.size):∀n i,i<n→i<ops.size→listed.getD i true=false→∃j,j ∈ Region.ready md ops listed:=by
 intro n;induction n with
 | zero=>intro i h;omega
 | succ n ih=>
  intro i r d l;by_cases g:∃k,k<i∧listed.getD k true=false
  ·obtain⟨k,s,m⟩:=g;exact ih k oM oM m
  refine⟨i,mem_ready.2 ⟨l,ops[i],by simp[d],fun e he hb=>?_⟩⟩;have h1:=List.all_eq_true.1 hr i (List.mem_range.2 d);simp only[Array.getElem?_eq_getElem d] at h1;have h2:=Array.all_eq_true'.1 h1 e he;simp only[hb,Bool.not_true,Bool.false_or,decide_eq_true_eq] at h2;have p:¬listed.getD e.on true=false:=fun c=>g ⟨e.on,h2,c⟩
  have q:e.on<listed.size:=oM;simp[q] at p ⊢;exact p
def InB (w0 w:World) (lo hi:Nat):Prop:=w0.heap.size≤lo∧lo≤hi∧hi≤w.heap.size
def fBi (lo hi:Nat→Nat) (j k:Nat):Prop:=hi j≤lo k∨hi k≤lo j
structure Shut (p:Prop):Prop where
 out:p
def fZ4 (P:Program) (md:Region.Mode) (ops:Array Oper) (Q:Exit→Act→World→Prop) (S:World→Prop) (L:List (Nat × Nat)) (G:Nat→(Nat→Value)→Nat→Nat→World→Prop) (a0:Act) (w0:World) (p:Nat × Nat):Prop:=
 ∃o,ops[p.1]? = some o∧o.dst=some p.2∧∀(y:Nat→Value) (w:World) (lo hi:Nat→Nat),S w→aa w0 w →
  (∀q ∈ L,waitsFor md ops p.1 q.1=true→InB w0 w (lo q.1) (hi q.1)∧G q.1 y (lo q.1) (hi q.1) w) →
  (∀q ∈ L,∀r ∈ L,q.1≠r.1→waitsFor md ops p.1 q.1=true→waitsFor md ops p.1 r.1=true→fBi lo hi q.1 r.1) →
  ∀K:Act→World→Prop,(∀v w',aa w w'→G p.1 (updV y p.2 v) w.heap.size w'.heap.size w'→K ((over a0 (L.map Prod.snd) y).put (some p.2) v) w') →
   Shut (if Region.wanted o (yielded ops (over a0 (L.map Prod.snd) y).tmps)=true then Oper.wp P o (over a0 (L.map Prod.snd) y) w K Q else K ((over a0 (L.map Prod.snd) y).put o.dst undef) w)
theorem fPh (L:List (Nat × Nat)) (G:Nat→(Nat→Value)→Nat→Nat→World→Prop) {f:Nat} {listed:Array Bool} {a0:Act} {w0:World}
  (hrise:fMm md ops=true) (hsz:listed.size=ops.size) (hot:∃ot,ops[t]? = some ot)
  (hall:∀i,i<ops.size→listed.getD i true=false→i=t∨∃p ∈ L,p.1=i)
  (hun:listed.getD t true=false∧∀p ∈ L,listed.getD p.1 true=false)
  (hno:(L.map Prod.fst).Nodup) (hnd:(L.map Prod.snd).Nodup) (htl:∀p ∈ L,p.1≠t∧waitsFor md ops t p.1=true) (hf:f=L.length+1)
  (hS:S w0) (hSst:∀w w',S w→aa w w'→S w')
  (hG:∀p ∈ L,∀(y y':Nat→Value) (lo hi:Nat) (w w':World),G p.1 y lo hi w→InB w0 w lo hi→aa w w'→y' p.2=y p.2→(∀q ∈ L,waitsFor md ops p.1 q.1=true→y' q.2=y q.2)→G p.1 y' lo hi w')
  (hstep:∀p ∈ L,fZ4 P md ops Q S L G a0 w0 p)
  (hlast:∃o,ops[t]? = some o∧∀(y:Nat→Value) (w:World) (lo hi:Nat→Nat),S w→aa w0 w→(∀q ∈ L,InB w0 w (lo q.1) (hi q.1)∧G q.1 y (lo q.1) (hi q.1) w)→(∀q ∈ L,∀r ∈ L,q.1≠r.1→fBi lo hi q.1 r.1) →
   ∀K:Act→World→Prop,(∀a' w',Q .normal a' w'→K a' w')→Shut (if Region.wanted o (yielded ops (over a0 (L.map Prod.snd) y).tmps)=true then Oper.wp P o (over a0 (L.map Prod.snd) y) w K Q else K ((over a0 (L.map Prod.snd) y).put o.dst undef) w)) :
  gQ P md ops Q S t f listed a0 w0:=by
 have H:∀(n f:Nat) (listed:Array Bool) (y:Nat→Value) (w:World) (lo hi:Nat→Nat),
   f=(L.filter fun p=>!listed.getD p.1 true).length+1→listed.size=ops.size→listed.getD t true=false →
   (∀i,i<ops.size→listed.getD i true=false→i=t∨∃p ∈ L,p.1=i) →
   (∀p ∈ L,listed.getD p.1 true=true→∀q ∈ L,waitsFor md ops p.1 q.1=true→listed.getD q.1 true=true) →
   S w→aa w0 w→(∀q ∈ L,listed.getD q.1 true=true→InB w0 w (lo q.1) (hi q.1)∧G q.1 y (lo q.1) (hi q.1) w) →
   (∀q ∈ L,∀r ∈ L,q.1≠r.1→listed.getD q.1 true=true→listed.getD r.1 true=true→fBi lo hi q.1 r.1) →
   f≤n→gQ P md ops Q S t f listed (over a0 (L.map Prod.snd) y) w:=by
  intro n;induction n with
  | zero=>intro f listed y w lo hi hf _ _ _ _ _ _ _ _ hn;omega
  | succ n ih=>
   intro f listed y w lo hi hf hsz V hall M hS hB N Y hn;obtain⟨ot,hot⟩:=hot;have a4:t<ops.size:=by
    rcases Nat.lt_or_ge t ops.size with h|h
    ·exact h
    rw[Array.getElem?_eq_none h] at hot;cases hot
   obtain⟨g,rfl⟩:∃g,f=g+1:=⟨_,hf⟩
   have hg:g=(L.filter fun p=>!listed.getD p.1 true).length:=oM;refine⟨fun h=>?_,fun i a9=>?_⟩
   ·obtain⟨j,hj⟩:=fDc hrise hsz (t+1) t oM a4 V;rw[h] at hj;cases hj
   obtain⟨I,o,J,Z⟩:=mem_ready.1 a9;have a5:i<ops.size:=by
    rcases Nat.lt_or_ge i ops.size with h|h
    ·exact h
    rw[Array.getElem?_eq_none h] at J;cases J
   have z:∀k,k<ops.size→waitsFor md ops i k=true→listed.getD k true=true:=by
    intro k hk D;unfold waitsFor at D;rw[J] at D;obtain⟨e,he,hb⟩:=Array.any_eq_true'.1 D;simp only[Bool.and_eq_true,beq_iff_eq] at hb;have h1:=Z e he hb.1;rw[hb.2] at h1;have a1:k<listed.size:=oM;simp[a1] at h1 ⊢;exact h1
   have A:∀p ∈ L,p.1<ops.size:=by
    intro p C;obtain⟨o',O,_⟩:=hstep p C;rcases Nat.lt_or_ge p.1 ops.size with h|h
    ·exact h
    rw[Array.getElem?_eq_none h] at O;cases O
   have ab:∀K:Act→World→Prop,(if Region.wanted o (yielded ops (over a0 (L.map Prod.snd) y).tmps)=true then Oper.wp P o (over a0 (L.map Prod.snd) y) w K Q else K ((over a0 (L.map Prod.snd) y).put o.dst undef) w)→wpOp P ops Q i K (over a0 (L.map Prod.snd) y) w:=by
    intro K h1;unfold wpOp;simp only[J];split
    ·rename_i D;rw[if_pos D] at h1;exact .inl h1
    rename_i D;rw[if_neg D] at h1;exact h1
   refine ab _ ?_;by_cases a2:i=t
   ·
    subst a2;have hl:∀p ∈ L,listed.getD p.1 true=true:=fun p C=>z p.1 (A p C) (htl p C).2
    obtain⟨o2,a6,a7⟩:=hlast;rw[J] at a6;cases a6;refine(a7 y w lo hi hS hB (fun q d=>N q d (hl q d)) (fun q d r E x=>Y q d r E x (hl q d) (hl r E)) _ (fun a' w' d=>⟨fun h=>absurd rfl h,vY ?_ d⟩)).out;rw[List.eq_nil_iff_forall_not_mem];intro j hj;obtain⟨B,oj,a8,_⟩:=mem_ready.1 hj;have ac:j<ops.size:=by
     rcases Nat.lt_or_ge j ops.size with h|h
     ·exact h
     rw[Array.getElem?_eq_none h] at a8;cases a8
    by_cases a3:i=j
    ·subst a3;have a1:i<listed.size:=oM;simp[a1] at B
    rw[getD_set_ne true a3] at B;rcases hall j ac B with h|⟨p,C,h⟩
    ·exact a3 h.symm
    rw[←h,hl p C] at B;cases B
   obtain⟨p,C,ad⟩:=(hall i a5 I).resolve_left a2;subst ad;obtain⟨o',O,ak,ae⟩:=hstep p C;rw[J] at O;cases O;refine(ae y w lo hi hS hB (fun q d D=>N q d (z q.1 (A q d) D)) (fun q d r E x h1 h2=>Y q d r E x (z q.1 (A q d) h1) (z r.1 (A r E) h2)) _ (fun v w' hb af=>⟨fun _=>hSst _ _ hS hb,?_⟩)).out;rw[fKc (List.mem_map_of_mem C) hnd];have ag:p.1<listed.size:=oM;have F:(listed.setIfInBounds p.1 true).getD p.1 true=true:=by simp[ag]
   have l:∀j,p.1≠j→(listed.setIfInBounds p.1 true).getD j true=listed.getD j true:=fun j h=>getD_set_ne true h
   have X:∀q ∈ L,q.1=p.1→q=p:=fun q d h=>fJ1 L hno q d p C h
   have R:∀q ∈ L,q.2=p.2→q=p:=fun q d h=>fJ2 L hnd q d p C h
   refine ih g (listed.setIfInBounds p.1 true) (updV y p.2 v) w' (fun j=>if j=p.1 then w.heap.size else lo j) (fun j=>if j=p.1 then w'.heap.size else hi j) ?_ (by simpa using hsz) ?_ ?_ ?_ (hSst _ _ hS hb) (hB.trans (hb.mono hB.size)) ?_ ?_ oM
   ·rw[hg];refine yO hno C (by rw[I];rfl) (by rw[F];rfl) (fun q d x=>?_);rw[l _ (fun c=>x (X q d c.symm))]
   ·rw[l _ (fun h=>a2 h)];exact V
   ·
    intro j hj T;by_cases e:p.1=j
    ·subst e;rw[F] at T;cases T
    rw[l _ e] at T;exact hall j hj T
   ·
    intro q d m r E D;by_cases e:p.1=r.1
    ·rw[←e];exact F
    rw[l _ e];by_cases e2:p.1=q.1
    ·rw[←e2] at D;exact z r.1 (A r E) D
    rw[l _ e2] at m;exact M q d m r E D
   ·
    intro q d m;by_cases e:q.1=p.1
    ·have e2:=X q d e;subst e2;simp only[if_true];exact⟨⟨hB.size,hb.size,Nat.le_refl _⟩,af⟩
    rw[l _ (Ne.symm e)] at m;simp only[if_neg e];obtain⟨h1,h2⟩:=N q d m;refine⟨⟨h1.1,h1.2.1,Nat.le_trans h1.2.2 hb.size⟩,hG q d y (updV y p.2 v) _ _ w w' h2 h1 hb ?_ ?_⟩
    ·exact if_neg (fun c=>e (by rw[R q d c]))
    intro r E D;refine if_neg (fun c=>?_);have e3:=R r E c;subst e3;rw[M q d m _ E D] at I;cases I
   intro q d r E x m U;unfold fBi;by_cases e:q.1=p.1
   ·
    have e':r.1≠p.1:=fun c=>x (e.trans c.symm)
    rw[l _ (Ne.symm e')] at U;simp only[if_pos e,if_neg e'];exact .inr (N r E U).1.2.2
   rw[l _ (Ne.symm e)] at m;by_cases e':r.1=p.1
   ·simp only[if_neg e,if_pos e'];exact .inl (N q d m).1.2.2
   rw[l _ (Ne.symm e')] at U;simp only[if_neg e,if_neg e'];exact Y q d r E x m U
 have h0:=H f f listed (fun s=>a0.tmps.getD s undef) w0 (fun _=>0) (fun _=>0) (by
  rw[hf,List.filter_eq_self.2 (fun p C=>by rw[hun.2 p C];rfl)]) hsz hun.1 hall (fun p C h=>by rw[hun.2 p C] at h;cases h) hS (bR _ _) (fun q d h=>by rw[hun.2 q d] at h;cases h) (fun q d r E x h=>by rw[hun.2 q d] at h;cases h) (Nat.le_refl _)
 rw[over_self] at h0;exact h0
def fHs (md:Region.Mode) (ops:Array Oper) (listed:Array Bool) (t f:Nat) (L:List (Nat × Nat)):Bool:=
 fMm md ops&&decide (listed.size=ops.size)&&(ops[t]?).isSome&&((List.range ops.size).all fun i=>listed.getD i true||decide (i=t)||L.any fun p=>decide (p.1=i)) &&
  !listed.getD t true&&(L.all fun p=>!listed.getD p.1 true)&&decide (L.map Prod.fst).Nodup&&decide (L.map Prod.snd).Nodup&&(L.all fun p=>decide (p.1≠t)&&waitsFor md ops t p.1)&&decide (f=L.length+1)
theorem uT (L:List (Nat × Nat)) (G:Nat→(Nat→Value)→Nat→Nat→World→Prop) {f:Nat} {listed:Array Bool} {a0:Act} {w0:World} (hc:fHs md ops listed t f L=true)
  (hS:S w0) (hSst:∀w w',S w→aa w w'→S w')
  (hG:∀p ∈ L,∀(y y':Nat→Value) (lo hi:Nat) (w w':World),G p.1 y lo hi w→InB w0 w lo hi→aa w w'→y' p.2=y p.2→(∀q ∈ L,waitsFor md ops p.1 q.1=true→y' q.2=y q.2)→G p.1 y' lo hi w')
  (hstep:∀p ∈ L,fZ4 P md ops Q S L G a0 w0 p)
  (hlast:∃o,ops[t]? = some o∧∀(y:Nat→Value) (w:World) (lo hi:Nat→Nat),S w→aa w0 w→(∀q ∈ L,InB w0 w (lo q.1) (hi q.1)∧G q.1 y (lo q.1) (hi q.1) w)→(∀q ∈ L,∀r ∈ L,q.1≠r.1→fBi lo hi q.1 r.1) →
   ∀K:Act→World→Prop,(∀a' w',Q .normal a' w'→K a' w')→Shut (if Region.wanted o (yielded ops (over a0 (L.map Prod.snd) y).tmps)=true then Oper.wp P o (over a0 (L.map Prod.snd) y) w K Q else K ((over a0 (L.map Prod.snd) y).put o.dst undef) w)) :
  gQ P md ops Q S t f listed a0 w0:=by
 unfold fHs at hc;simp only[Bool.and_eq_true,decide_eq_true_eq,List.all_eq_true,List.any_eq_true,Bool.or_eq_true,Bool.not_eq_true',List.mem_range] at hc;obtain⟨⟨⟨⟨⟨⟨⟨⟨⟨h1,h2⟩,e⟩,g⟩,j⟩,k⟩,l⟩,m⟩,n⟩,d⟩:=hc;refine fPh L G h1 h2 (Option.isSome_iff_exists.1 e) (fun i hi s=>?_) ⟨j,k⟩ l m n d hS hSst hG hstep hlast;rcases g i hi with (h|h)|h
 ·rw[s] at h;cases h
 ·exact .inl h
 exact .inr h
end
end
section
variable [dQ Leg] [iH Leg] [dQ Cont] [iH Cont] [dQ Evt] [iH Evt] [dQ EvtR] [iH EvtR] [dQ BytesR] [iH BytesR] [dQ ContR] [iH ContR] [dQ Logg] [iH Logg] [dQ LoggR] [iH LoggR] [dQ RecsR] [iH RecsR]
theorem fIi (w:World) (base:Nat):legsR.O w base none_ aj []:=⟨by simpa [gT] using World.ownsRow_nil w base 168 4,by funext b;simp[none_,Value.ownBlock]⟩
theorem xY (w:World) (base:Nat) (b:Bool) (i o:Int):evtR.O w base none_ (.agg #[.bool b,iV i,aj,iV o]) ⟨b,⟨i,[]⟩,o⟩:=
 evtf_O.1 ⟨aj,none_,rfl,fIi w base,fun _=>Iff.rfl⟩
theorem fE2 {w:World} {base:Nat} {F:Nat→Prop} {i:Int} {u:Value} {y:Cont} (h:contR.O w base F (.agg #[iV i,u]) y) (b:Bool) (o:Int):evtR.O w base F (.agg #[.bool b,iV i,u,iV o]) ⟨b,y,o⟩:=by
 obtain⟨u1,d,he,h1,h2⟩:=h;simp only[Value.agg.injEq,Array.mk.injEq,List.cons.injEq,and_true,Value.int.injEq,true_and] at he;obtain⟨rfl,rfl⟩:=he;exact evtf_O.1 ⟨u,d,rfl,h1,h2⟩
theorem fHt {w:World} {base:Nat} {F:Nat→Prop} {v:Value} {y:Cont} (h:contR.O w base F v y):∃a c,v =.agg #[iV y.id,.slice a y.legs.length c]:=by
 obtain⟨u1,d,rfl,h1,_⟩:=h;obtain⟨a,c,rfl⟩:=kK (legsR.ofO h1);exact⟨a,c,rfl⟩
theorem fLi {w:World} {base:Nat} {F:Nat→Prop} {c:Int} {b:Bool} {i o:Int} {u:Value} {y:Evt} (h:evtR.O w base F (.agg #[.bool b,iV i,u,iV o]) y):evtRR.O w base F (.agg #[iV c,.bool b,iV i,u,iV o]) ⟨c,y⟩:=by
 obtain⟨u1,d,he,h1,h2⟩:=evtf_O.2 h;simp only[Value.agg.injEq,Array.mk.injEq,List.cons.injEq,and_true,Value.int.injEq,Value.bool.injEq,true_and] at he;obtain⟨rfl,rfl,rfl,rfl⟩:=he;exact⟨u,F,rfl,h,fun _=>Iff.rfl⟩
theorem fE1 {w:World} {base:Nat} {F:Nat→Prop} {v:Value} {y:Evt} (h:evtR.O w base F v y):∃a c,v =.agg #[.bool y.vote,iV y.con.id,.slice a y.con.legs.length c,iV y.out]:=by
 obtain⟨u1,d,rfl,h1,_⟩:=evtf_O.2 h;obtain⟨a,c,rfl⟩:=kK (legsR.ofO h1);exact⟨a,c,rfl⟩
theorem fI5 {w W:World} {a1 a2 a3 a4:Value} (h:aa w W∧W.cell? ⟨w.heap.size+1,0,none⟩=some a1∧W.cell? ⟨w.heap.size+1,1,none⟩=some a2∧W.cell? ⟨w.heap.size+1,2,none⟩=some a3∧W.cell? ⟨w.heap.size+1,3,none⟩=some a4) (u0 u1 u2 u3:Value) :
  aa w ((((W.setCell ⟨w.heap.size,0,none⟩ u0).setCell ⟨w.heap.size,1,none⟩ u1).setCell ⟨w.heap.size,2,none⟩ u2).setCell ⟨w.heap.size,3,none⟩ u3)∧((((W.setCell ⟨w.heap.size,0,none⟩ u0).setCell ⟨w.heap.size,1,none⟩ u1).setCell ⟨w.heap.size,2,none⟩ u2).setCell ⟨w.heap.size,3,none⟩ u3).cell? ⟨w.heap.size+1,0,none⟩=some a1∧((((W.setCell ⟨w.heap.size,0,none⟩ u0).setCell ⟨w.heap.size,1,none⟩ u1).setCell ⟨w.heap.size,2,none⟩ u2).setCell ⟨w.heap.size,3,none⟩ u3).cell? ⟨w.heap.size+1,1,none⟩=some a2∧((((W.setCell ⟨w.heap.size,0,none⟩ u0).setCell ⟨w.heap.size,1,none⟩ u1).setCell ⟨w.heap.size,2,none⟩ u2).setCell ⟨w.heap.size,3,none⟩ u3).cell? ⟨w.heap.size+1,2,none⟩=some a3∧((((W.setCell ⟨w.heap.size,0,none⟩ u0).setCell ⟨w.heap.size,1,none⟩ u1).setCell ⟨w.heap.size,2,none⟩ u2).setCell ⟨w.heap.size,3,none⟩ u3).cell? ⟨w.heap.size+1,3,none⟩=some a4:=by
 obtain⟨hb,h0,h1,h2,d⟩:=h;refine⟨?_,?_,?_,?_,?_⟩
 ·
  iterate 4 (refine bset ?_ (by simp) _)
  exact hb
 ·simp[go_sem,h0]
 ·simp[go_sem,h1]
 ·simp[go_sem,h2]
 simp[go_sem,d]
theorem fI6 {xs:List Byte} (h:¬(unpE xs).code=0):unpE xs=errE:=by
 unfold unpE at h ⊢;by_cases h0:xs.length=0
 ·rw[if_pos h0]
 rw[if_neg h0] at h ⊢;by_cases h1:(xs.getD 0 0).val=1
 ·
  rw[if_pos h1] at h ⊢;by_cases h2:(unpD (xs.drop 1)).code=0
  ·rw[if_pos h2] at h;exact absurd rfl h
  rw[if_neg h2]
 rw[if_neg h1] at h ⊢;by_cases h2:(xs.getD 0 0).val=2∧xs.length=10
 ·
  rw[if_pos h2] at h ⊢;by_cases d:evtF (outE xs)=0
  ·rw[if_pos d] at h;exact absurd rfl h
  rw[if_neg d]
 rw[if_neg h2]
def fKy (w:World) (xs:List Byte) (e:Ending) (w':World):Prop:=∃v F y,e =.returned (.tuple #[v,.bool (decide ((unpE xs).code=0))])∧evtR.O w' w.heap.size F v y∧((unpE xs).code=0→unpE xs=⟨0,y⟩)∧aa w w'
theorem yF {w W:World} {xs:List Byte} {b:Bool} {i o:Int} (h:unpE xs=errE) (hb:aa w W):fKy w xs (.returned (.tuple #[.agg #[.bool b,iV i,aj,iV o],.bool false])) W:=
 ⟨_,none_,⟨b,⟨i,[]⟩,o⟩,by rw[h];rfl,xY _ _ _ _ _,fun h0=>(by rw[h] at h0;cases h0),hb⟩
theorem fI7 {xs:List Byte} (h:xs.length=0):unpE xs=errE:=if_pos h
theorem fGn {xs:List Byte} (h0:¬xs.length=0) (h:(xs.getD 0 0).val=1):unpE xs=if (unpD (xs.drop 1)).code=0 then ⟨0,⟨true,(unpD (xs.drop 1)).contract,0⟩⟩ else errE:=by unfold unpE;rw[if_neg h0,if_pos h]
theorem fI8 {xs:List Byte} (h0:¬xs.length=0) (h1:¬(xs.getD 0 0).val=1) (h:(xs.getD 0 0).val=2∧xs.length=10):unpE xs=if evtF (outE xs)=0 then ⟨0,outE xs⟩ else errE:=by unfold unpE;rw[if_neg h0,if_neg h1,if_pos h]
theorem fGm {xs:List Byte} (h0:¬xs.length=0) (h1:¬(xs.getD 0 0).val=1) (h:¬((xs.getD 0 0).val=2∧xs.length=10)):unpE xs=errE:=by unfold unpE;rw[if_neg h0,if_neg h1,if_neg h]
theorem fZk (x:Value) (xs:List Byte) (w:World) (hx:bytesR.V w x xs) :
  cL 159 #[x] w fun e w'=>∃v F y,e =.returned (.tuple #[v,.bool (decide ((unpD xs).code=0))])∧contR.O w' w.heap.size F v y∧((unpD xs).code=0→(unpD xs).contract=y)∧aa w w':=by
 by_cases h:8≤xs.length∧(xs.length-8) % 11=0∧xs.length≤96
 ·
  refine(fFn x xs w hx h.1 h.2.1 h.2.2).mono ?_;rintro e w' ⟨v,F,rfl,j,hb⟩;refine⟨_,F,mK xs,?_,⟨v,F,rfl,j,fun _=>Iff.rfl⟩,?_,hb⟩
  ·
   by_cases g:fA (mK xs).id (mK xs).legs=0
   ·have d:unpD xs=⟨0,mK xs⟩:=if_pos ⟨h,g⟩;rw[d,g]
   have d:unpD xs=⟨5,⟨0,[]⟩⟩:=if_neg (fun k=>g k.2);rw[d,decide_eq_false g];rfl
  intro h0;by_cases g:fA (mK xs).id (mK xs).legs=0
  ·have d:unpD xs=⟨0,mK xs⟩:=if_pos ⟨h,g⟩;rw[d]
  have d:unpD xs=⟨5,⟨0,[]⟩⟩:=if_neg (fun k=>g k.2);rw[d] at h0;cases h0
 refine(fD4 x xs w hx h).mono ?_;rintro e w' ⟨rfl,hb⟩;have d:unpD xs=⟨5,⟨0,[]⟩⟩:=if_neg (fun k=>h k.1);refine⟨_,none_,⟨0,[]⟩,by rw[d];rfl,⟨aj,none_,rfl,fIi _ _,fun _=>Iff.rfl⟩,fun h0=>(by rw[d] at h0;cases h0),hb⟩
theorem fOl (x:Value) (xs:List Byte) (w:World) (hx:bytesR.V w x xs) :
  cL 130 #[x] w (fKy w xs):=by
 have K:=hx;obtain⟨ax,cx,rfl,C,Z,hx⟩:=hx;unfold maxLen at Z;by_cases h0:xs.length=0
 ·have s:Hid (unpE xs=errE):=fI7 h0;clear hx K;rw[h0] at C ⊢;go_enter Tryz.func130,Tryz.ntmps130;go_wp2;exact bodyPost_ret (v:=.tuple #[.agg #[.bool false,iV 0,aj,iV 0],.bool false]) (by simp[results,Tryz.results130,go_sem]) rfl (yF s.out hE)
 have L:1≤xs.length:=Nat.pos_of_ne_zero h0;obtain⟨I,E,rfl,z⟩:=hx 0 oM;have a0:((xs.length:Int)==0)=false:=beq_eq_false_iff_ne.2 oM;by_cases h1:(xs.getD 0 0).val=1
 ·
  have s:Hid (unpE xs=if (unpD (xs.drop 1)).code=0 then ⟨0,⟨true,(unpD (xs.drop 1)).contract,0⟩⟩ else errE):=fGn h0 h1;obtain⟨a',c',A,M⟩:=cutL (a:=some ⟨I,E,none⟩) (n:=xs.length) (cap:=cx) 1 oM oM C;have HC:Hid (bW w fun W=>cL 159 #[.slice a' (xs.length-(1:Int).toNat) c'] W fun e w'=>∃v F y,e =.returned (.tuple #[v,.bool (decide ((unpD (xs.drop 1)).code=0))])∧contR.O w' W.heap.size F v y∧((unpD (xs.drop 1)).code=0→(unpD (xs.drop 1)).contract=y)∧aa W w'):=fun W hW=>fZk _ (xs.drop 1) W (M W xs rfl (bytesR.below K hW))
  have T:w.cell? ⟨I,E,none⟩=some (.int .u8 1):=by have h:=z;rw[h1,Nat.add_zero] at h;exact h
  have a1:(0:Int)<(xs.length:Int):=oM;clear hx K M z h1;obtain⟨D,hD⟩:∃D,unpD (xs.drop 1)=D:=⟨_,rfl⟩
  rw[hD] at HC s;clear hD;obtain⟨U,ct⟩:=D;dsimp only at HC s;have zb:I<w.heap.size:=wL w _ T;go_enter Tryz.func130,Tryz.ntmps130;go_wp2_with fail;refine(HC.out _ hE).mono ?_;rintro e k ⟨v1,F1,G,rfl,o1,hy,d⟩;obtain⟨p,q,rfl⟩:=fHt o1;have a2:=bT w d;have r0:cW k w.heap.size 0 (.bool false):=cK d sG;have r1:cI k w.heap.size 1 0:=cK d sG;have r2:cN k w.heap.size 2:=cK d sG;have r3:cI k w.heap.size 3 0:=cK d sG;have rf:aq k w.heap.size:=ap d;have s0:cW k (w.heap.size+1) 0 (.bool false):=cK d sG;have s1:cI k (w.heap.size+1) 1 0:=cK d sG;have s2:cN k (w.heap.size+1) 2:=cK d sG;have s3:cI k (w.heap.size+1) 3 0:=cK d sG;have sf:aq k (w.heap.size+1):=ap d;have hz:w.heap.size+2≤k.heap.size:=by have:=d.size;simp at this;omega
  have HO:Hid (contR.O k (w.heap.size+2) F1 (.agg #[iV G.id,.slice p G.legs.length q]) G):=contR.base o1 (by simp);clear o1 d HC A;have z1:w.heap.size<k.heap.size:=oM;have z2:w.heap.size+1<k.heap.size:=oM;generalize hm:G.legs.length=m at *;have HY:Hid (U=0→ct=G):=hy;clear hm hy;go_wp2;refine bodyPost_ret (v:=.tuple #[.agg #[.bool true,iV G.id,.slice p m q,iV 0],.bool (decide (U=0))]) (by simp[results,Tryz.results130,go_sem,r0,r1,r2,r3,rf,s0,s1,s2,s3,sf,z1]) rfl ?_;have a8:∀W W':World,aa W W'→aa W W':=fun _ _ h=>h
  refine⟨.agg #[.bool true,iV G.id,.slice p m q,iV 0],F1,⟨true,G,0⟩,?_,fE2 (i:=G.id) (u:=.slice p m q) (contR.base (base:=w.heap.size+2) ?_ oM) true 0,?_,?_⟩
  ·
   rw[s.out];by_cases j:U=0
   ·rw[if_pos j,decide_eq_true j];rfl
   rw[if_neg j,decide_eq_false j];rfl
  ·
   refine contR.alloc ?_ _;iterate 7 (refine contR.set ?_ _ (by simp))
   exact HO.out
  ·
   intro h;rw[s.out] at h ⊢;by_cases j:U=0
   ·rw[if_pos j,HY.out j]
   rw[if_neg j] at h;cases h
  refine bA ?_ _;iterate 7 (refine bset ?_ (by simp) _)
  exact a2
 by_cases h2:(xs.getD 0 0).val=2∧xs.length=10
 ·
  obtain⟨h2,N⟩:=h2;have s:Hid (unpE xs=if evtF (outE xs)=0 then ⟨0,outE xs⟩ else errE):=fI8 h0 h1 ⟨h2,N⟩;obtain⟨a',c',A,M⟩:=cutB (a:=some ⟨I,E,none⟩) (n:=xs.length) (cap:=cx) 1 9 oM oM oM C;have J:=M w xs rfl K;rw[show((9:Int)-1).toNat=8 by omega,show(1:Int).toNat=1 by omega] at J;rw[show((9:Int)-1).toNat=8 by omega] at A;have a3:((xs.drop 1).take 8).length=8:=by rw[List.length_take,List.length_drop];omega
  have R:((xs.drop 1).take 8).take 8=(xs.drop 1).take 8:=List.take_of_length_le oM;obtain⟨_,_,e9,a9⟩:=hx 9 oM;simp only[Option.some.injEq,Addr.mk.injEq,and_true] at e9;obtain⟨rfl,rfl⟩:=e9;have T:w.cell? ⟨I,E,none⟩=some (.int .u8 2):=by have h:=z;rw[h2,Nat.add_zero] at h;exact h
  have ab:IntKind.i64.wrap ((xs.getD 9 0).val:Int)=((xs.getD 9 0).val:Int):=by rw[IntKind.wrap_i64];have:=(xs.getD 9 0).isLt;omega
  have HX:Hid (outE xs=⟨false,⟨IntKind.i64.wrap (hiN ((xs.drop 1).take 8)),[]⟩,((xs.getD 9 0).val:Int)⟩):=rfl;have HN:Hid (bW w fun W=>cL 160 #[.slice a' 8 c'] W fun e w'=>e =.returned (iV (IntKind.i64.wrap (hiN ((xs.drop 1).take 8))))∧w'=W):=fun W hW=>by
   have:=zW _ _ W (gF J hW) oM;rw[R] at this;exact this
  generalize IntKind.i64.wrap (hiN ((xs.drop 1).take 8))=id at *;generalize ((xs.getD 9 0).val:Int)=B at *;have zb:I<w.heap.size:=wL w _ T;have HF:Hid (∀W,RI 45 #[.agg #[.bool false,iV id,aj,iV B]] W (iV (evtF ⟨false,⟨id,[]⟩,B⟩))):=fun W=>fGd _ ⟨false,⟨id,[]⟩,B⟩ W (evtR.ofO (xY W 0 false id B))
  rw[HX.out] at s;clear hx K M J z h1 h2 a3 R HX;rw[N] at C A a0 ⊢;generalize evtF ⟨false,⟨id,[]⟩,B⟩=X at *;go_enter Tryz.func130,Tryz.ntmps130;go_wp2_with fail;refine(HN.out _ hE).mono ?_;rintro e k ⟨rfl,hw⟩;obtain rfl:=hw.symm;clear HN;go_wp2;obtain⟨r,g⟩:∃r,r=(w.alloc (.cells #[.bool false,iV 0,aj,iV 0] 59)).alloc (.cells #[.bool false,iV id,aj,iV B] 59):=⟨_,rfl⟩
  have h0:aa w r∧r.cell? ⟨w.heap.size+1,0,none⟩=some (.bool false)∧r.cell? ⟨w.heap.size+1,1,none⟩=some (iV id)∧r.cell? ⟨w.heap.size+1,2,none⟩=some aj∧r.cell? ⟨w.heap.size+1,3,none⟩=some (iV B):=by
   rw[g];exact⟨hE,by simp[go_sem],sG,by simp[go_sem],sG⟩
  have r0:cW r w.heap.size 0 (.bool false):=cQ g;have r1:cI r w.heap.size 1 0:=cQ g;have r2:cN r w.heap.size 2:=cQ g;have r3:cI r w.heap.size 3 0:=cQ g;have rf:aq r w.heap.size:=fun o=>by rw[g];simp[go_sem]
  have a4:w.heap.size<r.drew.heap.size:=by show w.heap.size<r.heap.size;rw[g];simp;omega
  rw[←g];clear g T zb A;go_region_held3 (fun W=>aa w W∧cW W (w.heap.size+1) 0 (.bool false)∧cI W (w.heap.size+1) 1 id∧cN W (w.heap.size+1) 2∧cI W (w.heap.size+1) 3 B)
   ((first|exact uL h0 (Below.drew (bR _ _))|exact H|exact fI5 H _ _ _ _))
   (first|(go_at_call 45;refine(HF.out _).mono ?_;rintro e w3 ⟨rfl,l⟩;have H:=uL (uL h0 (Below.drew (bR _ _))) l;have e0:=cK l (cK (Below.drew (bR _ _)) r0);have e1:=cK l (cK (Below.drew (bR _ _)) r1);have e2:=cK l (cK (Below.drew (bR _ _)) r2);have e3:=cK l (cK (Below.drew (bR _ _)) r3);have a5:=fun o=>((bcell l).2 w.heap.size o a4).trans (rf o)))
  have a6:aa w w3:=H.1;clear H l h0 HF;go_wp2;refine bodyPost_ret (v:=.tuple #[.agg #[.bool false,iV id,aj,iV B],.bool (X==0)]) (by simp[results,Tryz.results130,go_sem,e0,e1,e2,e3,a5]) rfl ?_;refine⟨_,none_,⟨false,⟨id,[]⟩,B⟩,?_,xY _ _ _ _ _,?_,?_⟩
  ·
   rw[s.out];by_cases j:X=0
   ·rw[if_pos j,j];rfl
   rw[if_neg j];have:(X==0)=false:=by simpa using j
   rw[this];rfl
  ·
   intro h;rw[s.out] at h ⊢;by_cases j:X=0
   ·rw[if_pos j]
   rw[if_neg j] at h;cases h
  iterate 4 (refine bset ?_ (by simp) _)
  exact a6
 have s:Hid (unpE xs=errE):=fGm h0 h1 h2;have a1:(0:Int)<(xs.length:Int):=oM;have ac:(((xs.getD 0 0).val:Int)==1)=false:=beq_eq_false_iff_ne.2 oM;rw[Nat.add_zero] at z;have zb:I<w.heap.size:=wL w _ z;clear hx K;by_cases Y:(xs.getD 0 0).val=2
 ·
  have a7:(((xs.getD 0 0).val:Int) !=2)=false:=by rw[Y];rfl
  have ad:((xs.length:Int) !=10)=true:=by simp only[bne_iff_ne,ne_eq];exact fun h=>h2 ⟨Y,by omega⟩
  clear h0 h1 h2 Y L;generalize ((xs.getD 0 0).val:Int)=q at *;generalize xs.length=n at *;go_enter Tryz.func130,Tryz.ntmps130;go_wp2;exact bodyPost_ret (v:=.tuple #[.agg #[.bool false,iV 0,aj,iV 0],.bool false]) (by simp[results,Tryz.results130,go_sem]) rfl (yF s.out hE)
 have a7:(((xs.getD 0 0).val:Int) !=2)=true:=by simp only[bne_iff_ne,ne_eq];omega
 clear h0 h1 h2 Y L;generalize ((xs.getD 0 0).val:Int)=q at *;generalize xs.length=n at *;go_enter Tryz.func130,Tryz.ntmps130;go_wp2;exact bodyPost_ret (v:=.tuple #[.agg #[.bool false,iV 0,aj,iV 0],.bool false]) (by simp[results,Tryz.results130,go_sem]) rfl (yF s.out hE)
theorem fXi (w:World) (base:Nat):evtRR.O w base none_ (.agg #[iV 5,.bool false,iV 0,aj,iV 0]) errE:=fLi (xY w base false 0 0)
end
end Go.Proofs.YtpibfdebfacooaaGreat

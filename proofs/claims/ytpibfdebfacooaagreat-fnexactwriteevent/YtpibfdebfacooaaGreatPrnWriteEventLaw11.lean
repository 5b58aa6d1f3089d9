import Derived.Test.YtpibfdebfacooaaGreatPrnWriteEventLaw10
import Derived.Shelf.SlSortCmp.WholeK
import Derived.Carry
set_option maxHeartbeats 4000000
set_option linter.all false
namespace Go.Proofs.YtpibfdebfacooaaGreat
open Go.RowKit
attribute [local go_sem ↓] Go.wp_at_zero Go.wp_at_succ
attribute [local go_sem] cW cI iV
section
open Go.Sort Go.Shelf
variable [dQ Rw] [iH Rw] [dQ Bal] [iH Bal] [dQ Ledg] [iH Ledg] [dQ Leg] [iH Leg]
def cfK (x y:K3):Int:=fA4 (k3 x.1 x.2.1 x.2.2) (k3 y.1 y.2.1 y.2.2) 3
theorem fJ6 (x y:K3):ltOf cfK x y=true↔x.1<y.1∨(x.1=y.1∧(x.2.1<y.2.1∨(x.2.1=y.2.1∧x.2.2<y.2.2))):=by
 obtain⟨a,b,c⟩:=x;obtain⟨a',d,e⟩:=y;unfold ltOf cfK;simp only[fA4,decide_eq_true_eq,show k3 a b c 0=a from rfl,show k3 a b c 1=b from rfl,show k3 a b c 2=c from rfl,show k3 a' d e 0=a' from rfl,show k3 a' d e 1=d from rfl,show k3 a' d e 2=e from rfl,if_true];unfold cmpI;by_cases h0:a<a'
 ·simp[h0]
 by_cases h1:a'<a
 ·simp[h0,h1];omega
 have k:a=a':=oM;subst k;by_cases h2:b<d
 ·simp[h2]
 by_cases l:d<b
 ·simp[h2,l];omega
 have m:b=d:=oM;subst m;by_cases g:c<e
 ·simp[g]
 by_cases j:e<c
 ·simp[g,j]
 simp[g,j]
theorem swoK:SWO (ltOf cfK) where
 irrefl x:=by
  rw[←Bool.not_eq_true,fJ6];omega
 trans x y z h1 h2:=by
  rw[fJ6] at *;omega
 ntrans x y z h1 h2:=by
  rw[←Bool.not_eq_true,fJ6] at *;omega
theorem fW6 (blk off size:Nat) (w:World):CmpLays Tryz.prog 229 #[] keyC 3 cfK blk off size w:=by
 intro m os d _ x y;refine(fEu x.1 x.2.1 x.2.2 y.1 y.2.1 y.2.2 _).mono ?_;rintro e w' ⟨rfl,rfl⟩;refine⟨rfl,1,#[.cells #[iV x.1,iV x.2.1,iV x.2.2] 254,.cells #[iV y.1,iV y.2.1,iV y.2.2] 254],?_⟩;rw[alloc_eq_grow,alloc_eq_grow,grow_grow];rfl
theorem fUl (xs:List K3):∀i c,i<xs.length→c<3→(zV xs)[i*3+c]? = (keyC (xs.getD i default))[c]?:=by
 induction xs with
 | nil=>intro i c h;simp at h
 | cons x xs ih=>
  intro i c d g;have e:zV (x::xs)=keyC x++zV xs:=by simp[zV]
  have j:(keyC x).length=3:=rfl;rw[e];cases i with
  | zero=>
   rw[List.getElem?_append_left oM];simp
  | succ i=>
   rw[List.getElem?_append_right oM,j,show(i+1)*3+c-3=i*3+c by omega,ih i c (by simpa using d) g];simp
theorem fR5 {w:World} {base g cap:Nat} {xs:List K3} (h:w.ownsRow base 254 3 (.slice (some ⟨g,0,none⟩) xs.length cap) xs.length (zV xs)):HoldsK keyC 3 w g 0 xs.toArray:=by
 intro j d;simp only[size_flatK,List.size_toArray] at d;have k:j / 3<xs.length:=oM;have l:j % 3<3:=oM;refine⟨?_,h.frozenAt _⟩;rw[Nat.zero_add,h.cellAt j d,get_flatK keyC 3 xs.toArray j (by simpa using d)];have e:=fUl xs (j / 3) (j % 3) k l;rw[show j / 3*3+j % 3=j by omega] at e;rw[e];have m:xs.toArray[j / 3]! = xs.getD (j / 3) default:=by simp[List.getD,k]
 rw[m];generalize xs.getD (j / 3) default=x;have:j % 3=0∨j % 3=1∨j % 3=2:=oM;rcases this with h|h|h <;> rw[h] <;> rfl
theorem fGb (w:World) (base g m:Nat) (d:Array K3) (os:Array Obj) (hg:base≤g) (hb:base≤w.heap.size):Go.RowKit.Below base w (sortWorldK keyC 3 w g 0 m d os):=by
 refine⟨rfl,rfl,rfl,?_,fun i e=>?_⟩
 ·simp[sortWorldK,grow,putRowK,putRow,mapBlock,Sort.ahead]
 simp only[sortWorldK,grow,putRowK,putRow,mapBlock,Sort.ahead];rw[Array.getElem?_append_left (by simp;omega),Array.getElem?_modify];rw[if_neg oM]
theorem fV7 (ρ:Ren) (L:SlLaysF0.n6 Tryz.prog ρ) (hf:ρ.f 6=242) (ht:ρ.t 24=254) (xs:List K3) (g cap base:Nat) (W:World) (ho:W.ownsRow base 254 3 (.slice (some ⟨g,0,none⟩) xs.length cap) xs.length (zV xs)) (hbs:base≤W.heap.size) (hn:xs.length≤200) :
  cL 242 #[.slice (some ⟨g,0,none⟩) xs.length cap,.func (.func 229) #[] #[]] W fun e w'=>e =.returned (.tuple #[])∧∃ys:List K3,ys.Perm xs∧ys.Pairwise (fun p q=>ltOf cfK q p=false)∧(∀i,i<ys.length→yU w' g (i*3) (ys.getD i default))∧Go.RowKit.Below base W w':=by
 have G:∀args w,(callFunc 229 args).run Tryz.prog w =.ok (.enter 229 args) w:=enters_of Tryz.func229 kF rfl
 have H:∀w,(isAgg (ρ.t 24)).run Tryz.prog w =.ok true w:=fun w=>by rw[ht];exact Tryz.isAgg254 w
 have I:∀w,(Go.sizeOf (ρ.t 24)).run Tryz.prog w =.ok 3 w:=fun w=>by rw[ht];exact Tryz.sizeOf254 w
 have B:=fR5 ho;have z:=ho.lt g rfl;have m:=AnyQ.slices_SortFunc L 3 H I keyC (fun _=>rfl) fQc cfK swoK 229 #[] g 0 cap xs.toArray W G (fW6 g 0 _ W) B z.2 (by simp;omega);rw[hf] at m;simp only[List.size_toArray] at m;refine m.mono ?_;rintro e w' ⟨rfl,l,n,os,J,K,rfl⟩;obtain⟨s,_,d⟩:=J;simp only[List.size_toArray] at s d;have M:l.toList.Perm xs:=by
  have N:l.extract 0 xs.length=l:=by rw[←s];simp
  have O:xs.toArray.extract 0 xs.length=xs.toArray:=by simp
  rw[N,O] at d;exact d
 have y:HoldsK keyC 3 (sortWorldK keyC 3 W g 0 n l os) g 0 l:=holdsK_grow (enc:=keyC) (k:=3) _ os g 0 l (by simp[putRowK,putRow,mapBlock,Sort.ahead];exact z.2) (holdsK_putRowK (enc:=keyC) (k:=3) (Sort.ahead W n) g 0 xs.toArray l (holdsK_ahead (enc:=keyC) (k:=3) W n g 0 _ B) (by simp[s]));refine⟨rfl,l.toList,M,?_,fun i r=>?_,fGb W base g n l os z.1 hbs⟩
 ·rw[List.pairwise_iff_getElem];intro i j r C A;simp only[Array.length_toList] at r C;have:=K i j (Nat.zero_le _) A oM;simpa [r,C] using this
 simp only[Array.length_toList] at r;have e:l.toList.getD i default=l[i]!:=by simp[List.getD,r]
 rw[e];have D:=(y.cell r (c:=0) oM).1;have E:=(y.cell r (c:=1) oM).1;have F:=(y.cell r (c:=2) oM).1;simp only[Nat.zero_add,Nat.add_zero] at D E F;generalize l[i]! = x at *;exact⟨D,E,F⟩
end
section
variable [dQ Bal] [iH Bal] [dQ Ledg] [iH Ledg] [dQ Leg] [iH Leg]
def getB (a t:Int):List Bal→Option Int
 | []=>none
 | x::r=>if x.ac=a∧x.ast=t then some x.am else getB a t r
theorem fBu (a t:Int):∀xs:List Bal,hasB a t xs=(getB a t xs).getD 0
 | []=>rfl
 | x::r=>by
  simp only[hasB,getB];split
  ·rfl
  exact fBu a t r
theorem fE3 (a t:Int):∀(l r:List Bal),getB a t (l++r)=(getB a t l).or (getB a t r)
 | [],r=>by simp[getB]
 | x::l,r=>by
  simp only[List.cons_append,getB];split
  ·simp
  exact fE3 a t l r
theorem fLl {a t:Int}:∀{xs:List Bal},(∀k,k<xs.length→¬((xs.getD k default).ac=a∧(xs.getD k default).ast=t))→getB a t xs=none
 | [],_=>rfl
 | x::r,h=>by
  have h0:=h 0 (by simp);simp only[List.getD_cons_zero] at h0;simp only[getB,if_neg h0];exact fLl (fun k hk=>by have:=h (k+1) (by simpa using hk);simpa only[List.getD_cons_succ] using this)
theorem fQ0 (xs:List Bal) (k:Nat) (h:k<xs.length):xs.take (k+1)=xs.take k++[xs.getD k default]:=by
 rw[List.take_add_one];simp[List.getD,h]
theorem rising {xs:List Bal} (h:BalsOk xs) {i:Nat}:∀{j:Nat},i<j→j<xs.length→(xs.getD i default).ac*3+(xs.getD i default).ast<(xs.getD j default).ac*3+(xs.getD j default).ast
 | 0,hij,_=>oM
 | j+1,hij,hj=>by
  have h1:=h.ord j hj;have hb:=fHq (b:=xs.getD (j+1) default) (a:=xs.getD j default) (zN (h.ok _ hj)) (zN (h.ok _ oM));have h2:(xs.getD j default).ac*3+(xs.getD j default).ast<(xs.getD (j+1) default).ac*3+(xs.getD (j+1) default).ast:=by
   refine Int.not_le.1 (fun h=>?_);rw[hb.2 h] at h1;cases h1
  by_cases e:i=j
  ·subst e;exact h2
  have:=rising h (i:=i) (j:=j) oM oM;omega
theorem fR2 {xs:List Bal} {k j:Nat} (h:j<k):(xs.take k).getD j default=xs.getD j default:=by
 simp[List.getD,h]
theorem fR1 {xs:List Bal} (h:BalsOk xs) {j:Nat} (hj:j<xs.length):getB (xs.getD j default).ac (xs.getD j default).ast (xs.take j)=none:=by
 apply fLl;intro k e;have d:k<j:=by rw[List.length_take] at e;omega
 rw[fR2 d];have:=rising h d hj;rintro⟨g,l⟩;rw[g,l] at this;omega
def fD1 (g:List (List Bal)) (i j:Nat) (s a t:Int):Option Int:=if 0≤s∧s<i then getB a t (g.getD s.toNat default) else if s=i then getB a t ((g.getD i default).take j) else none
def mE (g:List (List Bal)) (s a t:Int):Option Int:=if 0≤s∧s<g.length then getB a t (g.getD s.toNat default) else none
theorem fNi (g:List (List Bal)) (s a t:Int):fD1 g 0 0 s a t=none:=by
 unfold fD1;rw[if_neg oM];split
 ·rfl
 rfl
theorem fRi {g:List (List Bal)} {i j:Nat} (h:BalsOk (g.getD i default)) (hj:j<(g.getD i default).length) (s a t:Int) :
  fD1 g i (j+1) s a t=upd3 (fD1 g i j) i ((g.getD i default).getD j default).ac ((g.getD i default).getD j default).ast (some ((g.getD i default).getD j default).am) s a t:=by
 have l:=fR1 h hj;unfold upd3 fD1;rw[fQ0 _ _ hj,fE3];by_cases k:0≤s∧s<(i:Int)
 ·rw[if_pos k,if_neg (by rintro⟨rfl,_⟩;omega),if_pos k]
 rw[if_neg k,if_neg k];by_cases e:s=i
 ·
  rw[if_pos e,if_pos e];by_cases d:a=((g.getD i default).getD j default).ac∧t=((g.getD i default).getD j default).ast
  ·rw[if_pos ⟨e,d.1,d.2⟩,d.1,d.2,l];simp[getB]
  rw[if_neg (fun h=>d h.2)];simp only[getB];rw[if_neg (fun h=>d ⟨h.1.symm,h.2.symm⟩)];simp
 rw[if_neg e,if_neg e,if_neg (fun h=>e h.1)]
theorem fRh (g:List (List Bal)) (i:Nat) (s a t:Int):fD1 g (i+1) 0 s a t=fD1 g i (g.getD i default).length s a t:=by
 unfold fD1;rw[List.take_length];by_cases e:s=i
 ·subst e;rw[if_pos oM,if_neg oM,if_pos rfl];simp
 by_cases d:0≤s∧s<(i:Int)
 ·rw[if_pos oM,if_pos d]
 rw[if_neg oM,if_neg d,if_neg e];split
 ·rfl
 rfl
theorem fTv (g:List (List Bal)) (s a t:Int):mE g s a t=fD1 g g.length 0 s a t:=by
 unfold fD1 mE;split
 ·rfl
 split
 ·rfl
 rfl
end
section
variable [dQ Bal] [iH Bal] [dQ Ledg] [iH Ledg] [dQ Leg] [iH Leg]
theorem fLy (s a t:Int) (w:World):RI 233 #[iV s,iV a,iV t] w (kv s a t):=by
 go_enter Tryz.func233,Tryz.ntmps233;go_wp2;refine bodyPost_ret (v:=.agg #[iV s,iV a,iV t]) (by simp[results,Tryz.results233,go_sem]) rfl ⟨rfl,hE⟩
structure BkC (W:World) (B n:Nat):Prop where
 res:W.heap[B+1]? = some (.cells #[.int .i64 0,.map none] 227)
 bk:W.heap[B+1+1+1]? = some (.cells #[.int .i64 n,.map (some (B+1+1))] 227)
theorem fB1 {W:World} {b:Nat} {o:Obj} (h:W.heap[b]? = some o):b<W.heap.size:=by
 rcases Nat.lt_or_ge b W.heap.size with d|d
 ·exact d
 rw[Array.getElem?_eq_none d] at h;cases h
theorem fP6 {w:World} {o:Obj} {b:Nat} (h:b=w.heap.size):(w.alloc o).heap[b]? = some o:=by rw[h];exact(MapKept.heap_alloc w o).1
theorem fP7 {w:World} {o:Obj} {b:Nat} (h:b<w.heap.size):(w.alloc o).heap[b]? = w.heap[b]?:=(MapKept.heap_alloc w o).2 b h
theorem BkC.below {W W':World} {B n:Nat} (h:BkC W B n) (hb:aa W W'):BkC W' B n:=
 ⟨(hb.block _ (fB1 h.res)).trans h.res,(hb.block _ (fB1 h.bk)).trans h.bk⟩
theorem BkC.grown {W W':World} {B n:Nat} (h:BkC W B n) (hg:W.grownBy W' (some (B+1+1))):BkC W' B n:=
 ⟨(hg.block _ (fB1 h.res) (by simp)).trans h.res,(hg.block _ (fB1 h.bk) (by simp)).trans h.bk⟩
theorem cellOf {W:World} {b t:Nat} {cs:Array Value} (h:W.heap[b]? = some (.cells cs t)) (i:Nat):W.cell? ⟨b,i,none⟩=cs[i]?:=by
 simp[World.cell?,h]
theorem unfrozen {W:World} {b t:Nat} {cs:Array Value} (h:W.heap[b]? = some (.cells cs t)) (i:Nat):W.frozen? ⟨b,i,none⟩=false:=by
 simp[World.frozen?,h]
theorem fRg (x:Value) (g:Ledg) (w:World) (hx:ledgR.V w x g) (h0:uH g=0) :
  cL 213 #[x] w fun e w'=>∃b,e =.returned (.agg #[iV g.shards.length,.map (some b)])∧w.heap.size≤b∧Book w' b 54 (mE g.shards)∧aa w w':=by
 obtain⟨a9,ab,F⟩:=fEd h0;obtain⟨u,rfl,ax,cx,rfl,ad,U,G⟩:=hx;unfold maxLen at U;have X:Hid (∀k,k<g.shards.length→BalsOk (g.shards.getD k default)):=F;clear F h0;generalize H:g.shards.length=n at *;have HN:Hid (g.shards.length=n):=H;clear H;have ae:=@run_makeMap Tryz.prog;go_enter Tryz.func213,Tryz.ntmps213;go_wp2;go_loopw [16] (fun i w'=>∃k:Nat,k≤n∧i =.int .i64 k∧Book w' (w.heap.size+1+1) (k*18) (fD1 g.shards k 0)∧BkC w' w.heap.size n∧aa w w') (fun i _=>n-(intOf i).toNat)
 case atStart=>
  refine⟨0,oM,rfl,?_,⟨?_,?_⟩,hE⟩
  ·have h1:=fTw ((w.alloc (Obj.cells #[Value.slice ax n cx] 234)).alloc (Obj.cells #[Value.int IntKind.i64 0,Value.map none] 227));simp only[World.size_alloc] at h1;exact(h1.below (bA (bR _ _) _)).cast (fun s a t _=>fNi _ _ _ _)
  ·exact(fP7 (by simp)).trans ((fP7 (by simp)).trans (fP6 (by simp)))
  exact fP6 (by simp)
 obtain⟨k,hk,rfl,hB,y,I⟩:=hrel;by_cases J:k<n
 ·
  obtain⟨bx,ox,u,rfl,_,hc,K⟩:=G k J;have c1:=cK I (fT0 hc);have L:BalsOk (g.shards.getD k default):=X.out k J;have z:Hid (BalsOk (g.shards.getD k default)):=L;clear hc G L;obtain⟨l,Y⟩:∃l,l=g.shards.getD k default:=⟨_,rfl⟩
  rw[←Y] at K;have E:Hid (l=g.shards.getD k default):=Y;clear Y;obtain⟨a',c',rfl,af,Z,K⟩:=K;unfold maxLen at Z;have a8:l.length≤18:=by rw[E.out];exact z.out.len
  generalize M:l.length=m at *;have HM:Hid (l.length=m):=M;clear M;go_wp2;go_loopw [23] (fun i w'=>∃j:Nat,j≤m∧i =.int .i64 j∧Book w' (w.heap.size+1+1) (k*18+j) (fD1 g.shards k j)∧BkC w' w.heap.size n∧aa w w') (fun i _=>m-(intOf i).toNat)
  case atStart=>exact⟨0,oM,rfl,hB,y,I⟩
  obtain⟨j,hj,rfl,p,r,A⟩:=hrel;by_cases d:j<m
  ·
   obtain⟨b5,o5,rfl,g1⟩:=K j d;obtain⟨q,T⟩:∃q,q=l.getD j default:=⟨_,rfl⟩
   rw[←T] at g1;have HQ:Hid (q=l.getD j default):=T;have N:vM q=true:=by rw[T,E.out];exact z.out.ok j (by rw[←E.out,HM.out];exact d)
   clear T K;obtain⟨⟨⟨p1,p2⟩,p3,p4⟩,p5,p6⟩:=balOk_iff.1 N;have hw:kwf k q.ac q.ast:=⟨fAb oM oM,fAb oM oM,fAb oM oM⟩;have hv:(Lit.int .i64 q.am).wf=true:=fAb oM oM;obtain⟨e1,e2,e3⟩:=kJ A g1;have ag:w.heap.size+1+1<wr.heap.size:=p.lt;have h0:aa w (wr.alloc (.cells #[iV q.ac,iV q.ast,iV q.am] 103))∧(wr.alloc (.cells #[iV q.ac,iV q.ast,iV q.am] 103)).cell? ⟨w.heap.size+1+1+1,1,none⟩=some (.map (some (w.heap.size+1+1)))∧(wr.alloc (.cells #[iV q.ac,iV q.ast,iV q.am] 103)).cell? ⟨wr.heap.size,0,none⟩=some (iV q.ac)∧(wr.alloc (.cells #[iV q.ac,iV q.ast,iV q.am] 103)).cell? ⟨wr.heap.size,1,none⟩=some (iV q.ast)∧(wr.alloc (.cells #[iV q.ac,iV q.ast,iV q.am] 103)).cell? ⟨wr.heap.size,2,none⟩=some (iV q.am):=
    ⟨hE,cK (bA (bR _ _) _) ((cellOf r.bk 1).trans rfl),sG,by simp[go_sem],sG⟩
   have a0:=p.below (bA (bR _ _) (.cells #[iV q.ac,iV q.ast,iV q.am] 103));have a1:=r.below (bA (bR _ _) (.cells #[iV q.ac,iV q.ast,iV q.am] 103));have a2:k*18+j<maxLen:=by unfold maxLen;omega
   have y1:some (w.heap.size+1+1+1)≠some (w.heap.size+1+1):=by simp
   have y2:some wr.heap.size≠some (w.heap.size+1+1):=by simp;omega
   have y3:w.heap.size≤w.heap.size+1+1:=oM;go_wp2;generalize hW:wr.alloc (.cells #[iV q.ac,iV q.ast,iV q.am] 103)=W at *;clear hW e1 e2 e3 g1 p r A c1;go_region_held3 (fun w'=>aa w w'∧cW w' (w.heap.size+1+1+1) 1 (.map (some (w.heap.size+1+1)))∧cI w' wr.heap.size 0 q.ac∧cI w' wr.heap.size 1 q.ast∧cI w' wr.heap.size 2 q.am)
    ((first|exact uL h0 (Below.drew (bR _ _))|exact B|exact C))
    (first|(go_at_call 233;refine(fLy _ _ _ _).mono ?_;rintro e w3 ⟨rfl,D⟩;have B:=uL (uL h0 (Below.drew (bR _ _))) D;obtain⟨w4,O,a3,R⟩:=((a0.below (Below.drew (bR _ _))).below D).put hw hv a2;have C:=fZj B R y3 y1 y2 y2 y2))
   have a4:=((a1.below (Below.drew (bR _ _))).below D).grown R;have a5:=C.1;clear O B C;go_wp2;refine⟨⟨j+1,by omega,by go_num,?_,a4,a5⟩,mI⟩;refine a3.cast (fun s a t _=>?_);rw[fRi z.out (by rw[←E.out,HM.out];exact d),←E.out,←HQ.out]
  go_wp2;have a6:j=m:=oM;subst a6;refine⟨⟨k+1,by omega,by go_num,?_,r,A⟩,mI⟩;refine(p.mono oM).cast (fun s a t _=>?_);rw[fRh,←E.out,HM.out]
 have a7:k=n:=oM;subst a7;have d0:=cellOf y.bk 0;have d1:=cellOf y.bk 1;have r0:=cellOf y.res 0;have r1:=cellOf y.res 1;have f0:=unfrozen y.res 0;have f1:=unfrozen y.res 1;simp at d0 d1 r0 r1;go_wp2;refine bodyPost_ret (v:=.agg #[iV k,.map (some (w.heap.size+1+1))]) ?_ rfl ⟨w.heap.size+1+1,rfl,by omega,?_,hE⟩
 ·simp[results,Tryz.results213,go_sem,r0,r1]
 refine Book.cast (((hB.turned (Mod.of_set _ _ _) (by simp)).turned (Mod.of_set _ _ _) (by simp)).mono oM) (fun s a t _=>?_);rw[fTv,HN.out]
theorem fBz (a s:Int) (w:World):cL 164 #[iV a,iV s] w fun e w'=>e =.returned (.bool (rR a s))∧w'=w:=by
 unfold rR;cases h1:inB a 0 5;all_goals
  go_enter Tryz.func164,Tryz.ntmps164;go_wp2_with (go_at_call 88;refine(mF _ _ _ _).mono ?_;rintro e w' ⟨rfl,rfl⟩);go_ret;exact⟨by simp,rfl⟩
theorem yS (x:Bal) (w:World):RI 138 #[.agg #[iV x.ac,iV x.ast,iV x.am]] w (.bool (vM x)):=by
 unfold vM rR;cases h1:inB x.ac 0 5
 ·go_enter Tryz.func138,Tryz.ntmps138;go_wp2_with (go_at_call 165;refine(yR _ _).mono ?_;rintro e w' ⟨rfl,rfl⟩);go_ret;exact⟨by simp,bA (bR _ _) _⟩
 cases h2:inB x.ast 0 2;all_goals
  go_enter Tryz.func138,Tryz.ntmps138;go_wp2_with (first|(go_at_call 165;refine(yR _ _).mono ?_;rintro e w' ⟨rfl,rfl⟩)|(go_at_call 166;refine(fFk _ _).mono ?_;rintro e w' ⟨rfl,rfl⟩)|(go_at_call 106;refine(qR _ _ _ _).mono ?_;rintro e w' ⟨rfl,rfl⟩));go_ret;exact⟨by simp,bA (bR _ _) _⟩
theorem fD8 (x y:Bal) (w:World):RI 139 #[.agg #[iV x.ac,iV x.ast,iV x.am],.agg #[iV y.ac,iV y.ast,iV y.am]] w (.bool (behind x y)):=by
 unfold behind;go_enter Tryz.func139,Tryz.ntmps139;go_wp2;all_goals
  go_ret;exact⟨by simp_all,bA (bA (bR _ _) _) _⟩
theorem fBl {xs:List Bal} {k:Nat} (h:vM (xs.getD k default)=false):zJ xs k=3:=by unfold zJ;rw[h];rfl
theorem fEo {xs:List Bal} (h:vM (xs.getD 0 default)=true):zJ xs 0=0:=by simp only[zJ,h];simp
theorem fAe {xs:List Bal} {k:Nat} (h:vM (xs.getD (k+1) default)=true):zJ xs (k+1)=if behind (xs.getD (k+1) default) (xs.getD k default)=false then 1 else 0:=by
 simp only[zJ,h,if_true,Nat.add_sub_cancel];simp
theorem uJ {xs:List Bal} {k:Nat} {c:Int} (h18:xs.length≤18) (hk:k<xs.length) (h:fI (zJ xs) k=0) (hc:zJ xs k=c) (h0:c≠0):gZ xs=c:=by
 rw[gZ,if_neg oM,mV h (by rw[hc];exact h0) _ hk,hc]
theorem fWz {xs:List Bal} {k:Nat} (h:zJ xs k=0):vM (xs.getD k default)=true:=by
 cases e:vM (xs.getD k default) with
 | true=>rfl
 | false=>rw[fBl e] at h;omega
theorem zI (x:Value) (xs:List Bal) (w:World) (hx:balsR.V w x xs) :
  RI 137 #[x] w (iV (gZ xs)):=by
 obtain⟨X,Y,rfl,M,C,hx⟩:=hx;unfold maxLen at C;by_cases D:18<xs.length
 ·
  have e:gZ xs=2:=by simp[gZ,D]
  rw[e];go_enter Tryz.func137,Tryz.ntmps137;go_wp2;go_ret;exact⟨rfl,bR _ _⟩
 generalize s:xs.length=n at *;have p:Hid (xs.length=n):=s;clear s;go_enter Tryz.func137,Tryz.ntmps137;go_wp2;go_loopw [3] (fun i w'=>∃k:Nat,k≤n∧i =.int .i64 k∧fI (zJ xs) k=0∧aa w w') (fun i _=>n-(intOf i).toNat)
 case atStart=>exact⟨0,oM,rfl,rfl,bR _ _⟩
 obtain⟨k,Z,rfl,I,d⟩:=hrel;have q:Hid (fI (zJ xs) k=0):=I;clear I;by_cases j:k<n
 ·
  obtain⟨N,ox,rfl,J⟩:=hx k j;obtain⟨l,E⟩:∃l,l=xs.getD k default:=⟨_,rfl⟩
  rw[←E] at J;have y:Hid (l=xs.getD k default):=E;clear E;obtain⟨O,R,T⟩:=kJ d J;cases h1:rR l.ac l.ast
  ·clear hx;go_wp2_with (first|(go_at_call 164;refine(fBz _ _ _).mono ?_;rintro e w' ⟨rfl,rfl⟩)|(go_at_call 88;refine(mF _ _ _ _).mono ?_;rintro e w' ⟨rfl,rfl⟩));go_ret;refine⟨?_,bA d _⟩;rw[uJ (k:=k) (c:=3) (by rw[p.out];omega) (by rw[p.out];exact j) q.out (fBl (by rw[←y.out];simp[vM,h1])) oM];rfl
  cases h2:inB l.am 1 1000000000000
  ·clear hx;go_wp2_with (first|(go_at_call 164;refine(fBz _ _ _).mono ?_;rintro e w' ⟨rfl,rfl⟩)|(go_at_call 88;refine(mF _ _ _ _).mono ?_;rintro e w' ⟨rfl,rfl⟩));go_ret;refine⟨?_,bA d _⟩;rw[uJ (k:=k) (c:=3) (by rw[p.out];omega) (by rw[p.out];exact j) q.out (fBl (by rw[←y.out];simp[vM,h2])) oM];rfl
  have r:vM (xs.getD k default)=true:=by rw[←y.out];simp[vM,h1,h2]
  cases k with
  | zero=>
   clear hx;simp only[Nat.zero_mul,Nat.add_zero] at O R T;go_wp2_with (first|(go_at_call 164;refine(fBz _ _ _).mono ?_;rintro e w' ⟨rfl,rfl⟩)|(go_at_call 88;refine(mF _ _ _ _).mono ?_;rintro e w' ⟨rfl,rfl⟩));go_quiet (fail);go_wp2;exact⟨⟨1,by omega,by go_num,gU q.out (fEo r),qX (bA d _) _⟩,mI⟩
  | succ m=>
   obtain⟨b',o',he,K⟩:=hx m oM;simp only[Option.some.injEq,Addr.mk.injEq,and_true] at he;obtain⟨rfl,rfl⟩:=he;have g:vM (xs.getD m default)=true:=fWz (vK q.out m oM);obtain⟨o,F⟩:∃o,o=xs.getD m default:=⟨_,rfl⟩
   rw[←F] at K g;have L:Hid (o=xs.getD m default):=F;clear F hx;obtain⟨U,d2,d3⟩:=kJ d K;obtain⟨⟨⟨p1,p2⟩,p3,p4⟩,p5,p6⟩:=balOk_iff.1 g;obtain⟨⟨q1,q2⟩,q3,q4⟩:=keyOk_iff.1 h1;have i1:(m:Int)<(n:Int):=oM;have z5:N<wr.heap.size:=wL wr _ U;have i2:m<n:=oM;have v1:IntKind.i64.wrap (m:Int)=m:=qY oM oM;have v2:IntKind.i64.wrap (l.ac*3)=l.ac*3:=qY oM oM;have v3:IntKind.i64.wrap (l.ac*3+l.ast)=l.ac*3+l.ast:=qY oM oM;have v4:IntKind.i64.wrap (o.ac*3)=o.ac*3:=qY oM oM;have v5:IntKind.i64.wrap (o.ac*3+o.ast)=o.ac*3+o.ast:=qY oM oM;have z:=fHq (b:=l) (a:=o) h1 (zN g);have A:Hid (behind l o=false↔l.ac*3+l.ast≤o.ac*3+o.ast):=z;clear z;go_wp2_with (first|(go_at_call 164;refine(fBz _ _ _).mono ?_;rintro e w' ⟨rfl,rfl⟩)|(go_at_call 88;refine(mF _ _ _ _).mono ?_;rintro e w' ⟨rfl,rfl⟩));go_quiet (fail);go_wp2
   ·
    rename_i B;go_ret;refine⟨?_,qX (bA d _) _⟩;have G:zJ xs (m+1)=1:=by rw[fAe r,←y.out,←L.out,if_pos (A.out.2 B)]
    rw[uJ (k:=m+1) (c:=1) (by rw[p.out];omega) (by rw[p.out];exact j) q.out G oM];rfl
   rename_i B;refine⟨⟨m+1+1,by omega,by go_num,gU q.out ?_,qX (bA d _) _⟩,mI⟩;rw[fAe r,←y.out,←L.out,if_neg (fun e=>by have:=A.out.1 e;omega)]
 go_wp2;go_ret;have H:k=n:=oM;subst H;refine⟨?_,d⟩;rw[gZ,if_neg (by rw[p.out];omega),p.out,q.out];rfl
theorem zH (x:Value) (xs:List Bal) (w:World) (hx:balsR.V w x xs) :
  RI 112 #[x] w (iV (gZ xs)):=by
 obtain⟨ax,cx,rfl,a0,E,hx⟩:=hx;unfold maxLen at E;by_cases F:18<xs.length
 ·
  have e:gZ xs=2:=by simp[gZ,F]
  rw[e];go_enter Tryz.func112,Tryz.ntmps112;go_wp2;go_ret;exact⟨rfl,bR _ _⟩
 generalize r:xs.length=n at *;have q:Hid (xs.length=n):=r;clear r;go_enter Tryz.func112,Tryz.ntmps112;go_wp2;go_loopw [10] (fun i w'=>∃k:Nat,k≤n∧i =.int .i64 k∧fI (zJ xs) k=0∧aa w w') (fun i _=>n-(intOf i).toNat)
 case atStart=>exact⟨0,oM,rfl,rfl,bR _ _⟩
 obtain⟨k,hk,rfl,M,g⟩:=hrel;have s:Hid (fI (zJ xs) k=0):=M;clear M;by_cases p:k<n
 ·
  obtain⟨B,G,rfl,H⟩:=hx k p;obtain⟨l,I⟩:∃l,l=xs.getD k default:=⟨_,rfl⟩
  rw[←I] at H;have C:Hid (l=xs.getD k default):=I;clear I;obtain⟨N,O,R⟩:=kJ g H;cases y:vM l
  ·clear hx;go_wp2_with (go_at_call 138;refine(yS l _).mono ?_;rintro e w' ⟨rfl,hb⟩);go_ret;refine⟨?_,bS (bA g _) hb⟩;rw[uJ (k:=k) (c:=3) (by rw[q.out];omega) (by rw[q.out];exact p) s.out (fBl (by rw[←C.out];exact y)) oM];rfl
  have j:vM (xs.getD k default)=true:=by rw[←C.out];exact y
  cases k with
  | zero=>
   clear hx;simp only[Nat.zero_mul,Nat.add_zero] at N O R;go_wp2_with (go_at_call 138;refine(yS l _).mono ?_;rintro e w' ⟨rfl,hb⟩);go_quiet (fail);go_wp2;exact⟨⟨1,by omega,by go_num,gU s.out (fEo j),qX (bS (bA g _) hb) _⟩,mI⟩
  | succ m=>
   obtain⟨b',o',he,D⟩:=hx m oM;simp only[Option.some.injEq,Addr.mk.injEq,and_true] at he;obtain⟨rfl,rfl⟩:=he;obtain⟨o,J⟩:∃o,o=xs.getD m default:=⟨_,rfl⟩
   rw[←J] at D;have T:Hid (o=xs.getD m default):=J;clear J hx;obtain⟨d1,d2,d3⟩:=kJ g D;have i1:(m:Int)<(n:Int):=oM;have v1:IntKind.i64.wrap (m:Int)=m:=qY oM oM;go_wp2_with (go_at_call 138;refine(yS l _).mono ?_;rintro e w' ⟨rfl,hb⟩);have U:=bS (bA g _) hb;have X:=kJ U D;have Y:uX w' wr.heap.size 0 l:=⟨cK hb sG,cK hb sG,cK hb sG⟩;clear hb d1 d2 d3 N O R H D;have z5:B<w'.heap.size:=wL w' _ X.1;have z6:wr.heap.size<w'.heap.size:=wL w' _ Y.1;go_region_held3 (fun d=>aa w' d∧(cI d wr.heap.size 0 l.ac∧cI d wr.heap.size 1 l.ast∧cI d wr.heap.size 2 l.am)∧(cI d B (G+m*3) o.ac∧cI d B (G+m*3+1) o.ast∧cI d B (G+m*3+2) o.am))
    ((refine fPo ?_ Y X;repeat (first|exact bR _ _|assumption|refine bD ?_|refine bA ?_ _|refine bS ?_ (by assumption))))
    (first|(go_at_call 139;refine(fD8 l o _).mono ?_;rintro e w3 ⟨rfl,a4⟩))
   rename_i Z;have z:=bS U Z.1;clear Z;cases A:behind l o
   ·
    go_wp2;go_ret;refine⟨?_,z⟩;have K:zJ xs (m+1)=1:=by rw[fAe j,←C.out,←T.out,if_pos A]
    rw[uJ (k:=m+1) (c:=1) (by rw[q.out];omega) (by rw[q.out];exact p) s.out K oM];rfl
   go_wp2;refine⟨⟨m+1+1,by omega,by go_num,gU s.out ?_,z⟩,mI⟩;rw[fAe j,←C.out,←T.out,if_neg (by rw[A];simp)]
 go_wp2;go_ret;have L:k=n:=oM;subst L;refine⟨?_,g⟩;rw[gZ,if_neg (by rw[q.out];omega),q.out,s.out];rfl
theorem fL3 (x:Value) (xs:List Bal) (a s:Int) (w:World) (hx:balsR.V w x xs) :
  cL 186 #[x,.int .i64 a,.int .i64 s] w fun e w'=>e =.returned (.int .i64 (hasB a s xs))∧w'=w:=by
 obtain⟨D,E,rfl,C,p,hx⟩:=hx;unfold maxLen at p;generalize d:xs.length=n at *;have r:Hid (xs.length=n):=d;clear d;go_enter Tryz.func186,Tryz.ntmps186;go_wp2;go_loopw [7] (fun i w'=>∃k:Nat,k≤n∧i =.int .i64 k∧hasB a s (xs.drop k)=hasB a s xs∧w'=w) (fun i _=>n-(intOf i).toNat)
 case atStart=>exact⟨0,oM,rfl,rfl,rfl⟩
 obtain⟨k,F,rfl,y,rfl⟩:=hrel;have j:Hid (hasB a s (xs.drop k)=hasB a s xs):=y;clear y;by_cases g:k<n
 ·
  obtain⟨G,H,rfl,z⟩:=hx k g;have m:Hid (hasB a s (xs.drop k)=if (xs.getD k default).ac=a∧(xs.getD k default).ast=s then (xs.getD k default).am else hasB a s (xs.drop (k+1))):=fUn (by rw[r.out];exact g);obtain⟨l,A⟩:∃l,l=xs.getD k default:=⟨_,rfl⟩
  rw[←A] at z m;clear A hx;obtain⟨I,J,K⟩:=z;go_wp2
  ·rename_i q B;go_ret;refine⟨?_,rfl⟩;rw[←j.out,m.out,if_pos ⟨q,by simpa using B⟩];rfl
  ·rename_i q B;refine⟨⟨k+1,by omega,by go_num,?_,trivial⟩,mI⟩;rw[←j.out,m.out,if_neg (fun h=>by simp_all)]
  rename_i q;refine⟨⟨k+1,by omega,by go_num,?_,trivial⟩,mI⟩;rw[←j.out,m.out,if_neg (fun h=>by simp_all)]
 go_wp2;go_ret;refine⟨?_,rfl⟩;rw[←j.out,List.drop_eq_nil_of_le (by rw[r.out];omega)];rfl
variable [dQ Cont] [iH Cont]
def canV (v:Int):Int:=if v<0 then 6 else if 1000000000000<v then 3 else 0
def canB (xs:List Bal) (l:Leg):Int:=canV (hasB l.ac l.ast xs+l.am)
def canL (f:Int→Int→Int→Option Int) (l:Leg):Int:=canV ((f l.sh l.ac l.ast).getD 0+l.am)
def fQz (xs:List Bal):Prop:=∀a t,0≤hasB a t xs∧hasB a t xs≤1000000000000
theorem fNx {a t:Int}:∀{xs:List Bal},(∀k,k<xs.length→vM (xs.getD k default)=true)→0≤hasB a t xs∧hasB a t xs≤1000000000000
 | [],_=>by simp[hasB]
 | x::r,h=>by
  simp only[hasB];split
  ·have:=(balOk_iff.1 (h 0 (by simp))).2;simp only[List.getD_cons_zero] at this;omega
  exact fNx (fun k hk=>by have:=h (k+1) (by simpa using hk);simpa only[List.getD_cons_succ] using this)
theorem fF9 {xs:List Bal} (h:BalsOk xs):fQz xs:=fun _ _=>fNx h.ok
theorem fFo {w w':World} {b o:Nat} {l:Leg} (hb:aa w w') (h:mM w b o l) :
  aa w w'∧w'.cell? ⟨b,o,none⟩=some (iV l.sh)∧w'.cell? ⟨b,o+1,none⟩=some (iV l.ac)∧w'.cell? ⟨b,o+2,none⟩=some (iV l.ast)∧w'.cell? ⟨b,o+3,none⟩=some (iV l.am):=
 ⟨hb,fJ hb h⟩
theorem fH9 (x y:Value) (xs:List Bal) (ls:List Leg) (w:World) (hx:balsR.V w x xs) (hy:legsR.V w y ls) (hs:fQz xs) (ha:small ls) :
  RI 184 #[x,y] w (iV (fI (fun k=>canB xs (ls.getD k default)) ls.length)):=by
 have N:=hx;obtain⟨ax,cx,rfl⟩:=fQ hx;obtain⟨ay,cy,rfl,O,D,hy⟩:=hy;unfold maxLen at D;have R:Hid (small ls):=ha;have E:Hid (fQz xs):=hs;clear ha hs hx;generalize m:ls.length=n at *;have T:Hid (ls.length=n):=m;clear m;go_enter Tryz.func184,Tryz.ntmps184;go_wp2;go_loopw [5] (fun i w'=>∃k:Nat,k≤n∧i =.int .i64 k∧fI (fun k=>canB xs (ls.getD k default)) k=0∧aa w w') (fun i _=>n-(intOf i).toNat)
 case atStart=>exact⟨0,oM,rfl,rfl,bR _ _⟩
 obtain⟨k,hk,rfl,hs,g⟩:=hrel;have B:Hid (fI (fun k=>canB xs (ls.getD k default)) k=0):=hs;clear hs;by_cases j:k<n
 ·
  obtain⟨p,q,rfl,K⟩:=hy k j;have r:=R.out k (by rw[T.out];exact j);obtain⟨l,F⟩:∃l,l=ls.getD k default:=⟨_,rfl⟩
  rw[←F] at K r;have U:Hid (l=ls.getD k default):=F;clear F hy;have s:=E.out l.ac l.ast;have X:=fJ g K;obtain⟨Y,Z,a3,a4⟩:=X;have G:=balsR.below N g;obtain⟨v,A⟩:∃v,v=hasB l.ac l.ast xs:=⟨_,rfl⟩
  rw[←A] at s;have HV:Hid (v=hasB l.ac l.ast xs):=A;have L:IntKind.i64.wrap (v+l.am)=v+l.am:=qY oM oM;have i1:(k:Int)<(n:Int):=oM;have d:Hid (canB xs (ls.getD k default)=canV (v+l.am)):=by show _=_;rw[←U.out,canB,HV.out]
  clear r s;have g3:mM wr p (q+k*4) l:=⟨Y,Z,a3,a4⟩;go_wp2;go_region_held3 (fun w'=>aa wr w'∧cI w' p (q+k*4) l.sh∧cI w' p (q+k*4+1) l.ac∧cI w' p (q+k*4+2) l.ast∧cI w' p (q+k*4+3) l.am)
   ((refine fFo ?_ g3;exact qT))
   (first|(go_at_call 186;refine(fL3 _ xs l.ac l.ast _ (balsR.below G (Below.drew (bR _ _)))).mono ?_;rw[←A];rintro e w3 ⟨rfl,rfl⟩))
  rename_i M;have H:=bS g M.1;clear M;rw[←A,L];clear A L;generalize v+l.am=z at *;go_wp2
  ·rename_i C;go_ret;refine⟨?_,H⟩;rw[mV B.out (by rw[d.out,canV,if_pos C];omega) _ j,d.out,canV,if_pos C];rfl
  ·rename_i C I;go_ret;refine⟨?_,H⟩;rw[mV B.out (by rw[d.out,canV,if_neg oM,if_pos I];omega) _ j,d.out,canV,if_neg oM,if_pos I];rfl
  rename_i C I;refine⟨⟨k+1,by omega,by go_num,gU B.out ?_,H⟩,mI⟩;rw[d.out,canV,if_neg oM,if_neg oM]
 go_wp2;go_ret;have J:k=n:=oM;subst J;refine⟨?_,g⟩;rw[B.out];rfl
theorem fUm {g:Ledg} {l:Leg} (h0:0≤l.sh) (h:l.sh<g.shards.length):canB (g.shards.getD l.sh.toNat default) l=canL (mE g.shards) l:=by
 rw[canB,canL,fBu,mE,if_pos ⟨h0,h⟩]
theorem fRk {g:Ledg} (h:uH g=0):∀k,k<g.shards.length→fQz (g.shards.getD k default):=fun k d=>fF9 ((fEd h).2.2 k d)
theorem fDo (l:Leg) (w:World):RI 226 #[.agg #[iV l.sh,iV l.ac,iV l.ast,iV l.am]] w (kv l.sh l.ac l.ast):=by
 go_enter Tryz.func226,Tryz.ntmps226;go_wp2_with fail;refine(fLy _ _ _ _).mono ?_;rintro e g ⟨rfl,d⟩;have j:aa w g:=hE;have k:cI g (w.heap.size+1) 0 0:=cK d sG;have m:cI g (w.heap.size+1) 1 0:=cK d sG;have n:cI g (w.heap.size+1) 2 0:=cK d sG;have p:aq g (w.heap.size+1):=ap d;clear d;unfold kv;go_wp2;refine bodyPost_ret (v:=.agg #[iV l.sh,iV l.ac,iV l.ast]) ?_ rfl ⟨rfl,hE⟩;simp[results,Tryz.results226,go_sem,k,m,n]
def fV4 (f:Int→Int→Int→Option Int):Prop:=∀s a t,0≤(f s a t).getD 0∧(f s a t).getD 0≤1000000000000
theorem fV5 {g:Ledg} (h:uH g=0):fV4 (mE g.shards):=fun s a t=>by
 unfold mE;split
 ·rename_i d;rw[←fBu];exact fRk h s.toNat oM a t
 simp
theorem fD0 (n:Nat) (b m:Nat) (f:Int→Int→Int→Option Int) (y:Value) (ls:List Leg) (w:World) (hb:Book w b m f) (hy:legsR.V w y ls) (hs:fV4 f) (hok:∀k,k<ls.length→gI (ls.getD k default)=0) :
  RI 212 #[.agg #[.int .i64 n,.map (some b)],y] w (.int .i64 (fI (fun k=>canL f (ls.getD k default)) ls.length)):=by
 obtain⟨ay,cy,rfl,X,E,hy⟩:=hy;unfold maxLen at E;have F:Hid (∀k,k<ls.length→gI (ls.getD k default)=0):=hok;have G:Hid (fV4 f):=hs;clear hs hok;generalize r:ls.length=q at *;have HN:Hid (ls.length=q):=r;clear r;go_enter Tryz.func212,Tryz.ntmps212;go_wp2;go_loopw [10] (fun i w'=>∃k:Nat,k≤q∧i =.int .i64 k∧fI (fun k=>canL f (ls.getD k default)) k=0∧w'.cell? ⟨w.heap.size,1,none⟩=some (.map (some b))∧aa w w') (fun i _=>q-(intOf i).toNat)
 case atStart=>exact⟨0,oM,rfl,rfl,by simp[go_sem],hE⟩
 obtain⟨k,hk,rfl,hs,j,s⟩:=hrel;have B:Hid (fI (fun k=>canL f (ls.getD k default)) k=0):=hs;clear hs;by_cases g:k<q
 ·
  obtain⟨bx,ox,rfl,H⟩:=hy k g;have x:=F.out k g;obtain⟨l,I⟩:∃l,l=ls.getD k default:=⟨_,rfl⟩
  rw[←I] at H x;have Y:Hid (l=ls.getD k default):=I;clear I hy;obtain⟨⟨s0,s1⟩,⟨t0,t1⟩,⟨t2,t3⟩,⟨t4,t5⟩,t6⟩:=kC x;have J:=G.out l.sh l.ac l.ast;obtain⟨Z,a2,a3,a4⟩:=fJ s H;have hw:kwf l.sh l.ac l.ast:=⟨fAb oM oM,fAb oM oM,fAb oM oM⟩;obtain⟨v,C⟩:∃v,v=(f l.sh l.ac l.ast).getD 0:=⟨_,rfl⟩
  rw[←C] at J;have d:Hid (canL f (ls.getD k default)=canV (v+l.am)):=by show _=_;rw[←Y.out,canL,C]
  have A:∀W,aa w W→(Instr.lookup 225 (.map (some b)) (kv l.sh l.ac l.ast) false).run Tryz.prog W =.ok (.int .i64 v) W:=fun W K=>by rw[C];exact((hb.below K).look hw).1
  clear C;have v1:IntKind.i64.wrap (v+l.am)=v+l.am:=qY oM oM;have hz:w.heap.size<wr.heap.size:=wL _ _ j;have h0:aa w (wr.alloc (.cells #[.int .i64 l.sh,.int .i64 l.ac,.int .i64 l.ast,.int .i64 l.am] 168))∧(wr.alloc (.cells #[.int .i64 l.sh,.int .i64 l.ac,.int .i64 l.ast,.int .i64 l.am] 168)).cell? ⟨w.heap.size,1,none⟩=some (.map (some b))∧(wr.alloc (.cells #[.int .i64 l.sh,.int .i64 l.ac,.int .i64 l.ast,.int .i64 l.am] 168)).cell? ⟨wr.heap.size,0,none⟩=some (.int .i64 l.sh)∧(wr.alloc (.cells #[.int .i64 l.sh,.int .i64 l.ac,.int .i64 l.ast,.int .i64 l.am] 168)).cell? ⟨wr.heap.size,1,none⟩=some (.int .i64 l.ac)∧(wr.alloc (.cells #[.int .i64 l.sh,.int .i64 l.ac,.int .i64 l.ast,.int .i64 l.am] 168)).cell? ⟨wr.heap.size,2,none⟩=some (.int .i64 l.ast)∧(wr.alloc (.cells #[.int .i64 l.sh,.int .i64 l.ac,.int .i64 l.ast,.int .i64 l.am] 168)).cell? ⟨wr.heap.size,3,none⟩=some (.int .i64 l.am):=
   ⟨hE,cK (bA (bR _ _) _) j,by simp[go_sem],sG,by simp[go_sem],sG⟩
  go_wp2;generalize K:wr.alloc (.cells #[.int .i64 l.sh,.int .i64 l.ac,.int .i64 l.ast,.int .i64 l.am] 168)=W at *;clear K Z a2 a3 a4 H j;go_region_held3 (fun w'=>aa w w'∧cW w' w.heap.size 1 (.map (some b))∧cI w' wr.heap.size 0 l.sh∧cI w' wr.heap.size 1 l.ac∧cI w' wr.heap.size 2 l.ast∧cI w' wr.heap.size 3 l.am)
   ((first|exact fU1 h0 (Below.drew (bR _ _))|exact p))
   (first|(go_at_call 226;refine(fDo l _).mono ?_;rintro e w3 ⟨rfl,L⟩;have p:=fU1 (fU1 h0 (Below.drew (bR _ _))) L;have M:=A _ p.1))
  rename_i N;have O:=N.1;have R:=N.2.1;clear N p M A;generalize v+l.am=z at *;go_wp2
  ·rename_i D;go_ret;refine⟨?_,O⟩;rw[mV B.out (by rw[d.out,canV,if_pos D];omega) _ g,d.out,canV,if_pos D];rfl
  ·rename_i D T;go_ret;refine⟨?_,O⟩;rw[mV B.out (by rw[d.out,canV,if_neg oM,if_pos T];omega) _ g,d.out,canV,if_neg oM,if_pos T];rfl
  rename_i D T;refine⟨⟨k+1,by omega,by go_num,gU B.out ?_,R,O⟩,mI⟩;rw[d.out,canV,if_neg oM,if_neg oM]
 go_wp2;go_ret;have U:k=q:=oM;subst U;refine⟨?_,s⟩;rw[B.out];rfl
end
end Go.Proofs.YtpibfdebfacooaaGreat

import Derived.Test.YtpibfdebfacooaaGreatPrnWriteEventLaw4
import Derived.Test.YtpibfdebfacooaaGreatPrnWriteEventLaw5
import Derived.Maps.AppendAt
set_option maxHeartbeats 4000000
set_option maxRecDepth 20000
set_option linter.all false
namespace Go.Proofs.YtpibfdebfacooaaGreat
open Go.RowKit
attribute [local go_sem ↓] Go.wp_at_zero Go.wp_at_succ
attribute [local go_sem] cI ah cN iV aj
section
variable [dQ BytesR] [iH BytesR] [dQ Leg] [iH Leg] [dQ Cont] [iH Cont]
def zA (l:Leg):List Byte:=[toB l.sh,toB l.ac,toB l.ast]
def fOo (l:Leg):List Byte:=zA l++hiB l.am 8
def kP (id:Int) (xs:List Leg):List Byte:=hiB id 8++xs.flatMap fOo
theorem fL5 (l:Leg):(fOo l).length=11:=by simp[fOo,zA,gH]
theorem fRz (xs:List Leg):(xs.flatMap fOo).length=xs.length*11:=by
 induction xs with
 | nil=>rfl
 | cons x r ih=>rw[List.flatMap_cons,List.length_append,fL5,ih,List.length_cons];omega
theorem rT (id:Int) (xs:List Leg):(kP id xs).length=8+xs.length*11:=by rw[kP,List.length_append,gH,fRz]
theorem fNo (id:Int) (xs:List Leg) (k:Nat) (h:k<xs.length):kP id (xs.take (k+1))=kP id (xs.take k)++zA (xs.getD k default)++hiB (xs.getD k default).am 8:=by
 have e:xs.take (k+1)=xs.take k++[xs.getD k default]:=by
  rw[List.take_add_one];congr 1;simp[List.getD,h]
 rw[e];simp only[kP,fOo,List.flatMap_append,List.flatMap_cons,List.flatMap_nil,List.append_assoc,List.append_nil]
theorem fG4 (id:Int) (x:Value) (xs:List Leg) (w:World) (hx:uU w x xs) (hn:xs.length≤8) :
  cL 94 #[.agg #[iV id,x]] w fun e w'=>∃v F,e =.returned v∧bytesR.O w' w.heap.size F v (kP id xs)∧aa w w':=by
 obtain⟨ax,V,rfl,X,Y,hx⟩:=hx;unfold maxLen at Y;have hT:=fNo id xs;have HA:Hid (xs.take xs.length=xs):=List.take_length;have HL:Hid (∀k,k≤xs.length→(kP id (xs.take k)).length=8+k*11):=fun k hk=>by rw[rT,List.length_take];congr 2;omega
 have H0:Hid (kP id (xs.take 0)=hiB id 8):=by simp[Hid,kP]
 have H8:Hid ((hiB id 8).length=8):=gH _ _;generalize Z:xs.length=n at *;have HT:Hid (∀k,k<n→kP id (xs.take (k+1))=kP id (xs.take k)++zA (xs.getD k default)++hiB (xs.getD k default).am 8):=hT;clear Z hT;go_enter Tryz.func94,Tryz.ntmps94;go_wp2_with fail;refine(zZ id _).mono ?_;rintro e s ⟨v0,rfl,E,d⟩;have G:ah s w.heap.size 1 ax n V:=cK d sG;have j:aa w s:=hE;rw[World.size_alloc] at E;rw[←H0.out] at E;have e8:(kP id (xs.take 0)).length=8:=by rw[HL.out 0 oM]
 rw[show(8:Nat)=(kP id (xs.take 0)).length from e8.symm] at E;have H:Hid (World.ownsRow s (w.heap.size+1) 5 1 v0 (kP id (xs.take 0)).length (fT (kP id (xs.take 0)))):=E;clear E d e8;go_wp2;go_loopw [3,4] (fun v i w'=>∃k:Nat,k≤n∧i =.int .i64 k∧w'.ownsRow (w.heap.size+1) 5 1 v (kP id (xs.take k)).length (fT (kP id (xs.take k)))∧w'.cell? ⟨w.heap.size,1,none⟩=some (.slice ax n V)∧aa w w') (fun _ i _=>n-(intOf i).toNat)
 case atStart=>exact⟨0,oM,rfl,H.out,G,j⟩
 clear G j H;obtain⟨k,hk,rfl,B,y,z⟩:=hrel;have hz:w.heap.size+1≤wr.heap.size:=wL _ _ y;by_cases I:k<n
 ·
  obtain⟨bx,ox,rfl,g1⟩:=hx k I;have e1:=HT.out k I;have a7:(kP id (xs.take k)).length≤96:=by rw[HL.out k oM];omega
  obtain⟨l,hl⟩:∃l,l=xs.getD k default:=⟨_,rfl⟩
  rw[←hl] at g1 e1;clear hl hx;obtain⟨a1,a2,a3,a4⟩:=fJ z g1;have HE:Hid (kP id (xs.take (k+1))=kP id (xs.take k)++zA l++hiB l.am 8):=e1;generalize kP id (xs.take k)=ys at *;obtain⟨q0,J⟩:∃q,IntKind.u8.wrap l.sh=q:=⟨_,rfl⟩
  obtain⟨q1,K⟩:∃q,IntKind.u8.wrap l.ac=q:=⟨_,rfl⟩
  obtain⟨q2,L⟩:∃q,IntKind.u8.wrap l.ast=q:=⟨_,rfl⟩
  have HQ:Hid (q0=((toB l.sh).val:Int)∧q1=((toB l.ac).val:Int)∧q2=((toB l.ast).val:Int)):=⟨by rw[←J,fGt],by rw[←K,fGt],by rw[←L,fGt]⟩;have a8:n≤V:=X;clear e1 g1;go_wp2_with (at_builtin;refine qL _ rfl _ _ rfl (w.heap.size+1) _ ys rfl _ (zA l) rfl ((B.alloc _).alloc _) ?c1 ?c2 ?U ?_)
  case c1=>exact fK1 (g:=wr.heap.size+1) (q0:=q0) (q1:=q1) (q2:=q2) sG sG sG HQ.out.1 HQ.out.2.1 HQ.out.2.2
  case c2=>simp only[zA,List.length_cons,List.length_nil];omega
  case U=>simp;omega
  intro v1 s o1 C M;have d:=M wr ((bA (bA (Below.refl wr.heap.size wr) _) _).mono hz);have j:aa w s:=z.trans (d.mono oM);have U:=C.cell (a:=⟨wr.heap.size,3,none⟩) (v:=iV l.am) sG (fKd (fQo B) (.inr (Nat.le_refl _)));have p:=C.cell (cK (bA (bA (bR _ _) _) _) y) (fKd (fQo B) (.inl (by dsimp only;omega)));have A:World.ownsRow s (w.heap.size+1) 5 1 v1 (ys++zA l).length (fT (ys++zA l)):=by simpa using o1
  clear M C o1 d B y a1 a2 a3 a4 J K L;have a9:(ys++zA l).length≤200:=by simp only[zA,List.length_append,List.length_cons,List.length_nil];omega
  generalize ys++zA l=D at *;obtain⟨p1,r1,rfl⟩:=fD A;have ab:wr.heap.size<s.heap.size:=wL _ _ U;go_wp2_with fail;refine(zZ l.am _).mono ?_;rintro e w2 ⟨v2,rfl,o2,m⟩;have o3:=fO A m;have r:=cK m p;have N:=bS j m;have ad:=m.size;have V2:mP w2 v2 (hiB l.am 8):=uG (by rw[gH];exact o2);have t2:=kN V2;have l2:D.length+(hiB l.am 8).length≤1073741824:=by rw[gH];omega
  obtain⟨p2,r2,rfl⟩:=fD o2;generalize hiB l.am 8=R at *;have a0:w.heap.size+1≤w2.heap.size:=oM;clear A o2 m p j U V2;go_wp2_with (at_builtin;refine qL _ rfl _ _ rfl (w.heap.size+1) _ D rfl _ R rfl o3 t2 l2 a0 ?_);intro v4 w4 o4 C M;have T:=C.cell r (fKd (fQo o3) (.inl (by dsimp only;omega)));have a5:aa w w4:=N.trans ((M w2 (bR _ _)).mono oM);have h4:World.ownsRow w4 (w.heap.size+1) 5 1 v4 (D++R).length (fT (D++R)):=by simpa using o4
  have HO:Hid (World.ownsRow w4 (w.heap.size+1) 5 1 v4 (D++R).length (fT (D++R))):=h4;clear o4 h4 C M N r o3 t2 l2;go_wp2;refine⟨⟨k+1,by omega,by go_num,?_,T,a5⟩,mI⟩;rw[HE.out];exact HO.out
 go_wp2;go_ret;have a6:k=n:=oM;subst a6;rw[HA.out] at B;exact⟨_,_,rfl,⟨qI B oM,rfl⟩,z⟩
def fYa (c:Cont):BytesR:=if fA c.id c.legs=0 then ⟨0,kP c.id c.legs⟩ else ⟨fA c.id c.legs,[]⟩
theorem fEq (w:World) (base:Nat) (c:Int):bytesRR.O w base none_ (.agg #[iV c,aj]) ⟨c,[]⟩:=
 ⟨aj,none_,rfl,⟨by simpa [fT] using World.ownsRow_nil w base 5 1,by funext b;simp[none_,Value.ownBlock]⟩,fun b=>Iff.rfl⟩
end
section
theorem PO.append {α:Type} {R:Rep α} {e size:Nat} {lv:Value→List Value} {w Y w':World} {base:Nat} {v v':Value} {n:Nat} {d:Nat→α} {cs:List Value} {us:Nat→Value} {fs:Nat→Nat→Prop} {u:Value} {F':Nat→Prop}
  (h:PO R e size lv w base v n n d cs us fs) (hbs:base≤w.heap.size) (hb:aa w Y) (hu:R.O Y w.heap.size F' u (d n)) (hl:(lv u).length=size)
  (hr:w'.ownsRow base e size v' (n+1) (cs++lv u)) (hg:Y.grownBy w' v.ownBlock) (hloc:v'.ownBlock=v.ownBlock∨∃g,v'.ownBlock=some g∧Y.heap.size≤g) :
  PO R e size lv w' base v' (n+1) (n+1) d (cs++lv u) (upd us n u) (upd fs n F'):=by
 have l:∀b,v.ownBlock=some b→b<w.heap.size:=fun b hb=>(h.row.lt b hb).2
 have r:∀b,F' b→w.heap.size≤b∧b<Y.heap.size:=fun b hb=>R.rng hu b hb
 have m:∀i,i<n→∀b,fs i b→b<w.heap.size:=fun i q b hb=>(R.rng (h.el i q) b hb).2
 have s:cs.length=n*size:=h.row.1;refine⟨hr,?_,?_,?_,?_,?_⟩
 ·
  intro i q;by_cases k:i=n
  ·subst k;rw[gY,gY];exact R.base (R.mod hu (Mod.of_grown hg) (fun b hb he=>by have:=l b he;have:=(r b hb).1;omega)) hbs
  rw[upd_ne _ _ k,upd_ne _ _ k];exact R.mod (R.keep (h.el i oM) hb) (Mod.of_grown hg) (fun b hb=>h.out i oM b hb)
 ·
  intro i q;by_cases k:i=n
  ·subst k;rw[gY];exact hl
  rw[upd_ne _ _ k];exact h.ln i oM
 ·
  intro i q j A;by_cases k:i=n
  ·subst k;rw[gY,List.getElem?_append_right oM,s];congr 1;omega
  rw[upd_ne _ _ k,←h.cell i oM j A,List.getElem?_append_left];rw[s];have:i*size+size≤n*size:=by rw[←Nat.succ_mul];exact Nat.mul_le_mul_right _ oM
  omega
 ·
  intro i q b hb he;by_cases k:i=n
  ·
   subst k;rw[gY] at hb;rcases hloc with hloc|⟨g,p,z⟩
   ·rw[hloc] at he;have:=l b he;have:=(r b hb).1;omega
   rw[p] at he;simp only[Option.some.injEq] at he;have:=(r b hb).2;omega
  rw[upd_ne _ _ k] at hb;rcases hloc with hloc|⟨g,p,z⟩
  ·rw[hloc] at he;exact h.out i oM b hb he
  rw[p] at he;simp only[Option.some.injEq] at he;have:=m i oM b hb;have:=hb;have:=h.row;have:=l;have B:w.heap.size≤Y.heap.size:=by
   have:=‹aa w Y›;exact this.size
  omega
 intro i j q A x b h1 h2;by_cases k:i=n
 ·subst k;rw[gY] at h1;rw[upd_ne _ _ (Ne.symm x)] at h2;have:=(r b h1).1;have:=m j oM b h2;omega
 rw[upd_ne _ _ k] at h1;by_cases y:j=n
 ·subst y;rw[gY] at h2;have:=(r b h2).1;have:=m i oM b h1;omega
 rw[upd_ne _ _ y] at h2;exact h.sep i j oM oM x b h1 h2
section
variable {P : Program} (w : World)
theorem uI {ops:Array Oper} {o:Oper} {a:Act} {K:Act→World→Prop} {Q:Exit→Act→World→Prop} {E:Prop} (hgd:o.guard=none) (s x:Operand) (t:TypeId)
  (ho:o.op =.call {callee:=.builtin .append,args:=#[s,x],argTypes:=#[t,t]})
  (base:Nat) (e:TypeId) (i:TypeInfo) (z:Value) (size bytes:Nat) (ht:P.underlying t=some (.slice e)) (hi:P.info? e=some i) (hz:i.zero=some z)
  (hsize:i.size=size) (hby:i.bytes=bytes) (hzs:z.cells.size=size) (hsz:0<size)
  (v:Value) (n:Nat) (xs:List Value) (hs:a.eval s=v) (hown:w.ownsRow base e size v n xs)
  (ad:Addr) (m c:Nat) (news:List Value) (hx:a.eval x =.slice (some ad) m c) (hl:news.length=m*size) (hnews:∀j u,news[j]? = some u→w.cell? (ad.add j)=some u) (h1:∀u ∈ news,u.oneCell'=true)
  (h63:n+m≤maxLen) (hbytes:(n+m)*bytes≤140737488355328) (hbase:base≤w.heap.size)
  (h:∀v' w',w'.ownsRow base e size v' (n+m) (xs++news)→w.grownBy w' v.ownBlock→(v'.ownBlock=v.ownBlock∨v'.ownBlock=some w.heap.size)→K (a.put o.dst v') w') :
  if Region.wanted o (yielded ops a.tmps)=true then Oper.wp P o a w K Q else E:=by
 have d:Region.wanted o (yielded ops a.tmps)=true:=by simp[Region.wanted,hgd]
 rw[if_pos d];obtain⟨v',w',g,h2,k,_,l⟩:=run_append_own_at (P:=P) w base t o.type e i z size bytes ht hi hz hsize hby hzs hsz v n xs hown ad m c news hl hnews h1 h63 hbytes hbase;unfold Oper.wp execOp;simp only[ho,resolve,invoke,builtin,Sem.run_bind,Sem.run_pure,Result.andThen_ok,List.map_toArray,List.map_cons,List.map_nil,hs,hx,g];exact h v' w' h2 k l
end
theorem fD9 {P:Program} (w:World) {ops:Array Oper} {rest:List Oper} {o:Oper} {a:Act} {Q:Exit→Act→World→Prop} (hgd:o.guard=none) (s x:Operand) (t:TypeId)
  (ho:o.op =.call {callee:=.builtin .append,args:=#[s,x],argTypes:=#[t,t]})
  (base:Nat) (e:TypeId) (i:TypeInfo) (z:Value) (size bytes:Nat) (ht:P.underlying t=some (.slice e)) (hi:P.info? e=some i) (hz:i.zero=some z)
  (hsize:i.size=size) (hby:i.bytes=bytes) (hzs:z.cells.size=size) (hsz:0<size)
  (v:Value) (n:Nat) (xs:List Value) (hs:a.eval s=v) (hown:w.ownsRow base e size v n xs)
  (ad:Addr) (m c:Nat) (news:List Value) (hx:a.eval x =.slice (some ad) m c) (hl:news.length=m*size) (hnews:∀j u,news[j]? = some u→w.cell? (ad.add j)=some u) (h1:∀u ∈ news,u.oneCell'=true)
  (h63:n+m≤maxLen) (hbytes:(n+m)*bytes≤140737488355328) (hbase:base≤w.heap.size)
  (h:∀v' w',w'.ownsRow base e size v' (n+m) (xs++news)→w.grownBy w' v.ownBlock→(v'.ownBlock=v.ownBlock∨v'.ownBlock=some w.heap.size)→wpList P ops Q rest (a.put o.dst v') w') :
  wpList P ops Q (o::rest) a w:=by
 refine wpList_plain hgd fun p d=>?_
 obtain⟨v',w',g,h2,k,_,l⟩:=run_append_own_at (P:=P) w base t o.type e i z size bytes ht hi hz hsize hby hzs hsz v n xs hown ad m c news hl hnews h1 h63 hbytes hbase;unfold Oper.wp execOp;simp only[ho,resolve,invoke,builtin,Sem.run_bind,Sem.run_pure,Result.andThen_ok,List.map_toArray,List.map_cons,List.map_nil,hs,hx,g];exact d _ _ (h v' w' h2 k l)
def xO (w:World) (base:Nat) (v:Value) (out:List (List Byte)):Prop:=
 ∃cs us fs,PO bytesR 23 1 one w base v out.length out.length (fun i=>out.getD i default) cs us fs
theorem zC {w w':World} {base:Nat} {v:Value} {out:List (List Byte)} (h:xO w base v out) (hb:aa w w'):xO w' base v out:=by
 obtain⟨cs,us,fs,d⟩:=h;exact⟨cs,us,fs,d.keep hb⟩
theorem fVx {w:World} {base:Nat} {v:Value} {out:List (List Byte)} (h:xO w base v out):∃F,bytessR.O w base F v out:=by
 obtain⟨cs,us,fs,d⟩:=h;exact⟨_,cs,us,fs,d,fun b=>Iff.rfl⟩
theorem fAr {w:World} {base:Nat} {v:Value} {out:List (List Byte)} (h:xO w base v out):∃a c,v =.slice a out.length c:=by
 obtain⟨cs,us,fs,d⟩:=h;exact fD d.row
theorem fMo {w:World} {base:Nat} {v:Value} (h:w.ownsRow base 23 1 v 0 []):xO w base v []:=
 ⟨[],fun _=>iV 0,fun _ _=>False,h,fun _ h=>absurd h (Nat.not_lt_zero _),fun _ h=>absurd h (Nat.not_lt_zero _),fun _ h=>absurd h (Nat.not_lt_zero _),fun _ h=>absurd h (Nat.not_lt_zero _),fun _ _ h=>absurd h (Nat.not_lt_zero _)⟩
theorem fVy {w:World} {base:Nat} {v:Value} {out:List (List Byte)} (h:xO w base v out):Own base w.heap.size v:=by
 obtain⟨cs,us,fs,d⟩:=h;exact fQo d.row
theorem fDy (w0 Y:World) {ops:Array Oper} {rest:List Oper} {o:Oper} {a:Act} {Q:Exit→Act→World→Prop} (hgd:o.guard=none) (s x:Operand)
  (ho:o.op =.call {callee:=.builtin .append,args:=#[s,x],argTypes:=#[111,111]})
  (base:Nat) (v:Value) (out:List (List Byte)) (hp:xO w0 base v out) (hbs:base≤w0.heap.size) (hb:aa w0 Y)
  (F:Nat→Prop) (u:Value) (d:List Byte) (hu:bytesR.O Y w0.heap.size F u d) (hs:a.eval s=v) (hx:a.eval x =.slice (some ⟨Y.heap.size,0,none⟩) 1 1) (hlen:out.length≤1048576)
  (h:∀v' w',xO w' base v' (out++[d])→(∀W:World,Below base W w0→Below base W w')→wpList Tryz.prog ops Q rest (a.put o.dst v') w') :
  wpList Tryz.prog ops Q (o::rest) a (Y.alloc (.cells #[u] 23)):=by
 obtain⟨cs,us,fs,hp⟩:=hp;obtain⟨y,m,n,p,q⟩:=info_parts fH0;obtain⟨E,G,z⟩:=fF (bytesR.ofO hu);have e:aa w0 (Y.alloc (.cells #[u] 23)):=bA hb _;have A:=hb.size;refine fD9 _ hgd s x 111 ho base 23 y _ 1 24 Tryz.underlying111 m n p q rfl (by decide) v out.length cs hs (fO hp.row e) ⟨Y.heap.size,0,none⟩ 1 1 [u] hx rfl ?_ ?_ (by unfold maxLen;omega) oM (by rw[World.size_alloc];omega) ?_
 ·
  intro j x g;match j,g with
  | 0,g=>simp at g;subst g;simp[Addr.add,go_sem]
  | j+1,g=>simp at g
 ·intro x hx;simp only[List.mem_cons,List.not_mem_nil,or_false] at hx;subst hx;rw[z];rfl
 intro v' w' h1 h2 l;refine h v' w' ?_ (fun W B=>(B.trans (e.mono hbs)).grown h2 (by rw[World.size_alloc];omega) (fun k C=>((fO hp.row e).lt k C).1));have D:(out++[d]).getD out.length default=d:=by simp[List.getD]
 have r:PO bytesR 23 1 one w0 base v out.length out.length (fun i=>(out++[d]).getD i default) cs us fs:=hp.cast (fun i m=>by simp[List.getD,List.getElem?_append_left m]);have:=r.append (Y:=Y.alloc (.cells #[u] 23)) (w':=w') (v':=v') (u:=u) (F':=F) hbs e (by rw[D];exact bytesR.alloc hu _) rfl h1 h2 (by
  rcases l with l|l
  ·exact .inl l
  exact .inr ⟨_,l,Nat.le_refl _⟩)
 refine⟨cs++one u,upd us out.length u,upd fs out.length F,?_⟩;rw[List.length_append];exact this
end
section
theorem fS2 (n:Int) (w:World) :
  cL 95 #[iV n] w fun e w'=>∃v F,e =.returned v∧bytesR.O w' w.heap.size F v (hiB n 8)∧aa w w':=by
 refine(zZ n w).mono ?_;rintro e w' ⟨v,rfl,d,hb⟩;exact⟨v,_,rfl,⟨by rw[gH];exact d,rfl⟩,hb⟩
theorem fCz (n:Int) (w:World) :
  cL 148 #[iV n] w fun e w'=>∃v F,e =.returned v∧bytesR.O w' w.heap.size F v (hiB n 8)∧aa w w':=by
 refine(fLu n w).mono ?_;rintro e w' ⟨v,rfl,d,hb⟩;exact⟨v,_,rfl,⟨by rw[gH];exact d,rfl⟩,hb⟩
variable [dQ BytesR] [iH BytesR] [dQ Leg] [iH Leg] [dQ Cont] [iH Cont]
theorem fS7 (w0 Y:World) {ops:Array Oper} {o:Oper} {a:Act} {K:Act→World→Prop} {Q:Exit→Act→World→Prop} {E:Prop} (hgd:o.guard=none) (s x:Operand)
  (ho:o.op =.call {callee:=.builtin .append,args:=#[s,x],argTypes:=#[111,111]})
  (base:Nat) (v:Value) (out:List (List Byte)) (hs:a.eval s=v) (u1 u2:Value) (g:Nat) (hx:a.eval x =.slice (some ⟨g,0,none⟩) 2 2) (hp:xO w0 base v out) (hbs:base≤w0.heap.size) (hb:aa w0 Y)
  (F1 F2:Nat→Prop) (d1 d2:List Byte) (hu1:bytesR.O Y w0.heap.size F1 u1 d1) (hu2:bytesR.O Y w0.heap.size F2 u2 d2) (hsep:∀b,F1 b→¬F2 b)
  (hc1:Y.cell? ⟨g,0,none⟩=some u1) (hc2:Y.cell? ⟨g,1,none⟩=some u2) (hlen:out.length≤1048576)
  (h:∀v' w',xO w' base v' (out++[d1]++[d2])→Y.grownBy w' v.ownBlock→(∀W:World,Below base W w0→Below base W w')→K (a.put o.dst v') w') :
  if Region.wanted o (yielded ops a.tmps)=true then Oper.wp Tryz.prog o a Y K Q else E:=by
 obtain⟨cs,us,fs,hp⟩:=hp;obtain⟨X,r,M,N,R⟩:=info_parts fH0;obtain⟨a1,c1,F⟩:=fF (bytesR.ofO hu1);obtain⟨a2,c2,G⟩:=fF (bytesR.ofO hu2);have Z:=hb.size;refine uI Y hgd s x 111 ho base 23 X _ 1 24 Tryz.underlying111 r M N R rfl (by decide) v out.length cs hs (fO hp.row hb) ⟨g,0,none⟩ 2 2 [u1,u2] hx rfl ?_ ?_ (by unfold maxLen;omega) oM oM ?_
 ·
  intro j x y;match j,y with
  | 0,y=>simp at y;subst y;simpa [Addr.add] using hc1
  | 1,y=>simp at y;subst y;simpa [Addr.add] using hc2
  | j+2,y=>simp at y
 ·
  intro x hx;simp only[List.mem_cons,List.not_mem_nil,or_false] at hx;rcases hx with rfl|rfl
  ·rw[F];rfl
  rw[G];rfl
 intro v' w' h1 h2 H;refine h v' w' ?_ h2 (fun W hW=>(hW.trans (hb.mono hbs)).grown h2 oM (fun k hk=>((fO hp.row hb).lt k hk).1));have T:(out++[d1]++[d2]).getD out.length default=d1:=by simp[List.getD]
 have U:(out++[d1]++[d2]).getD (out.length+1) default=d2:=by simp[List.getD]
 have B:∀b,F1 b→w0.heap.size≤b∧b<Y.heap.size:=fun b hb=>bytesR.rng hu1 b hb
 have C:∀b,F2 b→w0.heap.size≤b∧b<Y.heap.size:=fun b hb=>bytesR.rng hu2 b hb
 have D:∀b,v.ownBlock=some b→b<w0.heap.size:=fun b hb=>(hp.row.lt b hb).2
 have A:∀i,i<out.length→∀b,fs i b→b<w0.heap.size:=fun i r b hb=>(bytesR.rng (hp.el i r) b hb).2
 have I:∀b,v'.ownBlock=some b→(v.ownBlock=some b∨Y.heap.size≤b):=fun b hb=>by
  rcases H with H|H
  ·left;rw[←H];exact hb
  right;rw[H] at hb;simp only[Option.some.injEq] at hb;omega
 have n:(out++[d1]++[d2]).length=out.length+2:=by simp
 refine⟨cs++[u1,u2],upd (upd us out.length u1) (out.length+1) u2,upd (upd fs out.length F1) (out.length+1) F2,?_,?_,?_,?_,?_,?_⟩
 ·rw[n];exact h1
 ·
  intro i r;rw[n] at r;by_cases d:i=out.length+1
  ·subst d;rw[gY,gY,U];exact bytesR.base (bytesR.mod hu2 (Mod.of_grown h2) (fun b hb he=>by have:=D b he;have:=(C b hb).1;omega)) hbs
  rw[upd_ne _ _ d,upd_ne _ _ d];by_cases l:i=out.length
  ·subst l;rw[gY,gY,T];exact bytesR.base (bytesR.mod hu1 (Mod.of_grown h2) (fun b hb he=>by have:=D b he;have:=(B b hb).1;omega)) hbs
  rw[upd_ne _ _ l,upd_ne _ _ l];have e:(out++[d1]++[d2]).getD i default=out.getD i default:=by
   rw[List.append_assoc];simp[List.getD,List.getElem?_append_left (show i<out.length by omega)]
  rw[e];exact bytesR.mod (bytesR.keep (hp.el i oM) hb) (Mod.of_grown h2) (fun b hb=>hp.out i oM b hb)
 ·intro i r;rfl
 ·
  intro i r j y;rw[n] at r;have J:cs.length=out.length*1:=hp.row.1;have e0:j=0:=oM;subst e0;by_cases d:i=out.length+1
  ·subst d;rw[gY,List.getElem?_append_right oM,J,show(out.length+1)*1+0-out.length*1=1 by omega];rfl
  rw[upd_ne _ _ d];by_cases l:i=out.length
  ·subst l;rw[gY,List.getElem?_append_right oM,J,show out.length*1+0-out.length*1=0 by omega];rfl
  rw[upd_ne _ _ l,List.getElem?_append_left oM];exact hp.cell i oM 0 oM
 ·
  intro i r b hb he;rw[n] at r;have z:=I b he;by_cases d:i=out.length+1
  ·
   subst d;rw[gY] at hb;have:=C b hb;rcases z with z|z
   ·have:=D b z;omega
   omega
  rw[upd_ne _ _ d] at hb;by_cases l:i=out.length
  ·
   subst l;rw[gY] at hb;have:=B b hb;rcases z with z|z
   ·have:=D b z;omega
   omega
  rw[upd_ne _ _ l] at hb;rcases z with z|z
  ·exact hp.out i oM b hb z
  have:=A i oM b hb;omega
 intro i j r y V b p q;rw[n] at r y;have L:∀m,m<out.length+2→∀b,upd (upd fs out.length F1) (out.length+1) F2 m b→(m=out.length+1∧F2 b)∨(m=out.length∧F1 b)∨(m<out.length∧fs m b):=by
  intro m hm b hb;by_cases d:m=out.length+1
  ·subst d;rw[gY] at hb;exact .inl ⟨rfl,hb⟩
  rw[upd_ne _ _ d] at hb;by_cases l:m=out.length
  ·subst l;rw[gY] at hb;exact .inr (.inl ⟨rfl,hb⟩)
  rw[upd_ne _ _ l] at hb;exact .inr (.inr ⟨oM,hb⟩)
 rcases L i r b p with ⟨F,p⟩|⟨F,p⟩|⟨F,p⟩ <;> rcases L j y b q with ⟨G,q⟩|⟨G,q⟩|⟨G,q⟩
 ·omega
 ·exact hsep b q p
 ·have:=(C b p).1;have:=A j G b q;omega
 ·exact hsep b p q
 ·omega
 ·have:=(B b p).1;have:=A j G b q;omega
 ·have:=(C b q).1;have:=A i F b p;omega
 ·have:=(B b q).1;have:=A i F b p;omega
 exact hp.sep i j F G V b p q
theorem fSw {Y:World} {base:Nat} {F:Nat→Prop} {u:Value} {d:List Byte} (hu:bytesR.O Y base F u d) (hb:base≤Y.heap.size) :
  xO (Y.alloc (.cells #[u] 23)) base (.slice (some ⟨Y.heap.size,0,none⟩) 1 1) [d]:=by
 refine⟨[u],fun _=>u,fun _=>F,World.ownsRow_lit (base:=base) (e:=23) (size:=1) Y #[u] 1 hb (by unfold maxLen;omega) rfl,?_,fun i g=>rfl,?_,?_,?_⟩
 ·
  intro i g;have e:i=0:=by have h1:i<1:=g;omega
  subst e;exact bytesR.alloc hu _
 ·
  intro i g j k;have e:i=0:=by have h1:i<1:=g;omega
  have l:j=0:=oM;subst e l;rfl
 ·
  intro i g b hb he;have h2:=(bytesR.rng hu b hb).2;have n:Y.heap.size=b:=by injection he
  omega
 intro i j g k m;have h1:i<1:=g;have h2:j<1:=k;omega
def qJ (id:Int) (xs:List Leg):List (List Byte):=[hiB id 8]++xs.flatMap (fun l=>[zA l,hiB l.am 8])
theorem fDr (id:Int) (xs:List Leg):(qJ id xs).flatten=kP id xs:=by
 have h2:(xs.flatMap (fun l=>[zA l,hiB l.am 8])).flatten=xs.flatMap fOo:=by
  induction xs with
  | nil=>rfl
  | cons x r ih=>rw[List.flatMap_cons,List.flatMap_cons,List.flatten_append,ih];simp[fOo]
 unfold qJ kP;rw[List.flatten_append,h2];simp
theorem fMg (id:Int) (xs:List Leg) (k:Nat) (h:k<xs.length):qJ id (xs.take (k+1))=qJ id (xs.take k)++[zA (xs.getD k default)]++[hiB (xs.getD k default).am 8]:=by
 have e:xs.take (k+1)=xs.take k++[xs.getD k default]:=by
  rw[List.take_add_one];congr 1;simp[List.getD,h]
 rw[e];simp[qJ]
theorem fOy (id:Int) (xs:List Leg):(qJ id xs).length=1+xs.length*2:=by
 unfold qJ;rw[List.length_append];congr 1;induction xs with
 | nil=>rfl
 | cons x r ih=>rw[List.flatMap_cons,List.length_append,ih,List.length_cons];simp only[List.length_cons,List.length_nil];omega
theorem fN5 (x:Value) (c:Cont) (w:World) (hx:contR.V w x c) :
  cL 144 #[x] w fun e w'=>∃v F,e =.returned v∧bytesRR.O w' w.heap.size F v (fYa c)∧aa w w':=by
 obtain⟨u,rfl,hu⟩:=hx;obtain⟨id,xs⟩:=c;dsimp only at hu ⊢;have hU:=hu;obtain⟨ax,cx,rfl,aH,af,hx⟩:=hu;unfold maxLen at af;go_enter Tryz.func144,Tryz.ntmps144;go_wp2_with fail;refine(rP id _ xs _ (kE hU hE)).mono ?_;rintro e R ⟨rfl,r⟩;have a6:aa w R:=hE;have ag:cI R w.heap.size 0 id:=cK r sG;have I:ah R w.heap.size 1 ax xs.length cx:=cK r sG;have j:cI R (w.heap.size+1) 0 0:=cK r sG;have m:cN R (w.heap.size+1) 1:=cK r sG;have d:(∀o,R.frozen? ⟨w.heap.size+1,o,none⟩=false)∧w.heap.size+1<R.heap.size:=(fJg r (by simp)).2.2;clear r;by_cases s:fA id xs=0
 ·
  have HD:Hid (fYa ⟨id,xs⟩=⟨0,kP id xs⟩):=if_pos s;have HC:Hid (fA id xs=0):=s;rw[s];clear s;obtain⟨_,aI,aJ,_⟩:=fAu HC.out;have a7:=d.2;go_wp2_with fail;refine(fCz id _).mono ?_;rintro e w2 ⟨v2,F2,rfl,o2,A⟩;obtain⟨p,q,rfl⟩:=fF (bytesR.ofO o2);have ak:=bS a6 A;refine kR3 A ?_ j m I;clear j m I;intro j m I;replace d:=pJ d A;have al:=A.size;have a8:=fSw (bytesR.base (base':=w.heap.size+2) o2 oM) oM;have z1:w.heap.size<w2.heap.size:=oM;have hT:=fMg id xs;have HF:Hid ((qJ id (xs.take xs.length)).flatten=kP id xs):=by unfold Hid;rw[List.take_length,fDr]
  have HL:Hid (∀k,k≤xs.length→(qJ id (xs.take k)).length≤17):=fun k hk=>by rw[fOy,List.length_take];omega
  have ao:Hid ((qJ id (xs.take xs.length)).flatten.length≤1073741824):=by unfold Hid;rw[List.take_length,fDr,rT];omega
  have a9:Hid (xO (w2.alloc (.cells #[.slice p (hiB id 8).length q] 23)) (w.heap.size+2) (.slice (some ⟨w2.heap.size,0,none⟩) 1 1) (qJ id (xs.take 0))):=a8;generalize ar:xs.length=n at *;have HT:Hid (∀k,k<n→qJ id (xs.take (k+1))=qJ id (xs.take k)++[zA (xs.getD k default)]++[hiB (xs.getD k default).am 8]):=hT;clear ar hT a8 o2 A a6;go_wp2;go_loopw [4,20] (fun v i w'=>∃k:Nat,k≤n∧i =.int .i64 k∧xO w' (w.heap.size+2) v (qJ id (xs.take k))∧(w'.cell? ⟨w.heap.size+1,0,none⟩=some (.int .i64 0)∧w'.cell? ⟨w.heap.size+1,1,none⟩=some (.slice none 0 0))∧((∀o,w'.frozen? ⟨w.heap.size+1,o,none⟩=false)∧w.heap.size+1<w'.heap.size)∧aa w w') (fun _ i _=>n-(intOf i).toNat)
  case atStart=>exact⟨0,oM,rfl,a9.out,⟨cK hE j,cK hE m⟩,pJ d hE,hE⟩
  clear j m d ak a9 I ag al z1 a7;obtain⟨k,hk,rfl,y,⟨j,m⟩,d,B⟩:=hrel;obtain⟨av,cv,rfl⟩:=fAr y;by_cases T:k<n
  ·
   obtain⟨bx,ox,rfl,g1⟩:=hx k T;have e1:=HT.out k T;have aE:=HL.out k oM;obtain⟨l,hl⟩:∃l,l=xs.getD k default:=⟨_,rfl⟩
   rw[←hl] at g1 e1;clear hl hx;obtain⟨a1,a2,a3,a4⟩:=fJ B g1;have HE:Hid (qJ id (xs.take (k+1))=qJ id (xs.take k)++[zA l]++[hiB l.am 8]):=e1;generalize qJ id (xs.take k)=J at *;clear e1 g1;have U:w.heap.size+2≤wr.heap.size:=d.2;have au:J.length≤1048576:=oM;have aw:w.heap.size≤w.heap.size+2:=oM;have C:some wr.heap.size≠(Value.slice av J.length cv).ownBlock:=fKd (fVy y) (.inr (Nat.le_refl _));have X:aa wr (wr.alloc (.cells #[iV l.sh,iV l.ac,iV l.ast,iV l.am] 168)):=bA (bR _ _) _;have ay:wr.heap.size<(wr.alloc (.cells #[iV l.sh,iV l.ac,iV l.ast,iV l.am] 168)).heap.size:=by simp
   have h0:aa w (wr.alloc (.cells #[iV l.sh,iV l.ac,iV l.ast,iV l.am] 168))∧(wr.alloc (.cells #[iV l.sh,iV l.ac,iV l.ast,iV l.am] 168)).cell? ⟨wr.heap.size,0,none⟩=some (iV l.sh)∧(wr.alloc (.cells #[iV l.sh,iV l.ac,iV l.ast,iV l.am] 168)).cell? ⟨wr.heap.size,1,none⟩=some (iV l.ac)∧(wr.alloc (.cells #[iV l.sh,iV l.ac,iV l.ast,iV l.am] 168)).cell? ⟨wr.heap.size,2,none⟩=some (iV l.ast)∧(wr.alloc (.cells #[iV l.sh,iV l.ac,iV l.ast,iV l.am] 168)).cell? ⟨wr.heap.size,3,none⟩=some (iV l.am):=
    ⟨hE,by simp[go_sem],sG,by simp[go_sem],sG⟩
   go_wp2;generalize hW:wr.alloc (.cells #[iV l.sh,iV l.ac,iV l.ast,iV l.am] 168)=W at *;clear hW a1 a2 a3 a4;go_region_held3 (fun w'=>aa w w'∧cI w' wr.heap.size 0 l.sh∧cI w' wr.heap.size 1 l.ac∧cI w' wr.heap.size 2 l.ast∧cI w' wr.heap.size 3 l.am)
    ((first|assumption|exact uL h0 (Below.drew (bR _ _))|exact uL (uL h0 (Below.drew (bR _ _))) (bA (bR _ _) _)|exact uL z (bA (bR _ _) _)))
    (first|(go_at_call 143;refine(zD _ [l.sh,l.ac,l.ast] _ (gBc (g:=W.heap.size) ?_ ?_ ?_) ?_).mono ?_;(focus (simp[go_sem]));(focus (simp[go_sem]));(focus (simp[go_sem]));(focus (simp));rintro e w3 ⟨v3,F3,rfl,o3,K⟩;have kk:=fF (bytesR.ofO o3);obtain⟨p3,q3,rfl⟩:=kk;have ab:=uL (uL (uL h0 (Below.drew (bR _ _))) (bA (bR _ _) _)) K)|(go_at_call 148;refine(fCz l.am _).mono ?_;rintro e w4 ⟨v4,F4,rfl,o4,L⟩;have kk:=fF (bytesR.ofO o4);obtain⟨p4,q4,rfl⟩:=kk;have z:=uL ab L;have M:=bS (bS (bA (Below.drew X) _) K) L;have Y:=Nat.le_trans X.size (Nat.le_trans (bA (Below.drew (Below.refl W.heap.size W)) (.cells #[iV l.sh,iV l.ac,iV l.ast] 2)).size (Nat.le_refl _));have ad:=Nat.le_trans Y K.size;have N:∀b,F3 b→¬F4 b:=fun b p q=>absurd (bytesR.rng o3 b p).2 (Nat.not_lt_of_ge (bytesR.rng o4 b q).1))|(refine fS7 wr _ rfl _ _ rfl (w.heap.size+2) _ J rfl _ _ w4.heap.size rfl y U (bA M _) F3 F4 (zA l) (hiB l.am 8) (bytesR.base (bytesR.alloc (bytesR.keep o3 L) _) Y) (bytesR.base (bytesR.alloc o4 _) ad) N ?_ ?_ au ?_;(focus (simp[go_sem]));(focus (simp[go_sem]));intro v5 w5 ae E Z;have a0:=B.trans ((Z wr (bR _ _)).mono aw);have az:=And.intro a0 (And.intro (E.cell (cK (bA (bR _ _) _) z.2.1) C) (And.intro (E.cell (cK (bA (bR _ _) _) z.2.2.1) C) (And.intro (E.cell (cK (bA (bR _ _) _) z.2.2.2.1) C) (E.cell (cK (bA (bR _ _) _) z.2.2.2.2) C))))))
   have G:=Z wr (bR _ _);replace j:=(G.cell (p:=⟨w.heap.size+1,0,none⟩) (by simp)).trans j;replace m:=(G.cell (p:=⟨w.heap.size+1,1,none⟩) (by simp)).trans m;have aA:(∀o,w5.frozen? ⟨w.heap.size+1,o,none⟩=false)∧w.heap.size+1<w5.heap.size:=⟨fun o=>(G.frozen (p:=⟨w.heap.size+1,o,none⟩) (by simp)).trans (d.1 o),Nat.lt_of_lt_of_le d.2 G.size⟩;have aB:Hid (xO w5 (w.heap.size+2) v5 (J++[zA l]++[hiB l.am 8])):=ae;have aC:Hid (aa w w5):=a0;clear G ae E Z az z ab o3 o4 K L M h0 y d X B a0 N Y ad ay C;go_wp2;refine⟨⟨k+1,by omega,by go_num,?_,⟨j,m⟩,aA,aC.out⟩,mI⟩;rw[HE.out];exact aB.out
  have aD:k=n:=oM;subst aD;have U:w.heap.size+2≤wr.heap.size:=d.2;obtain⟨F,hO⟩:=fVx y;go_wp2_with fail;refine(pR _ _ _ (bytessR.ofO hO) ao.out).mono ?_;rintro e w6 ⟨v6,F6,rfl,o6,H⟩;replace j:=cK H j;replace m:=cK H m;obtain⟨aF,aG⟩:=pJ d H;have aK:=bS B H;have a5:=bytesR.base (base':=w.heap.size+2) o6 U;rw[HF.out] at a5;obtain⟨p6,q6,rfl⟩:=fF (bytesR.ofO a5);clear o6 H hO y B d;generalize kP id xs=D at *;go_wp2;refine bodyPost_ret (v:=.agg #[iV 0,.slice p6 D.length q6]) ?_ rfl ⟨_,F6,rfl,?_,hE⟩
  ·simp[results,Tryz.results144,go_sem,j,m]
  rw[HD.out];exact⟨_,F6,rfl,bytesR.base (base:=w.heap.size+2) (bytesR.set (bytesR.set a5 _ (by simp)) _ (by simp)) oM,fun b=>Iff.rfl⟩
 have hd:(fA id xs==0)=false:=by simpa using s
 have HD:Hid (fYa ⟨id,xs⟩=⟨fA id xs,[]⟩):=if_neg s;obtain⟨d,T⟩:=d;go_wp2;refine bodyPost_ret (v:=.agg #[iV (fA id xs),aj]) ?_ rfl ?_
 ·simp[results,Tryz.results144,go_sem,j,m]
 rw[HD.out];first|exact⟨_,none_,rfl,fEq _ _ _,hE⟩|exact⟨_,rfl,⟨none_,fEq _ _ _⟩,hE⟩
end
section
theorem addP (b o i:Nat):(Addr.mk b o none).add i=⟨b,o+i,none⟩:=by
 by_cases h:i=0
 ·subst h;simp[Addr.add]
 simp[Addr.add,h]
theorem pO {w:World} {a:Option Addr} {cap:Nat} {xs:List Byte} (hx:mP w (.slice a xs.length cap) xs) (l h:Nat) (h1:l≤h) (h2:h≤xs.length) :
  mP w (.slice (if cap=l then a else a.map (·.add (l*1))) (h-l) (cap-l)) ((xs.drop l).take (h-l)):=by
 obtain⟨a',d,e,n,p,k⟩:=hx;simp only[Value.slice.injEq,true_and] at e;obtain⟨rfl,rfl⟩:=e;have g:((xs.drop l).take (h-l)).length=h-l:=by rw[List.length_take,List.length_drop];omega
 refine⟨_,_,by rw[g],oM,by omega,fun i j=>?_⟩;rw[g] at j;obtain⟨b,o,rfl,m⟩:=k (l+i) oM;refine⟨b,o+l,?_,?_⟩
 ·rw[if_neg oM];simp only[Option.map_some,Nat.mul_one];rw[addP]
 rw[show o+l+i=o+(l+i) by omega,m];simp[List.getD,j]
theorem fT1:(sizeOf (Tryz.prog.elem 23)).run Tryz.prog=fun w=>.ok 1 w:=by
 have he:Tryz.prog.elem 23=5:=kF;obtain⟨k,e,g,d,j⟩:=info_parts infoByte;funext w;simp[sizeOf,typeInfo,he,e,d]
theorem undB:Tryz.prog.underlying 23=some (.slice (Tryz.prog.elem 23)):=kF
theorem cutB {a:Option Addr} {n cap:Nat} (l h:Int) (h0:0≤l) (h1:l≤h) (h2:h≤n) (hn:n≤cap) :
  ∃a' c',(∀w:World,(Instr.sliceAt 23 (.slice a n cap) (some (iV l)) (some (iV h)) none).run Tryz.prog w =.ok (.slice a' (h-l).toNat c') w) ∧
   ∀(w:World) (xs:List Byte),xs.length=n→mP w (.slice a n cap) xs→mP w (.slice a' (h-l).toNat c') ((xs.drop l.toNat).take (h-l).toNat):=by
 refine⟨if cap=l.toNat then a else a.map (·.add (l.toNat*1)),cap-l.toNat,fun w=>?_,fun w xs e d=>?_⟩
 ·rw[run_sliceAt_slice (h:=undB),run_slice_lh (ht:=undB) (h0:=h0) (h1:=h1) (h2:=by omega),fT1];simp only[Result.andThen,sliced];rw[show h.toNat-l.toNat=(h-l).toNat by omega]
 subst e;have:=pO d l.toNat h.toNat oM oM;rw[show h.toNat-l.toNat=(h-l).toNat by omega] at this;exact this
theorem cutH {a:Option Addr} {n cap:Nat} (h:Int) (h0:0≤h) (h2:h≤n) (hn:n≤cap) :
  ∃a' c',(∀w:World,(Instr.sliceAt 23 (.slice a n cap) none (some (iV h)) none).run Tryz.prog w =.ok (.slice a' h.toNat c') w) ∧
   ∀(w:World) (xs:List Byte),xs.length=n→mP w (.slice a n cap) xs→mP w (.slice a' h.toNat c') (xs.take h.toNat):=by
 refine⟨if cap=0 then a else a.map (·.add (0*1)),cap-0,fun w=>?_,fun w xs e d=>?_⟩
 ·rw[run_sliceAt_slice (h:=undB),run_slice_h (ht:=undB) (h0:=h0) (h2:=by omega),fT1];simp only[Result.andThen,sliced];rw[Nat.sub_zero]
 subst e;have:=pO d 0 h.toNat oM oM;rw[Nat.sub_zero,List.drop_zero] at this;exact this
theorem cutL {a:Option Addr} {n cap:Nat} (l:Int) (h0:0≤l) (h2:l≤n) (hn:n≤cap) :
  ∃a' c',(∀w:World,(Instr.sliceAt 23 (.slice a n cap) (some (iV l)) none none).run Tryz.prog w =.ok (.slice a' (n-l.toNat) c') w) ∧
   ∀(w:World) (xs:List Byte),xs.length=n→mP w (.slice a n cap) xs→mP w (.slice a' (n-l.toNat) c') (xs.drop l.toNat):=by
 refine⟨if cap=l.toNat then a else a.map (·.add (l.toNat*1)),cap-l.toNat,fun w=>?_,fun w xs e d=>?_⟩
 ·rw[run_sliceAt_slice (h:=undB),run_slice_l (ht:=undB) (h0:=h0) (h1:=h2),fT1];simp only[Result.andThen,sliced]
 subst e;have:=pO d l.toNat xs.length oM oM;rw[show(xs.drop l.toNat).take (xs.length-l.toNat)=xs.drop l.toNat from List.take_of_length_le (by rw[List.length_drop];omega)] at this;exact this
end
section
variable [dQ Leg] [iH Leg] [dQ Cont] [iH Cont]
structure ContR where
 code:Int
 contract:Cont
variable [dQ ContR] [iH ContR]
def contRR:Rep ContR where
 V:=fun w v x=>∃u1_1,v =.agg #[.int .i64 x.code,.int .i64 x.contract.id,u1_1]∧contR.V w (.agg #[.int .i64 x.contract.id,u1_1]) x.contract
 O:=fun w base F v x=>∃u1_1 F1,v =.agg #[.int .i64 x.code,.int .i64 x.contract.id,u1_1]∧contR.O w base F1 (.agg #[.int .i64 x.contract.id,u1_1]) x.contract∧(∀b,F b↔(F1 b))
 below:=fun h hb=>by
  obtain⟨u1_1,rfl,h1⟩:=h;exact⟨u1_1,rfl,contR.below h1 hb⟩
 ofO:=fun h=>by
  obtain⟨u1_1,F1,rfl,h1,_⟩:=h;exact⟨u1_1,rfl,contR.ofO h1⟩
 mod:=fun h hm hd=>by
  obtain⟨u1_1,F1,rfl,h1,hF⟩:=h;exact⟨u1_1,F1,rfl,contR.mod h1 hm (fun b hb=>hd b ((hF b).2 hb)),hF⟩
 rng:=fun h b hb=>by
  obtain⟨u1_1,F1,rfl,h1,hF⟩:=h;rcases(hF b).1 hb with hb
  exact contR.rng h1 b hb
 base:=fun h hb=>by
  obtain⟨u1_1,F1,rfl,h1,hF⟩:=h;exact⟨u1_1,F1,rfl,contR.base h1 hb,hF⟩
variable [dQ ContR] [iH ContR]
def fYi (xs:List Byte) (t:Nat):Leg:=⟨((xs.getD t 0).val:Int),((xs.getD (t+1) 0).val:Int),((xs.getD (t+2) 0).val:Int),IntKind.i64.wrap (hiN ((xs.drop (t+3)).take 8))⟩
def mQ (xs:List Byte) (k:Nat):List Leg:=(List.range k).map (fun i=>fYi xs (8+11*i))
theorem fB0 (xs:List Byte) (k:Nat):(mQ xs k).length=k:=by simp[mQ]
theorem fGl (xs:List Byte) (k:Nat):mQ xs (k+1)=mQ xs k++[fYi xs (8+11*k)]:=by simp[mQ,List.range_succ]
theorem fOp (xs:List Leg) (l:Leg):gT (xs++[l])=gT xs++legC l:=by simp[gT]
theorem fVc (l:Leg):∀u ∈ legC l,u.oneCell'=true:=by
 intro u d;simp only[legC,List.mem_cons,List.not_mem_nil,or_false] at d;rcases d with rfl|rfl|rfl|rfl <;> rfl
theorem fHn {w:World} {g c:Nat} {l:Leg} (h0:w.cell? ⟨g,0,none⟩=some (iV l.sh)) (h1:w.cell? ⟨g,1,none⟩=some (iV l.ac)) (h2:w.cell? ⟨g,2,none⟩=some (iV l.ast)) (h3:w.cell? ⟨g,3,none⟩=some (iV l.am)) :
  gP w (.slice (some ⟨g,0,none⟩) 1 c) 1 (legC l):=by
 refine .inr ⟨_,_,rfl,fun j x d=>?_⟩;match j,d with
 | 0,d=>simp[legC] at d;subst d;simpa [Addr.add] using h0
 | 1,d=>simp[legC] at d;subst d;simpa [Addr.add] using h1
 | 2,d=>simp[legC] at d;subst d;simpa [Addr.add] using h2
 | 3,d=>simp[legC] at d;subst d;simpa [Addr.add] using h3
 | j+4,d=>simp[legC] at d
theorem fDx (Y:World) {ops:Array Oper} {o:Oper} {a:Act} {K:Act→World→Prop} {Q:Exit→Act→World→Prop} {E:Prop} (hgd:o.guard=none) (s x:Operand)
  (ho:o.op =.call {callee:=.builtin .append,args:=#[s,x],argTypes:=#[55,55]})
  (base:Nat) (v:Value) (out:List Leg) (hs:a.eval s=v) (l:Leg) (u:Value) (hx:a.eval x=u) (hown:Y.ownsRow base 168 4 v out.length (gT out)) (hsrc:gP Y u 1 (legC l)) (hlen:out.length≤1048576) (hbase:base≤Y.heap.size)
  (h:∀v' w',w'.ownsRow base 168 4 v' (out++[l]).length (gT (out++[l]))→Y.grownBy w' v.ownBlock→(∀W:World,Below base W Y→Below base W w')→K (a.put o.dst v') w') :
  if Region.wanted o (yielded ops a.tmps)=true then Oper.wp Tryz.prog o a Y K Q else E:=by
 obtain⟨j,k,d,e,g⟩:=info_parts fC3;refine uD Y hgd s x 55 ho base 168 j _ 4 32 Tryz.underlying55 k d e g rfl (by decide) v out.length (gT out) hs u 1 (legC l) hx hown hsrc rfl (fVc l) (by unfold maxLen;omega) oM hbase ?_;intro v' w' h1 h2 m;refine h v' w' ?_ h2 m;rw[List.length_append,fOp];exact h1
def mK (xs:List Byte):Cont:=⟨IntKind.i64.wrap (hiN (xs.take 8)),mQ xs ((xs.length-8) / 11)⟩
def UnSt (w w':World) (id:Int) (v:Value) (ys:List Leg):Prop:=
 (w'.cell? ⟨w.heap.size+1,0,none⟩=some (.int .i64 id)∧w'.cell? ⟨w.heap.size+1,1,none⟩=some v)∧(w'.cell? ⟨w.heap.size,0,none⟩=some (.int .i64 0)∧w'.cell? ⟨w.heap.size,1,none⟩=some (.slice none 0 0)) ∧
 ((∀o,w'.frozen? ⟨w.heap.size,o,none⟩=false)∧(∀o,w'.frozen? ⟨w.heap.size+1,o,none⟩=false))∧w.heap.size+2≤w'.heap.size∧w'.ownsRow (w.heap.size+2) 168 4 v ys.length (gT ys)∧aa w w'
theorem fYx {w w3:World} {x y:Value} (h:aa w w3∧w3.cell? ⟨w.heap.size+1,0,none⟩=some x∧w3.cell? ⟨w.heap.size+1,1,none⟩=some y) (a b:Value) :
  aa w ((w3.setCell ⟨w.heap.size,0,none⟩ a).setCell ⟨w.heap.size,1,none⟩ b)∧((w3.setCell ⟨w.heap.size,0,none⟩ a).setCell ⟨w.heap.size,1,none⟩ b).cell? ⟨w.heap.size+1,0,none⟩=some x ∧
   ((w3.setCell ⟨w.heap.size,0,none⟩ a).setCell ⟨w.heap.size,1,none⟩ b).cell? ⟨w.heap.size+1,1,none⟩=some y:=by
 refine⟨(h.1.setCell (Nat.le_refl _) _).setCell (Nat.le_refl _) _,?_,?_⟩
 ·rw[fU (by simp),fU (by simp)];exact h.2.1
 rw[fU (by simp),fU (by simp)];exact h.2.2
end
end Go.Proofs.YtpibfdebfacooaaGreat

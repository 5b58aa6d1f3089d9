import Derived.Test.YtpibfdebfacooaaGreatPrnWriteEventLaw3
import Derived.Deep.DeepAppendRoom
import Derived.PlainAid
import Derived.Laws.BitsAllLaws
import Derived.Lib.ConvBytes
set_option maxHeartbeats 1000000
set_option linter.all false
namespace Go.Proofs.YtpibfdebfacooaaGreat
open Go.RowKit
attribute [local go_sem ↓] Go.wp_at_zero Go.wp_at_succ
attribute [local go_sem] iV aj
section
variable [dQ Leg] [iH Leg] [dQ Cont] [iH Cont] [dQ Evt] [iH Evt]
def evtsR:Rep (List Evt):=nRep evtfR 59 4 fOr
theorem vO {w:World} {v:Value} {xs:List Evt} (h:evtsR.V w v xs):∃a c,v =.slice a xs.length c:=by
 obtain⟨a,c,rfl,_⟩:=h;exact⟨_,_,rfl⟩
theorem fXs:(Tryz.prog.info? 59).map (fun i=>(i.zero,i.size,i.bytes))=some (some (.agg #[.bool false,iV 0,aj,iV 0]),4,48):=kF
structure EvtsR where
 code:Int
 evts:List Evt
variable [dQ EvtsR] [iH EvtsR]
def evtsRR:Rep EvtsR where
 V:=fun w v x=>∃u1,v =.agg #[.int .i64 x.code,u1]∧evtsR.V w u1 x.evts
 O:=fun w base F v x=>∃u1 F1,v =.agg #[.int .i64 x.code,u1]∧evtsR.O w base F1 u1 x.evts∧(∀b,F b↔(F1 b))
 below:=fun h hb=>by
  obtain⟨u1,rfl,h1⟩:=h;exact⟨u1,rfl,evtsR.below h1 hb⟩
 ofO:=fun h=>by
  obtain⟨u1,F1,rfl,h1,_⟩:=h;exact⟨u1,rfl,evtsR.ofO h1⟩
 mod:=fun h hm hd=>by
  obtain⟨u1,F1,rfl,h1,hF⟩:=h;exact⟨u1,F1,rfl,evtsR.mod h1 hm (fun b hb=>hd b ((hF b).2 hb)),hF⟩
 rng:=fun h b hb=>by
  obtain⟨u1,F1,rfl,h1,hF⟩:=h;rcases(hF b).1 hb with hb
  exact evtsR.rng h1 b hb
 base:=fun h hb=>by
  obtain⟨u1,F1,rfl,h1,hF⟩:=h;exact⟨u1,F1,rfl,evtsR.base h1 hb,hF⟩
structure EvtR where
 code:Int
 evt:Evt
variable [dQ EvtR] [iH EvtR]
def evtRR:Rep EvtR where
 V:=fun w v x=>∃u1_1_1,v =.agg #[.int .i64 x.code,.bool x.evt.vote,.int .i64 x.evt.con.id,u1_1_1,.int .i64 x.evt.out]∧evtR.V w (.agg #[.bool x.evt.vote,.int .i64 x.evt.con.id,u1_1_1,.int .i64 x.evt.out]) x.evt
 O:=fun w base F v x=>∃u1_1_1 F1,v =.agg #[.int .i64 x.code,.bool x.evt.vote,.int .i64 x.evt.con.id,u1_1_1,.int .i64 x.evt.out]∧evtR.O w base F1 (.agg #[.bool x.evt.vote,.int .i64 x.evt.con.id,u1_1_1,.int .i64 x.evt.out]) x.evt∧(∀b,F b↔(F1 b))
 below:=fun h hb=>by
  obtain⟨u1_1_1,rfl,h1⟩:=h;exact⟨u1_1_1,rfl,evtR.below h1 hb⟩
 ofO:=fun h=>by
  obtain⟨u1_1_1,F1,rfl,h1,_⟩:=h;exact⟨u1_1_1,rfl,evtR.ofO h1⟩
 mod:=fun h hm hd=>by
  obtain⟨u1_1_1,F1,rfl,h1,hF⟩:=h;exact⟨u1_1_1,F1,rfl,evtR.mod h1 hm (fun b hb=>hd b ((hF b).2 hb)),hF⟩
 rng:=fun h b hb=>by
  obtain⟨u1_1_1,F1,rfl,h1,hF⟩:=h;rcases(hF b).1 hb with hb
  exact evtR.rng h1 b hb
 base:=fun h hb=>by
  obtain⟨u1_1_1,F1,rfl,h1,hF⟩:=h;exact⟨u1_1_1,F1,rfl,evtR.base h1 hb,hF⟩
end
section
def gP (w:World) (u:Value) (m:Nat) (news:List Value):Prop:=
 (∃c,u =.slice none 0 c∧m=0∧news=[])∨∃ad c,u =.slice (some ad) m c∧∀j x,news[j]? = some x→w.cell? (ad.add j)=some x
section
variable {P : Program} (w : World)
theorem vW (base:Nat) (t ty e:TypeId) (i:TypeInfo) (size c:Nat) (ht:P.underlying t=some (.slice e)) (hi:P.info? e=some i)
  (v:Value) (n:Nat) (xs:List Value) (hown:w.ownsRow base e size v n xs) :
  (Builtin.append_ #[t,t] ty #[v,.slice none 0 c]).run P w =.ok v w:=by
 rcases hown.2 with ⟨rfl,rfl⟩|⟨g,cap,cur,rfl,_,_,d,_⟩
 ·simp[Builtin.append_,run_underlying ht,sizeOf,typeInfo,hi,Builtin.lenOf,Builtin.firstCells]
 simp[Builtin.append_,run_underlying ht,sizeOf,typeInfo,hi,Builtin.lenOf,Builtin.firstCells,d,storeCells]
theorem fM7 {o:Oper} {a:Act} {K:Act→World→Prop} {Q:Exit→Act→World→Prop} (s x:Operand) (t:TypeId)
  (ho:o.op =.call {callee:=.builtin .append,args:=#[s,x],argTypes:=#[t,t]})
  (base:Nat) (e:TypeId) (i:TypeInfo) (z:Value) (size bytes:Nat) (ht:P.underlying t=some (.slice e)) (hi:P.info? e=some i) (hz:i.zero=some z)
  (hsize:i.size=size) (hby:i.bytes=bytes) (hzs:z.cells.size=size) (hsz:0<size)
  (v:Value) (n:Nat) (xs:List Value) (hs:a.eval s=v) (u:Value) (m:Nat) (news:List Value) (hx:a.eval x=u)
  (hown:w.ownsRow base e size v n xs) (hsrc:gP w u m news) (hl:news.length=m*size) (h1:∀u ∈ news,u.oneCell'=true)
  (h63:n+m≤maxLen) (hbytes:(n+m)*bytes≤140737488355328) (hbase:base≤w.heap.size)
  (h:∀v' w',w'.ownsRow base e size v' (n+m) (xs++news)→w.grownBy w' v.ownBlock→(∀W:World,Below base W w→Below base W w')→K (a.put o.dst v') w'):o.wp P a w K Q:=by
 rcases hsrc with ⟨c,rfl,rfl,rfl⟩|⟨j,c,rfl,d⟩
 ·have l:=vW (P:=P) w base t o.type e i size c ht hi v n xs hown;unfold Oper.wp execOp;simp only[ho,resolve,invoke,builtin,Sem.run_bind,Sem.run_pure,Result.andThen_ok,List.map_toArray,List.map_cons,List.map_nil,hs,hx,l];exact h v w (by simpa using hown) ⟨rfl,rfl,rfl,Nat.le_refl _,fun _ _ _=>rfl⟩ (fun _ g=>g)
 exact wp_append_own w s x t ho base e i z size bytes ht hi hz hsize hby hzs hsz v n xs hs hown j m c news hx hl d h1 h63 hbytes hbase (fun v' w' q1 q2 _=>h v' w' q1 q2 (fun W g=>g.grown q2 hbase (fun k p=>(hown.lt k p).1)))
theorem uD {ops:Array Oper} {o:Oper} {a:Act} {K:Act→World→Prop} {Q:Exit→Act→World→Prop} {E:Prop} (hgd:o.guard=none) (s x:Operand) (t:TypeId)
  (ho:o.op =.call {callee:=.builtin .append,args:=#[s,x],argTypes:=#[t,t]})
  (base:Nat) (e:TypeId) (i:TypeInfo) (z:Value) (size bytes:Nat) (ht:P.underlying t=some (.slice e)) (hi:P.info? e=some i) (hz:i.zero=some z)
  (hsize:i.size=size) (hby:i.bytes=bytes) (hzs:z.cells.size=size) (hsz:0<size)
  (v:Value) (n:Nat) (xs:List Value) (hs:a.eval s=v) (u:Value) (m:Nat) (news:List Value) (hx:a.eval x=u)
  (hown:w.ownsRow base e size v n xs) (hsrc:gP w u m news) (hl:news.length=m*size) (h1:∀u ∈ news,u.oneCell'=true)
  (h63:n+m≤maxLen) (hbytes:(n+m)*bytes≤140737488355328) (hbase:base≤w.heap.size)
  (h:∀v' w',w'.ownsRow base e size v' (n+m) (xs++news)→w.grownBy w' v.ownBlock→(∀W:World,Below base W w→Below base W w')→K (a.put o.dst v') w') :
  if Region.wanted o (yielded ops a.tmps)=true then Oper.wp P o a w K Q else E:=by
 have d:Region.wanted o (yielded ops a.tmps)=true:=by simp[Region.wanted,hgd]
 rw[if_pos d];exact fM7 w s x t ho base e i z size bytes ht hi hz hsize hby hzs hsz v n xs hs u m news hx hown hsrc hl h1 h63 hbytes hbase h
theorem vH {ops:Array Oper} {rest:List Oper} {o:Oper} {a:Act} {Q:Exit→Act→World→Prop} (hgd:o.guard=none) (s x:Operand) (t:TypeId)
  (ho:o.op =.call {callee:=.builtin .append,args:=#[s,x],argTypes:=#[t,t]})
  (base:Nat) (e:TypeId) (i:TypeInfo) (z:Value) (size bytes:Nat) (ht:P.underlying t=some (.slice e)) (hi:P.info? e=some i) (hz:i.zero=some z)
  (hsize:i.size=size) (hby:i.bytes=bytes) (hzs:z.cells.size=size) (hsz:0<size)
  (v:Value) (n:Nat) (xs:List Value) (hs:a.eval s=v) (u:Value) (m:Nat) (news:List Value) (hx:a.eval x=u)
  (hown:w.ownsRow base e size v n xs) (hsrc:gP w u m news) (hl:news.length=m*size) (h1:∀u ∈ news,u.oneCell'=true)
  (h63:n+m≤maxLen) (hbytes:(n+m)*bytes≤140737488355328) (hbase:base≤w.heap.size)
  (h:∀v' w',w'.ownsRow base e size v' (n+m) (xs++news)→w.grownBy w' v.ownBlock→(∀W:World,Below base W w→Below base W w')→wpList P ops Q rest (a.put o.dst v') w') :
  wpList P ops Q (o::rest) a w:=by
 refine wpList_plain hgd fun j d=>?_
 exact fM7 w s x t ho base e i z size bytes ht hi hz hsize hby hzs hsz v n xs hs u m news hx hown hsrc hl h1 h63 hbytes hbase (fun v' w' q1 q2 g=>d _ _ (h v' w' q1 q2 g))
end
theorem kN {w:World} {v:Value} {xs:List Byte} (h:mP w v xs):gP w v xs.length (fT xs):=by
 obtain⟨a,c,rfl,_,_,k⟩:=h;cases a with
 | none=>
  have h0:xs=[]:=by
   cases xs with
   | nil=>rfl
   | cons x r=>obtain⟨b,o,e,_⟩:=k 0 (by simp);cases e
  subst h0;exact .inl ⟨c,rfl,rfl,rfl⟩
 | some ad=>
  refine .inr ⟨ad,c,rfl,fun j x l=>?_⟩;have d:j<xs.length:=by
   have:=(List.getElem?_eq_some_iff.1 l).1;rw[qO] at this;exact this
  obtain⟨b,o,e,m⟩:=k j d;simp only[Option.some.injEq] at e;subst e;have g:(Addr.mk b o none).add j=⟨b,o+j,none⟩:=by
   by_cases h:j=0
   ·subst h;simp[Addr.add]
   simp[Addr.add,h]
  rw[g,m,←fAk xs j d];exact l
theorem fRc {w:World} {g:Nat} {c:Nat} {b:Byte} {q:Int} (h:w.cell? ⟨g,0,none⟩=some (.int .u8 q)) (hq:q=(b.val:Int)):gP w (.slice (some ⟨g,0,none⟩) 1 c) 1 (fT [b]):=by
 subst hq;refine .inr ⟨_,_,rfl,fun j x d=>?_⟩;match j,d with
 | 0,d=>simp[fT] at d;subst d;simpa [Addr.add] using h
 | j+1,d=>simp[fT] at d
theorem fK1 {w:World} {g:Nat} {c:Nat} {b0 b1 b2:Byte} {q0 q1 q2:Int} (h0:w.cell? ⟨g,0,none⟩=some (.int .u8 q0)) (h1:w.cell? ⟨g,1,none⟩=some (.int .u8 q1)) (h2:w.cell? ⟨g,2,none⟩=some (.int .u8 q2))
  (e0:q0=(b0.val:Int)) (e1:q1=(b1.val:Int)) (e2:q2=(b2.val:Int)):gP w (.slice (some ⟨g,0,none⟩) 3 c) 3 (fT [b0,b1,b2]):=by
 subst e0 e1 e2;refine .inr ⟨_,_,rfl,fun j x d=>?_⟩;match j,d with
 | 0,d=>simp[fT] at d;subst d;simpa [Addr.add] using h0
 | 1,d=>simp[fT] at d;subst d;simpa [Addr.add] using h1
 | 2,d=>simp[fT] at d;subst d;simpa [Addr.add] using h2
 | j+3,d=>simp[fT] at d
theorem qL (w:World) {ops:Array Oper} {rest:List Oper} {o:Oper} {a:Act} {Q:Exit→Act→World→Prop} (hgd:o.guard=none) (s x:Operand)
  (ho:o.op =.call {callee:=.builtin .append,args:=#[s,x],argTypes:=#[23,23]})
  (base:Nat) (v:Value) (xs:List Byte) (hs:a.eval s=v) (u:Value) (ys:List Byte) (hx:a.eval x=u)
  (hown:w.ownsRow base 5 1 v xs.length (fT xs)) (hsrc:gP w u ys.length (fT ys)) (hlen:xs.length+ys.length≤1073741824) (hbase:base≤w.heap.size)
  (h:∀v' w',w'.ownsRow base 5 1 v' (xs++ys).length (fT (xs++ys))→w.grownBy w' v.ownBlock→(∀W:World,Below base W w→Below base W w')→wpList Tryz.prog ops Q rest (a.put o.dst v') w') :
  wpList Tryz.prog ops Q (o::rest) a w:=by
 obtain⟨j,k,d,e,g⟩:=info_parts infoByte;refine vH w hgd s x 23 ho base 5 j _ 1 1 Tryz.underlying23 k d e g rfl (by decide) v xs.length (fT xs) hs u ys.length (fT ys) hx hown hsrc (by rw[qO];omega) (xU ys) (by unfold maxLen;omega) oM hbase ?_;intro v' w' h1 h2 l;refine h v' w' ?_ h2 l;rw[List.length_append,uZ];exact h1
end
section
def hiB (n:Int) (size:Nat):List Byte:=(List.range size).map (fun i=>toB (n / 2 ^ (8*(size-1-i))))
theorem gH (n:Int) (size:Nat):(hiB n size).length=size:=by simp[hiB]
theorem fXn (n:Int) (size i:Nat) (h:i<size):(hiB n size).getD i 0=toB (n / 2 ^ (8*(size-1-i))):=by simp[hiB,List.getD,h]
theorem fXp (n:Int) (size i:Nat) (h:i<size):(hiB n size).take (i+1)=(hiB n size).take i++[toB (n / 2 ^ (8*(size-1-i)))]:=by
 rw[List.take_add_one];congr 1;simp[hiB,h]
theorem fWd (n:Int) (k:Nat) (h:k≤56):toB (n % 18446744073709551616 / 2 ^ k)=toB (n / 2 ^ k):=by
 apply Fin.ext;have e:((toB (n % 18446744073709551616 / 2 ^ k)).val:Int)=((toB (n / 2 ^ k)).val:Int):=by
  rw[fDf,fDf];have h1:(18446744073709551616:Int)=2 ^ k*(256*2 ^ (56-k)):=by
   rw[show(256:Int)=2 ^ 8 by decide,←Int.pow_add,←Int.pow_add,show k+(8+(56-k))=64 by omega];decide
  have h2:(0:Int)<2 ^ k:=Int.pow_pos oM;have d:n % 18446744073709551616=n-2 ^ k*(256*2 ^ (56-k)*(n / 18446744073709551616)):=by
   rw[Int.emod_def,←Int.mul_assoc,←h1]
  rw[d,Int.sub_eq_add_neg,←Int.mul_neg,Int.add_mul_ediv_left _ _ (Int.ne_of_gt h2)];rw[show -(256*2 ^ (56-k)*(n / 18446744073709551616))=256*(-(2 ^ (56-k)*(n / 18446744073709551616))) by rw[Int.mul_neg,Int.mul_assoc]];exact Int.add_mul_emod_self_left _ _ _
 omega
theorem zZ (n:Int) (w:World) :
  cL 95 #[.int .i64 n] w fun e w'=>∃v,e =.returned v∧w'.ownsRow w.heap.size 5 1 v 8 (fT (hiB n 8))∧aa w w':=by
 obtain⟨V,X,F,G,H⟩:=info_parts infoByte;go_enter Tryz.func95,Tryz.ntmps95;go_wp2;go_loopw [3,4] (fun v i w'=>∃(k:Nat) (j:Int),k≤8∧j=7-k∧i =.int .i64 j∧w'.ownsRow w.heap.size 5 1 v ((hiB n 8).take k).length (fT ((hiB n 8).take k))∧aa w w') (fun _ i _=>8-(7-intOf i).toNat)
 case atStart=>
  refine⟨0,7,by omega,by omega,rfl,?_,bA (bR _ _) _⟩;have:=World.ownsRow_lit (base:=w.heap.size) (e:=5) (size:=1) w #[] 0 (by simp) (by unfold maxLen;omega) rfl;simpa [fT] using this
 obtain⟨k,j,x,y,rfl,p,d⟩:=hrel;have r:Hid (k≤8∧j=7-(k:Int)):=⟨x,y⟩;by_cases I:0≤j
 ·
  have Y:j≤7:=oM;have l:k<8:=oM;clear y x;have J:=d.size;have K:((hiB n 8).take k).length≤8:=by rw[List.length_take];omega
  have B:=fXp n 8 k l;have L:Hid ((hiB n 8).take (k+1)=(hiB n 8).take k++[toB (n / 2 ^ (8*(8-1-k)))]):=B;clear B l;generalize (hiB n 8).take k=ys at *;obtain⟨s,C⟩:∃s,s=8*j:=⟨_,rfl⟩
  have M:Hid (s=8*j):=C;have Z:IntKind.i64.wrap (8*j)=s:=by rw[IntKind.wrap_i64];omega
  have v2:IntKind.u64.wrap s=s:=by rw[IntKind.wrap_u64];omega
  have s0:0≤s:=oM;have s1:s≤56:=oM;obtain⟨u,N⟩:∃u,IntKind.u64.wrap n=u:=⟨_,rfl⟩
  obtain⟨q,O⟩:∃q,IntKind.u8.wrap (u / 2 ^ s.toNat)=q:=⟨_,rfl⟩
  clear C;go_wp2_with (at_builtin;refine qL _ rfl _ _ rfl w.heap.size _ ys rfl _ [toB (n / 2 ^ (8*(8-1-k)))] rfl (p.alloc _) ?c1 ?c2 ?c3 ?_)
  case c1=>
   refine fRc (g:=wr.heap.size) (q:=q) sG ?_;have R:s.toNat=8*(8-1-k):=by have:=r.out;have:=M.out;omega
   rw[←O,fGt,R,←N,IntKind.wrap_u64,fWd _ _ oM]
  case c2=>simp;omega
  case c3=>simp;omega
  intro v' D m T E;have z:=E w (bA d _);have h2:World.ownsRow D w.heap.size 5 1 v' (ys++[toB (n / 2 ^ (8*(8-1-k)))]).length (fT (ys++[toB (n / 2 ^ (8*(8-1-k)))])):=by simpa using m
  have U:Hid (World.ownsRow D w.heap.size 5 1 v' (ys++[toB (n / 2 ^ (8*(8-1-k)))]).length (fT (ys++[toB (n / 2 ^ (8*(8-1-k)))]))):=h2;clear E T p m h2;go_wp2;refine⟨⟨k+1,j-1,by have:=r.out;omega,by have:=r.out;omega,rfl,?_,z⟩,mI⟩;rw[L.out];exact U.out
 clear y x;go_wp2;go_ret;have A:k=8:=by have:=r.out;omega
 subst A;rw[List.take_of_length_le (by rw[gH];omega),gH] at p;exact⟨_,rfl,p,d⟩
def fUj (k n:Nat) (cs:List Value) (ys:List Byte):Prop:=∀j,n-k≤j→j<n→cs[j]? = (fT ys)[j]?
theorem fUk {k n:Nat} {cs:List Value} {ys:List Byte} {l:Int} (h:fUj k n cs ys) (hk:k<n) (hn:ys.length=n) (hl:cs.length=n*1) (he:l=((ys.getD (n-1-k) 0).val:Int)):fUj (k+1) n (cs.set (n-1-k) (.int .u8 l)) ys:=by
 intro j h1 h2;rw[List.getElem?_set];by_cases e:n-1-k=j
 ·subst e;rw[if_pos rfl,if_pos oM,fAk ys _ oM,he]
 rw[if_neg e];exact h j oM h2
theorem fR0 {n:Nat} {cs:List Value} {ys:List Byte} (h:fUj n n cs ys) (hl:cs.length=n*1) (hn:ys.length=n):cs=fT ys:=by
 apply List.ext_getElem?;intro j;by_cases d:j<n
 ·exact h j oM d
 rw[List.getElem?_eq_none oM,List.getElem?_eq_none (by simp[fT];omega)]
theorem fXd (b:Int) (k:Nat):b / 2 ^ (8*k) / 256=b / 2 ^ (8*(k+1)):=by
 rw[Int.ediv_ediv_of_nonneg (Int.pow_nonneg (by decide)),show(256:Int)=2 ^ 8 by decide,←Int.pow_add,Nat.mul_add]
theorem fBa (b z:Int) (n:Nat) (w:World) (hz:z=n) (hn:n≤1048576) :
  cL 161 #[.int .u64 b,iV z] w fun e w'=>∃v,e =.returned v∧w'.ownsRow w.heap.size 5 1 v n (fT (hiB b n))∧aa w w':=by
 subst hz;obtain⟨N,O,B,C,D⟩:=info_parts infoByte;obtain⟨R,E,g,r⟩:=run_make_full (P:=Tryz.prog) w w.heap.size 23 5 N _ 1 Tryz.underlying23 O B C .i64 .i64 n (by rw[D];omega) (by unfold maxLen;omega) (Nat.le_refl _);have l:aa w R:=(bR _ _).grown r (Nat.le_refl _) (fun k h=>by cases h);go_enter Tryz.func161,Tryz.ntmps161;go_wp2;go_loopw [0,6] (fun q i w'=>∃(k:Nat) (j x:Int) (cs:List Value),k≤n∧j=n-1-k∧x=b / 2 ^ (8*k)∧q =.int .u64 x∧i =.int .i64 j∧w'.ownsRow w.heap.size 5 1 (.slice (some ⟨w.heap.size,0,none⟩) n n) n cs∧fUj k n cs (hiB b n)∧aa w w') (fun _ i _=>n-(n-1-intOf i).toNat)
 case atStart=>exact⟨0,n-1,b,_,Nat.zero_le _,by omega,by simp,rfl,rfl,g,fun j h1 h2=>oM,l⟩
 obtain⟨k,j,x,cs,F,G,H,rfl,rfl,p,s,y⟩:=hrel;have I:Hid (fUj k n cs (hiB b n)):=s;have T:Hid (k≤n∧j=n-1-k):=⟨F,G⟩;have J:Hid (x=b / 2 ^ (8*k)):=H;clear s g E r l H;by_cases U:0≤j
 ·
  have d:k<n:=oM;have V:j=((n-1-k:Nat):Int):=oM;clear G F;subst V;obtain⟨u0,g0⟩:=kL p (n-1-k) oM;have hf:=fun j=>p.frozenAt j
  obtain⟨q,X⟩:∃q,IntKind.u8.wrap x=q:=⟨_,rfl⟩
  have Y:n-1-k<n:=oM;have K:Hid (k<n):=d;clear d;generalize A:n-1-k=m at *;have L:Hid (n-1-k=m):=A;clear A;have M:toB (b / 2 ^ (8*k))=(hiB b n).getD m 0:=by
   have:=K.out;rw[←L.out,fXn b n _ oM,show n-1-(n-1-k)=k by omega]
  have Z:Hid (toB (b / 2 ^ (8*k))=(hiB b n).getD m 0):=M;clear M;go_wp2;have s0:=p.stored m (.int .u8 q);have d:=K.out;have A:=L.out;refine⟨⟨k+1,_,_,_,by omega,?_,?_,rfl,rfl,s0.1,?_,y.setCell (Nat.le_refl _) _⟩,?_⟩
  ·omega
  ·rw[J.out,fXd]
  ·rw[←A];refine fUk I.out d (gH _ _) p.1 ?_;rw[A,←Z.out,←J.out,←fGt,X]
  simp[intOf];omega
 clear G F;go_wp2;go_ret;have d:k=n:=by have:=T.out;omega
 subst d;have e:=fR0 I.out p.1 (gH _ _);subst e;exact⟨_,rfl,p,y⟩
theorem fLu (n:Int) (w:World) :
  cL 148 #[iV n] w fun e w'=>∃v,e =.returned v∧w'.ownsRow w.heap.size 5 1 v 8 (fT (hiB n 8))∧aa w w':=by
 obtain⟨u,d⟩:∃u,IntKind.u64.wrap n=u:=⟨_,rfl⟩
 go_enter Tryz.func148,Tryz.ntmps148;go_wp2_with fail;refine(fBa u 8 8 _ rfl oM).mono ?_;rintro e k ⟨v,rfl,g,hb⟩;go_wp2;go_ret;refine⟨_,rfl,?_,hb⟩;have e:hiB u 8=hiB n 8:=by
  unfold hiB;apply List.map_congr_left;intro i j;rw[←d,IntKind.wrap_u64,fWd _ _ (by have:=List.mem_range.1 j;omega)]
 rw[←e];exact g
def hiN (xs:List Byte):Int:=xs.foldl (fun n b=>n*256+(b.val:Int)) 0
theorem fXq (xs:List Byte) (b:Byte):hiN (xs++[b])=hiN xs*256+(b.val:Int):=by simp[hiN]
theorem fI1 (xs:List Byte) (k:Nat) (h:k<xs.length):xs.take (k+1)=xs.take k++[xs.getD k 0]:=by
 rw[List.take_add_one];congr 1;simp[List.getD,h]
theorem fP9 (xs:List Byte) (k:Nat) (h:k<xs.length):hiN (xs.take (k+1))=hiN (xs.take k)*256+((xs.getD k 0).val:Int):=by
 rw[fI1 xs k h,fXq]
theorem fQ7 (a:Int):IntKind.i64.wrap (a % 18446744073709551616)=IntKind.i64.wrap a:=by rw[IntKind.wrap_i64,IntKind.wrap_i64];omega
theorem zW (x:Value) (xs:List Byte) (w:World) (hx:mP w x xs) (hn:8≤xs.length) :
  cL 160 #[x] w fun e w'=>e =.returned (iV (IntKind.i64.wrap (hiN (xs.take 8))))∧w'=w:=by
 obtain⟨G,H,rfl,B,g,hx⟩:=hx;unfold maxLen at g;have s:=fP9 xs;generalize d:xs.length=n at *;have I:Hid (xs.length=n):=d;have C:Hid (∀k,k<n→hiN (xs.take (k+1))=hiN (xs.take k)*256+((xs.getD k 0).val:Int)):=s;clear d s;go_enter Tryz.func160,Tryz.ntmps160;go_wp2;go_loopw [3,4] (fun q i w'=>∃(k:Nat) (y:Int),k≤8∧i =.int .i64 k∧y=hiN (xs.take k) % 18446744073709551616∧q =.int .u64 y∧w'=w) (fun _ i _=>8-(intOf i).toNat)
 case atStart=>exact⟨0,0,by omega,rfl,by simp[hiN],rfl,rfl⟩
 obtain⟨k,y,J,rfl,hy,rfl,rfl⟩:=hrel;have z:Hid (y=hiN (xs.take k) % 18446744073709551616):=hy;clear hy;by_cases D:k<8
 ·
  obtain⟨K,L,rfl,h1⟩:=hx k oM;have j:=C.out k oM;have hb:=xK (xs.getD k 0);obtain⟨l,A⟩:∃l:Int,l=((xs.getD k 0).val:Int):=⟨_,rfl⟩
  rw[←A] at h1 j hb;have E:Hid (hiN (xs.take (k+1))=hiN (xs.take k)*256+l):=j;have M:IntKind.u64.wrap l=l:=by rw[IntKind.wrap_u64];omega
  obtain⟨p,F⟩:∃p,IntKind.u64.wrap (y*256)=p:=⟨_,rfl⟩
  obtain⟨q,m⟩:∃q,IntKind.u64.wrap (p+l)=q:=⟨_,rfl⟩
  clear A hx j hb;go_wp2;refine⟨⟨k+1,q,by omega,by go_num,?_,rfl,trivial⟩,mI⟩;rw[E.out,←m,←F,z.out,IntKind.wrap_u64,IntKind.wrap_u64];omega
 obtain⟨q,m⟩:∃q,IntKind.i64.wrap y=q:=⟨_,rfl⟩
 go_wp2;go_ret;have r:k=8:=oM;subst r;refine⟨?_,rfl⟩;rw[←m,z.out,fQ7];rfl
theorem fZs (x l:Int) (hx0:0≤x) (hx1:x<18446744073709551616) (h0:0≤l) (h1:l≤255) :
  bits .or .u64 (IntKind.u64.wrap (x*256)) l=(x*256+l) % 18446744073709551616:=by
 rw[IntKind.wrap_u64,u64_or _ _ oM oM oM oM];obtain⟨X,rfl⟩:=Int.eq_ofNat_of_zero_le hx0;obtain⟨L,rfl⟩:=Int.eq_ofNat_of_zero_le h0;have d:((X:Int)*256 % 18446744073709551616).toNat=(X % 72057594037927936)*2 ^ 8:=oM;rw[d,Int.toNat_natCast,Nat.mul_comm,←Nat.two_pow_add_eq_or_of_lt (i:=8) oM (X % 72057594037927936)];omega
theorem fAh (x:Value) (xs:List Byte) (w:World) (hx:mP w x xs) :
  cL 187 #[x] w fun e w'=>e =.returned (.int .u64 (hiN xs % 18446744073709551616))∧w'=w:=by
 obtain⟨L,M,rfl,B,j,hx⟩:=hx;unfold maxLen at j;have s:=fP9 xs;generalize g:xs.length=n at *;have C:Hid (xs.length=n):=g;have D:Hid (∀k,k<n→hiN (xs.take (k+1))=hiN (xs.take k)*256+((xs.getD k 0).val:Int)):=s;clear g s;go_enter Tryz.func187,Tryz.ntmps187;go_wp2;go_loopw [3,8] (fun q i w'=>∃(k:Nat) (y:Int),k≤n∧i =.int .i64 k∧y=hiN (xs.take k) % 18446744073709551616∧q =.int .u64 y∧w'=w) (fun _ i _=>n-(intOf i).toNat)
 case atStart=>exact⟨0,0,by omega,rfl,by simp[hiN],rfl,rfl⟩
 obtain⟨k,y,N,rfl,hy,rfl,rfl⟩:=hrel;have E:0≤y:=oM;have F:y<18446744073709551616:=oM;have z:Hid (y=hiN (xs.take k) % 18446744073709551616):=hy;clear hy;by_cases G:k<n
 ·
  obtain⟨O,R,rfl,h1⟩:=hx k oM;have m:=D.out k oM;have hb:=xK (xs.getD k 0);obtain⟨l,A⟩:∃l:Int,l=((xs.getD k 0).val:Int):=⟨_,rfl⟩
  rw[←A] at h1 m hb;have H:Hid (hiN (xs.take (k+1))=hiN (xs.take k)*256+l):=m;have T:IntKind.u64.wrap l=l:=by rw[IntKind.wrap_u64];omega
  have d:=fZs y l E F hb.1 hb.2;obtain⟨p,I⟩:∃p,IntKind.u64.wrap (y*256)=p:=⟨_,rfl⟩
  obtain⟨q,J⟩:∃q,bits .or .u64 p l=q:=⟨_,rfl⟩
  rw[I,J] at d;have K:Hid (q=(y*256+l) % 18446744073709551616):=d;clear A hx m hb d;go_wp2;refine⟨⟨k+1,q,by omega,by go_num,?_,rfl,trivial⟩,mI⟩;rw[H.out,K.out,z.out];omega
 go_wp2;go_ret;have r:k=n:=oM;subst r;refine⟨?_,rfl⟩;rw[z.out,List.take_of_length_le (by have:=C.out;omega)];rfl
theorem uO (x:Value) (xs:List Byte) (w:World) (hx:mP w x xs) :
  cL 169 #[x] w fun e w'=>e =.returned (iV (IntKind.i64.wrap (hiN xs)))∧w'=w:=by
 have g:=hx;obtain⟨k,l,rfl,_⟩:=hx;obtain⟨u,d⟩:∃u,hiN xs % 18446744073709551616=u:=⟨_,rfl⟩
 obtain⟨q,j⟩:∃q,IntKind.i64.wrap u=q:=⟨_,rfl⟩
 go_enter Tryz.func169,Tryz.ntmps169;go_wp2_with fail;refine(fAh _ xs _ g).mono ?_;rintro e m ⟨rfl,rfl⟩;rw[d];go_wp2;go_ret;refine⟨?_,rfl⟩;rw[←j,←d,fQ7];rfl
def bytessR:Rep (List (List Byte)):=nRep bytesR 23 1 one
theorem fNn {w:World} {v:Value} {xs:List (List Byte)} (h:bytessR.V w v xs):∃a c,v =.slice a xs.length c:=by
 obtain⟨a,c,rfl,_⟩:=h;exact⟨_,_,rfl⟩
theorem fH0:(Tryz.prog.info? 23).map (fun i=>(i.zero,i.size,i.bytes))=some (some aj,1,24):=kF
theorem fUi (ps:List (List Byte)) (k:Nat) (h:k<ps.length):(ps.take (k+1)).flatten=(ps.take k).flatten++ps.getD k default:=by
 rw[List.take_add_one,List.flatten_append];congr 1;simp[List.getD,h]
theorem fZf (ps:List (List Byte)):∀k,(ps.take k).flatten.length≤ps.flatten.length:=by
 intro k;have h:ps.flatten=(ps.take k).flatten++(ps.drop k).flatten:=by rw[←List.flatten_append,List.take_append_drop]
 rw[h,List.length_append];omega
theorem pR (x:Value) (ps:List (List Byte)) (w:World) (hx:bytessR.V w x ps) (hn:ps.flatten.length≤1073741824) :
  cL 72 #[x] w fun e w'=>∃v F,e =.returned v∧bytesR.O w' w.heap.size F v ps.flatten∧aa w w':=by
 obtain⟨T,U,rfl,J,q,hx⟩:=hx;unfold maxLen at q;have A:∀k,k<ps.length→(ps.take (k+1)).flatten=(ps.take k).flatten++ps.getD k default∧((ps.take k).flatten.length+(ps.getD k default).length≤1073741824):=fun k B=>by
  have e:=fUi ps k B;have:=fZf ps (k+1);refine⟨e,?_⟩;rw[e,List.length_append] at this;omega
 have K:Hid (ps.take ps.length=ps):=List.take_length;generalize r:ps.length=n at *;have L:Hid (∀k,k<n→(ps.take (k+1)).flatten=(ps.take k).flatten++ps.getD k default∧((ps.take k).flatten.length+(ps.getD k default).length≤1073741824)):=A;clear r A;go_enter Tryz.func72,Tryz.ntmps72;go_wp2;go_loopw [3,8] (fun v i w'=>∃k:Nat,k≤n∧i =.int .i64 k∧w'.ownsRow w.heap.size 5 1 v (ps.take k).flatten.length (fT (ps.take k).flatten)∧aa w w') (fun _ i _=>n-(intOf i).toNat)
 case atStart=>exact⟨0,oM,rfl,by simpa [fT] using World.ownsRow_nil _ _ _ _,bR _ _⟩
 obtain⟨k,B,rfl,p,d⟩:=hrel;by_cases g:k<n
 ·
  obtain⟨X,Y,u,rfl,_,C,D⟩:=hx k g;obtain⟨E,G⟩:=L.out k g;have M:Hid ((ps.take (k+1)).flatten=(ps.take k).flatten++ps.getD k default):=E;have Z:=cK d (fT0 C);have j:=bytesR.below D d;have s:=d.size;generalize (ps.take k).flatten=ys at *;generalize ps.getD k default=l at *;clear E hx C;go_wp2_with (at_builtin;refine qL _ rfl _ _ rfl w.heap.size _ ys rfl _ l rfl p (kN j) G s ?_);intro v' H m N I;have y:=I w d;have h2:World.ownsRow H w.heap.size 5 1 v' (ys.length+l.length) (fT (ys++l)):=by simpa using m
  have R:Hid (World.ownsRow H w.heap.size 5 1 v' (ys.length+l.length) (fT (ys++l))):=h2;clear I N p m h2 G D j;go_wp2;refine⟨⟨k+1,by omega,by go_num,?_,y⟩,mI⟩;rw[M.out,List.length_append];exact R.out
 go_wp2;go_ret;have z:k=n:=oM;subst z;rw[K.out] at p;exact⟨_,_,rfl,⟨p,rfl⟩,d⟩
def fY2 (w:World) (v:Value) (ys:List Int):Prop:=
 ∃a cap,v =.slice a ys.length cap∧ys.length≤cap∧cap≤maxLen∧∀i,i<ys.length→∃b o,a=some ⟨b,o,none⟩∧w.cell? ⟨b,o+i,none⟩=some (.int .i64 (ys.getD i 0))
theorem fZo {w:World} {g:Nat} {a:Int} (h0:w.cell? ⟨g,0,none⟩=some (iV a)):fY2 w (.slice (some ⟨g,0,none⟩) 1 1) [a]:=by
 refine⟨_,_,rfl,by simp,by unfold maxLen;omega,fun i d=>⟨g,0,rfl,?_⟩⟩;match i,d with
 | 0,_=>simpa using h0
theorem gBc {w:World} {g:Nat} {a b c:Int} (h0:w.cell? ⟨g,0,none⟩=some (iV a)) (h1:w.cell? ⟨g,1,none⟩=some (iV b)) (h2:w.cell? ⟨g,2,none⟩=some (iV c)):fY2 w (.slice (some ⟨g,0,none⟩) 3 3) [a,b,c]:=by
 refine⟨_,_,rfl,by simp,by unfold maxLen;omega,fun i d=>⟨g,0,rfl,?_⟩⟩;match i,d with
 | 0,_=>simpa using h0
 | 1,_=>simpa using h1
 | 2,_=>simpa using h2
theorem zD (x:Value) (ys:List Int) (w:World) (hx:fY2 w x ys) (hn:ys.length≤1048576) :
  cL 143 #[x] w fun e w'=>∃v F,e =.returned v∧bytesR.O w' w.heap.size F v (ys.map toB)∧aa w w':=by
 obtain⟨Z,cx,rfl,L,A,hx⟩:=hx;unfold maxLen at A;obtain⟨M,N,B,C,D⟩:=info_parts infoByte;obtain⟨R,E,d,s⟩:=run_make_full (P:=Tryz.prog) w w.heap.size 23 5 M _ 1 Tryz.underlying23 N B C .i64 .i64 ys.length (by rw[D];omega) (by unfold maxLen;omega) (Nat.le_refl _);have g:aa w R:=(bR _ _).grown s (Nat.le_refl _) (fun k h=>by cases h);have z:Hid ((ys.map toB).length=ys.length):=by simp[Hid]
 have T:Hid (∀k,k<ys.length→(ys.map toB).getD k 0=toB (ys.getD k 0)):=fun k J=>by simp[List.getD,J]
 generalize G:ys.length=n at *;clear G;go_enter Tryz.func143,Tryz.ntmps143;go_wp2;go_loopw [11] (fun i w'=>∃(k:Nat) (cs:List Value),k≤n∧i =.int .i64 k∧w'.ownsRow w.heap.size 5 1 (.slice (some ⟨w.heap.size,0,none⟩) n n) n cs∧fKt k cs (ys.map toB)∧aa w w') (fun i _=>n-(intOf i).toNat)
 case atStart=>exact⟨0,_,Nat.zero_le _,rfl,d,fun j h=>oM,g⟩
 obtain⟨k,cs,J,rfl,r,y,m⟩:=hrel;have K:Hid (fKt k cs (ys.map toB)):=y;clear y d E s g;by_cases p:k<n
 ·
  obtain⟨bx,ox,rfl,h1⟩:=hx k p;obtain⟨l,H⟩:∃l:Int,l=ys.getD k 0:=⟨_,rfl⟩
  rw[←H] at h1;have U:Hid (l=ys.getD k 0):=H;clear H hx;have a1:=cK m h1;obtain⟨u0,g0⟩:=kL r k oM;have hf:=fun j=>r.frozenAt j
  obtain⟨q,V⟩:∃q,IntKind.u8.wrap l=q:=⟨_,rfl⟩
  have X:Hid (q=((toB l).val:Int)):=by rw[←V];exact fGt l
  go_wp2;have Y:=r.stored k (.int .u8 q);refine⟨⟨k+1,_,by omega,by go_num,Y.1,fGo K.out (by rw[z.out];exact p) (by rw[z.out];exact r.1) (by rw[T.out k p,←U.out];exact X.out),?_⟩,mI⟩;exact m.setCell (Nat.le_refl _) _
 go_wp2;go_ret;have I:k=n:=oM;subst I;have e:=fDg K.out r.1 z.out;subst e;refine⟨_,_,rfl,⟨?_,rfl⟩,m⟩;rw[z.out];exact r
theorem fAi {w:World} {g i:Nat} {u:Value} (h:w.cell? ⟨g,i,none⟩=some u):∀j,j<1→w.cell? ⟨g,0+i*1+j,none⟩=(one u)[j]?:=by
 intro j d;have e:j=0:=oM;subst e;simpa [one] using h
theorem fNl {w:World} {g:Nat} {u:Value} {d:List Byte} (h0:w.cell? ⟨g,0,none⟩=some u) (hv:bytesR.V w u d):bytessR.V w (.slice (some ⟨g,0,none⟩) 1 1) [d]:=by
 refine⟨_,_,rfl,by simp,by unfold maxLen;omega,fun i k=>⟨g,0,u,rfl,rfl,fun j m=>?_,?_⟩⟩
 ·
  have e:i=0:=by simp at k;omega
  have l:j=0:=oM;subst e l;simpa [one] using h0
 have e:i=0:=by simp at k;omega
 subst e;exact hv
theorem fNm {w:World} {g:Nat} {u1 u2:Value} {d1 d2:List Byte} (h1:w.cell? ⟨g,0,none⟩=some u1) (h2:w.cell? ⟨g,1,none⟩=some u2) (v1:bytesR.V w u1 d1) (v2:bytesR.V w u2 d2):bytessR.V w (.slice (some ⟨g,0,none⟩) 2 2) [d1,d2]:=by
 refine⟨_,_,rfl,by simp,by unfold maxLen;omega,fun i d=>?_⟩;match i,d with
 | 0,_=>exact⟨g,0,u1,rfl,rfl,fAi h1,v1⟩
 | 1,_=>exact⟨g,0,u2,rfl,rfl,fAi h2,v2⟩
theorem fTz {w:World} {g:Nat} {u1 u2 u3:Value} {d1 d2 d3:List Byte} (h1:w.cell? ⟨g,0,none⟩=some u1) (h2:w.cell? ⟨g,1,none⟩=some u2) (h3:w.cell? ⟨g,2,none⟩=some u3)
  (v1:bytesR.V w u1 d1) (v2:bytesR.V w u2 d2) (v3:bytesR.V w u3 d3):bytessR.V w (.slice (some ⟨g,0,none⟩) 3 3) [d1,d2,d3]:=by
 refine⟨_,_,rfl,by simp,by unfold maxLen;omega,fun i d=>?_⟩;match i,d with
 | 0,_=>exact⟨g,0,u1,rfl,rfl,fAi h1,v1⟩
 | 1,_=>exact⟨g,0,u2,rfl,rfl,fAi h2,v2⟩
 | 2,_=>exact⟨g,0,u3,rfl,rfl,fAi h3,v3⟩
end
end Go.Proofs.YtpibfdebfacooaaGreat

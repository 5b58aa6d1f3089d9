import Derived.Test.YtpibfdebfacooaaGreatPrnCrashJournalLaw3
import Derived.Deep.DeepAppendRoom
import Derived.PlainAid
import Derived.Laws.BitsAllLaws
import Derived.Lib.ConvBytes
set_option maxHeartbeats 1000000
set_option linter.unusedSectionVars false
set_option linter.unusedSimpArgs false
namespace Go.Proofs.YtpibfdebfacooaaGreat
open Go.RowKit
attribute [local go_sem ↓] Go.wp_at_zero Go.wp_at_succ
section
variable [dQ Leg] [iH Leg] [dQ Cont] [iH Cont] [dQ Evt] [iH Evt]
def evtsR:Rep (List Evt):=nRep evtfR 59 4 fM2
theorem zA {w:World} {v:Value} {xs:List Evt} (h:evtsR.V w v xs):∃a c,v =.slice a xs.length c:=by
 obtain⟨a,c,rfl,_⟩:=h;exact⟨_,_,rfl⟩
theorem fVe:(Tryz.prog.info? 59).map (fun i=>(i.zero,i.size,i.bytes))=some (some (.agg #[.bool false,.int .i64 0,.slice none 0 0,.int .i64 0]),4,48):=kF
structure EvtsR where
 code:Int
 evts:List Evt
variable [dQ EvtsR] [iH EvtsR]
def evtsRR:Rep EvtsR where
 V:=fun w v x=>∃u1,v =.agg #[.int .i64 x.code,u1]∧evtsR.V w u1 x.evts
 O:=fun w base F v x=>∃u1 F1,v =.agg #[.int .i64 x.code,u1]∧evtsR.O w base F1 u1 x.evts∧(∀b,F b↔(F1 b))
 below:=fun h hb=>by
  obtain⟨u1,rfl,h1⟩:=h;exact⟨u1,rfl,evtsR.below h1 hb⟩
 ofO:=fun h=>by
  obtain⟨u1,F1,rfl,h1,_⟩:=h;exact⟨u1,rfl,evtsR.ofO h1⟩
 mod:=fun h hm hd=>by
  obtain⟨u1,F1,rfl,h1,hF⟩:=h;exact⟨u1,F1,rfl,evtsR.mod h1 hm (fun b hb=>hd b ((hF b).2 hb)),hF⟩
 rng:=fun h b hb=>by
  obtain⟨u1,F1,rfl,h1,hF⟩:=h;rcases(hF b).1 hb with hb
  exact evtsR.rng h1 b hb
 base:=fun h hb=>by
  obtain⟨u1,F1,rfl,h1,hF⟩:=h;exact⟨u1,F1,rfl,evtsR.base h1 hb,hF⟩
structure EvtR where
 code:Int
 evt:Evt
variable [dQ EvtR] [iH EvtR]
def evtRR:Rep EvtR where
 V:=fun w v x=>∃u1_1_1,v =.agg #[.int .i64 x.code,.bool x.evt.vote,.int .i64 x.evt.con.id,u1_1_1,.int .i64 x.evt.out]∧evtR.V w (.agg #[.bool x.evt.vote,.int .i64 x.evt.con.id,u1_1_1,.int .i64 x.evt.out]) x.evt
 O:=fun w base F v x=>∃u1_1_1 F1,v =.agg #[.int .i64 x.code,.bool x.evt.vote,.int .i64 x.evt.con.id,u1_1_1,.int .i64 x.evt.out]∧evtR.O w base F1 (.agg #[.bool x.evt.vote,.int .i64 x.evt.con.id,u1_1_1,.int .i64 x.evt.out]) x.evt∧(∀b,F b↔(F1 b))
 below:=fun h hb=>by
  obtain⟨u1_1_1,rfl,h1⟩:=h;exact⟨u1_1_1,rfl,evtR.below h1 hb⟩
 ofO:=fun h=>by
  obtain⟨u1_1_1,F1,rfl,h1,_⟩:=h;exact⟨u1_1_1,rfl,evtR.ofO h1⟩
 mod:=fun h hm hd=>by
  obtain⟨u1_1_1,F1,rfl,h1,hF⟩:=h;exact⟨u1_1_1,F1,rfl,evtR.mod h1 hm (fun b hb=>hd b ((hF b).2 hb)),hF⟩
 rng:=fun h b hb=>by
  obtain⟨u1_1_1,F1,rfl,h1,hF⟩:=h;rcases(hF b).1 hb with hb
  exact evtR.rng h1 b hb
 base:=fun h hb=>by
  obtain⟨u1_1_1,F1,rfl,h1,hF⟩:=h;exact⟨u1_1_1,F1,rfl,evtR.base h1 hb,hF⟩
end
section
def gU (w:World) (u:Value) (m:Nat) (news:List Value):Prop:=
 (∃c,u =.slice none 0 c∧m=0∧news=[])∨∃ad c,u =.slice (some ad) m c∧∀j x,news[j]? = some x→w.cell? (ad.add j)=some x
section
variable {P : Program} (w : World)
theorem uY (base:Nat) (t ty e:TypeId) (i:TypeInfo) (size c:Nat) (ht:P.underlying t=some (.slice e)) (hi:P.info? e=some i)
  (v:Value) (n:Nat) (xs:List Value) (hown:w.ownsRow base e size v n xs) :
  (Builtin.append_ #[t,t] ty #[v,.slice none 0 c]).run P w =.ok v w:=by
 rcases hown.2 with ⟨rfl,rfl⟩|⟨g,cap,cur,rfl,_,_,hnc,_⟩
 ·simp[Builtin.append_,run_underlying ht,sizeOf,typeInfo,hi,Builtin.lenOf,Builtin.firstCells]
 simp[Builtin.append_,run_underlying ht,sizeOf,typeInfo,hi,Builtin.lenOf,Builtin.firstCells,hnc,storeCells]
theorem fLo {o:Oper} {a:Act} {K:Act→World→Prop} {Q:Exit→Act→World→Prop} (s x:Operand) (t:TypeId)
  (ho:o.op =.call {callee:=.builtin .append,args:=#[s,x],argTypes:=#[t,t]})
  (base:Nat) (e:TypeId) (i:TypeInfo) (z:Value) (size bytes:Nat) (ht:P.underlying t=some (.slice e)) (hi:P.info? e=some i) (hz:i.zero=some z)
  (hsize:i.size=size) (hby:i.bytes=bytes) (hzs:z.cells.size=size) (hsz:0<size)
  (v:Value) (n:Nat) (xs:List Value) (hs:a.eval s=v) (u:Value) (m:Nat) (news:List Value) (hx:a.eval x=u)
  (hown:w.ownsRow base e size v n xs) (hsrc:gU w u m news) (hl:news.length=m*size) (h1:∀u ∈ news,u.oneCell'=true)
  (h63:n+m≤maxLen) (hbytes:(n+m)*bytes≤140737488355328) (hbase:base≤w.heap.size)
  (h:∀v' w',w'.ownsRow base e size v' (n+m) (xs++news)→w.grownBy w' v.ownBlock→(∀W:World,Below base W w→Below base W w')→K (a.put o.dst v') w'):o.wp P a w K Q:=by
 rcases hsrc with ⟨c,rfl,rfl,rfl⟩|⟨ad,c,rfl,hnews⟩
 ·have hr:=uY (P:=P) w base t o.type e i size c ht hi v n xs hown;unfold Oper.wp execOp;simp only[ho,resolve,invoke,builtin,Sem.run_bind,Sem.run_pure,Result.andThen_ok,List.map_toArray,List.map_cons,List.map_nil,hs,hx,hr];exact h v w (by simpa using hown) ⟨rfl,rfl,rfl,Nat.le_refl _,fun _ _ _=>rfl⟩ (fun _ hW=>hW)
 exact wp_append_own w s x t ho base e i z size bytes ht hi hz hsize hby hzs hsz v n xs hs hown ad m c news hx hl hnews h1 h63 hbytes hbase (fun v' w' q1 q2 _=>h v' w' q1 q2 (fun W hW=>hW.grown q2 hbase (fun k hk=>(hown.lt k hk).1)))
theorem rZ {ops:Array Oper} {o:Oper} {a:Act} {K:Act→World→Prop} {Q:Exit→Act→World→Prop} {E:Prop} (hgd:o.guard=none) (s x:Operand) (t:TypeId)
  (ho:o.op =.call {callee:=.builtin .append,args:=#[s,x],argTypes:=#[t,t]})
  (base:Nat) (e:TypeId) (i:TypeInfo) (z:Value) (size bytes:Nat) (ht:P.underlying t=some (.slice e)) (hi:P.info? e=some i) (hz:i.zero=some z)
  (hsize:i.size=size) (hby:i.bytes=bytes) (hzs:z.cells.size=size) (hsz:0<size)
  (v:Value) (n:Nat) (xs:List Value) (hs:a.eval s=v) (u:Value) (m:Nat) (news:List Value) (hx:a.eval x=u)
  (hown:w.ownsRow base e size v n xs) (hsrc:gU w u m news) (hl:news.length=m*size) (h1:∀u ∈ news,u.oneCell'=true)
  (h63:n+m≤maxLen) (hbytes:(n+m)*bytes≤140737488355328) (hbase:base≤w.heap.size)
  (h:∀v' w',w'.ownsRow base e size v' (n+m) (xs++news)→w.grownBy w' v.ownBlock→(∀W:World,Below base W w→Below base W w')→K (a.put o.dst v') w') :
  if Region.wanted o (yielded ops a.tmps)=true then Oper.wp P o a w K Q else E:=by
 have hw:Region.wanted o (yielded ops a.tmps)=true:=by simp[Region.wanted,hgd]
 rw[if_pos hw];exact fLo w s x t ho base e i z size bytes ht hi hz hsize hby hzs hsz v n xs hs u m news hx hown hsrc hl h1 h63 hbytes hbase h
theorem uK {ops:Array Oper} {rest:List Oper} {o:Oper} {a:Act} {Q:Exit→Act→World→Prop} (hgd:o.guard=none) (s x:Operand) (t:TypeId)
  (ho:o.op =.call {callee:=.builtin .append,args:=#[s,x],argTypes:=#[t,t]})
  (base:Nat) (e:TypeId) (i:TypeInfo) (z:Value) (size bytes:Nat) (ht:P.underlying t=some (.slice e)) (hi:P.info? e=some i) (hz:i.zero=some z)
  (hsize:i.size=size) (hby:i.bytes=bytes) (hzs:z.cells.size=size) (hsz:0<size)
  (v:Value) (n:Nat) (xs:List Value) (hs:a.eval s=v) (u:Value) (m:Nat) (news:List Value) (hx:a.eval x=u)
  (hown:w.ownsRow base e size v n xs) (hsrc:gU w u m news) (hl:news.length=m*size) (h1:∀u ∈ news,u.oneCell'=true)
  (h63:n+m≤maxLen) (hbytes:(n+m)*bytes≤140737488355328) (hbase:base≤w.heap.size)
  (h:∀v' w',w'.ownsRow base e size v' (n+m) (xs++news)→w.grownBy w' v.ownBlock→(∀W:World,Below base W w→Below base W w')→wpList P ops Q rest (a.put o.dst v') w') :
  wpList P ops Q (o::rest) a w:=by
 refine wpList_plain hgd fun K' hK'=>?_
 exact fLo w s x t ho base e i z size bytes ht hi hz hsize hby hzs hsz v n xs hs u m news hx hown hsrc hl h1 h63 hbytes hbase (fun v' w' q1 q2 q3=>hK' _ _ (h v' w' q1 q2 q3))
end
theorem mZ {w:World} {v:Value} {xs:List Byte} (h:mQ w v xs):gU w v xs.length (gX xs):=by
 obtain⟨a,c,rfl,_,_,hc⟩:=h;cases a with
 | none=>
  have h0:xs=[]:=by
   cases xs with
   | nil=>rfl
   | cons x r=>obtain⟨b,o,e,_⟩:=hc 0 (by simp);cases e
  subst h0;exact .inl ⟨c,rfl,rfl,rfl⟩
 | some ad=>
  refine .inr ⟨ad,c,rfl,fun j x hj=>?_⟩;have hjl:j<xs.length:=by
   have:=(List.getElem?_eq_some_iff.1 hj).1;rw[uH] at this;exact this
  obtain⟨b,o,e,g0⟩:=hc j hjl;simp only[Option.some.injEq] at e;subst e;have hadd:(Addr.mk b o none).add j=⟨b,o+j,none⟩:=by
   by_cases h:j=0
   ·subst h;simp[Addr.add]
   simp[Addr.add,h]
  rw[hadd,g0,←fCj xs j hjl];exact hj
theorem fA3 (w:World) {ops:Array Oper} {rest:List Oper} {o:Oper} {a:Act} {Q:Exit→Act→World→Prop} (hgd:o.guard=none) (s x:Operand)
  (ho:o.op =.call {callee:=.builtin .append,args:=#[s,x],argTypes:=#[23,23]})
  (base:Nat) (v:Value) (xs:List Byte) (hs:a.eval s=v) (u:Value) (ys:List Byte) (hx:a.eval x=u)
  (hown:w.ownsRow base 5 1 v xs.length (gX xs)) (hsrc:gU w u ys.length (gX ys)) (hlen:xs.length+ys.length≤1073741824) (hbase:base≤w.heap.size)
  (h:∀v' w',w'.ownsRow base 5 1 v' (xs++ys).length (gX (xs++ys))→w.grownBy w' v.ownBlock→(∀W:World,Below base W w→Below base W w')→wpList Tryz.prog ops Q rest (a.put o.dst v') w') :
  wpList Tryz.prog ops Q (o::rest) a w:=by
 obtain⟨i0,hi,hz0,hz1,hz2⟩:=info_parts infoByte;refine uK w hgd s x 23 ho base 5 i0 _ 1 1 Tryz.underlying23 hi hz0 hz1 hz2 rfl (by decide) v xs.length (gX xs) hs u ys.length (gX ys) hx hown hsrc (by rw[uH];omega) (fCc ys) (by unfold maxLen;omega) oM hbase ?_;intro v' w' h1 h2 h3;refine h v' w' ?_ h2 h3;rw[List.length_append,fA8];exact h1
end
section
def hiN (xs:List Byte):Int:=xs.foldl (fun n b=>n*256+(b.val:Int)) 0
theorem fVc (xs:List Byte) (b:Byte):hiN (xs++[b])=hiN xs*256+(b.val:Int):=by simp[hiN]
theorem fHz (xs:List Byte) (k:Nat) (h:k<xs.length):xs.take (k+1)=xs.take k++[xs.getD k 0]:=by
 rw[List.take_add_one];congr 1;simp[List.getD,h]
theorem fOl (xs:List Byte) (k:Nat) (h:k<xs.length):hiN (xs.take (k+1))=hiN (xs.take k)*256+((xs.getD k 0).val:Int):=by
 rw[fHz xs k h,fVc]
theorem fPi (a:Int):IntKind.i64.wrap (a % 18446744073709551616)=IntKind.i64.wrap a:=by rw[IntKind.wrap_i64,IntKind.wrap_i64];omega
theorem zJ (x:Value) (xs:List Byte) (w:World) (hx:mQ w x xs) (hn:8≤xs.length) :
  Calls Tryz.prog 160 #[x] w fun e w'=>e =.returned (.int .i64 (IntKind.i64.wrap (hiN (xs.take 8))))∧w'=w:=by
 obtain⟨ax,cx,rfl,hcx,hmx,hx⟩:=hx;unfold maxLen at hmx;have hT:=fOl xs;generalize hn':xs.length=n at *;have HN:Hid (xs.length=n):=hn';have HT:Hid (∀k,k<n→hiN (xs.take (k+1))=hiN (xs.take k)*256+((xs.getD k 0).val:Int)):=hT;clear hn' hT;go_enter Tryz.func160,Tryz.ntmps160;go_wp2;go_loopw [3,4] (fun q i w'=>∃(k:Nat) (y:Int),k≤8∧i =.int .i64 k∧y=hiN (xs.take k) % 18446744073709551616∧q =.int .u64 y∧w'=w) (fun _ i _=>8-(intOf i).toNat)
 case atStart=>exact⟨0,0,by omega,rfl,by simp[hiN],rfl,rfl⟩
 obtain⟨k,y,hk,rfl,hy,rfl,rfl⟩:=hrel;have HY:Hid (y=hiN (xs.take k) % 18446744073709551616):=hy;clear hy;by_cases hlt:k<8
 ·
  obtain⟨bx,ox,rfl,h1⟩:=hx k oM;have e1:=HT.out k oM;have hb:=vU (xs.getD k 0);obtain⟨l,hl⟩:∃l:Int,l=((xs.getD k 0).val:Int):=⟨_,rfl⟩
  rw[←hl] at h1 e1 hb;have HE:Hid (hiN (xs.take (k+1))=hiN (xs.take k)*256+l):=e1;have v1:IntKind.u64.wrap l=l:=by rw[IntKind.wrap_u64];omega
  obtain⟨p,hp⟩:∃p,IntKind.u64.wrap (y*256)=p:=⟨_,rfl⟩
  obtain⟨q,hq⟩:∃q,IntKind.u64.wrap (p+l)=q:=⟨_,rfl⟩
  clear hl hx e1 hb;go_wp2;refine⟨⟨k+1,q,by omega,by go_num,?_,rfl,trivial⟩,mI⟩;rw[HE.out,←hq,←hp,HY.out,IntKind.wrap_u64,IntKind.wrap_u64];omega
 obtain⟨q,hq⟩:∃q,IntKind.i64.wrap y=q:=⟨_,rfl⟩
 go_wp2;go_ret;have hk8:k=8:=oM;subst hk8;refine⟨?_,rfl⟩;rw[←hq,HY.out,fPi];rfl
theorem fW3 (x l:Int) (hx0:0≤x) (hx1:x<18446744073709551616) (h0:0≤l) (h1:l≤255) :
  bits .or .u64 (IntKind.u64.wrap (x*256)) l=(x*256+l) % 18446744073709551616:=by
 rw[IntKind.wrap_u64,u64_or _ _ oM oM oM oM];obtain⟨X,rfl⟩:=Int.eq_ofNat_of_zero_le hx0;obtain⟨L,rfl⟩:=Int.eq_ofNat_of_zero_le h0;have e1:((X:Int)*256 % 18446744073709551616).toNat=(X % 72057594037927936)*2 ^ 8:=oM;rw[e1,Int.toNat_natCast,Nat.mul_comm,←Nat.two_pow_add_eq_or_of_lt (i:=8) oM (X % 72057594037927936)];omega
theorem zU (x:Value) (xs:List Byte) (w:World) (hx:mQ w x xs) :
  Calls Tryz.prog 187 #[x] w fun e w'=>e =.returned (.int .u64 (hiN xs % 18446744073709551616))∧w'=w:=by
 obtain⟨ax,cx,rfl,hcx,hmx,hx⟩:=hx;unfold maxLen at hmx;have hT:=fOl xs;generalize hn':xs.length=n at *;have HN:Hid (xs.length=n):=hn';have HT:Hid (∀k,k<n→hiN (xs.take (k+1))=hiN (xs.take k)*256+((xs.getD k 0).val:Int)):=hT;clear hn' hT;go_enter Tryz.func187,Tryz.ntmps187;go_wp2;go_loopw [3,8] (fun q i w'=>∃(k:Nat) (y:Int),k≤n∧i =.int .i64 k∧y=hiN (xs.take k) % 18446744073709551616∧q =.int .u64 y∧w'=w) (fun _ i _=>n-(intOf i).toNat)
 case atStart=>exact⟨0,0,by omega,rfl,by simp[hiN],rfl,rfl⟩
 obtain⟨k,y,hk,rfl,hy,rfl,rfl⟩:=hrel;have y0:0≤y:=oM;have y1:y<18446744073709551616:=oM;have HY:Hid (y=hiN (xs.take k) % 18446744073709551616):=hy;clear hy;by_cases hlt:k<n
 ·
  obtain⟨bx,ox,rfl,h1⟩:=hx k oM;have e1:=HT.out k oM;have hb:=vU (xs.getD k 0);obtain⟨l,hl⟩:∃l:Int,l=((xs.getD k 0).val:Int):=⟨_,rfl⟩
  rw[←hl] at h1 e1 hb;have HE:Hid (hiN (xs.take (k+1))=hiN (xs.take k)*256+l):=e1;have v1:IntKind.u64.wrap l=l:=by rw[IntKind.wrap_u64];omega
  have hor:=fW3 y l y0 y1 hb.1 hb.2;obtain⟨p,hp⟩:∃p,IntKind.u64.wrap (y*256)=p:=⟨_,rfl⟩
  obtain⟨q,hq⟩:∃q,bits .or .u64 p l=q:=⟨_,rfl⟩
  rw[hp,hq] at hor;have HO:Hid (q=(y*256+l) % 18446744073709551616):=hor;clear hl hx e1 hb hor;go_wp2;refine⟨⟨k+1,q,by omega,by go_num,?_,rfl,trivial⟩,mI⟩;rw[HE.out,HO.out,HY.out];omega
 go_wp2;go_ret;have hkn:k=n:=oM;subst hkn;refine⟨?_,rfl⟩;rw[HY.out,List.take_of_length_le (by have:=HN.out;omega)];rfl
theorem tV (x:Value) (xs:List Byte) (w:World) (hx:mQ w x xs) :
  Calls Tryz.prog 169 #[x] w fun e w'=>e =.returned (.int .i64 (IntKind.i64.wrap (hiN xs)))∧w'=w:=by
 have hX:=hx;obtain⟨ax,cx,rfl,_⟩:=hx;obtain⟨u,hu⟩:∃u,hiN xs % 18446744073709551616=u:=⟨_,rfl⟩
 obtain⟨q,hq⟩:∃q,IntKind.i64.wrap u=q:=⟨_,rfl⟩
 go_enter Tryz.func169,Tryz.ntmps169;go_wp2_with fail;refine(zU _ xs _ hX).mono ?_;rintro e w1 ⟨rfl,rfl⟩;rw[hu];go_wp2;go_ret;refine⟨?_,rfl⟩;rw[←hq,←hu,fPi];rfl
def bytessR:Rep (List (List Byte)):=nRep bytesR 23 1 one
theorem fD5 {w:World} {v:Value} {xs:List (List Byte)} (h:bytessR.V w v xs):∃a c,v =.slice a xs.length c:=by
 obtain⟨a,c,rfl,_⟩:=h;exact⟨_,_,rfl⟩
theorem fQl:(Tryz.prog.info? 23).map (fun i=>(i.zero,i.size,i.bytes))=some (some (.slice none 0 0),1,24):=kF
theorem fSl (ps:List (List Byte)) (k:Nat) (h:k<ps.length):(ps.take (k+1)).flatten=(ps.take k).flatten++ps.getD k default:=by
 rw[List.take_add_one,List.flatten_append];congr 1;simp[List.getD,h]
theorem fWr (ps:List (List Byte)):∀k,(ps.take k).flatten.length≤ps.flatten.length:=by
 intro k;have h:ps.flatten=(ps.take k).flatten++(ps.drop k).flatten:=by rw[←List.flatten_append,List.take_append_drop]
 rw[h,List.length_append];omega
theorem zZ (x:Value) (ps:List (List Byte)) (w:World) (hx:bytessR.V w x ps) (hn:ps.flatten.length≤1073741824) :
  Calls Tryz.prog 72 #[x] w fun e w'=>∃v F,e =.returned v∧bytesR.O w' w.heap.size F v ps.flatten∧Below w.heap.size w w':=by
 obtain⟨ax,cx,rfl,hcx,hmx,hx⟩:=hx;unfold maxLen at hmx;have hT:∀k,k<ps.length→(ps.take (k+1)).flatten=(ps.take k).flatten++ps.getD k default∧((ps.take k).flatten.length+(ps.getD k default).length≤1073741824):=fun k hk=>by
  have e:=fSl ps k hk;have:=fWr ps (k+1);refine⟨e,?_⟩;rw[e,List.length_append] at this;omega
 have HA:Hid (ps.take ps.length=ps):=List.take_length;generalize hn':ps.length=n at *;have HT:Hid (∀k,k<n→(ps.take (k+1)).flatten=(ps.take k).flatten++ps.getD k default∧((ps.take k).flatten.length+(ps.getD k default).length≤1073741824)):=hT;clear hn' hT;go_enter Tryz.func72,Tryz.ntmps72;go_wp2;go_loopw [3,8] (fun v i w'=>∃k:Nat,k≤n∧i =.int .i64 k∧w'.ownsRow w.heap.size 5 1 v (ps.take k).flatten.length (gX (ps.take k).flatten)∧Below w.heap.size w w') (fun _ i _=>n-(intOf i).toNat)
 case atStart=>exact⟨0,oM,rfl,by simpa [gX] using World.ownsRow_nil _ _ _ _,bR _ _⟩
 obtain⟨k,hk,rfl,ho,hbl⟩:=hrel;by_cases hlt:k<n
 ·
  obtain⟨bx,ox,u,rfl,_,p1,hv⟩:=hx k hlt;obtain⟨e1,e2⟩:=HT.out k hlt;have HE:Hid ((ps.take (k+1)).flatten=(ps.take k).flatten++ps.getD k default):=e1;have g0:=cK hbl (fR5 p1);have hv1:=bytesR.below hv hbl;have hsz:=hbl.size;generalize (ps.take k).flatten=ys at *;generalize ps.getD k default=zs at *;clear e1 hx p1;go_wp2_with (at_builtin;refine fA3 _ rfl _ _ rfl w.heap.size _ ys rfl _ zs rfl ho (mZ hv1) e2 hsz ?_);intro v' w1 ho' hg hB;have hB1:=hB w hbl;have h2:World.ownsRow w1 w.heap.size 5 1 v' (ys.length+zs.length) (gX (ys++zs)):=by simpa using ho'
  have HO:Hid (World.ownsRow w1 w.heap.size 5 1 v' (ys.length+zs.length) (gX (ys++zs))):=h2;clear hB hg ho ho' h2 e2 hv hv1;go_wp2;refine⟨⟨k+1,by omega,by go_num,?_,hB1⟩,mI⟩;rw[HE.out,List.length_append];exact HO.out
 go_wp2;go_ret;have hkn:k=n:=oM;subst hkn;rw[HA.out] at ho;exact⟨_,_,rfl,⟨ho,rfl⟩,hbl⟩
theorem fIf {w:World} {g i:Nat} {u:Value} (h:w.cell? ⟨g,i,none⟩=some u):∀j,j<1→w.cell? ⟨g,0+i*1+j,none⟩=(one u)[j]?:=by
 intro j hj;have e:j=0:=oM;subst e;simpa [one] using h
theorem fR4 {w:World} {g:Nat} {u:Value} {d:List Byte} (h0:w.cell? ⟨g,0,none⟩=some u) (hv:bytesR.V w u d):bytessR.V w (.slice (some ⟨g,0,none⟩) 1 1) [d]:=by
 refine⟨_,_,rfl,by simp,by unfold maxLen;omega,fun i hi=>⟨g,0,u,rfl,rfl,fun j hj=>?_,?_⟩⟩
 ·
  have e:i=0:=by simp at hi;omega
  have e2:j=0:=oM;subst e e2;simpa [one] using h0
 have e:i=0:=by simp at hi;omega
 subst e;exact hv
theorem fWk {w:World} {g:Nat} {u1 u2:Value} {d1 d2:List Byte} (h1:w.cell? ⟨g,0,none⟩=some u1) (h2:w.cell? ⟨g,1,none⟩=some u2) (v1:bytesR.V w u1 d1) (v2:bytesR.V w u2 d2):bytessR.V w (.slice (some ⟨g,0,none⟩) 2 2) [d1,d2]:=by
 refine⟨_,_,rfl,by simp,by unfold maxLen;omega,fun i hi=>?_⟩;match i,hi with
 | 0,_=>exact⟨g,0,u1,rfl,rfl,fIf h1,v1⟩
 | 1,_=>exact⟨g,0,u2,rfl,rfl,fIf h2,v2⟩
end
end Go.Proofs.YtpibfdebfacooaaGreat

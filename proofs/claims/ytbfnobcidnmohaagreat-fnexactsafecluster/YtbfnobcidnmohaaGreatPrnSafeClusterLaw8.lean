import Derived.Deep.DeepAppendRoom
import Derived.Test.YtbfnobcidnmohaaGreatPrnSafeClusterLaw7
import Derived.Maps.OwnSet
import Derived.DeepKeys4
set_option maxHeartbeats 2000000
set_option maxRecDepth 20000
set_option linter.unusedSimpArgs false
set_option linter.unusedSectionVars false
set_option linter.unusedVariables false
namespace Go.Proofs.YtbfnobcidnmohaaGreat
open Go.RowKit
attribute [local go_sem ↓] Go.wp_at_zero Go.wp_at_succ
section
def pQ (w:World) (u:Value) (m:Nat) (news:List Value):Prop:=
 (∃c,u =.slice none 0 c∧m=0∧news=[])∨∃ad c,u =.slice (some ad) m c∧∀j x,news[j]? = some x→w.cell? (ad.add j)=some x
section
variable {P : Program} (w : World)
theorem uE (base:Nat) (t ty e:TypeId) (i:TypeInfo) (size c:Nat) (ht:P.underlying t=some (.slice e)) (hi:P.info? e=some i)
  (v:Value) (n:Nat) (xs:List Value) (hown:w.ownsRow base e size v n xs) :
  (Builtin.append_ #[t,t] ty #[v,.slice none 0 c]).run P w =.ok v w:=by
 rcases hown.2 with ⟨rfl,rfl⟩|⟨g,cap,cur,rfl,_,_,hnc,_⟩
 ·simp[Builtin.append_,run_underlying ht,sizeOf,typeInfo,hi,Builtin.lenOf,Builtin.firstCells]
 simp[Builtin.append_,run_underlying ht,sizeOf,typeInfo,hi,Builtin.lenOf,Builtin.firstCells,hnc,storeCells]
theorem fKj {o:Oper} {a:Act} {K:Act→World→Prop} {Q:Exit→Act→World→Prop} (s x:Operand) (t:TypeId)
  (ho:o.op =.call {callee:=.builtin .append,args:=#[s,x],argTypes:=#[t,t]})
  (base:Nat) (e:TypeId) (i:TypeInfo) (z:Value) (size bytes:Nat) (ht:P.underlying t=some (.slice e)) (hi:P.info? e=some i) (hz:i.zero=some z)
  (hsize:i.size=size) (hby:i.bytes=bytes) (hzs:z.cells.size=size) (hsz:0<size)
  (v:Value) (n:Nat) (xs:List Value) (hs:a.eval s=v) (u:Value) (m:Nat) (news:List Value) (hx:a.eval x=u)
  (hown:w.ownsRow base e size v n xs) (hsrc:pQ w u m news) (hl:news.length=m*size) (h1:∀u ∈ news,u.oneCell'=true)
  (h63:n+m≤maxLen) (hbytes:(n+m)*bytes≤140737488355328) (hbase:base≤w.heap.size)
  (h:∀v' w',w'.ownsRow base e size v' (n+m) (xs++news)→w.grownBy w' v.ownBlock→(∀W:World,Below base W w→Below base W w')→K (a.put o.dst v') w'):o.wp P a w K Q:=by
 rcases hsrc with ⟨c,rfl,rfl,rfl⟩|⟨ad,c,rfl,hnews⟩
 ·have hr:=uE (P:=P) w base t o.type e i size c ht hi v n xs hown;unfold Oper.wp execOp;simp only[ho,resolve,invoke,builtin,Sem.run_bind,Sem.run_pure,Result.andThen_ok,List.map_toArray,List.map_cons,List.map_nil,hs,hx,hr];exact h v w (by simpa using hown) ⟨rfl,rfl,rfl,Nat.le_refl _,fun _ _ _=>rfl⟩ (fun _ hW=>hW)
 exact wp_append_own w s x t ho base e i z size bytes ht hi hz hsize hby hzs hsz v n xs hs hown ad m c news hx hl hnews h1 h63 hbytes hbase (fun v' w' q1 q2 _=>h v' w' q1 q2 (fun W hW=>hW.grown q2 hbase (fun k hk=>(hown.lt k hk).1)))
theorem fMc {ops:Array Oper} {o:Oper} {a:Act} {K:Act→World→Prop} {Q:Exit→Act→World→Prop} {E:Prop} (hgd:o.guard=none) (s x:Operand) (t:TypeId)
  (ho:o.op =.call {callee:=.builtin .append,args:=#[s,x],argTypes:=#[t,t]})
  (base:Nat) (e:TypeId) (i:TypeInfo) (z:Value) (size bytes:Nat) (ht:P.underlying t=some (.slice e)) (hi:P.info? e=some i) (hz:i.zero=some z)
  (hsize:i.size=size) (hby:i.bytes=bytes) (hzs:z.cells.size=size) (hsz:0<size)
  (v:Value) (n:Nat) (xs:List Value) (hs:a.eval s=v) (u:Value) (m:Nat) (news:List Value) (hx:a.eval x=u)
  (hown:w.ownsRow base e size v n xs) (hsrc:pQ w u m news) (hl:news.length=m*size) (h1:∀u ∈ news,u.oneCell'=true)
  (h63:n+m≤maxLen) (hbytes:(n+m)*bytes≤140737488355328) (hbase:base≤w.heap.size)
  (h:∀v' w',w'.ownsRow base e size v' (n+m) (xs++news)→w.grownBy w' v.ownBlock→(∀W:World,Below base W w→Below base W w')→K (a.put o.dst v') w') :
  if Region.wanted o (yielded ops a.tmps)=true then Oper.wp P o a w K Q else E:=by
 have hw:Region.wanted o (yielded ops a.tmps)=true:=by simp[Region.wanted,hgd]
 rw[if_pos hw];exact fKj w s x t ho base e i z size bytes ht hi hz hsize hby hzs hsz v n xs hs u m news hx hown hsrc hl h1 h63 hbytes hbase h
theorem fG8 {ops:Array Oper} {rest:List Oper} {o:Oper} {a:Act} {Q:Exit→Act→World→Prop} (hgd:o.guard=none) (s x:Operand) (t:TypeId)
  (ho:o.op =.call {callee:=.builtin .append,args:=#[s,x],argTypes:=#[t,t]})
  (base:Nat) (e:TypeId) (i:TypeInfo) (z:Value) (size bytes:Nat) (ht:P.underlying t=some (.slice e)) (hi:P.info? e=some i) (hz:i.zero=some z)
  (hsize:i.size=size) (hby:i.bytes=bytes) (hzs:z.cells.size=size) (hsz:0<size)
  (v:Value) (n:Nat) (xs:List Value) (hs:a.eval s=v) (u:Value) (m:Nat) (news:List Value) (hx:a.eval x=u)
  (hown:w.ownsRow base e size v n xs) (hsrc:pQ w u m news) (hl:news.length=m*size) (h1:∀u ∈ news,u.oneCell'=true)
  (h63:n+m≤maxLen) (hbytes:(n+m)*bytes≤140737488355328) (hbase:base≤w.heap.size)
  (h:∀v' w',w'.ownsRow base e size v' (n+m) (xs++news)→w.grownBy w' v.ownBlock→(∀W:World,Below base W w→Below base W w')→wpList P ops Q rest (a.put o.dst v') w') :
  wpList P ops Q (o::rest) a w:=by
 refine wpList_plain hgd fun K' hK'=>?_
 exact fKj w s x t ho base e i z size bytes ht hi hz hsize hby hzs hsz v n xs hs u m news hx hown hsrc hl h1 h63 hbytes hbase (fun v' w' q1 q2 q3=>hK' _ _ (h v' w' q1 q2 q3))
end
end
section
variable [dQ Vot] [iH Vot] [dQ Slt] [iH Slt] [dQ SltR] [iH SltR] [dQ Bal] [iH Bal] [dQ Ledg] [iH Ledg] [dQ Leg] [iH Leg]
theorem fCe {w:World} {v:Value} {xs:List Vot} (h:votsR.V w v xs):pQ w v xs.length (kJ xs):=by
 obtain⟨a,c,rfl,_,_,hc⟩:=h;cases a with
 | none=>
  have h0:xs=[]:=by
   cases xs with
   | nil=>rfl
   | cons x r=>obtain⟨b,o,e,_⟩:=hc 0 (by simp);cases e
  subst h0;exact .inl ⟨c,rfl,rfl,rfl⟩
 | some ad=>
  refine .inr ⟨ad,c,rfl,fun j x hj=>?_⟩;have hjl:j<xs.length*2:=by
   have:=(List.getElem?_eq_some_iff.1 hj).1;rw[rU] at this;exact this
  have hi:j / 2<xs.length:=oM;obtain⟨b,o,e,g0,g1⟩:=hc (j / 2) hi;obtain⟨q0,q1⟩:=uC xs (j / 2) hi;simp only[Option.some.injEq] at e;subst e;have hadd:(Addr.mk b o none).add j=⟨b,o+j,none⟩:=by
   by_cases h:j=0
   ·subst h;simp[Addr.add]
   simp[Addr.add,h]
  rw[hadd];have hm:j % 2=0∨j % 2=1:=oM;rcases hm with hm|hm
  ·have e:j=j / 2*2:=oM;have e2:o+j=o+j / 2*2:=oM;rw[e2,g0];rw[e,q0] at hj;exact hj
  have e:j=j / 2*2+1:=oM;have e2:o+j=o+j / 2*2+1:=oM;rw[e2,g1];rw[e,q1] at hj;exact hj
theorem fOk {w:World} {g c:Nat} {l:Vot} (h0:w.cell? ⟨g,0,none⟩=some (.int .i64 l.bal)) (h1:w.cell? ⟨g,1,none⟩=some (.int .i64 l.val)):pQ w (.slice (some ⟨g,0,none⟩) 1 c) 1 (kJ [l]):=by
 refine .inr ⟨_,_,rfl,fun j x hj=>?_⟩;match j,hj with
 | 0,hj=>simp[kJ,votC] at hj;subst hj;simpa [Addr.add] using h0
 | 1,hj=>simp[kJ,votC] at hj;subst hj;simpa [Addr.add] using h1
 | j+2,hj=>simp[kJ,votC] at hj
theorem fKh (xs ys:List Vot):kJ (xs++ys)=kJ xs++kJ ys:=by simp[kJ]
theorem fKi (xs:List Vot):∀u ∈ kJ xs,u.oneCell'=true:=by
 intro u hu;simp only[kJ,List.mem_flatMap] at hu;obtain⟨b,_,hb⟩:=hu;simp[votC] at hb;rcases hb with rfl|rfl <;> rfl
theorem zD (w:World) {ops:Array Oper} {rest:List Oper} {o:Oper} {a:Act} {Q:Exit→Act→World→Prop} (hgd:o.guard=none) (s x:Operand)
  (ho:o.op =.call {callee:=.builtin .append,args:=#[s,x],argTypes:=#[133,133]})
  (base:Nat) (v:Value) (xs:List Vot) (hs:a.eval s=v) (u:Value) (ys:List Vot) (hx:a.eval x=u)
  (hown:w.ownsRow base 126 2 v xs.length (kJ xs)) (hsrc:pQ w u ys.length (kJ ys)) (hlen:xs.length+ys.length≤1073741824) (hbase:base≤w.heap.size)
  (h:∀v' w',w'.ownsRow base 126 2 v' (xs++ys).length (kJ (xs++ys))→w.grownBy w' v.ownBlock→(∀W:World,Below base W w→Below base W w')→wpList Tryz.prog ops Q rest (a.put o.dst v') w') :
  wpList Tryz.prog ops Q (o::rest) a w:=by
 obtain⟨i0,hi,hz0,hz1,hz2⟩:=info_parts fLi;refine fG8 w hgd s x 133 ho base 126 i0 _ 2 16 Tryz.underlying133 hi hz0 hz1 hz2 rfl (by decide) v xs.length (kJ xs) hs u ys.length (kJ ys) hx hown hsrc (by rw[rU]) (fKi ys) (by unfold maxLen;omega) oM hbase ?_;intro v' w' h1 h2 h3;refine h v' w' ?_ h2 h3;rw[List.length_append,fKh];exact h1
theorem fUk (x:Value) (d:Slt) (w:World) (hx:sltR.V w x d) (hn:d.cast.length≤1048576) :
  Calls Tryz.prog 135 #[x] w fun e w'=>∃v F,e =.returned v∧sltR.O w' w.heap.size F v d∧Below w.heap.size w w':=by
 obtain⟨u1,rfl,hx⟩:=hx;obtain⟨ax,cx,rfl⟩:=gJ hx;have hs0:pQ (((w.alloc (.cells #[.int .i64 d.con,.int .i64 d.sh,.int .i64 d.pr,.int .i64 d.lb,.int .i64 d.lv,.slice ax d.cast.length cx] 136)).alloc (.cells #[.int .i64 0,.int .i64 0,.int .i64 0,.int .i64 0,.int .i64 0,.slice none 0 0] 136)).alloc (.cells #[] 126)) (.slice ax d.cast.length cx) d.cast.length (kJ d.cast):=fCe (votsR.below hx qBq);have ho0:=World.ownsRow_lit (base:=w.heap.size+2) (e:=126) (size:=2) ((w.alloc (.cells #[.int .i64 d.con,.int .i64 d.sh,.int .i64 d.pr,.int .i64 d.lb,.int .i64 d.lv,.slice ax d.cast.length cx] 136)).alloc (.cells #[.int .i64 0,.int .i64 0,.int .i64 0,.int .i64 0,.int .i64 0,.slice none 0 0] 136)) #[] 0 (by simp) (by unfold maxLen;omega) rfl;simp only[World.size_alloc] at ho0;clear hx;go_enter Tryz.func135,Tryz.ntmps135;go_wp2_with (at_builtin;refine zD _ rfl _ _ rfl (w.heap.size+2) _ [] rfl _ d.cast rfl ho0 hs0 ?c1 ?c2 ?_)
 case c1=>simp;omega
 case c2=>simp
 intro v' w1 ho hg hbel;clear hs0 ho0 hg;have hY:=hbel _ (bR _ _);have hB1:Below w.heap.size w w1:=Below.trans qBq (hY.mono oM);clear hbel;have y0:w1.cell? ⟨w.heap.size,0,none⟩=some (.int .i64 d.con):=(hY.cell (p:=⟨w.heap.size,0,none⟩) (by simp)).trans sG;have y1:w1.cell? ⟨w.heap.size,1,none⟩=some (.int .i64 d.sh):=(hY.cell (p:=⟨w.heap.size,1,none⟩) (by simp)).trans sG;have y2:w1.cell? ⟨w.heap.size,2,none⟩=some (.int .i64 d.pr):=(hY.cell (p:=⟨w.heap.size,2,none⟩) (by simp)).trans sG;have y3:w1.cell? ⟨w.heap.size,3,none⟩=some (.int .i64 d.lb):=(hY.cell (p:=⟨w.heap.size,3,none⟩) (by simp)).trans sG;have y4:w1.cell? ⟨w.heap.size,4,none⟩=some (.int .i64 d.lv):=(hY.cell (p:=⟨w.heap.size,4,none⟩) (by simp)).trans sG;have y5:w1.cell? ⟨w.heap.size,5,none⟩=some (.slice ax d.cast.length cx):=(hY.cell (p:=⟨w.heap.size,5,none⟩) (by simp)).trans sG;have yf:∀o,w1.frozen? ⟨w.heap.size,o,none⟩=false:=fun o=>(hY.frozen (p:=⟨w.heap.size,o,none⟩) (by simp)).trans sG
 have q0:w1.cell? ⟨w.heap.size+1,0,none⟩=some (.int .i64 0):=(hY.cell (p:=⟨w.heap.size+1,0,none⟩) (by simp)).trans sG;have q1:w1.cell? ⟨w.heap.size+1,1,none⟩=some (.int .i64 0):=(hY.cell (p:=⟨w.heap.size+1,1,none⟩) (by simp)).trans sG;have q2:w1.cell? ⟨w.heap.size+1,2,none⟩=some (.int .i64 0):=(hY.cell (p:=⟨w.heap.size+1,2,none⟩) (by simp)).trans sG;have q3:w1.cell? ⟨w.heap.size+1,3,none⟩=some (.int .i64 0):=(hY.cell (p:=⟨w.heap.size+1,3,none⟩) (by simp)).trans sG;have q4:w1.cell? ⟨w.heap.size+1,4,none⟩=some (.int .i64 0):=(hY.cell (p:=⟨w.heap.size+1,4,none⟩) (by simp)).trans sG;have q5:w1.cell? ⟨w.heap.size+1,5,none⟩=some (.slice none 0 0):=(hY.cell (p:=⟨w.heap.size+1,5,none⟩) (by simp)).trans sG;have qf:∀o,w1.frozen? ⟨w.heap.size+1,o,none⟩=false:=fun o=>(hY.frozen (p:=⟨w.heap.size+1,o,none⟩) (by simp)).trans sG
 have hz:=hY.size;try simp at hz
 clear hY;try simp only[List.nil_append] at ho
 obtain⟨av,cv,rfl⟩:=gF ho;have o1:∃F,votsR.O w1 (w.heap.size+2) F (.slice av d.cast.length cv) d.cast:=⟨_,ho,rfl⟩
 obtain⟨F1,o1⟩:=o1;clear ho;go_wp2;refine bodyPost_ret (v:=.agg #[.int .i64 d.con,.int .i64 d.sh,.int .i64 d.pr,.int .i64 d.lb,.int .i64 d.lv,.slice av d.cast.length cv]) ?_ rfl ⟨_,fun b=>F1 b,rfl,⟨_,F1,rfl,votsR.base (base:=w.heap.size+2) (by(repeat (first|refine Rep.set _ ?_ _ (by simp;omega)|refine Rep.set _ ?_ _ (by simp)|refine Rep.alloc _ ?_ _|assumption))) oM,fun b=>Iff.rfl⟩,qS⟩;simp[results,Tryz.results135,go_sem,y0,y1,y2,y3,y4,y5,q0,q1,q2,q3,q4,q5,yf,qf]
theorem fRh (x:Value) (d:Slt) (w:World) (hx:sltR.V w x d) (hn:d.cast.length≤1048576) :
  Calls Tryz.prog 165 #[x] w fun e w'=>∃v F,e =.returned v∧sltR.O w' w.heap.size F v d∧Below w.heap.size w w':=by
 obtain⟨u1,rfl,hx⟩:=hx;obtain⟨ax,cx,rfl⟩:=gJ hx;have hs0:pQ ((w.alloc (.cells #[.int .i64 d.con,.int .i64 d.sh,.int .i64 d.pr,.int .i64 d.lb,.int .i64 d.lv,.slice ax d.cast.length cx] 136)).alloc (.cells #[.int .i64 0,.int .i64 0,.int .i64 0,.int .i64 0,.int .i64 0,.slice none 0 0] 136)) (.slice ax d.cast.length cx) d.cast.length (kJ d.cast):=fCe (votsR.below hx qBq);have ho0:=World.ownsRow_nil ((w.alloc (.cells #[.int .i64 d.con,.int .i64 d.sh,.int .i64 d.pr,.int .i64 d.lb,.int .i64 d.lv,.slice ax d.cast.length cx] 136)).alloc (.cells #[.int .i64 0,.int .i64 0,.int .i64 0,.int .i64 0,.int .i64 0,.slice none 0 0] 136)) (w.heap.size+2) 126 2;clear hx;go_enter Tryz.func165,Tryz.ntmps165;go_wp2_with (at_builtin;refine zD _ rfl _ _ rfl (w.heap.size+2) _ [] rfl _ d.cast rfl ho0 hs0 ?c1 ?c2 ?_)
 case c1=>simp;omega
 case c2=>simp
 intro v' w1 ho hg hbel;clear hs0 ho0 hg;have hY:=hbel _ (bR _ _);have hB1:Below w.heap.size w w1:=Below.trans qBq (hY.mono oM);clear hbel;have y0:w1.cell? ⟨w.heap.size,0,none⟩=some (.int .i64 d.con):=(hY.cell (p:=⟨w.heap.size,0,none⟩) (by simp)).trans sG;have y1:w1.cell? ⟨w.heap.size,1,none⟩=some (.int .i64 d.sh):=(hY.cell (p:=⟨w.heap.size,1,none⟩) (by simp)).trans sG;have y2:w1.cell? ⟨w.heap.size,2,none⟩=some (.int .i64 d.pr):=(hY.cell (p:=⟨w.heap.size,2,none⟩) (by simp)).trans sG;have y3:w1.cell? ⟨w.heap.size,3,none⟩=some (.int .i64 d.lb):=(hY.cell (p:=⟨w.heap.size,3,none⟩) (by simp)).trans sG;have y4:w1.cell? ⟨w.heap.size,4,none⟩=some (.int .i64 d.lv):=(hY.cell (p:=⟨w.heap.size,4,none⟩) (by simp)).trans sG;have y5:w1.cell? ⟨w.heap.size,5,none⟩=some (.slice ax d.cast.length cx):=(hY.cell (p:=⟨w.heap.size,5,none⟩) (by simp)).trans sG;have yf:∀o,w1.frozen? ⟨w.heap.size,o,none⟩=false:=fun o=>(hY.frozen (p:=⟨w.heap.size,o,none⟩) (by simp)).trans sG
 have q0:w1.cell? ⟨w.heap.size+1,0,none⟩=some (.int .i64 0):=(hY.cell (p:=⟨w.heap.size+1,0,none⟩) (by simp)).trans sG;have q1:w1.cell? ⟨w.heap.size+1,1,none⟩=some (.int .i64 0):=(hY.cell (p:=⟨w.heap.size+1,1,none⟩) (by simp)).trans sG;have q2:w1.cell? ⟨w.heap.size+1,2,none⟩=some (.int .i64 0):=(hY.cell (p:=⟨w.heap.size+1,2,none⟩) (by simp)).trans sG;have q3:w1.cell? ⟨w.heap.size+1,3,none⟩=some (.int .i64 0):=(hY.cell (p:=⟨w.heap.size+1,3,none⟩) (by simp)).trans sG;have q4:w1.cell? ⟨w.heap.size+1,4,none⟩=some (.int .i64 0):=(hY.cell (p:=⟨w.heap.size+1,4,none⟩) (by simp)).trans sG;have q5:w1.cell? ⟨w.heap.size+1,5,none⟩=some (.slice none 0 0):=(hY.cell (p:=⟨w.heap.size+1,5,none⟩) (by simp)).trans sG;have qf:∀o,w1.frozen? ⟨w.heap.size+1,o,none⟩=false:=fun o=>(hY.frozen (p:=⟨w.heap.size+1,o,none⟩) (by simp)).trans sG
 have hz:=hY.size;try simp at hz
 clear hY;try simp only[List.nil_append] at ho
 obtain⟨av,cv,rfl⟩:=gF ho;have o1:∃F,votsR.O w1 (w.heap.size+2) F (.slice av d.cast.length cv) d.cast:=⟨_,ho,rfl⟩
 obtain⟨F1,o1⟩:=o1;clear ho;go_wp2;refine bodyPost_ret (v:=.agg #[.int .i64 d.con,.int .i64 d.sh,.int .i64 d.pr,.int .i64 d.lb,.int .i64 d.lv,.slice av d.cast.length cv]) ?_ rfl ⟨_,fun b=>F1 b,rfl,⟨_,F1,rfl,votsR.base (base:=w.heap.size+2) (by(repeat (first|refine Rep.set _ ?_ _ (by simp;omega)|refine Rep.set _ ?_ _ (by simp)|refine Rep.alloc _ ?_ _|assumption))) oM,fun b=>Iff.rfl⟩,qS⟩;simp[results,Tryz.results165,go_sem,y0,y1,y2,y3,y4,y5,q0,q1,q2,q3,q4,q5,yf,qf]
end
section
variable [dQ Vot] [iH Vot] [dQ Slt] [iH Slt] [dQ Acc] [iH Acc]
structure AccR where
 code:Int
 ob:Int
 ov:Int
 acc:Acc
variable [dQ AccR] [iH AccR]
structure AccsR where
 code:Int
 value:Int
 accs:List Acc
variable [dQ AccsR] [iH AccsR]
end
section
variable [dQ Vot] [iH Vot] [dQ Slt] [iH Slt]
structure SltsR where
 code:Int
 slots:List Slt
variable [dQ SltsR] [iH SltsR]
def sltsRR:Rep SltsR where
 V:=fun w v x=>∃u1,v =.agg #[.int .i64 x.code,u1]∧sltsR.V w u1 x.slots
 O:=fun w base F v x=>∃u1 F1,v =.agg #[.int .i64 x.code,u1]∧sltsR.O w base F1 u1 x.slots∧(∀b,F b↔(F1 b))
 below:=fun h hb=>by
  obtain⟨u1,rfl,h1⟩:=h;exact⟨u1,rfl,sltsR.below h1 hb⟩
 ofO:=fun h=>by
  obtain⟨u1,F1,rfl,h1,_⟩:=h;exact⟨u1,rfl,sltsR.ofO h1⟩
 mod:=fun h hm hd=>by
  obtain⟨u1,F1,rfl,h1,hF⟩:=h;exact⟨u1,F1,rfl,sltsR.mod h1 hm (fun b hb=>hd b ((hF b).2 hb)),hF⟩
 rng:=fun h b hb=>by
  obtain⟨u1,F1,rfl,h1,hF⟩:=h;rcases(hF b).1 hb with hb
  exact sltsR.rng h1 b hb
 base:=fun h hb=>by
  obtain⟨u1,F1,rfl,h1,hF⟩:=h;exact⟨u1,F1,rfl,sltsR.base h1 hb,hF⟩
end
section
variable [dQ Vot] [iH Vot] [dQ Slt] [iH Slt] [dQ SltR] [iH SltR] [dQ Bal] [iH Bal] [dQ Ledg] [iH Ledg] [dQ Leg] [iH Leg] [dQ Acc] [iH Acc] [dQ AccR] [iH AccR] [dQ AccsR] [iH AccsR] [dQ SltsR] [iH SltsR]
def cmpZ (x y:Int):Int:=if x<y then -1 else if y<x then 1 else 0
def orZ (x y:Int):Int:=if x=0 then y else x
def cmpS (x y:Slt):Int:=orZ (cmpZ x.con y.con) (cmpZ x.sh y.sh)
def kX (x y:Slt):Bool:=decide (cmpS x y<0)
theorem vH {x y:Int}:cmpZ x y<0↔x<y:=by unfold cmpZ;(repeat' split) <;> omega
theorem cmpZ_eq {x y:Int}:cmpZ x y=0↔x=y:=by unfold cmpZ;(repeat' split) <;> omega
theorem fKy {x y:Slt}:cmpS x y<0↔x.con<y.con∨(x.con=y.con∧x.sh<y.sh):=by
 have h1:=vH (x:=x.con) (y:=y.con);have h2:=vH (x:=x.sh) (y:=y.sh);have h3:=cmpZ_eq (x:=x.con) (y:=y.con);unfold cmpS orZ;split <;> omega
theorem cmpS_eq {x y:Slt}:cmpS x y=0↔x.con=y.con∧x.sh=y.sh:=by
 have h2:=cmpZ_eq (x:=x.sh) (y:=y.sh);have h3:=cmpZ_eq (x:=x.con) (y:=y.con);unfold cmpS orZ;split <;> omega
theorem aheadS_iff {x y:Slt}:kX x y=true↔x.con<y.con∨(x.con=y.con∧x.sh<y.sh):=by unfold kX;rw[decide_eq_true_eq];exact fKy
def qO (xs:List Slt) (k:Nat):Int:=if fI (xs.getD k default)=0 then (if k=0 then 0 else if kX (xs.getD (k-1) default) (xs.getD k default)=true then 0 else 1) else fI (xs.getD k default)
def accF (xs:List Slt):Int:=if 60<xs.length then 2 else fC (qO xs) xs.length
theorem fHg {xs:List Slt} (h:60<xs.length):accF xs=2:=by unfold accF;rw[if_pos h]
theorem fMu {xs:List Slt} {k:Nat} {c:Int} (h:¬60<xs.length) (hk:k<xs.length) (hs:fC (qO xs) k=0) (hc:qO xs k=c) (h0:¬c=0):accF xs=c:=by
 have e:=fK hs (by rw[hc];exact h0) _ hk;unfold accF;rw[if_neg h,e,hc]
theorem fMt {xs:List Slt} (h:¬60<xs.length) (hs:fC (qO xs) xs.length=0):accF xs=0:=by unfold accF;rw[if_neg h,hs]
theorem fOh {xs:List Slt} {p:Nat} (h:fI (xs.getD (p+1) default)=0) (h1:kX (xs.getD p default) (xs.getD (p+1) default)=false):qO xs (p+1)=1:=by
 unfold qO;rw[if_pos h,if_neg oM,Nat.add_sub_cancel,h1];rfl
structure AccOk (xs:List Slt):Prop where
 len:xs.length≤60
 ok:∀k,k<xs.length→fI (xs.getD k default)=0
 ord:∀i j,i<j→j<xs.length→kX (xs.getD i default) (xs.getD j default)=true
theorem fHk {x y z:Slt} (h1:kX x y=true) (h2:kX y z=true):kX x z=true:=by
 rw[aheadS_iff] at *;omega
theorem fFl {xs:List Slt} (h:accF xs=0):AccOk xs:=by
 unfold accF at h;by_cases h6:60<xs.length
 ·rw[if_pos h6] at h;omega
 rw[if_neg h6] at h;have hk:=kI h;have hf:∀k,k<xs.length→fI (xs.getD k default)=0:=fun k hk'=>by
  have h1:=hk k hk';unfold qO at h1;split at h1
  ·assumption
  exact h1
 have hs:∀k,k+1<xs.length→kX (xs.getD k default) (xs.getD (k+1) default)=true:=fun k hk'=>by
  have h1:=hk (k+1) hk';cases e:kX (xs.getD k default) (xs.getD (k+1) default) with
  | true=>rfl
  | false=>rw[fOh (hf _ hk') e] at h1;omega
 refine⟨oM,hf,fun i j hij hj=>?_⟩;obtain⟨q,rfl⟩:∃q,j=i+1+q:=⟨j-(i+1),oM⟩
 clear hij;induction q with
 | zero=>exact hs i oM
 | succ q ih=>exact fHk (ih oM) (hs (i+1+q) hj)
def xA (x f:Slt):Bool:=decide (x.con=f.con)&&decide (x.sh=f.sh)
def qL (xs:List Slt) (f:Slt):Slt:=(xs.find? (fun x=>xA x f)).getD f
theorem sameS_iff {x f:Slt}:xA x f=true↔x.con=f.con∧x.sh=f.sh:=by simp[xA]
theorem fFa {xs:List Slt} {f:Slt} (h:∀k,k<xs.length→xA (xs.getD k default) f=false):qL xs f=f:=by
 unfold qL;have e:xs.find? (fun x=>xA x f)=none:=by
  rw[List.find?_eq_none];intro x hx;obtain⟨i,hi,rfl⟩:=List.getElem_of_mem hx;have:=h i hi;rw[List.getD_eq_getElem?_getD,List.getElem?_eq_getElem hi] at this;simpa using this
 rw[e];rfl
theorem fGv:∀{xs:List Slt} {f:Slt} {i:Nat},i<xs.length→(∀k,k<i→xA (xs.getD k default) f=false)→xA (xs.getD i default) f=true→qL xs f=xs.getD i default
 | [],_,_,h,_,_=>by simp at h
 | x::xs,f,0,_,_,h=>by
  have h':xA x f=true:=by simpa using h
  unfold qL;rw[List.find?_cons,h'];rfl
 | x::xs,f,i+1,hi,hk,h=>by
  have h0:xA x f=false:=by simpa using hk 0 oM
  have ih:=fGv (xs:=xs) (f:=f) (i:=i) (by simpa using hi) (fun k hk'=>by simpa using hk (k+1) oM) (by simpa using h);unfold qL at ih ⊢;rw[List.find?_cons,h0];simpa using ih
theorem fDh (xs:List Slt) (f:Slt):qL xs f=f∨(∃i,i<xs.length∧qL xs f=xs.getD i default∧xA (xs.getD i default) f=true):=by
 unfold qL;cases e:xs.find? (fun x=>xA x f) with
 | none=>exact .inl rfl
 | some x=>
  have h1:=List.find?_some e;have h2:=List.mem_of_find?_eq_some e;obtain⟨i,hi,hx⟩:=List.getElem_of_mem h2;have hg:xs.getD i default=x:=by rw[List.getD_eq_getElem?_getD,List.getElem?_eq_getElem hi,hx];rfl
  exact .inr ⟨i,hi,hg.symm,by rw[hg];exact h1⟩
theorem fFb (xs:List Slt) (f:Slt):(qL xs f).con=f.con∧(qL xs f).sh=f.sh:=by
 rcases fDh xs f with h|⟨i,hi,h,h1⟩
 ·rw[h];exact⟨rfl,rfl⟩
 rw[h];exact sameS_iff.1 h1
def freS (c s:Int):Slt:=⟨c,s,-1,-1,0,[]⟩
def idOk (c s:Int):Bool:=inB c 1 1000000000&&inB s 0 2
theorem fJd {c s:Int} (h:idOk c s=true):fE6 c s=⟨0,0,0,freS c s⟩:=by unfold idOk at h;unfold fE6;rw[h];rfl
theorem fWh {c s:Int} (h:idOk c s=true):fI (freS c s)=0:=by
 unfold idOk at h;simp only[Bool.and_eq_true] at h;have hr:kW (freS c s)=true:=by unfold kW freS;simp only[];rw[h.1,h.2];decide
 rw[fB9 hr (by simp[freS]) (by simp[freS,fC])];simp[freS,rT,noV]
theorem fVf {xs:List Slt} {c s:Int} (ha:AccOk xs) (h:idOk c s=true):fI (qL xs (freS c s))=0:=by
 rcases fDh xs (freS c s) with e|⟨i,hi,e,_⟩
 ·rw[e];exact fWh h
 rw[e];exact ha.ok i hi
def mO (l:List Acc):Int:=if l.length<1∨5<l.length then 2 else fC (fun k=>accF (l.getD k default).slots) l.length
theorem fPy {l:List Acc} (h:l.length<1∨5<l.length):mO l=2:=by unfold mO;rw[if_pos h]
theorem fR8 {l:List Acc} {k:Nat} {c:Int} (h:¬(l.length<1∨5<l.length)) (hk:k<l.length) (hs:fC (fun k=>accF (l.getD k default).slots) k=0) (hc:accF (l.getD k default).slots=c) (h0:¬c=0):mO l=c:=by
 have e:=fK (f:=fun k=>accF (l.getD k default).slots) hs (by show ¬accF _=0;rw[hc];exact h0) _ hk;unfold mO;rw[if_neg h,e];exact hc
theorem fR7 {l:List Acc} (h:¬(l.length<1∨5<l.length)) (hs:fC (fun k=>accF (l.getD k default).slots) l.length=0):mO l=0:=by unfold mO;rw[if_neg h,hs]
structure ListOk (l:List Acc):Prop where
 lo:1≤l.length
 hi:l.length≤5
 ok:∀k,k<l.length→accF (l.getD k default).slots=0
theorem uD {l:List Acc} (h:mO l=0):ListOk l:=by
 unfold mO at h;by_cases h1:l.length<1∨5<l.length
 ·rw[if_pos h1] at h;omega
 rw[if_neg h1] at h;exact⟨oM,by omega,kI h⟩
def fQ (l:List Acc) (c s:Int):List Slt:=l.map (fun a=>qL a.slots (freS c s))
def yN (l:List Acc) (c s:Int):SltsR:=if mO l=0 then (if idOk c s=true then ⟨0,fQ l c s⟩ else ⟨3,[]⟩) else ⟨mO l,[]⟩
end
section
open Go.Maps
def kv (s a t:Int):Value:=.agg #[.int .i64 s,.int .i64 a,.int .i64 t]
def kwf (s a t:Int):Prop:=(Lit.int .i64 s).wf=true∧(Lit.int .i64 a).wf=true∧(Lit.int .i64 t).wf=true
theorem fMq {n:Int} (h0 : -9223372036854775808≤n) (h1:n≤9223372036854775807):(Lit.int .i64 n).wf=true:=by
 simp[Lit.wf,IntKind.min,IntKind.max,IntKind.signed,IntKind.bits];omega
theorem fFz:(match Tryz.prog.underlying 183 with|some (.array _ _)|some (.struct _)=>true|_=>false)=true:=by rw[Tryz.underlying183]
theorem holdLaw:Keyed Tryz.prog 183:=Keyed.of_law (deep_law_laid laidOut (m:=2) oM (of_decide_eq_true kF) kF fFz)
theorem fCw:Tryz.prog.cellsOf 183=3:=kF
theorem fT6:Tryz.prog.keyType 183=true:=kF
theorem fIg:∃d,Tryz.prog.types.size+1=d+1+1:=⟨Tryz.prog.types.size-1,by have h:0<Tryz.prog.types.size:=of_decide_eq_true kF;omega⟩
theorem fLl (d:Nat) (n:Int) (h:(Lit.int .i64 n).wf=true):Tryz.prog.keyLits (d+1) 2 [.int .i64 n]=some [.int .i64 n]:=by
 unfold Program.keyLits;rw[Tryz.underlying2];simp[h]
theorem fB7 {s a t:Int} (h:kwf s a t):∃kl,keyOf Tryz.prog 183 (kv s a t)=some kl:=by
 obtain⟨d,hd⟩:=fIg;obtain⟨h0,h1,h2⟩:=h;have hc:Tryz.prog.cellsOf 2=1:=kF;have hf:(kv s a t).formed Tryz.prog 183=true:=by simp[kv,Value.formed,Tryz.underlying183,fCw]
 have hl:Tryz.prog.keyLits (Tryz.prog.types.size+1) 183 (kv s a t).cells.toList=some [.int .i64 s,.int .i64 a,.int .i64 t]:=by
  rw[hd];unfold Program.keyLits;rw[Tryz.underlying183];simp[kv,Value.cells,fCw,hc,List.range,List.range.loop,fLl d s h0,fLl d a h1,fLl d t h2]
 unfold keyOf;rw[Tryz.underlying183];dsimp only;rw[if_pos (by rw[fT6,hf];rfl),hl];exact⟨_,rfl⟩
theorem yT {d:Nat} {c:Value} {l:List Lit} (h:Tryz.prog.keyLits (d+1) 2 [c]=some l):∃n,c =.int .i64 n∧(Lit.int .i64 n).wf=true:=by
 unfold Program.keyLits at h;rw[Tryz.underlying2] at h;cases c <;> simp at h
 obtain⟨⟨rfl,hw⟩,_⟩:=h;exact⟨_,rfl,hw⟩
theorem fR3 {v:Value} {kl:Lit} (h:keyOf Tryz.prog 183 v=some kl):∃s a t,v=kv s a t∧kwf s a t:=by
 obtain⟨xs,L,rfl,hl,_⟩:=keyOf_top fFz h;obtain⟨d,hd⟩:=fIg;have hc:Tryz.prog.cellsOf 2=1:=kF;rw[hd] at hl;unfold Program.keyLits at hl;rw[Tryz.underlying183] at hl;simp only[fCw,hc] at hl;split at hl
 ·
  rename_i h3;obtain⟨l⟩:=xs;match l,h3 with
  | [c0,c1,c2],_=>
   simp[List.range,List.range.loop] at hl;cases e0:Tryz.prog.keyLits (d+1) 2 [c0] with
   | none=>simp[e0] at hl
   | some l0=>
    cases e1:Tryz.prog.keyLits (d+1) 2 [c1] with
    | none=>simp[e0,e1] at hl
    | some l1=>
     cases e2:Tryz.prog.keyLits (d+1) 2 [c2] with
     | none=>simp[e0,e1,e2] at hl
     | some l2=>
      obtain⟨n0,rfl,w0⟩:=yT e0;obtain⟨n1,rfl,w1⟩:=yT e1;obtain⟨n2,rfl,w2⟩:=yT e2;exact⟨n0,n1,n2,rfl,w0,w1,w2⟩
 cases hl
theorem fV5 {s a t s' a' t':Int} (h:kv s a t=kv s' a' t'):s=s'∧a=a'∧t=t':=by
 simpa [kv] using h
def Book (w:World) (b n:Nat) (f:Int→Int→Int→Option Int):Prop:=
 ∃D:DataW Unit,w.ownsMap Tryz.prog 183 (plainElem Tryz.prog 2) b n D ∧
  ∀s a t kl,keyOf Tryz.prog 183 (kv s a t)=some kl→Maps.has D kl=(f s a t).isSome∧D.atKey kl (.lit (.int .i64 0)) =.lit (.int .i64 ((f s a t).getD 0))
def upd3 (f:Int→Int→Int→Option Int) (s a t:Int) (v:Option Int):Int→Int→Int→Option Int:=fun s' a' t'=>if s'=s∧a'=a∧t'=t then v else f s' a' t'
theorem fQ4 (w:World):Book (w.alloc (.map #[] 0)) w.heap.size 0 (fun _ _ _=>none):=
 ⟨_,World.ownsMap_made w _ _ _,fun _ _ _ _ _=>⟨rfl,rfl⟩⟩
theorem Book.lt {w:World} {b n:Nat} {f:Int→Int→Int→Option Int} (h:Book w b n f):b<w.heap.size:=by
 obtain⟨D,hD,_⟩:=h;exact hD.lt
theorem Book.kept {w w':World} {b n:Nat} {f:Int→Int→Int→Option Int} {row:Option Nat} (h:Book w b n f) (hg:w.grownBy w' row) (hne:some b≠row):Book w' b n f:=by
 obtain⟨D,hD,h1⟩:=h;exact⟨D,hD.kept hg hne,h1⟩
theorem Book.below {w w':World} {b n:Nat} {f:Int→Int→Int→Option Int} (h:Book w b n f) (hb:Below w.heap.size w w'):Book w' b n f:=h.kept (uO hb) (by simp)
theorem Book.mono {w:World} {b n n':Nat} {f:Int→Int→Int→Option Int} (h:Book w b n f) (hn:n≤n'):Book w b n' f:=by
 obtain⟨D,hD,h1⟩:=h;exact⟨D,hD.mono hn,h1⟩
theorem Book.cast {w:World} {b n:Nat} {f g:Int→Int→Int→Option Int} (h:Book w b n f) (hf:∀s a t,kwf s a t→g s a t=f s a t):Book w b n g:=by
 obtain⟨D,hD,h1⟩:=h;refine⟨D,hD,fun s a t kl hk=>?_⟩;obtain⟨s',a',t',e,hw⟩:=fR3 hk;obtain⟨rfl,rfl,rfl⟩:=fV5 e;rw[hf _ _ _ hw];exact h1 _ _ _ _ hk
theorem Book.turned {w w':World} {b n:Nat} {f:Int→Int→Int→Option Int} (h:Book w b n f) {F:Nat→Prop} (hm:Mod F w w') (hF:¬F b):Book w' b n f:=by
 obtain⟨D,⟨es,clock,hb,h2⟩,h1⟩:=h;refine⟨D,⟨es,clock,?_,h2⟩,h1⟩;have hlt:b<w.heap.size:=by
  rcases Nat.lt_or_ge b w.heap.size with h|h
  ·exact h
  rw[Array.getElem?_eq_none h] at hb;cases hb
 rw[hm.block b hlt hF];exact hb
theorem fTh (w:World):(zeroValue 2).run Tryz.prog w =.ok (.int .i64 0) w:=kF
theorem Book.look {w:World} {b n:Nat} {f:Int→Int→Int→Option Int} (h:Book w b n f) {s a t:Int} (hw:kwf s a t) :
  (Instr.lookup 93 (.map (some b)) (kv s a t) false).run Tryz.prog w =.ok (.int .i64 ((f s a t).getD 0)) w∧(Lit.int .i64 ((f s a t).getD 0)).wf=true:=by
 obtain⟨D,hD,h1⟩:=h;obtain⟨kl,hk⟩:=fB7 hw;obtain⟨c,hrun,hat,hwc⟩:=hD.lookup_int holdLaw Tryz.underlying93 Tryz.underlying2 (fTh w) hk;have:=(h1 s a t kl hk).2;rw[hat] at this;simp at this;rw[←this];exact⟨hrun,hwc⟩
theorem Book.put {w:World} {b n:Nat} {f:Int→Int→Int→Option Int} (h:Book w b n f) {s a t v:Int} (hw:kwf s a t) (hv:(Lit.int .i64 v).wf=true) (hn:n<maxLen) :
  ∃w',(Instr.mapUpdate 93 (.map (some b)) (kv s a t) (.int .i64 v)).run Tryz.prog w =.ok () w'∧Book w' b (n+1) (upd3 f s a t (some v))∧w.grownBy w' (some b):=by
 obtain⟨D,hD,h1⟩:=h;obtain⟨kl,hk⟩:=fB7 hw;obtain⟨w',hrun,hD',hg⟩:=hD.update holdLaw Tryz.underlying93 hn hk (plainElem_int Tryz.underlying2 hv);refine⟨w',hrun,⟨_,hD',fun s' a' t' kl' hk'=>?_⟩,hg⟩;unfold upd3;by_cases e:kl'=kl
 ·subst e;have:=holdLaw.inj hk' hk;obtain⟨rfl,rfl,rfl⟩:=fV5 this;rw[if_pos ⟨rfl,rfl,rfl⟩];exact⟨has_put_same hD.isMap (holdLaw.key hk) _,atKey_put_same hD.isMap (holdLaw.key hk) _ _⟩
 rw[if_neg (by
  rintro⟨rfl,rfl,rfl⟩;rw[hk] at hk';exact e (by simpa using hk'.symm)),has_put_other e,atKey_put_other e]
 exact h1 s' a' t' kl' hk'
end
section
structure Rw where
 key:ByteArray
 ver:Int
 val:ByteArray
 gone:Bool
variable [dQ Rw] [iH Rw]
end
end Go.Proofs.YtbfnobcidnmohaaGreat

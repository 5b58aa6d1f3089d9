import Derived.Test.YtpibfdebfacooaaGreatPrnCrashJournalLaw13
import Derived.Test.YtpibfdebfacooaaGreatPrnCrashJournalLaw8
set_option maxHeartbeats 8000000
set_option maxRecDepth 20000
set_option linter.unusedVariables false
set_option linter.unusedSectionVars false
set_option linter.unusedSimpArgs false
namespace Go.Proofs.YtpibfdebfacooaaGreat
open Go.RowKit
attribute [local go_sem ↓] Go.wp_at_zero Go.wp_at_succ
section
variable [dQ Mrk] [iH Mrk] [dQ Leg] [iH Leg] [dQ Cont] [iH Cont]
def posM (c:Int):List Mrk→Nat
 | []=>0
 | m::r=>if m.con<c then posM c r+1 else 0
theorem fM9 {c:Int}:∀{xs:List Mrk} {i:Nat},i≤xs.length→(∀k,k<i→(xs.getD k default).con<c)→(i<xs.length→¬(xs.getD i default).con<c)→posM c xs=i
 | [],i,hi,_,_=>by simp at hi;simp[posM,hi]
 | x::xs,0,_,_,h2=>by
  have:=h2 (by simp);simp at this;simp[posM];omega
 | x::xs,i+1,hi,h1,h2=>by
  have h0:x.con<c:=by simpa using h1 0 oM
  have ih:=fM9 (c:=c) (xs:=xs) (i:=i) (by simpa using hi) (fun k hk=>by simpa using h1 (k+1) oM) (fun h=>by simpa using h2 (by simpa using h));simp[posM,h0,ih]
theorem fTk (c:Int):∀xs:List Mrk,posM c xs≤xs.length
 | []=>by simp[posM]
 | x::xs=>by
  have:=fTk c xs;unfold posM;split <;> simp <;> omega
def putM (xs:List Mrk) (m:Mrk):List Mrk:=xs.take (posM m.con xs)++[m]++xs.drop (posM m.con xs)
theorem fDw (xs:List Mrk) (m:Mrk):(putM xs m).length=xs.length+1:=by
 have:=fTk m.con xs;unfold putM;simp;omega
def posC (c:Int):List Cont→Nat
 | []=>0
 | m::r=>if m.id<c then posC c r+1 else 0
theorem fM7 {c:Int}:∀{xs:List Cont} {i:Nat},i≤xs.length→(∀k,k<i→(xs.getD k default).id<c)→(i<xs.length→¬(xs.getD i default).id<c)→posC c xs=i
 | [],i,hi,_,_=>by simp at hi;simp[posC,hi]
 | x::xs,0,_,_,h2=>by
  have:=h2 (by simp);simp at this;simp[posC];omega
 | x::xs,i+1,hi,h1,h2=>by
  have h0:x.id<c:=by simpa using h1 0 oM
  have ih:=fM7 (c:=c) (xs:=xs) (i:=i) (by simpa using hi) (fun k hk=>by simpa using h1 (k+1) oM) (fun h=>by simpa using h2 (by simpa using h));simp[posC,h0,ih]
theorem fM8 (c:Int):∀xs:List Cont,posC c xs≤xs.length
 | []=>by simp[posC]
 | x::xs=>by
  have:=fM8 c xs;unfold posC;split <;> simp <;> omega
def putC (xs:List Cont) (m:Cont):List Cont:=xs.take (posC m.id xs)++[m]++xs.drop (posC m.id xs)
theorem fOz (xs:List Cont) (m:Cont):(putC xs m).length=xs.length+1:=by
 have:=fM8 m.id xs;unfold putC;simp;omega
variable [dQ Rw] [iH Rw] [dQ Bal] [iH Bal] [dQ Ledg] [iH Ledg] [dQ LedgR] [iH LedgR] [dQ OutcR] [iH OutcR] [dQ Shd] [iH Shd] [dQ ShdR] [iH ShdR]
def errH (c:Int):ShdR:=⟨c,0,⟨0,[],[],[],[],[]⟩⟩
def kR (s:Shd) (c:Cont):Bool:=decide (fK c.id s.done=0∧xW s.bals (onSh s.idx c.legs)=0∧s.held.any (fun o=>touch (onSh s.idx c.legs) (onSh s.idx o.legs))=false)
def mX (s:Shd) (c:Cont):ShdR:=
 if fK c.id s.votes=0 then (if 100≤s.votes.length then errH 2 else if kR s c=true then ⟨0,1,⟨s.idx,s.bals,putM s.votes ⟨c.id,1⟩,putC s.held c,s.done,s.appl⟩⟩ else ⟨0,2,⟨s.idx,s.bals,putM s.votes ⟨c.id,2⟩,s.held,s.done,s.appl⟩⟩) else ⟨0,fK c.id s.votes,s⟩
def rO (s:Shd) (c:Cont):ShdR:=
 if shdF s=0 then (if fA c.id c.legs=0 then (if (onSh s.idx c.legs).length=0 then errH 4 else mX s c) else errH (fA c.id c.legs)) else errH (shdF s)
def kN (k:Int) (hs:List Cont):List Cont:=hs.filter (fun c=>!(c.id==k))
def uU (k:Int):List Cont→List Leg
 | []=>[]
 | c::r=>if c.id=k then c.legs else uU k r
def decS (s:Shd) (k o:Int):Shd:=
 if o=1 then ⟨s.idx,addB s.bals (onSh s.idx (uU k s.held)),s.votes,kN k s.held,putM s.done ⟨k,o⟩,s.appl++[k]⟩
 else ⟨s.idx,s.bals,s.votes,kN k s.held,putM s.done ⟨k,o⟩,s.appl⟩
def qK (s:Shd) (k o:Int):ShdR:=
 if fK k s.done=0 then (if o=1∧fO s.held k=false then errH 1 else if 100≤s.done.length then errH 2 else ⟨0,0,decS s k o⟩)
 else if fK k s.done=o then ⟨0,0,s⟩ else errH 7
def kW (s:Shd) (k o:Int):ShdR:=
 if shdF s=0 then (if (inB k 1 1000000000&&inB o 1 2)=true then qK s k o else errH 3) else errH (shdF s)
end
section
variable [dQ Leg] [iH Leg] [dQ Mrk] [iH Mrk] [dQ Bal] [iH Bal]
theorem fA6 {w:World} {v:Value} {xs:List Leg} (h:legsR.V w v xs):gU w v xs.length (gN xs):=by
 obtain⟨a,c,rfl,_,_,hc⟩:=h;cases a with
 | none=>
  have h0:xs=[]:=by
   cases xs with
   | nil=>rfl
   | cons x r=>obtain⟨b,o,e,_⟩:=hc 0 (by simp);cases e
  subst h0;exact .inl ⟨c,rfl,rfl,rfl⟩
 | some ad=>
  refine .inr ⟨ad,c,rfl,fun j x hj=>?_⟩;have hjl:j<xs.length*4:=by
   have:=(List.getElem?_eq_some_iff.1 hj).1;rw[vM] at this;exact this
  have hi:j / 4<xs.length:=oM;obtain⟨b,o,e,g0,g1,g2,g3⟩:=hc (j / 4) hi;obtain⟨q0,q1,q2,q3⟩:=fIm xs (j / 4) hi;simp only[Option.some.injEq] at e;subst e;have hadd:(Addr.mk b o none).add j=⟨b,o+j,none⟩:=by
   by_cases h:j=0
   ·subst h;simp[Addr.add]
   simp[Addr.add,h]
  rw[hadd];have hm:j % 4=0∨j % 4=1∨j % 4=2∨j % 4=3:=oM;rcases hm with hm|hm|hm|hm
  ·have e:j=j / 4*4:=oM;have e2:o+j=o+j / 4*4:=oM;rw[e2,g0];rw[e,q0] at hj;exact hj
  ·have e:j=j / 4*4+1:=oM;have e2:o+j=o+j / 4*4+1:=oM;rw[e2,g1];rw[e,q1] at hj;exact hj
  ·have e:j=j / 4*4+2:=oM;have e2:o+j=o+j / 4*4+2:=oM;rw[e2,g2];rw[e,q2] at hj;exact hj
  have e:j=j / 4*4+3:=oM;have e2:o+j=o+j / 4*4+3:=oM;rw[e2,g3];rw[e,q3] at hj;exact hj
theorem qW {w:World} {v:Value} {xs:List Mrk} (h:mrksR.V w v xs):gU w v xs.length (gK xs):=by
 obtain⟨a,c,rfl,_,_,hc⟩:=h;cases a with
 | none=>
  have h0:xs=[]:=by
   cases xs with
   | nil=>rfl
   | cons x r=>obtain⟨b,o,e,_⟩:=hc 0 (by simp);cases e
  subst h0;exact .inl ⟨c,rfl,rfl,rfl⟩
 | some ad=>
  refine .inr ⟨ad,c,rfl,fun j x hj=>?_⟩;have hjl:j<xs.length*2:=by
   have:=(List.getElem?_eq_some_iff.1 hj).1;rw[vN] at this;exact this
  have hi:j / 2<xs.length:=oM;obtain⟨b,o,e,g0,g1⟩:=hc (j / 2) hi;obtain⟨q0,q1⟩:=fEl xs (j / 2) hi;simp only[Option.some.injEq] at e;subst e;have hadd:(Addr.mk b o none).add j=⟨b,o+j,none⟩:=by
   by_cases h:j=0
   ·subst h;simp[Addr.add]
   simp[Addr.add,h]
  rw[hadd];have hm:j % 2=0∨j % 2=1:=oM;rcases hm with hm|hm
  ·have e:j=j / 2*2:=oM;have e2:o+j=o+j / 2*2:=oM;rw[e2,g0];rw[e,q0] at hj;exact hj
  have e:j=j / 2*2+1:=oM;have e2:o+j=o+j / 2*2+1:=oM;rw[e2,g1];rw[e,q1] at hj;exact hj
theorem yH (xs:List Int):(kM xs).length=xs.length:=by simp[kM]
theorem fD2 {w:World} {v:Value} {xs:List Int} (h:vZ w v xs):gU w v xs.length (kM xs):=by
 obtain⟨a,c,rfl,_,_,hc⟩:=h;cases a with
 | none=>
  have h0:xs=[]:=by
   cases xs with
   | nil=>rfl
   | cons x r=>obtain⟨b,o,e,_⟩:=hc 0 (by simp);cases e
  subst h0;exact .inl ⟨c,rfl,rfl,rfl⟩
 | some ad=>
  refine .inr ⟨ad,c,rfl,fun j x hj=>?_⟩;have hi:j<xs.length:=by
   have:=(List.getElem?_eq_some_iff.1 hj).1;rw[yH] at this;exact this
  obtain⟨b,o,e,g0⟩:=hc j hi;simp only[Option.some.injEq] at e;subst e;have hadd:(Addr.mk b o none).add j=⟨b,o+j,none⟩:=by
   by_cases h:j=0
   ·subst h;simp[Addr.add]
   simp[Addr.add,h]
  rw[hadd,g0];simp[kM,hi] at hj;simp[List.getD,hi,hj]
theorem fHi (xs:List Leg):∀u ∈ gN xs,u.oneCell'=true:=by
 intro u hu;simp only[gN,List.mem_flatMap] at hu;obtain⟨b,_,hb⟩:=hu;simp[legC] at hb;rcases hb with rfl|rfl|rfl|rfl <;> rfl
theorem fHg (xs ys:List Leg):gN (xs++ys)=gN xs++gN ys:=by simp[gN]
theorem fHo (xs:List Mrk):∀u ∈ gK xs,u.oneCell'=true:=by
 intro u hu;simp only[gK,List.mem_flatMap] at hu;obtain⟨b,_,hb⟩:=hu;simp[mrkC] at hb;rcases hb with rfl|rfl <;> rfl
theorem fHn (xs ys:List Mrk):gK (xs++ys)=gK xs++gK ys:=by simp[gK]
theorem fCb (xs:List Bal):∀u ∈ kX xs,u.oneCell'=true:=by
 intro u hu;simp only[kX,List.mem_flatMap] at hu;obtain⟨b,_,hb⟩:=hu;simp[balC] at hb;rcases hb with rfl|rfl|rfl <;> rfl
theorem fCa (xs ys:List Bal):kX (xs++ys)=kX xs++kX ys:=by simp[kX]
theorem fG4 (xs:List Int):∀u ∈ kM xs,u.oneCell'=true:=by
 intro u hu;simp only[kM,List.mem_map] at hu;obtain⟨b,_,rfl⟩:=hu;rfl
theorem zY (xs ys:List Int):kM (xs++ys)=kM xs++kM ys:=by simp[kM]
theorem fNk (w:World) {ops:Array Oper} {o:Oper} {a:Act} {K:Act→World→Prop} {Q:Exit→Act→World→Prop} {E:Prop} (hgd:o.guard=none) (s x:Operand)
  (ho:o.op =.call {callee:=.builtin .append,args:=#[s,x],argTypes:=#[55,55]})
  (base:Nat) (v:Value) (xs:List Leg) (hs:a.eval s=v) (u:Value) (ys:List Leg) (hx:a.eval x=u)
  (hown:w.ownsRow base 168 4 v xs.length (gN xs)) (hsrc:gU w u ys.length (gN ys)) (hlen:xs.length+ys.length≤1073741824) (hbase:base≤w.heap.size)
  (h:∀v' w',w'.ownsRow base 168 4 v' (xs++ys).length (gN (xs++ys))→w.grownBy w' v.ownBlock→(∀W:World,Below base W w→Below base W w')→K (a.put o.dst v') w') :
  if Region.wanted o (yielded ops a.tmps)=true then Oper.wp Tryz.prog o a w K Q else E:=by
 obtain⟨i0,hi,hz0,hz1,hz2⟩:=info_parts fEx;refine rZ w hgd s x 55 ho base 168 i0 _ 4 32 Tryz.underlying55 hi hz0 hz1 hz2 rfl (by decide) v xs.length (gN xs) hs u ys.length (gN ys) hx hown hsrc (by rw[vM]) (fHi ys) (by unfold maxLen;omega) oM hbase ?_;intro v' w' h1 h2 h3;refine h v' w' ?_ h2 h3;rw[List.length_append,fHg];exact h1
theorem fJn (w:World) {ops:Array Oper} {rest:List Oper} {o:Oper} {a:Act} {Q:Exit→Act→World→Prop} (hgd:o.guard=none) (s x:Operand)
  (ho:o.op =.call {callee:=.builtin .append,args:=#[s,x],argTypes:=#[55,55]})
  (base:Nat) (v:Value) (xs:List Leg) (hs:a.eval s=v) (u:Value) (ys:List Leg) (hx:a.eval x=u)
  (hown:w.ownsRow base 168 4 v xs.length (gN xs)) (hsrc:gU w u ys.length (gN ys)) (hlen:xs.length+ys.length≤1073741824) (hbase:base≤w.heap.size)
  (h:∀v' w',w'.ownsRow base 168 4 v' (xs++ys).length (gN (xs++ys))→w.grownBy w' v.ownBlock→(∀W:World,Below base W w→Below base W w')→wpList Tryz.prog ops Q rest (a.put o.dst v') w') :
  wpList Tryz.prog ops Q (o::rest) a w:=by
 obtain⟨i0,hi,hz0,hz1,hz2⟩:=info_parts fEx;refine uK w hgd s x 55 ho base 168 i0 _ 4 32 Tryz.underlying55 hi hz0 hz1 hz2 rfl (by decide) v xs.length (gN xs) hs u ys.length (gN ys) hx hown hsrc (by rw[vM]) (fHi ys) (by unfold maxLen;omega) oM hbase ?_;intro v' w' h1 h2 h3;refine h v' w' ?_ h2 h3;rw[List.length_append,fHg];exact h1
theorem fFv (w:World) {ops:Array Oper} {o:Oper} {a:Act} {K:Act→World→Prop} {Q:Exit→Act→World→Prop} {E:Prop} (hgd:o.guard=none) (s x:Operand)
  (ho:o.op =.call {callee:=.builtin .append,args:=#[s,x],argTypes:=#[37,37]})
  (base:Nat) (v:Value) (xs:List Mrk) (hs:a.eval s=v) (u:Value) (ys:List Mrk) (hx:a.eval x=u)
  (hown:w.ownsRow base 166 2 v xs.length (gK xs)) (hsrc:gU w u ys.length (gK ys)) (hlen:xs.length+ys.length≤1073741824) (hbase:base≤w.heap.size)
  (h:∀v' w',w'.ownsRow base 166 2 v' (xs++ys).length (gK (xs++ys))→w.grownBy w' v.ownBlock→(∀W:World,Below base W w→Below base W w')→K (a.put o.dst v') w') :
  if Region.wanted o (yielded ops a.tmps)=true then Oper.wp Tryz.prog o a w K Q else E:=by
 obtain⟨i0,hi,hz0,hz1,hz2⟩:=info_parts fCm;refine rZ w hgd s x 37 ho base 166 i0 _ 2 16 Tryz.underlying37 hi hz0 hz1 hz2 rfl (by decide) v xs.length (gK xs) hs u ys.length (gK ys) hx hown hsrc (by rw[vN]) (fHo ys) (by unfold maxLen;omega) oM hbase ?_;intro v' w' h1 h2 h3;refine h v' w' ?_ h2 h3;rw[List.length_append,fHn];exact h1
theorem fFu (w:World) {ops:Array Oper} {o:Oper} {a:Act} {K:Act→World→Prop} {Q:Exit→Act→World→Prop} {E:Prop} (hgd:o.guard=none) (s x:Operand)
  (ho:o.op =.call {callee:=.builtin .append,args:=#[s,x],argTypes:=#[30,30]})
  (base:Nat) (v:Value) (xs:List Bal) (hs:a.eval s=v) (u:Value) (ys:List Bal) (hx:a.eval x=u)
  (hown:w.ownsRow base 103 3 v xs.length (kX xs)) (hsrc:gU w u ys.length (kX ys)) (hlen:xs.length+ys.length≤1073741824) (hbase:base≤w.heap.size)
  (h:∀v' w',w'.ownsRow base 103 3 v' (xs++ys).length (kX (xs++ys))→w.grownBy w' v.ownBlock→(∀W:World,Below base W w→Below base W w')→K (a.put o.dst v') w') :
  if Region.wanted o (yielded ops a.tmps)=true then Oper.wp Tryz.prog o a w K Q else E:=by
 obtain⟨i0,hi,hz0,hz1,hz2⟩:=info_parts fAx;refine rZ w hgd s x 30 ho base 103 i0 _ 3 24 Tryz.underlying30 hi hz0 hz1 hz2 rfl (by decide) v xs.length (kX xs) hs u ys.length (kX ys) hx hown hsrc (by rw[qV]) (fCb ys) (by unfold maxLen;omega) oM hbase ?_;intro v' w' h1 h2 h3;refine h v' w' ?_ h2 h3;rw[List.length_append,fCa];exact h1
theorem fJm (w:World) {ops:Array Oper} {rest:List Oper} {o:Oper} {a:Act} {Q:Exit→Act→World→Prop} (hgd:o.guard=none) (s x:Operand)
  (ho:o.op =.call {callee:=.builtin .append,args:=#[s,x],argTypes:=#[30,30]})
  (base:Nat) (v:Value) (xs:List Bal) (hs:a.eval s=v) (u:Value) (ys:List Bal) (hx:a.eval x=u)
  (hown:w.ownsRow base 103 3 v xs.length (kX xs)) (hsrc:gU w u ys.length (kX ys)) (hlen:xs.length+ys.length≤1073741824) (hbase:base≤w.heap.size)
  (h:∀v' w',w'.ownsRow base 103 3 v' (xs++ys).length (kX (xs++ys))→w.grownBy w' v.ownBlock→(∀W:World,Below base W w→Below base W w')→wpList Tryz.prog ops Q rest (a.put o.dst v') w') :
  wpList Tryz.prog ops Q (o::rest) a w:=by
 obtain⟨i0,hi,hz0,hz1,hz2⟩:=info_parts fAx;refine uK w hgd s x 30 ho base 103 i0 _ 3 24 Tryz.underlying30 hi hz0 hz1 hz2 rfl (by decide) v xs.length (kX xs) hs u ys.length (kX ys) hx hown hsrc (by rw[qV]) (fCb ys) (by unfold maxLen;omega) oM hbase ?_;intro v' w' h1 h2 h3;refine h v' w' ?_ h2 h3;rw[List.length_append,fCa];exact h1
theorem fNj (w:World) {ops:Array Oper} {o:Oper} {a:Act} {K:Act→World→Prop} {Q:Exit→Act→World→Prop} {E:Prop} (hgd:o.guard=none) (s x:Operand)
  (ho:o.op =.call {callee:=.builtin .append,args:=#[s,x],argTypes:=#[39,39]})
  (base:Nat) (v:Value) (xs:List Int) (hs:a.eval s=v) (u:Value) (ys:List Int) (hx:a.eval x=u)
  (hown:w.ownsRow base 2 1 v xs.length (kM xs)) (hsrc:gU w u ys.length (kM ys)) (hlen:xs.length+ys.length≤1073741824) (hbase:base≤w.heap.size)
  (h:∀v' w',w'.ownsRow base 2 1 v' (xs++ys).length (kM (xs++ys))→w.grownBy w' v.ownBlock→(∀W:World,Below base W w→Below base W w')→K (a.put o.dst v') w') :
  if Region.wanted o (yielded ops a.tmps)=true then Oper.wp Tryz.prog o a w K Q else E:=by
 obtain⟨i0,hi,hz0,hz1,hz2⟩:=info_parts fCl;refine rZ w hgd s x 39 ho base 2 i0 _ 1 8 Tryz.underlying39 hi hz0 hz1 hz2 rfl (by decide) v xs.length (kM xs) hs u ys.length (kM ys) hx hown hsrc (by rw[yH,Nat.mul_one]) (fG4 ys) (by unfold maxLen;omega) oM hbase ?_;intro v' w' h1 h2 h3;refine h v' w' ?_ h2 h3;rw[List.length_append,zY];exact h1
variable [dQ Cont] [iH Cont]
theorem fD9 (x:Value) (d:Cont) (w:World) (hx:contR.V w x d) (hn:d.legs.length≤1048576) :
  Calls Tryz.prog 114 #[x] w fun e w'=>∃v F,e =.returned v∧contR.O w' w.heap.size F v d∧Below w.heap.size w w':=by
 obtain⟨u1,rfl,hx⟩:=hx;obtain⟨ax,cx,rfl⟩:=kP hx;have hs0:gU ((w.alloc (.cells #[.int .i64 d.id,.slice ax d.legs.length cx] 57)).alloc (.cells #[.int .i64 0,.slice none 0 0] 57)) (.slice ax d.legs.length cx) d.legs.length (gN d.legs):=fA6 (legsR.below hx qBq);have ho0:=World.ownsRow_nil ((w.alloc (.cells #[.int .i64 d.id,.slice ax d.legs.length cx] 57)).alloc (.cells #[.int .i64 0,.slice none 0 0] 57)) (w.heap.size+2) 168 4;clear hx;go_enter Tryz.func114,Tryz.ntmps114;go_wp2_with (at_builtin;refine fJn _ rfl _ _ rfl (w.heap.size+2) _ [] rfl _ d.legs rfl ho0 hs0 ?c1 ?c2 ?_)
 case c1=>simp;omega
 case c2=>simp
 intro v' w1 ho hg hbel;clear hs0 ho0 hg;have hY:=hbel _ (bR _ _);have hB1:Below w.heap.size w w1:=Below.trans qBq (hY.mono oM);clear hbel;have y0:w1.cell? ⟨w.heap.size,0,none⟩=some (.int .i64 d.id):=(hY.cell (p:=⟨w.heap.size,0,none⟩) (by simp)).trans sG;have y1:w1.cell? ⟨w.heap.size,1,none⟩=some (.slice ax d.legs.length cx):=(hY.cell (p:=⟨w.heap.size,1,none⟩) (by simp)).trans sG;have yf:∀o,w1.frozen? ⟨w.heap.size,o,none⟩=false:=fun o=>(hY.frozen (p:=⟨w.heap.size,o,none⟩) (by simp)).trans sG
 have q0:w1.cell? ⟨w.heap.size+1,0,none⟩=some (.int .i64 0):=(hY.cell (p:=⟨w.heap.size+1,0,none⟩) (by simp)).trans sG;have q1:w1.cell? ⟨w.heap.size+1,1,none⟩=some (.slice none 0 0):=(hY.cell (p:=⟨w.heap.size+1,1,none⟩) (by simp)).trans sG;have qf:∀o,w1.frozen? ⟨w.heap.size+1,o,none⟩=false:=fun o=>(hY.frozen (p:=⟨w.heap.size+1,o,none⟩) (by simp)).trans sG
 have hz:=hY.size;try simp at hz
 clear hY;try simp only[List.nil_append] at ho
 obtain⟨av,cv,rfl⟩:=fD ho;have o1:∃F,legsR.O w1 (w.heap.size+2) F (.slice av d.legs.length cv) d.legs:=⟨_,ho,rfl⟩
 obtain⟨F1,o1⟩:=o1;clear ho;go_wp2;refine bodyPost_ret (v:=.agg #[.int .i64 d.id,.slice av d.legs.length cv]) ?_ rfl ⟨_,fun b=>F1 b,rfl,⟨_,F1,rfl,legsR.base (base:=w.heap.size+2) (by(repeat (first|refine Rep.set _ ?_ _ (by simp;omega)|refine Rep.set _ ?_ _ (by simp)|refine Rep.alloc _ ?_ _|assumption))) oM,fun b=>Iff.rfl⟩,qS⟩;simp[results,Tryz.results114,go_sem,y0,y1,q0,q1,yf,qf]
theorem yG (x:Value) (d:Cont) (w:World) (hx:contR.V w x d) (hn:d.legs.length≤1048576) :
  Calls Tryz.prog 155 #[x] w fun e w'=>∃v F,e =.returned v∧contR.O w' w.heap.size F v d∧Below w.heap.size w w':=by
 obtain⟨u1,rfl,hx⟩:=hx;have HV:Hid (bW w fun W=>gU W u1 d.legs.length (gN d.legs)):=fun W hW=>fA6 (legsR.below hx hW)
 obtain⟨ax,cx,rfl⟩:=kP hx;clear hx;go_enter Tryz.func155,Tryz.ntmps155;go_wp2;obtain⟨wq,hwq⟩:∃wq,wq=(w.alloc (.cells #[.int .i64 d.id,.slice ax d.legs.length cx] 57)).alloc (.cells #[.int .i64 0,.slice none 0 0] 57):=⟨_,rfl⟩
 have y0:wq.cell? ⟨w.heap.size,0,none⟩=some (.int .i64 d.id):=by rw[hwq];simp[go_sem]
 have y1:wq.cell? ⟨w.heap.size,1,none⟩=some (.slice ax d.legs.length cx):=by rw[hwq];simp[go_sem]
 have q0:wq.cell? ⟨w.heap.size+1,0,none⟩=some (.int .i64 0):=by rw[hwq];simp[go_sem]
 have q1:wq.cell? ⟨w.heap.size+1,1,none⟩=some (.slice none 0 0):=by rw[hwq];simp[go_sem]
 have qf:∀o,wq.frozen? ⟨w.heap.size+1,o,none⟩=false:=fun o=>by rw[hwq];simp[go_sem]
 have hBq:Below w.heap.size w wq:=by rw[hwq];exact qBq
 have zq:w.heap.size+1<wq.heap.size:=by rw[hwq];simp
 rw[←hwq];clear hwq;refine wp_region_noPanic ?_;refine fB (fun W=>Below wq.heap.size wq W∧W.cell? ⟨w.heap.size,0,none⟩=some (.int .i64 d.id)∧W.cell? ⟨w.heap.size,1,none⟩=some (.slice ax d.legs.length cx)) 7 kF ⟨qBq,cK qBq y0,cK qBq y1⟩ (fun hS=>?_);refine tY 0 ?_;refine tY 1 ?_;refine tY 3 ?_;refine tY 4 ?_;refine uS 2 rfl (fun K hK=>?_);go_simp;refine hK _ _ (fun _=>⟨qBq,cK qBq y0,cK qBq y1⟩) ?_;clear hK K;try simp only[jX]
 refine uS 5 rfl (fun K hK=>?_);refine fNk _ rfl _ _ rfl wq.heap.size _ [] rfl _ d.legs rfl ?o1 ?s1 ?c1 ?c2 ?_
 case o1=>exact World.ownsRow_lit (base:=wq.heap.size) (e:=168) (size:=4) wq.drew #[] 0 (by simp) (by decide) rfl
 case s1=>exact HV.out _ (bS hBq qBq)
 case c1=>simp;omega
 case c2=>simp
 intro v5 w5 o5 _ hB5;try simp only[List.nil_append] at o5
 obtain⟨av,cv,rfl⟩:=fD o5;have hY:Below wq.heap.size wq w5:=hB5 wq qBq;have hS5:=And.intro hY (And.intro (cK hY y0) (cK hY y1));refine hK _ _ (fun _=>hS5) ?_;clear hK K hB5;replace q0:=cK hY q0;replace q1:=cK hY q1;replace qf:∀o,w5.frozen? ⟨w.heap.size+1,o,none⟩=false:=fun o=>by rw[(bcell hY).2 _ _ zq];exact qf o
 have HO:Hid (legsR.O w5 wq.heap.size (fun b=>(Value.slice av d.legs.length cv).ownBlock=some b) (.slice av d.legs.length cv) d.legs):=⟨o5,rfl⟩;clear o5;have hB5:Below w.heap.size w w5:=bS hBq hY;try simp only[jX]
 refine tY 6 ?_;refine uS 7 rfl (fun K hK=>?_);go_simp;refine hK _ _ (fun h=>absurd rfl h) ?_;clear hK K;refine dP ?_;clear hS hS5;go_wp2;refine bodyPost_ret (v:=.agg #[.int .i64 d.id,.slice av d.legs.length cv]) (by simp[results,Tryz.results155,go_sem,q0,q1,qf]) rfl ⟨_,fun b=>(Value.slice av d.legs.length cv).ownBlock=some b,rfl,?_,qS⟩;exact⟨_,_,rfl,legsR.base (base:=wq.heap.size) (legsR.set (legsR.set HO.out _ (by dsimp only;omega)) _ (by dsimp only;omega)) oM,fun _=>Iff.rfl⟩
variable [dQ Shd] [iH Shd]
theorem fGx {w:World} {v:Value} {xs:List Cont} (hx:contsR.V w v xs):∃a c,v =.slice a xs.length c∧xs.length≤c∧c≤maxLen∧∀k,k<xs.length→∃b o p q,a=some ⟨b,o,none⟩∧w.cell? ⟨b,o+k*2,none⟩=some (.int .i64 (xs.getD k default).id)∧w.cell? ⟨b,o+k*2+1,none⟩=some (.slice p (xs.getD k default).legs.length q)∧contR.V w (.agg #[.int .i64 (xs.getD k default).id,.slice p (xs.getD k default).legs.length q]) (xs.getD k default):=by
 obtain⟨a,c,rfl,h1,h2,h3⟩:=hx;refine⟨a,c,rfl,h1,h2,fun k hk=>?_⟩;obtain⟨b,o,u,e,_,p,hv⟩:=h3 k hk;have hV:=hv;obtain⟨s,rfl,hc⟩:=hv;obtain⟨au,cu,rfl⟩:=kP hc;exact⟨b,o,au,cu,e,p 0 oM,p 1 oM,hV⟩
theorem fV3 (w:World) {ops:Array Oper} {rest:List Oper} {o:Oper} {a:Act} {Q:Exit→Act→World→Prop} (hgd:o.guard=none) (s x:Operand)
  (ho:o.op =.call {callee:=.builtin .append,args:=#[s,x],argTypes:=#[38,38]})
  (base:Nat) (F Fu:Nat→Prop) (v:Value) (xs:List Cont) (y:Cont) (g:Nat) (p:Option Addr) (q:Nat) (hs:a.eval s=v) (hx:a.eval x =.slice (some ⟨g,0,none⟩) 1 1) (hown:contsR.O w base F v xs) (hu:contR.O w base Fu (.agg #[.int .i64 y.id,.slice p y.legs.length q]) y) (hd:∀b,F b→¬Fu b)
  (hc:w.cell? ⟨g,0,none⟩=some (.int .i64 y.id)∧w.cell? ⟨g,1,none⟩=some (.slice p y.legs.length q)) (hn:xs.length≤2000000) (hbase:base≤w.heap.size)
  (h:∀v' w' F',contsR.O w' base F' v' (xs++[y])→Below base w w'→(∀b,F' b→F b∨Fu b∨w.heap.size≤b)→wpList Tryz.prog ops Q rest (a.put o.dst v') w'):wpList Tryz.prog ops Q (o::rest) a w:=by
 obtain⟨i0,hi,hz0,hz1,hz2⟩:=info_parts qZ;exact fPg w hgd s x 38 ho 57 i0 _ 2 32 Tryz.underlying38 hi hz0 hz1 hz2 rfl (by decide) (by decide) base F Fu v _ xs y ⟨g,0,none⟩ 1 hs hx hown hu rfl (fun z hz=>by
  simp[kL,one] at hz;rcases hz with rfl|rfl <;> rfl) hd (fun j y' hj=>by
  match j,hj with
  | 0,hj=>simp[kL,one] at hj;subst hj;simpa [Addr.add] using hc.1
  | 1,hj=>simp[kL,one] at hj;subst hj;simpa [Addr.add] using hc.2
  | j+2,hj=>simp[kL,one] at hj) hn hbase h
theorem xH (w:World) (base:Nat):contsR.O w base (fun _=>False) (.slice none 0 0) []:=
 ⟨[],fun _=>default,fun _ _=>False,⟨World.ownsRow_nil _ _ _ _,fun i hi=>absurd hi (Nat.not_lt_zero _),fun i hi=>absurd hi (Nat.not_lt_zero _),fun i hi=>absurd hi (Nat.not_lt_zero _),fun i hi=>absurd hi (Nat.not_lt_zero _),fun i j hi=>absurd hi (Nat.not_lt_zero _)⟩,fun b=>⟨fun h=>h.elim,fun h=>h.elim (fun h=>by simp[Value.ownBlock] at h) (fun ⟨i,hi,_⟩=>absurd hi (Nat.not_lt_zero _))⟩⟩
theorem xG {w:World} {base:Nat} {F:Nat→Prop} {v:Value} {x:Cont} (h:contR.O w base F v x):∃a c,v =.agg #[.int .i64 x.id,.slice a x.legs.length c]:=by
 obtain⟨u1,F1,rfl,h1,_⟩:=h;obtain⟨a,c,rfl⟩:=kP (legsR.ofO h1);exact⟨a,c,rfl⟩
theorem set6 {α:Type} (R:Rep α) {W:World} {base B:Nat} {F:Nat→Prop} {v:Value} {x:α} (h:R.O W base F v x) (hB:B<base) (u0 u1 u2 u3 u4 u5:Value) :
  R.O ((((((W.setCell ⟨B,0,none⟩ u0).setCell ⟨B,1,none⟩ u1).setCell ⟨B,2,none⟩ u2).setCell ⟨B,3,none⟩ u3).setCell ⟨B,4,none⟩ u4).setCell ⟨B,5,none⟩ u5) base F v x:=
 R.set (R.set (R.set (R.set (R.set (R.set h _ hB) _ hB) _ hB) _ hB) _ hB) _ hB
def copG (d:Shd):Nat→(Nat→Value)→Nat→Nat→World→Prop
 | 4,y,lo,hi,w=>(∃a c,y 7 =.slice a d.bals.length c)∧w.ownsRow lo 103 3 (y 7) d.bals.length (kX d.bals)∧∀b,(y 7).ownBlock=some b→b<hi
 | 7,y,lo,hi,w=>(∃a c,y 10 =.slice a d.votes.length c)∧w.ownsRow lo 166 2 (y 10) d.votes.length (gK d.votes)∧∀b,(y 10).ownBlock=some b→b<hi
 | 10,y,lo,hi,w=>(∃a c,y 13 =.slice a d.held.length c)∧∃F,contsR.O w lo F (y 13) d.held∧∀b,F b→b<hi
 | 13,y,lo,hi,w=>(∃a c,y 16 =.slice a d.done.length c)∧w.ownsRow lo 166 2 (y 16) d.done.length (gK d.done)∧∀b,(y 16).ownBlock=some b→b<hi
 | 16,y,lo,hi,w=>(∃a c,y 19 =.slice a d.appl.length c)∧w.ownsRow lo 2 1 (y 19) d.appl.length (kM d.appl)∧∀b,(y 19).ownBlock=some b→b<hi
 | 17,y,_,_,_=>y 20 =.agg #[.int .i64 d.idx,y 7,y 10,y 13,y 16,y 19]
 | _,_,_,_,_=>True
theorem fPz (x:Value) (xs:List Cont) (w:World) (hx:contsR.V w x xs) (hn:xs.length≤1048576) (hll:∀k,k<xs.length→(xs.getD k default).legs.length≤1048576) :
  Calls Tryz.prog 113 #[x,.func (.func 114) #[] #[]] w fun e w'=>∃v F,e =.returned v∧contsR.O w' w.heap.size F v xs∧Below w.heap.size w w':=by
 obtain⟨a3,c3,e3,hc3,hm3,hx3⟩:=fGx hx;subst e3;unfold maxLen at hm3;have HX:Hid (∀k,k<xs.length→∃b o p q,a3=some ⟨b,o,none⟩∧w.cell? ⟨b,o+k*2,none⟩=some (.int .i64 (xs.getD k default).id)∧w.cell? ⟨b,o+k*2+1,none⟩=some (.slice p (xs.getD k default).legs.length q)∧contR.V w (.agg #[.int .i64 (xs.getD k default).id,.slice p (xs.getD k default).legs.length q]) (xs.getD k default)):=hx3;have HLl:Hid (∀k,k<xs.length→(xs.getD k default).legs.length≤1048576):=hll;clear hx3 hll hx;obtain⟨n3,hn3⟩:∃n3,n3=xs.length:=⟨_,rfl⟩
 have HN:Hid (xs.length=n3):=hn3.symm;rw[←hn3] at hc3 HX HLl hn ⊢;clear hn3;have eg:=enters_of Tryz.func114 kF rfl;go_enter Tryz.func113,Tryz.ntmps113;go_wp2;go_loopw [5,10] (fun s i w'=>∃(k:Nat) (a:Option Addr) (c:Nat) (F:Nat→Prop),k≤n3∧i =.int .i64 k∧s =.slice a k c∧Hid (contsR.O w' w.heap.size F (.slice a k c) (xs.take k))∧Below w.heap.size w w') (fun s i _=>n3-(intOf i).toNat)
 case atStart=>exact⟨0,none,0,_,Nat.zero_le _,rfl,rfl,xH _ _,qBq⟩
 obtain⟨k,as_,cs_,F,hk,rfl,rfl,HO,hbl⟩:=hrel;have zr:=hbl.size;by_cases hlt:k<n3
 ·
  obtain⟨bx,ox,pp,qq,rfl,g0,g1,hV⟩:=HX.out k hlt;have hcw:=HLl.out k hlt;obtain⟨l,hl⟩:∃l,l=xs.getD k default:=⟨_,rfl⟩
  rw[←hl] at g0 g1 hV hcw;have HL:Hid (xs.take (k+1)=xs.take k++[l]):=by
   show _=_;rw[List.take_succ_eq_append_getElem (by rw[HN.out];exact hlt),hl];simp[List.getD,show k<xs.length by rw[HN.out];exact hlt]
  clear hl;have HCp:Hid (bW w fun W=>Calls Tryz.prog 114 #[.agg #[.int .i64 l.id,.slice pp l.legs.length qq]] W fun e w'=>∃v F,e =.returned v∧contR.O w' W.heap.size F v l∧Below W.heap.size W w'):=fun W hW=>fD9 _ l W (contR.below hV hW) hcw
  clear hV;replace g0:=cK hbl g0;replace g1:=cK hbl g1;have zb:bx<wr.heap.size:=wL wr _ g0;go_wp2_with fail;refine(HCp.out _ qBq).mono ?_;rintro e w2 ⟨v2,F2,rfl,o2,hb2⟩;obtain⟨a2',c2',rfl⟩:=xG o2;have hz2:=hb2.size;simp at hz2;have hB2:Below wr.heap.size wr w2:=qBq;have HO2:Hid (contsR.O w2 w.heap.size F (.slice as_ k cs_) (xs.take k)):=contsR.keep HO.out hB2;have HFl:Hid (∀b,F b→b<wr.heap.size):=fun b hb=>(contsR.rng HO.out b hb).2
  have HF2:Hid (∀b,F2 b→wr.heap.size+1≤b):=fun b hb=>by have:=(contR.rng o2 b hb).1;simpa using this
  have HU:Hid (contR.O w2 w.heap.size F2 (.agg #[.int .i64 l.id,.slice a2' l.legs.length c2']) l):=contR.base o2 (by simp;omega);have hB3:Below w.heap.size w w2:=bS hbl hB2;clear hb2 o2 HCp HO g0 g1 hB2;go_wp2_with (at_builtin;refine fV3 _ rfl _ _ rfl w.heap.size F F2 _ (xs.take k) l w2.heap.size a2' c2' rfl rfl ?a1 ?a2 ?a3 ?a4 ?a5 ?a6 ?_)
  case a1=>exact contsR.alloc HO2.out _
  case a2=>exact contR.alloc HU.out _
  case a3=>exact fun b h1 h2=>by have:=HFl.out b h1;have:=HF2.out b h2;omega
  case a4=>simp[go_sem]
  case a5=>rw[List.length_take,HN.out];omega
  case a6=>simp;omega
  intro v3 w3 F3 o3 hb3 _;rw[←HL.out] at o3;obtain⟨a3',c3',e3⟩:=fM (contsR.ofO o3);rw[show(xs.take (k+1)).length=k+1 by rw[List.length_take,HN.out];omega] at e3;subst e3;have HO3:Hid (contsR.O w3 w.heap.size F3 (.slice a3' (k+1) c3') (xs.take (k+1))):=o3;have hB5:Below w.heap.size w w3:=Below.trans (bA hB3 _) hb3;clear o3 hb3;go_wp2;exact⟨⟨k+1,a3',c3',F3,by omega,by go_num,rfl,HO3,hB5⟩,mI⟩
 have hkn:k=n3:=oM;subst hkn;have ho:=HO.out;rw[List.take_of_length_le (by rw[HN.out];exact Nat.le_refl _)] at ho;go_wp2;go_ret;exact⟨_,F,rfl,ho,hbl⟩
theorem uP (x:Value) (d:Shd) (w:World) (hx:shdR.V w x d) (hn:d.bals.length≤1048576∧d.votes.length≤1048576∧d.held.length≤1048576∧d.done.length≤1048576∧d.appl.length≤1048576) (hll:∀k,k<d.held.length→(d.held.getD k default).legs.length≤1048576) :
  Calls Tryz.prog 68 #[x] w fun e w'=>∃v F,e =.returned v∧shdR.O w' w.heap.size F v d∧Below w.heap.size w w':=by
 obtain⟨u1,u2,u3,u4,u5,rfl,h1,h2,h3,h4,h5⟩:=hx;have HA1:Hid (bW w fun W=>gU W u1 d.bals.length (kX d.bals)):=fun W hW=>rR (balsR.below h1 hW)
 have HA2:Hid (bW w fun W=>gU W u2 d.votes.length (gK d.votes)):=fun W hW=>qW (mrksR.below h2 hW)
 have HA4:Hid (bW w fun W=>gU W u4 d.done.length (gK d.done)):=fun W hW=>qW (mrksR.below h4 hW)
 have HA5:Hid (bW w fun W=>gU W u5 d.appl.length (kM d.appl)):=fun W hW=>fD2 (intsR.below h5 hW)
 have HC3:Hid (bW w fun W=>Calls Tryz.prog 113 #[u3,.func (.func 114) #[] #[]] W fun e w'=>∃v F,e =.returned v∧contsR.O w' W.heap.size F v d.held∧Below W.heap.size W w'):=fun W hW=>fPz _ d.held W (contsR.below h3 hW) hn.2.2.1 hll
 obtain⟨a1,c1,rfl⟩:=fP h1;obtain⟨a2,c2,rfl⟩:=fF h2;obtain⟨a3,c3,rfl⟩:=fM h3;obtain⟨a4,c4,rfl⟩:=fF h4;obtain⟨a5,c5,rfl⟩:=gJ h5;have HLn:Hid (d.bals.length≤1048576∧d.votes.length≤1048576∧d.held.length≤1048576∧d.done.length≤1048576∧d.appl.length≤1048576):=hn;clear h1 h2 h3 h4 h5 hn hll;go_enter Tryz.func68,Tryz.ntmps68;go_wp2;obtain⟨wq,hwq⟩:∃wq,wq=(w.alloc (.cells #[.int .i64 d.idx,.slice a1 d.bals.length c1,.slice a2 d.votes.length c2,.slice a3 d.held.length c3,.slice a4 d.done.length c4,.slice a5 d.appl.length c5] 41)).alloc (.cells #[.int .i64 0,.slice none 0 0,.slice none 0 0,.slice none 0 0,.slice none 0 0,.slice none 0 0] 41):=⟨_,rfl⟩
 have y0:wq.cell? ⟨w.heap.size,0,none⟩=some (.int .i64 d.idx):=by rw[hwq];simp[go_sem]
 have y1:wq.cell? ⟨w.heap.size,1,none⟩=some (.slice a1 d.bals.length c1):=by rw[hwq];simp[go_sem]
 have y2:wq.cell? ⟨w.heap.size,2,none⟩=some (.slice a2 d.votes.length c2):=by rw[hwq];simp[go_sem]
 have y3:wq.cell? ⟨w.heap.size,3,none⟩=some (.slice a3 d.held.length c3):=by rw[hwq];simp[go_sem]
 have y4:wq.cell? ⟨w.heap.size,4,none⟩=some (.slice a4 d.done.length c4):=by rw[hwq];simp[go_sem]
 have y5:wq.cell? ⟨w.heap.size,5,none⟩=some (.slice a5 d.appl.length c5):=by rw[hwq];simp[go_sem]
 have r0:wq.cell? ⟨w.heap.size+1,0,none⟩=some (.int .i64 0):=by rw[hwq];simp[go_sem]
 have r1:wq.cell? ⟨w.heap.size+1,1,none⟩=some (.slice none 0 0):=by rw[hwq];simp[go_sem]
 have r2:wq.cell? ⟨w.heap.size+1,2,none⟩=some (.slice none 0 0):=by rw[hwq];simp[go_sem]
 have r3:wq.cell? ⟨w.heap.size+1,3,none⟩=some (.slice none 0 0):=by rw[hwq];simp[go_sem]
 have r4:wq.cell? ⟨w.heap.size+1,4,none⟩=some (.slice none 0 0):=by rw[hwq];simp[go_sem]
 have r5:wq.cell? ⟨w.heap.size+1,5,none⟩=some (.slice none 0 0):=by rw[hwq];simp[go_sem]
 have rf:∀o,wq.frozen? ⟨w.heap.size+1,o,none⟩=false:=fun o=>by rw[hwq];simp[go_sem]
 have hBq:Below w.heap.size w wq:=by rw[hwq];exact qBq
 have zq:w.heap.size+1<wq.heap.size:=by rw[hwq];simp
 rw[←hwq];clear hwq;refine wp_region_noPanic ?_;refine fB (fun W=>Below wq.heap.size wq W∧W.cell? ⟨w.heap.size,0,none⟩=some (.int .i64 d.idx)∧W.cell? ⟨w.heap.size,1,none⟩=some (.slice a1 d.bals.length c1)∧W.cell? ⟨w.heap.size,2,none⟩=some (.slice a2 d.votes.length c2)∧W.cell? ⟨w.heap.size,3,none⟩=some (.slice a3 d.held.length c3)∧W.cell? ⟨w.heap.size,4,none⟩=some (.slice a4 d.done.length c4)∧W.cell? ⟨w.heap.size,5,none⟩=some (.slice a5 d.appl.length c5)) 18 kF ⟨qBq,cK qBq y0,cK qBq y1,cK qBq y2,cK qBq y3,cK qBq y4,cK qBq y5⟩ (fun hS=>?_);refine tY 0 ?_;refine tY 1 ?_;refine tY 2 ?_;refine tY 3 ?_;refine tY 5 ?_;refine tY 6 ?_;refine tY 8 ?_;refine tY 9 ?_;refine tY 11 ?_;refine tY 12 ?_;refine tY 14 ?_;refine tY 15 ?_;have hb0:Below wq.heap.size wq wq.drew:=qBq;have zw0:w.heap.size+1<wq.drew.heap.size:=by simp;omega
 replace r0:=cK hb0 r0;replace r1:=cK hb0 r1;replace r2:=cK hb0 r2;replace r3:=cK hb0 r3;replace r4:=cK hb0 r4;replace r5:=cK hb0 r5;replace rf:∀o,wq.drew.frozen? ⟨w.heap.size+1,o,none⟩=false:=fun o=>by rw[(bcell hb0).2 _ _ oM];exact rf o
 have hBd:Below w.heap.size w wq.drew:=bS hBq hb0;clear hb0;generalize wq.drew=W0 at *;refine zO [(4,7),(7,10),(10,13),(13,16),(16,19),(17,20)] (copG d) kF hS (fun W W' h hb=>⟨bS h.1 hb,cK hb h.2.1,cK hb h.2.2.1,cK hb h.2.2.2.1,cK hb h.2.2.2.2.1,cK hb h.2.2.2.2.2.1,cK hb h.2.2.2.2.2.2⟩) ?_ ?_ ?_
 ·
  intro p hp;simp only[List.mem_cons,List.not_mem_nil,or_false] at hp;rcases hp with rfl|rfl|rfl|rfl|rfl|rfl
  all_goals intro y y' lo hi W W' h hi' hb e he
  ·simp only[copG] at h ⊢;rw[e];exact⟨h.1,fV h.2.1 hb,h.2.2⟩
  ·simp only[copG] at h ⊢;rw[e];exact⟨h.1,fV h.2.1 hb,h.2.2⟩
  ·simp only[copG] at h ⊢;rw[e];obtain⟨h1,F,h2,h3⟩:=h;exact⟨h1,F,contsR.keep h2 hb,h3⟩
  ·simp only[copG] at h ⊢;rw[e];exact⟨h.1,fV h.2.1 hb,h.2.2⟩
  ·simp only[copG] at h ⊢;rw[e];exact⟨h.1,fV h.2.1 hb,h.2.2⟩
  have e1:=he (4,7) (by simp) kF;have e2:=he (7,10) (by simp) kF;have e3:=he (10,13) (by simp) kF;have e4:=he (13,16) (by simp) kF;have e5:=he (16,19) (by simp) kF;simp only[copG] at h ⊢;rw[e,e1,e2,e3,e4,e5];exact h
 ·
  intro p hp;simp only[List.mem_cons,List.not_mem_nil,or_false] at hp;rcases hp with rfl|rfl|rfl|rfl|rfl|rfl
  all_goals
   refine⟨_,rfl,rfl,?_⟩;intro y W lo hi hSW hBW hd hap K hK;clear hap
  ·clear hd;refine⟨?_⟩;refine fFu W rfl (.const (.slice none 0 0)) (.tmp 6) rfl W.heap.size (.slice none 0 0) [] rfl (.slice a1 d.bals.length c1) d.bals rfl (World.ownsRow_nil _ _ _ _) (HA1.out W (bS hBq hSW.1)) (by have:=HLn.out;simp;omega) (Nat.le_refl _) ?_;intro v' w' ho _ hB;have hb:=hB W (bR _ _);simp only[List.nil_append] at ho;refine hK _ _ hb ?_;simp only[copG,updV];obtain⟨av,cv,hv⟩:=fD ho;refine⟨⟨av,cv,by simpa using hv⟩,by simpa using ho,fun b hb'=>?_⟩;exact(ho.lt b (by simpa using hb')).2
  ·clear hd;refine⟨?_⟩;refine fFv W rfl (.const (.slice none 0 0)) (.tmp 9) rfl W.heap.size (.slice none 0 0) [] rfl (.slice a2 d.votes.length c2) d.votes rfl (World.ownsRow_nil _ _ _ _) (HA2.out W (bS hBq hSW.1)) (by have:=HLn.out;simp;omega) (Nat.le_refl _) ?_;intro v' w' ho _ hB;have hb:=hB W (bR _ _);simp only[List.nil_append] at ho;refine hK _ _ hb ?_;simp only[copG,updV];obtain⟨av,cv,hv⟩:=fD ho;refine⟨⟨av,cv,by simpa using hv⟩,by simpa using ho,fun b hb'=>?_⟩;exact(ho.lt b (by simpa using hb')).2
  ·clear hd;refine⟨?_⟩;simp only[over,jX,lZ] at hK ⊢;go_simp;refine(HC3.out _ (bS hBq hSW.1)).mono ?_;rintro e w' ⟨v,F,rfl,o3,hb3⟩;refine hK _ _ hb3 ?_;simp only[copG,updV];obtain⟨av,cv,hv⟩:=fM (contsR.ofO o3);exact⟨⟨av,cv,by simpa using hv⟩,F,by simpa using o3,fun b hb'=>(contsR.rng o3 b hb').2⟩
  ·clear hd;refine⟨?_⟩;refine fFv W rfl (.const (.slice none 0 0)) (.tmp 15) rfl W.heap.size (.slice none 0 0) [] rfl (.slice a4 d.done.length c4) d.done rfl (World.ownsRow_nil _ _ _ _) (HA4.out W (bS hBq hSW.1)) (by have:=HLn.out;simp;omega) (Nat.le_refl _) ?_;intro v' w' ho _ hB;have hb:=hB W (bR _ _);simp only[List.nil_append] at ho;refine hK _ _ hb ?_;simp only[copG,updV];obtain⟨av,cv,hv⟩:=fD ho;refine⟨⟨av,cv,by simpa using hv⟩,by simpa using ho,fun b hb'=>?_⟩;exact(ho.lt b (by simpa using hb')).2
  ·clear hd;refine⟨?_⟩;refine fNj W rfl (.const (.slice none 0 0)) (.tmp 18) rfl W.heap.size (.slice none 0 0) [] rfl (.slice a5 d.appl.length c5) d.appl rfl (World.ownsRow_nil _ _ _ _) (HA5.out W (bS hBq hSW.1)) (by have:=HLn.out;simp;omega) (Nat.le_refl _) ?_;intro v' w' ho _ hB;have hb:=hB W (bR _ _);simp only[List.nil_append] at ho;refine hK _ _ hb ?_;simp only[copG,updV];obtain⟨av,cv,hv⟩:=fD ho;refine⟨⟨av,cv,by simpa using hv⟩,by simpa using ho,fun b hb'=>?_⟩;exact(ho.lt b (by simpa using hb')).2
  have g1:=(hd (4,7) (by simp) kF).2;have g2:=(hd (7,10) (by simp) kF).2;have g3:=(hd (10,13) (by simp) kF).2;have g4:=(hd (13,16) (by simp) kF).2;have g5:=(hd (16,19) (by simp) kF).2;clear hd;simp only[copG] at g1 g2 g3 g4 g5;obtain⟨⟨q1,s1,e1⟩,_⟩:=g1;obtain⟨⟨q2,s2,e2⟩,_⟩:=g2;obtain⟨⟨q3,s3,e3⟩,_⟩:=g3;obtain⟨⟨q4,s4,e4⟩,_⟩:=g4;obtain⟨⟨q5,s5,e5⟩,_⟩:=g5;refine⟨?_⟩;simp only[over,jX,lZ] at hK ⊢;simp only[e1,e2,e3,e4,e5] at hK ⊢;go_simp;refine hK _ _ (bR _ _) ?_;simp only[copG,updV];simp[e1,e2,e3,e4,e5]
 refine⟨_,rfl,?_⟩;intro y W lo hi hSW hBW hd hap K hK;have h1:=hd (4,7) (by simp);have h2:=hd (7,10) (by simp);have h3:=hd (10,13) (by simp);have h4:=hd (13,16) (by simp);have h5:=hd (16,19) (by simp);have h6:=hd (17,20) (by simp);clear hd;simp only[copG] at h1 h2 h3 h4 h5 h6;obtain⟨b1,⟨q1,s1,e1⟩,o1,l1⟩:=h1;obtain⟨b2,⟨q2,s2,e2⟩,o2,l2⟩:=h2;obtain⟨b3,⟨q3,s3,e3⟩,F3,o3,l3⟩:=h3;obtain⟨b4,⟨q4,s4,e4⟩,o4,l4⟩:=h4;obtain⟨b5,⟨q5,s5,e5⟩,o5,l5⟩:=h5;obtain⟨_,g6⟩:=h6;have p1_2:=hap (4,7) (by simp) (7,10) (by simp) (by simp);have p1_3:=hap (4,7) (by simp) (10,13) (by simp) (by simp);have p1_4:=hap (4,7) (by simp) (13,16) (by simp) (by simp);have p1_5:=hap (4,7) (by simp) (16,19) (by simp) (by simp);have p2_3:=hap (7,10) (by simp) (10,13) (by simp) (by simp);have p2_4:=hap (7,10) (by simp) (13,16) (by simp) (by simp);have p2_5:=hap (7,10) (by simp) (16,19) (by simp) (by simp);have p3_4:=hap (10,13) (by simp) (13,16) (by simp) (by simp);have p3_5:=hap (10,13) (by simp) (16,19) (by simp) (by simp);have p4_5:=hap (13,16) (by simp) (16,19) (by simp) (by simp);clear hap;simp only[fCz] at p1_2 p1_3 p1_4 p1_5 p2_3 p2_4 p2_5 p3_4 p3_5 p4_5;rw[e1] at o1 l1 g6;have t1:∀b,(Value.slice q1 _ s1).ownBlock=some b→lo 4≤b∧b<hi 4:=fun b h=>⟨(o1.lt b h).1,l1 b h⟩
 have z1:W0.heap.size≤lo 4:=b1.1;rw[e2] at o2 l2 g6;have t2:∀b,(Value.slice q2 _ s2).ownBlock=some b→lo 7≤b∧b<hi 7:=fun b h=>⟨(o2.lt b h).1,l2 b h⟩
 have z2:W0.heap.size≤lo 7:=b2.1;rw[e3] at o3 g6;have t3:∀b,F3 b→lo 10≤b∧b<hi 10:=fun b h=>⟨(contsR.rng o3 b h).1,l3 b h⟩
 have z3:W0.heap.size≤lo 10:=b3.1;rw[e4] at o4 l4 g6;have t4:∀b,(Value.slice q4 _ s4).ownBlock=some b→lo 13≤b∧b<hi 13:=fun b h=>⟨(o4.lt b h).1,l4 b h⟩
 have z4:W0.heap.size≤lo 13:=b4.1;rw[e5] at o5 l5 g6;have t5:∀b,(Value.slice q5 _ s5).ownBlock=some b→lo 16≤b∧b<hi 16:=fun b h=>⟨(o5.lt b h).1,l5 b h⟩
 have z5:W0.heap.size≤lo 16:=b5.1;replace r0:=cK hBW r0;replace r1:=cK hBW r1;replace r2:=cK hBW r2;replace r3:=cK hBW r3;replace r4:=cK hBW r4;replace r5:=cK hBW r5;replace rf:∀o,W.frozen? ⟨w.heap.size+1,o,none⟩=false:=fun o=>by rw[(bcell hBW).2 _ _ zw0];exact rf o
 have hBB:Below w.heap.size w W:=bS hBd hBW;have P1:Hid (balsR.O W (lo 4) (fun b=>(Value.slice q1 d.bals.length s1).ownBlock=some b) (.slice q1 d.bals.length s1) d.bals):=⟨o1,rfl⟩;have P2:Hid (mrksR.O W (lo 7) (fun b=>(Value.slice q2 d.votes.length s2).ownBlock=some b) (.slice q2 d.votes.length s2) d.votes):=⟨o2,rfl⟩;have P3:Hid (contsR.O W (lo 10) F3 (.slice q3 d.held.length s3) d.held):=o3;have P4:Hid (mrksR.O W (lo 13) (fun b=>(Value.slice q4 d.done.length s4).ownBlock=some b) (.slice q4 d.done.length s4) d.done):=⟨o4,rfl⟩;have P5:Hid (intsR.O W (lo 16) (fun b=>(Value.slice q5 d.appl.length s5).ownBlock=some b) (.slice q5 d.appl.length s5) d.appl):=⟨o5,rfl⟩;have HT:Hid ((∀b,(Value.slice q1 d.bals.length s1).ownBlock=some b→lo 4≤b∧b<hi 4)∧(∀b,(Value.slice q2 d.votes.length s2).ownBlock=some b→lo 7≤b∧b<hi 7)∧(∀b,F3 b→lo 10≤b∧b<hi 10)∧(∀b,(Value.slice q4 d.done.length s4).ownBlock=some b→lo 13≤b∧b<hi 13)∧(∀b,(Value.slice q5 d.appl.length s5).ownBlock=some b→lo 16≤b∧b<hi 16)):=⟨t1,t2,t3,t4,t5⟩;clear o1 o2 o3 o4 o5 l1 l2 l3 l4 l5 t1 t2 t3 t4 t5 e1 e2 e3 e4 e5 b1 b2 b3 b4 b5 hSW;refine⟨?_⟩;simp only[over,jX,lZ];simp only[g6];clear g6 hS;go_simp;refine hK _ _ ?_;clear hK K;refine NoPanic.normal ?_;go_wp2;refine bodyPost_ret (v:=.agg #[.int .i64 d.idx,.slice q1 d.bals.length s1,.slice q2 d.votes.length s2,.slice q3 d.held.length s3,.slice q4 d.done.length s4,.slice q5 d.appl.length s5]) (by simp[results,Tryz.results68,go_sem,r0,r1,r2,r3,r4,r5,rf]) rfl ⟨_,_,rfl,⟨_,_,_,_,_,_,_,F3,_,_,rfl,balsR.base (set6 balsR P1.out oM _ _ _ _ _ _) oM,mrksR.base (set6 mrksR P2.out oM _ _ _ _ _ _) oM,contsR.base (set6 contsR P3.out oM _ _ _ _ _ _) oM,mrksR.base (set6 mrksR P4.out oM _ _ _ _ _ _) oM,intsR.base (set6 intsR P5.out oM _ _ _ _ _ _) oM,?_,?_,?_,?_,?_,?_,?_,?_,?_,?_,fun b=>Iff.rfl⟩,qS⟩
 all_goals
  intro b h h';obtain⟨t1,t2,t3,t4,t5⟩:=HT.out;first|(have:=t1 b h;have:=t2 b h';omega)|(have:=t1 b h;have:=t3 b h';omega)|(have:=t1 b h;have:=t4 b h';omega)|(have:=t1 b h;have:=t5 b h';omega)|(have:=t2 b h;have:=t3 b h';omega)|(have:=t2 b h;have:=t4 b h';omega)|(have:=t2 b h;have:=t5 b h';omega)|(have:=t3 b h;have:=t4 b h';omega)|(have:=t3 b h;have:=t5 b h';omega)|(have:=t4 b h;have:=t5 b h';omega)
variable [dQ Ledg] [iH Ledg] [dQ ShdR] [iH ShdR]
def xV (idx:Int) (bs:List Bal):Int:=if inB idx 0 2=true then gY bs else 3
theorem fRg (i:Int) (x:Value) (xs:List Bal) (w:World) (hx:balsR.V w x xs) :
  RI 67 #[.int .i64 i,x] w (.int .i64 (xV i xs)):=by
 have HB:Hid (bW w fun W=>RI 112 #[x] W (.int .i64 (gY xs))):=fun W hW=>yP x xs W (balsR.below hx hW)
 obtain⟨a,c,rfl⟩:=fP hx;clear hx;generalize xs.length=n at *;unfold xV;cases h:inB i 0 2
 ·go_enter Tryz.func67,Tryz.ntmps67;go_wp2_with (first|(go_at_call 111;refine(uT _ _).mono ?_;rintro e w' ⟨rfl,rfl⟩;rw[h]));go_ret;exact⟨rfl,qBq⟩
 go_enter Tryz.func67,Tryz.ntmps67;go_wp2_with (first|(go_at_call 111;refine(uT _ _).mono ?_;rintro e w' ⟨rfl,rfl⟩;rw[h])|(go_at_call 112;refine(HB.out _ qBq).mono ?_;rintro e w' ⟨rfl,hb1⟩));go_ret;exact⟨rfl,qBq⟩
theorem fRz (i:Int) (x:Value) (xs:List Bal) (w:World) (hx:balsR.V w x xs) :
  RI 110 #[.int .i64 i,x] w (.int .i64 (xV i xs)):=by
 have HB:Hid (bW w fun W=>RI 137 #[x] W (.int .i64 (gY xs))):=fun W hW=>yQ x xs W (balsR.below hx hW)
 obtain⟨a,c,rfl⟩:=fP hx;clear hx;generalize xs.length=n at *;unfold xV;cases h:inB i 0 2
 ·go_enter Tryz.func110,Tryz.ntmps110;go_wp2_with (first|(go_at_call 88;refine(kV _ _ _ _).mono ?_;rintro e w' ⟨rfl,rfl⟩;rw[h]));go_ret;exact⟨rfl,qBq⟩
 go_enter Tryz.func110,Tryz.ntmps110;go_wp2_with (first|(go_at_call 88;refine(kV _ _ _ _).mono ?_;rintro e w' ⟨rfl,rfl⟩;rw[h])|(go_at_call 137;refine(HB.out _ qBq).mono ?_;rintro e w' ⟨rfl,hb1⟩));go_ret;exact⟨rfl,qBq⟩
def shd0 (i:Int) (bs:List Bal):Shd:=⟨i,bs,[],[],[],[]⟩
def newD (i:Int) (bs:List Bal):ShdR:=if xV i bs=0 then ⟨0,0,shd0 i bs⟩ else ⟨xV i bs,0,shd0 0 []⟩
theorem fUr (w:World) (base:Nat):balsR.O w base (fun b=>(Value.slice none 0 0).ownBlock=some b) (.slice none 0 0) []:=⟨World.ownsRow_nil _ _ _ _,rfl⟩
theorem fDv (w:World) (base:Nat):mrksR.O w base (fun b=>(Value.slice none 0 0).ownBlock=some b) (.slice none 0 0) []:=⟨World.ownsRow_nil _ _ _ _,rfl⟩
theorem fOm (w:World) (base:Nat):intsR.O w base (fun b=>(Value.slice none 0 0).ownBlock=some b) (.slice none 0 0) []:=⟨World.ownsRow_nil _ _ _ _,rfl⟩
theorem fM5 {b:Nat} (h:(Value.slice none 0 0).ownBlock=some b):False:=by simp[Value.ownBlock] at h
theorem fWb {w:World} {base:Nat} {F:Nat→Prop} {v:Value} {i:Int} {bs:List Bal} (h:balsR.O w base F v bs):∃F',shdR.O w base F' (.agg #[.int .i64 i,v,.slice none 0 0,.slice none 0 0,.slice none 0 0,.slice none 0 0]) (shd0 i bs):=
 ⟨_,_,_,_,_,_,F,_,(fun _=>False),_,_,rfl,h,fDv w base,xH w base,fDv w base,fOm w base,fun b _ h=>fM5 h,fun b _ h=>h,fun b _ h=>fM5 h,fun b _ h=>fM5 h,fun b h _=>fM5 h,fun b h _=>fM5 h,fun b h _=>fM5 h,fun b h _=>h,fun b h _=>h,fun b h _=>fM5 h,fun b=>Iff.rfl⟩
theorem fX1 {w:World} {v:Value} {i:Int} {bs:List Bal} (h:balsR.V w v bs):shdR.V w (.agg #[.int .i64 i,v,.slice none 0 0,.slice none 0 0,.slice none 0 0,.slice none 0 0]) (shd0 i bs):=
 ⟨_,_,_,_,_,rfl,h,mrksR.ofO (fDv w 0),contsR.ofO (xH w 0),mrksR.ofO (fDv w 0),intsR.ofO (fOm w 0)⟩
theorem set8 {α:Type} (R:Rep α) {W:World} {base B:Nat} {F:Nat→Prop} {v:Value} {x:α} (h:R.O W base F v x) (hB:B<base) (u0 u1 u2 u3 u4 u5 u6 u7:Value) :
  R.O ((((((((W.setCell ⟨B,0,none⟩ u0).setCell ⟨B,1,none⟩ u1).setCell ⟨B,2,none⟩ u2).setCell ⟨B,3,none⟩ u3).setCell ⟨B,4,none⟩ u4).setCell ⟨B,5,none⟩ u5).setCell ⟨B,6,none⟩ u6).setCell ⟨B,7,none⟩ u7) base F v x:=
 R.set (R.set (R.set (R.set (R.set (R.set (R.set (R.set h _ hB) _ hB) _ hB) _ hB) _ hB) _ hB) _ hB) _ hB
theorem fTe {i:Int} {bs:List Bal} {w W:World} {c:Int} (h:newD i bs=⟨c,0,shd0 0 []⟩) (hb:Below w.heap.size w W):∃v F,Ending.returned (.agg #[.int .i64 c,.int .i64 0,.int .i64 0,.slice none 0 0,.slice none 0 0,.slice none 0 0,.slice none 0 0,.slice none 0 0]) =.returned v∧shdRR.O W w.heap.size F v (newD i bs)∧Below w.heap.size w W:=by
 rw[h];obtain⟨F',h'⟩:=fWb (i:=0) (fUr W w.heap.size);exact⟨_,F',rfl,⟨_,_,_,_,_,F',rfl,h',fun _=>Iff.rfl⟩,hb⟩
theorem fMf (i:Int) (x:Value) (bs:List Bal) (w:World) (hx:balsR.V w x bs) (hn:bs.length≤1048576) :
  Calls Tryz.prog 34 #[.int .i64 i,x] w fun e w'=>∃v F,e =.returned v∧shdRR.O w' w.heap.size F v (newD i bs)∧Below w.heap.size w w':=by
 have HBa:Hid (bW w fun W=>RI 67 #[.int .i64 i,x] W (.int .i64 (xV i bs))):=fun W hW=>fRg i x bs W (balsR.below hx hW)
 have HX:Hid (bW w fun W=>balsR.V W x bs):=fun W hW=>balsR.below hx hW
 obtain⟨ax,cx,rfl⟩:=fP hx;clear hx;have HE:Hid (¬xV i bs=0→newD i bs=⟨xV i bs,0,shd0 0 []⟩):=fun h=>by unfold newD;rw[if_neg h]
 have HK:Hid (xV i bs=0→newD i bs=⟨0,0,shd0 i bs⟩):=fun h=>by unfold newD;rw[if_pos h]
 generalize xV i bs=bf at *;go_enter Tryz.func34,Tryz.ntmps34;go_wp2_with fail;refine(HBa.out _ qBq).mono ?_;rintro e w1 ⟨rfl,hb1⟩;have hB1:=bT w hb1;have hz1:=hb1.size;simp at hz1;have f1:=(bcell hb1).2;have r0:w1.cell? ⟨w.heap.size,0,none⟩=some (.int .i64 0):=cK hb1 sG;have r1:w1.cell? ⟨w.heap.size,1,none⟩=some (.int .i64 0):=cK hb1 sG;have r2:w1.cell? ⟨w.heap.size,2,none⟩=some (.int .i64 0):=cK hb1 sG;have r3:w1.cell? ⟨w.heap.size,3,none⟩=some (.slice none 0 0):=cK hb1 sG;have r4:w1.cell? ⟨w.heap.size,4,none⟩=some (.slice none 0 0):=cK hb1 sG;have r5:w1.cell? ⟨w.heap.size,5,none⟩=some (.slice none 0 0):=cK hb1 sG;have r6:w1.cell? ⟨w.heap.size,6,none⟩=some (.slice none 0 0):=cK hb1 sG;have r7:w1.cell? ⟨w.heap.size,7,none⟩=some (.slice none 0 0):=cK hb1 sG;have rf:∀o,w1.frozen? ⟨w.heap.size,o,none⟩=false:=fun o=>by rw[f1 _ _ (by simp)];simp[go_sem]
 clear hb1 f1 HBa;by_cases hbf:bf=0;rotate_left
 ·
  have HC:=HE.out hbf;have hbf':(bf !=0)=true:=by simp[hbf]
  clear HE HK HX;go_wp2;exact bodyPost_ret (v:=.agg #[.int .i64 bf,.int .i64 0,.int .i64 0,.slice none 0 0,.slice none 0 0,.slice none 0 0,.slice none 0 0,.slice none 0 0]) (by simp[results,Tryz.results34,go_sem,r0,r1,r2,r3,r4,r5,r6,r7,rf]) rfl (fTe HC qS)
 have HC:Hid _:=HK.out hbf;rw[hbf];clear HE HK hbf;have HCp:Hid (bW w fun W=>Calls Tryz.prog 68 #[.agg #[.int .i64 i,.slice ax bs.length cx,.slice none 0 0,.slice none 0 0,.slice none 0 0,.slice none 0 0]] W fun e w'=>∃v F,e =.returned v∧shdR.O w' W.heap.size F v (shd0 i bs)∧Below W.heap.size W w'):=fun W hW=>uP _ (shd0 i bs) W (fX1 (HX.out W hW)) ⟨hn,by simp[shd0],by simp[shd0],by simp[shd0],by simp[shd0]⟩ (fun k hk=>by simp[shd0] at hk)
 go_wp2_with fail;refine(HCp.out _ hB1).mono ?_;rintro e w2 ⟨v2,F2,rfl,o2,hb2⟩;have hB2:Below w.heap.size w w2:=bS hB1 hb2;replace r0:=cK hb2 r0;replace r1:=cK hb2 r1;replace r2:=cK hb2 r2;replace r3:=cK hb2 r3;replace r4:=cK hb2 r4;replace r5:=cK hb2 r5;replace r6:=cK hb2 r6;replace r7:=cK hb2 r7;replace rf:∀o,w2.frozen? ⟨w.heap.size,o,none⟩=false:=fun o=>by rw[(bcell hb2).2 _ _ oM];exact rf o
 have hform:∃q1 s1 q2 s2 q3 s3 q4 s4 q5 s5,v2 =.agg #[.int .i64 i,.slice q1 bs.length s1,.slice q2 0 s2,.slice q3 0 s3,.slice q4 0 s4,.slice q5 0 s5]:=by
  obtain⟨u1,u2,u3,u4,u5,rfl,h1,h2,h3,h4,h5⟩:=shdR.ofO o2;obtain⟨q1,s1,rfl⟩:=fP h1;obtain⟨q2,s2,rfl⟩:=fF h2;obtain⟨q3,s3,rfl⟩:=fM h3;obtain⟨q4,s4,rfl⟩:=fF h4;obtain⟨q5,s5,rfl⟩:=gJ h5;exact⟨q1,s1,q2,s2,q3,s3,q4,s4,q5,s5,rfl⟩
 obtain⟨q1,s1,q2,s2,q3,s3,q4,s4,q5,s5,rfl⟩:=hform;have HO:Hid (shdR.O w2 w1.heap.size F2 (.agg #[.int .i64 i,.slice q1 bs.length s1,.slice q2 0 s2,.slice q3 0 s3,.slice q4 0 s4,.slice q5 0 s5]) (shd0 i bs)):=o2;clear o2 hb2 HCp;go_wp2;refine bodyPost_ret (v:=.agg #[.int .i64 0,.int .i64 0,.int .i64 i,.slice q1 bs.length s1,.slice q2 0 s2,.slice q3 0 s3,.slice q4 0 s4,.slice q5 0 s5]) (by simp[results,Tryz.results34,go_sem,r0,r1,r2,r3,r4,r5,r6,r7,rf]) rfl ⟨_,F2,rfl,?_,qS⟩;rw[HC.out];exact⟨_,_,_,_,_,F2,rfl,shdR.base (set8 shdR HO.out oM _ _ _ _ _ _ _ _) oM,fun _=>Iff.rfl⟩
theorem fNi (i:Int) (x:Value) (bs:List Bal) (w:World) (hx:balsR.V w x bs) (hn:bs.length≤1048576) :
  Calls Tryz.prog 61 #[.int .i64 i,x] w fun e w'=>∃v F,e =.returned v∧shdRR.O w' w.heap.size F v (newD i bs)∧Below w.heap.size w w':=by
 have HBa:Hid (bW w fun W=>RI 110 #[.int .i64 i,x] W (.int .i64 (xV i bs))):=fun W hW=>fRz i x bs W (balsR.below hx hW)
 have HX:Hid (bW w fun W=>balsR.V W x bs):=fun W hW=>balsR.below hx hW
 obtain⟨ax,cx,rfl⟩:=fP hx;clear hx;have HE:Hid (¬xV i bs=0→newD i bs=⟨xV i bs,0,shd0 0 []⟩):=fun h=>by unfold newD;rw[if_neg h]
 have HK:Hid (xV i bs=0→newD i bs=⟨0,0,shd0 i bs⟩):=fun h=>by unfold newD;rw[if_pos h]
 generalize xV i bs=bf at *;go_enter Tryz.func61,Tryz.ntmps61;go_wp2_with fail;refine(HBa.out _ qBq).mono ?_;rintro e w1 ⟨rfl,hb1⟩;have hB1:=bT w hb1;have hz1:=hb1.size;simp at hz1;have f1:=(bcell hb1).2;have r0:w1.cell? ⟨w.heap.size,0,none⟩=some (.int .i64 0):=cK hb1 sG;have r1:w1.cell? ⟨w.heap.size,1,none⟩=some (.int .i64 0):=cK hb1 sG;have r2:w1.cell? ⟨w.heap.size,2,none⟩=some (.int .i64 0):=cK hb1 sG;have r3:w1.cell? ⟨w.heap.size,3,none⟩=some (.slice none 0 0):=cK hb1 sG;have r4:w1.cell? ⟨w.heap.size,4,none⟩=some (.slice none 0 0):=cK hb1 sG;have r5:w1.cell? ⟨w.heap.size,5,none⟩=some (.slice none 0 0):=cK hb1 sG;have r6:w1.cell? ⟨w.heap.size,6,none⟩=some (.slice none 0 0):=cK hb1 sG;have r7:w1.cell? ⟨w.heap.size,7,none⟩=some (.slice none 0 0):=cK hb1 sG;have rf:∀o,w1.frozen? ⟨w.heap.size,o,none⟩=false:=fun o=>by rw[f1 _ _ (by simp)];simp[go_sem]
 clear hb1 f1 HBa;by_cases hbf:bf=0;rotate_left
 ·
  have HC:=HE.out hbf;have hbf':(bf !=0)=true:=by simp[hbf]
  clear HE HK HX;go_wp2;exact bodyPost_ret (v:=.agg #[.int .i64 bf,.int .i64 0,.int .i64 0,.slice none 0 0,.slice none 0 0,.slice none 0 0,.slice none 0 0,.slice none 0 0]) (by simp[results,Tryz.results61,go_sem,r0,r1,r2,r3,r4,r5,r6,r7,rf]) rfl (fTe HC qS)
 have HC:Hid _:=HK.out hbf;rw[hbf];clear HE HK hbf;have hs0:gU (w1.alloc (.cells #[] 103)) (.slice ax bs.length cx) bs.length (kX bs):=rR (HX.out _ qBq);have ho0:=World.ownsRow_lit (base:=w1.heap.size) (e:=103) (size:=3) w1 #[] 0 (Nat.le_refl _) (by unfold maxLen;omega) rfl;go_wp2_with (at_builtin;refine fJm _ rfl _ _ rfl w1.heap.size _ [] rfl _ bs rfl ho0 hs0 ?c1 ?c2 ?_)
 case c1=>simp;omega
 case c2=>simp
 intro v2 w2 ho _ hbel;have hY:=hbel w1 qBq;try simp only[List.nil_append] at ho
 obtain⟨q1,s1,rfl⟩:=fD ho;have hB2:Below w.heap.size w w2:=bS hB1 hY;replace r0:=cK hY r0;replace r1:=cK hY r1;replace r2:=cK hY r2;replace r3:=cK hY r3;replace r4:=cK hY r4;replace r5:=cK hY r5;replace r6:=cK hY r6;replace r7:=cK hY r7;replace rf:∀o,w2.frozen? ⟨w.heap.size,o,none⟩=false:=fun o=>by rw[(bcell hY).2 _ _ oM];exact rf o
 obtain⟨F2,h2⟩:=fWb (i:=i) (show balsR.O w2 w1.heap.size (fun b=>(Value.slice q1 bs.length s1).ownBlock=some b) (.slice q1 bs.length s1) bs from ⟨ho,rfl⟩);have HO:Hid (shdR.O w2 w1.heap.size F2 (.agg #[.int .i64 i,.slice q1 bs.length s1,.slice none 0 0,.slice none 0 0,.slice none 0 0,.slice none 0 0]) (shd0 i bs)):=h2;clear h2 ho hs0 ho0 hbel hY;go_wp2;refine bodyPost_ret (v:=.agg #[.int .i64 0,.int .i64 0,.int .i64 i,.slice q1 bs.length s1,.slice none 0 0,.slice none 0 0,.slice none 0 0,.slice none 0 0]) (by simp[results,Tryz.results61,go_sem,r0,r1,r2,r3,r4,r5,r6,r7,rf]) rfl ⟨_,F2,rfl,?_,qS⟩;rw[HC.out];exact⟨_,_,_,_,_,F2,rfl,shdR.base (set8 shdR HO.out oM _ _ _ _ _ _ _ _) oM,fun _=>Iff.rfl⟩
theorem fW0 (i:Int) (bs:List Bal):vT (newD i bs)≤pM bs:=by
 unfold newD vT vY;split <;> simp[shd0,pM,fB5,fDe,fA4,wtL,pF]
end
section
variable [dQ Bal] [iH Bal] [dQ Logg] [iH Logg] [dQ Jrn] [iH Jrn] [dQ Mrk] [iH Mrk] [dQ Leg] [iH Leg] [dQ Cont] [iH Cont] [dQ Shd] [iH Shd] [dQ JrnR] [iH JrnR] [dQ Evt] [iH Evt] [dQ EvtsR] [iH EvtsR] [dQ EvtR] [iH EvtR] [dQ BytesR] [iH BytesR] [dQ ContR] [iH ContR] [dQ LoggR] [iH LoggR] [dQ RecsR] [iH RecsR] [dQ Rw] [iH Rw] [dQ Ledg] [iH Ledg] [dQ LedgR] [iH LedgR] [dQ OutcR] [iH OutcR] [dQ ShdR] [iH ShdR]
def doE (s:Shd) (e:Evt):ShdR:=if e.vote=true then rO s e.con else kW s e.con.id e.out
def repE:ShdR→List Evt→ShdR
 | r,[]=>r
 | r,e::es=>if (doE r.shard e).code=0 then repE (doE r.shard e) es else doE r.shard e
def errJ (c:Int):JrnR:=⟨c,⟨0,[],⟨[],[]⟩⟩,⟨0,[],[],[],[],[]⟩⟩
def repT (j:Jrn):ShdR:=
 if (newD j.idx j.start).code=0 then (if (evsD j.log).code=0 then repE (newD j.idx j.start) (evsD j.log).evts else errH (evsD j.log).code) else newD j.idx j.start
def repD (j:Jrn):JrnR:=if (repT j).code=0 then ⟨0,j,(repT j).shard⟩ else errJ (repT j).code
def crsD (j:Jrn) (kept:Int):JrnR:=
 if (repT j).code=0 then (if (gD j.log kept).code=0 then repD ⟨j.idx,j.start,(fA1 (gD j.log kept).log).log⟩ else errJ (gD j.log kept).code) else errJ (repT j).code
theorem fTp {xs:List Evt} {e:Evt}:∀{r:ShdR},r.code=0→(repE r xs).code=0→repE r (xs++[e])=doE (repE r xs).shard e:=by
 induction xs with
 | nil=>
  intro r _ _;show(if (doE r.shard e).code=0 then repE (doE r.shard e) [] else doE r.shard e)=_;split <;> rfl
 | cons x xs ih=>
  intro r h0 h;show(if (doE r.shard x).code=0 then repE (doE r.shard x) (xs++[e]) else doE r.shard x)=_;have h1:(repE r (x::xs))=if (doE r.shard x).code=0 then repE (doE r.shard x) xs else doE r.shard x:=rfl
  rw[h1] at h ⊢;by_cases hc:(doE r.shard x).code=0
  ·rw[if_pos hc] at h ⊢;rw[if_pos hc];exact ih hc h
  rw[if_neg hc] at h;exact absurd h hc
theorem fTq {xs ys:List Evt}:∀{r:ShdR},r.code=0→¬(repE r xs).code=0→repE r (xs++ys)=repE r xs:=by
 induction xs with
 | nil=>intro r h0 h;exact absurd h0 h
 | cons x xs ih=>
  intro r h0 h;have h1:(repE r (x::xs))=if (doE r.shard x).code=0 then repE (doE r.shard x) xs else doE r.shard x:=rfl
  have h2:(repE r (x::xs++ys))=if (doE r.shard x).code=0 then repE (doE r.shard x) (xs++ys) else doE r.shard x:=rfl
  rw[h1] at h ⊢;rw[h2];by_cases hc:(doE r.shard x).code=0
  ·rw[if_pos hc] at h ⊢;rw[if_pos hc];exact ih hc h
  rw[if_neg hc,if_neg hc]
theorem fK7 {es:List Evt} {k:Nat} {r:ShdR} (hk:k<es.length) (h0:r.code=0) (h:(repE r (es.take k)).code=0):repE r (es.take (k+1))=doE (repE r (es.take k)).shard (es.getD k default):=by
 have e1:es.take (k+1)=es.take k++[es.getD k default]:=by rw[List.take_add_one];simp[List.getD,hk]
 rw[e1];exact fTp h0 h
theorem fO1 {es:List Evt} {k:Nat} {r:ShdR} (h0:r.code=0) (h:¬(repE r (es.take k)).code=0):repE r es=repE r (es.take k):=by
 have:=fTq (ys:=es.drop k) h0 h;rwa [List.take_append_drop] at this
theorem fQ5 (i:Int) (bs:List Bal):(newD i bs).code=0∧(newD i bs).vote=0∧xV i bs=0∨¬(newD i bs).code=0:=by
 unfold newD;by_cases h:xV i bs=0
 ·rw[if_pos h];exact .inl ⟨rfl,rfl,h⟩
 rw[if_neg h];exact .inr h
end
section
variable [dQ Rw] [iH Rw] [dQ Bal] [iH Bal] [dQ Ledg] [iH Ledg] [dQ Leg] [iH Leg] [dQ Cont] [iH Cont] [dQ LedgR] [iH LedgR] [dQ OutcR] [iH OutcR] [dQ Mrk] [iH Mrk] [dQ Shd] [iH Shd] [dQ ShdR] [iH ShdR]
theorem qH {w:World} {v:Value} {xs:List Cont} (hx:contsR.V w v xs):∃a c,v =.slice a xs.length c∧xs.length≤c∧c≤maxLen∧∀k,k<xs.length→∃b o p q,a=some ⟨b,o,none⟩∧w.cell? ⟨b,o+k*2,none⟩=some (.int .i64 (xs.getD k default).id)∧w.cell? ⟨b,o+k*2+1,none⟩=some (.slice p (xs.getD k default).legs.length q)∧contR.V w (.agg #[.int .i64 (xs.getD k default).id,.slice p (xs.getD k default).legs.length q]) (xs.getD k default):=by
 obtain⟨a,c,rfl,h1,h2,h3⟩:=hx;refine⟨a,c,rfl,h1,h2,fun k hk=>?_⟩;obtain⟨b,o,u,e,_,p,hv⟩:=h3 k hk;have hV:=hv;obtain⟨s,rfl,hc⟩:=hv;obtain⟨au,cu,rfl⟩:=kP hc;exact⟨b,o,au,cu,e,p 0 oM,p 1 oM,hV⟩
theorem xO {xs:List Mrk} {k:Nat} (h:(inB (xs.getD k default).con 1 1000000000&&inB (xs.getD k default).val 1 2)=false):qE xs k=3:=by unfold qE;rw[h];rfl
theorem fCs {xs:List Mrk} (h:(inB (xs.getD 0 default).con 1 1000000000&&inB (xs.getD 0 default).val 1 2)=true):qE xs 0=0:=by unfold qE;rw[if_pos h,if_neg oM]
theorem fCq {xs:List Mrk} {k:Nat} (h:(inB (xs.getD (k+1) default).con 1 1000000000&&inB (xs.getD (k+1) default).val 1 2)=true) (h2:(xs.getD (k+1) default).con≤(xs.getD k default).con):qE xs (k+1)=1:=by unfold qE;rw[if_pos h,if_pos ⟨oM,by rw[Nat.add_sub_cancel];omega⟩]
theorem fCr {xs:List Mrk} {k:Nat} (h:(inB (xs.getD (k+1) default).con 1 1000000000&&inB (xs.getD (k+1) default).val 1 2)=true) (h2:(xs.getD k default).con<(xs.getD (k+1) default).con):qE xs (k+1)=0:=by unfold qE;rw[if_pos h,if_neg (by rw[Nat.add_sub_cancel];omega)]
theorem fI2 {xs:List Mrk} {k:Nat} {c:Int} (hk:k<xs.length) (hs:fJ (qE xs) k=0) (h:qE xs k=c) (hc:c≠0):mrkF xs=c:=by
 unfold mrkF;rw[mW hs (by rw[h];exact hc) _ hk,h]
theorem rW (x:Value) (xs:List Mrk) (c:Int) (w:World) (hx:mrksR.V w x xs) :
  RI 153 #[x,.int .i64 c] w (.int .i64 (fK c xs)):=by
 obtain⟨ax,cx,rfl,hcx,hmx,hx⟩:=hx;unfold maxLen at hmx;have HS0:Hid (∀k,k<xs.length→fK c (xs.drop k)=if (xs.getD k default).con=c then (xs.getD k default).val else fK c (xs.drop (k+1))):=fun k hk=>fCh hk
 have HE:Hid (fK c (xs.drop xs.length)=0):=by show _=_;rw[List.drop_length];rfl
 generalize hn':xs.length=n at *;clear hn';go_enter Tryz.func153,Tryz.ntmps153;go_wp2;go_loopw [5] (fun i w'=>∃k:Nat,k≤n∧i =.int .i64 k∧Hid (fK c xs=fK c (xs.drop k))∧Below w.heap.size w w') (fun i _=>n-(intOf i).toNat)
 case atStart=>exact⟨0,oM,rfl,rfl,bR _ _⟩
 obtain⟨k,hk,rfl,HS,hbl⟩:=hrel;by_cases hlt:k<n
 ·
  obtain⟨bx,ox,rfl,g1⟩:=hx k hlt;have h1:=HS0.out k hlt;obtain⟨l,hl⟩:∃l,l=xs.getD k default:=⟨_,rfl⟩
  rw[←hl] at g1 h1;have H1:Hid (fK c (xs.drop k)=if l.con=c then l.val else fK c (xs.drop (k+1))):=h1;clear hl hx h1;obtain⟨a1,a2⟩:=gF hbl g1;by_cases he:l.con=c
  ·
   have HC:Hid (fK c xs=l.val):=by show _=_;rw[HS.out,H1.out,if_pos he]
   have he':(l.con==c)=true:=by simp[he]
   clear H1 HS;go_wp2;go_ret;exact⟨rH,qBq⟩
  have HC:Hid (fK c xs=fK c (xs.drop (k+1))):=by show _=_;rw[HS.out,H1.out,if_neg he]
  have he':(l.con==c)=false:=by simp[he]
  clear H1 HS;go_wp2;exact⟨⟨k+1,by omega,by go_num,HC,qBq⟩,mI⟩
 have hkn:k=n:=oM;subst hkn;have HC:Hid (fK c xs=0):=by show _=_;rw[HS.out,HE.out]
 go_wp2;go_ret;exact⟨rH,qBq⟩
theorem fC6 (x:Value) (xs:List Mrk) (w:World) (hx:mrksR.V w x xs) :
  RI 150 #[x] w (.int .i64 (mrkF xs)):=by
 obtain⟨ax,cx,rfl,hcx,hmx,hx⟩:=hx;unfold maxLen at hmx;have HH:Hid (∀k c,k<xs.length→fJ (qE xs) k=0→qE xs k=c→c≠0→mrkF xs=c):=fun k c hk hs h hc=>fI2 hk hs h hc
 have HE:Hid (fJ (qE xs) xs.length=0→mrkF xs=0):=fun h=>h
 generalize hn':xs.length=n at *;clear hn';go_enter Tryz.func150,Tryz.ntmps150;go_wp2;go_loopw [3] (fun i w'=>∃k:Nat,k≤n∧i =.int .i64 k∧Hid (fJ (qE xs) k=0)∧Below w.heap.size w w') (fun i _=>n-(intOf i).toNat)
 case atStart=>exact⟨0,oM,rfl,rfl,bR _ _⟩
 obtain⟨k,hk,rfl,HS,hbl⟩:=hrel;by_cases hlt:k<n
 ·
  obtain⟨bx,ox,rfl,g1⟩:=hx k hlt;obtain⟨l,hl⟩:∃l,l=xs.getD k default:=⟨_,rfl⟩
  rw[←hl] at g1;have HL:Hid (l=xs.getD k default):=hl;clear hl;obtain⟨a1,a2⟩:=gF hbl g1;cases h1:inB l.con 1 1000000000
  ·have HC:Hid (mrkF xs=3):=HH.out k 3 hlt HS.out (xO (by rw[←HL.out,h1];rfl)) oM;clear hx;go_wp2_with (first|(go_at_call 87;refine(pG _ _).mono ?_;rintro e w' ⟨rfl,rfl⟩;rw[h1]));go_ret;exact⟨rH,qBq⟩
  cases h2:inB l.val 1 2
  ·have HC:Hid (mrkF xs=3):=HH.out k 3 hlt HS.out (xO (by rw[←HL.out,h1,h2];rfl)) oM;clear hx;go_wp2_with (first|(go_at_call 87;refine(pG _ _).mono ?_;rintro e w' ⟨rfl,rfl⟩;rw[h1])|(go_at_call 88;refine(kV _ _ _ _).mono ?_;rintro e w' ⟨rfl,rfl⟩;rw[h2]));go_ret;exact⟨rH,qBq⟩
  have hok:Hid ((inB (xs.getD k default).con 1 1000000000&&inB (xs.getD k default).val 1 2)=true):=by show _=_;rw[←HL.out,h1,h2];rfl
  cases k with
  | zero=>
   have HS2:Hid (fJ (qE xs) 1=0):=gP HS.out (fCs hok.out);clear hx;simp only[Nat.zero_mul,Nat.add_zero] at a1 a2;go_wp2_with (first|(go_at_call 87;refine(pG _ _).mono ?_;rintro e w' ⟨rfl,rfl⟩;rw[h1])|(go_at_call 88;refine(kV _ _ _ _).mono ?_;rintro e w' ⟨rfl,rfl⟩;rw[h2]));go_quiet (fail);go_wp2;exact⟨⟨1,by omega,by go_num,HS2,qN hbl _⟩,mI⟩
  | succ m=>
   obtain⟨bx',ox',he,g2⟩:=hx m oM;simp only[Option.some.injEq,Addr.mk.injEq,and_true] at he;obtain⟨rfl,rfl⟩:=he;obtain⟨l',hl'⟩:∃l',l'=xs.getD m default:=⟨_,rfl⟩
   rw[←hl'] at g2;have HL':Hid (l'=xs.getD m default):=hl';clear hl' hx;obtain⟨a3,a4⟩:=gF hbl g2;have hw1:IntKind.i64.wrap (((m+1:Nat):Int)-1)=(m:Int):=by rw[IntKind.wrap_i64];omega
   have hw2:(((m+1:Nat):Int)-1)=(m:Int):=oM;have e1:((m+1:Nat):Int)<n:=oM;have e2:(m:Int)<n:=oM;have e3:(0:Int)≤m:=oM;have e4:(0:Int)<((m+1:Nat):Int):=oM;have e5:(0:Int)≤((m+1:Nat):Int):=oM;have HFa:Hid (l.con≤l'.con→mrkF xs=1):=fun h=>HH.out (m+1) 1 hlt HS.out (fCq hok.out (by rw[←HL.out,←HL'.out];exact h)) oM
   have HRi:Hid (l'.con<l.con→fJ (qE xs) (m+1+1)=0):=fun h=>gP HS.out (fCr hok.out (by rw[←HL.out,←HL'.out];exact h))
   clear hok;obtain⟨ii,hii⟩:∃ii:Nat,ii=m+1:=⟨_,rfl⟩
   have HII:Hid (ii=m+1):=hii;rw[←hii] at a1 a2 hw1 hw2 e1 e4 e5 HRi ⊢;clear hii HS;have e6:decide (0<ii)=true:=decide_eq_true (by have:=HII.out;omega);by_cases hle:l.con≤l'.con
   ·have HC:=HFa.out hle;go_wp2_with (first|(go_at_call 87;refine(pG _ _).mono ?_;rintro e w' ⟨rfl,rfl⟩;rw[h1])|(go_at_call 88;refine(kV _ _ _ _).mono ?_;rintro e w' ⟨rfl,rfl⟩;rw[h2]));go_quiet (fail);go_wp2;go_ret;exact⟨by rw[HC];rfl,qN hbl _⟩
   have HS2:Hid (fJ (qE xs) (ii+1)=0):=HRi.out oM;go_wp2_with (first|(go_at_call 87;refine(pG _ _).mono ?_;rintro e w' ⟨rfl,rfl⟩;rw[h1])|(go_at_call 88;refine(kV _ _ _ _).mono ?_;rintro e w' ⟨rfl,rfl⟩;rw[h2]));go_quiet (fail);go_wp2;exact⟨⟨ii+1,by omega,by go_num,HS2,qN hbl _⟩,mI⟩
 have hkn:k=n:=oM;subst hkn;have HC:=HE.out HS.out;go_wp2;go_ret;exact⟨by rw[HC];rfl,qBq⟩
end
end Go.Proofs.YtpibfdebfacooaaGreat

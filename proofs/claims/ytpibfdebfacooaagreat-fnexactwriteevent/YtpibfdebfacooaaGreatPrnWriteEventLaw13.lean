import Derived.Test.YtpibfdebfacooaaGreatPrnWriteEventLaw12
import Derived.WideKeyEntry
set_option maxHeartbeats 8000000
set_option maxRecDepth 100000
set_option linter.all false
namespace Go.Proofs.YtpibfdebfacooaaGreat
open Go.RowKit
attribute [local go_sem ↓] Go.wp_at_zero Go.wp_at_succ
attribute [local go_sem] cW cI iV
section
variable [dQ Bal] [iH Bal] [dQ Ledg] [iH Ledg]
structure LedgR where
 code:Int
 ledger:Ledg
variable [dQ LedgR] [iH LedgR]
variable [dQ Leg] [iH Leg] [dQ Cont] [iH Cont] [dQ LedgR] [iH LedgR]
def fKk (g:List (List Bal)) (ls:List Leg) (i:Nat):List Bal:=addB (g.getD i default) (onSh i ls)
def rZ (g:List (List Bal)) (ls:List Leg):List (List Bal):=(List.range g.length).map (fKk g ls)
theorem fBg (g:List (List Bal)) (ls:List Leg):(rZ g ls).length=g.length:=by simp[rZ]
theorem fF6 (g:List (List Bal)) (ls:List Leg) {i:Nat} (h:i<g.length):(rZ g ls).getD i default=fKk g ls i:=by simp[rZ,List.getD,h]
theorem fAp {F:Nat→Prop} {w w':World} (h:Mod F w w') {a:Addr} (hl:a.block<w.heap.size) (hn:¬F a.block):w'.frozen? a=w.frozen? a:=World.frozen?_of_block (h.block a.block hl hn)
structure StSt (w W:World) (n:Nat) (ag:Option Addr) (cg:Nat) (id:Int) (ac:Option Addr) (m cc:Nat) (v:Value):Prop where
 g0:W.cell? ⟨w.heap.size,0,none⟩=some (.slice ag n cg)
 y0:W.cell? ⟨w.heap.size+1,0,none⟩=some (.int .i64 id)
 y1:W.cell? ⟨w.heap.size+1,1,none⟩=some (.slice ac m cc)
 r0:W.cell? ⟨w.heap.size+1+1,0,none⟩=some (.slice none 0 0)
 o0:W.cell? ⟨w.heap.size+1+1+1,0,none⟩=some v
 rf:∀o,W.frozen? ⟨w.heap.size+1+1,o,none⟩=false
 of:∀o,W.frozen? ⟨w.heap.size+1+1+1,o,none⟩=false
 sz:w.heap.size+4≤W.heap.size
 blw:aa w W
theorem StSt.mod {w W W':World} {n:Nat} {ag:Option Addr} {cg:Nat} {id:Int} {ac:Option Addr} {m cc:Nat} {v:Value} {F:Nat→Prop} (h:StSt w W n ag cg id ac m cc v) (hm:Mod F W W') (hF:∀b,F b→w.heap.size+4≤b):StSt w W' n ag cg id ac m cc v:=by
 have g:=h.sz;have d:∀b,b<w.heap.size+4→¬F b:=fun b hb e=>by have:=hF b e;omega
 exact⟨hm.cell h.g0 (d _ (by dsimp only;omega)),hm.cell h.y0 (d _ (by dsimp only;omega)),hm.cell h.y1 (d _ (by dsimp only;omega)),hm.cell h.r0 (d _ (by dsimp only;omega)),hm.cell h.o0 (d _ (by dsimp only;omega)),
  fun o=>(fAp hm (a:=⟨w.heap.size+1+1,o,none⟩) (by dsimp only;omega) (d _ (by dsimp only;omega))).trans (h.rf o),fun o=>(fAp hm (a:=⟨w.heap.size+1+1+1,o,none⟩) (by dsimp only;omega) (d _ (by dsimp only;omega))).trans (h.of o),Nat.le_trans g hm.size,hm.below h.blw oM (fun b hb=>by have:=hF b hb;omega)⟩
theorem StSt.below {w W W':World} {n:Nat} {ag:Option Addr} {cg:Nat} {id:Int} {ac:Option Addr} {m cc:Nat} {v:Value} (h:StSt w W n ag cg id ac m cc v) (hb:aa W W'):StSt w W' n ag cg id ac m cc v:=
 h.mod (F:=fun _=>False) (Mod.of_below hb) (fun _ e=>e.elim)
theorem StSt.put {w W:World} {n:Nat} {ag:Option Addr} {cg:Nat} {id:Int} {ac:Option Addr} {m cc:Nat} {v:Value} (h:StSt w W n ag cg id ac m cc v) (v':Value):StSt w (W.setCell ⟨w.heap.size+1+1+1,0,none⟩ v') n ag cg id ac m cc v':=
 ⟨by rw[fU (by simp)];exact h.g0,by rw[fU (by simp)];exact h.y0,by rw[fU (by simp)];exact h.y1,by rw[fU (by simp)];exact h.r0,mY h.o0,fun o=>by rw[World.frozen?_setCell];exact h.rf o,fun o=>by rw[World.frozen?_setCell];exact h.of o,by simpa using h.sz,h.blw.setCell (by dsimp only;omega) _⟩
theorem StSt.all {w W:World} {n:Nat} {ag:Option Addr} {cg:Nat} {id:Int} {ac:Option Addr} {m cc:Nat} {v:Value} {b o k:Nat} {u:Value} (h:StSt w W n ag cg id ac m cc v) (hc:W.cell? ⟨b,o+k,none⟩=some u) :
  StSt w W n ag cg id ac m cc v∧W.cell? ⟨w.heap.size+1+1+1,0,none⟩=some v∧W.cell? ⟨w.heap.size,0,none⟩=some (.slice ag n cg)∧W.cell? ⟨w.heap.size+1,0,none⟩=some (iV id)∧W.cell? ⟨w.heap.size+1,1,none⟩=some (.slice ac m cc)∧W.cell? ⟨b,o+k,none⟩=some u:=
 ⟨h,h.o0,h.g0,h.y0,h.y1,hc⟩
theorem fF5 (a t v:Int) (xs:List Bal):∀k,k≤xs.length→∀x ∈ (uR a t v xs k).1,x ∈ xs∨x=⟨a,t,v⟩
 | 0,_,x,h=>by simp[uR] at h
 | k+1,hk,x,h=>by
  have ih:=fF5 a t v xs k oM;have hm:xs.getD k default ∈ xs:=by
   have e:xs.getD k default=xs[k]:=by simp[List.getD,show k<xs.length by omega]
   rw[e];exact List.getElem_mem _
  rw[fDd a t v xs oM] at h;unfold qK at h;split at h
  ·exact ih x h
  split at h
  ·
   simp only[List.append_assoc,List.mem_append,List.mem_singleton] at h;rcases h with h|h|h
   ·exact ih x h
   ·exact .inr h
   rw[h];exact .inl hm
  simp only[List.mem_append,List.mem_singleton] at h;rcases h with h|h
  ·exact ih x h
  rw[h];exact .inl hm
theorem fQw {a t v:Int} {xs:List Bal} {x:Bal} (h:x ∈ setB a t v xs):x ∈ xs∨x=⟨a,t,v⟩:=by
 unfold setB at h;split at h
 ·exact fF5 a t v xs _ (Nat.le_refl _) x h
 simp only[List.mem_append,List.mem_singleton] at h;rcases h with h|h
 ·exact fF5 a t v xs _ (Nat.le_refl _) x h
 exact .inr h
theorem fV0 (a t v:Int) (xs:List Bal):(setB a t v xs).length≤2*xs.length+1:=by
 have:=fKj a t v xs xs.length (Nat.le_refl _);unfold setB;split
 ·omega
 rw[List.length_append];simp only[List.length_cons,List.length_nil];omega
theorem fCy {M:Int} (hM:0≤M) {a t:Int}:∀{xs:List Bal},(∀x ∈ xs,-M≤x.am∧x.am≤M) → -M≤hasB a t xs∧hasB a t xs≤M
 | [],_=>by simp only[hasB];omega
 | x::xs,h=>by
  have ih:=fCy hM (a:=a) (t:=t) (xs:=xs) (fun y hy=>h y (List.mem_cons_of_mem _ hy));simp only[hasB];split
  ·exact h x (List.mem_cons_self ..)
  exact ih
structure AddSt (k:Nat) (xs:List Bal):Prop where
 len:xs.length+1≤19*2 ^ k
 key:∀x ∈ xs,rR x.ac x.ast=true
 am:∀x ∈ xs,-((k+1:Nat)*1000000000000:Int)≤x.am∧x.am≤((k+1:Nat)*1000000000000:Int)
theorem fPn {xs:List Bal} {ls:List Leg} (hx:BalsOk xs) (hl:∀k,k<ls.length→gI (ls.getD k default)=0):∀k,k≤ls.length→AddSt k (vL xs ls k)
 | 0,_=>by
  have e:vL xs ls 0=xs:=by simp[vL]
  have hm:∀x ∈ xs,vM x=true:=fun x h=>by
   obtain⟨i,hi,rfl⟩:=List.mem_iff_getElem.1 h;have:=hx.ok i hi;simpa [List.getD,hi] using this
  rw[e];refine⟨by have:=hx.len;omega,fun x h=>zN (hm x h),fun x h=>?_⟩;have:=(balOk_iff.1 (hm x h)).2;omega
 | k+1,hk=>by
  have ih:=fPn hx hl k oM;have hz:=kC (hl k oM);rw[fHl xs ls oM];generalize vL xs ls k=ys at *;generalize ls.getD k default=l at *;unfold tO;have hb:=fCy (M:=((k+1:Nat)*1000000000000:Int)) oM (a:=l.ac) (t:=l.ast) ih.am;refine⟨?_,fun x h=>?_,fun x h=>?_⟩
  ·have h1:=fV0 l.ac l.ast (hasB l.ac l.ast ys+l.am) ys;have h2:=ih.len;rw[Nat.pow_succ];omega
  ·
   rcases fQw h with h|rfl
   ·exact ih.key x h
   exact keyOk_iff.2 ⟨hz.2.1,hz.2.2.1⟩
  rcases fQw h with h|rfl
  ·have:=ih.am x h;omega
  dsimp only;have:=hz.2.2.2.1;omega
theorem fWy {xs:List Bal} {ls:List Leg} (hx:BalsOk xs) (hl:∀x ∈ ls,gI x=0) (h8:ls.length≤8):AddOk xs ls:=by
 have g:∀k,k<ls.length→gI (ls.getD k default)=0:=fun k d=>by
  have e:ls.getD k default=ls[k]:=by simp[List.getD,d]
  rw[e];exact hl _ (List.getElem_mem d)
 have l:=fPn hx g;refine⟨fun k d=>?_,fun k d j n=>?_,fun k d=>?_,fun k d=>?_⟩
 ·have h1:=(l k d).len;have h2:2 ^ k≤2 ^ 8:=Nat.pow_le_pow_right oM oM;omega
 ·
  have e:(vL xs ls k).getD j default=(vL xs ls k)[j]:=by simp[List.getD,n]
  rw[e];exact(l k d).key _ (List.getElem_mem n)
 ·have m:=kC (g k d);exact keyOk_iff.2 ⟨m.2.1,m.2.2.1⟩
 have m:=kC (g k d);have hb:=fCy (M:=((k+1:Nat)*1000000000000:Int)) oM (a:=(ls.getD k default).ac) (t:=(ls.getD k default).ast) (l k oM).am;omega
end
section
variable [dQ Bal] [iH Bal] [dQ Ledg] [iH Ledg] [dQ Leg] [iH Leg] [dQ Cont] [iH Cont] [dQ LedgR] [iH LedgR]
def plB (x:Bal):Int:=x.ac*3+x.ast
structure RiseB (xs:List Bal):Prop where
 rise:xs.Pairwise (fun p q=>plB p<plB q)
 key:∀x ∈ xs,rR x.ac x.ast=true
theorem fVo {x y:Bal} (hx:rR x.ac x.ast=true) (hy:rR y.ac y.ast=true) (h:plB x=plB y):x.ac=y.ac∧x.ast=y.ast:=by
 have h1:=keyOk_iff.1 hx;have h2:=keyOk_iff.1 hy;unfold plB at h;omega
theorem RiseB.tail {x:Bal} {xs:List Bal} (h:RiseB (x::xs)):RiseB xs:=⟨(List.pairwise_cons.1 h.rise).2,fun y hy=>h.key y (List.mem_cons_of_mem _ hy)⟩
theorem fAj {a t:Int}:∀{xs:List Bal} {v:Int},getB a t xs=some v→∃x ∈ xs,x.ac=a∧x.ast=t∧x.am=v
 | [],_,h=>by simp[getB] at h
 | x::xs,v,h=>by
  simp only[getB] at h;split at h
  ·rename_i hc;exact⟨x,List.mem_cons_self ..,hc.1,hc.2,by simpa using h⟩
  obtain⟨y,hy,e⟩:=fAj h;exact⟨y,List.mem_cons_of_mem _ hy,e⟩
theorem fP4 {a t:Int} {xs:List Bal} (h:∀x ∈ xs,¬(x.ac=a∧x.ast=t)):getB a t xs=none:=by
 cases d:getB a t xs with
 | none=>rfl
 | some v=>
  obtain⟨x,e,g,j,_⟩:=fAj d;exact absurd ⟨g,j⟩ (h x e)
theorem pQ (x:Bal) (xs:List Bal):getB x.ac x.ast (x::xs)=some x.am:=by
 simp only[getB];rw[if_pos ⟨trivial,trivial⟩]
theorem qB {x:Bal} {xs:List Bal} {a t:Int} (h:¬(x.ac=a∧x.ast=t)):getB a t (x::xs)=getB a t xs:=by
 simp only[getB];rw[if_neg h]
theorem fA0 {x:Bal} {xs:List Bal} (h:RiseB (x::xs)):getB x.ac x.ast xs=none:=fP4 (fun y hy e=>by
 have:=(List.pairwise_cons.1 h.rise).1 y hy;unfold plB at this;omega)
theorem fQs:∀{xs ys:List Bal},RiseB xs→RiseB ys→(∀a t,getB a t xs=getB a t ys)→xs=ys
 | [],[],_,_,_=>rfl
 | [],y::ys,_,_,h=>by
  have:=h y.ac y.ast;rw[pQ] at this;simp[getB] at this
 | x::xs,[],_,_,h=>by
  have:=h x.ac x.ast;rw[pQ] at this;simp[getB] at this
 | x::xs,y::ys,hx,hy,h=>by
  have hxk:=hx.key x (List.mem_cons_self ..);have hyk:=hy.key y (List.mem_cons_self ..);have hpl:plB x=plB y:=by
   rcases Int.lt_trichotomy (plB x) (plB y) with hl|hl|hl
   ·
    have h1:=h x.ac x.ast;rw[pQ] at h1;obtain⟨z,hz,e1,e2,_⟩:=fAj h1.symm;have hzp:plB z=plB x:=by unfold plB;rw[e1,e2]
    rcases List.mem_cons.1 hz with rfl|hz
    ·omega
    have:=(List.pairwise_cons.1 hy.rise).1 z hz;omega
   ·exact hl
   have h1:=h y.ac y.ast;rw[pQ] at h1;obtain⟨z,hz,e1,e2,_⟩:=fAj h1;have hzp:plB z=plB y:=by unfold plB;rw[e1,e2]
   rcases List.mem_cons.1 hz with rfl|hz
   ·omega
   have:=(List.pairwise_cons.1 hx.rise).1 z hz;omega
  obtain⟨e1,e2⟩:=fVo hxk hyk hpl;have hxy:x=y:=by
   have h1:=h x.ac x.ast;rw[pQ,e1,e2,pQ] at h1;obtain⟨a,t,v⟩:=x;obtain⟨a',t',v'⟩:=y;simp only at e1 e2;simp only[Option.some.injEq] at h1;rw[e1,e2,h1]
  subst hxy;congr 1;refine fQs hx.tail hy.tail (fun a t=>?_);by_cases hc:x.ac=a∧x.ast=t
  ·rw[←hc.1,←hc.2,fA0 hx,fA0 hy]
  have:=h a t;rw[qB hc,qB hc] at this;exact this
def setR (a t v:Int):List Bal→Bool→List Bal
 | [],d=>if d then [] else [⟨a,t,v⟩]
 | b::r,d=>if b.ac=a∧b.ast=t then setR a t v r d else if d=false∧a*3+t<b.ac*3+b.ast then ⟨a,t,v⟩::b::setR a t v r true else b::setR a t v r d
theorem fEk (a t v:Int):∀(xs acc:List Bal) (d:Bool),(if (xs.foldl (qK a t v) (acc,d)).2 then (xs.foldl (qK a t v) (acc,d)).1 else (xs.foldl (qK a t v) (acc,d)).1++[⟨a,t,v⟩])=acc++setR a t v xs d
 | [],acc,d=>by
  cases d <;> simp[setR]
 | b::r,acc,d=>by
  rw[List.foldl_cons];unfold setR;by_cases h1:b.ac=a∧b.ast=t
  ·
   have e:qK a t v (acc,d) b=(acc,d):=by unfold qK;rw[if_pos h1]
   rw[e,fEk a t v r acc d,if_pos h1]
  by_cases h2:d=false∧a*3+t<b.ac*3+b.ast
  ·
   have e:qK a t v (acc,d) b=(acc++[⟨a,t,v⟩]++[b],true):=by unfold qK;rw[if_neg h1,if_pos h2]
   rw[e,fEk a t v r _ true,if_neg h1,if_pos h2];simp
  have e:qK a t v (acc,d) b=(acc++[b],d):=by unfold qK;rw[if_neg h1,if_neg h2]
  rw[e,fEk a t v r _ d,if_neg h1,if_neg h2];simp
theorem gAs (a t v:Int) (xs:List Bal):setB a t v xs=setR a t v xs (decide (v=0)):=by
 have h:=fEk a t v xs [] (decide (v=0));rw[List.nil_append] at h;unfold setB uR;rw[List.take_length];exact h
theorem fEj {a t v:Int}:∀{xs:List Bal} {d:Bool} {x:Bal},x ∈ setR a t v xs d→x ∈ xs∨x=⟨a,t,v⟩
 | [],d,x,h=>by
  unfold setR at h;split at h
  ·cases h
  exact .inr (List.mem_singleton.1 h)
 | b::r,d,x,h=>by
  unfold setR at h;split at h
  ·
   rcases fEj h with h|h
   ·exact .inl (List.mem_cons_of_mem _ h)
   exact .inr h
  split at h
  ·
   rcases List.mem_cons.1 h with h|h
   ·exact .inr h
   rcases List.mem_cons.1 h with h|h
   ·exact .inl (by rw[h];exact List.mem_cons_self ..)
   rcases fEj h with h|h
   ·exact .inl (List.mem_cons_of_mem _ h)
   exact .inr h
  rcases List.mem_cons.1 h with h|h
  ·exact .inl (by rw[h];exact List.mem_cons_self ..)
  rcases fEj h with h|h
  ·exact .inl (List.mem_cons_of_mem _ h)
  exact .inr h
theorem fCd {a t v:Int}:∀(xs:List Bal),setR a t v xs true=xs.filter (fun b=>!decide (b.ac=a∧b.ast=t))
 | []=>rfl
 | b::r=>by
  unfold setR;by_cases h1:b.ac=a∧b.ast=t
  ·rw[if_pos h1,fCd r,List.filter_cons_of_neg (by simp[h1])]
  rw[if_neg h1,if_neg (by simp),fCd r,List.filter_cons_of_pos (by rw[decide_eq_false h1];rfl)]
theorem fA8 {a t a' t':Int}:∀(xs:List Bal),getB a' t' (xs.filter (fun b=>!decide (b.ac=a∧b.ast=t)))=if a'=a∧t'=t then none else getB a' t' xs
 | []=>by simp[getB]
 | b::r=>by
  by_cases h1:b.ac=a∧b.ast=t
  ·
   rw[List.filter_cons_of_neg (by simp[h1]),fA8 r];split
   ·rfl
   rename_i h2;rw[qB (fun h3=>h2 ⟨h3.1.symm.trans h1.1,h3.2.symm.trans h1.2⟩)]
  rw[List.filter_cons_of_pos (by rw[decide_eq_false h1];rfl)];by_cases h3:b.ac=a'∧b.ast=t'
  ·rw[←h3.1,←h3.2,pQ,pQ,if_neg h1]
  rw[qB h3,qB h3,fA8 r]
theorem fO3 {xs:List Bal} (h:RiseB xs) (p:Bal→Bool):RiseB (xs.filter p):=⟨List.Pairwise.sublist List.filter_sublist h.rise,fun x d=>h.key x (List.mem_filter.1 d).1⟩
theorem fIw {a t v:Int} (hk:rR a t=true):∀{xs:List Bal},RiseB xs→RiseB (setR a t v xs false)∧∀a' t',getB a' t' (setR a t v xs false)=if a'=a∧t'=t then some v else getB a' t' xs
 | [],_=>by
  unfold setR;rw[if_neg (by simp)];refine⟨⟨by simp,fun x hx=>by rw[List.mem_singleton.1 hx];exact hk⟩,fun a' t'=>?_⟩;by_cases e:a'=a∧t'=t
  ·rw[if_pos e,e.1,e.2];exact pQ ⟨a,t,v⟩ []
  rw[if_neg e,qB (fun h=>e ⟨h.1.symm,h.2.symm⟩)]
 | b::r,h=>by
  have hb:=h.key b (List.mem_cons_self ..);have ih:=fIw (v:=v) hk (xs:=r) h.tail;have hp:=(List.pairwise_cons.1 h.rise).1;unfold setR;by_cases h1:b.ac=a∧b.ast=t
  ·
   rw[if_pos h1];refine⟨ih.1,fun a' t'=>?_⟩;rw[ih.2];split
   ·rfl
   rename_i h2;rw[qB (fun h3=>h2 ⟨h3.1.symm.trans h1.1,h3.2.symm.trans h1.2⟩)]
  rw[if_neg h1];by_cases h2:a*3+t<b.ac*3+b.ast
  ·
   rw[if_pos ⟨rfl,h2⟩,fCd r];have hnone:∀y ∈ r,¬(y.ac=a∧y.ast=t):=fun y hy e=>by
    have:=hp y hy;unfold plB at this;rw[e.1,e.2] at this;omega
   have hf:r.filter (fun b=>!decide (b.ac=a∧b.ast=t))=r:=List.filter_eq_self.2 (fun y hy=>by rw[decide_eq_false (hnone y hy)];rfl);rw[hf];refine⟨⟨?_,fun x hx=>?_⟩,fun a' t'=>?_⟩
   ·
    rw[List.pairwise_cons];refine⟨fun y hy=>?_,h.rise⟩;show a*3+t<plB y;rcases List.mem_cons.1 hy with rfl|hy
    ·exact h2
    have:=hp y hy;unfold plB at this ⊢;omega
   ·
    rcases List.mem_cons.1 hx with rfl|hx
    ·exact hk
    exact h.key x hx
   by_cases e:a'=a∧t'=t
   ·rw[if_pos e,e.1,e.2];exact pQ ⟨a,t,v⟩ _
   rw[if_neg e,qB (fun h=>e ⟨h.1.symm,h.2.symm⟩)]
  rw[if_neg (fun h3=>h2 h3.2)];have hlt:plB b<a*3+t:=by
   have hne:plB b≠a*3+t:=fun e=>h1 (fVo (y:=⟨a,t,v⟩) hb hk e)
   unfold plB at hne ⊢;omega
  refine⟨⟨?_,fun x hx=>?_⟩,fun a' t'=>?_⟩
  ·
   rw[List.pairwise_cons];refine⟨fun y hy=>?_,ih.1.rise⟩;rcases fEj hy with hy|rfl
   ·exact hp y hy
   exact hlt
  ·
   rcases List.mem_cons.1 hx with rfl|hx
   ·exact hb
   exact ih.1.key x hx
  by_cases e3:b.ac=a'∧b.ast=t'
  ·rw[←e3.1,←e3.2,pQ,pQ,if_neg h1]
  rw[qB e3,qB e3,ih.2]
theorem fVz {a t v:Int} (hk:rR a t=true) {xs:List Bal} (h:RiseB xs):RiseB (setB a t v xs)∧∀a' t',getB a' t' (setB a t v xs)=if a'=a∧t'=t then (if v=0 then none else some v) else getB a' t' xs:=by
 rw[gAs];by_cases d:v=0
 ·rw[decide_eq_true d,fCd,if_pos d];exact⟨fO3 h _,fun a' t'=>fA8 xs⟩
 rw[decide_eq_false d,if_neg d];exact fIw hk h
end
section
open Go.Maps Go.WideElems Go.ChangeMaps
variable [dQ Bal] [iH Bal] [dQ Ledg] [iH Ledg] [dQ Leg] [iH Leg] [dQ Cont] [iH Cont]
open Go.WideMaps (KeyLaw)
theorem gAh:KeyLaw Tryz.prog 254:=deep_law_laid laidOut (m:=2) oM (of_decide_eq_true kF) kF fJy
theorem fA1 (w:World) (b:Nat) (x y:Obj):setBlock (setBlock w b x) b y=setBlock w b y:=by
 unfold setBlock;simp
theorem fDu (w:World) (b:Nat) (x:Obj):Mod (fun i=>i=b) w (setBlock w b x):=by
 refine⟨rfl,rfl,rfl,?_,fun i g d=>?_⟩
 ·simp[setBlock]
 simp only[setBlock];rw[Array.getElem?_setIfInBounds,if_neg (fun e=>d e.symm)]
theorem Book.entry {w:World} {b n:Nat} {f:Int→Int→Int→Option Int} (h:Book w b n f) {s a t:Int} (hw:kwf s a t) (hn:n<maxLen) :
  ∃v0 st w1,(Instr.mapEntry 225 (.map (some b)) (kv s a t)).run Tryz.prog w =.ok (.tuple #[v0,goInt st]) w1∧Mod (fun i=>i=b) w w1 ∧
   ∀v,(Lit.int .i64 v).wf=true→∃w',(Instr.entryStore 225 (.map (some b)) (goInt st) (iV v)).run Tryz.prog w1 =.ok () w'∧Book w' b (n+1) (upd3 f s a t (some v))∧Mod (fun i=>i=b) w w':=by
 have z:=h;have j:=h.lt;obtain⟨D,⟨F,k,hb,A,G,H⟩,h1⟩:=h;obtain⟨I,B⟩:=fAn hw;obtain⟨v0,st,l,d,C,_,m⟩:=entry_then_store gAh Tryz.underlying225 (fun u=>fWo u) hb A B;refine⟨v0,st,_,C,fDu _ _ _,fun v E=>?_⟩;obtain⟨p,g,q,r⟩:=m (setBlock w b (.map l d)) (iV v) (by simp[setBlock,j]);obtain⟨w',y,x,_⟩:=z.put hw E hn;rw[r] at y;have e:setBlock w b (.map p g)=w':=by
  injection y
 refine⟨_,q,?_,?_⟩
 ·rw[fA1,e];exact x
 rw[fA1];exact fDu _ _ _
theorem fXf {H:Type} {P:Program} {w:World} {t k e:TypeId} {R:Value→Option (DataW H × List MemPlace)} {b:Nat} {es:Array MapEntry} {clock:Nat} (K:KeyLaw P k) (ht:P.underlying t=some (.map k e)) {z:Value} (hz:∀u:World,(zeroValue e).run P u =.ok z u) (hb:w.heap[b]? = some (.map es clock)) (F:Go.WideElems.Fit P k R es clock)
  {key:Value} {kl:Lit} (hkey:keyOf P k key=some kl) :
  ∃(v0:Value) (st:Nat) (X:World),(Instr.mapEntry t (.map (some b)) key).run P w =.ok (.tuple #[v0,goInt st]) X∧(Instr.mapUpdate t (.map (some b)) key v0).run P w =.ok () X∧(Instr.lookup t (.map (some b)) key false).run P w =.ok v0 w:=by
 rcases K.find w hkey es.toList F.keys with ⟨h1,h2⟩|⟨j,d,h1,h2,g⟩
 ·
  refine⟨z,clock,setBlock w b (.map (es.push ⟨key,z,clock⟩) (clock+1)),?_,?_,?_⟩
  ·simp[Instr.mapEntry,run_underlying ht,MapKept.run_getObj_map hb,K.check w false hkey,h1,hz,MapKept.run_setObj_map _ hb,Result.andThen,setBlock]
  ·simp[Instr.mapUpdate,run_underlying ht,MapKept.run_getObj_map hb,K.check w false hkey,h1,MapKept.run_setObj_map _ hb,Result.andThen,setBlock]
  simp[Instr.lookup,run_underlying ht,MapKept.run_getObj_map hb,K.check w _ hkey,h1,hz,Result.andThen]
 have l:es[j]? = some d:=by simpa using h2
 have m:es.modify j (fun e=>{e with key:=key})=es:=by
  apply Array.ext';rw[Array.toList_modify,modify_eq_set _ _ _ _ h2];have q:({d with key:=key}:MapEntry)=d:=by rw[←g]
  rw[q];exact set_self _ _ _ h2
 have n:es.modify j (fun p=>{p with key:=key,val:=d.val})=es:=by
  apply Array.ext';rw[Array.toList_modify,modify_eq_set _ _ _ _ h2];have q:({d with key:=key,val:=d.val}:MapEntry)=d:=by rw[←g]
  rw[q];exact set_self _ _ _ h2
 refine⟨d.val,d.born,setBlock w b (.map es clock),?_,?_,?_⟩
 ·simp[Instr.mapEntry,run_underlying ht,MapKept.run_getObj_map hb,K.check w false hkey,h1,l,g,K.stays w hkey,m,MapKept.run_setObj_map _ hb,Result.andThen,setBlock]
 ·simp[Instr.mapUpdate,run_underlying ht,MapKept.run_getObj_map hb,K.check w false hkey,h1,l,g,K.stays w hkey,n,MapKept.run_setObj_map _ hb,Result.andThen,setBlock]
 simp[Instr.lookup,run_underlying ht,MapKept.run_getObj_map hb,K.check w _ hkey,h1,l,Result.andThen]
theorem Book.entry2 {w:World} {b n:Nat} {f:Int→Int→Int→Option Int} (h:Book w b n f) {s a t:Int} (hw:kwf s a t) (hn:n<maxLen) :
  ∃v0 st w1,(Instr.mapEntry 225 (.map (some b)) (kv s a t)).run Tryz.prog w =.ok (.tuple #[v0,goInt st]) w1∧Mod (fun i=>i=b) w w1∧Book w1 b (n+1) (upd3 f s a t (some ((f s a t).getD 0))) ∧
   ∀v,(Lit.int .i64 v).wf=true→∃w',(Instr.entryStore 225 (.map (some b)) (goInt st) (iV v)).run Tryz.prog w1 =.ok () w'∧Book w' b (n+1) (upd3 f s a t (some v))∧Mod (fun i=>i=b) w w':=by
 obtain⟨v0,st,w1,h1,h2,p⟩:=h.entry hw hn;refine⟨v0,st,w1,h1,h2,?_,p⟩;obtain⟨q,d⟩:=h.look hw;have r:=h;obtain⟨D,⟨A,e,hb,x,B,C⟩,_⟩:=h;obtain⟨E,y⟩:=fAn hw;obtain⟨u0,z,X,j,k,l⟩:=fXf gAh Tryz.underlying225 (fun u=>fWo u) hb x y;rw[h1] at j;rw[q] at l;injection j with _ eX
 injection l with eV _
 obtain⟨w',m,g,_⟩:=r.put hw d hn;rw[←eV] at k;rw[k] at m;injection m with _ eW
 rw[eX,eW];exact g
def addL (f:Int→Int→Int→Option Int) (l:Leg):Int→Int→Int→Option Int:=upd3 f l.sh l.ac l.ast (if (f l.sh l.ac l.ast).getD 0+l.am=0 then none else some ((f l.sh l.ac l.ast).getD 0+l.am))
def pU (f:Int→Int→Int→Option Int) (ls:List Leg):Int→Int→Int→Option Int:=ls.foldl addL f
theorem fRb (f:Int→Int→Int→Option Int) (ls:List Leg) {k:Nat} (h:k<ls.length):pU f (ls.take (k+1))=addL (pU f (ls.take k)) (ls.getD k default):=by
 unfold pU;rw[tF ls k h,List.foldl_append];rfl
end
section
variable [dQ Bal] [iH Bal] [dQ Ledg] [iH Ledg] [dQ Leg] [iH Leg] [dQ Cont] [iH Cont] [dQ LedgR] [iH LedgR]
theorem fZu {xs:List Bal} (h:BalsOk xs):RiseB xs:=by
 refine⟨?_,fun x k=>?_⟩
 ·rw[List.pairwise_iff_getElem];intro i j d g e;have:=rising h e g;unfold plB;simpa [List.getD,d,g] using this
 obtain⟨i,d,rfl⟩:=List.mem_iff_getElem.1 k;have:=zN (h.ok i d);simpa [List.getD,d] using this
theorem fTn (xs:List Bal) (ls:List Leg) (l:Leg):addB xs (ls++[l])=tO (addB xs ls) l:=by unfold addB;rw[List.foldl_append];rfl
theorem fCm (f:Int→Int→Int→Option Int) (ls:List Leg) (l:Leg):pU f (ls++[l])=addL (pU f ls) l:=by unfold pU;rw[List.foldl_append];rfl
theorem fVk (s:Int) (ls:List Leg) (l:Leg):onSh s (ls++[l])=if l.sh=s then onSh s ls++[l] else onSh s ls:=by
 unfold onSh;rw[List.filter_append];by_cases h:l.sh=s
 ·rw[if_pos h];simp[h]
 rw[if_neg h];simp[h]
theorem fKo {α:Type} {P:List α→Prop} (h0:P []) (h1:∀l x,P l→P (l++[x])) (l:List α):P l:=by
 rw[←List.reverse_reverse l];induction l.reverse with
 | nil=>exact h0
 | cons x l ih=>
  rw[List.reverse_cons];exact h1 _ _ ih
theorem fF7 {gs:List (List Bal)} {i:Nat} (hi:i<gs.length) (hx:RiseB (gs.getD i default)) (ls:List Leg):(∀l ∈ ls,rR l.ac l.ast=true) →
  RiseB (addB (gs.getD i default) (onSh i ls))∧∀a t,getB a t (addB (gs.getD i default) (onSh i ls))=pU (mE gs) ls i a t:=by
 refine fKo (P:=fun ls=>(∀l ∈ ls,rR l.ac l.ast=true)→RiseB (addB (gs.getD i default) (onSh i ls))∧∀a t,getB a t (addB (gs.getD i default) (onSh i ls))=pU (mE gs) ls i a t) ?_ ?_ ls
 ·intro _;refine⟨hx,fun a t=>?_⟩;show getB a t (gs.getD i default)=mE gs i a t;unfold mE;rw[if_pos ⟨oM,by omega⟩];simp
 intro ls l k j;obtain⟨h1,h2⟩:=k (fun x hx=>j x (List.mem_append_left _ hx));have g:=j l (List.mem_append_right _ (List.mem_singleton.2 rfl));rw[fVk,fCm];by_cases d:l.sh=(i:Int)
 ·
  rw[if_pos d,fTn];unfold tO;obtain⟨m,n⟩:=fVz (v:=hasB l.ac l.ast (addB (gs.getD i default) (onSh i ls))+l.am) g h1;refine⟨m,fun a t=>?_⟩;rw[n,fBu,h2];unfold addL upd3;by_cases e:a=l.ac∧t=l.ast
  ·rw[if_pos e,if_pos (show(i:Int)=l.sh∧a=l.ac∧t=l.ast from ⟨d.symm,e.1,e.2⟩),d]
  rw[if_neg e,if_neg (fun h=>e h.2),h2]
 rw[if_neg d];refine⟨h1,fun a t=>?_⟩;rw[h2];unfold addL upd3;rw[if_neg (fun h=>d h.1.symm)]
theorem fW2 {gs:List (List Bal)} (ls:List Leg):(∀l ∈ ls,0≤l.sh∧l.sh<(gs.length:Int))→∀s a t:Int,¬(0≤s∧s<(gs.length:Int))→pU (mE gs) ls s a t=none:=by
 refine fKo (P:=fun ls=>(∀l ∈ ls,0≤l.sh∧l.sh<(gs.length:Int))→∀s a t:Int,¬(0≤s∧s<(gs.length:Int))→pU (mE gs) ls s a t=none) ?_ ?_ ls
 ·intro _ s a t h;show mE gs s a t=none;unfold mE;rw[if_neg h]
 intro ls l g d s a t h;have j:=d l (List.mem_append_right _ (List.mem_singleton.2 rfl));rw[fCm];unfold addL upd3;rw[if_neg (fun e=>h (by rw[e.1];exact j))];exact g (fun x k=>d x (List.mem_append_left _ k)) s a t h
theorem fKm {gs:List (List Bal)} {ls:List Leg} (hg:∀i,i<gs.length→RiseB (gs.getD i default)) (hk:∀l ∈ ls,rR l.ac l.ast=true) {hs:List (List Bal)} (hl:hs.length=gs.length)
  (hr:∀i,i<gs.length→RiseB (hs.getD i default)∧∀a t,getB a t (hs.getD i default)=pU (mE gs) ls i a t):hs=rZ gs ls:=by
 apply List.ext_getElem?;intro i;by_cases d:i<gs.length
 ·
  have e:hs[i]? = some (hs.getD i default):=by simp[List.getD,show i<hs.length by omega]
  have g:(rZ gs ls)[i]? = some ((rZ gs ls).getD i default):=by simp[List.getD,show i<(rZ gs ls).length by rw[fBg];exact d]
  rw[e,g,fF6 gs ls d];congr 1;obtain⟨j,k⟩:=fF7 d (hg i d) ls hk;exact fQs (hr i d).1 j (fun a t=>by rw[(hr i d).2,←k];rfl)
 rw[List.getElem?_eq_none oM,List.getElem?_eq_none (by rw[fBg];omega)]
end
section
open Go.Sort Go.Shelf
variable [dQ Rw] [iH Rw] [dQ Bal] [iH Bal] [dQ Ledg] [iH Ledg] [dQ Leg] [iH Leg] [dQ Cont] [iH Cont] [dQ LedgR] [iH LedgR]
theorem fQm:∀(N:Nat) (l:List Nat),l.Nodup→(∀x ∈ l,x<N)→l.length≤N
 | 0,l,_,h=>by
  cases l with
  | nil=>simp
  | cons x r=>exact absurd (h x (by simp)) (Nat.not_lt_zero _)
 | N+1,l,hn,h=>by
  have h1:=fQm N (l.erase N) (hn.erase N) (fun x hx=>by
   obtain⟨h2,h3⟩:=(hn.mem_erase_iff).1 hx;have:=h x h3;omega)
  rw[List.length_erase] at h1;split at h1 <;> omega
def KDom (n:Nat) (f:Int→Int→Int→Option Int):Prop:=∀s a t,(f s a t).isSome=true→(0≤s∧s<(n:Int))∧rR a t=true
theorem KDom.len {n:Nat} {f:Int→Int→Int→Option Int} (h:KDom n f) {ys:List K3} (hy:KOk f ys):ys.length≤n*18:=by
 have h1:=fQm (n*18) (ys.map (fun k:K3=>k.1.toNat*18+k.2.1.toNat*3+k.2.2.toNat)) ?_ ?_
 ·simpa using h1
 ·rw[List.Nodup,List.pairwise_map];refine List.Pairwise.imp_of_mem ?_ hy.1;rintro⟨s,a,t⟩ ⟨p,a',q⟩ d g j e;obtain⟨⟨_,_⟩,l⟩:=h s a t (hy.2 _ d);obtain⟨⟨_,_⟩,m⟩:=h p a' q (hy.2 _ g);obtain⟨⟨_,_⟩,_,_⟩:=keyOk_iff.1 l;obtain⟨⟨_,_⟩,_,_⟩:=keyOk_iff.1 m;apply j;dsimp only at e;have r:s=p:=oM;have y:a=a':=oM;have z:t=q:=oM;rw[r,y,z]
 intro x d;obtain⟨⟨s,a,t⟩,A,rfl⟩:=List.mem_map.1 d;obtain⟨⟨_,_⟩,l⟩:=h s a t (hy.2 _ A);obtain⟨⟨_,_⟩,_,_⟩:=keyOk_iff.1 l;dsimp only;omega
def balK (f:Int→Int→Int→Option Int) (k:K3):Bal:=⟨k.2.1,k.2.2,(f k.1 k.2.1 k.2.2).getD 0⟩
def shK (f:Int→Int→Int→Option Int) (ys:List K3) (i:Nat):List Bal:=(ys.filter (fun k=>decide (k.1=(i:Int)))).map (balK f)
theorem fYd (f:Int→Int→Int→Option Int) (ys:List K3) (k:K3) (i:Nat):shK f (ys++[k]) i=if k.1=(i:Int) then shK f ys i++[balK f k] else shK f ys i:=by
 unfold shK;rw[List.filter_append,List.map_append];by_cases h:k.1=(i:Int)
 ·simp[h]
 simp[h]
theorem shK_mem {f:Int→Int→Int→Option Int} {ys:List K3} {i:Nat} {x:Bal}:x ∈ shK f ys i↔∃k ∈ ys,k.1=(i:Int)∧balK f k=x:=by
 unfold shK;simp only[List.mem_map,List.mem_filter,decide_eq_true_eq];constructor
 ·rintro⟨k,⟨h1,h2⟩,d⟩;exact⟨k,h1,h2,d⟩
 rintro⟨k,h1,h2,d⟩;exact⟨k,⟨h1,h2⟩,d⟩
theorem fYc {n:Nat} {f:Int→Int→Int→Option Int} (hd:KDom n f) {ys:List K3} (hy:KOk f ys) (hs:ys.Pairwise (fun p q=>ltOf cfK q p=false)) (i:Nat):RiseB (shK f ys i):=by
 refine⟨?_,fun x l=>?_⟩
 ·
  unfold shK;rw[List.pairwise_map];have h1:ys.Pairwise (fun p q=>ltOf cfK q p=false∧p≠q):=hs.and hy.1;have h2:=h1.filter (fun k=>decide (k.1=(i:Int)));refine List.Pairwise.imp_of_mem ?_ h2;rintro⟨s,a,t⟩ ⟨E,a',B⟩ l m ⟨C,r⟩;obtain⟨y,g⟩:=List.mem_filter.1 l;obtain⟨j,d⟩:=List.mem_filter.1 m;simp only[decide_eq_true_eq] at g d;obtain⟨_,z⟩:=hd s a t (hy.2 _ y);obtain⟨_,A⟩:=hd E a' B (hy.2 _ j);obtain⟨⟨_,_⟩,_,_⟩:=keyOk_iff.1 z;obtain⟨⟨_,_⟩,_,_⟩:=keyOk_iff.1 A;rw[←Bool.not_eq_true,fJ6] at C;dsimp only at C;unfold plB balK;dsimp only;have D:¬(a=a'∧t=B):=fun e=>r (by rw[g,d,e.1,e.2])
  omega
 obtain⟨k,z,_,rfl⟩:=shK_mem.1 l;exact(hd _ _ _ (hy.2 k z)).2
theorem fZw {n:Nat} {f:Int→Int→Int→Option Int} (hn:n≤200) (hd:KDom n f) {ys:List K3} (hy:KDn f ys) (i:Nat) (a t:Int):getB a t (shK f ys i)=f i a t:=by
 cases l:f i a t with
 | none=>
  refine fP4 (fun x d e=>?_);obtain⟨k,m,p,rfl⟩:=shK_mem.1 d;have h1:=hy.1.2 k m;unfold balK at e;dsimp only at e;rw[p,e.1,e.2,l] at h1;cases h1
 | some v=>
  have q:(f i a t).isSome=true:=by rw[l];rfl
  obtain⟨⟨_,_⟩,m⟩:=hd i a t q;obtain⟨⟨_,_⟩,_,_⟩:=keyOk_iff.1 m;have z:=hy.2 i a t ⟨fAb oM oM,fAb oM oM,fAb oM oM⟩ q;cases s:getB a t (shK f ys i) with
  | none=>
   have j:∀(xs:List Bal),getB a t xs=none→∀x ∈ xs,¬(x.ac=a∧x.ast=t):=by
    intro xs;induction xs with
    | nil=>intro _ x d;cases d
    | cons y r ih=>
     intro h x d e;by_cases g:y.ac=a∧y.ast=t
     ·simp only[getB] at h;rw[if_pos g] at h;cases h
     rw[qB g] at h;rcases List.mem_cons.1 d with rfl|d
     ·exact g e
     exact ih h x d e
   exact absurd ⟨rfl,rfl⟩ (j _ s (balK f (i,a,t)) (shK_mem.2 ⟨_,z,rfl,rfl⟩))
  | some u=>
   obtain⟨x,d,h1,h2,j⟩:=fAj s;obtain⟨k,A,p,rfl⟩:=shK_mem.1 d;unfold balK at h1 h2 j;dsimp only at h1 h2 j;rw[p,h1,h2,l] at j;rw[←j];rfl
theorem fOn {gs:List (List Bal)} {ls:List Leg} (hg:∀i,i<gs.length→RiseB (gs.getD i default)) (hk:∀l ∈ ls,rR l.ac l.ast=true) (hN:gs.length≤200) (hd:KDom gs.length (pU (mE gs) ls))
  {ys:List K3} (hy:KDn (pU (mE gs) ls) ys) (hs:ys.Pairwise (fun p q=>ltOf cfK q p=false)) {hs':List (List Bal)} (hl:hs'.length=gs.length) (he:∀i,i<gs.length→hs'.getD i default=shK (pU (mE gs) ls) ys i):hs'=rZ gs ls:=
 fKm hg hk hl (fun i d=>by rw[he i d];exact⟨fYc hd hy.1 hs i,fun a t=>fZw hN hd hy i a t⟩)
theorem fOc {gs:List (List Bal)} {ls:List Leg} (hg:∀i,i<gs.length→RiseB (gs.getD i default)) (hk:∀l ∈ ls,rR l.ac l.ast=true) (hl:∀l ∈ ls,0≤l.sh∧l.sh<(gs.length:Int)):KDom gs.length (pU (mE gs) ls):=by
 intro s a t h;by_cases d:0≤s∧s<(gs.length:Int)
 ·
  refine⟨d,?_⟩;obtain⟨i,rfl⟩:∃i:Nat,s=(i:Int):=⟨s.toNat,by omega⟩
  have e:i<gs.length:=oM;obtain⟨h1,h2⟩:=fF7 e (hg i e) ls hk;rw[←h2] at h;obtain⟨v,g⟩:=Option.isSome_iff_exists.1 h;obtain⟨x,j,rfl,rfl,_⟩:=fAj g;exact h1.key x j
 rw[fW2 ls hl s a t d] at h;cases h
end
section
open Go.Maps
variable [dQ Bal] [iH Bal] [dQ Ledg] [iH Ledg] [dQ Leg] [iH Leg] [dQ Cont] [iH Cont]
theorem Book.nocell {w:World} {b n:Nat} {f:Int→Int→Int→Option Int} (h:Book w b n f) (o:Nat) (v:Value):w.cell? ⟨b,o,none⟩≠some v:=by
 obtain⟨D,⟨e,d,hb,_⟩,_⟩:=h;simp[World.cell?,hb]
theorem Mod.transB' {F:Nat→Prop} {w w1 w2:World} (h:Mod F w w1) (k:aa w1 w2):Mod F w w2:=h.trans (Mod.of_below k)
theorem fM2 (f:Int→Int→Int→Option Int) (s a t:Int) (v:Option Int):upd3 f s a t v s a t=v:=by unfold upd3;rw[if_pos ⟨rfl,rfl,rfl⟩]
theorem fTg (f:Int→Int→Int→Option Int) (s a t:Int) (v u:Option Int):upd3 (upd3 f s a t v) s a t u=upd3 f s a t u:=by
 funext s' a' t'
 unfold upd3;split
 ·rfl
 rfl
theorem fNg (n:Nat) (b m:Nat) (f:Int→Int→Int→Option Int) (y:Value) (ls:List Leg) (w:World) (hb:Book w b m f) (hy:legsR.V w y ls) (hm:m+ls.length<1000000)
  (hok:∀k,k<ls.length→kwf (ls.getD k default).sh (ls.getD k default).ac (ls.getD k default).ast ∧ -9223372036854775808≤(pU f (ls.take k) (ls.getD k default).sh (ls.getD k default).ac (ls.getD k default).ast).getD 0+(ls.getD k default).am∧(pU f (ls.take k) (ls.getD k default).sh (ls.getD k default).ac (ls.getD k default).ast).getD 0+(ls.getD k default).am≤9223372036854775807) :
  cL 203 #[.agg #[.int .i64 n,.map (some b)],y] w fun e w'=>e =.returned (.tuple #[])∧∃m',m'≤m+ls.length∧Book w' b m' (pU f ls)∧Mod (fun i=>i=b) w w':=by
 obtain⟨ay,cy,rfl,aA,ab,hy⟩:=hy;unfold maxLen at ab;have aB:=hb.lt;have ad:Hid (∀k,k<ls.length→kwf (ls.getD k default).sh (ls.getD k default).ac (ls.getD k default).ast ∧ -9223372036854775808≤(pU f (ls.take k) (ls.getD k default).sh (ls.getD k default).ac (ls.getD k default).ast).getD 0+(ls.getD k default).am∧(pU f (ls.take k) (ls.getD k default).sh (ls.getD k default).ac (ls.getD k default).ast).getD 0+(ls.getD k default).am≤9223372036854775807):=hok;have ae:Hid (∀k,k<ls.length→∃H X,ay=some ⟨H,X,none⟩∧H≠b∧mM w H (X+k*4) (ls.getD k default)):=fun k hk=>by
  obtain⟨H,X,e,A⟩:=hy k hk;refine⟨H,X,e,fun e'=>?_,A⟩;subst e';exact hb.nocell _ _ A.1
 clear hok hy;generalize hq:ls.length=q at *;have HN:Hid (ls.length=q):=hq;clear hq;go_enter Tryz.func203,Tryz.ntmps203;go_wp2;go_loopw [9] (fun i W=>∃k m':Nat,k≤q∧i =.int .i64 k∧m'≤m+k∧Hid (Book W b m' (pU f (ls.take k)))∧W.cell? ⟨w.heap.size,1,none⟩=some (.map (some b))∧Mod (fun i=>i=b) w W) (fun i _=>q-(intOf i).toNat)
 case atStart=>exact⟨0,m,Nat.zero_le _,rfl,by omega,hb.below hE,sG,Mod.of_below hE⟩
 obtain⟨k,m',hk,rfl,af,HB,c1,I⟩:=hrel;rename World=>w1
 have aC:=I.size;have aD:w.heap.size<w1.heap.size:=wL _ _ c1;by_cases J:k<q
 ·
  obtain⟨H,X,rfl,B,A⟩:=ae.out k J;obtain⟨p,C,D⟩:=ad.out k J;have L:=fRb f ls (k:=k) (by rw[HN.out];exact J);obtain⟨l,hl⟩:∃l,l=ls.getD k default:=⟨_,rfl⟩
  rw[←hl] at A p C D L;clear hl;generalize ag:pU f (ls.take k)=Y at *;clear ag;have Z:Hid (pU f (ls.take (k+1))=addL Y l):=L;clear L;have ak:mM w1 H (X+k*4) l:=⟨I.cell A.1 B,I.cell A.2.1 B,I.cell A.2.2.1 B,I.cell A.2.2.2 B⟩;obtain⟨a0,a1,a2,a3⟩:=ak;have al:(k:Int)<q:=oM;have aE:(0:Int)≤k:=oM;have aF:IntKind.i64.wrap ((k:Int)+1)=(k:Int)+1:=qY oM oM;obtain⟨v,hv⟩:∃v,v=(Y l.sh l.ac l.ast).getD 0:=⟨_,rfl⟩
  have HV:Hid (v=(Y l.sh l.ac l.ast).getD 0):=hv;rw[←hv] at C D;have aG:IntKind.i64.wrap (v+l.am)=v+l.am:=qY C D;have ao:=fAb C D;clear hv;go_wp2_with fail;refine(fDo l _).mono ?_;rintro e g ⟨rfl,M⟩;have t0:cI g w1.heap.size 3 l.am:=cK M sG;have x:aa w1 g:=hE;have ax:w1.heap.size<g.heap.size:=wL _ _ t0;have c2:=cK x c1;have E:Hid (Book g b m' Y):=HB.out.below x;have az:b<w1.heap.size:=oM;clear M HB a0 a1 a2 a3 A;unfold kv;go_wp2;refine wp_region_noPanic ?_;have a4:∀W,aa g W→(Instr.lookup 225 (.map (some b)) (.agg #[.int .i64 l.sh,.int .i64 l.ac,.int .i64 l.ast]) false).run Tryz.prog W =.ok (.int .i64 v) W:=fun W hW=>by rw[HV.out];exact((E.out.below hW).look p).1
  refine fB (fun W=>cW W w.heap.size 1 (.map (some b))∧cI W w1.heap.size 3 l.am∧(cI W g.heap.size 0 l.sh∧cI W g.heap.size 1 l.ac∧cI W g.heap.size 2 l.ast)∧(Instr.lookup 225 (.map (some b)) (.agg #[.int .i64 l.sh,.int .i64 l.ac,.int .i64 l.ast]) false).run Tryz.prog W =.ok (.int .i64 v) W) 9 kF ⟨cK hE c2,cK hE t0,⟨sG,by simp[go_sem],sG⟩,a4 _ hE⟩ (fun hS=>?_);refine tY 0 ?_;refine tY 1 ?_;refine tY 2 ?_;refine tY 3 ?_;refine tY 4 ?_;refine tY 5 ?_;refine tY 6 ?_;have a5:aa g ((g.alloc (.cells #[.int .i64 l.sh,.int .i64 l.ac,.int .i64 l.ast] 254)).drew):=hE;obtain⟨v0,st,w4,hr,r,a6,N⟩:=(E.out.below a5).entry2 p (by unfold maxLen;omega);have M:b<g.heap.size:=E.out.lt;have F:w.heap.size≠b:=oM;have a7:w1.heap.size≠b:=oM;have d:g.heap.size≠b:=oM;unfold kv goInt at hr;unfold goInt at N;have O:(fun W=>W.cell? ⟨w.heap.size,1,none⟩=some (.map (some b))∧W.cell? ⟨w1.heap.size,3,none⟩=some (.int .i64 l.am)∧(W.cell? ⟨g.heap.size,0,none⟩=some (.int .i64 l.sh)∧W.cell? ⟨g.heap.size,1,none⟩=some (.int .i64 l.ac)∧W.cell? ⟨g.heap.size,2,none⟩=some (.int .i64 l.ast))∧(Instr.lookup 225 (.map (some b)) (.agg #[.int .i64 l.sh,.int .i64 l.ac,.int .i64 l.ast]) false).run Tryz.prog W =.ok (.int .i64 v) W) w4:=⟨r.cell hS.1 F,r.cell hS.2.1 a7,⟨r.cell hS.2.2.1.1 d,r.cell hS.2.2.1.2.1 d,r.cell hS.2.2.1.2.2 d⟩,by
   have e:=(a6.look p).1;rw[fM2] at e;rw[HV.out];exact e⟩
  clear a4;refine uS 7 rfl (fun K G=>?_);go_simp;refine G _ _ (fun _=>O) ?_;clear G K;try simp only[jX]
  refine uS 8 rfl (fun K G=>?_);go_simp;refine G _ _ (fun _=>O) ?_;clear G K;try simp only[jX]
  obtain⟨w5,ar,R,s⟩:=N (v+l.am) ao;refine uS 9 rfl (fun K G=>?_);go_simp;refine G _ _ (fun h=>absurd rfl h) ?_;clear G K;refine dP ?_;have c5:=s.cell hS.1 F;have k0:=s.cell hS.2.2.1.1 d;have k1:=s.cell hS.2.2.1.2.1 d;have k2:=s.cell hS.2.2.1.2.2 d;have M5:Mod (fun i=>i=b) w w5:=((I.transB' x).transB' a5).trans s;have j:=(R.look p).1;rw[fM2] at j;unfold kv at j;simp only[Option.getD_some] at j;have a8:Hid (Book w5 b (m'+1) (upd3 Y l.sh l.ac l.ast (some (v+l.am)))):=R;clear hS O hr N ar R a6 r s E t0 c2 c1;by_cases hz:v+l.am=0
  ·
   obtain⟨w6,au,T,U⟩:=a8.out.del p 0;unfold kv at au;have z:Hid (Book w6 b (m'+1) (pU f (ls.take (k+1)))):=by
    rw[fTg] at T;rw[Hid,Z.out];unfold addL;rw[←HV.out,if_pos hz];exact T
   have av:Mod (fun i=>i=b) w w6:=M5.trans ((Mod.of_grown U).mono (fun i e=>by simpa using e.symm));have c6:=(Mod.of_grown U).cell c5 (fun e=>by simp at e;omega);clear T U;rw[hz] at j;go_wp2;exact⟨⟨k+1,m'+1,by omega,by go_num,by omega,z,c6,av⟩,mI⟩
  have z:Hid (Book w5 b (m'+1) (pU f (ls.take (k+1)))):=by
   rw[Hid,Z.out];unfold addL;rw[←HV.out,if_neg hz];exact a8.out
  go_wp2;exact⟨⟨k+1,m'+1,by omega,by go_num,by omega,z,c5,M5⟩,mI⟩
 have aw:k=q:=oM;subst aw;have al:¬((k:Int)<k):=oM;have z:Hid (∃a9,a9≤m+k∧Book w1 b a9 (pU f ls)∧Mod (fun i=>i=b) w w1):=⟨m',af,by
  have:=HB.out;rw[List.take_of_length_le (by rw[HN.out];omega)] at this;exact this,I⟩
 go_wp2;go_end0;exact⟨rfl,z.out⟩
end
end Go.Proofs.YtpibfdebfacooaaGreat

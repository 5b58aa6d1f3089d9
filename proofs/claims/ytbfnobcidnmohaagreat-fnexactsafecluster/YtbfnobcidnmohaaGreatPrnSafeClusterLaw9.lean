import Derived.Test.YtbfnobcidnmohaaGreatPrnSafeClusterLaw8
import Derived.Lib.Bytealg
import Derived.Lib.Walk
import Derived.RangeFuncNested
import Derived.RangeFuncBound
import Derived.RangeFuncCalls
import Derived.RangeFuncLeaves
import Derived.OwnWalkIn
import Derived.TacticsInMore
import Derived.LoopNIn
import Derived.LoopIn
import Derived.Maps.OwnIn
import Derived.Maps.AppendAt
set_option maxHeartbeats 1000000
set_option linter.unusedSectionVars false
set_option linter.unusedVariables false
set_option linter.unusedSimpArgs false
namespace Go.Proofs.YtbfnobcidnmohaaGreat
open Go.RowKit
attribute [local go_sem ↓] Go.wp_at_zero Go.wp_at_succ
section
variable [dQ Rw] [iH Rw]
def Fit (xs:List Rw):Prop:=∀i,i<xs.length→(xs.getD i default).key.size≤maxLen∧(xs.getD i default).val.size≤maxLen
def cmpB (a b:ByteArray):Int:=Lib.compareBytes a.data.toList b.data.toList
def cmpI (x y:Int):Int:=if x<y then -1 else if y<x then 1 else 0
def orI (x y:Int):Int:=if x=0 then y else x
def cmpR (a b:Rw):Int:=orI (cmpB a.key b.key) (cmpI b.ver a.ver)
def ahead (a b:Rw):Bool:=decide (cmpR a b<0)
variable [dQ Bal] [iH Bal] [dQ Ledg] [iH Ledg] [dQ Leg] [iH Leg]
def k3 (s a t:Int) (i:Nat):Int:=if i=0 then s else if i=1 then a else t
end
section
def Stb {β:Type} (J:β→World→(Nat→Prop)→Prop):Prop:=
 ∀s W W' X X',J s W X→Mod X W W'→(∀b,X b→X' b)→(∀b,X' b→(X b∨W.heap.size≤b)∧b<W'.heap.size)→J s W' X'
abbrev Kp (R X:Nat→Prop) (W W':World):Prop:=Mod (fun k=>¬(R k∨X k)) W W'
def fYa {α:Type} (R X:Nat→Prop) (I:List α→World→(Nat→Prop)→Prop) (Ix:Code→List α→World→(Nat→Prop)→Prop) (ys:List α) (W:World):Exit→Act→World→Prop
 | .normal,_,W'=>Kp R X W W'∧I ys W' X
 | .ret,_,W'=>Kp R X W W'∧Ix .ret ys W' X
 | .exit id,_,W'=>Kp R X W W'∧Ix (.exit id) ys W' X
 | .goto t,_,W'=>Kp R X W W'∧Ix (.goto t) ys W' X
 | .panic _,_,_=>False
 | .outgrown,_,_=>False
theorem fGh (W:World) (l:Nat) (o:Obj):Mod (fun b=>b=l) W (W.putObj l o):=
 ⟨rfl,rfl,rfl,by simp[World.putObj],fun _ _ hn=>World.putObj_heap_other hn⟩
theorem fC5 (F:Nat→Prop) (W:World) (o:Obj):Mod F W (W.alloc o):=(Mod.refl F W).alloc o
def Seqy {α:Type} (P:Program) (g:Nat) (lb:Array Value) (enc:α→Value) (Ok Dn:List α→Prop) (R:Nat→Prop) (w:World):Prop:=
 ∀(l:Nat) (J Jx:List α→World→(Nat→Prop)→Prop) (W:World) (X:Nat→Prop),Mod (fun k=>¬R k) w W→(∀b,X b→b<W.heap.size)→Stb J→Stb Jx →
  (∀pre x W1 X1,J pre W1 X1→(∀b,X b→X1 b)→(∀b,X1 b→b<W1.heap.size)→Ok (pre++[x])→YieldAt Fence.wide 0 P l #[enc x] W1 fun e W'=>
   (e =.returned (.bool true)∧J (pre++[x]) W' X1∧Kp R X1 W1 W')∨(e =.returned (.bool false)∧Jx (pre++[x]) W' X1∧Kp R X1 W1 W')) →
  J [] W X →
  CallsIn Fence.wide 0 P g (#[.func (.yield l) #[] #[]]++lb) W fun e W'=>(∃v,e =.returned v)∧∃X',(∀b,X b→X' b)∧((∃ys,Dn ys∧J ys W' X')∨∃pre,Ok pre∧Jx pre W' X')
theorem fTf {α:Type} {P:Program} {g:Operand} {p:Tmp} {assign body:Code} {Q:Exit→Act→World→Prop} {a:Act} {w:World}
  {gf:Nat} {lb:Array Value} (hg:a.eval g =.func (.func gf) #[] lb) (eg:∀args w,(callFunc gf args).run P w =.ok (.enter gf args) w)
  {enc:α→Value} {Ok Dn:List α→Prop} {R:Nat→Prop} (hseq:Seqy P gf lb enc Ok Dn R w) (hR:∀b,R b→b<w.heap.size)
  (I:List α→World→(Nat→Prop)→Prop) (Ix:Code→List α→World→(Nat→Prop)→Prop) (hI:Stb I) (hIx:∀c,Stb (Ix c)) (X0:Nat→Prop) (hX0:∀b,X0 b→b<w.heap.size) (h0:I [] w X0)
  (Ax:α→Act→World→(Nat→Prop)→Prop) (hAx:∀x a',Stb (fun (_:Unit)=>Ax x a'))
  (hassign:∀(l:Nat) (pre:List α) (x:α) (W:World) (X:Nat→Prop) (K:Act→World→Prop),I pre W X→X l→(∀b,X b→b<W.heap.size)→(∀a' W',Mod (fun _=>False) W W'→Ax x a' W' X→K a' W') →
   assign.wpIn (Fence.wide.inRound l) 0 P (Exit.then K (fun _ _ _=>False)) {tmps:=(#[p].zip #[enc x]).foldl (fun t (p,v)=>t.setIfInBounds p v) a.tmps,defers:=[]} W)
  (hbody:∀(l:Nat) (pre:List α) (x:α) (a':Act) (W:World) (X:Nat→Prop),X l→(∀b,X b→b<W.heap.size)→I pre W X→Ax x a' W X→Ok (pre++[x])→body.wpIn (Fence.wide.inRound l) 0 P (fYa R X I Ix (pre++[x]) W) a' W)
  (hdone:∀(D:Nat) (W:World) (X:Nat→Prop),w.heap.size≤D→X D→∀ys,Dn ys→I ys W X→W.heap[D]? = some (.deferred (some []))→Q .normal {a with defers:={target:=.collected D,args:=#[]}::a.defers} W)
  (hstop:∀(D:Nat) (c:Code) (pre:List α) (W:World) (X:Nat→Prop),w.heap.size≤D→X D→Ok pre→Ix c pre W X→W.heap[D]? = some (.deferred (some []))→c.wpIn Fence.wide 0 P Q {a with defers:={target:=.collected D,args:=#[]}::a.defers} W) :
  (Code.rangeFunc g #[p] assign body).wpIn Fence.wide 0 P Q a w:=by
 refine wpIn_rangeFunc ?_;intro fn hfn;rw[show Fence.wide.round=none from rfl];obtain⟨rec,hrec⟩:∃rec:LoopState→Option Code→Loop,rec=fun st pe=>{state:=st,pending:=pe,fn,tmps:=a.tmps,params:=#[p],assign,body,defers:=w.heap.size}:=⟨_,rfl⟩
 obtain⟨W1,hW1⟩:∃W1,(w.alloc (.deferred (some []))).alloc (.loop (rec .ready none))=W1:=⟨_,rfl⟩
 have hz1:W1.heap.size=w.heap.size+2:=by rw[←hW1];simp
 have hL1:W1.heap[w.heap.size+1]? = some (.loop (rec .ready none)):=by
  rw[←hW1];have h:=World.alloc_heap_new (w.alloc (.deferred (some []))) (.loop (rec .ready none));rwa [World.size_alloc] at h
 have hK1:W1.heap[w.heap.size]? = some (.deferred (some [])):=by
  rw[←hW1];exact(Below.heap_alloc _ _ _ (by simp)).trans (World.alloc_heap_new w _)
 have hM1:∀F,Mod F w W1:=fun F=>by rw[←hW1];exact(fC5 F w _).alloc _
 refine⟨w.heap.size+1,[{target:=.collected w.heap.size,args:=#[]}],W1,{target:=.fn (.func gf) lb,args:=#[.func (.yield (w.heap.size+1)) #[] #[]]},W1,gf,
  #[.func (.yield (w.heap.size+1)) #[] #[]]++lb,W1,?_,?_,?_,?_,(fun h=>(by cases h)),?_⟩
 ·rw[←hW1,hrec];exact run_enterLoop_outer _ _ _ _ _
 ·simp only[resolve,hg];simp[go_sem]
 ·intro f' _;trivial
 ·simp[invoke,go_sem,eg]
 obtain⟨N,hN⟩:∃N,N=w.heap.size:=⟨_,rfl⟩
 rw[←hN] at hL1 hK1 hz1 ⊢;have key:∀(st:LoopState) (pe:Option Code) (G:World→(Nat→Prop)→Prop),(∀W W' X X',G W X→Mod X W W'→(∀b,X b→X' b)→(∀b,X' b→(X b∨W.heap.size≤b)∧b<W'.heap.size)→G W' X') →
   ∀(W W':World) (X X':Nat→Prop),((∃Y,G W Y∧(∀b,X b→Y b)∧(∀b,Y b→b<W.heap.size)∧Y (N+1)∧Y N)∧W.heap[N+1]? = some (.loop (rec st pe))∧W.heap[N]? = some (.deferred (some []))∧¬X (N+1)∧¬X N) →
    Mod X W W'→(∀b,X b→X' b)→(∀b,X' b→(X b∨W.heap.size≤b)∧b<W'.heap.size) →
    ((∃Y,G W' Y∧(∀b,X' b→Y b)∧(∀b,Y b→b<W'.heap.size)∧Y (N+1)∧Y N)∧W'.heap[N+1]? = some (.loop (rec st pe))∧W'.heap[N]? = some (.deferred (some []))∧¬X' (N+1)∧¬X' N):=by
  rintro st pe G hG W W' X X' ⟨⟨Y,hg0,hXY,hYa,hYl,hYd⟩,hl,hk,hnl,hnd⟩ hm hXX hXn;have hlt:N+1<W.heap.size:=(Array.getElem?_eq_some_iff.1 hl).1;have hsz:=hm.size;refine⟨⟨fun b=>Y b∨X' b,hG W W' Y _ hg0 (hm.mono hXY) (fun b h=>.inl h) (fun b h=>?_),fun b h=>.inr h,fun b h=>?_,.inl hYl,.inl hYd⟩,
   (hm.block _ hlt hnl).trans hl,(hm.block _ oM hnd).trans hk,fun h=>?_,fun h=>?_⟩
  ·
   rcases h with h|h
   ·exact⟨.inl h,by have:=hYa b h;omega⟩
   have h2:=hXn b h;exact⟨h2.1.imp (hXY b) id,h2.2⟩
  ·
   rcases h with h|h
   ·have:=hYa b h;omega
   exact(hXn b h).2
  ·
   rcases(hXn _ h).1 with h|h
   ·exact hnl h
   omega
  rcases(hXn _ h).1 with h|h
  ·exact hnd h
  omega
 refine(hseq (N+1)
  (fun pre W X=>(∃Y,I pre W Y∧(∀b,X b→Y b)∧(∀b,Y b→b<W.heap.size)∧Y (N+1)∧Y N)∧W.heap[N+1]? = some (.loop (rec .ready none))∧W.heap[N]? = some (.deferred (some []))∧¬X (N+1)∧¬X N)
  (fun pre W X=>∃c,(∃Y,Ix c pre W Y∧(∀b,X b→Y b)∧(∀b,Y b→b<W.heap.size)∧Y (N+1)∧Y N)∧W.heap[N+1]? = some (.loop (rec .done (some c)))∧W.heap[N]? = some (.deferred (some []))∧¬X (N+1)∧¬X N)
  W1 (fun _=>False) (hM1 _) (fun _ h=>h.elim) (fun s W W' X X' h=>key .ready none (I s) (hI s) W W' X X' h)
  (fun s W W' X X' ⟨c,h⟩ hm h1 h2=>⟨c,key .done (some c) (Ix c s) (hIx c s) W W' X X' h hm h1 h2⟩)
  ?_ ⟨⟨fun b=>X0 b∨b=N∨b=N+1,hI _ _ _ X0 _ h0 (hM1 _) (fun b h=>.inl h) (fun b h=>?_),fun _ h=>h.elim,fun b h=>?_,.inr (.inr rfl),.inr (.inl rfl)⟩,hL1,hK1,fun h=>h,fun h=>h⟩).mono ?_
 rotate_left
 ·
  rw[hz1];rcases h with h|rfl|rfl
  ·exact⟨.inl h,by have:=hX0 b h;omega⟩
  ·exact⟨.inr oM,by omega⟩
  exact⟨.inr oM,by omega⟩
 ·
  rw[hz1];rcases h with h|rfl|rfl
  ·have:=hX0 b h;omega
  ·omega
  omega
 ·
  rintro e W2 ⟨⟨v,rfl⟩,X',_,(⟨ys,hys,⟨Y,hi,hXY,hYa,hYl,hYd⟩,hl,hk,hnl,hnd⟩|⟨pre,hpre,c,⟨Y,hi,hXY,hYa,hYl,hYd⟩,hl,hk,hnl,hnd⟩)⟩;all_goals
   have hlt:N+1<W2.heap.size:=(Array.getElem?_eq_some_iff.1 hl).1;have hput:∀o,Mod Y W2 (W2.putObj (N+1) o):=fun o=>(fGh W2 (N+1) o).mono (fun b h=>by rw[h];exact hYl)
   have hal:∀o b,Y b→(Y b∨W2.heap.size≤b)∧b<(W2.putObj (N+1) o).heap.size:=fun o b h=>⟨.inl h,by have:=hYa b h;have:=(hput o).size;omega⟩
  ·refine⟨none,_,by have:=run_endLoop (P:=P) hl (by rw[hrec];simp);rw[hrec] at this;exact this,?_⟩;exact hdone N _ Y oM hYd ys hys (hI _ _ _ _ _ hi (hput _) (fun _ h=>h) (hal _)) ((World.putObj_heap_other oM).trans hk)
  refine⟨some c,_,by have:=run_endLoop (P:=P) hl (by rw[hrec];simp);rw[hrec] at this;exact this,?_⟩;exact hstop N c pre _ Y oM hYd hpre (hIx c _ _ _ _ _ hi (hput _) (fun _ h=>h) (hal _)) ((World.putObj_heap_other oM).trans hk)
 rintro pre x W X1 ⟨⟨Y,hi,hXY,hYa,hYl,hYd⟩,hl,hk,hnl,hnd⟩ _ _ hpre;have hy:=run_yield (P:=P) (args:=#[enc x]) hl (by rw[hrec];rfl);rw[hrec] at hy;refine⟨fn,_,assign,body,hy,roundIn_of_wpIn hfn (hassign _ pre x W Y _ hi hYl hYa ?_)⟩;clear hy;intro a' Wa hma hax;have hsa:=hma.size;have hlt0:N+1<W.heap.size:=(Array.getElem?_eq_some_iff.1 hl).1;have hla:Wa.heap[N+1]? = some (.loop (rec .ready none)):=(hma.block _ hlt0 (fun h=>h)).trans hl;have hka:Wa.heap[N]? = some (.deferred (some [])):=(hma.block _ oM (fun h=>h)).trans hk;have hia:I pre Wa Y:=hI _ _ _ _ _ hi (hma.mono (fun _ h=>h.elim)) (fun _ h=>h) (fun b h=>⟨.inl h,by have:=hYa b h;omega⟩);refine⟨_,run_beginRound hla (by rw[hrec]),?_⟩;obtain⟨Wb,hWb⟩:∃Wb,Wa.putObj (N+1) (.loop {rec .ready none with state:=.busy})=Wb:=⟨_,rfl⟩
 have hmb:Mod (fun b=>b=N+1) Wa Wb:=by rw[←hWb];exact fGh _ _ _
 have hsb:=hmb.size;have hlb:Wb.heap[N+1]? = some (.loop {rec .ready none with state:=.busy}):=by rw[←hWb];exact World.putObj_heap_same oM
 have hkb:Wb.heap[N]? = some (.deferred (some [])):=(hmb.block _ oM oM).trans hka;have hmY:Mod Y Wa Wb:=hmb.mono (fun b h=>by rw[h];exact hYl);have halb:∀b,Y b→(Y b∨Wa.heap.size≤b)∧b<Wb.heap.size:=fun b h=>⟨.inl h,by have:=hYa b h;omega⟩
 rw[hWb];refine wpIn_mono (hbody _ pre x a' Wb Y hYl (fun b h=>(halb b h).2) (hI _ _ _ _ _ hia hmY (fun _ h=>h) halb) (hAx x a' () _ _ _ _ hax hmY (fun _ h=>h) halb) hpre) ?_;have fin:∀(G:World→(Nat→Prop)→Prop),(∀W W' X X',G W X→Mod X W W'→(∀b,X b→X' b)→(∀b,X' b→(X b∨W.heap.size≤b)∧b<W'.heap.size)→G W' X')→∀(jump:Option Code) (W3:World),Kp R Y Wb W3→G W3 Y →
   ∃W4,(Instr.endRound (N+1) jump).run P W3 =.ok (.bool jump.isNone) W4∧Kp R X1 W W4 ∧
    ((∃Y,G W4 Y∧(∀b,X1 b→Y b)∧(∀b,Y b→b<W4.heap.size)∧Y (N+1)∧Y N)∧W4.heap[N+1]? = some (.loop (rec (if jump.isNone then .ready else .done) jump))∧W4.heap[N]? = some (.deferred (some []))∧¬X1 (N+1)∧¬X1 N):=by
  intro G hG jump W3 hk3 hg3;have hs3:=hk3.size;have hl3:W3.heap[N+1]? = some (.loop {rec .ready none with state:=.busy}):=(hk3.block _ oM (fun h=>h (.inr hYl))).trans hlb;have hkd3:W3.heap[N]? = some (.deferred (some [])):=(hk3.block _ oM (fun h=>h (.inr hYd))).trans hkb;have hrun:=run_endRound (P:=P) jump hl3;obtain⟨W4,hW4⟩:∃W4,W3.putObj (N+1) (.loop (rec (if jump.isNone then .ready else .done) jump))=W4:=⟨_,rfl⟩
  have hm4:Mod (fun b=>b=N+1) W3 W4:=by rw[←hW4];exact fGh _ _ _
  have hs4:=hm4.size;have hnR:¬(R (N+1)∨X1 (N+1)):=by
   rintro(h|h)
   ·have:=hR _ h;omega
   exact hnl h
  refine⟨W4,by rw[←hW4,hrec];rw[hrec] at hrun;exact hrun,?_,⟨Y,hG _ _ _ _ hg3 (hm4.mono (fun b h=>by rw[h];exact hYl)) (fun _ h=>h) (fun b h=>⟨.inl h,by have:=hYa b h;omega⟩),hXY,fun b h=>by have:=hYa b h;omega,hYl,hYd⟩,by rw[←hW4];exact World.putObj_heap_same oM,(hm4.block _ oM oM).trans hkd3,hnl,hnd⟩;have k1:Kp R X1 W Wa:=hma.mono (fun _ h=>h.elim);have k2:Kp R X1 Wa Wb:=hmb.mono (fun b h=>by rw[h];exact hnR);have k3:Kp R X1 Wb W3:=hk3.mono (fun b h=>fun hn=>h (Or.imp id (hXY b) hn));have k4:Kp R X1 W3 W4:=hm4.mono (fun b h=>by rw[h];exact hnR);exact((k1.trans k2).trans k3).trans k4
 rintro e a3 W3 hp;cases e with
 | normal=>
  obtain⟨hk3,hi3⟩:=hp;obtain⟨W4,hr,hkp,hj⟩:=fin (I (pre++[x])) (hI _) none W3 hk3 hi3;exact⟨_,W4,hr,.inl ⟨rfl,hj,hkp⟩⟩
 | ret=>
  obtain⟨hk3,hi3⟩:=hp;obtain⟨W4,hr,hkp,hj⟩:=fin (Ix .ret (pre++[x])) (hIx _ _) (some .ret) W3 hk3 hi3;exact⟨_,W4,hr,.inr ⟨rfl,⟨_,hj⟩,hkp⟩⟩
 | exit id=>
  obtain⟨hk3,hi3⟩:=hp;obtain⟨W4,hr,hkp,hj⟩:=fin (Ix (.exit id) (pre++[x])) (hIx _ _) (some (.exit id)) W3 hk3 hi3;exact⟨_,W4,hr,.inr ⟨rfl,⟨_,hj⟩,hkp⟩⟩
 | goto t=>
  obtain⟨hk3,hi3⟩:=hp;obtain⟨W4,hr,hkp,hj⟩:=fin (Ix (.goto t) (pre++[x])) (hIx _ _) (some (.goto t)) W3 hk3 hi3;exact⟨_,W4,hr,.inr ⟨rfl,⟨_,hj⟩,hkp⟩⟩
 | panic ch=>exact hp.elim
 | outgrown=>exact hp.elim
end
section
open Go.Shelf
attribute [local go_sem] Oper.semAt_some
theorem Mod.frz {F:Nat→Prop} {w w':World} (h:Mod F w w') {a:Addr} (hl:a.block<w.heap.size) (hn:¬F a.block):w'.frozen? a=w.frozen? a:=World.frozen?_of_block (h.block a.block hl hn)
abbrev K3:=Int × Int × Int
theorem fVe {α:Type} {P:Program} {g:Nat} {lb:Array Value} {enc:α→Value} {Ok Dn:List α→Prop} {R:Nat→Prop} {w w':World} (h:Seqy P g lb enc Ok Dn R w) (hm:Mod (fun k=>¬R k) w w'):Seqy P g lb enc Ok Dn R w':=
 fun l J Jx W X h1 h2 h3 h4 h5 h6=>h l J Jx W X (hm.trans h1) h2 h3 h4 h5 h6
end
section
variable [dQ Bal] [iH Bal] [dQ Ledg] [iH Ledg] [dQ Leg] [iH Leg]
def getB (a t:Int):List Bal→Option Int
 | []=>none
 | x::r=>if x.ac=a∧x.ast=t then some x.am else getB a t r
theorem fFx (a t:Int):∀xs:List Bal,hasB a t xs=(getB a t xs).getD 0
 | []=>rfl
 | x::r=>by
  simp only[hasB,getB];split
  ·rfl
  exact fFx a t r
theorem fCp (a t:Int):∀(l r:List Bal),getB a t (l++r)=(getB a t l).or (getB a t r)
 | [],r=>by simp[getB]
 | x::l,r=>by
  simp only[List.cons_append,getB];split
  ·simp
  exact fCp a t l r
theorem fIb {a t:Int}:∀{xs:List Bal},(∀k,k<xs.length→¬((xs.getD k default).ac=a∧(xs.getD k default).ast=t))→getB a t xs=none
 | [],_=>rfl
 | x::r,h=>by
  have h0:=h 0 (by simp);simp only[List.getD_cons_zero] at h0;simp only[getB,if_neg h0];exact fIb (fun k hk=>by have:=h (k+1) (by simpa using hk);simpa only[List.getD_cons_succ] using this)
theorem fVo (xs:List Bal) (k:Nat) (h:k<xs.length):xs.take (k+1)=xs.take k++[xs.getD k default]:=by
 rw[List.take_add_one];simp[List.getD,h]
theorem rising {xs:List Bal} (h:BalsOk xs) {i:Nat}:∀{j:Nat},i<j→j<xs.length→(xs.getD i default).ac*3+(xs.getD i default).ast<(xs.getD j default).ac*3+(xs.getD j default).ast
 | 0,hij,_=>oM
 | j+1,hij,hj=>by
  have h1:=h.ord j hj;have hb:=fEr (b:=xs.getD (j+1) default) (a:=xs.getD j default) (fCh (h.ok _ hj)) (fCh (h.ok _ oM));have h2:(xs.getD j default).ac*3+(xs.getD j default).ast<(xs.getD (j+1) default).ac*3+(xs.getD (j+1) default).ast:=by
   refine Int.not_le.1 (fun h=>?_);rw[hb.2 h] at h1;cases h1
  by_cases e:i=j
  ·subst e;exact h2
  have:=rising h (i:=i) (j:=j) oM oM;omega
theorem fPd {xs:List Bal} {k j:Nat} (h:j<k):(xs.take k).getD j default=xs.getD j default:=by
 simp[List.getD,h]
theorem fPc {xs:List Bal} (h:BalsOk xs) {j:Nat} (hj:j<xs.length):getB (xs.getD j default).ac (xs.getD j default).ast (xs.take j)=none:=by
 apply fIb;intro k hk;have hk':k<j:=by rw[List.length_take] at hk;omega
 rw[fPd hk'];have:=rising h hk' hj;rintro⟨e1,e2⟩;rw[e1,e2] at this;omega
def fBt (g:List (List Bal)) (i j:Nat) (s a t:Int):Option Int:=if 0≤s∧s<i then getB a t (g.getD s.toNat default) else if s=i then getB a t ((g.getD i default).take j) else none
def tJ (g:List (List Bal)) (s a t:Int):Option Int:=if 0≤s∧s<g.length then getB a t (g.getD s.toNat default) else none
theorem fKv (g:List (List Bal)) (s a t:Int):fBt g 0 0 s a t=none:=by
 unfold fBt;rw[if_neg oM];split
 ·rfl
 rfl
theorem fOq {g:List (List Bal)} {i j:Nat} (h:BalsOk (g.getD i default)) (hj:j<(g.getD i default).length) (s a t:Int) :
  fBt g i (j+1) s a t=upd3 (fBt g i j) i ((g.getD i default).getD j default).ac ((g.getD i default).getD j default).ast (some ((g.getD i default).getD j default).am) s a t:=by
 have hf:=fPc h hj;unfold upd3 fBt;rw[fVo _ _ hj,fCp];by_cases hs:0≤s∧s<(i:Int)
 ·rw[if_pos hs,if_neg (by rintro⟨rfl,_⟩;omega),if_pos hs]
 rw[if_neg hs,if_neg hs];by_cases e:s=i
 ·
  rw[if_pos e,if_pos e];by_cases e2:a=((g.getD i default).getD j default).ac∧t=((g.getD i default).getD j default).ast
  ·rw[if_pos ⟨e,e2.1,e2.2⟩,e2.1,e2.2,hf];simp[getB]
  rw[if_neg (fun h=>e2 h.2)];simp only[getB];rw[if_neg (fun h=>e2 ⟨h.1.symm,h.2.symm⟩)];simp
 rw[if_neg e,if_neg e,if_neg (fun h=>e h.1)]
theorem fOp (g:List (List Bal)) (i:Nat) (s a t:Int):fBt g (i+1) 0 s a t=fBt g i (g.getD i default).length s a t:=by
 unfold fBt;rw[List.take_length];by_cases e:s=i
 ·subst e;rw[if_pos oM,if_neg oM,if_pos rfl];simp
 by_cases hs:0≤s∧s<(i:Int)
 ·rw[if_pos oM,if_pos hs]
 rw[if_neg oM,if_neg hs,if_neg e];split
 ·rfl
 rfl
theorem fQ3 (g:List (List Bal)) (s a t:Int):tJ g s a t=fBt g g.length 0 s a t:=by
 unfold fBt tJ;split
 ·rfl
 split
 ·rfl
 rfl
end
section
theorem fV4 {w w':World} {a0:Addr} {x0:Value} {a1:Addr} {x1:Value} {a2:Addr} {x2:Value} {a3:Addr} {x3:Value} {a4:Addr} {x4:Value} {a5:Addr} {x5:Value} (hb:Below w.heap.size w w') (g0:w.cell? a0=some x0) (g1:w.cell? a1=some x1) (g2:w.cell? a2=some x2) (g3:w.cell? a3=some x3) (g4:w.cell? a4=some x4) (g5:w.cell? a5=some x5):Below w.heap.size w w'∧w'.cell? a0=some x0∧w'.cell? a1=some x1∧w'.cell? a2=some x2∧w'.cell? a3=some x3∧w'.cell? a4=some x4∧w'.cell? a5=some x5:=
 ⟨hb,cK hb g0,cK hb g1,cK hb g2,cK hb g3,cK hb g4,cK hb g5⟩
theorem fRz {w W W':World} {a1 a2 a3 a4:Addr} {v1 v2 v3 v4:Value} (h:Below w.heap.size w W∧W.cell? a1=some v1∧W.cell? a2=some v2∧W.cell? a3=some v3∧W.cell? a4=some v4) (hb:Below W.heap.size W W'):Below w.heap.size w W'∧W'.cell? a1=some v1∧W'.cell? a2=some v2∧W'.cell? a3=some v3∧W'.cell? a4=some v4:=
 ⟨bS h.1 hb,cK hb (h.2.1),cK hb (h.2.2.1),cK hb (h.2.2.2.1),cK hb (h.2.2.2.2)⟩
theorem fWq {w W W':World} {a1 a2 a3 a4:Addr} {v1 v2 v3 v4:Value} {b:Nat} (h:Below w.heap.size w W∧W.cell? a1=some v1∧W.cell? a2=some v2∧W.cell? a3=some v3∧W.cell? a4=some v4) (hg:W.grownBy W' (some b)) (hl:w.heap.size≤b) (n1:some a1.block≠some b) (n2:some a2.block≠some b) (n3:some a3.block≠some b) (n4:some a4.block≠some b):Below w.heap.size w W'∧W'.cell? a1=some v1∧W'.cell? a2=some v2∧W'.cell? a3=some v3∧W'.cell? a4=some v4:=
 ⟨h.1.grown hg h.1.size (fun k e=>by cases e;exact hl),hg.cell (h.2.1) n1,hg.cell (h.2.2.1) n2,hg.cell (h.2.2.2.1) n3,hg.cell (h.2.2.2.2) n4⟩
theorem fR0 {w W W':World} {a1 a2 a3 a4 a5:Addr} {v1 v2 v3 v4 v5:Value} (h:Below w.heap.size w W∧W.cell? a1=some v1∧W.cell? a2=some v2∧W.cell? a3=some v3∧W.cell? a4=some v4∧W.cell? a5=some v5) (hb:Below W.heap.size W W'):Below w.heap.size w W'∧W'.cell? a1=some v1∧W'.cell? a2=some v2∧W'.cell? a3=some v3∧W'.cell? a4=some v4∧W'.cell? a5=some v5:=
 ⟨bS h.1 hb,cK hb (h.2.1),cK hb (h.2.2.1),cK hb (h.2.2.2.1),cK hb (h.2.2.2.2.1),cK hb (h.2.2.2.2.2)⟩
end
end Go.Proofs.YtbfnobcidnmohaaGreat

import Derived.Test.YtpibfdebfacooaaGreatPrnCrashJournalLaw9
import Derived.RangeFuncNested
import Derived.RangeFuncBound
import Derived.RangeFuncCalls
import Derived.RangeFuncLeaves
import Derived.Shelf.Abstract
import Derived.OwnWalkIn
import Derived.TacticsInMore
import Derived.LoopNIn
import Derived.LoopIn
import Derived.Maps.OwnIn
import Derived.Shelf.SlSortCmp.WholeK
import Derived.Carry
set_option maxHeartbeats 4000000
set_option maxRecDepth 100000
set_option linter.unusedSectionVars false
set_option linter.unusedVariables false
set_option linter.unusedSimpArgs false
namespace Go.Proofs.YtpibfdebfacooaaGreat
open Go.RowKit
attribute [local go_sem ↓] Go.wp_at_zero Go.wp_at_succ
section
variable [dQ Rw] [iH Rw] [dQ Bal] [iH Bal] [dQ Ledg] [iH Ledg] [dQ Leg] [iH Leg]
def fAr (x y:Nat→Int):Nat→Int
 | 0=>0
 | k+1=>if fAr x y k=0 then cmpI (x k) (y k) else fAr x y k
theorem fCy (W:World) (b1 b2:Nat) (x y:Nat→Int) (hx:∀i,i<3→W.cell? ⟨b1,i,none⟩=some (.int .i64 (x i))) (hy:∀i,i<3→W.cell? ⟨b2,i,none⟩=some (.int .i64 (y i))) :
  Calls Tryz.prog 244 #[.slice (some ⟨b1,0,none⟩) 3 3,.slice (some ⟨b2,0,none⟩) 3 3] W fun e w'=>e =.returned (.int .i64 (fAr x y 3))∧w'=W:=by
 have HX:Hid (∀i,i<3→W.cell? ⟨b1,i,none⟩=some (.int .i64 (x i))):=hx;have HY:Hid (∀i,i<3→W.cell? ⟨b2,i,none⟩=some (.int .i64 (y i))):=hy;clear hx hy;go_enter Tryz.func244,Tryz.ntmps244;go_wp2;go_loopw [11] (fun i w'=>∃k:Nat,k≤3∧i =.int .i64 k∧Hid (fAr x y k=0)∧w'=W) (fun i _=>3-(intOf i).toNat)
 case atStart=>exact⟨0,by omega,rfl,rfl,rfl⟩
 obtain⟨k,hk,rfl,HC,rfl⟩:=hrel;by_cases hk3:k<3
 ·
  have hk':(k:Int)<3:=oM;have hk0:(0:Int)≤k:=oM;have hk1:¬((3:Int)≤k):=oM;have hwk:IntKind.i64.wrap ((k:Int)+1)=(k:Int)+1:=qP oM oM;have g1:=HX.out k hk3;have g2:=HY.out k hk3;have HS:Hid (fAr x y (k+1)=cmpI (x k) (y k)):=by unfold Hid;rw[fAr,if_pos HC.out]
  generalize x k=xk at *;generalize y k=yk at *;by_cases hz:cmpI xk yk=0
  ·
   have HC':Hid (fAr x y (k+1)=0):=by rw[Hid,HS.out];exact hz
   go_wp2_with fail;refine(fAf xk yk _).mono ?_;rintro e w' ⟨rfl,hw⟩;obtain rfl:=hw.symm;rw[hz];go_wp2;exact⟨⟨k+1,by omega,by go_num,HC',by trivial⟩,mI⟩
  have HE:Hid (fAr x y 3=cmpI xk yk):=by
   have key:∀d,k+1+d≤3→fAr x y (k+1+d)=cmpI xk yk:=by
    intro d;induction d with
    | zero=>intro _;exact HS.out
    | succ d ih=>
     intro h;have:=ih oM;rw[show k+1+(d+1)=(k+1+d)+1 by omega,fAr,if_neg (by rw[this];exact hz),this]
   have:=key (2-k) oM;rw[show k+1+(2-k)=3 by omega] at this;exact this
  go_wp2_with fail;refine(fAf xk yk _).mono ?_;rintro e w' ⟨rfl,hw⟩;obtain rfl:=hw.symm;generalize cmpI xk yk=r at *;go_wp2;go_ret;exact⟨by rw[HE.out];rfl,by trivial⟩
 have hk3':k=3:=oM;subst hk3';go_wp2;go_ret;exact⟨rH,by trivial⟩
def k3 (s a t:Int) (i:Nat):Int:=if i=0 then s else if i=1 then a else t
theorem fD7 (s a t s' a' t':Int) (W:World) :
  Calls Tryz.prog 229 #[kv s a t,kv s' a' t'] W fun e w'=>e =.returned (.int .i64 (fAr (k3 s a t) (k3 s' a' t') 3))∧w'=((W.alloc (.cells #[.int .i64 s,.int .i64 a,.int .i64 t] 254)).alloc (.cells #[.int .i64 s',.int .i64 a',.int .i64 t'] 254)).drew:=by
 unfold kv;go_enter Tryz.func229,Tryz.ntmps229;go_wp2;refine wp_region_noPanic ?_;refine fB (fun W'=>W'=((W.alloc (.cells #[.int .i64 s,.int .i64 a,.int .i64 t] 254)).alloc (.cells #[.int .i64 s',.int .i64 a',.int .i64 t'] 254)).drew) 4 kF rfl (fun hS=>?_);refine tX 0 ?_;refine tX 1 ?_;refine uS 2 rfl (fun K hK=>?_);go_simp;refine(fCy _ W.heap.size (W.heap.size+1) (k3 s a t) (k3 s' a' t') ?_ ?_).mono ?_
 ·
  intro i hi;match i,hi with
  | 0,_=>simp[go_sem,k3]
  | 1,_=>simp[go_sem,k3]
  | 2,_=>simp[go_sem,k3]
 ·
  intro i hi;match i,hi with
  | 0,_=>simp[go_sem,k3]
  | 1,_=>simp[go_sem,k3]
  | 2,_=>simp[go_sem,k3]
 rintro e w' ⟨rfl,hw⟩;refine hK _ _ (fun _=>hw) ?_;clear hK K;obtain⟨r,hr⟩:∃r,fAr (k3 s a t) (k3 s' a' t') 3=r:=⟨_,rfl⟩
 have HR:Hid (fAr (k3 s a t) (k3 s' a' t') 3=r):=hr;rw[hr];clear hr;try simp only[jX]
 refine uS 3 rfl (fun K hK=>?_);go_simp;refine hK _ _ (fun _=>by first|rfl|exact hw) ?_;clear hK K;refine dP ?_;go_wp2;go_ret;exact⟨by rw[HR.out];rfl,by first|rfl|exact hw⟩
end
section
def Stb {β:Type} (J:β→World→(Nat→Prop)→Prop):Prop:=
 ∀s W W' X X',J s W X→Mod X W W'→(∀b,X b→X' b)→(∀b,X' b→(X b∨W.heap.size≤b)∧b<W'.heap.size)→J s W' X'
abbrev Kp (R X:Nat→Prop) (W W':World):Prop:=Mod (fun k=>¬(R k∨X k)) W W'
def fYe {α:Type} (R X:Nat→Prop) (I:List α→World→(Nat→Prop)→Prop) (Ix:Code→List α→World→(Nat→Prop)→Prop) (ys:List α) (W:World):Exit→Act→World→Prop
 | .normal,_,W'=>Kp R X W W'∧I ys W' X
 | .ret,_,W'=>Kp R X W W'∧Ix .ret ys W' X
 | .exit id,_,W'=>Kp R X W W'∧Ix (.exit id) ys W' X
 | .goto t,_,W'=>Kp R X W W'∧Ix (.goto t) ys W' X
 | .panic _,_,_=>False
 | .outgrown,_,_=>False
theorem fE9 (W:World) (l:Nat) (o:Obj):Mod (fun b=>b=l) W (W.putObj l o):=
 ⟨rfl,rfl,rfl,by simp[World.putObj],fun _ _ hn=>World.putObj_heap_other hn⟩
theorem uV (F:Nat→Prop) (W:World) (o:Obj):Mod F W (W.alloc o):=(Mod.refl F W).alloc o
def Seqy {α:Type} (P:Program) (g:Nat) (lb:Array Value) (enc:α→Value) (Ok Dn:List α→Prop) (R:Nat→Prop) (w:World):Prop:=
 ∀(l:Nat) (J Jx:List α→World→(Nat→Prop)→Prop) (W:World) (X:Nat→Prop),Mod (fun k=>¬R k) w W→(∀b,X b→b<W.heap.size)→Stb J→Stb Jx →
  (∀pre x W1 X1,J pre W1 X1→(∀b,X b→X1 b)→(∀b,X1 b→b<W1.heap.size)→Ok (pre++[x])→YieldAt Fence.wide 0 P l #[enc x] W1 fun e W'=>
   (e =.returned (.bool true)∧J (pre++[x]) W' X1∧Kp R X1 W1 W')∨(e =.returned (.bool false)∧Jx (pre++[x]) W' X1∧Kp R X1 W1 W')) →
  J [] W X →
  CallsIn Fence.wide 0 P g (#[.func (.yield l) #[] #[]]++lb) W fun e W'=>(∃v,e =.returned v)∧∃X',(∀b,X b→X' b)∧((∃ys,Dn ys∧J ys W' X')∨∃pre,Ok pre∧Jx pre W' X')
theorem fLp {α:Type} {P:Program} {g:Operand} {p:Tmp} {assign body:Code} {Q:Exit→Act→World→Prop} {a:Act} {w:World}
  {gf:Nat} {lb:Array Value} (hg:a.eval g =.func (.func gf) #[] lb) (eg:∀args w,(callFunc gf args).run P w =.ok (.enter gf args) w)
  {enc:α→Value} {Ok Dn:List α→Prop} {R:Nat→Prop} (hseq:Seqy P gf lb enc Ok Dn R w) (hR:∀b,R b→b<w.heap.size)
  (I:List α→World→(Nat→Prop)→Prop) (Ix:Code→List α→World→(Nat→Prop)→Prop) (hI:Stb I) (hIx:∀c,Stb (Ix c)) (X0:Nat→Prop) (hX0:∀b,X0 b→b<w.heap.size) (h0:I [] w X0)
  (Ax:α→Act→World→(Nat→Prop)→Prop) (hAx:∀x a',Stb (fun (_:Unit)=>Ax x a'))
  (hassign:∀(l:Nat) (pre:List α) (x:α) (W:World) (X:Nat→Prop) (K:Act→World→Prop),I pre W X→X l→(∀b,X b→b<W.heap.size)→(∀a' W',Mod (fun _=>False) W W'→Ax x a' W' X→K a' W') →
   assign.wpIn (Fence.wide.inRound l) 0 P (Exit.then K (fun _ _ _=>False)) {tmps:=(#[p].zip #[enc x]).foldl (fun t (p,v)=>t.setIfInBounds p v) a.tmps,defers:=[]} W)
  (hbody:∀(l:Nat) (pre:List α) (x:α) (a':Act) (W:World) (X:Nat→Prop),X l→(∀b,X b→b<W.heap.size)→I pre W X→Ax x a' W X→Ok (pre++[x])→body.wpIn (Fence.wide.inRound l) 0 P (fYe R X I Ix (pre++[x]) W) a' W)
  (hdone:∀(D:Nat) (W:World) (X:Nat→Prop),w.heap.size≤D→X D→∀ys,Dn ys→I ys W X→W.heap[D]? = some (.deferred (some []))→Q .normal {a with defers:={target:=.collected D,args:=#[]}::a.defers} W)
  (hstop:∀(D:Nat) (c:Code) (pre:List α) (W:World) (X:Nat→Prop),w.heap.size≤D→X D→Ok pre→Ix c pre W X→W.heap[D]? = some (.deferred (some []))→c.wpIn Fence.wide 0 P Q {a with defers:={target:=.collected D,args:=#[]}::a.defers} W) :
  (Code.rangeFunc g #[p] assign body).wpIn Fence.wide 0 P Q a w:=by
 refine wpIn_rangeFunc ?_;intro fn hfn;rw[show Fence.wide.round=none from rfl];obtain⟨rec,hrec⟩:∃rec:LoopState→Option Code→Loop,rec=fun st pe=>{state:=st,pending:=pe,fn,tmps:=a.tmps,params:=#[p],assign,body,defers:=w.heap.size}:=⟨_,rfl⟩
 obtain⟨W1,hW1⟩:∃W1,(w.alloc (.deferred (some []))).alloc (.loop (rec .ready none))=W1:=⟨_,rfl⟩
 have hz1:W1.heap.size=w.heap.size+2:=by rw[←hW1];simp
 have hL1:W1.heap[w.heap.size+1]? = some (.loop (rec .ready none)):=by
  rw[←hW1];have h:=World.alloc_heap_new (w.alloc (.deferred (some []))) (.loop (rec .ready none));rwa [World.size_alloc] at h
 have hK1:W1.heap[w.heap.size]? = some (.deferred (some [])):=by
  rw[←hW1];exact(Below.heap_alloc _ _ _ (by simp)).trans (World.alloc_heap_new w _)
 have hM1:∀F,Mod F w W1:=fun F=>by rw[←hW1];exact(uV F w _).alloc _
 refine⟨w.heap.size+1,[{target:=.collected w.heap.size,args:=#[]}],W1,{target:=.fn (.func gf) lb,args:=#[.func (.yield (w.heap.size+1)) #[] #[]]},W1,gf,
  #[.func (.yield (w.heap.size+1)) #[] #[]]++lb,W1,?_,?_,?_,?_,(fun h=>(by cases h)),?_⟩
 ·rw[←hW1,hrec];exact run_enterLoop_outer _ _ _ _ _
 ·simp only[resolve,hg];simp[go_sem]
 ·intro f' _;trivial
 ·simp[invoke,go_sem,eg]
 obtain⟨N,hN⟩:∃N,N=w.heap.size:=⟨_,rfl⟩
 rw[←hN] at hL1 hK1 hz1 ⊢;have key:∀(st:LoopState) (pe:Option Code) (G:World→(Nat→Prop)→Prop),(∀W W' X X',G W X→Mod X W W'→(∀b,X b→X' b)→(∀b,X' b→(X b∨W.heap.size≤b)∧b<W'.heap.size)→G W' X') →
   ∀(W W':World) (X X':Nat→Prop),((∃Y,G W Y∧(∀b,X b→Y b)∧(∀b,Y b→b<W.heap.size)∧Y (N+1)∧Y N)∧W.heap[N+1]? = some (.loop (rec st pe))∧W.heap[N]? = some (.deferred (some []))∧¬X (N+1)∧¬X N) →
    Mod X W W'→(∀b,X b→X' b)→(∀b,X' b→(X b∨W.heap.size≤b)∧b<W'.heap.size) →
    ((∃Y,G W' Y∧(∀b,X' b→Y b)∧(∀b,Y b→b<W'.heap.size)∧Y (N+1)∧Y N)∧W'.heap[N+1]? = some (.loop (rec st pe))∧W'.heap[N]? = some (.deferred (some []))∧¬X' (N+1)∧¬X' N):=by
  rintro st pe G hG W W' X X' ⟨⟨Y,hg0,hXY,hYa,hYl,hYd⟩,hl,hk,hnl,hnd⟩ hm hXX hXn;have hlt:N+1<W.heap.size:=(Array.getElem?_eq_some_iff.1 hl).1;have hsz:=hm.size;refine⟨⟨fun b=>Y b∨X' b,hG W W' Y _ hg0 (hm.mono hXY) (fun b h=>.inl h) (fun b h=>?_),fun b h=>.inr h,fun b h=>?_,.inl hYl,.inl hYd⟩,
   (hm.block _ hlt hnl).trans hl,(hm.block _ oM hnd).trans hk,fun h=>?_,fun h=>?_⟩
  ·
   rcases h with h|h
   ·exact⟨.inl h,by have:=hYa b h;omega⟩
   have h2:=hXn b h;exact⟨h2.1.imp (hXY b) id,h2.2⟩
  ·
   rcases h with h|h
   ·have:=hYa b h;omega
   exact(hXn b h).2
  ·
   rcases(hXn _ h).1 with h|h
   ·exact hnl h
   omega
  rcases(hXn _ h).1 with h|h
  ·exact hnd h
  omega
 refine(hseq (N+1)
  (fun pre W X=>(∃Y,I pre W Y∧(∀b,X b→Y b)∧(∀b,Y b→b<W.heap.size)∧Y (N+1)∧Y N)∧W.heap[N+1]? = some (.loop (rec .ready none))∧W.heap[N]? = some (.deferred (some []))∧¬X (N+1)∧¬X N)
  (fun pre W X=>∃c,(∃Y,Ix c pre W Y∧(∀b,X b→Y b)∧(∀b,Y b→b<W.heap.size)∧Y (N+1)∧Y N)∧W.heap[N+1]? = some (.loop (rec .done (some c)))∧W.heap[N]? = some (.deferred (some []))∧¬X (N+1)∧¬X N)
  W1 (fun _=>False) (hM1 _) (fun _ h=>h.elim) (fun s W W' X X' h=>key .ready none (I s) (hI s) W W' X X' h)
  (fun s W W' X X' ⟨c,h⟩ hm h1 h2=>⟨c,key .done (some c) (Ix c s) (hIx c s) W W' X X' h hm h1 h2⟩)
  ?_ ⟨⟨fun b=>X0 b∨b=N∨b=N+1,hI _ _ _ X0 _ h0 (hM1 _) (fun b h=>.inl h) (fun b h=>?_),fun _ h=>h.elim,fun b h=>?_,.inr (.inr rfl),.inr (.inl rfl)⟩,hL1,hK1,fun h=>h,fun h=>h⟩).mono ?_
 rotate_left
 ·
  rw[hz1];rcases h with h|rfl|rfl
  ·exact⟨.inl h,by have:=hX0 b h;omega⟩
  ·exact⟨.inr oM,by omega⟩
  exact⟨.inr oM,by omega⟩
 ·
  rw[hz1];rcases h with h|rfl|rfl
  ·have:=hX0 b h;omega
  ·omega
  omega
 ·
  rintro e W2 ⟨⟨v,rfl⟩,X',_,(⟨ys,hys,⟨Y,hi,hXY,hYa,hYl,hYd⟩,hl,hk,hnl,hnd⟩|⟨pre,hpre,c,⟨Y,hi,hXY,hYa,hYl,hYd⟩,hl,hk,hnl,hnd⟩)⟩;all_goals
   have hlt:N+1<W2.heap.size:=(Array.getElem?_eq_some_iff.1 hl).1;have hput:∀o,Mod Y W2 (W2.putObj (N+1) o):=fun o=>(fE9 W2 (N+1) o).mono (fun b h=>by rw[h];exact hYl)
   have hal:∀o b,Y b→(Y b∨W2.heap.size≤b)∧b<(W2.putObj (N+1) o).heap.size:=fun o b h=>⟨.inl h,by have:=hYa b h;have:=(hput o).size;omega⟩
  ·refine⟨none,_,by have:=run_endLoop (P:=P) hl (by rw[hrec];simp);rw[hrec] at this;exact this,?_⟩;exact hdone N _ Y oM hYd ys hys (hI _ _ _ _ _ hi (hput _) (fun _ h=>h) (hal _)) ((World.putObj_heap_other oM).trans hk)
  refine⟨some c,_,by have:=run_endLoop (P:=P) hl (by rw[hrec];simp);rw[hrec] at this;exact this,?_⟩;exact hstop N c pre _ Y oM hYd hpre (hIx c _ _ _ _ _ hi (hput _) (fun _ h=>h) (hal _)) ((World.putObj_heap_other oM).trans hk)
 rintro pre x W X1 ⟨⟨Y,hi,hXY,hYa,hYl,hYd⟩,hl,hk,hnl,hnd⟩ _ _ hpre;have hy:=run_yield (P:=P) (args:=#[enc x]) hl (by rw[hrec];rfl);rw[hrec] at hy;refine⟨fn,_,assign,body,hy,roundIn_of_wpIn hfn (hassign _ pre x W Y _ hi hYl hYa ?_)⟩;clear hy;intro a' Wa hma hax;have hsa:=hma.size;have hlt0:N+1<W.heap.size:=(Array.getElem?_eq_some_iff.1 hl).1;have hla:Wa.heap[N+1]? = some (.loop (rec .ready none)):=(hma.block _ hlt0 (fun h=>h)).trans hl;have hka:Wa.heap[N]? = some (.deferred (some [])):=(hma.block _ oM (fun h=>h)).trans hk;have hia:I pre Wa Y:=hI _ _ _ _ _ hi (hma.mono (fun _ h=>h.elim)) (fun _ h=>h) (fun b h=>⟨.inl h,by have:=hYa b h;omega⟩);refine⟨_,run_beginRound hla (by rw[hrec]),?_⟩;obtain⟨Wb,hWb⟩:∃Wb,Wa.putObj (N+1) (.loop {rec .ready none with state:=.busy})=Wb:=⟨_,rfl⟩
 have hmb:Mod (fun b=>b=N+1) Wa Wb:=by rw[←hWb];exact fE9 _ _ _
 have hsb:=hmb.size;have hlb:Wb.heap[N+1]? = some (.loop {rec .ready none with state:=.busy}):=by rw[←hWb];exact World.putObj_heap_same oM
 have hkb:Wb.heap[N]? = some (.deferred (some [])):=(hmb.block _ oM oM).trans hka;have hmY:Mod Y Wa Wb:=hmb.mono (fun b h=>by rw[h];exact hYl);have halb:∀b,Y b→(Y b∨Wa.heap.size≤b)∧b<Wb.heap.size:=fun b h=>⟨.inl h,by have:=hYa b h;omega⟩
 rw[hWb];refine wpIn_mono (hbody _ pre x a' Wb Y hYl (fun b h=>(halb b h).2) (hI _ _ _ _ _ hia hmY (fun _ h=>h) halb) (hAx x a' () _ _ _ _ hax hmY (fun _ h=>h) halb) hpre) ?_;have fin:∀(G:World→(Nat→Prop)→Prop),(∀W W' X X',G W X→Mod X W W'→(∀b,X b→X' b)→(∀b,X' b→(X b∨W.heap.size≤b)∧b<W'.heap.size)→G W' X')→∀(jump:Option Code) (W3:World),Kp R Y Wb W3→G W3 Y →
   ∃W4,(Instr.endRound (N+1) jump).run P W3 =.ok (.bool jump.isNone) W4∧Kp R X1 W W4 ∧
    ((∃Y,G W4 Y∧(∀b,X1 b→Y b)∧(∀b,Y b→b<W4.heap.size)∧Y (N+1)∧Y N)∧W4.heap[N+1]? = some (.loop (rec (if jump.isNone then .ready else .done) jump))∧W4.heap[N]? = some (.deferred (some []))∧¬X1 (N+1)∧¬X1 N):=by
  intro G hG jump W3 hk3 hg3;have hs3:=hk3.size;have hl3:W3.heap[N+1]? = some (.loop {rec .ready none with state:=.busy}):=(hk3.block _ oM (fun h=>h (.inr hYl))).trans hlb;have hkd3:W3.heap[N]? = some (.deferred (some [])):=(hk3.block _ oM (fun h=>h (.inr hYd))).trans hkb;have hrun:=run_endRound (P:=P) jump hl3;obtain⟨W4,hW4⟩:∃W4,W3.putObj (N+1) (.loop (rec (if jump.isNone then .ready else .done) jump))=W4:=⟨_,rfl⟩
  have hm4:Mod (fun b=>b=N+1) W3 W4:=by rw[←hW4];exact fE9 _ _ _
  have hs4:=hm4.size;have hnR:¬(R (N+1)∨X1 (N+1)):=by
   rintro(h|h)
   ·have:=hR _ h;omega
   exact hnl h
  refine⟨W4,by rw[←hW4,hrec];rw[hrec] at hrun;exact hrun,?_,⟨Y,hG _ _ _ _ hg3 (hm4.mono (fun b h=>by rw[h];exact hYl)) (fun _ h=>h) (fun b h=>⟨.inl h,by have:=hYa b h;omega⟩),hXY,fun b h=>by have:=hYa b h;omega,hYl,hYd⟩,by rw[←hW4];exact World.putObj_heap_same oM,(hm4.block _ oM oM).trans hkd3,hnl,hnd⟩;have k1:Kp R X1 W Wa:=hma.mono (fun _ h=>h.elim);have k2:Kp R X1 Wa Wb:=hmb.mono (fun b h=>by rw[h];exact hnR);have k3:Kp R X1 Wb W3:=hk3.mono (fun b h=>fun hn=>h (Or.imp id (hXY b) hn));have k4:Kp R X1 W3 W4:=hm4.mono (fun b h=>by rw[h];exact hnR);exact((k1.trans k2).trans k3).trans k4
 rintro e a3 W3 hp;cases e with
 | normal=>
  obtain⟨hk3,hi3⟩:=hp;obtain⟨W4,hr,hkp,hj⟩:=fin (I (pre++[x])) (hI _) none W3 hk3 hi3;exact⟨_,W4,hr,.inl ⟨rfl,hj,hkp⟩⟩
 | ret=>
  obtain⟨hk3,hi3⟩:=hp;obtain⟨W4,hr,hkp,hj⟩:=fin (Ix .ret (pre++[x])) (hIx _ _) (some .ret) W3 hk3 hi3;exact⟨_,W4,hr,.inr ⟨rfl,⟨_,hj⟩,hkp⟩⟩
 | exit id=>
  obtain⟨hk3,hi3⟩:=hp;obtain⟨W4,hr,hkp,hj⟩:=fin (Ix (.exit id) (pre++[x])) (hIx _ _) (some (.exit id)) W3 hk3 hi3;exact⟨_,W4,hr,.inr ⟨rfl,⟨_,hj⟩,hkp⟩⟩
 | goto t=>
  obtain⟨hk3,hi3⟩:=hp;obtain⟨W4,hr,hkp,hj⟩:=fin (Ix (.goto t) (pre++[x])) (hIx _ _) (some (.goto t)) W3 hk3 hi3;exact⟨_,W4,hr,.inr ⟨rfl,⟨_,hj⟩,hkp⟩⟩
 | panic ch=>exact hp.elim
 | outgrown=>exact hp.elim
end
section
open Go.Shelf
attribute [local go_sem] Oper.semAt_some
theorem Mod.frz {F:Nat→Prop} {w w':World} (h:Mod F w w') {a:Addr} (hl:a.block<w.heap.size) (hn:¬F a.block):w'.frozen? a=w.frozen? a:=World.frozen?_of_block (h.block a.block hl hn)
abbrev K3:=Int × Int × Int
def encK (x:K3):Value:=kv x.1 x.2.1 x.2.2
def keyC (x:K3):List Value:=[.int .i64 x.1,.int .i64 x.2.1,.int .i64 x.2.2]
def zI (xs:List K3):List Value:=xs.flatMap keyC
theorem fQr (xs:List K3) (l:K3):zI (xs++[l])=zI xs++keyC l:=by simp[zI]
theorem fOn (l:K3):∀u ∈ keyC l,u.oneCell'=true:=by
 intro u hu;simp only[keyC,List.mem_cons,List.not_mem_nil,or_false] at hu;rcases hu with rfl|rfl|rfl <;> rfl
def yF (w:World) (b o:Nat) (x:K3):Prop:=w.cell? ⟨b,o,none⟩=some (.int .i64 x.1)∧w.cell? ⟨b,o+1,none⟩=some (.int .i64 x.2.1)∧w.cell? ⟨b,o+2,none⟩=some (.int .i64 x.2.2)
theorem fQq {w:World} {b o:Nat} {l:K3} (h:yF w b o l):∀j u,(keyC l)[j]? = some u→w.cell? ((⟨b,o,none⟩:Addr).add j)=some u:=by
 obtain⟨h0,h1,h2⟩:=h;intro j u hj;match j,hj with
 | 0,hj=>simp[keyC] at hj;subst hj;simpa [Addr.add] using h0
 | 1,hj=>simp[keyC] at hj;subst hj;simpa [Addr.add] using h1
 | 2,hj=>simp[keyC] at hj;subst hj;simpa [Addr.add] using h2
 | j+3,hj=>simp[keyC] at hj
theorem fVf:(Tryz.prog.info? 254).map (fun i=>(i.zero,i.size,i.bytes))=some (some (.agg #[.int .i64 0,.int .i64 0,.int .i64 0]),3,24):=kF
def fV4 (lo:Nat) (mk:Nat→Act) (x:K3) (a':Act) (W:World) (Y:Nat→Prop):Prop:=∃B,lo≤B∧B<W.heap.size∧yF W B 0 x∧¬Y B∧a'=mk B
theorem fPk (lo:Nat) (mk:Nat→Act) (x:K3) (a':Act):Stb (fun (_:Unit)=>fV4 lo mk x a'):=by
 rintro _ W W' Y Y' ⟨B,hlo,hB,hr,hY,e⟩ hm hYY hYn;have hs:=hm.size;refine⟨B,hlo,by omega,⟨hm.cell hr.1 hY,hm.cell hr.2.1 hY,hm.cell hr.2.2 hY⟩,fun h=>?_,e⟩;rcases(hYn B h).1 with h3|h3
 ·exact hY h3
 omega
def KclC (C:List Value) (k T L0:Nat) (w W:World) (Y:Nat→Prop) (v:Value):Prop:=
 W.cell? ⟨T,0,none⟩=some v∧W.ownsRow L0 254 3 v k C∧(∀b,v.ownBlock=some b→¬Y b)∧(∀b,b≤T→¬Y b)∧L0≤W.heap.size∧W.frozen? ⟨T,0,none⟩=false∧Below T w W
theorem fUh {C:List Value} {k T L0:Nat} {w W W':World} {Y Y' F:Nat→Prop} {v:Value} (hTL:T<L0) (h:KclC C k T L0 w W Y v) (hm:Mod F W W') (hF:∀b,b≤T→¬F b) (hFv:∀b,v.ownBlock=some b→¬F b)
  (hY:∀b,b≤T→¬Y' b) (hYv:∀b,v.ownBlock=some b→¬Y' b):KclC C k T L0 w W' Y' v:=by
 obtain⟨h1,h2,h3,h4,h5,h9,h10⟩:=h;have hs:=hm.size;refine⟨hm.cell h1 (hF _ (Nat.le_refl _)),hm.owns h2 hFv,hYv,hY,by omega,(hm.frz (a:=⟨T,0,none⟩) (by dsimp only;omega) (hF _ (by dsimp only;omega))).trans h9,?_⟩;exact⟨hm.os.trans h10.os,hm.tape.trans h10.tape,hm.output.trans h10.output,Nat.le_trans h10.size hs,fun b hb=>(hm.block b oM (hF b oM)).trans (h10.block b hb)⟩
def KclI (T L0:Nat) (w:World) (pre:List K3) (W:World) (Y:Nat→Prop):Prop:=∃v,KclC (zI pre) pre.length T L0 w W Y v
theorem fUi {T L0:Nat} {w:World} (hTL:T<L0):Stb (KclI T L0 w):=by
 rintro pre W W' Y Y' ⟨v,h⟩ hm hYY hYn;have h':=h;obtain⟨h1,h2,h3,h4,h5,h9,h10⟩:=h';refine⟨v,fUh hTL h hm h4 h3 (fun b hb h2=>?_) (fun b hb hy=>?_)⟩
 ·
  rcases(hYn b h2).1 with h3|h3
  ·exact h4 b hb h3
  omega
 rcases(hYn b hy).1 with h|h
 ·exact h3 b hb h
 have:=(h2.lt b hb).2;omega
theorem fNu {C:List Value} {k T L0:Nat} {w W w5:World} {Y:Nat→Prop} {v:Value} {o:Obj} (hTL:T<L0) (h:KclC C k T L0 w W Y v) (hg:(W.alloc o).grownBy w5 v.ownBlock) :
  w5.cell? ⟨T,0,none⟩=some v∧w5.frozen? ⟨T,0,none⟩=false∧Mod (fun b=>v.ownBlock=some b) W w5:=by
 obtain⟨h1,h2,h3,h4,h5,h9,h10⟩:=h;have hm:Mod (fun b=>v.ownBlock=some b) W w5:=(uV _ W o).trans (Mod.of_grown hg);have hn:¬v.ownBlock=some T:=fun e=>by have:=(h2.lt T e).1;omega
 exact⟨hm.cell h1 hn,(hm.frz (a:=⟨T,0,none⟩) (by dsimp only;omega) hn).trans h9,hm⟩
theorem fUg {C news:List Value} {k m T L0:Nat} {w W w5:World} {Y:Nat→Prop} {v v':Value} {o:Obj} (hTL:T<L0) (h:KclC C k T L0 w W Y v) (hg:(W.alloc o).grownBy w5 v.ownBlock)
  (ho:w5.ownsRow L0 254 3 v' (k+m) (C++news)) (hv:v'.ownBlock=v.ownBlock∨v'.ownBlock=some (W.alloc o).heap.size) (hYa:∀b,Y b→b<W.heap.size) :
  KclC (C++news) (k+m) T L0 w (w5.setCell ⟨T,0,none⟩ v') Y v'∧Mod (fun b=>b=T∨v.ownBlock=some b) W (w5.setCell ⟨T,0,none⟩ v'):=by
 obtain⟨c1,c2,hm⟩:=fNu hTL h hg;obtain⟨h1,h2,h3,h4,h5,h9,h10⟩:=h;have hset:Mod (fun b=>b=T) w5 (w5.setCell ⟨T,0,none⟩ v'):=Mod.of_set w5 ⟨T,0,none⟩ v';have hM:Mod (fun b=>b=T∨v.ownBlock=some b) W (w5.setCell ⟨T,0,none⟩ v'):=(hm.mono (fun b h=>.inr h)).trans (hset.mono (fun b h=>.inl h));have hlow:∀b,b<T→¬(b=T∨v.ownBlock=some b):=by
  rintro b hb (h|h)
  ·omega
  have:=(h2.lt b h).1;omega
 have hs:=hM.size;refine⟨⟨vO c1,pI ho (by dsimp only;exact hTL) _,fun b hb hy=>?_,h4,by omega,by rw[World.frozen?_setCell];exact c2,
  ⟨hM.os.trans h10.os,hM.tape.trans h10.tape,hM.output.trans h10.output,Nat.le_trans h10.size hs,fun b hb=>(hM.block b oM (hlow b oM)).trans (h10.block b hb)⟩⟩,hM⟩
 rcases hv with hv|hv
 ·rw[hv] at hb;exact h3 b hb hy
 rw[hv] at hb;cases hb;have:=hYa _ hy;simp at this;omega
def NoK (c:Code) (pre:List K3) (W:World) (Y:Nat→Prop):Prop:=False
theorem fWf (c:Code):Stb (NoK c):=fun _ _ _ _ _ h _ _ _=>h
theorem fO6 {α:Type} {P:Program} {g:Nat} {lb:Array Value} {enc:α→Value} {Ok Dn:List α→Prop} {R:Nat→Prop} {w w':World} (h:Seqy P g lb enc Ok Dn R w) (hm:Mod (fun k=>¬R k) w w'):Seqy P g lb enc Ok Dn R w':=
 fun l J Jx W X h1 h2 h3 h4 h5 h6=>h l J Jx W X (hm.trans h1) h2 h3 h4 h5 h6
theorem fF7 (gf:Nat) (lb:Array Value) (Ok Dn:List K3→Prop) (R:Nat→Prop) (w:World) (eg:∀args w,(callFunc gf args).run Tryz.prog w =.ok (.enter gf args) w) (hseq:Seqy Tryz.prog gf lb encK Ok Dn R w) (hR:∀b,R b→b<w.heap.size) (hlen:∀ys,Ok ys→ys.length≤200) :
  Calls Tryz.prog 251 #[.slice none 0 0,.func (.func gf) #[] lb] w fun e w'=>∃v xs,e =.returned v∧Dn xs∧w'.ownsRow w.heap.size 254 3 v xs.length (zI xs)∧Below w.heap.size w w':=by
 obtain⟨i0,hi,hz0,hz1,hz2⟩:=info_parts fVf;refine(callsIn_wide (n:=0)).1 ?_;refine callsIn_of_wp_marks Tryz.func251 rfl trivial ?_ rfl;simp only[Tryz.ntmps251,List.size_toArray,List.length_cons,List.length_nil,Nat.reduceAdd,Nat.reduceSub,Array.replicate_succ,Array.replicate_zero,List.push_toArray,List.append_toArray,List.nil_append,List.cons_append];gi_wp2;have acc:KclC (zI []) 0 w.heap.size (w.heap.size+1) w (w.alloc (.cells #[.slice none 0 0] 256)) (fun _=>False) (.slice none 0 0):=
  ⟨sG,World.ownsRow_nil _ _ _ _,fun _ _ h=>h,fun _ _ h=>h,by simp,by simp[go_sem],qBq⟩
 have hseq2:=fO6 hseq (uV (fun k=>¬R k) w (.cells #[.slice none 0 0] 256));have hRa:∀b,R b→b<(w.alloc (.cells #[.slice none 0 0] 256)).heap.size:=fun b h=>by have:=hR b h;simp;omega
 have HR:Hid (∀b,R b→b<w.heap.size):=hR;have HLE:Hid (∀ys,Ok ys→ys.length≤200):=hlen;have hsz:(w.alloc (.cells #[.slice none 0 0] 256)).heap.size=w.heap.size+1:=by simp
 have HSZ:Hid ((w.alloc (.cells #[.slice none 0 0] 256)).heap.size=w.heap.size+1):=hsz;clear hsz hR hseq;generalize w.alloc (.cells #[.slice none 0 0] 256)=W0 at *;obtain⟨T,hTT⟩:∃T,w.heap.size=T:=⟨_,rfl⟩
 have HTT:Hid (w.heap.size=T):=hTT;rw[hTT] at acc HR HSZ ⊢;clear hTT;obtain⟨L0,hL0⟩:∃L,T+1=L:=⟨_,rfl⟩
 rw[hL0] at acc HSZ;have hTL:T<L0:=oM;refine fLp (gf:=gf) rfl eg hseq2 hRa (KclI T L0 w) NoK (fUi hTL) fWf (fun _=>False) (fun _ h=>h.elim) ⟨_,acc⟩
  (fun x=>fV4 L0 (fun B=>{tmps:=#[.slice none 0 0,.func (.func gf) #[] lb,.pointer (some ⟨T,0,none⟩),undef,.slice none 0 0,.pointer (some ⟨B,0,none⟩),.func (.func gf) #[] lb,.agg #[.int .i64 x.1,.int .i64 x.2.1,.int .i64 x.2.2],undef,undef,undef,undef,undef],defers:=[]}) x)
  (fun x a'=>fPk _ _ x a') ?assign ?body ?done ?stop
 case assign=>
  rintro l2 pre x W3 Y K ⟨_,ha⟩ hYl hYa hK;unfold encK kv;gi_wp2;refine hK _ _ (uV _ _ _) ⟨W3.heap.size,ha.2.2.2.2.1,by simp,by unfold yF;simp[go_sem],fun h=>?_,rfl⟩;have:=hYa _ h;omega
 case body=>
  rintro l2 pre x a' W3 Y hYl hYa ⟨vv,ha⟩ ⟨B,hlo,hB,hr,hYB,rfl⟩ hpre;have hle:pre.length≤200:=by have:=HLE.out _ hpre;rw[List.length_append] at this;omega
  obtain⟨r0,r1,r2⟩:=hr;simp only[Nat.zero_add] at r1 r2;have HP:Hid ((pre++[x]).length=pre.length+1∧zI (pre++[x])=zI pre++keyC x):=⟨by simp,fQr _ _⟩;have ha':=ha;obtain⟨a1,a2,a3,a4,a5,a9,a10⟩:=ha;obtain⟨ys,hys⟩:∃ys,zI pre=ys:=⟨_,rfl⟩
  obtain⟨m,hm⟩:∃m,pre.length=m:=⟨_,rfl⟩
  rw[hys,hm] at a2 HP ha';rw[hm] at hle;clear hys hm;obtain⟨av,cv,rfl⟩:=fD a2;have hzT:=wL _ _ a1;dsimp only at hzT;gi_wp2_with (gi_at_builtin;refine wpListIn_append_own_at _ rfl _ _ 256 rfl L0 254 i0 _ 3 24 Tryz.underlying256 hi hz0 hz1 hz2 rfl (by decide) _ _ _ rfl (a2.alloc _) ⟨W3.heap.size,0,none⟩ 1 1 (keyC x) rfl rfl ?c1 (fOn x) ?c3 ?c4 ?c5 ?_)
  case c1=>exact fQq (b:=W3.heap.size) (o:=0) ⟨sG,by simp[go_sem],sG⟩
  case c3=>unfold maxLen;omega
  case c4=>omega
  case c5=>simp;omega
  intro v' w5 hown' hgrow _ hown;obtain⟨g',cap',rfl⟩:=ownsRow_succ hown';obtain⟨b1,b9,_⟩:=fNu hTL ha' hgrow;obtain⟨hnew,hM⟩:=fUg hTL ha' hgrow hown' (by rw[World.size_alloc];exact hown) hYa;gi_wp2;refine⟨hM.mono (fun b h=>?_),.slice (some ⟨g',0,none⟩) (m+1) cap',?_⟩
  ·
   rcases h with rfl|h
   ·
    rintro(h2|h2)
    ·have:=HR.out _ h2;omega
    exact a4 _ (Nat.le_refl _) h2
   have:=(a2.lt b h).1;rintro(h2|h2)
   ·have:=HR.out _ h2;omega
   exact a3 b h h2
  rw[HP.out.1,HP.out.2];exact hnew
 case done=>
  rintro D W3 Y hD hYD xs hDn ⟨vv,ha⟩ hdef;obtain⟨a1,a2,a3,a4,a5,a9,a10⟩:=ha;obtain⟨av,cv,rfl⟩:=fD a2;have hsD:=HSZ.out;gi_wp2;refine⟨by simp,.inl ⟨_,_,rfl,run_takeDeferred hdef,?_⟩⟩;refine⟨.slice av xs.length cv,by simp[results,Tryz.results251,go_sem],?_⟩;have mp:Mod (fun b=>b=D) W3 (W3.putObj D (.deferred none)):=fE9 _ _ _;have hTT:=HTT.out;rw[hTT];refine⟨_,xs,rfl,hDn,rG (mp.owns a2 (fun b hb e=>a3 b hb (by rw[e];exact hYD))) oM,?_⟩;exact⟨mp.os.trans a10.os,mp.tape.trans a10.tape,mp.output.trans a10.output,Nat.le_trans a10.size mp.size,fun b hb=>(mp.block b (by have:=a10.size;omega) oM).trans (a10.block b hb)⟩
 case stop=>
  rintro D c pre W3 Y hD hYD hpre h hdef;exact h.elim
theorem fJy (gf:Nat) (lb:Array Value) (Ok Dn:List K3→Prop) (R:Nat→Prop) (w:World) (eg:∀args w,(callFunc gf args).run Tryz.prog w =.ok (.enter gf args) w) (hseq:Seqy Tryz.prog gf lb encK Ok Dn R w) (hR:∀b,R b→b<w.heap.size) (hlen:∀ys,Ok ys→ys.length≤200) :
  Calls Tryz.prog 241 #[.func (.func gf) #[] lb] w fun e w'=>∃v xs,e =.returned v∧Dn xs∧w'.ownsRow w.heap.size 254 3 v xs.length (zI xs)∧Below w.heap.size w w':=by
 have hc:=fF7 gf lb Ok Dn R w eg hseq hR hlen;clear eg hseq;go_enter Tryz.func241,Tryz.ntmps241;go_wp2_with fail;refine hc.mono ?_;rintro e w1 ⟨v,xs,rfl,hDn,ho,hb⟩;obtain⟨av,cv,rfl⟩:=fD ho;clear hc;go_wp2;go_ret;exact⟨_,xs,rfl,hDn,ho,hb⟩
end
section
open Go.Sort Go.Shelf
variable [dQ Rw] [iH Rw] [dQ Bal] [iH Bal] [dQ Ledg] [iH Ledg] [dQ Leg] [iH Leg]
def cfK (x y:K3):Int:=fAr (k3 x.1 x.2.1 x.2.2) (k3 y.1 y.2.1 y.2.2) 3
theorem fIz (x y:K3):ltOf cfK x y=true↔x.1<y.1∨(x.1=y.1∧(x.2.1<y.2.1∨(x.2.1=y.2.1∧x.2.2<y.2.2))):=by
 obtain⟨a,b,c⟩:=x;obtain⟨a',b',c'⟩:=y;unfold ltOf cfK;simp only[fAr,decide_eq_true_eq,show k3 a b c 0=a from rfl,show k3 a b c 1=b from rfl,show k3 a b c 2=c from rfl,show k3 a' b' c' 0=a' from rfl,show k3 a' b' c' 1=b' from rfl,show k3 a' b' c' 2=c' from rfl,if_true];unfold cmpI;by_cases h0:a<a'
 ·simp[h0]
 by_cases h1:a'<a
 ·simp[h0,h1];omega
 have e0:a=a':=oM;subst e0;by_cases h2:b<b'
 ·simp[h2]
 by_cases h3:b'<b
 ·simp[h2,h3];omega
 have e1:b=b':=oM;subst e1;by_cases h4:c<c'
 ·simp[h4]
 by_cases h5:c'<c
 ·simp[h4,h5]
 simp[h4,h5]
theorem swoK:SWO (ltOf cfK) where
 irrefl x:=by
  rw[←Bool.not_eq_true,fIz];omega
 trans x y z h1 h2:=by
  rw[fIz] at *;omega
 ntrans x y z h1 h2:=by
  rw[←Bool.not_eq_true,fIz] at *;omega
theorem fUx (blk off size:Nat) (w:World):CmpLays Tryz.prog 229 #[] keyC 3 cfK blk off size w:=by
 intro m os dk _ x y;refine(fD7 x.1 x.2.1 x.2.2 y.1 y.2.1 y.2.2 _).mono ?_;rintro e w' ⟨rfl,rfl⟩;refine⟨rfl,1,#[.cells #[.int .i64 x.1,.int .i64 x.2.1,.int .i64 x.2.2] 254,.cells #[.int .i64 y.1,.int .i64 y.2.1,.int .i64 y.2.2] 254],?_⟩;rw[alloc_eq_grow,alloc_eq_grow,grow_grow];rfl
theorem fSm (xs:List K3):∀i c,i<xs.length→c<3→(zI xs)[i*3+c]? = (keyC (xs.getD i default))[c]?:=by
 induction xs with
 | nil=>intro i c h;simp at h
 | cons x xs ih=>
  intro i c hi hc;have e:zI (x::xs)=keyC x++zI xs:=by simp[zI]
  have l3:(keyC x).length=3:=rfl;rw[e];cases i with
  | zero=>
   rw[List.getElem?_append_left oM];simp
  | succ i=>
   rw[List.getElem?_append_right oM,l3,show(i+1)*3+c-3=i*3+c by omega,ih i c (by simpa using hi) hc];simp
theorem fQd {w:World} {base g cap:Nat} {xs:List K3} (h:w.ownsRow base 254 3 (.slice (some ⟨g,0,none⟩) xs.length cap) xs.length (zI xs)):HoldsK keyC 3 w g 0 xs.toArray:=by
 intro j hj;simp only[size_flatK,List.size_toArray] at hj;have hd:j / 3<xs.length:=oM;have hm:j % 3<3:=oM;refine⟨?_,h.frozenAt _⟩;rw[Nat.zero_add,h.cellAt j hj,get_flatK keyC 3 xs.toArray j (by simpa using hj)];have e:=fSm xs (j / 3) (j % 3) hd hm;rw[show j / 3*3+j % 3=j by omega] at e;rw[e];have e2:xs.toArray[j / 3]! = xs.getD (j / 3) default:=by simp[List.getD,hd]
 rw[e2];generalize xs.getD (j / 3) default=x;have:j % 3=0∨j % 3=1∨j % 3=2:=oM;rcases this with h|h|h <;> rw[h] <;> rfl
theorem fFs (w:World) (base g m:Nat) (d:Array K3) (os:Array Obj) (hg:base≤g) (hb:base≤w.heap.size):Go.RowKit.Below base w (sortWorldK keyC 3 w g 0 m d os):=by
 refine⟨rfl,rfl,rfl,?_,fun i hi=>?_⟩
 ·simp[sortWorldK,grow,putRowK,putRow,mapBlock,Sort.ahead]
 simp only[sortWorldK,grow,putRowK,putRow,mapBlock,Sort.ahead];rw[Array.getElem?_append_left (by simp;omega),Array.getElem?_modify];rw[if_neg oM]
theorem fTz (ρ:Ren) (L:SlLaysF0.n6 Tryz.prog ρ) (hf:ρ.f 6=242) (ht:ρ.t 24=254) (xs:List K3) (g cap base:Nat) (W:World) (ho:W.ownsRow base 254 3 (.slice (some ⟨g,0,none⟩) xs.length cap) xs.length (zI xs)) (hbs:base≤W.heap.size) (hn:xs.length≤200) :
  Calls Tryz.prog 242 #[.slice (some ⟨g,0,none⟩) xs.length cap,.func (.func 229) #[] #[]] W fun e w'=>e =.returned (.tuple #[])∧∃ys:List K3,ys.Perm xs∧ys.Pairwise (fun p q=>ltOf cfK q p=false)∧(∀i,i<ys.length→yF w' g (i*3) (ys.getD i default))∧Go.RowKit.Below base W w':=by
 have eg:∀args w,(callFunc 229 args).run Tryz.prog w =.ok (.enter 229 args) w:=enters_of Tryz.func229 kF rfl
 have aE:∀w,(isAgg (ρ.t 24)).run Tryz.prog w =.ok true w:=fun w=>by rw[ht];exact Tryz.isAgg254 w
 have zE:∀w,(Go.sizeOf (ρ.t 24)).run Tryz.prog w =.ok 3 w:=fun w=>by rw[ht];exact Tryz.sizeOf254 w
 have hH:=fQd ho;have hg:=ho.lt g rfl;have hcon:=AnyQ.slices_SortFunc L 3 aE zE keyC (fun _=>rfl) fOn cfK swoK 229 #[] g 0 cap xs.toArray W eg (fUx g 0 _ W) hH hg.2 (by simp;omega);rw[hf] at hcon;simp only[List.size_toArray] at hcon;refine hcon.mono ?_;rintro e w' ⟨rfl,d',n,os,hp,hs,rfl⟩;obtain⟨hsz,_,hperm⟩:=hp;simp only[List.size_toArray] at hsz hperm;have hP:d'.toList.Perm xs:=by
  have e1:d'.extract 0 xs.length=d':=by rw[←hsz];simp
  have e2:xs.toArray.extract 0 xs.length=xs.toArray:=by simp
  rw[e1,e2] at hperm;exact hperm
 have hHo:HoldsK keyC 3 (sortWorldK keyC 3 W g 0 n d' os) g 0 d':=holdsK_grow (enc:=keyC) (k:=3) _ os g 0 d' (by simp[putRowK,putRow,mapBlock,Sort.ahead];exact hg.2) (holdsK_putRowK (enc:=keyC) (k:=3) (Sort.ahead W n) g 0 xs.toArray d' (holdsK_ahead (enc:=keyC) (k:=3) W n g 0 _ hH) (by simp[hsz]));refine⟨rfl,d'.toList,hP,?_,fun i hi=>?_,fFs W base g n d' os hg.1 hbs⟩
 ·rw[List.pairwise_iff_getElem];intro i j hi hj hij;simp only[Array.length_toList] at hi hj;have:=hs i j (Nat.zero_le _) hij oM;simpa [hi,hj] using this
 simp only[Array.length_toList] at hi;have e:d'.toList.getD i default=d'[i]!:=by simp[List.getD,hi]
 rw[e];have c0:=(hHo.cell hi (c:=0) oM).1;have c1:=(hHo.cell hi (c:=1) oM).1;have c2:=(hHo.cell hi (c:=2) oM).1;simp only[Nat.zero_add,Nat.add_zero] at c0 c1 c2;generalize d'[i]! = x at *;exact⟨c0,c1,c2⟩
end
section
variable [dQ Bal] [iH Bal] [dQ Ledg] [iH Ledg] [dQ Leg] [iH Leg]
def getB (a t:Int):List Bal→Option Int
 | []=>none
 | x::r=>if x.ac=a∧x.ast=t then some x.am else getB a t r
theorem fBf (a t:Int):∀xs:List Bal,hasB a t xs=(getB a t xs).getD 0
 | []=>rfl
 | x::r=>by
  simp only[hasB,getB];split
  ·rfl
  exact fBf a t r
theorem fEg (a t:Int):∀(l r:List Bal),getB a t (l++r)=(getB a t l).or (getB a t r)
 | [],r=>by simp[getB]
 | x::l,r=>by
  simp only[List.cons_append,getB];split
  ·simp
  exact fEg a t l r
theorem fKa {a t:Int}:∀{xs:List Bal},(∀k,k<xs.length→¬((xs.getD k default).ac=a∧(xs.getD k default).ast=t))→getB a t xs=none
 | [],_=>rfl
 | x::r,h=>by
  have h0:=h 0 (by simp);simp only[List.getD_cons_zero] at h0;simp only[getB,if_neg h0];exact fKa (fun k hk=>by have:=h (k+1) (by simpa using hk);simpa only[List.getD_cons_succ] using this)
theorem fPc (xs:List Bal) (k:Nat) (h:k<xs.length):xs.take (k+1)=xs.take k++[xs.getD k default]:=by
 rw[List.take_add_one];simp[List.getD,h]
theorem rising {xs:List Bal} (h:BalsOk xs) {i:Nat}:∀{j:Nat},i<j→j<xs.length→(xs.getD i default).ac*3+(xs.getD i default).ast<(xs.getD j default).ac*3+(xs.getD j default).ast
 | 0,hij,_=>oM
 | j+1,hij,hj=>by
  have h1:=h.ord j hj;have hb:=fGu (b:=xs.getD (j+1) default) (a:=xs.getD j default) (yV (h.ok _ hj)) (yV (h.ok _ oM));have h2:(xs.getD j default).ac*3+(xs.getD j default).ast<(xs.getD (j+1) default).ac*3+(xs.getD (j+1) default).ast:=by
   refine Int.not_le.1 (fun h=>?_);rw[hb.2 h] at h1;cases h1
  by_cases e:i=j
  ·subst e;exact h2
  have:=rising h (i:=i) (j:=j) oM oM;omega
theorem fQa {xs:List Bal} {k j:Nat} (h:j<k):(xs.take k).getD j default=xs.getD j default:=by
 simp[List.getD,h]
theorem fP9 {xs:List Bal} (h:BalsOk xs) {j:Nat} (hj:j<xs.length):getB (xs.getD j default).ac (xs.getD j default).ast (xs.take j)=none:=by
 apply fKa;intro k hk;have hk':k<j:=by rw[List.length_take] at hk;omega
 rw[fQa hk'];have:=rising h hk' hj;rintro⟨e1,e2⟩;rw[e1,e2] at this;omega
def fDh (g:List (List Bal)) (i j:Nat) (s a t:Int):Option Int:=if 0≤s∧s<i then getB a t (g.getD s.toNat default) else if s=i then getB a t ((g.getD i default).take j) else none
def kY (g:List (List Bal)) (s a t:Int):Option Int:=if 0≤s∧s<g.length then getB a t (g.getD s.toNat default) else none
theorem fLz (g:List (List Bal)) (s a t:Int):fDh g 0 0 s a t=none:=by
 unfold fDh;rw[if_neg oM];split
 ·rfl
 rfl
theorem fPs {g:List (List Bal)} {i j:Nat} (h:BalsOk (g.getD i default)) (hj:j<(g.getD i default).length) (s a t:Int) :
  fDh g i (j+1) s a t=upd3 (fDh g i j) i ((g.getD i default).getD j default).ac ((g.getD i default).getD j default).ast (some ((g.getD i default).getD j default).am) s a t:=by
 have hf:=fP9 h hj;unfold upd3 fDh;rw[fPc _ _ hj,fEg];by_cases hs:0≤s∧s<(i:Int)
 ·rw[if_pos hs,if_neg (by rintro⟨rfl,_⟩;omega),if_pos hs]
 rw[if_neg hs,if_neg hs];by_cases e:s=i
 ·
  rw[if_pos e,if_pos e];by_cases e2:a=((g.getD i default).getD j default).ac∧t=((g.getD i default).getD j default).ast
  ·rw[if_pos ⟨e,e2.1,e2.2⟩,e2.1,e2.2,hf];simp[getB]
  rw[if_neg (fun h=>e2 h.2)];simp only[getB];rw[if_neg (fun h=>e2 ⟨h.1.symm,h.2.symm⟩)];simp
 rw[if_neg e,if_neg e,if_neg (fun h=>e h.1)]
theorem fPr (g:List (List Bal)) (i:Nat) (s a t:Int):fDh g (i+1) 0 s a t=fDh g i (g.getD i default).length s a t:=by
 unfold fDh;rw[List.take_length];by_cases e:s=i
 ·subst e;rw[if_pos oM,if_neg oM,if_pos rfl];simp
 by_cases hs:0≤s∧s<(i:Int)
 ·rw[if_pos oM,if_pos hs]
 rw[if_neg oM,if_neg hs,if_neg e];split
 ·rfl
 rfl
theorem fR0 (g:List (List Bal)) (s a t:Int):kY g s a t=fDh g g.length 0 s a t:=by
 unfold fDh kY;split
 ·rfl
 split
 ·rfl
 rfl
end
section
variable [dQ Bal] [iH Bal] [dQ Ledg] [iH Ledg] [dQ Leg] [iH Leg]
theorem fKn (s a t:Int) (w:World):RI 233 #[.int .i64 s,.int .i64 a,.int .i64 t] w (kv s a t):=by
 go_enter Tryz.func233,Tryz.ntmps233;go_wp2;refine bodyPost_ret (v:=.agg #[.int .i64 s,.int .i64 a,.int .i64 t]) (by simp[results,Tryz.results233,go_sem]) rfl ⟨rfl,qBq⟩
structure BkC (W:World) (B n:Nat):Prop where
 res:W.heap[B+1]? = some (.cells #[.int .i64 0,.map none] 227)
 bk:W.heap[B+1+1+1]? = some (.cells #[.int .i64 n,.map (some (B+1+1))] 227)
theorem fBn {W:World} {b:Nat} {o:Obj} (h:W.heap[b]? = some o):b<W.heap.size:=by
 rcases Nat.lt_or_ge b W.heap.size with h'|h'
 ·exact h'
 rw[Array.getElem?_eq_none h'] at h;cases h
theorem fOi {w:World} {o:Obj} {b:Nat} (h:b=w.heap.size):(w.alloc o).heap[b]? = some o:=by rw[h];exact(MapKept.heap_alloc w o).1
theorem fOj {w:World} {o:Obj} {b:Nat} (h:b<w.heap.size):(w.alloc o).heap[b]? = w.heap[b]?:=(MapKept.heap_alloc w o).2 b h
theorem BkC.below {W W':World} {B n:Nat} (h:BkC W B n) (hb:Below W.heap.size W W'):BkC W' B n:=
 ⟨(hb.block _ (fBn h.res)).trans h.res,(hb.block _ (fBn h.bk)).trans h.bk⟩
theorem BkC.grown {W W':World} {B n:Nat} (h:BkC W B n) (hg:W.grownBy W' (some (B+1+1))):BkC W' B n:=
 ⟨(hg.block _ (fBn h.res) (by simp)).trans h.res,(hg.block _ (fBn h.bk) (by simp)).trans h.bk⟩
theorem cellOf {W:World} {b t:Nat} {cs:Array Value} (h:W.heap[b]? = some (.cells cs t)) (i:Nat):W.cell? ⟨b,i,none⟩=cs[i]?:=by
 simp[World.cell?,h]
theorem unfrozen {W:World} {b t:Nat} {cs:Array Value} (h:W.heap[b]? = some (.cells cs t)) (i:Nat):W.frozen? ⟨b,i,none⟩=false:=by
 simp[World.frozen?,h]
theorem fPq (x:Value) (g:Ledg) (w:World) (hx:ledgR.V w x g) (h0:tJ g=0) :
  Calls Tryz.prog 213 #[x] w fun e w'=>∃b,e =.returned (.agg #[.int .i64 g.shards.length,.map (some b)])∧w.heap.size≤b∧Book w' b 54 (kY g.shards)∧Below w.heap.size w w':=by
 obtain⟨hl1,hl3,hok⟩:=fDt h0;obtain⟨u,rfl,ax,cx,rfl,hcx,hmx,hxx⟩:=hx;unfold maxLen at hmx;have HOK:Hid (∀k,k<g.shards.length→BalsOk (g.shards.getD k default)):=hok;clear hok h0;generalize hn':g.shards.length=n at *;have HN:Hid (g.shards.length=n):=hn';clear hn';have hmm:=@run_makeMap Tryz.prog;go_enter Tryz.func213,Tryz.ntmps213;go_wp2;go_loopw [16] (fun i w'=>∃k:Nat,k≤n∧i =.int .i64 k∧Book w' (w.heap.size+1+1) (k*18) (fDh g.shards k 0)∧BkC w' w.heap.size n∧Below w.heap.size w w') (fun i _=>n-(intOf i).toNat)
 case atStart=>
  refine⟨0,oM,rfl,?_,⟨?_,?_⟩,qBq⟩
  ·have h1:=fR1 ((w.alloc (Obj.cells #[Value.slice ax n cx] 234)).alloc (Obj.cells #[Value.int IntKind.i64 0,Value.map none] 227));simp only[World.size_alloc] at h1;exact(h1.below (bA (bR _ _) _)).cast (fun s a t _=>fLz _ _ _ _)
  ·exact(fOj (by simp)).trans ((fOj (by simp)).trans (fOi (by simp)))
  exact fOi (by simp)
 obtain⟨k,hk,rfl,hB,hC,hbl⟩:=hrel;by_cases hlt:k<n
 ·
  obtain⟨bx,ox,u,rfl,_,hc,hu⟩:=hxx k hlt;have c1:=cK hbl (fR5 hc);have hb0:BalsOk (g.shards.getD k default):=HOK.out k hlt;have HB0:Hid (BalsOk (g.shards.getD k default)):=hb0;clear hc hxx hb0;obtain⟨l,hl⟩:∃l,l=g.shards.getD k default:=⟨_,rfl⟩
  rw[←hl] at hu;have HL:Hid (l=g.shards.getD k default):=hl;clear hl;obtain⟨a',c',rfl,hcc,hmc,hu⟩:=hu;unfold maxLen at hmc;have hl18:l.length≤18:=by rw[HL.out];exact HB0.out.len
  generalize hm':l.length=m at *;have HM:Hid (l.length=m):=hm';clear hm';go_wp2;go_loopw [23] (fun i w'=>∃j:Nat,j≤m∧i =.int .i64 j∧Book w' (w.heap.size+1+1) (k*18+j) (fDh g.shards k j)∧BkC w' w.heap.size n∧Below w.heap.size w w') (fun i _=>m-(intOf i).toNat)
  case atStart=>exact⟨0,oM,rfl,hB,hC,hbl⟩
  obtain⟨j,hj,rfl,hB3,hC3,hb3⟩:=hrel;by_cases hlt3:j<m
  ·
   obtain⟨b5,o5,rfl,g1⟩:=hu j hlt3;obtain⟨q,hq⟩:∃q,q=l.getD j default:=⟨_,rfl⟩
   rw[←hq] at g1;have HQ:Hid (q=l.getD j default):=hq;have hqok:uO q=true:=by rw[hq,HL.out];exact HB0.out.ok j (by rw[←HL.out,HM.out];exact hlt3)
   clear hq hu;obtain⟨⟨⟨p1,p2⟩,p3,p4⟩,p5,p6⟩:=balOk_iff.1 hqok;have hw:kwf k q.ac q.ast:=⟨zP oM oM,zP oM oM,zP oM oM⟩;have hv:(Lit.int .i64 q.am).wf=true:=zP oM oM;obtain⟨e1,e2,e3⟩:=kI hb3 g1;have hlx:w.heap.size+1+1<wr.heap.size:=hB3.lt;have h0:Below w.heap.size w (wr.alloc (.cells #[.int .i64 q.ac,.int .i64 q.ast,.int .i64 q.am] 103))∧(wr.alloc (.cells #[.int .i64 q.ac,.int .i64 q.ast,.int .i64 q.am] 103)).cell? ⟨w.heap.size+1+1+1,1,none⟩=some (.map (some (w.heap.size+1+1)))∧(wr.alloc (.cells #[.int .i64 q.ac,.int .i64 q.ast,.int .i64 q.am] 103)).cell? ⟨wr.heap.size,0,none⟩=some (.int .i64 q.ac)∧(wr.alloc (.cells #[.int .i64 q.ac,.int .i64 q.ast,.int .i64 q.am] 103)).cell? ⟨wr.heap.size,1,none⟩=some (.int .i64 q.ast)∧(wr.alloc (.cells #[.int .i64 q.ac,.int .i64 q.ast,.int .i64 q.am] 103)).cell? ⟨wr.heap.size,2,none⟩=some (.int .i64 q.am):=
    ⟨qBq,cK (bA (bR _ _) _) ((cellOf hC3.bk 1).trans rfl),sG,by simp[go_sem],sG⟩
   have hBW:=hB3.below (bA (bR _ _) (.cells #[.int .i64 q.ac,.int .i64 q.ast,.int .i64 q.am] 103));have hCW:=hC3.below (bA (bR _ _) (.cells #[.int .i64 q.ac,.int .i64 q.ast,.int .i64 q.am] 103));have hnm:k*18+j<maxLen:=by unfold maxLen;omega
   have y1:some (w.heap.size+1+1+1)≠some (w.heap.size+1+1):=by simp
   have y2:some wr.heap.size≠some (w.heap.size+1+1):=by simp;omega
   have y3:w.heap.size≤w.heap.size+1+1:=oM;go_wp2;generalize hW:wr.alloc (.cells #[.int .i64 q.ac,.int .i64 q.ast,.int .i64 q.am] 103)=W at *;clear hW e1 e2 e3 g1 hB3 hC3 hb3 c1;go_region_held3 (fun w'=>Below w.heap.size w w'∧w'.cell? ⟨w.heap.size+1+1+1,1,none⟩=some (.map (some (w.heap.size+1+1)))∧w'.cell? ⟨wr.heap.size,0,none⟩=some (.int .i64 q.ac)∧w'.cell? ⟨wr.heap.size,1,none⟩=some (.int .i64 q.ast)∧w'.cell? ⟨wr.heap.size,2,none⟩=some (.int .i64 q.am))
    ((first|exact fBi h0 (Below.drew (bR _ _))|exact hS3|exact hS4))
    (first|(go_at_call 233;refine(fKn _ _ _ _).mono ?_;rintro e w3 ⟨rfl,hb5⟩;have hS3:=fBi (fBi h0 (Below.drew (bR _ _))) hb5;obtain⟨w4,hrun,hB4,hg4⟩:=((hBW.below (Below.drew (bR _ _))).below hb5).put hw hv hnm;have hS4:=fWv hS3 hg4 y3 y1 y2 y2 y2))
   have hC4:=((hCW.below (Below.drew (bR _ _))).below hb5).grown hg4;have hbw:=hS4.1;clear hrun hS3 hS4;go_wp2;refine⟨⟨j+1,by omega,by go_num,?_,hC4,hbw⟩,mI⟩;refine hB4.cast (fun s a t _=>?_);rw[fPs HB0.out (by rw[←HL.out,HM.out];exact hlt3),←HL.out,←HQ.out]
  go_wp2;have hjm:j=m:=oM;subst hjm;refine⟨⟨k+1,by omega,by go_num,?_,hC3,hb3⟩,mI⟩;refine(hB3.mono oM).cast (fun s a t _=>?_);rw[fPr,←HL.out,HM.out]
 have hkn:k=n:=oM;subst hkn;have d0:=cellOf hC.bk 0;have d1:=cellOf hC.bk 1;have r0:=cellOf hC.res 0;have r1:=cellOf hC.res 1;have f0:=unfrozen hC.res 0;have f1:=unfrozen hC.res 1;simp at d0 d1 r0 r1;go_wp2;refine bodyPost_ret (v:=.agg #[.int .i64 k,.map (some (w.heap.size+1+1))]) ?_ rfl ⟨w.heap.size+1+1,rfl,by omega,?_,qBq⟩
 ·simp[results,Tryz.results213,go_sem,r0,r1]
 refine Book.cast (((hB.turned (Mod.of_set _ _ _) (by simp)).turned (Mod.of_set _ _ _) (by simp)).mono oM) (fun s a t _=>?_);rw[fR0,HN.out]
end
end Go.Proofs.YtpibfdebfacooaaGreat

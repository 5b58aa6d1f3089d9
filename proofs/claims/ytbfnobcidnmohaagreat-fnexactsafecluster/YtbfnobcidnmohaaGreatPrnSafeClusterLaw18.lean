import Derived.Test.YtbfnobcidnmohaaGreatPrnSafeClusterLaw17
set_option maxHeartbeats 8000000
set_option maxRecDepth 100000
set_option linter.unusedSimpArgs false
set_option linter.unusedVariables false
set_option linter.unusedSectionVars false
namespace Go.Proofs.YtbfnobcidnmohaaGreat
open Go.RowKit
attribute [local go_sem ↓] Go.wp_at_zero Go.wp_at_succ
section
variable [dQ Vot] [iH Vot] [dQ Slt] [iH Slt] [dQ Bal] [iH Bal] [dQ Ledg] [iH Ledg] [dQ Leg] [iH Leg] [dQ Acc] [iH Acc] [dQ SltR] [iH SltR] [dQ AccR] [iH AccR] [dQ AccsR] [iH AccsR] [dQ SltsR] [iH SltsR]
theorem fNz (w:World) (base:Nat):sltsR.O w base (fun _=>False) (.slice none 0 0) []:=
 ⟨[],fun _=>default,fun _ _=>False,⟨World.ownsRow_nil _ _ _ _,fun i hi=>absurd hi (Nat.not_lt_zero _),fun i hi=>absurd hi (Nat.not_lt_zero _),fun i hi=>absurd hi (Nat.not_lt_zero _),fun i hi=>absurd hi (Nat.not_lt_zero _),fun i j hi=>absurd hi (Nat.not_lt_zero _)⟩,fun b=>⟨fun h=>h.elim,fun h=>h.elim (fun h=>fXv h) (fun ⟨i,hi,_⟩=>absurd hi (Nat.not_lt_zero _))⟩⟩
theorem pM (l:List Acc) (c s:Int):(fQ l c s).length=l.length:=by simp[fQ]
theorem fDi (l:List Acc) (c s:Int) {k:Nat} (hk:k<l.length):(fQ l c s).take (k+1)=(fQ l c s).take k++[qL (l.getD k default).slots (freS c s)]:=by
 rw[List.take_succ_eq_append_getElem (by rw[pM];exact hk)];simp[fQ,List.getD,hk]
theorem fHh {l:List Acc} (h:ListOk l) {k:Nat} (hk:k<l.length):AccOk (l.getD k default).slots:=fFl (h.ok k hk)
theorem fVj (w:World):sltsR.O (w.alloc (.cells #[] 136)) w.heap.size (fun b=>(Value.slice (some ⟨w.heap.size,0,none⟩) 0 0).ownBlock=some b∨∃i,i<([]:List Slt).length∧(fun _ _=>False:Nat→Nat→Prop) i b) (.slice (some ⟨w.heap.size,0,none⟩) 0 0) []:=
 ⟨[],fun _=>default,fun _ _=>False,⟨World.ownsRow_lit (base:=w.heap.size) (e:=136) (size:=6) w #[] 0 (Nat.le_refl _) (by unfold maxLen;omega) rfl,fun i hi=>absurd hi (Nat.not_lt_zero _),fun i hi=>absurd hi (Nat.not_lt_zero _),fun i hi=>absurd hi (Nat.not_lt_zero _),fun i hi=>absurd hi (Nat.not_lt_zero _),fun i j hi=>absurd hi (Nat.not_lt_zero _)⟩,fun b=>Iff.rfl⟩
def SfE (l:List Acc) (c s:Int) (w:World) (e:Ending) (w':World):Prop:=∃v F,e =.returned v∧sltsRR.O w' w.heap.size F v (yN l c s)∧Below w.heap.size w w'
theorem fW7 {l:List Acc} {c s k:Int} {w w':World} (h:yN l c s=⟨k,[]⟩) (hb:Below w.heap.size w w'):SfE l c s w (.returned (.agg #[.int .i64 k,.slice none 0 0])) w':=
 ⟨_,_,rfl,by rw[h];exact⟨_,_,rfl,fNz w' w.heap.size,fun _=>Iff.rfl⟩,hb⟩
theorem fL7 {l:List Acc} {c s:Int} (h:¬freC l c s=0):yN l c s=⟨freC l c s,[]⟩:=by
 unfold yN freC at *;by_cases h1:mO l=0
 ·
  rw[if_pos h1] at h ⊢;rw[if_pos h1];cases h2:idOk c s with
  | true=>rw[h2] at h;simp at h
  | false=>rfl
 rw[if_neg h1,if_neg h1]
theorem fSs {l:List Acc} {c s:Int} (h:freC l c s=0):yN l c s=⟨0,fQ l c s⟩:=by
 obtain⟨h1,h2⟩:=fK6 h;unfold yN;rw[if_pos h1,if_pos h2]
def hdV (ys:List Vot):Int:=if ys.length=0 then 0 else (ys.getD 0 default).val
theorem fAm (l:List Acc) (c s:Int) {k:Nat} (hk:k<l.length):(fQ l c s).getD k default=qL (l.getD k default).slots (freS c s):=by
 simp[fQ,List.getD,hk]
theorem fCf {l:List Acc} {c s:Int} (hl:ListOk l) (hid:idOk c s=true):askF (fQ l c s)=0:=by
 have hlen:=pM l c s;have h1:fC (vE (fQ l c s)) (fQ l c s).length=0:=yF (fun k hk=>by
  rw[hlen] at hk;show fI ((fQ l c s).getD k default)=0;rw[fAm l c s hk];exact fVf (fFl (hl.ok k hk)) hid)
 refine xB h1 (inBi.2 (by have:=hl.lo;have:=hl.hi;rw[hlen];omega)) (yF (fun k hk=>?_));rw[hlen] at hk;unfold sameAt;rw[fAm l c s hk,fAm l c s (show 0<l.length by omega)];have e1:=fFb (l.getD k default).slots (freS c s);have e2:=fFb (l.getD 0 default).slots (freS c s);rw[if_pos ⟨e1.1.trans e2.1.symm,e1.2.trans e2.2.symm⟩]
theorem fVz {w:World} {c s:Int} {p:Option Addr} {q:Nat} (h:sltR.V w (.agg #[.int .i64 c,.int .i64 s,.int .i64 (-1),.int .i64 (-1),.int .i64 0,.slice p 0 q]) (freS c s)) (W:World):sltR.V W (.agg #[.int .i64 c,.int .i64 s,.int .i64 (-1),.int .i64 (-1),.int .i64 0,.slice p 0 q]) (freS c s):=by
 obtain⟨u,e,a,cap,hu,h1,h2,_⟩:=h;simp only[freS,Value.agg.injEq,Array.mk.injEq,List.cons.injEq,and_true,true_and] at e;rw[hu] at e;simp only[freS,Value.slice.injEq] at e;obtain⟨rfl,_,rfl⟩:=e;exact⟨_,rfl,_,_,rfl,h1,h2,fun i hi=>absurd hi (by simp[freS])⟩
theorem fHv {l:List Acc} {c s:Int} (hl:ListOk l) (hid:idOk c s=true):fCc (fQ l c s):=(fKq (fCf hl hid)).1
theorem fRd (l:List Acc) (c s:Int):∃ys,freC l c s=0→Chs (fQ l c s) ys:=by
 by_cases h:freC l c s=0
 ·obtain⟨h1,h2⟩:=fK6 h;obtain⟨ys,hy⟩:=fXn (fHv (uD h1) h2);exact⟨ys,fun _=>hy⟩
 exact⟨[],fun h'=>absurd h' h⟩
end
section
open Go.Maps Go.WideElems Go.ChangeMaps
variable [dQ Vot] [iH Vot] [dQ Slt] [iH Slt] [dQ SltR] [iH SltR] [dQ Bal] [iH Bal] [dQ Ledg] [iH Ledg] [dQ Leg] [iH Leg]
open Go.WideMaps (KeyLaw)
def vv (x:Vot):Value:=.agg #[.int .i64 x.bal,.int .i64 x.val]
def vwf (x:Vot):Prop:=(Lit.int .i64 x.bal).wf=true∧(Lit.int .i64 x.val).wf=true
theorem wfv {n:Int} (h0 : -9223372036854775808≤n) (h1:n≤9223372036854775807):(Lit.int .i64 n).wf=true:=by
 simp[Lit.wf,IntKind.min,IntKind.max,IntKind.signed,IntKind.bits];omega
theorem fTe {x:Vot} (h:votB x=true):vwf x:=by
 have:=votB_iff.1 h;exact⟨wfv oM oM,wfv oM oM⟩
theorem fTc:(match Tryz.prog.underlying 126 with|some (.array _ _)|some (.struct _)=>true|_=>false)=true:=by rw[Tryz.underlying126]
theorem votK:KeyLaw Tryz.prog 126:=deep_law_laid laidOut (m:=2) oM (of_decide_eq_true kF) kF fTc
theorem votLaw:Keyed Tryz.prog 126:=Keyed.of_law votK
theorem fDu:Tryz.prog.cellsOf 126=2:=kF
theorem fXd:Tryz.prog.keyType 126=true:=kF
theorem fN7:∃d,Tryz.prog.types.size+1=d+1+1:=⟨Tryz.prog.types.size-1,by have h:0<Tryz.prog.types.size:=of_decide_eq_true kF;omega⟩
theorem fSb (d:Nat) (n:Int) (h:(Lit.int .i64 n).wf=true):Tryz.prog.keyLits (d+1) 2 [.int .i64 n]=some [.int .i64 n]:=by
 unfold Program.keyLits;rw[Tryz.underlying2];simp[h]
theorem fAb {x:Vot} (h:vwf x):∃kl,keyOf Tryz.prog 126 (vv x)=some kl:=by
 obtain⟨d,hd⟩:=fN7;obtain⟨h0,h1⟩:=h;have hc:Tryz.prog.cellsOf 2=1:=kF;have hf:(vv x).formed Tryz.prog 126=true:=by simp[vv,Value.formed,Tryz.underlying126,fDu]
 have hl:Tryz.prog.keyLits (Tryz.prog.types.size+1) 126 (vv x).cells.toList=some [.int .i64 x.bal,.int .i64 x.val]:=by
  rw[hd];unfold Program.keyLits;rw[Tryz.underlying126];simp[vv,Value.cells,fDu,hc,fSb d x.bal h0,fSb d x.val h1]
 unfold keyOf;rw[Tryz.underlying126];dsimp only;rw[if_pos (by rw[fXd,hf];rfl),hl];exact⟨_,rfl⟩
theorem fC9 {d:Nat} {c:Value} {l:List Lit} (h:Tryz.prog.keyLits (d+1) 2 [c]=some l):∃n,c =.int .i64 n∧(Lit.int .i64 n).wf=true:=by
 unfold Program.keyLits at h;rw[Tryz.underlying2] at h;cases c <;> simp at h
 obtain⟨⟨rfl,hw⟩,_⟩:=h;exact⟨_,rfl,hw⟩
theorem fTd {v:Value} {kl:Lit} (h:keyOf Tryz.prog 126 v=some kl):∃x,v=vv x∧vwf x:=by
 obtain⟨xs,L,rfl,hl,_⟩:=keyOf_top fTc h;obtain⟨d,hd⟩:=fN7;have hc:Tryz.prog.cellsOf 2=1:=kF;rw[hd] at hl;unfold Program.keyLits at hl;rw[Tryz.underlying126] at hl;simp only[fDu,hc] at hl;split at hl
 ·
  rename_i h3;obtain⟨l⟩:=xs;match l,h3.1 with
  | [c0,c1],_=>
   simp[hc] at hl;cases e0:Tryz.prog.keyLits (d+1) 2 [c0] with
   | none=>simp[e0] at hl
   | some l0=>
    cases e1:Tryz.prog.keyLits (d+1) 2 [c1] with
    | none=>simp[e0,e1] at hl
    | some l1=>
     obtain⟨n0,rfl,w0⟩:=fC9 e0;obtain⟨n1,rfl,w1⟩:=fC9 e1;exact⟨⟨n0,n1⟩,rfl,w0,w1⟩
 cases hl
theorem fV8 {x y:Vot} (h:vv x=vv y):x=y:=by
 obtain⟨a,b⟩:=x;obtain⟨c,d⟩:=y;simpa [vv] using h
def Bkv (w:World) (b n:Nat) (f:Vot→Option Int):Prop:=
 ∃D:DataW Unit,w.ownsMap Tryz.prog 126 (plainElem Tryz.prog 2) b n D ∧
  ∀x kl,keyOf Tryz.prog 126 (vv x)=some kl→Maps.has D kl=(f x).isSome∧D.atKey kl (.lit (.int .i64 0)) =.lit (.int .i64 ((f x).getD 0))
def fDq (f:Vot→Option Int) (x:Vot) (v:Option Int):Vot→Option Int:=fun y=>if decide (y.bal=x.bal)&&decide (y.val=x.val) then v else f y
theorem fCb (f:Vot→Option Int) (x:Vot) (v:Option Int):fDq f x v x=v:=by unfold fDq;rw[if_pos (vot_eq.2 rfl)]
theorem fN3 (f:Vot→Option Int) {x y:Vot} (v:Option Int) (h:¬y=x):fDq f x v y=f y:=by unfold fDq;rw[if_neg (fun e=>h (vot_eq.1 e))]
theorem fMz (w:World):Bkv (w.alloc (.map #[] 0)) w.heap.size 0 (fun _=>none):=
 ⟨_,World.ownsMap_made w _ _ _,fun _ _ _=>⟨rfl,rfl⟩⟩
theorem Bkv.lt {w:World} {b n:Nat} {f:Vot→Option Int} (h:Bkv w b n f):b<w.heap.size:=by
 obtain⟨D,hD,_⟩:=h;exact hD.lt
theorem Bkv.kept {w w':World} {b n:Nat} {f:Vot→Option Int} {row:Option Nat} (h:Bkv w b n f) (hg:w.grownBy w' row) (hne:some b≠row):Bkv w' b n f:=by
 obtain⟨D,hD,h1⟩:=h;exact⟨D,hD.kept hg hne,h1⟩
theorem Bkv.below {w w':World} {b n:Nat} {f:Vot→Option Int} (h:Bkv w b n f) (hb:Below w.heap.size w w'):Bkv w' b n f:=h.kept (uO hb) (by simp)
theorem Bkv.mono {w:World} {b n n':Nat} {f:Vot→Option Int} (h:Bkv w b n f) (hn:n≤n'):Bkv w b n' f:=by
 obtain⟨D,hD,h1⟩:=h;exact⟨D,hD.mono hn,h1⟩
theorem fMr (w:World):(zeroValue 2).run Tryz.prog w =.ok (.int .i64 0) w:=kF
theorem Bkv.look {w:World} {b n:Nat} {f:Vot→Option Int} (h:Bkv w b n f) {x:Vot} (hw:vwf x) :
  (Instr.lookup 245 (.map (some b)) (vv x) false).run Tryz.prog w =.ok (.int .i64 ((f x).getD 0)) w∧(Lit.int .i64 ((f x).getD 0)).wf=true:=by
 obtain⟨D,hD,h1⟩:=h;obtain⟨kl,hk⟩:=fAb hw;obtain⟨c,hrun,hat,hwc⟩:=hD.lookup_int votLaw Tryz.underlying245 Tryz.underlying2 (fMr w) hk;have:=(h1 x kl hk).2;rw[hat] at this;simp at this;rw[←this];exact⟨hrun,hwc⟩
theorem Bkv.put {w:World} {b n:Nat} {f:Vot→Option Int} (h:Bkv w b n f) {x:Vot} {v:Int} (hw:vwf x) (hv:(Lit.int .i64 v).wf=true) (hn:n<maxLen) :
  ∃w',(Instr.mapUpdate 245 (.map (some b)) (vv x) (.int .i64 v)).run Tryz.prog w =.ok () w'∧Bkv w' b (n+1) (fDq f x (some v))∧w.grownBy w' (some b):=by
 obtain⟨D,hD,h1⟩:=h;obtain⟨kl,hk⟩:=fAb hw;obtain⟨w',hrun,hD',hg⟩:=hD.update votLaw Tryz.underlying245 hn hk (plainElem_int Tryz.underlying2 hv);refine⟨w',hrun,⟨_,hD',fun y kl' hk'=>?_⟩,hg⟩;by_cases e:kl'=kl
 ·subst e;have e':=fV8 (votLaw.inj hk' hk);subst e';rw[fCb];exact⟨has_put_same hD.isMap (votLaw.key hk) _,atKey_put_same hD.isMap (votLaw.key hk) _ _⟩
 rw[fN3 _ _ (by
  rintro rfl;rw[hk] at hk';exact e (by simpa using hk'.symm)),has_put_other e,atKey_put_other e]
 exact h1 y kl' hk'
theorem fBp (w:World) (b:Nat) (x y:Obj):setBlock (setBlock w b x) b y=setBlock w b y:=by
 unfold setBlock;simp
theorem fBc (w:World) (b:Nat) (x:Obj):Mod (fun i=>i=b) w (setBlock w b x):=by
 refine⟨rfl,rfl,rfl,?_,fun i hi hn=>?_⟩
 ·simp[setBlock]
 simp only[setBlock];rw[Array.getElem?_setIfInBounds,if_neg (fun e=>hn e.symm)]
theorem Bkv.entry {w:World} {b n:Nat} {f:Vot→Option Int} (h:Bkv w b n f) {x:Vot} (hw:vwf x) (hn:n<maxLen) :
  ∃v0 st w1,(Instr.mapEntry 245 (.map (some b)) (vv x)).run Tryz.prog w =.ok (.tuple #[v0,goInt st]) w1∧Mod (fun i=>i=b) w w1 ∧
   ∀v,(Lit.int .i64 v).wf=true→∃w',(Instr.entryStore 245 (.map (some b)) (goInt st) (.int .i64 v)).run Tryz.prog w1 =.ok () w'∧Bkv w' b (n+1) (fDq f x (some v))∧Mod (fun i=>i=b) w w':=by
 have hB:=h;have hlt:=h.lt;obtain⟨D,⟨es,clock,hb,Ft,hs,hD⟩,h1⟩:=h;obtain⟨kl,hk⟩:=fAb hw;obtain⟨v0,st,es1,clock1,hr,_,hst⟩:=entry_then_store votK Tryz.underlying245 (fun u=>fMr u) hb Ft hk;refine⟨v0,st,_,hr,fBc _ _ _,fun v hv=>?_⟩;obtain⟨es',clock',hr2,hr3⟩:=hst (setBlock w b (.map es1 clock1)) (.int .i64 v) (by simp[setBlock,hlt]);obtain⟨w',hp,hB',_⟩:=hB.put hw hv hn;rw[hr3] at hp;have e:setBlock w b (.map es' clock')=w':=by
  injection hp
 refine⟨_,hr2,?_,?_⟩
 ·rw[fBp,e];exact hB'
 rw[fBp];exact fBc _ _ _
theorem fRl {H:Type} {P:Program} {w:World} {t k e:TypeId} {R:Value→Option (DataW H × List MemPlace)} {b:Nat} {es:Array MapEntry} {clock:Nat} (K:KeyLaw P k) (ht:P.underlying t=some (.map k e)) {z:Value} (hz:∀u:World,(zeroValue e).run P u =.ok z u) (hb:w.heap[b]? = some (.map es clock)) (F:Go.WideElems.Fit P k R es clock)
  {key:Value} {kl:Lit} (hkey:keyOf P k key=some kl) :
  ∃(v0:Value) (st:Nat) (X:World),(Instr.mapEntry t (.map (some b)) key).run P w =.ok (.tuple #[v0,goInt st]) X∧(Instr.mapUpdate t (.map (some b)) key v0).run P w =.ok () X∧(Instr.lookup t (.map (some b)) key false).run P w =.ok v0 w:=by
 rcases K.find w hkey es.toList F.keys with ⟨h1,h2⟩|⟨j,e0,h1,h2,h3⟩
 ·
  refine⟨z,clock,setBlock w b (.map (es.push ⟨key,z,clock⟩) (clock+1)),?_,?_,?_⟩
  ·simp[Instr.mapEntry,run_underlying ht,MapKept.run_getObj_map hb,K.check w false hkey,h1,hz,MapKept.run_setObj_map _ hb,Result.andThen,setBlock]
  ·simp[Instr.mapUpdate,run_underlying ht,MapKept.run_getObj_map hb,K.check w false hkey,h1,MapKept.run_setObj_map _ hb,Result.andThen,setBlock]
  simp[Instr.lookup,run_underlying ht,MapKept.run_getObj_map hb,K.check w _ hkey,h1,hz,Result.andThen]
 have hj:es[j]? = some e0:=by simpa using h2
 have hA:es.modify j (fun e=>{e with key:=key})=es:=by
  apply Array.ext';rw[Array.toList_modify,modify_eq_set _ _ _ _ h2];have q:({e0 with key:=key}:MapEntry)=e0:=by rw[←h3]
  rw[q];exact set_self _ _ _ h2
 have hB:es.modify j (fun e'=>{e' with key:=key,val:=e0.val})=es:=by
  apply Array.ext';rw[Array.toList_modify,modify_eq_set _ _ _ _ h2];have q:({e0 with key:=key,val:=e0.val}:MapEntry)=e0:=by rw[←h3]
  rw[q];exact set_self _ _ _ h2
 refine⟨e0.val,e0.born,setBlock w b (.map es clock),?_,?_,?_⟩
 ·simp[Instr.mapEntry,run_underlying ht,MapKept.run_getObj_map hb,K.check w false hkey,h1,hj,h3,K.stays w hkey,hA,MapKept.run_setObj_map _ hb,Result.andThen,setBlock]
 ·simp[Instr.mapUpdate,run_underlying ht,MapKept.run_getObj_map hb,K.check w false hkey,h1,hj,h3,K.stays w hkey,hB,MapKept.run_setObj_map _ hb,Result.andThen,setBlock]
 simp[Instr.lookup,run_underlying ht,MapKept.run_getObj_map hb,K.check w _ hkey,h1,hj,Result.andThen]
theorem Bkv.entry2 {w:World} {b n:Nat} {f:Vot→Option Int} (h:Bkv w b n f) {x:Vot} (hw:vwf x) (hn:n<maxLen) :
  ∃v0 st w1,(Instr.mapEntry 245 (.map (some b)) (vv x)).run Tryz.prog w =.ok (.tuple #[v0,goInt st]) w1∧Mod (fun i=>i=b) w w1∧Bkv w1 b (n+1) (fDq f x (some ((f x).getD 0))) ∧
   ∀v,(Lit.int .i64 v).wf=true→∃w',(Instr.entryStore 245 (.map (some b)) (goInt st) (.int .i64 v)).run Tryz.prog w1 =.ok () w'∧Bkv w' b (n+1) (fDq f x (some v))∧Mod (fun i=>i=b) w w':=by
 obtain⟨v0,st,w1,h1,h2,h3⟩:=h.entry hw hn;refine⟨v0,st,w1,h1,h2,?_,h3⟩;obtain⟨hl,hlw⟩:=h.look hw;have hB:=h;obtain⟨D,⟨es,clock,hb,Ft,hs,hD⟩,_⟩:=h;obtain⟨kl,hk⟩:=fAb hw;obtain⟨u0,st',X,e1,e2,e3⟩:=fRl votK Tryz.underlying245 (fun u=>fMr u) hb Ft hk;rw[h1] at e1;rw[hl] at e3;injection e1 with _ eX
 injection e3 with eV _
 obtain⟨w',hp,hB',_⟩:=hB.put hw hlw hn;rw[←eV] at e2;rw[e2] at hp;injection hp with _ eW
 rw[eX,eW];exact hB'
end
section
open Go.Maps
variable [dQ Vot] [iH Vot] [dQ Slt] [iH Slt] [dQ SltR] [iH SltR] [dQ Bal] [iH Bal] [dQ Ledg] [iH Ledg] [dQ Leg] [iH Leg] [dQ Acc] [iH Acc] [dQ AccR] [iH AccR] [dQ AccsR] [iH AccsR] [dQ SltsR] [iH SltsR] [dQ Cont] [iH Cont]
def outZ (f:Int→Int) (shs:List Int):Nat→Int
 | 0=>1
 | k+1=>if f (shs.getD k 0)=0 then 0 else outZ f shs k
def outV (f:Int→Int) (shs:List Int):Int:=if shs.any (fun s=>decide (f s=2))=true then 2 else outZ f shs shs.length
theorem fGl {f:Int→Int} {shs:List Int} {k:Nat} (hk:k<shs.length) (h:f (shs.getD k 0)=2):outV f shs=2:=by
 unfold outV;rw[if_pos];rw[List.any_eq_true];exact⟨shs.getD k 0,by simp[List.getD,hk],decide_eq_true h⟩
theorem fGk {f:Int→Int} {shs:List Int} (h:∀k,k<shs.length→¬f (shs.getD k 0)=2):outV f shs=outZ f shs shs.length:=by
 unfold outV;rw[if_neg];rw[List.any_eq_true];rintro⟨s,hs,h2⟩;obtain⟨i,hi,rfl⟩:=List.getElem_of_mem hs;have h3:f shs[i]=2:=of_decide_eq_true h2;exact h i hi (by rw[show shs.getD i 0=shs[i] by simp[List.getD,hi]];exact h3)
def outC (l:List Acc) (c:Cont):Int:=if mO l=0 then fA c.id c.legs else mO l
def outR (l:List Acc) (c:Cont) (ysf:Int→List Vot):Int:=if outC l c=0 then outV (fun s=>hdV (ysf s)) (fD c.legs) else 0
theorem fL1 {l:List Acc} {c:Cont} (h:outC l c=0):mO l=0∧fA c.id c.legs=0:=by
 unfold outC at h;by_cases h1:mO l=0
 ·rw[if_pos h1] at h;exact⟨h1,h⟩
 rw[if_neg h1] at h;exact absurd h h1
theorem fKw {id:Int} {xs:List Leg} (h:fA id xs=0) {s:Int} (hs:s ∈ fD xs):idOk id s=true:=by
 have h1:inB id 1 1000000000=true:=(fBi h).1;have h2:s=0∨s=1∨s=2:=by
  unfold fD sl at hs;simp only[List.mem_append] at hs;rcases hs with (hs|hs)|hs
  ·split at hs <;> simp at hs;exact .inl hs
  ·split at hs <;> simp at hs;exact .inr (.inl hs)
  split at hs <;> simp at hs;exact .inr (.inr hs)
 unfold idOk;rw[h1,Bool.true_and];exact inBi.2 oM
theorem fNy {xs:List Leg} {k:Nat} (hk:k<(fD xs).length):(fD xs).getD k 0 ∈ fD xs:=by simp[List.getD,hk]
theorem fQ2 {w:World} {B n:Nat} {f:Vot→Option Int} (h:Bkv w B n f) (ty:TypeId):∃w',(Builtin.clear_ #[245] ty #[.map (some B)]).run Tryz.prog w =.ok (.tuple #[]) w'∧Bkv w' B 0 (fun _=>none)∧Mod (fun b=>b=B) w w':=by
 obtain⟨D,⟨es,clock,hb,_⟩,_⟩:=h;have hlt:B<w.heap.size:=(Array.getElem?_eq_some_iff.1 hb).1;refine⟨ChangeMaps.setBlock w B (.map #[] clock),?_,⟨.map [],⟨#[],clock,?_,⟨by simp,MapKept.stamped_empty clock,by simp⟩,Nat.le_refl _,rfl⟩,fun _ _ _=>⟨rfl,rfl⟩⟩,fBc w B _⟩
 ·simp[Builtin.clear_,run_underlying Tryz.underlying245,MapKept.run_getObj_map hb,MapKept.run_setObj_map _ hb,Result.andThen,ChangeMaps.setBlock]
 simp[ChangeMaps.setBlock,hlt]
theorem fTg {w:World} {ops:Array Oper} {rest:List Oper} {o:Oper} {a:Act} {Q:Exit→Act→World→Prop} (hgd:o.guard=none) (s:Operand) (t:TypeId)
  (ho:o.op =.call {callee:=.builtin .clear,args:=#[s],argTypes:=#[t]}) (v:Value) (hs:a.eval s=v) {v':Value} {w':World}
  (hr:(Builtin.clear_ #[t] o.type #[v]).run Tryz.prog w =.ok v' w') (h:wpList Tryz.prog ops Q rest (a.put o.dst v') w'):wpList Tryz.prog ops Q (o::rest) a w:=by
 refine wpList_plain hgd fun K hK=>?_
 unfold Oper.wp execOp;simp only[ho,resolve,invoke,builtin,Sem.run_bind,Sem.run_pure,Result.andThen_ok,List.map_toArray,List.map_cons,List.map_nil,hs,hr];exact hK _ _ h
theorem fOn {w:World} {B n:Nat} {f:Vot→Option Int} (h:Bkv w B n f):∃w',(∀ty,(Builtin.clear_ #[245] ty #[.map (some B)]).run Tryz.prog w =.ok (.tuple #[]) w')∧Bkv w' B 0 (fun _=>none)∧Mod (fun b=>b=B) w w':=by
 obtain⟨w',h1,h2,h3⟩:=fQ2 h 0;exact⟨w',fun ty=>h1,h2,h3⟩
end
section
variable [dQ Leg] [iH Leg] [dQ Cont] [iH Cont] [dQ Bal] [iH Bal] [dQ Mrk] [iH Mrk] [dQ Shd] [iH Shd] [dQ Vot] [iH Vot] [dQ Slt] [iH Slt] [dQ Acc] [iH Acc] [dQ Trr] [iH Trr] [dQ Hrd] [iH Hrd] [dQ Ldr] [iH Ldr] [dQ Msg] [iH Msg] [dQ Clu] [iH Clu] [dQ Ledg] [iH Ledg] [dQ SltR] [iH SltR] [dQ AccR] [iH AccR] [dQ AccsR] [iH AccsR] [dQ SltsR] [iH SltsR] [dQ Rw] [iH Rw] [dQ LedgR] [iH LedgR] [dQ OutcR] [iH OutcR] [dQ ShdR] [iH ShdR]
def hdS (ysf:Int→Int→List Vot) (x:Cont):Int:=outV (fun s=>hdV (ysf x.id s)) (fD x.legs)
def fAl (c:Clu) (s:Int):Shd:=c.shards.getD s.toNat default
def keyS (c:Clu) (ysf:Int→Int→List Vot) (x:Cont) (s:Int):Bool:=agB (fQ c.accs x.id s) (ysf x.id s)&&(!decide (hdV (ysf x.id s)=1)||decide (gD x.id (fAl c s).votes=1))
def fEl (c:Clu) (ysf:Int→Int→List Vot) (x:Cont) (s:Int):Bool:=decide (gD x.id (fAl c s).done=0)||decide (gD x.id (fAl c s).done=hdS ysf x)
def fAi (c:Clu) (ysf:Int→Int→List Vot) (x:Cont):Bool:=(fD x.legs).all (fun s=>keyS c ysf x s&&fEl c ysf x s)
def fDe (c:Clu) (ysf:Int→Int→List Vot):Bool:=decide (cluF c=0)&&c.cons.all (fAi c ysf)
def keyX (c:Clu) (ysf:Int→Int→List Vot) (x:Cont):Bool:=(fD x.legs).all (keyS c ysf x)
def uB (c:Clu) (ysf:Int→Int→List Vot) (s:Shd):Bool:=s.done.all (fun m=>decide (hdS ysf (zO c m.con)=m.val))
def yX (c:Clu) (ysf:Int→Int→List Vot):Bool:=decide (cluF c=0)&&(c.cons.all (keyX c ysf)&&c.shards.all (uB c ysf))
theorem fH8 {id:Int}:∀{xs:List Mrk},¬gD id xs=0→∃m ∈ xs,m.con=id∧m.val=gD id xs
 | [],h=>absurd rfl h
 | m::r,h=>by
  unfold gD at h ⊢;split at h
  ·rename_i e;rw[if_pos e];exact⟨m,List.mem_cons_self ..,e,rfl⟩
  rename_i e;rw[if_neg e];obtain⟨m',h1,h2⟩:=fH8 h;exact⟨m',List.mem_cons_of_mem _ h1,h2⟩
theorem fO7 {xs:List Mrk} (h:MrksOk xs) {m:Mrk} (hm:m ∈ xs):gD m.con xs=m.val∧¬m.val=0:=by
 obtain⟨i,hi,e⟩:=List.getElem_of_mem hm;have e':xs.getD i default=m:=by rw[List.getD,List.getElem?_eq_getElem hi];exact e
 have h1:=zQ (c:=m.con) (i:=i) h.rise (Nat.le_of_lt hi) (fun k hk=>by have:=h.rise k i hk hi;rw[e'] at this;exact this) (fun k hk1 hk2=>by
  by_cases hq:k=i
  ·rw[hq,e'];exact Int.le_refl _
  have:=h.rise i k oM hk2;rw[e'] at this;omega)
 rw[e',if_pos ⟨hi,rfl⟩] at h1;have h2:=(h.ok i hi).2;rw[e'] at h2;exact⟨h1,by omega⟩
theorem fRg {c:Clu} (h:cluF c=0) {k:Nat} (hk:k<c.cons.length):fF c.cons (c.cons.getD k default).id=k:=by
 have h1:=(cluF_zero.1 h).2.1;unfold vX at h1;have hr:∀j,j+1<c.cons.length→(c.cons.getD j default).id<(c.cons.getD (j+1) default).id:=fun j hj=>by
  have h2:=kI h1 (j+1) hj;unfold uQ at h2;have h3:=(orF_zero.1 h2).2;split at h3
  ·
   rename_i h4;unfold fGr at h4;simp only[Bool.or_eq_true,decide_eq_true_eq,Nat.add_sub_cancel] at h4;rcases h4 with h4|h4
   ·omega
   exact h4
  omega
 have hm:∀j d,j+d+1<c.cons.length→(c.cons.getD j default).id<(c.cons.getD (j+d+1) default).id:=fun j d=>by
  induction d with
  | zero=>exact fun hj=>hr j hj
  | succ d ih=>
   intro hj;have a:=ih oM;have b:=hr (j+d+1) hj;exact Int.lt_trans a b
 refine fA2 hk rfl (fun j hj e=>?_);have:=hm j (k-j-1) oM;rw[show j+(k-j-1)+1=k by omega] at this;omega
theorem fYc {xs:List Leg} {s:Int} (h:hasS xs s=true) (hs:s=0∨s=1∨s=2):s ∈ fD xs:=by
 unfold fD sl;rcases hs with rfl|rfl|rfl <;> simp[h]
theorem fJi {c:Clu} (h:cluF c=0) {k:Nat} (hk:k<c.shards.length):∀m ∈ (c.shards.getD k default).done,hasL c m.con (k:Int)=true:=by
 have h1:=(cluF_zero.1 h).2.2.1;unfold uX at h1;have h2:=kI h1 k hk;unfold rE at h2;obtain⟨h3,h4⟩:=orF_zero.1 h2;intro m hm;split at h4
 ·
  rename_i h5;have h6:=h5.2;unfold qU strange at h6;simp only[Bool.and_eq_true,Bool.not_eq_true',List.any_eq_false,Bool.not_eq_true] at h6;have:=h6.2.1 m hm;rw[h5.1] at this;cases hq:hasL c m.con (k:Int) with
  | true=>rfl
  | false=>exact absurd (by rw[hq]) this
 omega
theorem fS6 {c:Clu} (h:cluF c=0) (ysf:Int→Int→List Vot):(c.cons.all (fun x=>(fD x.legs).all (fEl c ysf x)))=c.shards.all (uB c ysf):=by
 have hns:=fXo h;rw[Bool.eq_iff_iff,List.all_eq_true,List.all_eq_true];constructor
 ·
  intro h1 s hs;obtain⟨k,hk,rfl⟩:=fX0 hs;unfold uB;rw[List.all_eq_true];intro m hm;have hL:=fJi h hk m hm;have hf:=fEw hL;have hc:zO c m.con=c.cons.getD (fF c.cons m.con) default:=if_pos hf;have hid:(zO c m.con).id=m.con:=by rw[hc];exact fRq hf
  have hS:hasS (zO c m.con).legs (k:Int)=true:=by
   unfold hasL at hL;rw[Bool.and_eq_true] at hL;rw[hc];exact hL.2
  have h2:=h1 (zO c m.con) (by rw[hc];simp only[List.getD,List.getElem?_eq_getElem hf,Option.getD_some];exact List.getElem_mem hf);rw[List.all_eq_true] at h2;have h3:=h2 (k:Int) (fYc hS oM);obtain⟨h4,h5⟩:=fO7 (fRe h hk).od hm;unfold fEl fAl at h3;rw[Int.toNat_natCast,hid,h4,Bool.or_eq_true,decide_eq_true_eq,decide_eq_true_eq] at h3;rcases h3 with h3|h3
  ·exact absurd h3 h5
  exact decide_eq_true h3.symm
 intro h1 x hx;rw[List.all_eq_true];intro s hs;obtain⟨k,hk,e⟩:=List.getElem_of_mem hx;have e':c.cons.getD k default=x:=by rw[List.getD,List.getElem?_eq_getElem hk];exact e
 have hc:=(yQ h hk).2;rw[e'] at hc;have hr:=hc s hs;obtain⟨i,rfl⟩:∃i:Nat,s=(i:Int):=⟨s.toNat,by omega⟩
 have hi:i<c.shards.length:=oM;unfold fEl fAl;rw[Int.toNat_natCast,Bool.or_eq_true,decide_eq_true_eq,decide_eq_true_eq];by_cases h0:gD x.id (c.shards.getD i default).done=0
 ·exact .inl h0
 obtain⟨m,hm,h2,h3⟩:=fH8 h0;have h4:=h1 (c.shards.getD i default) (by simp only[List.getD,List.getElem?_eq_getElem hi,Option.getD_some];exact List.getElem_mem hi);unfold uB at h4;rw[List.all_eq_true] at h4;have h5:=of_decide_eq_true (h4 m hm);have h6:=fRg h hk;rw[e'] at h6;have h7:zO c m.con=x:=by
  rw[h2];unfold zO;rw[h6,if_pos hk];exact e'
 rw[h7] at h5;exact .inr (by rw[h5,h3])
theorem fSo (c:Clu) (ysf:Int→Int→List Vot):yX c ysf=fDe c ysf:=by
 unfold yX fDe;by_cases h:cluF c=0
 ·
  rw[decide_eq_true h,Bool.true_and,Bool.true_and,←fS6 h ysf,Bool.eq_iff_iff];simp only[Bool.and_eq_true,List.all_eq_true,fAi,keyX];constructor
  ·rintro⟨h1,h2⟩ x hx s hs;exact⟨h1 x hx s hs,h2 x hx s hs⟩
  intro h1;exact⟨fun x hx s hs=>(h1 x hx s hs).1,fun x hx s hs=>(h1 x hx s hs).2⟩
 rw[decide_eq_false h];rfl
theorem fX2 (l:List Acc):∃ysf:Int→Int→List Vot,∀c s,freC l c s=0→Chs (fQ l c s) (ysf c s):=⟨fun c s=>Classical.choose (fRd l c s),fun c s=>Classical.choose_spec (fRd l c s)⟩
theorem zM {c:Clu} (h:cluF c=0):mO c.accs=0:=by
 have h1:=(cluF_zero.1 h).2.2.2.1;have h2:=(cluF_zero.1 h).1;unfold vC at h1;unfold szC at h2;split at h2
 ·rename_i h3;unfold mO;rw[if_neg oM];exact yF (fun k hk=>(orF_zero.1 (kI h1 k hk)).1)
 omega
theorem fIa {c:Clu} (h:cluF c=0) {k:Nat} (hk:k<c.cons.length) {s:Int} (hs:s ∈ fD (c.cons.getD k default).legs):freC c.accs (c.cons.getD k default).id s=0∧idOk (c.cons.getD k default).id s=true:=by
 have h1:=fKw (yQ h hk).1 hs;refine⟨?_,h1⟩;unfold freC;rw[if_pos (zM h),if_pos h1]
theorem fW4 {c:Clu} (h:cluF c=0) {k:Nat} (hk:k<c.cons.length):outC c.accs (c.cons.getD k default)=0:=by
 unfold outC;rw[if_pos (zM h)];exact(yQ h hk).1
theorem fSn {c:Clu} {ysf:Int→Int→List Vot} {x:Cont} {j:Nat} (hj:j<(fD x.legs).length) (h:(keyS c ysf x ((fD x.legs).getD j 0)&&fEl c ysf x ((fD x.legs).getD j 0))=false):fAi c ysf x=false:=by
 unfold fAi;rw[List.all_eq_false];exact⟨(fD x.legs).getD j 0,fNy hj,by rw[h];simp⟩
theorem fSm {c:Clu} {ysf:Int→Int→List Vot} {x:Cont} (h:∀j,j<(fD x.legs).length→(keyS c ysf x ((fD x.legs).getD j 0)&&fEl c ysf x ((fD x.legs).getD j 0))=true):fAi c ysf x=true:=by
 unfold fAi;rw[List.all_eq_true];intro s hs;obtain⟨i,hi,rfl⟩:=List.getElem_of_mem hs;have:=h i hi;simpa [List.getD,hi] using this
end
section
variable [dQ Leg] [iH Leg] [dQ Cont] [iH Cont] [dQ Bal] [iH Bal] [dQ Mrk] [iH Mrk] [dQ Shd] [iH Shd] [dQ Vot] [iH Vot] [dQ Slt] [iH Slt] [dQ Acc] [iH Acc] [dQ Trr] [iH Trr] [dQ Hrd] [iH Hrd] [dQ Ldr] [iH Ldr] [dQ Msg] [iH Msg] [dQ Clu] [iH Clu] [dQ Ledg] [iH Ledg]
theorem fLt (m:Msg) (w:World) (hk:inB m.kind 1 6=true) :
  RI 131 #[msgV m] w (msgV (mQ m)):=by
 obtain⟨kind,to,frm,con,sh,bal,val,ob,ov⟩:=m;have hk':=kinds hk;dsimp only at hk';clear hk;rcases hk' with rfl|rfl|rfl|rfl|rfl|rfl
 ·
  have HE:Hid (mQ ⟨1,to,frm,con,sh,bal,val,ob,ov⟩=⟨1,to,0,con,0,0,0,0,0⟩):=by show _=_;simp[mQ]
  rw[HE.out];unfold msgV;dsimp only;go_enter Tryz.func131,Tryz.ntmps131;go_wp2;exact bodyPost_ret (v:=.agg #[.int .i64 1,.int .i64 to,.int .i64 0,.int .i64 con,.int .i64 0,.int .i64 0,.int .i64 0,.int .i64 0,.int .i64 0]) (by simp[results,Tryz.results131,go_sem]) rfl ⟨rfl,qBq⟩
 ·
  have HE:Hid (mQ ⟨2,to,frm,con,sh,bal,val,ob,ov⟩=⟨2,to,0,con,sh,bal,val,0,0⟩):=by show _=_;simp[mQ]
  rw[HE.out];unfold msgV;dsimp only;go_enter Tryz.func131,Tryz.ntmps131;go_wp2;exact bodyPost_ret (v:=.agg #[.int .i64 2,.int .i64 to,.int .i64 0,.int .i64 con,.int .i64 sh,.int .i64 bal,.int .i64 val,.int .i64 0,.int .i64 0]) (by simp[results,Tryz.results131,go_sem]) rfl ⟨rfl,qBq⟩
 ·
  have HE:Hid (mQ ⟨3,to,frm,con,sh,bal,val,ob,ov⟩=⟨3,to,frm,con,sh,bal,val,0,0⟩):=by show _=_;simp[mQ]
  rw[HE.out];unfold msgV;dsimp only;go_enter Tryz.func131,Tryz.ntmps131;go_wp2;exact bodyPost_ret (v:=.agg #[.int .i64 3,.int .i64 to,.int .i64 frm,.int .i64 con,.int .i64 sh,.int .i64 bal,.int .i64 val,.int .i64 0,.int .i64 0]) (by simp[results,Tryz.results131,go_sem]) rfl ⟨rfl,qBq⟩
 ·
  have HE:Hid (mQ ⟨4,to,frm,con,sh,bal,val,ob,ov⟩=⟨4,to,frm,con,sh,bal,0,0,0⟩):=by show _=_;simp[mQ]
  rw[HE.out];unfold msgV;dsimp only;go_enter Tryz.func131,Tryz.ntmps131;go_wp2;exact bodyPost_ret (v:=.agg #[.int .i64 4,.int .i64 to,.int .i64 frm,.int .i64 con,.int .i64 sh,.int .i64 bal,.int .i64 0,.int .i64 0,.int .i64 0]) (by simp[results,Tryz.results131,go_sem]) rfl ⟨rfl,qBq⟩
 ·
  have HE:Hid (mQ ⟨5,to,frm,con,sh,bal,val,ob,ov⟩=⟨5,to,frm,con,sh,bal,0,ob,ov⟩):=by show _=_;simp[mQ]
  rw[HE.out];unfold msgV;dsimp only;go_enter Tryz.func131,Tryz.ntmps131;go_wp2;exact bodyPost_ret (v:=.agg #[.int .i64 5,.int .i64 to,.int .i64 frm,.int .i64 con,.int .i64 sh,.int .i64 bal,.int .i64 0,.int .i64 ob,.int .i64 ov]) (by simp[results,Tryz.results131,go_sem]) rfl ⟨rfl,qBq⟩
 have HE:Hid (mQ ⟨6,to,frm,con,sh,bal,val,ob,ov⟩=⟨6,to,0,con,0,0,val,0,0⟩):=by show _=_;simp[mQ]
 rw[HE.out];unfold msgV;dsimp only;go_enter Tryz.func131,Tryz.ntmps131;go_wp2;exact bodyPost_ret (v:=.agg #[.int .i64 6,.int .i64 to,.int .i64 0,.int .i64 con,.int .i64 0,.int .i64 0,.int .i64 val,.int .i64 0,.int .i64 0]) (by simp[results,Tryz.results131,go_sem]) rfl ⟨rfl,qBq⟩
theorem fLu (B:Nat) (c:Clu) (m:Msg) (w:World) (h:CluP w B c) (hk:inB m.kind 1 6=true) :
  RI 128 #[.pointer (some ⟨B,0,none⟩),msgV m] w (.bool (kT c m)):=by
 obtain⟨a0,c0,a1,c1,a2,c2,a3,c3,v4,y0,y1,y2,y3,y4,hv,l1,l2,l3⟩:=h;clear y0 y4 hv;have zB:B<w.heap.size:=wL w _ y1;obtain⟨n1,e1⟩:∃n1,c.shards.length=n1:=⟨_,rfl⟩
 obtain⟨n2,e2⟩:∃n2,c.accs.length=n2:=⟨_,rfl⟩
 obtain⟨n3,e3⟩:∃n3,c.ldrs.length=n3:=⟨_,rfl⟩
 rw[e1] at y1 l1;rw[e2] at y2 l2;rw[e3] at y3 l3;have w1:IntKind.i64.wrap ((n1:Int)-1)=(n1:Int)-1:=by rw[IntKind.wrap_i64];omega
 have w2:IntKind.i64.wrap ((n2:Int)-1)=(n2:Int)-1:=by rw[IntKind.wrap_i64];omega
 have w3:IntKind.i64.wrap ((n3:Int)-1)=(n3:Int)-1:=by rw[IntKind.wrap_i64];omega
 obtain⟨kind,to,frm,con,sh,bal,val,ob,ov⟩:=m;have hk':=kinds hk;dsimp only at hk';clear hk;unfold msgV;dsimp only;rcases hk' with rfl|rfl|rfl|rfl|rfl|rfl
 ·
  have HE:Hid (kT c ⟨1,to,frm,con,sh,bal,val,ob,ov⟩=inB to 0 ((n1:Int)-1)):=by show _=_;simp[kT,fAy,e1,e2,e3]
  rw[HE.out];clear HE e1 e2 e3;cases ht:inB to 0 ((n1:Int)-1);all_goals
   go_enter Tryz.func128,Tryz.ntmps128;go_wp2_with (first|(go_at_call 123;refine(fM _ _ _ _).mono ?_;rintro e w' ⟨rfl,hw⟩;obtain rfl:=hw.symm;rw[ht]));go_ret;exact⟨rfl,qBq⟩
 ·
  have HE:Hid (kT c ⟨2,to,frm,con,sh,bal,val,ob,ov⟩=inB to 0 ((n2:Int)-1)):=by show _=_;simp[kT,fAy,e1,e2,e3]
  rw[HE.out];clear HE e1 e2 e3;cases ht:inB to 0 ((n2:Int)-1);all_goals
   go_enter Tryz.func128,Tryz.ntmps128;go_wp2_with (first|(go_at_call 123;refine(fM _ _ _ _).mono ?_;rintro e w' ⟨rfl,hw⟩;obtain rfl:=hw.symm;rw[ht]));go_ret;exact⟨rfl,qBq⟩
 ·
  have HE:Hid (kT c ⟨3,to,frm,con,sh,bal,val,ob,ov⟩=(inB to 0 ((n3:Int)-1)&&inB frm 0 ((n2:Int)-1))):=by show _=_;simp[kT,fAy,e1,e2,e3]
  rw[HE.out];clear HE e1 e2 e3;cases ht:inB to 0 ((n3:Int)-1);all_goals cases hf:inB frm 0 ((n2:Int)-1)
  all_goals
   go_enter Tryz.func128,Tryz.ntmps128;go_wp2_with (first|(go_at_call 123;refine(fM _ _ _ _).mono ?_;rintro e w' ⟨rfl,hw⟩;obtain rfl:=hw.symm;first|rw[ht]|rw[hf]));go_ret;exact⟨rfl,qBq⟩
 ·
  have HE:Hid (kT c ⟨4,to,frm,con,sh,bal,val,ob,ov⟩=(inB to 0 ((n2:Int)-1)&&inB frm 0 ((n3:Int)-1))):=by show _=_;simp[kT,fAy,e1,e2,e3]
  rw[HE.out];clear HE e1 e2 e3;cases ht:inB to 0 ((n2:Int)-1);all_goals cases hf:inB frm 0 ((n3:Int)-1)
  all_goals
   go_enter Tryz.func128,Tryz.ntmps128;go_wp2_with (first|(go_at_call 123;refine(fM _ _ _ _).mono ?_;rintro e w' ⟨rfl,hw⟩;obtain rfl:=hw.symm;first|rw[ht]|rw[hf]));go_ret;exact⟨rfl,qBq⟩
 ·
  have HE:Hid (kT c ⟨5,to,frm,con,sh,bal,val,ob,ov⟩=(inB to 0 ((n3:Int)-1)&&inB frm 0 ((n2:Int)-1))):=by show _=_;simp[kT,fAy,e1,e2,e3]
  rw[HE.out];clear HE e1 e2 e3;cases ht:inB to 0 ((n3:Int)-1);all_goals cases hf:inB frm 0 ((n2:Int)-1)
  all_goals
   go_enter Tryz.func128,Tryz.ntmps128;go_wp2_with (first|(go_at_call 123;refine(fM _ _ _ _).mono ?_;rintro e w' ⟨rfl,hw⟩;obtain rfl:=hw.symm;first|rw[ht]|rw[hf]));go_ret;exact⟨rfl,qBq⟩
 have HE:Hid (kT c ⟨6,to,frm,con,sh,bal,val,ob,ov⟩=inB to 0 ((n1:Int)-1)):=by show _=_;simp[kT,fAy,e1,e2,e3]
 rw[HE.out];clear HE e1 e2 e3;cases ht:inB to 0 ((n1:Int)-1);all_goals
  go_enter Tryz.func128,Tryz.ntmps128;go_wp2_with (first|(go_at_call 123;refine(fM _ _ _ _).mono ?_;rintro e w' ⟨rfl,hw⟩;obtain rfl:=hw.symm;rw[ht]));go_ret;exact⟨rfl,qBq⟩
end
end Go.Proofs.YtbfnobcidnmohaaGreat

import Derived.WideKeyEntry
import Derived.Test.YtpibfdebfacooaaGreatPrnCrashJournalLaw12
set_option maxHeartbeats 8000000
set_option maxRecDepth 100000
set_option linter.unusedSectionVars false
set_option linter.unusedVariables false
set_option linter.unusedSimpArgs false
namespace Go.Proofs.YtpibfdebfacooaaGreat
open Go.RowKit
attribute [local go_sem ↓] Go.wp_at_zero Go.wp_at_succ
section
open Go.Maps Go.WideElems Go.ChangeMaps
variable [dQ Bal] [iH Bal] [dQ Ledg] [iH Ledg] [dQ Leg] [iH Leg] [dQ Cont] [iH Cont]
open Go.WideMaps (KeyLaw)
theorem fXt:KeyLaw Tryz.prog 254:=deep_law_laid laidOut (m:=2) oM (of_decide_eq_true kF) kF fIs
theorem fAl (w:World) (b:Nat) (x y:Obj):setBlock (setBlock w b x) b y=setBlock w b y:=by
 unfold setBlock;simp
theorem fC9 (w:World) (b:Nat) (x:Obj):Mod (fun i=>i=b) w (setBlock w b x):=by
 refine⟨rfl,rfl,rfl,?_,fun i hi hn=>?_⟩
 ·simp[setBlock]
 simp only[setBlock];rw[Array.getElem?_setIfInBounds,if_neg (fun e=>hn e.symm)]
theorem Book.entry {w:World} {b n:Nat} {f:Int→Int→Int→Option Int} (h:Book w b n f) {s a t:Int} (hw:kwf s a t) (hn:n<maxLen) :
  ∃v0 st w1,(Instr.mapEntry 225 (.map (some b)) (kv s a t)).run Tryz.prog w =.ok (.tuple #[v0,goInt st]) w1∧Mod (fun i=>i=b) w w1 ∧
   ∀v,(Lit.int .i64 v).wf=true→∃w',(Instr.entryStore 225 (.map (some b)) (goInt st) (.int .i64 v)).run Tryz.prog w1 =.ok () w'∧Book w' b (n+1) (upd3 f s a t (some v))∧Mod (fun i=>i=b) w w':=by
 have hB:=h;have hlt:=h.lt;obtain⟨D,⟨es,clock,hb,Ft,hs,hD⟩,h1⟩:=h;obtain⟨kl,hk⟩:=fAb hw;obtain⟨v0,st,es1,clock1,hr,_,hst⟩:=entry_then_store fXt Tryz.underlying225 (fun u=>fUf u) hb Ft hk;refine⟨v0,st,_,hr,fC9 _ _ _,fun v hv=>?_⟩;obtain⟨es',clock',hr2,hr3⟩:=hst (setBlock w b (.map es1 clock1)) (.int .i64 v) (by simp[setBlock,hlt]);obtain⟨w',hp,hB',_⟩:=hB.put hw hv hn;rw[hr3] at hp;have e:setBlock w b (.map es' clock')=w':=by
  injection hp
 refine⟨_,hr2,?_,?_⟩
 ·rw[fAl,e];exact hB'
 rw[fAl];exact fC9 _ _ _
theorem fU5 {H:Type} {P:Program} {w:World} {t k e:TypeId} {R:Value→Option (DataW H × List MemPlace)} {b:Nat} {es:Array MapEntry} {clock:Nat} (K:KeyLaw P k) (ht:P.underlying t=some (.map k e)) {z:Value} (hz:∀u:World,(zeroValue e).run P u =.ok z u) (hb:w.heap[b]? = some (.map es clock)) (F:Go.WideElems.Fit P k R es clock)
  {key:Value} {kl:Lit} (hkey:keyOf P k key=some kl) :
  ∃(v0:Value) (st:Nat) (X:World),(Instr.mapEntry t (.map (some b)) key).run P w =.ok (.tuple #[v0,goInt st]) X∧(Instr.mapUpdate t (.map (some b)) key v0).run P w =.ok () X∧(Instr.lookup t (.map (some b)) key false).run P w =.ok v0 w:=by
 rcases K.find w hkey es.toList F.keys with ⟨h1,h2⟩|⟨j,e0,h1,h2,h3⟩
 ·
  refine⟨z,clock,setBlock w b (.map (es.push ⟨key,z,clock⟩) (clock+1)),?_,?_,?_⟩
  ·simp[Instr.mapEntry,run_underlying ht,MapKept.run_getObj_map hb,K.check w false hkey,h1,hz,MapKept.run_setObj_map _ hb,Result.andThen,setBlock]
  ·simp[Instr.mapUpdate,run_underlying ht,MapKept.run_getObj_map hb,K.check w false hkey,h1,MapKept.run_setObj_map _ hb,Result.andThen,setBlock]
  simp[Instr.lookup,run_underlying ht,MapKept.run_getObj_map hb,K.check w _ hkey,h1,hz,Result.andThen]
 have hj:es[j]? = some e0:=by simpa using h2
 have hA:es.modify j (fun e=>{e with key:=key})=es:=by
  apply Array.ext';rw[Array.toList_modify,modify_eq_set _ _ _ _ h2];have q:({e0 with key:=key}:MapEntry)=e0:=by rw[←h3]
  rw[q];exact set_self _ _ _ h2
 have hB:es.modify j (fun e'=>{e' with key:=key,val:=e0.val})=es:=by
  apply Array.ext';rw[Array.toList_modify,modify_eq_set _ _ _ _ h2];have q:({e0 with key:=key,val:=e0.val}:MapEntry)=e0:=by rw[←h3]
  rw[q];exact set_self _ _ _ h2
 refine⟨e0.val,e0.born,setBlock w b (.map es clock),?_,?_,?_⟩
 ·simp[Instr.mapEntry,run_underlying ht,MapKept.run_getObj_map hb,K.check w false hkey,h1,hj,h3,K.stays w hkey,hA,MapKept.run_setObj_map _ hb,Result.andThen,setBlock]
 ·simp[Instr.mapUpdate,run_underlying ht,MapKept.run_getObj_map hb,K.check w false hkey,h1,hj,h3,K.stays w hkey,hB,MapKept.run_setObj_map _ hb,Result.andThen,setBlock]
 simp[Instr.lookup,run_underlying ht,MapKept.run_getObj_map hb,K.check w _ hkey,h1,hj,Result.andThen]
theorem Book.entry2 {w:World} {b n:Nat} {f:Int→Int→Int→Option Int} (h:Book w b n f) {s a t:Int} (hw:kwf s a t) (hn:n<maxLen) :
  ∃v0 st w1,(Instr.mapEntry 225 (.map (some b)) (kv s a t)).run Tryz.prog w =.ok (.tuple #[v0,goInt st]) w1∧Mod (fun i=>i=b) w w1∧Book w1 b (n+1) (upd3 f s a t (some ((f s a t).getD 0))) ∧
   ∀v,(Lit.int .i64 v).wf=true→∃w',(Instr.entryStore 225 (.map (some b)) (goInt st) (.int .i64 v)).run Tryz.prog w1 =.ok () w'∧Book w' b (n+1) (upd3 f s a t (some v))∧Mod (fun i=>i=b) w w':=by
 obtain⟨v0,st,w1,h1,h2,h3⟩:=h.entry hw hn;refine⟨v0,st,w1,h1,h2,?_,h3⟩;obtain⟨hl,hlw⟩:=h.look hw;have hB:=h;obtain⟨D,⟨es,clock,hb,Ft,hs,hD⟩,_⟩:=h;obtain⟨kl,hk⟩:=fAb hw;obtain⟨u0,st',X,e1,e2,e3⟩:=fU5 fXt Tryz.underlying225 (fun u=>fUf u) hb Ft hk;rw[h1] at e1;rw[hl] at e3;injection e1 with _ eX
 injection e3 with eV _
 obtain⟨w',hp,hB',_⟩:=hB.put hw hlw hn;rw[←eV] at e2;rw[e2] at hp;injection hp with _ eW
 rw[eX,eW];exact hB'
def addL (f:Int→Int→Int→Option Int) (l:Leg):Int→Int→Int→Option Int:=upd3 f l.sh l.ac l.ast (if (f l.sh l.ac l.ast).getD 0+l.am=0 then none else some ((f l.sh l.ac l.ast).getD 0+l.am))
def pO (f:Int→Int→Int→Option Int) (ls:List Leg):Int→Int→Int→Option Int:=ls.foldl addL f
theorem fPm (f:Int→Int→Int→Option Int) (ls:List Leg) {k:Nat} (h:k<ls.length):pO f (ls.take (k+1))=addL (pO f (ls.take k)) (ls.getD k default):=by
 unfold pO;rw[rM ls k h,List.foldl_append];rfl
end
section
variable [dQ Bal] [iH Bal] [dQ Ledg] [iH Ledg] [dQ Leg] [iH Leg] [dQ Cont] [iH Cont] [dQ LedgR] [iH LedgR]
theorem fW8 {xs:List Bal} (h:BalsOk xs):RiseB xs:=by
 refine⟨?_,fun x hx=>?_⟩
 ·rw[List.pairwise_iff_getElem];intro i j hi hj hij;have:=rising h hij hj;unfold plB;simpa [List.getD,hi,hj] using this
 obtain⟨i,hi,rfl⟩:=List.mem_iff_getElem.1 hx;have:=yV (h.ok i hi);simpa [List.getD,hi] using this
theorem fRs (xs:List Bal) (ls:List Leg) (l:Leg):addB xs (ls++[l])=rQ (addB xs ls) l:=by unfold addB;rw[List.foldl_append];rfl
theorem fB7 (f:Int→Int→Int→Option Int) (ls:List Leg) (l:Leg):pO f (ls++[l])=addL (pO f ls) l:=by unfold pO;rw[List.foldl_append];rfl
theorem fTg (s:Int) (ls:List Leg) (l:Leg):onSh s (ls++[l])=if l.sh=s then onSh s ls++[l] else onSh s ls:=by
 unfold onSh;rw[List.filter_append];by_cases h:l.sh=s
 ·rw[if_pos h];simp[h]
 rw[if_neg h];simp[h]
theorem fJf {α:Type} {P:List α→Prop} (h0:P []) (h1:∀l x,P l→P (l++[x])) (l:List α):P l:=by
 rw[←List.reverse_reverse l];induction l.reverse with
 | nil=>exact h0
 | cons x l ih=>
  rw[List.reverse_cons];exact h1 _ _ ih
theorem fFo {gs:List (List Bal)} {i:Nat} (hi:i<gs.length) (hx:RiseB (gs.getD i default)) (ls:List Leg):(∀l ∈ ls,rA l.ac l.ast=true) →
  RiseB (addB (gs.getD i default) (onSh i ls))∧∀a t,getB a t (addB (gs.getD i default) (onSh i ls))=pO (kY gs) ls i a t:=by
 refine fJf (P:=fun ls=>(∀l ∈ ls,rA l.ac l.ast=true)→RiseB (addB (gs.getD i default) (onSh i ls))∧∀a t,getB a t (addB (gs.getD i default) (onSh i ls))=pO (kY gs) ls i a t) ?_ ?_ ls
 ·intro _;refine⟨hx,fun a t=>?_⟩;show getB a t (gs.getD i default)=kY gs i a t;unfold kY;rw[if_pos ⟨oM,by omega⟩];simp
 intro ls l ih hk;obtain⟨h1,h2⟩:=ih (fun x hx=>hk x (List.mem_append_left _ hx));have hkl:=hk l (List.mem_append_right _ (List.mem_singleton.2 rfl));rw[fTg,fB7];by_cases hs:l.sh=(i:Int)
 ·
  rw[if_pos hs,fRs];unfold rQ;obtain⟨r1,r2⟩:=fTr (v:=hasB l.ac l.ast (addB (gs.getD i default) (onSh i ls))+l.am) hkl h1;refine⟨r1,fun a t=>?_⟩;rw[r2,fBf,h2];unfold addL upd3;by_cases e:a=l.ac∧t=l.ast
  ·rw[if_pos e,if_pos (show(i:Int)=l.sh∧a=l.ac∧t=l.ast from ⟨hs.symm,e.1,e.2⟩),hs]
  rw[if_neg e,if_neg (fun h=>e h.2),h2]
 rw[if_neg hs];refine⟨h1,fun a t=>?_⟩;rw[h2];unfold addL upd3;rw[if_neg (fun h=>hs h.1.symm)]
theorem fUt {gs:List (List Bal)} (ls:List Leg):(∀l ∈ ls,0≤l.sh∧l.sh<(gs.length:Int))→∀s a t:Int,¬(0≤s∧s<(gs.length:Int))→pO (kY gs) ls s a t=none:=by
 refine fJf (P:=fun ls=>(∀l ∈ ls,0≤l.sh∧l.sh<(gs.length:Int))→∀s a t:Int,¬(0≤s∧s<(gs.length:Int))→pO (kY gs) ls s a t=none) ?_ ?_ ls
 ·intro _ s a t h;show kY gs s a t=none;unfold kY;rw[if_neg h]
 intro ls l ih hk s a t h;have hl:=hk l (List.mem_append_right _ (List.mem_singleton.2 rfl));rw[fB7];unfold addL upd3;rw[if_neg (fun e=>h (by rw[e.1];exact hl))];exact ih (fun x hx=>hk x (List.mem_append_left _ hx)) s a t h
theorem fJd {gs:List (List Bal)} {ls:List Leg} (hg:∀i,i<gs.length→RiseB (gs.getD i default)) (hk:∀l ∈ ls,rA l.ac l.ast=true) {hs:List (List Bal)} (hl:hs.length=gs.length)
  (hr:∀i,i<gs.length→RiseB (hs.getD i default)∧∀a t,getB a t (hs.getD i default)=pO (kY gs) ls i a t):hs=rJ gs ls:=by
 apply List.ext_getElem?;intro i;by_cases hi:i<gs.length
 ·
  have e1:hs[i]? = some (hs.getD i default):=by simp[List.getD,show i<hs.length by omega]
  have e2:(rJ gs ls)[i]? = some ((rJ gs ls).getD i default):=by simp[List.getD,show i<(rJ gs ls).length by rw[fA0];exact hi]
  rw[e1,e2,fFn gs ls hi];congr 1;obtain⟨r1,r2⟩:=fFo hi (hg i hi) ls hk;exact fO2 (hr i hi).1 r1 (fun a t=>by rw[(hr i hi).2,←r2];rfl)
 rw[List.getElem?_eq_none oM,List.getElem?_eq_none (by rw[fA0];omega)]
end
section
open Go.Sort Go.Shelf
variable [dQ Rw] [iH Rw] [dQ Bal] [iH Bal] [dQ Ledg] [iH Ledg] [dQ Leg] [iH Leg] [dQ Cont] [iH Cont] [dQ LedgR] [iH LedgR]
theorem fOw:∀(N:Nat) (l:List Nat),l.Nodup→(∀x ∈ l,x<N)→l.length≤N
 | 0,l,_,h=>by
  cases l with
  | nil=>simp
  | cons x r=>exact absurd (h x (by simp)) (Nat.not_lt_zero _)
 | N+1,l,hn,h=>by
  have h1:=fOw N (l.erase N) (hn.erase N) (fun x hx=>by
   obtain⟨h2,h3⟩:=(hn.mem_erase_iff).1 hx;have:=h x h3;omega)
  rw[List.length_erase] at h1;split at h1 <;> omega
def KDom (n:Nat) (f:Int→Int→Int→Option Int):Prop:=∀s a t,(f s a t).isSome=true→(0≤s∧s<(n:Int))∧rA a t=true
theorem KDom.len {n:Nat} {f:Int→Int→Int→Option Int} (h:KDom n f) {ys:List K3} (hy:KOk f ys):ys.length≤n*18:=by
 have h1:=fOw (n*18) (ys.map (fun k:K3=>k.1.toNat*18+k.2.1.toNat*3+k.2.2.toNat)) ?_ ?_
 ·simpa using h1
 ·rw[List.Nodup,List.pairwise_map];refine List.Pairwise.imp_of_mem ?_ hy.1;rintro⟨s,a,t⟩ ⟨s',a',t'⟩ hx hx' hne e;obtain⟨⟨_,_⟩,hk⟩:=h s a t (hy.2 _ hx);obtain⟨⟨_,_⟩,hk'⟩:=h s' a' t' (hy.2 _ hx');obtain⟨⟨_,_⟩,_,_⟩:=keyOk_iff.1 hk;obtain⟨⟨_,_⟩,_,_⟩:=keyOk_iff.1 hk';apply hne;dsimp only at e;have e1:s=s':=oM;have e2:a=a':=oM;have e3:t=t':=oM;rw[e1,e2,e3]
 intro x hx;obtain⟨⟨s,a,t⟩,hm,rfl⟩:=List.mem_map.1 hx;obtain⟨⟨_,_⟩,hk⟩:=h s a t (hy.2 _ hm);obtain⟨⟨_,_⟩,_,_⟩:=keyOk_iff.1 hk;dsimp only;omega
def balK (f:Int→Int→Int→Option Int) (k:K3):Bal:=⟨k.2.1,k.2.2,(f k.1 k.2.1 k.2.2).getD 0⟩
def shK (f:Int→Int→Int→Option Int) (ys:List K3) (i:Nat):List Bal:=(ys.filter (fun k=>decide (k.1=(i:Int)))).map (balK f)
theorem fVy (f:Int→Int→Int→Option Int) (ys:List K3) (k:K3) (i:Nat):shK f (ys++[k]) i=if k.1=(i:Int) then shK f ys i++[balK f k] else shK f ys i:=by
 unfold shK;rw[List.filter_append,List.map_append];by_cases h:k.1=(i:Int)
 ·simp[h]
 simp[h]
theorem shK_mem {f:Int→Int→Int→Option Int} {ys:List K3} {i:Nat} {x:Bal}:x ∈ shK f ys i↔∃k ∈ ys,k.1=(i:Int)∧balK f k=x:=by
 unfold shK;simp only[List.mem_map,List.mem_filter,decide_eq_true_eq];constructor
 ·rintro⟨k,⟨h1,h2⟩,h3⟩;exact⟨k,h1,h2,h3⟩
 rintro⟨k,h1,h2,h3⟩;exact⟨k,⟨h1,h2⟩,h3⟩
theorem fVx {n:Nat} {f:Int→Int→Int→Option Int} (hd:KDom n f) {ys:List K3} (hy:KOk f ys) (hs:ys.Pairwise (fun p q=>ltOf cfK q p=false)) (i:Nat):RiseB (shK f ys i):=by
 refine⟨?_,fun x hx=>?_⟩
 ·
  unfold shK;rw[List.pairwise_map];have h1:ys.Pairwise (fun p q=>ltOf cfK q p=false∧p≠q):=hs.and hy.1;have h2:=h1.filter (fun k=>decide (k.1=(i:Int)));refine List.Pairwise.imp_of_mem ?_ h2;rintro⟨s,a,t⟩ ⟨s',a',t'⟩ hx hx' ⟨hl,hne⟩;obtain⟨hx1,hx2⟩:=List.mem_filter.1 hx;obtain⟨hx1',hx2'⟩:=List.mem_filter.1 hx';simp only[decide_eq_true_eq] at hx2 hx2';obtain⟨_,hk⟩:=hd s a t (hy.2 _ hx1);obtain⟨_,hk'⟩:=hd s' a' t' (hy.2 _ hx1');obtain⟨⟨_,_⟩,_,_⟩:=keyOk_iff.1 hk;obtain⟨⟨_,_⟩,_,_⟩:=keyOk_iff.1 hk';rw[←Bool.not_eq_true,fIz] at hl;dsimp only at hl;unfold plB balK;dsimp only;have hne':¬(a=a'∧t=t'):=fun e=>hne (by rw[hx2,hx2',e.1,e.2])
  omega
 obtain⟨k,hk,_,rfl⟩:=shK_mem.1 hx;exact(hd _ _ _ (hy.2 k hk)).2
theorem fXb {n:Nat} {f:Int→Int→Int→Option Int} (hn:n≤200) (hd:KDom n f) {ys:List K3} (hy:KDn f ys) (i:Nat) (a t:Int):getB a t (shK f ys i)=f i a t:=by
 cases hf:f i a t with
 | none=>
  refine fOg (fun x hx e=>?_);obtain⟨k,hk,hi,rfl⟩:=shK_mem.1 hx;have h1:=hy.1.2 k hk;unfold balK at e;dsimp only at e;rw[hi,e.1,e.2,hf] at h1;cases h1
 | some v=>
  have hs:(f i a t).isSome=true:=by rw[hf];rfl
  obtain⟨⟨_,_⟩,hk⟩:=hd i a t hs;obtain⟨⟨_,_⟩,_,_⟩:=keyOk_iff.1 hk;have hm:=hy.2 i a t ⟨zP oM oM,zP oM oM,zP oM oM⟩ hs;cases hg:getB a t (shK f ys i) with
  | none=>
   have h3:∀(xs:List Bal),getB a t xs=none→∀x ∈ xs,¬(x.ac=a∧x.ast=t):=by
    intro xs;induction xs with
    | nil=>intro _ x hx;cases hx
    | cons y r ih=>
     intro h x hx e;by_cases hy':y.ac=a∧y.ast=t
     ·simp only[getB] at h;rw[if_pos hy'] at h;cases h
     rw[pX hy'] at h;rcases List.mem_cons.1 hx with rfl|hx
     ·exact hy' e
     exact ih h x hx e
   exact absurd ⟨rfl,rfl⟩ (h3 _ hg (balK f (i,a,t)) (shK_mem.2 ⟨_,hm,rfl,rfl⟩))
  | some u=>
   obtain⟨x,hx,h1,h2,h3⟩:=zW hg;obtain⟨k,hk',hi,rfl⟩:=shK_mem.1 hx;unfold balK at h1 h2 h3;dsimp only at h1 h2 h3;rw[hi,h1,h2,hf] at h3;rw[←h3];rfl
theorem fMz {gs:List (List Bal)} {ls:List Leg} (hg:∀i,i<gs.length→RiseB (gs.getD i default)) (hk:∀l ∈ ls,rA l.ac l.ast=true) (hN:gs.length≤200) (hd:KDom gs.length (pO (kY gs) ls))
  {ys:List K3} (hy:KDn (pO (kY gs) ls) ys) (hs:ys.Pairwise (fun p q=>ltOf cfK q p=false)) {hs':List (List Bal)} (hl:hs'.length=gs.length) (he:∀i,i<gs.length→hs'.getD i default=shK (pO (kY gs) ls) ys i):hs'=rJ gs ls:=
 fJd hg hk hl (fun i hi=>by rw[he i hi];exact⟨fVx hd hy.1 hs i,fun a t=>fXb hN hd hy i a t⟩)
theorem fMp {gs:List (List Bal)} {ls:List Leg} (hg:∀i,i<gs.length→RiseB (gs.getD i default)) (hk:∀l ∈ ls,rA l.ac l.ast=true) (hl:∀l ∈ ls,0≤l.sh∧l.sh<(gs.length:Int)):KDom gs.length (pO (kY gs) ls):=by
 intro s a t h;by_cases hr:0≤s∧s<(gs.length:Int)
 ·
  refine⟨hr,?_⟩;obtain⟨i,rfl⟩:∃i:Nat,s=(i:Int):=⟨s.toNat,by omega⟩
  have hi:i<gs.length:=oM;obtain⟨h1,h2⟩:=fFo hi (hg i hi) ls hk;rw[←h2] at h;obtain⟨v,hv⟩:=Option.isSome_iff_exists.1 h;obtain⟨x,hx,rfl,rfl,_⟩:=zW hv;exact h1.key x hx
 rw[fUt ls hl s a t hr] at h;cases h
end
section
open Go.Maps
variable [dQ Bal] [iH Bal] [dQ Ledg] [iH Ledg] [dQ Leg] [iH Leg] [dQ Cont] [iH Cont]
theorem Book.nocell {w:World} {b n:Nat} {f:Int→Int→Int→Option Int} (h:Book w b n f) (o:Nat) (v:Value):w.cell? ⟨b,o,none⟩≠some v:=by
 obtain⟨D,⟨es,clock,hb,_⟩,_⟩:=h;simp[World.cell?,hb]
theorem Mod.transB' {F:Nat→Prop} {w w1 w2:World} (h:Mod F w w1) (k:Below w1.heap.size w1 w2):Mod F w w2:=h.trans (Mod.of_below k)
theorem fLk (f:Int→Int→Int→Option Int) (s a t:Int) (v:Option Int):upd3 f s a t v s a t=v:=by unfold upd3;rw[if_pos ⟨rfl,rfl,rfl⟩]
theorem fRn (f:Int→Int→Int→Option Int) (s a t:Int) (v u:Option Int):upd3 (upd3 f s a t v) s a t u=upd3 f s a t u:=by
 funext s' a' t'
 unfold upd3;split
 ·rfl
 rfl
theorem fLx (n:Nat) (b m:Nat) (f:Int→Int→Int→Option Int) (y:Value) (ls:List Leg) (w:World) (hb:Book w b m f) (hy:legsR.V w y ls) (hm:m+ls.length<1000000)
  (hok:∀k,k<ls.length→kwf (ls.getD k default).sh (ls.getD k default).ac (ls.getD k default).ast ∧ -9223372036854775808≤(pO f (ls.take k) (ls.getD k default).sh (ls.getD k default).ac (ls.getD k default).ast).getD 0+(ls.getD k default).am∧(pO f (ls.take k) (ls.getD k default).sh (ls.getD k default).ac (ls.getD k default).ast).getD 0+(ls.getD k default).am≤9223372036854775807) :
  Calls Tryz.prog 203 #[.agg #[.int .i64 n,.map (some b)],y] w fun e w'=>e =.returned (.tuple #[])∧∃m',m'≤m+ls.length∧Book w' b m' (pO f ls)∧Mod (fun i=>i=b) w w':=by
 obtain⟨ay,cy,rfl,hcy,hmy,hy⟩:=hy;unfold maxLen at hmy;have hbl:=hb.lt;have HOK:Hid (∀k,k<ls.length→kwf (ls.getD k default).sh (ls.getD k default).ac (ls.getD k default).ast ∧ -9223372036854775808≤(pO f (ls.take k) (ls.getD k default).sh (ls.getD k default).ac (ls.getD k default).ast).getD 0+(ls.getD k default).am∧(pO f (ls.take k) (ls.getD k default).sh (ls.getD k default).ac (ls.getD k default).ast).getD 0+(ls.getD k default).am≤9223372036854775807):=hok;have HCL:Hid (∀k,k<ls.length→∃bx ox,ay=some ⟨bx,ox,none⟩∧bx≠b∧mH w bx (ox+k*4) (ls.getD k default)):=fun k hk=>by
  obtain⟨bx,ox,e,hc⟩:=hy k hk;refine⟨bx,ox,e,fun e'=>?_,hc⟩;subst e';exact hb.nocell _ _ hc.1
 clear hok hy;generalize hq:ls.length=q at *;have HN:Hid (ls.length=q):=hq;clear hq;go_enter Tryz.func203,Tryz.ntmps203;go_wp2;go_loopw [9] (fun i W=>∃k m':Nat,k≤q∧i =.int .i64 k∧m'≤m+k∧Hid (Book W b m' (pO f (ls.take k)))∧W.cell? ⟨w.heap.size,1,none⟩=some (.map (some b))∧Mod (fun i=>i=b) w W) (fun i _=>q-(intOf i).toNat)
 case atStart=>exact⟨0,m,Nat.zero_le _,rfl,by omega,hb.below qBq,sG,Mod.of_below qBq⟩
 obtain⟨k,m',hk,rfl,hm',HB,c1,hM⟩:=hrel;rename World=>w1
 have hz1:=hM.size;have hbw:w.heap.size<w1.heap.size:=wL _ _ c1;by_cases hlt:k<q
 ·
  obtain⟨bx,ox,rfl,hxb,hc⟩:=HCL.out k hlt;obtain⟨hkw,hs1,hs2⟩:=HOK.out k hlt;have hsu:=fPm f ls (k:=k) (by rw[HN.out];exact hlt);obtain⟨l,hl⟩:∃l,l=ls.getD k default:=⟨_,rfl⟩
  rw[←hl] at hc hkw hs1 hs2 hsu;clear hl;generalize hfk:pO f (ls.take k)=fk at *;clear hfk;have HSU:Hid (pO f (ls.take (k+1))=addL fk l):=hsu;clear hsu;have hc':mH w1 bx (ox+k*4) l:=⟨hM.cell hc.1 hxb,hM.cell hc.2.1 hxb,hM.cell hc.2.2.1 hxb,hM.cell hc.2.2.2 hxb⟩;obtain⟨a0,a1,a2,a3⟩:=hc';have hk':(k:Int)<q:=oM;have hk0:(0:Int)≤k:=oM;have hwk:IntKind.i64.wrap ((k:Int)+1)=(k:Int)+1:=qP oM oM;obtain⟨v,hv⟩:∃v,v=(fk l.sh l.ac l.ast).getD 0:=⟨_,rfl⟩
  have HV:Hid (v=(fk l.sh l.ac l.ast).getD 0):=hv;rw[←hv] at hs1 hs2;have hws:IntKind.i64.wrap (v+l.am)=v+l.am:=qP hs1 hs2;have hwf:=zP hs1 hs2;clear hv;go_wp2_with fail;refine(fC5 l _).mono ?_;rintro e w2 ⟨rfl,hb2⟩;have t0:w2.cell? ⟨w1.heap.size,3,none⟩=some (.int .i64 l.am):=cK hb2 sG;have hB12:Below w1.heap.size w1 w2:=qBq;have hz12:w1.heap.size<w2.heap.size:=wL _ _ t0;have c2:=cK hB12 c1;have HB2:Hid (Book w2 b m' fk):=HB.out.below hB12;have hbl1:b<w1.heap.size:=oM;clear hb2 HB a0 a1 a2 a3 hc;unfold kv;go_wp2;refine wp_region_noPanic ?_;have HLK:∀W,Below w2.heap.size w2 W→(Instr.lookup 225 (.map (some b)) (.agg #[.int .i64 l.sh,.int .i64 l.ac,.int .i64 l.ast]) false).run Tryz.prog W =.ok (.int .i64 v) W:=fun W hW=>by rw[HV.out];exact((HB2.out.below hW).look hkw).1
  refine fB (fun W=>W.cell? ⟨w.heap.size,1,none⟩=some (.map (some b))∧W.cell? ⟨w1.heap.size,3,none⟩=some (.int .i64 l.am)∧(W.cell? ⟨w2.heap.size,0,none⟩=some (.int .i64 l.sh)∧W.cell? ⟨w2.heap.size,1,none⟩=some (.int .i64 l.ac)∧W.cell? ⟨w2.heap.size,2,none⟩=some (.int .i64 l.ast))∧(Instr.lookup 225 (.map (some b)) (.agg #[.int .i64 l.sh,.int .i64 l.ac,.int .i64 l.ast]) false).run Tryz.prog W =.ok (.int .i64 v) W) 9 kF ⟨cK qBq c2,cK qBq t0,⟨sG,by simp[go_sem],sG⟩,HLK _ qBq⟩ (fun hS=>?_);refine tY 0 ?_;refine tY 1 ?_;refine tY 2 ?_;refine tY 3 ?_;refine tY 4 ?_;refine tY 5 ?_;refine tY 6 ?_;have hbX:Below w2.heap.size w2 ((w2.alloc (.cells #[.int .i64 l.sh,.int .i64 l.ac,.int .i64 l.ast] 254)).drew):=qBq;obtain⟨v0,st,w4,hr,hm4,hB4,hst⟩:=(HB2.out.below hbX).entry2 hkw (by unfold maxLen;omega);have hb2:b<w2.heap.size:=HB2.out.lt;have hne0:w.heap.size≠b:=oM;have hne1:w1.heap.size≠b:=oM;have hne2:w2.heap.size≠b:=oM;unfold kv goInt at hr;unfold goInt at hst;have hS4:(fun W=>W.cell? ⟨w.heap.size,1,none⟩=some (.map (some b))∧W.cell? ⟨w1.heap.size,3,none⟩=some (.int .i64 l.am)∧(W.cell? ⟨w2.heap.size,0,none⟩=some (.int .i64 l.sh)∧W.cell? ⟨w2.heap.size,1,none⟩=some (.int .i64 l.ac)∧W.cell? ⟨w2.heap.size,2,none⟩=some (.int .i64 l.ast))∧(Instr.lookup 225 (.map (some b)) (.agg #[.int .i64 l.sh,.int .i64 l.ac,.int .i64 l.ast]) false).run Tryz.prog W =.ok (.int .i64 v) W) w4:=⟨hm4.cell hS.1 hne0,hm4.cell hS.2.1 hne1,⟨hm4.cell hS.2.2.1.1 hne2,hm4.cell hS.2.2.1.2.1 hne2,hm4.cell hS.2.2.1.2.2 hne2⟩,by
   have e:=(hB4.look hkw).1;rw[fLk] at e;rw[HV.out];exact e⟩
  clear HLK;refine uS 7 rfl (fun K hK=>?_);go_simp;refine hK _ _ (fun _=>hS4) ?_;clear hK K;try simp only[jX]
  refine uS 8 rfl (fun K hK=>?_);go_simp;refine hK _ _ (fun _=>hS4) ?_;clear hK K;try simp only[jX]
  obtain⟨w5,hr5,hB5,hm5⟩:=hst (v+l.am) hwf;refine uS 9 rfl (fun K hK=>?_);go_simp;refine hK _ _ (fun h=>absurd rfl h) ?_;clear hK K;refine dP ?_;have c5:=hm5.cell hS.1 hne0;have k0:=hm5.cell hS.2.2.1.1 hne2;have k1:=hm5.cell hS.2.2.1.2.1 hne2;have k2:=hm5.cell hS.2.2.1.2.2 hne2;have M5:Mod (fun i=>i=b) w w5:=((hM.transB' hB12).transB' hbX).trans hm5;have hlk5:=(hB5.look hkw).1;rw[fLk] at hlk5;unfold kv at hlk5;simp only[Option.getD_some] at hlk5;have HB5:Hid (Book w5 b (m'+1) (upd3 fk l.sh l.ac l.ast (some (v+l.am)))):=hB5;clear hS hS4 hr hst hr5 hB5 hB4 hm4 hm5 HB2 t0 c2 c1;by_cases hz:v+l.am=0
  ·
   obtain⟨w6,hr6,hB6,hg6⟩:=HB5.out.del hkw 0;unfold kv at hr6;have HB6:Hid (Book w6 b (m'+1) (pO f (ls.take (k+1)))):=by
    rw[fRn] at hB6;rw[Hid,HSU.out];unfold addL;rw[←HV.out,if_pos hz];exact hB6
   have hM6:Mod (fun i=>i=b) w w6:=M5.trans ((Mod.of_grown hg6).mono (fun i e=>by simpa using e.symm));have c6:=(Mod.of_grown hg6).cell c5 (fun e=>by simp at e;omega);clear hB6 hg6;rw[hz] at hlk5;go_wp2;exact⟨⟨k+1,m'+1,by omega,by go_num,by omega,HB6,c6,hM6⟩,mI⟩
  have HB6:Hid (Book w5 b (m'+1) (pO f (ls.take (k+1)))):=by
   rw[Hid,HSU.out];unfold addL;rw[←HV.out,if_neg hz];exact HB5.out
  go_wp2;exact⟨⟨k+1,m'+1,by omega,by go_num,by omega,HB6,c5,M5⟩,mI⟩
 have hkq:k=q:=oM;subst hkq;have hk':¬((k:Int)<k):=oM;have HB6:Hid (∃m'',m''≤m+k∧Book w1 b m'' (pO f ls)∧Mod (fun i=>i=b) w w1):=⟨m',hm',by
  have:=HB.out;rw[List.take_of_length_le (by rw[HN.out];omega)] at this;exact this,hM⟩
 go_wp2;go_end0;exact⟨rfl,HB6.out⟩
end
section
variable [dQ Rw] [iH Rw] [dQ Bal] [iH Bal] [dQ Ledg] [iH Ledg] [dQ Leg] [iH Leg] [dQ Cont] [iH Cont] [dQ LedgR] [iH LedgR]
theorem fLw {f:Int→Int→Int→Option Int} {M:Int} (hf:∀s a t,-M≤(f s a t).getD 0∧(f s a t).getD 0≤M) (ls:List Leg):(∀l ∈ ls,-1000000000000≤l.am∧l.am≤1000000000000)→∀s a t,-(M+ls.length*1000000000000)≤(pO f ls s a t).getD 0∧(pO f ls s a t).getD 0≤M+ls.length*1000000000000:=by
 refine fJf (P:=fun ls=>(∀l ∈ ls,-1000000000000≤l.am∧l.am≤1000000000000)→∀s a t,-(M+ls.length*1000000000000)≤(pO f ls s a t).getD 0∧(pO f ls s a t).getD 0≤M+ls.length*1000000000000) ?_ ?_ ls
 ·intro _ s a t;have:=hf s a t;simpa [pO] using this
 intro ls l ih hl s a t;have h1:=ih (fun x hx=>hl x (List.mem_append_left _ hx));have h2:=hl l (by simp);rw[fB7,List.length_append,List.length_singleton];unfold addL upd3;have h3:=h1 s a t;have h4:=h1 l.sh l.ac l.ast;split
 ·
  split
  ·simp only[Option.getD_none];omega
  simp only[Option.getD_some];omega
 omega
theorem fLy {g:Ledg} (h:tJ g=0):∀s a t,-1000000000000≤(kY g.shards s a t).getD 0∧(kY g.shards s a t).getD 0≤1000000000000:=by
 intro s a t;unfold kY;split
 ·rename_i hr;have hk:=(fDt h).2.2 s.toNat oM;have h1:=fL8 (a:=a) (t:=t) hk.ok;rw[fBf] at h1;omega
 simp
end
section
variable [dQ Leg] [iH Leg] [dQ Bal] [iH Bal] [dQ Ledg] [iH Ledg]
structure OutcR where
 code:Int
 outcomes:List Int
 ledger:Ledg
variable [dQ OutcR] [iH OutcR]
end
section
variable [dQ Bal] [iH Bal] [dQ Mrk] [iH Mrk] [dQ Leg] [iH Leg] [dQ Cont] [iH Cont] [dQ Shd] [iH Shd]
structure ShdR where
 code:Int
 vote:Int
 shard:Shd
variable [dQ ShdR] [iH ShdR]
def shdRR:Rep ShdR where
 V:=fun w v x=>∃u1_1 u1_2 u1_3 u1_4 u1_5,v =.agg #[.int .i64 x.code,.int .i64 x.vote,.int .i64 x.shard.idx,u1_1,u1_2,u1_3,u1_4,u1_5]∧shdR.V w (.agg #[.int .i64 x.shard.idx,u1_1,u1_2,u1_3,u1_4,u1_5]) x.shard
 O:=fun w base F v x=>∃u1_1 u1_2 u1_3 u1_4 u1_5 F1,v =.agg #[.int .i64 x.code,.int .i64 x.vote,.int .i64 x.shard.idx,u1_1,u1_2,u1_3,u1_4,u1_5]∧shdR.O w base F1 (.agg #[.int .i64 x.shard.idx,u1_1,u1_2,u1_3,u1_4,u1_5]) x.shard∧(∀b,F b↔(F1 b))
 below:=fun h hb=>by
  obtain⟨u1_1,u1_2,u1_3,u1_4,u1_5,rfl,h1⟩:=h;exact⟨u1_1,u1_2,u1_3,u1_4,u1_5,rfl,shdR.below h1 hb⟩
 ofO:=fun h=>by
  obtain⟨u1_1,u1_2,u1_3,u1_4,u1_5,F1,rfl,h1,_⟩:=h;exact⟨u1_1,u1_2,u1_3,u1_4,u1_5,rfl,shdR.ofO h1⟩
 mod:=fun h hm hd=>by
  obtain⟨u1_1,u1_2,u1_3,u1_4,u1_5,F1,rfl,h1,hF⟩:=h;exact⟨u1_1,u1_2,u1_3,u1_4,u1_5,F1,rfl,shdR.mod h1 hm (fun b hb=>hd b ((hF b).2 hb)),hF⟩
 rng:=fun h b hb=>by
  obtain⟨u1_1,u1_2,u1_3,u1_4,u1_5,F1,rfl,h1,hF⟩:=h;rcases(hF b).1 hb with hb
  exact shdR.rng h1 b hb
 base:=fun h hb=>by
  obtain⟨u1_1,u1_2,u1_3,u1_4,u1_5,F1,rfl,h1,hF⟩:=h;exact⟨u1_1,u1_2,u1_3,u1_4,u1_5,F1,rfl,shdR.base h1 hb,hF⟩
def vT (x:ShdR):Nat:=vY x.shard
theorem fTu {w:World} {v:Value} {x:ShdR} (h:shdRR.V w v x):∃a1_1 a1_2 a1_3 a1_4 a1_5 c1_1 c1_2 c1_3 c1_4 c1_5,v =.agg #[.int .i64 x.code,.int .i64 x.vote,.int .i64 x.shard.idx,.slice a1_1 x.shard.bals.length c1_1,.slice a1_2 x.shard.votes.length c1_2,.slice a1_3 x.shard.held.length c1_3,.slice a1_4 x.shard.done.length c1_4,.slice a1_5 x.shard.appl.length c1_5]:=by
 obtain⟨u1_1,u1_2,u1_3,u1_4,u1_5,rfl,h1⟩:=h;obtain⟨a1_1,a1_2,a1_3,a1_4,a1_5,c1_1,c1_2,c1_3,c1_4,c1_5,e1⟩:=fB0 h1;simp only[Value.agg.injEq,Array.mk.injEq,List.cons.injEq,and_true,true_and] at e1;obtain⟨rfl,rfl,rfl,rfl,rfl⟩:=e1;exact⟨_,_,_,_,_,_,_,_,_,_,rfl⟩
end
section
variable [dQ Rw] [iH Rw] [dQ Bal] [iH Bal] [dQ Ledg] [iH Ledg] [dQ Leg] [iH Leg] [dQ Cont] [iH Cont] [dQ LedgR] [iH LedgR] [dQ OutcR] [iH OutcR] [dQ Mrk] [iH Mrk] [dQ Shd] [iH Shd] [dQ ShdR] [iH ShdR]
def fK (c:Int):List Mrk→Int
 | []=>0
 | m::r=>if m.con=c then m.val else fK c r
def qE (xs:List Mrk) (k:Nat):Int:=if (inB (xs.getD k default).con 1 1000000000&&inB (xs.getD k default).val 1 2)=true then (if 0<k∧¬(xs.getD (k-1) default).con<(xs.getD k default).con then 1 else 0) else 3
def mrkF (xs:List Mrk):Int:=fJ (qE xs) xs.length
def fO (hs:List Cont) (c:Int):Bool:=hs.any (fun x=>x.id==c)
def pU (x y:Leg):Bool:=x.ac==y.ac&&x.ast==y.ast
def touch (a b:List Leg):Bool:=a.any (fun x=>b.any (fun y=>pU x y))
def tZ (hs:List Cont) (k:Nat):Bool:=decide (k=0∨(hs.getD (k-1) default).id<(hs.getD k default).id)
def kC (s:Shd) (k:Nat):Int:=
 if fA (s.held.getD k default).id (s.held.getD k default).legs=0 then
  (if tZ s.held k=true∧¬(onSh s.idx (s.held.getD k default).legs).length=0∧fK (s.held.getD k default).id s.votes=1∧fK (s.held.getD k default).id s.done=0 then 0 else 1)
 else fA (s.held.getD k default).id (s.held.getD k default).legs
def kG (s:Shd) (k:Nat):Int:=if (s.votes.getD k default).val=1∧fO s.held (s.votes.getD k default).con=false∧fK (s.votes.getD k default).con s.done=0 then 1 else 0
def kE (s:List Mrk):List Int:=(s.filter (fun m=>m.val==1)).map (fun m=>m.con)
def xU (done:List Mrk) (appl:List Int):Bool:=decide ((kE done).length=appl.length∧∀k,k<appl.length→fK (appl.getD k 0) done=1∧¬(appl.getD k 0) ∈ appl.take k)
def kH (s:Shd) (k:Nat):List Leg:=onSh s.idx (s.held.getD k default).legs
def gT (s:Shd) (k:Nat):Int:=if (List.range k).any (fun j=>touch (kH s k) (kH s j))=true then 7 else 0
def xW (xs:List Bal) (ls:List Leg):Int:=fJ (fun k=>canB xs (ls.getD k default)) ls.length
def gL (s:Shd) (k:Nat):Int:=xW s.bals (kH s k)
def pW (idx:Int) (bs:List Bal):Int:=if inB idx 0 2=true then gY bs else 3
def kZ (s:Shd):Int:=
 if pW s.idx s.bals=0 then
  (if 100<s.votes.length∨100<s.held.length∨100<s.done.length∨100<s.appl.length then 2
   else if mrkF s.votes=0 then
    (if mrkF s.done=0 then
     (if fJ (kC s) s.held.length=0 then
      (if fJ (kG s) s.votes.length=0 then (if xU s.done s.appl=true then 0 else 1) else 1)
     else fJ (kC s) s.held.length)
    else mrkF s.done)
   else mrkF s.votes)
 else pW s.idx s.bals
def yT (s:Shd):Int:=if fJ (gT s) s.held.length=0 then fJ (gL s) s.held.length else fJ (gT s) s.held.length
def shdF (s:Shd):Int:=if kZ s=0 then yT s else kZ s
theorem fCh {c:Int} {xs:List Mrk} {k:Nat} (h:k<xs.length):fK c (xs.drop k)=if (xs.getD k default).con=c then (xs.getD k default).val else fK c (xs.drop (k+1)):=by
 rw[List.drop_eq_getElem_cons h];simp[fK,List.getD,h]
theorem fCi {c:Int} {xs:List Mrk}:∀{i:Nat},i≤xs.length→(∀k,k<i→¬(xs.getD k default).con=c)→fK c xs=fK c (xs.drop i)
 | 0,_,_=>by simp
 | i+1,h,hn=>by
  rw[fCi (i:=i) oM (fun k hk=>hn k oM),fCh oM,if_neg (hn i oM)]
theorem fG0 {c:Int} {xs:List Mrk} (h:∀k,k<xs.length→¬(xs.getD k default).con=c):fK c xs=0:=by
 rw[fCi (Nat.le_refl _) h];simp[fK]
structure MrksOk (xs:List Mrk):Prop where
 ok:∀k,k<xs.length→(1≤(xs.getD k default).con∧(xs.getD k default).con≤1000000000)∧(1≤(xs.getD k default).val∧(xs.getD k default).val≤2)
 rise:∀i j,i<j→j<xs.length→(xs.getD i default).con<(xs.getD j default).con
theorem zK {xs:List Mrk} (h:mrkF xs=0):MrksOk xs:=by
 have h1:∀k,k<xs.length→qE xs k=0:=uM h
 have hr:∀k,k+1<xs.length→(xs.getD k default).con<(xs.getD (k+1) default).con:=fun k hk=>by
  have h2:=h1 (k+1) hk;unfold qE at h2;split at h2
  ·
   split at h2
   ·omega
   rename_i h3;rw[Nat.add_sub_cancel] at h3;by_cases h4:(xs.getD k default).con<(xs.getD (k+1) default).con
   ·exact h4
   exact absurd ⟨oM,h4⟩ h3
  omega
 refine⟨fun k hk=>?_,fun i j=>?_⟩
 ·
  have h2:=h1 k hk;unfold qE at h2;split at h2
  ·rename_i h3;simp only[Bool.and_eq_true,inBi] at h3;exact h3
  omega
 induction j with
 | zero=>intro h;omega
 | succ j ih=>
  intro hij hj;have:=hr j hj;by_cases e:i=j
  ·rw[e];exact this
  have:=ih oM oM;omega
theorem fDs {xs:List Mrk} {c:Int} {i:Nat} (hr:∀i j,i<j→j<xs.length→(xs.getD i default).con<(xs.getD j default).con) (hi:i≤xs.length) (h1:∀k,k<i→(xs.getD k default).con<c) (h2:∀k,i≤k→k<xs.length→c≤(xs.getD k default).con) :
  fK c xs=if i<xs.length∧(xs.getD i default).con=c then (xs.getD i default).val else 0:=by
 rw[fCi hi (fun k hk=>by have:=h1 k hk;omega)];by_cases hl:i<xs.length
 ·
  rw[fCh hl];by_cases he:(xs.getD i default).con=c
  ·rw[if_pos he,if_pos ⟨hl,he⟩]
  rw[if_neg he,if_neg (fun h=>he h.2)];refine fG0 fun k hk=>?_
  rw[List.length_drop] at hk;have e:(xs.drop (i+1)).getD k default=xs.getD (i+1+k) default:=by simp[List.getD]
  rw[e];have a:=hr i (i+1+k) oM oM;have b:=h2 i (Nat.le_refl _) hl;omega
 rw[if_neg (fun h=>hl h.1),List.drop_eq_nil_of_le oM];rfl
theorem heldIn_mem {hs:List Cont} {c:Int}:fO hs c=true↔∃k,k<hs.length∧(hs.getD k default).id=c:=by
 unfold fO;rw[List.any_eq_true];constructor
 ·rintro⟨x,hx,h⟩;obtain⟨k,hk,rfl⟩:=List.getElem_of_mem hx;exact⟨k,hk,by simpa [List.getD,hk] using h⟩
 rintro⟨k,hk,h⟩;exact⟨hs[k],List.getElem_mem hk,by simpa [List.getD,hk] using h⟩
theorem fKc {hs:List Cont} {c:Int} {i:Nat} (hr:∀i j,i<j→j<hs.length→(hs.getD i default).id<(hs.getD j default).id) (h1:∀k,k<i→(hs.getD k default).id<c) (h2:∀k,i≤k→k<hs.length→c≤(hs.getD k default).id) :
  fO hs c=decide (i<hs.length∧(hs.getD i default).id=c):=by
 rw[Bool.eq_iff_iff,heldIn_mem,decide_eq_true_iff];constructor
 ·
  rintro⟨k,hk,e⟩;by_cases a:k<i
  ·have:=h1 k a;omega
  by_cases b:k=i
  ·rw[←b];exact⟨hk,e⟩
  have:=hr i k oM hk;have:=h2 i (Nat.le_refl _) oM;omega
 rintro⟨a,b⟩;exact⟨i,a,b⟩
theorem fAw {hs:List Cont} {c:Int} {k:Nat} (hk:k<hs.length):fO (hs.take (k+1)) c=(fO (hs.take k) c||decide ((hs.getD k default).id=c)):=by
 have e:hs.take (k+1)=hs.take k++[hs.getD k default]:=by rw[List.take_add_one];simp[List.getD,hk]
 unfold fO;rw[e,List.any_append];simp only[List.any_cons,List.any_nil,Bool.or_false];congr 1
theorem fGz {xs:List Mrk} {k:Nat} (hk:k<xs.length):kE (xs.take (k+1))=if (xs.getD k default).val=1 then kE (xs.take k)++[(xs.getD k default).con] else kE (xs.take k):=by
 have e:xs.take (k+1)=xs.take k++[xs.getD k default]:=by rw[List.take_add_one];simp[List.getD,hk]
 unfold kE;rw[e,List.filter_append,List.map_append];by_cases h:(xs.getD k default).val=1
 ·rw[if_pos h,List.filter_cons_of_pos (by simp only[beq_iff_eq];exact h)];rfl
 rw[if_neg h,List.filter_cons_of_neg (by simp only[beq_iff_eq];exact h)];simp
theorem fOa (xs:List Mrk):(kE xs).length≤xs.length:=by
 unfold kE;rw[List.length_map];exact List.length_filter_le _ _
theorem fJ2 {xs:List Mrk} (h:MrksOk xs) {c:Int}:c ∈ kE xs↔fK c xs=1:=by
 unfold kE;rw[List.mem_map];constructor
 ·
  rintro⟨m,hm,rfl⟩;obtain⟨h1,h2⟩:=List.mem_filter.1 hm;obtain⟨k,hk,rfl⟩:=List.getElem_of_mem h1;have e:xs[k]=xs.getD k default:=by simp[List.getD,hk]
  rw[e] at h2 ⊢;rw[fDs (i:=k) h.rise oM (fun j hj=>h.rise j k hj hk) (fun j hj hl=>by
   by_cases e:k=j
   ·rw[e];exact Int.le_refl _
   have:=h.rise k j oM hl;omega),if_pos ⟨hk,rfl⟩]
  simpa using h2
 intro hf;by_cases hex:∃k,k<xs.length∧(xs.getD k default).con=c
 ·
  obtain⟨k,hk,rfl⟩:=hex;rw[fDs (i:=k) h.rise oM (fun j hj=>h.rise j k hj hk) (fun j hj hl=>by
   by_cases e:k=j
   ·rw[e];exact Int.le_refl _
   have:=h.rise k j oM hl;omega),if_pos ⟨hk,rfl⟩] at hf
  have e:xs[k]=xs.getD k default:=by simp[List.getD,hk]
  exact⟨xs[k],List.mem_filter.2 ⟨List.getElem_mem hk,by rw[e];simp only[beq_iff_eq];exact hf⟩,by rw[e]⟩
 rw[fG0 (fun k hk he=>hex ⟨k,hk,he⟩)] at hf;omega
theorem fP2 {xs:List Mrk} (h:MrksOk xs):(kE xs).Pairwise (fun a b=>a<b):=by
 unfold kE;rw[List.pairwise_map];refine List.Pairwise.filter _ ?_;rw[List.pairwise_iff_getElem];intro i j hi hj hij;have:=h.rise i j hij hj;simpa [List.getD,hi,hj] using this
theorem fFe:∀{l1 l2:List Int},l1.Nodup→(∀x ∈ l1,x ∈ l2)→l2.length=l1.length→l1.Perm l2
 | [],l2,_,_,hl=>by rw[List.length_nil] at hl;rw[List.eq_nil_of_length_eq_zero hl]
 | x::l1,l2,hn,hs,hl=>by
  obtain⟨hx,hn⟩:=List.nodup_cons.1 hn;have hm:=hs x (List.mem_cons_self ..);have hp:=List.perm_cons_erase hm;refine List.Perm.trans (List.Perm.cons x (fFe hn (fun y hy=>?_) ?_)) hp.symm
  ·
   have:y≠x:=fun e=>hx (e▸hy)
   exact(List.mem_erase_of_ne this).2 (hs y (List.mem_cons_of_mem _ hy))
  rw[List.length_erase_of_mem hm,hl];rfl
theorem fQ6 {l:List Int} (h:∀k,k<l.length→¬(l.getD k 0) ∈ l.take k):l.Nodup:=by
 unfold List.Nodup;rw[List.pairwise_iff_getElem];intro i j hi hj hij e;refine h j hj ?_;have e2:l.getD j 0=l[j]:=by simp[List.getD,hj]
 rw[e2,←e];exact List.mem_take_iff_getElem.2 ⟨i,by omega,rfl⟩
theorem fRm {l:List Int} (h:l.Nodup) {k:Nat} (hk:k<l.length):¬(l.getD k 0) ∈ l.take k:=by
 intro hm;obtain⟨i,hi,e⟩:=List.mem_take_iff_getElem.1 hm;unfold List.Nodup at h;rw[List.pairwise_iff_getElem] at h;have e2:l.getD k 0=l[k]:=by simp[List.getD,hk]
 exact h i k oM hk oM (by rw[e,e2])
theorem fPn {done:List Mrk} (h:MrksOk done) (appl:List Int):xU done appl=decide (appl.mergeSort (fun x y=>decide (x≤y))=kE done):=by
 unfold xU;rw[decide_eq_decide];have hsort:=fP2 h;have hle:(kE done).Pairwise (fun a b=>decide (a≤b)=true):=hsort.imp (fun h=>by simp;omega);constructor
 ·
  rintro⟨hl,hk⟩;have hp:appl.Perm (kE done):=fFe (fQ6 fun k hk'=>(hk k hk').2) (fun x hx=>by
   obtain⟨k,hk',rfl⟩:=List.getElem_of_mem hx;have:=(hk k hk').1;rw[fJ2 h];simpa [List.getD,hk'] using this) hl
  refine List.Perm.eq_of_pairwise (le:=fun a b=>decide (a≤b)=true) (fun a b _ _ h1 h2=>?_) (List.pairwise_mergeSort (fun a b c h1 h2=>?_) (fun a b=>?_) _) hle ((List.mergeSort_perm _ _).trans hp)
  ·simp at h1 h2;omega
  ·simp at h1 h2 ⊢;omega
  simp;omega
 intro he;have hp:appl.Perm (kE done):=by rw[←he];exact(List.mergeSort_perm _ _).symm
 have hn:appl.Nodup:=hp.nodup_iff.2 (hsort.imp (fun h e=>oM));refine⟨hp.length_eq.symm,fun k hk=>⟨?_,fRm hn hk⟩⟩;rw[←fJ2 h];exact hp.mem_iff.1 (by simp[List.getD,hk])
def fGq (idx:Int) (hs:List Cont) (ls:List Leg):Bool:=(onSh idx ls).any (fun l=>hs.any (fun o=>fU o.legs l))
theorem touch_place {idx:Int} {a b:List Leg}:(onSh idx a).any (fun l=>fU b l)=touch (onSh idx a) (onSh idx b):=by
 unfold touch;rw[Bool.eq_iff_iff,List.any_eq_true,List.any_eq_true];constructor
 ·rintro⟨l,hl,h⟩;refine⟨l,hl,?_⟩;unfold fU at h;rw[List.any_eq_true] at h ⊢;obtain⟨o,ho,h⟩:=h;simp only[uA,Bool.and_eq_true,beq_iff_eq] at h;obtain⟨_,hs⟩:=List.mem_filter.1 hl;simp only[beq_iff_eq] at hs;exact⟨o,List.mem_filter.2 ⟨ho,by simp only[beq_iff_eq];omega⟩,by simp only[pU,Bool.and_eq_true,beq_iff_eq];omega⟩
 rintro⟨l,hl,h⟩;refine⟨l,hl,?_⟩;unfold fU;rw[List.any_eq_true] at h ⊢;obtain⟨o,ho,h⟩:=h;obtain⟨ho,hs⟩:=List.mem_filter.1 ho;obtain⟨_,hs2⟩:=List.mem_filter.1 hl;simp only[pU,Bool.and_eq_true,beq_iff_eq] at h hs hs2;exact⟨o,ho,by simp only[uA,Bool.and_eq_true,beq_iff_eq];omega⟩
theorem fC0 {idx:Int} {hs:List Cont} {ls:List Leg}:fGq idx hs ls=hs.any (fun o=>touch (onSh idx ls) (onSh idx o.legs)):=by
 unfold fGq;have e:∀o:Cont,touch (onSh idx ls) (onSh idx o.legs)=(onSh idx ls).any (fun l=>fU o.legs l):=fun o=>touch_place.symm
 simp only[e];rw[Bool.eq_iff_iff];simp only[List.any_eq_true];constructor
 ·rintro⟨l,hl,o,ho,h⟩;exact⟨o,ho,l,hl,h⟩
 rintro⟨o,ho,l,hl,h⟩;exact⟨l,hl,o,ho,h⟩
theorem fJr {idx:Int} {hs:List Cont} {ls:List Leg} {k:Nat} (hk:k≤hs.length):fGq idx (hs.take k) ls=(List.range k).any (fun j=>touch (onSh idx ls) (onSh idx (hs.getD j default).legs)):=by
 rw[fC0,Bool.eq_iff_iff];simp only[List.any_eq_true,List.mem_range];constructor
 ·
  rintro⟨o,ho,h⟩;obtain⟨i,hi,e⟩:=List.mem_take_iff_getElem.1 ho;refine⟨i,by omega,?_⟩;have:hs.getD i default=o:=by rw[←e];simp[List.getD,show i<hs.length by omega]
  rw[this];exact h
 rintro⟨j,hj,h⟩;refine⟨hs.getD j default,List.mem_take_iff_getElem.2 ⟨j,by omega,by simp[List.getD,show j<hs.length by omega]⟩,h⟩
end
end Go.Proofs.YtpibfdebfacooaaGreat

import Derived.Test.YtbfnobcidnmohaaGreatPrnSafeClusterLaw10
import Derived.WideKeyEntry
import Derived.Shelf.SlSortCmp.WholeK
set_option maxHeartbeats 2000000
set_option maxRecDepth 100000
set_option linter.unusedSectionVars false
set_option linter.unusedVariables false
set_option linter.unusedSimpArgs false
namespace Go.Proofs.YtbfnobcidnmohaaGreat
open Go.RowKit
attribute [local go_sem ↓] Go.wp_at_zero Go.wp_at_succ
section
variable [dQ Bal] [iH Bal] [dQ Ledg] [iH Ledg] [dQ Leg] [iH Leg] [dQ Cont] [iH Cont] [dQ LedgR] [iH LedgR]
theorem fE5 {F:Nat→Prop} {w w':World} (h:Mod F w w') {a:Addr} (hl:a.block<w.heap.size) (hn:¬F a.block):w'.frozen? a=w.frozen? a:=World.frozen?_of_block (h.block a.block hl hn)
structure StSt (w W:World) (n:Nat) (ag:Option Addr) (cg:Nat) (id:Int) (ac:Option Addr) (m cc:Nat) (v:Value):Prop where
 g0:W.cell? ⟨w.heap.size,0,none⟩=some (.slice ag n cg)
 y0:W.cell? ⟨w.heap.size+1,0,none⟩=some (.int .i64 id)
 y1:W.cell? ⟨w.heap.size+1,1,none⟩=some (.slice ac m cc)
 r0:W.cell? ⟨w.heap.size+1+1,0,none⟩=some (.slice none 0 0)
 o0:W.cell? ⟨w.heap.size+1+1+1,0,none⟩=some v
 rf:∀o,W.frozen? ⟨w.heap.size+1+1,o,none⟩=false
 of:∀o,W.frozen? ⟨w.heap.size+1+1+1,o,none⟩=false
 sz:w.heap.size+4≤W.heap.size
 blw:Below w.heap.size w W
theorem StSt.mod {w W W':World} {n:Nat} {ag:Option Addr} {cg:Nat} {id:Int} {ac:Option Addr} {m cc:Nat} {v:Value} {F:Nat→Prop} (h:StSt w W n ag cg id ac m cc v) (hm:Mod F W W') (hF:∀b,F b→w.heap.size+4≤b):StSt w W' n ag cg id ac m cc v:=by
 have hsz:=h.sz;have hn:∀b,b<w.heap.size+4→¬F b:=fun b hb e=>by have:=hF b e;omega
 exact⟨hm.cell h.g0 (hn _ (by dsimp only;omega)),hm.cell h.y0 (hn _ (by dsimp only;omega)),hm.cell h.y1 (hn _ (by dsimp only;omega)),hm.cell h.r0 (hn _ (by dsimp only;omega)),hm.cell h.o0 (hn _ (by dsimp only;omega)),
  fun o=>(fE5 hm (a:=⟨w.heap.size+1+1,o,none⟩) (by dsimp only;omega) (hn _ (by dsimp only;omega))).trans (h.rf o),fun o=>(fE5 hm (a:=⟨w.heap.size+1+1+1,o,none⟩) (by dsimp only;omega) (hn _ (by dsimp only;omega))).trans (h.of o),Nat.le_trans hsz hm.size,hm.below h.blw oM (fun b hb=>by have:=hF b hb;omega)⟩
theorem StSt.below {w W W':World} {n:Nat} {ag:Option Addr} {cg:Nat} {id:Int} {ac:Option Addr} {m cc:Nat} {v:Value} (h:StSt w W n ag cg id ac m cc v) (hb:Below W.heap.size W W'):StSt w W' n ag cg id ac m cc v:=
 h.mod (F:=fun _=>False) (Mod.of_below hb) (fun _ e=>e.elim)
theorem StSt.put {w W:World} {n:Nat} {ag:Option Addr} {cg:Nat} {id:Int} {ac:Option Addr} {m cc:Nat} {v:Value} (h:StSt w W n ag cg id ac m cc v) (v':Value):StSt w (W.setCell ⟨w.heap.size+1+1+1,0,none⟩ v') n ag cg id ac m cc v':=
 ⟨by rw[mP (by simp)];exact h.g0,by rw[mP (by simp)];exact h.y0,by rw[mP (by simp)];exact h.y1,by rw[mP (by simp)];exact h.r0,fAj h.o0,fun o=>by rw[World.frozen?_setCell];exact h.rf o,fun o=>by rw[World.frozen?_setCell];exact h.of o,by simpa using h.sz,h.blw.setCell (by dsimp only;omega) _⟩
theorem StSt.all {w W:World} {n:Nat} {ag:Option Addr} {cg:Nat} {id:Int} {ac:Option Addr} {m cc:Nat} {v:Value} {b o k:Nat} {u:Value} (h:StSt w W n ag cg id ac m cc v) (hc:W.cell? ⟨b,o+k,none⟩=some u) :
  StSt w W n ag cg id ac m cc v∧W.cell? ⟨w.heap.size+1+1+1,0,none⟩=some v∧W.cell? ⟨w.heap.size,0,none⟩=some (.slice ag n cg)∧W.cell? ⟨w.heap.size+1,0,none⟩=some (.int .i64 id)∧W.cell? ⟨w.heap.size+1,1,none⟩=some (.slice ac m cc)∧W.cell? ⟨b,o+k,none⟩=some u:=
 ⟨h,h.o0,h.g0,h.y0,h.y1,hc⟩
end
section
open Go.Maps Go.WideElems Go.ChangeMaps
variable [dQ Bal] [iH Bal] [dQ Ledg] [iH Ledg] [dQ Leg] [iH Leg] [dQ Cont] [iH Cont]
open Go.WideMaps (KeyLaw)
theorem fXq:KeyLaw Tryz.prog 183:=deep_law_laid laidOut (m:=2) oM (of_decide_eq_true kF) kF fFz
theorem yM (w:World) (b:Nat) (x y:Obj):setBlock (setBlock w b x) b y=setBlock w b y:=by
 unfold setBlock;simp
theorem fBq (w:World) (b:Nat) (x:Obj):Mod (fun i=>i=b) w (setBlock w b x):=by
 refine⟨rfl,rfl,rfl,?_,fun i hi hn=>?_⟩
 ·simp[setBlock]
 simp only[setBlock];rw[Array.getElem?_setIfInBounds,if_neg (fun e=>hn e.symm)]
theorem Book.entry {w:World} {b n:Nat} {f:Int→Int→Int→Option Int} (h:Book w b n f) {s a t:Int} (hw:kwf s a t) (hn:n<maxLen) :
  ∃v0 st w1,(Instr.mapEntry 93 (.map (some b)) (kv s a t)).run Tryz.prog w =.ok (.tuple #[v0,goInt st]) w1∧Mod (fun i=>i=b) w w1 ∧
   ∀v,(Lit.int .i64 v).wf=true→∃w',(Instr.entryStore 93 (.map (some b)) (goInt st) (.int .i64 v)).run Tryz.prog w1 =.ok () w'∧Book w' b (n+1) (upd3 f s a t (some v))∧Mod (fun i=>i=b) w w':=by
 have hB:=h;have hlt:=h.lt;obtain⟨D,⟨es,clock,hb,Ft,hs,hD⟩,h1⟩:=h;obtain⟨kl,hk⟩:=fB7 hw;obtain⟨v0,st,es1,clock1,hr,_,hst⟩:=entry_then_store fXq Tryz.underlying93 (fun u=>fTh u) hb Ft hk;refine⟨v0,st,_,hr,fBq _ _ _,fun v hv=>?_⟩;obtain⟨es',clock',hr2,hr3⟩:=hst (setBlock w b (.map es1 clock1)) (.int .i64 v) (by simp[setBlock,hlt]);obtain⟨w',hp,hB',_⟩:=hB.put hw hv hn;rw[hr3] at hp;have e:setBlock w b (.map es' clock')=w':=by
  injection hp
 refine⟨_,hr2,?_,?_⟩
 ·rw[yM,e];exact hB'
 rw[yM];exact fBq _ _ _
theorem fTw {H:Type} {P:Program} {w:World} {t k e:TypeId} {R:Value→Option (DataW H × List MemPlace)} {b:Nat} {es:Array MapEntry} {clock:Nat} (K:KeyLaw P k) (ht:P.underlying t=some (.map k e)) {z:Value} (hz:∀u:World,(zeroValue e).run P u =.ok z u) (hb:w.heap[b]? = some (.map es clock)) (F:Go.WideElems.Fit P k R es clock)
  {key:Value} {kl:Lit} (hkey:keyOf P k key=some kl) :
  ∃(v0:Value) (st:Nat) (X:World),(Instr.mapEntry t (.map (some b)) key).run P w =.ok (.tuple #[v0,goInt st]) X∧(Instr.mapUpdate t (.map (some b)) key v0).run P w =.ok () X∧(Instr.lookup t (.map (some b)) key false).run P w =.ok v0 w:=by
 rcases K.find w hkey es.toList F.keys with ⟨h1,h2⟩|⟨j,e0,h1,h2,h3⟩
 ·
  refine⟨z,clock,setBlock w b (.map (es.push ⟨key,z,clock⟩) (clock+1)),?_,?_,?_⟩
  ·simp[Instr.mapEntry,run_underlying ht,MapKept.run_getObj_map hb,K.check w false hkey,h1,hz,MapKept.run_setObj_map _ hb,Result.andThen,setBlock]
  ·simp[Instr.mapUpdate,run_underlying ht,MapKept.run_getObj_map hb,K.check w false hkey,h1,MapKept.run_setObj_map _ hb,Result.andThen,setBlock]
  simp[Instr.lookup,run_underlying ht,MapKept.run_getObj_map hb,K.check w _ hkey,h1,hz,Result.andThen]
 have hj:es[j]? = some e0:=by simpa using h2
 have hA:es.modify j (fun e=>{e with key:=key})=es:=by
  apply Array.ext';rw[Array.toList_modify,modify_eq_set _ _ _ _ h2];have q:({e0 with key:=key}:MapEntry)=e0:=by rw[←h3]
  rw[q];exact set_self _ _ _ h2
 have hB:es.modify j (fun e'=>{e' with key:=key,val:=e0.val})=es:=by
  apply Array.ext';rw[Array.toList_modify,modify_eq_set _ _ _ _ h2];have q:({e0 with key:=key,val:=e0.val}:MapEntry)=e0:=by rw[←h3]
  rw[q];exact set_self _ _ _ h2
 refine⟨e0.val,e0.born,setBlock w b (.map es clock),?_,?_,?_⟩
 ·simp[Instr.mapEntry,run_underlying ht,MapKept.run_getObj_map hb,K.check w false hkey,h1,hj,h3,K.stays w hkey,hA,MapKept.run_setObj_map _ hb,Result.andThen,setBlock]
 ·simp[Instr.mapUpdate,run_underlying ht,MapKept.run_getObj_map hb,K.check w false hkey,h1,hj,h3,K.stays w hkey,hB,MapKept.run_setObj_map _ hb,Result.andThen,setBlock]
 simp[Instr.lookup,run_underlying ht,MapKept.run_getObj_map hb,K.check w _ hkey,h1,hj,Result.andThen]
theorem Book.entry2 {w:World} {b n:Nat} {f:Int→Int→Int→Option Int} (h:Book w b n f) {s a t:Int} (hw:kwf s a t) (hn:n<maxLen) :
  ∃v0 st w1,(Instr.mapEntry 93 (.map (some b)) (kv s a t)).run Tryz.prog w =.ok (.tuple #[v0,goInt st]) w1∧Mod (fun i=>i=b) w w1∧Book w1 b (n+1) (upd3 f s a t (some ((f s a t).getD 0))) ∧
   ∀v,(Lit.int .i64 v).wf=true→∃w',(Instr.entryStore 93 (.map (some b)) (goInt st) (.int .i64 v)).run Tryz.prog w1 =.ok () w'∧Book w' b (n+1) (upd3 f s a t (some v))∧Mod (fun i=>i=b) w w':=by
 obtain⟨v0,st,w1,h1,h2,h3⟩:=h.entry hw hn;refine⟨v0,st,w1,h1,h2,?_,h3⟩;obtain⟨hl,hlw⟩:=h.look hw;have hB:=h;obtain⟨D,⟨es,clock,hb,Ft,hs,hD⟩,_⟩:=h;obtain⟨kl,hk⟩:=fB7 hw;obtain⟨u0,st',X,e1,e2,e3⟩:=fTw fXq Tryz.underlying93 (fun u=>fTh u) hb Ft hk;rw[h1] at e1;rw[hl] at e3;injection e1 with _ eX
 injection e3 with eV _
 obtain⟨w',hp,hB',_⟩:=hB.put hw hlw hn;rw[←eV] at e2;rw[e2] at hp;injection hp with _ eW
 rw[eX,eW];exact hB'
end
section
open Go.Sort Go.Shelf
variable [dQ Rw] [iH Rw] [dQ Bal] [iH Bal] [dQ Ledg] [iH Ledg] [dQ Leg] [iH Leg] [dQ Cont] [iH Cont] [dQ LedgR] [iH LedgR]
theorem fNn:∀(N:Nat) (l:List Nat),l.Nodup→(∀x ∈ l,x<N)→l.length≤N
 | 0,l,_,h=>by
  cases l with
  | nil=>simp
  | cons x r=>exact absurd (h x (by simp)) (Nat.not_lt_zero _)
 | N+1,l,hn,h=>by
  have h1:=fNn N (l.erase N) (hn.erase N) (fun x hx=>by
   obtain⟨h2,h3⟩:=(hn.mem_erase_iff).1 hx;have:=h x h3;omega)
  rw[List.length_erase] at h1;split at h1 <;> omega
def KDom (n:Nat) (f:Int→Int→Int→Option Int):Prop:=∀s a t,(f s a t).isSome=true→(0≤s∧s<(n:Int))∧fC4 a t=true
theorem KDom.len {n:Nat} {f:Int→Int→Int→Option Int} (h:KDom n f) {ys:List K3} (hy:KOk f ys):ys.length≤n*18:=by
 have h1:=fNn (n*18) (ys.map (fun k:K3=>k.1.toNat*18+k.2.1.toNat*3+k.2.2.toNat)) ?_ ?_
 ·simpa using h1
 ·rw[List.Nodup,List.pairwise_map];refine List.Pairwise.imp_of_mem ?_ hy.1;rintro⟨s,a,t⟩ ⟨s',a',t'⟩ hx hx' hne e;obtain⟨⟨_,_⟩,hk⟩:=h s a t (hy.2 _ hx);obtain⟨⟨_,_⟩,hk'⟩:=h s' a' t' (hy.2 _ hx');obtain⟨⟨_,_⟩,_,_⟩:=keyOk_iff.1 hk;obtain⟨⟨_,_⟩,_,_⟩:=keyOk_iff.1 hk';apply hne;dsimp only at e;have e1:s=s':=oM;have e2:a=a':=oM;have e3:t=t':=oM;rw[e1,e2,e3]
 intro x hx;obtain⟨⟨s,a,t⟩,hm,rfl⟩:=List.mem_map.1 hx;obtain⟨⟨_,_⟩,hk⟩:=h s a t (hy.2 _ hm);obtain⟨⟨_,_⟩,_,_⟩:=keyOk_iff.1 hk;dsimp only;omega
end
section
variable [dQ Leg] [iH Leg] [dQ Bal] [iH Bal] [dQ Ledg] [iH Ledg]
structure OutcR where
 code:Int
 outcomes:List Int
 ledger:Ledg
variable [dQ OutcR] [iH OutcR]
end
section
variable [dQ Bal] [iH Bal] [dQ Mrk] [iH Mrk] [dQ Leg] [iH Leg] [dQ Cont] [iH Cont] [dQ Shd] [iH Shd]
structure ShdR where
 code:Int
 vote:Int
 shard:Shd
variable [dQ ShdR] [iH ShdR]
end
section
variable [dQ Rw] [iH Rw] [dQ Bal] [iH Bal] [dQ Ledg] [iH Ledg] [dQ Leg] [iH Leg] [dQ Cont] [iH Cont] [dQ LedgR] [iH LedgR] [dQ OutcR] [iH OutcR] [dQ Mrk] [iH Mrk] [dQ Shd] [iH Shd] [dQ ShdR] [iH ShdR]
def gD (c:Int):List Mrk→Int
 | []=>0
 | m::r=>if m.con=c then m.val else gD c r
def pF (xs:List Mrk) (k:Nat):Int:=if (inB (xs.getD k default).con 1 1000000000&&inB (xs.getD k default).val 1 2)=true then (if 0<k∧¬(xs.getD (k-1) default).con<(xs.getD k default).con then 1 else 0) else 3
def mrkF (xs:List Mrk):Int:=fC (pF xs) xs.length
def kK (hs:List Cont) (c:Int):Bool:=hs.any (fun x=>x.id==c)
def mV (x y:Leg):Bool:=x.ac==y.ac&&x.ast==y.ast
def touch (a b:List Leg):Bool:=a.any (fun x=>b.any (fun y=>mV x y))
def rW (hs:List Cont) (k:Nat):Bool:=decide (k=0∨(hs.getD (k-1) default).id<(hs.getD k default).id)
def gV (s:Shd) (k:Nat):Int:=
 if fA (s.held.getD k default).id (s.held.getD k default).legs=0 then
  (if rW s.held k=true∧¬(onSh s.idx (s.held.getD k default).legs).length=0∧gD (s.held.getD k default).id s.votes=1∧gD (s.held.getD k default).id s.done=0 then 0 else 1)
 else fA (s.held.getD k default).id (s.held.getD k default).legs
def gY (s:Shd) (k:Nat):Int:=if (s.votes.getD k default).val=1∧kK s.held (s.votes.getD k default).con=false∧gD (s.votes.getD k default).con s.done=0 then 1 else 0
def gW (s:List Mrk):List Int:=(s.filter (fun m=>m.val==1)).map (fun m=>m.con)
def vD (done:List Mrk) (appl:List Int):Bool:=decide ((gW done).length=appl.length∧∀k,k<appl.length→gD (appl.getD k 0) done=1∧¬(appl.getD k 0) ∈ appl.take k)
def kM (s:Shd) (k:Nat):List Leg:=onSh s.idx (s.held.getD k default).legs
def gM (s:Shd) (k:Nat):Int:=if (List.range k).any (fun j=>touch (kM s k) (kM s j))=true then 7 else 0
def fHr (xs:List Bal) (ls:List Leg):Int:=fC (fun k=>canB xs (ls.getD k default)) ls.length
def gK (s:Shd) (k:Nat):Int:=fHr s.bals (kM s k)
def pJ (idx:Int) (bs:List Bal):Int:=if inB idx 0 2=true then kH bs else 3
def kU (s:Shd):Int:=
 if pJ s.idx s.bals=0 then
  (if 100<s.votes.length∨100<s.held.length∨100<s.done.length∨100<s.appl.length then 2
   else if mrkF s.votes=0 then
    (if mrkF s.done=0 then
     (if fC (gV s) s.held.length=0 then
      (if fC (gY s) s.votes.length=0 then (if vD s.done s.appl=true then 0 else 1) else 1)
     else fC (gV s) s.held.length)
    else mrkF s.done)
   else mrkF s.votes)
 else pJ s.idx s.bals
def vZ (s:Shd):Int:=if fC (gM s) s.held.length=0 then fC (gK s) s.held.length else fC (gM s) s.held.length
def shdF (s:Shd):Int:=if kU s=0 then vZ s else kU s
theorem fA0 {c:Int} {xs:List Mrk} {k:Nat} (h:k<xs.length):gD c (xs.drop k)=if (xs.getD k default).con=c then (xs.getD k default).val else gD c (xs.drop (k+1)):=by
 rw[List.drop_eq_getElem_cons h];simp[gD,List.getD,h]
theorem fA1 {c:Int} {xs:List Mrk}:∀{i:Nat},i≤xs.length→(∀k,k<i→¬(xs.getD k default).con=c)→gD c xs=gD c (xs.drop i)
 | 0,_,_=>by simp
 | i+1,h,hn=>by
  rw[fA1 (i:=i) oM (fun k hk=>hn k oM),fA0 oM,if_neg (hn i oM)]
theorem fEu {c:Int} {xs:List Mrk} (h:∀k,k<xs.length→¬(xs.getD k default).con=c):gD c xs=0:=by
 rw[fA1 (Nat.le_refl _) h];simp[gD]
structure MrksOk (xs:List Mrk):Prop where
 ok:∀k,k<xs.length→(1≤(xs.getD k default).con∧(xs.getD k default).con≤1000000000)∧(1≤(xs.getD k default).val∧(xs.getD k default).val≤2)
 rise:∀i j,i<j→j<xs.length→(xs.getD i default).con<(xs.getD j default).con
theorem xL {xs:List Mrk} (h:mrkF xs=0):MrksOk xs:=by
 have h1:∀k,k<xs.length→pF xs k=0:=kI h
 have hr:∀k,k+1<xs.length→(xs.getD k default).con<(xs.getD (k+1) default).con:=fun k hk=>by
  have h2:=h1 (k+1) hk;unfold pF at h2;split at h2
  ·
   split at h2
   ·omega
   rename_i h3;rw[Nat.add_sub_cancel] at h3;by_cases h4:(xs.getD k default).con<(xs.getD (k+1) default).con
   ·exact h4
   exact absurd ⟨oM,h4⟩ h3
  omega
 refine⟨fun k hk=>?_,fun i j=>?_⟩
 ·
  have h2:=h1 k hk;unfold pF at h2;split at h2
  ·rename_i h3;simp only[Bool.and_eq_true,inBi] at h3;exact h3
  omega
 induction j with
 | zero=>intro h;omega
 | succ j ih=>
  intro hij hj;have:=hr j hj;by_cases e:i=j
  ·rw[e];exact this
  have:=ih oM oM;omega
theorem zQ {xs:List Mrk} {c:Int} {i:Nat} (hr:∀i j,i<j→j<xs.length→(xs.getD i default).con<(xs.getD j default).con) (hi:i≤xs.length) (h1:∀k,k<i→(xs.getD k default).con<c) (h2:∀k,i≤k→k<xs.length→c≤(xs.getD k default).con) :
  gD c xs=if i<xs.length∧(xs.getD i default).con=c then (xs.getD i default).val else 0:=by
 rw[fA1 hi (fun k hk=>by have:=h1 k hk;omega)];by_cases hl:i<xs.length
 ·
  rw[fA0 hl];by_cases he:(xs.getD i default).con=c
  ·rw[if_pos he,if_pos ⟨hl,he⟩]
  rw[if_neg he,if_neg (fun h=>he h.2)];refine fEu fun k hk=>?_
  rw[List.length_drop] at hk;have e:(xs.drop (i+1)).getD k default=xs.getD (i+1+k) default:=by simp[List.getD]
  rw[e];have a:=hr i (i+1+k) oM oM;have b:=h2 i (Nat.le_refl _) hl;omega
 rw[if_neg (fun h=>hl h.1),List.drop_eq_nil_of_le oM];rfl
theorem heldIn_mem {hs:List Cont} {c:Int}:kK hs c=true↔∃k,k<hs.length∧(hs.getD k default).id=c:=by
 unfold kK;rw[List.any_eq_true];constructor
 ·rintro⟨x,hx,h⟩;obtain⟨k,hk,rfl⟩:=List.getElem_of_mem hx;exact⟨k,hk,by simpa [List.getD,hk] using h⟩
 rintro⟨k,hk,h⟩;exact⟨hs[k],List.getElem_mem hk,by simpa [List.getD,hk] using h⟩
theorem fRu {hs:List Cont} {c:Int} {i:Nat} (hr:∀i j,i<j→j<hs.length→(hs.getD i default).id<(hs.getD j default).id) (h1:∀k,k<i→(hs.getD k default).id<c) (h2:∀k,i≤k→k<hs.length→c≤(hs.getD k default).id) :
  kK hs c=decide (i<hs.length∧(hs.getD i default).id=c):=by
 rw[Bool.eq_iff_iff,heldIn_mem,decide_eq_true_iff];constructor
 ·
  rintro⟨k,hk,e⟩;by_cases a:k<i
  ·have:=h1 k a;omega
  by_cases b:k=i
  ·rw[←b];exact⟨hk,e⟩
  have:=hr i k oM hk;have:=h2 i (Nat.le_refl _) oM;omega
 rintro⟨a,b⟩;exact⟨i,a,b⟩
theorem fK9 {hs:List Cont} {c:Int} {k:Nat} (hk:k<hs.length):kK (hs.take (k+1)) c=(kK (hs.take k) c||decide ((hs.getD k default).id=c)):=by
 have e:hs.take (k+1)=hs.take k++[hs.getD k default]:=by rw[List.take_add_one];simp[List.getD,hk]
 unfold kK;rw[e,List.any_append];simp only[List.any_cons,List.any_nil,Bool.or_false];congr 1
theorem fEs {xs:List Mrk} {k:Nat} (hk:k<xs.length):gW (xs.take (k+1))=if (xs.getD k default).val=1 then gW (xs.take k)++[(xs.getD k default).con] else gW (xs.take k):=by
 have e:xs.take (k+1)=xs.take k++[xs.getD k default]:=by rw[List.take_add_one];simp[List.getD,hk]
 unfold gW;rw[e,List.filter_append,List.map_append];by_cases h:(xs.getD k default).val=1
 ·rw[if_pos h,List.filter_cons_of_pos (by simp only[beq_iff_eq];exact h)];rfl
 rw[if_neg h,List.filter_cons_of_neg (by simp only[beq_iff_eq];exact h)];simp
theorem fM7 (xs:List Mrk):(gW xs).length≤xs.length:=by
 unfold gW;rw[List.length_map];exact List.length_filter_le _ _
theorem fHy {xs:List Mrk} (h:MrksOk xs) {c:Int}:c ∈ gW xs↔gD c xs=1:=by
 unfold gW;rw[List.mem_map];constructor
 ·
  rintro⟨m,hm,rfl⟩;obtain⟨h1,h2⟩:=List.mem_filter.1 hm;obtain⟨k,hk,rfl⟩:=List.getElem_of_mem h1;have e:xs[k]=xs.getD k default:=by simp[List.getD,hk]
  rw[e] at h2 ⊢;rw[zQ (i:=k) h.rise oM (fun j hj=>h.rise j k hj hk) (fun j hj hl=>by
   by_cases e:k=j
   ·rw[e];exact Int.le_refl _
   have:=h.rise k j oM hl;omega),if_pos ⟨hk,rfl⟩]
  simpa using h2
 intro hf;by_cases hex:∃k,k<xs.length∧(xs.getD k default).con=c
 ·
  obtain⟨k,hk,rfl⟩:=hex;rw[zQ (i:=k) h.rise oM (fun j hj=>h.rise j k hj hk) (fun j hj hl=>by
   by_cases e:k=j
   ·rw[e];exact Int.le_refl _
   have:=h.rise k j oM hl;omega),if_pos ⟨hk,rfl⟩] at hf
  have e:xs[k]=xs.getD k default:=by simp[List.getD,hk]
  exact⟨xs[k],List.mem_filter.2 ⟨List.getElem_mem hk,by rw[e];simp only[beq_iff_eq];exact hf⟩,by rw[e]⟩
 rw[fEu (fun k hk he=>hex ⟨k,hk,he⟩)] at hf;omega
theorem fOz {xs:List Mrk} (h:MrksOk xs):(gW xs).Pairwise (fun a b=>a<b):=by
 unfold gW;rw[List.pairwise_map];refine List.Pairwise.filter _ ?_;rw[List.pairwise_iff_getElem];intro i j hi hj hij;have:=h.rise i j hij hj;simpa [List.getD,hi,hj] using this
theorem fDb:∀{l1 l2:List Int},l1.Nodup→(∀x ∈ l1,x ∈ l2)→l2.length=l1.length→l1.Perm l2
 | [],l2,_,_,hl=>by rw[List.length_nil] at hl;rw[List.eq_nil_of_length_eq_zero hl]
 | x::l1,l2,hn,hs,hl=>by
  obtain⟨hx,hn⟩:=List.nodup_cons.1 hn;have hm:=hs x (List.mem_cons_self ..);have hp:=List.perm_cons_erase hm;refine List.Perm.trans (List.Perm.cons x (fDb hn (fun y hy=>?_) ?_)) hp.symm
  ·
   have:y≠x:=fun e=>hx (e▸hy)
   exact(List.mem_erase_of_ne this).2 (hs y (List.mem_cons_of_mem _ hy))
  rw[List.length_erase_of_mem hm,hl];rfl
theorem fP6 {l:List Int} (h:∀k,k<l.length→¬(l.getD k 0) ∈ l.take k):l.Nodup:=by
 unfold List.Nodup;rw[List.pairwise_iff_getElem];intro i j hi hj hij e;refine h j hj ?_;have e2:l.getD j 0=l[j]:=by simp[List.getD,hj]
 rw[e2,←e];exact List.mem_take_iff_getElem.2 ⟨i,by omega,rfl⟩
theorem fQo {l:List Int} (h:l.Nodup) {k:Nat} (hk:k<l.length):¬(l.getD k 0) ∈ l.take k:=by
 intro hm;obtain⟨i,hi,e⟩:=List.mem_take_iff_getElem.1 hm;unfold List.Nodup at h;rw[List.pairwise_iff_getElem] at h;have e2:l.getD k 0=l[k]:=by simp[List.getD,hk]
 exact h i k oM hk oM (by rw[e,e2])
theorem fOl {done:List Mrk} (h:MrksOk done) (appl:List Int):vD done appl=decide (appl.mergeSort (fun x y=>decide (x≤y))=gW done):=by
 unfold vD;rw[decide_eq_decide];have hsort:=fOz h;have hle:(gW done).Pairwise (fun a b=>decide (a≤b)=true):=hsort.imp (fun h=>by simp;omega);constructor
 ·
  rintro⟨hl,hk⟩;have hp:appl.Perm (gW done):=fDb (fP6 fun k hk'=>(hk k hk').2) (fun x hx=>by
   obtain⟨k,hk',rfl⟩:=List.getElem_of_mem hx;have:=(hk k hk').1;rw[fHy h];simpa [List.getD,hk'] using this) hl
  refine List.Perm.eq_of_pairwise (le:=fun a b=>decide (a≤b)=true) (fun a b _ _ h1 h2=>?_) (List.pairwise_mergeSort (fun a b c h1 h2=>?_) (fun a b=>?_) _) hle ((List.mergeSort_perm _ _).trans hp)
  ·simp at h1 h2;omega
  ·simp at h1 h2 ⊢;omega
  simp;omega
 intro he;have hp:appl.Perm (gW done):=by rw[←he];exact(List.mergeSort_perm _ _).symm
 have hn:appl.Nodup:=hp.nodup_iff.2 (hsort.imp (fun h e=>oM));refine⟨hp.length_eq.symm,fun k hk=>⟨?_,fQo hn hk⟩⟩;rw[←fHy h];exact hp.mem_iff.1 (by simp[List.getD,hk])
def fEp (idx:Int) (hs:List Cont) (ls:List Leg):Bool:=(onSh idx ls).any (fun l=>hs.any (fun o=>fP o.legs l))
theorem touch_place {idx:Int} {a b:List Leg}:(onSh idx a).any (fun l=>fP b l)=touch (onSh idx a) (onSh idx b):=by
 unfold touch;rw[Bool.eq_iff_iff,List.any_eq_true,List.any_eq_true];constructor
 ·rintro⟨l,hl,h⟩;refine⟨l,hl,?_⟩;unfold fP at h;rw[List.any_eq_true] at h ⊢;obtain⟨o,ho,h⟩:=h;simp only[rX,Bool.and_eq_true,beq_iff_eq] at h;obtain⟨_,hs⟩:=List.mem_filter.1 hl;simp only[beq_iff_eq] at hs;exact⟨o,List.mem_filter.2 ⟨ho,by simp only[beq_iff_eq];omega⟩,by simp only[mV,Bool.and_eq_true,beq_iff_eq];omega⟩
 rintro⟨l,hl,h⟩;refine⟨l,hl,?_⟩;unfold fP;rw[List.any_eq_true] at h ⊢;obtain⟨o,ho,h⟩:=h;obtain⟨ho,hs⟩:=List.mem_filter.1 ho;obtain⟨_,hs2⟩:=List.mem_filter.1 hl;simp only[mV,Bool.and_eq_true,beq_iff_eq] at h hs hs2;exact⟨o,ho,by simp only[rX,Bool.and_eq_true,beq_iff_eq];omega⟩
theorem fHm {idx:Int} {hs:List Cont} {ls:List Leg}:fEp idx hs ls=hs.any (fun o=>touch (onSh idx ls) (onSh idx o.legs)):=by
 unfold fEp;have e:∀o:Cont,touch (onSh idx ls) (onSh idx o.legs)=(onSh idx ls).any (fun l=>fP o.legs l):=fun o=>touch_place.symm
 simp only[e];rw[Bool.eq_iff_iff];simp only[List.any_eq_true];constructor
 ·rintro⟨l,hl,o,ho,h⟩;exact⟨o,ho,l,hl,h⟩
 rintro⟨o,ho,l,hl,h⟩;exact⟨l,hl,o,ho,h⟩
theorem fHl {idx:Int} {hs:List Cont} {ls:List Leg} {k:Nat} (hk:k≤hs.length):fEp idx (hs.take k) ls=(List.range k).any (fun j=>touch (onSh idx ls) (onSh idx (hs.getD j default).legs)):=by
 rw[fHm,Bool.eq_iff_iff];simp only[List.any_eq_true,List.mem_range];constructor
 ·
  rintro⟨o,ho,h⟩;obtain⟨i,hi,e⟩:=List.mem_take_iff_getElem.1 ho;refine⟨i,by omega,?_⟩;have:hs.getD i default=o:=by rw[←e];simp[List.getD,show i<hs.length by omega]
  rw[this];exact h
 rintro⟨j,hj,h⟩;refine⟨hs.getD j default,List.mem_take_iff_getElem.2 ⟨j,by omega,by simp[List.getD,show j<hs.length by omega]⟩,h⟩
variable [dQ Vot] [iH Vot] [dQ Slt] [iH Slt] [dQ Acc] [iH Acc] [dQ Trr] [iH Trr] [dQ Hrd] [iH Hrd] [dQ Ldr] [iH Ldr] [dQ Msg] [iH Msg] [dQ Clu] [iH Clu] [dQ SltR] [iH SltR] [dQ AccR] [iH AccR] [dQ AccsR] [iH AccsR] [dQ SltsR] [iH SltsR]
def orF (a b:Int):Int:=if a=0 then b else a
theorem vS {a b:Int} (h:a=0):orF a b=b:=if_pos h
theorem xN {a b:Int} (h:¬a=0):orF a b=a:=if_neg h
theorem orF_zero {a b:Int}:orF a b=0↔a=0∧b=0:=by
 unfold orF;split
 ·rename_i h;exact⟨fun e=>⟨h,e⟩,fun e=>e.2⟩
 rename_i h;exact⟨fun e=>absurd e h,fun e=>absurd e.1 h⟩
def pV (n:Nat) (xs:List Leg):Bool:=xs.all (fun l=>inB l.sh 0 ((n:Int)-1))
def subF (n:Nat) (x:Cont):Int:=orF (fA x.id x.legs) (if pV n x.legs=true then 0 else 4)
def fGr (cs:List Cont) (k:Nat):Bool:=decide (k=0)||decide ((cs.getD (k-1) default).id<(cs.getD k default).id)
def uQ (n:Nat) (cs:List Cont) (k:Nat):Int:=orF (subF n (cs.getD k default)) (if fGr cs k=true then 0 else 1)
def strange (c:Clu) (sh:Int) (xs:List Mrk):Bool:=xs.any (fun m=>!hasL c m.con sh)
def pG (c:Clu) (x:Cont):Bool:=decide (fF c.cons x.id<c.cons.length)&&decide ((c.cons.getD (fF c.cons x.id) default).id=x.id∧(c.cons.getD (fF c.cons x.id) default).legs=x.legs)
def xE (c:Clu) (xs:List Cont):Bool:=xs.any (fun x=>!pG c x)
def qU (c:Clu) (s:Shd):Bool:=!strange c s.idx s.votes&&(!strange c s.idx s.done && !xE c s.held)
def rE (c:Clu) (k:Nat):Int:=orF (shdF (c.shards.getD k default)) (if (c.shards.getD k default).idx=(k:Int)∧qU c (c.shards.getD k default)=true then 0 else 1)
def uF (c:Clu) (xs:List Slt):Bool:=xs.any (fun s=>!hasL c s.con s.sh)
def mZ (c:Clu) (k:Nat):Int:=orF (accF (c.accs.getD k default).slots) (if uF c (c.accs.getD k default).slots=true then 4 else 0)
def ldrF (l:Ldr):Int:=if inB l.count 0 400=true then (if 60<l.tries.length∨300<l.known.length then 2 else 0) else 3
def cmpT (x y:Trr):Int:=orZ (cmpZ x.con y.con) (cmpZ x.sh y.sh)
def kY (n:Nat) (t:Trr) (i:Nat):Int:=if inB (t.frm.getD i 0) 0 ((n:Int)-1)=true∧oldB (t.olds.getD i default).bal (t.olds.getD i default).val=true then 0 else 3
def dupB (xs:List Int):Bool:=decide (¬xs.Nodup)
def xV (c:Clu) (ts:List Trr) (k:Nat):Int:=
 if hasL c (ts.getD k default).con (ts.getD k default).sh=true then
  (if inB (ts.getD k default).bal 1 1000=true∧inB (ts.getD k default).val 0 2=true then
   (if (k=0∨cmpT (ts.getD (k-1) default) (ts.getD k default)<0)∧(ts.getD k default).olds.length=(ts.getD k default).frm.length then
    orF (fC (kY c.accs.length (ts.getD k default)) (ts.getD k default).frm.length) (if dupB (ts.getD k default).frm=true then 7 else 0)
    else 1)
   else 3)
 else 4
def cmpH (x y:Hrd):Int:=orZ (cmpZ x.con y.con) (orZ (cmpZ x.sh y.sh) (orZ (cmpZ x.bal y.bal) (orZ (cmpZ x.val y.val) (cmpZ x.frm y.frm))))
def xG (c:Clu) (hs:List Hrd) (k:Nat):Int:=
 if hasL c (hs.getD k default).con (hs.getD k default).sh=true then
  (if (inB (hs.getD k default).bal 0 1000=true∧inB (hs.getD k default).val 1 2=true)∧inB (hs.getD k default).frm 0 ((c.accs.length:Int)-1)=true then
   (if k=0∨cmpH (hs.getD (k-1) default) (hs.getD k default)<0 then 0 else 1)
   else 3)
 else 4
def szC (c:Clu):Int:=if c.cons.length≤20∧(1≤c.shards.length∧c.shards.length≤3)∧(1≤c.accs.length∧c.accs.length≤5)∧c.ldrs.length=2∧c.msgs.length≤200 then 0 else 2
def vX (c:Clu):Int:=fC (uQ c.shards.length c.cons) c.cons.length
def uX (c:Clu):Int:=fC (rE c) c.shards.length
def vC (c:Clu):Int:=fC (mZ c) c.accs.length
def fD9 (c:Clu):Int:=fC (fun k=>ldrF (c.ldrs.getD k default)) c.ldrs.length
def qA (c:Clu) (l:Ldr):Int:=fC (xV c l.tries) l.tries.length
def qR (c:Clu) (l:Ldr):Int:=fC (xG c l.known) l.known.length
def fEm (c:Clu):Int:=fC (fun k=>qA c (c.ldrs.getD k default)) c.ldrs.length
def yL (c:Clu):Int:=fC (fun k=>qR c (c.ldrs.getD k default)) c.ldrs.length
def yV (c:Clu):Int:=fC (fun k=>msgF c (c.msgs.getD k default)) c.msgs.length
def kN (c:Clu) (i:Nat):Int:=if i=0 then szC c else if i=1 then vX c else if i=2 then uX c else if i=3 then vC c else if i=4 then fD9 c else if i=5 then fEm c else if i=6 then yL c else yV c
def cluF (c:Clu):Int:=fC (kN c) 8
def ldrA (c:Clu) (l:Ldr):Int:=orF (ldrF l) (orF (qA c l) (qR c l))
def fB1 (c:Clu):Int:=fC (fun k=>ldrA c (c.ldrs.getD k default)) c.ldrs.length
def cluS (c:Clu):Int:=orF (szC c) (orF (vX c) (orF (uX c) (orF (vC c) (orF (fB1 c) (yV c)))))
theorem pW {f:Nat→Int} {n:Nat}:fC f n=0↔∀k,k<n→f k=0:=⟨fun h=>kI h,yF⟩
theorem cluF_zero {c:Clu}:cluF c=0↔szC c=0∧vX c=0∧uX c=0∧vC c=0∧fD9 c=0∧fEm c=0∧yL c=0∧yV c=0:=by
 unfold cluF;rw[pW];constructor
 ·intro h;exact⟨h 0 oM,h 1 oM,h 2 oM,h 3 oM,h 4 oM,h 5 oM,h 6 oM,h 7 oM⟩
 rintro⟨h0,h1,h2,h3,h4,h5,h6,h7⟩ k hk;obtain rfl|rfl|rfl|rfl|rfl|rfl|rfl|rfl:k=0∨k=1∨k=2∨k=3∨k=4∨k=5∨k=6∨k=7:=oM
 all_goals (simp[kN];assumption)
theorem fPv {c:Clu}:fB1 c=0↔fD9 c=0∧fEm c=0∧yL c=0:=by
 unfold fB1 fD9 fEm yL ldrA;rw[pW,pW,pW,pW];constructor
 ·intro h;exact⟨fun k hk=>(orF_zero.1 (h k hk)).1,fun k hk=>(orF_zero.1 (orF_zero.1 (h k hk)).2).1,fun k hk=>(orF_zero.1 (orF_zero.1 (h k hk)).2).2⟩
 rintro⟨h1,h2,h3⟩ k hk;exact orF_zero.2 ⟨h1 k hk,orF_zero.2 ⟨h2 k hk,h3 k hk⟩⟩
theorem cluS_zero {c:Clu}:cluS c=0↔cluF c=0:=by
 rw[cluF_zero];unfold cluS;rw[orF_zero,orF_zero,orF_zero,orF_zero,orF_zero,fPv];constructor
 ·rintro⟨h0,h1,h2,h3,⟨h4,h5,h6⟩,h7⟩;exact⟨h0,h1,h2,h3,h4,h5,h6,h7⟩
 rintro⟨h0,h1,h2,h3,h4,h5,h6,h7⟩;exact⟨h0,h1,h2,h3,⟨h4,h5,h6⟩,h7⟩
theorem fGu {w:World} {a:Option Addr} {n c:Nat} {xs:List Shd} (hx:shdsR.V w (.slice a n c) xs):xs.length=n∧n≤c∧c≤maxLen∧∀k,k<n→∃b o u1 u2 u3 u4 u5,a=some ⟨b,o,none⟩∧w.cell? ⟨b,o+k*6,none⟩=some (.int .i64 (xs.getD k default).idx)∧w.cell? ⟨b,o+k*6+1,none⟩=some u1∧w.cell? ⟨b,o+k*6+2,none⟩=some u2∧w.cell? ⟨b,o+k*6+3,none⟩=some u3∧w.cell? ⟨b,o+k*6+4,none⟩=some u4∧w.cell? ⟨b,o+k*6+5,none⟩=some u5∧shdR.V w (.agg #[.int .i64 (xs.getD k default).idx,u1,u2,u3,u4,u5]) (xs.getD k default):=by
 obtain⟨a',c',e,h1,h2,h3⟩:=hx;simp only[Value.slice.injEq] at e;obtain⟨rfl,rfl,rfl⟩:=e;refine⟨rfl,h1,h2,fun k hk=>?_⟩;obtain⟨b,o,u,e,_,p,hv⟩:=h3 k hk;have hv':=hv;obtain⟨u1,u2,u3,u4,u5,rfl,g1,g2,g3,g4,g5⟩:=hv;obtain⟨a1,c1,rfl,_⟩:=g1;obtain⟨a2,c2,rfl,_⟩:=g2;obtain⟨a3,c3,rfl,_⟩:=g3;obtain⟨a4,c4,rfl,_⟩:=g4;obtain⟨a5,c5,rfl,_⟩:=g5;exact⟨b,o,_,_,_,_,_,e,p 0 oM,p 1 oM,p 2 oM,p 3 oM,p 4 oM,p 5 oM,hv'⟩
theorem fMv {w:World} {a:Option Addr} {n c:Nat} {xs:List Acc} (hx:accsR.V w (.slice a n c) xs):xs.length=n∧n≤c∧c≤maxLen∧∀k,k<n→∃b o p q,a=some ⟨b,o,none⟩∧w.cell? ⟨b,o+k,none⟩=some (.slice p (xs.getD k default).slots.length q)∧sltsR.V w (.slice p (xs.getD k default).slots.length q) (xs.getD k default).slots:=by
 obtain⟨a',c',e,h1,h2,h3⟩:=hx;simp only[Value.slice.injEq] at e;obtain⟨rfl,rfl,rfl⟩:=e;refine⟨rfl,h1,h2,fun k hk=>?_⟩;obtain⟨b,o,u,e,_,p,hv⟩:=h3 k hk;obtain⟨u1,rfl,g1⟩:=hv;have g1':=g1;obtain⟨a1,c1,rfl,_⟩:=g1;have p0:=p 0 oM;rw[Nat.mul_one,Nat.add_zero] at p0;exact⟨b,o,a1,c1,e,p0,g1'⟩
theorem fGb {w:World} {a:Option Addr} {n c:Nat} {xs:List Ldr} (hx:ldrsR.V w (.slice a n c) xs):xs.length=n∧n≤c∧c≤maxLen∧∀k,k<n→∃b o p q p' q',a=some ⟨b,o,none⟩∧w.cell? ⟨b,o+k*3,none⟩=some (.int .i64 (xs.getD k default).count)∧w.cell? ⟨b,o+k*3+1,none⟩=some (.slice p (xs.getD k default).tries.length q)∧w.cell? ⟨b,o+k*3+2,none⟩=some (.slice p' (xs.getD k default).known.length q')∧trysR.V w (.slice p (xs.getD k default).tries.length q) (xs.getD k default).tries∧hrdsR.V w (.slice p' (xs.getD k default).known.length q') (xs.getD k default).known:=by
 obtain⟨a',c',e,h1,h2,h3⟩:=hx;simp only[Value.slice.injEq] at e;obtain⟨rfl,rfl,rfl⟩:=e;refine⟨rfl,h1,h2,fun k hk=>?_⟩;obtain⟨b,o,u,e,_,p,hv⟩:=h3 k hk;obtain⟨u1,u2,rfl,g1,g2⟩:=hv;have g1':=g1;have g2':=g2;obtain⟨a1,c1,rfl,_⟩:=g1;obtain⟨a2,c2,rfl,_⟩:=g2;exact⟨b,o,a1,c1,a2,c2,e,p 0 oM,p 1 oM,p 2 oM,g1',g2'⟩
theorem fDp {w:World} {a:Option Addr} {n c:Nat} {xs:List Trr} (hx:trysR.V w (.slice a n c) xs):xs.length=n∧n≤c∧c≤maxLen∧∀k,k<n→∃b o p q p' q',a=some ⟨b,o,none⟩∧w.cell? ⟨b,o+k*6,none⟩=some (.int .i64 (xs.getD k default).con)∧w.cell? ⟨b,o+k*6+1,none⟩=some (.int .i64 (xs.getD k default).sh)∧w.cell? ⟨b,o+k*6+2,none⟩=some (.int .i64 (xs.getD k default).bal)∧w.cell? ⟨b,o+k*6+3,none⟩=some (.int .i64 (xs.getD k default).val)∧w.cell? ⟨b,o+k*6+4,none⟩=some (.slice p (xs.getD k default).frm.length q)∧w.cell? ⟨b,o+k*6+5,none⟩=some (.slice p' (xs.getD k default).olds.length q')∧intsR.V w (.slice p (xs.getD k default).frm.length q) (xs.getD k default).frm∧votsR.V w (.slice p' (xs.getD k default).olds.length q') (xs.getD k default).olds:=by
 obtain⟨a',c',e,h1,h2,h3⟩:=hx;simp only[Value.slice.injEq] at e;obtain⟨rfl,rfl,rfl⟩:=e;refine⟨rfl,h1,h2,fun k hk=>?_⟩;obtain⟨b,o,u,e,_,p,hv⟩:=h3 k hk;obtain⟨u1,u2,rfl,g1,g2⟩:=hv;have g1':=g1;have g2':=g2;obtain⟨a1,c1,rfl,_⟩:=g1;obtain⟨a2,c2,rfl,_⟩:=g2;exact⟨b,o,a1,c1,a2,c2,e,p 0 oM,p 1 oM,p 2 oM,p 3 oM,p 4 oM,p 5 oM,g1',g2'⟩
end
section
variable [dQ Leg] [iH Leg] [dQ Cont] [iH Cont] [dQ Bal] [iH Bal] [dQ Mrk] [iH Mrk] [dQ Shd] [iH Shd] [dQ Vot] [iH Vot] [dQ Slt] [iH Slt] [dQ Acc] [iH Acc] [dQ Trr] [iH Trr] [dQ Hrd] [iH Hrd] [dQ Ldr] [iH Ldr] [dQ Msg] [iH Msg] [dQ Clu] [iH Clu] [dQ Ledg] [iH Ledg]
theorem fBa (at_:Int) (a:Option Addr) (n c:Nat) (w:World) (hn:n≤9223372036854775807):Calls Tryz.prog 284 #[.int .i64 at_,.slice a n c] w fun e w'=>e =.returned (.bool (inB at_ 0 ((n:Int)-1)))∧w'=w:=by
 have hw1:IntKind.i64.wrap ((n:Int)-1)=(n:Int)-1:=by rw[IntKind.wrap_i64];omega
 go_enter Tryz.func284,Tryz.ntmps284;go_wp2_with (go_at_call 152;refine(fO _ _ _ _).mono ?_;rintro e w' ⟨rfl,rfl⟩);go_ret;exact⟨rfl,rfl⟩
theorem qI (at_:Int) (a:Option Addr) (n c:Nat) (w:World) (hn:n≤9223372036854775807):Calls Tryz.prog 224 #[.int .i64 at_,.slice a n c] w fun e w'=>e =.returned (.bool (inB at_ 0 ((n:Int)-1)))∧w'=w:=by
 have hw1:IntKind.i64.wrap ((n:Int)-1)=(n:Int)-1:=by rw[IntKind.wrap_i64];omega
 go_enter Tryz.func224,Tryz.ntmps224;go_wp2_with (go_at_call 152;refine(fO _ _ _ _).mono ?_;rintro e w' ⟨rfl,rfl⟩);go_ret;exact⟨rfl,rfl⟩
theorem yE (at_:Int) (a:Option Addr) (n c:Nat) (w:World) (hn:n≤9223372036854775807):Calls Tryz.prog 264 #[.int .i64 at_,.slice a n c] w fun e w'=>e =.returned (.bool (inB at_ 0 ((n:Int)-1)))∧w'=w:=by
 have hw1:IntKind.i64.wrap ((n:Int)-1)=(n:Int)-1:=by rw[IntKind.wrap_i64];omega
 go_enter Tryz.func264,Tryz.ntmps264;go_wp2_with (go_at_call 152;refine(fO _ _ _ _).mono ?_;rintro e w' ⟨rfl,rfl⟩);go_ret;exact⟨rfl,rfl⟩
theorem fSz (id k:Int) (p:Option Addr) (n q B:Nat) (w:World) (hc:w.cell? ⟨B,0,none⟩=some (.int .i64 k)) :
  RI 183 #[.agg #[.int .i64 id,.slice p n q],.pointer (some ⟨B,0,none⟩)] w (.bool (id==k)):=by
 have hlt:=wL _ _ hc;dsimp only at hlt;go_enter Tryz.func183,Tryz.ntmps183;go_wp2;go_ret;exact⟨rfl,qBq⟩
theorem fPw (x:Leg) (k:Int) (B:Nat) (w:World) (hc:w.cell? ⟨B,0,none⟩=some (.int .i64 k)) :
  RI 279 #[.agg #[.int .i64 x.sh,.int .i64 x.ac,.int .i64 x.ast,.int .i64 x.am],.pointer (some ⟨B,0,none⟩)] w (.bool (x.sh==k)):=by
 have hlt:=wL _ _ hc;dsimp only at hlt;go_enter Tryz.func279,Tryz.ntmps279;go_wp2;go_ret;exact⟨rfl,qBq⟩
theorem fPi (a:Option Addr) (c:Nat) (xs:List Cont) (k:Int) (B:Nat) (w:World) (hx:contsR.V w (.slice a xs.length c) xs) (hc:w.cell? ⟨B,0,none⟩=some (.int .i64 k)) :
  Calls Tryz.prog 84 #[.slice a xs.length c,.func (.func 183) #[] #[.pointer (some ⟨B,0,none⟩)]] w fun e w'=>(∃r:Int,e =.returned (.int .i64 r)∧((r = -1∧¬fF xs k<xs.length)∨(r=(fF xs k:Int)∧fF xs k<xs.length)))∧Below w.heap.size w w':=by
 obtain⟨hcx,hmx,hx⟩:=pE hx;unfold maxLen at hmx;have HHit:Hid (∀j,j<xs.length→(xs.getD j default).id=k→(∀i,i<j→¬(xs.getD i default).id=k)→fF xs k=j):=fun j hj h hb=>fA2 hj h hb
 have HNo:Hid ((∀j,j<xs.length→¬(xs.getD j default).id=k)→fF xs k=xs.length):=fun h=>fCo h
 generalize hn':xs.length=n at *;clear hn';go_enter Tryz.func84,Tryz.ntmps84;go_wp2;go_loopw [8] (fun i w'=>∃k':Nat,k'≤n∧i =.int .i64 k'∧Hid (∀j,j<k'→¬(xs.getD j default).id=k)∧Below w.heap.size w w') (fun i _=>n-(intOf i).toNat)
 case atStart=>exact⟨0,oM,rfl,fun j hj=>absurd hj oM,bR _ _⟩
 obtain⟨j,hk,rfl,HP,hbl⟩:=hrel;by_cases hlt:j<n
 ·
  obtain⟨bx,ox,p,q,rfl,g0,g1,_⟩:=hx j hlt;obtain⟨l,hl⟩:∃l,l=xs.getD j default:=⟨_,rfl⟩
  rw[←hl] at g0 g1;have HLE:Hid (l=xs.getD j default):=hl;clear hl hx;replace g0:=cK hbl g0;replace g1:=cK hbl g1;have hc2:=cK hbl hc;have hti:(j:Int)<(n:Int):=oM;have eg:∀args w,(callFunc 183 args).run Tryz.prog w =.ok (.enter 183 args) w:=enters_of Tryz.func183 kF rfl
  go_wp2_with fail;refine(fSz l.id k p l.legs.length q B _ hc2).mono ?_;rintro e w1 ⟨rfl,hb1⟩;have hB:=bS hbl hb1;clear eg hb1 g0 g1;by_cases hq:l.id=k
  ·rw[show(l.id==k)=true by simp[hq]];have HQ:Hid (fF xs k=j):=HHit.out j hlt (by rw[←HLE.out];exact hq) HP.out;clear hq;go_wp2;go_ret;exact⟨⟨j,rfl,.inr ⟨by rw[HQ.out],by rw[HQ.out];exact hlt⟩⟩,hB⟩
  rw[show(l.id==k)=false by simp[hq]];have HQ:Hid (∀i,i<j+1→¬(xs.getD i default).id=k):=fun i hi=>by
   by_cases e:i=j
   ·rw[e,←HLE.out];exact hq
   exact HP.out i oM
  clear hq;go_wp2;exact⟨⟨j+1,by omega,by go_num,HQ,hB⟩,mI⟩
 obtain rfl:j=n:=oM;have hti:¬(j:Int)<(j:Int):=oM;go_wp2;go_ret;exact⟨⟨-1,rfl,.inl ⟨rfl,by rw[HNo.out HP.out];omega⟩⟩,hbl⟩
theorem fIp (x:Value) (xs:List Leg) (k:Int) (B:Nat) (w:World) (hx:mK w x xs) (hc:w.cell? ⟨B,0,none⟩=some (.int .i64 k)) :
  Calls Tryz.prog 307 #[x,.func (.func 279) #[] #[.pointer (some ⟨B,0,none⟩)]] w fun e w'=>(∃r:Int,e =.returned (.int .i64 r)∧((r = -1∧hasS xs k=false)∨(0≤r∧hasS xs k=true)))∧Below w.heap.size w w':=by
 obtain⟨ax,cx,rfl,hcx,hmx,hx⟩:=hx;unfold maxLen at hmx;have HHit:Hid (∀j,j<xs.length→(xs.getD j default).sh=k→hasS xs k=true):=fun j hj h=>by
  unfold hasS;rw[List.any_eq_true];exact⟨xs.getD j default,by simp[List.getD,hj],by rw[beq_iff_eq];exact h⟩
 have HNo:Hid ((∀j,j<xs.length→¬(xs.getD j default).sh=k)→hasS xs k=false):=fun h=>by
  unfold hasS;rw[List.any_eq_false];intro y hy;obtain⟨i,hi,rfl⟩:=List.getElem_of_mem hy;have:=h i hi;simp only[List.getD,List.getElem?_eq_getElem hi,Option.getD_some] at this;simp[this]
 generalize hn':xs.length=n at *;clear hn';go_enter Tryz.func307,Tryz.ntmps307;go_wp2;go_loopw [8] (fun i w'=>∃k':Nat,k'≤n∧i =.int .i64 k'∧Hid (∀j,j<k'→¬(xs.getD j default).sh=k)∧Below w.heap.size w w') (fun i _=>n-(intOf i).toNat)
 case atStart=>exact⟨0,oM,rfl,fun j hj=>absurd hj oM,bR _ _⟩
 obtain⟨j,hk,rfl,HP,hbl⟩:=hrel;by_cases hlt:j<n
 ·
  obtain⟨bx,ox,rfl,g1⟩:=hx j hlt;obtain⟨l,hl⟩:∃l,l=xs.getD j default:=⟨_,rfl⟩
  rw[←hl] at g1;have HLE:Hid (l=xs.getD j default):=hl;clear hl hx;obtain⟨a1,a2,a3,a4⟩:=fG hbl g1;have hc2:=cK hbl hc;have hti:(j:Int)<(n:Int):=oM;have eg:∀args w,(callFunc 279 args).run Tryz.prog w =.ok (.enter 279 args) w:=enters_of Tryz.func279 kF rfl
  clear g1;go_wp2_with fail;refine(fPw l k B _ hc2).mono ?_;rintro e w1 ⟨rfl,hb1⟩;have hB:=bS hbl hb1;clear eg hb1 a1 a2 a3 a4;by_cases hq:l.sh=k
  ·rw[show(l.sh==k)=true by simp[hq]];have HQ:Hid (hasS xs k=true):=HHit.out j hlt (by rw[←HLE.out];exact hq);clear hq;go_wp2;go_ret;exact⟨⟨j,rfl,.inr ⟨oM,HQ.out⟩⟩,hB⟩
  rw[show(l.sh==k)=false by simp[hq]];have HQ:Hid (∀i,i<j+1→¬(xs.getD i default).sh=k):=fun i hi=>by
   by_cases e:i=j
   ·rw[e,←HLE.out];exact hq
   exact HP.out i oM
  clear hq;go_wp2;exact⟨⟨j+1,by omega,by go_num,HQ,hB⟩,mI⟩
 obtain rfl:j=n:=oM;have hti:¬(j:Int)<(j:Int):=oM;go_wp2;go_ret;exact⟨⟨-1,rfl,.inl ⟨rfl,HNo.out HP.out⟩⟩,hbl⟩
theorem fCl (x:Value) (xs:List Leg) (k:Int) (B:Nat) (w:World) (hx:mK w x xs) (hc:w.cell? ⟨B,0,none⟩=some (.int .i64 k)) :
  RI 278 #[x,.func (.func 279) #[] #[.pointer (some ⟨B,0,none⟩)]] w (.bool (hasS xs k)):=by
 have hX:=hx;obtain⟨ax,cx,rfl,_⟩:=hx;go_enter Tryz.func278,Tryz.ntmps278;go_wp2_with fail;refine(fIp _ xs k B _ hX hc).mono ?_;rintro e w1 ⟨⟨r,rfl,hr⟩,hb1⟩;rcases hr with ⟨rfl,hr⟩|⟨hr0,hr⟩
 ·have HR:Hid (_=_):=hr;clear hr;go_wp2;go_ret;exact⟨by rw[HR.out];rfl,hb1⟩
 have HR:Hid (_=_):=hr;clear hr;go_wp2;go_ret;exact⟨by rw[HR.out];rfl,hb1⟩
theorem fBj (id:Int) (x:Value) (xs:List Leg) (k:Int) (w:World) (hx:mK w x xs) :
  RI 221 #[.agg #[.int .i64 id,x],.int .i64 k] w (.bool (hasS xs k)):=by
 have HX:Hid (bW w fun W=>mK W x xs):=fun W hW=>kV hx hW
 obtain⟨ax,cx,rfl,_⟩:=hx;go_enter Tryz.func221,Tryz.ntmps221;go_wp2_with fail;refine(fCl _ xs k (w.heap.size+1) _ (HX.out _ qBq) sG).mono ?_;rintro e w1 ⟨rfl,hb1⟩;have hB:Below w.heap.size w w1:=qBq;go_wp2;go_ret;exact⟨rfl,hB⟩
def SubE (cs:List Cont) (k:Int) (w:World) (e:Ending) (w':World):Prop:=Below w.heap.size w w'∧((fF cs k<cs.length∧∃p q,e =.returned (.tuple #[.agg #[.int .i64 (cs.getD (fF cs k) default).id,.slice p (cs.getD (fF cs k) default).legs.length q],.bool true])∧legsR.V w' (.slice p (cs.getD (fF cs k) default).legs.length q) (cs.getD (fF cs k) default).legs)∨(¬fF cs k<cs.length∧e =.returned (.tuple #[.agg #[.int .i64 0,.slice none 0 0],.bool false])))
def SubW (cs:List Cont) (k:Int) (w0 w:World) (e:Ending) (w':World):Prop:=Below w.heap.size w w'∧((fF cs k<cs.length∧∃p q,e =.returned (.tuple #[.agg #[.int .i64 (cs.getD (fF cs k) default).id,.slice p (cs.getD (fF cs k) default).legs.length q],.bool true])∧legsR.V w0 (.slice p (cs.getD (fF cs k) default).legs.length q) (cs.getD (fF cs k) default).legs)∨(¬fF cs k<cs.length∧e =.returned (.tuple #[.agg #[.int .i64 0,.slice none 0 0],.bool false])))
theorem fEg (a0:Option Addr) (c0:Nat) (v1 v2 v3 v4:Value) (cs:List Cont) (k:Int) (w0 w:World) (hb0:Below w0.heap.size w0 w) (hf:∃b1 b2 b3 b4 m1 m2 m3 m4 d1 d2 d3 d4,v1 =.slice b1 m1 d1∧v2 =.slice b2 m2 d2∧v3 =.slice b3 m3 d3∧v4 =.slice b4 m4 d4) (hx:contsR.V w0 (.slice a0 cs.length c0) cs) :
  Calls Tryz.prog 104 #[.agg #[.slice a0 cs.length c0,v1,v2,v3,v4],.int .i64 k] w (SubW cs k w0 w):=by
 obtain⟨b1,b2,b3,b4,m1,m2,m3,m4,d1,d2,d3,d4,rfl,rfl,rfl,rfl⟩:=hf;have HX:Hid (bW w fun W=>contsR.V W (.slice a0 cs.length c0) cs):=fun W hW=>contsR.below (contsR.below hx hb0) hW
 obtain⟨hcx,hmx,hx⟩:=pE hx;unfold maxLen at hmx;go_enter Tryz.func104,Tryz.ntmps104;go_wp2_with fail;refine(fPi a0 c0 cs k (w.heap.size+1) _ (HX.out _ qBq) sG).mono ?_;rintro e w1 ⟨⟨r,rfl,hr⟩,hb1⟩;have hB:Below w.heap.size w w1:=qBq;have y0:w1.cell? ⟨w.heap.size,0,none⟩=some (.slice a0 cs.length c0):=cK hb1 sG;have r0:w1.cell? ⟨w.heap.size+2,0,none⟩=some (.int .i64 0):=cK hb1 sG;have r1:w1.cell? ⟨w.heap.size+2,1,none⟩=some (.slice none 0 0):=cK hb1 sG;have rf:∀o,w1.frozen? ⟨w.heap.size+2,o,none⟩=false:=fun o=>by rw[(bcell hb1).2 _ _ (by simp)];simp[go_sem]
 have hz1:=hb1.size;simp at hz1;clear hb1;rcases hr with ⟨rfl,hr⟩|⟨rfl,hr⟩
 ·have HR:Hid (¬fF cs k<cs.length):=hr;clear hr hx;go_wp2;exact bodyPost_ret (v:=.tuple #[.agg #[.int .i64 0,.slice none 0 0],.bool false]) (by simp[results,Tryz.results104,go_sem,r0,r1,rf]) rfl ⟨qS,.inr ⟨HR.out,rfl⟩⟩
 obtain⟨bx,ox,p,q,rfl,g0,g1,hl⟩:=hx _ hr;have HR:Hid (fF cs k<cs.length):=hr;have HL:Hid (legsR.V w0 (.slice p (cs.getD (fF cs k) default).legs.length q) (cs.getD (fF cs k) default).legs):=hl;replace g0:=cK hb0 g0;replace g1:=cK hb0 g1;have hzb:bx<w.heap.size:=wL w _ g0;replace g0:=cK hB g0;replace g1:=cK hB g1;have HE:Hid (∀e w',Below w.heap.size w w'→e=Ending.returned (.tuple #[.agg #[.int .i64 (cs.getD (fF cs k) default).id,.slice p (cs.getD (fF cs k) default).legs.length q],.bool true])→SubW cs k w0 w e w'):=fun e w' hb h=>⟨hb,.inl ⟨HR.out,p,q,h,HL.out⟩⟩
 have hi1:((fF cs k:Nat):Int)<(cs.length:Int):=oM;have hi0:(0:Int)≤((fF cs k:Nat):Int):=oM;have hi2:¬((fF cs k:Nat):Int)<0:=oM;clear hl hx hr HX;generalize SubW cs k w0 w=Q at *;generalize cs.getD (fF cs k) default=l at *;generalize fF cs k=i at *;generalize cs.length=n at *;go_wp2;refine bodyPost_ret (v:=.tuple #[.agg #[.int .i64 l.id,.slice p l.legs.length q],.bool true]) (by simp[results,Tryz.results104,go_sem,r0,r1,rf]) rfl ?_;exact HE.out _ _ qS rfl
theorem SubW.weak {cs:List Cont} {k:Int} {w:World} {e:Ending} {w':World} (h:SubW cs k w w e w'):SubE cs k w e w':=by
 obtain⟨hb,h⟩:=h;rcases h with ⟨h1,p,q,h2,h3⟩|h
 ·exact⟨hb,.inl ⟨h1,p,q,h2,legsR.below h3 hb⟩⟩
 exact⟨hb,.inr h⟩
theorem fAp (a0:Option Addr) (c0:Nat) (v1 v2 v3 v4:Value) (cs:List Cont) (k:Int) (w:World) (hf:∃b1 b2 b3 b4 m1 m2 m3 m4 d1 d2 d3 d4,v1 =.slice b1 m1 d1∧v2 =.slice b2 m2 d2∧v3 =.slice b3 m3 d3∧v4 =.slice b4 m4 d4) (hx:contsR.V w (.slice a0 cs.length c0) cs) :
  Calls Tryz.prog 104 #[.agg #[.slice a0 cs.length c0,v1,v2,v3,v4],.int .i64 k] w (SubE cs k w):=(fEg a0 c0 v1 v2 v3 v4 cs k w w (bR _ _) hf hx).mono fun e w' h=>h.weak
end
end Go.Proofs.YtbfnobcidnmohaaGreat

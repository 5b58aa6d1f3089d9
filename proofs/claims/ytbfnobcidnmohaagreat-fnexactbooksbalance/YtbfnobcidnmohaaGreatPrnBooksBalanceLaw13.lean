import Derived.Test.YtbfnobcidnmohaaGreatPrnBooksBalanceLaw12
import Derived.BigQuiet
import Derived.Deep.QuietTactic
import Derived.Deep.RegionHeld3
set_option maxHeartbeats 8000000
set_option maxRecDepth 20000
set_option linter.unusedVariables false
set_option linter.unusedSectionVars false
set_option linter.unusedSimpArgs false
namespace Go.Proofs.YtbfnobcidnmohaaGreat
open Go.RowKit
variable [DecidableEq Rw] [Inhabited Rw] [DecidableEq Bal] [Inhabited Bal] [DecidableEq Ledg] [Inhabited Ledg] [DecidableEq Leg] [Inhabited Leg] [DecidableEq Cont] [Inhabited Cont] [DecidableEq LedgR] [Inhabited LedgR] [DecidableEq OutcR] [Inhabited OutcR] [DecidableEq Mrk] [Inhabited Mrk] [DecidableEq Shd] [Inhabited Shd] [DecidableEq ShdR] [Inhabited ShdR]
def gJ (c:Int):List Mrk→Int
 | []=>0
 | m::r=>if m.con=c then m.val else gJ c r
def pF (xs:List Mrk) (k:Nat):Int:=if (inB (xs.getD k default).con 1 1000000000&&inB (xs.getD k default).val 1 2)=true then (if 0<k∧¬(xs.getD (k-1) default).con<(xs.getD k default).con then 1 else 0) else 3
def mrkF (xs:List Mrk):Int:=fC (pF xs) xs.length
def kE (hs:List Cont) (c:Int):Bool:=hs.any (fun x=>x.id==c)
def mQ (x y:Leg):Bool:=x.ac==y.ac&&x.ast==y.ast
def touch (a b:List Leg):Bool:=a.any (fun x=>b.any (fun y=>mQ x y))
def rO (hs:List Cont) (k:Nat):Bool:=decide (k=0∨(hs.getD (k-1) default).id<(hs.getD k default).id)
def gQ (s:Shd) (k:Nat):Int:=
 if fB (s.held.getD k default).id (s.held.getD k default).legs=0 then
  (if rO s.held k=true∧¬(onSh s.idx (s.held.getD k default).legs).length=0∧gJ (s.held.getD k default).id s.votes=1∧gJ (s.held.getD k default).id s.done=0 then 0 else 1)
 else fB (s.held.getD k default).id (s.held.getD k default).legs
def gW (s:Shd) (k:Nat):Int:=if (s.votes.getD k default).val=1∧kE s.held (s.votes.getD k default).con=false∧gJ (s.votes.getD k default).con s.done=0 then 1 else 0
def gU (s:List Mrk):List Int:=(s.filter (fun m=>m.val==1)).map (fun m=>m.con)
def uK (done:List Mrk) (appl:List Int):Bool:=decide ((gU done).length=appl.length∧∀k,k<appl.length→gJ (appl.getD k 0) done=1∧¬(appl.getD k 0) ∈ appl.take k)
def kI (s:Shd) (k:Nat):List Leg:=onSh s.idx (s.held.getD k default).legs
def gK (s:Shd) (k:Nat):Int:=if (List.range k).any (fun j=>touch (kI s k) (kI s j))=true then 7 else 0
def fG5 (xs:List Bal) (ls:List Leg):Int:=fC (fun k=>canB xs (ls.getD k default)) ls.length
def gI (s:Shd) (k:Nat):Int:=fG5 s.bals (kI s k)
def mX (idx:Int) (bs:List Bal):Int:=if inB idx 0 2=true then gN bs else 3
def kD (s:Shd):Int:=
 if mX s.idx s.bals=0 then
  (if 100<s.votes.length∨100<s.held.length∨100<s.done.length∨100<s.appl.length then 2
   else if mrkF s.votes=0 then
    (if mrkF s.done=0 then
     (if fC (gQ s) s.held.length=0 then
      (if fC (gW s) s.votes.length=0 then (if uK s.done s.appl=true then 0 else 1) else 1)
     else fC (gQ s) s.held.length)
    else mrkF s.done)
   else mrkF s.votes)
 else mX s.idx s.bals
def vS (s:Shd):Int:=if fC (gK s) s.held.length=0 then fC (gI s) s.held.length else fC (gK s) s.held.length
def shdF (s:Shd):Int:=if kD s=0 then vS s else kD s
theorem fAk {c:Int} {xs:List Mrk} {k:Nat} (h:k<xs.length):gJ c (xs.drop k)=if (xs.getD k default).con=c then (xs.getD k default).val else gJ c (xs.drop (k+1)):=by
 rw[List.drop_eq_getElem_cons h];simp[gJ,List.getD,h]
theorem fAl {c:Int} {xs:List Mrk}:∀{i:Nat},i≤xs.length→(∀k,k<i→¬(xs.getD k default).con=c)→gJ c xs=gJ c (xs.drop i)
 | 0,_,_=>by simp
 | i+1,h,hn=>by
  rw[fAl (i:=i) (by omega) (fun k hk=>hn k (by omega)),fAk (by omega),if_neg (hn i (by omega))]
theorem fEm {c:Int} {xs:List Mrk} (h:∀k,k<xs.length→¬(xs.getD k default).con=c):gJ c xs=0:=by
 rw[fAl (Nat.le_refl _) h];simp[gJ]
structure MrksOk (xs:List Mrk):Prop where
 ok:∀k,k<xs.length→(1≤(xs.getD k default).con∧(xs.getD k default).con≤1000000000)∧(1≤(xs.getD k default).val∧(xs.getD k default).val≤2)
 rise:∀i j,i<j→j<xs.length→(xs.getD i default).con<(xs.getD j default).con
theorem xC {xs:List Mrk} (h:mrkF xs=0):MrksOk xs:=by
 have h1:∀k,k<xs.length→pF xs k=0:=mD h
 have hr:∀k,k+1<xs.length→(xs.getD k default).con<(xs.getD (k+1) default).con:=fun k hk=>by
  have h2:=h1 (k+1) hk;unfold pF at h2;split at h2
  ·
   split at h2
   ·
    omega
   rename_i h3;rw[Nat.add_sub_cancel] at h3;by_cases h4:(xs.getD k default).con<(xs.getD (k+1) default).con
   ·
    exact h4
   exact absurd ⟨by omega,h4⟩ h3
  omega
 refine⟨fun k hk=>?_,fun i j=>?_⟩
 ·
  have h2:=h1 k hk;unfold pF at h2;split at h2
  ·
   rename_i h3;simp only[Bool.and_eq_true,inBi] at h3;exact h3
  omega
 induction j with
 | zero=>intro h;omega
 | succ j ih=>
  intro hij hj;have:=hr j hj;by_cases e:i=j
  ·
   rw[e];exact this
  have:=ih (by omega) (by omega);omega
theorem fBv {xs:List Mrk} {c:Int} {i:Nat} (hr:∀i j,i<j→j<xs.length→(xs.getD i default).con<(xs.getD j default).con) (hi:i≤xs.length) (h1:∀k,k<i→(xs.getD k default).con<c) (h2:∀k,i≤k→k<xs.length→c≤(xs.getD k default).con) :
  gJ c xs=if i<xs.length∧(xs.getD i default).con=c then (xs.getD i default).val else 0:=by
 rw[fAl hi (fun k hk=>by have:=h1 k hk;omega)];by_cases hl:i<xs.length
 ·
  rw[fAk hl];by_cases he:(xs.getD i default).con=c
  ·
   rw[if_pos he,if_pos ⟨hl,he⟩]
  rw[if_neg he,if_neg (fun h=>he h.2)];refine fEm fun k hk=>?_
  rw[List.length_drop] at hk;have e:(xs.drop (i+1)).getD k default=xs.getD (i+1+k) default:=by simp[List.getD]
  rw[e];have a:=hr i (i+1+k) (by omega) (by omega);have b:=h2 i (Nat.le_refl _) hl;omega
 rw[if_neg (fun h=>hl h.1),List.drop_eq_nil_of_le (by omega)];rfl
theorem heldIn_mem {hs:List Cont} {c:Int}:kE hs c=true↔∃k,k<hs.length∧(hs.getD k default).id=c:=by
 unfold kE;rw[List.any_eq_true];constructor
 ·
  rintro⟨x,hx,h⟩;obtain⟨k,hk,rfl⟩:=List.getElem_of_mem hx;exact⟨k,hk,by simpa [List.getD,hk] using h⟩
 rintro⟨k,hk,h⟩;exact⟨hs[k],List.getElem_mem hk,by simpa [List.getD,hk] using h⟩
theorem fQc {hs:List Cont} {c:Int} {i:Nat} (hr:∀i j,i<j→j<hs.length→(hs.getD i default).id<(hs.getD j default).id) (h1:∀k,k<i→(hs.getD k default).id<c) (h2:∀k,i≤k→k<hs.length→c≤(hs.getD k default).id) :
  kE hs c=decide (i<hs.length∧(hs.getD i default).id=c):=by
 rw[Bool.eq_iff_iff,heldIn_mem,decide_eq_true_iff];constructor
 ·
  rintro⟨k,hk,e⟩;by_cases a:k<i
  ·
   have:=h1 k a;omega
  by_cases b:k=i
  ·
   rw[←b];exact⟨hk,e⟩
  have:=hr i k (by omega) hk;have:=h2 i (Nat.le_refl _) (by omega);omega
 rintro⟨a,b⟩;exact⟨i,a,b⟩
theorem fKh {hs:List Cont} {c:Int} {k:Nat} (hk:k<hs.length):kE (hs.take (k+1)) c=(kE (hs.take k) c||decide ((hs.getD k default).id=c)):=by
 have e:hs.take (k+1)=hs.take k++[hs.getD k default]:=by rw[List.take_add_one];simp[List.getD,hk]
 unfold kE;rw[e,List.any_append];simp only[List.any_cons,List.any_nil,Bool.or_false];congr 1
theorem fEj {xs:List Mrk} {k:Nat} (hk:k<xs.length):gU (xs.take (k+1))=if (xs.getD k default).val=1 then gU (xs.take k)++[(xs.getD k default).con] else gU (xs.take k):=by
 have e:xs.take (k+1)=xs.take k++[xs.getD k default]:=by rw[List.take_add_one];simp[List.getD,hk]
 unfold gU;rw[e,List.filter_append,List.map_append];by_cases h:(xs.getD k default).val=1
 ·
  rw[if_pos h,List.filter_cons_of_pos (by simp only[beq_iff_eq];exact h)];rfl
 rw[if_neg h,List.filter_cons_of_neg (by simp only[beq_iff_eq];exact h)];simp
theorem fL2 (xs:List Mrk):(gU xs).length≤xs.length:=by
 unfold gU;rw[List.length_map];exact List.length_filter_le _ _
theorem fHc {xs:List Mrk} (h:MrksOk xs) {c:Int}:c ∈ gU xs↔gJ c xs=1:=by
 unfold gU;rw[List.mem_map];constructor
 ·
  rintro⟨m,hm,rfl⟩;obtain⟨h1,h2⟩:=List.mem_filter.1 hm;obtain⟨k,hk,rfl⟩:=List.getElem_of_mem h1;have e:xs[k]=xs.getD k default:=by simp[List.getD,hk]
  rw[e] at h2 ⊢;rw[fBv (i:=k) h.rise (by omega) (fun j hj=>h.rise j k hj hk) (fun j hj hl=>by
   by_cases e:k=j
   ·
    rw[e];exact Int.le_refl _
   have:=h.rise k j (by omega) hl;omega),if_pos ⟨hk,rfl⟩]
  simpa using h2
 intro hf;by_cases hex:∃k,k<xs.length∧(xs.getD k default).con=c
 ·
  obtain⟨k,hk,rfl⟩:=hex;rw[fBv (i:=k) h.rise (by omega) (fun j hj=>h.rise j k hj hk) (fun j hj hl=>by
   by_cases e:k=j
   ·
    rw[e];exact Int.le_refl _
   have:=h.rise k j (by omega) hl;omega),if_pos ⟨hk,rfl⟩] at hf
  have e:xs[k]=xs.getD k default:=by simp[List.getD,hk]
  exact⟨xs[k],List.mem_filter.2 ⟨List.getElem_mem hk,by rw[e];simp only[beq_iff_eq];exact hf⟩,by rw[e]⟩
 rw[fEm (fun k hk he=>hex ⟨k,hk,he⟩)] at hf;omega
theorem fNo {xs:List Mrk} (h:MrksOk xs):(gU xs).Pairwise (fun a b=>a<b):=by
 unfold gU;rw[List.pairwise_map];refine List.Pairwise.filter _ ?_;rw[List.pairwise_iff_getElem];intro i j hi hj hij;have:=h.rise i j hij hj;simpa [List.getD,hi,hj] using this
theorem fC0:∀{l1 l2:List Int},l1.Nodup→(∀x ∈ l1,x ∈ l2)→l2.length=l1.length→l1.Perm l2
 | [],l2,_,_,hl=>by rw[List.length_nil] at hl;rw[List.eq_nil_of_length_eq_zero hl]
 | x::l1,l2,hn,hs,hl=>by
  obtain⟨hx,hn⟩:=List.nodup_cons.1 hn;have hm:=hs x (List.mem_cons_self ..);have hp:=List.perm_cons_erase hm;refine List.Perm.trans (List.Perm.cons x (fC0 hn (fun y hy=>?_) ?_)) hp.symm
  ·
   have:y≠x:=fun e=>hx (e▸hy)
   exact(List.mem_erase_of_ne this).2 (hs y (List.mem_cons_of_mem _ hy))
  rw[List.length_erase_of_mem hm,hl];rfl
theorem fOu {l:List Int} (h:∀k,k<l.length→¬(l.getD k 0) ∈ l.take k):l.Nodup:=by
 unfold List.Nodup;rw[List.pairwise_iff_getElem];intro i j hi hj hij e;refine h j hj ?_;have e2:l.getD j 0=l[j]:=by simp[List.getD,hj]
 rw[e2,←e];exact List.mem_take_iff_getElem.2 ⟨i,by omega,rfl⟩
theorem fPb {l:List Int} (h:l.Nodup) {k:Nat} (hk:k<l.length):¬(l.getD k 0) ∈ l.take k:=by
 intro hm;obtain⟨i,hi,e⟩:=List.mem_take_iff_getElem.1 hm;unfold List.Nodup at h;rw[List.pairwise_iff_getElem] at h;have e2:l.getD k 0=l[k]:=by simp[List.getD,hk]
 exact h i k (by omega) hk (by omega) (by rw[e,e2])
theorem fNc {done:List Mrk} (h:MrksOk done) (appl:List Int):uK done appl=decide (appl.mergeSort (fun x y=>decide (x≤y))=gU done):=by
 unfold uK;rw[decide_eq_decide];have hsort:=fNo h;have hle:(gU done).Pairwise (fun a b=>decide (a≤b)=true):=hsort.imp (fun h=>by simp;omega);constructor
 ·
  rintro⟨hl,hk⟩;have hp:appl.Perm (gU done):=fC0 (fOu fun k hk'=>(hk k hk').2) (fun x hx=>by
   obtain⟨k,hk',rfl⟩:=List.getElem_of_mem hx;have:=(hk k hk').1;rw[fHc h];simpa [List.getD,hk'] using this) hl
  refine List.Perm.eq_of_pairwise (le:=fun a b=>decide (a≤b)=true) (fun a b _ _ h1 h2=>?_) (List.pairwise_mergeSort (fun a b c h1 h2=>?_) (fun a b=>?_) _) hle ((List.mergeSort_perm _ _).trans hp)
  ·
   simp at h1 h2;omega
  ·
   simp at h1 h2 ⊢;omega
  simp;omega
 intro he;have hp:appl.Perm (gU done):=by rw[←he];exact(List.mergeSort_perm _ _).symm
 have hn:appl.Nodup:=hp.nodup_iff.2 (hsort.imp (fun h e=>by omega));refine⟨hp.length_eq.symm,fun k hk=>⟨?_,fPb hn hk⟩⟩;rw[←fHc h];exact hp.mem_iff.1 (by simp[List.getD,hk])
def fEd (idx:Int) (hs:List Cont) (ls:List Leg):Bool:=(onSh idx ls).any (fun l=>hs.any (fun o=>fM o.legs l))
theorem touch_place {idx:Int} {a b:List Leg}:(onSh idx a).any (fun l=>fM b l)=touch (onSh idx a) (onSh idx b):=by
 unfold touch;rw[Bool.eq_iff_iff,List.any_eq_true,List.any_eq_true];constructor
 ·
  rintro⟨l,hl,h⟩;refine⟨l,hl,?_⟩;unfold fM at h;rw[List.any_eq_true] at h ⊢;obtain⟨o,ho,h⟩:=h;simp only[rP,Bool.and_eq_true,beq_iff_eq] at h;obtain⟨_,hs⟩:=List.mem_filter.1 hl;simp only[beq_iff_eq] at hs;exact⟨o,List.mem_filter.2 ⟨ho,by simp only[beq_iff_eq];omega⟩,by simp only[mQ,Bool.and_eq_true,beq_iff_eq];omega⟩
 rintro⟨l,hl,h⟩;refine⟨l,hl,?_⟩;unfold fM;rw[List.any_eq_true] at h ⊢;obtain⟨o,ho,h⟩:=h;obtain⟨ho,hs⟩:=List.mem_filter.1 ho;obtain⟨_,hs2⟩:=List.mem_filter.1 hl;simp only[mQ,Bool.and_eq_true,beq_iff_eq] at h hs hs2;exact⟨o,ho,by simp only[rP,Bool.and_eq_true,beq_iff_eq];omega⟩
theorem fG1 {idx:Int} {hs:List Cont} {ls:List Leg}:fEd idx hs ls=hs.any (fun o=>touch (onSh idx ls) (onSh idx o.legs)):=by
 unfold fEd;have e:∀o:Cont,touch (onSh idx ls) (onSh idx o.legs)=(onSh idx ls).any (fun l=>fM o.legs l):=fun o=>touch_place.symm
 simp only[e];rw[Bool.eq_iff_iff];simp only[List.any_eq_true];constructor
 ·
  rintro⟨l,hl,o,ho,h⟩;exact⟨o,ho,l,hl,h⟩
 rintro⟨o,ho,l,hl,h⟩;exact⟨l,hl,o,ho,h⟩
theorem fG0 {idx:Int} {hs:List Cont} {ls:List Leg} {k:Nat} (hk:k≤hs.length):fEd idx (hs.take k) ls=(List.range k).any (fun j=>touch (onSh idx ls) (onSh idx (hs.getD j default).legs)):=by
 rw[fG1,Bool.eq_iff_iff];simp only[List.any_eq_true,List.mem_range];constructor
 ·
  rintro⟨o,ho,h⟩;obtain⟨i,hi,e⟩:=List.mem_take_iff_getElem.1 ho;refine⟨i,by omega,?_⟩;have:hs.getD i default=o:=by rw[←e];simp[List.getD,show i<hs.length by omega]
  rw[this];exact h
 rintro⟨j,hj,h⟩;refine⟨hs.getD j default,List.mem_take_iff_getElem.2 ⟨j,by omega,by simp[List.getD,show j<hs.length by omega]⟩,h⟩
variable [DecidableEq Vot] [Inhabited Vot] [DecidableEq Slt] [Inhabited Slt] [DecidableEq Acc] [Inhabited Acc] [DecidableEq Trr] [Inhabited Trr] [DecidableEq Hrd] [Inhabited Hrd] [DecidableEq Ldr] [Inhabited Ldr] [DecidableEq Msg] [Inhabited Msg] [DecidableEq Clu] [Inhabited Clu] [DecidableEq SltR] [Inhabited SltR] [DecidableEq AccR] [Inhabited AccR] [DecidableEq AccsR] [Inhabited AccsR] [DecidableEq SltsR] [Inhabited SltsR]
def orF (a b:Int):Int:=if a=0 then b else a
theorem vI {a b:Int} (h:a=0):orF a b=b:=if_pos h
theorem xG {a b:Int} (h:¬a=0):orF a b=a:=if_neg h
theorem orF_zero {a b:Int}:orF a b=0↔a=0∧b=0:=by
 unfold orF;split
 ·
  rename_i h;exact⟨fun e=>⟨h,e⟩,fun e=>e.2⟩
 rename_i h;exact⟨fun e=>absurd e h,fun e=>absurd e.1 h⟩
def pX (n:Nat) (xs:List Leg):Bool:=xs.all (fun l=>inB l.sh 0 ((n:Int)-1))
def subF (n:Nat) (x:Cont):Int:=orF (fB x.id x.legs) (if pX n x.legs=true then 0 else 4)
def fIo (cs:List Cont) (k:Nat):Bool:=decide (k=0)||decide ((cs.getD (k-1) default).id<(cs.getD k default).id)
def vC (n:Nat) (cs:List Cont) (k:Nat):Int:=orF (subF n (cs.getD k default)) (if fIo cs k=true then 0 else 1)
def strange (c:Clu) (sh:Int) (xs:List Mrk):Bool:=xs.any (fun m=>!hasL c m.con sh)
def pG (c:Clu) (x:Cont):Bool:=decide (fE c.cons x.id<c.cons.length)&&decide ((c.cons.getD (fE c.cons x.id) default).id=x.id∧(c.cons.getD (fE c.cons x.id) default).legs=x.legs)
def vV (c:Clu) (xs:List Cont):Bool:=xs.any (fun x=>!pG c x)
def qP (c:Clu) (s:Shd):Bool:=!strange c s.idx s.votes&&(!strange c s.idx s.done && !vV c s.held)
def qU (c:Clu) (k:Nat):Int:=orF (shdF (c.shards.getD k default)) (if (c.shards.getD k default).idx=(k:Int)∧qP c (c.shards.getD k default)=true then 0 else 1)
def uA (c:Clu) (xs:List Slt):Bool:=xs.any (fun s=>!hasL c s.con s.sh)
def mW (c:Clu) (k:Nat):Int:=orF (accF (c.accs.getD k default).slots) (if uA c (c.accs.getD k default).slots=true then 4 else 0)
def ldrF (l:Ldr):Int:=if inB l.count 0 400=true then (if 60<l.tries.length∨300<l.known.length then 2 else 0) else 3
def cmpT (x y:Trr):Int:=orZ (cmpZ x.con y.con) (cmpZ x.sh y.sh)
def kS (n:Nat) (t:Trr) (i:Nat):Int:=if inB (t.frm.getD i 0) 0 ((n:Int)-1)=true∧oldB (t.olds.getD i default).bal (t.olds.getD i default).val=true then 0 else 3
def dupB (xs:List Int):Bool:=decide (¬xs.Nodup)
def xI (c:Clu) (ts:List Trr) (k:Nat):Int:=
 if hasL c (ts.getD k default).con (ts.getD k default).sh=true then
  (if inB (ts.getD k default).bal 1 1000=true∧inB (ts.getD k default).val 0 2=true then
   (if (k=0∨cmpT (ts.getD (k-1) default) (ts.getD k default)<0)∧(ts.getD k default).olds.length=(ts.getD k default).frm.length then
    orF (fC (kS c.accs.length (ts.getD k default)) (ts.getD k default).frm.length) (if dupB (ts.getD k default).frm=true then 7 else 0)
    else 1)
   else 3)
 else 4
def cmpH (x y:Hrd):Int:=orZ (cmpZ x.con y.con) (orZ (cmpZ x.sh y.sh) (orZ (cmpZ x.bal y.bal) (orZ (cmpZ x.val y.val) (cmpZ x.frm y.frm))))
def vW (c:Clu) (hs:List Hrd) (k:Nat):Int:=
 if hasL c (hs.getD k default).con (hs.getD k default).sh=true then
  (if (inB (hs.getD k default).bal 0 1000=true∧inB (hs.getD k default).val 1 2=true)∧inB (hs.getD k default).frm 0 ((c.accs.length:Int)-1)=true then
   (if k=0∨cmpH (hs.getD (k-1) default) (hs.getD k default)<0 then 0 else 1)
   else 3)
 else 4
def szC (c:Clu):Int:=if c.cons.length≤20∧(1≤c.shards.length∧c.shards.length≤3)∧(1≤c.accs.length∧c.accs.length≤5)∧c.ldrs.length=2∧c.msgs.length≤200 then 0 else 2
def vT (c:Clu):Int:=fC (vC c.shards.length c.cons) c.cons.length
def uL (c:Clu):Int:=fC (qU c) c.shards.length
def vO (c:Clu):Int:=fC (mW c) c.accs.length
def fDz (c:Clu):Int:=fC (fun k=>ldrF (c.ldrs.getD k default)) c.ldrs.length
def qD (c:Clu) (l:Ldr):Int:=fC (xI c l.tries) l.tries.length
def qO (c:Clu) (l:Ldr):Int:=fC (vW c l.known) l.known.length
def fEc (c:Clu):Int:=fC (fun k=>qD c (c.ldrs.getD k default)) c.ldrs.length
def yH (c:Clu):Int:=fC (fun k=>qO c (c.ldrs.getD k default)) c.ldrs.length
def yU (c:Clu):Int:=fC (fun k=>msgF c (c.msgs.getD k default)) c.msgs.length
def kJ (c:Clu) (i:Nat):Int:=if i=0 then szC c else if i=1 then vT c else if i=2 then uL c else if i=3 then vO c else if i=4 then fDz c else if i=5 then fEc c else if i=6 then yH c else yU c
def cluF (c:Clu):Int:=fC (kJ c) 8
def ldrA (c:Clu) (l:Ldr):Int:=orF (ldrF l) (orF (qD c l) (qO c l))
def fBn (c:Clu):Int:=fC (fun k=>ldrA c (c.ldrs.getD k default)) c.ldrs.length
def cluS (c:Clu):Int:=orF (szC c) (orF (vT c) (orF (uL c) (orF (vO c) (orF (fBn c) (yU c)))))
theorem qA {f:Nat→Int} {n:Nat}:fC f n=0↔∀k,k<n→f k=0:=⟨fun h=>mD h,fF5⟩
theorem cluF_zero {c:Clu}:cluF c=0↔szC c=0∧vT c=0∧uL c=0∧vO c=0∧fDz c=0∧fEc c=0∧yH c=0∧yU c=0:=by
 unfold cluF;rw[qA];constructor
 ·
  intro h;exact⟨h 0 (by omega),h 1 (by omega),h 2 (by omega),h 3 (by omega),h 4 (by omega),h 5 (by omega),h 6 (by omega),h 7 (by omega)⟩
 rintro⟨h0,h1,h2,h3,h4,h5,h6,h7⟩ k hk;obtain rfl|rfl|rfl|rfl|rfl|rfl|rfl|rfl:k=0∨k=1∨k=2∨k=3∨k=4∨k=5∨k=6∨k=7:=by omega
 all_goals (simp[kJ];assumption)
theorem fOj {c:Clu}:fBn c=0↔fDz c=0∧fEc c=0∧yH c=0:=by
 unfold fBn fDz fEc yH ldrA;rw[qA,qA,qA,qA];constructor
 ·
  intro h;exact⟨fun k hk=>(orF_zero.1 (h k hk)).1,fun k hk=>(orF_zero.1 (orF_zero.1 (h k hk)).2).1,fun k hk=>(orF_zero.1 (orF_zero.1 (h k hk)).2).2⟩
 rintro⟨h1,h2,h3⟩ k hk;exact orF_zero.2 ⟨h1 k hk,orF_zero.2 ⟨h2 k hk,h3 k hk⟩⟩
theorem fP2 {c:Clu}:cluS c=0↔cluF c=0:=by
 rw[cluF_zero];unfold cluS;rw[orF_zero,orF_zero,orF_zero,orF_zero,orF_zero,fOj];constructor
 ·
  rintro⟨h0,h1,h2,h3,⟨h4,h5,h6⟩,h7⟩;exact⟨h0,h1,h2,h3,h4,h5,h6,h7⟩
 rintro⟨h0,h1,h2,h3,h4,h5,h6,h7⟩;exact⟨h0,h1,h2,h3,⟨h4,h5,h6⟩,h7⟩
theorem fC4 {w:World} {a:Option Addr} {n c:Nat} {xs:List Shd} (hx:shdsR.V w (.slice a n c) xs):xs.length=n∧n≤c∧c≤maxLen∧∀k,k<n→∃b o u1 u2 u3 u4 u5,a=some ⟨b,o,none⟩∧w.cell? ⟨b,o+k*6,none⟩=some (.int .i64 (xs.getD k default).idx)∧w.cell? ⟨b,o+k*6+1,none⟩=some u1∧w.cell? ⟨b,o+k*6+2,none⟩=some u2∧w.cell? ⟨b,o+k*6+3,none⟩=some u3∧w.cell? ⟨b,o+k*6+4,none⟩=some u4∧w.cell? ⟨b,o+k*6+5,none⟩=some u5∧shdR.V w (.agg #[.int .i64 (xs.getD k default).idx,u1,u2,u3,u4,u5]) (xs.getD k default):=by
 obtain⟨a',c',e,h1,h2,h3⟩:=hx;simp only[Value.slice.injEq] at e;obtain⟨rfl,rfl,rfl⟩:=e;refine⟨rfl,h1,h2,fun k hk=>?_⟩;obtain⟨b,o,u,e,_,p,hv⟩:=h3 k hk;have hv':=hv;obtain⟨u1,u2,u3,u4,u5,rfl,g1,g2,g3,g4,g5⟩:=hv;obtain⟨a1,c1,rfl,_⟩:=g1;obtain⟨a2,c2,rfl,_⟩:=g2;obtain⟨a3,c3,rfl,_⟩:=g3;obtain⟨a4,c4,rfl,_⟩:=g4;obtain⟨a5,c5,rfl,_⟩:=g5;exact⟨b,o,_,_,_,_,_,e,p 0 (by omega),p 1 (by omega),p 2 (by omega),p 3 (by omega),p 4 (by omega),p 5 (by omega),hv'⟩
theorem fLv {w:World} {a:Option Addr} {n c:Nat} {xs:List Acc} (hx:accsR.V w (.slice a n c) xs):xs.length=n∧n≤c∧c≤maxLen∧∀k,k<n→∃b o p q,a=some ⟨b,o,none⟩∧w.cell? ⟨b,o+k,none⟩=some (.slice p (xs.getD k default).slots.length q)∧sltsR.V w (.slice p (xs.getD k default).slots.length q) (xs.getD k default).slots:=by
 obtain⟨a',c',e,h1,h2,h3⟩:=hx;simp only[Value.slice.injEq] at e;obtain⟨rfl,rfl,rfl⟩:=e;refine⟨rfl,h1,h2,fun k hk=>?_⟩;obtain⟨b,o,u,e,_,p,hv⟩:=h3 k hk;obtain⟨u1,rfl,g1⟩:=hv;have g1':=g1;obtain⟨a1,c1,rfl,_⟩:=g1;have p0:=p 0 (by omega);rw[Nat.mul_one,Nat.add_zero] at p0;exact⟨b,o,a1,c1,e,p0,g1'⟩
theorem fFu {w:World} {a:Option Addr} {n c:Nat} {xs:List Ldr} (hx:ldrsR.V w (.slice a n c) xs):xs.length=n∧n≤c∧c≤maxLen∧∀k,k<n→∃b o p q p' q',a=some ⟨b,o,none⟩∧w.cell? ⟨b,o+k*3,none⟩=some (.int .i64 (xs.getD k default).count)∧w.cell? ⟨b,o+k*3+1,none⟩=some (.slice p (xs.getD k default).tries.length q)∧w.cell? ⟨b,o+k*3+2,none⟩=some (.slice p' (xs.getD k default).known.length q')∧trysR.V w (.slice p (xs.getD k default).tries.length q) (xs.getD k default).tries∧hrdsR.V w (.slice p' (xs.getD k default).known.length q') (xs.getD k default).known:=by
 obtain⟨a',c',e,h1,h2,h3⟩:=hx;simp only[Value.slice.injEq] at e;obtain⟨rfl,rfl,rfl⟩:=e;refine⟨rfl,h1,h2,fun k hk=>?_⟩;obtain⟨b,o,u,e,_,p,hv⟩:=h3 k hk;obtain⟨u1,u2,rfl,g1,g2⟩:=hv;have g1':=g1;have g2':=g2;obtain⟨a1,c1,rfl,_⟩:=g1;obtain⟨a2,c2,rfl,_⟩:=g2;exact⟨b,o,a1,c1,a2,c2,e,p 0 (by omega),p 1 (by omega),p 2 (by omega),g1',g2'⟩
theorem fDd {w:World} {a:Option Addr} {n c:Nat} {xs:List Trr} (hx:trysR.V w (.slice a n c) xs):xs.length=n∧n≤c∧c≤maxLen∧∀k,k<n→∃b o p q p' q',a=some ⟨b,o,none⟩∧w.cell? ⟨b,o+k*6,none⟩=some (.int .i64 (xs.getD k default).con)∧w.cell? ⟨b,o+k*6+1,none⟩=some (.int .i64 (xs.getD k default).sh)∧w.cell? ⟨b,o+k*6+2,none⟩=some (.int .i64 (xs.getD k default).bal)∧w.cell? ⟨b,o+k*6+3,none⟩=some (.int .i64 (xs.getD k default).val)∧w.cell? ⟨b,o+k*6+4,none⟩=some (.slice p (xs.getD k default).frm.length q)∧w.cell? ⟨b,o+k*6+5,none⟩=some (.slice p' (xs.getD k default).olds.length q')∧intsR.V w (.slice p (xs.getD k default).frm.length q) (xs.getD k default).frm∧votsR.V w (.slice p' (xs.getD k default).olds.length q') (xs.getD k default).olds:=by
 obtain⟨a',c',e,h1,h2,h3⟩:=hx;simp only[Value.slice.injEq] at e;obtain⟨rfl,rfl,rfl⟩:=e;refine⟨rfl,h1,h2,fun k hk=>?_⟩;obtain⟨b,o,u,e,_,p,hv⟩:=h3 k hk;obtain⟨u1,u2,rfl,g1,g2⟩:=hv;have g1':=g1;have g2':=g2;obtain⟨a1,c1,rfl,_⟩:=g1;obtain⟨a2,c2,rfl,_⟩:=g2;exact⟨b,o,a1,c1,a2,c2,e,p 0 (by omega),p 1 (by omega),p 2 (by omega),p 3 (by omega),p 4 (by omega),p 5 (by omega),g1',g2'⟩
end Go.Proofs.YtbfnobcidnmohaaGreat
namespace Go.Proofs.YtbfnobcidnmohaaGreat
open Go.RowKit
variable [DecidableEq Leg] [Inhabited Leg] [DecidableEq Cont] [Inhabited Cont] [DecidableEq Bal] [Inhabited Bal] [DecidableEq Mrk] [Inhabited Mrk] [DecidableEq Shd] [Inhabited Shd] [DecidableEq Vot] [Inhabited Vot] [DecidableEq Slt] [Inhabited Slt] [DecidableEq Acc] [Inhabited Acc] [DecidableEq Trr] [Inhabited Trr] [DecidableEq Hrd] [Inhabited Hrd] [DecidableEq Ldr] [Inhabited Ldr] [DecidableEq Msg] [Inhabited Msg] [DecidableEq Clu] [Inhabited Clu] [DecidableEq Ledg] [Inhabited Ledg]
attribute [local go_sem ↓] Go.wp_at_zero Go.wp_at_succ
theorem fAw (at_:Int) (a:Option Addr) (n c:Nat) (w:World) (hn:n≤9223372036854775807):Calls Tryz.prog 284 #[.int .i64 at_,.slice a n c] w fun e w'=>e = .returned (.bool (inB at_ 0 ((n:Int)-1)))∧w'=w:=by
 have hw1:IntKind.i64.wrap ((n:Int)-1)=(n:Int)-1:=by rw[IntKind.wrap_i64];omega
 go_enter Tryz.func284,Tryz.ntmps284;go_wp2_with (go_at_call 152;refine(fT _ _ _ _).mono ?_;rintro e w' ⟨rfl,rfl⟩);go_ret;exact⟨rfl,rfl⟩
theorem qH (at_:Int) (a:Option Addr) (n c:Nat) (w:World) (hn:n≤9223372036854775807):Calls Tryz.prog 224 #[.int .i64 at_,.slice a n c] w fun e w'=>e = .returned (.bool (inB at_ 0 ((n:Int)-1)))∧w'=w:=by
 have hw1:IntKind.i64.wrap ((n:Int)-1)=(n:Int)-1:=by rw[IntKind.wrap_i64];omega
 go_enter Tryz.func224,Tryz.ntmps224;go_wp2_with (go_at_call 152;refine(fT _ _ _ _).mono ?_;rintro e w' ⟨rfl,rfl⟩);go_ret;exact⟨rfl,rfl⟩
theorem yA (at_:Int) (a:Option Addr) (n c:Nat) (w:World) (hn:n≤9223372036854775807):Calls Tryz.prog 264 #[.int .i64 at_,.slice a n c] w fun e w'=>e = .returned (.bool (inB at_ 0 ((n:Int)-1)))∧w'=w:=by
 have hw1:IntKind.i64.wrap ((n:Int)-1)=(n:Int)-1:=by rw[IntKind.wrap_i64];omega
 go_enter Tryz.func264,Tryz.ntmps264;go_wp2_with (go_at_call 152;refine(fT _ _ _ _).mono ?_;rintro e w' ⟨rfl,rfl⟩);go_ret;exact⟨rfl,rfl⟩
theorem fRe (id k:Int) (p:Option Addr) (n q B:Nat) (w:World) (hc:w.cell? ⟨B,0,none⟩=some (.int .i64 k)) :
  Calls Tryz.prog 183 #[.agg #[.int .i64 id,.slice p n q],.pointer (some ⟨B,0,none⟩)] w fun e w'=>e = .returned (.bool (id==k))∧Below w.heap.size w w':=by
 have hlt:=wL _ _ hc;dsimp only at hlt;go_enter Tryz.func183,Tryz.ntmps183;go_wp2;go_ret;exact⟨rfl,qBq⟩
theorem fOk (x:Leg) (k:Int) (B:Nat) (w:World) (hc:w.cell? ⟨B,0,none⟩=some (.int .i64 k)) :
  Calls Tryz.prog 279 #[.agg #[.int .i64 x.sh,.int .i64 x.ac,.int .i64 x.ast,.int .i64 x.am],.pointer (some ⟨B,0,none⟩)] w fun e w'=>e = .returned (.bool (x.sh==k))∧Below w.heap.size w w':=by
 have hlt:=wL _ _ hc;dsimp only at hlt;go_enter Tryz.func279,Tryz.ntmps279;go_wp2;go_ret;exact⟨rfl,qBq⟩
theorem fN5 (a:Option Addr) (c:Nat) (xs:List Cont) (k:Int) (B:Nat) (w:World) (hx:contsR.V w (.slice a xs.length c) xs) (hc:w.cell? ⟨B,0,none⟩=some (.int .i64 k)) :
  Calls Tryz.prog 84 #[.slice a xs.length c,.func (.func 183) #[] #[.pointer (some ⟨B,0,none⟩)]] w fun e w'=>(∃r:Int,e = .returned (.int .i64 r)∧((r = -1∧¬fE xs k<xs.length)∨(r=(fE xs k:Int)∧fE xs k<xs.length)))∧Below w.heap.size w w':=by
 obtain⟨hcx,hmx,hx⟩:=mY hx;unfold maxLen at hmx;have HHit:Hid (∀j,j<xs.length→(xs.getD j default).id=k→(∀i,i<j→¬(xs.getD i default).id=k)→fE xs k=j):=fun j hj h hb=>fEn hj h hb
 have HNo:Hid ((∀j,j<xs.length→¬(xs.getD j default).id=k)→fE xs k=xs.length):=fun h=>fCd h
 generalize hn':xs.length=n at *;clear hn';go_enter Tryz.func84,Tryz.ntmps84;go_wp2;go_loopw [8] (fun i w'=>∃k':Nat,k'≤n∧i = .int .i64 k'∧Hid (∀j,j<k'→¬(xs.getD j default).id=k)∧Below w.heap.size w w') (fun i _=>n-(intOf i).toNat)
 case atStart=>exact⟨0,Nat.zero_le _,rfl,fun j hj=>absurd hj (Nat.not_lt_zero _),Below.refl _ _⟩
 obtain⟨j,hk,rfl,HP,hbl⟩:=hrel;by_cases hlt:j<n
 ·
  obtain⟨bx,ox,p,q,rfl,g0,g1,_⟩:=hx j hlt;obtain⟨l,hl⟩:∃l,l=xs.getD j default:=⟨_,rfl⟩
  rw[←hl] at g0 g1;have HLE:Hid (l=xs.getD j default):=hl;clear hl hx;replace g0:=cK hbl g0;replace g1:=cK hbl g1;have hc2:=cK hbl hc;have hti:(j:Int)<(n:Int):=by omega
  have eg:∀args w,(callFunc 183 args).run Tryz.prog w = .ok (.enter 183 args) w:=enters_of Tryz.func183 (by kernel_rfl) rfl
  go_wp2_with fail;refine(fRe l.id k p l.legs.length q B _ hc2).mono ?_;rintro e w1 ⟨rfl,hb1⟩;have hB:=bS hbl hb1;clear eg hb1 g0 g1;by_cases hq:l.id=k
  ·
   rw[show(l.id==k)=true by simp[hq]];have HQ:Hid (fE xs k=j):=HHit.out j hlt (by rw[←HLE.out];exact hq) HP.out;clear hq;go_wp2;go_ret;exact⟨⟨j,rfl,.inr ⟨by rw[HQ.out],by rw[HQ.out];exact hlt⟩⟩,hB⟩
  rw[show(l.id==k)=false by simp[hq]];have HQ:Hid (∀i,i<j+1→¬(xs.getD i default).id=k):=fun i hi=>by
   by_cases e:i=j
   ·
    rw[e,←HLE.out];exact hq
   exact HP.out i (by omega)
  clear hq;go_wp2;exact⟨⟨j+1,by omega,by go_num,HQ,hB⟩,by simp[intOf];omega⟩
 obtain rfl:j=n:=by omega
 have hti:¬(j:Int)<(j:Int):=by omega
 go_wp2;go_ret;exact⟨⟨-1,rfl,.inl ⟨rfl,by rw[HNo.out HP.out];omega⟩⟩,hbl⟩
theorem fHy (x:Value) (xs:List Leg) (k:Int) (B:Nat) (w:World) (hx:mJ w x xs) (hc:w.cell? ⟨B,0,none⟩=some (.int .i64 k)) :
  Calls Tryz.prog 307 #[x,.func (.func 279) #[] #[.pointer (some ⟨B,0,none⟩)]] w fun e w'=>(∃r:Int,e = .returned (.int .i64 r)∧((r = -1∧hasS xs k=false)∨(0≤r∧hasS xs k=true)))∧Below w.heap.size w w':=by
 obtain⟨ax,cx,rfl,hcx,hmx,hx⟩:=hx;unfold maxLen at hmx;have HHit:Hid (∀j,j<xs.length→(xs.getD j default).sh=k→hasS xs k=true):=fun j hj h=>by
  unfold hasS;rw[List.any_eq_true];exact⟨xs.getD j default,by simp[List.getD,hj],by rw[beq_iff_eq];exact h⟩
 have HNo:Hid ((∀j,j<xs.length→¬(xs.getD j default).sh=k)→hasS xs k=false):=fun h=>by
  unfold hasS;rw[List.any_eq_false];intro y hy;obtain⟨i,hi,rfl⟩:=List.getElem_of_mem hy;have:=h i hi;simp only[List.getD,List.getElem?_eq_getElem hi,Option.getD_some] at this;simp[this]
 generalize hn':xs.length=n at *;clear hn';go_enter Tryz.func307,Tryz.ntmps307;go_wp2;go_loopw [8] (fun i w'=>∃k':Nat,k'≤n∧i = .int .i64 k'∧Hid (∀j,j<k'→¬(xs.getD j default).sh=k)∧Below w.heap.size w w') (fun i _=>n-(intOf i).toNat)
 case atStart=>exact⟨0,Nat.zero_le _,rfl,fun j hj=>absurd hj (Nat.not_lt_zero _),Below.refl _ _⟩
 obtain⟨j,hk,rfl,HP,hbl⟩:=hrel;by_cases hlt:j<n
 ·
  obtain⟨bx,ox,rfl,g1⟩:=hx j hlt;obtain⟨l,hl⟩:∃l,l=xs.getD j default:=⟨_,rfl⟩
  rw[←hl] at g1;have HLE:Hid (l=xs.getD j default):=hl;clear hl hx;obtain⟨a1,a2,a3,a4⟩:=fF hbl g1;have hc2:=cK hbl hc;have hti:(j:Int)<(n:Int):=by omega
  have eg:∀args w,(callFunc 279 args).run Tryz.prog w = .ok (.enter 279 args) w:=enters_of Tryz.func279 (by kernel_rfl) rfl
  clear g1;go_wp2_with fail;refine(fOk l k B _ hc2).mono ?_;rintro e w1 ⟨rfl,hb1⟩;have hB:=bS hbl hb1;clear eg hb1 a1 a2 a3 a4;by_cases hq:l.sh=k
  ·
   rw[show(l.sh==k)=true by simp[hq]];have HQ:Hid (hasS xs k=true):=HHit.out j hlt (by rw[←HLE.out];exact hq);clear hq;go_wp2;go_ret;exact⟨⟨j,rfl,.inr ⟨by omega,HQ.out⟩⟩,hB⟩
  rw[show(l.sh==k)=false by simp[hq]];have HQ:Hid (∀i,i<j+1→¬(xs.getD i default).sh=k):=fun i hi=>by
   by_cases e:i=j
   ·
    rw[e,←HLE.out];exact hq
   exact HP.out i (by omega)
  clear hq;go_wp2;exact⟨⟨j+1,by omega,by go_num,HQ,hB⟩,by simp[intOf];omega⟩
 obtain rfl:j=n:=by omega
 have hti:¬(j:Int)<(j:Int):=by omega
 go_wp2;go_ret;exact⟨⟨-1,rfl,.inl ⟨rfl,HNo.out HP.out⟩⟩,hbl⟩
theorem fB8 (x:Value) (xs:List Leg) (k:Int) (B:Nat) (w:World) (hx:mJ w x xs) (hc:w.cell? ⟨B,0,none⟩=some (.int .i64 k)) :
  Calls Tryz.prog 278 #[x,.func (.func 279) #[] #[.pointer (some ⟨B,0,none⟩)]] w fun e w'=>e = .returned (.bool (hasS xs k))∧Below w.heap.size w w':=by
 have hX:=hx;obtain⟨ax,cx,rfl,_⟩:=hx;go_enter Tryz.func278,Tryz.ntmps278;go_wp2_with fail;refine(fHy _ xs k B _ hX hc).mono ?_;rintro e w1 ⟨⟨r,rfl,hr⟩,hb1⟩;rcases hr with ⟨rfl,hr⟩|⟨hr0,hr⟩
 ·
  have HR:Hid (_=_):=hr;clear hr;go_wp2;go_ret;exact⟨by rw[HR.out];rfl,hb1⟩
 have HR:Hid (_=_):=hr;clear hr;go_wp2;go_ret;exact⟨by rw[HR.out];rfl,hb1⟩
theorem fA6 (id:Int) (x:Value) (xs:List Leg) (k:Int) (w:World) (hx:mJ w x xs) :
  Calls Tryz.prog 221 #[.agg #[.int .i64 id,x],.int .i64 k] w fun e w'=>e = .returned (.bool (hasS xs k))∧Below w.heap.size w w':=by
 have HX:Hid (∀W,Below w.heap.size w W→mJ W x xs):=fun W hW=>kU hx hW
 obtain⟨ax,cx,rfl,_⟩:=hx;go_enter Tryz.func221,Tryz.ntmps221;go_wp2_with fail;refine(fB8 _ xs k (w.heap.size+1) _ (HX.out _ (qBq)) (by simp[go_sem])).mono ?_;rintro e w1 ⟨rfl,hb1⟩;have hB:Below w.heap.size w w1:=qBq;go_wp2;go_ret;exact⟨rfl,hB⟩
def SubE (cs:List Cont) (k:Int) (w:World) (e:Ending) (w':World):Prop:=Below w.heap.size w w'∧((fE cs k<cs.length∧∃p q,e = .returned (.tuple #[.agg #[.int .i64 (cs.getD (fE cs k) default).id,.slice p (cs.getD (fE cs k) default).legs.length q],.bool true])∧legsR.V w' (.slice p (cs.getD (fE cs k) default).legs.length q) (cs.getD (fE cs k) default).legs)∨(¬fE cs k<cs.length∧e = .returned (.tuple #[.agg #[.int .i64 0,.slice none 0 0],.bool false])))
def SubW (cs:List Cont) (k:Int) (w0 w:World) (e:Ending) (w':World):Prop:=Below w.heap.size w w'∧((fE cs k<cs.length∧∃p q,e = .returned (.tuple #[.agg #[.int .i64 (cs.getD (fE cs k) default).id,.slice p (cs.getD (fE cs k) default).legs.length q],.bool true])∧legsR.V w0 (.slice p (cs.getD (fE cs k) default).legs.length q) (cs.getD (fE cs k) default).legs)∨(¬fE cs k<cs.length∧e = .returned (.tuple #[.agg #[.int .i64 0,.slice none 0 0],.bool false])))
theorem yL (a0:Option Addr) (c0:Nat) (v1 v2 v3 v4:Value) (cs:List Cont) (k:Int) (w0 w:World) (hb0:Below w0.heap.size w0 w) (hf:∃b1 b2 b3 b4 m1 m2 m3 m4 d1 d2 d3 d4,v1 = .slice b1 m1 d1∧v2 = .slice b2 m2 d2∧v3 = .slice b3 m3 d3∧v4 = .slice b4 m4 d4) (hx:contsR.V w0 (.slice a0 cs.length c0) cs) :
  Calls Tryz.prog 104 #[.agg #[.slice a0 cs.length c0,v1,v2,v3,v4],.int .i64 k] w (SubW cs k w0 w):=by
 obtain⟨b1,b2,b3,b4,m1,m2,m3,m4,d1,d2,d3,d4,rfl,rfl,rfl,rfl⟩:=hf;have HX:Hid (∀W,Below w.heap.size w W→contsR.V W (.slice a0 cs.length c0) cs):=fun W hW=>contsR.below (contsR.below hx hb0) hW
 obtain⟨hcx,hmx,hx⟩:=mY hx;unfold maxLen at hmx;go_enter Tryz.func104,Tryz.ntmps104;go_wp2_with fail;refine(fN5 a0 c0 cs k (w.heap.size+1) _ (HX.out _ (qBq)) (by simp[go_sem])).mono ?_;rintro e w1 ⟨⟨r,rfl,hr⟩,hb1⟩;have hB:Below w.heap.size w w1:=qBq;have y0:w1.cell? ⟨w.heap.size,0,none⟩=some (.slice a0 cs.length c0):=cK hb1 (by simp[go_sem]);have r0:w1.cell? ⟨w.heap.size+2,0,none⟩=some (.int .i64 0):=cK hb1 (by simp[go_sem]);have r1:w1.cell? ⟨w.heap.size+2,1,none⟩=some (.slice none 0 0):=cK hb1 (by simp[go_sem]);have rf:∀o,w1.frozen? ⟨w.heap.size+2,o,none⟩=false:=fun o=>by rw[(bcell hb1).2 _ _ (by simp)];simp[go_sem]
 have hz1:=hb1.size;simp at hz1;clear hb1;rcases hr with ⟨rfl,hr⟩|⟨rfl,hr⟩
 ·
  have HR:Hid (¬fE cs k<cs.length):=hr;clear hr hx;go_wp2;exact bodyPost_ret (v:=.tuple #[.agg #[.int .i64 0,.slice none 0 0],.bool false]) (by simp[results,Tryz.results104,go_sem,r0,r1,rf]) rfl ⟨by(repeat (first|refine bset ?_ (by simp;omega) _|refine bset ?_ (by simp) _|refine bA ?_ _|assumption)),.inr ⟨HR.out,rfl⟩⟩
 obtain⟨bx,ox,p,q,rfl,g0,g1,hl⟩:=hx _ hr;have HR:Hid (fE cs k<cs.length):=hr;have HL:Hid (legsR.V w0 (.slice p (cs.getD (fE cs k) default).legs.length q) (cs.getD (fE cs k) default).legs):=hl;replace g0:=cK hb0 g0;replace g1:=cK hb0 g1;have hzb:bx<w.heap.size:=wL w _ g0;replace g0:=cK hB g0;replace g1:=cK hB g1;have HE:Hid (∀e w',Below w.heap.size w w'→e=Ending.returned (.tuple #[.agg #[.int .i64 (cs.getD (fE cs k) default).id,.slice p (cs.getD (fE cs k) default).legs.length q],.bool true])→SubW cs k w0 w e w'):=fun e w' hb h=>⟨hb,.inl ⟨HR.out,p,q,h,HL.out⟩⟩
 have hi1:((fE cs k:Nat):Int)<(cs.length:Int):=by omega
 have hi0:(0:Int)≤((fE cs k:Nat):Int):=by omega
 have hi2:¬((fE cs k:Nat):Int)<0:=by omega
 clear hl hx hr HX;generalize SubW cs k w0 w=Q at *;generalize cs.getD (fE cs k) default=l at *;generalize fE cs k=i at *;generalize cs.length=n at *;go_wp2;refine bodyPost_ret (v:=.tuple #[.agg #[.int .i64 l.id,.slice p l.legs.length q],.bool true]) (by simp[results,Tryz.results104,go_sem,r0,r1,rf]) rfl ?_;exact HE.out _ _ (by(repeat (first|refine bset ?_ (by simp;omega) _|refine bset ?_ (by simp) _|refine bA ?_ _|assumption))) rfl
theorem SubW.weak {cs:List Cont} {k:Int} {w:World} {e:Ending} {w':World} (h:SubW cs k w w e w'):SubE cs k w e w':=by
 obtain⟨hb,h⟩:=h;rcases h with ⟨h1,p,q,h2,h3⟩|h
 ·
  exact⟨hb,.inl ⟨h1,p,q,h2,legsR.below h3 hb⟩⟩
 exact⟨hb,.inr h⟩
theorem zX (a0:Option Addr) (c0:Nat) (v1 v2 v3 v4:Value) (cs:List Cont) (k:Int) (w:World) (hf:∃b1 b2 b3 b4 m1 m2 m3 m4 d1 d2 d3 d4,v1 = .slice b1 m1 d1∧v2 = .slice b2 m2 d2∧v3 = .slice b3 m3 d3∧v4 = .slice b4 m4 d4) (hx:contsR.V w (.slice a0 cs.length c0) cs) :
  Calls Tryz.prog 104 #[.agg #[.slice a0 cs.length c0,v1,v2,v3,v4],.int .i64 k] w (SubE cs k w):=(yL a0 c0 v1 v2 v3 v4 cs k w w (Below.refl _ _) hf hx).mono fun e w' h=>h.weak
theorem fFo (n:Int) (w:World):Calls Tryz.prog 268 #[.int .i64 n] w fun e w'=>e = .returned (.bool (inB n 1 2))∧w'=w:=by
 go_enter Tryz.func268,Tryz.ntmps268;go_wp2_with (go_at_call 152;refine(fT _ _ _ _).mono ?_;rintro e w' ⟨rfl,rfl⟩);go_ret;exact⟨rfl,rfl⟩
theorem fKg (c:Clu) (m:Msg) (a0 a1 a2 a3 a4:Option Addr) (n0 n1 n2 n3 n4 c0 c1 c2 c3 c4:Nat) (w:World) (h1:c.shards.length=n1∧n1≤9223372036854775807) (h2:c.accs.length=n2∧n2≤9223372036854775807) (h3:c.ldrs.length=n3∧n3≤9223372036854775807) (hk:inB m.kind 1 6=true) :
  Calls Tryz.prog 232 #[.agg #[.slice a0 n0 c0,.slice a1 n1 c1,.slice a2 n2 c2,.slice a3 n3 c3,.slice a4 n4 c4],msgV m] w fun e w'=>e = .returned (.bool (kP c m))∧Below w.heap.size w w':=by
 obtain⟨kind,to,frm,con,sh,bal,val,ob,ov⟩:=m;obtain⟨e1,l1⟩:=h1;obtain⟨e2,l2⟩:=h2;obtain⟨e3,l3⟩:=h3;have hk':=kinds hk;dsimp only at hk';clear hk;unfold msgV;dsimp only;rcases hk' with rfl|rfl|rfl|rfl|rfl|rfl
 ·
  have HE:Hid (kP c ⟨1,to,frm,con,sh,bal,val,ob,ov⟩=inB to 0 ((n1:Int)-1)):=by show _=_;simp[kP,fAi,e1,e2,e3]
  rw[HE.out];go_enter Tryz.func232,Tryz.ntmps232;go_wp2_with (first|(go_at_call 264;refine(yA _ _ _ _ _ l1).mono ?_;rintro e w' ⟨rfl,hw⟩;obtain rfl:=hw.symm));go_ret;exact⟨rfl,qBq⟩
 ·
  have HE:Hid (kP c ⟨2,to,frm,con,sh,bal,val,ob,ov⟩=inB to 0 ((n2:Int)-1)):=by show _=_;simp[kP,fAi,e1,e2,e3]
  rw[HE.out];go_enter Tryz.func232,Tryz.ntmps232;go_wp2_with (first|(go_at_call 224;refine(qH _ _ _ _ _ l2).mono ?_;rintro e w' ⟨rfl,hw⟩;obtain rfl:=hw.symm));go_ret;exact⟨rfl,qBq⟩
 ·
  have HE:Hid (kP c ⟨3,to,frm,con,sh,bal,val,ob,ov⟩=(inB to 0 ((n3:Int)-1)&&inB frm 0 ((n2:Int)-1))):=by show _=_;simp[kP,fAi,e1,e2,e3]
  rw[HE.out];cases ht:inB to 0 ((n3:Int)-1);all_goals cases hf:inB frm 0 ((n2:Int)-1)
  all_goals
   go_enter Tryz.func232,Tryz.ntmps232;go_wp2_with (first|(go_at_call 284;refine(fAw _ _ _ _ _ l3).mono ?_;rintro e w' ⟨rfl,hw⟩;obtain rfl:=hw.symm;rw[ht])|(go_at_call 224;refine(qH _ _ _ _ _ l2).mono ?_;rintro e w' ⟨rfl,hw⟩;obtain rfl:=hw.symm;rw[hf]));go_ret;exact⟨rfl,qBq⟩
 ·
  have HE:Hid (kP c ⟨4,to,frm,con,sh,bal,val,ob,ov⟩=(inB to 0 ((n2:Int)-1)&&inB frm 0 ((n3:Int)-1))):=by show _=_;simp[kP,fAi,e1,e2,e3]
  rw[HE.out];cases ht:inB to 0 ((n2:Int)-1);all_goals cases hf:inB frm 0 ((n3:Int)-1)
  all_goals
   go_enter Tryz.func232,Tryz.ntmps232;go_wp2_with (first|(go_at_call 284;refine(fAw _ _ _ _ _ l3).mono ?_;rintro e w' ⟨rfl,hw⟩;obtain rfl:=hw.symm;rw[hf])|(go_at_call 224;refine(qH _ _ _ _ _ l2).mono ?_;rintro e w' ⟨rfl,hw⟩;obtain rfl:=hw.symm;rw[ht]));go_ret;exact⟨rfl,qBq⟩
 ·
  have HE:Hid (kP c ⟨5,to,frm,con,sh,bal,val,ob,ov⟩=(inB to 0 ((n3:Int)-1)&&inB frm 0 ((n2:Int)-1))):=by show _=_;simp[kP,fAi,e1,e2,e3]
  rw[HE.out];cases ht:inB to 0 ((n3:Int)-1);all_goals cases hf:inB frm 0 ((n2:Int)-1)
  all_goals
   go_enter Tryz.func232,Tryz.ntmps232;go_wp2_with (first|(go_at_call 284;refine(fAw _ _ _ _ _ l3).mono ?_;rintro e w' ⟨rfl,hw⟩;obtain rfl:=hw.symm;rw[ht])|(go_at_call 224;refine(qH _ _ _ _ _ l2).mono ?_;rintro e w' ⟨rfl,hw⟩;obtain rfl:=hw.symm;rw[hf]));go_ret;exact⟨rfl,qBq⟩
 have HE:Hid (kP c ⟨6,to,frm,con,sh,bal,val,ob,ov⟩=inB to 0 ((n1:Int)-1)):=by show _=_;simp[kP,fAi,e1,e2,e3]
 rw[HE.out];go_enter Tryz.func232,Tryz.ntmps232;go_wp2_with (first|(go_at_call 264;refine(yA _ _ _ _ _ l1).mono ?_;rintro e w' ⟨rfl,hw⟩;obtain rfl:=hw.symm));go_ret;exact⟨rfl,qBq⟩
theorem fF4 (id:Int) (x:Value) (xs:List Leg) (m:Msg) (w:World) (hx:mJ w x xs) (hk:inB m.kind 1 6=true) :
  Calls Tryz.prog 233 #[.agg #[.int .i64 id,x],msgV m] w fun e w'=>e = .returned (.bool (kZ ⟨id,xs⟩ m))∧Below w.heap.size w w':=by
 have HL:Hid (∀s W,Below w.heap.size w W→Calls Tryz.prog 221 #[.agg #[.int .i64 id,x],.int .i64 s] W fun e w'=>e = .returned (.bool (hasS xs s))∧Below W.heap.size W w'):=fun s W hW=>fA6 id x xs s W (kU hx hW)
 obtain⟨ax,cx,rfl,_⟩:=hx;obtain⟨kind,to,frm,con,sh,bal,val,ob,ov⟩:=m;have hk':=kinds hk;dsimp only at hk';clear hk;unfold msgV;dsimp only;rcases hk' with rfl|rfl|rfl|rfl|rfl|rfl
 ·
  have HE:Hid (kZ ⟨id,xs⟩ ⟨1,to,frm,con,sh,bal,val,ob,ov⟩=(hasS xs to)):=by show _=_;simp[kZ]
  rw[HE.out];cases hl:hasS xs to;all_goals
   go_enter Tryz.func233,Tryz.ntmps233;go_wp2_with (first|(go_at_call 221;refine(HL.out to _ (qBq)).mono ?_;rintro e w' ⟨rfl,hb9⟩;rw[hl]));go_ret;exact⟨rfl,qBq⟩
 ·
  have HE:Hid (kZ ⟨id,xs⟩ ⟨2,to,frm,con,sh,bal,val,ob,ov⟩=(hasS xs sh&&(inB bal 0 1000&&(inB val 1 2)))):=by show _=_;simp[kZ]
  rw[HE.out];cases hl:hasS xs sh;all_goals cases hb:inB bal 0 1000
  all_goals cases hv:inB val 1 2
  all_goals
   go_enter Tryz.func233,Tryz.ntmps233;go_wp2_with fail;refine(HL.out sh _ (qBq)).mono ?_;rintro e w1 ⟨rfl,hb1⟩;have m5:w1.cell? ⟨w.heap.size+1,5,none⟩=some (.int .i64 bal):=cK hb1 (by simp[go_sem]);have m6:w1.cell? ⟨w.heap.size+1,6,none⟩=some (.int .i64 val):=cK hb1 (by simp[go_sem]);have hB1:Below w.heap.size w w1:=qBq;clear hb1;rw[hl];go_wp2_with (first|(go_at_call 229;refine(qX ⟨bal,val⟩ _).mono ?_;rintro e w' ⟨rfl,hb8⟩;rw[show votB ⟨bal,val⟩=(inB bal 0 1000&&inB val 1 2) from rfl,hb,hv]));go_ret;exact⟨rfl,qBq⟩
 ·
  have HE:Hid (kZ ⟨id,xs⟩ ⟨3,to,frm,con,sh,bal,val,ob,ov⟩=(hasS xs sh&&(inB bal 0 1000&&(inB val 1 2)))):=by show _=_;simp[kZ]
  rw[HE.out];cases hl:hasS xs sh;all_goals cases hb:inB bal 0 1000
  all_goals cases hv:inB val 1 2
  all_goals
   go_enter Tryz.func233,Tryz.ntmps233;go_wp2_with fail;refine(HL.out sh _ (qBq)).mono ?_;rintro e w1 ⟨rfl,hb1⟩;have m5:w1.cell? ⟨w.heap.size+1,5,none⟩=some (.int .i64 bal):=cK hb1 (by simp[go_sem]);have m6:w1.cell? ⟨w.heap.size+1,6,none⟩=some (.int .i64 val):=cK hb1 (by simp[go_sem]);have hB1:Below w.heap.size w w1:=qBq;clear hb1;rw[hl];go_wp2_with (first|(go_at_call 229;refine(qX ⟨bal,val⟩ _).mono ?_;rintro e w' ⟨rfl,hb8⟩;rw[show votB ⟨bal,val⟩=(inB bal 0 1000&&inB val 1 2) from rfl,hb,hv]));go_ret;exact⟨rfl,qBq⟩
 ·
  have HE:Hid (kZ ⟨id,xs⟩ ⟨4,to,frm,con,sh,bal,val,ob,ov⟩=(hasS xs sh&&(inB bal 0 1000))):=by show _=_;simp[kZ]
  rw[HE.out];cases hl:hasS xs sh;all_goals cases hb:inB bal 0 1000
  all_goals
   go_enter Tryz.func233,Tryz.ntmps233;go_wp2_with fail;refine(HL.out sh _ (qBq)).mono ?_;rintro e w1 ⟨rfl,hb1⟩;have m5:w1.cell? ⟨w.heap.size+1,5,none⟩=some (.int .i64 bal):=cK hb1 (by simp[go_sem]);have m6:w1.cell? ⟨w.heap.size+1,6,none⟩=some (.int .i64 val):=cK hb1 (by simp[go_sem]);have hB1:Below w.heap.size w w1:=qBq;clear hb1;rw[hl];go_wp2_with (first|(go_at_call 283;refine(vX _ _).mono ?_;rintro e w' ⟨rfl,hw⟩;obtain rfl:=hw.symm;rw[hb]));go_ret;exact⟨rfl,qBq⟩
 ·
  have HE:Hid (kZ ⟨id,xs⟩ ⟨5,to,frm,con,sh,bal,val,ob,ov⟩=(hasS xs sh&&(inB bal 0 1000&&(oldB ob ov)))):=by show _=_;simp[kZ]
  rw[HE.out];cases hl:hasS xs sh;all_goals cases hb:inB bal 0 1000
  all_goals cases ho:oldB ob ov
  all_goals
   go_enter Tryz.func233,Tryz.ntmps233;go_wp2_with fail;refine(fH1 _ _ _).mono ?_;rintro e w1 ⟨rfl,hb1⟩;have y0:w1.cell? ⟨w.heap.size,0,none⟩=some (.int .i64 id):=cK hb1 (by simp[go_sem]);have y1:w1.cell? ⟨w.heap.size,1,none⟩=some (.slice ax xs.length cx):=cK hb1 (by simp[go_sem]);have m4:w1.cell? ⟨w.heap.size+1,4,none⟩=some (.int .i64 sh):=cK hb1 (by simp[go_sem]);have m5:w1.cell? ⟨w.heap.size+1,5,none⟩=some (.int .i64 bal):=cK hb1 (by simp[go_sem]);have hB1:Below w.heap.size w w1:=qBq;clear hb1;rw[ho];first
   | (go_wp2;go_ret;exact⟨by simp,qBq⟩)
   | ((go_wp2_with fail);refine(HL.out sh _ (qBq)).mono ?_;rintro e w2 ⟨rfl,hb2⟩;replace m5:=cK hb2 m5;have hB2:Below w.heap.size w w2:=bS hB1 hb2;rw[hl];(go_wp2_with (first|(go_at_call 283;refine(vX _ _).mono ?_;rintro e w' ⟨rfl,hw⟩;obtain rfl:=hw.symm;rw[hb])));go_ret;exact⟨rfl,hB2⟩)
 have HE:Hid (kZ ⟨id,xs⟩ ⟨6,to,frm,con,sh,bal,val,ob,ov⟩=(hasS xs to&&(inB val 1 2))):=by show _=_;simp[kZ]
 rw[HE.out];cases hl:hasS xs to;all_goals cases hv:inB val 1 2
 all_goals
  go_enter Tryz.func233,Tryz.ntmps233;go_wp2_with (first|(go_at_call 221;refine(HL.out to _ (qBq)).mono ?_;rintro e w' ⟨rfl,hb9⟩;rw[hl])|(go_at_call 268;refine(fFo _ _).mono ?_;rintro e w' ⟨rfl,hw⟩;obtain rfl:=hw.symm;rw[hv]));go_ret;exact⟨rfl,qBq⟩
theorem fK3 (m:Msg) (w:World) (hk:inB m.kind 1 6=true) :
  Calls Tryz.prog 234 #[msgV m] w fun e w'=>e = .returned (msgV (mK m))∧Below w.heap.size w w':=by
 obtain⟨kind,to,frm,con,sh,bal,val,ob,ov⟩:=m;have hk':=kinds hk;dsimp only at hk';clear hk;rcases hk' with rfl|rfl|rfl|rfl|rfl|rfl
 ·
  have HE:Hid (mK ⟨1,to,frm,con,sh,bal,val,ob,ov⟩=⟨1,to,0,con,0,0,0,0,0⟩):=by show _=_;simp[mK]
  rw[HE.out];unfold msgV;dsimp only;go_enter Tryz.func234,Tryz.ntmps234;go_wp2;exact bodyPost_ret (v:=.agg #[.int .i64 1,.int .i64 to,.int .i64 0,.int .i64 con,.int .i64 0,.int .i64 0,.int .i64 0,.int .i64 0,.int .i64 0]) (by simp[results,Tryz.results234,go_sem]) rfl ⟨rfl,qBq⟩
 ·
  have HE:Hid (mK ⟨2,to,frm,con,sh,bal,val,ob,ov⟩=⟨2,to,0,con,sh,bal,val,0,0⟩):=by show _=_;simp[mK]
  rw[HE.out];unfold msgV;dsimp only;go_enter Tryz.func234,Tryz.ntmps234;go_wp2;refine wp_region_noPanic ?_;refine fA (fun W=>W.cell? ⟨w.heap.size,4,none⟩=some (.int .i64 sh)∧W.cell? ⟨w.heap.size,5,none⟩=some (.int .i64 bal)) 8 (by kernel_rfl) ⟨by simp[go_sem],by simp[go_sem]⟩ (fun hS=>?_);refine tM 0 rfl hS ?_;try simp only[jX]
  refine tM 1 rfl hS ?_;try simp only[jX]
  refine tM 2 rfl hS ?_;try simp only[jX]
  refine tM 3 rfl hS ?_;try simp only[jX]
  refine tM 4 rfl hS ?_;try simp only[jX]
  refine uS 5 rfl (fun K hK=>?_);go_simp;refine hK _ _ (fun _=>⟨by simp[go_sem],by simp[go_sem]⟩) ?_;clear hK K;try simp only[jX]
  refine kL (i:=6) (v:=?_) rfl (by kernel_rfl) (by kernel_rfl) (by kernel_rfl) (by kernel_rfl) (fun _ _ _ h=>h) (by rfl) ⟨by simp[go_sem],by simp[go_sem]⟩ ?_ ?_;rotate_left
  ·
   intro wS hSw;(try dsimp only at hSw);go_simp;try with_reducible rfl
  try simp only[jX]
  refine uS 7 rfl (fun K hK=>?_);go_simp;refine hK _ _ (fun _=>⟨by simp[go_sem],by simp[go_sem]⟩) ?_;clear hK K;refine dN (NoPanic.normal ?_);go_wp2;exact bodyPost_ret (v:=.agg #[.int .i64 2,.int .i64 to,.int .i64 0,.int .i64 con,.int .i64 sh,.int .i64 bal,.int .i64 val,.int .i64 0,.int .i64 0]) (by simp[results,Tryz.results234,go_sem]) rfl ⟨rfl,qBq⟩
 ·
  have HE:Hid (mK ⟨3,to,frm,con,sh,bal,val,ob,ov⟩=⟨3,to,frm,con,sh,bal,val,0,0⟩):=by show _=_;simp[mK]
  rw[HE.out];unfold msgV;dsimp only;go_enter Tryz.func234,Tryz.ntmps234;go_wp2;refine wp_region_noPanic ?_;refine fA (fun W=>W.cell? ⟨w.heap.size,4,none⟩=some (.int .i64 sh)∧W.cell? ⟨w.heap.size,5,none⟩=some (.int .i64 bal)) 8 (by kernel_rfl) ⟨by simp[go_sem],by simp[go_sem]⟩ (fun hS=>?_);refine tM 0 rfl hS ?_;try simp only[jX]
  refine tM 1 rfl hS ?_;try simp only[jX]
  refine tM 2 rfl hS ?_;try simp only[jX]
  refine tM 3 rfl hS ?_;try simp only[jX]
  refine tM 4 rfl hS ?_;try simp only[jX]
  refine uS 5 rfl (fun K hK=>?_);go_simp;refine hK _ _ (fun _=>⟨by simp[go_sem],by simp[go_sem]⟩) ?_;clear hK K;try simp only[jX]
  refine kL (i:=6) (v:=?_) rfl (by kernel_rfl) (by kernel_rfl) (by kernel_rfl) (by kernel_rfl) (fun _ _ _ h=>h) (by rfl) ⟨by simp[go_sem],by simp[go_sem]⟩ ?_ ?_;rotate_left
  ·
   intro wS hSw;(try dsimp only at hSw);go_simp;try with_reducible rfl
  try simp only[jX]
  refine uS 7 rfl (fun K hK=>?_);go_simp;refine hK _ _ (fun _=>⟨by simp[go_sem],by simp[go_sem]⟩) ?_;clear hK K;refine dN (NoPanic.normal ?_);go_wp2;exact bodyPost_ret (v:=.agg #[.int .i64 3,.int .i64 to,.int .i64 frm,.int .i64 con,.int .i64 sh,.int .i64 bal,.int .i64 val,.int .i64 0,.int .i64 0]) (by simp[results,Tryz.results234,go_sem]) rfl ⟨rfl,qBq⟩
 ·
  have HE:Hid (mK ⟨4,to,frm,con,sh,bal,val,ob,ov⟩=⟨4,to,frm,con,sh,bal,0,0,0⟩):=by show _=_;simp[mK]
  rw[HE.out];unfold msgV;dsimp only;go_enter Tryz.func234,Tryz.ntmps234;go_wp2;refine wp_region_noPanic ?_;refine fA (fun W=>W.cell? ⟨w.heap.size,2,none⟩=some (.int .i64 frm)∧W.cell? ⟨w.heap.size,4,none⟩=some (.int .i64 sh)∧W.cell? ⟨w.heap.size,5,none⟩=some (.int .i64 bal)) 12 (by kernel_rfl) ⟨by simp[go_sem],by simp[go_sem],by simp[go_sem]⟩ (fun hS=>?_);refine tM 0 rfl hS ?_;try simp only[jX]
  refine tM 1 rfl hS ?_;try simp only[jX]
  refine tM 2 rfl hS ?_;try simp only[jX]
  refine tM 3 rfl hS ?_;try simp only[jX]
  refine tM 4 rfl hS ?_;try simp only[jX]
  refine tM 5 rfl hS ?_;try simp only[jX]
  refine tM 6 rfl hS ?_;try simp only[jX]
  refine uS 7 rfl (fun K hK=>?_);go_simp;refine hK _ _ (fun _=>⟨by simp[go_sem],by simp[go_sem],by simp[go_sem]⟩) ?_;clear hK K;try simp only[jX]
  refine kL (i:=8) (v:=?_) rfl (by kernel_rfl) (by kernel_rfl) (by kernel_rfl) (by kernel_rfl) (fun _ _ _ h=>h) (by rfl) ⟨by simp[go_sem],by simp[go_sem],by simp[go_sem]⟩ ?_ ?_;rotate_left
  ·
   intro wS hSw;(try dsimp only at hSw);go_simp;try with_reducible rfl
  try simp only[jX]
  refine uS 9 rfl (fun K hK=>?_);go_simp;refine hK _ _ (fun _=>⟨by simp[go_sem],by simp[go_sem],by simp[go_sem]⟩) ?_;clear hK K;try simp only[jX]
  refine kL (i:=10) (v:=?_) rfl (by kernel_rfl) (by kernel_rfl) (by kernel_rfl) (by kernel_rfl) (fun _ _ _ h=>h) (by rfl) ⟨by simp[go_sem],by simp[go_sem],by simp[go_sem]⟩ ?_ ?_;rotate_left
  ·
   intro wS hSw;(try dsimp only at hSw);go_simp;try with_reducible rfl
  try simp only[jX]
  refine uS 11 rfl (fun K hK=>?_);go_simp;refine hK _ _ (fun _=>⟨by simp[go_sem],by simp[go_sem],by simp[go_sem]⟩) ?_;clear hK K;refine dN (NoPanic.normal ?_);go_wp2;exact bodyPost_ret (v:=.agg #[.int .i64 4,.int .i64 to,.int .i64 frm,.int .i64 con,.int .i64 sh,.int .i64 bal,.int .i64 0,.int .i64 0,.int .i64 0]) (by simp[results,Tryz.results234,go_sem]) rfl ⟨rfl,qBq⟩
 ·
  have HE:Hid (mK ⟨5,to,frm,con,sh,bal,val,ob,ov⟩=⟨5,to,frm,con,sh,bal,0,ob,ov⟩):=by show _=_;simp[mK]
  rw[HE.out];unfold msgV;dsimp only;go_enter Tryz.func234,Tryz.ntmps234;go_wp2;refine wp_region_noPanic ?_;refine fA (fun W=>W.cell? ⟨w.heap.size,2,none⟩=some (.int .i64 frm)∧W.cell? ⟨w.heap.size,4,none⟩=some (.int .i64 sh)∧W.cell? ⟨w.heap.size,5,none⟩=some (.int .i64 bal)) 12 (by kernel_rfl) ⟨by simp[go_sem],by simp[go_sem],by simp[go_sem]⟩ (fun hS=>?_);refine tM 0 rfl hS ?_;try simp only[jX]
  refine tM 1 rfl hS ?_;try simp only[jX]
  refine tM 2 rfl hS ?_;try simp only[jX]
  refine tM 3 rfl hS ?_;try simp only[jX]
  refine tM 4 rfl hS ?_;try simp only[jX]
  refine tM 5 rfl hS ?_;try simp only[jX]
  refine tM 6 rfl hS ?_;try simp only[jX]
  refine uS 7 rfl (fun K hK=>?_);go_simp;refine hK _ _ (fun _=>⟨by simp[go_sem],by simp[go_sem],by simp[go_sem]⟩) ?_;clear hK K;try simp only[jX]
  refine kL (i:=8) (v:=?_) rfl (by kernel_rfl) (by kernel_rfl) (by kernel_rfl) (by kernel_rfl) (fun _ _ _ h=>h) (by rfl) ⟨by simp[go_sem],by simp[go_sem],by simp[go_sem]⟩ ?_ ?_;rotate_left
  ·
   intro wS hSw;(try dsimp only at hSw);go_simp;try with_reducible rfl
  try simp only[jX]
  refine uS 9 rfl (fun K hK=>?_);go_simp;refine hK _ _ (fun _=>⟨by simp[go_sem],by simp[go_sem],by simp[go_sem]⟩) ?_;clear hK K;try simp only[jX]
  refine kL (i:=10) (v:=?_) rfl (by kernel_rfl) (by kernel_rfl) (by kernel_rfl) (by kernel_rfl) (fun _ _ _ h=>h) (by rfl) ⟨by simp[go_sem],by simp[go_sem],by simp[go_sem]⟩ ?_ ?_;rotate_left
  ·
   intro wS hSw;(try dsimp only at hSw);go_simp;try with_reducible rfl
  try simp only[jX]
  refine uS 11 rfl (fun K hK=>?_);go_simp;refine hK _ _ (fun _=>⟨by simp[go_sem],by simp[go_sem],by simp[go_sem]⟩) ?_;clear hK K;refine dN (NoPanic.normal ?_);go_wp2;exact bodyPost_ret (v:=.agg #[.int .i64 5,.int .i64 to,.int .i64 frm,.int .i64 con,.int .i64 sh,.int .i64 bal,.int .i64 0,.int .i64 ob,.int .i64 ov]) (by simp[results,Tryz.results234,go_sem]) rfl ⟨rfl,qBq⟩
 have HE:Hid (mK ⟨6,to,frm,con,sh,bal,val,ob,ov⟩=⟨6,to,0,con,0,0,val,0,0⟩):=by show _=_;simp[mK]
 rw[HE.out];unfold msgV;dsimp only;go_enter Tryz.func234,Tryz.ntmps234;go_wp2;exact bodyPost_ret (v:=.agg #[.int .i64 6,.int .i64 to,.int .i64 0,.int .i64 con,.int .i64 0,.int .i64 0,.int .i64 val,.int .i64 0,.int .i64 0]) (by simp[results,Tryz.results234,go_sem]) rfl ⟨rfl,qBq⟩
theorem xA {w:World} {α:Type} [Inhabited α] {R:Rep α} {e size:Nat} {lv:Value→List Value} {a:Option Addr} {n c:Nat} {xs:List α} (h:(nRep R e size lv).V w (.slice a n c) xs):xs.length=n∧n≤9223372036854775807:=by
 obtain⟨a',c',e,h1,h2,_⟩:=h;simp only[Value.slice.injEq] at e;obtain⟨rfl,rfl,rfl⟩:=e;unfold maxLen at h2;exact⟨rfl,by omega⟩
theorem fKk (x:Value) (c:Clu) (m:Msg) (w:World) (hx:cluR.V w x c) :
  Calls Tryz.prog 157 #[x,msgV m] w fun e w'=>e = .returned (.int .i64 (msgF c m))∧Below w.heap.size w w':=by
 obtain⟨u1,u2,u3,u4,u5,rfl,h1,h2,h3,h4,h5⟩:=hx;obtain⟨a0,c0,rfl⟩:=fZ h1;obtain⟨a1,c1,rfl⟩:=uW h2;obtain⟨a2,c2,rfl⟩:=uM h3;obtain⟨a3,c3,rfl⟩:=uU h4;obtain⟨a4,c4,rfl⟩:=xD h5;have l2:=xA h2;have l3:=xA h3;have l4:=xA h4;obtain⟨n1,hn1⟩:∃n1,n1=c.shards.length:=⟨_,rfl⟩
 obtain⟨n2,hn2⟩:∃n2,n2=c.accs.length:=⟨_,rfl⟩
 obtain⟨n3,hn3⟩:∃n3,n3=c.ldrs.length:=⟨_,rfl⟩
 obtain⟨n4,hn4⟩:∃n4,n4=c.msgs.length:=⟨_,rfl⟩
 rw[←hn1] at l2;rw[←hn2] at l3;rw[←hn3] at l4;rw[←hn1,←hn2,←hn3,←hn4];have HEn:Hid (inB m.kind 1 6=true→∀W,Calls Tryz.prog 232 #[.agg #[.slice a0 c.cons.length c0,.slice a1 n1 c1,.slice a2 n2 c2,.slice a3 n3 c3,.slice a4 n4 c4],msgV m] W fun e w'=>e = .returned (.bool (kP c m))∧Below W.heap.size W w'):=fun hk W=>fKg c m a0 a1 a2 a3 a4 _ n1 n2 n3 n4 c0 c1 c2 c3 c4 W ⟨hn1.symm,l2.2⟩ ⟨hn2.symm,l3.2⟩ ⟨hn3.symm,l4.2⟩ hk
 have HSu:Hid (∀W,Below w.heap.size w W→Calls Tryz.prog 104 #[.agg #[.slice a0 c.cons.length c0,.slice a1 n1 c1,.slice a2 n2 c2,.slice a3 n3 c3,.slice a4 n4 c4],.int .i64 m.con] W (SubE c.cons m.con W)):=fun W hW=>zX a0 c0 _ _ _ _ c.cons m.con W ⟨_,_,_,_,_,_,_,_,_,_,_,_,rfl,rfl,rfl,rfl⟩ (contsR.below h1 hW)
 have HSa:Hid (inB m.kind 1 6=true→∀p q W,legsR.V W (.slice p (xOf c m).legs.length q) (xOf c m).legs→Calls Tryz.prog 233 #[.agg #[.int .i64 (xOf c m).id,.slice p (xOf c m).legs.length q],msgV m] W fun e w'=>e = .returned (.bool (kZ (xOf c m) m))∧Below W.heap.size W w'):=fun hk p q W hv=>fF4 _ _ (xOf c m).legs m W hv hk
 have HNa:Hid (inB m.kind 1 6=true→∀W,Calls Tryz.prog 234 #[msgV m] W fun e w'=>e = .returned (msgV (mK m))∧Below W.heap.size W w'):=fun hk W=>fK3 m W hk
 have HZ5:Hid (inB m.kind 1 6=false→msgF c m=5):=fIi;have HZ3:Hid (inB m.kind 1 6=true→kP c m=false→msgF c m=3):=fIg;have HZ4:Hid (inB m.kind 1 6=true→kP c m=true→¬fE c.cons m.con<c.cons.length→msgF c m=4):=fIj;have HZ6:Hid (inB m.kind 1 6=true→kP c m=true→fE c.cons m.con<c.cons.length→kZ (xOf c m) m=false→msgF c m=3):=fIk;have HZ7:Hid (inB m.kind 1 6=true→kP c m=true→fE c.cons m.con<c.cons.length→kZ (xOf c m) m=true→msgF c m=if m=mK m then 0 else 1):=fIh;have HX:Hid (xOf c m=c.cons.getD (fE c.cons m.con) default):=rfl;clear h1 h2 h3 h4 h5 hn1 hn2 hn3 hn4 l2 l3 l4;generalize msgF c m=Z at *;cases hk:inB m.kind 1 6
 ·
  have HC:Hid _:=HZ5.out hk;unfold msgV;obtain⟨kind,to,frm,con,sh,bal,val,ob,ov⟩:=m;dsimp only at hk ⊢;clear HEn HSu HSa HNa HZ3 HZ4 HZ6 HZ7 HX HZ5;go_enter Tryz.func157,Tryz.ntmps157;go_wp2_with (first|(go_at_call 152;refine(fT _ _ _ _).mono ?_;rintro e w' ⟨rfl,hw⟩;obtain rfl:=hw.symm;rw[hk]));go_ret;exact⟨by rw[HC.out];rfl,qBq⟩
 have HEn':=HEn.out hk;have HSa':=HSa.out hk;have HNa':=HNa.out hk;have HZ3':Hid (kP c m=false→Z=3):=HZ3.out hk;have HZ4':Hid (kP c m=true→¬fE c.cons m.con<c.cons.length→Z=4):=HZ4.out hk;have HZ6':Hid (kP c m=true→fE c.cons m.con<c.cons.length→kZ (xOf c m) m=false→Z=3):=HZ6.out hk;have HZ7':Hid (kP c m=true→fE c.cons m.con<c.cons.length→kZ (xOf c m) m=true→Z=if m=mK m then 0 else 1):=HZ7.out hk;have HE2:Hid (∀W,Calls Tryz.prog 232 #[.agg #[.slice a0 c.cons.length c0,.slice a1 n1 c1,.slice a2 n2 c2,.slice a3 n3 c3,.slice a4 n4 c4],msgV m] W fun e w'=>e = .returned (.bool (kP c m))∧Below W.heap.size W w'):=HEn';have HS2:Hid (∀p q W,legsR.V W (.slice p (xOf c m).legs.length q) (xOf c m).legs→Calls Tryz.prog 233 #[.agg #[.int .i64 (xOf c m).id,.slice p (xOf c m).legs.length q],msgV m] W fun e w'=>e = .returned (.bool (kZ (xOf c m) m))∧Below W.heap.size W w'):=HSa';have HN2:Hid (∀W,Calls Tryz.prog 234 #[msgV m] W fun e w'=>e = .returned (msgV (mK m))∧Below W.heap.size W w'):=HNa';clear HEn HSa HNa HEn' HSa' HNa' HZ3 HZ4 HZ6 HZ7 HZ5;generalize kP c m=eb at *;generalize kZ (xOf c m) m=sb at *;obtain⟨fi,hfi⟩:∃fi,fi=fE c.cons m.con:=⟨_,rfl⟩
 have HFi:Hid (fi=fE c.cons m.con):=hfi;clear hfi;obtain⟨bm,hbm⟩:∃bm,bm=mK m:=⟨_,rfl⟩
 rw[←hbm] at HN2 HZ7';clear hbm;unfold msgV at HE2 HS2 HN2 ⊢;obtain⟨kind,to,frm,con,sh,bal,val,ob,ov⟩:=m;obtain⟨kind2,to2,frm2,con2,sh2,bal2,val2,ob2,ov2⟩:=bm;dsimp only at hk HE2 HS2 HN2 HSu HFi HZ4' HZ6' HZ7' HX ⊢;generalize xOf c ⟨kind,to,frm,con,sh,bal,val,ob,ov⟩=xc at *;go_enter Tryz.func157,Tryz.ntmps157;go_wp2_with (first|(go_at_call 152;refine(fT _ _ _ _).mono ?_;rintro e w' ⟨rfl,hw⟩;obtain rfl:=hw.symm;rw[hk]));go_wp2_with fail;refine(HE2.out _).mono ?_;rintro e w1 ⟨rfl,hb1⟩;have hB1:Below w.heap.size w w1:=qBq;have y0:w1.cell? ⟨w.heap.size,0,none⟩=some (.slice a0 c.cons.length c0):=cK hb1 (by simp[go_sem]);have y1:w1.cell? ⟨w.heap.size,1,none⟩=some (.slice a1 n1 c1):=cK hb1 (by simp[go_sem]);have y2:w1.cell? ⟨w.heap.size,2,none⟩=some (.slice a2 n2 c2):=cK hb1 (by simp[go_sem]);have y3:w1.cell? ⟨w.heap.size,3,none⟩=some (.slice a3 n3 c3):=cK hb1 (by simp[go_sem]);have y4:w1.cell? ⟨w.heap.size,4,none⟩=some (.slice a4 n4 c4):=cK hb1 (by simp[go_sem]);have m0:w1.cell? ⟨w.heap.size+1,0,none⟩=some (.int .i64 kind):=cK hb1 (by simp[go_sem]);have m1:w1.cell? ⟨w.heap.size+1,1,none⟩=some (.int .i64 to):=cK hb1 (by simp[go_sem]);have m2:w1.cell? ⟨w.heap.size+1,2,none⟩=some (.int .i64 frm):=cK hb1 (by simp[go_sem]);have m3:w1.cell? ⟨w.heap.size+1,3,none⟩=some (.int .i64 con):=cK hb1 (by simp[go_sem]);have m4:w1.cell? ⟨w.heap.size+1,4,none⟩=some (.int .i64 sh):=cK hb1 (by simp[go_sem]);have m5:w1.cell? ⟨w.heap.size+1,5,none⟩=some (.int .i64 bal):=cK hb1 (by simp[go_sem]);have m6:w1.cell? ⟨w.heap.size+1,6,none⟩=some (.int .i64 val):=cK hb1 (by simp[go_sem])
 have m7:w1.cell? ⟨w.heap.size+1,7,none⟩=some (.int .i64 ob):=cK hb1 (by simp[go_sem]);have m8:w1.cell? ⟨w.heap.size+1,8,none⟩=some (.int .i64 ov):=cK hb1 (by simp[go_sem]);clear hb1 HE2;cases eb
 ·
  have HC:Hid (Z=3):=HZ3'.out rfl;clear HZ3' HZ4' HZ6' HZ7' HSu HS2 HN2 HX HFi;go_wp2;go_ret;exact⟨by rw[HC.out];rfl,qBq⟩
 have HZ4:Hid (¬fE c.cons con<c.cons.length→Z=4):=HZ4'.out rfl;have HZ6:Hid (fE c.cons con<c.cons.length→sb=false→Z=3):=HZ6'.out rfl;have HZ7:Hid (fE c.cons con<c.cons.length→sb=true→Z=if (⟨kind,to,frm,con,sh,bal,val,ob,ov⟩:Msg)=⟨kind2,to2,frm2,con2,sh2,bal2,val2,ob2,ov2⟩ then 0 else 1):=HZ7'.out rfl;clear HZ3' HZ4' HZ6' HZ7';go_wp2_with fail;refine(HSu.out _ hB1).mono ?_;rintro e w2 ⟨hb2,hr⟩;have hB2:Below w.heap.size w w2:=bS hB1 hb2;have hz2:w.heap.size+1<w2.heap.size:=by have h:=wL _ _ m0;have:=hb2.size;dsimp only at h;omega
 replace m0:=cK hb2 m0;replace m1:=cK hb2 m1;replace m2:=cK hb2 m2;replace m3:=cK hb2 m3;replace m4:=cK hb2 m4;replace m5:=cK hb2 m5;replace m6:=cK hb2 m6;replace m7:=cK hb2 m7;replace m8:=cK hb2 m8;clear hb2 HSu y0 y1 y2 y3 y4;rcases hr with ⟨hlt,p,q,rfl,hlv⟩|⟨hlt,rfl⟩
 rotate_left
 ·
  have HC:Hid _:=HZ4.out hlt;clear HZ4 HZ6 HZ7 HS2 HN2 HX HFi hlt;go_wp2;go_ret;exact⟨by rw[HC.out];rfl,qBq⟩
 have HZ6':Hid (sb=false→Z=3):=HZ6.out hlt;have HZ7':Hid (sb=true→Z=if (⟨kind,to,frm,con,sh,bal,val,ob,ov⟩:Msg)=⟨kind2,to2,frm2,con2,sh2,bal2,val2,ob2,ov2⟩ then 0 else 1):=HZ7.out hlt;rw[←HX.out] at hlv ⊢;have HLv:Hid (legsR.V w2 (.slice p xc.legs.length q) xc.legs):=hlv;clear HZ4 HZ6 HZ7 hlt hlv HX HFi;go_wp2_with fail;refine(HS2.out p q _ (legsR.below HLv.out (qBq))).mono ?_;rintro e w3 ⟨rfl,hb3⟩;have hB3:Below w.heap.size w w3:=qBq;replace m0:=cK hb3 (cK (qBq) m0);replace m1:=cK hb3 (cK (qBq) m1);replace m2:=cK hb3 (cK (qBq) m2);replace m3:=cK hb3 (cK (qBq) m3);replace m4:=cK hb3 (cK (qBq) m4);replace m5:=cK hb3 (cK (qBq) m5);replace m6:=cK hb3 (cK (qBq) m6);replace m7:=cK hb3 (cK (qBq) m7);replace m8:=cK hb3 (cK (qBq) m8);clear hb3 HS2 HLv hB2 hz2;cases sb
 ·
  have HC:Hid (Z=3):=HZ6'.out rfl;clear HZ6' HZ7' HN2;go_wp2;go_ret;exact⟨by rw[HC.out];rfl,qBq⟩
 have HZ:Hid (Z=if (⟨kind,to,frm,con,sh,bal,val,ob,ov⟩:Msg)=⟨kind2,to2,frm2,con2,sh2,bal2,val2,ob2,ov2⟩ then 0 else 1):=HZ7'.out rfl;clear HZ6' HZ7';have hne:=fCy kind to frm con sh bal val ob ov kind2 to2 frm2 con2 sh2 bal2 val2 ob2 ov2;go_wp2;refine wp_region_noPanic ?_;refine fA (fun W=>W.cell? ⟨w.heap.size+1,0,none⟩=some (.int .i64 kind)∧W.cell? ⟨w.heap.size+1,1,none⟩=some (.int .i64 to)∧W.cell? ⟨w.heap.size+1,2,none⟩=some (.int .i64 frm)∧W.cell? ⟨w.heap.size+1,3,none⟩=some (.int .i64 con)∧W.cell? ⟨w.heap.size+1,4,none⟩=some (.int .i64 sh)∧W.cell? ⟨w.heap.size+1,5,none⟩=some (.int .i64 bal)∧W.cell? ⟨w.heap.size+1,6,none⟩=some (.int .i64 val)∧W.cell? ⟨w.heap.size+1,7,none⟩=some (.int .i64 ob)∧W.cell? ⟨w.heap.size+1,8,none⟩=some (.int .i64 ov)) 4 (by kernel_rfl) ⟨cK (qBq) m0,cK (qBq) m1,cK (qBq) m2,cK (qBq) m3,cK (qBq) m4,cK (qBq) m5,cK (qBq) m6,cK (qBq) m7,cK (qBq) m8⟩ (fun hS=>?_);refine tM 0 rfl hS ?_;try simp only[jX]
 refine tM 1 rfl hS ?_;try simp only[jX]
 refine uS 2 rfl (fun K hK=>?_);go_simp;refine(HN2.out _).mono ?_;rintro e w4 ⟨rfl,hb4⟩;have hB4:Below w.heap.size w w4:=bS (qBq) hb4;have hS4:=And.intro (cK hb4 (cK (qBq) m0)) (And.intro (cK hb4 (cK (qBq) m1)) (And.intro (cK hb4 (cK (qBq) m2)) (And.intro (cK hb4 (cK (qBq) m3)) (And.intro (cK hb4 (cK (qBq) m4)) (And.intro (cK hb4 (cK (qBq) m5)) (And.intro (cK hb4 (cK (qBq) m6)) (And.intro (cK hb4 (cK (qBq) m7)) (cK hb4 (cK (qBq) m8)))))))));refine hK _ _ (fun _=>hS4) ?_;clear hK K;try simp only[jX]
 by_cases hq:(⟨kind,to,frm,con,sh,bal,val,ob,ov⟩:Msg)=⟨kind2,to2,frm2,con2,sh2,bal2,val2,ob2,ov2⟩
 ·
  rw[decide_eq_true hq] at hne;have HC:Hid (Z=0):=by show _=_;rw[HZ.out,if_pos hq]
  clear HZ hq;refine tM 3 (v:=(.bool false)) rfl hS4 ?_;try simp only[jX]
  refine dN (NoPanic.normal ?_);go_wp2;go_ret;exact⟨by rw[HC.out];rfl,hB4⟩
 rw[decide_eq_false hq] at hne;have HC:Hid (Z=1):=by show _=_;rw[HZ.out,if_neg hq]
 clear HZ hq;refine tM 3 (v:=(.bool true)) rfl hS4 ?_;try simp only[jX]
 refine dN (NoPanic.normal ?_);go_wp2;go_ret;exact⟨by rw[HC.out];rfl,hB4⟩
variable [DecidableEq SltR] [Inhabited SltR] [DecidableEq AccR] [Inhabited AccR] [DecidableEq AccsR] [Inhabited AccsR] [DecidableEq SltsR] [Inhabited SltsR] [DecidableEq Rw] [Inhabited Rw] [DecidableEq LedgR] [Inhabited LedgR] [DecidableEq OutcR] [Inhabited OutcR] [DecidableEq ShdR] [Inhabited ShdR]
theorem gL {w:World} {x:Value} {c:Clu} (hx:cluR.V w x c):∃a0 a1 a2 a3 a4 c0 c1 c2 c3 c4 n0 n1 n2 n3 n4,x = .agg #[.slice a0 n0 c0,.slice a1 n1 c1,.slice a2 n2 c2,.slice a3 n3 c3,.slice a4 n4 c4]∧c.cons.length=n0∧c.shards.length=n1∧c.accs.length=n2∧c.ldrs.length=n3∧c.msgs.length=n4∧n0≤9223372036854775807∧n1≤9223372036854775807∧n2≤9223372036854775807∧n3≤9223372036854775807∧n4≤9223372036854775807:=by
 obtain⟨u1,u2,u3,u4,u5,rfl,h1,h2,h3,h4,h5⟩:=hx;obtain⟨a0,c0,rfl⟩:=fZ h1;obtain⟨a1,c1,rfl⟩:=uW h2;obtain⟨a2,c2,rfl⟩:=uM h3;obtain⟨a3,c3,rfl⟩:=uU h4;obtain⟨a4,c4,e5,l1,l2,_⟩:=h5;subst e5;unfold maxLen at l2;exact⟨a0,a1,a2,a3,a4,c0,c1,c2,c3,c4,_,_,_,_,_,rfl,rfl,rfl,rfl,rfl,rfl,(xA h1).2,(xA h2).2,(xA h3).2,(xA h4).2,by omega⟩
theorem fDb (x:Value) (c:Clu) (k:Int) (w:World) (hx:cluR.V w x c):Calls Tryz.prog 104 #[x,.int .i64 k] w (SubE c.cons k w):=by
 obtain⟨u1,u2,u3,u4,u5,rfl,h1,h2,h3,h4,h5⟩:=hx;obtain⟨a0,c0,rfl⟩:=fZ h1;obtain⟨a1,c1,rfl⟩:=uW h2;obtain⟨a2,c2,rfl⟩:=uM h3;obtain⟨a3,c3,rfl⟩:=uU h4;obtain⟨a4,c4,rfl⟩:=xD h5;exact zX a0 c0 _ _ _ _ c.cons k w ⟨_,_,_,_,_,_,_,_,_,_,_,_,rfl,rfl,rfl,rfl⟩ h1
theorem fQs {n:Nat} {xs:List Leg} {j:Nat} (hj:j<xs.length) (h:inB (xs.getD j default).sh 0 ((n:Int)-1)=false):pX n xs=false:=by
 unfold pX;rw[List.all_eq_false];exact⟨xs.getD j default,by simp[List.getD,hj],by rw[h];simp⟩
theorem fOl {n:Nat} {xs:List Leg} (h:∀j,j<xs.length→inB (xs.getD j default).sh 0 ((n:Int)-1)=true):pX n xs=true:=by
 unfold pX;rw[List.all_eq_true];intro y hy;obtain⟨i,hi,rfl⟩:=List.getElem_of_mem hy;have:=h i hi;simp only[List.getD,List.getElem?_eq_getElem hi,Option.getD_some] at this;exact this
end Go.Proofs.YtbfnobcidnmohaaGreat
namespace Go.Proofs.YtbfnobcidnmohaaGreat
open Go.RowKit
variable [DecidableEq Rw] [Inhabited Rw] [DecidableEq Bal] [Inhabited Bal] [DecidableEq Ledg] [Inhabited Ledg] [DecidableEq Leg] [Inhabited Leg] [DecidableEq Cont] [Inhabited Cont] [DecidableEq LedgR] [Inhabited LedgR] [DecidableEq OutcR] [Inhabited OutcR] [DecidableEq Mrk] [Inhabited Mrk] [DecidableEq Shd] [Inhabited Shd] [DecidableEq ShdR] [Inhabited ShdR]
attribute [local go_sem ↓] Go.wp_at_zero Go.wp_at_succ
theorem tF {w:World} {v:Value} {xs:List Cont} (hx:contsR.V w v xs):∃a c,v = .slice a xs.length c∧xs.length≤c∧c≤maxLen∧∀k,k<xs.length→∃b o p q,a=some ⟨b,o,none⟩∧w.cell? ⟨b,o+k*2,none⟩=some (.int .i64 (xs.getD k default).id)∧w.cell? ⟨b,o+k*2+1,none⟩=some (.slice p (xs.getD k default).legs.length q)∧contR.V w (.agg #[.int .i64 (xs.getD k default).id,.slice p (xs.getD k default).legs.length q]) (xs.getD k default):=by
 obtain⟨a,c,rfl,h1,h2,h3⟩:=hx;refine⟨a,c,rfl,h1,h2,fun k hk=>?_⟩;obtain⟨b,o,u,e,_,p,hv⟩:=h3 k hk;have hV:=hv;obtain⟨s,rfl,hc⟩:=hv;obtain⟨au,cu,rfl⟩:=rH hc;exact⟨b,o,au,cu,e,p 0 (by omega),p 1 (by omega),hV⟩
theorem uV {xs:List Mrk} {k:Nat} (h:(inB (xs.getD k default).con 1 1000000000&&inB (xs.getD k default).val 1 2)=false):pF xs k=3:=by unfold pF;rw[h];rfl
theorem fAt {xs:List Mrk} (h:(inB (xs.getD 0 default).con 1 1000000000&&inB (xs.getD 0 default).val 1 2)=true):pF xs 0=0:=by unfold pF;rw[if_pos h,if_neg (by omega)]
theorem fAr {xs:List Mrk} {k:Nat} (h:(inB (xs.getD (k+1) default).con 1 1000000000&&inB (xs.getD (k+1) default).val 1 2)=true) (h2:(xs.getD (k+1) default).con≤(xs.getD k default).con):pF xs (k+1)=1:=by unfold pF;rw[if_pos h,if_pos ⟨by omega,by rw[Nat.add_sub_cancel];omega⟩]
theorem fAs {xs:List Mrk} {k:Nat} (h:(inB (xs.getD (k+1) default).con 1 1000000000&&inB (xs.getD (k+1) default).val 1 2)=true) (h2:(xs.getD k default).con<(xs.getD (k+1) default).con):pF xs (k+1)=0:=by unfold pF;rw[if_pos h,if_neg (by rw[Nat.add_sub_cancel];omega)]
theorem fFy {xs:List Mrk} {k:Nat} {c:Int} (hk:k<xs.length) (hs:fC (pF xs) k=0) (h:pF xs k=c) (hc:c≠0):mrkF xs=c:=by
 unfold mrkF;rw[fH hs (by rw[h];exact hc) _ hk,h]
theorem yS (x:Value) (xs:List Mrk) (c:Int) (w:World) (hx:mrksR.V w x xs) :
  Calls Tryz.prog 25 #[x,.int .i64 c] w fun e w'=>e = .returned (.int .i64 (gJ c xs))∧Below w.heap.size w w':=by
 obtain⟨ax,cx,rfl,hcx,hmx,hx⟩:=hx;unfold maxLen at hmx;have HS0:Hid (∀k,k<xs.length→gJ c (xs.drop k)=if (xs.getD k default).con=c then (xs.getD k default).val else gJ c (xs.drop (k+1))):=fun k hk=>fAk hk
 have HE:Hid (gJ c (xs.drop xs.length)=0):=by show _=_;rw[List.drop_length];rfl
 generalize hn':xs.length=n at *;clear hn';go_enter Tryz.func25,Tryz.ntmps25;go_wp2;go_loopw [5] (fun i w'=>∃k:Nat,k≤n∧i = .int .i64 k∧Hid (gJ c xs=gJ c (xs.drop k))∧Below w.heap.size w w') (fun i _=>n-(intOf i).toNat)
 case atStart=>exact⟨0,Nat.zero_le _,rfl,rfl,Below.refl _ _⟩
 obtain⟨k,hk,rfl,HS,hbl⟩:=hrel;by_cases hlt:k<n
 ·
  obtain⟨bx,ox,rfl,g1⟩:=hx k hlt;have h1:=HS0.out k hlt;obtain⟨l,hl⟩:∃l,l=xs.getD k default:=⟨_,rfl⟩
  rw[←hl] at g1 h1;have H1:Hid (gJ c (xs.drop k)=if l.con=c then l.val else gJ c (xs.drop (k+1))):=h1;clear hl hx h1;obtain⟨a1,a2⟩:=fQ hbl g1;by_cases he:l.con=c
  ·
   have HC:Hid (gJ c xs=l.val):=by show _=_;rw[HS.out,H1.out,if_pos he]
   have he':(l.con==c)=true:=by simp[he]
   clear H1 HS;go_wp2;go_ret;exact⟨by rw[HC.out];rfl,qBq⟩
  have HC:Hid (gJ c xs=gJ c (xs.drop (k+1))):=by show _=_;rw[HS.out,H1.out,if_neg he]
  have he':(l.con==c)=false:=by simp[he]
  clear H1 HS;go_wp2;exact⟨⟨k+1,by omega,by go_num,HC,qBq⟩,by simp[intOf];omega⟩
 have hkn:k=n:=by omega
 subst hkn;have HC:Hid (gJ c xs=0):=by show _=_;rw[HS.out,HE.out]
 go_wp2;go_ret;exact⟨by rw[HC.out];rfl,qBq⟩
theorem fA9 (x:Value) (xs:List Mrk) (w:World) (hx:mrksR.V w x xs) :
  Calls Tryz.prog 195 #[x] w fun e w'=>e = .returned (.int .i64 (mrkF xs))∧Below w.heap.size w w':=by
 obtain⟨ax,cx,rfl,hcx,hmx,hx⟩:=hx;unfold maxLen at hmx;have HH:Hid (∀k c,k<xs.length→fC (pF xs) k=0→pF xs k=c→c≠0→mrkF xs=c):=fun k c hk hs h hc=>fFy hk hs h hc
 have HE:Hid (fC (pF xs) xs.length=0→mrkF xs=0):=fun h=>h
 generalize hn':xs.length=n at *;clear hn';go_enter Tryz.func195,Tryz.ntmps195;go_wp2;go_loopw [3] (fun i w'=>∃k:Nat,k≤n∧i = .int .i64 k∧Hid (fC (pF xs) k=0)∧Below w.heap.size w w') (fun i _=>n-(intOf i).toNat)
 case atStart=>exact⟨0,Nat.zero_le _,rfl,rfl,Below.refl _ _⟩
 obtain⟨k,hk,rfl,HS,hbl⟩:=hrel;by_cases hlt:k<n
 ·
  obtain⟨bx,ox,rfl,g1⟩:=hx k hlt;obtain⟨l,hl⟩:∃l,l=xs.getD k default:=⟨_,rfl⟩
  rw[←hl] at g1;have HL:Hid (l=xs.getD k default):=hl;clear hl;obtain⟨a1,a2⟩:=fQ hbl g1;cases h1:inB l.con 1 1000000000
  ·
   have HC:Hid (mrkF xs=3):=HH.out k 3 hlt HS.out (uV (by rw[←HL.out,h1];rfl)) (by omega);clear hx;go_wp2_with (first|(go_at_call 192;refine(mO _ _).mono ?_;rintro e w' ⟨rfl,rfl⟩;rw[h1]));go_ret;exact⟨by rw[HC.out];rfl,qBq⟩
  cases h2:inB l.val 1 2
  ·
   have HC:Hid (mrkF xs=3):=HH.out k 3 hlt HS.out (uV (by rw[←HL.out,h1,h2];rfl)) (by omega);clear hx;go_wp2_with (first|(go_at_call 192;refine(mO _ _).mono ?_;rintro e w' ⟨rfl,rfl⟩;rw[h1])|(go_at_call 123;refine(fO _ _ _ _).mono ?_;rintro e w' ⟨rfl,rfl⟩;rw[h2]));go_ret;exact⟨by rw[HC.out];rfl,qBq⟩
  have hok:Hid ((inB (xs.getD k default).con 1 1000000000&&inB (xs.getD k default).val 1 2)=true):=by show _=_;rw[←HL.out,h1,h2];rfl
  cases k with
  | zero=>
   have HS2:Hid (fC (pF xs) 1=0):=fD HS.out (fAt hok.out);clear hx;simp only[Nat.zero_mul,Nat.add_zero] at a1 a2;go_wp2_with (first|(go_at_call 192;refine(mO _ _).mono ?_;rintro e w' ⟨rfl,rfl⟩;rw[h1])|(go_at_call 123;refine(fO _ _ _ _).mono ?_;rintro e w' ⟨rfl,rfl⟩;rw[h2]));go_quiet (fail);go_wp2;exact⟨⟨1,by omega,by go_num,HS2,gG hbl _⟩,by simp[intOf];omega⟩
  | succ m=>
   obtain⟨bx',ox',he,g2⟩:=hx m (by omega);simp only[Option.some.injEq,Addr.mk.injEq,and_true] at he;obtain⟨rfl,rfl⟩:=he;obtain⟨l',hl'⟩:∃l',l'=xs.getD m default:=⟨_,rfl⟩
   rw[←hl'] at g2;have HL':Hid (l'=xs.getD m default):=hl';clear hl' hx;obtain⟨a3,a4⟩:=fQ hbl g2;have hw1:IntKind.i64.wrap (((m+1:Nat):Int)-1)=(m:Int):=by rw[IntKind.wrap_i64];omega
   have hw2:(((m+1:Nat):Int)-1)=(m:Int):=by omega
   have e1:((m+1:Nat):Int)<n:=by omega
   have e2:(m:Int)<n:=by omega
   have e3:(0:Int)≤m:=by omega
   have e4:(0:Int)<((m+1:Nat):Int):=by omega
   have e5:(0:Int)≤((m+1:Nat):Int):=by omega
   have HFa:Hid (l.con≤l'.con→mrkF xs=1):=fun h=>HH.out (m+1) 1 hlt HS.out (fAr hok.out (by rw[←HL.out,←HL'.out];exact h)) (by omega)
   have HRi:Hid (l'.con<l.con→fC (pF xs) (m+1+1)=0):=fun h=>fD HS.out (fAs hok.out (by rw[←HL.out,←HL'.out];exact h))
   clear hok;obtain⟨ii,hii⟩:∃ii:Nat,ii=m+1:=⟨_,rfl⟩
   have HII:Hid (ii=m+1):=hii;rw[←hii] at a1 a2 hw1 hw2 e1 e4 e5 HRi ⊢;clear hii HS;have e6:decide (0<ii)=true:=decide_eq_true (by have:=HII.out;omega);by_cases hle:l.con≤l'.con
   ·
    have HC:=HFa.out hle;go_wp2_with (first|(go_at_call 192;refine(mO _ _).mono ?_;rintro e w' ⟨rfl,rfl⟩;rw[h1])|(go_at_call 123;refine(fO _ _ _ _).mono ?_;rintro e w' ⟨rfl,rfl⟩;rw[h2]));go_quiet (fail);go_wp2;go_ret;exact⟨by rw[HC];rfl,gG hbl _⟩
   have HS2:Hid (fC (pF xs) (ii+1)=0):=HRi.out (by omega);go_wp2_with (first|(go_at_call 192;refine(mO _ _).mono ?_;rintro e w' ⟨rfl,rfl⟩;rw[h1])|(go_at_call 123;refine(fO _ _ _ _).mono ?_;rintro e w' ⟨rfl,rfl⟩;rw[h2]));go_quiet (fail);go_wp2;exact⟨⟨ii+1,by omega,by go_num,HS2,gG hbl _⟩,by simp[intOf];omega⟩
 have hkn:k=n:=by omega
 subst hkn;have HC:=HE.out HS.out;go_wp2;go_ret;exact⟨by rw[HC];rfl,qBq⟩
theorem fFq (x:Value) (d:Shd) (c:Int) (w:World) (hx:shdR.V w x d) :
  Calls Tryz.prog 259 #[x,.int .i64 c] w fun e w'=>e = .returned (.bool (kE d.held c))∧Below w.heap.size w w':=by
 obtain⟨u1,u2,u3,u4,u5,rfl,_,_,hx,_,_⟩:=hx;obtain⟨ax,cx,rfl,hcx,hmx,hx⟩:=tF hx;unfold maxLen at hmx;obtain⟨idx,_,_,xs,_,_⟩:=d;dsimp only at hcx hx ⊢;have HS0:Hid (∀k,k<xs.length→kE (xs.take (k+1)) c=(kE (xs.take k) c||decide ((xs.getD k default).id=c))):=fun k hk=>fKh hk
 have HE:Hid (kE (xs.take xs.length) c=kE xs c):=by show _=_;rw[List.take_length]
 have HT:Hid (∀k,k<xs.length→(xs.getD k default).id=c→kE xs c=true):=fun k hk h=>heldIn_mem.2 ⟨k,hk,h⟩
 generalize hn':xs.length=n at *;clear hn';go_enter Tryz.func259,Tryz.ntmps259;go_wp2;go_loopw [5] (fun i w'=>∃k:Nat,k≤n∧i = .int .i64 k∧Hid (kE (xs.take k) c=false)∧w'.cell? ⟨w.heap.size,3,none⟩=some (.slice ax n cx)∧Below w.heap.size w w') (fun i _=>n-(intOf i).toNat)
 case atStart=>exact⟨0,Nat.zero_le _,rfl,by show kE (xs.take 0) c=false;simp[kE],by simp[go_sem],qBq⟩
 obtain⟨k,hk,rfl,HS,hq,hbl⟩:=hrel;have zq:w.heap.size<wr.heap.size:=wL wr _ hq;by_cases hlt:k<n
 ·
  obtain⟨bx,ox,pp,qq,rfl,g0,g1,_⟩:=hx k hlt;have h1:=HS0.out k hlt;have h2:=HT.out k hlt;generalize (xs.getD k default).legs.length=ll at *;generalize (xs.getD k default).id=q at *;have H1:Hid (kE (xs.take (k+1)) c=(kE (xs.take k) c||decide (q=c))):=h1;have H2:Hid (q=c→kE xs c=true):=h2;clear hx h1 h2;replace g0:=cK hbl g0;by_cases he:q=c
  ·
   have HC:=H2.out he;have he':(q==c)=true:=by simp[he]
   clear H1 HS H2;go_wp2;go_ret;exact⟨by rw[HC];rfl,qBq⟩
  have HC:Hid (kE (xs.take (k+1)) c=false):=by show _=_;rw[H1.out,HS.out,decide_eq_false he];rfl
  have he':(q==c)=false:=by simp[he]
  clear H1 HS H2;go_wp2;exact⟨⟨k+1,by omega,by go_num,HC,hq,qBq⟩,by simp[intOf];omega⟩
 have hkn:k=n:=by omega
 subst hkn;have HC:Hid (kE xs c=false):=by show _=_;rw[←HE.out,HS.out]
 go_wp2;go_ret;exact⟨by rw[HC.out];rfl,qBq⟩
theorem fBs {α:Type} [Inhabited α] (f:α→Bool) {xs:List α} {k:Nat} (hk:k<xs.length):(xs.take (k+1)).any f=((xs.take k).any f||f (xs.getD k default)):=by
 have e:xs.take (k+1)=xs.take k++[xs.getD k default]:=by rw[List.take_add_one];simp[List.getD,hk]
 rw[e,List.any_append];simp
theorem fLw {α:Type} [Inhabited α] {f:α→Bool} {xs:List α} {k:Nat} (hk:k<xs.length) (h:f (xs.getD k default)=true):xs.any f=true:=List.any_eq_true.2 ⟨xs.getD k default,by simp[List.getD,hk],h⟩
theorem fH5 (x y:Value) (xs ys:List Leg) (w:World) (hx:legsR.V w x xs) (hy:legsR.V w y ys) :
  Calls Tryz.prog 261 #[x,y] w fun e w'=>e = .returned (.bool (touch xs ys))∧Below w.heap.size w w':=by
 obtain⟨ax,cx,rfl,hcx,hmx,hx⟩:=hx;obtain⟨ay,cy,rfl,hcy,hmy,hy⟩:=hy;unfold maxLen at hmx hmy;have HT:Hid (∀i j,i<xs.length→j<ys.length→mQ (xs.getD i default) (ys.getD j default)=true→touch xs ys=true):=fun i j hi hj h=>fLw hi (fLw hj h)
 have HO:Hid (∀i,i<xs.length→((xs.take i).any (fun x=>ys.any (fun y=>mQ x y)))=false→ys.any (fun y=>mQ (xs.getD i default) y)=false→((xs.take (i+1)).any (fun x=>ys.any (fun y=>mQ x y)))=false):=fun i hi h1 h2=>by rw[fBs _ hi,h1,h2];rfl
 have HI:Hid (∀i j,j<ys.length→((ys.take j).any (fun y=>mQ (xs.getD i default) y))=false→mQ (xs.getD i default) (ys.getD j default)=false→((ys.take (j+1)).any (fun y=>mQ (xs.getD i default) y))=false):=fun i j hj h1 h2=>by rw[fBs _ hj,h1,h2];rfl
 have HE1:Hid (((xs.take xs.length).any (fun x=>ys.any (fun y=>mQ x y)))=touch xs ys):=by show _=_;rw[List.take_length];rfl
 have HE2:Hid (∀i,((ys.take ys.length).any (fun y=>mQ (xs.getD i default) y))=ys.any (fun y=>mQ (xs.getD i default) y)):=fun i=>by rw[List.take_length]
 generalize hn':xs.length=n at *;generalize hm':ys.length=m at *;clear hn' hm';go_enter Tryz.func261,Tryz.ntmps261;go_wp2;go_loopw [5] (fun i w'=>∃k:Nat,k≤n∧i = .int .i64 k∧Hid (((xs.take k).any (fun x=>ys.any (fun y=>mQ x y)))=false)∧Below w.heap.size w w') (fun i _=>n-(intOf i).toNat)
 case atStart=>exact⟨0,Nat.zero_le _,rfl,by show((xs.take 0).any _)=false;simp,Below.refl _ _⟩
 obtain⟨k,hk,rfl,HS,hbl⟩:=hrel;by_cases hlt:k<n
 ·
  go_wp2;go_loopw [6] (fun i w'=>∃j:Nat,j≤m∧i = .int .i64 j∧Hid (((ys.take j).any (fun y=>mQ (xs.getD k default) y))=false)∧Below w.heap.size w w') (fun i _=>m-(intOf i).toNat)
  case atStart=>exact⟨0,Nat.zero_le _,rfl,by show((ys.take 0).any _)=false;simp,hbl⟩
  rename_i wq;obtain⟨j,hj,rfl,HS2,hbl2⟩:=hrel;by_cases hlt2:j<m
  ·
   obtain⟨bx,ox,rfl,g1⟩:=hx k hlt;obtain⟨by_,oy,rfl,g2⟩:=hy j hlt2;have h1:=HT.out k j hlt hlt2;have h2:=HI.out k j hlt2 HS2.out;obtain⟨l,hl⟩:∃l,l=xs.getD k default:=⟨_,rfl⟩
   rw[←hl] at g1;obtain⟨l',hl'⟩:∃l',l'=ys.getD j default:=⟨_,rfl⟩
   rw[←hl'] at g2;have H1:Hid (mQ l l'=true→touch xs ys=true):=by rw[hl,hl'];exact h1
   have H2:Hid (mQ l l'=false→((ys.take (j+1)).any (fun y=>mQ (xs.getD k default) y))=false):=by rw[hl,hl'];exact h2
   clear hl hl' h1 h2 hx hy;have ga:=(fCt hbl2 g1).2;obtain⟨a0,a1,a2,a3⟩:=ga;have gb:=(fCt hbl2 g2).2;obtain⟨c0,c1,c2,c3⟩:=gb;have k1:(k:Int)<n:=by omega
   have k2:(0:Int)≤k:=by omega
   have j1:(j:Int)<m:=by omega
   have j2:(0:Int)≤j:=by omega
   by_cases e1:l.ac=l'.ac
   ·
    have e1':(l.ac==l'.ac)=true:=by simp[e1]
    by_cases e2:l.ast=l'.ast
    ·
     have e2':(l.ast==l'.ast)=true:=by simp[e2]
     have HC:=H1.out (by unfold mQ;rw[e1',e2'];rfl);clear e1 e2;go_wp2;go_quiet (fail);go_wp2;go_ret;exact⟨by rw[HC];rfl,gG hbl2 _⟩
    have e2':(l.ast==l'.ast)=false:=by simp[e2]
    have HC:Hid (((ys.take (j+1)).any (fun y=>mQ (xs.getD k default) y))=false):=H2.out (by unfold mQ;rw[e1',e2'];rfl);clear e1 e2;go_wp2;go_quiet (fail);go_wp2;exact⟨⟨j+1,by omega,by go_num,HC,gG hbl2 _⟩,by simp[intOf];omega⟩
   have e1':(l.ac==l'.ac)=false:=by simp[e1]
   have HC:Hid (((ys.take (j+1)).any (fun y=>mQ (xs.getD k default) y))=false):=H2.out (by unfold mQ;rw[e1'];rfl);clear e1;go_wp2;go_quiet (fail);go_wp2;exact⟨⟨j+1,by omega,by go_num,HC,gG hbl2 _⟩,by simp[intOf];omega⟩
  have hjm:j=m:=by omega
  subst hjm;have HC:Hid (((xs.take (k+1)).any (fun x=>ys.any (fun y=>mQ x y)))=false):=HO.out k hlt HS.out (by rw[←HE2.out];exact HS2.out);go_wp2;exact⟨⟨k+1,by omega,by go_num,HC,qBq⟩,by simp[intOf];omega⟩
 have hkn:k=n:=by omega
 subst hkn;have HC:Hid (touch xs ys=false):=by show _=_;rw[←HE1.out,HS.out]
 go_wp2;go_ret;exact⟨by rw[HC.out];rfl,qBq⟩
end Go.Proofs.YtbfnobcidnmohaaGreat

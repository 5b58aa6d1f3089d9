import Derived.Test.YtpibfdebfacooaaGreatPrnWriteEventLaw13
set_option maxHeartbeats 2000000
set_option maxRecDepth 20000
set_option linter.all false
namespace Go.Proofs.YtpibfdebfacooaaGreat
open Go.RowKit
attribute [local go_sem ↓] Go.wp_at_zero Go.wp_at_succ
attribute [local go_sem] cI ah cN iV aj
section
variable [dQ Rw] [iH Rw] [dQ Bal] [iH Bal] [dQ Ledg] [iH Ledg] [dQ Leg] [iH Leg] [dQ Cont] [iH Cont] [dQ LedgR] [iH LedgR]
theorem fNf {f:Int→Int→Int→Option Int} {M:Int} (hf:∀s a t,-M≤(f s a t).getD 0∧(f s a t).getD 0≤M) (ls:List Leg):(∀l ∈ ls,-1000000000000≤l.am∧l.am≤1000000000000)→∀s a t,-(M+ls.length*1000000000000)≤(pU f ls s a t).getD 0∧(pU f ls s a t).getD 0≤M+ls.length*1000000000000:=by
 refine fKo (P:=fun ls=>(∀l ∈ ls,-1000000000000≤l.am∧l.am≤1000000000000)→∀s a t,-(M+ls.length*1000000000000)≤(pU f ls s a t).getD 0∧(pU f ls s a t).getD 0≤M+ls.length*1000000000000) ?_ ?_ ls
 ·intro _ s a t;have:=hf s a t;simpa [pU] using this
 intro ls l e d s a t;have h1:=e (fun x g=>d x (List.mem_append_left _ g));have h2:=d l (by simp);rw[fCm,List.length_append,List.length_singleton];unfold addL upd3;have j:=h1 s a t;have k:=h1 l.sh l.ac l.ast;split
 ·
  split
  ·simp only[Option.getD_none];omega
  simp only[Option.getD_some];omega
 omega
theorem fNh {g:Ledg} (h:uH g=0):∀s a t,-1000000000000≤(mE g.shards s a t).getD 0∧(mE g.shards s a t).getD 0≤1000000000000:=by
 intro s a t;unfold mE;split
 ·rename_i e;have d:=(fEd h).2.2 s.toNat oM;have h1:=fNx (a:=a) (t:=t) d.ok;rw[fBu] at h1;omega
 simp
end
section
variable [dQ Leg] [iH Leg] [dQ Bal] [iH Bal] [dQ Ledg] [iH Ledg]
structure OutcR where
 code:Int
 outcomes:List Int
 ledger:Ledg
variable [dQ OutcR] [iH OutcR]
end
section
variable [dQ Bal] [iH Bal] [dQ Mrk] [iH Mrk] [dQ Leg] [iH Leg] [dQ Cont] [iH Cont] [dQ Shd] [iH Shd]
structure ShdR where
 code:Int
 vote:Int
 shard:Shd
variable [dQ ShdR] [iH ShdR]
def shdRR:Rep ShdR where
 V:=fun w v x=>∃u1_1 u1_2 u1_3 u1_4 u1_5,v =.agg #[.int .i64 x.code,.int .i64 x.vote,.int .i64 x.shard.idx,u1_1,u1_2,u1_3,u1_4,u1_5]∧shdR.V w (.agg #[.int .i64 x.shard.idx,u1_1,u1_2,u1_3,u1_4,u1_5]) x.shard
 O:=fun w base F v x=>∃u1_1 u1_2 u1_3 u1_4 u1_5 F1,v =.agg #[.int .i64 x.code,.int .i64 x.vote,.int .i64 x.shard.idx,u1_1,u1_2,u1_3,u1_4,u1_5]∧shdR.O w base F1 (.agg #[.int .i64 x.shard.idx,u1_1,u1_2,u1_3,u1_4,u1_5]) x.shard∧(∀b,F b↔(F1 b))
 below:=fun h hb=>by
  obtain⟨u1_1,u1_2,u1_3,u1_4,u1_5,rfl,h1⟩:=h;exact⟨u1_1,u1_2,u1_3,u1_4,u1_5,rfl,shdR.below h1 hb⟩
 ofO:=fun h=>by
  obtain⟨u1_1,u1_2,u1_3,u1_4,u1_5,F1,rfl,h1,_⟩:=h;exact⟨u1_1,u1_2,u1_3,u1_4,u1_5,rfl,shdR.ofO h1⟩
 mod:=fun h hm hd=>by
  obtain⟨u1_1,u1_2,u1_3,u1_4,u1_5,F1,rfl,h1,hF⟩:=h;exact⟨u1_1,u1_2,u1_3,u1_4,u1_5,F1,rfl,shdR.mod h1 hm (fun b hb=>hd b ((hF b).2 hb)),hF⟩
 rng:=fun h b hb=>by
  obtain⟨u1_1,u1_2,u1_3,u1_4,u1_5,F1,rfl,h1,hF⟩:=h;rcases(hF b).1 hb with hb
  exact shdR.rng h1 b hb
 base:=fun h hb=>by
  obtain⟨u1_1,u1_2,u1_3,u1_4,u1_5,F1,rfl,h1,hF⟩:=h;exact⟨u1_1,u1_2,u1_3,u1_4,u1_5,F1,rfl,shdR.base h1 hb,hF⟩
def fCl (x:ShdR):Nat:=fAt x.shard
theorem fV2 {w:World} {v:Value} {x:ShdR} (h:shdRR.V w v x):∃a1_1 a1_2 a1_3 a1_4 a1_5 c1_1 c1_2 c1_3 c1_4 c1_5,v =.agg #[iV x.code,iV x.vote,iV x.shard.idx,.slice a1_1 x.shard.bals.length c1_1,.slice a1_2 x.shard.votes.length c1_2,.slice a1_3 x.shard.held.length c1_3,.slice a1_4 x.shard.done.length c1_4,.slice a1_5 x.shard.appl.length c1_5]:=by
 obtain⟨d,e,g,j,k,rfl,h1⟩:=h;obtain⟨a1_1,a1_2,a1_3,a1_4,a1_5,c1_1,c1_2,c1_3,c1_4,c1_5,l⟩:=fCe h1;simp only[Value.agg.injEq,Array.mk.injEq,List.cons.injEq,and_true,true_and] at l;obtain⟨rfl,rfl,rfl,rfl,rfl⟩:=l;exact⟨_,_,_,_,_,_,_,_,_,_,rfl⟩
end
section
variable [dQ Rw] [iH Rw] [dQ Bal] [iH Bal] [dQ Ledg] [iH Ledg] [dQ Leg] [iH Leg] [dQ Cont] [iH Cont] [dQ LedgR] [iH LedgR] [dQ OutcR] [iH OutcR] [dQ Mrk] [iH Mrk] [dQ Shd] [iH Shd] [dQ ShdR] [iH ShdR]
def fK (c:Int):List Mrk→Int
 | []=>0
 | m::r=>if m.con=c then m.val else fK c r
def qH (xs:List Mrk) (k:Nat):Int:=if (inB (xs.getD k default).con 1 1000000000&&inB (xs.getD k default).val 1 2)=true then (if 0<k∧¬(xs.getD (k-1) default).con<(xs.getD k default).con then 1 else 0) else 3
def mrkF (xs:List Mrk):Int:=fI (qH xs) xs.length
def fP (hs:List Cont) (c:Int):Bool:=hs.any (fun x=>x.id==c)
def pX (x y:Leg):Bool:=x.ac==y.ac&&x.ast==y.ast
def touch (a b:List Leg):Bool:=a.any (fun x=>b.any (fun y=>pX x y))
def uP (hs:List Cont) (k:Nat):Bool:=decide (k=0∨(hs.getD (k-1) default).id<(hs.getD k default).id)
def kD (s:Shd) (k:Nat):Int:=
 if fA (s.held.getD k default).id (s.held.getD k default).legs=0 then
  (if uP s.held k=true∧¬(onSh s.idx (s.held.getD k default).legs).length=0∧fK (s.held.getD k default).id s.votes=1∧fK (s.held.getD k default).id s.done=0 then 0 else 1)
 else fA (s.held.getD k default).id (s.held.getD k default).legs
def kH (s:Shd) (k:Nat):Int:=if (s.votes.getD k default).val=1∧fP s.held (s.votes.getD k default).con=false∧fK (s.votes.getD k default).con s.done=0 then 1 else 0
def kG (s:List Mrk):List Int:=(s.filter (fun m=>m.val==1)).map (fun m=>m.con)
def yI (done:List Mrk) (appl:List Int):Bool:=decide ((kG done).length=appl.length∧∀k,k<appl.length→fK (appl.getD k 0) done=1∧¬(appl.getD k 0) ∈ appl.take k)
def kI (s:Shd) (k:Nat):List Leg:=onSh s.idx (s.held.getD k default).legs
def gW (s:Shd) (k:Nat):Int:=if (List.range k).any (fun j=>touch (kI s k) (kI s j))=true then 7 else 0
def yK (xs:List Bal) (ls:List Leg):Int:=fI (fun k=>canB xs (ls.getD k default)) ls.length
def gN (s:Shd) (k:Nat):Int:=yK s.bals (kI s k)
def qA (idx:Int) (bs:List Bal):Int:=if inB idx 0 2=true then gZ bs else 3
def mG (s:Shd):Int:=
 if qA s.idx s.bals=0 then
  (if 100<s.votes.length∨100<s.held.length∨100<s.done.length∨100<s.appl.length then 2
   else if mrkF s.votes=0 then
    (if mrkF s.done=0 then
     (if fI (kD s) s.held.length=0 then
      (if fI (kH s) s.votes.length=0 then (if yI s.done s.appl=true then 0 else 1) else 1)
     else fI (kD s) s.held.length)
    else mrkF s.done)
   else mrkF s.votes)
 else qA s.idx s.bals
def zL (s:Shd):Int:=if fI (gW s) s.held.length=0 then fI (gN s) s.held.length else fI (gW s) s.held.length
def shdF (s:Shd):Int:=if mG s=0 then zL s else mG s
theorem fCw {c:Int} {xs:List Mrk} {k:Nat} (h:k<xs.length):fK c (xs.drop k)=if (xs.getD k default).con=c then (xs.getD k default).val else fK c (xs.drop (k+1)):=by
 rw[List.drop_eq_getElem_cons h];simp[fK,List.getD,h]
theorem fCx {c:Int} {xs:List Mrk}:∀{i:Nat},i≤xs.length→(∀k,k<i→¬(xs.getD k default).con=c)→fK c xs=fK c (xs.drop i)
 | 0,_,_=>by simp
 | i+1,h,hn=>by
  rw[fCx (i:=i) oM (fun k hk=>hn k oM),fCw oM,if_neg (hn i oM)]
theorem fHx {c:Int} {xs:List Mrk} (h:∀k,k<xs.length→¬(xs.getD k default).con=c):fK c xs=0:=by
 rw[fCx (Nat.le_refl _) h];simp[fK]
structure MrksOk (xs:List Mrk):Prop where
 ok:∀k,k<xs.length→(1≤(xs.getD k default).con∧(xs.getD k default).con≤1000000000)∧(1≤(xs.getD k default).val∧(xs.getD k default).val≤2)
 rise:∀i j,i<j→j<xs.length→(xs.getD i default).con<(xs.getD j default).con
theorem zX {xs:List Mrk} (h:mrkF xs=0):MrksOk xs:=by
 have h1:∀k,k<xs.length→qH xs k=0:=vK h
 have m:∀k,k+1<xs.length→(xs.getD k default).con<(xs.getD (k+1) default).con:=fun k g=>by
  have h2:=h1 (k+1) g;unfold qH at h2;split at h2
  ·
   split at h2
   ·omega
   rename_i d;rw[Nat.add_sub_cancel] at d;by_cases l:(xs.getD k default).con<(xs.getD (k+1) default).con
   ·exact l
   exact absurd ⟨oM,l⟩ d
  omega
 refine⟨fun k g=>?_,fun i j=>?_⟩
 ·
  have h2:=h1 k g;unfold qH at h2;split at h2
  ·rename_i d;simp only[Bool.and_eq_true,inBi] at d;exact d
  omega
 induction j with
 | zero=>intro h;omega
 | succ j ih=>
  intro n p;have:=m j p;by_cases e:i=j
  ·rw[e];exact this
  have:=ih oM oM;omega
theorem fEb {xs:List Mrk} {c:Int} {i:Nat} (hr:∀i j,i<j→j<xs.length→(xs.getD i default).con<(xs.getD j default).con) (hi:i≤xs.length) (h1:∀k,k<i→(xs.getD k default).con<c) (h2:∀k,i≤k→k<xs.length→c≤(xs.getD k default).con) :
  fK c xs=if i<xs.length∧(xs.getD i default).con=c then (xs.getD i default).val else 0:=by
 rw[fCx hi (fun k g=>by have:=h1 k g;omega)];by_cases d:i<xs.length
 ·
  rw[fCw d];by_cases he:(xs.getD i default).con=c
  ·rw[if_pos he,if_pos ⟨d,he⟩]
  rw[if_neg he,if_neg (fun h=>he h.2)];refine fHx fun k g=>?_
  rw[List.length_drop] at g;have e:(xs.drop (i+1)).getD k default=xs.getD (i+1+k) default:=by simp[List.getD]
  rw[e];have a:=hr i (i+1+k) oM oM;have b:=h2 i (Nat.le_refl _) d;omega
 rw[if_neg (fun h=>d h.1),List.drop_eq_nil_of_le oM];rfl
theorem heldIn_mem {hs:List Cont} {c:Int}:fP hs c=true↔∃k,k<hs.length∧(hs.getD k default).id=c:=by
 unfold fP;rw[List.any_eq_true];constructor
 ·rintro⟨x,e,h⟩;obtain⟨k,d,rfl⟩:=List.getElem_of_mem e;exact⟨k,d,by simpa [List.getD,d] using h⟩
 rintro⟨k,d,h⟩;exact⟨hs[k],List.getElem_mem d,by simpa [List.getD,d] using h⟩
theorem fLn {hs:List Cont} {c:Int} {i:Nat} (hr:∀i j,i<j→j<hs.length→(hs.getD i default).id<(hs.getD j default).id) (h1:∀k,k<i→(hs.getD k default).id<c) (h2:∀k,i≤k→k<hs.length→c≤(hs.getD k default).id) :
  fP hs c=decide (i<hs.length∧(hs.getD i default).id=c):=by
 rw[Bool.eq_iff_iff,heldIn_mem,decide_eq_true_iff];constructor
 ·
  rintro⟨k,d,e⟩;by_cases a:k<i
  ·have:=h1 k a;omega
  by_cases b:k=i
  ·rw[←b];exact⟨d,e⟩
  have:=hr i k oM d;have:=h2 i (Nat.le_refl _) oM;omega
 rintro⟨a,b⟩;exact⟨i,a,b⟩
theorem fA9 {hs:List Cont} {c:Int} {k:Nat} (hk:k<hs.length):fP (hs.take (k+1)) c=(fP (hs.take k) c||decide ((hs.getD k default).id=c)):=by
 have e:hs.take (k+1)=hs.take k++[hs.getD k default]:=by rw[List.take_add_one];simp[List.getD,hk]
 unfold fP;rw[e,List.any_append];simp only[List.any_cons,List.any_nil,Bool.or_false];congr 1
theorem fHw {xs:List Mrk} {k:Nat} (hk:k<xs.length):kG (xs.take (k+1))=if (xs.getD k default).val=1 then kG (xs.take k)++[(xs.getD k default).con] else kG (xs.take k):=by
 have e:xs.take (k+1)=xs.take k++[xs.getD k default]:=by rw[List.take_add_one];simp[List.getD,hk]
 unfold kG;rw[e,List.filter_append,List.map_append];by_cases h:(xs.getD k default).val=1
 ·rw[if_pos h,List.filter_cons_of_pos (by simp only[beq_iff_eq];exact h)];rfl
 rw[if_neg h,List.filter_cons_of_neg (by simp only[beq_iff_eq];exact h)];simp
theorem fPw (xs:List Mrk):(kG xs).length≤xs.length:=by
 unfold kG;rw[List.length_map];exact List.length_filter_le _ _
theorem fLc {xs:List Mrk} (h:MrksOk xs) {c:Int}:c ∈ kG xs↔fK c xs=1:=by
 unfold kG;rw[List.mem_map];constructor
 ·
  rintro⟨m,q,rfl⟩;obtain⟨h1,h2⟩:=List.mem_filter.1 q;obtain⟨k,d,rfl⟩:=List.getElem_of_mem h1;have e:xs[k]=xs.getD k default:=by simp[List.getD,d]
  rw[e] at h2 ⊢;rw[fEb (i:=k) h.rise oM (fun j g=>h.rise j k g d) (fun j g n=>by
   by_cases e:k=j
   ·rw[e];exact Int.le_refl _
   have:=h.rise k j oM n;omega),if_pos ⟨d,rfl⟩]
  simpa using h2
 intro p;by_cases l:∃k,k<xs.length∧(xs.getD k default).con=c
 ·
  obtain⟨k,d,rfl⟩:=l;rw[fEb (i:=k) h.rise oM (fun j g=>h.rise j k g d) (fun j g n=>by
   by_cases e:k=j
   ·rw[e];exact Int.le_refl _
   have:=h.rise k j oM n;omega),if_pos ⟨d,rfl⟩] at p
  have e:xs[k]=xs.getD k default:=by simp[List.getD,d]
  exact⟨xs[k],List.mem_filter.2 ⟨List.getElem_mem d,by rw[e];simp only[beq_iff_eq];exact p⟩,by rw[e]⟩
 rw[fHx (fun k d he=>l ⟨k,d,he⟩)] at p;omega
theorem fRs {xs:List Mrk} (h:MrksOk xs):(kG xs).Pairwise (fun a b=>a<b):=by
 unfold kG;rw[List.pairwise_map];refine List.Pairwise.filter _ ?_;rw[List.pairwise_iff_getElem];intro i j g e d;have:=h.rise i j d e;simpa [List.getD,g,e] using this
theorem fFy:∀{l1 l2:List Int},l1.Nodup→(∀x ∈ l1,x ∈ l2)→l2.length=l1.length→l1.Perm l2
 | [],l2,_,_,hl=>by rw[List.length_nil] at hl;rw[List.eq_nil_of_length_eq_zero hl]
 | x::l1,l2,hn,hs,hl=>by
  obtain⟨hx,hn⟩:=List.nodup_cons.1 hn;have hm:=hs x (List.mem_cons_self ..);have hp:=List.perm_cons_erase hm;refine List.Perm.trans (List.Perm.cons x (fFy hn (fun y hy=>?_) ?_)) hp.symm
  ·
   have:y≠x:=fun e=>hx (e▸hy)
   exact(List.mem_erase_of_ne this).2 (hs y (List.mem_cons_of_mem _ hy))
  rw[List.length_erase_of_mem hm,hl];rfl
theorem fSt {l:List Int} (h:∀k,k<l.length→¬(l.getD k 0) ∈ l.take k):l.Nodup:=by
 unfold List.Nodup;rw[List.pairwise_iff_getElem];intro i j n d g e;refine h j d ?_;have m:l.getD j 0=l[j]:=by simp[List.getD,d]
 rw[m,←e];exact List.mem_take_iff_getElem.2 ⟨i,by omega,rfl⟩
theorem fTe {l:List Int} (h:l.Nodup) {k:Nat} (hk:k<l.length):¬(l.getD k 0) ∈ l.take k:=by
 intro d;obtain⟨i,j,e⟩:=List.mem_take_iff_getElem.1 d;unfold List.Nodup at h;rw[List.pairwise_iff_getElem] at h;have g:l.getD k 0=l[k]:=by simp[List.getD,hk]
 exact h i k oM hk oM (by rw[e,g])
theorem fRd {done:List Mrk} (h:MrksOk done) (appl:List Int):yI done appl=decide (appl.mergeSort (fun x y=>decide (x≤y))=kG done):=by
 unfold yI;rw[decide_eq_decide];have d:=fRs h;have m:(kG done).Pairwise (fun a b=>decide (a≤b)=true):=d.imp (fun h=>by simp;omega);constructor
 ·
  rintro⟨n,j⟩;have l:appl.Perm (kG done):=fFy (fSt fun k g=>(j k g).2) (fun x p=>by
   obtain⟨k,g,rfl⟩:=List.getElem_of_mem p;have:=(j k g).1;rw[fLc h];simpa [List.getD,g] using this) n
  refine List.Perm.eq_of_pairwise (le:=fun a b=>decide (a≤b)=true) (fun a b _ _ h1 h2=>?_) (List.pairwise_mergeSort (fun a b c h1 h2=>?_) (fun a b=>?_) _) m ((List.mergeSort_perm _ _).trans l)
  ·simp at h1 h2;omega
  ·simp at h1 h2 ⊢;omega
  simp;omega
 intro he;have l:appl.Perm (kG done):=by rw[←he];exact(List.mergeSort_perm _ _).symm
 have q:appl.Nodup:=l.nodup_iff.2 (d.imp (fun h e=>oM));refine⟨l.length_eq.symm,fun k j=>⟨?_,fTe q j⟩⟩;rw[←fLc h];exact l.mem_iff.1 (by simp[List.getD,j])
def fHm (idx:Int) (hs:List Cont) (ls:List Leg):Bool:=(onSh idx ls).any (fun l=>hs.any (fun o=>fZ o.legs l))
theorem touch_place {idx:Int} {a b:List Leg}:(onSh idx a).any (fun l=>fZ b l)=touch (onSh idx a) (onSh idx b):=by
 unfold touch;rw[Bool.eq_iff_iff,List.any_eq_true,List.any_eq_true];constructor
 ·rintro⟨l,d,h⟩;refine⟨l,d,?_⟩;unfold fZ at h;rw[List.any_eq_true] at h ⊢;obtain⟨o,e,h⟩:=h;simp only[uQ,Bool.and_eq_true,beq_iff_eq] at h;obtain⟨_,g⟩:=List.mem_filter.1 d;simp only[beq_iff_eq] at g;exact⟨o,List.mem_filter.2 ⟨e,by simp only[beq_iff_eq];omega⟩,by simp only[pX,Bool.and_eq_true,beq_iff_eq];omega⟩
 rintro⟨l,d,h⟩;refine⟨l,d,?_⟩;unfold fZ;rw[List.any_eq_true] at h ⊢;obtain⟨o,e,h⟩:=h;obtain⟨e,g⟩:=List.mem_filter.1 e;obtain⟨_,j⟩:=List.mem_filter.1 d;simp only[pX,Bool.and_eq_true,beq_iff_eq] at h g j;exact⟨o,e,by simp only[uQ,Bool.and_eq_true,beq_iff_eq];omega⟩
theorem fDi {idx:Int} {hs:List Cont} {ls:List Leg}:fHm idx hs ls=hs.any (fun o=>touch (onSh idx ls) (onSh idx o.legs)):=by
 unfold fHm;have e:∀o:Cont,touch (onSh idx ls) (onSh idx o.legs)=(onSh idx ls).any (fun l=>fZ o.legs l):=fun o=>touch_place.symm
 simp only[e];rw[Bool.eq_iff_iff];simp only[List.any_eq_true];constructor
 ·rintro⟨l,d,o,g,h⟩;exact⟨o,g,l,d,h⟩
 rintro⟨o,g,l,d,h⟩;exact⟨l,d,o,g,h⟩
theorem fK0 {idx:Int} {hs:List Cont} {ls:List Leg} {k:Nat} (hk:k≤hs.length):fHm idx (hs.take k) ls=(List.range k).any (fun j=>touch (onSh idx ls) (onSh idx (hs.getD j default).legs)):=by
 rw[fDi,Bool.eq_iff_iff];simp only[List.any_eq_true,List.mem_range];constructor
 ·
  rintro⟨o,d,h⟩;obtain⟨i,g,e⟩:=List.mem_take_iff_getElem.1 d;refine⟨i,by omega,?_⟩;have:hs.getD i default=o:=by rw[←e];simp[List.getD,show i<hs.length by omega]
  rw[this];exact h
 rintro⟨j,l,h⟩;refine⟨hs.getD j default,List.mem_take_iff_getElem.2 ⟨j,by omega,by simp[List.getD,show j<hs.length by omega]⟩,h⟩
end
section
variable [dQ Mrk] [iH Mrk] [dQ Leg] [iH Leg] [dQ Cont] [iH Cont]
def posM (c:Int):List Mrk→Nat
 | []=>0
 | m::r=>if m.con<c then posM c r+1 else 0
theorem fO1 {c:Int}:∀{xs:List Mrk} {i:Nat},i≤xs.length→(∀k,k<i→(xs.getD k default).con<c)→(i<xs.length→¬(xs.getD i default).con<c)→posM c xs=i
 | [],i,hi,_,_=>by simp at hi;simp[posM,hi]
 | x::xs,0,_,_,h2=>by
  have:=h2 (by simp);simp at this;simp[posM];omega
 | x::xs,i+1,hi,h1,h2=>by
  have h0:x.con<c:=by simpa using h1 0 oM
  have ih:=fO1 (c:=c) (xs:=xs) (i:=i) (by simpa using hi) (fun k hk=>by simpa using h1 (k+1) oM) (fun h=>by simpa using h2 (by simpa using h));simp[posM,h0,ih]
theorem fVp (c:Int):∀xs:List Mrk,posM c xs≤xs.length
 | []=>by simp[posM]
 | x::xs=>by
  have:=fVp c xs;unfold posM;split <;> simp <;> omega
def putM (xs:List Mrk) (m:Mrk):List Mrk:=xs.take (posM m.con xs)++[m]++xs.drop (posM m.con xs)
theorem fEh (xs:List Mrk) (m:Mrk):(putM xs m).length=xs.length+1:=by
 have:=fVp m.con xs;unfold putM;simp;omega
def posC (c:Int):List Cont→Nat
 | []=>0
 | m::r=>if m.id<c then posC c r+1 else 0
theorem fOz {c:Int}:∀{xs:List Cont} {i:Nat},i≤xs.length→(∀k,k<i→(xs.getD k default).id<c)→(i<xs.length→¬(xs.getD i default).id<c)→posC c xs=i
 | [],i,hi,_,_=>by simp at hi;simp[posC,hi]
 | x::xs,0,_,_,h2=>by
  have:=h2 (by simp);simp at this;simp[posC];omega
 | x::xs,i+1,hi,h1,h2=>by
  have h0:x.id<c:=by simpa using h1 0 oM
  have ih:=fOz (c:=c) (xs:=xs) (i:=i) (by simpa using hi) (fun k hk=>by simpa using h1 (k+1) oM) (fun h=>by simpa using h2 (by simpa using h));simp[posC,h0,ih]
theorem fO0 (c:Int):∀xs:List Cont,posC c xs≤xs.length
 | []=>by simp[posC]
 | x::xs=>by
  have:=fO0 c xs;unfold posC;split <;> simp <;> omega
def putC (xs:List Cont) (m:Cont):List Cont:=xs.take (posC m.id xs)++[m]++xs.drop (posC m.id xs)
theorem fQp (xs:List Cont) (m:Cont):(putC xs m).length=xs.length+1:=by
 have:=fO0 m.id xs;unfold putC;simp;omega
variable [dQ Rw] [iH Rw] [dQ Bal] [iH Bal] [dQ Ledg] [iH Ledg] [dQ LedgR] [iH LedgR] [dQ OutcR] [iH OutcR] [dQ Shd] [iH Shd] [dQ ShdR] [iH ShdR]
def errH (c:Int):ShdR:=⟨c,0,⟨0,[],[],[],[],[]⟩⟩
def kV (s:Shd) (c:Cont):Bool:=decide (fK c.id s.done=0∧yK s.bals (onSh s.idx c.legs)=0∧s.held.any (fun o=>touch (onSh s.idx c.legs) (onSh s.idx o.legs))=false)
def mX (s:Shd) (c:Cont):ShdR:=
 if fK c.id s.votes=0 then (if 100≤s.votes.length then errH 2 else if kV s c=true then ⟨0,1,⟨s.idx,s.bals,putM s.votes ⟨c.id,1⟩,putC s.held c,s.done,s.appl⟩⟩ else ⟨0,2,⟨s.idx,s.bals,putM s.votes ⟨c.id,2⟩,s.held,s.done,s.appl⟩⟩) else ⟨0,fK c.id s.votes,s⟩
def tH (s:Shd) (c:Cont):ShdR:=
 if shdF s=0 then (if fA c.id c.legs=0 then (if (onSh s.idx c.legs).length=0 then errH 4 else mX s c) else errH (fA c.id c.legs)) else errH (shdF s)
def kU (k:Int) (hs:List Cont):List Cont:=hs.filter (fun c=>!(c.id==k))
def vS (k:Int):List Cont→List Leg
 | []=>[]
 | c::r=>if c.id=k then c.legs else vS k r
def decS (s:Shd) (k o:Int):Shd:=
 if o=1 then ⟨s.idx,addB s.bals (onSh s.idx (vS k s.held)),s.votes,kU k s.held,putM s.done ⟨k,o⟩,s.appl++[k]⟩
 else ⟨s.idx,s.bals,s.votes,kU k s.held,putM s.done ⟨k,o⟩,s.appl⟩
def qQ (s:Shd) (k o:Int):ShdR:=
 if fK k s.done=0 then (if o=1∧fP s.held k=false then errH 1 else if 100≤s.done.length then errH 2 else ⟨0,0,decS s k o⟩)
 else if fK k s.done=o then ⟨0,0,s⟩ else errH 7
def kZ (s:Shd) (k o:Int):ShdR:=
 if shdF s=0 then (if (inB k 1 1000000000&&inB o 1 2)=true then qQ s k o else errH 3) else errH (shdF s)
end
section
variable [dQ Leg] [iH Leg] [dQ Mrk] [iH Mrk] [dQ Bal] [iH Bal]
theorem fBk {w:World} {v:Value} {xs:List Leg} (h:legsR.V w v xs):gP w v xs.length (gT xs):=by
 obtain⟨a,c,rfl,_,_,m⟩:=h;cases a with
 | none=>
  have h0:xs=[]:=by
   cases xs with
   | nil=>rfl
   | cons x r=>obtain⟨b,o,e,_⟩:=m 0 (by simp);cases e
  subst h0;exact .inl ⟨c,rfl,rfl,rfl⟩
 | some ad=>
  refine .inr ⟨ad,c,rfl,fun j x d=>?_⟩;have p:j<xs.length*4:=by
   have:=(List.getElem?_eq_some_iff.1 d).1;rw[xE] at this;exact this
  have n:j / 4<xs.length:=oM;obtain⟨b,o,e,q,s,y,z⟩:=m (j / 4) n;obtain⟨q0,q1,q2,A⟩:=fJs xs (j / 4) n;simp only[Option.some.injEq] at e;subst e;have k:(Addr.mk b o none).add j=⟨b,o+j,none⟩:=by
   by_cases h:j=0
   ·subst h;simp[Addr.add]
   simp[Addr.add,h]
  rw[k];have l:j % 4=0∨j % 4=1∨j % 4=2∨j % 4=3:=oM;rcases l with l|l|l|l
  ·have e:j=j / 4*4:=oM;have g:o+j=o+j / 4*4:=oM;rw[g,q];rw[e,q0] at d;exact d
  ·have e:j=j / 4*4+1:=oM;have g:o+j=o+j / 4*4+1:=oM;rw[g,s];rw[e,q1] at d;exact d
  ·have e:j=j / 4*4+2:=oM;have g:o+j=o+j / 4*4+2:=oM;rw[g,y];rw[e,q2] at d;exact d
  have e:j=j / 4*4+3:=oM;have g:o+j=o+j / 4*4+3:=oM;rw[g,z];rw[e,A] at d;exact d
theorem rM {w:World} {v:Value} {xs:List Mrk} (h:mrksR.V w v xs):gP w v xs.length (gM xs):=by
 obtain⟨a,c,rfl,_,_,m⟩:=h;cases a with
 | none=>
  have h0:xs=[]:=by
   cases xs with
   | nil=>rfl
   | cons x r=>obtain⟨b,o,e,_⟩:=m 0 (by simp);cases e
  subst h0;exact .inl ⟨c,rfl,rfl,rfl⟩
 | some ad=>
  refine .inr ⟨ad,c,rfl,fun j x d=>?_⟩;have p:j<xs.length*2:=by
   have:=(List.getElem?_eq_some_iff.1 d).1;rw[xG] at this;exact this
  have n:j / 2<xs.length:=oM;obtain⟨b,o,e,q,s⟩:=m (j / 2) n;obtain⟨q0,q1⟩:=fE8 xs (j / 2) n;simp only[Option.some.injEq] at e;subst e;have g:(Addr.mk b o none).add j=⟨b,o+j,none⟩:=by
   by_cases h:j=0
   ·subst h;simp[Addr.add]
   simp[Addr.add,h]
  rw[g];have k:j % 2=0∨j % 2=1:=oM;rcases k with k|k
  ·have e:j=j / 2*2:=oM;have l:o+j=o+j / 2*2:=oM;rw[l,q];rw[e,q0] at d;exact d
  have e:j=j / 2*2+1:=oM;have l:o+j=o+j / 2*2+1:=oM;rw[l,s];rw[e,q1] at d;exact d
theorem yY (xs:List Int):(kT xs).length=xs.length:=by simp[kT]
theorem fEn {w:World} {v:Value} {xs:List Int} (h:xN w v xs):gP w v xs.length (kT xs):=by
 obtain⟨a,c,rfl,_,_,l⟩:=h;cases a with
 | none=>
  have h0:xs=[]:=by
   cases xs with
   | nil=>rfl
   | cons x r=>obtain⟨b,o,e,_⟩:=l 0 (by simp);cases e
  subst h0;exact .inl ⟨c,rfl,rfl,rfl⟩
 | some ad=>
  refine .inr ⟨ad,c,rfl,fun j x g=>?_⟩;have k:j<xs.length:=by
   have:=(List.getElem?_eq_some_iff.1 g).1;rw[yY] at this;exact this
  obtain⟨b,o,e,m⟩:=l j k;simp only[Option.some.injEq] at e;subst e;have d:(Addr.mk b o none).add j=⟨b,o+j,none⟩:=by
   by_cases h:j=0
   ·subst h;simp[Addr.add]
   simp[Addr.add,h]
  rw[d,m];simp[kT,k] at g;simp[List.getD,k,g]
theorem fIj (xs:List Leg):∀u ∈ gT xs,u.oneCell'=true:=by
 intro u d;simp only[gT,List.mem_flatMap] at d;obtain⟨b,_,hb⟩:=d;simp[legC] at hb;rcases hb with rfl|rfl|rfl|rfl <;> rfl
theorem fIh (xs ys:List Leg):gT (xs++ys)=gT xs++gT ys:=by simp[gT]
theorem fIq (xs:List Mrk):∀u ∈ gM xs,u.oneCell'=true:=by
 intro u d;simp only[gM,List.mem_flatMap] at d;obtain⟨b,_,hb⟩:=d;simp[mrkC] at hb;rcases hb with rfl|rfl <;> rfl
theorem fIp (xs ys:List Mrk):gM (xs++ys)=gM xs++gM ys:=by simp[gM]
theorem fCq (xs:List Bal):∀u ∈ mD xs,u.oneCell'=true:=by
 intro u d;simp only[mD,List.mem_flatMap] at d;obtain⟨b,_,hb⟩:=d;simp[balC] at hb;rcases hb with rfl|rfl|rfl <;> rfl
theorem fCp (xs ys:List Bal):mD (xs++ys)=mD xs++mD ys:=by simp[mD]
theorem fH2 (xs:List Int):∀u ∈ kT xs,u.oneCell'=true:=by
 intro u d;simp only[kT,List.mem_map] at d;obtain⟨b,_,rfl⟩:=d;rfl
theorem fAm (xs ys:List Int):kT (xs++ys)=kT xs++kT ys:=by simp[kT]
theorem fPa (w:World) {ops:Array Oper} {o:Oper} {a:Act} {K:Act→World→Prop} {Q:Exit→Act→World→Prop} {E:Prop} (hgd:o.guard=none) (s x:Operand)
  (ho:o.op =.call {callee:=.builtin .append,args:=#[s,x],argTypes:=#[55,55]})
  (base:Nat) (v:Value) (xs:List Leg) (hs:a.eval s=v) (u:Value) (ys:List Leg) (hx:a.eval x=u)
  (hown:w.ownsRow base 168 4 v xs.length (gT xs)) (hsrc:gP w u ys.length (gT ys)) (hlen:xs.length+ys.length≤1073741824) (hbase:base≤w.heap.size)
  (h:∀v' w',w'.ownsRow base 168 4 v' (xs++ys).length (gT (xs++ys))→w.grownBy w' v.ownBlock→(∀W:World,Below base W w→Below base W w')→K (a.put o.dst v') w') :
  if Region.wanted o (yielded ops a.tmps)=true then Oper.wp Tryz.prog o a w K Q else E:=by
 obtain⟨j,k,d,e,g⟩:=info_parts fC3;refine uD w hgd s x 55 ho base 168 j _ 4 32 Tryz.underlying55 k d e g rfl (by decide) v xs.length (gT xs) hs u ys.length (gT ys) hx hown hsrc (by rw[xE]) (fIj ys) (by unfold maxLen;omega) oM hbase ?_;intro v' w' h1 h2 l;refine h v' w' ?_ h2 l;rw[List.length_append,fIh];exact h1
theorem fKw (w:World) {ops:Array Oper} {rest:List Oper} {o:Oper} {a:Act} {Q:Exit→Act→World→Prop} (hgd:o.guard=none) (s x:Operand)
  (ho:o.op =.call {callee:=.builtin .append,args:=#[s,x],argTypes:=#[55,55]})
  (base:Nat) (v:Value) (xs:List Leg) (hs:a.eval s=v) (u:Value) (ys:List Leg) (hx:a.eval x=u)
  (hown:w.ownsRow base 168 4 v xs.length (gT xs)) (hsrc:gP w u ys.length (gT ys)) (hlen:xs.length+ys.length≤1073741824) (hbase:base≤w.heap.size)
  (h:∀v' w',w'.ownsRow base 168 4 v' (xs++ys).length (gT (xs++ys))→w.grownBy w' v.ownBlock→(∀W:World,Below base W w→Below base W w')→wpList Tryz.prog ops Q rest (a.put o.dst v') w') :
  wpList Tryz.prog ops Q (o::rest) a w:=by
 obtain⟨j,k,d,e,g⟩:=info_parts fC3;refine vH w hgd s x 55 ho base 168 j _ 4 32 Tryz.underlying55 k d e g rfl (by decide) v xs.length (gT xs) hs u ys.length (gT ys) hx hown hsrc (by rw[xE]) (fIj ys) (by unfold maxLen;omega) oM hbase ?_;intro v' w' h1 h2 l;refine h v' w' ?_ h2 l;rw[List.length_append,fIh];exact h1
theorem fGg (w:World) {ops:Array Oper} {o:Oper} {a:Act} {K:Act→World→Prop} {Q:Exit→Act→World→Prop} {E:Prop} (hgd:o.guard=none) (s x:Operand)
  (ho:o.op =.call {callee:=.builtin .append,args:=#[s,x],argTypes:=#[37,37]})
  (base:Nat) (v:Value) (xs:List Mrk) (hs:a.eval s=v) (u:Value) (ys:List Mrk) (hx:a.eval x=u)
  (hown:w.ownsRow base 166 2 v xs.length (gM xs)) (hsrc:gP w u ys.length (gM ys)) (hlen:xs.length+ys.length≤1073741824) (hbase:base≤w.heap.size)
  (h:∀v' w',w'.ownsRow base 166 2 v' (xs++ys).length (gM (xs++ys))→w.grownBy w' v.ownBlock→(∀W:World,Below base W w→Below base W w')→K (a.put o.dst v') w') :
  if Region.wanted o (yielded ops a.tmps)=true then Oper.wp Tryz.prog o a w K Q else E:=by
 obtain⟨j,k,d,e,g⟩:=info_parts fC4;refine uD w hgd s x 37 ho base 166 j _ 2 16 Tryz.underlying37 k d e g rfl (by decide) v xs.length (gM xs) hs u ys.length (gM ys) hx hown hsrc (by rw[xG]) (fIq ys) (by unfold maxLen;omega) oM hbase ?_;intro v' w' h1 h2 l;refine h v' w' ?_ h2 l;rw[List.length_append,fIp];exact h1
theorem fGf (w:World) {ops:Array Oper} {o:Oper} {a:Act} {K:Act→World→Prop} {Q:Exit→Act→World→Prop} {E:Prop} (hgd:o.guard=none) (s x:Operand)
  (ho:o.op =.call {callee:=.builtin .append,args:=#[s,x],argTypes:=#[30,30]})
  (base:Nat) (v:Value) (xs:List Bal) (hs:a.eval s=v) (u:Value) (ys:List Bal) (hx:a.eval x=u)
  (hown:w.ownsRow base 103 3 v xs.length (mD xs)) (hsrc:gP w u ys.length (mD ys)) (hlen:xs.length+ys.length≤1073741824) (hbase:base≤w.heap.size)
  (h:∀v' w',w'.ownsRow base 103 3 v' (xs++ys).length (mD (xs++ys))→w.grownBy w' v.ownBlock→(∀W:World,Below base W w→Below base W w')→K (a.put o.dst v') w') :
  if Region.wanted o (yielded ops a.tmps)=true then Oper.wp Tryz.prog o a w K Q else E:=by
 obtain⟨j,k,d,e,g⟩:=info_parts fBc;refine uD w hgd s x 30 ho base 103 j _ 3 24 Tryz.underlying30 k d e g rfl (by decide) v xs.length (mD xs) hs u ys.length (mD ys) hx hown hsrc (by rw[rD]) (fCq ys) (by unfold maxLen;omega) oM hbase ?_;intro v' w' h1 h2 l;refine h v' w' ?_ h2 l;rw[List.length_append,fCp];exact h1
theorem fKv (w:World) {ops:Array Oper} {rest:List Oper} {o:Oper} {a:Act} {Q:Exit→Act→World→Prop} (hgd:o.guard=none) (s x:Operand)
  (ho:o.op =.call {callee:=.builtin .append,args:=#[s,x],argTypes:=#[30,30]})
  (base:Nat) (v:Value) (xs:List Bal) (hs:a.eval s=v) (u:Value) (ys:List Bal) (hx:a.eval x=u)
  (hown:w.ownsRow base 103 3 v xs.length (mD xs)) (hsrc:gP w u ys.length (mD ys)) (hlen:xs.length+ys.length≤1073741824) (hbase:base≤w.heap.size)
  (h:∀v' w',w'.ownsRow base 103 3 v' (xs++ys).length (mD (xs++ys))→w.grownBy w' v.ownBlock→(∀W:World,Below base W w→Below base W w')→wpList Tryz.prog ops Q rest (a.put o.dst v') w') :
  wpList Tryz.prog ops Q (o::rest) a w:=by
 obtain⟨j,k,d,e,g⟩:=info_parts fBc;refine vH w hgd s x 30 ho base 103 j _ 3 24 Tryz.underlying30 k d e g rfl (by decide) v xs.length (mD xs) hs u ys.length (mD ys) hx hown hsrc (by rw[rD]) (fCq ys) (by unfold maxLen;omega) oM hbase ?_;intro v' w' h1 h2 l;refine h v' w' ?_ h2 l;rw[List.length_append,fCp];exact h1
theorem fO9 (w:World) {ops:Array Oper} {o:Oper} {a:Act} {K:Act→World→Prop} {Q:Exit→Act→World→Prop} {E:Prop} (hgd:o.guard=none) (s x:Operand)
  (ho:o.op =.call {callee:=.builtin .append,args:=#[s,x],argTypes:=#[39,39]})
  (base:Nat) (v:Value) (xs:List Int) (hs:a.eval s=v) (u:Value) (ys:List Int) (hx:a.eval x=u)
  (hown:w.ownsRow base 2 1 v xs.length (kT xs)) (hsrc:gP w u ys.length (kT ys)) (hlen:xs.length+ys.length≤1073741824) (hbase:base≤w.heap.size)
  (h:∀v' w',w'.ownsRow base 2 1 v' (xs++ys).length (kT (xs++ys))→w.grownBy w' v.ownBlock→(∀W:World,Below base W w→Below base W w')→K (a.put o.dst v') w') :
  if Region.wanted o (yielded ops a.tmps)=true then Oper.wp Tryz.prog o a w K Q else E:=by
 obtain⟨j,k,d,e,g⟩:=info_parts fC2;refine uD w hgd s x 39 ho base 2 j _ 1 8 Tryz.underlying39 k d e g rfl (by decide) v xs.length (kT xs) hs u ys.length (kT ys) hx hown hsrc (by rw[yY,Nat.mul_one]) (fH2 ys) (by unfold maxLen;omega) oM hbase ?_;intro v' w' h1 h2 l;refine h v' w' ?_ h2 l;rw[List.length_append,fAm];exact h1
variable [dQ Cont] [iH Cont]
theorem fEw (x:Value) (d:Cont) (w:World) (hx:contR.V w x d) (hn:d.legs.length≤1048576) :
  cL 114 #[x] w fun e w'=>∃v F,e =.returned v∧contR.O w' w.heap.size F v d∧aa w w':=by
 obtain⟨u1,rfl,hx⟩:=hx;obtain⟨n,q,rfl⟩:=kK hx;have l:gP ((w.alloc (.cells #[iV d.id,.slice n d.legs.length q] 57)).alloc (.cells #[iV 0,aj] 57)) (.slice n d.legs.length q) d.legs.length (gT d.legs):=fBk (legsR.below hx hE);have m:=World.ownsRow_nil ((w.alloc (.cells #[iV d.id,.slice n d.legs.length q] 57)).alloc (.cells #[iV 0,aj] 57)) (w.heap.size+2) 168 4;clear hx;go_enter Tryz.func114,Tryz.ntmps114;go_wp2_with (at_builtin;refine fKw _ rfl _ _ rfl (w.heap.size+2) _ [] rfl _ d.legs rfl m l ?c1 ?c2 ?_)
 case c1=>simp;omega
 case c2=>simp
 intro v' j r B k;clear l m B;have g:=k _ (bR _ _);have C:aa w j:=Below.trans hE (g.mono oM);clear k;have D:j.cell? ⟨w.heap.size,0,none⟩=some (iV d.id):=(g.cell (p:=⟨w.heap.size,0,none⟩) (by simp)).trans sG;have E:j.cell? ⟨w.heap.size,1,none⟩=some (.slice n d.legs.length q):=(g.cell (p:=⟨w.heap.size,1,none⟩) (by simp)).trans sG;have G:aq j w.heap.size:=fun o=>(g.frozen (p:=⟨w.heap.size,o,none⟩) (by simp)).trans sG
 have q0:j.cell? ⟨w.heap.size+1,0,none⟩=some (iV 0):=(g.cell (p:=⟨w.heap.size+1,0,none⟩) (by simp)).trans sG;have q1:j.cell? ⟨w.heap.size+1,1,none⟩=some aj:=(g.cell (p:=⟨w.heap.size+1,1,none⟩) (by simp)).trans sG;have H:aq j (w.heap.size+1):=fun o=>(g.frozen (p:=⟨w.heap.size+1,o,none⟩) (by simp)).trans sG
 have I:=g.size;try simp at I
 clear g;try simp only[List.nil_append] at r
 obtain⟨s,y,rfl⟩:=fD r;have z:∃F,legsR.O j (w.heap.size+2) F (.slice s d.legs.length y) d.legs:=⟨_,r,rfl⟩
 obtain⟨A,z⟩:=z;clear r;go_wp2;refine bodyPost_ret (v:=.agg #[iV d.id,.slice s d.legs.length y]) ?_ rfl ⟨_,fun b=>A b,rfl,⟨_,A,rfl,legsR.base (base:=w.heap.size+2) (by(repeat (first|refine Rep.set _ ?_ _ (by simp;omega)|refine Rep.set _ ?_ _ (by simp)|refine Rep.alloc _ ?_ _|assumption))) oM,fun b=>Iff.rfl⟩,qS⟩;simp[results,Tryz.results114,go_sem,D,E,q0,q1,G,H]
theorem yV (x:Value) (d:Cont) (w:World) (hx:contR.V w x d) (hn:d.legs.length≤1048576) :
  cL 155 #[x] w fun e w'=>∃v F,e =.returned v∧contR.O w' w.heap.size F v d∧aa w w':=by
 obtain⟨u1,rfl,hx⟩:=hx;have E:Hid (bW w fun W=>gP W u1 d.legs.length (gT d.legs)):=fun W G=>fBk (legsR.below hx G)
 obtain⟨y,z,rfl⟩:=kK hx;clear hx;go_enter Tryz.func155,Tryz.ntmps155;go_wp2;obtain⟨j,g⟩:∃j,j=(w.alloc (.cells #[iV d.id,.slice y d.legs.length z] 57)).alloc (.cells #[iV 0,aj] 57):=⟨_,rfl⟩
 have A:cI j w.heap.size 0 d.id:=cQ g;have B:ah j w.heap.size 1 y d.legs.length z:=cQ g;have q0:cI j (w.heap.size+1) 0 0:=cQ g;have q1:cN j (w.heap.size+1) 1:=cQ g;have C:aq j (w.heap.size+1):=fun o=>by rw[g];simp[go_sem]
 have n:aa w j:=by rw[g];exact hE
 have H:w.heap.size+1<j.heap.size:=by rw[g];simp
 rw[←g];clear g;refine wp_region_noPanic ?_;refine fB (fun W=>aa j W∧cI W w.heap.size 0 d.id∧ah W w.heap.size 1 y d.legs.length z) 7 kF ⟨hE,cK hE A,cK hE B⟩ (fun hS=>?_);refine tY 0 ?_;refine tY 1 ?_;refine tY 3 ?_;refine tY 4 ?_;refine uS 2 rfl (fun K k=>?_);go_simp;refine k _ _ (fun _=>⟨hE,cK hE A,cK hE B⟩) ?_;clear k K;try simp only[jX]
 refine uS 5 rfl (fun K k=>?_);refine fPa _ rfl _ _ rfl j.heap.size _ [] rfl _ d.legs rfl ?o1 ?s1 ?c1 ?c2 ?_
 case o1=>exact World.ownsRow_lit (base:=j.heap.size) (e:=168) (size:=4) j.drew #[] 0 (by simp) (by decide) rfl
 case s1=>exact E.out _ (bS n hE)
 case c1=>simp;omega
 case c2=>simp
 intro J D q _ l;try simp only[List.nil_append] at q
 obtain⟨r,s,rfl⟩:=fD q;have m:aa j D:=l j hE;have p:=And.intro m (And.intro (cK m A) (cK m B));refine k _ _ (fun _=>p) ?_;clear k K l;replace q0:=cK m q0;replace q1:=cK m q1;replace C:=ai m H C;have I:Hid (legsR.O D j.heap.size (fun b=>(Value.slice r d.legs.length s).ownBlock=some b) (.slice r d.legs.length s) d.legs):=⟨q,rfl⟩;clear q;have l:aa w D:=bS n m;try simp only[jX]
 refine tY 6 ?_;refine uS 7 rfl (fun K k=>?_);go_simp;refine k _ _ (fun h=>absurd rfl h) ?_;clear k K;refine dP ?_;clear hS p;go_wp2;refine bodyPost_ret (v:=.agg #[iV d.id,.slice r d.legs.length s]) (by simp[results,Tryz.results155,go_sem,q0,q1,C]) rfl ⟨_,fun b=>(Value.slice r d.legs.length s).ownBlock=some b,rfl,?_,qS⟩;exact⟨_,_,rfl,legsR.base (base:=j.heap.size) (legsR.set (legsR.set I.out _ (by dsimp only;omega)) _ (by dsimp only;omega)) oM,fun _=>Iff.rfl⟩
end
end Go.Proofs.YtpibfdebfacooaaGreat

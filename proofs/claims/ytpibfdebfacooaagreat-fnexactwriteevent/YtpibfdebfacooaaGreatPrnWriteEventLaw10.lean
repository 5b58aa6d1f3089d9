import Derived.Test.YtpibfdebfacooaaGreatPrnWriteEventLaw9
import Derived.RangeFuncNested
import Derived.RangeFuncBound
import Derived.RangeFuncCalls
import Derived.RangeFuncLeaves
import Derived.Shelf.Abstract
import Derived.OwnWalkIn
import Derived.TacticsInMore
import Derived.LoopNIn
import Derived.LoopIn
import Derived.Maps.OwnIn
set_option maxHeartbeats 4000000
set_option maxRecDepth 100000
set_option linter.all false
namespace Go.Proofs.YtpibfdebfacooaaGreat
open Go.RowKit
attribute [local go_sem ↓] Go.wp_at_zero Go.wp_at_succ
attribute [local go_sem] iV aj an
section
section
variable {P : Program} {ops : Array Oper} {Q : Exit → Act → World → Prop} {md : Region.Mode} {S : World → Prop} {t : Nat}
theorem fBh {i:Nat} {oi:Oper} {v:Value} (hi:ops[i]? = some oi) (hsel:Region.noSelect ops=true) (ht:ops[t]? = none)
  (hQ:∀c a w,Q (.panic c) (a.put oi.dst v) w→Q (.panic c) a w) :
  ∀(f:Nat) (listed:Array Bool) (a:Act) (w:World),
   (∀j oj,ops[j]? = some oj→j≠i→listed.getD j true=false→(∀e ∈ oj.after,Region.binds md e=true→e.on≠i)→oi.apart ops oj=true) →
   i ∈ Region.ready md ops listed→YieldsIf P ops S oi v a→S w →
   gQ P md ops Q S t f (listed.setIfInBounds i true) (a.put oi.dst v) w→gQ P md ops Q S t (f+1) listed a w:=by
 intro f;induction f with
 | zero=>
  intro listed a w _ p hy hS H;refine⟨fun h=>(by rw[h] at p;cases p),fun j y=>?_⟩;by_cases d:j=i
  ·subst d;exact hy.wpOp hi hS ⟨fun _=>hS,H⟩
  have G:=ready_mono y d;rw[H.1] at G;cases G
 | succ f ih=>
  intro listed a w g p hy hS H;refine⟨fun h=>(by rw[h] at p;cases p),fun j y=>?_⟩;by_cases d:j=i
  ·subst d;exact hy.wpOp hi hS ⟨fun _=>hS,H⟩
  obtain⟨m,oj,l,q⟩:=mem_ready.1 y;have r:=(mem_ready.1 p).1;have A:¬listed.getD i false=true:=by
   intro h1;rcases Nat.lt_or_ge i listed.size with B|B
   ·simp[B] at r h1;rw[r] at h1;cases h1
   simp[Array.getElem?_eq_none B] at h1
  have s:∀e ∈ oj.after,Region.binds md e=true→e.on≠i:=fun e he hb C=>A (by rw[←C];exact q e he hb)
  have D:j≠t:=by
   rintro rfl;rw[ht] at l;cases l
  have h1:=H.2 j (ready_mono y d);have h2:=wpOp_putIf l (g j oj l d m s) (fun cs b=>Region.noSelect_spec hsel i oi cs b hi) (fun cs b=>Region.noSelect_spec hsel j oj cs b l) hQ hy h1;refine wpOp_mono (fun a' w' z=>⟨z.2.1,ih (listed.setIfInBounds j true) a' w' ?_ (ready_mono p (Ne.symm d)) z.1 (z.2.1 D) ?_⟩) h2
  ·
   intro k I J E n F;refine g k I J E ?_ F;by_cases x:j=k
   ·subst x;exact m
   rw[getD_set_ne true x] at n;exact n
  rw[Array.setIfInBounds_comm _ _ d];exact z.2.2
theorem mU {i:Nat} {oi:Oper} {v:Value} {f:Nat} {listed:Array Bool} {a:Act} {w:World} (hi:ops[i]? = some oi) (hsel:Region.noSelect ops=true) (ht:ops[t]? = none)
  (hf:Region.free md ops listed i=true) (hr:(Region.ready md ops listed).contains i=true) (hQ:∀c a w,Q (.panic c) (a.put oi.dst v) w→Q (.panic c) a w)
  (hwd:Region.wanted oi (yielded ops a.tmps)=true) (hS:S w) (hy:∀w,S w→(execOp a.eval oi).run P w =.ok (.value v) w)
  (h:gQ P md ops Q S t f (listed.setIfInBounds i true) (a.put oi.dst v) w):gQ P md ops Q S t (f+1) listed a w:=
 fBh hi hsel ht hQ f listed a w (Region.free_spec hi hf) (by simpa using hr) (Or.inl ⟨hwd,hy⟩) hS h
theorem tN {i:Nat} {oi:Oper} {v:Value} {f:Nat} {listed:Array Bool} {a:Act} {w:World} (hi:ops[i]? = some oi) (hb:(Region.noSelect ops&&(ops[t]?).isNone&&Region.free md ops listed i&&(Region.ready md ops listed).contains i)=true)
  (hS:S w) (hy:∀w,S w→(execOp a.eval oi).run P w =.ok (.value v) w)
  (h:gQ P md ops Q S t f (listed.setIfInBounds i true) (a.put oi.dst v) w) (hQ:∀c a w,Q (.panic c) (a.put oi.dst v) w→Q (.panic c) a w:=by exact fun _ _ _ h=>h) (hwd:Region.wanted oi (yielded ops a.tmps)=true:=by rfl):gQ P md ops Q S t (f+1) listed a w:=by
 simp only[Bool.and_eq_true] at hb;exact mU hi hb.1.1.1 (by simpa using hb.1.1.2) hb.1.2 hb.2 hQ hwd hS hy h
theorem tM (i:Nat) {oi:Oper} {v:Value} {f:Nat} {listed:Array Bool} {a:Act} {w:World} (hi:ops[i]? = some oi) (hS:S w) (h:gQ P md ops Q S t f (listed.setIfInBounds i true) (a.put oi.dst v) w) (hb:(Region.noSelect ops&&(ops[t]?).isNone&&Region.free md ops listed i&&(Region.ready md ops listed).contains i)=true:=by kernel_rfl) (hQ:∀c a w,Q (.panic c) (a.put oi.dst v) w→Q (.panic c) a w:=by exact fun _ _ _ h=>h) (hwd:Region.wanted oi (yielded ops a.tmps)=true:=by rfl) (hy:∀w,S w→(execOp a.eval oi).run P w =.ok (.value v) w:=by intro wS hSw;(try dsimp only at hSw);go_simp;try with_reducible rfl):gQ P md ops Q S t (f+1) listed a w:=by
 simp only[Bool.and_eq_true] at hb;exact mU hi hb.1.1.1 (by simpa using hb.1.1.2) hb.1.2 hb.2 hQ hwd hS hy h
theorem tX (i:Nat) {oi:Oper} {v:Value} {f:Nat} {listed:Array Bool} {a a':Act} {w:World} (h:gQ P md ops Q S t f (listed.setIfInBounds i true) a' w) (hi:ops[i]? = some oi:=by rfl) (hS:S w:=by assumption) (hb:(Region.noSelect ops&&(ops[t]?).isNone&&Region.free md ops listed i&&(Region.ready md ops listed).contains i)=true:=by kernel_rfl) (hQ:∀c a w,Q (.panic c) (a.put oi.dst v) w→Q (.panic c) a w:=by exact fun _ _ _ h=>h) (hwd:Region.wanted oi (yielded ops a.tmps)=true:=by rfl) (hy:∀w,S w→(execOp a.eval oi).run P w =.ok (.value v) w:=by intro wS hSw;(try dsimp only at hSw);go_simp;try with_reducible rfl) (ha:a.put oi.dst v=a':=by first|(simp only[jX];done)|(simp only[jX];rfl)|rfl):gQ P md ops Q S t (f+1) listed a w:=by
 subst ha;exact tM i hi hS h hb hQ hwd hy
theorem fTk {i:Nat} {oi:Oper} {f:Nat} {listed:Array Bool} {a:Act} {w:World} (hi:ops[i]? = some oi) (hsel:Region.noSelect ops=true) (ht:ops[t]? = none)
  (hf:Region.free md ops listed i=true) (hr:(Region.ready md ops listed).contains i=true) (hQ:∀c a w,Q (.panic c) (a.put oi.dst undef) w→Q (.panic c) a w)
  (hwd:Region.wanted oi (yielded ops a.tmps)=false) (hS:S w)
  (h:∀u:Value,gQ P md ops Q S t f (listed.setIfInBounds i true) (a.put oi.dst u) w):gQ P md ops Q S t (f+1) listed a w:=
 fBh hi hsel ht hQ f listed a w (Region.free_spec hi hf) (by simpa using hr) (Or.inr ⟨hwd,rfl⟩) hS (h undef)
theorem sN (i:Nat) {oi:Oper} {f:Nat} {listed:Array Bool} {a:Act} {w:World} (hi:ops[i]? = some oi) (hS:S w) (h:∀u:Value,gQ P md ops Q S t f (listed.setIfInBounds i true) (a.put oi.dst u) w) (hb:(Region.noSelect ops&&(ops[t]?).isNone&&Region.free md ops listed i&&(Region.ready md ops listed).contains i)=true:=by kernel_rfl) (hQ:∀c a w,Q (.panic c) (a.put oi.dst undef) w→Q (.panic c) a w:=by exact fun _ _ _ h=>h) (hwd:Region.wanted oi (yielded ops a.tmps)=false:=by rfl):gQ P md ops Q S t (f+1) listed a w:=by
 simp only[Bool.and_eq_true] at hb;exact fTk hi hb.1.1.1 (by simpa using hb.1.1.2) hb.1.2 hb.2 hQ hwd hS h
theorem sX (i:Nat) {oi:Oper} {f:Nat} {listed:Array Bool} {a:Act} {a':Value→Act} {w:World} (h:∀u:Value,gQ P md ops Q S t f (listed.setIfInBounds i true) (a' u) w) (hi:ops[i]? = some oi:=by rfl) (hS:S w:=by assumption) (hb:(Region.noSelect ops&&(ops[t]?).isNone&&Region.free md ops listed i&&(Region.ready md ops listed).contains i)=true:=by kernel_rfl) (hQ:∀c a w,Q (.panic c) (a.put oi.dst undef) w→Q (.panic c) a w:=by exact fun _ _ _ h=>h) (hwd:Region.wanted oi (yielded ops a.tmps)=false:=by rfl) (ha:∀u,a.put oi.dst u=a' u:=by intro u;first|(simp only[jX];done)|(simp only[jX];rfl)|rfl):gQ P md ops Q S t (f+1) listed a w:=sN i hi hS (fun u=>by rw[ha u];exact h u) hb hQ hwd
end
end
section
variable [dQ Bal] [iH Bal]
def balssR:Rep (List (List Bal)):=nRep balsR 30 1 one
theorem fUu:(Tryz.prog.info? 30).map (fun i=>(i.zero,i.size,i.bytes))=some (some aj,1,24):=kF
structure Ledg where
 shards:List (List Bal)
variable [dQ Ledg] [iH Ledg]
def ledgR:Rep Ledg where
 V:=fun w v x=>∃u1,v =.agg #[u1]∧balssR.V w u1 x.shards
 O:=fun w base F v x=>∃u1 F1,v =.agg #[u1]∧balssR.O w base F1 u1 x.shards∧(∀b,F b↔(F1 b))
 below:=fun h hb=>by
  obtain⟨u1,rfl,h1⟩:=h;exact⟨u1,rfl,balssR.below h1 hb⟩
 ofO:=fun h=>by
  obtain⟨u1,F1,rfl,h1,_⟩:=h;exact⟨u1,rfl,balssR.ofO h1⟩
 mod:=fun h hm hd=>by
  obtain⟨u1,F1,rfl,h1,hF⟩:=h;exact⟨u1,F1,rfl,balssR.mod h1 hm (fun b hb=>hd b ((hF b).2 hb)),hF⟩
 rng:=fun h b hb=>by
  obtain⟨u1,F1,rfl,h1,hF⟩:=h;rcases(hF b).1 hb with hb
  exact balssR.rng h1 b hb
 base:=fun h hb=>by
  obtain⟨u1,F1,rfl,h1,hF⟩:=h;exact⟨u1,F1,rfl,balssR.base h1 hb,hF⟩
end
section
variable [dQ Bal] [iH Bal] [dQ Ledg] [iH Ledg] [dQ Leg] [iH Leg]
theorem qY {n:Int} (h0 : -9223372036854775808≤n) (h1:n≤9223372036854775807):IntKind.i64.wrap n=n:=by
 rw[IntKind.wrap_i64];omega
theorem qX {B:Nat} {w Y:World} (h:Below B w Y) (n:Nat):Below B w (Y.drewN n):=h.trans ⟨rfl,rfl,rfl,Nat.le_refl _,fun _ _=>rfl⟩
def fI (f:Nat→Int):Nat→Int
 | 0=>0
 | n+1=>if fI f n=0 then f n else fI f n
theorem gU {f:Nat→Int} {k:Nat} (h:fI f k=0) (h':f k=0):fI f (k+1)=0:=by simp[fI,h,h']
theorem mV {f:Nat→Int} {k:Nat} (h:fI f k=0) (h':f k≠0):∀n,k<n→fI f n=f k
 | 0,hn=>oM
 | n+1,hn=>by
  by_cases e:k=n
  ·subst e;simp[fI,h]
  have:=mV h h' n oM;simp[fI,this,h']
theorem vK {f:Nat→Int}:∀{n:Nat},fI f n=0→∀k,k<n→f k=0
 | 0,_,k,hk=>oM
 | n+1,h,k,hk=>by
  unfold fI at h;split at h
  ·
   rename_i h1;by_cases e:k=n
   ·subst e;exact h
   exact vK h1 k oM
  exact absurd h (by assumption)
theorem fQt {f:Nat→Int}:∀{n:Nat},(∀k,k<n→f k=0)→fI f n=0
 | 0,_=>rfl
 | n+1,h=>gU (fQt (fun k hk=>h k oM)) (h n oM)
def rR (ac ast:Int):Bool:=inB ac 0 5&&inB ast 0 2
def vM (x:Bal):Bool:=rR x.ac x.ast&&inB x.am 1 1000000000000
def behind (b a:Bal):Bool:=if b.ac=a.ac then decide (a.ast<b.ast) else decide (a.ac<b.ac)
def zJ (xs:List Bal) (k:Nat):Int:=if vM (xs.getD k default) then (if 0<k∧behind (xs.getD k default) (xs.getD (k-1) default)=false then 1 else 0) else 3
def gZ (xs:List Bal):Int:=if 18<xs.length then 2 else fI (zJ xs) xs.length
def gAm (g:Ledg) (k:Nat):Int:=gZ (g.shards.getD k default)
def uH (g:Ledg):Int:=if g.shards.length<1∨3<g.shards.length then 2 else fI (gAm g) g.shards.length
theorem inBi {n lo hi:Int}:inB n lo hi=true↔lo≤n∧n≤hi:=by simp[inB]
theorem keyOk_iff {a s:Int}:rR a s=true↔(0≤a∧a≤5)∧(0≤s∧s≤2):=by simp[rR,inBi]
theorem balOk_iff {x:Bal}:vM x=true↔((0≤x.ac∧x.ac≤5)∧(0≤x.ast∧x.ast≤2))∧(1≤x.am∧x.am≤1000000000000):=by simp[vM,keyOk_iff,inBi]
theorem fHq {b a:Bal} (hb:rR b.ac b.ast=true) (ha:rR a.ac a.ast=true):behind b a=false↔b.ac*3+b.ast≤a.ac*3+a.ast:=by
 obtain⟨⟨_,_⟩,_,_⟩:=keyOk_iff.1 hb;obtain⟨⟨_,_⟩,_,_⟩:=keyOk_iff.1 ha;unfold behind;split <;> simp <;> omega
theorem zN {x:Bal} (h:vM x=true):rR x.ac x.ast=true:=by
 rw[vM,Bool.and_eq_true] at h;exact h.1
structure BalsOk (xs:List Bal):Prop where
 len:xs.length≤18
 ok:∀k,k<xs.length→vM (xs.getD k default)=true
 ord:∀k,k+1<xs.length→behind (xs.getD (k+1) default) (xs.getD k default)=true
theorem uK {xs:List Bal} (h:gZ xs=0):BalsOk xs:=by
 unfold gZ at h;split at h
 ·omega
 have e:=vK h;refine⟨oM,fun k d=>?_,fun k d=>?_⟩
 ·
  have:=e k d;unfold zJ at this;split at this
  ·assumption
  omega
 have:=e (k+1) d;unfold zJ at this;split at this
 ·
  split at this
  ·omega
  rename_i h1 h2;simp at h2;simpa using h2
 omega
theorem fEd {g:Ledg} (h:uH g=0):1≤g.shards.length∧g.shards.length≤3∧∀k,k<g.shards.length→BalsOk (g.shards.getD k default):=by
 unfold uH at h;split at h
 ·omega
 exact⟨oM,by omega,fun k d=>uK (vK h k d)⟩
def hasB (a s:Int):List Bal→Int
 | []=>0
 | x::r=>if x.ac=a∧x.ast=s then x.am else hasB a s r
theorem fXe (xs:List Bal) (k:Nat) (h:k<xs.length):xs.drop k=xs.getD k default::xs.drop (k+1):=by
 rw[List.drop_eq_getElem_cons h];simp[List.getD,h]
theorem fUn {a s:Int} {xs:List Bal} {k:Nat} (h:k<xs.length):hasB a s (xs.drop k)=if (xs.getD k default).ac=a∧(xs.getD k default).ast=s then (xs.getD k default).am else hasB a s (xs.drop (k+1)):=by
 rw[fXe xs k h];rfl
end
section
variable [dQ Rw] [iH Rw] [dQ Bal] [iH Bal] [dQ Ledg] [iH Ledg] [dQ Leg] [iH Leg]
def fA4 (x y:Nat→Int):Nat→Int
 | 0=>0
 | k+1=>if fA4 x y k=0 then cmpI (x k) (y k) else fA4 x y k
theorem fDe (W:World) (b1 b2:Nat) (x y:Nat→Int) (hx:∀i,i<3→W.cell? ⟨b1,i,none⟩=some (iV (x i))) (hy:∀i,i<3→W.cell? ⟨b2,i,none⟩=some (iV (y i))) :
  cL 244 #[.slice (some ⟨b1,0,none⟩) 3 3,.slice (some ⟨b2,0,none⟩) 3 3] W fun e w'=>e =.returned (iV (fA4 x y 3))∧w'=W:=by
 have A:Hid (∀i,i<3→W.cell? ⟨b1,i,none⟩=some (iV (x i))):=hx;have B:Hid (∀i,i<3→W.cell? ⟨b2,i,none⟩=some (iV (y i))):=hy;clear hx hy;go_enter Tryz.func244,Tryz.ntmps244;go_wp2;go_loopw [11] (fun i w'=>∃k:Nat,k≤3∧i =.int .i64 k∧Hid (fA4 x y k=0)∧w'=W) (fun i _=>3-(intOf i).toNat)
 case atStart=>exact⟨0,by omega,rfl,rfl,rfl⟩
 obtain⟨k,H,rfl,HC,rfl⟩:=hrel;by_cases l:k<3
 ·
  have C:(k:Int)<3:=oM;have D:(0:Int)≤k:=oM;have E:¬((3:Int)≤k):=oM;have F:IntKind.i64.wrap ((k:Int)+1)=(k:Int)+1:=qY oM oM;have I:=A.out k l;have J:=B.out k l;have z:Hid (fA4 x y (k+1)=cmpI (x k) (y k)):=by unfold Hid;rw[fA4,if_pos HC.out]
  generalize x k=g at *;generalize y k=j at *;by_cases n:cmpI g j=0
  ·
   have p:Hid (fA4 x y (k+1)=0):=by rw[Hid,z.out];exact n
   go_wp2_with fail;refine(fAv g j _).mono ?_;rintro e w' ⟨rfl,q⟩;obtain rfl:=q.symm;rw[n];go_wp2;exact⟨⟨k+1,by omega,by go_num,p,by trivial⟩,mI⟩
  have G:Hid (fA4 x y 3=cmpI g j):=by
   have s:∀d,k+1+d≤3→fA4 x y (k+1+d)=cmpI g j:=by
    intro d;induction d with
    | zero=>intro _;exact z.out
    | succ d ih=>
     intro h;have:=ih oM;rw[show k+1+(d+1)=(k+1+d)+1 by omega,fA4,if_neg (by rw[this];exact n),this]
   have:=s (2-k) oM;rw[show k+1+(2-k)=3 by omega] at this;exact this
  go_wp2_with fail;refine(fAv g j _).mono ?_;rintro e w' ⟨rfl,q⟩;obtain rfl:=q.symm;generalize cmpI g j=r at *;go_wp2;go_ret;exact⟨by rw[G.out];rfl,by trivial⟩
 have m:k=3:=oM;subst m;go_wp2;go_ret;exact⟨rH,by trivial⟩
def k3 (s a t:Int) (i:Nat):Int:=if i=0 then s else if i=1 then a else t
theorem fEu (s a t s' a' t':Int) (W:World) :
  cL 229 #[kv s a t,kv s' a' t'] W fun e w'=>e =.returned (iV (fA4 (k3 s a t) (k3 s' a' t') 3))∧w'=((W.alloc (.cells #[iV s,iV a,iV t] 254)).alloc (.cells #[iV s',iV a',iV t'] 254)).drew:=by
 unfold kv;go_enter Tryz.func229,Tryz.ntmps229;go_wp2;refine wp_region_noPanic ?_;refine fB (fun l=>l=((W.alloc (.cells #[iV s,iV a,iV t] 254)).alloc (.cells #[iV s',iV a',iV t'] 254)).drew) 4 kF rfl (fun hS=>?_);refine tX 0 ?_;refine tX 1 ?_;refine uS 2 rfl (fun K d=>?_);go_simp;refine(fDe _ W.heap.size (W.heap.size+1) (k3 s a t) (k3 s' a' t') ?_ ?_).mono ?_
 ·
  intro i g;match i,g with
  | 0,_=>simp[go_sem,k3]
  | 1,_=>simp[go_sem,k3]
  | 2,_=>simp[go_sem,k3]
 ·
  intro i g;match i,g with
  | 0,_=>simp[go_sem,k3]
  | 1,_=>simp[go_sem,k3]
  | 2,_=>simp[go_sem,k3]
 rintro e w' ⟨rfl,j⟩;refine d _ _ (fun _=>j) ?_;clear d K;obtain⟨r,k⟩:∃r,fA4 (k3 s a t) (k3 s' a' t') 3=r:=⟨_,rfl⟩
 have m:Hid (fA4 (k3 s a t) (k3 s' a' t') 3=r):=k;rw[k];clear k;try simp only[jX]
 refine uS 3 rfl (fun K d=>?_);go_simp;refine d _ _ (fun _=>by first|rfl|exact j) ?_;clear d K;refine dP ?_;go_wp2;go_ret;exact⟨by rw[m.out];rfl,by first|rfl|exact j⟩
end
section
def Stb {β:Type} (J:β→World→(Nat→Prop)→Prop):Prop:=
 ∀s W W' X X',J s W X→Mod X W W'→(∀b,X b→X' b)→(∀b,X' b→(X b∨W.heap.size≤b)∧b<W'.heap.size)→J s W' X'
abbrev Kp (R X:Nat→Prop) (W W':World):Prop:=Mod (fun k=>¬(R k∨X k)) W W'
def gBe {α:Type} (R X:Nat→Prop) (I:List α→World→(Nat→Prop)→Prop) (Ix:Code→List α→World→(Nat→Prop)→Prop) (ys:List α) (W:World):Exit→Act→World→Prop
 | .normal,_,W'=>Kp R X W W'∧I ys W' X
 | .ret,_,W'=>Kp R X W W'∧Ix .ret ys W' X
 | .exit id,_,W'=>Kp R X W W'∧Ix (.exit id) ys W' X
 | .goto t,_,W'=>Kp R X W W'∧Ix (.goto t) ys W' X
 | .panic _,_,_=>False
 | .outgrown,_,_=>False
theorem fFu (W:World) (l:Nat) (o:Obj):Mod (fun b=>b=l) W (W.putObj l o):=
 ⟨rfl,rfl,rfl,by simp[World.putObj],fun _ _ d=>World.putObj_heap_other d⟩
theorem vT (F:Nat→Prop) (W:World) (o:Obj):Mod F W (W.alloc o):=(Mod.refl F W).alloc o
def Seqy {α:Type} (P:Program) (g:Nat) (lb:Array Value) (enc:α→Value) (Ok Dn:List α→Prop) (R:Nat→Prop) (w:World):Prop:=
 ∀(l:Nat) (J Jx:List α→World→(Nat→Prop)→Prop) (W:World) (X:Nat→Prop),Mod (fun k=>¬R k) w W→(∀b,X b→b<W.heap.size)→Stb J→Stb Jx →
  (∀pre x W1 X1,J pre W1 X1→(∀b,X b→X1 b)→(∀b,X1 b→b<W1.heap.size)→Ok (pre++[x])→YieldAt Fence.wide 0 P l #[enc x] W1 fun e W'=>
   (e =.returned (.bool true)∧J (pre++[x]) W' X1∧Kp R X1 W1 W')∨(e =.returned (.bool false)∧Jx (pre++[x]) W' X1∧Kp R X1 W1 W')) →
  J [] W X →
  CallsIn Fence.wide 0 P g (#[.func (.yield l) #[] #[]]++lb) W fun e W'=>(∃v,e =.returned v)∧∃X',(∀b,X b→X' b)∧((∃ys,Dn ys∧J ys W' X')∨∃pre,Ok pre∧Jx pre W' X')
theorem fM8 {α:Type} {P:Program} {g:Operand} {p:Tmp} {assign body:Code} {Q:Exit→Act→World→Prop} {a:Act} {w:World}
  {gf:Nat} {lb:Array Value} (hg:a.eval g =.func (.func gf) #[] lb) (eg:∀args w,(callFunc gf args).run P w =.ok (.enter gf args) w)
  {enc:α→Value} {Ok Dn:List α→Prop} {R:Nat→Prop} (hseq:Seqy P gf lb enc Ok Dn R w) (hR:∀b,R b→b<w.heap.size)
  (I:List α→World→(Nat→Prop)→Prop) (Ix:Code→List α→World→(Nat→Prop)→Prop) (hI:Stb I) (hIx:∀c,Stb (Ix c)) (X0:Nat→Prop) (hX0:∀b,X0 b→b<w.heap.size) (h0:I [] w X0)
  (Ax:α→Act→World→(Nat→Prop)→Prop) (hAx:∀x a',Stb (fun (_:Unit)=>Ax x a'))
  (hassign:∀(l:Nat) (pre:List α) (x:α) (W:World) (X:Nat→Prop) (K:Act→World→Prop),I pre W X→X l→(∀b,X b→b<W.heap.size)→(∀a' W',Mod (fun _=>False) W W'→Ax x a' W' X→K a' W') →
   assign.wpIn (Fence.wide.inRound l) 0 P (Exit.then K (fun _ _ _=>False)) {tmps:=(#[p].zip #[enc x]).foldl (fun t (p,v)=>t.setIfInBounds p v) a.tmps,defers:=[]} W)
  (hbody:∀(l:Nat) (pre:List α) (x:α) (a':Act) (W:World) (X:Nat→Prop),X l→(∀b,X b→b<W.heap.size)→I pre W X→Ax x a' W X→Ok (pre++[x])→body.wpIn (Fence.wide.inRound l) 0 P (gBe R X I Ix (pre++[x]) W) a' W)
  (hdone:∀(D:Nat) (W:World) (X:Nat→Prop),w.heap.size≤D→X D→∀ys,Dn ys→I ys W X→W.heap[D]? = some (.deferred (some []))→Q .normal {a with defers:={target:=.collected D,args:=#[]}::a.defers} W)
  (hstop:∀(D:Nat) (c:Code) (pre:List α) (W:World) (X:Nat→Prop),w.heap.size≤D→X D→Ok pre→Ix c pre W X→W.heap[D]? = some (.deferred (some []))→c.wpIn Fence.wide 0 P Q {a with defers:={target:=.collected D,args:=#[]}::a.defers} W) :
  (Code.rangeFunc g #[p] assign body).wpIn Fence.wide 0 P Q a w:=by
 refine wpIn_rangeFunc ?_;intro fn ao;rw[show Fence.wide.round=none from rfl];obtain⟨j,d⟩:∃j:LoopState→Option Code→Loop,j=fun st pe=>{state:=st,pending:=pe,fn,tmps:=a.tmps,params:=#[p],assign,body,defers:=w.heap.size}:=⟨_,rfl⟩
 obtain⟨W1,L⟩:∃W1,(w.alloc (.deferred (some []))).alloc (.loop (j .ready none))=W1:=⟨_,rfl⟩
 have a6:W1.heap.size=w.heap.size+2:=by rw[←L];simp
 have a9:W1.heap[w.heap.size+1]? = some (.loop (j .ready none)):=by
  rw[←L];have h:=World.alloc_heap_new (w.alloc (.deferred (some []))) (.loop (j .ready none));rwa [World.size_alloc] at h
 have ab:W1.heap[w.heap.size]? = some (.deferred (some [])):=by
  rw[←L];exact(Below.heap_alloc _ _ _ (by simp)).trans (World.alloc_heap_new w _)
 have ac:∀F,Mod F w W1:=fun F=>by rw[←L];exact(vT F w _).alloc _
 refine⟨w.heap.size+1,[{target:=.collected w.heap.size,args:=#[]}],W1,{target:=.fn (.func gf) lb,args:=#[.func (.yield (w.heap.size+1)) #[] #[]]},W1,gf,
  #[.func (.yield (w.heap.size+1)) #[] #[]]++lb,W1,?_,?_,?_,?_,(fun h=>(by cases h)),?_⟩
 ·rw[←L,d];exact run_enterLoop_outer _ _ _ _ _
 ·simp only[resolve,hg];simp[go_sem]
 ·intro f' _;trivial
 ·simp[invoke,go_sem,eg]
 obtain⟨N,hN⟩:∃N,N=w.heap.size:=⟨_,rfl⟩
 rw[←hN] at a9 ab a6 ⊢;have ad:∀(st:LoopState) (pe:Option Code) (G:World→(Nat→Prop)→Prop),(∀W W' X r,G W X→Mod X W W'→(∀b,X b→r b)→(∀b,r b→(X b∨W.heap.size≤b)∧b<W'.heap.size)→G W' r) →
   ∀(W W':World) (X r:Nat→Prop),((∃Y,G W Y∧(∀b,X b→Y b)∧(∀b,Y b→b<W.heap.size)∧Y (N+1)∧Y N)∧W.heap[N+1]? = some (.loop (j st pe))∧W.heap[N]? = some (.deferred (some []))∧¬X (N+1)∧¬X N) →
    Mod X W W'→(∀b,X b→r b)→(∀b,r b→(X b∨W.heap.size≤b)∧b<W'.heap.size) →
    ((∃Y,G W' Y∧(∀b,r b→Y b)∧(∀b,Y b→b<W'.heap.size)∧Y (N+1)∧Y N)∧W'.heap[N+1]? = some (.loop (j st pe))∧W'.heap[N]? = some (.deferred (some []))∧¬r (N+1)∧¬r N):=by
  rintro st pe G hG W W' X r ⟨⟨Y,ar,A,n,q,z⟩,M,hk,B,J⟩ hm aD a0;have ae:N+1<W.heap.size:=(Array.getElem?_eq_some_iff.1 M).1;have aE:=hm.size;refine⟨⟨fun b=>Y b∨r b,hG W W' Y _ ar (hm.mono A) (fun b h=>.inl h) (fun b h=>?_),fun b h=>.inr h,fun b h=>?_,.inl q,.inl z⟩,
   (hm.block _ ae B).trans M,(hm.block _ oM J).trans hk,fun h=>?_,fun h=>?_⟩
  ·
   rcases h with h|h
   ·exact⟨.inl h,by have:=n b h;omega⟩
   have h2:=a0 b h;exact⟨h2.1.imp (A b) id,h2.2⟩
  ·
   rcases h with h|h
   ·have:=n b h;omega
   exact(a0 b h).2
  ·
   rcases(a0 _ h).1 with h|h
   ·exact B h
   omega
  rcases(a0 _ h).1 with h|h
  ·exact J h
  omega
 refine(hseq (N+1)
  (fun pre W X=>(∃Y,I pre W Y∧(∀b,X b→Y b)∧(∀b,Y b→b<W.heap.size)∧Y (N+1)∧Y N)∧W.heap[N+1]? = some (.loop (j .ready none))∧W.heap[N]? = some (.deferred (some []))∧¬X (N+1)∧¬X N)
  (fun pre W X=>∃c,(∃Y,Ix c pre W Y∧(∀b,X b→Y b)∧(∀b,Y b→b<W.heap.size)∧Y (N+1)∧Y N)∧W.heap[N+1]? = some (.loop (j .done (some c)))∧W.heap[N]? = some (.deferred (some []))∧¬X (N+1)∧¬X N)
  W1 (fun _=>False) (ac _) (fun _ h=>h.elim) (fun s W W' X r h=>ad .ready none (I s) (hI s) W W' X r h)
  (fun s W W' X r ⟨c,h⟩ hm h1 h2=>⟨c,ad .done (some c) (Ix c s) (hIx c s) W W' X r h hm h1 h2⟩)
  ?_ ⟨⟨fun b=>X0 b∨b=N∨b=N+1,hI _ _ _ X0 _ h0 (ac _) (fun b h=>.inl h) (fun b h=>?_),fun _ h=>h.elim,fun b h=>?_,.inr (.inr rfl),.inr (.inl rfl)⟩,a9,ab,fun h=>h,fun h=>h⟩).mono ?_
 rotate_left
 ·
  rw[a6];rcases h with h|rfl|rfl
  ·exact⟨.inl h,by have:=hX0 b h;omega⟩
  ·exact⟨.inr oM,by omega⟩
  exact⟨.inr oM,by omega⟩
 ·
  rw[a6];rcases h with h|rfl|rfl
  ·have:=hX0 b h;omega
  ·omega
  omega
 ·
  rintro e W2 ⟨⟨v,rfl⟩,r,_,(⟨ys,au,⟨Y,hi,A,n,q,z⟩,M,hk,B,J⟩|⟨pre,O,c,⟨Y,hi,A,n,q,z⟩,M,hk,B,J⟩)⟩;all_goals
   have ae:N+1<W2.heap.size:=(Array.getElem?_eq_some_iff.1 M).1;have T:∀o,Mod Y W2 (W2.putObj (N+1) o):=fun o=>(fFu W2 (N+1) o).mono (fun b h=>by rw[h];exact q)
   have af:∀o b,Y b→(Y b∨W2.heap.size≤b)∧b<(W2.putObj (N+1) o).heap.size:=fun o b h=>⟨.inl h,by have:=n b h;have:=(T o).size;omega⟩
  ·refine⟨none,_,by have:=run_endLoop (P:=P) M (by rw[d];simp);rw[d] at this;exact this,?_⟩;exact hdone N _ Y oM z ys au (hI _ _ _ _ _ hi (T _) (fun _ h=>h) (af _)) ((World.putObj_heap_other oM).trans hk)
  refine⟨some c,_,by have:=run_endLoop (P:=P) M (by rw[d];simp);rw[d] at this;exact this,?_⟩;exact hstop N c pre _ Y oM z O (hIx c _ _ _ _ _ hi (T _) (fun _ h=>h) (af _)) ((World.putObj_heap_other oM).trans hk)
 rintro pre x W X1 ⟨⟨Y,hi,A,n,q,z⟩,M,hk,B,J⟩ _ _ O;have hy:=run_yield (P:=P) (args:=#[enc x]) M (by rw[d];rfl);rw[d] at hy;refine⟨fn,_,assign,body,hy,roundIn_of_wpIn ao (hassign _ pre x W Y _ hi q n ?_)⟩;clear hy;intro a' Wa U av;have aF:=U.size;have ag:N+1<W.heap.size:=(Array.getElem?_eq_some_iff.1 M).1;have aw:Wa.heap[N+1]? = some (.loop (j .ready none)):=(U.block _ ag (fun h=>h)).trans M;have ax:Wa.heap[N]? = some (.deferred (some [])):=(U.block _ oM (fun h=>h)).trans hk;have ay:I pre Wa Y:=hI _ _ _ _ _ hi (U.mono (fun _ h=>h.elim)) (fun _ h=>h) (fun b h=>⟨.inl h,by have:=n b h;omega⟩);refine⟨_,run_beginRound aw (by rw[d]),?_⟩;obtain⟨V,a7⟩:∃V,Wa.putObj (N+1) (.loop {j .ready none with state:=.busy})=V:=⟨_,rfl⟩
 have a1:Mod (fun b=>b=N+1) Wa V:=by rw[←a7];exact fFu _ _ _
 have aG:=a1.size;have az:V.heap[N+1]? = some (.loop {j .ready none with state:=.busy}):=by rw[←a7];exact World.putObj_heap_same oM
 have aA:V.heap[N]? = some (.deferred (some [])):=(a1.block _ oM oM).trans ax;have ak:Mod Y Wa V:=a1.mono (fun b h=>by rw[h];exact q);have Z:∀b,Y b→(Y b∨Wa.heap.size≤b)∧b<V.heap.size:=fun b h=>⟨.inl h,by have:=n b h;omega⟩
 rw[a7];refine wpIn_mono (hbody _ pre x a' V Y q (fun b h=>(Z b h).2) (hI _ _ _ _ _ ay ak (fun _ h=>h) Z) (hAx x a' () _ _ _ _ av ak (fun _ h=>h) Z) O) ?_;have a2:∀(G:World→(Nat→Prop)→Prop),(∀W W' X r,G W X→Mod X W W'→(∀b,X b→r b)→(∀b,r b→(X b∨W.heap.size≤b)∧b<W'.heap.size)→G W' r)→∀(k:Option Code) (C:World),Kp R Y V C→G C Y →
   ∃y,(Instr.endRound (N+1) k).run P C =.ok (.bool k.isNone) y∧Kp R X1 W y ∧
    ((∃Y,G y Y∧(∀b,X1 b→Y b)∧(∀b,Y b→b<y.heap.size)∧Y (N+1)∧Y N)∧y.heap[N+1]? = some (.loop (j (if k.isNone then .ready else .done) k))∧y.heap[N]? = some (.deferred (some []))∧¬X1 (N+1)∧¬X1 N):=by
  intro G hG k C m aB;have aH:=m.size;have aC:C.heap[N+1]? = some (.loop {j .ready none with state:=.busy}):=(m.block _ oM (fun h=>h (.inr q))).trans az;have al:C.heap[N]? = some (.deferred (some [])):=(m.block _ oM (fun h=>h (.inr z))).trans aA;have a5:=run_endRound (P:=P) k aC;obtain⟨y,a8⟩:∃y,C.putObj (N+1) (.loop (j (if k.isNone then .ready else .done) k))=y:=⟨_,rfl⟩
  have a4:Mod (fun b=>b=N+1) C y:=by rw[←a8];exact fFu _ _ _
  have aI:=a4.size;have am:¬(R (N+1)∨X1 (N+1)):=by
   rintro(h|h)
   ·have:=hR _ h;omega
   exact B h
  refine⟨y,by rw[←a8,d];rw[d] at a5;exact a5,?_,⟨Y,hG _ _ _ _ aB (a4.mono (fun b h=>by rw[h];exact q)) (fun _ h=>h) (fun b h=>⟨.inl h,by have:=n b h;omega⟩),A,fun b h=>by have:=n b h;omega,q,z⟩,by rw[←a8];exact World.putObj_heap_same oM,(a4.block _ oM oM).trans al,B,J⟩;have k1:Kp R X1 W Wa:=U.mono (fun _ h=>h.elim);have k2:Kp R X1 Wa V:=a1.mono (fun b h=>by rw[h];exact am);have k3:Kp R X1 V C:=m.mono (fun b h=>fun hn=>h (Or.imp id (A b) hn));have k4:Kp R X1 C y:=a4.mono (fun b h=>by rw[h];exact am);exact((k1.trans k2).trans k3).trans k4
 rintro e a3 C hp;cases e with
 | normal=>
  obtain⟨m,E⟩:=hp;obtain⟨y,hr,H,hj⟩:=a2 (I (pre++[x])) (hI _) none C m E;exact⟨_,y,hr,.inl ⟨rfl,hj,H⟩⟩
 | ret=>
  obtain⟨m,E⟩:=hp;obtain⟨y,hr,H,hj⟩:=a2 (Ix .ret (pre++[x])) (hIx _ _) (some .ret) C m E;exact⟨_,y,hr,.inr ⟨rfl,⟨_,hj⟩,H⟩⟩
 | exit id=>
  obtain⟨m,E⟩:=hp;obtain⟨y,hr,H,hj⟩:=a2 (Ix (.exit id) (pre++[x])) (hIx _ _) (some (.exit id)) C m E;exact⟨_,y,hr,.inr ⟨rfl,⟨_,hj⟩,H⟩⟩
 | goto t=>
  obtain⟨m,E⟩:=hp;obtain⟨y,hr,H,hj⟩:=a2 (Ix (.goto t) (pre++[x])) (hIx _ _) (some (.goto t)) C m E;exact⟨_,y,hr,.inr ⟨rfl,⟨_,hj⟩,H⟩⟩
 | panic ch=>exact hp.elim
 | outgrown=>exact hp.elim
end
section
open Go.Shelf
attribute [local go_sem] Oper.semAt_some
theorem Mod.frz {F:Nat→Prop} {w w':World} (h:Mod F w w') {a:Addr} (hl:a.block<w.heap.size) (hn:¬F a.block):w'.frozen? a=w.frozen? a:=World.frozen?_of_block (h.block a.block hl hn)
abbrev K3:=Int × Int × Int
def encK (x:K3):Value:=kv x.1 x.2.1 x.2.2
def keyC (x:K3):List Value:=[.int .i64 x.1,.int .i64 x.2.1,.int .i64 x.2.2]
def zV (xs:List K3):List Value:=xs.flatMap keyC
theorem fSh (xs:List K3) (l:K3):zV (xs++[l])=zV xs++keyC l:=by simp[zV]
theorem fQc (l:K3):∀u ∈ keyC l,u.oneCell'=true:=by
 intro u d;simp only[keyC,List.mem_cons,List.not_mem_nil,or_false] at d;rcases d with rfl|rfl|rfl <;> rfl
def yU (w:World) (b o:Nat) (x:K3):Prop:=w.cell? ⟨b,o,none⟩=some (.int .i64 x.1)∧w.cell? ⟨b,o+1,none⟩=some (.int .i64 x.2.1)∧w.cell? ⟨b,o+2,none⟩=some (.int .i64 x.2.2)
theorem fSg {w:World} {b o:Nat} {l:K3} (h:yU w b o l):∀j u,(keyC l)[j]? = some u→w.cell? ((⟨b,o,none⟩:Addr).add j)=some u:=by
 obtain⟨h0,h1,h2⟩:=h;intro j u d;match j,d with
 | 0,d=>simp[keyC] at d;subst d;simpa [Addr.add] using h0
 | 1,d=>simp[keyC] at d;subst d;simpa [Addr.add] using h1
 | 2,d=>simp[keyC] at d;subst d;simpa [Addr.add] using h2
 | j+3,d=>simp[keyC] at d
theorem fXt:(Tryz.prog.info? 254).map (fun i=>(i.zero,i.size,i.bytes))=some (some (.agg #[iV 0,iV 0,iV 0]),3,24):=kF
def fYl (lo:Nat) (mk:Nat→Act) (x:K3) (a':Act) (W:World) (Y:Nat→Prop):Prop:=∃B,lo≤B∧B<W.heap.size∧yU W B 0 x∧¬Y B∧a'=mk B
theorem fQ9 (lo:Nat) (mk:Nat→Act) (x:K3) (a':Act):Stb (fun (_:Unit)=>fYl lo mk x a'):=by
 rintro _ W p Y q ⟨B,j,r,k,d,e⟩ g n l;have s:=g.size;refine⟨B,j,by omega,⟨g.cell k.1 d,g.cell k.2.1 d,g.cell k.2.2 d⟩,fun h=>?_,e⟩;rcases(l B h).1 with m|m
 ·exact d m
 omega
def KclC (C:List Value) (k T L0:Nat) (w W:World) (Y:Nat→Prop) (v:Value):Prop:=
 W.cell? ⟨T,0,none⟩=some v∧W.ownsRow L0 254 3 v k C∧(∀b,v.ownBlock=some b→¬Y b)∧(∀b,b≤T→¬Y b)∧L0≤W.heap.size∧W.frozen? ⟨T,0,none⟩=false∧Below T w W
theorem fWq {C:List Value} {k T L0:Nat} {w W W':World} {Y Y' F:Nat→Prop} {v:Value} (hTL:T<L0) (h:KclC C k T L0 w W Y v) (hm:Mod F W W') (hF:∀b,b≤T→¬F b) (hFv:∀b,v.ownBlock=some b→¬F b)
  (hY:∀b,b≤T→¬Y' b) (hYv:∀b,v.ownBlock=some b→¬Y' b):KclC C k T L0 w W' Y' v:=by
 obtain⟨h1,h2,j,l,m,e,d⟩:=h;have g:=hm.size;refine⟨hm.cell h1 (hF _ (Nat.le_refl _)),hm.owns h2 hFv,hYv,hY,by omega,(hm.frz (a:=⟨T,0,none⟩) (by dsimp only;omega) (hF _ (by dsimp only;omega))).trans e,?_⟩;exact⟨hm.os.trans d.os,hm.tape.trans d.tape,hm.output.trans d.output,Nat.le_trans d.size g,fun b hb=>(hm.block b oM (hF b oM)).trans (d.block b hb)⟩
def KclI (T L0:Nat) (w:World) (pre:List K3) (W:World) (Y:Nat→Prop):Prop:=∃v,KclC (zV pre) pre.length T L0 w W Y v
theorem fWr {T L0:Nat} {w:World} (hTL:T<L0):Stb (KclI T L0 w):=by
 rintro j W p Y q ⟨v,h⟩ k l d;have m:=h;obtain⟨h1,h2,e,g,r,s,n⟩:=m;refine⟨v,fWq hTL h k g e (fun b hb h2=>?_) (fun b hb hy=>?_)⟩
 ·
  rcases(d b h2).1 with e|e
  ·exact g b hb e
  omega
 rcases(d b hy).1 with h|h
 ·exact e b hb h
 have:=(h2.lt b hb).2;omega
theorem fPl {C:List Value} {k T L0:Nat} {w W w5:World} {Y:Nat→Prop} {v:Value} {o:Obj} (hTL:T<L0) (h:KclC C k T L0 w W Y v) (hg:(W.alloc o).grownBy w5 v.ownBlock) :
  w5.cell? ⟨T,0,none⟩=some v∧w5.frozen? ⟨T,0,none⟩=false∧Mod (fun b=>v.ownBlock=some b) W w5:=by
 obtain⟨h1,h2,m,n,p,j,l⟩:=h;have d:Mod (fun b=>v.ownBlock=some b) W w5:=(vT _ W o).trans (Mod.of_grown hg);have g:¬v.ownBlock=some T:=fun e=>by have:=(h2.lt T e).1;omega
 exact⟨d.cell h1 g,(d.frz (a:=⟨T,0,none⟩) (by dsimp only;omega) g).trans j,d⟩
theorem fWp {C news:List Value} {k m T L0:Nat} {w W w5:World} {Y:Nat→Prop} {v v':Value} {o:Obj} (hTL:T<L0) (h:KclC C k T L0 w W Y v) (hg:(W.alloc o).grownBy w5 v.ownBlock)
  (ho:w5.ownsRow L0 254 3 v' (k+m) (C++news)) (hv:v'.ownBlock=v.ownBlock∨v'.ownBlock=some (W.alloc o).heap.size) (hYa:∀b,Y b→b<W.heap.size) :
  KclC (C++news) (k+m) T L0 w (w5.setCell ⟨T,0,none⟩ v') Y v'∧Mod (fun b=>b=T∨v.ownBlock=some b) W (w5.setCell ⟨T,0,none⟩ v'):=by
 obtain⟨l,n,p⟩:=fPl hTL h hg;obtain⟨h1,h2,q,r,x,y,d⟩:=h;have g:Mod (fun b=>b=T) w5 (w5.setCell ⟨T,0,none⟩ v'):=Mod.of_set w5 ⟨T,0,none⟩ v';have e:Mod (fun b=>b=T∨v.ownBlock=some b) W (w5.setCell ⟨T,0,none⟩ v'):=(p.mono (fun b h=>.inr h)).trans (g.mono (fun b h=>.inl h));have j:∀b,b<T→¬(b=T∨v.ownBlock=some b):=by
  rintro b hb (h|h)
  ·omega
  have:=(h2.lt b h).1;omega
 have s:=e.size;refine⟨⟨mY l,pK ho (by dsimp only;exact hTL) _,fun b hb hy=>?_,r,by omega,by rw[World.frozen?_setCell];exact n,
  ⟨e.os.trans d.os,e.tape.trans d.tape,e.output.trans d.output,Nat.le_trans d.size s,fun b hb=>(e.block b oM (j b oM)).trans (d.block b hb)⟩⟩,e⟩
 rcases hv with hv|hv
 ·rw[hv] at hb;exact q b hb hy
 rw[hv] at hb;cases hb;have:=hYa _ hy;simp at this;omega
def NoK (c:Code) (pre:List K3) (W:World) (Y:Nat→Prop):Prop:=False
theorem fY0 (c:Code):Stb (NoK c):=fun _ _ _ _ _ h _ _ _=>h
theorem fQv {α:Type} {P:Program} {g:Nat} {lb:Array Value} {enc:α→Value} {Ok Dn:List α→Prop} {R:Nat→Prop} {w w':World} (h:Seqy P g lb enc Ok Dn R w) (hm:Mod (fun k=>¬R k) w w'):Seqy P g lb enc Ok Dn R w':=
 fun l J d W X h1 h2 e j m n=>h l J d W X (hm.trans h1) h2 e j m n
theorem fGw (gf:Nat) (lb:Array Value) (Ok Dn:List K3→Prop) (R:Nat→Prop) (w:World) (eg:∀args w,(callFunc gf args).run Tryz.prog w =.ok (.enter gf args) w) (hseq:Seqy Tryz.prog gf lb encK Ok Dn R w) (hR:∀b,R b→b<w.heap.size) (hlen:∀ys,Ok ys→ys.length≤200) :
  cL 251 #[aj,.func (.func gf) #[] lb] w fun e w'=>∃v xs,e =.returned v∧Dn xs∧w'.ownsRow w.heap.size 254 3 v xs.length (zV xs)∧Below w.heap.size w w':=by
 obtain⟨i0,hi,X,Z,a0⟩:=info_parts fXt;refine(callsIn_wide (n:=0)).1 ?_;refine callsIn_of_wp_marks Tryz.func251 rfl trivial ?_ rfl;simp only[Tryz.ntmps251,List.size_toArray,List.length_cons,List.length_nil,Nat.reduceAdd,Nat.reduceSub,Array.replicate_succ,Array.replicate_zero,List.push_toArray,List.append_toArray,List.nil_append,List.cons_append];gi_wp2;have y:KclC (zV []) 0 w.heap.size (w.heap.size+1) w (w.alloc (.cells #[aj] 256)) (fun _=>False) aj:=
  ⟨sG,World.ownsRow_nil _ _ _ _,fun _ _ h=>h,fun _ _ h=>h,by simp,by simp[go_sem],hE⟩
 have z:=fQv hseq (vT (fun k=>¬R k) w (.cells #[aj] 256));have a6:∀b,R b→b<(w.alloc (.cells #[aj] 256)).heap.size:=fun b h=>by have:=hR b h;simp;omega
 have HR:Hid (∀b,R b→b<w.heap.size):=hR;have a7:Hid (∀ys,Ok ys→ys.length≤200):=hlen;have I:(w.alloc (.cells #[aj] 256)).heap.size=w.heap.size+1:=by simp
 have A:Hid ((w.alloc (.cells #[aj] 256)).heap.size=w.heap.size+1):=I;clear I hR hseq;generalize w.alloc (.cells #[aj] 256)=W0 at *;obtain⟨T,j⟩:∃T,w.heap.size=T:=⟨_,rfl⟩
 have a8:Hid (w.heap.size=T):=j;rw[j] at y HR A ⊢;clear j;obtain⟨V,ab⟩:∃L,T+1=L:=⟨_,rfl⟩
 rw[ab] at y A;have C:T<V:=oM;refine fM8 (gf:=gf) rfl eg z a6 (KclI T V w) NoK (fWr C) fY0 (fun _=>False) (fun _ h=>h.elim) ⟨_,y⟩
  (fun x=>fYl V (fun B=>{tmps:=#[aj,.func (.func gf) #[] lb,an T,undef,aj,an B,.func (.func gf) #[] lb,.agg #[iV x.1,iV x.2.1,iV x.2.2],undef,undef,undef,undef,undef],defers:=[]}) x)
  (fun x a'=>fQ9 _ _ x a') ?assign ?body ?done ?stop
 case assign=>
  rintro l2 d x q Y K ⟨_,ha⟩ ac E hK;unfold encK kv;gi_wp2;refine hK _ _ (vT _ _ _) ⟨q.heap.size,ha.2.2.2.2.1,by simp,by unfold yU;simp[go_sem],fun h=>?_,rfl⟩;have:=E _ h;omega
 case body=>
  rintro l2 d x a' q Y ac E ⟨vv,ha⟩ ⟨B,ag,hB,hr,ak,rfl⟩ r;have ad:d.length≤200:=by have:=a7.out _ r;rw[List.length_append] at this;omega
  obtain⟨r0,r1,r2⟩:=hr;simp only[Nat.zero_add] at r1 r2;have HP:Hid ((d++[x]).length=d.length+1∧zV (d++[x])=zV d++keyC x):=⟨by simp,fSh _ _⟩;have F:=ha;obtain⟨a1,G,a3,a4,a5,a9,g⟩:=ha;obtain⟨ys,J⟩:∃ys,zV d=ys:=⟨_,rfl⟩
  obtain⟨m,hm⟩:∃m,d.length=m:=⟨_,rfl⟩
  rw[J,hm] at G HP F;rw[hm] at ad;clear J hm;obtain⟨av,cv,rfl⟩:=fD G;have ae:=wL _ _ a1;dsimp only at ae;gi_wp2_with (gi_at_builtin;refine wpListIn_append_own_at _ rfl _ _ 256 rfl V 254 i0 _ 3 24 Tryz.underlying256 hi X Z a0 rfl (by decide) _ _ _ rfl (G.alloc _) ⟨q.heap.size,0,none⟩ 1 1 (keyC x) rfl rfl ?c1 (fQc x) ?c3 ?c4 ?c5 ?_)
  case c1=>exact fSg (b:=q.heap.size) (o:=0) ⟨sG,by simp[go_sem],sG⟩
  case c3=>unfold maxLen;omega
  case c4=>omega
  case c5=>simp;omega
  intro v' w5 l p _ M;obtain⟨g',N,rfl⟩:=ownsRow_succ l;obtain⟨b1,b9,_⟩:=fPl C F p;obtain⟨O,hM⟩:=fWp C F p l (by rw[World.size_alloc];exact M) E;gi_wp2;refine⟨hM.mono (fun b h=>?_),.slice (some ⟨g',0,none⟩) (m+1) N,?_⟩
  ·
   rcases h with rfl|h
   ·
    rintro(h2|h2)
    ·have:=HR.out _ h2;omega
    exact a4 _ (Nat.le_refl _) h2
   have:=(G.lt b h).1;rintro(h2|h2)
   ·have:=HR.out _ h2;omega
   exact a3 b h h2
  rw[HP.out.1,HP.out.2];exact O
 case done=>
  rintro D q Y hD U xs af ⟨vv,ha⟩ s;obtain⟨a1,G,a3,a4,a5,a9,g⟩:=ha;obtain⟨av,cv,rfl⟩:=fD G;have al:=A.out;gi_wp2;refine⟨by simp,.inl ⟨_,_,rfl,run_takeDeferred s,?_⟩⟩;refine⟨.slice av xs.length cv,by simp[results,Tryz.results251,go_sem],?_⟩;have H:Mod (fun b=>b=D) q (q.putObj D (.deferred none)):=fFu _ _ _;have j:=a8.out;rw[j];refine⟨_,xs,rfl,af,qI (H.owns G (fun b hb e=>a3 b hb (by rw[e];exact U))) oM,?_⟩;exact⟨H.os.trans g.os,H.tape.trans g.tape,H.output.trans g.output,Nat.le_trans g.size H.size,fun b hb=>(H.block b (by have:=g.size;omega) oM).trans (g.block b hb)⟩
 case stop=>
  rintro D c d q Y hD U r h s;exact h.elim
theorem fK8 (gf:Nat) (lb:Array Value) (Ok Dn:List K3→Prop) (R:Nat→Prop) (w:World) (eg:∀args w,(callFunc gf args).run Tryz.prog w =.ok (.enter gf args) w) (hseq:Seqy Tryz.prog gf lb encK Ok Dn R w) (hR:∀b,R b→b<w.heap.size) (hlen:∀ys,Ok ys→ys.length≤200) :
  cL 241 #[.func (.func gf) #[] lb] w fun e w'=>∃v xs,e =.returned v∧Dn xs∧w'.ownsRow w.heap.size 254 3 v xs.length (zV xs)∧aa w w':=by
 have g:=fGw gf lb Ok Dn R w eg hseq hR hlen;clear eg hseq;go_enter Tryz.func241,Tryz.ntmps241;go_wp2_with fail;refine g.mono ?_;rintro e k ⟨v,xs,rfl,d,j,hb⟩;obtain⟨l,m,rfl⟩:=fD j;clear g;go_wp2;go_ret;exact⟨_,xs,rfl,d,j,hb⟩
end
end Go.Proofs.YtpibfdebfacooaaGreat

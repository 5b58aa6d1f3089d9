import Derived.Lib.Bytealg
import Derived.Lib.Walk
import Derived.Test.YtpibfdebfacooaaGreatPrnJournalFaultLaw8
set_option maxHeartbeats 4000000
set_option maxRecDepth 20000
set_option linter.unusedSectionVars false
set_option linter.unusedSimpArgs false
set_option linter.unusedVariables false
namespace Go.Proofs.YtpibfdebfacooaaGreat
open Go.RowKit
attribute [local go_sem ↓] Go.wp_at_zero Go.wp_at_succ
section
structure Rw where
 key:ByteArray
 ver:Int
 val:ByteArray
 gone:Bool
variable [dQ Rw] [iH Rw]
variable [dQ Rw] [iH Rw]
def Fit (xs:List Rw):Prop:=∀i,i<xs.length→(xs.getD i default).key.size≤maxLen∧(xs.getD i default).val.size≤maxLen
def cmpB (a b:ByteArray):Int:=Lib.compareBytes a.data.toList b.data.toList
def cmpI (x y:Int):Int:=if x<y then -1 else if y<x then 1 else 0
def orI (x y:Int):Int:=if x=0 then y else x
def cmpR (a b:Rw):Int:=orI (cmpB a.key b.key) (cmpI b.ver a.ver)
def ahead (a b:Rw):Bool:=decide (cmpR a b<0)
theorem fN8 (x:Int) (w:World) :
  Calls Tryz.prog 230 #[.int .i64 x] w fun e w'=>e =.returned (.bool false)∧w'=w:=by
 go_enter Tryz.func230,Tryz.ntmps230;go_wp2;go_ret;exact⟨rfl,rfl⟩
theorem yD (x y:Int) (w:World) :
  Calls Tryz.prog 210 #[.int .i64 x,.int .i64 y] w fun e w'=>e =.returned (.int .i64 (cmpI x y))∧w'=w:=by
 go_enter Tryz.func210,Tryz.ntmps210;go_wp2_with (go_at_call 230;refine(fN8 _ _).mono ?_;rintro e w' ⟨rfl,rfl⟩);all_goals (go_ret;refine⟨?_,rfl⟩;unfold cmpI;(repeat' split) <;> first|rfl|(exfalso;omega))
end
section
section
variable {P : Program} {ops : Array Oper} {Q : Exit → Act → World → Prop} {md : Region.Mode} {S : World → Prop} {t : Nat}
theorem yT {i:Nat} {oi:Oper} {v:Value} (hi:ops[i]? = some oi) (hsel:Region.noSelect ops=true) (ht:ops[t]? = none)
  (hQ:∀c a w,Q (.panic c) (a.put oi.dst v) w→Q (.panic c) a w) :
  ∀(f:Nat) (listed:Array Bool) (a:Act) (w:World),
   (∀j oj,ops[j]? = some oj→j≠i→listed.getD j true=false→(∀e ∈ oj.after,Region.binds md e=true→e.on≠i)→oi.apart ops oj=true) →
   i ∈ Region.ready md ops listed→YieldsIf P ops S oi v a→S w →
   gL P md ops Q S t f (listed.setIfInBounds i true) (a.put oi.dst v) w→gL P md ops Q S t (f+1) listed a w:=by
 intro f;induction f with
 | zero=>
  intro listed a w _ hr hy hS H;refine⟨fun h=>(by rw[h] at hr;cases hr),fun j hj=>?_⟩;by_cases hji:j=i
  ·subst hji;exact hy.wpOp hi hS ⟨fun _=>hS,H⟩
  have hm:=ready_mono hj hji;rw[H.1] at hm;cases hm
 | succ f ih=>
  intro listed a w hfree hr hy hS H;refine⟨fun h=>(by rw[h] at hr;cases hr),fun j hj=>?_⟩;by_cases hji:j=i
  ·subst hji;exact hy.wpOp hi hS ⟨fun _=>hS,H⟩
  obtain⟨hjun,oj,hoj,hall⟩:=mem_ready.1 hj;have hun:=(mem_ready.1 hr).1;have hnl:¬listed.getD i false=true:=by
   intro h1;rcases Nat.lt_or_ge i listed.size with h'|h'
   ·simp[h'] at hun h1;rw[hun] at h1;cases h1
   simp[Array.getElem?_eq_none h'] at h1
  have hnot:∀e ∈ oj.after,Region.binds md e=true→e.on≠i:=fun e he hb heq=>hnl (by rw[←heq];exact hall e he hb)
  have hjt:j≠t:=by
   rintro rfl;rw[ht] at hoj;cases hoj
  have h1:=H.2 j (ready_mono hj hji);have h2:=wpOp_putIf hoj (hfree j oj hoj hji hjun hnot) (fun cs b=>Region.noSelect_spec hsel i oi cs b hi) (fun cs b=>Region.noSelect_spec hsel j oj cs b hoj) hQ hy h1;refine wpOp_mono (fun a' w' h3=>⟨h3.2.1,ih (listed.setIfInBounds j true) a' w' ?_ (ready_mono hr (Ne.symm hji)) h3.1 (h3.2.1 hjt) ?_⟩) h2
  ·
   intro k ok hk hki hunk hno;refine hfree k ok hk hki ?_ hno;by_cases hjk:j=k
   ·subst hjk;exact hjun
   rw[getD_set_ne true hjk] at hunk;exact hunk
  rw[Array.setIfInBounds_comm _ _ hji];exact h3.2.2
theorem kZ {i:Nat} {oi:Oper} {v:Value} {f:Nat} {listed:Array Bool} {a:Act} {w:World} (hi:ops[i]? = some oi) (hsel:Region.noSelect ops=true) (ht:ops[t]? = none)
  (hf:Region.free md ops listed i=true) (hr:(Region.ready md ops listed).contains i=true) (hQ:∀c a w,Q (.panic c) (a.put oi.dst v) w→Q (.panic c) a w)
  (hwd:Region.wanted oi (yielded ops a.tmps)=true) (hS:S w) (hy:∀w,S w→(execOp a.eval oi).run P w =.ok (.value v) w)
  (h:gL P md ops Q S t f (listed.setIfInBounds i true) (a.put oi.dst v) w):gL P md ops Q S t (f+1) listed a w:=
 yT hi hsel ht hQ f listed a w (Region.free_spec hi hf) (by simpa using hr) (Or.inl ⟨hwd,hy⟩) hS h
theorem tN {i:Nat} {oi:Oper} {v:Value} {f:Nat} {listed:Array Bool} {a:Act} {w:World} (hi:ops[i]? = some oi) (hb:(Region.noSelect ops&&(ops[t]?).isNone&&Region.free md ops listed i&&(Region.ready md ops listed).contains i)=true)
  (hS:S w) (hy:∀w,S w→(execOp a.eval oi).run P w =.ok (.value v) w)
  (h:gL P md ops Q S t f (listed.setIfInBounds i true) (a.put oi.dst v) w) (hQ:∀c a w,Q (.panic c) (a.put oi.dst v) w→Q (.panic c) a w:=by exact fun _ _ _ h=>h) (hwd:Region.wanted oi (yielded ops a.tmps)=true:=by rfl):gL P md ops Q S t (f+1) listed a w:=by
 simp only[Bool.and_eq_true] at hb;exact kZ hi hb.1.1.1 (by simpa using hb.1.1.2) hb.1.2 hb.2 hQ hwd hS hy h
theorem tM (i:Nat) {oi:Oper} {v:Value} {f:Nat} {listed:Array Bool} {a:Act} {w:World} (hi:ops[i]? = some oi) (hS:S w) (h:gL P md ops Q S t f (listed.setIfInBounds i true) (a.put oi.dst v) w) (hb:(Region.noSelect ops&&(ops[t]?).isNone&&Region.free md ops listed i&&(Region.ready md ops listed).contains i)=true:=by kernel_rfl) (hQ:∀c a w,Q (.panic c) (a.put oi.dst v) w→Q (.panic c) a w:=by exact fun _ _ _ h=>h) (hwd:Region.wanted oi (yielded ops a.tmps)=true:=by rfl) (hy:∀w,S w→(execOp a.eval oi).run P w =.ok (.value v) w:=by intro wS hSw;(try dsimp only at hSw);go_simp;try with_reducible rfl):gL P md ops Q S t (f+1) listed a w:=by
 simp only[Bool.and_eq_true] at hb;exact kZ hi hb.1.1.1 (by simpa using hb.1.1.2) hb.1.2 hb.2 hQ hwd hS hy h
theorem tX (i:Nat) {oi:Oper} {v:Value} {f:Nat} {listed:Array Bool} {a a':Act} {w:World} (h:gL P md ops Q S t f (listed.setIfInBounds i true) a' w) (hi:ops[i]? = some oi:=by rfl) (hS:S w:=by assumption) (hb:(Region.noSelect ops&&(ops[t]?).isNone&&Region.free md ops listed i&&(Region.ready md ops listed).contains i)=true:=by kernel_rfl) (hQ:∀c a w,Q (.panic c) (a.put oi.dst v) w→Q (.panic c) a w:=by exact fun _ _ _ h=>h) (hwd:Region.wanted oi (yielded ops a.tmps)=true:=by rfl) (hy:∀w,S w→(execOp a.eval oi).run P w =.ok (.value v) w:=by intro wS hSw;(try dsimp only at hSw);go_simp;try with_reducible rfl) (ha:a.put oi.dst v=a':=by first|(simp only[jX];done)|(simp only[jX];rfl)|rfl):gL P md ops Q S t (f+1) listed a w:=by
 subst ha;exact tM i hi hS h hb hQ hwd hy
theorem fM7 {i:Nat} {oi:Oper} {f:Nat} {listed:Array Bool} {a:Act} {w:World} (hi:ops[i]? = some oi) (hsel:Region.noSelect ops=true) (ht:ops[t]? = none)
  (hf:Region.free md ops listed i=true) (hr:(Region.ready md ops listed).contains i=true) (hQ:∀c a w,Q (.panic c) (a.put oi.dst undef) w→Q (.panic c) a w)
  (hwd:Region.wanted oi (yielded ops a.tmps)=false) (hS:S w)
  (h:∀u:Value,gL P md ops Q S t f (listed.setIfInBounds i true) (a.put oi.dst u) w):gL P md ops Q S t (f+1) listed a w:=
 yT hi hsel ht hQ f listed a w (Region.free_spec hi hf) (by simpa using hr) (Or.inr ⟨hwd,rfl⟩) hS (h undef)
theorem sN (i:Nat) {oi:Oper} {f:Nat} {listed:Array Bool} {a:Act} {w:World} (hi:ops[i]? = some oi) (hS:S w) (h:∀u:Value,gL P md ops Q S t f (listed.setIfInBounds i true) (a.put oi.dst u) w) (hb:(Region.noSelect ops&&(ops[t]?).isNone&&Region.free md ops listed i&&(Region.ready md ops listed).contains i)=true:=by kernel_rfl) (hQ:∀c a w,Q (.panic c) (a.put oi.dst undef) w→Q (.panic c) a w:=by exact fun _ _ _ h=>h) (hwd:Region.wanted oi (yielded ops a.tmps)=false:=by rfl):gL P md ops Q S t (f+1) listed a w:=by
 simp only[Bool.and_eq_true] at hb;exact fM7 hi hb.1.1.1 (by simpa using hb.1.1.2) hb.1.2 hb.2 hQ hwd hS h
theorem sX (i:Nat) {oi:Oper} {f:Nat} {listed:Array Bool} {a:Act} {a':Value→Act} {w:World} (h:∀u:Value,gL P md ops Q S t f (listed.setIfInBounds i true) (a' u) w) (hi:ops[i]? = some oi:=by rfl) (hS:S w:=by assumption) (hb:(Region.noSelect ops&&(ops[t]?).isNone&&Region.free md ops listed i&&(Region.ready md ops listed).contains i)=true:=by kernel_rfl) (hQ:∀c a w,Q (.panic c) (a.put oi.dst undef) w→Q (.panic c) a w:=by exact fun _ _ _ h=>h) (hwd:Region.wanted oi (yielded ops a.tmps)=false:=by rfl) (ha:∀u,a.put oi.dst u=a' u:=by intro u;first|(simp only[jX];done)|(simp only[jX];rfl)|rfl):gL P md ops Q S t (f+1) listed a w:=sN i hi hS (fun u=>by rw[ha u];exact h u) hb hQ hwd
end
end
section
variable [dQ Bal] [iH Bal]
def balssR:Rep (List (List Bal)):=nRep balsR 30 1 one
theorem fN7:(Tryz.prog.info? 30).map (fun i=>(i.zero,i.size,i.bytes))=some (some (.slice none 0 0),1,24):=kF
structure Ledg where
 shards:List (List Bal)
variable [dQ Ledg] [iH Ledg]
def ledgR:Rep Ledg where
 V:=fun w v x=>∃u1,v =.agg #[u1]∧balssR.V w u1 x.shards
 O:=fun w base F v x=>∃u1 F1,v =.agg #[u1]∧balssR.O w base F1 u1 x.shards∧(∀b,F b↔(F1 b))
 below:=fun h hb=>by
  obtain⟨u1,rfl,h1⟩:=h;exact⟨u1,rfl,balssR.below h1 hb⟩
 ofO:=fun h=>by
  obtain⟨u1,F1,rfl,h1,_⟩:=h;exact⟨u1,rfl,balssR.ofO h1⟩
 mod:=fun h hm hd=>by
  obtain⟨u1,F1,rfl,h1,hF⟩:=h;exact⟨u1,F1,rfl,balssR.mod h1 hm (fun b hb=>hd b ((hF b).2 hb)),hF⟩
 rng:=fun h b hb=>by
  obtain⟨u1,F1,rfl,h1,hF⟩:=h;rcases(hF b).1 hb with hb
  exact balssR.rng h1 b hb
 base:=fun h hb=>by
  obtain⟨u1,F1,rfl,h1,hF⟩:=h;exact⟨u1,F1,rfl,balssR.base h1 hb,hF⟩
end
section
variable [dQ Bal] [iH Bal] [dQ Ledg] [iH Ledg] [dQ Leg] [iH Leg]
theorem qB {n:Int} (h0 : -9223372036854775808≤n) (h1:n≤9223372036854775807):IntKind.i64.wrap n=n:=by
 rw[IntKind.wrap_i64];omega
theorem qA {B:Nat} {w Y:World} (h:Below B w Y) (n:Nat):Below B w (Y.drewN n):=h.trans ⟨rfl,rfl,rfl,Nat.le_refl _,fun _ _=>rfl⟩
def fF (f:Nat→Int):Nat→Int
 | 0=>0
 | n+1=>if fF f n=0 then f n else fF f n
theorem gH {f:Nat→Int} {k:Nat} (h:fF f k=0) (h':f k=0):fF f (k+1)=0:=by simp[fF,h,h']
theorem mD {f:Nat→Int} {k:Nat} (h:fF f k=0) (h':f k≠0):∀n,k<n→fF f n=f k
 | 0,hn=>oM
 | n+1,hn=>by
  by_cases e:k=n
  ·subst e;simp[fF,h]
  have:=mD h h' n oM;simp[fF,this,h']
theorem rV {f:Nat→Int}:∀{n:Nat},fF f n=0→∀k,k<n→f k=0
 | 0,_,k,hk=>oM
 | n+1,h,k,hk=>by
  unfold fF at h;split at h
  ·
   rename_i h1;by_cases e:k=n
   ·subst e;exact h
   exact rV h1 k oM
  exact absurd h (by assumption)
theorem fK2 {f:Nat→Int}:∀{n:Nat},(∀k,k<n→f k=0)→fF f n=0
 | 0,_=>rfl
 | n+1,h=>gH (fK2 (fun k hk=>h k oM)) (h n oM)
def qJ (ac ast:Int):Bool:=inB ac 0 5&&inB ast 0 2
def rZ (x:Bal):Bool:=qJ x.ac x.ast&&inB x.am 1 1000000000000
def behind (b a:Bal):Bool:=if b.ac=a.ac then decide (a.ast<b.ast) else decide (a.ac<b.ac)
def vT (xs:List Bal) (k:Nat):Int:=if rZ (xs.getD k default) then (if 0<k∧behind (xs.getD k default) (xs.getD (k-1) default)=false then 1 else 0) else 3
def gP (xs:List Bal):Int:=if 18<xs.length then 2 else fF (vT xs) xs.length
def fSc (g:Ledg) (k:Nat):Int:=gP (g.shards.getD k default)
def qY (g:Ledg):Int:=if g.shards.length<1∨3<g.shards.length then 2 else fF (fSc g) g.shards.length
theorem inBi {n lo hi:Int}:inB n lo hi=true↔lo≤n∧n≤hi:=by simp[inB]
theorem keyOk_iff {a s:Int}:qJ a s=true↔(0≤a∧a≤5)∧(0≤s∧s≤2):=by simp[qJ,inBi]
theorem balOk_iff {x:Bal}:rZ x=true↔((0≤x.ac∧x.ac≤5)∧(0≤x.ast∧x.ast≤2))∧(1≤x.am∧x.am≤1000000000000):=by simp[rZ,keyOk_iff,inBi]
theorem fDs {b a:Bal} (hb:qJ b.ac b.ast=true) (ha:qJ a.ac a.ast=true):behind b a=false↔b.ac*3+b.ast≤a.ac*3+a.ast:=by
 obtain⟨⟨_,_⟩,_,_⟩:=keyOk_iff.1 hb;obtain⟨⟨_,_⟩,_,_⟩:=keyOk_iff.1 ha;unfold behind;split <;> simp <;> omega
theorem vX {x:Bal} (h:rZ x=true):qJ x.ac x.ast=true:=by
 rw[rZ,Bool.and_eq_true] at h;exact h.1
structure BalsOk (xs:List Bal):Prop where
 len:xs.length≤18
 ok:∀k,k<xs.length→rZ (xs.getD k default)=true
 ord:∀k,k+1<xs.length→behind (xs.getD (k+1) default) (xs.getD k default)=true
theorem vY {xs:List Bal} (h:gP xs=0):BalsOk xs:=by
 unfold gP at h;split at h
 ·omega
 have hz:=rV h;refine⟨oM,fun k hk=>?_,fun k hk=>?_⟩
 ·
  have:=hz k hk;unfold vT at this;split at this
  ·assumption
  omega
 have:=hz (k+1) hk;unfold vT at this;split at this
 ·
  split at this
  ·omega
  rename_i h1 h2;simp at h2;simpa using h2
 omega
theorem fBf {g:Ledg} (h:qY g=0):1≤g.shards.length∧g.shards.length≤3∧∀k,k<g.shards.length→BalsOk (g.shards.getD k default):=by
 unfold qY at h;split at h
 ·omega
 exact⟨oM,by omega,fun k hk=>vY (rV h k hk)⟩
def hasB (a s:Int):List Bal→Int
 | []=>0
 | x::r=>if x.ac=a∧x.ast=s then x.am else hasB a s r
theorem fP0 (xs:List Bal) (k:Nat) (h:k<xs.length):xs.drop k=xs.getD k default::xs.drop (k+1):=by
 rw[List.drop_eq_getElem_cons h];simp[List.getD,h]
theorem fN1 {a s:Int} {xs:List Bal} {k:Nat} (h:k<xs.length):hasB a s (xs.drop k)=if (xs.getD k default).ac=a∧(xs.getD k default).ast=s then (xs.getD k default).am else hasB a s (xs.drop (k+1)):=by
 rw[fP0 xs k h];rfl
end
section
variable [dQ Rw] [iH Rw] [dQ Bal] [iH Bal] [dQ Ledg] [iH Ledg] [dQ Leg] [iH Leg]
def yK (x y:Nat→Int):Nat→Int
 | 0=>0
 | k+1=>if yK x y k=0 then cmpI (x k) (y k) else yK x y k
theorem fAu (W:World) (b1 b2:Nat) (x y:Nat→Int) (hx:∀i,i<3→W.cell? ⟨b1,i,none⟩=some (.int .i64 (x i))) (hy:∀i,i<3→W.cell? ⟨b2,i,none⟩=some (.int .i64 (y i))) :
  Calls Tryz.prog 244 #[.slice (some ⟨b1,0,none⟩) 3 3,.slice (some ⟨b2,0,none⟩) 3 3] W fun e w'=>e =.returned (.int .i64 (yK x y 3))∧w'=W:=by
 have HX:Hid (∀i,i<3→W.cell? ⟨b1,i,none⟩=some (.int .i64 (x i))):=hx;have HY:Hid (∀i,i<3→W.cell? ⟨b2,i,none⟩=some (.int .i64 (y i))):=hy;clear hx hy;go_enter Tryz.func244,Tryz.ntmps244;go_wp2;go_loopw [11] (fun i w'=>∃k:Nat,k≤3∧i =.int .i64 k∧Hid (yK x y k=0)∧w'=W) (fun i _=>3-(intOf i).toNat)
 case atStart=>exact⟨0,by omega,rfl,rfl,rfl⟩
 obtain⟨k,hk,rfl,HC,rfl⟩:=hrel;by_cases hk3:k<3
 ·
  have hk':(k:Int)<3:=oM;have hk0:(0:Int)≤k:=oM;have hk1:¬((3:Int)≤k):=oM;have hwk:IntKind.i64.wrap ((k:Int)+1)=(k:Int)+1:=qB oM oM;have g1:=HX.out k hk3;have g2:=HY.out k hk3;have HS:Hid (yK x y (k+1)=cmpI (x k) (y k)):=by unfold Hid;rw[yK,if_pos HC.out]
  generalize x k=xk at *;generalize y k=yk at *;by_cases hz:cmpI xk yk=0
  ·
   have HC':Hid (yK x y (k+1)=0):=by rw[Hid,HS.out];exact hz
   go_wp2_with fail;refine(yD xk yk _).mono ?_;rintro e w' ⟨rfl,hw⟩;obtain rfl:=hw.symm;rw[hz];go_wp2;exact⟨⟨k+1,by omega,by go_num,HC',by trivial⟩,mI⟩
  have HE:Hid (yK x y 3=cmpI xk yk):=by
   have key:∀d,k+1+d≤3→yK x y (k+1+d)=cmpI xk yk:=by
    intro d;induction d with
    | zero=>intro _;exact HS.out
    | succ d ih=>
     intro h;have:=ih oM;rw[show k+1+(d+1)=(k+1+d)+1 by omega,yK,if_neg (by rw[this];exact hz),this]
   have:=key (2-k) oM;rw[show k+1+(2-k)=3 by omega] at this;exact this
  go_wp2_with fail;refine(yD xk yk _).mono ?_;rintro e w' ⟨rfl,hw⟩;obtain rfl:=hw.symm;generalize cmpI xk yk=r at *;go_wp2;go_ret;exact⟨by rw[HE.out];rfl,by trivial⟩
 have hk3':k=3:=oM;subst hk3';go_wp2;go_ret;exact⟨rH,by trivial⟩
def k3 (s a t:Int) (i:Nat):Int:=if i=0 then s else if i=1 then a else t
theorem fBs (s a t s' a' t':Int) (W:World) :
  Calls Tryz.prog 229 #[kv s a t,kv s' a' t'] W fun e w'=>e =.returned (.int .i64 (yK (k3 s a t) (k3 s' a' t') 3))∧w'=((W.alloc (.cells #[.int .i64 s,.int .i64 a,.int .i64 t] 254)).alloc (.cells #[.int .i64 s',.int .i64 a',.int .i64 t'] 254)).drew:=by
 unfold kv;go_enter Tryz.func229,Tryz.ntmps229;go_wp2;refine wp_region_noPanic ?_;refine fB (fun W'=>W'=((W.alloc (.cells #[.int .i64 s,.int .i64 a,.int .i64 t] 254)).alloc (.cells #[.int .i64 s',.int .i64 a',.int .i64 t'] 254)).drew) 4 kF rfl (fun hS=>?_);refine tX 0 ?_;refine tX 1 ?_;refine uS 2 rfl (fun K hK=>?_);go_simp;refine(fAu _ W.heap.size (W.heap.size+1) (k3 s a t) (k3 s' a' t') ?_ ?_).mono ?_
 ·
  intro i hi;match i,hi with
  | 0,_=>simp[go_sem,k3]
  | 1,_=>simp[go_sem,k3]
  | 2,_=>simp[go_sem,k3]
 ·
  intro i hi;match i,hi with
  | 0,_=>simp[go_sem,k3]
  | 1,_=>simp[go_sem,k3]
  | 2,_=>simp[go_sem,k3]
 rintro e w' ⟨rfl,hw⟩;refine hK _ _ (fun _=>hw) ?_;clear hK K;obtain⟨r,hr⟩:∃r,yK (k3 s a t) (k3 s' a' t') 3=r:=⟨_,rfl⟩
 have HR:Hid (yK (k3 s a t) (k3 s' a' t') 3=r):=hr;rw[hr];clear hr;try simp only[jX]
 refine uS 3 rfl (fun K hK=>?_);go_simp;refine hK _ _ (fun _=>by first|rfl|exact hw) ?_;clear hK K;refine dP ?_;go_wp2;go_ret;exact⟨by rw[HR.out];rfl,by first|rfl|exact hw⟩
end
end Go.Proofs.YtpibfdebfacooaaGreat

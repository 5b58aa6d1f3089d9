import Derived.Test.YtbfnobcidnmohaaGreatPrnBooksBalanceLaw7
import Derived.Maps.OwnSet
import Derived.DeepKeys4
import Derived.Deep.RegionHeld3
import Derived.Deep.DrawnRows
import Derived.BigQuiet
import Derived.Lib.Bytealg
import Derived.Lib.Walk
set_option maxHeartbeats 4000000
set_option maxRecDepth 20000
set_option linter.unusedSectionVars false
set_option linter.unusedVariables false
set_option linter.unusedSimpArgs false
namespace Go.Proofs.YtbfnobcidnmohaaGreat
open Go.RowKit
variable [DecidableEq Vot] [Inhabited Vot] [DecidableEq Slt] [Inhabited Slt] [DecidableEq Acc] [Inhabited Acc]
attribute [local go_sem ↓] Go.wp_at_zero Go.wp_at_succ
structure AccsR where
 code:Int
 value:Int
 accs:List Acc
variable [DecidableEq AccsR] [Inhabited AccsR]
end Go.Proofs.YtbfnobcidnmohaaGreat
namespace Go.Proofs.YtbfnobcidnmohaaGreat
open Go.RowKit
variable [DecidableEq Vot] [Inhabited Vot] [DecidableEq Slt] [Inhabited Slt]
attribute [local go_sem ↓] Go.wp_at_zero Go.wp_at_succ
structure SltsR where
 code:Int
 slots:List Slt
variable [DecidableEq SltsR] [Inhabited SltsR]
end Go.Proofs.YtbfnobcidnmohaaGreat
namespace Go.Proofs.YtbfnobcidnmohaaGreat
open Go.RowKit
variable [DecidableEq Vot] [Inhabited Vot] [DecidableEq Slt] [Inhabited Slt] [DecidableEq SltR] [Inhabited SltR] [DecidableEq Bal] [Inhabited Bal] [DecidableEq Ledg] [Inhabited Ledg] [DecidableEq Leg] [Inhabited Leg] [DecidableEq Acc] [Inhabited Acc] [DecidableEq AccR] [Inhabited AccR] [DecidableEq AccsR] [Inhabited AccsR] [DecidableEq SltsR] [Inhabited SltsR]
def cmpZ (x y:Int):Int:=if x<y then -1 else if y<x then 1 else 0
def orZ (x y:Int):Int:=if x=0 then y else x
def cmpS (x y:Slt):Int:=orZ (cmpZ x.con y.con) (cmpZ x.sh y.sh)
def mE (x y:Slt):Bool:=decide (cmpS x y<0)
theorem vB {x y:Int}:cmpZ x y<0↔x<y:=by unfold cmpZ;(repeat' split) <;> omega
theorem cmpZ_eq {x y:Int}:cmpZ x y=0↔x=y:=by unfold cmpZ;(repeat' split) <;> omega
theorem fUl {x y:Slt}:cmpS x y<0↔x.con<y.con∨(x.con=y.con∧x.sh<y.sh):=by
 have h1:=vB (x:=x.con) (y:=y.con);have h2:=vB (x:=x.sh) (y:=y.sh);have h3:=cmpZ_eq (x:=x.con) (y:=y.con);unfold cmpS orZ;split <;> omega
theorem fNb {x y:Slt}:mE x y=true↔x.con<y.con∨(x.con=y.con∧x.sh<y.sh):=by unfold mE;rw[decide_eq_true_eq];exact fUl
def rF (xs:List Slt) (k:Nat):Int:=if gX (xs.getD k default)=0 then (if k=0 then 0 else if mE (xs.getD (k-1) default) (xs.getD k default)=true then 0 else 1) else gX (xs.getD k default)
def accF (xs:List Slt):Int:=if 60<xs.length then 2 else fC (rF xs) xs.length
theorem fGv {xs:List Slt} (h:60<xs.length):accF xs=2:=by unfold accF;rw[if_pos h]
theorem fLu {xs:List Slt} {k:Nat} {c:Int} (h:¬60<xs.length) (hk:k<xs.length) (hs:fC (rF xs) k=0) (hc:rF xs k=c) (h0:¬c=0):accF xs=c:=by
 have e:=fH hs (by rw[hc];exact h0) _ hk;unfold accF;rw[if_neg h,e,hc]
theorem fLt {xs:List Slt} (h:¬60<xs.length) (hs:fC (rF xs) xs.length=0):accF xs=0:=by unfold accF;rw[if_neg h,hs]
def posS (s:Slt):List Slt→Nat
 | []=>0
 | x::xs=>if mE x s=true then posS s xs+1 else 0
def putS (xs:List Slt) (s:Slt):List Slt:=if posS s xs<xs.length∧mE s (xs.getD (posS s xs) default)=false then xs.set (posS s xs) s else xs.take (posS s xs)++[s]++xs.drop (posS s xs)
end Go.Proofs.YtbfnobcidnmohaaGreat
namespace Go.Proofs.YtbfnobcidnmohaaGreat
open Go.RowKit Go.Maps
def kv (s a t:Int):Value:=.agg #[.int .i64 s,.int .i64 a,.int .i64 t]
def kwf (s a t:Int):Prop:=(Lit.int .i64 s).wf=true∧(Lit.int .i64 a).wf=true∧(Lit.int .i64 t).wf=true
theorem xK {n:Int} (h0 : -9223372036854775808≤n) (h1:n≤9223372036854775807):(Lit.int .i64 n).wf=true:=by
 simp[Lit.wf,IntKind.min,IntKind.max,IntKind.signed,IntKind.bits];omega
theorem fFi:(match Tryz.prog.underlying 183 with|some (.array _ _)|some (.struct _)=>true|_=>false)=true:=by rw[Tryz.underlying183]
theorem holdLaw:Keyed Tryz.prog 183:=Keyed.of_law (deep_law_laid laidOut (m:=2) (by omega) (of_decide_eq_true (by kernel_rfl)) (by kernel_rfl) fFi)
theorem fCl:Tryz.prog.cellsOf 183=3:=by kernel_rfl
theorem fSm:Tryz.prog.keyType 183=true:=by kernel_rfl
theorem fHr:∃d,Tryz.prog.types.size+1=d+1+1:=⟨Tryz.prog.types.size-1,by have h:0<Tryz.prog.types.size:=of_decide_eq_true (by kernel_rfl);omega⟩
theorem fKp (d:Nat) (n:Int) (h:(Lit.int .i64 n).wf=true):Tryz.prog.keyLits (d+1) 2 [.int .i64 n]=some [.int .i64 n]:=by
 unfold Program.keyLits;rw[Tryz.underlying2];simp[h]
theorem xV {s a t:Int} (h:kwf s a t):∃kl,keyOf Tryz.prog 183 (kv s a t)=some kl:=by
 obtain⟨d,hd⟩:=fHr;obtain⟨h0,h1,h2⟩:=h;have hc:Tryz.prog.cellsOf 2=1:=by kernel_rfl
 have hf:(kv s a t).formed Tryz.prog 183=true:=by simp[kv,Value.formed,Tryz.underlying183,fCl]
 have hl:Tryz.prog.keyLits (Tryz.prog.types.size+1) 183 (kv s a t).cells.toList=some [.int .i64 s,.int .i64 a,.int .i64 t]:=by
  rw[hd];unfold Program.keyLits;rw[Tryz.underlying183];simp[kv,Value.cells,fCl,hc,List.range,List.range.loop,fKp d s h0,fKp d a h1,fKp d t h2]
 unfold keyOf;rw[Tryz.underlying183];dsimp only;rw[if_pos (by rw[fSm,hf];rfl),hl];exact⟨_,rfl⟩
theorem yR {d:Nat} {c:Value} {l:List Lit} (h:Tryz.prog.keyLits (d+1) 2 [c]=some l):∃n,c = .int .i64 n∧(Lit.int .i64 n).wf=true:=by
 unfold Program.keyLits at h;rw[Tryz.underlying2] at h;cases c <;> simp at h
 obtain⟨⟨rfl,hw⟩,_⟩:=h;exact⟨_,rfl,hw⟩
theorem fH4 {v:Value} {kl:Lit} (h:keyOf Tryz.prog 183 v=some kl):∃s a t,v=kv s a t∧kwf s a t:=by
 obtain⟨xs,L,rfl,hl,_⟩:=keyOf_top fFi h;obtain⟨d,hd⟩:=fHr;have hc:Tryz.prog.cellsOf 2=1:=by kernel_rfl
 rw[hd] at hl;unfold Program.keyLits at hl;rw[Tryz.underlying183] at hl;simp only[fCl,hc] at hl;split at hl
 ·
  rename_i h3;obtain⟨l⟩:=xs;match l,h3 with
  | [c0,c1,c2],_=>
   simp[List.range,List.range.loop] at hl;cases e0:Tryz.prog.keyLits (d+1) 2 [c0] with
   | none=>simp[e0] at hl
   | some l0=>
    cases e1:Tryz.prog.keyLits (d+1) 2 [c1] with
    | none=>simp[e0,e1] at hl
    | some l1=>
     cases e2:Tryz.prog.keyLits (d+1) 2 [c2] with
     | none=>simp[e0,e1,e2] at hl
     | some l2=>
      obtain⟨n0,rfl,w0⟩:=yR e0;obtain⟨n1,rfl,w1⟩:=yR e1;obtain⟨n2,rfl,w2⟩:=yR e2;exact⟨n0,n1,n2,rfl,w0,w1,w2⟩
 cases hl
theorem fMf {s a t s' a' t':Int} (h:kv s a t=kv s' a' t'):s=s'∧a=a'∧t=t':=by
 simpa [kv] using h
def Book (w:World) (b n:Nat) (f:Int→Int→Int→Option Int):Prop:=
 ∃D:DataW Unit,w.ownsMap Tryz.prog 183 (plainElem Tryz.prog 2) b n D ∧
  ∀s a t kl,keyOf Tryz.prog 183 (kv s a t)=some kl→Maps.has D kl=(f s a t).isSome∧D.atKey kl (.lit (.int .i64 0)) = .lit (.int .i64 ((f s a t).getD 0))
def upd3 (f:Int→Int→Int→Option Int) (s a t:Int) (v:Option Int):Int→Int→Int→Option Int:=fun s' a' t'=>if s'=s∧a'=a∧t'=t then v else f s' a' t'
theorem fPv (w:World):Book (w.alloc (.map #[] 0)) w.heap.size 0 (fun _ _ _=>none):=
 ⟨_,World.ownsMap_made w _ _ _,fun _ _ _ _ _=>⟨rfl,rfl⟩⟩
theorem Book.lt {w:World} {b n:Nat} {f:Int→Int→Int→Option Int} (h:Book w b n f):b<w.heap.size:=by
 obtain⟨D,hD,_⟩:=h;exact hD.lt
theorem Book.kept {w w':World} {b n:Nat} {f:Int→Int→Int→Option Int} {row:Option Nat} (h:Book w b n f) (hg:w.grownBy w' row) (hne:some b≠row):Book w' b n f:=by
 obtain⟨D,hD,h1⟩:=h;exact⟨D,hD.kept hg hne,h1⟩
theorem Book.below {w w':World} {b n:Nat} {f:Int→Int→Int→Option Int} (h:Book w b n f) (hb:Below w.heap.size w w'):Book w' b n f:=h.kept (yF hb) (by simp)
theorem Book.mono {w:World} {b n n':Nat} {f:Int→Int→Int→Option Int} (h:Book w b n f) (hn:n≤n'):Book w b n' f:=by
 obtain⟨D,hD,h1⟩:=h;exact⟨D,hD.mono hn,h1⟩
theorem Book.cast {w:World} {b n:Nat} {f g:Int→Int→Int→Option Int} (h:Book w b n f) (hf:∀s a t,kwf s a t→g s a t=f s a t):Book w b n g:=by
 obtain⟨D,hD,h1⟩:=h;refine⟨D,hD,fun s a t kl hk=>?_⟩;obtain⟨s',a',t',e,hw⟩:=fH4 hk;obtain⟨rfl,rfl,rfl⟩:=fMf e;rw[hf _ _ _ hw];exact h1 _ _ _ _ hk
theorem Book.turned {w w':World} {b n:Nat} {f:Int→Int→Int→Option Int} (h:Book w b n f) {F:Nat→Prop} (hm:Mod F w w') (hF:¬F b):Book w' b n f:=by
 obtain⟨D,⟨es,clock,hb,h2⟩,h1⟩:=h;refine⟨D,⟨es,clock,?_,h2⟩,h1⟩;have hlt:b<w.heap.size:=by
  rcases Nat.lt_or_ge b w.heap.size with h|h
  ·
   exact h
  rw[Array.getElem?_eq_none h] at hb;cases hb
 rw[hm.block b hlt hF];exact hb
theorem fRp (w:World):(zeroValue 2).run Tryz.prog w = .ok (.int .i64 0) w:=by kernel_rfl
theorem Book.look {w:World} {b n:Nat} {f:Int→Int→Int→Option Int} (h:Book w b n f) {s a t:Int} (hw:kwf s a t) :
  (Instr.lookup 93 (.map (some b)) (kv s a t) false).run Tryz.prog w = .ok (.int .i64 ((f s a t).getD 0)) w∧(Lit.int .i64 ((f s a t).getD 0)).wf=true:=by
 obtain⟨D,hD,h1⟩:=h;obtain⟨kl,hk⟩:=xV hw;obtain⟨c,hrun,hat,hwc⟩:=hD.lookup_int holdLaw Tryz.underlying93 Tryz.underlying2 (fRp w) hk;have:=(h1 s a t kl hk).2;rw[hat] at this;simp at this;rw[←this];exact⟨hrun,hwc⟩
theorem Book.put {w:World} {b n:Nat} {f:Int→Int→Int→Option Int} (h:Book w b n f) {s a t v:Int} (hw:kwf s a t) (hv:(Lit.int .i64 v).wf=true) (hn:n<maxLen) :
  ∃w',(Instr.mapUpdate 93 (.map (some b)) (kv s a t) (.int .i64 v)).run Tryz.prog w = .ok () w'∧Book w' b (n+1) (upd3 f s a t (some v))∧w.grownBy w' (some b):=by
 obtain⟨D,hD,h1⟩:=h;obtain⟨kl,hk⟩:=xV hw;obtain⟨w',hrun,hD',hg⟩:=hD.update holdLaw Tryz.underlying93 hn hk (plainElem_int Tryz.underlying2 hv);refine⟨w',hrun,⟨_,hD',fun s' a' t' kl' hk'=>?_⟩,hg⟩;unfold upd3;by_cases e:kl'=kl
 ·
  subst e;have:=holdLaw.inj hk' hk;obtain⟨rfl,rfl,rfl⟩:=fMf this;rw[if_pos ⟨rfl,rfl,rfl⟩];exact⟨has_put_same hD.isMap (holdLaw.key hk) _,atKey_put_same hD.isMap (holdLaw.key hk) _ _⟩
 rw[if_neg (by
  rintro⟨rfl,rfl,rfl⟩;rw[hk] at hk';exact e (by simpa using hk'.symm)),has_put_other e,atKey_put_other e]
 exact h1 s' a' t' kl' hk'
theorem Book.del {w:World} {b n:Nat} {f:Int→Int→Int→Option Int} (h:Book w b n f) {s a t:Int} (hw:kwf s a t) (ty:TypeId) :
  ∃w',(Builtin.delete_ #[93,183] ty #[.map (some b),kv s a t]).run Tryz.prog w = .ok (.tuple #[]) w'∧Book w' b n (upd3 f s a t none)∧w.grownBy w' (some b):=by
 obtain⟨D,hD,h1⟩:=h;obtain⟨kl,hk⟩:=xV hw;obtain⟨w',hrun,hD',hg⟩:=hD.drop holdLaw Tryz.underlying93 hk ty;refine⟨w',hrun,⟨_,hD',fun s' a' t' kl' hk'=>?_⟩,hg.grown⟩;unfold upd3;by_cases e:kl'=kl
 ·
  subst e;have:=holdLaw.inj hk' hk;obtain⟨rfl,rfl,rfl⟩:=fMf this;rw[if_pos ⟨rfl,rfl,rfl⟩];exact⟨has_del_same,atKey_del_same _⟩
 rw[if_neg (by
  rintro⟨rfl,rfl,rfl⟩;rw[hk] at hk';exact e (by simpa using hk'.symm)),has_del_other e,atKey_del_other e]
 exact h1 s' a' t' kl' hk'
end Go.Proofs.YtbfnobcidnmohaaGreat
namespace Go.Proofs.YtbfnobcidnmohaaGreat
open Go.RowKit
attribute [local go_sem ↓] Go.wp_at_zero Go.wp_at_succ
structure Rw where
 key:ByteArray
 ver:Int
 val:ByteArray
 gone:Bool
variable [DecidableEq Rw] [Inhabited Rw]
variable [DecidableEq Rw] [Inhabited Rw]
def Fit (xs:List Rw):Prop:=∀i,i<xs.length→(xs.getD i default).key.size≤maxLen∧(xs.getD i default).val.size≤maxLen
def cmpB (a b:ByteArray):Int:=Lib.compareBytes a.data.toList b.data.toList
def cmpI (x y:Int):Int:=if x<y then -1 else if y<x then 1 else 0
def orI (x y:Int):Int:=if x=0 then y else x
def cmpR (a b:Rw):Int:=orI (cmpB a.key b.key) (cmpI b.ver a.ver)
def ahead (a b:Rw):Bool:=decide (cmpR a b<0)
theorem fQg (x:Int) (w:World) :
  Calls Tryz.prog 292 #[.int .i64 x] w fun e w'=>e = .returned (.bool false)∧w'=w:=by
 go_enter Tryz.func292,Tryz.ntmps292;go_wp2;go_ret;exact⟨rfl,rfl⟩
theorem yE (x y:Int) (w:World) :
  Calls Tryz.prog 247 #[.int .i64 x,.int .i64 y] w fun e w'=>e = .returned (.int .i64 (cmpI x y))∧w'=w:=by
 go_enter Tryz.func247,Tryz.ntmps247;go_wp2_with (go_at_call 292;refine(fQg _ _).mono ?_;rintro e w' ⟨rfl,rfl⟩);all_goals (go_ret;refine⟨?_,rfl⟩;unfold cmpI;(repeat' split) <;> first|rfl|(exfalso;omega))
variable [DecidableEq Bal] [Inhabited Bal] [DecidableEq Ledg] [Inhabited Ledg] [DecidableEq Leg] [Inhabited Leg]
def yO (x y:Nat→Int):Nat→Int
 | 0=>0
 | k+1=>if yO x y k=0 then cmpI (x k) (y k) else yO x y k
theorem fAz (W:World) (b1 b2:Nat) (x y:Nat→Int) (hx:∀i,i<3→W.cell? ⟨b1,i,none⟩=some (.int .i64 (x i))) (hy:∀i,i<3→W.cell? ⟨b2,i,none⟩=some (.int .i64 (y i))) :
  Calls Tryz.prog 188 #[.slice (some ⟨b1,0,none⟩) 3 3,.slice (some ⟨b2,0,none⟩) 3 3] W fun e w'=>e = .returned (.int .i64 (yO x y 3))∧w'=W:=by
 have HX:Hid (∀i,i<3→W.cell? ⟨b1,i,none⟩=some (.int .i64 (x i))):=hx;have HY:Hid (∀i,i<3→W.cell? ⟨b2,i,none⟩=some (.int .i64 (y i))):=hy;clear hx hy;go_enter Tryz.func188,Tryz.ntmps188;go_wp2;go_loopw [11] (fun i w'=>∃k:Nat,k≤3∧i = .int .i64 k∧Hid (yO x y k=0)∧w'=W) (fun i _=>3-(intOf i).toNat)
 case atStart=>exact⟨0,by omega,rfl,rfl,rfl⟩
 obtain⟨k,hk,rfl,HC,rfl⟩:=hrel;by_cases hk3:k<3
 ·
  have hk':(k:Int)<3:=by omega
  have hk0:(0:Int)≤k:=by omega
  have hk1:¬((3:Int)≤k):=by omega
  have hwk:IntKind.i64.wrap ((k:Int)+1)=(k:Int)+1:=gM (by omega) (by omega);have g1:=HX.out k hk3;have g2:=HY.out k hk3;have HS:Hid (yO x y (k+1)=cmpI (x k) (y k)):=by unfold Hid;rw[yO,if_pos HC.out]
  generalize x k=xk at *;generalize y k=yk at *;by_cases hz:cmpI xk yk=0
  ·
   have HC':Hid (yO x y (k+1)=0):=by rw[Hid,HS.out];exact hz
   go_wp2_with fail;refine(yE xk yk _).mono ?_;rintro e w' ⟨rfl,hw⟩;obtain rfl:=hw.symm;rw[hz];go_wp2;exact⟨⟨k+1,by omega,by go_num,HC',by trivial⟩,by simp[intOf];omega⟩
  have HE:Hid (yO x y 3=cmpI xk yk):=by
   have key:∀d,k+1+d≤3→yO x y (k+1+d)=cmpI xk yk:=by
    intro d;induction d with
    | zero=>intro _;exact HS.out
    | succ d ih=>
     intro h;have:=ih (by omega);rw[show k+1+(d+1)=(k+1+d)+1 by omega,yO,if_neg (by rw[this];exact hz),this]
   have:=key (2-k) (by omega);rw[show k+1+(2-k)=3 by omega] at this;exact this
  go_wp2_with fail;refine(yE xk yk _).mono ?_;rintro e w' ⟨rfl,hw⟩;obtain rfl:=hw.symm;generalize cmpI xk yk=r at *;go_wp2;go_ret;exact⟨by rw[HE.out];rfl,by trivial⟩
 have hk3':k=3:=by omega
 subst hk3';go_wp2;go_ret;exact⟨by rw[HC.out];rfl,by trivial⟩
def k3 (s a t:Int) (i:Nat):Int:=if i=0 then s else if i=1 then a else t
theorem fB7 (s a t s' a' t':Int) (W:World) :
  Calls Tryz.prog 110 #[kv s a t,kv s' a' t'] W fun e w'=>e = .returned (.int .i64 (yO (k3 s a t) (k3 s' a' t') 3))∧w'=((W.alloc (.cells #[.int .i64 s,.int .i64 a,.int .i64 t] 183)).alloc (.cells #[.int .i64 s',.int .i64 a',.int .i64 t'] 183)).drew:=by
 unfold kv;go_enter Tryz.func110,Tryz.ntmps110;go_wp2;refine wp_region_noPanic ?_;refine fA (fun W'=>W'=((W.alloc (.cells #[.int .i64 s,.int .i64 a,.int .i64 t] 183)).alloc (.cells #[.int .i64 s',.int .i64 a',.int .i64 t'] 183)).drew) 4 (by kernel_rfl) rfl (fun hS=>?_);refine tM 0 rfl hS ?_;try simp only[jX]
 refine tM 1 rfl hS ?_;try simp only[jX]
 refine uS 2 rfl (fun K hK=>?_);go_simp;refine(fAz _ W.heap.size (W.heap.size+1) (k3 s a t) (k3 s' a' t') ?_ ?_).mono ?_
 ·
  intro i hi;match i,hi with
  | 0,_=>simp[go_sem,k3]
  | 1,_=>simp[go_sem,k3]
  | 2,_=>simp[go_sem,k3]
 ·
  intro i hi;match i,hi with
  | 0,_=>simp[go_sem,k3]
  | 1,_=>simp[go_sem,k3]
  | 2,_=>simp[go_sem,k3]
 rintro e w' ⟨rfl,hw⟩;refine hK _ _ (fun _=>hw) ?_;clear hK K;obtain⟨r,hr⟩:∃r,yO (k3 s a t) (k3 s' a' t') 3=r:=⟨_,rfl⟩
 have HR:Hid (yO (k3 s a t) (k3 s' a' t') 3=r):=hr;rw[hr];clear hr;try simp only[jX]
 refine uS 3 rfl (fun K hK=>?_);go_simp;refine hK _ _ (fun _=>by first|rfl|exact hw) ?_;clear hK K;refine dN (NoPanic.normal ?_);go_wp2;go_ret;exact⟨by rw[HR.out];rfl,by first|rfl|exact hw⟩
end Go.Proofs.YtbfnobcidnmohaaGreat

import Derived.Maps.OwnSet
import Derived.DeepKeys4
import Derived.Lib.Bytealg
import Derived.Lib.Walk
import Derived.Test.YtpibfdebfacooaaGreatPrnCrashJournalLaw6
set_option maxHeartbeats 1000000
set_option maxRecDepth 20000
set_option linter.unusedSectionVars false
set_option linter.unusedSimpArgs false
namespace Go.Proofs.YtpibfdebfacooaaGreat
open Go.RowKit
attribute [local go_sem ↓] Go.wp_at_zero Go.wp_at_succ
section
open Go.Maps
def kv (s a t:Int):Value:=.agg #[.int .i64 s,.int .i64 a,.int .i64 t]
def kwf (s a t:Int):Prop:=(Lit.int .i64 s).wf=true∧(Lit.int .i64 a).wf=true∧(Lit.int .i64 t).wf=true
theorem zP {n:Int} (h0 : -9223372036854775808≤n) (h1:n≤9223372036854775807):(Lit.int .i64 n).wf=true:=by
 simp[Lit.wf,IntKind.min,IntKind.max,IntKind.signed,IntKind.bits];omega
theorem fIs:(match Tryz.prog.underlying 254 with|some (.array _ _)|some (.struct _)=>true|_=>false)=true:=by rw[Tryz.underlying254]
theorem holdLaw:Keyed Tryz.prog 254:=Keyed.of_law (deep_law_laid laidOut (m:=2) oM (of_decide_eq_true kF) kF fIs)
theorem fEu:Tryz.prog.cellsOf 254=3:=kF
theorem fVd:Tryz.prog.keyType 254=true:=kF
theorem fKf:∃d,Tryz.prog.types.size+1=d+1+1:=⟨Tryz.prog.types.size-1,by have h:0<Tryz.prog.types.size:=of_decide_eq_true kF;omega⟩
theorem fMm (d:Nat) (n:Int) (h:(Lit.int .i64 n).wf=true):Tryz.prog.keyLits (d+1) 2 [.int .i64 n]=some [.int .i64 n]:=by
 unfold Program.keyLits;rw[Tryz.underlying2];simp[h]
theorem fAb {s a t:Int} (h:kwf s a t):∃kl,keyOf Tryz.prog 254 (kv s a t)=some kl:=by
 obtain⟨d,hd⟩:=fKf;obtain⟨h0,h1,h2⟩:=h;have hc:Tryz.prog.cellsOf 2=1:=kF;have hf:(kv s a t).formed Tryz.prog 254=true:=by simp[kv,Value.formed,Tryz.underlying254,fEu]
 have hl:Tryz.prog.keyLits (Tryz.prog.types.size+1) 254 (kv s a t).cells.toList=some [.int .i64 s,.int .i64 a,.int .i64 t]:=by
  rw[hd];unfold Program.keyLits;rw[Tryz.underlying254];simp[kv,Value.cells,fEu,hc,List.range,List.range.loop,fMm d s h0,fMm d a h1,fMm d t h2]
 unfold keyOf;rw[Tryz.underlying254];dsimp only;rw[if_pos (by rw[fVd,hf];rfl),hl];exact⟨_,rfl⟩
theorem fAy {d:Nat} {c:Value} {l:List Lit} (h:Tryz.prog.keyLits (d+1) 2 [c]=some l):∃n,c =.int .i64 n∧(Lit.int .i64 n).wf=true:=by
 unfold Program.keyLits at h;rw[Tryz.underlying2] at h;cases c <;> simp at h
 obtain⟨⟨rfl,hw⟩,_⟩:=h;exact⟨_,rfl,hw⟩
theorem fKo {v:Value} {kl:Lit} (h:keyOf Tryz.prog 254 v=some kl):∃s a t,v=kv s a t∧kwf s a t:=by
 obtain⟨xs,L,rfl,hl,_⟩:=keyOf_top fIs h;obtain⟨d,hd⟩:=fKf;have hc:Tryz.prog.cellsOf 2=1:=kF;rw[hd] at hl;unfold Program.keyLits at hl;rw[Tryz.underlying254] at hl;simp only[fEu,hc] at hl;split at hl
 ·
  rename_i h3;obtain⟨l⟩:=xs;match l,h3 with
  | [c0,c1,c2],_=>
   simp[List.range,List.range.loop] at hl;cases e0:Tryz.prog.keyLits (d+1) 2 [c0] with
   | none=>simp[e0] at hl
   | some l0=>
    cases e1:Tryz.prog.keyLits (d+1) 2 [c1] with
    | none=>simp[e0,e1] at hl
    | some l1=>
     cases e2:Tryz.prog.keyLits (d+1) 2 [c2] with
     | none=>simp[e0,e1,e2] at hl
     | some l2=>
      obtain⟨n0,rfl,w0⟩:=fAy e0;obtain⟨n1,rfl,w1⟩:=fAy e1;obtain⟨n2,rfl,w2⟩:=fAy e2;exact⟨n0,n1,n2,rfl,w0,w1,w2⟩
 cases hl
theorem fOo {s a t s' a' t':Int} (h:kv s a t=kv s' a' t'):s=s'∧a=a'∧t=t':=by
 simpa [kv] using h
def Book (w:World) (b n:Nat) (f:Int→Int→Int→Option Int):Prop:=
 ∃D:DataW Unit,w.ownsMap Tryz.prog 254 (plainElem Tryz.prog 2) b n D ∧
  ∀s a t kl,keyOf Tryz.prog 254 (kv s a t)=some kl→Maps.has D kl=(f s a t).isSome∧D.atKey kl (.lit (.int .i64 0)) =.lit (.int .i64 ((f s a t).getD 0))
def upd3 (f:Int→Int→Int→Option Int) (s a t:Int) (v:Option Int):Int→Int→Int→Option Int:=fun s' a' t'=>if s'=s∧a'=a∧t'=t then v else f s' a' t'
theorem fR1 (w:World):Book (w.alloc (.map #[] 0)) w.heap.size 0 (fun _ _ _=>none):=
 ⟨_,World.ownsMap_made w _ _ _,fun _ _ _ _ _=>⟨rfl,rfl⟩⟩
theorem Book.lt {w:World} {b n:Nat} {f:Int→Int→Int→Option Int} (h:Book w b n f):b<w.heap.size:=by
 obtain⟨D,hD,_⟩:=h;exact hD.lt
theorem Book.kept {w w':World} {b n:Nat} {f:Int→Int→Int→Option Int} {row:Option Nat} (h:Book w b n f) (hg:w.grownBy w' row) (hne:some b≠row):Book w' b n f:=by
 obtain⟨D,hD,h1⟩:=h;exact⟨D,hD.kept hg hne,h1⟩
theorem Book.below {w w':World} {b n:Nat} {f:Int→Int→Int→Option Int} (h:Book w b n f) (hb:Below w.heap.size w w'):Book w' b n f:=h.kept (fAg hb) (by simp)
theorem Book.mono {w:World} {b n n':Nat} {f:Int→Int→Int→Option Int} (h:Book w b n f) (hn:n≤n'):Book w b n' f:=by
 obtain⟨D,hD,h1⟩:=h;exact⟨D,hD.mono hn,h1⟩
theorem Book.cast {w:World} {b n:Nat} {f g:Int→Int→Int→Option Int} (h:Book w b n f) (hf:∀s a t,kwf s a t→g s a t=f s a t):Book w b n g:=by
 obtain⟨D,hD,h1⟩:=h;refine⟨D,hD,fun s a t kl hk=>?_⟩;obtain⟨s',a',t',e,hw⟩:=fKo hk;obtain⟨rfl,rfl,rfl⟩:=fOo e;rw[hf _ _ _ hw];exact h1 _ _ _ _ hk
theorem Book.turned {w w':World} {b n:Nat} {f:Int→Int→Int→Option Int} (h:Book w b n f) {F:Nat→Prop} (hm:Mod F w w') (hF:¬F b):Book w' b n f:=by
 obtain⟨D,⟨es,clock,hb,h2⟩,h1⟩:=h;refine⟨D,⟨es,clock,?_,h2⟩,h1⟩;have hlt:b<w.heap.size:=by
  rcases Nat.lt_or_ge b w.heap.size with h|h
  ·exact h
  rw[Array.getElem?_eq_none h] at hb;cases hb
 rw[hm.block b hlt hF];exact hb
theorem fUf (w:World):(zeroValue 2).run Tryz.prog w =.ok (.int .i64 0) w:=kF
theorem Book.look {w:World} {b n:Nat} {f:Int→Int→Int→Option Int} (h:Book w b n f) {s a t:Int} (hw:kwf s a t) :
  (Instr.lookup 225 (.map (some b)) (kv s a t) false).run Tryz.prog w =.ok (.int .i64 ((f s a t).getD 0)) w∧(Lit.int .i64 ((f s a t).getD 0)).wf=true:=by
 obtain⟨D,hD,h1⟩:=h;obtain⟨kl,hk⟩:=fAb hw;obtain⟨c,hrun,hat,hwc⟩:=hD.lookup_int holdLaw Tryz.underlying225 Tryz.underlying2 (fUf w) hk;have:=(h1 s a t kl hk).2;rw[hat] at this;simp at this;rw[←this];exact⟨hrun,hwc⟩
theorem Book.put {w:World} {b n:Nat} {f:Int→Int→Int→Option Int} (h:Book w b n f) {s a t v:Int} (hw:kwf s a t) (hv:(Lit.int .i64 v).wf=true) (hn:n<maxLen) :
  ∃w',(Instr.mapUpdate 225 (.map (some b)) (kv s a t) (.int .i64 v)).run Tryz.prog w =.ok () w'∧Book w' b (n+1) (upd3 f s a t (some v))∧w.grownBy w' (some b):=by
 obtain⟨D,hD,h1⟩:=h;obtain⟨kl,hk⟩:=fAb hw;obtain⟨w',hrun,hD',hg⟩:=hD.update holdLaw Tryz.underlying225 hn hk (plainElem_int Tryz.underlying2 hv);refine⟨w',hrun,⟨_,hD',fun s' a' t' kl' hk'=>?_⟩,hg⟩;unfold upd3;by_cases e:kl'=kl
 ·subst e;have:=holdLaw.inj hk' hk;obtain⟨rfl,rfl,rfl⟩:=fOo this;rw[if_pos ⟨rfl,rfl,rfl⟩];exact⟨has_put_same hD.isMap (holdLaw.key hk) _,atKey_put_same hD.isMap (holdLaw.key hk) _ _⟩
 rw[if_neg (by
  rintro⟨rfl,rfl,rfl⟩;rw[hk] at hk';exact e (by simpa using hk'.symm)),has_put_other e,atKey_put_other e]
 exact h1 s' a' t' kl' hk'
theorem Book.del {w:World} {b n:Nat} {f:Int→Int→Int→Option Int} (h:Book w b n f) {s a t:Int} (hw:kwf s a t) (ty:TypeId) :
  ∃w',(Builtin.delete_ #[225,254] ty #[.map (some b),kv s a t]).run Tryz.prog w =.ok (.tuple #[]) w'∧Book w' b n (upd3 f s a t none)∧w.grownBy w' (some b):=by
 obtain⟨D,hD,h1⟩:=h;obtain⟨kl,hk⟩:=fAb hw;obtain⟨w',hrun,hD',hg⟩:=hD.drop holdLaw Tryz.underlying225 hk ty;refine⟨w',hrun,⟨_,hD',fun s' a' t' kl' hk'=>?_⟩,hg.grown⟩;unfold upd3;by_cases e:kl'=kl
 ·subst e;have:=holdLaw.inj hk' hk;obtain⟨rfl,rfl,rfl⟩:=fOo this;rw[if_pos ⟨rfl,rfl,rfl⟩];exact⟨has_del_same,atKey_del_same _⟩
 rw[if_neg (by
  rintro⟨rfl,rfl,rfl⟩;rw[hk] at hk';exact e (by simpa using hk'.symm)),has_del_other e,atKey_del_other e]
 exact h1 s' a' t' kl' hk'
end
section
structure Rw where
 key:ByteArray
 ver:Int
 val:ByteArray
 gone:Bool
variable [dQ Rw] [iH Rw]
variable [dQ Rw] [iH Rw]
def Fit (xs:List Rw):Prop:=∀i,i<xs.length→(xs.getD i default).key.size≤maxLen∧(xs.getD i default).val.size≤maxLen
def cmpB (a b:ByteArray):Int:=Lib.compareBytes a.data.toList b.data.toList
def cmpI (x y:Int):Int:=if x<y then -1 else if y<x then 1 else 0
def orI (x y:Int):Int:=if x=0 then y else x
def cmpR (a b:Rw):Int:=orI (cmpB a.key b.key) (cmpI b.ver a.ver)
def ahead (a b:Rw):Bool:=decide (cmpR a b<0)
theorem fSv (x:Int) (w:World) :
  Calls Tryz.prog 230 #[.int .i64 x] w fun e w'=>e =.returned (.bool false)∧w'=w:=by
 go_enter Tryz.func230,Tryz.ntmps230;go_wp2;go_ret;exact⟨rfl,rfl⟩
theorem fAf (x y:Int) (w:World) :
  Calls Tryz.prog 210 #[.int .i64 x,.int .i64 y] w fun e w'=>e =.returned (.int .i64 (cmpI x y))∧w'=w:=by
 go_enter Tryz.func210,Tryz.ntmps210;go_wp2_with (go_at_call 230;refine(fSv _ _).mono ?_;rintro e w' ⟨rfl,rfl⟩);all_goals (go_ret;refine⟨?_,rfl⟩;unfold cmpI;(repeat' split) <;> first|rfl|(exfalso;omega))
end
section
section
variable {P : Program} {ops : Array Oper} {Q : Exit → Act → World → Prop} {md : Region.Mode} {S : World → Prop} {t : Nat}
theorem fA2 {i:Nat} {oi:Oper} {v:Value} (hi:ops[i]? = some oi) (hsel:Region.noSelect ops=true) (ht:ops[t]? = none)
  (hQ:∀c a w,Q (.panic c) (a.put oi.dst v) w→Q (.panic c) a w) :
  ∀(f:Nat) (listed:Array Bool) (a:Act) (w:World),
   (∀j oj,ops[j]? = some oj→j≠i→listed.getD j true=false→(∀e ∈ oj.after,Region.binds md e=true→e.on≠i)→oi.apart ops oj=true) →
   i ∈ Region.ready md ops listed→YieldsIf P ops S oi v a→S w →
   gW P md ops Q S t f (listed.setIfInBounds i true) (a.put oi.dst v) w→gW P md ops Q S t (f+1) listed a w:=by
 intro f;induction f with
 | zero=>
  intro listed a w _ hr hy hS H;refine⟨fun h=>(by rw[h] at hr;cases hr),fun j hj=>?_⟩;by_cases hji:j=i
  ·subst hji;exact hy.wpOp hi hS ⟨fun _=>hS,H⟩
  have hm:=ready_mono hj hji;rw[H.1] at hm;cases hm
 | succ f ih=>
  intro listed a w hfree hr hy hS H;refine⟨fun h=>(by rw[h] at hr;cases hr),fun j hj=>?_⟩;by_cases hji:j=i
  ·subst hji;exact hy.wpOp hi hS ⟨fun _=>hS,H⟩
  obtain⟨hjun,oj,hoj,hall⟩:=mem_ready.1 hj;have hun:=(mem_ready.1 hr).1;have hnl:¬listed.getD i false=true:=by
   intro h1;rcases Nat.lt_or_ge i listed.size with h'|h'
   ·simp[h'] at hun h1;rw[hun] at h1;cases h1
   simp[Array.getElem?_eq_none h'] at h1
  have hnot:∀e ∈ oj.after,Region.binds md e=true→e.on≠i:=fun e he hb heq=>hnl (by rw[←heq];exact hall e he hb)
  have hjt:j≠t:=by
   rintro rfl;rw[ht] at hoj;cases hoj
  have h1:=H.2 j (ready_mono hj hji);have h2:=wpOp_putIf hoj (hfree j oj hoj hji hjun hnot) (fun cs b=>Region.noSelect_spec hsel i oi cs b hi) (fun cs b=>Region.noSelect_spec hsel j oj cs b hoj) hQ hy h1;refine wpOp_mono (fun a' w' h3=>⟨h3.2.1,ih (listed.setIfInBounds j true) a' w' ?_ (ready_mono hr (Ne.symm hji)) h3.1 (h3.2.1 hjt) ?_⟩) h2
  ·
   intro k ok hk hki hunk hno;refine hfree k ok hk hki ?_ hno;by_cases hjk:j=k
   ·subst hjk;exact hjun
   rw[getD_set_ne true hjk] at hunk;exact hunk
  rw[Array.setIfInBounds_comm _ _ hji];exact h3.2.2
theorem mO {i:Nat} {oi:Oper} {v:Value} {f:Nat} {listed:Array Bool} {a:Act} {w:World} (hi:ops[i]? = some oi) (hsel:Region.noSelect ops=true) (ht:ops[t]? = none)
  (hf:Region.free md ops listed i=true) (hr:(Region.ready md ops listed).contains i=true) (hQ:∀c a w,Q (.panic c) (a.put oi.dst v) w→Q (.panic c) a w)
  (hwd:Region.wanted oi (yielded ops a.tmps)=true) (hS:S w) (hy:∀w,S w→(execOp a.eval oi).run P w =.ok (.value v) w)
  (h:gW P md ops Q S t f (listed.setIfInBounds i true) (a.put oi.dst v) w):gW P md ops Q S t (f+1) listed a w:=
 fA2 hi hsel ht hQ f listed a w (Region.free_spec hi hf) (by simpa using hr) (Or.inl ⟨hwd,hy⟩) hS h
theorem tN {i:Nat} {oi:Oper} {v:Value} {f:Nat} {listed:Array Bool} {a:Act} {w:World} (hi:ops[i]? = some oi) (hb:(Region.noSelect ops&&(ops[t]?).isNone&&Region.free md ops listed i&&(Region.ready md ops listed).contains i)=true)
  (hS:S w) (hy:∀w,S w→(execOp a.eval oi).run P w =.ok (.value v) w)
  (h:gW P md ops Q S t f (listed.setIfInBounds i true) (a.put oi.dst v) w) (hQ:∀c a w,Q (.panic c) (a.put oi.dst v) w→Q (.panic c) a w:=by exact fun _ _ _ h=>h) (hwd:Region.wanted oi (yielded ops a.tmps)=true:=by rfl):gW P md ops Q S t (f+1) listed a w:=by
 simp only[Bool.and_eq_true] at hb;exact mO hi hb.1.1.1 (by simpa using hb.1.1.2) hb.1.2 hb.2 hQ hwd hS hy h
theorem tM (i:Nat) {oi:Oper} {v:Value} {f:Nat} {listed:Array Bool} {a:Act} {w:World} (hi:ops[i]? = some oi) (hS:S w) (h:gW P md ops Q S t f (listed.setIfInBounds i true) (a.put oi.dst v) w) (hb:(Region.noSelect ops&&(ops[t]?).isNone&&Region.free md ops listed i&&(Region.ready md ops listed).contains i)=true:=by kernel_rfl) (hQ:∀c a w,Q (.panic c) (a.put oi.dst v) w→Q (.panic c) a w:=by exact fun _ _ _ h=>h) (hwd:Region.wanted oi (yielded ops a.tmps)=true:=by rfl) (hy:∀w,S w→(execOp a.eval oi).run P w =.ok (.value v) w:=by intro wS hSw;(try dsimp only at hSw);go_simp;try with_reducible rfl):gW P md ops Q S t (f+1) listed a w:=by
 simp only[Bool.and_eq_true] at hb;exact mO hi hb.1.1.1 (by simpa using hb.1.1.2) hb.1.2 hb.2 hQ hwd hS hy h
theorem tX (i:Nat) {oi:Oper} {v:Value} {f:Nat} {listed:Array Bool} {a a':Act} {w:World} (h:gW P md ops Q S t f (listed.setIfInBounds i true) a' w) (hi:ops[i]? = some oi:=by rfl) (hS:S w:=by assumption) (hb:(Region.noSelect ops&&(ops[t]?).isNone&&Region.free md ops listed i&&(Region.ready md ops listed).contains i)=true:=by kernel_rfl) (hQ:∀c a w,Q (.panic c) (a.put oi.dst v) w→Q (.panic c) a w:=by exact fun _ _ _ h=>h) (hwd:Region.wanted oi (yielded ops a.tmps)=true:=by rfl) (hy:∀w,S w→(execOp a.eval oi).run P w =.ok (.value v) w:=by intro wS hSw;(try dsimp only at hSw);go_simp;try with_reducible rfl) (ha:a.put oi.dst v=a':=by first|(simp only[jX];done)|(simp only[jX];rfl)|rfl):gW P md ops Q S t (f+1) listed a w:=by
 subst ha;exact tM i hi hS h hb hQ hwd hy
theorem fRq {i:Nat} {oi:Oper} {f:Nat} {listed:Array Bool} {a:Act} {w:World} (hi:ops[i]? = some oi) (hsel:Region.noSelect ops=true) (ht:ops[t]? = none)
  (hf:Region.free md ops listed i=true) (hr:(Region.ready md ops listed).contains i=true) (hQ:∀c a w,Q (.panic c) (a.put oi.dst undef) w→Q (.panic c) a w)
  (hwd:Region.wanted oi (yielded ops a.tmps)=false) (hS:S w)
  (h:∀u:Value,gW P md ops Q S t f (listed.setIfInBounds i true) (a.put oi.dst u) w):gW P md ops Q S t (f+1) listed a w:=
 fA2 hi hsel ht hQ f listed a w (Region.free_spec hi hf) (by simpa using hr) (Or.inr ⟨hwd,rfl⟩) hS (h undef)
theorem sN (i:Nat) {oi:Oper} {f:Nat} {listed:Array Bool} {a:Act} {w:World} (hi:ops[i]? = some oi) (hS:S w) (h:∀u:Value,gW P md ops Q S t f (listed.setIfInBounds i true) (a.put oi.dst u) w) (hb:(Region.noSelect ops&&(ops[t]?).isNone&&Region.free md ops listed i&&(Region.ready md ops listed).contains i)=true:=by kernel_rfl) (hQ:∀c a w,Q (.panic c) (a.put oi.dst undef) w→Q (.panic c) a w:=by exact fun _ _ _ h=>h) (hwd:Region.wanted oi (yielded ops a.tmps)=false:=by rfl):gW P md ops Q S t (f+1) listed a w:=by
 simp only[Bool.and_eq_true] at hb;exact fRq hi hb.1.1.1 (by simpa using hb.1.1.2) hb.1.2 hb.2 hQ hwd hS h
theorem sX (i:Nat) {oi:Oper} {f:Nat} {listed:Array Bool} {a:Act} {a':Value→Act} {w:World} (h:∀u:Value,gW P md ops Q S t f (listed.setIfInBounds i true) (a' u) w) (hi:ops[i]? = some oi:=by rfl) (hS:S w:=by assumption) (hb:(Region.noSelect ops&&(ops[t]?).isNone&&Region.free md ops listed i&&(Region.ready md ops listed).contains i)=true:=by kernel_rfl) (hQ:∀c a w,Q (.panic c) (a.put oi.dst undef) w→Q (.panic c) a w:=by exact fun _ _ _ h=>h) (hwd:Region.wanted oi (yielded ops a.tmps)=false:=by rfl) (ha:∀u,a.put oi.dst u=a' u:=by intro u;first|(simp only[jX];done)|(simp only[jX];rfl)|rfl):gW P md ops Q S t (f+1) listed a w:=sN i hi hS (fun u=>by rw[ha u];exact h u) hb hQ hwd
end
end
section
variable [dQ Bal] [iH Bal]
def balssR:Rep (List (List Bal)):=nRep balsR 30 1 one
theorem fSu:(Tryz.prog.info? 30).map (fun i=>(i.zero,i.size,i.bytes))=some (some (.slice none 0 0),1,24):=kF
structure Ledg where
 shards:List (List Bal)
variable [dQ Ledg] [iH Ledg]
def ledgR:Rep Ledg where
 V:=fun w v x=>∃u1,v =.agg #[u1]∧balssR.V w u1 x.shards
 O:=fun w base F v x=>∃u1 F1,v =.agg #[u1]∧balssR.O w base F1 u1 x.shards∧(∀b,F b↔(F1 b))
 below:=fun h hb=>by
  obtain⟨u1,rfl,h1⟩:=h;exact⟨u1,rfl,balssR.below h1 hb⟩
 ofO:=fun h=>by
  obtain⟨u1,F1,rfl,h1,_⟩:=h;exact⟨u1,rfl,balssR.ofO h1⟩
 mod:=fun h hm hd=>by
  obtain⟨u1,F1,rfl,h1,hF⟩:=h;exact⟨u1,F1,rfl,balssR.mod h1 hm (fun b hb=>hd b ((hF b).2 hb)),hF⟩
 rng:=fun h b hb=>by
  obtain⟨u1,F1,rfl,h1,hF⟩:=h;rcases(hF b).1 hb with hb
  exact balssR.rng h1 b hb
 base:=fun h hb=>by
  obtain⟨u1,F1,rfl,h1,hF⟩:=h;exact⟨u1,F1,rfl,balssR.base h1 hb,hF⟩
end
section
variable [dQ Bal] [iH Bal] [dQ Ledg] [iH Ledg] [dQ Leg] [iH Leg]
theorem qP {n:Int} (h0 : -9223372036854775808≤n) (h1:n≤9223372036854775807):IntKind.i64.wrap n=n:=by
 rw[IntKind.wrap_i64];omega
theorem qN {B:Nat} {w Y:World} (h:Below B w Y) (n:Nat):Below B w (Y.drewN n):=h.trans ⟨rfl,rfl,rfl,Nat.le_refl _,fun _ _=>rfl⟩
def fJ (f:Nat→Int):Nat→Int
 | 0=>0
 | n+1=>if fJ f n=0 then f n else fJ f n
theorem gP {f:Nat→Int} {k:Nat} (h:fJ f k=0) (h':f k=0):fJ f (k+1)=0:=by simp[fJ,h,h']
theorem mW {f:Nat→Int} {k:Nat} (h:fJ f k=0) (h':f k≠0):∀n,k<n→fJ f n=f k
 | 0,hn=>oM
 | n+1,hn=>by
  by_cases e:k=n
  ·subst e;simp[fJ,h]
  have:=mW h h' n oM;simp[fJ,this,h']
theorem uM {f:Nat→Int}:∀{n:Nat},fJ f n=0→∀k,k<n→f k=0
 | 0,_,k,hk=>oM
 | n+1,h,k,hk=>by
  unfold fJ at h;split at h
  ·
   rename_i h1;by_cases e:k=n
   ·subst e;exact h
   exact uM h1 k oM
  exact absurd h (by assumption)
theorem fO4 {f:Nat→Int}:∀{n:Nat},(∀k,k<n→f k=0)→fJ f n=0
 | 0,_=>rfl
 | n+1,h=>gP (fO4 (fun k hk=>h k oM)) (h n oM)
def rA (ac ast:Int):Bool:=inB ac 0 5&&inB ast 0 2
def uO (x:Bal):Bool:=rA x.ac x.ast&&inB x.am 1 1000000000000
def behind (b a:Bal):Bool:=if b.ac=a.ac then decide (a.ast<b.ast) else decide (a.ac<b.ac)
def yR (xs:List Bal) (k:Nat):Int:=if uO (xs.getD k default) then (if 0<k∧behind (xs.getD k default) (xs.getD (k-1) default)=false then 1 else 0) else 3
def gY (xs:List Bal):Int:=if 18<xs.length then 2 else fJ (yR xs) xs.length
def fXy (g:Ledg) (k:Nat):Int:=gY (g.shards.getD k default)
def tJ (g:Ledg):Int:=if g.shards.length<1∨3<g.shards.length then 2 else fJ (fXy g) g.shards.length
theorem inBi {n lo hi:Int}:inB n lo hi=true↔lo≤n∧n≤hi:=by simp[inB]
theorem keyOk_iff {a s:Int}:rA a s=true↔(0≤a∧a≤5)∧(0≤s∧s≤2):=by simp[rA,inBi]
theorem balOk_iff {x:Bal}:uO x=true↔((0≤x.ac∧x.ac≤5)∧(0≤x.ast∧x.ast≤2))∧(1≤x.am∧x.am≤1000000000000):=by simp[uO,keyOk_iff,inBi]
theorem fGu {b a:Bal} (hb:rA b.ac b.ast=true) (ha:rA a.ac a.ast=true):behind b a=false↔b.ac*3+b.ast≤a.ac*3+a.ast:=by
 obtain⟨⟨_,_⟩,_,_⟩:=keyOk_iff.1 hb;obtain⟨⟨_,_⟩,_,_⟩:=keyOk_iff.1 ha;unfold behind;split <;> simp <;> omega
theorem yV {x:Bal} (h:uO x=true):rA x.ac x.ast=true:=by
 rw[uO,Bool.and_eq_true] at h;exact h.1
structure BalsOk (xs:List Bal):Prop where
 len:xs.length≤18
 ok:∀k,k<xs.length→uO (xs.getD k default)=true
 ord:∀k,k+1<xs.length→behind (xs.getD (k+1) default) (xs.getD k default)=true
theorem tQ {xs:List Bal} (h:gY xs=0):BalsOk xs:=by
 unfold gY at h;split at h
 ·omega
 have hz:=uM h;refine⟨oM,fun k hk=>?_,fun k hk=>?_⟩
 ·
  have:=hz k hk;unfold yR at this;split at this
  ·assumption
  omega
 have:=hz (k+1) hk;unfold yR at this;split at this
 ·
  split at this
  ·omega
  rename_i h1 h2;simp at h2;simpa using h2
 omega
theorem fDt {g:Ledg} (h:tJ g=0):1≤g.shards.length∧g.shards.length≤3∧∀k,k<g.shards.length→BalsOk (g.shards.getD k default):=by
 unfold tJ at h;split at h
 ·omega
 exact⟨oM,by omega,fun k hk=>tQ (uM h k hk)⟩
def hasB (a s:Int):List Bal→Int
 | []=>0
 | x::r=>if x.ac=a∧x.ast=s then x.am else hasB a s r
theorem fU4 (xs:List Bal) (k:Nat) (h:k<xs.length):xs.drop k=xs.getD k default::xs.drop (k+1):=by
 rw[List.drop_eq_getElem_cons h];simp[List.getD,h]
theorem fSo {a s:Int} {xs:List Bal} {k:Nat} (h:k<xs.length):hasB a s (xs.drop k)=if (xs.getD k default).ac=a∧(xs.getD k default).ast=s then (xs.getD k default).am else hasB a s (xs.drop (k+1)):=by
 rw[fU4 xs k h];rfl
end
end Go.Proofs.YtpibfdebfacooaaGreat

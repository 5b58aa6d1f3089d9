import Derived.Test.YtbfnobcidnmohaaGreatRows
import Derived.WalkKit
import Derived.WalkSpells
import Derived.WalkLawsBesides
import Derived.ProofKit
import Derived.OpenShut
import Derived.Lib.SmallJoins
import Derived.BigQuiet
import Derived.Deep.QuietTactic
import Derived.Deep.RegionHeld3
import Derived.Deep.DrawnRows
set_option maxHeartbeats 1000000
set_option linter.unusedSectionVars false
namespace Go.Proofs.YtbfnobcidnmohaaGreat
open Go.ChangeShapes Go.WideShapes Go.ChangeAt Go.RowKit Go.Joins
theorem fAb {H:Type} {enc:TypeId × Value→H} {P:Program} (hl:laidOutB P=true) {W W':World} (hb:Below W.heap.size W W') :
  ∀{ts:List TypeId} {vs:List Value} {ds:List (DataW H)} {ps:List MemPlace},(∀t ∈ ts,P.readableRec t=true∧t<P.types.size) →
   DataW.TrodAll enc P W 0 (fun _=>true) true ts vs ds ps→DataW.TrodAll enc P W' 0 (fun b=>decide (b<W.heap.size)) true ts vs ds ps
 | [],[],[],_,_,h=>h
 | t::ts,v::vs,d::ds,ps,hr,h=>by
  have hlt:=DataW.TrodAll.lt h;obtain⟨p,q,h1,h2,rfl⟩:=h;refine⟨p,q,Below.trod hl (hr t (by simp)).1 (hr t (by simp)).2 h1 hb (fun x hx=>hlt x (by simp[hx])),fAb hl hb (fun u hu=>hr u (by simp[hu])) h2,rfl⟩
 | [],[],_::_,_,_,h=>h.elim
 | [],_::_,_,_,_,h=>h.elim
 | _::_,[],_,_,_,h=>h.elim
 | _::_,_::_,[],_,_,h=>h.elim
theorem fS0 {H:Type} {enc:TypeId × Value→H} {P:Program} {f:Func} {s:ChangeSpec} {W W':World} {args:Array Value} {ds gs:List (DataW H)} {before:List MemPlace} {tb:TypeId}
  (hW:DataW.Whole enc P f.params.toList s.vars false W args.toList ds gs before)
  (hl:laidOutB P=true) (hr:(f.params.toList.all fun t=>P.readableRec t&&decide (t<P.types.size))=true)
  (hvars:s.vars=[]) (hrt:f.resultTypes = #[tb]) (hb:P.underlying tb=some .bool) (hfn:gs=[]→s.fn H ds={results:=[.lit (.bool true)],args:=ds})
  (hB:Below W.heap.size W W'):s.post enc P f false true false false W args (.bool true) W':=by
 have hW0:=hW;obtain⟨p,q,hA,hV,rfl,hfz,hnd⟩:=hW;rw[hvars] at hV;obtain⟨rfl,rfl⟩:=trodVars_none hV;have hr':∀t ∈ f.params.toList,P.readableRec t=true∧t<P.types.size:=by
  intro t ht;have:=List.all_eq_true.1 hr t ht;simpa using this
 refine⟨ds,[],_,[],p,[],hW0,?_,?_,?_,hB.frame _,fun h=>by cases h⟩
 ·
  rw[List.append_nil,hfn rfl,hrt];exact trodAll_mk1 (shut_bool hb true)
 ·
  rw[List.append_nil,hfn rfl];exact fAb hl hB hr' hA
 rw[List.append_nil,hfn rfl,hvars];exact rfl
theorem jA {α:Type _} {xs:List α} {i:Nat} (h:i<xs.toArray.size):xs.toArray[i]=xs[i]:=List.getElem_toArray h
theorem jB {α:Type _} (a:α) (l:List α) (h:0<(a::l).length):(a::l)[0]=a:=List.getElem_cons_zero a l h
theorem jC {α:Type _} (a:α) (l:List α) (i:Nat) (h:i+1<(a::l).length):(a::l)[i+1]=l[i]'(Nat.lt_of_succ_lt_succ h):=List.getElem_cons_succ a l i h
theorem jD {α:Type _} (l:List α) (i:Nat) (a:α):l.toArray.setIfInBounds i a=(l.set i a).toArray:=List.setIfInBounds_toArray l i a
theorem jE {α:Type _} {x:α} {xs:List α} {a:α}:(x::xs).set 0 a=a::xs:=List.set_cons_zero
theorem jF {α:Type _} {x:α} {xs:List α} {i:Nat} {a:α}:(x::xs).set (i+1) a=x::xs.set i a:=List.set_cons_succ
theorem jX:(∀{α:Type} {xs:List α} {i:Nat} (h:i<xs.toArray.size),xs.toArray[i]=xs[i]'(by simpa using h))∧(∀{α:Type} (a:α) (l:List α) (h:0<(a::l).length),(a::l)[0]=a)∧(∀{α:Type} (a:α) (l:List α) (i:Nat) (h:i+1<(a::l).length),(a::l)[i+1]=l[i]'(Nat.lt_of_succ_lt_succ h))∧(∀{α:Type} (l:List α) (i:Nat) (a:α),l.toArray.setIfInBounds i a=(l.set i a).toArray)∧(∀{α:Type} {x:α} {xs:List α} {a:α},(x::xs).set 0 a=a::xs)∧(∀{α:Type} {x:α} {xs:List α} {i:Nat} {a:α},(x::xs).set (i+1) a=x::xs.set i a)∧(∀(a:Act) (i:Tmp) (v:Value),a.put (some i) v={a with tmps:=a.tmps.setIfInBounds i v})∧(∀(a:Act) (v:Value),a.put none v=a):=⟨fun h=>jA h,fun a l h=>jB a l h,fun a l i h=>jC a l i h,fun l i a=>jD l i a,jE,jF,fun _ _ _=>rfl,fun _ _=>rfl⟩
theorem wL (w:World) (p:Addr) {v:Value} (h:w.cell? p=some v):p.block<w.heap.size:=World.block_lt_of_cell? w p h
theorem bR (n:Nat) (w:World):Below n w w:=Below.refl n w
theorem bD {n:Nat} {w w':World} (h:Below n w w'):Below n w w'.drew:=Below.drew h
theorem bcell {W w1:World} (hb:Below W.heap.size W w1):(∀b o,b<W.heap.size→w1.cell? ⟨b,o,none⟩=W.cell? ⟨b,o,none⟩)∧(∀b o,b<W.heap.size→w1.frozen? ⟨b,o,none⟩=W.frozen? ⟨b,o,none⟩):=
 ⟨fun b o h=>hb.cell (p:=⟨b,o,none⟩) h,fun b o h=>hb.frozen (p:=⟨b,o,none⟩) h⟩
theorem bS {w Y X:World} (h:Below w.heap.size w Y) (k:Below Y.heap.size Y X):Below w.heap.size w X:=h.trans (k.mono h.size)
theorem bA {w Y:World} (h:Below w.heap.size w Y) (o:Obj):Below w.heap.size w (Y.alloc o):=h.alloc h.size o
theorem yF {w w':World} (h:Below w.heap.size w w'):w.grownBy w' none:=⟨h.os,h.tape,h.output,h.size,fun k hk _=>h.block k hk⟩
theorem kT {w w':World} {base e size:Nat} {v:Value} {n:Nat} {xs:List Value} (h:w.ownsRow base e size v n xs) (hb:Below w.heap.size w w'):w'.ownsRow base e size v n xs:=
 h.kept (yF hb) (by cases hv:v.ownBlock <;> simp)
theorem fG {w:World} {base e size g n cap:Nat} {xs:List Value} (h:w.ownsRow base e size (.slice (some ⟨g,0,none⟩) n cap) n xs) (j:Nat) (hj:j<n*size):∃u,w.cell? ⟨g,j,none⟩=some u:=by
 have h1:=h.cellAt j hj;have h2:=h.1;exact⟨xs[j]'(by omega),by rw[h1,List.getElem?_eq_getElem]⟩
theorem gD {w:World} {base e size:Nat} {v:Value} {n:Nat} {xs:List Value} (h:w.ownsRow base e size v n xs):∃a c,v = .slice a n c:=by
 rcases h.2 with ⟨rfl,rfl⟩|⟨g,cap,cur,rfl,_⟩
 ·
  exact⟨_,_,rfl⟩
 exact⟨_,_,rfl⟩
theorem bset {w Y:World} (h:Below w.heap.size w Y) {p:Addr} (hp:w.heap.size≤p.block) (u:Value):Below w.heap.size w (Y.setCell p u):=h.setCell hp u
theorem qBq {n:Nat} {w w':World} (h:Below n w w':=by(repeat (first|exact bR _ _|assumption|refine bD ?_|refine bA ?_ _|refine bset ?_ (by simp;omega) _|refine bset ?_ (by simp) _|refine bS ?_ (by assumption)))):Below n w w':=h
theorem pY {w:World} {base base' e size:Nat} {v:Value} {n:Nat} {xs:List Value} (h:w.ownsRow base e size v n xs) (hb:base'≤base):w.ownsRow base' e size v n xs:=by
 refine⟨h.1,?_⟩;rcases h.2 with h2|⟨g,cap,cur,hv,hg,r⟩
 ·
  exact .inl h2
 exact .inr ⟨g,cap,cur,hv,Nat.le_trans hb hg,r⟩
theorem fBa {w:World} {base e size:Nat} {v:Value} {n:Nat} {xs:List Value} (h:w.ownsRow base e size v n xs) {a:Addr} (ha:a.block<base) (u:Value):(w.setCell a u).ownsRow base e size v n xs:=
 ownsRow_setCell_below h ha u
theorem yB {w:World} {a:Addr} {v u:Value} (h:w.cell? a=some u):(w.setCell a v).cell? a=some v:=by
 first|exact World.cell?_setCell_same h|exact World.cell?_setCell_same _ h|exact World.cell?_setCell_same _ _ _ h
theorem mI {w:World} {a b:Addr} {v:Value} (h:a≠b):(w.setCell a v).cell? b=w.cell? b:=by
 first|exact World.cell?_setCell_other h|exact World.cell?_setCell_other _ h|exact World.cell?_setCell_other _ _ _ _ h
theorem cK {w w':World} {a:Addr} {v:Value} (hb:Below w.heap.size w w') (h:w.cell? a=some v):w'.cell? a=some v:=
 (hb.cell (World.block_lt_of_cell? w a h)).trans h
theorem fT8 {w w':World} {a b:Addr} {u v:Value} (hb:Below w.heap.size w w') (h:w.cell? a=some u) (k:w.cell? b=some v):Below w.heap.size w w'∧w'.cell? a=some u∧w'.cell? b=some v:=
 ⟨hb,cK hb h,cK hb k⟩
def fI (left n:Int):Int:=if left<n then -1 else left-n
theorem own:ownKnob Tryz.prog.godebug=none:=by kernel_rfl
theorem laidOut:laidOutB Tryz.prog=true:=by kernel_rfl
end Go.Proofs.YtbfnobcidnmohaaGreat
namespace Go.Proofs.YtbfnobcidnmohaaGreat
open Go.RowKit
structure Leg where
 sh:Int
 ac:Int
 ast:Int
 am:Int
variable [DecidableEq Leg] [Inhabited Leg]
def legV (l:Leg):Value:=.agg #[.int .i64 l.sh,.int .i64 l.ac,.int .i64 l.ast,.int .i64 l.am]
theorem fRk (l:Leg) (w:World) :
  Calls Tryz.prog 200 #[legV l] w fun e w'=>e = .returned (legV l)∧Below w.heap.size w w':=by
 obtain⟨a,b,c,d⟩:=l;unfold legV;go_enter Tryz.func200,Tryz.ntmps200;go_wp2;exact bodyPost_ret (v:=.agg #[.int .i64 a,.int .i64 b,.int .i64 c,.int .i64 d]) (by simp[results,Tryz.results200,go_sem]) rfl ⟨rfl,(by repeat (first|exact Below.refl _ _|(refine Below.drew ?_)|(refine Below.alloc ?_ (by first|(simp;done)|(simp;omega)) _)))⟩
theorem fP6 (x y:Leg) (w:World) :
  Calls Tryz.prog 248 #[legV x,legV y] w fun e w'=>e = .returned (.bool (decide (x=y)))∧Below w.heap.size w w':=by
 obtain⟨a,b,c,d⟩:=x;obtain⟨a',b',c',d'⟩:=y;unfold legV;go_enter Tryz.func248,Tryz.ntmps248;go_wp2;all_goals
  go_ret;exact⟨by simp_all,(by repeat (first|exact Below.refl _ _|(refine Below.drew ?_)|(refine Below.alloc ?_ (by first|(simp;done)|(simp;omega)) _)))⟩
end Go.Proofs.YtbfnobcidnmohaaGreat
namespace Go.Proofs.YtbfnobcidnmohaaGreat
open Go.RowKit
variable [DecidableEq Leg] [Inhabited Leg]
attribute [local go_sem ↓] Go.wp_at_zero Go.wp_at_succ
def kQ (w:World) (b o:Nat) (l:Leg):Prop:=
 w.cell? ⟨b,o,none⟩=some (.int .i64 l.sh)∧w.cell? ⟨b,o+1,none⟩=some (.int .i64 l.ac)∧w.cell? ⟨b,o+2,none⟩=some (.int .i64 l.ast)∧w.cell? ⟨b,o+3,none⟩=some (.int .i64 l.am)
def mJ (w:World) (v:Value) (xs:List Leg):Prop:=
 ∃a cap,v = .slice a xs.length cap∧xs.length≤cap∧cap≤maxLen∧∀i,i<xs.length→∃b o,a=some ⟨b,o,none⟩∧kQ w b (o+i*4) (xs.getD i default)
theorem fF {w w':World} {b o:Nat} {l:Leg} (hb:Below w.heap.size w w') (h:kQ w b o l):kQ w' b o l:=by
 obtain⟨h1,h2,h3,h4⟩:=h;have hlt:b<w.heap.size:=World.block_lt_of_cell? w _ h1;exact⟨(hb.cell (p:=⟨b,o,none⟩) hlt).trans h1,(hb.cell (p:=⟨b,o+1,none⟩) hlt).trans h2,(hb.cell (p:=⟨b,o+2,none⟩) hlt).trans h3,(hb.cell (p:=⟨b,o+3,none⟩) hlt).trans h4⟩
theorem keep2 {w w':World} {b o b' o':Nat} {l l':Leg} (hb:Below w.heap.size w w') (h:kQ w b o l) (h':kQ w b' o' l') :
  Below w.heap.size w w'∧(w'.cell? ⟨b,o,none⟩=some (.int .i64 l.sh)∧w'.cell? ⟨b,o+1,none⟩=some (.int .i64 l.ac)∧w'.cell? ⟨b,o+2,none⟩=some (.int .i64 l.ast)∧w'.cell? ⟨b,o+3,none⟩=some (.int .i64 l.am)) ∧
   (w'.cell? ⟨b',o',none⟩=some (.int .i64 l'.sh)∧w'.cell? ⟨b',o'+1,none⟩=some (.int .i64 l'.ac)∧w'.cell? ⟨b',o'+2,none⟩=some (.int .i64 l'.ast)∧w'.cell? ⟨b',o'+3,none⟩=some (.int .i64 l'.am)):=
 ⟨hb,fF hb h,fF hb h'⟩
theorem fAq {xs ys:List Leg} (hl:ys.length=xs.length) (h:∀j,j<xs.length→xs.getD j default=ys.getD j default):xs=ys:=by
 apply List.ext_getElem (by omega);intro i h1 h2;have:=h i h1;simpa [List.getD,h1,h2] using this
theorem fNt (x y:Value) (xs ys:List Leg) (w:World) (hx:mJ w x xs) (hy:mJ w y ys) :
  Calls Tryz.prog 172 #[x,y] w fun e w'=>e = .returned (.bool (decide (xs=ys)))∧Below w.heap.size w w':=by
 obtain⟨ax,cx,rfl,hcx,hmx,hx⟩:=hx;obtain⟨ay,cy,rfl,hcy,hmy,hy⟩:=hy;unfold maxLen at hmx hmy;by_cases hl:ys.length=xs.length
 ·
  rw[hl] at hcy hy ⊢;have HL:Hid (ys.length=xs.length):=hl;clear hl;generalize hn:xs.length=n at *;have HN:Hid (xs.length=n):=hn;clear hn;go_enter Tryz.func172,Tryz.ntmps172;go_wp2;go_loopw [5] (fun i w'=>∃k:Nat,k≤n∧i = .int .i64 k∧(∀j,j<k→xs.getD j default=ys.getD j default)∧Below w.heap.size w w') (fun i _=>n-(intOf i).toNat)
  case atStart=>exact⟨0,Nat.zero_le _,rfl,fun j h=>absurd h (Nat.not_lt_zero _),Below.refl _ _⟩
  obtain⟨k,hk,rfl,hpre,hbl⟩:=hrel;have HP:Hid (∀j,j<k→xs.getD j default=ys.getD j default):=hpre;clear hpre;by_cases hlt:k<n
  ·
   obtain⟨bx,ox,rfl,h1⟩:=hx k hlt;obtain⟨b2,oy,rfl,h2⟩:=hy k hlt;obtain⟨l1,hl1⟩:∃l,l=xs.getD k default:=⟨_,rfl⟩
   obtain⟨l2,hl2⟩:∃l,l=ys.getD k default:=⟨_,rfl⟩
   rw[←hl1] at h1;rw[←hl2] at h2;have H1:Hid (l1=xs.getD k default):=hl1;have H2:Hid (l2=ys.getD k default):=hl2;clear hl1 hl2 hx hy;go_wp2;go_region_held3 (fun w'=>Below w.heap.size w w'∧(w'.cell? ⟨bx,ox+k*4,none⟩=some (.int .i64 l1.sh)∧w'.cell? ⟨bx,ox+k*4+1,none⟩=some (.int .i64 l1.ac)∧w'.cell? ⟨bx,ox+k*4+2,none⟩=some (.int .i64 l1.ast)∧w'.cell? ⟨bx,ox+k*4+3,none⟩=some (.int .i64 l1.am))∧(w'.cell? ⟨b2,oy+k*4,none⟩=some (.int .i64 l2.sh)∧w'.cell? ⟨b2,oy+k*4+1,none⟩=some (.int .i64 l2.ac)∧w'.cell? ⟨b2,oy+k*4+2,none⟩=some (.int .i64 l2.ast)∧w'.cell? ⟨b2,oy+k*4+3,none⟩=some (.int .i64 l2.am))) ((refine keep2 ?_ h1 h2;repeat (first|exact Below.refl _ _|assumption|refine Below.drew ?_|refine bA ?_ _|refine bS ?_ (by assumption)))) (first|(go_at_call 248;refine(fP6 l1 l2 _).mono ?_;rintro e w' ⟨rfl,hb1⟩));rename_i hH;have hB:=hH.1;clear hH;go_wp2
   ·
    rename_i hle;go_ret;refine⟨?_,hB⟩;have:¬xs=ys:=fun h=>by
     have:l1=l2:=by rw[H1.out,H2.out,h]
     simp[this] at hle
    simp[this]
   rename_i hle;refine⟨⟨k+1,by omega,by go_num,fun j hj=>?_,hB⟩,by simp[intOf];omega⟩;by_cases hjk:j<k
   ·
    exact HP.out j hjk
   have:j=k:=by omega
   subst this;rw[←H1.out,←H2.out];simpa using hle
  go_wp2;go_ret;have:k=n:=by omega
  subst this;refine⟨?_,hbl⟩;have:xs=ys:=fAq (by rw[HL.out,HN.out]) (by rw[HN.out];exact HP.out);simp[this]
 go_enter Tryz.func172,Tryz.ntmps172;have hl':((xs.length:Int)==(ys.length:Int))=false:=by simp;omega
 go_wp2;go_ret;have:¬xs=ys:=fun h=>hl (by rw[h])
 exact⟨by simp[this],Below.refl _ _⟩
def legC (l:Leg):List Value:=[.int .i64 l.sh,.int .i64 l.ac,.int .i64 l.ast,.int .i64 l.am]
def mV (xs:List Leg):List Value:=xs.flatMap legC
theorem fKo:(Tryz.prog.info? 131).map (fun i=>(i.zero,i.size,i.bytes))=some (some (.agg #[.int .i64 0,.int .i64 0,.int .i64 0,.int .i64 0]),4,32):=by kernel_rfl
theorem fIc (xs:List Leg):(mV xs).length=xs.length*4:=by
 induction xs with
 | nil=>rfl
 | cons x r ih=>
  have e:mV (x::r)=legC x++mV r:=by simp[mV]
  have l4:(legC x).length=4:=rfl;rw[e,List.length_append,l4,ih,List.length_cons];omega
theorem fL7 (xs:List Leg):∀i,i<xs.length→(mV xs)[i*4]? = some (.int .i64 (xs.getD i default).sh)∧(mV xs)[i*4+1]? = some (.int .i64 (xs.getD i default).ac) ∧
  (mV xs)[i*4+2]? = some (.int .i64 (xs.getD i default).ast)∧(mV xs)[i*4+3]? = some (.int .i64 (xs.getD i default).am):=by
 induction xs with
 | nil=>intro i h;simp at h
 | cons x r ih=>
  intro i h;cases i with
  | zero=>simp[mV,legC]
  | succ i=>
   have:=ih i (by simpa using h);have e:mV (x::r)=legC x++mV r:=by simp[mV]
   have l4:(legC x).length=4:=rfl;rw[e];refine⟨?_,?_,?_,?_⟩;all_goals rw[List.getElem?_append_right (by omega),l4]
   ·
    rw[show(i+1)*4-4=i*4 by omega];simpa using this.1
   ·
    rw[show(i+1)*4+1-4=i*4+1 by omega];simpa using this.2.1
   ·
    rw[show(i+1)*4+2-4=i*4+2 by omega];simpa using this.2.2.1
   rw[show(i+1)*4+3-4=i*4+3 by omega];simpa using this.2.2.2
theorem kM {w:World} {base e:Nat} {v:Value} {xs:List Leg} (h:w.ownsRow base e 4 v xs.length (mV xs)):mJ w v xs:=by
 rcases h.2 with ⟨rfl,hn⟩|⟨g,cap,cur,rfl,hb,hg,hnc,hcm,hcs,htake⟩
 ·
  exact⟨none,0,by rw[hn],by omega,by unfold maxLen;omega,fun i hi=>by omega⟩
 refine⟨some ⟨g,0,none⟩,cap,rfl,hnc,hcm,fun i hi=>⟨g,0,rfl,?_⟩⟩;obtain⟨h0,h1,h2,h3⟩:=fL7 xs i hi;simp only[Nat.zero_add,kQ];exact⟨(h.cellAt _ (by omega)).trans h0,(h.cellAt _ (by omega)).trans h1,(h.cellAt _ (by omega)).trans h2,(h.cellAt _ (by omega)).trans h3⟩
def upto (k:Nat) (cs:List Value) (xs:List Leg):Prop:=∀j,j<k*4→cs[j]? = (mV xs)[j]?
theorem fRn {n:Nat} {cs:List Value} {xs:List Leg} (h:upto n cs xs) (hl:cs.length=n*4) (hn:xs.length=n):cs=mV xs:=by
 apply List.ext_getElem?;intro j;by_cases hj:j<n*4
 ·
  exact h j hj
 rw[List.getElem?_eq_none (by omega),List.getElem?_eq_none (by rw[fIc];omega)]
theorem fT0 {k:Nat} {cs:List Value} {xs:List Leg} {l:Leg} (h:upto k cs xs) (hk:k<xs.length) (hl:cs.length=xs.length*4) (he:l=xs.getD k default) :
  upto (k+1) ((((cs.set (k*4) (.int .i64 l.sh)).set (k*4+1) (.int .i64 l.ac)).set (k*4+2) (.int .i64 l.ast)).set (k*4+3) (.int .i64 l.am)) xs:=by
 intro j hj;obtain⟨h0,h1,h2,h3⟩:=fL7 xs k hk;subst he;simp only[List.getElem?_set,List.length_set];by_cases e3:k*4+3=j
 ·
  subst e3;simp[h3];omega
 by_cases e2:k*4+2=j
 ·
  subst e2;simp[h2];omega
 by_cases e1:k*4+1=j
 ·
  subst e1;simp[h1];omega
 by_cases e0:k*4=j
 ·
  subst e0;simp[h0];omega
 simp[e0,e1,e2,e3];exact h j (by omega)
theorem fPf (x:Value) (xs:List Leg) (w:World) (hx:mJ w x xs) (hn:xs.length≤1048576) :
  Calls Tryz.prog 137 #[x] w fun e w'=>∃v,e = .returned v∧w'.ownsRow w.heap.size 131 4 v xs.length (mV xs)∧Below w.heap.size w w':=by
 obtain⟨ax,cx,rfl,hcx,hmx,hx⟩:=hx;unfold maxLen at hmx;obtain⟨i0,hi,hz0,hz1,hz2⟩:=info_parts fKo;obtain⟨w1,hmk,hown,hgr⟩:=run_make_full (P:=Tryz.prog) w w.heap.size 58 131 i0 _ 4 Tryz.underlying58 hi hz0 hz1 .i64 .i64 xs.length (by rw[hz2];omega) (by unfold maxLen;omega) (Nat.le_refl _);have hbl0:Below w.heap.size w w1:=(Below.refl _ _).grown hgr (Nat.le_refl _) (fun k h=>by cases h);generalize hn':xs.length=n at *;have HN:Hid (xs.length=n):=hn';clear hn';go_enter Tryz.func137,Tryz.ntmps137;go_wp2;go_loopw [4] (fun i w'=>∃(k:Nat) (cs:List Value),k≤n∧i = .int .i64 k∧w'.ownsRow w.heap.size 131 4 (.slice (some ⟨w.heap.size,0,none⟩) n n) n cs∧upto k cs xs∧Below w.heap.size w w') (fun i _=>n-(intOf i).toNat)
 case atStart=>exact⟨0,_,Nat.zero_le _,rfl,hown,fun j h=>by omega,hbl0⟩
 obtain⟨k,cs,hk,rfl,ho,hup,hbl⟩:=hrel;have HU:Hid (upto k cs xs):=hup;clear hup hown hmk hgr hbl0;by_cases hlt:k<n
 ·
  obtain⟨bx,ox,rfl,h1⟩:=hx k hlt;obtain⟨l,hl⟩:∃l,l=xs.getD k default:=⟨_,rfl⟩
  rw[←hl] at h1;have H1:Hid (l=xs.getD k default):=hl;clear hl hx;obtain⟨a1,a2,a3,a4⟩:=fF hbl h1;go_wp2_with fail;refine(fRk l _).mono ?_;rintro e wa ⟨rfl,hba⟩;have ho1:=kT ho hba;obtain⟨u0,g0⟩:=fG ho1 (k*4) (by omega);obtain⟨u1,g1⟩:=fG ho1 (k*4+1) (by omega);obtain⟨u2,g2⟩:=fG ho1 (k*4+2) (by omega);obtain⟨u3,g3⟩:=fG ho1 (k*4+3) (by omega);have hf:=fun j=>ho1.frozenAt j
  simp only[legV];go_wp2;have s0:=ho1.stored (k*4) (.int .i64 l.sh);have s1:=s0.1.stored (k*4+1) (.int .i64 l.ac);have s2:=s1.1.stored (k*4+2) (.int .i64 l.ast);have s3:=s2.1.stored (k*4+3) (.int .i64 l.am);refine⟨⟨k+1,_,by omega,by go_num,s3.1,fT0 HU.out (by have:=HN.out;omega) (by have:=HN.out;have:=ho.1;omega) H1.out,?_⟩,by simp[intOf];omega⟩;exact((((bS hbl hba).setCell (Nat.le_refl _) _).setCell (Nat.le_refl _) _).setCell (Nat.le_refl _) _).setCell (Nat.le_refl _) _
 go_wp2;go_ret;have hkn:k=n:=by omega
 subst hkn;have e:=fRn HU.out ho.1 HN.out;subst e;exact⟨_,rfl,ho,hbl⟩
theorem kU {w w':World} {v:Value} {xs:List Leg} (h:mJ w v xs) (hb:Below w.heap.size w w'):mJ w' v xs:=by
 obtain⟨a,cap,rfl,h1,h2,h3⟩:=h;exact⟨a,cap,rfl,h1,h2,fun i hi=>by
  obtain⟨b,o,ha,hc⟩:=h3 i hi;exact⟨b,o,ha,fF hb hc⟩⟩
def szF (left n:Int):Int:=if left<n then -1 else left-n
theorem fO6 (x:Value) (xs:List Leg) (left:Int) (w:World) (hx:mJ w x xs) (h0:0≤left) (h1:left≤1048576) :
  Calls Tryz.prog 112 #[x,.int .i64 left] w fun e w'=>e = .returned (.int .i64 (szF left xs.length))∧w'=w:=by
 obtain⟨ax,cx,rfl,hcx,hmx,hx⟩:=hx;unfold maxLen at hmx;generalize xs.length=n at *;clear hx;by_cases h:left<n
 ·
  have h':left-(n:Int)<0:=by omega
  go_enter Tryz.func112,Tryz.ntmps112;go_wp2;go_ret;exact⟨by simp only[szF,if_pos h];rfl,rfl⟩
 have h':¬left-(n:Int)<0:=by omega
 go_enter Tryz.func112,Tryz.ntmps112;go_wp2;go_ret;exact⟨by rw[szF,if_neg (by omega)];rfl,rfl⟩
end Go.Proofs.YtbfnobcidnmohaaGreat
namespace Go.Proofs.YtbfnobcidnmohaaGreat
open Go.RowKit
structure Mod (F:Nat→Prop) (w w':World):Prop where
 os:w'.os=w.os
 tape:w'.tape=w.tape
 output:w'.output=w.output
 size:w.heap.size≤w'.heap.size
 block:∀k,k<w.heap.size→¬F k→w'.heap[k]? = w.heap[k]?
theorem Mod.refl (F:Nat→Prop) (w:World):Mod F w w:=⟨rfl,rfl,rfl,Nat.le_refl _,fun _ _ _=>rfl⟩
theorem Mod.trans {F:Nat→Prop} {w w1 w2:World} (h:Mod F w w1) (k:Mod F w1 w2):Mod F w w2:=
 ⟨k.os.trans h.os,k.tape.trans h.tape,k.output.trans h.output,Nat.le_trans h.size k.size,fun i hi hn=>(k.block i (Nat.lt_of_lt_of_le hi h.size) hn).trans (h.block i hi hn)⟩
theorem Mod.mono {F G:Nat→Prop} {w w':World} (h:Mod F w w') (hs:∀b,F b→G b):Mod G w w':=
 ⟨h.os,h.tape,h.output,h.size,fun i hi hn=>h.block i hi (fun hf=>hn (hs i hf))⟩
theorem Mod.of_grown {w w':World} {row:Option Nat} (h:w.grownBy w' row):Mod (fun b=>row=some b) w w':=
 ⟨h.os,h.tape,h.output,h.size,fun i hi hn=>h.block i hi (fun e=>hn e.symm)⟩
theorem Mod.of_below {F:Nat→Prop} {w w':World} (h:Below w.heap.size w w'):Mod F w w':=
 ⟨h.os,h.tape,h.output,h.size,fun i hi _=>h.block i hi⟩
theorem Mod.alloc {F:Nat→Prop} {w w':World} (h:Mod F w w') (o:Obj):Mod F w (w'.alloc o):=
 h.trans (Mod.of_below ((Below.refl _ _).alloc (Nat.le_refl _) o))
theorem Mod.below {F:Nat→Prop} {w0 w w':World} {B:Nat} (hb:Below B w0 w) (h:Mod F w w') (hs:B≤w.heap.size) (hF:∀b,F b→B≤b):Below B w0 w':=
 ⟨h.os.trans hb.os,h.tape.trans hb.tape,h.output.trans hb.output,Nat.le_trans hb.size h.size,fun k hk=>(h.block k (Nat.lt_of_lt_of_le hk hs) (fun hf=>by have:=hF k hf;omega)).trans (hb.block k hk)⟩
theorem Mod.cell {F:Nat→Prop} {w w':World} (h:Mod F w w') {a:Addr} {v:Value} (hc:w.cell? a=some v) (hn:¬F a.block):w'.cell? a=some v:=
 (World.cell?_of_block (w:=w) (h.block a.block (World.block_lt_of_cell? w a hc) hn)).trans hc
theorem Mod.owns {F:Nat→Prop} {w w':World} {base e size:Nat} {v:Value} {n:Nat} {xs:List Value} (h:Mod F w w') (ho:w.ownsRow base e size v n xs) (hn:∀b,v.ownBlock=some b→¬F b):w'.ownsRow base e size v n xs:=by
 refine⟨ho.1,?_⟩;rcases ho.2 with h2|⟨g,cap,cur,rfl,hg,hh,r⟩
 ·
  exact .inl h2
 refine .inr ⟨g,cap,cur,rfl,hg,?_,r⟩;have hlt:g<w.heap.size:=by
  rcases Nat.lt_or_ge g w.heap.size with h|h
  ·
   exact h
  rw[Array.getElem?_eq_none h] at hh;cases hh
 exact(h.block g hlt (hn g rfl)).trans hh
structure Rep (α:Type) where
 V:World→Value→α→Prop
 O:World→Nat→(Nat→Prop)→Value→α→Prop
 below:∀{w w' v x},V w v x→Below w.heap.size w w'→V w' v x
 ofO:∀{w base F v x},O w base F v x→V w v x
 mod:∀{w w' base F G v x},O w base F v x→Mod G w w'→(∀b,F b→¬G b)→O w' base F v x
 rng:∀{w base F v x},O w base F v x→∀b,F b→base≤b∧b<w.heap.size
 base:∀{w base base' F v x},O w base F v x→base'≤base→O w base' F v x
theorem Rep.keep {α:Type} (R:Rep α) {w w':World} {base:Nat} {F:Nat→Prop} {v:Value} {x:α} (h:R.O w base F v x) (hb:Below w.heap.size w w'):R.O w' base F v x:=
 R.mod (G:=fun _=>False) h (Mod.of_below hb) (fun _ _ h=>h)
theorem Rep.keep2 {α:Type} (R:Rep α) {w Y w':World} {base:Nat} {F:Nat→Prop} {v:Value} {x:α} (h:R.O w base F v x) (h1:Below w.heap.size w Y) (h2:Below Y.heap.size Y w'):R.O w' base F v x:=R.keep (R.keep h h1) h2
def none_:Nat→Prop:=fun _=>False
def fRep {α:Type} (e size:Nat) (C:List α→List Value) (V:World→Value→List α→Prop)
  (hb:∀{w w' v xs},V w v xs→Below w.heap.size w w'→V w' v xs) (ho:∀{w base v xs},w.ownsRow base e size v xs.length (C xs)→V w v xs):Rep (List α) where
 V:=V
 O:=fun w base F v xs=>w.ownsRow base e size v xs.length (C xs)∧F=(fun b=>v.ownBlock=some b)
 below:=hb
 ofO:=fun h=>ho h.1
 mod:=fun h hm hd=>⟨hm.owns h.1 (fun b hb=>hd b (by rw[h.2];exact hb)),h.2⟩
 rng:=fun h b hb=>by rw[h.2] at hb;exact h.1.lt b hb
 base:=fun h hb=>⟨pY h.1 hb,h.2⟩
structure PO {α:Type} (R:Rep α) (e size:Nat) (lv:Value→List Value) (w:World) (base:Nat) (v:Value) (n k:Nat) (d:Nat→α) (cs:List Value) (us:Nat→Value) (fs:Nat→Nat→Prop):Prop where
 row:w.ownsRow base e size v n cs
 el:∀i,i<k→R.O w base (fs i) (us i) (d i)
 ln:∀i,i<k→(lv (us i)).length=size
 cell:∀i,i<k→∀j,j<size→cs[i*size+j]? = (lv (us i))[j]?
 out:∀i,i<k→∀b,fs i b→v.ownBlock≠some b
 sep:∀i j,i<k→j<k→i≠j→∀b,fs i b→¬fs j b
theorem PO.mod {α:Type} {R:Rep α} {e size:Nat} {lv:Value→List Value} {w w':World} {base:Nat} {v:Value} {n k:Nat} {d:Nat→α} {cs:List Value} {us:Nat→Value} {fs:Nat→Nat→Prop} {G:Nat→Prop}
  (h:PO R e size lv w base v n k d cs us fs) (hm:Mod G w w') (h1:∀b,v.ownBlock=some b→¬G b) (h2:∀i,i<k→∀b,fs i b→¬G b):PO R e size lv w' base v n k d cs us fs:=
 ⟨hm.owns h.row h1,fun i hi=>R.mod (h.el i hi) hm (h2 i hi),h.ln,h.cell,h.out,h.sep⟩
theorem PO.keep {α:Type} {R:Rep α} {e size:Nat} {lv:Value→List Value} {w w':World} {base:Nat} {v:Value} {n k:Nat} {d:Nat→α} {cs:List Value} {us:Nat→Value} {fs:Nat→Nat→Prop}
  (h:PO R e size lv w base v n k d cs us fs) (hb:Below w.heap.size w w'):PO R e size lv w' base v n k d cs us fs:=
 h.mod (G:=fun _=>False) (Mod.of_below hb) (fun _ _ h=>h) (fun _ _ _ _ h=>h)
theorem PO.cast {α:Type} {R:Rep α} {e size:Nat} {lv:Value→List Value} {w:World} {base:Nat} {v:Value} {n k:Nat} {d d':Nat→α} {cs:List Value} {us:Nat→Value} {fs:Nat→Nat→Prop}
  (h:PO R e size lv w base v n k d cs us fs) (hd:∀i,i<k→d' i=d i):PO R e size lv w base v n k d' cs us fs:=
 ⟨h.row,fun i hi=>by rw[hd i hi];exact h.el i hi,h.ln,h.cell,h.out,h.sep⟩
def upd {β:Type} (f:Nat→β) (k:Nat) (x:β):Nat→β:=fun i=>if i=k then x else f i
theorem mU {β:Type} (f:Nat→β) (k:Nat) (x:β):upd f k x k=x:=by simp[upd]
theorem upd_ne {β:Type} (f:Nat→β) {k i:Nat} (x:β) (h:i≠k):upd f k x i=f i:=by simp[upd,h]
theorem PO.push {α:Type} {R:Rep α} {e size:Nat} {lv:Value→List Value} {w w1 w2:World} {base:Nat} {v:Value} {n k:Nat} {d:Nat→α} {cs cs':List Value} {us:Nat→Value} {fs:Nat→Nat→Prop} {u:Value} {F:Nat→Prop}
  (h:PO R e size lv w base v n k d cs us fs) (hbs:base≤w.heap.size) (hb:Below w.heap.size w w1) (hu:R.O w1 w.heap.size F u (d k)) (hl:(lv u).length=size)
  (hr:w2.ownsRow base e size v n cs') (hm:Mod (fun b=>v.ownBlock=some b) w1 w2)
  (hold:∀i,i<k→∀j,j<size→cs'[i*size+j]? = cs[i*size+j]?) (hnew:∀j,j<size→cs'[k*size+j]? = (lv u)[j]?) :
  PO R e size lv w2 base v n (k+1) d cs' (upd us k u) (upd fs k F):=by
 have hlt:∀b,v.ownBlock=some b→b<w.heap.size:=fun b hb=>(h.row.lt b hb).2
 have hF:∀b,F b→w.heap.size≤b:=fun b hb=>(R.rng hu b hb).1
 have hfs:∀i,i<k→∀b,fs i b→b<w.heap.size:=fun i hi b hb=>(R.rng (h.el i hi) b hb).2
 refine⟨hr,?_,?_,?_,?_,?_⟩
 ·
  intro i hi;by_cases hik:i=k
  ·
   subst hik;rw[mU,mU];exact R.base (R.mod hu hm (fun b hb he=>by have:=hlt b he;have:=hF b hb;omega)) hbs
  rw[upd_ne _ _ hik,upd_ne _ _ hik];exact R.mod (R.keep (h.el i (by omega)) hb) hm (fun b hb=>h.out i (by omega) b hb)
 ·
  intro i hi;by_cases hik:i=k
  ·
   subst hik;rw[mU];exact hl
  rw[upd_ne _ _ hik];exact h.ln i (by omega)
 ·
  intro i hi j hj;by_cases hik:i=k
  ·
   subst hik;rw[mU];exact hnew j hj
  rw[upd_ne _ _ hik,hold i (by omega) j hj];exact h.cell i (by omega) j hj
 ·
  intro i hi b hb he;by_cases hik:i=k
  ·
   subst hik;rw[mU] at hb;have:=hlt b he;have:=hF b hb;omega
  rw[upd_ne _ _ hik] at hb;exact h.out i (by omega) b hb he
 intro i j hi hj hij b h1 h2;by_cases hik:i=k
 ·
  subst hik;rw[mU] at h1;rw[upd_ne _ _ (Ne.symm hij)] at h2;have:=hF b h1;have:=hfs j (by omega) b h2;omega
 rw[upd_ne _ _ hik] at h1;by_cases hjk:j=k
 ·
  subst hjk;rw[mU] at h2;have:=hF b h2;have:=hfs i (by omega) b h1;omega
 rw[upd_ne _ _ hjk] at h2;exact h.sep i j (by omega) (by omega) hij b h1 h2
def NV {α:Type} [Inhabited α] (R:Rep α) (size:Nat) (lv:Value→List Value) (w:World) (v:Value) (xs:List α):Prop:=
 ∃a cap,v = .slice a xs.length cap∧xs.length≤cap∧cap≤maxLen∧∀i,i<xs.length→∃b o u,a=some ⟨b,o,none⟩∧(lv u).length=size∧(∀j,j<size→w.cell? ⟨b,o+i*size+j,none⟩=(lv u)[j]?)∧R.V w u (xs.getD i default)
def NO {α:Type} [Inhabited α] (R:Rep α) (e size:Nat) (lv:Value→List Value) (w:World) (base:Nat) (F:Nat→Prop) (v:Value) (xs:List α):Prop:=
 ∃cs us fs,PO R e size lv w base v xs.length xs.length (fun i=>xs.getD i default) cs us fs∧∀b,F b↔(v.ownBlock=some b∨∃i,i<xs.length∧fs i b)
theorem fRt {α:Type} [Inhabited α] {R:Rep α} {size:Nat} {lv:Value→List Value} {w w':World} {v:Value} {xs:List α} (h:NV R size lv w v xs) (hb:Below w.heap.size w w'):NV R size lv w' v xs:=by
 obtain⟨a,cap,rfl,h1,h2,h3⟩:=h;refine⟨a,cap,rfl,h1,h2,fun i hi=>?_⟩;obtain⟨b,o,u,ha,hl,hc,hv⟩:=h3 i hi;refine⟨b,o,u,ha,hl,fun j hj=>?_,R.below hv hb⟩;have hs:(lv u)[j]? = some ((lv u)[j]'(by omega)):=List.getElem?_eq_getElem _;rw[hs];exact cK hb ((hc j hj).trans hs)
theorem fVp {α:Type} [Inhabited α] {R:Rep α} {e size:Nat} {lv:Value→List Value} {w:World} {base:Nat} {F:Nat→Prop} {v:Value} {xs:List α} (h:NO R e size lv w base F v xs):NV R size lv w v xs:=by
 obtain⟨cs,us,fs,hp,_⟩:=h;have hr:=hp.row;rcases hr.2 with ⟨rfl,hn⟩|⟨g,cap,cur,rfl,hb,hg,hnc,hcm,hcs,htake⟩
 ·
  exact⟨none,0,by rw[hn],by omega,by unfold maxLen;omega,fun i hi=>by omega⟩
 refine⟨some ⟨g,0,none⟩,cap,rfl,hnc,hcm,fun i hi=>⟨g,0,us i,rfl,hp.ln i hi,fun j hj=>?_,R.ofO (hp.el i hi)⟩⟩;rw[Nat.zero_add,←hp.cell i hi j hj];exact hr.cellAt _ (by
  have:i*size+size≤xs.length*size:=by rw[←Nat.succ_mul];exact Nat.mul_le_mul_right _ hi
  omega)
def nRep {α:Type} [Inhabited α] (R:Rep α) (e size:Nat) (lv:Value→List Value):Rep (List α) where
 V:=NV R size lv
 O:=NO R e size lv
 below:=fRt
 ofO:=fVp
 mod:=fun h hm hd=>by
  obtain⟨cs,us,fs,hp,hF⟩:=h;exact⟨cs,us,fs,hp.mod hm (fun b hb=>hd b ((hF b).2 (.inl hb))) (fun i hi b hb=>hd b ((hF b).2 (.inr ⟨i,hi,hb⟩))),hF⟩
 rng:=fun h b hb=>by
  obtain⟨cs,us,fs,hp,hF⟩:=h;rcases(hF b).1 hb with hb|⟨i,hi,hb⟩
  ·
   exact hp.row.lt b hb
  exact R.rng (hp.el i hi) b hb
 base:=fun h hb=>by
  obtain⟨cs,us,fs,hp,hF⟩:=h;exact⟨cs,us,fs,⟨pY hp.row hb,fun i hi=>R.base (hp.el i hi) hb,hp.ln,hp.cell,hp.out,hp.sep⟩,hF⟩
def one (v:Value):List Value:=[v]
theorem Mod.of_set (w:World) (p:Addr) (u:Value):Mod (fun b=>b=p.block) w (w.setCell p u):=
 ⟨rfl,rfl,rfl,by simp,fun k _ hn=>Below.heap_setCell w p u k hn⟩
theorem Rep.set {α:Type} (R:Rep α) {w:World} {base:Nat} {F:Nat→Prop} {v:Value} {x:α} (h:R.O w base F v x) {p:Addr} (u:Value) (hp:p.block<base):R.O (w.setCell p u) base F v x:=
 R.mod h (Mod.of_set w p u) (fun b hb e=>by have:=(R.rng h b hb).1;omega)
theorem Rep.alloc {α:Type} (R:Rep α) {w:World} {base:Nat} {F:Nat→Prop} {v:Value} {x:α} (h:R.O w base F v x) (o:Obj):R.O (w.alloc o) base F v x:=
 R.keep h (bA (Below.refl _ _) o)
theorem rE {left:Int} {n:Nat} (h0:0≤left):fI left n≤left:=by
 unfold fI;split <;> omega
def fV {α:Type} (f:α→Nat):Nat→List α→Nat
 | 0,_=>0
 | _,[]=>0
 | k+1,x::xs=>f x+fV f k xs
theorem pO {α:Type} [Inhabited α] (f:α→Nat):∀(k:Nat) (xs:List α),k<xs.length→fV f (k+1) xs=fV f k xs+f (xs.getD k default)
 | 0,x::xs,_=>by cases xs <;> simp[fV]
 | k+1,x::xs,h=>by
  have:=pO f k xs (by simpa using h);simp only[fV,List.getD_cons_succ];omega
theorem tC {α:Type} (f:α→Nat):∀(k n:Nat) (xs:List α),k≤n→fV f k xs≤fV f n xs
 | 0,_,_,_=>by simp[fV]
 | k+1,0,_,h=>by omega
 | k+1,n+1,[],_=>by simp[fV]
 | k+1,n+1,x::xs,h=>by
  have:=tC f k n xs (by omega);simp only[fV];omega
def wtL {α:Type} (f:α→Nat) (xs:List α):Nat:=xs.length+fV f xs.length xs
theorem fNk {α:Type} [Inhabited α] (f:α→Nat) {k:Nat} {xs:List α} (h:k<xs.length):fV f k xs+f (xs.getD k default)≤fV f xs.length xs:=by
 have:=tC f (k+1) xs.length xs h;rw[pO f k xs h] at this;exact this
theorem kY {α:Type} [Inhabited α] {xs ys:List α} (hl:ys.length=xs.length) (h:∀j,j<xs.length→xs.getD j default=ys.getD j default):xs=ys:=by
 apply List.ext_getElem (by omega);intro i h1 h2;have:=h i h1;simpa [List.getD,h1,h2] using this
def setRow:List Value→Nat→List Value→List Value
 | cs,_,[]=>cs
 | cs,o,a::l=>setRow (cs.set o a) (o+1) l
theorem pQ:∀(l:List Value) (cs:List Value) (o i:Nat),(i<o∨o+l.length≤i)→(setRow cs o l)[i]? = cs[i]?
 | [],_,_,_,_=>rfl
 | a::l,cs,o,i,h=>by
  simp only[setRow];simp only[List.length_cons] at h;rw[pQ l _ (o+1) i (by omega),List.getElem?_set_ne (by omega)]
theorem qI:∀(l:List Value) (cs:List Value) (o j:Nat),o+l.length≤cs.length→j<l.length→(setRow cs o l)[o+j]? = l[j]?
 | [],_,_,_,_,h=>by simp at h
 | a::l,cs,o,0,h,_=>by
  simp only[setRow,Nat.add_zero];simp only[List.length_cons] at h;rw[pQ l _ (o+1) o (by omega),List.getElem?_set_self (by omega)];rfl
 | a::l,cs,o,j+1,h,hj=>by
  simp only[setRow];simp only[List.length_cons] at h hj;rw[show o+(j+1)=o+1+j by omega,qI l _ (o+1) j (by rw[List.length_set];omega) (by omega)];rfl
theorem fDk {α:Type} [Inhabited α] {f:α→Nat} {xs:List α} {k:Nat} {B:Nat} (h:wtL f xs≤B) (hk:k<xs.length):f (xs.getD k default)≤B∧xs.length≤B:=by
 have:=fNk f hk;unfold wtL at h;omega
theorem PO.at {α:Type} {R:Rep α} {e size:Nat} {lv:Value→List Value} {w:World} {base:Nat} {a:Option Addr} {c n k:Nat} {d:Nat→α} {cs:List Value} {us:Nat→Value} {fs:Nat→Nat→Prop}
  (h:PO R e size lv w base (.slice a n c) n k d cs us fs) {j:Nat} (hj:j<k) (hn:j<n):∃g,a=some ⟨g,0,none⟩∧∀o,o<size→w.cell? ⟨g,j*size+o,none⟩=(lv (us j))[o]?:=by
 rcases h.row.2 with ⟨_,h0⟩|⟨g,cap,cur,hv,_⟩
 ·
  omega
 have hv':=hv;injection hv' with e1 e2 e3
 refine⟨g,e1,fun o ho=>?_⟩;have h1:=h.row;rw[hv] at h1;have h2:=h1.cellAt (j*size+o) (by
  have:j*size+size≤n*size:=by rw[←Nat.succ_mul];exact Nat.mul_le_mul_right _ hn
  omega)
 rw[h2,h.cell j hj o ho]
theorem PO.len {α:Type} {R:Rep α} {e size:Nat} {lv:Value→List Value} {w:World} {base:Nat} {v:Value} {n k:Nat} {d:Nat→α} {cs:List Value} {us:Nat→Value} {fs:Nat→Nat→Prop}
  (h:PO R e size lv w base v n k d cs us fs):n≤2 ^ 63-1:=by
 rcases h.row.2 with ⟨_,h⟩|⟨_,cap,_,_,_,_,h1,h2,_⟩
 ·
  omega
 unfold maxLen at h2;omega
theorem rX {w:World} {b o i:Nat} {u:Value} (h:∀j,j<1→w.cell? ⟨b,o+i*1+j,none⟩=(one u)[j]?):w.cell? ⟨b,o+i,none⟩=some u:=by
 simpa [one] using h 0 (by omega)
theorem kF {left:Int} {n:Nat} (h:fI left n<0) (m:Nat) (hm:n≤m):fI left m = -1:=by
 unfold fI at h ⊢;split at h <;> split <;> omega
theorem qB {left:Int} {n m:Nat} (h:¬fI left n<0):fI (fI left n) m=fI left ((n+m:Nat):Int):=by
 unfold fI at h ⊢;split at h
 ·
  omega
 rename_i h';rw[if_neg h'];split <;> split <;> omega
end Go.Proofs.YtbfnobcidnmohaaGreat
namespace Go.Proofs.YtbfnobcidnmohaaGreat
open Go.RowKit
variable [DecidableEq Leg] [Inhabited Leg]
attribute [local go_sem ↓] Go.wp_at_zero Go.wp_at_succ
def legsR:Rep (List Leg):=fRep 131 4 mV mJ kU kM
def fJr (xs:List Leg):Nat:=xs.length
theorem rH {w:World} {v:Value} {xs:List Leg} (h:legsR.V w v xs):∃a c,v = .slice a xs.length c:=by
 obtain⟨a,c,rfl,_⟩:=h;exact⟨_,_,rfl⟩
theorem fTx (x:Value) (d:List Leg) (w:World) (hx:legsR.V w x d) (hn:fJr d≤1048576) :
  Calls Tryz.prog 137 #[x] w fun e w'=>∃v F,e = .returned v∧legsR.O w' w.heap.size F v d∧Below w.heap.size w w':=by
 refine(fPf x d w hx hn).mono ?_;rintro e w' ⟨v,rfl,ho,hb⟩;exact⟨v,_,rfl,⟨ho,rfl⟩,hb⟩
theorem fSf (x y:Value) (d d':List Leg) (w:World) (hx:legsR.V w x d) (hy:legsR.V w y d') :
  Calls Tryz.prog 172 #[x,y] w fun e w'=>e = .returned (.bool (decide (d=d')))∧Below w.heap.size w w':=fNt x y d d' w hx hy
theorem fTu (x:Value) (d:List Leg) (left:Int) (w:World) (hx:legsR.V w x d) (h0:0≤left) (h1:left≤1048576) :
  Calls Tryz.prog 112 #[x,.int .i64 left] w fun e w'=>e = .returned (.int .i64 (fI left (fJr d)))∧Below w.heap.size w w':=by
 refine(fO6 x d left w hx h0 h1).mono ?_;rintro e w' ⟨rfl,rfl⟩;exact⟨rfl,Below.refl _ _⟩
structure Cont where
 id:Int
 legs:List Leg
variable [DecidableEq Cont] [Inhabited Cont]
def contR:Rep Cont where
 V:=fun w v x=>∃u1,v = .agg #[.int .i64 x.id,u1]∧legsR.V w u1 x.legs
 O:=fun w base F v x=>∃u1 F1,v = .agg #[.int .i64 x.id,u1]∧legsR.O w base F1 u1 x.legs∧(∀b,F b↔(F1 b))
 below:=fun h hb=>by
  obtain⟨u1,rfl,h1⟩:=h;exact⟨u1,rfl,legsR.below h1 hb⟩
 ofO:=fun h=>by
  obtain⟨u1,F1,rfl,h1,_⟩:=h;exact⟨u1,rfl,legsR.ofO h1⟩
 mod:=fun h hm hd=>by
  obtain⟨u1,F1,rfl,h1,hF⟩:=h;exact⟨u1,F1,rfl,legsR.mod h1 hm (fun b hb=>hd b ((hF b).2 hb)),hF⟩
 rng:=fun h b hb=>by
  obtain⟨u1,F1,rfl,h1,hF⟩:=h;rcases(hF b).1 hb with hb
  exact legsR.rng h1 b hb
 base:=fun h hb=>by
  obtain⟨u1,F1,rfl,h1,hF⟩:=h;exact⟨u1,F1,rfl,legsR.base h1 hb,hF⟩
def pR (x:Cont):Nat:=fJr x.legs
def fUa (v:Value):List Value:=match v with | .agg a=>one (a.getD 0 (.int .i64 0))++one (a.getD 1 (.int .i64 0))|_=>[]
theorem fJd (x:Value) (d:Cont) (w:World) (hx:contR.V w x d) (hn:pR d≤1048576) :
  Calls Tryz.prog 71 #[x] w fun e w'=>∃v F,e = .returned v∧contR.O w' w.heap.size F v d∧Below w.heap.size w w':=by
 obtain⟨u1,rfl,h1⟩:=hx;unfold pR at hn;go_enter Tryz.func71,Tryz.ntmps71;go_wp2_with fail;refine(fTx _ d.legs _ (legsR.below h1 (by(repeat (first|exact Below.refl _ _|assumption|refine Below.drew ?_|refine bA ?_ _|refine bset ?_ (by simp;omega) _|refine bset ?_ (by simp) _|refine bS ?_ (by assumption))))) (by omega)).mono ?_;rintro e w1 ⟨v1,F1,rfl,o1,b1⟩;obtain⟨a1,n1,rfl⟩:=rH (legsR.ofO o1);obtain⟨c1,f1⟩:=bcell b1;have z1:=b1.size;simp at z1;replace o1:=legsR.base (base':=w.heap.size+3) o1 (by simp;try omega);go_wp2;refine bodyPost_ret (v:=.agg #[.int .i64 d.id,.slice a1 d.legs.length n1]) ?_ rfl ⟨_,fun b=>F1 b,rfl,⟨_,F1,rfl,legsR.base (base:=w.heap.size+3) (by(repeat (first|assumption|refine Rep.set _ ?_ _ (by simp;omega)|refine Rep.set _ ?_ _ (by simp)|refine Rep.alloc _ ?_ _|refine Rep.keep _ ?_ (by assumption)))) (by omega),fun b=>Iff.rfl⟩,by(repeat (first|exact Below.refl _ _|assumption|refine Below.drew ?_|refine bA ?_ _|refine bset ?_ (by simp;omega) _|refine bset ?_ (by simp) _|refine bS ?_ (by assumption)))⟩;simp[results,Tryz.results71,go_sem,c1]
theorem fI6 (x:Value) (d:Cont) (left:Int) (w:World) (hx:contR.V w x d) (h0:0≤left) (h1:left≤1048576) :
  Calls Tryz.prog 57 #[x,.int .i64 left] w fun e w'=>e = .returned (.int .i64 (fI left (pR d)))∧Below w.heap.size w w':=by
 obtain⟨u1,rfl,k1⟩:=hx;go_enter Tryz.func57,Tryz.ntmps57;go_wp2_with fail;refine(fTu _ d.legs left _ (legsR.below k1 (by(repeat (first|exact Below.refl _ _|assumption|refine Below.drew ?_|refine bA ?_ _|refine bset ?_ (by simp;omega) _|refine bset ?_ (by simp) _|refine bS ?_ (by assumption))))) h0 h1).mono ?_;rintro e w1 ⟨rfl,b1⟩;go_wp2
 ·
  rename_i h;go_ret;refine⟨?_,by(repeat (first|exact Below.refl _ _|assumption|refine Below.drew ?_|refine bA ?_ _|refine bset ?_ (by simp;omega) _|refine bset ?_ (by simp) _|refine bS ?_ (by assumption)))⟩;rw[kF (n:=fJr d.legs) (by omega) (pR d) (by unfold pR;omega)];rfl
 rename_i h;go_ret;exact⟨rfl,by(repeat (first|exact Below.refl _ _|assumption|refine Below.drew ?_|refine bA ?_ _|refine bset ?_ (by simp;omega) _|refine bset ?_ (by simp) _|refine bS ?_ (by assumption)))⟩
theorem fHe (x y:Value) (d d':Cont) (w:World) (hx:contR.V w x d) (hy:contR.V w y d') :
  Calls Tryz.prog 92 #[x,y] w fun e w'=>e = .returned (.bool (decide (d=d')))∧Below w.heap.size w w':=by
 obtain⟨u1,rfl,h1⟩:=hx;obtain⟨v1,rfl,k1⟩:=hy;obtain⟨id,legs⟩:=d;obtain⟨id',legs'⟩:=d';dsimp only at h1 k1;go_enter Tryz.func92,Tryz.ntmps92;go_wp2_with fail;all_goals try (go_ret;exact⟨by simp_all,by(repeat (first|exact Below.refl _ _|assumption|refine Below.drew ?_|refine bA ?_ _|refine bset ?_ (by simp;omega) _|refine bset ?_ (by simp) _|refine bS ?_ (by assumption)))⟩)
 refine(fSf _ _ legs legs' _ (legsR.below h1 (by(repeat (first|exact Below.refl _ _|assumption|refine Below.drew ?_|refine bA ?_ _|refine bset ?_ (by simp;omega) _|refine bset ?_ (by simp) _|refine bS ?_ (by assumption))))) (legsR.below k1 (by(repeat (first|exact Below.refl _ _|assumption|refine Below.drew ?_|refine bA ?_ _|refine bset ?_ (by simp;omega) _|refine bset ?_ (by simp) _|refine bS ?_ (by assumption)))))).mono ?_;rintro e w1 ⟨rfl,b1⟩;go_wp2;all_goals
  go_ret;exact⟨by simp_all,by(repeat (first|exact Below.refl _ _|assumption|refine Below.drew ?_|refine bA ?_ _|refine bset ?_ (by simp;omega) _|refine bset ?_ (by simp) _|refine bS ?_ (by assumption)))⟩
end Go.Proofs.YtbfnobcidnmohaaGreat

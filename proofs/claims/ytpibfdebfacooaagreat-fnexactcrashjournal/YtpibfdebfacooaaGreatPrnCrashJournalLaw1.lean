import Derived.Test.YtpibfdebfacooaaGreatRows
import Derived.WalkKit
import Derived.WalkSpells
import Derived.WalkLawsBesides
import Derived.ProofKit
import Derived.OpenShut
import Derived.Lib.SmallJoins
import Derived.Deep.RegionHeld3
import Derived.Deep.DrawnRows
import Derived.BigQuiet
import Derived.Deep.QuietTactic
set_option maxHeartbeats 2000000
set_option linter.unusedSectionVars false
set_option linter.unusedSimpArgs false
namespace Go.Proofs.YtpibfdebfacooaaGreat
abbrev dQ (α:Type):=DecidableEq α
abbrev iH (α:Type):=Inhabited α
open Go.ChangeShapes Go.WideShapes Go.ChangeAt Go.RowKit Go.Joins
theorem fB3 {H:Type} {enc:TypeId × Value→H} {P:Program} (hl:laidOutB P=true) {W W':World} (hb:Below W.heap.size W W') :
  ∀{ts:List TypeId} {vs:List Value} {ds:List (DataW H)} {ps:List MemPlace},(∀t ∈ ts,P.readableRec t=true∧t<P.types.size) →
   DataW.TrodAll enc P W 0 (fun _=>true) true ts vs ds ps→DataW.TrodAll enc P W' 0 (fun b=>decide (b<W.heap.size)) true ts vs ds ps
 | [],[],[],_,_,h=>h
 | t::ts,v::vs,d::ds,ps,hr,h=>by
  have hlt:=DataW.TrodAll.lt h;obtain⟨p,q,h1,h2,rfl⟩:=h;refine⟨p,q,Below.trod hl (hr t (by simp)).1 (hr t (by simp)).2 h1 hb (fun x hx=>hlt x (by simp[hx])),fB3 hl hb (fun u hu=>hr u (by simp[hu])) h2,rfl⟩
 | [],[],_::_,_,_,h=>h.elim
 | [],_::_,_,_,_,h=>h.elim
 | _::_,[],_,_,_,h=>h.elim
 | _::_,_::_,[],_,_,h=>h.elim
theorem fVm {H:Type} {enc:TypeId × Value→H} {P:Program} {f:Func} {s:ChangeSpec} {W W':World} {args:Array Value} {ds gs:List (DataW H)} {before:List MemPlace} {tb:TypeId}
  (hW:DataW.Whole enc P f.params.toList s.vars false W args.toList ds gs before)
  (hl:laidOutB P=true) (hr:(f.params.toList.all fun t=>P.readableRec t&&decide (t<P.types.size))=true)
  (hvars:s.vars=[]) (hrt:f.resultTypes = #[tb]) (hb:P.underlying tb=some .bool) (hfn:gs=[]→s.fn H ds={results:=[.lit (.bool true)],args:=ds})
  (hB:Below W.heap.size W W'):s.post enc P f false true false false W args (.bool true) W':=by
 have hW0:=hW;obtain⟨p,q,hA,hV,rfl,hfz,hnd⟩:=hW;rw[hvars] at hV;obtain⟨rfl,rfl⟩:=trodVars_none hV;have hr':∀t ∈ f.params.toList,P.readableRec t=true∧t<P.types.size:=by
  intro t ht;have:=List.all_eq_true.1 hr t ht;simpa using this
 refine⟨ds,[],_,[],p,[],hW0,?_,?_,?_,hB.frame _,fun h=>by cases h⟩
 ·rw[List.append_nil,hfn rfl,hrt];exact trodAll_mk1 (shut_bool hb true)
 ·rw[List.append_nil,hfn rfl];exact fB3 hl hB hr' hA
 rw[List.append_nil,hfn rfl,hvars];exact rfl
theorem jA {α:Type _} {xs:List α} {i:Nat} (h:i<xs.toArray.size):xs.toArray[i]=xs[i]:=List.getElem_toArray h
theorem jB {α:Type _} (a:α) (l:List α) (h:0<(a::l).length):(a::l)[0]=a:=List.getElem_cons_zero a l h
theorem jC {α:Type _} (a:α) (l:List α) (i:Nat) (h:i+1<(a::l).length):(a::l)[i+1]=l[i]'(Nat.lt_of_succ_lt_succ h):=List.getElem_cons_succ a l i h
theorem jD {α:Type _} (l:List α) (i:Nat) (a:α):l.toArray.setIfInBounds i a=(l.set i a).toArray:=List.setIfInBounds_toArray l i a
theorem jE {α:Type _} {x:α} {xs:List α} {a:α}:(x::xs).set 0 a=a::xs:=List.set_cons_zero
theorem jF {α:Type _} {x:α} {xs:List α} {i:Nat} {a:α}:(x::xs).set (i+1) a=x::xs.set i a:=List.set_cons_succ
theorem jX:(∀{α:Type} {xs:List α} {i:Nat} (h:i<xs.toArray.size),xs.toArray[i]=xs[i]'(by simpa using h))∧(∀{α:Type} (a:α) (l:List α) (h:0<(a::l).length),(a::l)[0]=a)∧(∀{α:Type} (a:α) (l:List α) (i:Nat) (h:i+1<(a::l).length),(a::l)[i+1]=l[i]'(Nat.lt_of_succ_lt_succ h))∧(∀{α:Type} (l:List α) (i:Nat) (a:α),l.toArray.setIfInBounds i a=(l.set i a).toArray)∧(∀{α:Type} {x:α} {xs:List α} {a:α},(x::xs).set 0 a=a::xs)∧(∀{α:Type} {x:α} {xs:List α} {i:Nat} {a:α},(x::xs).set (i+1) a=x::xs.set i a)∧(∀(a:Act) (i:Tmp) (v:Value),a.put (some i) v={a with tmps:=a.tmps.setIfInBounds i v})∧(∀(a:Act) (v:Value),a.put none v=a):=⟨fun h=>jA h,fun a l h=>jB a l h,fun a l i h=>jC a l i h,fun l i a=>jD l i a,jE,jF,fun _ _ _=>rfl,fun _ _=>rfl⟩
theorem lZ:(∀{α β:Type} (f:α→β) (a:α) (l:List α),(a::l).map f=f a::l.map f)∧(∀{α β:Type} (f:α→β),([]:List α).map f=[])∧(∀{α β:Type} (f:β→α→β) (b:β) (a:α) (l:List α),(a::l).foldl f b=l.foldl f (f b a))∧(∀{α β:Type} (f:β→α→β) (b:β),([]:List α).foldl f b=b):=⟨fun _ _ _=>rfl,fun _=>rfl,fun _ _ _ _=>rfl,fun _ _=>rfl⟩
theorem wL (w:World) (p:Addr) {v:Value} (h:w.cell? p=some v):p.block<w.heap.size:=World.block_lt_of_cell? w p h
theorem bR (n:Nat) (w:World):Below n w w:=Below.refl n w
theorem bD {n:Nat} {w w':World} (h:Below n w w'):Below n w w'.drew:=Below.drew h
theorem bcell {W w1:World} (hb:Below W.heap.size W w1):(∀b o,b<W.heap.size→w1.cell? ⟨b,o,none⟩=W.cell? ⟨b,o,none⟩)∧(∀b o,b<W.heap.size→w1.frozen? ⟨b,o,none⟩=W.frozen? ⟨b,o,none⟩):=
 ⟨fun b o h=>hb.cell (p:=⟨b,o,none⟩) h,fun b o h=>hb.frozen (p:=⟨b,o,none⟩) h⟩
theorem bS {w Y X:World} (h:Below w.heap.size w Y) (k:Below Y.heap.size Y X):Below w.heap.size w X:=h.trans (k.mono h.size)
theorem bA {w Y:World} (h:Below w.heap.size w Y) (o:Obj):Below w.heap.size w (Y.alloc o):=h.alloc h.size o
theorem fAg {w w':World} (h:Below w.heap.size w w'):w.grownBy w' none:=⟨h.os,h.tape,h.output,h.size,fun k hk _=>h.block k hk⟩
theorem fV {w w':World} {base e size:Nat} {v:Value} {n:Nat} {xs:List Value} (h:w.ownsRow base e size v n xs) (hb:Below w.heap.size w w'):w'.ownsRow base e size v n xs:=
 h.kept (fAg hb) (by cases hv:v.ownBlock <;> simp)
theorem mV {w:World} {base e size g n cap:Nat} {xs:List Value} (h:w.ownsRow base e size (.slice (some ⟨g,0,none⟩) n cap) n xs) (j:Nat) (hj:j<n*size):∃u,w.cell? ⟨g,j,none⟩=some u:=by
 have h1:=h.cellAt j hj;have h2:=h.1;exact⟨xs[j]'(by omega),by rw[h1,List.getElem?_eq_getElem]⟩
theorem fD {w:World} {base e size:Nat} {v:Value} {n:Nat} {xs:List Value} (h:w.ownsRow base e size v n xs):∃a c,v =.slice a n c:=by
 rcases h.2 with ⟨rfl,rfl⟩|⟨g,cap,cur,rfl,_⟩
 ·exact⟨_,_,rfl⟩
 exact⟨_,_,rfl⟩
theorem bset {w Y:World} (h:Below w.heap.size w Y) {p:Addr} (hp:w.heap.size≤p.block) (u:Value):Below w.heap.size w (Y.setCell p u):=h.setCell hp u
theorem qBq {n:Nat} {w w':World} (h:Below n w w':=by(repeat (first|exact bR _ _|assumption|refine bD ?_|refine bA ?_ _|refine bset ?_ (by simp;omega) _|refine bset ?_ (by simp) _|refine bS ?_ (by assumption)))):Below n w w':=h
theorem rG {w:World} {base base' e size:Nat} {v:Value} {n:Nat} {xs:List Value} (h:w.ownsRow base e size v n xs) (hb:base'≤base):w.ownsRow base' e size v n xs:=by
 refine⟨h.1,?_⟩;rcases h.2 with h2|⟨g,cap,cur,hv,hg,r⟩
 ·exact .inl h2
 exact .inr ⟨g,cap,cur,hv,Nat.le_trans hb hg,r⟩
theorem pI {w:World} {base e size:Nat} {v:Value} {n:Nat} {xs:List Value} (h:w.ownsRow base e size v n xs) {a:Addr} (ha:a.block<base) (u:Value):(w.setCell a u).ownsRow base e size v n xs:=
 ownsRow_setCell_below h ha u
theorem vO {w:World} {a:Addr} {v u:Value} (h:w.cell? a=some u):(w.setCell a v).cell? a=some v:=by
 first|exact World.cell?_setCell_same h|exact World.cell?_setCell_same _ h|exact World.cell?_setCell_same _ _ _ h
theorem kD {w:World} {a b:Addr} {v:Value} (h:a≠b):(w.setCell a v).cell? b=w.cell? b:=by
 first|exact World.cell?_setCell_other h|exact World.cell?_setCell_other _ h|exact World.cell?_setCell_other _ _ _ _ h
theorem cK {w w':World} {a:Addr} {v:Value} (hb:Below w.heap.size w w') (h:w.cell? a=some v):w'.cell? a=some v:=
 (hb.cell (World.block_lt_of_cell? w a h)).trans h
theorem oM {P:Prop} (h:P:=by omega):P:=h
theorem sG {P:Prop} (h:P:=by simp[go_sem]):P:=h
theorem kF {P:Prop} (h:P:=by kernel_rfl):P:=h
theorem mI {P:Prop} (h:P:=by simp[intOf];omega):P:=h
theorem nU {P:Prop} (h:P:=by go_num):P:=h
theorem qS {P:Prop} (h:P:=by(repeat (first|refine bset ?_ (by simp;omega) _|refine bset ?_ (by simp) _|refine bA ?_ _|assumption))):P:=h
theorem qT {P:Prop} (h:P:=by(repeat (first|exact bR _ _|assumption|refine bD ?_|refine bA ?_ _|refine bS ?_ (by assumption)))):P:=h
theorem bT (w:World) {Y X:World} (k:Below Y.heap.size Y X) (h:Below w.heap.size w Y:=by(repeat (first|exact bR _ _|assumption|refine bD ?_|refine bA ?_ _|refine bset ?_ (by simp;omega) _|refine bset ?_ (by simp) _|refine bS ?_ (by assumption)))):Below w.heap.size w X:=bS h k
theorem kQ {w Y X:World} {p:Addr} {v:Value} (k:Below Y.heap.size Y X) (y:w.cell? p=some v) (h:Below w.heap.size w Y:=by(repeat (first|exact bR _ _|assumption|refine bD ?_|refine bA ?_ _|refine bset ?_ (by simp;omega) _|refine bset ?_ (by simp) _|refine bS ?_ (by assumption)))):X.cell? p=some v:=cK k (cK h y)
theorem rH {P:Prop} (h:P:=by rw[HC.out];rfl):P:=h
abbrev bW (w:World) (f:World→Prop):Prop:=∀W,Below w.heap.size w W→f W
abbrev RI (f:FuncId) (xs:Array Value) (w:World) (v:Value):Prop:=Calls Tryz.prog f xs w fun e w'=>e =.returned v∧Below w.heap.size w w'
theorem kS2 {w w':World} {p0 p1:Addr} {v0 v1:Value} (hb:Below w.heap.size w w') (h:w.cell? p0=some v0∧w.cell? p1=some v1):w'.cell? p0=some v0∧w'.cell? p1=some v1:=⟨cK hb h.1,cK hb h.2⟩
theorem kS3 {w w':World} {p0 p1 p2:Addr} {v0 v1 v2:Value} (hb:Below w.heap.size w w') (h:w.cell? p0=some v0∧w.cell? p1=some v1∧w.cell? p2=some v2):w'.cell? p0=some v0∧w'.cell? p1=some v1∧w'.cell? p2=some v2:=⟨cK hb h.1,kS2 hb h.2⟩
theorem kS4 {w w':World} {p0 p1 p2 p3:Addr} {v0 v1 v2 v3:Value} (hb:Below w.heap.size w w') (h:w.cell? p0=some v0∧w.cell? p1=some v1∧w.cell? p2=some v2∧w.cell? p3=some v3):w'.cell? p0=some v0∧w'.cell? p1=some v1∧w'.cell? p2=some v2∧w'.cell? p3=some v3:=⟨cK hb h.1,kS3 hb h.2⟩
theorem kS5 {w w':World} {p0 p1 p2 p3 p4:Addr} {v0 v1 v2 v3 v4:Value} (hb:Below w.heap.size w w') (h:w.cell? p0=some v0∧w.cell? p1=some v1∧w.cell? p2=some v2∧w.cell? p3=some v3∧w.cell? p4=some v4):w'.cell? p0=some v0∧w'.cell? p1=some v1∧w'.cell? p2=some v2∧w'.cell? p3=some v3∧w'.cell? p4=some v4:=⟨cK hb h.1,kS4 hb h.2⟩
theorem kS6 {w w':World} {p0 p1 p2 p3 p4 p5:Addr} {v0 v1 v2 v3 v4 v5:Value} (hb:Below w.heap.size w w') (h:w.cell? p0=some v0∧w.cell? p1=some v1∧w.cell? p2=some v2∧w.cell? p3=some v3∧w.cell? p4=some v4∧w.cell? p5=some v5):w'.cell? p0=some v0∧w'.cell? p1=some v1∧w'.cell? p2=some v2∧w'.cell? p3=some v3∧w'.cell? p4=some v4∧w'.cell? p5=some v5:=⟨cK hb h.1,kS5 hb h.2⟩
theorem kS7 {w w':World} {p0 p1 p2 p3 p4 p5 p6:Addr} {v0 v1 v2 v3 v4 v5 v6:Value} (hb:Below w.heap.size w w') (h:w.cell? p0=some v0∧w.cell? p1=some v1∧w.cell? p2=some v2∧w.cell? p3=some v3∧w.cell? p4=some v4∧w.cell? p5=some v5∧w.cell? p6=some v6):w'.cell? p0=some v0∧w'.cell? p1=some v1∧w'.cell? p2=some v2∧w'.cell? p3=some v3∧w'.cell? p4=some v4∧w'.cell? p5=some v5∧w'.cell? p6=some v6:=⟨cK hb h.1,kS6 hb h.2⟩
theorem kS8 {w w':World} {p0 p1 p2 p3 p4 p5 p6 p7:Addr} {v0 v1 v2 v3 v4 v5 v6 v7:Value} (hb:Below w.heap.size w w') (h:w.cell? p0=some v0∧w.cell? p1=some v1∧w.cell? p2=some v2∧w.cell? p3=some v3∧w.cell? p4=some v4∧w.cell? p5=some v5∧w.cell? p6=some v6∧w.cell? p7=some v7):w'.cell? p0=some v0∧w'.cell? p1=some v1∧w'.cell? p2=some v2∧w'.cell? p3=some v3∧w'.cell? p4=some v4∧w'.cell? p5=some v5∧w'.cell? p6=some v6∧w'.cell? p7=some v7:=⟨cK hb h.1,kS7 hb h.2⟩
theorem kS9 {w w':World} {p0 p1 p2 p3 p4 p5 p6 p7 p8:Addr} {v0 v1 v2 v3 v4 v5 v6 v7 v8:Value} (hb:Below w.heap.size w w') (h:w.cell? p0=some v0∧w.cell? p1=some v1∧w.cell? p2=some v2∧w.cell? p3=some v3∧w.cell? p4=some v4∧w.cell? p5=some v5∧w.cell? p6=some v6∧w.cell? p7=some v7∧w.cell? p8=some v8):w'.cell? p0=some v0∧w'.cell? p1=some v1∧w'.cell? p2=some v2∧w'.cell? p3=some v3∧w'.cell? p4=some v4∧w'.cell? p5=some v5∧w'.cell? p6=some v6∧w'.cell? p7=some v7∧w'.cell? p8=some v8:=⟨cK hb h.1,kS8 hb h.2⟩
theorem kS10 {w w':World} {p0 p1 p2 p3 p4 p5 p6 p7 p8 p9:Addr} {v0 v1 v2 v3 v4 v5 v6 v7 v8 v9:Value} (hb:Below w.heap.size w w') (h:w.cell? p0=some v0∧w.cell? p1=some v1∧w.cell? p2=some v2∧w.cell? p3=some v3∧w.cell? p4=some v4∧w.cell? p5=some v5∧w.cell? p6=some v6∧w.cell? p7=some v7∧w.cell? p8=some v8∧w.cell? p9=some v9):w'.cell? p0=some v0∧w'.cell? p1=some v1∧w'.cell? p2=some v2∧w'.cell? p3=some v3∧w'.cell? p4=some v4∧w'.cell? p5=some v5∧w'.cell? p6=some v6∧w'.cell? p7=some v7∧w'.cell? p8=some v8∧w'.cell? p9=some v9:=⟨cK hb h.1,kS9 hb h.2⟩
theorem kS11 {w w':World} {p0 p1 p2 p3 p4 p5 p6 p7 p8 p9 p10:Addr} {v0 v1 v2 v3 v4 v5 v6 v7 v8 v9 v10:Value} (hb:Below w.heap.size w w') (h:w.cell? p0=some v0∧w.cell? p1=some v1∧w.cell? p2=some v2∧w.cell? p3=some v3∧w.cell? p4=some v4∧w.cell? p5=some v5∧w.cell? p6=some v6∧w.cell? p7=some v7∧w.cell? p8=some v8∧w.cell? p9=some v9∧w.cell? p10=some v10):w'.cell? p0=some v0∧w'.cell? p1=some v1∧w'.cell? p2=some v2∧w'.cell? p3=some v3∧w'.cell? p4=some v4∧w'.cell? p5=some v5∧w'.cell? p6=some v6∧w'.cell? p7=some v7∧w'.cell? p8=some v8∧w'.cell? p9=some v9∧w'.cell? p10=some v10:=⟨cK hb h.1,kS10 hb h.2⟩
theorem kS12 {w w':World} {p0 p1 p2 p3 p4 p5 p6 p7 p8 p9 p10 p11:Addr} {v0 v1 v2 v3 v4 v5 v6 v7 v8 v9 v10 v11:Value} (hb:Below w.heap.size w w') (h:w.cell? p0=some v0∧w.cell? p1=some v1∧w.cell? p2=some v2∧w.cell? p3=some v3∧w.cell? p4=some v4∧w.cell? p5=some v5∧w.cell? p6=some v6∧w.cell? p7=some v7∧w.cell? p8=some v8∧w.cell? p9=some v9∧w.cell? p10=some v10∧w.cell? p11=some v11):w'.cell? p0=some v0∧w'.cell? p1=some v1∧w'.cell? p2=some v2∧w'.cell? p3=some v3∧w'.cell? p4=some v4∧w'.cell? p5=some v5∧w'.cell? p6=some v6∧w'.cell? p7=some v7∧w'.cell? p8=some v8∧w'.cell? p9=some v9∧w'.cell? p10=some v10∧w'.cell? p11=some v11:=⟨cK hb h.1,kS11 hb h.2⟩
theorem kS13 {w w':World} {p0 p1 p2 p3 p4 p5 p6 p7 p8 p9 p10 p11 p12:Addr} {v0 v1 v2 v3 v4 v5 v6 v7 v8 v9 v10 v11 v12:Value} (hb:Below w.heap.size w w') (h:w.cell? p0=some v0∧w.cell? p1=some v1∧w.cell? p2=some v2∧w.cell? p3=some v3∧w.cell? p4=some v4∧w.cell? p5=some v5∧w.cell? p6=some v6∧w.cell? p7=some v7∧w.cell? p8=some v8∧w.cell? p9=some v9∧w.cell? p10=some v10∧w.cell? p11=some v11∧w.cell? p12=some v12):w'.cell? p0=some v0∧w'.cell? p1=some v1∧w'.cell? p2=some v2∧w'.cell? p3=some v3∧w'.cell? p4=some v4∧w'.cell? p5=some v5∧w'.cell? p6=some v6∧w'.cell? p7=some v7∧w'.cell? p8=some v8∧w'.cell? p9=some v9∧w'.cell? p10=some v10∧w'.cell? p11=some v11∧w'.cell? p12=some v12:=⟨cK hb h.1,kS12 hb h.2⟩
theorem fV8 {w w':World} {a b:Addr} {u v:Value} (hb:Below w.heap.size w w') (h:w.cell? a=some u) (k:w.cell? b=some v):Below w.heap.size w w'∧w'.cell? a=some u∧w'.cell? b=some v:=
 ⟨hb,cK hb h,cK hb k⟩
def uC (left n:Int):Int:=if left<n then -1 else left-n
theorem uL {w w1 w2:World} {r:Option Nat} (h:w.grownBy w1 r) (k:w1.grownBy w2 r):w.grownBy w2 r:=
 ⟨k.os.trans h.os,k.tape.trans h.tape,k.output.trans h.output,Nat.le_trans h.size k.size,fun i hi hr=>(k.block i (Nat.lt_of_lt_of_le hi h.size) hr).trans (h.block i hi hr)⟩
theorem own:ownKnob Tryz.prog.godebug=none:=by kernel_rfl
theorem laidOut:laidOutB Tryz.prog=true:=by kernel_rfl
end Go.Proofs.YtpibfdebfacooaaGreat
namespace Go.Proofs.YtpibfdebfacooaaGreat
open Go.RowKit
attribute [local go_sem ↓] Go.wp_at_zero Go.wp_at_succ
structure Bal where
 ac:Int
 ast:Int
 am:Int
variable [dQ Bal] [iH Bal]
def balV (x:Bal):Value:=.agg #[.int .i64 x.ac,.int .i64 x.ast,.int .i64 x.am]
theorem fJi (x:Bal) (w:World) :
  Calls Tryz.prog 62 #[balV x] w fun e w'=>e =.returned (balV x)∧Below w.heap.size w w':=by
 obtain⟨a,b,c⟩:=x;unfold balV;go_enter Tryz.func62,Tryz.ntmps62;go_wp2;exact bodyPost_ret (v:=.agg #[.int .i64 a,.int .i64 b,.int .i64 c]) (by simp[results,Tryz.results62,go_sem]) rfl ⟨rfl,bA (bA (bA (Below.refl _ _) _) _) _⟩
theorem fIg (x y:Bal) (w:World) :
  Calls Tryz.prog 64 #[balV x,balV y] w fun e w'=>e =.returned (.bool (decide (x=y)))∧Below w.heap.size w w':=by
 obtain⟨a,b,c⟩:=x;obtain⟨a',b',c'⟩:=y;unfold balV;go_enter Tryz.func64,Tryz.ntmps64;go_wp2;all_goals
  go_ret;exact⟨by simp_all,bA (bA (Below.refl _ _) _) _⟩
def uD (w:World) (b o:Nat) (x:Bal):Prop:=w.cell? ⟨b,o,none⟩=some (.int .i64 x.ac)∧w.cell? ⟨b,o+1,none⟩=some (.int .i64 x.ast)∧w.cell? ⟨b,o+2,none⟩=some (.int .i64 x.am)
def fIb (w:World) (v:Value) (xs:List Bal):Prop:=
 ∃a cap,v =.slice a xs.length cap∧xs.length≤cap∧cap≤maxLen∧∀i,i<xs.length→∃b o,a=some ⟨b,o,none⟩∧uD w b (o+i*3) (xs.getD i default)
theorem kI {w w':World} {b o:Nat} {x:Bal} (hb:Below w.heap.size w w') (h:uD w b o x):uD w' b o x:=by
 obtain⟨h0,h1,h2⟩:=h;exact⟨cK hb h0,cK hb h1,cK hb h2⟩
theorem fLt {w w':World} {v:Value} {xs:List Bal} (h:fIb w v xs) (hb:Below w.heap.size w w'):fIb w' v xs:=by
 obtain⟨a,cap,rfl,h1,h2,h3⟩:=h;exact⟨a,cap,rfl,h1,h2,fun i hi=>by
  obtain⟨b,o,ha,hc⟩:=h3 i hi;exact⟨b,o,ha,kI hb hc⟩⟩
theorem fNy {w w':World} {b o b' o':Nat} {x y:Bal} (hb:Below w.heap.size w w') (h:uD w b o x) (h':uD w b' o' y) :
  Below w.heap.size w w'∧(w'.cell? ⟨b,o,none⟩=some (.int .i64 x.ac)∧w'.cell? ⟨b,o+1,none⟩=some (.int .i64 x.ast)∧w'.cell? ⟨b,o+2,none⟩=some (.int .i64 x.am))∧(w'.cell? ⟨b',o',none⟩=some (.int .i64 y.ac)∧w'.cell? ⟨b',o'+1,none⟩=some (.int .i64 y.ast)∧w'.cell? ⟨b',o'+2,none⟩=some (.int .i64 y.am)):=
 ⟨hb,kI hb h,kI hb h'⟩
theorem fPp {xs ys:List Bal} (hl:ys.length=xs.length) (h:∀j,j<xs.length→xs.getD j default=ys.getD j default):xs=ys:=by
 apply List.ext_getElem (by omega);intro i h1 h2;have:=h i h1;simpa [List.getD,h1,h2] using this
theorem fGb (x y:Value) (xs ys:List Bal) (w:World) (hx:fIb w x xs) (hy:fIb w y ys) :
  Calls Tryz.prog 31 #[x,y] w fun e w'=>e =.returned (.bool (decide (xs=ys)))∧Below w.heap.size w w':=by
 obtain⟨ax,cx,rfl,hcx,hmx,hx⟩:=hx;obtain⟨ay,cy,rfl,hcy,hmy,hy⟩:=hy;unfold maxLen at hmx hmy;by_cases hl:ys.length=xs.length
 ·
  rw[hl] at hcy hy ⊢;have HL:Hid (ys.length=xs.length):=hl;clear hl;generalize hn:xs.length=n at *;have HN:Hid (xs.length=n):=hn;clear hn;go_enter Tryz.func31,Tryz.ntmps31;go_wp2;go_loopw [5] (fun i w'=>∃k:Nat,k≤n∧i =.int .i64 k∧(∀j,j<k→xs.getD j default=ys.getD j default)∧Below w.heap.size w w') (fun i _=>n-(intOf i).toNat)
  case atStart=>exact⟨0,Nat.zero_le _,rfl,fun j h=>absurd h (Nat.not_lt_zero _),Below.refl _ _⟩
  obtain⟨k,hk,rfl,hpre,hbl⟩:=hrel;have HP:Hid (∀j,j<k→xs.getD j default=ys.getD j default):=hpre;clear hpre;by_cases hlt:k<n
  ·
   obtain⟨bx,ox,rfl,h1⟩:=hx k hlt;obtain⟨b2,oy,rfl,h2⟩:=hy k hlt;obtain⟨l1,hl1⟩:∃l,l=xs.getD k default:=⟨_,rfl⟩
   obtain⟨l2,hl2⟩:∃l,l=ys.getD k default:=⟨_,rfl⟩
   rw[←hl1] at h1;rw[←hl2] at h2;have H1:Hid (l1=xs.getD k default):=hl1;have H2:Hid (l2=ys.getD k default):=hl2;clear hl1 hl2 hx hy;go_wp2;go_region_held3 (fun w'=>Below w.heap.size w w'∧(w'.cell? ⟨bx,ox+k*3,none⟩=some (.int .i64 l1.ac)∧w'.cell? ⟨bx,ox+k*3+1,none⟩=some (.int .i64 l1.ast)∧w'.cell? ⟨bx,ox+k*3+2,none⟩=some (.int .i64 l1.am))∧(w'.cell? ⟨b2,oy+k*3,none⟩=some (.int .i64 l2.ac)∧w'.cell? ⟨b2,oy+k*3+1,none⟩=some (.int .i64 l2.ast)∧w'.cell? ⟨b2,oy+k*3+2,none⟩=some (.int .i64 l2.am))) ((refine fNy ?_ h1 h2;repeat (first|exact Below.refl _ _|assumption|refine Below.drew ?_|refine bA ?_ _|refine bS ?_ (by assumption)))) (first|(go_at_call 64;refine(fIg l1 l2 _).mono ?_;rintro e w' ⟨rfl,hb1⟩));rename_i hH;have hB:=hH.1;clear hH;go_wp2
   ·
    rename_i hle;go_ret;refine⟨?_,hB⟩;have:¬xs=ys:=fun h=>by
     have:l1=l2:=by rw[H1.out,H2.out,h]
     simp[this] at hle
    simp[this]
   rename_i hle;refine⟨⟨k+1,by omega,by go_num,fun j hj=>?_,hB⟩,by simp[intOf];omega⟩;by_cases hjk:j<k
   ·exact HP.out j hjk
   have:j=k:=by omega
   subst this;rw[←H1.out,←H2.out];simpa using hle
  go_wp2;go_ret;have:k=n:=by omega
  subst this;refine⟨?_,hbl⟩;have:xs=ys:=fPp (by rw[HL.out,HN.out]) (by rw[HN.out];exact HP.out);simp[this]
 go_enter Tryz.func31,Tryz.ntmps31;have hl':((xs.length:Int)==(ys.length:Int))=false:=by simp;omega
 go_wp2;go_ret;have:¬xs=ys:=fun h=>hl (by rw[h])
 exact⟨by simp[this],Below.refl _ _⟩
def balC (x:Bal):List Value:=[.int .i64 x.ac,.int .i64 x.ast,.int .i64 x.am]
def kX (xs:List Bal):List Value:=xs.flatMap balC
theorem fAx:(Tryz.prog.info? 103).map (fun i=>(i.zero,i.size,i.bytes))=some (some (.agg #[.int .i64 0,.int .i64 0,.int .i64 0]),3,24):=by kernel_rfl
theorem qV (xs:List Bal):(kX xs).length=xs.length*3:=by
 induction xs with
 | nil=>rfl
 | cons x r ih=>
  have e:kX (x::r)=balC x++kX r:=by simp[kX]
  have l4:(balC x).length=3:=rfl;rw[e,List.length_append,l4,ih,List.length_cons];omega
theorem fEk (xs:List Bal):∀i,i<xs.length→(kX xs)[i*3]? = some (.int .i64 (xs.getD i default).ac)∧(kX xs)[i*3+1]? = some (.int .i64 (xs.getD i default).ast)∧(kX xs)[i*3+2]? = some (.int .i64 (xs.getD i default).am):=by
 induction xs with
 | nil=>intro i h;simp at h
 | cons x r ih=>
  intro i h;cases i with
  | zero=>simp[kX,balC]
  | succ i=>
   have:=ih i (by simpa using h);have e:kX (x::r)=balC x++kX r:=by simp[kX]
   have l4:(balC x).length=3:=rfl;rw[e];refine⟨?_,?_,?_⟩;all_goals rw[List.getElem?_append_right (by omega),l4]
   ·rw[show(i+1)*3-3=i*3 by omega];simpa using this.1
   ·rw[show(i+1)*3+1-3=i*3+1 by omega];simpa using this.2.1
   rw[show(i+1)*3+2-3=i*3+2 by omega];simpa using this.2.2
theorem fIc {w:World} {base e:Nat} {v:Value} {xs:List Bal} (h:w.ownsRow base e 3 v xs.length (kX xs)):fIb w v xs:=by
 rcases h.2 with ⟨rfl,hn⟩|⟨g,cap,cur,rfl,hb,hg,hnc,hcm,hcs,htake⟩
 ·exact⟨none,0,by rw[hn],by omega,by unfold maxLen;omega,fun i hi=>by omega⟩
 refine⟨some ⟨g,0,none⟩,cap,rfl,hnc,hcm,fun i hi=>⟨g,0,rfl,?_⟩⟩;obtain⟨h0,h1,h2⟩:=fEk xs i hi;simp only[Nat.zero_add,uD];exact⟨(h.cellAt _ (by omega)).trans h0,(h.cellAt _ (by omega)).trans h1,(h.cellAt _ (by omega)).trans h2⟩
def fAq (k:Nat) (cs:List Value) (xs:List Bal):Prop:=∀j,j<k*3→cs[j]? = (kX xs)[j]?
theorem fC1 {n:Nat} {cs:List Value} {xs:List Bal} (h:fAq n cs xs) (hl:cs.length=n*3) (hn:xs.length=n):cs=kX xs:=by
 apply List.ext_getElem?;intro j;by_cases hj:j<n*3
 ·exact h j hj
 rw[List.getElem?_eq_none (by omega),List.getElem?_eq_none (by rw[qV];omega)]
theorem fD4 {k:Nat} {cs:List Value} {xs:List Bal} {x:Bal} (h:fAq k cs xs) (hk:k<xs.length) (hl:cs.length=xs.length*3) (he:x=xs.getD k default) :
  fAq (k+1) (((cs.set (k*3) (.int .i64 x.ac)).set (k*3+1) (.int .i64 x.ast)).set (k*3+2) (.int .i64 x.am)) xs:=by
 intro j hj;obtain⟨h0,h1,h2⟩:=fEk xs k hk;subst he;simp only[List.getElem?_set,List.length_set];by_cases e2:k*3+2=j
 ·subst e2;simp[h2];omega
 by_cases e1:k*3+1=j
 ·subst e1;simp[h1];omega
 by_cases e0:k*3=j
 ·subst e0;simp[h0];omega
 simp[e0,e1,e2];exact h j (by omega)
theorem fGo (x:Value) (xs:List Bal) (w:World) (hx:fIb w x xs) (hn:xs.length≤1048576) :
  Calls Tryz.prog 29 #[x] w fun e w'=>∃v,e =.returned v∧w'.ownsRow w.heap.size 103 3 v xs.length (kX xs)∧Below w.heap.size w w':=by
 obtain⟨ax,cx,rfl,hcx,hmx,hx⟩:=hx;unfold maxLen at hmx;obtain⟨i0,hi,hz0,hz1,hz2⟩:=info_parts fAx;obtain⟨w1,hmk,hown,hgr⟩:=run_make_full (P:=Tryz.prog) w w.heap.size 30 103 i0 _ 3 Tryz.underlying30 hi hz0 hz1 .i64 .i64 xs.length (by rw[hz2];omega) (by unfold maxLen;omega) (Nat.le_refl _);have hbl0:Below w.heap.size w w1:=(Below.refl _ _).grown hgr (Nat.le_refl _) (fun k h=>by cases h);generalize hn':xs.length=n at *;have HN:Hid (xs.length=n):=hn';clear hn';go_enter Tryz.func29,Tryz.ntmps29;go_wp2;go_loopw [4] (fun i w'=>∃(k:Nat) (cs:List Value),k≤n∧i =.int .i64 k∧w'.ownsRow w.heap.size 103 3 (.slice (some ⟨w.heap.size,0,none⟩) n n) n cs∧fAq k cs xs∧Below w.heap.size w w') (fun i _=>n-(intOf i).toNat)
 case atStart=>exact⟨0,_,Nat.zero_le _,rfl,hown,fun j h=>by omega,hbl0⟩
 obtain⟨k,cs,hk,rfl,ho,hup,hbl⟩:=hrel;have HU:Hid (fAq k cs xs):=hup;clear hup hown hmk hgr hbl0;by_cases hlt:k<n
 ·
  obtain⟨bx,ox,rfl,h1⟩:=hx k hlt;obtain⟨l,hl⟩:∃l,l=xs.getD k default:=⟨_,rfl⟩
  rw[←hl] at h1;have H1:Hid (l=xs.getD k default):=hl;clear hl hx;obtain⟨a0,a1,a2⟩:=kI hbl h1;go_wp2_with fail;refine(fJi l _).mono ?_;rintro e wa ⟨rfl,hba⟩;have ho1:=fV ho hba;obtain⟨u0,g0⟩:=mV ho1 (k*3) (by omega);obtain⟨u1,g1⟩:=mV ho1 (k*3+1) (by omega);obtain⟨u2,g2⟩:=mV ho1 (k*3+2) (by omega);have hf:=fun j=>ho1.frozenAt j
  simp only[balV];go_wp2;have s0:=ho1.stored (k*3) (.int .i64 l.ac);have s1:=s0.1.stored (k*3+1) (.int .i64 l.ast);have s2:=s1.1.stored (k*3+2) (.int .i64 l.am);refine⟨⟨k+1,_,by omega,by go_num,s2.1,fD4 HU.out (by have:=HN.out;omega) (by have:=HN.out;have:=ho.1;omega) H1.out,?_⟩,by simp[intOf];omega⟩;exact(((bS hbl hba).setCell (Nat.le_refl _) _).setCell (Nat.le_refl _) _).setCell (Nat.le_refl _) _
 go_wp2;go_ret;have hkn:k=n:=by omega
 subst hkn;have e:=fC1 HU.out ho.1 HN.out;subst e;exact⟨_,rfl,ho,hbl⟩
def fIe (k:Int) (i:Nat):Bal:=⟨k+3*i,k+3*i+1,k+3*i+1+1⟩
def uE (k:Int) (n:Nat):List Bal:=(List.range n).map (fIe k)
theorem qC (k:Int) (n:Nat):(uE k n).length=n:=by simp[uE]
theorem fBd (k:Int) (n i:Nat) (h:i<n):(uE k n).getD i default=fIe k i:=by simp[uE,List.getD,h]
theorem fDl (v:Value) (n:Nat) (cs:List Value) (base e:Nat) (k:Int) (w:World) (ho:w.ownsRow base e 3 v n cs) (hn:n≤1048576) (hk0:0≤k) (hk1:k≤1073741824) :
  Calls Tryz.prog 39 #[v,.int .i64 k] w fun r w'=>r =.returned (.int .i64 (k+3*n))∧w'.ownsRow base e 3 v n (kX (uE k n))∧w.grownBy w' v.ownBlock:=by
 rcases ho.2 with ⟨rfl,rfl⟩|⟨g,cap,cur,rfl,hb,hg,hnc,hcm,_,_⟩
 ·
  go_enter Tryz.func39,Tryz.ntmps39;go_wp2;go_loopw [1,5] (fun q i w'=>q =.int .i64 k∧i =.int .i64 0∧w'=w) (fun _ _ _=>0)
  case atStart=>exact⟨rfl,rfl,rfl⟩
  obtain⟨rfl,rfl,rfl⟩:=hrel;go_wp2;go_ret;exact⟨by simp,World.ownsRow_nil _ _ _ _,⟨rfl,rfl,rfl,Nat.le_refl _,fun _ _ _=>rfl⟩⟩
 unfold maxLen at hcm;go_enter Tryz.func39,Tryz.ntmps39;go_wp2;go_loopw [1,5] (fun q i w'=>∃(j:Nat) (cs':List Value),j≤n∧i =.int .i64 j∧q =.int .i64 (k+3*j)∧w'.ownsRow base e 3 (.slice (some ⟨g,0,none⟩) n cap) n cs'∧fAq j cs' (uE k n)∧w.grownBy w' (some g)) (fun _ i _=>n-(intOf i).toNat)
 case atStart=>exact⟨0,cs,Nat.zero_le _,rfl,by simp,ho,fun j h=>by omega,⟨rfl,rfl,rfl,Nat.le_refl _,fun _ _ _=>rfl⟩⟩
 obtain⟨j,cs',hj,rfl,rfl,ho1,hup,hgr⟩:=hrel;have HU:Hid (fAq j cs' (uE k n)):=hup;clear hup ho hg;by_cases hlt:j<n
 ·
  obtain⟨u0,g0⟩:=mV ho1 (j*3) (by omega);obtain⟨u1,g1⟩:=mV ho1 (j*3+1) (by omega);obtain⟨u2,g2⟩:=mV ho1 (j*3+2) (by omega);have hf:=fun j=>ho1.frozenAt j
  go_wp2;have s0:=ho1.stored (j*3) (.int .i64 (k+3*j));have s1:=s0.1.stored (j*3+1) (.int .i64 (k+3*j+1));have s2:=s1.1.stored (j*3+2) (.int .i64 (k+3*j+1+1));refine⟨⟨j+1,_,by omega,by go_num,?_,s2.1,fD4 (x:=fIe k j) HU.out (by rw[qC];exact hlt) (by rw[qC];exact ho1.1) (fBd k n j hlt).symm,uL (uL (uL (hgr) s0.2) s1.2) s2.2⟩,by simp[intOf];omega⟩;congr 1;omega
 go_wp2;go_ret;have hjn:j=n:=by omega
 subst hjn;have e':=fC1 HU.out ho1.1 (qC k j);rw[e'] at ho1;exact⟨rfl,ho1,hgr⟩
theorem fDi (v:Value) (n:Nat) (k:Int) (w:World) (hv:fIb w v (uE k n)) (hn:n≤1048576) (hk0:0≤k) (hk1:k≤1073741824) :
  Calls Tryz.prog 80 #[v,.int .i64 k] w fun r w'=>r =.returned (.int .i64 (k+3*n))∧w'=w:=by
 obtain⟨a,cap,rfl,hnc,hcm,hc⟩:=hv;rw[qC] at hnc hc ⊢;unfold maxLen at hcm;go_enter Tryz.func80,Tryz.ntmps80;go_wp2;go_loopw [1,5] (fun q i w'=>∃j:Nat,j≤n∧i =.int .i64 j∧q =.int .i64 (k+3*j)∧w'=w) (fun _ i _=>n-(intOf i).toNat)
 case atStart=>exact⟨0,Nat.zero_le _,rfl,by simp,rfl⟩
 obtain⟨j,hj,rfl,rfl,rfl⟩:=hrel;by_cases hlt:j<n
 ·obtain⟨b,o,rfl,h1⟩:=hc j hlt;rw[fBd k n j hlt] at h1;obtain⟨g0,g1,g2⟩:=h1;simp only[fIe] at g0 g1 g2;clear hc;go_wp2;refine⟨⟨j+1,by omega,by go_num,?_,trivial⟩,by simp[intOf];omega⟩;congr 1;omega
 go_wp2;go_ret;have hjn:j=n:=by omega
 subst hjn;exact⟨rfl,rfl⟩
theorem fGn (x:Value) (xs:List Bal) (left:Int) (w:World) (hx:fIb w x xs) (h0:0≤left) (h1:left≤1048576) :
  Calls Tryz.prog 26 #[x,.int .i64 left] w fun e w'=>e =.returned (.int .i64 (uC left xs.length))∧w'=w:=by
 obtain⟨ax,cx,rfl,hcx,hmx,hx⟩:=hx;unfold maxLen at hmx;generalize xs.length=n at *;clear hx;by_cases h:left<n
 ·
  have h':left-(n:Int)<0:=by omega
  go_enter Tryz.func26,Tryz.ntmps26;go_wp2;go_ret;exact⟨by simp only[uC,if_pos h];rfl,rfl⟩
 have h':¬left-(n:Int)<0:=by omega
 go_enter Tryz.func26,Tryz.ntmps26;go_wp2;go_ret;exact⟨by rw[uC,if_neg (by omega)];rfl,rfl⟩
end Go.Proofs.YtpibfdebfacooaaGreat
namespace Go.Proofs.YtpibfdebfacooaaGreat
open Go.RowKit
structure Mod (F:Nat→Prop) (w w':World):Prop where
 os:w'.os=w.os
 tape:w'.tape=w.tape
 output:w'.output=w.output
 size:w.heap.size≤w'.heap.size
 block:∀k,k<w.heap.size→¬F k→w'.heap[k]? = w.heap[k]?
theorem Mod.refl (F:Nat→Prop) (w:World):Mod F w w:=⟨rfl,rfl,rfl,Nat.le_refl _,fun _ _ _=>rfl⟩
theorem Mod.trans {F:Nat→Prop} {w w1 w2:World} (h:Mod F w w1) (k:Mod F w1 w2):Mod F w w2:=
 ⟨k.os.trans h.os,k.tape.trans h.tape,k.output.trans h.output,Nat.le_trans h.size k.size,fun i hi hn=>(k.block i (Nat.lt_of_lt_of_le hi h.size) hn).trans (h.block i hi hn)⟩
theorem Mod.mono {F G:Nat→Prop} {w w':World} (h:Mod F w w') (hs:∀b,F b→G b):Mod G w w':=
 ⟨h.os,h.tape,h.output,h.size,fun i hi hn=>h.block i hi (fun hf=>hn (hs i hf))⟩
theorem Mod.of_grown {w w':World} {row:Option Nat} (h:w.grownBy w' row):Mod (fun b=>row=some b) w w':=
 ⟨h.os,h.tape,h.output,h.size,fun i hi hn=>h.block i hi (fun e=>hn e.symm)⟩
theorem Mod.of_below {F:Nat→Prop} {w w':World} (h:Below w.heap.size w w'):Mod F w w':=
 ⟨h.os,h.tape,h.output,h.size,fun i hi _=>h.block i hi⟩
theorem Mod.alloc {F:Nat→Prop} {w w':World} (h:Mod F w w') (o:Obj):Mod F w (w'.alloc o):=
 h.trans (Mod.of_below ((Below.refl _ _).alloc (Nat.le_refl _) o))
theorem Mod.below {F:Nat→Prop} {w0 w w':World} {B:Nat} (hb:Below B w0 w) (h:Mod F w w') (hs:B≤w.heap.size) (hF:∀b,F b→B≤b):Below B w0 w':=
 ⟨h.os.trans hb.os,h.tape.trans hb.tape,h.output.trans hb.output,Nat.le_trans hb.size h.size,fun k hk=>(h.block k (Nat.lt_of_lt_of_le hk hs) (fun hf=>by have:=hF k hf;omega)).trans (hb.block k hk)⟩
theorem Mod.cell {F:Nat→Prop} {w w':World} (h:Mod F w w') {a:Addr} {v:Value} (hc:w.cell? a=some v) (hn:¬F a.block):w'.cell? a=some v:=
 (World.cell?_of_block (w:=w) (h.block a.block (World.block_lt_of_cell? w a hc) hn)).trans hc
theorem Mod.owns {F:Nat→Prop} {w w':World} {base e size:Nat} {v:Value} {n:Nat} {xs:List Value} (h:Mod F w w') (ho:w.ownsRow base e size v n xs) (hn:∀b,v.ownBlock=some b→¬F b):w'.ownsRow base e size v n xs:=by
 refine⟨ho.1,?_⟩;rcases ho.2 with h2|⟨g,cap,cur,rfl,hg,hh,r⟩
 ·exact .inl h2
 refine .inr ⟨g,cap,cur,rfl,hg,?_,r⟩;have hlt:g<w.heap.size:=by
  rcases Nat.lt_or_ge g w.heap.size with h|h
  ·exact h
  rw[Array.getElem?_eq_none h] at hh;cases hh
 exact(h.block g hlt (hn g rfl)).trans hh
structure Rep (α:Type) where
 V:World→Value→α→Prop
 O:World→Nat→(Nat→Prop)→Value→α→Prop
 below:∀{w w' v x},V w v x→Below w.heap.size w w'→V w' v x
 ofO:∀{w base F v x},O w base F v x→V w v x
 mod:∀{w w' base F G v x},O w base F v x→Mod G w w'→(∀b,F b→¬G b)→O w' base F v x
 rng:∀{w base F v x},O w base F v x→∀b,F b→base≤b∧b<w.heap.size
 base:∀{w base base' F v x},O w base F v x→base'≤base→O w base' F v x
theorem Rep.keep {α:Type} (R:Rep α) {w w':World} {base:Nat} {F:Nat→Prop} {v:Value} {x:α} (h:R.O w base F v x) (hb:Below w.heap.size w w'):R.O w' base F v x:=
 R.mod (G:=fun _=>False) h (Mod.of_below hb) (fun _ _ h=>h)
theorem Rep.keep2 {α:Type} (R:Rep α) {w Y w':World} {base:Nat} {F:Nat→Prop} {v:Value} {x:α} (h:R.O w base F v x) (h1:Below w.heap.size w Y) (h2:Below Y.heap.size Y w'):R.O w' base F v x:=R.keep (R.keep h h1) h2
def none_:Nat→Prop:=fun _=>False
def fRep {α:Type} (e size:Nat) (C:List α→List Value) (V:World→Value→List α→Prop)
  (hb:∀{w w' v xs},V w v xs→Below w.heap.size w w'→V w' v xs) (ho:∀{w base v xs},w.ownsRow base e size v xs.length (C xs)→V w v xs):Rep (List α) where
 V:=V
 O:=fun w base F v xs=>w.ownsRow base e size v xs.length (C xs)∧F=(fun b=>v.ownBlock=some b)
 below:=hb
 ofO:=fun h=>ho h.1
 mod:=fun h hm hd=>⟨hm.owns h.1 (fun b hb=>hd b (by rw[h.2];exact hb)),h.2⟩
 rng:=fun h b hb=>by rw[h.2] at hb;exact h.1.lt b hb
 base:=fun h hb=>⟨rG h.1 hb,h.2⟩
structure PO {α:Type} (R:Rep α) (e size:Nat) (lv:Value→List Value) (w:World) (base:Nat) (v:Value) (n k:Nat) (d:Nat→α) (cs:List Value) (us:Nat→Value) (fs:Nat→Nat→Prop):Prop where
 row:w.ownsRow base e size v n cs
 el:∀i,i<k→R.O w base (fs i) (us i) (d i)
 ln:∀i,i<k→(lv (us i)).length=size
 cell:∀i,i<k→∀j,j<size→cs[i*size+j]? = (lv (us i))[j]?
 out:∀i,i<k→∀b,fs i b→v.ownBlock≠some b
 sep:∀i j,i<k→j<k→i≠j→∀b,fs i b→¬fs j b
theorem PO.mod {α:Type} {R:Rep α} {e size:Nat} {lv:Value→List Value} {w w':World} {base:Nat} {v:Value} {n k:Nat} {d:Nat→α} {cs:List Value} {us:Nat→Value} {fs:Nat→Nat→Prop} {G:Nat→Prop}
  (h:PO R e size lv w base v n k d cs us fs) (hm:Mod G w w') (h1:∀b,v.ownBlock=some b→¬G b) (h2:∀i,i<k→∀b,fs i b→¬G b):PO R e size lv w' base v n k d cs us fs:=
 ⟨hm.owns h.row h1,fun i hi=>R.mod (h.el i hi) hm (h2 i hi),h.ln,h.cell,h.out,h.sep⟩
theorem PO.keep {α:Type} {R:Rep α} {e size:Nat} {lv:Value→List Value} {w w':World} {base:Nat} {v:Value} {n k:Nat} {d:Nat→α} {cs:List Value} {us:Nat→Value} {fs:Nat→Nat→Prop}
  (h:PO R e size lv w base v n k d cs us fs) (hb:Below w.heap.size w w'):PO R e size lv w' base v n k d cs us fs:=
 h.mod (G:=fun _=>False) (Mod.of_below hb) (fun _ _ h=>h) (fun _ _ _ _ h=>h)
theorem PO.cast {α:Type} {R:Rep α} {e size:Nat} {lv:Value→List Value} {w:World} {base:Nat} {v:Value} {n k:Nat} {d d':Nat→α} {cs:List Value} {us:Nat→Value} {fs:Nat→Nat→Prop}
  (h:PO R e size lv w base v n k d cs us fs) (hd:∀i,i<k→d' i=d i):PO R e size lv w base v n k d' cs us fs:=
 ⟨h.row,fun i hi=>by rw[hd i hi];exact h.el i hi,h.ln,h.cell,h.out,h.sep⟩
def upd {β:Type} (f:Nat→β) (k:Nat) (x:β):Nat→β:=fun i=>if i=k then x else f i
theorem kJ {β:Type} (f:Nat→β) (k:Nat) (x:β):upd f k x k=x:=by simp[upd]
theorem upd_ne {β:Type} (f:Nat→β) {k i:Nat} (x:β) (h:i≠k):upd f k x i=f i:=by simp[upd,h]
theorem PO.push {α:Type} {R:Rep α} {e size:Nat} {lv:Value→List Value} {w w1 w2:World} {base:Nat} {v:Value} {n k:Nat} {d:Nat→α} {cs cs':List Value} {us:Nat→Value} {fs:Nat→Nat→Prop} {u:Value} {F:Nat→Prop}
  (h:PO R e size lv w base v n k d cs us fs) (hbs:base≤w.heap.size) (hb:Below w.heap.size w w1) (hu:R.O w1 w.heap.size F u (d k)) (hl:(lv u).length=size)
  (hr:w2.ownsRow base e size v n cs') (hm:Mod (fun b=>v.ownBlock=some b) w1 w2)
  (hold:∀i,i<k→∀j,j<size→cs'[i*size+j]? = cs[i*size+j]?) (hnew:∀j,j<size→cs'[k*size+j]? = (lv u)[j]?) :
  PO R e size lv w2 base v n (k+1) d cs' (upd us k u) (upd fs k F):=by
 have hlt:∀b,v.ownBlock=some b→b<w.heap.size:=fun b hb=>(h.row.lt b hb).2
 have hF:∀b,F b→w.heap.size≤b:=fun b hb=>(R.rng hu b hb).1
 have hfs:∀i,i<k→∀b,fs i b→b<w.heap.size:=fun i hi b hb=>(R.rng (h.el i hi) b hb).2
 refine⟨hr,?_,?_,?_,?_,?_⟩
 ·
  intro i hi;by_cases hik:i=k
  ·subst hik;rw[kJ,kJ];exact R.base (R.mod hu hm (fun b hb he=>by have:=hlt b he;have:=hF b hb;omega)) hbs
  rw[upd_ne _ _ hik,upd_ne _ _ hik];exact R.mod (R.keep (h.el i (by omega)) hb) hm (fun b hb=>h.out i (by omega) b hb)
 ·
  intro i hi;by_cases hik:i=k
  ·subst hik;rw[kJ];exact hl
  rw[upd_ne _ _ hik];exact h.ln i (by omega)
 ·
  intro i hi j hj;by_cases hik:i=k
  ·subst hik;rw[kJ];exact hnew j hj
  rw[upd_ne _ _ hik,hold i (by omega) j hj];exact h.cell i (by omega) j hj
 ·
  intro i hi b hb he;by_cases hik:i=k
  ·subst hik;rw[kJ] at hb;have:=hlt b he;have:=hF b hb;omega
  rw[upd_ne _ _ hik] at hb;exact h.out i (by omega) b hb he
 intro i j hi hj hij b h1 h2;by_cases hik:i=k
 ·subst hik;rw[kJ] at h1;rw[upd_ne _ _ (Ne.symm hij)] at h2;have:=hF b h1;have:=hfs j (by omega) b h2;omega
 rw[upd_ne _ _ hik] at h1;by_cases hjk:j=k
 ·subst hjk;rw[kJ] at h2;have:=hF b h2;have:=hfs i (by omega) b h1;omega
 rw[upd_ne _ _ hjk] at h2;exact h.sep i j (by omega) (by omega) hij b h1 h2
theorem PO.turn {α:Type} {R:Rep α} {e size:Nat} {lv:Value→List Value} {w w':World} {base:Nat} {v:Value} {n k j:Nat} {d:Nat→α} {cs cs':List Value} {us:Nat→Value} {fs:Nat→Nat→Prop} {u:Value} {x:α}
  (h:PO R e size lv w base v n k d cs us fs) (hj:j<k) (hm:Mod (fun b=>v.ownBlock=some b∨fs j b) w w') (hu:R.O w' base (fs j) u x) (hl:(lv u).length=size)
  (hr:w'.ownsRow base e size v n cs') (hold:∀i,i<k→i≠j→∀o,o<size→cs'[i*size+o]? = cs[i*size+o]?) (hnew:∀o,o<size→cs'[j*size+o]? = (lv u)[o]?) :
  PO R e size lv w' base v n k (upd d j x) cs' (upd us j u) fs:=by
 refine⟨hr,?_,?_,?_,h.out,h.sep⟩
 ·
  intro i hi;by_cases hik:i=j
  ·subst hik;rw[kJ,kJ];exact hu
  rw[upd_ne _ _ hik,upd_ne _ _ hik];exact R.mod (h.el i hi) hm (fun b hb=>by
   rintro(he|he)
   ·exact h.out i hi b hb he
   exact h.sep i j hi hj hik b hb he)
 ·
  intro i hi;by_cases hik:i=j
  ·subst hik;rw[kJ];exact hl
  rw[upd_ne _ _ hik];exact h.ln i hi
 intro i hi o ho;by_cases hik:i=j
 ·subst hik;rw[kJ];exact hnew o ho
 rw[upd_ne _ _ hik,hold i hi hik o ho];exact h.cell i hi o ho
def NV {α:Type} [Inhabited α] (R:Rep α) (size:Nat) (lv:Value→List Value) (w:World) (v:Value) (xs:List α):Prop:=
 ∃a cap,v =.slice a xs.length cap∧xs.length≤cap∧cap≤maxLen∧∀i,i<xs.length→∃b o u,a=some ⟨b,o,none⟩∧(lv u).length=size∧(∀j,j<size→w.cell? ⟨b,o+i*size+j,none⟩=(lv u)[j]?)∧R.V w u (xs.getD i default)
def NO {α:Type} [Inhabited α] (R:Rep α) (e size:Nat) (lv:Value→List Value) (w:World) (base:Nat) (F:Nat→Prop) (v:Value) (xs:List α):Prop:=
 ∃cs us fs,PO R e size lv w base v xs.length xs.length (fun i=>xs.getD i default) cs us fs∧∀b,F b↔(v.ownBlock=some b∨∃i,i<xs.length∧fs i b)
theorem fUj {α:Type} [Inhabited α] {R:Rep α} {size:Nat} {lv:Value→List Value} {w w':World} {v:Value} {xs:List α} (h:NV R size lv w v xs) (hb:Below w.heap.size w w'):NV R size lv w' v xs:=by
 obtain⟨a,cap,rfl,h1,h2,h3⟩:=h;refine⟨a,cap,rfl,h1,h2,fun i hi=>?_⟩;obtain⟨b,o,u,ha,hl,hc,hv⟩:=h3 i hi;refine⟨b,o,u,ha,hl,fun j hj=>?_,R.below hv hb⟩;have hs:(lv u)[j]? = some ((lv u)[j]'(by omega)):=List.getElem?_eq_getElem _;rw[hs];exact cK hb ((hc j hj).trans hs)
theorem fX5 {α:Type} [Inhabited α] {R:Rep α} {e size:Nat} {lv:Value→List Value} {w:World} {base:Nat} {F:Nat→Prop} {v:Value} {xs:List α} (h:NO R e size lv w base F v xs):NV R size lv w v xs:=by
 obtain⟨cs,us,fs,hp,_⟩:=h;have hr:=hp.row;rcases hr.2 with ⟨rfl,hn⟩|⟨g,cap,cur,rfl,hb,hg,hnc,hcm,hcs,htake⟩
 ·exact⟨none,0,by rw[hn],by omega,by unfold maxLen;omega,fun i hi=>by omega⟩
 refine⟨some ⟨g,0,none⟩,cap,rfl,hnc,hcm,fun i hi=>⟨g,0,us i,rfl,hp.ln i hi,fun j hj=>?_,R.ofO (hp.el i hi)⟩⟩;rw[Nat.zero_add,←hp.cell i hi j hj];exact hr.cellAt _ (by
  have:i*size+size≤xs.length*size:=by rw[←Nat.succ_mul];exact Nat.mul_le_mul_right _ hi
  omega)
def nRep {α:Type} [Inhabited α] (R:Rep α) (e size:Nat) (lv:Value→List Value):Rep (List α) where
 V:=NV R size lv
 O:=NO R e size lv
 below:=fUj
 ofO:=fX5
 mod:=fun h hm hd=>by
  obtain⟨cs,us,fs,hp,hF⟩:=h;exact⟨cs,us,fs,hp.mod hm (fun b hb=>hd b ((hF b).2 (.inl hb))) (fun i hi b hb=>hd b ((hF b).2 (.inr ⟨i,hi,hb⟩))),hF⟩
 rng:=fun h b hb=>by
  obtain⟨cs,us,fs,hp,hF⟩:=h;rcases(hF b).1 hb with hb|⟨i,hi,hb⟩
  ·exact hp.row.lt b hb
  exact R.rng (hp.el i hi) b hb
 base:=fun h hb=>by
  obtain⟨cs,us,fs,hp,hF⟩:=h;exact⟨cs,us,fs,⟨rG hp.row hb,fun i hi=>R.base (hp.el i hi) hb,hp.ln,hp.cell,hp.out,hp.sep⟩,hF⟩
def one (v:Value):List Value:=[v]
theorem Mod.of_set (w:World) (p:Addr) (u:Value):Mod (fun b=>b=p.block) w (w.setCell p u):=
 ⟨rfl,rfl,rfl,by simp,fun k _ hn=>Below.heap_setCell w p u k hn⟩
theorem Rep.set {α:Type} (R:Rep α) {w:World} {base:Nat} {F:Nat→Prop} {v:Value} {x:α} (h:R.O w base F v x) {p:Addr} (u:Value) (hp:p.block<base):R.O (w.setCell p u) base F v x:=
 R.mod h (Mod.of_set w p u) (fun b hb e=>by have:=(R.rng h b hb).1;omega)
theorem Rep.alloc {α:Type} (R:Rep α) {w:World} {base:Nat} {F:Nat→Prop} {v:Value} {x:α} (h:R.O w base F v x) (o:Obj):R.O (w.alloc o) base F v x:=
 R.keep h (bA (Below.refl _ _) o)
theorem fPb {left:Int} {n:Nat} (h0:0≤left):uC left n≤left:=by
 unfold uC;split <;> omega
def pF {α:Type} (f:α→Nat):Nat→List α→Nat
 | 0,_=>0
 | _,[]=>0
 | k+1,x::xs=>f x+pF f k xs
theorem xE {α:Type} [Inhabited α] (f:α→Nat):∀(k:Nat) (xs:List α),k<xs.length→pF f (k+1) xs=pF f k xs+f (xs.getD k default)
 | 0,x::xs,_=>by cases xs <;> simp[pF]
 | k+1,x::xs,h=>by
  have:=xE f k xs (by simpa using h);simp only[pF,List.getD_cons_succ];omega
theorem fDr {α:Type} (f:α→Nat):∀(k n:Nat) (xs:List α),k≤n→pF f k xs≤pF f n xs
 | 0,_,_,_=>by simp[pF]
 | k+1,0,_,h=>by omega
 | k+1,n+1,[],_=>by simp[pF]
 | k+1,n+1,x::xs,h=>by
  have:=fDr f k n xs (by omega);simp only[pF];omega
def wtL {α:Type} (f:α→Nat) (xs:List α):Nat:=xs.length+pF f xs.length xs
def cntL {α:Type} (f:α→Nat) (xs:List α):Nat:=pF f xs.length xs
theorem fPw {α:Type} [Inhabited α] (f:α→Nat) {k:Nat} {xs:List α} (h:k<xs.length):pF f k xs+f (xs.getD k default)≤pF f xs.length xs:=by
 have:=fDr f (k+1) xs.length xs h;rw[xE f k xs h] at this;exact this
def mkL {α:Type} [Inhabited α] (mk:Int→α→α) (f:α→Nat) (k:Int) (xs:List α):List α:=(List.range xs.length).map (fun i=>mk (k+pF f i xs) (xs.getD i default))
theorem fHj {α:Type} [Inhabited α] (mk:Int→α→α) (f:α→Nat) (k:Int) (xs:List α):(mkL mk f k xs).length=xs.length:=by simp[mkL]
theorem fOh {α:Type} [Inhabited α] (mk:Int→α→α) (f:α→Nat) (k:Int) (xs:List α) (i:Nat) (h:i<xs.length):(mkL mk f k xs).getD i default=mk (k+pF f i xs) (xs.getD i default):=by simp[mkL,List.getD,h]
theorem fQ9 {α:Type} [Inhabited α] {xs ys:List α} (hl:ys.length=xs.length) (h:∀j,j<xs.length→xs.getD j default=ys.getD j default):xs=ys:=by
 apply List.ext_getElem (by omega);intro i h1 h2;have:=h i h1;simpa [List.getD,h1,h2] using this
def setRow:List Value→Nat→List Value→List Value
 | cs,_,[]=>cs
 | cs,o,a::l=>setRow (cs.set o a) (o+1) l
theorem fX4 {α:Type} [Inhabited α] {f:α→Nat} {xs:List α} {k:Nat} {B:Nat} (h:wtL f xs≤B) (hk:k<xs.length):f (xs.getD k default)≤B∧xs.length≤B:=by
 have:=fPw f hk;unfold wtL at h;omega
theorem PO.at {α:Type} {R:Rep α} {e size:Nat} {lv:Value→List Value} {w:World} {base:Nat} {a:Option Addr} {c n k:Nat} {d:Nat→α} {cs:List Value} {us:Nat→Value} {fs:Nat→Nat→Prop}
  (h:PO R e size lv w base (.slice a n c) n k d cs us fs) {j:Nat} (hj:j<k) (hn:j<n):∃g,a=some ⟨g,0,none⟩∧∀o,o<size→w.cell? ⟨g,j*size+o,none⟩=(lv (us j))[o]?:=by
 rcases h.row.2 with ⟨_,h0⟩|⟨g,cap,cur,hv,_⟩
 ·omega
 have hv':=hv;injection hv' with e1 e2 e3
 refine⟨g,e1,fun o ho=>?_⟩;have h1:=h.row;rw[hv] at h1;have h2:=h1.cellAt (j*size+o) (by
  have:j*size+size≤n*size:=by rw[←Nat.succ_mul];exact Nat.mul_le_mul_right _ hn
  omega)
 rw[h2,h.cell j hj o ho]
theorem PO.len {α:Type} {R:Rep α} {e size:Nat} {lv:Value→List Value} {w:World} {base:Nat} {v:Value} {n k:Nat} {d:Nat→α} {cs:List Value} {us:Nat→Value} {fs:Nat→Nat→Prop}
  (h:PO R e size lv w base v n k d cs us fs):n≤2 ^ 63-1:=by
 rcases h.row.2 with ⟨_,h⟩|⟨_,cap,_,_,_,_,h1,h2,_⟩
 ·omega
 unfold maxLen at h2;omega
theorem fR5 {w:World} {b o i:Nat} {u:Value} (h:∀j,j<1→w.cell? ⟨b,o+i*1+j,none⟩=(one u)[j]?):w.cell? ⟨b,o+i,none⟩=some u:=by
 simpa [one] using h 0 (by omega)
theorem fB2 {left:Int} {n:Nat} (h:uC left n<0) (m:Nat) (hm:n≤m):uC left m = -1:=by
 unfold uC at h ⊢;split at h <;> split <;> omega
theorem fLh {left:Int} {n m:Nat} (h:¬uC left n<0):uC (uC left n) m=uC left ((n+m:Nat):Int):=by
 unfold uC at h ⊢;split at h
 ·omega
 rename_i h';rw[if_neg h'];split <;> split <;> omega
theorem fD6 {α:Type} {f g:α→Nat} {M:Nat} (h:∀x,f x≤M*(1+g x)):∀(k:Nat) (xs:List α),pF f k xs≤M*(k+pF g k xs)
 | 0,_=>by simp[pF]
 | k+1,[]=>by simp[pF]
 | k+1,x::xs=>by
  have ih:=fD6 h k xs;have hx:=h x;simp only[pF];have e:M*(k+1+(g x+pF g k xs))=M*(1+g x)+M*(k+pF g k xs):=by rw[←Nat.mul_add];congr 1;omega
  omega
theorem fWm {α:Type} {f g:α→Nat} {M:Nat} (h:∀x,f x≤M*(1+g x)) (xs:List α):cntL f xs≤M*wtL g xs:=fD6 h xs.length xs
end Go.Proofs.YtpibfdebfacooaaGreat
namespace Go.Proofs.YtpibfdebfacooaaGreat
open Go.RowKit
variable [dQ Bal] [iH Bal]
attribute [local go_sem ↓] Go.wp_at_zero Go.wp_at_succ
def balsR:Rep (List Bal):=fRep 103 3 kX fIb fLt fIc
def pM (xs:List Bal):Nat:=xs.length
def mE (xs:List Bal):Nat:=3*xs.length
def fKx (k:Int) (xs:List Bal):List Bal:=uE k xs.length
theorem fP {w:World} {v:Value} {xs:List Bal} (h:balsR.V w v xs):∃a c,v =.slice a xs.length c:=by
 obtain⟨a,c,rfl,_⟩:=h;exact⟨_,_,rfl⟩
theorem fNz (d:List Bal):mE d≤3*pM d:=by unfold mE pM;omega
theorem fLi (x:Value) (d:List Bal) (w:World) (hx:balsR.V w x d) (hn:pM d≤1048576) :
  Calls Tryz.prog 29 #[x] w fun e w'=>∃v F,e =.returned v∧balsR.O w' w.heap.size F v d∧Below w.heap.size w w':=by
 refine(fGo x d w hx hn).mono ?_;rintro e w' ⟨v,rfl,ho,hb⟩;exact⟨v,_,rfl,⟨ho,rfl⟩,hb⟩
theorem fC3 (x y:Value) (d d':List Bal) (w:World) (hx:balsR.V w x d) (hy:balsR.V w y d') :
  Calls Tryz.prog 31 #[x,y] w fun e w'=>e =.returned (.bool (decide (d=d')))∧Below w.heap.size w w':=fGb x y d d' w hx hy
theorem fLf (x:Value) (d:List Bal) (left:Int) (w:World) (hx:balsR.V w x d) (h0:0≤left) (h1:left≤1048576) :
  Calls Tryz.prog 26 #[x,.int .i64 left] w fun e w'=>e =.returned (.int .i64 (uC left (pM d)))∧Below w.heap.size w w':=by
 refine(fGn x d left w hx h0 h1).mono ?_;rintro e w' ⟨rfl,rfl⟩;exact⟨rfl,Below.refl _ _⟩
theorem fAj (v:Value) (d:List Bal) (base:Nat) (F:Nat→Prop) (k:Int) (w:World) (ho:balsR.O w base F v d) (hw:pM d≤1048576) (hn:k+mE d≤1073741824) (hk0:0≤k) :
  Calls Tryz.prog 39 #[v,.int .i64 k] w fun r w'=>r =.returned (.int .i64 (k+mE d))∧balsR.O w' base F v (fKx k d)∧Mod F w w':=by
 refine(fDl v d.length _ base _ k w ho.1 hw hk0 (by omega)).mono ?_;rintro e w' ⟨rfl,h1,h2⟩;refine⟨by simp[mE],⟨?_,ho.2⟩,by rw[ho.2];exact Mod.of_grown h2⟩;unfold fKx;rw[qC];exact h1
theorem fAi (v:Value) (d:List Bal) (k:Int) (w:World) (hv:balsR.V w v (fKx k d)) (hw:pM d≤1048576) (hn:k+mE d≤1073741824) (hk0:0≤k) :
  Calls Tryz.prog 80 #[v,.int .i64 k] w fun r w'=>r =.returned (.int .i64 (k+mE d))∧Below w.heap.size w w':=by
 refine(fDi v d.length k w hv hw hk0 (by omega)).mono ?_;rintro e w' ⟨rfl,rfl⟩;exact⟨by simp[mE],Below.refl _ _⟩
end Go.Proofs.YtpibfdebfacooaaGreat
namespace Go.Proofs.YtpibfdebfacooaaGreat
open Go.RowKit
attribute [local go_sem ↓] Go.wp_at_zero Go.wp_at_succ
abbrev Byte:=Fin 256
def toB (n:Int):Byte:=⟨(n % 256).toNat,by omega⟩
theorem fT7 (n:Int):((toB n).val:Int)=n % 256:=by simp only[toB];omega
theorem fX3 (n:Int):IntKind.u8.wrap n=((toB n).val:Int):=by rw[fT7,IntKind.wrap_u8]
theorem vU (b:Byte):(0:Int)≤(b.val:Int)∧(b.val:Int)≤255:=by have:=b.isLt;omega
def gX (ys:List Byte):List Value:=ys.map (fun b=>Value.int .u8 (b.val:Int))
theorem uH (ys:List Byte):(gX ys).length=ys.length:=by simp[gX]
theorem fA8 (xs ys:List Byte):gX (xs++ys)=gX xs++gX ys:=by simp[gX]
theorem fCc (xs:List Byte):∀u ∈ gX xs,u.oneCell'=true:=by
 intro u hu;simp only[gX,List.mem_map] at hu;obtain⟨b,_,rfl⟩:=hu;rfl
theorem fCj (ys:List Byte) (i:Nat) (h:i<ys.length):(gX ys)[i]? = some (.int .u8 ((ys.getD i 0).val:Int)):=by
 simp[gX,List.getD,h]
theorem infoByte:(Tryz.prog.info? 5).map (fun i=>(i.zero,i.size,i.bytes))=some (some (.int .u8 0),1,1):=by kernel_rfl
def mQ (w:World) (v:Value) (ys:List Byte):Prop:=
 ∃a cap,v =.slice a ys.length cap∧ys.length≤cap∧cap≤maxLen∧∀i,i<ys.length→∃b o,a=some ⟨b,o,none⟩∧w.cell? ⟨b,o+i,none⟩=some (.int .u8 ((ys.getD i 0).val:Int))
theorem gG {w w':World} {v:Value} {ys:List Byte} (h:mQ w v ys) (hb:Below w.heap.size w w'):mQ w' v ys:=by
 obtain⟨a,cap,rfl,h1,h2,h3⟩:=h;exact⟨a,cap,rfl,h1,h2,fun i hi=>by
  obtain⟨b,o,ha,hc⟩:=h3 i hi;exact⟨b,o,ha,cK hb hc⟩⟩
theorem fF5 {w:World} {base e:Nat} {v:Value} {ys:List Byte} (h:w.ownsRow base e 1 v ys.length (gX ys)):mQ w v ys:=by
 rcases h.2 with ⟨rfl,hn⟩|⟨g,cap,cur,rfl,hb,hg,hnc,hcm,hcs,htake⟩
 ·exact⟨none,0,by rw[hn],by omega,by unfold maxLen;omega,fun i hi=>by omega⟩
 refine⟨some ⟨g,0,none⟩,cap,rfl,hnc,hcm,fun i hi=>⟨g,0,rfl,?_⟩⟩;rw[Nat.zero_add];exact(h.cellAt i (by omega)).trans (fCj ys i hi)
theorem fL0 {xs ys:List Byte} (hl:ys.length=xs.length) (h:∀j,j<xs.length→xs.getD j 0=ys.getD j 0):xs=ys:=by
 apply List.ext_getElem (by omega);intro i h1 h2;have:=h i h1;simpa [List.getD,h1,h2] using this
theorem fL3 (x y:Value) (xs ys:List Byte) (w:World) (hx:mQ w x xs) (hy:mQ w y ys) :
  Calls Tryz.prog 65 #[x,y] w fun e w'=>e =.returned (.bool (decide (xs=ys)))∧Below w.heap.size w w':=by
 obtain⟨ax,cx,rfl,hcx,hmx,hx⟩:=hx;obtain⟨ay,cy,rfl,hcy,hmy,hy⟩:=hy;unfold maxLen at hmx hmy;by_cases hl:ys.length=xs.length
 ·
  rw[hl] at hcy hy ⊢;have HL:Hid (ys.length=xs.length):=hl;clear hl;generalize hn:xs.length=n at *;have HN:Hid (xs.length=n):=hn;clear hn;go_enter Tryz.func65,Tryz.ntmps65;go_wp2;go_loopw [5] (fun i w'=>∃k:Nat,k≤n∧i =.int .i64 k∧(∀j,j<k→xs.getD j 0=ys.getD j 0)∧Below w.heap.size w w') (fun i _=>n-(intOf i).toNat)
  case atStart=>exact⟨0,Nat.zero_le _,rfl,fun j h=>absurd h (Nat.not_lt_zero _),Below.refl _ _⟩
  obtain⟨k,hk,rfl,hpre,hbl⟩:=hrel;have HP:Hid (∀j,j<k→xs.getD j 0=ys.getD j 0):=hpre;clear hpre;by_cases hlt:k<n
  ·
   obtain⟨bx,ox,rfl,h1⟩:=hx k hlt;obtain⟨b2,oy,rfl,h2⟩:=hy k hlt;obtain⟨l1,hl1⟩:∃l:Int,l=((xs.getD k 0).val:Int):=⟨_,rfl⟩
   obtain⟨l2,hl2⟩:∃l:Int,l=((ys.getD k 0).val:Int):=⟨_,rfl⟩
   rw[←hl1] at h1;rw[←hl2] at h2;have H1:Hid (l1=((xs.getD k 0).val:Int)):=hl1;have H2:Hid (l2=((ys.getD k 0).val:Int)):=hl2;clear hl1 hl2 hx hy;go_wp2;go_region_held3 (fun w'=>Below w.heap.size w w'∧w'.cell? ⟨bx,ox+k,none⟩=some (.int .u8 l1)∧w'.cell? ⟨b2,oy+k,none⟩=some (.int .u8 l2)) ((refine fV8 ?_ h1 h2;repeat (first|exact Below.refl _ _|assumption|refine Below.drew ?_|refine bA ?_ _|refine bS ?_ (by assumption)))) (fail);rename_i hH;have hB:=hH.1;clear hH;go_wp2
   ·
    rename_i hle;go_ret;refine⟨?_,hB⟩;have:¬xs=ys:=fun h=>by
     have:l1=l2:=by rw[H1.out,H2.out,h]
     simp[this] at hle
    simp[this]
   rename_i hle;refine⟨⟨k+1,by omega,by go_num,fun j hj=>?_,hB⟩,by simp[intOf];omega⟩;by_cases hjk:j<k
   ·exact HP.out j hjk
   have:j=k:=by omega
   subst this;have e:l1=l2:=by simpa using hle
   rw[H1.out,H2.out] at e;exact Fin.ext (by omega)
  go_wp2;go_ret;have:k=n:=by omega
  subst this;refine⟨?_,hbl⟩;have:xs=ys:=fL0 (by rw[HL.out,HN.out]) (by rw[HN.out];exact HP.out);simp[this]
 go_enter Tryz.func65,Tryz.ntmps65;have hl':((xs.length:Int)==(ys.length:Int))=false:=by simp;omega
 go_wp2;go_ret;have:¬xs=ys:=fun h=>hl (by rw[h])
 exact⟨by simp[this],Below.refl _ _⟩
def fBq (k:Int) (n:Nat):List Byte:=(List.range n).map (fun i:Nat=>toB (k+(i:Int)))
theorem rC (k:Int) (n:Nat):(fBq k n).length=n:=by simp[fBq]
theorem fEh (k:Int) (n i:Nat) (h:i<n):(fBq k n).getD i 0=toB (k+i):=by simp[fBq,List.getD,h]
def fNq (k:Nat) (cs:List Value) (ys:List Byte):Prop:=∀j,j<k→cs[j]? = (gX ys)[j]?
theorem fH7 {n:Nat} {cs:List Value} {ys:List Byte} (h:fNq n cs ys) (hl:cs.length=n*1) (hn:ys.length=n):cs=gX ys:=by
 apply List.ext_getElem?;intro j;by_cases hj:j<n
 ·exact h j hj
 rw[List.getElem?_eq_none (by omega),List.getElem?_eq_none (by simp[gX];omega)]
theorem fLl {k:Nat} {cs:List Value} {ys:List Byte} {l:Int} (h:fNq k cs ys) (hk:k<ys.length) (hl:cs.length=ys.length*1) (he:l=((ys.getD k 0).val:Int)):fNq (k+1) (cs.set k (.int .u8 l)) ys:=by
 intro j hj;rw[List.getElem?_set];by_cases e:k=j
 ·subst e;rw[if_pos rfl,if_pos (by omega),fCj ys k hk,he]
 rw[if_neg e];exact h j (by omega)
theorem fEn (w:World) (r:Option Nat):w.grownBy w r:=⟨rfl,rfl,rfl,Nat.le_refl _,fun _ _ _=>rfl⟩
theorem fI0 (v:Value) (n:Nat) (cs:List Value) (base e:Nat) (k:Int) (w:World) (ho:w.ownsRow base e 1 v n cs) (hn:n≤1048576) (hk0:0≤k) (hk1:k≤1073741824) :
  Calls Tryz.prog 76 #[v,.int .i64 k] w fun r w'=>r =.returned (.int .i64 (k+n))∧w'.ownsRow base e 1 v n (gX (fBq k n))∧w.grownBy w' v.ownBlock:=by
 rcases ho.2 with ⟨rfl,rfl⟩|⟨g,cap,cur,rfl,hb,hg,hnc,hcm,_,_⟩
 ·
  go_enter Tryz.func76,Tryz.ntmps76;go_wp2;go_loopw [1,5] (fun q i w'=>q =.int .i64 k∧i =.int .i64 0∧w'=w) (fun _ _ _=>0)
  case atStart=>exact⟨rfl,rfl,rfl⟩
  obtain⟨rfl,rfl,rfl⟩:=hrel;go_wp2;go_ret;exact⟨by simp,World.ownsRow_nil _ _ _ _,fEn _ _⟩
 unfold maxLen at hcm;go_enter Tryz.func76,Tryz.ntmps76;go_wp2;go_loopw [1,5] (fun q i w'=>∃(j:Nat) (cs':List Value),j≤n∧i =.int .i64 j∧q =.int .i64 (k+j)∧w'.ownsRow base e 1 (.slice (some ⟨g,0,none⟩) n cap) n cs'∧fNq j cs' (fBq k n)∧w.grownBy w' (some g)) (fun _ i _=>n-(intOf i).toNat)
 case atStart=>exact⟨0,cs,Nat.zero_le _,rfl,by simp,ho,fun j h=>by omega,fEn _ _⟩
 obtain⟨j,cs',hj,rfl,rfl,ho1,hup,hgr⟩:=hrel;have HU:Hid (fNq j cs' (fBq k n)):=hup;clear hup ho hg;by_cases hlt:j<n
 ·
  obtain⟨u0,g0⟩:=mV ho1 j (by omega);have hf:=fun j=>ho1.frozenAt j
  obtain⟨q,hq⟩:∃q,q=IntKind.u8.wrap (k+(j:Int)):=⟨_,rfl⟩
  have hq':=hq.symm;have HQ:Hid (q=IntKind.u8.wrap (k+(j:Int))):=hq;clear hq;go_wp2;have s0:=ho1.stored j (.int .u8 q);refine⟨⟨j+1,_,by omega,by go_num,?_,s0.1,fLl HU.out (by rw[rC];exact hlt) (by rw[rC];exact ho1.1) (by rw[fEh k n j hlt,HQ.out,fX3]),uL hgr s0.2⟩,by simp[intOf];omega⟩;congr 1;omega
 go_wp2;go_ret;have hjn:j=n:=by omega
 subst hjn;have e':=fH7 HU.out ho1.1 (rC k j);rw[e'] at ho1;exact⟨rfl,ho1,hgr⟩
theorem fIo (v:Value) (n:Nat) (k:Int) (w:World) (hv:mQ w v (fBq k n)) (hn:n≤1048576) (hk0:0≤k) (hk1:k≤1073741824) :
  Calls Tryz.prog 123 #[v,.int .i64 k] w fun r w'=>r =.returned (.int .i64 (k+n))∧w'=w:=by
 obtain⟨a,cap,rfl,hnc,hcm,hc⟩:=hv;rw[rC] at hnc hc ⊢;unfold maxLen at hcm;go_enter Tryz.func123,Tryz.ntmps123;go_wp2;go_loopw [1,5] (fun q i w'=>∃j:Nat,j≤n∧i =.int .i64 j∧q =.int .i64 (k+j)∧w'=w) (fun _ i _=>n-(intOf i).toNat)
 case atStart=>exact⟨0,Nat.zero_le _,rfl,by simp,rfl⟩
 obtain⟨j,hj,rfl,rfl,rfl⟩:=hrel;by_cases hlt:j<n
 ·obtain⟨b,o,rfl,h1⟩:=hc j hlt;rw[fEh k n j hlt,←fX3] at h1;clear hc;generalize hq:IntKind.u8.wrap (k+(j:Int))=q at h1;go_wp2;refine⟨⟨j+1,by omega,by go_num,?_,trivial⟩,by simp[intOf];omega⟩;congr 1;omega
 go_wp2;go_ret;have hjn:j=n:=by omega
 subst hjn;exact⟨rfl,rfl⟩
theorem fNp (x:Value) (xs:List Byte) (w:World) (hx:mQ w x xs) (hn:xs.length≤1048576) :
  Calls Tryz.prog 63 #[x] w fun e w'=>∃v,e =.returned v∧w'.ownsRow w.heap.size 5 1 v xs.length (gX xs)∧Below w.heap.size w w':=by
 obtain⟨ax,cx,rfl,hcx,hmx,hx⟩:=hx;unfold maxLen at hmx;obtain⟨i0,hi,hz0,hz1,hz2⟩:=info_parts infoByte;obtain⟨w1,hmk,hown,hgr⟩:=run_make_full (P:=Tryz.prog) w w.heap.size 23 5 i0 _ 1 Tryz.underlying23 hi hz0 hz1 .i64 .i64 xs.length (by rw[hz2];omega) (by unfold maxLen;omega) (Nat.le_refl _);have hbl0:Below w.heap.size w w1:=(Below.refl _ _).grown hgr (Nat.le_refl _) (fun k h=>by cases h);generalize hn':xs.length=n at *;have HN:Hid (xs.length=n):=hn';clear hn';go_enter Tryz.func63,Tryz.ntmps63;go_wp2;go_loopw [4] (fun i w'=>∃(k:Nat) (cs:List Value),k≤n∧i =.int .i64 k∧w'.ownsRow w.heap.size 5 1 (.slice (some ⟨w.heap.size,0,none⟩) n n) n cs∧fNq k cs xs∧Below w.heap.size w w') (fun i _=>n-(intOf i).toNat)
 case atStart=>exact⟨0,_,Nat.zero_le _,rfl,hown,fun j h=>by omega,hbl0⟩
 obtain⟨k,cs,hk,rfl,ho,hup,hbl⟩:=hrel;have HU:Hid (fNq k cs xs):=hup;clear hup hown hmk hgr hbl0;by_cases hlt:k<n
 ·
  obtain⟨bx,ox,rfl,h1⟩:=hx k hlt;obtain⟨l,hl⟩:∃l:Int,l=((xs.getD k 0).val:Int):=⟨_,rfl⟩
  rw[←hl] at h1;have H1:Hid (l=((xs.getD k 0).val:Int)):=hl;clear hl hx;have a1:=cK hbl h1;obtain⟨u0,g0⟩:=mV ho k (by omega);have hf:=fun j=>ho.frozenAt j
  go_wp2;have s0:=ho.stored k (.int .u8 l);refine⟨⟨k+1,_,by omega,by go_num,s0.1,fLl HU.out (by have:=HN.out;omega) (by have:=HN.out;have:=ho.1;omega) H1.out,?_⟩,by simp[intOf];omega⟩;exact hbl.setCell (Nat.le_refl _) _
 go_wp2;go_ret;have hkn:k=n:=by omega
 subst hkn;have e:=fH7 HU.out ho.1 HN.out;subst e;exact⟨_,rfl,ho,hbl⟩
theorem fNn (x:Value) (xs:List Byte) (left:Int) (w:World) (hx:mQ w x xs) (h0:0≤left) (h1:left≤1048576) :
  Calls Tryz.prog 60 #[x,.int .i64 left] w fun e w'=>e =.returned (.int .i64 (uC left xs.length))∧w'=w:=by
 obtain⟨a,cap,rfl,hnc,hcm,_⟩:=hx;unfold maxLen at hcm;unfold uC;generalize xs.length=n at *;by_cases h:left<n
 ·rw[if_pos h];go_enter Tryz.func60,Tryz.ntmps60;go_wp2;go_ret;exact⟨rfl,rfl⟩
 rw[if_neg h];go_enter Tryz.func60,Tryz.ntmps60;go_wp2;go_ret;exact⟨rfl,rfl⟩
def bytesR:Rep (List Byte):=fRep 5 1 gX mQ gG fF5
def kK (xs:List Byte):Nat:=xs.length
def qG (xs:List Byte):Nat:=xs.length
def fE8 (k:Int) (xs:List Byte):List Byte:=fBq k xs.length
theorem fZ {w:World} {v:Value} {xs:List Byte} (h:bytesR.V w v xs):∃a c,v =.slice a xs.length c:=by
 obtain⟨a,c,rfl,_⟩:=h;exact⟨_,_,rfl⟩
theorem fJs (d:List Byte):qG d≤1*kK d:=by unfold qG kK;omega
theorem fLj (x:Value) (d:List Byte) (w:World) (hx:bytesR.V w x d) (hn:kK d≤1048576) :
  Calls Tryz.prog 63 #[x] w fun e w'=>∃v F,e =.returned v∧bytesR.O w' w.heap.size F v d∧Below w.heap.size w w':=by
 refine(fNp x d w hx hn).mono ?_;rintro e w' ⟨v,rfl,ho,hb⟩;exact⟨v,_,rfl,⟨ho,rfl⟩,hb⟩
theorem fJ3 (x y:Value) (d d':List Byte) (w:World) (hx:bytesR.V w x d) (hy:bytesR.V w y d') :
  Calls Tryz.prog 65 #[x,y] w fun e w'=>e =.returned (.bool (decide (d=d')))∧Below w.heap.size w w':=fL3 x y d d' w hx hy
theorem fLg (x:Value) (d:List Byte) (left:Int) (w:World) (hx:bytesR.V w x d) (h0:0≤left) (h1:left≤1048576) :
  Calls Tryz.prog 60 #[x,.int .i64 left] w fun e w'=>e =.returned (.int .i64 (uC left (kK d)))∧Below w.heap.size w w':=by
 refine(fNn x d left w hx h0 h1).mono ?_;rintro e w' ⟨rfl,rfl⟩;exact⟨rfl,Below.refl _ _⟩
theorem fE4 (v:Value) (d:List Byte) (base:Nat) (F:Nat→Prop) (k:Int) (w:World) (ho:bytesR.O w base F v d) (hw:kK d≤1048576) (hn:k+qG d≤1073741824) (hk0:0≤k) :
  Calls Tryz.prog 76 #[v,.int .i64 k] w fun r w'=>r =.returned (.int .i64 (k+qG d))∧bytesR.O w' base F v (fE8 k d)∧Mod F w w':=by
 refine(fI0 v d.length _ base _ k w ho.1 hw hk0 (by omega)).mono ?_;rintro e w' ⟨rfl,h1,h2⟩;refine⟨by simp[qG],⟨?_,ho.2⟩,by rw[ho.2];exact Mod.of_grown h2⟩;unfold fE8;rw[rC];exact h1
theorem fEp (v:Value) (d:List Byte) (k:Int) (w:World) (hv:bytesR.V w v (fE8 k d)) (hw:kK d≤1048576) (hn:k+qG d≤1073741824) (hk0:0≤k) :
  Calls Tryz.prog 123 #[v,.int .i64 k] w fun r w'=>r =.returned (.int .i64 (k+qG d))∧Below w.heap.size w w':=by
 refine(fIo v d.length k w hv hw hk0 (by omega)).mono ?_;rintro e w' ⟨rfl,rfl⟩;exact⟨by simp[qG],Below.refl _ _⟩
structure Logg where
 synced:List Byte
 loose:List Byte
variable [dQ Logg] [iH Logg]
def loggR:Rep Logg where
 V:=fun w v x=>∃u1 u2,v =.agg #[u1,u2]∧bytesR.V w u1 x.synced∧bytesR.V w u2 x.loose
 O:=fun w base F v x=>∃u1 u2 F1 F2,v =.agg #[u1,u2]∧bytesR.O w base F1 u1 x.synced∧bytesR.O w base F2 u2 x.loose∧(∀b,F1 b→¬F2 b)∧(∀b,F b↔(F1 b∨F2 b))
 below:=fun h hb=>by
  obtain⟨u1,u2,rfl,h1,h2⟩:=h;exact⟨u1,u2,rfl,bytesR.below h1 hb,bytesR.below h2 hb⟩
 ofO:=fun h=>by
  obtain⟨u1,u2,F1,F2,rfl,h1,h2,_⟩:=h;exact⟨u1,u2,rfl,bytesR.ofO h1,bytesR.ofO h2⟩
 mod:=fun h hm hd=>by
  obtain⟨u1,u2,F1,F2,rfl,h1,h2,s12,hF⟩:=h;exact⟨u1,u2,F1,F2,rfl,bytesR.mod h1 hm (fun b hb=>hd b ((hF b).2 (.inl hb))),bytesR.mod h2 hm (fun b hb=>hd b ((hF b).2 (.inr hb))),s12,hF⟩
 rng:=fun h b hb=>by
  obtain⟨u1,u2,F1,F2,rfl,h1,h2,s12,hF⟩:=h;rcases(hF b).1 hb with hb|hb
  ·exact bytesR.rng h1 b hb
  exact bytesR.rng h2 b hb
 base:=fun h hb=>by
  obtain⟨u1,u2,F1,F2,rfl,h1,h2,s12,hF⟩:=h;exact⟨u1,u2,F1,F2,rfl,bytesR.base h1 hb,bytesR.base h2 hb,s12,hF⟩
def gM (x:Logg):Nat:=kK x.synced+kK x.loose
def xY (x:Logg):Nat:=qG x.synced+qG x.loose
def fTd (k:Int) (x:Logg):Logg:={x with synced:=fE8 k x.synced,loose:=fE8 (k+qG x.synced) x.loose}
theorem mU {w:World} {v:Value} {x:Logg} (h:loggR.V w v x):∃a1 a2 c1 c2,v =.agg #[.slice a1 x.synced.length c1,.slice a2 x.loose.length c2]:=by
 obtain⟨u1,u2,rfl,h1,h2⟩:=h;obtain⟨a1,c1,rfl⟩:=fZ h1;obtain⟨a2,c2,rfl⟩:=fZ h2;exact⟨_,_,_,_,rfl⟩
theorem fVo (d:Logg):xY d≤1*gM d:=by
 unfold xY gM;have q1:=fJs d.synced;have q2:=fJs d.loose;omega
theorem fXe (x:Value) (d:Logg) (w:World) (hx:loggR.V w x d) (hn:gM d≤1048576) :
  Calls Tryz.prog 30 #[x] w fun e w'=>∃v F,e =.returned v∧loggR.O w' w.heap.size F v d∧Below w.heap.size w w':=by
 obtain⟨u1,u2,rfl,h1,h2⟩:=hx;unfold gM at hn;go_enter Tryz.func30,Tryz.ntmps30;go_wp2_with fail;refine(fLj _ d.synced _ (bytesR.below h1 qBq) (by omega)).mono ?_;rintro e w1 ⟨v1,F1,rfl,o1,b1⟩;obtain⟨a1,n1,rfl⟩:=fZ (bytesR.ofO o1);obtain⟨c1,f1⟩:=bcell b1;have z1:=b1.size;simp at z1;have l1:=fun b hb=>bytesR.rng o1 b hb
 simp at l1;replace o1:=bytesR.base (base':=w.heap.size+3) o1 (by simp;try omega);have y0:w1.cell? ⟨w.heap.size,0,none⟩=some (u1):=cK b1 (by simp[go_sem]);have y1:w1.cell? ⟨w.heap.size,1,none⟩=some (u2):=cK b1 (by simp[go_sem]);have r0:w1.cell? ⟨w.heap.size+1,0,none⟩=some (.slice none 0 0):=cK b1 (by simp[go_sem]);have r1:w1.cell? ⟨w.heap.size+1,1,none⟩=some (.slice none 0 0):=cK b1 (by simp[go_sem]);have s0:w1.cell? ⟨w.heap.size+2,0,none⟩=some (.slice none 0 0):=cK b1 (by simp[go_sem]);have s1:w1.cell? ⟨w.heap.size+2,1,none⟩=some (.slice none 0 0):=cK b1 (by simp[go_sem]);have t1:∀o,w1.frozen? ⟨w.heap.size+1,o,none⟩=false:=fun o=>by rw[f1 _ _ (by simp;try omega)];simp[go_sem]
 have t2:∀o,w1.frozen? ⟨w.heap.size+2,o,none⟩=false:=fun o=>by rw[f1 _ _ (by simp;try omega)];simp[go_sem]
 clear c1 f1;have x0:=y0;have x1:=y1;have q0:=r0;have q1:=r1;have p0:=s0;have p1:=s1;have qf:=t1;have pf:=t2;clear t1 t2 y0 y1 r0 r1 s0 s1;go_wp2_with fail;refine(fLj _ d.loose _ (bytesR.below h2 qBq) (by omega)).mono ?_;rintro e w2 ⟨v2,F2,rfl,o2,b2⟩;obtain⟨a2,n2,rfl⟩:=fZ (bytesR.ofO o2);obtain⟨c2,f2⟩:=bcell b2;have z2:=b2.size;simp at z2;have l2:=fun b hb=>bytesR.rng o2 b hb
 simp at l2;replace o2:=bytesR.base (base':=w.heap.size+3) o2 (by simp;try omega);have y0:w2.cell? ⟨w.heap.size,0,none⟩=some (u1):=cK b2 (by simp[go_sem,x0,x1,q0,q1,p0,p1]);have y1:w2.cell? ⟨w.heap.size,1,none⟩=some (u2):=cK b2 (by simp[go_sem,x0,x1,q0,q1,p0,p1]);have r0:w2.cell? ⟨w.heap.size+1,0,none⟩=some (.slice none 0 0):=cK b2 (by simp[go_sem,x0,x1,q0,q1,p0,p1]);have r1:w2.cell? ⟨w.heap.size+1,1,none⟩=some (.slice none 0 0):=cK b2 (by simp[go_sem,x0,x1,q0,q1,p0,p1]);have s0:w2.cell? ⟨w.heap.size+2,0,none⟩=some (.slice a1 d.synced.length n1):=cK b2 (by simp[go_sem,x0,x1,q0,q1,p0,p1]);have s1:w2.cell? ⟨w.heap.size+2,1,none⟩=some (.slice none 0 0):=cK b2 (by simp[go_sem,x0,x1,q0,q1,p0,p1]);have t1:∀o,w2.frozen? ⟨w.heap.size+1,o,none⟩=false:=fun o=>by rw[f2 _ _ (by simp;try omega)];simp[go_sem,qf]
 have t2:∀o,w2.frozen? ⟨w.heap.size+2,o,none⟩=false:=fun o=>by rw[f2 _ _ (by simp;try omega)];simp[go_sem,pf]
 clear x0 x1 q0 q1 p0 p1 qf pf;clear c2 f2;have x0:=y0;have x1:=y1;have q0:=r0;have q1:=r1;have p0:=s0;have p1:=s1;have qf:=t1;have pf:=t2;clear t1 t2 y0 y1 r0 r1 s0 s1;go_wp2;refine bodyPost_ret (v:=.agg #[.slice a1 d.synced.length n1,.slice a2 d.loose.length n2]) ?_ rfl ⟨_,fun b=>F1 b∨F2 b,rfl,⟨_,_,F1,F2,rfl,bytesR.base (base:=w.heap.size+3) (by(repeat (first|assumption|refine Rep.set _ ?_ _ (by simp;omega)|refine Rep.set _ ?_ _ (by simp)|refine Rep.alloc _ ?_ _|refine Rep.keep _ ?_ (by assumption)))) (by omega),bytesR.base (base:=w.heap.size+3) (by(repeat (first|assumption|refine Rep.set _ ?_ _ (by simp;omega)|refine Rep.set _ ?_ _ (by simp)|refine Rep.alloc _ ?_ _|refine Rep.keep _ ?_ (by assumption)))) (by omega),fun b p q=>by have:=(l1 b p).2;have:=(l2 b q).1;omega,fun b=>Iff.rfl⟩,qBq⟩;simp[results,Tryz.results30,go_sem,q0,q1,p0,p1,qf,pf]
theorem fXd (x:Value) (d:Logg) (left:Int) (w:World) (hx:loggR.V w x d) (h0:0≤left) (h1:left≤1048576) :
  Calls Tryz.prog 27 #[x,.int .i64 left] w fun e w'=>e =.returned (.int .i64 (uC left (gM d)))∧Below w.heap.size w w':=by
 obtain⟨u1,u2,rfl,k1,k2⟩:=hx;go_enter Tryz.func27,Tryz.ntmps27;go_wp2_with fail;refine(fLg _ d.synced left _ (bytesR.below k1 qBq) h0 h1).mono ?_;rintro e w1 ⟨rfl,b1⟩;have x0:w1.cell? ⟨w.heap.size,0,none⟩=some (u1):=cK b1 (by simp[go_sem]);have x1:w1.cell? ⟨w.heap.size,1,none⟩=some (u2):=cK b1 (by simp[go_sem]);go_wp2_with fail
 ·rename_i h;go_ret;refine⟨?_,qBq⟩;rw[fB2 (n:=kK d.synced) (by omega) (gM d) (by unfold gM;omega)];rfl
 rename_i h;refine(fLg _ d.loose (uC left (kK d.synced:Nat)) _ (bytesR.below k2 qBq) (by omega) (by have:=fPb (n:=kK d.synced) h0;omega)).mono ?_;rintro e w2 ⟨rfl,b2⟩;rw[fLh (n:=kK d.synced) (by omega)];go_wp2
 ·rename_i h;go_ret;refine⟨?_,qBq⟩;rw[fB2 (n:=kK d.synced+kK d.loose) (by first|omega|(rw[Int.natCast_add];omega)) (gM d) (by unfold gM;omega)];rfl
 rename_i h;go_ret;exact⟨rfl,qBq⟩
theorem fWo (x y:Value) (d d':Logg) (w:World) (hx:loggR.V w x d) (hy:loggR.V w y d') :
  Calls Tryz.prog 32 #[x,y] w fun e w'=>e =.returned (.bool (decide (d=d')))∧Below w.heap.size w w':=by
 obtain⟨u1,u2,rfl,h1,h2⟩:=hx;obtain⟨v1,v2,rfl,k1,k2⟩:=hy;obtain⟨synced,loose⟩:=d;obtain⟨synced',loose'⟩:=d';dsimp only at h1 k1 h2 k2;go_enter Tryz.func32,Tryz.ntmps32;go_wp2_with fail;all_goals try (go_ret;exact⟨by simp_all,qBq⟩)
 refine(fJ3 _ _ synced synced' _ (bytesR.below h1 qBq) (bytesR.below k1 qBq)).mono ?_;rintro e w1 ⟨rfl,b1⟩;have x0:w1.cell? ⟨w.heap.size,0,none⟩=some (u1):=cK b1 (by simp[go_sem]);have x1:w1.cell? ⟨w.heap.size,1,none⟩=some (u2):=cK b1 (by simp[go_sem]);have y0:w1.cell? ⟨w.heap.size+1,0,none⟩=some (v1):=cK b1 (by simp[go_sem]);have y1:w1.cell? ⟨w.heap.size+1,1,none⟩=some (v2):=cK b1 (by simp[go_sem]);go_wp2_with fail;all_goals try (go_ret;exact⟨by simp_all,qBq⟩)
 refine(fJ3 _ _ loose loose' _ (bytesR.below h2 qBq) (bytesR.below k2 qBq)).mono ?_;rintro e w2 ⟨rfl,b2⟩;go_wp2;all_goals
  go_ret;exact⟨by simp_all,qBq⟩
theorem fTc (v:Value) (d:Logg) (base:Nat) (F:Nat→Prop) (k:Int) (w:World) (ho:loggR.O w base F v d) (hw:gM d≤1048576) (hn:k+xY d≤1073741824) (hk0:0≤k) :
  Calls Tryz.prog 40 #[v,.int .i64 k] w fun r w'=>r =.returned (.int .i64 (k+xY d))∧loggR.O w' base F v (fTd k d)∧Mod F w w':=by
 obtain⟨u1,u2,F1,F2,rfl,h1,h2,s12,hF⟩:=ho;unfold gM at hw;unfold xY at hn ⊢;have HF:Hid (∀b,F b↔(F1 b∨F2 b)):=hF;clear hF;go_enter Tryz.func40,Tryz.ntmps40;go_wp2_with fail;refine(fE4 _ d.synced base F1 k _ (bytesR.alloc h1 _) (by omega) (by omega) (by omega)).mono ?_;rintro e w1 ⟨rfl,r1,m1⟩;have h2':=bytesR.mod (bytesR.alloc h2 _) m1 (fun b p q=>s12 b q p);have x0:w1.cell? ⟨w.heap.size,0,none⟩=some (u1):=m1.cell (by simp[go_sem]) (fun hf=>by have:=bytesR.rng h1 _ hf;dsimp only at this;omega);have x1:w1.cell? ⟨w.heap.size,1,none⟩=some (u2):=m1.cell (by simp[go_sem]) (fun hf=>by have:=bytesR.rng h1 _ hf;dsimp only at this;omega);go_wp2_with fail;refine(fE4 _ d.loose base F2 (k+qG d.synced) _ h2' (by omega) (by omega) (by omega)).mono ?_;rintro e w2 ⟨rfl,r2,m2⟩;replace r1:=bytesR.mod r1 m2 (fun b p q=>s12 b p q);go_wp2;go_ret;refine⟨?_,⟨_,_,F1,F2,rfl,r1,r2,s12,HF.out⟩,(((Mod.refl F w).alloc _).trans (m1.mono (fun b hb=>(HF.out b).2 (.inl hb)))).trans (m2.mono (fun b hb=>(HF.out b).2 (.inr hb)))⟩;simp;try omega
theorem fSr (v:Value) (d:Logg) (k:Int) (w:World) (hv:loggR.V w v (fTd k d)) (hw:gM d≤1048576) (hn:k+xY d≤1073741824) (hk0:0≤k) :
  Calls Tryz.prog 81 #[v,.int .i64 k] w fun r w'=>r =.returned (.int .i64 (k+xY d))∧Below w.heap.size w w':=by
 obtain⟨u1,u2,rfl,h1,h2⟩:=hv;unfold gM at hw;unfold xY at hn ⊢;go_enter Tryz.func81,Tryz.ntmps81;go_wp2_with fail;refine(fEp _ d.synced k _ (bytesR.below h1 qBq) (by omega) (by omega) (by omega)).mono ?_;rintro e w1 ⟨rfl,b1⟩;have x0:w1.cell? ⟨w.heap.size,0,none⟩=some (u1):=cK b1 (by simp[go_sem]);have x1:w1.cell? ⟨w.heap.size,1,none⟩=some (u2):=cK b1 (by simp[go_sem]);go_wp2_with fail;refine(fEp _ d.loose (k+qG d.synced) _ (bytesR.below h2 qBq) (by omega) (by omega) (by omega)).mono ?_;rintro e w2 ⟨rfl,b2⟩;go_wp2;go_ret;refine⟨?_,qBq⟩;simp;try omega
variable [dQ Bal] [iH Bal] [dQ Logg] [iH Logg]
structure Jrn where
 idx:Int
 start:List Bal
 log:Logg
variable [dQ Jrn] [iH Jrn]
def jrnR:Rep Jrn where
 V:=fun w v x=>∃u1 u2_1 u2_2,v =.agg #[.int .i64 x.idx,u1,u2_1,u2_2]∧balsR.V w u1 x.start∧loggR.V w (.agg #[u2_1,u2_2]) x.log
 O:=fun w base F v x=>∃u1 u2_1 u2_2 F1 F2,v =.agg #[.int .i64 x.idx,u1,u2_1,u2_2]∧balsR.O w base F1 u1 x.start∧loggR.O w base F2 (.agg #[u2_1,u2_2]) x.log∧(∀b,F1 b→¬F2 b)∧(∀b,F b↔(F1 b∨F2 b))
 below:=fun h hb=>by
  obtain⟨u1,u2_1,u2_2,rfl,h1,h2⟩:=h;exact⟨u1,u2_1,u2_2,rfl,balsR.below h1 hb,loggR.below h2 hb⟩
 ofO:=fun h=>by
  obtain⟨u1,u2_1,u2_2,F1,F2,rfl,h1,h2,_⟩:=h;exact⟨u1,u2_1,u2_2,rfl,balsR.ofO h1,loggR.ofO h2⟩
 mod:=fun h hm hd=>by
  obtain⟨u1,u2_1,u2_2,F1,F2,rfl,h1,h2,s12,hF⟩:=h;exact⟨u1,u2_1,u2_2,F1,F2,rfl,balsR.mod h1 hm (fun b hb=>hd b ((hF b).2 (.inl hb))),loggR.mod h2 hm (fun b hb=>hd b ((hF b).2 (.inr hb))),s12,hF⟩
 rng:=fun h b hb=>by
  obtain⟨u1,u2_1,u2_2,F1,F2,rfl,h1,h2,s12,hF⟩:=h;rcases(hF b).1 hb with hb|hb
  ·exact balsR.rng h1 b hb
  exact loggR.rng h2 b hb
 base:=fun h hb=>by
  obtain⟨u1,u2_1,u2_2,F1,F2,rfl,h1,h2,s12,hF⟩:=h;exact⟨u1,u2_1,u2_2,F1,F2,rfl,balsR.base h1 hb,loggR.base h2 hb,s12,hF⟩
def mP (x:Jrn):Nat:=pM x.start+gM x.log
def vJ (x:Jrn):Nat:=mE x.start+xY x.log
def yU (k:Int) (x:Jrn):Jrn:={x with start:=fKx k x.start,log:=fTd (k+mE x.start) x.log}
theorem fAa {w:World} {v:Value} {x:Jrn} (h:jrnR.V w v x):∃a1 a2_1 a2_2 c1 c2_1 c2_2,v =.agg #[.int .i64 x.idx,.slice a1 x.start.length c1,.slice a2_1 x.log.synced.length c2_1,.slice a2_2 x.log.loose.length c2_2]:=by
 obtain⟨u1,u2_1,u2_2,rfl,h1,h2⟩:=h;obtain⟨a1,c1,rfl⟩:=fP h1;obtain⟨a2_1,a2_2,c2_1,c2_2,e2⟩:=mU h2;simp only[Value.agg.injEq,Array.mk.injEq,List.cons.injEq,and_true] at e2;obtain⟨rfl,rfl⟩:=e2;exact⟨_,_,_,_,_,_,rfl⟩
theorem fSx (d:Jrn):vJ d≤3*mP d:=by
 unfold vJ mP;have q1:=fNz d.start;have q2:=fVo d.log;omega
theorem yM (x:Value) (d:Jrn) (w:World) (hx:jrnR.V w x d) (hn:mP d≤1048576) :
  Calls Tryz.prog 9 #[x] w fun e w'=>∃v F,e =.returned v∧jrnR.O w' w.heap.size F v d∧Below w.heap.size w w':=by
 obtain⟨u1,u2_1,u2_2,rfl,h1,h2⟩:=hx;unfold mP at hn;go_enter Tryz.func9,Tryz.ntmps9;go_wp2_with fail;refine(fLi _ d.start _ (balsR.below h1 qBq) (by omega)).mono ?_;rintro e w1 ⟨v1,F1,rfl,o1,b1⟩;have hB1:Below w.heap.size w w1:=bS qBq b1;obtain⟨a1,n1,rfl⟩:=fP (balsR.ofO o1);obtain⟨c1,f1⟩:=bcell b1;have z1:=b1.size;simp at z1;have l1:=fun b hb=>balsR.rng o1 b hb
 simp at l1;replace o1:=balsR.base (base':=w.heap.size+3) o1 (by simp;try omega);have y0:w1.cell? ⟨w.heap.size,0,none⟩=some (.int .i64 d.idx):=cK b1 (by simp[go_sem]);have y1:w1.cell? ⟨w.heap.size,1,none⟩=some (u1):=cK b1 (by simp[go_sem]);have y2:w1.cell? ⟨w.heap.size,2,none⟩=some (u2_1):=cK b1 (by simp[go_sem]);have y3:w1.cell? ⟨w.heap.size,3,none⟩=some (u2_2):=cK b1 (by simp[go_sem]);have r0:w1.cell? ⟨w.heap.size+1,0,none⟩=some (.int .i64 0):=cK b1 (by simp[go_sem]);have r1:w1.cell? ⟨w.heap.size+1,1,none⟩=some (.slice none 0 0):=cK b1 (by simp[go_sem]);have r2:w1.cell? ⟨w.heap.size+1,2,none⟩=some (.slice none 0 0):=cK b1 (by simp[go_sem]);have r3:w1.cell? ⟨w.heap.size+1,3,none⟩=some (.slice none 0 0):=cK b1 (by simp[go_sem]);have s0:w1.cell? ⟨w.heap.size+2,0,none⟩=some (.int .i64 d.idx):=cK b1 (by simp[go_sem]);have s1:w1.cell? ⟨w.heap.size+2,1,none⟩=some (.slice none 0 0):=cK b1 (by simp[go_sem]);have s2:w1.cell? ⟨w.heap.size+2,2,none⟩=some (.slice none 0 0):=cK b1 (by simp[go_sem]);have s3:w1.cell? ⟨w.heap.size+2,3,none⟩=some (.slice none 0 0):=cK b1 (by simp[go_sem]);have t1:∀o,w1.frozen? ⟨w.heap.size+1,o,none⟩=false:=fun o=>by rw[f1 _ _ (by simp;try omega)];simp[go_sem]
 have t2:∀o,w1.frozen? ⟨w.heap.size+2,o,none⟩=false:=fun o=>by rw[f1 _ _ (by simp;try omega)];simp[go_sem]
 clear c1 f1;have x0:=y0;have x1:=y1;have x2:=y2;have x3:=y3;have q0:=r0;have q1:=r1;have q2:=r2;have q3:=r3;have p0:=s0;have p1:=s1;have p2:=s2;have p3:=s3;have qf:=t1;have pf:=t2;clear t1 t2 y0 y1 y2 y3 r0 r1 r2 r3 s0 s1 s2 s3;clear b1;go_wp2_with fail;refine(fXe _ d.log _ (loggR.below h2 qS) (by omega)).mono ?_;rintro e w2 ⟨v2,F2,rfl,o2,b2⟩;have hB2:Below w.heap.size w w2:=bS qS b2;have ofm2:=loggR.ofO o2;obtain⟨x2_1,x2_2,rfl,y2_1,y2_2⟩:=ofm2;obtain⟨a2_1,n2_1,rfl⟩:=fZ y2_1;obtain⟨a2_2,n2_2,rfl⟩:=fZ y2_2;obtain⟨c2,f2⟩:=bcell b2;have z2:=b2.size;simp at z2;have l2:=fun b hb=>loggR.rng o2 b hb
 simp at l2;replace o2:=loggR.base (base':=w.heap.size+3) o2 (by simp;try omega);have hk1:∀F v x,balsR.O w1 (w.heap.size+3) F v x→balsR.O w2 (w.heap.size+3) F v x:=fun F v x o=>balsR.keep (by(repeat (first|refine Rep.set _ ?_ _ (by simp;omega)|refine Rep.set _ ?_ _ (by simp)|refine Rep.alloc _ ?_ _|assumption))) b2
 replace o1:=hk1 _ _ _ o1;clear hk1;have y0:w2.cell? ⟨w.heap.size,0,none⟩=some (.int .i64 d.idx):=cK b2 (by simp[go_sem,x0,x1,x2,x3,q0,q1,q2,q3,p0,p1,p2,p3]);have y1:w2.cell? ⟨w.heap.size,1,none⟩=some (u1):=cK b2 (by simp[go_sem,x0,x1,x2,x3,q0,q1,q2,q3,p0,p1,p2,p3]);have y2:w2.cell? ⟨w.heap.size,2,none⟩=some (u2_1):=cK b2 (by simp[go_sem,x0,x1,x2,x3,q0,q1,q2,q3,p0,p1,p2,p3]);have y3:w2.cell? ⟨w.heap.size,3,none⟩=some (u2_2):=cK b2 (by simp[go_sem,x0,x1,x2,x3,q0,q1,q2,q3,p0,p1,p2,p3]);have r0:w2.cell? ⟨w.heap.size+1,0,none⟩=some (.int .i64 0):=cK b2 (by simp[go_sem,x0,x1,x2,x3,q0,q1,q2,q3,p0,p1,p2,p3]);have r1:w2.cell? ⟨w.heap.size+1,1,none⟩=some (.slice none 0 0):=cK b2 (by simp[go_sem,x0,x1,x2,x3,q0,q1,q2,q3,p0,p1,p2,p3]);have r2:w2.cell? ⟨w.heap.size+1,2,none⟩=some (.slice none 0 0):=cK b2 (by simp[go_sem,x0,x1,x2,x3,q0,q1,q2,q3,p0,p1,p2,p3]);have r3:w2.cell? ⟨w.heap.size+1,3,none⟩=some (.slice none 0 0):=cK b2 (by simp[go_sem,x0,x1,x2,x3,q0,q1,q2,q3,p0,p1,p2,p3]);have s0:w2.cell? ⟨w.heap.size+2,0,none⟩=some (.int .i64 d.idx):=cK b2 (by simp[go_sem,x0,x1,x2,x3,q0,q1,q2,q3,p0,p1,p2,p3]);have s1:w2.cell? ⟨w.heap.size+2,1,none⟩=some (.slice a1 d.start.length n1):=cK b2 (by simp[go_sem,x0,x1,x2,x3,q0,q1,q2,q3,p0,p1,p2,p3]);have s2:w2.cell? ⟨w.heap.size+2,2,none⟩=some (.slice none 0 0):=cK b2 (by simp[go_sem,x0,x1,x2,x3,q0,q1,q2,q3,p0,p1,p2,p3]);have s3:w2.cell? ⟨w.heap.size+2,3,none⟩=some (.slice none 0 0):=cK b2 (by simp[go_sem,x0,x1,x2,x3,q0,q1,q2,q3,p0,p1,p2,p3]);have t1:∀o,w2.frozen? ⟨w.heap.size+1,o,none⟩=false:=fun o=>by rw[f2 _ _ (by simp;try omega)];simp[go_sem,qf]
 have t2:∀o,w2.frozen? ⟨w.heap.size+2,o,none⟩=false:=fun o=>by rw[f2 _ _ (by simp;try omega)];simp[go_sem,pf]
 clear x0 x1 x2 x3 q0 q1 q2 q3 p0 p1 p2 p3 qf pf;clear c2 f2;have x0:=y0;have x1:=y1;have x2:=y2;have x3:=y3;have q0:=r0;have q1:=r1;have q2:=r2;have q3:=r3;have p0:=s0;have p1:=s1;have p2:=s2;have p3:=s3;have qf:=t1;have pf:=t2;clear t1 t2 y0 y1 y2 y3 r0 r1 r2 r3 s0 s1 s2 s3;clear b2 hB1;go_wp2;refine bodyPost_ret (v:=.agg #[.int .i64 d.idx,.slice a1 d.start.length n1,.slice a2_1 d.log.synced.length n2_1,.slice a2_2 d.log.loose.length n2_2]) ?_ rfl ⟨_,fun b=>F1 b∨F2 b,rfl,⟨_,_,_,F1,F2,rfl,balsR.base (base:=w.heap.size+3) (by(repeat (first|refine Rep.set _ ?_ _ (by simp;omega)|refine Rep.set _ ?_ _ (by simp)|refine Rep.alloc _ ?_ _|assumption))) (by omega),loggR.base (base:=w.heap.size+3) (by(repeat (first|refine Rep.set _ ?_ _ (by simp;omega)|refine Rep.set _ ?_ _ (by simp)|refine Rep.alloc _ ?_ _|assumption))) (by omega),fun b p q=>by have:=(l1 b p).2;have:=(l2 b q).1;omega,fun b=>Iff.rfl⟩,qS⟩;simp[results,Tryz.results9,go_sem,q0,q1,q2,q3,p0,p1,p2,p3,qf,pf]
theorem fNo (x:Value) (d:Jrn) (left:Int) (w:World) (hx:jrnR.V w x d) (h0:0≤left) (h1:left≤1048576) :
  Calls Tryz.prog 7 #[x,.int .i64 left] w fun e w'=>e =.returned (.int .i64 (uC left (mP d)))∧Below w.heap.size w w':=by
 obtain⟨u1,u2_1,u2_2,rfl,k1,k2⟩:=hx;go_enter Tryz.func7,Tryz.ntmps7;go_wp2_with fail;refine(fLf _ d.start left _ (balsR.below k1 qBq) h0 h1).mono ?_;rintro e w1 ⟨rfl,b1⟩;have x0:w1.cell? ⟨w.heap.size,0,none⟩=some (.int .i64 d.idx):=cK b1 (by simp[go_sem]);have x1:w1.cell? ⟨w.heap.size,1,none⟩=some (u1):=cK b1 (by simp[go_sem]);have x2:w1.cell? ⟨w.heap.size,2,none⟩=some (u2_1):=cK b1 (by simp[go_sem]);have x3:w1.cell? ⟨w.heap.size,3,none⟩=some (u2_2):=cK b1 (by simp[go_sem]);go_wp2_with fail
 ·rename_i h;go_ret;refine⟨?_,qBq⟩;rw[fB2 (n:=pM d.start) (by omega) (mP d) (by unfold mP;omega)];rfl
 rename_i h;refine(fXd _ d.log (uC left (pM d.start:Nat)) _ (loggR.below k2 qBq) (by omega) (by have:=fPb (n:=pM d.start) h0;omega)).mono ?_;rintro e w2 ⟨rfl,b2⟩;rw[fLh (n:=pM d.start) (by omega)];go_wp2
 ·rename_i h;go_ret;refine⟨?_,qBq⟩;rw[fB2 (n:=pM d.start+gM d.log) (by first|omega|(rw[Int.natCast_add];omega)) (mP d) (by unfold mP;omega)];rfl
 rename_i h;go_ret;exact⟨rfl,qBq⟩
theorem fEd (x y:Value) (d d':Jrn) (w:World) (hx:jrnR.V w x d) (hy:jrnR.V w y d') :
  Calls Tryz.prog 11 #[x,y] w fun e w'=>e =.returned (.bool (decide (d=d')))∧Below w.heap.size w w':=by
 obtain⟨u1,u2_1,u2_2,rfl,h1,h2⟩:=hx;obtain⟨v1,v2_1,v2_2,rfl,k1,k2⟩:=hy;obtain⟨idx,start,log⟩:=d;obtain⟨idx',start',log'⟩:=d';dsimp only at h1 k1 h2 k2;go_enter Tryz.func11,Tryz.ntmps11;go_wp2_with fail;all_goals try (go_ret;exact⟨by simp_all,qBq⟩)
 refine(fC3 _ _ start start' _ (balsR.below h1 qBq) (balsR.below k1 qBq)).mono ?_;rintro e w1 ⟨rfl,b1⟩;have x0:w1.cell? ⟨w.heap.size,0,none⟩=some (.int .i64 idx):=cK b1 (by simp[go_sem]);have x1:w1.cell? ⟨w.heap.size,1,none⟩=some (u1):=cK b1 (by simp[go_sem]);have x2:w1.cell? ⟨w.heap.size,2,none⟩=some (u2_1):=cK b1 (by simp[go_sem]);have x3:w1.cell? ⟨w.heap.size,3,none⟩=some (u2_2):=cK b1 (by simp[go_sem]);have y0:w1.cell? ⟨w.heap.size+1,0,none⟩=some (.int .i64 idx'):=cK b1 (by simp[go_sem]);have y1:w1.cell? ⟨w.heap.size+1,1,none⟩=some (v1):=cK b1 (by simp[go_sem]);have y2:w1.cell? ⟨w.heap.size+1,2,none⟩=some (v2_1):=cK b1 (by simp[go_sem]);have y3:w1.cell? ⟨w.heap.size+1,3,none⟩=some (v2_2):=cK b1 (by simp[go_sem]);go_wp2_with fail;all_goals try (go_ret;exact⟨by simp_all,qBq⟩)
 refine(fWo _ _ log log' _ (loggR.below h2 qBq) (loggR.below k2 qBq)).mono ?_;rintro e w2 ⟨rfl,b2⟩;go_wp2;all_goals
  go_ret;exact⟨by simp_all,qBq⟩
theorem fBo (v:Value) (d:Jrn) (base:Nat) (F:Nat→Prop) (k:Int) (w:World) (ho:jrnR.O w base F v d) (hw:mP d≤1048576) (hn:k+vJ d≤1073741824) (hk0:0≤k) :
  Calls Tryz.prog 15 #[v,.int .i64 k] w fun r w'=>r =.returned (.int .i64 (k+vJ d))∧jrnR.O w' base F v (yU k d)∧Mod F w w':=by
 obtain⟨u1,u2_1,u2_2,F1,F2,rfl,h1,h2,s12,hF⟩:=ho;unfold mP at hw;unfold vJ at hn ⊢;have HF:Hid (∀b,F b↔(F1 b∨F2 b)):=hF;clear hF;go_enter Tryz.func15,Tryz.ntmps15;go_wp2_with fail;refine(fAj _ d.start base F1 k _ (balsR.alloc h1 _) (by omega) (by omega) (by omega)).mono ?_;rintro e w1 ⟨rfl,r1,m1⟩;have h2':=loggR.mod (loggR.alloc h2 _) m1 (fun b p q=>s12 b q p);have x0:w1.cell? ⟨w.heap.size,0,none⟩=some (.int .i64 d.idx):=m1.cell (by simp[go_sem]) (fun hf=>by have:=balsR.rng h1 _ hf;dsimp only at this;omega);have x1:w1.cell? ⟨w.heap.size,1,none⟩=some (u1):=m1.cell (by simp[go_sem]) (fun hf=>by have:=balsR.rng h1 _ hf;dsimp only at this;omega);have x2:w1.cell? ⟨w.heap.size,2,none⟩=some (u2_1):=m1.cell (by simp[go_sem]) (fun hf=>by have:=balsR.rng h1 _ hf;dsimp only at this;omega);have x3:w1.cell? ⟨w.heap.size,3,none⟩=some (u2_2):=m1.cell (by simp[go_sem]) (fun hf=>by have:=balsR.rng h1 _ hf;dsimp only at this;omega);go_wp2_with fail;refine(fTc _ d.log base F2 (k+mE d.start) _ h2' (by omega) (by omega) (by omega)).mono ?_;rintro e w2 ⟨rfl,r2,m2⟩;replace r1:=balsR.mod r1 m2 (fun b p q=>s12 b p q);go_wp2;go_ret;refine⟨?_,⟨_,_,_,F1,F2,rfl,r1,r2,s12,HF.out⟩,(((Mod.refl F w).alloc _).trans (m1.mono (fun b hb=>(HF.out b).2 (.inl hb)))).trans (m2.mono (fun b hb=>(HF.out b).2 (.inr hb)))⟩;simp;try omega
theorem fIp (v:Value) (d:Jrn) (k:Int) (w:World) (hv:jrnR.V w v (yU k d)) (hw:mP d≤1048576) (hn:k+vJ d≤1073741824) (hk0:0≤k) :
  Calls Tryz.prog 42 #[v,.int .i64 k] w fun r w'=>r =.returned (.int .i64 (k+vJ d))∧Below w.heap.size w w':=by
 obtain⟨u1,u2_1,u2_2,rfl,h1,h2⟩:=hv;unfold mP at hw;unfold vJ at hn ⊢;go_enter Tryz.func42,Tryz.ntmps42;go_wp2_with fail;refine(fAi _ d.start k _ (balsR.below h1 qBq) (by omega) (by omega) (by omega)).mono ?_;rintro e w1 ⟨rfl,b1⟩;have x0:w1.cell? ⟨w.heap.size,0,none⟩=some (.int .i64 d.idx):=cK b1 (by simp[go_sem,yU]);have x1:w1.cell? ⟨w.heap.size,1,none⟩=some (u1):=cK b1 (by simp[go_sem,yU]);have x2:w1.cell? ⟨w.heap.size,2,none⟩=some (u2_1):=cK b1 (by simp[go_sem,yU]);have x3:w1.cell? ⟨w.heap.size,3,none⟩=some (u2_2):=cK b1 (by simp[go_sem,yU]);go_wp2_with fail;refine(fSr _ d.log (k+mE d.start) _ (loggR.below h2 qBq) (by omega) (by omega) (by omega)).mono ?_;rintro e w2 ⟨rfl,b2⟩;go_wp2;go_ret;refine⟨?_,qBq⟩;simp;try omega
end Go.Proofs.YtpibfdebfacooaaGreat

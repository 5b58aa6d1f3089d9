import Derived.Test.YtpibfdebfacooaaGreatRows
import Derived.WalkKit
import Derived.WalkSpells
import Derived.WalkLawsBesides
import Derived.ProofKit
import Derived.OpenShut
import Derived.Lib.SmallJoins
import Derived.Deep.RegionHeld3
import Derived.Deep.DrawnRows
import Derived.BigQuiet
import Derived.Deep.QuietTactic
set_option maxHeartbeats 2000000
set_option linter.all false
namespace Go.Proofs.YtpibfdebfacooaaGreat
abbrev dQ (α:Type):=DecidableEq α
abbrev iH (α:Type):=Inhabited α
open Go.ChangeShapes Go.WideShapes Go.ChangeAt Go.RowKit Go.Joins
theorem fCg {H:Type} {enc:TypeId × Value→H} {P:Program} (hl:laidOutB P=true) {W W':World} (hb:Below W.heap.size W W') :
  ∀{ts:List TypeId} {vs:List Value} {ds:List (DataW H)} {ps:List MemPlace},(∀t ∈ ts,P.readableRec t=true∧t<P.types.size) →
   DataW.TrodAll enc P W 0 (fun _=>true) true ts vs ds ps→DataW.TrodAll enc P W' 0 (fun b=>decide (b<W.heap.size)) true ts vs ds ps
 | [],[],[],_,_,h=>h
 | t::ts,v::vs,d::ds,ps,hr,h=>by
  have hlt:=DataW.TrodAll.lt h;obtain⟨p,q,h1,h2,rfl⟩:=h;refine⟨p,q,Below.trod hl (hr t (by simp)).1 (hr t (by simp)).2 h1 hb (fun x hx=>hlt x (by simp[hx])),fCg hl hb (fun u hu=>hr u (by simp[hu])) h2,rfl⟩
 | [],[],_::_,_,_,h=>h.elim
 | [],_::_,_,_,_,h=>h.elim
 | _::_,[],_,_,_,h=>h.elim
 | _::_,_::_,[],_,_,h=>h.elim
theorem fX0 {H:Type} {enc:TypeId × Value→H} {P:Program} {f:Func} {s:ChangeSpec} {W W':World} {args:Array Value} {ds gs:List (DataW H)} {before:List MemPlace} {tb:TypeId}
  (hW:DataW.Whole enc P f.params.toList s.vars false W args.toList ds gs before)
  (hl:laidOutB P=true) (hr:(f.params.toList.all fun t=>P.readableRec t&&decide (t<P.types.size))=true)
  (hvars:s.vars=[]) (hrt:f.resultTypes = #[tb]) (hb:P.underlying tb=some .bool) (hfn:gs=[]→s.fn H ds={results:=[.lit (.bool true)],args:=ds})
  (hB:Below W.heap.size W W'):s.post enc P f false true false false W args (.bool true) W':=by
 have d:=hW;obtain⟨p,q,j,g,rfl,k,l⟩:=hW;rw[hvars] at g;obtain⟨rfl,rfl⟩:=trodVars_none g;have e:∀t ∈ f.params.toList,P.readableRec t=true∧t<P.types.size:=by
  intro t ht;have:=List.all_eq_true.1 hr t ht;simpa using this
 refine⟨ds,[],_,[],p,[],d,?_,?_,?_,hB.frame _,fun h=>by cases h⟩
 ·rw[List.append_nil,hfn rfl,hrt];exact trodAll_mk1 (shut_bool hb true)
 ·rw[List.append_nil,hfn rfl];exact fCg hl hB e j
 rw[List.append_nil,hfn rfl,hvars];exact rfl
theorem jA {α:Type _} {xs:List α} {i:Nat} (h:i<xs.toArray.size):xs.toArray[i]=xs[i]:=List.getElem_toArray h
theorem jB {α:Type _} (a:α) (l:List α) (h:0<(a::l).length):(a::l)[0]=a:=List.getElem_cons_zero a l h
theorem jC {α:Type _} (a:α) (l:List α) (i:Nat) (h:i+1<(a::l).length):(a::l)[i+1]=l[i]'(Nat.lt_of_succ_lt_succ h):=List.getElem_cons_succ a l i h
theorem jD {α:Type _} (l:List α) (i:Nat) (a:α):l.toArray.setIfInBounds i a=(l.set i a).toArray:=List.setIfInBounds_toArray l i a
theorem jE {α:Type _} {x:α} {xs:List α} {a:α}:(x::xs).set 0 a=a::xs:=List.set_cons_zero
theorem jF {α:Type _} {x:α} {xs:List α} {i:Nat} {a:α}:(x::xs).set (i+1) a=x::xs.set i a:=List.set_cons_succ
theorem jX:(∀{α:Type} {xs:List α} {i:Nat} (h:i<xs.toArray.size),xs.toArray[i]=xs[i]'(by simpa using h))∧(∀{α:Type} (a:α) (l:List α) (h:0<(a::l).length),(a::l)[0]=a)∧(∀{α:Type} (a:α) (l:List α) (i:Nat) (h:i+1<(a::l).length),(a::l)[i+1]=l[i]'(Nat.lt_of_succ_lt_succ h))∧(∀{α:Type} (l:List α) (i:Nat) (a:α),l.toArray.setIfInBounds i a=(l.set i a).toArray)∧(∀{α:Type} {x:α} {xs:List α} {a:α},(x::xs).set 0 a=a::xs)∧(∀{α:Type} {x:α} {xs:List α} {i:Nat} {a:α},(x::xs).set (i+1) a=x::xs.set i a)∧(∀(a:Act) (i:Tmp) (v:Value),a.put (some i) v={a with tmps:=a.tmps.setIfInBounds i v})∧(∀(a:Act) (v:Value),a.put none v=a):=⟨fun h=>jA h,fun a l h=>jB a l h,fun a l i h=>jC a l i h,fun l i a=>jD l i a,jE,jF,fun _ _ _=>rfl,fun _ _=>rfl⟩
theorem lZ:(∀{α β:Type} (f:α→β) (a:α) (l:List α),(a::l).map f=f a::l.map f)∧(∀{α β:Type} (f:α→β),([]:List α).map f=[])∧(∀{α β:Type} (f:β→α→β) (b:β) (a:α) (l:List α),(a::l).foldl f b=l.foldl f (f b a))∧(∀{α β:Type} (f:β→α→β) (b:β),([]:List α).foldl f b=b):=⟨fun _ _ _=>rfl,fun _=>rfl,fun _ _ _ _=>rfl,fun _ _=>rfl⟩
theorem wL (w:World) (p:Addr) {v:Value} (h:w.cell? p=some v):p.block<w.heap.size:=World.block_lt_of_cell? w p h
theorem bR (n:Nat) (w:World):Below n w w:=Below.refl n w
theorem bD {n:Nat} {w w':World} (h:Below n w w'):Below n w w'.drew:=Below.drew h
theorem bcell {W w1:World} (hb:Below W.heap.size W w1):(∀b o,b<W.heap.size→w1.cell? ⟨b,o,none⟩=W.cell? ⟨b,o,none⟩)∧(∀b o,b<W.heap.size→w1.frozen? ⟨b,o,none⟩=W.frozen? ⟨b,o,none⟩):=
 ⟨fun b o h=>hb.cell (p:=⟨b,o,none⟩) h,fun b o h=>hb.frozen (p:=⟨b,o,none⟩) h⟩
theorem bS {w Y X:World} (h:Below w.heap.size w Y) (k:Below Y.heap.size Y X):Below w.heap.size w X:=h.trans (k.mono h.size)
theorem bA {w Y:World} (h:Below w.heap.size w Y) (o:Obj):Below w.heap.size w (Y.alloc o):=h.alloc h.size o
theorem fAw {w w':World} (h:Below w.heap.size w w'):w.grownBy w' none:=⟨h.os,h.tape,h.output,h.size,fun k d _=>h.block k d⟩
theorem fO {w w':World} {base e size:Nat} {v:Value} {n:Nat} {xs:List Value} (h:w.ownsRow base e size v n xs) (hb:Below w.heap.size w w'):w'.ownsRow base e size v n xs:=
 h.kept (fAw hb) (by cases d:v.ownBlock <;> simp)
theorem kL {w:World} {base e size g n cap:Nat} {xs:List Value} (h:w.ownsRow base e size (.slice (some ⟨g,0,none⟩) n cap) n xs) (j:Nat) (hj:j<n*size):∃u,w.cell? ⟨g,j,none⟩=some u:=by
 have h1:=h.cellAt j hj;have h2:=h.1;exact⟨xs[j]'(by omega),by rw[h1,List.getElem?_eq_getElem]⟩
theorem fD {w:World} {base e size:Nat} {v:Value} {n:Nat} {xs:List Value} (h:w.ownsRow base e size v n xs):∃a c,v =.slice a n c:=by
 rcases h.2 with ⟨rfl,rfl⟩|⟨g,cap,cur,rfl,_⟩
 ·exact⟨_,_,rfl⟩
 exact⟨_,_,rfl⟩
theorem bset {w Y:World} (h:Below w.heap.size w Y) {p:Addr} (hp:w.heap.size≤p.block) (u:Value):Below w.heap.size w (Y.setCell p u):=h.setCell hp u
theorem hE {n:Nat} {w w':World} (h:Below n w w':=by(repeat (first|exact bR _ _|assumption|refine bD ?_|refine bA ?_ _|refine bset ?_ (by simp;omega) _|refine bset ?_ (by simp) _|refine bS ?_ (by assumption)))):Below n w w':=h
theorem qI {w:World} {base base' e size:Nat} {v:Value} {n:Nat} {xs:List Value} (h:w.ownsRow base e size v n xs) (hb:base'≤base):w.ownsRow base' e size v n xs:=by
 refine⟨h.1,?_⟩;rcases h.2 with h2|⟨g,cap,cur,d,j,r⟩
 ·exact .inl h2
 exact .inr ⟨g,cap,cur,d,Nat.le_trans hb j,r⟩
theorem pK {w:World} {base e size:Nat} {v:Value} {n:Nat} {xs:List Value} (h:w.ownsRow base e size v n xs) {a:Addr} (ha:a.block<base) (u:Value):(w.setCell a u).ownsRow base e size v n xs:=
 ownsRow_setCell_below h ha u
theorem mY {w:World} {a:Addr} {v u:Value} (h:w.cell? a=some u):(w.setCell a v).cell? a=some v:=by
 first|exact World.cell?_setCell_same h|exact World.cell?_setCell_same _ h|exact World.cell?_setCell_same _ _ _ h
theorem fU {w:World} {a b:Addr} {v:Value} (h:a≠b):(w.setCell a v).cell? b=w.cell? b:=by
 first|exact World.cell?_setCell_other h|exact World.cell?_setCell_other _ h|exact World.cell?_setCell_other _ _ _ _ h
theorem cK {w w':World} {a:Addr} {v:Value} (hb:Below w.heap.size w w') (h:w.cell? a=some v):w'.cell? a=some v:=
 (hb.cell (World.block_lt_of_cell? w a h)).trans h
theorem oM {P:Prop} (h:P:=by omega):P:=h
theorem sG {P:Prop} (h:P:=by simp[go_sem]):P:=h
abbrev aa (w W:World):Prop:=Below w.heap.size w W
abbrev cW (w:World) (b o:Nat) (v:Value):Prop:=w.cell? ⟨b,o,none⟩=some v
abbrev cI (w:World) (b o:Nat) (n:Int):Prop:=w.cell? ⟨b,o,none⟩=some (.int .i64 n)
abbrev ah (w:World) (b o:Nat) (a:Option Addr) (n c:Nat):Prop:=w.cell? ⟨b,o,none⟩=some (.slice a n c)
abbrev cN (w:World) (b o:Nat):Prop:=w.cell? ⟨b,o,none⟩=some (.slice none 0 0)
theorem cQ {w w':World} {p:Addr} {v:Value} (e:w'=w) (h:w.cell? p=some v:=by simp[go_sem]):w'.cell? p=some v:=by rw[e];exact h
abbrev iV (n:Int):Value:=.int .i64 n
abbrev aj:Value:=.slice none 0 0
abbrev an (b:Nat):Value:=.pointer (some ⟨b,0,none⟩)
abbrev aq (w:World) (b:Nat):Prop:=∀o,w.frozen? ⟨b,o,none⟩=false
abbrev cL (f:FuncId) (a:Array Value) (w:World) (R:Ending→World→Prop):Prop:=Calls Tryz.prog f a w R
theorem kR3 {w w':World} {P:Prop} {p0 p1 p2:Addr} {v0 v1 v2:Value} (hb:Below w.heap.size w w') (g:w'.cell? p0=some v0→w'.cell? p1=some v1→w'.cell? p2=some v2→P) (h0:w.cell? p0=some v0) (h1:w.cell? p1=some v1) (h2:w.cell? p2=some v2):P:=g (cK hb h0) (cK hb h1) (cK hb h2)
theorem kR4 {w w':World} {P:Prop} {p0 p1 p2 p3:Addr} {v0 v1 v2 v3:Value} (hb:Below w.heap.size w w') (g:w'.cell? p0=some v0→w'.cell? p1=some v1→w'.cell? p2=some v2→w'.cell? p3=some v3→P) (h0:w.cell? p0=some v0) (h1:w.cell? p1=some v1) (h2:w.cell? p2=some v2) (h3:w.cell? p3=some v3):P:=g (cK hb h0) (cK hb h1) (cK hb h2) (cK hb h3)
theorem kR6 {w w':World} {P:Prop} {p0 p1 p2 p3 p4 p5:Addr} {v0 v1 v2 v3 v4 v5:Value} (hb:Below w.heap.size w w') (g:w'.cell? p0=some v0→w'.cell? p1=some v1→w'.cell? p2=some v2→w'.cell? p3=some v3→w'.cell? p4=some v4→w'.cell? p5=some v5→P) (h0:w.cell? p0=some v0) (h1:w.cell? p1=some v1) (h2:w.cell? p2=some v2) (h3:w.cell? p3=some v3) (h4:w.cell? p4=some v4) (h5:w.cell? p5=some v5):P:=g (cK hb h0) (cK hb h1) (cK hb h2) (cK hb h3) (cK hb h4) (cK hb h5)
theorem kR7 {w w':World} {P:Prop} {p0 p1 p2 p3 p4 p5 p6:Addr} {v0 v1 v2 v3 v4 v5 v6:Value} (hb:Below w.heap.size w w') (g:w'.cell? p0=some v0→w'.cell? p1=some v1→w'.cell? p2=some v2→w'.cell? p3=some v3→w'.cell? p4=some v4→w'.cell? p5=some v5→w'.cell? p6=some v6→P) (h0:w.cell? p0=some v0) (h1:w.cell? p1=some v1) (h2:w.cell? p2=some v2) (h3:w.cell? p3=some v3) (h4:w.cell? p4=some v4) (h5:w.cell? p5=some v5) (h6:w.cell? p6=some v6):P:=g (cK hb h0) (cK hb h1) (cK hb h2) (cK hb h3) (cK hb h4) (cK hb h5) (cK hb h6)
theorem kR8 {w w':World} {P:Prop} {p0 p1 p2 p3 p4 p5 p6 p7:Addr} {v0 v1 v2 v3 v4 v5 v6 v7:Value} (hb:Below w.heap.size w w') (g:w'.cell? p0=some v0→w'.cell? p1=some v1→w'.cell? p2=some v2→w'.cell? p3=some v3→w'.cell? p4=some v4→w'.cell? p5=some v5→w'.cell? p6=some v6→w'.cell? p7=some v7→P) (h0:w.cell? p0=some v0) (h1:w.cell? p1=some v1) (h2:w.cell? p2=some v2) (h3:w.cell? p3=some v3) (h4:w.cell? p4=some v4) (h5:w.cell? p5=some v5) (h6:w.cell? p6=some v6) (h7:w.cell? p7=some v7):P:=g (cK hb h0) (cK hb h1) (cK hb h2) (cK hb h3) (cK hb h4) (cK hb h5) (cK hb h6) (cK hb h7)
theorem kR11 {w w':World} {P:Prop} {p0 p1 p2 p3 p4 p5 p6 p7 p8 p9 p10:Addr} {v0 v1 v2 v3 v4 v5 v6 v7 v8 v9 v10:Value} (hb:Below w.heap.size w w') (g:w'.cell? p0=some v0→w'.cell? p1=some v1→w'.cell? p2=some v2→w'.cell? p3=some v3→w'.cell? p4=some v4→w'.cell? p5=some v5→w'.cell? p6=some v6→w'.cell? p7=some v7→w'.cell? p8=some v8→w'.cell? p9=some v9→w'.cell? p10=some v10→P) (h0:w.cell? p0=some v0) (h1:w.cell? p1=some v1) (h2:w.cell? p2=some v2) (h3:w.cell? p3=some v3) (h4:w.cell? p4=some v4) (h5:w.cell? p5=some v5) (h6:w.cell? p6=some v6) (h7:w.cell? p7=some v7) (h8:w.cell? p8=some v8) (h9:w.cell? p9=some v9) (h10:w.cell? p10=some v10):P:=g (cK hb h0) (cK hb h1) (cK hb h2) (cK hb h3) (cK hb h4) (cK hb h5) (cK hb h6) (cK hb h7) (cK hb h8) (cK hb h9) (cK hb h10)
theorem kR12 {w w':World} {P:Prop} {p0 p1 p2 p3 p4 p5 p6 p7 p8 p9 p10 p11:Addr} {v0 v1 v2 v3 v4 v5 v6 v7 v8 v9 v10 v11:Value} (hb:Below w.heap.size w w') (g:w'.cell? p0=some v0→w'.cell? p1=some v1→w'.cell? p2=some v2→w'.cell? p3=some v3→w'.cell? p4=some v4→w'.cell? p5=some v5→w'.cell? p6=some v6→w'.cell? p7=some v7→w'.cell? p8=some v8→w'.cell? p9=some v9→w'.cell? p10=some v10→w'.cell? p11=some v11→P) (h0:w.cell? p0=some v0) (h1:w.cell? p1=some v1) (h2:w.cell? p2=some v2) (h3:w.cell? p3=some v3) (h4:w.cell? p4=some v4) (h5:w.cell? p5=some v5) (h6:w.cell? p6=some v6) (h7:w.cell? p7=some v7) (h8:w.cell? p8=some v8) (h9:w.cell? p9=some v9) (h10:w.cell? p10=some v10) (h11:w.cell? p11=some v11):P:=g (cK hb h0) (cK hb h1) (cK hb h2) (cK hb h3) (cK hb h4) (cK hb h5) (cK hb h6) (cK hb h7) (cK hb h8) (cK hb h9) (cK hb h10) (cK hb h11)
theorem kR13 {w w':World} {P:Prop} {p0 p1 p2 p3 p4 p5 p6 p7 p8 p9 p10 p11 p12:Addr} {v0 v1 v2 v3 v4 v5 v6 v7 v8 v9 v10 v11 v12:Value} (hb:Below w.heap.size w w') (g:w'.cell? p0=some v0→w'.cell? p1=some v1→w'.cell? p2=some v2→w'.cell? p3=some v3→w'.cell? p4=some v4→w'.cell? p5=some v5→w'.cell? p6=some v6→w'.cell? p7=some v7→w'.cell? p8=some v8→w'.cell? p9=some v9→w'.cell? p10=some v10→w'.cell? p11=some v11→w'.cell? p12=some v12→P) (h0:w.cell? p0=some v0) (h1:w.cell? p1=some v1) (h2:w.cell? p2=some v2) (h3:w.cell? p3=some v3) (h4:w.cell? p4=some v4) (h5:w.cell? p5=some v5) (h6:w.cell? p6=some v6) (h7:w.cell? p7=some v7) (h8:w.cell? p8=some v8) (h9:w.cell? p9=some v9) (h10:w.cell? p10=some v10) (h11:w.cell? p11=some v11) (h12:w.cell? p12=some v12):P:=g (cK hb h0) (cK hb h1) (cK hb h2) (cK hb h3) (cK hb h4) (cK hb h5) (cK hb h6) (cK hb h7) (cK hb h8) (cK hb h9) (cK hb h10) (cK hb h11) (cK hb h12)
theorem kR14 {w w':World} {P:Prop} {p0 p1 p2 p3 p4 p5 p6 p7 p8 p9 p10 p11 p12 p13:Addr} {v0 v1 v2 v3 v4 v5 v6 v7 v8 v9 v10 v11 v12 v13:Value} (hb:Below w.heap.size w w') (g:w'.cell? p0=some v0→w'.cell? p1=some v1→w'.cell? p2=some v2→w'.cell? p3=some v3→w'.cell? p4=some v4→w'.cell? p5=some v5→w'.cell? p6=some v6→w'.cell? p7=some v7→w'.cell? p8=some v8→w'.cell? p9=some v9→w'.cell? p10=some v10→w'.cell? p11=some v11→w'.cell? p12=some v12→w'.cell? p13=some v13→P) (h0:w.cell? p0=some v0) (h1:w.cell? p1=some v1) (h2:w.cell? p2=some v2) (h3:w.cell? p3=some v3) (h4:w.cell? p4=some v4) (h5:w.cell? p5=some v5) (h6:w.cell? p6=some v6) (h7:w.cell? p7=some v7) (h8:w.cell? p8=some v8) (h9:w.cell? p9=some v9) (h10:w.cell? p10=some v10) (h11:w.cell? p11=some v11) (h12:w.cell? p12=some v12) (h13:w.cell? p13=some v13):P:=g (cK hb h0) (cK hb h1) (cK hb h2) (cK hb h3) (cK hb h4) (cK hb h5) (cK hb h6) (cK hb h7) (cK hb h8) (cK hb h9) (cK hb h10) (cK hb h11) (cK hb h12) (cK hb h13)
theorem kF {P:Prop} (h:P:=by kernel_rfl):P:=h
theorem mI {P:Prop} (h:P:=by simp[intOf];omega):P:=h
theorem nU {P:Prop} (h:P:=by go_num):P:=h
theorem qS {P:Prop} (h:P:=by(repeat (first|refine bset ?_ (by simp;omega) _|refine bset ?_ (by simp) _|refine bA ?_ _|assumption))):P:=h
theorem qT {P:Prop} (h:P:=by(repeat (first|exact bR _ _|assumption|refine bD ?_|refine bA ?_ _|refine bS ?_ (by assumption)))):P:=h
theorem bT (w:World) {Y X:World} (k:aa Y X) (h:aa w Y:=by(repeat (first|exact bR _ _|assumption|refine bD ?_|refine bA ?_ _|refine bset ?_ (by simp;omega) _|refine bset ?_ (by simp) _|refine bS ?_ (by assumption)))):aa w X:=bS h k
theorem kQ {w Y X:World} {p:Addr} {v:Value} (k:aa Y X) (y:w.cell? p=some v) (h:aa w Y:=by(repeat (first|exact bR _ _|assumption|refine bD ?_|refine bA ?_ _|refine bset ?_ (by simp;omega) _|refine bset ?_ (by simp) _|refine bS ?_ (by assumption)))):X.cell? p=some v:=cK k (cK h y)
theorem rH {P:Prop} (h:P:=by rw[HC.out];rfl):P:=h
abbrev bW (w:World) (f:World→Prop):Prop:=∀W,aa w W→f W
abbrev RI (f:FuncId) (xs:Array Value) (w:World) (v:Value):Prop:=Calls Tryz.prog f xs w fun e w'=>e =.returned v∧aa w w'
theorem kS2 {w w':World} {p0 p1:Addr} {v0 v1:Value} (hb:aa w w') (h:w.cell? p0=some v0∧w.cell? p1=some v1):w'.cell? p0=some v0∧w'.cell? p1=some v1:=⟨cK hb h.1,cK hb h.2⟩
theorem kS3 {w w':World} {p0 p1 p2:Addr} {v0 v1 v2:Value} (hb:aa w w') (h:w.cell? p0=some v0∧w.cell? p1=some v1∧w.cell? p2=some v2):w'.cell? p0=some v0∧w'.cell? p1=some v1∧w'.cell? p2=some v2:=⟨cK hb h.1,kS2 hb h.2⟩
theorem kS4 {w w':World} {p0 p1 p2 p3:Addr} {v0 v1 v2 v3:Value} (hb:aa w w') (h:w.cell? p0=some v0∧w.cell? p1=some v1∧w.cell? p2=some v2∧w.cell? p3=some v3):w'.cell? p0=some v0∧w'.cell? p1=some v1∧w'.cell? p2=some v2∧w'.cell? p3=some v3:=⟨cK hb h.1,kS3 hb h.2⟩
theorem kS5 {w w':World} {p0 p1 p2 p3 p4:Addr} {v0 v1 v2 v3 v4:Value} (hb:aa w w') (h:w.cell? p0=some v0∧w.cell? p1=some v1∧w.cell? p2=some v2∧w.cell? p3=some v3∧w.cell? p4=some v4):w'.cell? p0=some v0∧w'.cell? p1=some v1∧w'.cell? p2=some v2∧w'.cell? p3=some v3∧w'.cell? p4=some v4:=⟨cK hb h.1,kS4 hb h.2⟩
theorem kS6 {w w':World} {p0 p1 p2 p3 p4 p5:Addr} {v0 v1 v2 v3 v4 v5:Value} (hb:aa w w') (h:w.cell? p0=some v0∧w.cell? p1=some v1∧w.cell? p2=some v2∧w.cell? p3=some v3∧w.cell? p4=some v4∧w.cell? p5=some v5):w'.cell? p0=some v0∧w'.cell? p1=some v1∧w'.cell? p2=some v2∧w'.cell? p3=some v3∧w'.cell? p4=some v4∧w'.cell? p5=some v5:=⟨cK hb h.1,kS5 hb h.2⟩
theorem kS7 {w w':World} {p0 p1 p2 p3 p4 p5 p6:Addr} {v0 v1 v2 v3 v4 v5 v6:Value} (hb:aa w w') (h:w.cell? p0=some v0∧w.cell? p1=some v1∧w.cell? p2=some v2∧w.cell? p3=some v3∧w.cell? p4=some v4∧w.cell? p5=some v5∧w.cell? p6=some v6):w'.cell? p0=some v0∧w'.cell? p1=some v1∧w'.cell? p2=some v2∧w'.cell? p3=some v3∧w'.cell? p4=some v4∧w'.cell? p5=some v5∧w'.cell? p6=some v6:=⟨cK hb h.1,kS6 hb h.2⟩
theorem kS8 {w w':World} {p0 p1 p2 p3 p4 p5 p6 p7:Addr} {v0 v1 v2 v3 v4 v5 v6 v7:Value} (hb:aa w w') (h:w.cell? p0=some v0∧w.cell? p1=some v1∧w.cell? p2=some v2∧w.cell? p3=some v3∧w.cell? p4=some v4∧w.cell? p5=some v5∧w.cell? p6=some v6∧w.cell? p7=some v7):w'.cell? p0=some v0∧w'.cell? p1=some v1∧w'.cell? p2=some v2∧w'.cell? p3=some v3∧w'.cell? p4=some v4∧w'.cell? p5=some v5∧w'.cell? p6=some v6∧w'.cell? p7=some v7:=⟨cK hb h.1,kS7 hb h.2⟩
theorem kS9 {w w':World} {p0 p1 p2 p3 p4 p5 p6 p7 p8:Addr} {v0 v1 v2 v3 v4 v5 v6 v7 v8:Value} (hb:aa w w') (h:w.cell? p0=some v0∧w.cell? p1=some v1∧w.cell? p2=some v2∧w.cell? p3=some v3∧w.cell? p4=some v4∧w.cell? p5=some v5∧w.cell? p6=some v6∧w.cell? p7=some v7∧w.cell? p8=some v8):w'.cell? p0=some v0∧w'.cell? p1=some v1∧w'.cell? p2=some v2∧w'.cell? p3=some v3∧w'.cell? p4=some v4∧w'.cell? p5=some v5∧w'.cell? p6=some v6∧w'.cell? p7=some v7∧w'.cell? p8=some v8:=⟨cK hb h.1,kS8 hb h.2⟩
theorem kS10 {w w':World} {p0 p1 p2 p3 p4 p5 p6 p7 p8 p9:Addr} {v0 v1 v2 v3 v4 v5 v6 v7 v8 v9:Value} (hb:aa w w') (h:w.cell? p0=some v0∧w.cell? p1=some v1∧w.cell? p2=some v2∧w.cell? p3=some v3∧w.cell? p4=some v4∧w.cell? p5=some v5∧w.cell? p6=some v6∧w.cell? p7=some v7∧w.cell? p8=some v8∧w.cell? p9=some v9):w'.cell? p0=some v0∧w'.cell? p1=some v1∧w'.cell? p2=some v2∧w'.cell? p3=some v3∧w'.cell? p4=some v4∧w'.cell? p5=some v5∧w'.cell? p6=some v6∧w'.cell? p7=some v7∧w'.cell? p8=some v8∧w'.cell? p9=some v9:=⟨cK hb h.1,kS9 hb h.2⟩
theorem kS11 {w w':World} {p0 p1 p2 p3 p4 p5 p6 p7 p8 p9 p10:Addr} {v0 v1 v2 v3 v4 v5 v6 v7 v8 v9 v10:Value} (hb:aa w w') (h:w.cell? p0=some v0∧w.cell? p1=some v1∧w.cell? p2=some v2∧w.cell? p3=some v3∧w.cell? p4=some v4∧w.cell? p5=some v5∧w.cell? p6=some v6∧w.cell? p7=some v7∧w.cell? p8=some v8∧w.cell? p9=some v9∧w.cell? p10=some v10):w'.cell? p0=some v0∧w'.cell? p1=some v1∧w'.cell? p2=some v2∧w'.cell? p3=some v3∧w'.cell? p4=some v4∧w'.cell? p5=some v5∧w'.cell? p6=some v6∧w'.cell? p7=some v7∧w'.cell? p8=some v8∧w'.cell? p9=some v9∧w'.cell? p10=some v10:=⟨cK hb h.1,kS10 hb h.2⟩
theorem kS12 {w w':World} {p0 p1 p2 p3 p4 p5 p6 p7 p8 p9 p10 p11:Addr} {v0 v1 v2 v3 v4 v5 v6 v7 v8 v9 v10 v11:Value} (hb:aa w w') (h:w.cell? p0=some v0∧w.cell? p1=some v1∧w.cell? p2=some v2∧w.cell? p3=some v3∧w.cell? p4=some v4∧w.cell? p5=some v5∧w.cell? p6=some v6∧w.cell? p7=some v7∧w.cell? p8=some v8∧w.cell? p9=some v9∧w.cell? p10=some v10∧w.cell? p11=some v11):w'.cell? p0=some v0∧w'.cell? p1=some v1∧w'.cell? p2=some v2∧w'.cell? p3=some v3∧w'.cell? p4=some v4∧w'.cell? p5=some v5∧w'.cell? p6=some v6∧w'.cell? p7=some v7∧w'.cell? p8=some v8∧w'.cell? p9=some v9∧w'.cell? p10=some v10∧w'.cell? p11=some v11:=⟨cK hb h.1,kS11 hb h.2⟩
theorem kS13 {w w':World} {p0 p1 p2 p3 p4 p5 p6 p7 p8 p9 p10 p11 p12:Addr} {v0 v1 v2 v3 v4 v5 v6 v7 v8 v9 v10 v11 v12:Value} (hb:aa w w') (h:w.cell? p0=some v0∧w.cell? p1=some v1∧w.cell? p2=some v2∧w.cell? p3=some v3∧w.cell? p4=some v4∧w.cell? p5=some v5∧w.cell? p6=some v6∧w.cell? p7=some v7∧w.cell? p8=some v8∧w.cell? p9=some v9∧w.cell? p10=some v10∧w.cell? p11=some v11∧w.cell? p12=some v12):w'.cell? p0=some v0∧w'.cell? p1=some v1∧w'.cell? p2=some v2∧w'.cell? p3=some v3∧w'.cell? p4=some v4∧w'.cell? p5=some v5∧w'.cell? p6=some v6∧w'.cell? p7=some v7∧w'.cell? p8=some v8∧w'.cell? p9=some v9∧w'.cell? p10=some v10∧w'.cell? p11=some v11∧w'.cell? p12=some v12:=⟨cK hb h.1,kS12 hb h.2⟩
theorem fYp {w w':World} {a b:Addr} {u v:Value} (hb:aa w w') (h:w.cell? a=some u) (k:w.cell? b=some v):aa w w'∧w'.cell? a=some u∧w'.cell? b=some v:=
 ⟨hb,cK hb h,cK hb k⟩
def Own (lo hi:Nat) (v:Value):Prop:=∀b,v.ownBlock=some b→lo≤b∧b<hi
theorem fQo {w:World} {base e size:Nat} {v:Value} {n:Nat} {xs:List Value} (h:w.ownsRow base e size v n xs):Own base w.heap.size v:=fun b hb=>h.lt b hb
theorem fKd {lo hi c:Nat} {v:Value} (h:Own lo hi v) (hh:c<lo∨hi≤c):some c≠v.ownBlock:=fun e=>by
 have:=h c e.symm;omega
def rG (left n:Int):Int:=if left<n then -1 else left-n
theorem vI {w w1 w2:World} {r:Option Nat} (h:w.grownBy w1 r) (k:w1.grownBy w2 r):w.grownBy w2 r:=
 ⟨k.os.trans h.os,k.tape.trans h.tape,k.output.trans h.output,Nat.le_trans h.size k.size,fun i d e=>(k.block i (Nat.lt_of_lt_of_le d h.size) e).trans (h.block i d e)⟩
theorem own:ownKnob Tryz.prog.godebug=none:=by kernel_rfl
theorem laidOut:laidOutB Tryz.prog=true:=by kernel_rfl
end Go.Proofs.YtpibfdebfacooaaGreat
namespace Go.Proofs.YtpibfdebfacooaaGreat
open Go.RowKit
attribute [local go_sem ↓] Go.wp_at_zero Go.wp_at_succ
structure Bal where
 ac:Int
 ast:Int
 am:Int
variable [dQ Bal] [iH Bal]
def balV (x:Bal):Value:=.agg #[.int .i64 x.ac,.int .i64 x.ast,.int .i64 x.am]
theorem fKs (x:Bal) (w:World) :
  cL 62 #[balV x] w fun e w'=>e =.returned (balV x)∧aa w w':=by
 obtain⟨a,b,c⟩:=x;unfold balV;go_enter Tryz.func62,Tryz.ntmps62;go_wp2;exact bodyPost_ret (v:=.agg #[iV a,iV b,iV c]) (by simp[results,Tryz.results62,go_sem]) rfl ⟨rfl,bA (bA (bA (Below.refl _ _) _) _) _⟩
theorem fJj (x y:Bal) (w:World) :
  cL 64 #[balV x,balV y] w fun e w'=>e =.returned (.bool (decide (x=y)))∧aa w w':=by
 obtain⟨a,b,c⟩:=x;obtain⟨a',d,g⟩:=y;unfold balV;go_enter Tryz.func64,Tryz.ntmps64;go_wp2;all_goals
  go_ret;exact⟨by simp_all,bA (bA (Below.refl _ _) _) _⟩
def uX (w:World) (b o:Nat) (x:Bal):Prop:=w.cell? ⟨b,o,none⟩=some (.int .i64 x.ac)∧w.cell? ⟨b,o+1,none⟩=some (.int .i64 x.ast)∧w.cell? ⟨b,o+2,none⟩=some (.int .i64 x.am)
def fJc (w:World) (v:Value) (xs:List Bal):Prop:=
 ∃a cap,v =.slice a xs.length cap∧xs.length≤cap∧cap≤maxLen∧∀i,i<xs.length→∃b o,a=some ⟨b,o,none⟩∧uX w b (o+i*3) (xs.getD i default)
theorem kJ {w w':World} {b o:Nat} {x:Bal} (hb:aa w w') (h:uX w b o x):uX w' b o x:=by
 obtain⟨h0,h1,h2⟩:=h;exact⟨cK hb h0,cK hb h1,cK hb h2⟩
theorem fNc {w w':World} {v:Value} {xs:List Bal} (h:fJc w v xs) (hb:aa w w'):fJc w' v xs:=by
 obtain⟨a,cap,rfl,h1,h2,d⟩:=h;exact⟨a,cap,rfl,h1,h2,fun i e=>by
  obtain⟨b,o,ha,g⟩:=d i e;exact⟨b,o,ha,kJ hb g⟩⟩
theorem fPo {w w':World} {b o b' o':Nat} {x y:Bal} (hb:aa w w') (h:uX w b o x) (h':uX w b' o' y) :
  aa w w'∧(w'.cell? ⟨b,o,none⟩=some (iV x.ac)∧w'.cell? ⟨b,o+1,none⟩=some (iV x.ast)∧w'.cell? ⟨b,o+2,none⟩=some (iV x.am))∧(w'.cell? ⟨b',o',none⟩=some (iV y.ac)∧w'.cell? ⟨b',o'+1,none⟩=some (iV y.ast)∧w'.cell? ⟨b',o'+2,none⟩=some (iV y.am)):=
 ⟨hb,kJ hb h,kJ hb h'⟩
theorem fRf {xs ys:List Bal} (hl:ys.length=xs.length) (h:∀j,j<xs.length→xs.getD j default=ys.getD j default):xs=ys:=by
 apply List.ext_getElem (by omega);intro i h1 h2;have:=h i h1;simpa [List.getD,h1,h2] using this
theorem fG0 (x y:Value) (xs ys:List Bal) (w:World) (hx:fJc w x xs) (hy:fJc w y ys) :
  cL 31 #[x,y] w fun e w'=>e =.returned (.bool (decide (xs=ys)))∧aa w w':=by
 obtain⟨Y,Z,rfl,T,A,hx⟩:=hx;obtain⟨ay,cy,rfl,B,C,hy⟩:=hy;unfold maxLen at A C;by_cases z:ys.length=xs.length
 ·
  rw[z] at B hy ⊢;have U:Hid (ys.length=xs.length):=z;clear z;generalize J:xs.length=n at *;have K:Hid (xs.length=n):=J;clear J;go_enter Tryz.func31,Tryz.ntmps31;go_wp2;go_loopw [5] (fun i w'=>∃k:Nat,k≤n∧i =.int .i64 k∧(∀j,j<k→xs.getD j default=ys.getD j default)∧aa w w') (fun i _=>n-(intOf i).toNat)
  case atStart=>exact⟨0,Nat.zero_le _,rfl,fun j h=>absurd h (Nat.not_lt_zero _),Below.refl _ _⟩
  obtain⟨k,hk,rfl,d,D⟩:=hrel;have L:Hid (∀j,j<k→xs.getD j default=ys.getD j default):=d;clear d;by_cases s:k<n
  ·
   obtain⟨E,F,rfl,h1⟩:=hx k s;obtain⟨G,H,rfl,h2⟩:=hy k s;obtain⟨q,g⟩:∃l,l=xs.getD k default:=⟨_,rfl⟩
   obtain⟨r,m⟩:∃l,l=ys.getD k default:=⟨_,rfl⟩
   rw[←g] at h1;rw[←m] at h2;have M:Hid (q=xs.getD k default):=g;have N:Hid (r=ys.getD k default):=m;clear g m hx hy;go_wp2;go_region_held3 (fun w'=>aa w w'∧(cI w' E (F+k*3) q.ac∧cI w' E (F+k*3+1) q.ast∧cI w' E (F+k*3+2) q.am)∧(cI w' G (H+k*3) r.ac∧cI w' G (H+k*3+1) r.ast∧cI w' G (H+k*3+2) r.am)) ((refine fPo ?_ h1 h2;repeat (first|exact Below.refl _ _|assumption|refine Below.drew ?_|refine bA ?_ _|refine bS ?_ (by assumption)))) (first|(go_at_call 64;refine(fJj q r _).mono ?_;rintro e w' ⟨rfl,V⟩));rename_i O;have R:=O.1;clear O;go_wp2
   ·
    rename_i p;go_ret;refine⟨?_,R⟩;have:¬xs=ys:=fun h=>by
     have:q=r:=by rw[M.out,N.out,h]
     simp[this] at p
    simp[this]
   rename_i p;refine⟨⟨k+1,by omega,by go_num,fun j hj=>?_,R⟩,by simp[intOf];omega⟩;by_cases I:j<k
   ·exact L.out j I
   have:j=k:=by omega
   subst this;rw[←M.out,←N.out];simpa using p
  go_wp2;go_ret;have:k=n:=by omega
  subst this;refine⟨?_,D⟩;have:xs=ys:=fRf (by rw[U.out,K.out]) (by rw[K.out];exact L.out);simp[this]
 go_enter Tryz.func31,Tryz.ntmps31;have X:((xs.length:Int)==(ys.length:Int))=false:=by simp;omega
 go_wp2;go_ret;have:¬xs=ys:=fun h=>z (by rw[h])
 exact⟨by simp[this],Below.refl _ _⟩
def balC (x:Bal):List Value:=[.int .i64 x.ac,.int .i64 x.ast,.int .i64 x.am]
def mD (xs:List Bal):List Value:=xs.flatMap balC
theorem fBc:(Tryz.prog.info? 103).map (fun i=>(i.zero,i.size,i.bytes))=some (some (.agg #[iV 0,iV 0,iV 0]),3,24):=by kernel_rfl
theorem rD (xs:List Bal):(mD xs).length=xs.length*3:=by
 induction xs with
 | nil=>rfl
 | cons x r ih=>
  have e:mD (x::r)=balC x++mD r:=by simp[mD]
  have d:(balC x).length=3:=rfl;rw[e,List.length_append,d,ih,List.length_cons];omega
theorem fE7 (xs:List Bal):∀i,i<xs.length→(mD xs)[i*3]? = some (iV (xs.getD i default).ac)∧(mD xs)[i*3+1]? = some (iV (xs.getD i default).ast)∧(mD xs)[i*3+2]? = some (iV (xs.getD i default).am):=by
 induction xs with
 | nil=>intro i h;simp at h
 | cons x r ih=>
  intro i h;cases i with
  | zero=>simp[mD,balC]
  | succ i=>
   have:=ih i (by simpa using h);have e:mD (x::r)=balC x++mD r:=by simp[mD]
   have d:(balC x).length=3:=rfl;rw[e];refine⟨?_,?_,?_⟩;all_goals rw[List.getElem?_append_right (by omega),d]
   ·rw[show(i+1)*3-3=i*3 by omega];simpa using this.1
   ·rw[show(i+1)*3+1-3=i*3+1 by omega];simpa using this.2.1
   rw[show(i+1)*3+2-3=i*3+2 by omega];simpa using this.2.2
theorem fJd {w:World} {base e:Nat} {v:Value} {xs:List Bal} (h:w.ownsRow base e 3 v xs.length (mD xs)):fJc w v xs:=by
 rcases h.2 with ⟨rfl,m⟩|⟨g,cap,cur,rfl,hb,p,d,j,n,k⟩
 ·exact⟨none,0,by rw[m],by omega,by unfold maxLen;omega,fun i l=>by omega⟩
 refine⟨some ⟨g,0,none⟩,cap,rfl,d,j,fun i l=>⟨g,0,rfl,?_⟩⟩;obtain⟨h0,h1,h2⟩:=fE7 xs i l;simp only[Nat.zero_add,uX];exact⟨(h.cellAt _ (by omega)).trans h0,(h.cellAt _ (by omega)).trans h1,(h.cellAt _ (by omega)).trans h2⟩
def fA3 (k:Nat) (cs:List Value) (xs:List Bal):Prop:=∀j,j<k*3→cs[j]? = (mD xs)[j]?
theorem fDj {n:Nat} {cs:List Value} {xs:List Bal} (h:fA3 n cs xs) (hl:cs.length=n*3) (hn:xs.length=n):cs=mD xs:=by
 apply List.ext_getElem?;intro j;by_cases d:j<n*3
 ·exact h j d
 rw[List.getElem?_eq_none (by omega),List.getElem?_eq_none (by rw[rD];omega)]
theorem fEp {k:Nat} {cs:List Value} {xs:List Bal} {x:Bal} (h:fA3 k cs xs) (hk:k<xs.length) (hl:cs.length=xs.length*3) (he:x=xs.getD k default) :
  fA3 (k+1) (((cs.set (k*3) (iV x.ac)).set (k*3+1) (iV x.ast)).set (k*3+2) (iV x.am)) xs:=by
 intro j l;obtain⟨h0,h1,h2⟩:=fE7 xs k hk;subst he;simp only[List.getElem?_set,List.length_set];by_cases d:k*3+2=j
 ·subst d;simp[h2];omega
 by_cases e:k*3+1=j
 ·subst e;simp[h1];omega
 by_cases g:k*3=j
 ·subst g;simp[h0];omega
 simp[g,e,d];exact h j (by omega)
theorem fHk (x:Value) (xs:List Bal) (w:World) (hx:fJc w x xs) (hn:xs.length≤1048576) :
  cL 29 #[x] w fun e w'=>∃v,e =.returned v∧w'.ownsRow w.heap.size 103 3 v xs.length (mD xs)∧aa w w':=by
 obtain⟨V,X,rfl,K,A,hx⟩:=hx;unfold maxLen at A;obtain⟨L,M,B,C,D⟩:=info_parts fBc;obtain⟨N,E,g,q⟩:=run_make_full (P:=Tryz.prog) w w.heap.size 30 103 L _ 3 Tryz.underlying30 M B C .i64 .i64 xs.length (by rw[D];omega) (by unfold maxLen;omega) (Nat.le_refl _);have m:aa w N:=(Below.refl _ _).grown q (Nat.le_refl _) (fun k h=>by cases h);generalize r:xs.length=n at *;have F:Hid (xs.length=n):=r;clear r;go_enter Tryz.func29,Tryz.ntmps29;go_wp2;go_loopw [4] (fun i w'=>∃(k:Nat) (cs:List Value),k≤n∧i =.int .i64 k∧w'.ownsRow w.heap.size 103 3 (.slice (some ⟨w.heap.size,0,none⟩) n n) n cs∧fA3 k cs xs∧aa w w') (fun i _=>n-(intOf i).toNat)
 case atStart=>exact⟨0,_,Nat.zero_le _,rfl,g,fun j h=>by omega,m⟩
 obtain⟨k,cs,Y,rfl,z,s,p⟩:=hrel;have J:Hid (fA3 k cs xs):=s;clear s g E q m;by_cases G:k<n
 ·
  obtain⟨Z,ox,rfl,h1⟩:=hx k G;obtain⟨l,H⟩:∃l,l=xs.getD k default:=⟨_,rfl⟩
  rw[←H] at h1;have O:Hid (l=xs.getD k default):=H;clear H hx;obtain⟨a0,a1,a2⟩:=kJ p h1;go_wp2_with fail;refine(fKs l _).mono ?_;rintro e wa ⟨rfl,y⟩;have d:=fO z y;obtain⟨u0,g0⟩:=kL d (k*3) (by omega);obtain⟨u1,g1⟩:=kL d (k*3+1) (by omega);obtain⟨u2,g2⟩:=kL d (k*3+2) (by omega);have hf:=fun j=>d.frozenAt j
  simp only[balV];go_wp2;have R:=d.stored (k*3) (iV l.ac);have T:=R.1.stored (k*3+1) (iV l.ast);have U:=T.1.stored (k*3+2) (iV l.am);refine⟨⟨k+1,_,by omega,by go_num,U.1,fEp J.out (by have:=F.out;omega) (by have:=F.out;have:=z.1;omega) O.out,?_⟩,by simp[intOf];omega⟩;exact(((bS p y).setCell (Nat.le_refl _) _).setCell (Nat.le_refl _) _).setCell (Nat.le_refl _) _
 go_wp2;go_ret;have I:k=n:=by omega
 subst I;have e:=fDj J.out z.1 F.out;subst e;exact⟨_,rfl,z,p⟩
def fJf (k:Int) (i:Nat):Bal:=⟨k+3*i,k+3*i+1,k+3*i+1+1⟩
def uY (k:Int) (n:Nat):List Bal:=(List.range n).map (fJf k)
theorem qF (k:Int) (n:Nat):(uY k n).length=n:=by simp[uY]
theorem fBs (k:Int) (n i:Nat) (h:i<n):(uY k n).getD i default=fJf k i:=by simp[uY,List.getD,h]
theorem fD5 (v:Value) (n:Nat) (cs:List Value) (base e:Nat) (k:Int) (w:World) (ho:w.ownsRow base e 3 v n cs) (hn:n≤1048576) (hk0:0≤k) (hk1:k≤1073741824) :
  cL 39 #[v,iV k] w fun r w'=>r =.returned (iV (k+3*n))∧w'.ownsRow base e 3 v n (mD (uY k n))∧w.grownBy w' v.ownBlock:=by
 rcases ho.2 with ⟨rfl,rfl⟩|⟨g,cap,cur,rfl,hb,E,F,y,_,_⟩
 ·
  go_enter Tryz.func39,Tryz.ntmps39;go_wp2;go_loopw [1,5] (fun q i w'=>q =.int .i64 k∧i =.int .i64 0∧w'=w) (fun _ _ _=>0)
  case atStart=>exact⟨rfl,rfl,rfl⟩
  obtain⟨rfl,rfl,rfl⟩:=hrel;go_wp2;go_ret;exact⟨by simp,World.ownsRow_nil _ _ _ _,⟨rfl,rfl,rfl,Nat.le_refl _,fun _ _ _=>rfl⟩⟩
 unfold maxLen at y;go_enter Tryz.func39,Tryz.ntmps39;go_wp2;go_loopw [1,5] (fun q i w'=>∃(j:Nat) (l:List Value),j≤n∧i =.int .i64 j∧q =.int .i64 (k+3*j)∧w'.ownsRow base e 3 (.slice (some ⟨g,0,none⟩) n cap) n l∧fA3 j l (uY k n)∧w.grownBy w' (some g)) (fun _ i _=>n-(intOf i).toNat)
 case atStart=>exact⟨0,cs,Nat.zero_le _,rfl,by simp,ho,fun j h=>by omega,⟨rfl,rfl,rfl,Nat.le_refl _,fun _ _ _=>rfl⟩⟩
 obtain⟨j,l,H,rfl,rfl,d,m,p⟩:=hrel;have A:Hid (fA3 j l (uY k n)):=m;clear m ho E;by_cases s:j<n
 ·
  obtain⟨u0,I⟩:=kL d (j*3) (by omega);obtain⟨u1,J⟩:=kL d (j*3+1) (by omega);obtain⟨u2,K⟩:=kL d (j*3+2) (by omega);have L:=fun j=>d.frozenAt j
  go_wp2;have B:=d.stored (j*3) (iV (k+3*j));have C:=B.1.stored (j*3+1) (iV (k+3*j+1));have D:=C.1.stored (j*3+2) (iV (k+3*j+1+1));refine⟨⟨j+1,_,by omega,by go_num,?_,D.1,fEp (x:=fJf k j) A.out (by rw[qF];exact s) (by rw[qF];exact d.1) (fBs k n j s).symm,vI (vI (vI (p) B.2) C.2) D.2⟩,by simp[intOf];omega⟩;congr 1;omega
 go_wp2;go_ret;have z:j=n:=by omega
 subst z;have G:=fDj A.out d.1 (qF k j);rw[G] at d;exact⟨rfl,d,p⟩
theorem fD2 (v:Value) (n:Nat) (k:Int) (w:World) (hv:fJc w v (uY k n)) (hn:n≤1048576) (hk0:0≤k) (hk1:k≤1073741824) :
  cL 80 #[v,iV k] w fun r w'=>r =.returned (iV (k+3*n))∧w'=w:=by
 obtain⟨a,cap,rfl,e,g,l⟩:=hv;rw[qF] at e l ⊢;unfold maxLen at g;go_enter Tryz.func80,Tryz.ntmps80;go_wp2;go_loopw [1,5] (fun q i w'=>∃j:Nat,j≤n∧i =.int .i64 j∧q =.int .i64 (k+3*j)∧w'=w) (fun _ i _=>n-(intOf i).toNat)
 case atStart=>exact⟨0,Nat.zero_le _,rfl,by simp,rfl⟩
 obtain⟨j,y,rfl,rfl,rfl⟩:=hrel;by_cases d:j<n
 ·obtain⟨b,o,rfl,h1⟩:=l j d;rw[fBs k n j d] at h1;obtain⟨p,s,x⟩:=h1;simp only[fJf] at p s x;clear l;go_wp2;refine⟨⟨j+1,by omega,by go_num,?_,trivial⟩,by simp[intOf];omega⟩;congr 1;omega
 go_wp2;go_ret;have m:j=n:=by omega
 subst m;exact⟨rfl,rfl⟩
theorem fHj (x:Value) (xs:List Bal) (left:Int) (w:World) (hx:fJc w x xs) (h0:0≤left) (h1:left≤1048576) :
  cL 26 #[x,iV left] w fun e w'=>e =.returned (iV (rG left xs.length))∧w'=w:=by
 obtain⟨k,l,rfl,g,d,hx⟩:=hx;unfold maxLen at d;generalize xs.length=n at *;clear hx;by_cases h:left<n
 ·
  have j:left-(n:Int)<0:=by omega
  go_enter Tryz.func26,Tryz.ntmps26;go_wp2;go_ret;exact⟨by simp only[rG,if_pos h];rfl,rfl⟩
 have j:¬left-(n:Int)<0:=by omega
 go_enter Tryz.func26,Tryz.ntmps26;go_wp2;go_ret;exact⟨by rw[rG,if_neg (by omega)];rfl,rfl⟩
end Go.Proofs.YtpibfdebfacooaaGreat
namespace Go.Proofs.YtpibfdebfacooaaGreat
open Go.RowKit
structure Mod (F:Nat→Prop) (w w':World):Prop where
 os:w'.os=w.os
 tape:w'.tape=w.tape
 output:w'.output=w.output
 size:w.heap.size≤w'.heap.size
 block:∀k,k<w.heap.size→¬F k→w'.heap[k]? = w.heap[k]?
theorem Mod.refl (F:Nat→Prop) (w:World):Mod F w w:=⟨rfl,rfl,rfl,Nat.le_refl _,fun _ _ _=>rfl⟩
theorem Mod.trans {F:Nat→Prop} {w w1 w2:World} (h:Mod F w w1) (k:Mod F w1 w2):Mod F w w2:=
 ⟨k.os.trans h.os,k.tape.trans h.tape,k.output.trans h.output,Nat.le_trans h.size k.size,fun i d e=>(k.block i (Nat.lt_of_lt_of_le d h.size) e).trans (h.block i d e)⟩
theorem Mod.mono {F G:Nat→Prop} {w w':World} (h:Mod F w w') (hs:∀b,F b→G b):Mod G w w':=
 ⟨h.os,h.tape,h.output,h.size,fun i d e=>h.block i d (fun g=>e (hs i g))⟩
theorem Mod.of_grown {w w':World} {row:Option Nat} (h:w.grownBy w' row):Mod (fun b=>row=some b) w w':=
 ⟨h.os,h.tape,h.output,h.size,fun i d g=>h.block i d (fun e=>g e.symm)⟩
theorem Mod.of_below {F:Nat→Prop} {w w':World} (h:aa w w'):Mod F w w':=
 ⟨h.os,h.tape,h.output,h.size,fun i d _=>h.block i d⟩
theorem Mod.alloc {F:Nat→Prop} {w w':World} (h:Mod F w w') (o:Obj):Mod F w (w'.alloc o):=
 h.trans (Mod.of_below ((Below.refl _ _).alloc (Nat.le_refl _) o))
theorem Mod.below {F:Nat→Prop} {w0 w w':World} {B:Nat} (hb:Below B w0 w) (h:Mod F w w') (hs:B≤w.heap.size) (hF:∀b,F b→B≤b):Below B w0 w':=
 ⟨h.os.trans hb.os,h.tape.trans hb.tape,h.output.trans hb.output,Nat.le_trans hb.size h.size,fun k d=>(h.block k (Nat.lt_of_lt_of_le d hs) (fun e=>by have:=hF k e;omega)).trans (hb.block k d)⟩
theorem Mod.cell {F:Nat→Prop} {w w':World} (h:Mod F w w') {a:Addr} {v:Value} (hc:w.cell? a=some v) (hn:¬F a.block):w'.cell? a=some v:=
 (World.cell?_of_block (w:=w) (h.block a.block (World.block_lt_of_cell? w a hc) hn)).trans hc
theorem Mod.owns {F:Nat→Prop} {w w':World} {base e size:Nat} {v:Value} {n:Nat} {xs:List Value} (h:Mod F w w') (ho:w.ownsRow base e size v n xs) (hn:∀b,v.ownBlock=some b→¬F b):w'.ownsRow base e size v n xs:=by
 refine⟨ho.1,?_⟩;rcases ho.2 with h2|⟨g,cap,cur,rfl,k,d,r⟩
 ·exact .inl h2
 refine .inr ⟨g,cap,cur,rfl,k,?_,r⟩;have j:g<w.heap.size:=by
  rcases Nat.lt_or_ge g w.heap.size with h|h
  ·exact h
  rw[Array.getElem?_eq_none h] at d;cases d
 exact(h.block g j (hn g rfl)).trans d
structure Rep (α:Type) where
 V:World→Value→α→Prop
 O:World→Nat→(Nat→Prop)→Value→α→Prop
 below:∀{w w' v x},V w v x→aa w w'→V w' v x
 ofO:∀{w base F v x},O w base F v x→V w v x
 mod:∀{w w' base F G v x},O w base F v x→Mod G w w'→(∀b,F b→¬G b)→O w' base F v x
 rng:∀{w base F v x},O w base F v x→∀b,F b→base≤b∧b<w.heap.size
 base:∀{w base base' F v x},O w base F v x→base'≤base→O w base' F v x
theorem ai {w w':World} {b:Nat} (hb:Below w.heap.size w w') (h:b<w.heap.size) (f:∀o,w.frozen? ⟨b,o,none⟩=false) (o:Nat):w'.frozen? ⟨b,o,none⟩=false:=by rw[(bcell hb).2 _ _ h];exact f o
theorem nI {α:Type} (R:Rep α) {w:World} {base:Nat} {F:Nat→Prop} {v:Value} {x:α} (h:R.O w base F v x) {b:Nat} (l:b<base∨w.heap.size≤b:=by (dsimp only;omega)):¬F b:=fun d=>by have:=R.rng h _ d;omega
theorem nJ {F:Nat→Prop} {m n b:Nat} (h:∀b,F b→m≤b∧b<n) (l:b<m∨n≤b:=by (dsimp only;omega)):¬F b:=fun d=>by have:=h _ d;omega
theorem ap {w w':World} {b:Nat} (hb:Below w.heap.size w w') (l:b<w.heap.size:=by (simp;try omega)) (f:∀o,w.frozen? ⟨b,o,none⟩=false:=by (intro o;simp[go_sem])) (o:Nat):w'.frozen? ⟨b,o,none⟩=false:=by rw[(bcell hb).2 _ _ l];exact f o
theorem kM3 {F:Nat→Prop} {w w':World} {P:Prop} {b:Nat} {o0 o1 o2:Nat} {v0 v1 v2:Value} (m:Mod F w w') (hn:¬F b) (g:w'.cell? ⟨b,o0,none⟩=some v0→w'.cell? ⟨b,o1,none⟩=some v1→w'.cell? ⟨b,o2,none⟩=some v2→P) (h0:w.cell? ⟨b,o0,none⟩=some v0) (h1:w.cell? ⟨b,o1,none⟩=some v1) (h2:w.cell? ⟨b,o2,none⟩=some v2):P:=g (m.cell h0 hn) (m.cell h1 hn) (m.cell h2 hn)
theorem kM6 {F:Nat→Prop} {w w':World} {P:Prop} {b:Nat} {o0 o1 o2 o3 o4 o5:Nat} {v0 v1 v2 v3 v4 v5:Value} (m:Mod F w w') (hn:¬F b) (g:w'.cell? ⟨b,o0,none⟩=some v0→w'.cell? ⟨b,o1,none⟩=some v1→w'.cell? ⟨b,o2,none⟩=some v2→w'.cell? ⟨b,o3,none⟩=some v3→w'.cell? ⟨b,o4,none⟩=some v4→w'.cell? ⟨b,o5,none⟩=some v5→P) (h0:w.cell? ⟨b,o0,none⟩=some v0) (h1:w.cell? ⟨b,o1,none⟩=some v1) (h2:w.cell? ⟨b,o2,none⟩=some v2) (h3:w.cell? ⟨b,o3,none⟩=some v3) (h4:w.cell? ⟨b,o4,none⟩=some v4) (h5:w.cell? ⟨b,o5,none⟩=some v5):P:=g (m.cell h0 hn) (m.cell h1 hn) (m.cell h2 hn) (m.cell h3 hn) (m.cell h4 hn) (m.cell h5 hn)
theorem kM8 {F:Nat→Prop} {w w':World} {P:Prop} {b:Nat} {o0 o1 o2 o3 o4 o5 o6 o7:Nat} {v0 v1 v2 v3 v4 v5 v6 v7:Value} (m:Mod F w w') (hn:¬F b) (g:w'.cell? ⟨b,o0,none⟩=some v0→w'.cell? ⟨b,o1,none⟩=some v1→w'.cell? ⟨b,o2,none⟩=some v2→w'.cell? ⟨b,o3,none⟩=some v3→w'.cell? ⟨b,o4,none⟩=some v4→w'.cell? ⟨b,o5,none⟩=some v5→w'.cell? ⟨b,o6,none⟩=some v6→w'.cell? ⟨b,o7,none⟩=some v7→P) (h0:w.cell? ⟨b,o0,none⟩=some v0) (h1:w.cell? ⟨b,o1,none⟩=some v1) (h2:w.cell? ⟨b,o2,none⟩=some v2) (h3:w.cell? ⟨b,o3,none⟩=some v3) (h4:w.cell? ⟨b,o4,none⟩=some v4) (h5:w.cell? ⟨b,o5,none⟩=some v5) (h6:w.cell? ⟨b,o6,none⟩=some v6) (h7:w.cell? ⟨b,o7,none⟩=some v7):P:=g (m.cell h0 hn) (m.cell h1 hn) (m.cell h2 hn) (m.cell h3 hn) (m.cell h4 hn) (m.cell h5 hn) (m.cell h6 hn) (m.cell h7 hn)
theorem kM11 {F:Nat→Prop} {w w':World} {P:Prop} {b:Nat} {o0 o1 o2 o3 o4 o5 o6 o7 o8 o9 o10:Nat} {v0 v1 v2 v3 v4 v5 v6 v7 v8 v9 v10:Value} (m:Mod F w w') (hn:¬F b) (g:w'.cell? ⟨b,o0,none⟩=some v0→w'.cell? ⟨b,o1,none⟩=some v1→w'.cell? ⟨b,o2,none⟩=some v2→w'.cell? ⟨b,o3,none⟩=some v3→w'.cell? ⟨b,o4,none⟩=some v4→w'.cell? ⟨b,o5,none⟩=some v5→w'.cell? ⟨b,o6,none⟩=some v6→w'.cell? ⟨b,o7,none⟩=some v7→w'.cell? ⟨b,o8,none⟩=some v8→w'.cell? ⟨b,o9,none⟩=some v9→w'.cell? ⟨b,o10,none⟩=some v10→P) (h0:w.cell? ⟨b,o0,none⟩=some v0) (h1:w.cell? ⟨b,o1,none⟩=some v1) (h2:w.cell? ⟨b,o2,none⟩=some v2) (h3:w.cell? ⟨b,o3,none⟩=some v3) (h4:w.cell? ⟨b,o4,none⟩=some v4) (h5:w.cell? ⟨b,o5,none⟩=some v5) (h6:w.cell? ⟨b,o6,none⟩=some v6) (h7:w.cell? ⟨b,o7,none⟩=some v7) (h8:w.cell? ⟨b,o8,none⟩=some v8) (h9:w.cell? ⟨b,o9,none⟩=some v9) (h10:w.cell? ⟨b,o10,none⟩=some v10):P:=g (m.cell h0 hn) (m.cell h1 hn) (m.cell h2 hn) (m.cell h3 hn) (m.cell h4 hn) (m.cell h5 hn) (m.cell h6 hn) (m.cell h7 hn) (m.cell h8 hn) (m.cell h9 hn) (m.cell h10 hn)
theorem Rep.keep {α:Type} (R:Rep α) {w w':World} {base:Nat} {F:Nat→Prop} {v:Value} {x:α} (h:R.O w base F v x) (hb:aa w w'):R.O w' base F v x:=
 R.mod (G:=fun _=>False) h (Mod.of_below hb) (fun _ _ h=>h)
theorem Rep.keep2 {α:Type} (R:Rep α) {w Y w':World} {base:Nat} {F:Nat→Prop} {v:Value} {x:α} (h:R.O w base F v x) (h1:aa w Y) (h2:aa Y w'):R.O w' base F v x:=R.keep (R.keep h h1) h2
def none_:Nat→Prop:=fun _=>False
def fRep {α:Type} (e size:Nat) (C:List α→List Value) (V:World→Value→List α→Prop)
  (hb:∀{w w' v xs},V w v xs→aa w w'→V w' v xs) (ho:∀{w base v xs},w.ownsRow base e size v xs.length (C xs)→V w v xs):Rep (List α) where
 V:=V
 O:=fun w base F v xs=>w.ownsRow base e size v xs.length (C xs)∧F=(fun b=>v.ownBlock=some b)
 below:=hb
 ofO:=fun h=>ho h.1
 mod:=fun h hm hd=>⟨hm.owns h.1 (fun b hb=>hd b (by rw[h.2];exact hb)),h.2⟩
 rng:=fun h b hb=>by rw[h.2] at hb;exact h.1.lt b hb
 base:=fun h hb=>⟨qI h.1 hb,h.2⟩
structure PO {α:Type} (R:Rep α) (e size:Nat) (lv:Value→List Value) (w:World) (base:Nat) (v:Value) (n k:Nat) (d:Nat→α) (cs:List Value) (us:Nat→Value) (fs:Nat→Nat→Prop):Prop where
 row:w.ownsRow base e size v n cs
 el:∀i,i<k→R.O w base (fs i) (us i) (d i)
 ln:∀i,i<k→(lv (us i)).length=size
 cell:∀i,i<k→∀j,j<size→cs[i*size+j]? = (lv (us i))[j]?
 out:∀i,i<k→∀b,fs i b→v.ownBlock≠some b
 sep:∀i j,i<k→j<k→i≠j→∀b,fs i b→¬fs j b
theorem PO.mod {α:Type} {R:Rep α} {e size:Nat} {lv:Value→List Value} {w w':World} {base:Nat} {v:Value} {n k:Nat} {d:Nat→α} {cs:List Value} {us:Nat→Value} {fs:Nat→Nat→Prop} {G:Nat→Prop}
  (h:PO R e size lv w base v n k d cs us fs) (hm:Mod G w w') (h1:∀b,v.ownBlock=some b→¬G b) (h2:∀i,i<k→∀b,fs i b→¬G b):PO R e size lv w' base v n k d cs us fs:=
 ⟨hm.owns h.row h1,fun i g=>R.mod (h.el i g) hm (h2 i g),h.ln,h.cell,h.out,h.sep⟩
theorem PO.keep {α:Type} {R:Rep α} {e size:Nat} {lv:Value→List Value} {w w':World} {base:Nat} {v:Value} {n k:Nat} {d:Nat→α} {cs:List Value} {us:Nat→Value} {fs:Nat→Nat→Prop}
  (h:PO R e size lv w base v n k d cs us fs) (hb:aa w w'):PO R e size lv w' base v n k d cs us fs:=
 h.mod (G:=fun _=>False) (Mod.of_below hb) (fun _ _ h=>h) (fun _ _ _ _ h=>h)
theorem PO.cast {α:Type} {R:Rep α} {e size:Nat} {lv:Value→List Value} {w:World} {base:Nat} {v:Value} {n k:Nat} {d d':Nat→α} {cs:List Value} {us:Nat→Value} {fs:Nat→Nat→Prop}
  (h:PO R e size lv w base v n k d cs us fs) (hd:∀i,i<k→d' i=d i):PO R e size lv w base v n k d' cs us fs:=
 ⟨h.row,fun i g=>by rw[hd i g];exact h.el i g,h.ln,h.cell,h.out,h.sep⟩
def upd {β:Type} (f:Nat→β) (k:Nat) (x:β):Nat→β:=fun i=>if i=k then x else f i
theorem gY {β:Type} (f:Nat→β) (k:Nat) (x:β):upd f k x k=x:=by simp[upd]
theorem upd_ne {β:Type} (f:Nat→β) {k i:Nat} (x:β) (h:i≠k):upd f k x i=f i:=by simp[upd,h]
theorem PO.push {α:Type} {R:Rep α} {e size:Nat} {lv:Value→List Value} {w w1 w2:World} {base:Nat} {v:Value} {n k:Nat} {d:Nat→α} {cs cs':List Value} {us:Nat→Value} {fs:Nat→Nat→Prop} {u:Value} {F:Nat→Prop}
  (h:PO R e size lv w base v n k d cs us fs) (hbs:base≤w.heap.size) (hb:aa w w1) (hu:R.O w1 w.heap.size F u (d k)) (hl:(lv u).length=size)
  (hr:w2.ownsRow base e size v n cs') (hm:Mod (fun b=>v.ownBlock=some b) w1 w2)
  (hold:∀i,i<k→∀j,j<size→cs'[i*size+j]? = cs[i*size+j]?) (hnew:∀j,j<size→cs'[k*size+j]? = (lv u)[j]?) :
  PO R e size lv w2 base v n (k+1) d cs' (upd us k u) (upd fs k F):=by
 have m:∀b,v.ownBlock=some b→b<w.heap.size:=fun b hb=>(h.row.lt b hb).2
 have s:∀b,F b→w.heap.size≤b:=fun b hb=>(R.rng hu b hb).1
 have p:∀i,i<k→∀b,fs i b→b<w.heap.size:=fun i l b hb=>(R.rng (h.el i l) b hb).2
 refine⟨hr,?_,?_,?_,?_,?_⟩
 ·
  intro i l;by_cases g:i=k
  ·subst g;rw[gY,gY];exact R.base (R.mod hu hm (fun b hb he=>by have:=m b he;have:=s b hb;omega)) hbs
  rw[upd_ne _ _ g,upd_ne _ _ g];exact R.mod (R.keep (h.el i (by omega)) hb) hm (fun b hb=>h.out i (by omega) b hb)
 ·
  intro i l;by_cases g:i=k
  ·subst g;rw[gY];exact hl
  rw[upd_ne _ _ g];exact h.ln i (by omega)
 ·
  intro i l j x;by_cases g:i=k
  ·subst g;rw[gY];exact hnew j x
  rw[upd_ne _ _ g,hold i (by omega) j x];exact h.cell i (by omega) j x
 ·
  intro i l b hb he;by_cases g:i=k
  ·subst g;rw[gY] at hb;have:=m b he;have:=s b hb;omega
  rw[upd_ne _ _ g] at hb;exact h.out i (by omega) b hb he
 intro i j l x q b h1 h2;by_cases g:i=k
 ·subst g;rw[gY] at h1;rw[upd_ne _ _ (Ne.symm q)] at h2;have:=s b h1;have:=p j (by omega) b h2;omega
 rw[upd_ne _ _ g] at h1;by_cases r:j=k
 ·subst r;rw[gY] at h2;have:=s b h2;have:=p i (by omega) b h1;omega
 rw[upd_ne _ _ r] at h2;exact h.sep i j (by omega) (by omega) q b h1 h2
theorem PO.turn {α:Type} {R:Rep α} {e size:Nat} {lv:Value→List Value} {w w':World} {base:Nat} {v:Value} {n k j:Nat} {d:Nat→α} {cs cs':List Value} {us:Nat→Value} {fs:Nat→Nat→Prop} {u:Value} {x:α}
  (h:PO R e size lv w base v n k d cs us fs) (hj:j<k) (hm:Mod (fun b=>v.ownBlock=some b∨fs j b) w w') (hu:R.O w' base (fs j) u x) (hl:(lv u).length=size)
  (hr:w'.ownsRow base e size v n cs') (hold:∀i,i<k→i≠j→∀o,o<size→cs'[i*size+o]? = cs[i*size+o]?) (hnew:∀o,o<size→cs'[j*size+o]? = (lv u)[o]?) :
  PO R e size lv w' base v n k (upd d j x) cs' (upd us j u) fs:=by
 refine⟨hr,?_,?_,?_,h.out,h.sep⟩
 ·
  intro i l;by_cases g:i=j
  ·subst g;rw[gY,gY];exact hu
  rw[upd_ne _ _ g,upd_ne _ _ g];exact R.mod (h.el i l) hm (fun b hb=>by
   rintro(he|he)
   ·exact h.out i l b hb he
   exact h.sep i j l hj g b hb he)
 ·
  intro i l;by_cases g:i=j
  ·subst g;rw[gY];exact hl
  rw[upd_ne _ _ g];exact h.ln i l
 intro i l o m;by_cases g:i=j
 ·subst g;rw[gY];exact hnew o m
 rw[upd_ne _ _ g,hold i l g o m];exact h.cell i l o m
def NV {α:Type} [Inhabited α] (R:Rep α) (size:Nat) (lv:Value→List Value) (w:World) (v:Value) (xs:List α):Prop:=
 ∃a cap,v =.slice a xs.length cap∧xs.length≤cap∧cap≤maxLen∧∀i,i<xs.length→∃b o u,a=some ⟨b,o,none⟩∧(lv u).length=size∧(∀j,j<size→w.cell? ⟨b,o+i*size+j,none⟩=(lv u)[j]?)∧R.V w u (xs.getD i default)
def NO {α:Type} [Inhabited α] (R:Rep α) (e size:Nat) (lv:Value→List Value) (w:World) (base:Nat) (F:Nat→Prop) (v:Value) (xs:List α):Prop:=
 ∃cs us fs,PO R e size lv w base v xs.length xs.length (fun i=>xs.getD i default) cs us fs∧∀b,F b↔(v.ownBlock=some b∨∃i,i<xs.length∧fs i b)
theorem fWs {α:Type} [Inhabited α] {R:Rep α} {size:Nat} {lv:Value→List Value} {w w':World} {v:Value} {xs:List α} (h:NV R size lv w v xs) (hb:aa w w'):NV R size lv w' v xs:=by
 obtain⟨a,cap,rfl,h1,h2,e⟩:=h;refine⟨a,cap,rfl,h1,h2,fun i g=>?_⟩;obtain⟨b,o,u,ha,k,l,m⟩:=e i g;refine⟨b,o,u,ha,k,fun j n=>?_,R.below m hb⟩;have d:(lv u)[j]? = some ((lv u)[j]'(by omega)):=List.getElem?_eq_getElem _;rw[d];exact cK hb ((l j n).trans d)
theorem gA3 {α:Type} [Inhabited α] {R:Rep α} {e size:Nat} {lv:Value→List Value} {w:World} {base:Nat} {F:Nat→Prop} {v:Value} {xs:List α} (h:NO R e size lv w base F v xs):NV R size lv w v xs:=by
 obtain⟨cs,us,fs,k,_⟩:=h;have p:=k.row;rcases p.2 with ⟨rfl,q⟩|⟨g,cap,cur,rfl,hb,x,l,m,r,n⟩
 ·exact⟨none,0,by rw[q],by omega,by unfold maxLen;omega,fun i d=>by omega⟩
 refine⟨some ⟨g,0,none⟩,cap,rfl,l,m,fun i d=>⟨g,0,us i,rfl,k.ln i d,fun j s=>?_,R.ofO (k.el i d)⟩⟩;rw[Nat.zero_add,←k.cell i d j s];exact p.cellAt _ (by
  have:i*size+size≤xs.length*size:=by rw[←Nat.succ_mul];exact Nat.mul_le_mul_right _ d
  omega)
def nRep {α:Type} [Inhabited α] (R:Rep α) (e size:Nat) (lv:Value→List Value):Rep (List α) where
 V:=NV R size lv
 O:=NO R e size lv
 below:=fWs
 ofO:=gA3
 mod:=fun h hm hd=>by
  obtain⟨cs,us,fs,hp,hF⟩:=h;exact⟨cs,us,fs,hp.mod hm (fun b hb=>hd b ((hF b).2 (.inl hb))) (fun i hi b hb=>hd b ((hF b).2 (.inr ⟨i,hi,hb⟩))),hF⟩
 rng:=fun h b hb=>by
  obtain⟨cs,us,fs,hp,hF⟩:=h;rcases(hF b).1 hb with hb|⟨i,hi,hb⟩
  ·exact hp.row.lt b hb
  exact R.rng (hp.el i hi) b hb
 base:=fun h hb=>by
  obtain⟨cs,us,fs,hp,hF⟩:=h;exact⟨cs,us,fs,⟨qI hp.row hb,fun i hi=>R.base (hp.el i hi) hb,hp.ln,hp.cell,hp.out,hp.sep⟩,hF⟩
def one (v:Value):List Value:=[v]
theorem Mod.of_set (w:World) (p:Addr) (u:Value):Mod (fun b=>b=p.block) w (w.setCell p u):=
 ⟨rfl,rfl,rfl,by simp,fun k _ d=>Below.heap_setCell w p u k d⟩
theorem Rep.set {α:Type} (R:Rep α) {w:World} {base:Nat} {F:Nat→Prop} {v:Value} {x:α} (h:R.O w base F v x) {p:Addr} (u:Value) (hp:p.block<base):R.O (w.setCell p u) base F v x:=
 R.mod h (Mod.of_set w p u) (fun b hb e=>by have:=(R.rng h b hb).1;omega)
theorem Rep.alloc {α:Type} (R:Rep α) {w:World} {base:Nat} {F:Nat→Prop} {v:Value} {x:α} (h:R.O w base F v x) (o:Obj):R.O (w.alloc o) base F v x:=
 R.keep h (bA (Below.refl _ _) o)
theorem fKq {left:Int} {n:Nat} (h0:0≤left):rG left n≤left:=by
 unfold rG;split <;> omega
def pG {α:Type} (f:α→Nat):Nat→List α→Nat
 | 0,_=>0
 | _,[]=>0
 | k+1,x::xs=>f x+pG f k xs
theorem xV {α:Type} [Inhabited α] (f:α→Nat):∀(k:Nat) (xs:List α),k<xs.length→pG f (k+1) xs=pG f k xs+f (xs.getD k default)
 | 0,x::xs,_=>by cases xs <;> simp[pG]
 | k+1,x::xs,h=>by
  have:=xV f k xs (by simpa using h);simp only[pG,List.getD_cons_succ];omega
theorem fEa {α:Type} (f:α→Nat):∀(k n:Nat) (xs:List α),k≤n→pG f k xs≤pG f n xs
 | 0,_,_,_=>by simp[pG]
 | k+1,0,_,h=>by omega
 | k+1,n+1,[],_=>by simp[pG]
 | k+1,n+1,x::xs,h=>by
  have:=fEa f k n xs (by omega);simp only[pG];omega
def wtL {α:Type} (f:α→Nat) (xs:List α):Nat:=xs.length+pG f xs.length xs
def cntL {α:Type} (f:α→Nat) (xs:List α):Nat:=pG f xs.length xs
theorem fRm {α:Type} [Inhabited α] (f:α→Nat) {k:Nat} {xs:List α} (h:k<xs.length):pG f k xs+f (xs.getD k default)≤pG f xs.length xs:=by
 have:=fEa f (k+1) xs.length xs h;rw[xV f k xs h] at this;exact this
def mkL {α:Type} [Inhabited α] (mk:Int→α→α) (f:α→Nat) (k:Int) (xs:List α):List α:=(List.range xs.length).map (fun i=>mk (k+pG f i xs) (xs.getD i default))
theorem fIk {α:Type} [Inhabited α] (mk:Int→α→α) (f:α→Nat) (k:Int) (xs:List α):(mkL mk f k xs).length=xs.length:=by simp[mkL]
theorem fP5 {α:Type} [Inhabited α] (mk:Int→α→α) (f:α→Nat) (k:Int) (xs:List α) (i:Nat) (h:i<xs.length):(mkL mk f k xs).getD i default=mk (k+pG f i xs) (xs.getD i default):=by simp[mkL,List.getD,h]
theorem fSx {α:Type} [Inhabited α] {xs ys:List α} (hl:ys.length=xs.length) (h:∀j,j<xs.length→xs.getD j default=ys.getD j default):xs=ys:=by
 apply List.ext_getElem (by omega);intro i h1 h2;have:=h i h1;simpa [List.getD,h1,h2] using this
def setRow:List Value→Nat→List Value→List Value
 | cs,_,[]=>cs
 | cs,o,a::l=>setRow (cs.set o a) (o+1) l
theorem gA2 {α:Type} [Inhabited α] {f:α→Nat} {xs:List α} {k:Nat} {B:Nat} (h:wtL f xs≤B) (hk:k<xs.length):f (xs.getD k default)≤B∧xs.length≤B:=by
 have:=fRm f hk;unfold wtL at h;omega
theorem PO.at {α:Type} {R:Rep α} {e size:Nat} {lv:Value→List Value} {w:World} {base:Nat} {a:Option Addr} {c n k:Nat} {d:Nat→α} {cs:List Value} {us:Nat→Value} {fs:Nat→Nat→Prop}
  (h:PO R e size lv w base (.slice a n c) n k d cs us fs) {j:Nat} (hj:j<k) (hn:j<n):∃g,a=some ⟨g,0,none⟩∧∀o,o<size→w.cell? ⟨g,j*size+o,none⟩=(lv (us j))[o]?:=by
 rcases h.row.2 with ⟨_,h0⟩|⟨g,cap,cur,m,_⟩
 ·omega
 have l:=m;injection l with e1 e2 e3
 refine⟨g,e1,fun o p=>?_⟩;have h1:=h.row;rw[m] at h1;have h2:=h1.cellAt (j*size+o) (by
  have:j*size+size≤n*size:=by rw[←Nat.succ_mul];exact Nat.mul_le_mul_right _ hn
  omega)
 rw[h2,h.cell j hj o p]
theorem PO.len {α:Type} {R:Rep α} {e size:Nat} {lv:Value→List Value} {w:World} {base:Nat} {v:Value} {n k:Nat} {d:Nat→α} {cs:List Value} {us:Nat→Value} {fs:Nat→Nat→Prop}
  (h:PO R e size lv w base v n k d cs us fs):n≤2 ^ 63-1:=by
 rcases h.row.2 with ⟨_,h⟩|⟨_,cap,_,_,_,_,h1,h2,_⟩
 ·omega
 unfold maxLen at h2;omega
theorem fT0 {w:World} {b o i:Nat} {u:Value} (h:∀j,j<1→w.cell? ⟨b,o+i*1+j,none⟩=(one u)[j]?):w.cell? ⟨b,o+i,none⟩=some u:=by
 simpa [one] using h 0 (by omega)
theorem yE {left:Int} {n:Nat} (h:rG left n<0) (m:Nat) (hm:n≤m):rG left m = -1:=by
 unfold rG at h ⊢;split at h <;> split <;> omega
theorem fGh {left:Int} {n m:Nat} (h:¬rG left n<0):rG (rG left n) m=rG left ((n+m:Nat):Int):=by
 unfold rG at h ⊢;split at h
 ·omega
 rename_i d;rw[if_neg d];split <;> split <;> omega
theorem fEt {α:Type} {f g:α→Nat} {M:Nat} (h:∀x,f x≤M*(1+g x)):∀(k:Nat) (xs:List α),pG f k xs≤M*(k+pG g k xs)
 | 0,_=>by simp[pG]
 | k+1,[]=>by simp[pG]
 | k+1,x::xs=>by
  have ih:=fEt h k xs;have hx:=h x;simp only[pG];have e:M*(k+1+(g x+pG g k xs))=M*(1+g x)+M*(k+pG g k xs):=by rw[←Nat.mul_add];congr 1;omega
  omega
theorem fY8 {α:Type} {f g:α→Nat} {M:Nat} (h:∀x,f x≤M*(1+g x)) (xs:List α):cntL f xs≤M*wtL g xs:=fEt h xs.length xs
end Go.Proofs.YtpibfdebfacooaaGreat
namespace Go.Proofs.YtpibfdebfacooaaGreat
open Go.RowKit
variable [dQ Bal] [iH Bal]
attribute [local go_sem ↓] Go.wp_at_zero Go.wp_at_succ
def balsR:Rep (List Bal):=fRep 103 3 mD fJc fNc fJd
def qZ (xs:List Bal):Nat:=xs.length
def mH (xs:List Bal):Nat:=3*xs.length
def fL9 (k:Int) (xs:List Bal):List Bal:=uY k xs.length
theorem fQ {w:World} {v:Value} {xs:List Bal} (h:balsR.V w v xs):∃a c,v =.slice a xs.length c:=by
 obtain⟨a,c,rfl,_⟩:=h;exact⟨_,_,rfl⟩
theorem fPp (d:List Bal):mH d≤3*qZ d:=by unfold mH qZ;omega
theorem fMz (x:Value) (d:List Bal) (w:World) (hx:balsR.V w x d) (hn:qZ d≤1048576) :
  cL 29 #[x] w fun e w'=>∃v F,e =.returned v∧balsR.O w' w.heap.size F v d∧aa w w':=by
 refine(fHk x d w hx hn).mono ?_;rintro e w' ⟨v,rfl,g,hb⟩;exact⟨v,_,rfl,⟨g,rfl⟩,hb⟩
theorem fDl (x y:Value) (d d':List Bal) (w:World) (hx:balsR.V w x d) (hy:balsR.V w y d') :
  cL 31 #[x,y] w fun e w'=>e =.returned (.bool (decide (d=d')))∧aa w w':=fG0 x y d d' w hx hy
theorem fMw (x:Value) (d:List Bal) (left:Int) (w:World) (hx:balsR.V w x d) (h0:0≤left) (h1:left≤1048576) :
  cL 26 #[x,iV left] w fun e w'=>e =.returned (iV (rG left (qZ d)))∧aa w w':=by
 refine(fHj x d left w hx h0 h1).mono ?_;rintro e w' ⟨rfl,rfl⟩;exact⟨rfl,Below.refl _ _⟩
theorem fAz (v:Value) (d:List Bal) (base:Nat) (F:Nat→Prop) (k:Int) (w:World) (ho:balsR.O w base F v d) (hw:qZ d≤1048576) (hn:k+mH d≤1073741824) (hk0:0≤k) :
  cL 39 #[v,iV k] w fun r w'=>r =.returned (iV (k+mH d))∧balsR.O w' base F v (fL9 k d)∧Mod F w w':=by
 refine(fD5 v d.length _ base _ k w ho.1 hw hk0 (by omega)).mono ?_;rintro e w' ⟨rfl,h1,h2⟩;refine⟨by simp[mH],⟨?_,ho.2⟩,by rw[ho.2];exact Mod.of_grown h2⟩;unfold fL9;rw[qF];exact h1
theorem fAy (v:Value) (d:List Bal) (k:Int) (w:World) (hv:balsR.V w v (fL9 k d)) (hw:qZ d≤1048576) (hn:k+mH d≤1073741824) (hk0:0≤k) :
  cL 80 #[v,iV k] w fun r w'=>r =.returned (iV (k+mH d))∧aa w w':=by
 refine(fD2 v d.length k w hv hw hk0 (by omega)).mono ?_;rintro e w' ⟨rfl,rfl⟩;exact⟨by simp[mH],Below.refl _ _⟩
end Go.Proofs.YtpibfdebfacooaaGreat
namespace Go.Proofs.YtpibfdebfacooaaGreat
open Go.RowKit
attribute [local go_sem ↓] Go.wp_at_zero Go.wp_at_succ
abbrev Byte:=Fin 256
def toB (n:Int):Byte:=⟨(n % 256).toNat,by omega⟩
theorem fDf (n:Int):((toB n).val:Int)=n % 256:=by simp only[toB];omega
theorem fGt (n:Int):IntKind.u8.wrap n=((toB n).val:Int):=by rw[fDf,IntKind.wrap_u8]
theorem xK (b:Byte):(0:Int)≤(b.val:Int)∧(b.val:Int)≤255:=by have:=b.isLt;omega
def fT (ys:List Byte):List Value:=ys.map (fun b=>Value.int .u8 (b.val:Int))
theorem qO (ys:List Byte):(fT ys).length=ys.length:=by simp[fT]
theorem uZ (xs ys:List Byte):fT (xs++ys)=fT xs++fT ys:=by simp[fT]
theorem xU (xs:List Byte):∀u ∈ fT xs,u.oneCell'=true:=by
 intro u d;simp only[fT,List.mem_map] at d;obtain⟨b,_,rfl⟩:=d;rfl
theorem fAk (ys:List Byte) (i:Nat) (h:i<ys.length):(fT ys)[i]? = some (.int .u8 ((ys.getD i 0).val:Int)):=by
 simp[fT,List.getD,h]
theorem infoByte:(Tryz.prog.info? 5).map (fun i=>(i.zero,i.size,i.bytes))=some (some (.int .u8 0),1,1):=by kernel_rfl
def mP (w:World) (v:Value) (ys:List Byte):Prop:=
 ∃a cap,v =.slice a ys.length cap∧ys.length≤cap∧cap≤maxLen∧∀i,i<ys.length→∃b o,a=some ⟨b,o,none⟩∧w.cell? ⟨b,o+i,none⟩=some (.int .u8 ((ys.getD i 0).val:Int))
theorem gF {w w':World} {v:Value} {ys:List Byte} (h:mP w v ys) (hb:aa w w'):mP w' v ys:=by
 obtain⟨a,cap,rfl,h1,h2,d⟩:=h;exact⟨a,cap,rfl,h1,h2,fun i e=>by
  obtain⟨b,o,ha,g⟩:=d i e;exact⟨b,o,ha,cK hb g⟩⟩
theorem uG {w:World} {base e:Nat} {v:Value} {ys:List Byte} (h:w.ownsRow base e 1 v ys.length (fT ys)):mP w v ys:=by
 rcases h.2 with ⟨rfl,m⟩|⟨g,cap,cur,rfl,hb,p,d,j,n,k⟩
 ·exact⟨none,0,by rw[m],by omega,by unfold maxLen;omega,fun i l=>by omega⟩
 refine⟨some ⟨g,0,none⟩,cap,rfl,d,j,fun i l=>⟨g,0,rfl,?_⟩⟩;rw[Nat.zero_add];exact(h.cellAt i (by omega)).trans (fAk ys i l)
theorem fNk {xs ys:List Byte} (hl:ys.length=xs.length) (h:∀j,j<xs.length→xs.getD j 0=ys.getD j 0):xs=ys:=by
 apply List.ext_getElem (by omega);intro i h1 h2;have:=h i h1;simpa [List.getD,h1,h2] using this
theorem fNr (x y:Value) (xs ys:List Byte) (w:World) (hx:mP w x xs) (hy:mP w y ys) :
  cL 65 #[x,y] w fun e w'=>e =.returned (.bool (decide (xs=ys)))∧aa w w':=by
 obtain⟨X,Y,rfl,M,A,hx⟩:=hx;obtain⟨Z,cy,rfl,B,C,hy⟩:=hy;unfold maxLen at A C;by_cases r:ys.length=xs.length
 ·
  rw[r] at B hy ⊢;have N:Hid (ys.length=xs.length):=r;clear r;generalize F:xs.length=n at *;have G:Hid (xs.length=n):=F;clear F;go_enter Tryz.func65,Tryz.ntmps65;go_wp2;go_loopw [5] (fun i w'=>∃k:Nat,k≤n∧i =.int .i64 k∧(∀j,j<k→xs.getD j 0=ys.getD j 0)∧aa w w') (fun i _=>n-(intOf i).toNat)
  case atStart=>exact⟨0,Nat.zero_le _,rfl,fun j h=>absurd h (Nat.not_lt_zero _),Below.refl _ _⟩
  obtain⟨k,hk,rfl,d,D⟩:=hrel;have H:Hid (∀j,j<k→xs.getD j 0=ys.getD j 0):=d;clear d;by_cases q:k<n
  ·
   obtain⟨O,R,rfl,h1⟩:=hx k q;obtain⟨T,U,rfl,h2⟩:=hy k q;obtain⟨s,g⟩:∃l:Int,l=((xs.getD k 0).val:Int):=⟨_,rfl⟩
   obtain⟨z,m⟩:∃l:Int,l=((ys.getD k 0).val:Int):=⟨_,rfl⟩
   rw[←g] at h1;rw[←m] at h2;have I:Hid (s=((xs.getD k 0).val:Int)):=g;have J:Hid (z=((ys.getD k 0).val:Int)):=m;clear g m hx hy;go_wp2;go_region_held3 (fun w'=>aa w w'∧cW w' O (R+k) (.int .u8 s)∧cW w' T (U+k) (.int .u8 z)) ((refine fYp ?_ h1 h2;repeat (first|exact Below.refl _ _|assumption|refine Below.drew ?_|refine bA ?_ _|refine bS ?_ (by assumption)))) (fail);rename_i K;have L:=K.1;clear K;go_wp2
   ·
    rename_i p;go_ret;refine⟨?_,L⟩;have:¬xs=ys:=fun h=>by
     have:s=z:=by rw[I.out,J.out,h]
     simp[this] at p
    simp[this]
   rename_i p;refine⟨⟨k+1,by omega,by go_num,fun j hj=>?_,L⟩,by simp[intOf];omega⟩;by_cases E:j<k
   ·exact H.out j E
   have:j=k:=by omega
   subst this;have e:s=z:=by simpa using p
   rw[I.out,J.out] at e;exact Fin.ext (by omega)
  go_wp2;go_ret;have:k=n:=by omega
  subst this;refine⟨?_,D⟩;have:xs=ys:=fNk (by rw[N.out,G.out]) (by rw[G.out];exact H.out);simp[this]
 go_enter Tryz.func65,Tryz.ntmps65;have V:((xs.length:Int)==(ys.length:Int))=false:=by simp;omega
 go_wp2;go_ret;have:¬xs=ys:=fun h=>r (by rw[h])
 exact⟨by simp[this],Below.refl _ _⟩
def fB4 (k:Int) (n:Nat):List Byte:=(List.range n).map (fun i:Nat=>toB (k+(i:Int)))
theorem rU (k:Int) (n:Nat):(fB4 k n).length=n:=by simp[fB4]
theorem fE4 (k:Int) (n i:Nat) (h:i<n):(fB4 k n).getD i 0=toB (k+i):=by simp[fB4,List.getD,h]
def fKt (k:Nat) (cs:List Value) (ys:List Byte):Prop:=∀j,j<k→cs[j]? = (fT ys)[j]?
theorem fDg {n:Nat} {cs:List Value} {ys:List Byte} (h:fKt n cs ys) (hl:cs.length=n*1) (hn:ys.length=n):cs=fT ys:=by
 apply List.ext_getElem?;intro j;by_cases d:j<n
 ·exact h j d
 rw[List.getElem?_eq_none (by omega),List.getElem?_eq_none (by simp[fT];omega)]
theorem fGo {k:Nat} {cs:List Value} {ys:List Byte} {l:Int} (h:fKt k cs ys) (hk:k<ys.length) (hl:cs.length=ys.length*1) (he:l=((ys.getD k 0).val:Int)):fKt (k+1) (cs.set k (.int .u8 l)) ys:=by
 intro j d;rw[List.getElem?_set];by_cases e:k=j
 ·subst e;rw[if_pos rfl,if_pos (by omega),fAk ys k hk,he]
 rw[if_neg e];exact h j (by omega)
theorem fFa (w:World) (r:Option Nat):w.grownBy w r:=⟨rfl,rfl,rfl,Nat.le_refl _,fun _ _ _=>rfl⟩
theorem fJ7 (v:Value) (n:Nat) (cs:List Value) (base e:Nat) (k:Int) (w:World) (ho:w.ownsRow base e 1 v n cs) (hn:n≤1048576) (hk0:0≤k) (hk1:k≤1073741824) :
  cL 76 #[v,iV k] w fun r w'=>r =.returned (iV (k+n))∧w'.ownsRow base e 1 v n (fT (fB4 k n))∧w.grownBy w' v.ownBlock:=by
 rcases ho.2 with ⟨rfl,rfl⟩|⟨g,cap,cur,rfl,hb,C,D,x,_,_⟩
 ·
  go_enter Tryz.func76,Tryz.ntmps76;go_wp2;go_loopw [1,5] (fun q i w'=>q =.int .i64 k∧i =.int .i64 0∧w'=w) (fun _ _ _=>0)
  case atStart=>exact⟨rfl,rfl,rfl⟩
  obtain⟨rfl,rfl,rfl⟩:=hrel;go_wp2;go_ret;exact⟨by simp,World.ownsRow_nil _ _ _ _,fFa _ _⟩
 unfold maxLen at x;go_enter Tryz.func76,Tryz.ntmps76;go_wp2;go_loopw [1,5] (fun q i w'=>∃(j:Nat) (l:List Value),j≤n∧i =.int .i64 j∧q =.int .i64 (k+j)∧w'.ownsRow base e 1 (.slice (some ⟨g,0,none⟩) n cap) n l∧fKt j l (fB4 k n)∧w.grownBy w' (some g)) (fun _ i _=>n-(intOf i).toNat)
 case atStart=>exact⟨0,cs,Nat.zero_le _,rfl,by simp,ho,fun j h=>by omega,fFa _ _⟩
 obtain⟨j,l,H,rfl,rfl,d,m,p⟩:=hrel;have A:Hid (fKt j l (fB4 k n)):=m;clear m ho C;by_cases s:j<n
 ·
  obtain⟨u0,I⟩:=kL d j (by omega);have J:=fun j=>d.frozenAt j
  obtain⟨q,y⟩:∃q,q=IntKind.u8.wrap (k+(j:Int)):=⟨_,rfl⟩
  have E:=y.symm;have F:Hid (q=IntKind.u8.wrap (k+(j:Int))):=y;clear y;go_wp2;have B:=d.stored j (.int .u8 q);refine⟨⟨j+1,_,by omega,by go_num,?_,B.1,fGo A.out (by rw[rU];exact s) (by rw[rU];exact d.1) (by rw[fE4 k n j s,F.out,fGt]),vI p B.2⟩,by simp[intOf];omega⟩;congr 1;omega
 go_wp2;go_ret;have z:j=n:=by omega
 subst z;have G:=fDg A.out d.1 (rU k j);rw[G] at d;exact⟨rfl,d,p⟩
theorem fJu (v:Value) (n:Nat) (k:Int) (w:World) (hv:mP w v (fB4 k n)) (hn:n≤1048576) (hk0:0≤k) (hk1:k≤1073741824) :
  cL 123 #[v,iV k] w fun r w'=>r =.returned (iV (k+n))∧w'=w:=by
 obtain⟨a,cap,rfl,e,g,l⟩:=hv;rw[rU] at e l ⊢;unfold maxLen at g;go_enter Tryz.func123,Tryz.ntmps123;go_wp2;go_loopw [1,5] (fun q i w'=>∃j:Nat,j≤n∧i =.int .i64 j∧q =.int .i64 (k+j)∧w'=w) (fun _ i _=>n-(intOf i).toNat)
 case atStart=>exact⟨0,Nat.zero_le _,rfl,by simp,rfl⟩
 obtain⟨j,p,rfl,rfl,rfl⟩:=hrel;by_cases d:j<n
 ·obtain⟨b,o,rfl,h1⟩:=l j d;rw[fE4 k n j d,←fGt] at h1;clear l;generalize s:IntKind.u8.wrap (k+(j:Int))=q at h1;go_wp2;refine⟨⟨j+1,by omega,by go_num,?_,trivial⟩,by simp[intOf];omega⟩;congr 1;omega
 go_wp2;go_ret;have m:j=n:=by omega
 subst m;exact⟨rfl,rfl⟩
theorem fPg (x:Value) (xs:List Byte) (w:World) (hx:mP w x xs) (hn:xs.length≤1048576) :
  cL 63 #[x] w fun e w'=>∃v,e =.returned v∧w'.ownsRow w.heap.size 5 1 v xs.length (fT xs)∧aa w w':=by
 obtain⟨O,R,rfl,I,y,hx⟩:=hx;unfold maxLen at y;obtain⟨J,K,z,A,B⟩:=info_parts infoByte;obtain⟨L,C,d,q⟩:=run_make_full (P:=Tryz.prog) w w.heap.size 23 5 J _ 1 Tryz.underlying23 K z A .i64 .i64 xs.length (by rw[B];omega) (by unfold maxLen;omega) (Nat.le_refl _);have g:aa w L:=(Below.refl _ _).grown q (Nat.le_refl _) (fun k h=>by cases h);generalize r:xs.length=n at *;have D:Hid (xs.length=n):=r;clear r;go_enter Tryz.func63,Tryz.ntmps63;go_wp2;go_loopw [4] (fun i w'=>∃(k:Nat) (cs:List Value),k≤n∧i =.int .i64 k∧w'.ownsRow w.heap.size 5 1 (.slice (some ⟨w.heap.size,0,none⟩) n n) n cs∧fKt k cs xs∧aa w w') (fun i _=>n-(intOf i).toNat)
 case atStart=>exact⟨0,_,Nat.zero_le _,rfl,d,fun j h=>by omega,g⟩
 obtain⟨k,cs,T,rfl,p,s,m⟩:=hrel;have H:Hid (fKt k cs xs):=s;clear s d C q g;by_cases E:k<n
 ·
  obtain⟨U,V,rfl,h1⟩:=hx k E;obtain⟨l,F⟩:∃l:Int,l=((xs.getD k 0).val:Int):=⟨_,rfl⟩
  rw[←F] at h1;have M:Hid (l=((xs.getD k 0).val:Int)):=F;clear F hx;have X:=cK m h1;obtain⟨u0,Y⟩:=kL p k (by omega);have Z:=fun j=>p.frozenAt j
  go_wp2;have N:=p.stored k (.int .u8 l);refine⟨⟨k+1,_,by omega,by go_num,N.1,fGo H.out (by have:=D.out;omega) (by have:=D.out;have:=p.1;omega) M.out,?_⟩,by simp[intOf];omega⟩;exact m.setCell (Nat.le_refl _) _
 go_wp2;go_ret;have G:k=n:=by omega
 subst G;have e:=fDg H.out p.1 D.out;subst e;exact⟨_,rfl,p,m⟩
theorem fPe (x:Value) (xs:List Byte) (left:Int) (w:World) (hx:mP w x xs) (h0:0≤left) (h1:left≤1048576) :
  cL 60 #[x,iV left] w fun e w'=>e =.returned (iV (rG left xs.length))∧w'=w:=by
 obtain⟨a,cap,rfl,g,d,_⟩:=hx;unfold maxLen at d;unfold rG;generalize xs.length=n at *;by_cases h:left<n
 ·rw[if_pos h];go_enter Tryz.func60,Tryz.ntmps60;go_wp2;go_ret;exact⟨rfl,rfl⟩
 rw[if_neg h];go_enter Tryz.func60,Tryz.ntmps60;go_wp2;go_ret;exact⟨rfl,rfl⟩
def bytesR:Rep (List Byte):=fRep 5 1 fT mP gF uG
def kM (xs:List Byte):Nat:=xs.length
def qM (xs:List Byte):Nat:=xs.length
def fFt (k:Int) (xs:List Byte):List Byte:=fB4 k xs.length
theorem fF {w:World} {v:Value} {xs:List Byte} (h:bytesR.V w v xs):∃a c,v =.slice a xs.length c:=by
 obtain⟨a,c,rfl,_⟩:=h;exact⟨_,_,rfl⟩
theorem fK2 (d:List Byte):qM d≤1*kM d:=by unfold qM kM;omega
theorem fM0 (x:Value) (d:List Byte) (w:World) (hx:bytesR.V w x d) (hn:kM d≤1048576) :
  cL 63 #[x] w fun e w'=>∃v F,e =.returned v∧bytesR.O w' w.heap.size F v d∧aa w w':=by
 refine(fPg x d w hx hn).mono ?_;rintro e w' ⟨v,rfl,g,hb⟩;exact⟨v,_,rfl,⟨g,rfl⟩,hb⟩
theorem fLd (x y:Value) (d d':List Byte) (w:World) (hx:bytesR.V w x d) (hy:bytesR.V w y d') :
  cL 65 #[x,y] w fun e w'=>e =.returned (.bool (decide (d=d')))∧aa w w':=fNr x y d d' w hx hy
theorem fMx (x:Value) (d:List Byte) (left:Int) (w:World) (hx:bytesR.V w x d) (h0:0≤left) (h1:left≤1048576) :
  cL 60 #[x,iV left] w fun e w'=>e =.returned (iV (rG left (kM d)))∧aa w w':=by
 refine(fPe x d left w hx h0 h1).mono ?_;rintro e w' ⟨rfl,rfl⟩;exact⟨rfl,Below.refl _ _⟩
theorem fFp (v:Value) (d:List Byte) (base:Nat) (F:Nat→Prop) (k:Int) (w:World) (ho:bytesR.O w base F v d) (hw:kM d≤1048576) (hn:k+qM d≤1073741824) (hk0:0≤k) :
  cL 76 #[v,iV k] w fun r w'=>r =.returned (iV (k+qM d))∧bytesR.O w' base F v (fFt k d)∧Mod F w w':=by
 refine(fJ7 v d.length _ base _ k w ho.1 hw hk0 (by omega)).mono ?_;rintro e w' ⟨rfl,h1,h2⟩;refine⟨by simp[qM],⟨?_,ho.2⟩,by rw[ho.2];exact Mod.of_grown h2⟩;unfold fFt;rw[rU];exact h1
theorem fFc (v:Value) (d:List Byte) (k:Int) (w:World) (hv:bytesR.V w v (fFt k d)) (hw:kM d≤1048576) (hn:k+qM d≤1073741824) (hk0:0≤k) :
  cL 123 #[v,iV k] w fun r w'=>r =.returned (iV (k+qM d))∧aa w w':=by
 refine(fJu v d.length k w hv hw hk0 (by omega)).mono ?_;rintro e w' ⟨rfl,rfl⟩;exact⟨by simp[qM],Below.refl _ _⟩
structure Logg where
 synced:List Byte
 loose:List Byte
variable [dQ Logg] [iH Logg]
def loggR:Rep Logg where
 V:=fun w v x=>∃u1 u2,v =.agg #[u1,u2]∧bytesR.V w u1 x.synced∧bytesR.V w u2 x.loose
 O:=fun w base F v x=>∃u1 u2 F1 F2,v =.agg #[u1,u2]∧bytesR.O w base F1 u1 x.synced∧bytesR.O w base F2 u2 x.loose∧(∀b,F1 b→¬F2 b)∧(∀b,F b↔(F1 b∨F2 b))
 below:=fun h hb=>by
  obtain⟨u1,u2,rfl,h1,h2⟩:=h;exact⟨u1,u2,rfl,bytesR.below h1 hb,bytesR.below h2 hb⟩
 ofO:=fun h=>by
  obtain⟨u1,u2,F1,F2,rfl,h1,h2,_⟩:=h;exact⟨u1,u2,rfl,bytesR.ofO h1,bytesR.ofO h2⟩
 mod:=fun h hm hd=>by
  obtain⟨u1,u2,F1,F2,rfl,h1,h2,s12,hF⟩:=h;exact⟨u1,u2,F1,F2,rfl,bytesR.mod h1 hm (fun b hb=>hd b ((hF b).2 (.inl hb))),bytesR.mod h2 hm (fun b hb=>hd b ((hF b).2 (.inr hb))),s12,hF⟩
 rng:=fun h b hb=>by
  obtain⟨u1,u2,F1,F2,rfl,h1,h2,s12,hF⟩:=h;rcases(hF b).1 hb with hb|hb
  ·exact bytesR.rng h1 b hb
  exact bytesR.rng h2 b hb
 base:=fun h hb=>by
  obtain⟨u1,u2,F1,F2,rfl,h1,h2,s12,hF⟩:=h;exact⟨u1,u2,F1,F2,rfl,bytesR.base h1 hb,bytesR.base h2 hb,s12,hF⟩
def gJ (x:Logg):Nat:=kM x.synced+kM x.loose
def yM (x:Logg):Nat:=qM x.synced+qM x.loose
def fVg (k:Int) (x:Logg):Logg:={x with synced:=fFt k x.synced,loose:=fFt (k+qM x.synced) x.loose}
theorem mJ {w:World} {v:Value} {x:Logg} (h:loggR.V w v x):∃a1 a2 c1 c2,v =.agg #[.slice a1 x.synced.length c1,.slice a2 x.loose.length c2]:=by
 obtain⟨u1,u2,rfl,h1,h2⟩:=h;obtain⟨a1,c1,rfl⟩:=fF h1;obtain⟨a2,c2,rfl⟩:=fF h2;exact⟨_,_,_,_,rfl⟩
theorem fX1 (d:Logg):yM d≤1*gJ d:=by
 unfold yM gJ;have q1:=fK2 d.synced;have q2:=fK2 d.loose;omega
theorem fZz (x:Value) (d:Logg) (w:World) (hx:loggR.V w x d) (hn:gJ d≤1048576) :
  cL 30 #[x] w fun e w'=>∃v F,e =.returned v∧loggR.O w' w.heap.size F v d∧aa w w':=by
 obtain⟨u1,u2,rfl,h1,h2⟩:=hx;unfold gJ at hn;go_enter Tryz.func30,Tryz.ntmps30;go_wp2_with fail;refine(fM0 _ d.synced _ (bytesR.below h1 hE) (by omega)).mono ?_;rintro e k ⟨v1,N,rfl,H,l⟩;obtain⟨R,T,rfl⟩:=fF (bytesR.ofO H);obtain⟨Z,L⟩:=bcell l;have z1:=l.size;simp at z1;have U:=fun b hb=>bytesR.rng H b hb
 simp at U;replace H:=bytesR.base (base':=w.heap.size+3) H (by simp;try omega);have y:cW k w.heap.size 0 u1:=cK l (by simp[go_sem]);have z:cW k w.heap.size 1 u2:=cK l (by simp[go_sem]);have A:cN k (w.heap.size+1) 0:=cK l (by simp[go_sem]);have B:cN k (w.heap.size+1) 1:=cK l (by simp[go_sem]);have C:cN k (w.heap.size+2) 0:=cK l (by simp[go_sem]);have D:cN k (w.heap.size+2) 1:=cK l (by simp[go_sem]);have E:aq k (w.heap.size+1):=fun o=>by rw[L _ _ (by simp;try omega)];simp[go_sem]
 have G:aq k (w.heap.size+2):=fun o=>by rw[L _ _ (by simp;try omega)];simp[go_sem]
 clear Z L;have m:=y;have n:=z;have q0:=A;have q1:=B;have g:=C;have j:=D;have I:=E;have J:=G;clear E G y z A B C D;go_wp2_with fail;refine(fM0 _ d.loose _ (bytesR.below h2 hE) (by omega)).mono ?_;rintro e r ⟨v2,X,rfl,K,s⟩;obtain⟨a2,n2,rfl⟩:=fF (bytesR.ofO K);obtain⟨c2,M⟩:=bcell s;have z2:=s.size;simp at z2;have Y:=fun b hb=>bytesR.rng K b hb
 simp at Y;replace K:=bytesR.base (base':=w.heap.size+3) K (by simp;try omega);have y:cW r w.heap.size 0 u1:=cK s (by simp[go_sem,m,n,q0,q1,g,j]);have z:cW r w.heap.size 1 u2:=cK s (by simp[go_sem,m,n,q0,q1,g,j]);have A:cN r (w.heap.size+1) 0:=cK s (by simp[go_sem,m,n,q0,q1,g,j]);have B:cN r (w.heap.size+1) 1:=cK s (by simp[go_sem,m,n,q0,q1,g,j]);have C:ah r (w.heap.size+2) 0 R d.synced.length T:=cK s (by simp[go_sem,m,n,q0,q1,g,j]);have D:cN r (w.heap.size+2) 1:=cK s (by simp[go_sem,m,n,q0,q1,g,j]);have E:aq r (w.heap.size+1):=fun o=>by rw[M _ _ (by simp;try omega)];simp[go_sem,I]
 have G:aq r (w.heap.size+2):=fun o=>by rw[M _ _ (by simp;try omega)];simp[go_sem,J]
 clear m n q0 q1 g j I J;clear c2 M;have m:=y;have n:=z;have q0:=A;have q1:=B;have g:=C;have j:=D;have I:=E;have J:=G;clear E G y z A B C D;go_wp2;refine bodyPost_ret (v:=.agg #[.slice R d.synced.length T,.slice a2 d.loose.length n2]) ?_ rfl ⟨_,fun b=>N b∨X b,rfl,⟨_,_,N,X,rfl,bytesR.base (base:=w.heap.size+3) (by(repeat (first|assumption|refine Rep.set _ ?_ _ (by simp;omega)|refine Rep.set _ ?_ _ (by simp)|refine Rep.alloc _ ?_ _|refine Rep.keep _ ?_ (by assumption)))) (by omega),bytesR.base (base:=w.heap.size+3) (by(repeat (first|assumption|refine Rep.set _ ?_ _ (by simp;omega)|refine Rep.set _ ?_ _ (by simp)|refine Rep.alloc _ ?_ _|refine Rep.keep _ ?_ (by assumption)))) (by omega),fun b p q=>by have:=(U b p).2;have:=(Y b q).1;omega,fun b=>Iff.rfl⟩,hE⟩;simp[results,Tryz.results30,go_sem,q0,q1,g,j,I,J]
theorem fZy (x:Value) (d:Logg) (left:Int) (w:World) (hx:loggR.V w x d) (h0:0≤left) (h1:left≤1048576) :
  cL 27 #[x,iV left] w fun e w'=>e =.returned (iV (rG left (gJ d)))∧aa w w':=by
 obtain⟨u1,u2,rfl,k,l⟩:=hx;go_enter Tryz.func27,Tryz.ntmps27;go_wp2_with fail;refine(fMx _ d.synced left _ (bytesR.below k hE) h0 h1).mono ?_;rintro e g ⟨rfl,j⟩;have m:cW g w.heap.size 0 u1:=cK j (by simp[go_sem]);have p:cW g w.heap.size 1 u2:=cK j (by simp[go_sem]);go_wp2_with fail
 ·rename_i h;go_ret;refine⟨?_,hE⟩;rw[yE (n:=kM d.synced) (by omega) (gJ d) (by unfold gJ;omega)];rfl
 rename_i h;refine(fMx _ d.loose (rG left (kM d.synced:Nat)) _ (bytesR.below l hE) (by omega) (by have:=fKq (n:=kM d.synced) h0;omega)).mono ?_;rintro e q ⟨rfl,r⟩;rw[fGh (n:=kM d.synced) (by omega)];go_wp2
 ·rename_i h;go_ret;refine⟨?_,hE⟩;rw[yE (n:=kM d.synced+kM d.loose) (by first|omega|(rw[Int.natCast_add];omega)) (gJ d) (by unfold gJ;omega)];rfl
 rename_i h;go_ret;exact⟨rfl,hE⟩
theorem fZa (x y:Value) (d d':Logg) (w:World) (hx:loggR.V w x d) (hy:loggR.V w y d') :
  cL 32 #[x,y] w fun e w'=>e =.returned (.bool (decide (d=d')))∧aa w w':=by
 obtain⟨u1,u2,rfl,h1,h2⟩:=hx;obtain⟨r,s,rfl,p,q⟩:=hy;obtain⟨j,l⟩:=d;obtain⟨g,k⟩:=d';dsimp only at h1 p h2 q;go_enter Tryz.func32,Tryz.ntmps32;go_wp2_with fail;all_goals try (go_ret;exact⟨by simp_all,hE⟩)
 refine(fLd _ _ j g _ (bytesR.below h1 hE) (bytesR.below p hE)).mono ?_;rintro e m ⟨rfl,n⟩;have z:cW m w.heap.size 0 u1:=cK n (by simp[go_sem]);have A:cW m w.heap.size 1 u2:=cK n (by simp[go_sem]);have B:cW m (w.heap.size+1) 0 r:=cK n (by simp[go_sem]);have C:cW m (w.heap.size+1) 1 s:=cK n (by simp[go_sem]);go_wp2_with fail;all_goals try (go_ret;exact⟨by simp_all,hE⟩)
 refine(fLd _ _ l k _ (bytesR.below h2 hE) (bytesR.below q hE)).mono ?_;rintro e D ⟨rfl,E⟩;go_wp2;all_goals
  go_ret;exact⟨by simp_all,hE⟩
theorem fVf (v:Value) (d:Logg) (base:Nat) (F:Nat→Prop) (k:Int) (w:World) (ho:loggR.O w base F v d) (hw:gJ d≤1048576) (hn:k+yM d≤1073741824) (hk0:0≤k) :
  cL 40 #[v,iV k] w fun r w'=>r =.returned (iV (k+yM d))∧loggR.O w' base F v (fVg k d)∧Mod F w w':=by
 obtain⟨u1,u2,l,m,rfl,h1,h2,g,y⟩:=ho;unfold gJ at hw;unfold yM at hn ⊢;have n:Hid (∀b,F b↔(l b∨m b)):=y;clear y;go_enter Tryz.func40,Tryz.ntmps40;go_wp2_with fail;refine(fFp _ d.synced base l k _ (bytesR.alloc h1 _) (by omega) (by omega) (by omega)).mono ?_;rintro e z ⟨rfl,s,j⟩;have x:=bytesR.mod (bytesR.alloc h2 _) j (fun b p q=>g b q p);have C:cW z w.heap.size 0 u1:=j.cell (by simp[go_sem]) (nI bytesR h1);have D:cW z w.heap.size 1 u2:=j.cell (by simp[go_sem]) (nI bytesR h1);go_wp2_with fail;refine(fFp _ d.loose base m (k+qM d.synced) _ x (by omega) (by omega) (by omega)).mono ?_;rintro e E ⟨rfl,B,A⟩;replace s:=bytesR.mod s A (fun b p q=>g b p q);go_wp2;go_ret;refine⟨?_,⟨_,_,l,m,rfl,s,B,g,n.out⟩,(((Mod.refl F w).alloc _).trans (j.mono (fun b hb=>(n.out b).2 (.inl hb)))).trans (A.mono (fun b hb=>(n.out b).2 (.inr hb)))⟩;simp;try omega
theorem fUq (v:Value) (d:Logg) (k:Int) (w:World) (hv:loggR.V w v (fVg k d)) (hw:gJ d≤1048576) (hn:k+yM d≤1073741824) (hk0:0≤k) :
  cL 81 #[v,iV k] w fun r w'=>r =.returned (iV (k+yM d))∧aa w w':=by
 obtain⟨u1,u2,rfl,h1,h2⟩:=hv;unfold gJ at hw;unfold yM at hn ⊢;go_enter Tryz.func81,Tryz.ntmps81;go_wp2_with fail;refine(fFc _ d.synced k _ (bytesR.below h1 hE) (by omega) (by omega) (by omega)).mono ?_;rintro e g ⟨rfl,j⟩;have l:cW g w.heap.size 0 u1:=cK j (by simp[go_sem]);have m:cW g w.heap.size 1 u2:=cK j (by simp[go_sem]);go_wp2_with fail;refine(fFc _ d.loose (k+qM d.synced) _ (bytesR.below h2 hE) (by omega) (by omega) (by omega)).mono ?_;rintro e n ⟨rfl,p⟩;go_wp2;go_ret;refine⟨?_,hE⟩;simp;try omega
variable [dQ Bal] [iH Bal] [dQ Logg] [iH Logg]
structure Jrn where
 idx:Int
 start:List Bal
 log:Logg
variable [dQ Jrn] [iH Jrn]
def jrnR:Rep Jrn where
 V:=fun w v x=>∃u1 u2_1 u2_2,v =.agg #[.int .i64 x.idx,u1,u2_1,u2_2]∧balsR.V w u1 x.start∧loggR.V w (.agg #[u2_1,u2_2]) x.log
 O:=fun w base F v x=>∃u1 u2_1 u2_2 F1 F2,v =.agg #[.int .i64 x.idx,u1,u2_1,u2_2]∧balsR.O w base F1 u1 x.start∧loggR.O w base F2 (.agg #[u2_1,u2_2]) x.log∧(∀b,F1 b→¬F2 b)∧(∀b,F b↔(F1 b∨F2 b))
 below:=fun h hb=>by
  obtain⟨u1,u2_1,u2_2,rfl,h1,h2⟩:=h;exact⟨u1,u2_1,u2_2,rfl,balsR.below h1 hb,loggR.below h2 hb⟩
 ofO:=fun h=>by
  obtain⟨u1,u2_1,u2_2,F1,F2,rfl,h1,h2,_⟩:=h;exact⟨u1,u2_1,u2_2,rfl,balsR.ofO h1,loggR.ofO h2⟩
 mod:=fun h hm hd=>by
  obtain⟨u1,u2_1,u2_2,F1,F2,rfl,h1,h2,s12,hF⟩:=h;exact⟨u1,u2_1,u2_2,F1,F2,rfl,balsR.mod h1 hm (fun b hb=>hd b ((hF b).2 (.inl hb))),loggR.mod h2 hm (fun b hb=>hd b ((hF b).2 (.inr hb))),s12,hF⟩
 rng:=fun h b hb=>by
  obtain⟨u1,u2_1,u2_2,F1,F2,rfl,h1,h2,s12,hF⟩:=h;rcases(hF b).1 hb with hb|hb
  ·exact balsR.rng h1 b hb
  exact loggR.rng h2 b hb
 base:=fun h hb=>by
  obtain⟨u1,u2_1,u2_2,F1,F2,rfl,h1,h2,s12,hF⟩:=h;exact⟨u1,u2_1,u2_2,F1,F2,rfl,balsR.base h1 hb,loggR.base h2 hb,s12,hF⟩
def pM (x:Jrn):Nat:=qZ x.start+gJ x.log
def uW (x:Jrn):Nat:=mH x.start+yM x.log
def zM (k:Int) (x:Jrn):Jrn:={x with start:=fL9 k x.start,log:=fVg (k+mH x.start) x.log}
theorem fEc {w:World} {v:Value} {x:Jrn} (h:jrnR.V w v x):∃a1 a2_1 a2_2 c1 c2_1 c2_2,v =.agg #[iV x.idx,.slice a1 x.start.length c1,.slice a2_1 x.log.synced.length c2_1,.slice a2_2 x.log.loose.length c2_2]:=by
 obtain⟨u1,d,e,rfl,h1,h2⟩:=h;obtain⟨a1,c1,rfl⟩:=fQ h1;obtain⟨a2_1,a2_2,c2_1,c2_2,g⟩:=mJ h2;simp only[Value.agg.injEq,Array.mk.injEq,List.cons.injEq,and_true] at g;obtain⟨rfl,rfl⟩:=g;exact⟨_,_,_,_,_,_,rfl⟩
theorem fUw (d:Jrn):uW d≤3*pM d:=by
 unfold uW pM;have q1:=fPp d.start;have q2:=fX1 d.log;omega
theorem zF (x:Value) (d:Jrn) (w:World) (hx:jrnR.V w x d) (hn:pM d≤1048576) :
  cL 9 #[x] w fun e w'=>∃v F,e =.returned v∧jrnR.O w' w.heap.size F v d∧aa w w':=by
 obtain⟨u1,D,E,rfl,h1,h2⟩:=hx;unfold pM at hn;go_enter Tryz.func9,Tryz.ntmps9;go_wp2_with fail;refine(fMz _ d.start _ (balsR.below h1 hE) (by omega)).mono ?_;rintro e j ⟨v1,F1,rfl,G,k⟩;have a9:aa w j:=bS hE k;obtain⟨a1,n1,rfl⟩:=fQ (balsR.ofO G);obtain⟨c1,f1⟩:=bcell k;have z1:=k.size;simp at z1;have l1:=fun b hb=>balsR.rng G b hb
 simp at l1;replace G:=balsR.base (base':=w.heap.size+3) G (by simp;try omega);have H:cI j w.heap.size 0 d.idx:=cK k (by simp[go_sem]);have I:cW j w.heap.size 1 u1:=cK k (by simp[go_sem]);have J:cW j w.heap.size 2 D:=cK k (by simp[go_sem]);have K:cW j w.heap.size 3 E:=cK k (by simp[go_sem]);have L:cI j (w.heap.size+1) 0 0:=cK k (by simp[go_sem]);have M:cN j (w.heap.size+1) 1:=cK k (by simp[go_sem]);have N:cN j (w.heap.size+1) 2:=cK k (by simp[go_sem]);have R:cN j (w.heap.size+1) 3:=cK k (by simp[go_sem]);have T:cI j (w.heap.size+2) 0 d.idx:=cK k (by simp[go_sem]);have U:cN j (w.heap.size+2) 1:=cK k (by simp[go_sem]);have X:cN j (w.heap.size+2) 2:=cK k (by simp[go_sem]);have Y:cN j (w.heap.size+2) 3:=cK k (by simp[go_sem]);have Z:aq j (w.heap.size+1):=fun o=>by rw[f1 _ _ (by simp;try omega)];simp[go_sem]
 have t2:aq j (w.heap.size+2):=fun o=>by rw[f1 _ _ (by simp;try omega)];simp[go_sem]
 clear c1 f1;have z:=H;have A:=I;have B:=J;have C:=K;have q0:=L;have q1:=M;have q2:=N;have m:=R;have n:=T;have r:=U;have s:=X;have y:=Y;have qf:=Z;have pf:=t2;clear Z t2 H I J K L M N R T U X Y;clear k;go_wp2_with fail;refine(fZz _ d.log _ (loggR.below h2 qS) (by omega)).mono ?_;rintro e l ⟨v2,F2,rfl,o2,g⟩;have ad:aa w l:=bS qS g;have a0:=loggR.ofO o2;obtain⟨ab,ac,rfl,a2,a3⟩:=a0;obtain⟨a4,a5,rfl⟩:=fF a2;obtain⟨a6,a7,rfl⟩:=fF a3;obtain⟨c2,f2⟩:=bcell g;have z2:=g.size;simp at z2;have l2:=fun b hb=>loggR.rng o2 b hb
 simp at l2;replace o2:=loggR.base (base':=w.heap.size+3) o2 (by simp;try omega);have a8:∀F v x,balsR.O j (w.heap.size+3) F v x→balsR.O l (w.heap.size+3) F v x:=fun F v x o=>balsR.keep (by(repeat (first|refine Rep.set _ ?_ _ (by simp;omega)|refine Rep.set _ ?_ _ (by simp)|refine Rep.alloc _ ?_ _|assumption))) g
 replace G:=a8 _ _ _ G;clear a8;have H:cI l w.heap.size 0 d.idx:=cK g (by simp[go_sem,z,A,B,C,q0,q1,q2,m,n,r,s,y]);have I:cW l w.heap.size 1 u1:=cK g (by simp[go_sem,z,A,B,C,q0,q1,q2,m,n,r,s,y]);have J:cW l w.heap.size 2 D:=cK g (by simp[go_sem,z,A,B,C,q0,q1,q2,m,n,r,s,y]);have K:cW l w.heap.size 3 E:=cK g (by simp[go_sem,z,A,B,C,q0,q1,q2,m,n,r,s,y]);have L:cI l (w.heap.size+1) 0 0:=cK g (by simp[go_sem,z,A,B,C,q0,q1,q2,m,n,r,s,y]);have M:cN l (w.heap.size+1) 1:=cK g (by simp[go_sem,z,A,B,C,q0,q1,q2,m,n,r,s,y]);have N:cN l (w.heap.size+1) 2:=cK g (by simp[go_sem,z,A,B,C,q0,q1,q2,m,n,r,s,y]);have R:cN l (w.heap.size+1) 3:=cK g (by simp[go_sem,z,A,B,C,q0,q1,q2,m,n,r,s,y]);have T:cI l (w.heap.size+2) 0 d.idx:=cK g (by simp[go_sem,z,A,B,C,q0,q1,q2,m,n,r,s,y]);have U:ah l (w.heap.size+2) 1 a1 d.start.length n1:=cK g (by simp[go_sem,z,A,B,C,q0,q1,q2,m,n,r,s,y]);have X:cN l (w.heap.size+2) 2:=cK g (by simp[go_sem,z,A,B,C,q0,q1,q2,m,n,r,s,y]);have Y:cN l (w.heap.size+2) 3:=cK g (by simp[go_sem,z,A,B,C,q0,q1,q2,m,n,r,s,y]);have Z:aq l (w.heap.size+1):=fun o=>by rw[f2 _ _ (by simp;try omega)];simp[go_sem,qf]
 have t2:aq l (w.heap.size+2):=fun o=>by rw[f2 _ _ (by simp;try omega)];simp[go_sem,pf]
 clear z A B C q0 q1 q2 m n r s y qf pf;clear c2 f2;have z:=H;have A:=I;have B:=J;have C:=K;have q0:=L;have q1:=M;have q2:=N;have m:=R;have n:=T;have r:=U;have s:=X;have y:=Y;have qf:=Z;have pf:=t2;clear Z t2 H I J K L M N R T U X Y;clear g a9;go_wp2;refine bodyPost_ret (v:=.agg #[iV d.idx,.slice a1 d.start.length n1,.slice a4 d.log.synced.length a5,.slice a6 d.log.loose.length a7]) ?_ rfl ⟨_,fun b=>F1 b∨F2 b,rfl,⟨_,_,_,F1,F2,rfl,balsR.base (base:=w.heap.size+3) (by(repeat (first|refine Rep.set _ ?_ _ (by simp;omega)|refine Rep.set _ ?_ _ (by simp)|refine Rep.alloc _ ?_ _|assumption))) (by omega),loggR.base (base:=w.heap.size+3) (by(repeat (first|refine Rep.set _ ?_ _ (by simp;omega)|refine Rep.set _ ?_ _ (by simp)|refine Rep.alloc _ ?_ _|assumption))) (by omega),fun b p q=>by have:=(l1 b p).2;have:=(l2 b q).1;omega,fun b=>Iff.rfl⟩,qS⟩;simp[results,Tryz.results9,go_sem,q0,q1,q2,m,n,r,s,y,qf,pf]
theorem fPf (x:Value) (d:Jrn) (left:Int) (w:World) (hx:jrnR.V w x d) (h0:0≤left) (h1:left≤1048576) :
  cL 7 #[x,iV left] w fun e w'=>e =.returned (iV (rG left (pM d)))∧aa w w':=by
 obtain⟨u1,g,j,rfl,m,p⟩:=hx;go_enter Tryz.func7,Tryz.ntmps7;go_wp2_with fail;refine(fMw _ d.start left _ (balsR.below m hE) h0 h1).mono ?_;rintro e k ⟨rfl,l⟩;have q:cI k w.heap.size 0 d.idx:=cK l (by simp[go_sem]);have r:cW k w.heap.size 1 u1:=cK l (by simp[go_sem]);have s:cW k w.heap.size 2 g:=cK l (by simp[go_sem]);have y:cW k w.heap.size 3 j:=cK l (by simp[go_sem]);go_wp2_with fail
 ·rename_i h;go_ret;refine⟨?_,hE⟩;rw[yE (n:=qZ d.start) (by omega) (pM d) (by unfold pM;omega)];rfl
 rename_i h;refine(fZy _ d.log (rG left (qZ d.start:Nat)) _ (loggR.below p hE) (by omega) (by have:=fKq (n:=qZ d.start) h0;omega)).mono ?_;rintro e z ⟨rfl,A⟩;rw[fGh (n:=qZ d.start) (by omega)];go_wp2
 ·rename_i h;go_ret;refine⟨?_,hE⟩;rw[yE (n:=qZ d.start+gJ d.log) (by first|omega|(rw[Int.natCast_add];omega)) (pM d) (by unfold pM;omega)];rfl
 rename_i h;go_ret;exact⟨rfl,hE⟩
theorem fEz (x y:Value) (d d':Jrn) (w:World) (hx:jrnR.V w x d) (hy:jrnR.V w y d') :
  cL 11 #[x,y] w fun e w'=>e =.returned (.bool (decide (d=d')))∧aa w w':=by
 obtain⟨u1,m,n,rfl,h1,h2⟩:=hx;obtain⟨D,p,q,rfl,B,C⟩:=hy;obtain⟨z,l,A⟩:=d;obtain⟨r,g,s⟩:=d';dsimp only at h1 B h2 C;go_enter Tryz.func11,Tryz.ntmps11;go_wp2_with fail;all_goals try (go_ret;exact⟨by simp_all,hE⟩)
 refine(fDl _ _ l g _ (balsR.below h1 hE) (balsR.below B hE)).mono ?_;rintro e j ⟨rfl,k⟩;have E:cI j w.heap.size 0 z:=cK k (by simp[go_sem]);have F:cW j w.heap.size 1 u1:=cK k (by simp[go_sem]);have G:cW j w.heap.size 2 m:=cK k (by simp[go_sem]);have H:cW j w.heap.size 3 n:=cK k (by simp[go_sem]);have I:cI j (w.heap.size+1) 0 r:=cK k (by simp[go_sem]);have J:cW j (w.heap.size+1) 1 D:=cK k (by simp[go_sem]);have K:cW j (w.heap.size+1) 2 p:=cK k (by simp[go_sem]);have L:cW j (w.heap.size+1) 3 q:=cK k (by simp[go_sem]);go_wp2_with fail;all_goals try (go_ret;exact⟨by simp_all,hE⟩)
 refine(fZa _ _ A s _ (loggR.below h2 hE) (loggR.below C hE)).mono ?_;rintro e M ⟨rfl,N⟩;go_wp2;all_goals
  go_ret;exact⟨by simp_all,hE⟩
theorem fB2 (v:Value) (d:Jrn) (base:Nat) (F:Nat→Prop) (k:Int) (w:World) (ho:jrnR.O w base F v d) (hw:pM d≤1048576) (hn:k+uW d≤1073741824) (hk0:0≤k) :
  cL 15 #[v,iV k] w fun r w'=>r =.returned (iV (k+uW d))∧jrnR.O w' base F v (zM k d)∧Mod F w w':=by
 obtain⟨u1,l,m,s,x,rfl,h1,h2,g,B⟩:=ho;unfold pM at hw;unfold uW at hn ⊢;have y:Hid (∀b,F b↔(s b∨x b)):=B;clear B;go_enter Tryz.func15,Tryz.ntmps15;go_wp2_with fail;refine(fAz _ d.start base s k _ (balsR.alloc h1 _) (by omega) (by omega) (by omega)).mono ?_;rintro e n ⟨rfl,z,j⟩;have A:=loggR.mod (loggR.alloc h2 _) j (fun b p q=>g b q p);have E:cI n w.heap.size 0 d.idx:=j.cell (by simp[go_sem]) (nI balsR h1);have G:cW n w.heap.size 1 u1:=j.cell (by simp[go_sem]) (nI balsR h1);have H:cW n w.heap.size 2 l:=j.cell (by simp[go_sem]) (nI balsR h1);have I:cW n w.heap.size 3 m:=j.cell (by simp[go_sem]) (nI balsR h1);go_wp2_with fail;refine(fVf _ d.log base x (k+mH d.start) _ A (by omega) (by omega) (by omega)).mono ?_;rintro e J ⟨rfl,D,C⟩;replace z:=balsR.mod z C (fun b p q=>g b p q);go_wp2;go_ret;refine⟨?_,⟨_,_,_,s,x,rfl,z,D,g,y.out⟩,(((Mod.refl F w).alloc _).trans (j.mono (fun b hb=>(y.out b).2 (.inl hb)))).trans (C.mono (fun b hb=>(y.out b).2 (.inr hb)))⟩;simp;try omega
theorem fJv (v:Value) (d:Jrn) (k:Int) (w:World) (hv:jrnR.V w v (zM k d)) (hw:pM d≤1048576) (hn:k+uW d≤1073741824) (hk0:0≤k) :
  cL 42 #[v,iV k] w fun r w'=>r =.returned (iV (k+uW d))∧aa w w':=by
 obtain⟨u1,g,j,rfl,h1,h2⟩:=hv;unfold pM at hw;unfold uW at hn ⊢;go_enter Tryz.func42,Tryz.ntmps42;go_wp2_with fail;refine(fAy _ d.start k _ (balsR.below h1 hE) (by omega) (by omega) (by omega)).mono ?_;rintro e l ⟨rfl,m⟩;have n:cI l w.heap.size 0 d.idx:=cK m (by simp[go_sem,zM]);have p:cW l w.heap.size 1 u1:=cK m (by simp[go_sem,zM]);have q:cW l w.heap.size 2 g:=cK m (by simp[go_sem,zM]);have s:cW l w.heap.size 3 j:=cK m (by simp[go_sem,zM]);go_wp2_with fail;refine(fUq _ d.log (k+mH d.start) _ (loggR.below h2 hE) (by omega) (by omega) (by omega)).mono ?_;rintro e x ⟨rfl,y⟩;go_wp2;go_ret;refine⟨?_,hE⟩;simp;try omega
end Go.Proofs.YtpibfdebfacooaaGreat

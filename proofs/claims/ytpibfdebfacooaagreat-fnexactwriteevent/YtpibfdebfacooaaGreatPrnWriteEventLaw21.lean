import Derived.Test.YtpibfdebfacooaaGreatPrnWriteEventLaw20
import Derived.Deep.DeepCutAuto
import Derived.Deep.CutRange
set_option maxHeartbeats 8000000
set_option maxRecDepth 100000
set_option linter.all false
namespace Go.Proofs.YtpibfdebfacooaaGreat
open Go.RowKit
attribute [local go_sem ↓] Go.wp_at_zero Go.wp_at_succ
attribute [local go_sem] cI ah cN iV aj an
section
open Go.Shelf
variable [dQ Leg] [iH Leg] [dQ Cont] [iH Cont] [dQ Bal] [iH Bal] [dQ Ledg] [iH Ledg]
theorem fLw (g n c i vb:Nat) (cs vs:List Value) (w:World) (hi:i<n) (hnc:n≤c) (hroom:c<n+1) (hbig:n≤1048576)
  (hcl:cs.length=n*2) (hcs:∀j v,cs[j]? = some v→w.cell? ⟨g,j,none⟩=some v) (hvl:vs.length=2) (hv:w.heap[vb]? = some (.cells vs.toArray 57 (0,0))) (h1c:∀v ∈ cs,v.oneCell'=true) (h1v:∀v ∈ vs,v.oneCell'=true) :
  cL 200 #[.slice (some ⟨g,0,none⟩) n c,iV i,.slice (some ⟨vb,0,none⟩) 1 1] w fun e w'=>
   ∃G,e =.returned (.slice (some ⟨w.heap.size,0,none⟩) (n+1) G)∧∃cur':Array Value,w'.heap[w.heap.size]? = some (.cells cur' 57 (0,0))∧n+1≤G∧G≤maxLen∧cur'.size=G*2∧cur'.toList.take ((n+1)*2)=cs.take (i*2)++vs++cs.drop (i*2)∧Mod (fun _=>False) w w':=by
 obtain⟨i0,M,O,R,T⟩:=info_parts rQ;have a3:(Tryz.prog.info? 57).map (·.size)=some 2:=by rw[M];simp[R]
 have ar:¬((i:Int)=(n:Int)):=oM;have au:(c:Int)<(n:Int)+1:=oM;have av:g<w.heap.size:=wL w ⟨g,0,none⟩ (hcs 0 _ (List.getElem?_eq_getElem oM));have ac:vb<w.heap.size:=(Array.getElem?_eq_some_iff.1 hv).1;have a4:(n:Int)+1-(i:Int)=((n+1-i:Nat):Int):=oM;have U:i+(n+1-i)=n+1:=oM;obtain⟨Z,hZ⟩:∃Z:Value,Z =.agg #[iV 0,aj]:=⟨_,rfl⟩
 rw[←hZ] at O;have a5:Z.cells.size=2:=by rw[hZ];rfl
 have I:(Builtin.firstCells i0.size i (.slice (some ⟨g,0,none⟩) i c)).run Tryz.prog w.drew =.ok (cs.take (i*2)).toArray w.drew:=by
  rw[R];exact run_firstCells_some w.drew 2 i ⟨g,0,none⟩ i c (cs.take (i*2)) (by rw[List.length_take];omega) (fun j v p=>by
   rw[xP,Nat.zero_add];rw[List.getElem?_take] at p;split at p
   ·exact hcs j v p
   cases p)
 have s:∀x,(Builtin.append_ #[38,3] x #[.slice (some ⟨g,0,none⟩) i c,iV ((n:Int)+1-(i:Int))]).run Tryz.prog w =
   .ok (.slice (some ⟨w.heap.size,0,none⟩) (n+1) (grownCap w (n+1) c 57)) (w.drew.alloc (.cells ((cs.take (i*2)).toArray++Builtin.zeroCells Z.cells (n+1-i)++Builtin.zeroCells Z.cells (grownCap w (n+1) c 57-(n+1))) 57)):=fun x=>by
  have h:=Lib.run_append_grow_zeros w 38 3 x 57 i0 _ .i64 .i64 Tryz.underlying38 Tryz.underlying3 M O (some ⟨g,0,none⟩) i c (cs.take (i*2)) I (n+1-i) oM oM oM oM (by rw[T];omega) (by rw[T,U];exact growslice_fits hroom oM);rw[U] at h;rw[a4];exact h
 obtain⟨G,hG⟩:∃G,G=grownCap w (n+1) c 57:=⟨_,rfl⟩
 obtain⟨d,m⟩:∃d:Array Value,d=(cs.take (i*2)).toArray++Builtin.zeroCells Z.cells (n+1-i)++Builtin.zeroCells Z.cells (G-(n+1)):=⟨_,rfl⟩
 rw[←hG] at s;rw[←m] at s;have ad:n+1≤G:=by rw[hG];exact grownCap_ge w _ _ _
 have V:G≤maxLen:=by
  rw[hG];exact grownCap_le_maxLen w (n+1) c 57 (by unfold maxLen;omega)
 have X:d.size=G*2:=by
  rw[m];simp[Builtin.zeroCells,a5,List.length_take,hcl];omega
 have a6:d.toList.take (i*2)=cs.take (i*2):=by
  rw[m];simp only[Array.toList_append,List.append_assoc];rw[List.take_append_of_le_length (by simp[hcl];omega)];rw[List.take_of_length_le (by simp;omega)]
 obtain⟨q,C⟩:∃q,q=w.drew.alloc (.cells d 57):=⟨_,rfl⟩
 rw[←C] at s;have Y:q.heap[w.heap.size]? = some (.cells d 57 (0,0)):=by rw[C];exact fUo w.drew _
 have D:Mod (fun b=>b=w.heap.size) w q:=by
  rw[C];exact(Mod.of_below (Below.drew (bR _ _))).trans ((Mod.refl _ _).alloc _)
 have ae:q.heap[vb]? = some (.cells vs.toArray 57 (0,0)):=(D.block vb ac oM).trans hv;have a7:∀j v,cs[j]? = some v→q.cell? ⟨g,j,none⟩=some v:=fun j v p=>D.cell (hcs j v p) (by dsimp only;omega)
 obtain⟨l,E⟩:∃l:Array Value,l=(d.toList.take (i*2)++vs++d.toList.drop (i*2+vs.length)).toArray:=⟨_,rfl⟩
 have y:∀(W:World),W.heap[w.heap.size]? = some (.cells d 57 (0,0))→W.heap[vb]? = some (.cells vs.toArray 57 (0,0))→∀x dc,(Builtin.copy_ #[38,38] x #[.slice (some ⟨w.heap.size,i*2,none⟩) (n+1-i) dc,.slice (some ⟨vb,0,none⟩) 1 1]).run Tryz.prog W =.ok (goInt 1) (W.setRow w.heap.size l):=fun W a0 af x dc=>by
  rw[E];refine fCa W _ _ x 57 2 w.heap.size (i*2) (n+1-i) dc ⟨vb,0,none⟩ 1 1 1 d 57 vs Tryz.underlying38 a3 a0 (by simp only[Nat.min_def];split <;> omega) oM (fun j v p=>?_) (by rw[hvl,X];omega) h1v
  rw[xP];exact zP af (by simpa using p)
 have J:l.size=G*2:=by
  rw[E];simp only[List.size_toArray,List.length_append,List.length_take,List.length_drop,Array.length_toList];rw[X,hvl];omega
 have a8:(cs.drop (i*2)).length=(n-i)*2:=by rw[List.length_drop,hcl];omega
 obtain⟨r,F⟩:∃r:Array Value,r=(l.toList.take ((i+1)*2)++cs.drop (i*2)++l.toList.drop ((i+1)*2+(cs.drop (i*2)).length)).toArray:=⟨_,rfl⟩
 have z:∀(W:World),W.heap[w.heap.size]? = some (.cells l 57 (0,0))→(∀j v,cs[j]? = some v→W.cell? ⟨g,j,none⟩=some v)→∀x dl dc sl sc,dl=n-i→sl=n-i→(Builtin.copy_ #[38,38] x #[.slice (some ⟨w.heap.size,(i+1)*2,none⟩) dl dc,.slice (some ⟨g,i*2,none⟩) sl sc]).run Tryz.prog W =.ok (goInt ((n-i:Nat):Int)) (W.setRow w.heap.size r):=fun W a0 ag x dl dc sl sc e1 e2=>by
  rw[F];refine fCa W _ _ x 57 2 w.heap.size ((i+1)*2) dl dc ⟨g,i*2,none⟩ sl sc (n-i) l 57 (cs.drop (i*2)) Tryz.underlying38 a3 a0 (by simp only[Nat.min_def];split <;> omega) a8 (fun j v p=>?_) (by rw[a8,J];omega) (fun v hv=>h1c v (List.mem_of_mem_drop hv))
  rw[xP];rw[List.getElem?_drop] at p;exact ag _ v p
 have K:r.size=G*2∧r.toList.take ((n+1)*2)=cs.take (i*2)++vs++cs.drop (i*2):=by
  have a9:l.toList.take ((i+1)*2)=cs.take (i*2)++vs:=by
   rw[E,a6];simp only[];rw[List.take_append_of_le_length (by simp only[List.length_append,List.length_take,hcl,hvl];omega),List.take_of_length_le (by simp only[List.length_append,List.length_take,hcl,hvl];omega)]
  constructor
  ·rw[F];simp only[List.size_toArray,List.length_append,List.length_take,List.length_drop,Array.length_toList];rw[J,hcl];omega
  rw[F,a9];simp only[];rw[List.take_append_of_le_length (by simp only[List.length_append,List.length_take,List.length_drop,hcl,hvl];omega),List.take_of_length_le (by simp only[List.length_append,List.length_take,List.length_drop,hcl,hvl];omega)]
 have HF:Hid (r.size=G*2∧r.toList.take ((n+1)*2)=cs.take (i*2)++vs++cs.drop (i*2)):=K;have HG:Hid (n+1≤G∧G≤maxLen):=⟨ad,V⟩;have HM:Hid (Mod (fun b=>b=w.heap.size) w q):=D;have am:G≤9223372036854775807:=by unfold maxLen at V;omega
 clear K E F C m hG I X a6 V D a4 U M O hZ a5 R T;have aw:¬(G=i):=oM;have ao:¬(G=i+1):=oM;have ax:¬(c=i):=oM;have ay:IntKind.i64.wrap ((i:Int)+1)=(i:Int)+1:=by rw[IntKind.wrap_i64];omega
 have az:((i:Int)+1).toNat=i+1:=oM;have aA:(0:Int)≤(i:Int)+1:=oM;have aB:i≤n:=oM;have aC:(i:Int)≤(n:Int):=oM;have aD:(i:Int)≤(n:Int)+1:=oM;have aE:(i:Int)+1≤(n:Int)+1:=oM;obtain⟨N,hN⟩:∃N,N=w.heap.size:=⟨_,rfl⟩
 rw[←hN] at s Y y z ⊢;have HN:Hid (N=w.heap.size):=hN;clear hN;have a1:(q.setRow N l).heap[N]? = some (.cells l 57 (0,0)):=setRow_heap q N d l _ _ Y;have L:∀j v,cs[j]? = some v→(q.setRow N l).cell? ⟨g,j,none⟩=some v:=fun j v p=>(vU q N l).cell (a7 j v p) (by dsimp only;have:=HN.out;omega)
 obtain⟨W2,H⟩:∃W2,W2=q.setRow N l:=⟨_,rfl⟩
 rw[←H] at a1 L;have ak:Hid (Mod (fun b=>b=N) w W2):=by
  rw[Hid,H,HN.out];exact HM.out.trans (vU _ _ _)
 have A:=y q Y ae;rw[←H] at A;clear H y;have B:=z W2.drew a1 L;clear z;have ab:(W2.drew.setRow N r).heap[N]? = some (.cells r 57 (0,0)):=setRow_heap W2.drew N l r _ _ a1;obtain⟨W3,a2⟩:∃W3,W3=W2.drew.setRow N r:=⟨_,rfl⟩
 rw[←a2] at ab B;have al:Hid (Mod (fun _=>False) w W3):=by
  have h:Mod (fun b=>b=N) w W3:=by
   rw[a2];exact(ak.out.trans (Mod.of_below (Below.drew (bR _ _)))).trans (vU _ _ _)
  exact⟨h.os,h.tape,h.output,h.size,fun k hk _=>h.block k hk (by have:=HN.out;omega)⟩
 clear a2;go_enter Tryz.func200,Tryz.ntmps200;go_wp2_with (first
  | (at_builtin;refine Lib.wpList_append_run _ rfl _ _ _ _ rfl _ _ rfl rfl _ _ (s _) ?_)
  | (at_builtin;refine fNa _ rfl _ _ 38 38 rfl _ _ rfl rfl (A _ _) ?_))
 go_region_law (refine fIy rfl (.tmp 50) (.tmp 53) 38 38 rfl _ _ (by simp[Act.eval,Act.put]) (by simp[Act.eval,Act.put]) (B _ _ _ _ _ oM oM) ?_)
 go_wp2;go_ret;exact⟨G,rfl,r,ab,HG.out.1,HG.out.2,HF.out.1,HF.out.2,al.out⟩
theorem fNp {w:World} {base:Nat} {F:Nat→Prop} {u:Value} {x:Cont} (h:contR.O w base F u x):∃a c,u =.agg #[iV x.id,.slice a x.legs.length c]∧kS u=[iV x.id,.slice a x.legs.length c]:=by
 obtain⟨u1,d,rfl,h1,_⟩:=h;obtain⟨a,c,rfl⟩:=fD h1.1;exact⟨a,c,rfl,rfl⟩
theorem fLa {w:World} {base:Nat} {F:Nat→Prop} {u:Value} {x:Cont} (h:contR.O w base F u x):(kS u).length=2∧∀y ∈ kS u,y.oneCell'=true:=by
 obtain⟨a,c,rfl,e⟩:=fNp h;rw[e];refine⟨rfl,fun y hy=>?_⟩;simp at hy;rcases hy with rfl|rfl <;> rfl
theorem fLb {w:World} {base:Nat} {v:Value} {n:Nat} {d:Nat→Cont} {cs:List Value} {us:Nat→Value} {fs:Nat→Nat→Prop} (hp:PO contR 57 2 kS w base v n n d cs us fs):∀y ∈ cs,y.oneCell'=true:=by
 intro y hy;obtain⟨k,g,rfl⟩:=List.getElem_of_mem hy;have j:cs.length=n*2:=hp.row.1;have h1:=hp.cell (k / 2) oM (k % 2) oM;have e:k / 2*2+k % 2=k:=oM;rw[e,List.getElem?_eq_getElem g] at h1;exact(fLa (hp.el (k / 2) oM)).2 _ (List.mem_of_getElem? h1.symm)
theorem fN6 (base:Nat) (v:Value) (i vb:Nat) (xs:List Cont) (u:Value) (x:Cont) (F Fu:Nat→Prop) (w:World) (hown:contsR.O w base F v xs) (hi:i≤xs.length) (hn:xs.length≤1048000) (hbase:base≤w.heap.size)
  (hu:contR.O w base Fu u x) (hd:∀b,F b→¬Fu b) (hv:w.heap[vb]? = some (.cells (kS u).toArray 57 (0,0))) (hvb:v.ownBlock≠some vb) :
  cL 200 #[v,iV i,.slice (some ⟨vb,0,none⟩) 1 1] w fun e w'=>
   ∃v' F',e =.returned v'∧contsR.O w' base F' v' (xs.take i++[x]++xs.drop i)∧Mod (fun b=>v.ownBlock=some b) w w'∧(∀b,F' b→F b∨Fu b∨w.heap.size≤b):=by
 obtain⟨cs,us,fs,E,R⟩:=hown;have q:cs.length=xs.length*2:=E.row.1;obtain⟨d,r⟩:=fLa hu;have z:=fLb E;have hown:=E.row;have s:∀(v':Value) (w':World),w'.ownsRow base 57 2 v' (xs.length+1) (cs.take (i*2)++kS u++cs.drop (i*2))→Mod (fun b=>v.ownBlock=some b) w w'→(∀b,v'.ownBlock=some b→v.ownBlock=some b∨w.heap.size≤b) →
   ∃F',contsR.O w' base F' v' (xs.take i++[x]++xs.drop i)∧(∀b,F' b→F b∨Fu b∨w.heap.size≤b):=fun v' w' h1 h2 k=>NO.ins E R hi hu d hd h1 h2 k
 by_cases I:i=xs.length
 ·
  subst I;refine(fN7 base v xs.length vb cs (kS u) w hown oM hbase d hv r).mono ?_;rintro e w' ⟨v',rfl,h1,h2,k⟩;have y:∀b,v'.ownBlock=some b→v.ownBlock=some b∨w.heap.size≤b:=fun b hb=>by
   rcases k with k|k
   ·exact .inl (k▸hb)
   rw[k] at hb;simp only[Option.some.injEq] at hb;exact .inr oM
  obtain⟨F',A,B⟩:=s v' w' (by rw[List.take_of_length_le oM,List.drop_of_length_le oM,List.append_nil];exact h1) (Mod.of_grown h2) y;exact⟨v',F',rfl,A,Mod.of_grown h2,B⟩
 rcases hown.2 with ⟨_,h0⟩|⟨g,cap,cur,rfl,J,K,L,C,M,l⟩
 ·omega
 have N:vb≠g:=fun e=>hvb (by rw[e];rfl)
 have T:g<w.heap.size:=(Array.getElem?_eq_some_iff.1 K).1;have p:(cs.take (i*2)++kS u++cs.drop (i*2)).length=(xs.length+1)*2:=by
  simp only[List.length_append,List.length_take,List.length_drop,d,q];omega
 by_cases m:xs.length+1≤cap
 ·refine(fJ3 g xs.length cap i vb cs (kS u) cur w K oM m (by unfold maxLen at C;omega) N M q l d hv z r).mono ?_;rintro e w' ⟨rfl,n,h1,h2,k,y⟩;obtain⟨F',A,B⟩:=s (.slice (some ⟨g,0,none⟩) (xs.length+1) cap) w' ⟨p,.inr ⟨g,cap,n,rfl,J,h1,m,C,h2,k⟩⟩ (y.mono (fun b h=>by rw[h];rfl)) (fun b hb=>.inl hb);exact⟨_,F',rfl,A,y.mono (fun b h=>by rw[h];rfl),B⟩
 refine(fLw g xs.length cap i vb cs (kS u) w oM L oM oM q (fun j v H=>?_) d hv z r).mono ?_
 ·
  refine zP K ?_;rw[←l,List.getElem?_take] at H;split at H
  ·exact H
  cases H
 rintro e w' ⟨G,rfl,n,h1,h2,k,y,A,B⟩;have D:Mod (fun b=>(Value.slice (some ⟨g,0,none⟩) xs.length cap).ownBlock=some b) w w':=B.mono (fun b h=>h.elim);obtain⟨F',U,V⟩:=s (.slice (some ⟨w.heap.size,0,none⟩) (xs.length+1) G) w' ⟨p,.inr ⟨w.heap.size,G,n,rfl,hbase,h1,h2,k,y,A⟩⟩ D (fun b hb=>by simp only[Value.ownBlock,Option.some.injEq] at hb;exact .inr oM);exact⟨_,F',rfl,U,D,V⟩
end
section
variable [dQ Rw] [iH Rw] [dQ Bal] [iH Bal] [dQ Ledg] [iH Ledg] [dQ Leg] [iH Leg] [dQ Cont] [iH Cont] [dQ LedgR] [iH LedgR] [dQ OutcR] [iH OutcR] [dQ Mrk] [iH Mrk] [dQ Shd] [iH Shd] [dQ ShdR] [iH ShdR]
def rC (d:Shd) (c:Cont):Int:=if shdF d=0 then (if fA c.id c.legs=0 then (if (onSh d.idx c.legs).length=0 then 4 else 0) else fA c.id c.legs) else shdF d
theorem fEv {w:World} {base:Nat} {F:Nat→Prop} {v:Value} {xs:List Cont} (h:contsR.O w base F v xs) {b:Nat} (e:v.ownBlock=some b):F b:=by
 obtain⟨cs,us,fs,g,d⟩:=h;exact(d b).2 (.inl e)
def zK (d:Shd) (c:Cont):Shd:=⟨d.idx,d.bals,d.votes,putC d.held c,d.done,d.appl⟩
def fYz (d:Shd) (c:Cont) (w:World) (e:Ending) (w':World):Prop:=
 ((kV d c=true∧∃v F,e =.returned v∧shdR.O w' w.heap.size F v (zK d c))∨(kV d c=false∧∃q,e =.panicked [{v:=refV q,recovered:=false}]))∧aa w w'
theorem apartC_ready {d:Shd} {c:Cont}:(xA d.idx d.held c.legs=0↔d.held.any (xJ d c)=false):=by
 unfold xA;rw[fDi];constructor
 ·
  intro h;cases e:d.held.any (xJ d c) with
  | false=>rfl
  | true=>
   rw[if_pos (by unfold xJ at e;exact e)] at h;omega
 intro h;unfold xJ at h;rw[h];rfl
structure ShdOk (d:Shd):Prop where
 base:qA d.idx d.bals=0
 ls:LsOk d
 held:HeldOk d
theorem xH {d:Shd} (h:shdF d=0):ShdOk d:=by
 have h0:mG d=0:=by
  unfold shdF at h;split at h
  ·assumption
  rename_i h1;exact absurd h h1
 obtain⟨h1,h2,e⟩:=fL6 h0;exact⟨h1,h2,e⟩
theorem fAg {bs:List Bal} (h:gZ bs=0):bs.length≤1000000:=by
 have:=(uK h).len;omega
theorem fTt (x y:Value) (d:Shd) (c:Cont) (w:World) (hx:shdR.V w x d) (hy:contR.V w y c) :
  RI 173 #[x,y] w (iV (rC d c)):=by
 have q:Hid (bW w fun W=>RI 179 #[x] W (iV (shdF d))):=fun W r=>fDn x d W (shdR.below hx r)
 obtain⟨J,rfl,hy⟩:=hy;have s:Hid (bW w fun W=>RI 142 #[.agg #[iV c.id,J]] W (iV (fA c.id c.legs))):=fun W r=>rP c.id J c.legs W (legsR.below hy r)
 have z:Hid (bW w fun W=>fA c.id c.legs=0→cL 192 #[J,iV d.idx] W fun e w'=>∃v,e =.returned v∧w'.ownsRow W.heap.size 168 4 v (onSh d.idx c.legs).length (gT (onSh d.idx c.legs))∧aa W w'):=fun W r j=>yA J c.legs d.idx W (legsR.below hy r) (by have:=fDk j;omega)
 obtain⟨a1,a2,a3,a4,a5,c1,c2,c3,c4,c5,rfl⟩:=fCe hx;obtain⟨ax,cx,rfl⟩:=kK hy;clear hx hy;have A:Hid (¬shdF d=0→rC d c=shdF d):=fun h=>by unfold rC;rw[if_neg h]
 have B:Hid (shdF d=0→¬fA c.id c.legs=0→rC d c=fA c.id c.legs):=fun h h1=>by unfold rC;rw[if_pos h,if_neg h1]
 have C:Hid (shdF d=0→fA c.id c.legs=0→(onSh d.idx c.legs).length=0→rC d c=4):=fun h h1 h2=>by unfold rC;rw[if_pos h,if_pos h1,if_pos h2]
 have D:Hid (shdF d=0→fA c.id c.legs=0→¬(onSh d.idx c.legs).length=0→rC d c=0):=fun h h1 h2=>by unfold rC;rw[if_pos h,if_pos h1,if_neg h2]
 generalize d.bals.length=n1 at *;generalize d.votes.length=n2 at *;generalize d.held.length=n3 at *;generalize d.done.length=n4 at *;generalize d.appl.length=n5 at *;generalize c.legs.length=nx at *;generalize rC d c=Z at *;generalize shdF d=L at *;generalize fA c.id c.legs=M at *;go_enter Tryz.func173,Tryz.ntmps173;go_wp2_with fail;refine(q.out _ hE).mono ?_;rintro e n ⟨rfl,g⟩;have E:=bT w g;have N:cI n w.heap.size 0 d.idx:=cK g sG;have O:ah n w.heap.size 1 a1 n1 c1:=cK g sG;have R:ah n w.heap.size 2 a2 n2 c2:=cK g sG;have T:ah n w.heap.size 3 a3 n3 c3:=cK g sG;have U:ah n w.heap.size 4 a4 n4 c4:=cK g sG;have X:ah n w.heap.size 5 a5 n5 c5:=cK g sG;have Y:cI n (w.heap.size+1) 0 c.id:=cK g sG;have x1:ah n (w.heap.size+1) 1 ax nx cx:=cK g sG;clear g q;by_cases k:L=0;rotate_left
 ·
  have HC:=A.out k;have F:(L !=0)=true:=by simp[k]
  go_wp2;go_ret;exact⟨by rw[HC] <;> rfl,hE⟩
 have F:(L !=0)=false:=by simp[k]
 go_wp2_with fail;refine(s.out _ E).mono ?_;rintro e w2 ⟨rfl,p⟩;have G:aa w w2:=bS E p;refine kR8 p ?_ N O R T U X Y x1;clear N O R T U X Y x1;intro N O R T U X Y x1;by_cases j:M=0;rotate_left
 ·
  have HC:=B.out k j;have H:(M !=0)=true:=by simp[j]
  go_wp2;go_ret;exact⟨by rw[HC] <;> rfl,hE⟩
 have H:(M !=0)=false:=by simp[j]
 go_wp2_with fail;refine(z.out _ G j).mono ?_;rintro e w3 ⟨v3,rfl,o3,I⟩;obtain⟨a6,c6,rfl⟩:=fD o3;have a7:aa w w3:=bS G I;have l:Hid ((onSh d.idx c.legs).length=0→Z=4):=fun h=>C.out k j h
 have m:Hid (¬(onSh d.idx c.legs).length=0→Z=0):=fun h=>D.out k j h
 clear o3 A B C D z s k j I p;generalize (onSh d.idx c.legs).length=nl at *;by_cases K:nl=0
 ·
  have HC:=l.out K;have a0:((nl:Int)==0)=true:=by simp[K]
  clear l m;go_wp2;go_ret;exact⟨by rw[HC] <;> rfl,hE⟩
 have HC:=m.out K;have a0:((nl:Int)==0)=false:=by simpa using K
 clear l m;go_wp2;go_ret;exact⟨by rw[HC] <;> rfl,hE⟩
theorem fN1 (x y:Value) (d:Shd) (c:Cont) (w:World) (hx:shdR.V w x d) (hy:contR.V w y c) (hok:ShdOk d) (hcf:fA c.id c.legs=0) :
  cL 178 #[x,y] w (fYz d c w):=by
 have aD:Hid (bW w fun W=>RI 195 #[x,iV c.id] W (.bool (fK c.id d.done !=0))):=fun W T=>fH3 x d c.id W (shdR.below hx T) (by have:=hok.ls.nd;omega) hok.ls.od
 have Z:Hid (bW w fun W=>cL 198 #[x] W fun e w'=>∃b,e =.returned (.agg #[iV 3,.map (some b)])∧W.heap.size≤b∧Book w' b 54 (mE (mR d.idx d.bals))∧aa W w'):=fun W T=>zO x d W (shdR.below hx T) hok.base
 have a0:Hid (bW w fun W=>cL 68 #[x] W fun e w'=>∃v F,e =.returned v∧shdR.O w' W.heap.size F v d∧aa W w'):=fun W T=>vN x d W (shdR.below hx T) ⟨by have:=fAg (pE hok.base).2;omega,by have:=hok.ls.nv;omega,by have:=hok.ls.nh;omega,by have:=hok.ls.nd;omega,by have:=hok.ls.na;omega⟩ (fun k hk=>by have:=hok.held.len hk;omega)
 have aE:Hid (bW w fun W=>cL 114 #[y] W fun e w'=>∃v F,e =.returned v∧contR.O w' W.heap.size F v c∧aa W w'):=fun W T=>fEw y c W (contR.below hy T) (by have:=fDk hcf;omega)
 obtain⟨uy,rfl,hy⟩:=hy;obtain⟨u1,u2,u3,u4,u5,rfl,h1,h2,h3,h4,h5⟩:=hx;have a6:Hid (bW w fun W=>cL 196 #[iV d.idx,u3,.agg #[iV c.id,uy]] W (fGv (xA d.idx d.held c.legs) W)):=fun W T=>fBx d.idx c.id u3 uy d.held c.legs W (contsR.below h3 T) (legsR.below hy T) (by have:=fDk hcf;omega)
 have af:Hid (∀W b,aa w W→Book W b 54 (mE (mR d.idx d.bals))→cL 197 #[iV d.idx,.agg #[iV 3,.map (some b)],.agg #[iV c.id,uy]] W (fGv (yK d.bals (onSh d.idx c.legs)) W)):=fun W b T hb=>zU d.idx c.id b uy d.bals c.legs W hb (legsR.below hy T) (by have:=fDk hcf;omega) (pE hok.base).1 (pE hok.base).2 (fPq hcf)
 have ag:Hid (∀W v,contsR.V W v d.held→cL 199 #[v,iV c.id] W (PlC d.held c.id W)):=fun W v hv=>xM v d.held c.id W hv (by have:=hok.ls.nh;omega) hok.held.rise
 have ak:Hid (∀i,i≤d.held.length→(∀k,k<i→(d.held.getD k default).id<c.id)→(∀k,i≤k→k<d.held.length→c.id≤(d.held.getD k default).id)→putC d.held c=d.held.take i++[c]++d.held.drop i):=fun i hi h1 h2=>by
  unfold putC;rw[fOz hi h1 (fun h=>by have:=h2 i (Nat.le_refl _) h;omega)]
 have al:Hid (¬fK c.id d.done=0→kV d c=false):=fun h=>fF0 h
 have am:Hid (¬xA d.idx d.held c.legs=0→kV d c=false):=fun h=>fDt (by
  cases e:d.held.any (xJ d c) with
  | true=>rfl
  | false=>exact absurd (apartC_ready.2 e) h)
 have a8:Hid (¬yK d.bals (onSh d.idx c.legs)=0→kV d c=false):=fun h=>fIs h
 have ao:Hid (fK c.id d.done=0→xA d.idx d.held c.legs=0→yK d.bals (onSh d.idx c.legs)=0→kV d c=true):=fun h1 h2 h3=>fMi h1 h3 (apartC_ready.1 h2)
 have b2:Hid (d.held.length≤1000):=by have:=hok.ls.nh;show _≤_;omega
 obtain⟨a1,c1,rfl⟩:=fQ h1;obtain⟨a2,c2,rfl⟩:=fH h2;obtain⟨a3,c3,rfl⟩:=fM h3;obtain⟨a4,c4,rfl⟩:=fH h4;obtain⟨a5,c5,rfl⟩:=gL h5;obtain⟨ax,cx,rfl⟩:=kK hy;clear h1 h2 h3 h4 h5 hy hok hcf;obtain⟨n3,aF⟩:∃n3,n3=d.held.length:=⟨_,rfl⟩
 have HN:Hid (d.held.length=n3):=aF.symm;rw[←aF] at a6 aD Z a0 ⊢;clear aF;generalize aK:d.bals.length=n1 at *;generalize aL:d.votes.length=n2 at *;generalize aM:d.done.length=n4 at *;generalize aN:d.appl.length=n5 at *;have ar:Hid (d.bals.length=n1∧d.votes.length=n2∧d.done.length=n4∧d.appl.length=n5):=⟨aK,aL,aM,aN⟩;clear aK aL aM aN;generalize aO:c.legs.length=nx at *;have b3:Hid (c.legs.length=nx):=aO;clear aO;generalize xA d.idx d.held c.legs=ca at *;generalize yK d.bals (onSh d.idx c.legs)=cl at *;generalize fK c.id d.done=fd at *;go_enter Tryz.func178,Tryz.ntmps178;go_wp2_with fail;refine(aD.out _ hE).mono ?_;rintro e R ⟨rfl,g⟩;have au:=bT w g;have aP:=g.size;simp at aP;have y0:cI R w.heap.size 0 d.idx:=cK g sG;have y1:ah R w.heap.size 1 a1 n1 c1:=cK g sG;have y2:ah R w.heap.size 2 a2 n2 c2:=cK g sG;have y3:ah R w.heap.size 3 a3 n3 c3:=cK g sG;have y4:ah R w.heap.size 4 a4 n4 c4:=cK g sG;have y5:ah R w.heap.size 5 a5 n5 c5:=cK g sG;have B:cI R (w.heap.size+1) 0 c.id:=cK g sG;have C:ah R (w.heap.size+1) 1 ax nx cx:=cK g sG;have H:cI R (w.heap.size+2) 0 0:=cK g sG;have I:cN R (w.heap.size+2) 1:=cK g sG;have J:cN R (w.heap.size+2) 2:=cK g sG
 have L:cN R (w.heap.size+2) 3:=cK g sG;have M:cN R (w.heap.size+2) 4:=cK g sG;have N:cN R (w.heap.size+2) 5:=cK g sG;have rf:aq R (w.heap.size+2):=ap g;clear g aD;by_cases ab:fd=0;rotate_left
 ·
  have HC:=al.out ab;have aA:(fd !=0)=true:=by simp[ab]
  clear al am a8 ao ak ag a6 af a0 aE Z;go_wp2;first|exact⟨.inr ⟨HC,1,rfl⟩,au⟩|exact⟨rfl,.inr ⟨HC,1,rfl⟩,au⟩
 have aA:(fd !=0)=false:=by simp[ab]
 go_wp2_with fail;refine(a6.out _ au).mono ?_;rintro e w2 ⟨he,ac⟩;have D:aa w w2:=bS au ac;rcases he with ⟨av,rfl⟩|⟨av,rfl⟩
 rotate_left
 ·have HC:=am.out av;clear al am a8 ao ak ag a6 af a0 aE Z;first|exact⟨.inr ⟨HC,_,rfl⟩,D⟩|exact⟨rfl,.inr ⟨HC,_,rfl⟩,D⟩
 refine kR14 ac ?_ y0 y1 y2 y3 y4 y5 B C H I J L M N;clear y0 y1 y2 y3 y4 y5 B C H I J L M N;intro y0 y1 y2 y3 y4 y5 B C H I J L M N;replace rf:=ai ac oM rf;have b4:w.heap.size+2<w2.heap.size:=by have:=ac.size;omega
 clear a6 ac aP;go_wp2;refine uF [] 2 (an w.heap.size) (fun c' W=>∃q,c'=[{v:=refV q,recovered:=false}]∧kV d c=false∧aa w W) ?_ ?_
 ·rintro c' a W hd ht ⟨q,rfl,hz,hb⟩;first|exact⟨hd,.inr ⟨hz,q,rfl⟩,hb⟩|exact⟨.inr ⟨hz,q,rfl⟩,hb⟩|(show bodyPost _ _ _ _ _;exact⟨hd,.inr ⟨hz,q,rfl⟩,hb⟩)
 refine fB (fun W=>aa w2 W∧cI W w.heap.size 0 d.idx∧ah W w.heap.size 1 a1 n1 c1∧ah W w.heap.size 2 a2 n2 c2∧ah W w.heap.size 3 a3 n3 c3∧ah W w.heap.size 4 a4 n4 c4∧ah W w.heap.size 5 a5 n5 c5∧cI W (w.heap.size+1) 0 c.id∧ah W (w.heap.size+1) 1 ax nx cx) 6 kF ⟨hE,cK hE y0,cK hE y1,cK hE y2,cK hE y3,cK hE y4,cK hE y5,cK hE B,cK hE C⟩ (fun hS=>?_);refine mU (i:=0) (v:=?_) rfl kF kF kF kF (fun _ _ _=>PanicAs.put (by decide)) (by rfl) hS ?_ ?_;rotate_left
 ·intro wS hSw;(try dsimp only at hSw);go_simp;try with_reducible rfl
 try simp only[jX]
 refine mU (i:=1) (v:=?_) rfl kF kF kF kF (fun _ _ _=>PanicAs.put (by decide)) (by rfl) hS ?_ ?_;rotate_left
 ·intro wS hSw;(try dsimp only at hSw);go_simp;try with_reducible rfl
 try simp only[jX]
 refine mU (i:=2) (v:=?_) rfl kF kF kF kF (fun _ _ _=>PanicAs.put (by decide)) (by rfl) hS ?_ ?_;rotate_left
 ·intro wS hSw;(try dsimp only at hSw);go_simp;try with_reducible rfl
 try simp only[jX]
 refine mU (i:=4) (v:=?_) rfl kF kF kF kF (fun _ _ _=>PanicAs.put (by decide)) (by rfl) hS ?_ ?_;rotate_left
 ·intro wS hSw;(try dsimp only at hSw);go_simp;try with_reducible rfl
 try simp only[jX]
 refine uS 3 rfl (fun K s=>?_);go_simp;refine(Z.out _ (bS D hS.1)).mono ?_;rintro e w3 ⟨b,rfl,b5,aQ,aG⟩;have aB:aa w2 w3:=bS hS.1 aG;have j:=And.intro aB (kS8 aG hS.2);refine s _ _ (fun _=>j) ?_;clear s K hS aG;have hS:=j;clear j;try simp only[jX]
 refine uS 5 rfl (fun K s=>?_);go_simp;refine(af.out _ b (bS D hS.1) aQ).mono ?_;rintro e U ⟨he,aH⟩;have l:aa w2 U:=bS hS.1 aH;rcases he with ⟨ad,rfl⟩|⟨ad,rfl⟩
 rotate_left
 ·first|exact⟨rfl,rfl,⟨cl,rfl⟩,a8.out ad,bS D l⟩|exact⟨rfl,rfl,cl,rfl,a8.out ad,bS D l⟩
 have j:=And.intro l (kS8 aH hS.2);refine s _ _ (fun _=>j) ?_;clear s K hS aH;have hS:=j;clear j;try simp only[jX]
 refine vY kF ?_;refine PanicAs.normal ?_;have b6:Hid (kV d c=true):=ao.out ab av ad;have aR:aa w U:=bS D l;refine kR14 l ?_ y0 y1 y2 y3 y4 y5 B C H I J L M N;clear y0 y1 y2 y3 y4 y5 B C H I J L M N;intro y0 y1 y2 y3 y4 y5 B C H I J L M N;replace rf:=ai l oM rf;have ba:w.heap.size+2<U.heap.size:=by have:=l.size;omega
 clear al am a8 ao af Z ab av ad aQ b5 aB hS D b4 l aA;go_wp2_with fail;refine(a0.out _ aR).mono ?_;rintro e z ⟨v5,F5,rfl,o5,ae⟩;obtain⟨e1,e2,e3,e4,e5,f1,f2,f3,f4,f5,rfl⟩:=mW o5;rw[ar.out.1,ar.out.2.1,ar.out.2.2.1,ar.out.2.2.2,HN.out] at o5 ⊢;have aw:Hid (shdR.O z U.heap.size F5 (.agg #[iV d.idx,.slice e1 n1 f1,.slice e2 n2 f2,.slice e3 n3 f3,.slice e4 n4 f4,.slice e5 n5 f5]) d):=o5;have aS:aa w z:=bS aR ae;refine kR8 ae ?_ B C H I J L M N;clear B C H I J L M N;intro B C H I J L M N;replace rf:=ai ae oM rf;have b9:=ae.size;have bb:w.heap.size+1<z.heap.size:=oM;have bc:w.heap.size+2<z.heap.size:=oM;clear o5 a0 ae y0 y1 y2 y3 y4 y5;have aC:Hid (bW z fun W=>cL 199 #[.slice e3 n3 f3,iV c.id] W (PlC d.held c.id W)):=fun W T=>by
  obtain⟨X,h3,_⟩:=xI aw.out;exact ag.out W _ (contsR.below (contsR.ofO h3) T)
 go_wp2_with fail;refine(aC.out _ hE).mono ?_;rintro e p ⟨i,hi,rfl,p1,p2,r⟩;have HP:Hid (putC d.held c=d.held.take i++[c]++d.held.drop i):=ak.out i hi p1 p2;have HI:Hid (i≤d.held.length):=hi;have z0:cI p z.heap.size 0 d.idx:=cK r sG;have z1:ah p z.heap.size 1 e1 n1 f1:=cK r sG;have z2:ah p z.heap.size 2 e2 n2 f2:=cK r sG;have z3:ah p z.heap.size 3 e3 n3 f3:=cK r sG;have z4:ah p z.heap.size 4 e4 n4 f4:=cK r sG;have z5:ah p z.heap.size 5 e5 n5 f5:=cK r sG;have zf:aq p z.heap.size:=ap r;have E:=bT z r;have b7:z.heap.size<p.heap.size:=by have:=r.size;simp at this;omega
 have aI:aa w p:=bS aS E;refine kR8 E ?_ B C H I J L M N;clear B C H I J L M N;intro B C H I J L M N;replace rf:=ai E oM rf;obtain⟨X,o3,aT,LN⟩:=xI (shdR.keep aw.out E);have HR:Hid (∀b,F5 b→U.heap.size≤b∧b<z.heap.size):=fun b hb=>shdR.rng aw.out b hb
 have ay:Hid (contsR.O p U.heap.size X (.slice e3 n3 f3) d.held):=o3;have Y:Hid (∀b,X b→U.heap.size≤b∧b<z.heap.size):=fun b hb=>HR.out b (aT b hb)
 have aU:Hid (∀(w':World) (aV:Nat→Prop) (v:Value) (ys:List Cont),contsR.O w' U.heap.size aV v ys→Mod X p w'→(∀b,aV b→X b∨p.heap.size≤b)→∃F',shdR.O w' U.heap.size F' (.agg #[iV d.idx,.slice e1 n1 f1,.slice e2 n2 f2,v,.slice e4 n4 f4,.slice e5 n5 f5]) ⟨d.idx,d.bals,d.votes,ys,d.done,d.appl⟩∧∀b,F' b→F5 b∨p.heap.size≤b):=LN;generalize decide (i<d.held.length∧(d.held.getD i default).id=c.id)=bd at *;clear LN o3 aT aw ag aC ak r E hi p1 p2 aS;go_wp2;refine wp_region_noPanic ?_;have G:aa p p.drew:=hE;refine fB (fun W=>Mod X p W∧ah W z.heap.size 3 e3 n3 f3∧cI W (w.heap.size+1) 0 c.id∧ah W (w.heap.size+1) 1 ax nx cx) 8 kF ⟨Mod.of_below G,cK G z3,cK G B,cK G C⟩ (fun hS=>?_);refine tY 0 ?_;refine tY 1 ?_;refine tY 2 ?_;refine tY 3 ?_;refine uS 4 rfl (fun K s=>?_);go_simp;refine(aE.out _ (bS aI G)).mono ?_;rintro e w7 ⟨v7,F7,rfl,o7,aW⟩;obtain⟨a7,c7,rfl⟩:=xW o7;rw[b3.out] at o7 ⊢;have A:aa p w7:=bS G aW;have j:=And.intro (Mod.of_below (F:=X) A) (And.intro (cK A z3) (And.intro (cK A B) (cK A C)));refine s _ _ (fun _=>j) ?_;clear s K hS j;have HU:Hid (contR.O w7 U.heap.size F7 (.agg #[iV c.id,.slice a7 nx c7]) c):=contR.base o7 (by have:=G.size;omega);have aJ:Hid (∀b,F7 b→p.heap.size≤b∧b<w7.heap.size):=fun b hb=>by have:=contR.rng o7 b hb;have:=G.size;omega
 clear o7 aW;try simp only[jX]
 refine uS 5 rfl (fun K s=>?_);go_simp;obtain⟨w8,az⟩:∃w8,w8=w7.alloc (.cells #[iV c.id,.slice a7 nx c7] 57):=⟨_,rfl⟩
 rw[←az];have aX:w8.heap[w7.heap.size]? = some (.cells (kS (.agg #[iV c.id,.slice a7 nx c7])).toArray 57 (0,0)):=by rw[az];exact World.alloc_heap_new w7 _
 have aY:aa w7 w8:=by rw[az];exact hE
 clear az;have m:aa p w8:=bS A aY;have j:=And.intro (Mod.of_below (F:=X) m) (And.intro (cK m z3) (And.intro (cK m B) (cK m C)));refine s _ _ (fun _=>j) ?_;clear s K j;try simp only[jX]
 refine uS 6 rfl (fun K s=>?_);go_simp;refine(fN6 U.heap.size (.slice e3 n3 f3) i w7.heap.size d.held (.agg #[iV c.id,.slice a7 nx c7]) c X F7 w8 (contsR.keep ay.out m) HI.out (by have:=b2.out;omega) (by have:=m.size;omega) (contR.keep HU.out aY) (fun b h1 h2=>by have:=Y.out b h1;have:=aJ.out b h2;omega) aX (fun e=>by have:=Y.out _ (fEv ay.out e);have:=A.size;omega)).mono ?_;rintro e w9 ⟨v9,F9,rfl,o9,m9,l9⟩;have n:Mod X p w9:=(Mod.of_below m).trans (m9.mono (fun b hb=>fEv ay.out hb));rw[←HP.out] at o9;obtain⟨F',o',aZ⟩:=aU.out w9 F9 v9 _ o9 n (fun b hb=>by
  rcases l9 b hb with h|h|h
  ·exact .inl h
  ·exact .inr (aJ.out b h).1
  exact .inr (by have:=m.size;omega))
 have nz:¬X z.heap.size:=fun h=>by have:=(Y.out _ h).2;omega
 have nr:¬X (w.heap.size+2):=fun h=>by have:=(Y.out _ h).1;omega
 have b0:¬X (w.heap.size+1):=fun h=>by have:=(Y.out _ h).1;omega
 have j:=And.intro n (And.intro (n.cell z3 nz) (And.intro (n.cell B b0) (n.cell C b0)));refine s _ _ (fun _=>j) ?_;clear s K;obtain⟨a9,c9,rfl⟩:=fM (contsR.ofO o9);have b8:Hid (shdR.O w9 U.heap.size F' (.agg #[iV d.idx,.slice e1 n1 f1,.slice e2 n2 f2,.slice a9 (putC d.held c).length c9,.slice e4 n4 f4,.slice e5 n5 f5]) (zK d c)):=o';have b1:Hid (∀b,F' b→F5 b∨p.heap.size≤b):=aZ;refine kM6 n nz ?_ z0 z1 z2 z3 z4 z5;clear z0 z1 z2 z3 z4 z5;intro z0 z1 z2 z3 z4 z5;refine kM6 n nr ?_ H I J L M N;clear H I J L M N;intro H I J L M N;replace zf:aq w9 z.heap.size:=fun o=>(n.frz10 (a:=⟨z.heap.size,o,none⟩) b7 nz).trans (zf o)
 replace rf:aq w9 (w.heap.size+2):=fun o=>(n.frz10 (a:=⟨w.heap.size+2,o,none⟩) (by dsimp only;omega) nr).trans (rf o)
 have be:aa w w9:=n.below aI aI.size (fun b hb=>by have:=(Y.out b hb).1;omega);generalize (putC d.held c).length=np at *;clear o9 m9 l9 o' aZ aU n aX HU aJ ay;try simp only[jX]
 refine uS 7 rfl (fun K s=>?_);go_simp;refine s _ _ (fun _=>j) ?_;clear s K;try simp only[jX]
 refine uS 8 rfl (fun K s=>?_);go_simp;refine s _ _ (fun h=>absurd rfl h) ?_;clear s K j;refine dP ?_;go_wp2;refine bodyPost_ret (v:=.agg #[iV d.idx,.slice e1 n1 f1,.slice e2 n2 f2,.slice a9 np c9,.slice e4 n4 f4,.slice e5 n5 f5]) (by simp[results,Tryz.results178,go_sem,H,I,J,L,M,N,rf]) rfl ⟨.inl ⟨b6.out,_,F',rfl,?_⟩,?_⟩
 ·
  refine shdR.base (base:=U.heap.size) (fYb shdR (fSz shdR b8.out ?_ _) ?_ _ _ _ _ _ _) oM
  ·
   exact fun h=>by
    rcases b1.out _ h with h|h
    ·have:=(HR.out _ h).2;omega
    omega
  exact fun h=>by
   rcases b1.out _ h with h|h
   ·have:=(HR.out _ h).1;omega
   omega
 exact qS
def votV (d:Shd) (k v:Int):Shd:=⟨d.idx,d.bals,putM d.votes ⟨k,v⟩,d.held,d.done,d.appl⟩
theorem kR {w:World} {base:Nat} {F:Nat→Prop} {u:Value} {c v:Int} {d:Shd} (h:shdRR.O w base F u ⟨c,v,d⟩):∃p1 p2 p3 p4 p5 m1 m2 m3 m4 m5 q1 q2 q3 q4 q5,u =.agg #[iV c,iV v,iV d.idx,.slice p1 m1 q1,.slice p2 m2 q2,.slice p3 m3 q3,.slice p4 m4 q4,.slice p5 m5 q5]:=by
 obtain⟨g,j,k,l,m,n,p,q,r,s,e⟩:=fV2 (shdRR.ofO h);exact⟨g,j,k,l,m,_,_,_,_,_,n,p,q,r,s,e⟩
def fYy (w:World) (bt:Nat) (d:Shd) (c:Cont) (q:Int) (older:List PanicEntry) (e:Ending) (u':FrameMode) (w':World):Prop:=
 e =.returned (.tuple #[])∧u' =.panicking ({v:=refV q,recovered:=true}::older)∧∃w1 p1 p2 p3 p4 p5 m1 m2 m3 m4 m5 q1 q2 q3 q4 q5 F,aa w w1∧shdRR.O w1 w.heap.size F (.agg #[.int .i64 0,.int .i64 2,.int .i64 d.idx,.slice p1 m1 q1,.slice p2 m2 q2,.slice p3 m3 q3,.slice p4 m4 q4,.slice p5 m5 q5]) ⟨0,2,votV d c.id 2⟩∧w'=(((((((w1.setCell ⟨bt,0,none⟩ (.int .i64 0)).setCell ⟨bt,1,none⟩ (.int .i64 2)).setCell ⟨bt,2,none⟩ (.int .i64 d.idx)).setCell ⟨bt,3,none⟩ (.slice p1 m1 q1)).setCell ⟨bt,4,none⟩ (.slice p2 m2 q2)).setCell ⟨bt,5,none⟩ (.slice p3 m3 q3)).setCell ⟨bt,6,none⟩ (.slice p4 m4 q4)).setCell ⟨bt,7,none⟩ (.slice p5 m5 q5)
structure DoorOk (w:World) (bs bc bt:Nat) (d:Shd) (c:Cont):Prop where
 sh:∃a1 a2 a3 a4 a5 n1 n2 n3 n4 n5 c1 c2 c3 c4 c5,(w.cell? ⟨bs,0,none⟩=some (.int .i64 d.idx)∧w.cell? ⟨bs,1,none⟩=some (.slice a1 n1 c1)∧w.cell? ⟨bs,2,none⟩=some (.slice a2 n2 c2)∧w.cell? ⟨bs,3,none⟩=some (.slice a3 n3 c3)∧w.cell? ⟨bs,4,none⟩=some (.slice a4 n4 c4)∧w.cell? ⟨bs,5,none⟩=some (.slice a5 n5 c5))∧shdR.V w (.agg #[.int .i64 d.idx,.slice a1 n1 c1,.slice a2 n2 c2,.slice a3 n3 c3,.slice a4 n4 c4,.slice a5 n5 c5]) d
 co:w.cell? ⟨bc,0,none⟩=some (.int .i64 c.id)
 ce:w.cell? ⟨bt,0,none⟩=some (.int .i64 0)∧w.cell? ⟨bt,1,none⟩=some (.int .i64 0)∧w.cell? ⟨bt,2,none⟩=some (.int .i64 0)∧w.cell? ⟨bt,3,none⟩=some (.slice none 0 0)∧w.cell? ⟨bt,4,none⟩=some (.slice none 0 0)∧w.cell? ⟨bt,5,none⟩=some (.slice none 0 0)∧w.cell? ⟨bt,6,none⟩=some (.slice none 0 0)∧w.cell? ⟨bt,7,none⟩=some (.slice none 0 0)
 fr:∀o,w.frozen? ⟨bt,o,none⟩=false
theorem DoorOk.keep {w w':World} {bs bc bt:Nat} {d:Shd} {c:Cont} (h:DoorOk w bs bc bt d c) (hb:aa w w'):DoorOk w' bs bc bt d c:=by
 obtain⟨g,j,k,l,m,n,q,r,s,x,y,z,A,B,C,⟨D,E,F,G,H,I⟩,J⟩:=h.sh;obtain⟨e,K,L,M,N,O,R,T⟩:=h.ce;refine⟨⟨g,j,k,l,m,n,q,r,s,x,y,z,A,B,C,⟨cK hb D,cK hb E,cK hb F,cK hb G,cK hb H,cK hb I⟩,shdR.below J hb⟩,cK hb h.co,⟨cK hb e,cK hb K,cK hb L,cK hb M,cK hb N,cK hb O,cK hb R,cK hb T⟩,fun o=>?_⟩;rw[hb.frozen (p:=⟨bt,o,none⟩) (wL w ⟨bt,0,none⟩ e)];exact h.fr o
theorem fCs (bs bc bt:Nat) (d:Shd) (c:Cont) (q:Int) (older:List PanicEntry) (w:World) (hd:DoorOk w bs bc bt d c) (hok:ShdOk d) :
  CallsD Tryz.prog 175 #[an bs,an bc,an bt] (.panicking ({v:=refV q,recovered:=false}::older)) w (fYy w bt d c q older):=by
 obtain⟨a1,a2,a3,a4,a5,n1,n2,n3,n4,n5,c1,c2,c3,c4,c5,⟨G,H,I,J,L,M⟩,U⟩:=hd.sh;obtain⟨n,y,z,A,B,C,D,E⟩:=hd.ce;refine callsD_of_wpS Tryz.func175 rfl fun c₀ cs hu=>?_
 apply wpS_seq;apply wpS_region;simp[wpOpsS,go_sem,recoverD,hu,Tryz.ntmps175,Exit.thenS];refine(fB9 q w).mono ?_;rintro e j ⟨rfl,hb⟩;have r:=hd.keep hb;have x0:=r.co;have rf:=r.fr;refine kR14 hb ?_ G H I J L M n y z A B C D E;clear G H I J L M n y z A B C D E;intro G H I J L M n y z A B C D E;replace U:=shdR.below U hb;have a0:Hid (bW j fun W=>cL 68 #[.agg #[iV d.idx,.slice a1 n1 c1,.slice a2 n2 c2,.slice a3 n3 c3,.slice a4 n4 c4,.slice a5 n5 c5]] W fun e w'=>∃v F,e =.returned v∧shdR.O w' W.heap.size F v d∧aa W w'):=fun W hW=>vN _ d W (shdR.below U hW) ⟨by have:=fAg (pE hok.base).2;omega,by have:=hok.ls.nv;omega,by have:=hok.ls.nh;omega,by have:=hok.ls.nd;omega,by have:=hok.ls.na;omega⟩ (fun k hk=>by have:=hok.held.len hk;omega)
 have a6:Hid (∀W F x,shdR.O W j.heap.size F x d→j.heap.size≤W.heap.size→cL 177 #[x,iV c.id,iV 2] W fun e w'=>∃u F',e =.returned u∧shdRR.O w' j.heap.size F' u ⟨0,2,votV d c.id 2⟩∧Below j.heap.size W w'∧∀b,F' b→F b∨W.heap.size≤b):=fun W F x ho hl=>fQ4 x d c.id 2 j.heap.size F W ho hl (by have:=hok.ls.nv;omega) hok.ls.ov.rise
 clear hd r U hok;simp[wpOpsS,go_sem,recoverD,Exit.thenS];apply wpS_seq;apply wpS_region;simp[wpOpsS,go_sem,recoverD,Exit.thenS];refine wpS_cond (t:=true) (by simp[Act.eval,Array.replicate]) ?_;simp only[if_true];refine wpS_of_wp ?_;refine wp_region_noPanic ?_;refine fB (fun W=>aa j W∧cI W bs 0 d.idx∧ah W bs 1 a1 n1 c1∧ah W bs 2 a2 n2 c2∧ah W bs 3 a3 n3 c3∧ah W bs 4 a4 n4 c4∧ah W bs 5 a5 n5 c5∧cI W bc 0 c.id) 5 kF ⟨hE,cK hE G,cK hE H,cK hE I,cK hE J,cK hE L,cK hE M,cK hE x0⟩ (fun hS=>?_);refine tY 0 ?_;refine tY 2 ?_;refine tY 3 ?_;refine uS 1 rfl (fun K m=>?_);go_simp;refine(a0.out _ hS.1).mono ?_;rintro e w2 ⟨v2,F2,rfl,o2,s⟩;have l:aa j w2:=bS hS.1 s;have N:=And.intro l (kS7 s hS.2);refine m _ _ (fun _=>N) ?_;clear m K s;have R:Hid (shdR.O w2 j.heap.size F2 v2 d):=shdR.base o2 hS.1.size;clear o2 hS;obtain⟨e1,e2,e3,e4,e5,f1,f2,f3,f4,f5,rfl⟩:=mW R.out;try simp only[jX]
 refine uS 4 rfl (fun K m=>?_);go_simp;refine(a6.out _ _ _ R.out l.size).mono ?_;rintro e T ⟨v3,F3,rfl,o3,a7,a8⟩;have g:aa j T:=Below.trans l a7;obtain⟨V,X,Y,Z,p5,m1,m2,m3,m4,m5,q1,q2,q3,q4,q5,rfl⟩:=kR o3;refine m _ _ (fun _=>⟨g,cK g G,cK g H,cK g I,cK g J,cK g L,cK g M,cK g x0⟩) ?_;clear m K N;have a9:Hid (shdRR.O T w.heap.size F3 (.agg #[iV 0,iV 2,iV d.idx,.slice V m1 q1,.slice X m2 q2,.slice Y m3 q3,.slice Z m4 q4,.slice p5 m5 q5]) ⟨0,2,votV d c.id 2⟩):=shdRR.base o3 hb.size;have ab:aa w T:=bS hb g;have zt:=wL j _ n;refine kR8 g ?_ n y z A B C D E;clear n y z A B C D E;intro n y z A B C D E;replace rf:aq T bt:=fun o=>by rw[g.frozen (p:=⟨bt,o,none⟩) zt];exact rf o
 clear o3 a8;have ac:Hid (∃V X Y Z p5 m1 m2 m3 m4 m5 q1 q2 q3 q4 q5 F,True):=⟨V,X,Y,Z,p5,m1,m2,m3,m4,m5,q1,q2,q3,q4,q5,F3,trivial⟩;try simp only[jX]
 refine uS 5 rfl (fun K m=>?_);go_simp;refine m _ _ (fun h=>absurd rfl h) ?_;clear m K;refine dP ?_;cases c₀;simp only[bodyPostS,results,Tryz.results175];exact⟨trivial,_,rfl,.tuple #[],by simp,rfl,rfl,T,V,X,Y,Z,p5,m1,m2,m3,m4,m5,q1,q2,q3,q4,q5,F3,ab,a9.out,rfl⟩
theorem fK4 (bs bc bt:Nat) (w:World) :
  CallsD Tryz.prog 175 #[an bs,an bc,an bt] .returning w fun e u' w'=>e =.returned (.tuple #[])∧u' =.returning∧aa w w':=by
 refine callsD_of_wpS Tryz.func175 rfl fun d cs g=>?_
 apply wpS_seq;apply wpS_region;simp[wpOpsS,go_sem,recoverD,g,Tryz.ntmps175,Exit.thenS];refine(fB8 w).mono ?_;rintro e j ⟨rfl,hb⟩;simp[wpOpsS,go_sem,recoverD,Exit.thenS];apply wpS_seq;apply wpS_region;simp[wpOpsS,go_sem,recoverD,Exit.thenS];refine wpS_cond (t:=false) (by simp[Act.eval,Array.replicate]) ?_;simp only[Bool.false_eq_true,if_false];refine wpS_of_wp (wp_skip ?_);cases d;simp_all [bodyPostS,results,Tryz.results175]
def rJ (w:World) (Z:ShdR) (e:Ending) (w':World):Prop:=∃v F,e =.returned v∧shdRR.O w' w.heap.size F v Z∧aa w w'
theorem gAc (w W:World) (tm:Array Value) (bs bc bt:Nat) (d:Shd) (c:Cont) (Z:ShdR) (q:Int) (hz:Z=⟨0,2,votV d c.id 2⟩) (ht:tm[4]? = some (an bt)) (hB:w.heap.size≤bt) (hd:DoorOk W bs bc bt d c) (hok:ShdOk d) (hb:aa w W) :
  Leaves Tryz.prog Tryz.f145 tm (rJ w Z) [{target:=.fn (.func 175) #[an bs,an bc,an bt],args:=#[]}] (.panicking [{v:=refV q,recovered:=false}]) W:=by
 refine leaves_cons (f:=175) (args:=#[an bs,an bc,an bt]) (by simp) sG ?_;refine(fCs bs bc bt d c q [] W hd hok).mono ?_;rintro e V X ⟨rfl,rfl,l,m,n,r,s,x,y,z,A,B,C,q1,q2,D,E,G,F,g,k,rfl⟩;obtain⟨H,I,J,K,L,M,N,O⟩:=(hd.keep g).ce;have R:=(hd.keep g).fr;have T:=wL W _ hd.ce.1;have j:aa w l:=bS hb g;have U:¬F bt:=fun h=>by have:=(shdRR.rng k bt h).1;dsimp only at T;omega
 subst hz;refine⟨.agg #[iV 0,iV 2,iV d.idx,.slice m y q1,.slice n z q2,.slice r A D,.slice s B E,.slice x C G],?_,_,F,rfl,?_,?_⟩
 ·simp[results,Tryz.results145,go_sem,ht,H,I,J,K,L,M,N,O,R]
 ·exact vZ shdRR (shdRR.base k hb.size) U _ _ _ _ _ _ _ _
 exact((((((((j).setCell (p:=⟨bt,0,none⟩) hB _).setCell (p:=⟨bt,1,none⟩) hB _).setCell (p:=⟨bt,2,none⟩) hB _).setCell (p:=⟨bt,3,none⟩) hB _).setCell (p:=⟨bt,4,none⟩) hB _).setCell (p:=⟨bt,5,none⟩) hB _).setCell (p:=⟨bt,6,none⟩) hB _).setCell (p:=⟨bt,7,none⟩) hB _
theorem gAd (w W:World) (tm:Array Value) (bs bc bt:Nat) (Z:ShdR) (u0 u1 u2 u3 u4 u5 u6 u7:Value) (F:Nat→Prop) (ho:shdRR.O W w.heap.size F (.agg #[u0,u1,u2,u3,u4,u5,u6,u7]) Z) (ht:tm[4]? = some (an bt)) (hce:W.cell? ⟨bt,0,none⟩=some (u0)∧W.cell? ⟨bt,1,none⟩=some (u1)∧W.cell? ⟨bt,2,none⟩=some (u2)∧W.cell? ⟨bt,3,none⟩=some (u3)∧W.cell? ⟨bt,4,none⟩=some (u4)∧W.cell? ⟨bt,5,none⟩=some (u5)∧W.cell? ⟨bt,6,none⟩=some (u6)∧W.cell? ⟨bt,7,none⟩=some (u7)) (hb:aa w W) :
  Leaves Tryz.prog Tryz.f145 tm (rJ w Z) [{target:=.fn (.func 175) #[an bs,an bc,an bt],args:=#[]}] .returning W:=by
 refine leaves_cons (f:=175) (args:=#[an bs,an bc,an bt]) (by simp) sG ?_;refine(fK4 bs bc bt W).mono ?_;rintro e r s ⟨rfl,rfl,d⟩;obtain⟨g,j,k,l,m,n,p,q⟩:=hce;refine kR8 d ?_ g j k l m n p q;clear g j k l m n p q;intro g j k l m n p q;refine⟨.agg #[u0,u1,u2,u3,u4,u5,u6,u7],?_,_,F,rfl,shdRR.keep ho d,bS hb d⟩;simp[results,Tryz.results145,go_sem,ht,g,j,k,l,m,n,p,q]
theorem gAe (w:World) (base:Nat) (c:Int):∃F,shdRR.O w base F (.agg #[iV c,iV 0,iV 0,aj,aj,aj,aj,aj]) (errH c):=by
 obtain⟨F,h⟩:=fKn w base;exact⟨F,vX (d:=⟨0,[],[],[],[],[]⟩) c 0 h⟩
theorem mO {w W:World} {Z:ShdR} {c:Int} (h:Z=errH c) (hb:aa w W):rJ w Z (.returned (.agg #[iV c,iV 0,iV 0,aj,aj,aj,aj,aj])) W:=by
 obtain⟨F,d⟩:=gAe W w.heap.size c;rw[h];exact⟨_,F,rfl,d,hb⟩
theorem fRe {d:Shd} {c:Cont} (h:¬rC d c=0):tH d c=errH (rC d c):=by
 unfold rC at h ⊢;unfold tH;by_cases h0:shdF d=0
 ·
  rw[if_pos h0] at h ⊢;rw[if_pos h0];by_cases h1:fA c.id c.legs=0
  ·
   rw[if_pos h1] at h ⊢;rw[if_pos h1];by_cases h2:(onSh d.idx c.legs).length=0
   ·rw[if_pos h2,if_pos h2]
   rw[if_neg h2] at h;exact absurd rfl h
  rw[if_neg h1,if_neg h1]
 rw[if_neg h0,if_neg h0]
theorem fTs {d:Shd} {c:Cont} (h:rC d c=0):shdF d=0∧fA c.id c.legs=0∧tH d c=mX d c:=by
 unfold rC at h;unfold tH;by_cases h0:shdF d=0
 ·
  rw[if_pos h0] at h;rw[if_pos h0];by_cases h1:fA c.id c.legs=0
  ·
   rw[if_pos h1] at h;rw[if_pos h1];by_cases h2:(onSh d.idx c.legs).length=0
   ·rw[if_pos h2] at h;omega
   exact⟨h0,h1,by rw[if_neg h2]⟩
  rw[if_neg h1] at h;exact absurd h h1
 rw[if_neg h0] at h;exact absurd h h0
theorem fI9 {d:Shd} {c:Cont} (h:¬fK c.id d.votes=0):mX d c=⟨0,fK c.id d.votes,d⟩:=by unfold mX;rw[if_neg h]
theorem fGp {d:Shd} {c:Cont} (h:fK c.id d.votes=0) (h1:100≤d.votes.length):mX d c=errH 2:=by unfold mX;rw[if_pos h,if_pos h1]
theorem fJa {d:Shd} {c:Cont} (h:fK c.id d.votes=0) (h1:¬100≤d.votes.length) (h2:kV d c=true):mX d c=⟨0,1,votV (zK d c) c.id 1⟩:=by unfold mX;rw[if_pos h,if_neg h1,if_pos h2];rfl
theorem fM4 {d:Shd} {c:Cont} (h:fK c.id d.votes=0) (h1:¬100≤d.votes.length) (h2:kV d c=false):mX d c=⟨0,2,votV d c.id 2⟩:=by unfold mX;rw[if_pos h,if_neg h1,if_neg (by rw[h2];exact Bool.false_ne_true)];rfl
theorem fSa (x y:Value) (d:Shd) (c:Cont) (w:World) (hx:shdR.V w x d) (hy:contR.V w y c) :
  cL 145 #[x,y] w (rJ w (tH d c)):=by
 have ay:Hid (bW w fun W=>RI 173 #[x,y] W (iV (rC d c))):=fun W H=>fTt x y d c W (shdR.below hx H) (contR.below hy H)
 have ag:Hid (bW w fun W=>ShdOk d→fA c.id c.legs=0→cL 178 #[x,y] W (fYz d c W)):=fun W H g a9=>fN1 x y d c W (shdR.below hx H) (contR.below hy H) g a9
 have ak:Hid (bW w fun W=>ShdOk d→cL 68 #[x] W fun e w'=>∃v F,e =.returned v∧shdR.O w' W.heap.size F v d∧aa W w'):=fun W H g=>vN x d W (shdR.below hx H) ⟨by have:=fAg (pE g.base).2;omega,by have:=g.ls.nv;omega,by have:=g.ls.nh;omega,by have:=g.ls.nd;omega,by have:=g.ls.na;omega⟩ (fun k hk=>by have:=g.held.len hk;omega)
 have ab:Hid (∀W F v e,shdR.O W e F v (zK d c)→e≤W.heap.size→ShdOk d→cL 177 #[v,iV c.id,iV 1] W fun r w'=>∃u F',r =.returned u∧shdRR.O w' e F' u ⟨0,1,votV (zK d c) c.id 1⟩∧Below e W w'∧∀b,F' b→F b∨W.heap.size≤b):=fun W F v e ho hl g=>fQ4 v (zK d c) c.id 1 e F W ho hl (by have:=g.ls.nv;show d.votes.length≤1000;omega) g.ls.ov.rise
 have HX:Hid (bW w fun W=>shdR.V W x d):=fun W H=>shdR.below hx H
 obtain⟨u1,u2,u3,u4,u5,rfl,h1,h2,h3,h4,h5⟩:=hx;have al:Hid (bW w fun W=>ShdOk d→RI 174 #[u2,iV c.id] W (iV (fK c.id d.votes))):=fun W H g=>zG u2 d.votes c.id W (mrksR.below h2 H) (by have:=g.ls.nv;omega) g.ls.ov.rise
 obtain⟨a1,c1,rfl⟩:=fQ h1;obtain⟨a2,c2,rfl⟩:=fH h2;obtain⟨a3,c3,rfl⟩:=fM h3;obtain⟨a4,c4,rfl⟩:=fH h4;obtain⟨a5,c5,rfl⟩:=gL h5;obtain⟨uy,rfl,hy⟩:=hy;obtain⟨ax,cx,rfl⟩:=kK hy;clear h1 h2 h3 h4 h5 hy;have am:Hid (¬rC d c=0→tH d c=errH (rC d c)):=fun h=>fRe h
 have ao:Hid (rC d c=0→shdF d=0∧fA c.id c.legs=0∧tH d c=mX d c):=fun h=>fTs h
 have X:Hid (¬fK c.id d.votes=0→mX d c=⟨0,fK c.id d.votes,d⟩):=fun h=>fI9 h
 have Y:Hid (fK c.id d.votes=0→100≤d.votes.length→mX d c=errH 2):=fun h h1=>fGp h h1
 have a0:Hid (fK c.id d.votes=0→¬100≤d.votes.length→kV d c=true→mX d c=⟨0,1,votV (zK d c) c.id 1⟩):=fun h h1 h2=>fJa h h1 h2
 have a6:Hid (fK c.id d.votes=0→¬100≤d.votes.length→kV d c=false→mX d c=⟨0,2,votV d c.id 2⟩):=fun h h1 h2=>fM4 h h1 h2
 have ar:Hid (shdF d=0→ShdOk d∧d.votes.length≤100):=fun h=>⟨xH h,(xH h).ls.nv⟩
 generalize az:d.bals.length=n1 at *;generalize au:d.votes.length=N at *;generalize aA:d.held.length=n3 at *;generalize aB:d.done.length=n4 at *;generalize aC:d.appl.length=n5 at *;have HN:Hid (d.bals.length=n1∧d.votes.length=N∧d.held.length=n3∧d.done.length=n4∧d.appl.length=n5):=⟨az,au,aA,aB,aC⟩;clear az au aA aB aC;generalize c.legs.length=nx at *;generalize tH d c=Z at *;generalize rC d c=ac at *;generalize fK c.id d.votes=fv at *;have aR:∀(fn:Fn) (first cap:Array Value) (w:World),(Instr.makeFunc fn first cap).run Tryz.prog w =.ok (.func fn first cap) w:=fun _ _ _ _=>rfl
 go_enter_defers Tryz.func145,Tryz.ntmps145
 go_wp2_with fail;refine(ay.out _ hE).mono ?_;rintro e I ⟨rfl,j⟩;have av:=bT w j;have aD:=j.size;simp at aD;have y0:cI I w.heap.size 0 d.idx:=cK j sG;have y1:ah I w.heap.size 1 a1 n1 c1:=cK j sG;have y2:ah I w.heap.size 2 a2 N c2:=cK j sG;have y3:ah I w.heap.size 3 a3 n3 c3:=cK j sG;have y4:ah I w.heap.size 4 a4 n4 c4:=cK j sG;have y5:ah I w.heap.size 5 a5 n5 c5:=cK j sG;have x0:cI I (w.heap.size+1) 0 c.id:=cK j sG;have x1:ah I (w.heap.size+1) 1 ax nx cx:=cK j sG;have m:cI I (w.heap.size+2) 0 0:=cK j sG;have n:cI I (w.heap.size+2) 1 0:=cK j sG;have s:cI I (w.heap.size+2) 2 0:=cK j sG;have z:cN I (w.heap.size+2) 3:=cK j sG;have A:cN I (w.heap.size+2) 4:=cK j sG;have B:cN I (w.heap.size+2) 5:=cK j sG;have C:cN I (w.heap.size+2) 6:=cK j sG;have D:cN I (w.heap.size+2) 7:=cK j sG;have G:aq I (w.heap.size+2):=ap j;clear j ay;by_cases T:ac=0;rotate_left
 ·
  have HC:Hid _:=am.out T;have ae:(ac !=0)=true:=by simp[T]
  clear am ao X Y a0 a6 ag ak ab HX al ar;go_wp2;refine⟨.agg #[iV ac,iV 0,iV 0,aj,aj,aj,aj,aj],by simp[results,Tryz.results145,go_sem,m,n,s,z,A,B,C,D,G],mO HC.out ?_⟩;exact qS
 obtain⟨aE,a9,aF⟩:=ao.out T;obtain⟨g,au⟩:=ar.out aE;have aG:Hid (ShdOk d):=g;have a7:Hid (Z=mX d c):=aF;have a8:Hid (bW w fun W=>cL 178 #[.agg #[iV d.idx,.slice a1 n1 c1,.slice a2 N c2,.slice a3 n3 c3,.slice a4 n4 c4,.slice a5 n5 c5],.agg #[iV c.id,.slice ax nx cx]] W (fYz d c W)):=fun W H=>ag.out W H g a9
 have R:Hid (bW w fun W=>cL 68 #[.agg #[iV d.idx,.slice a1 n1 c1,.slice a2 N c2,.slice a3 n3 c3,.slice a4 n4 c4,.slice a5 n5 c5]] W fun e w'=>∃v F,e =.returned v∧shdR.O w' W.heap.size F v d∧aa W w'):=fun W H=>ak.out W H g
 have af:Hid (bW w fun W=>RI 174 #[.slice a2 N c2,iV c.id] W (iV fv)):=fun W H=>al.out W H g
 have ae:(ac !=0)=false:=by simp[T]
 rw[T];clear am ao ag ak al ar aE a9 aF g T ae;go_wp2_with fail;refine(af.out _ av).mono ?_;rintro e w2 ⟨rfl,U⟩;have J:aa w w2:=bS av U;refine kR12 U ?_ y0 y1 y2 y3 y4 y5 x0 x1 m n s z;clear y0 y1 y2 y3 y4 y5 x0 x1 m n s z;intro y0 y1 y2 y3 y4 y5 x0 x1 m n s z;refine kR4 U ?_ A B C D;clear A B C D;intro A B C D;replace G:=ai U oM G;have aK:w.heap.size+2<w2.heap.size:=by have:=U.size;omega
 clear U af aD av;by_cases M:fv=0;rotate_left
 ·
  have HC:Hid (Z=⟨0,fv,d⟩):=a7.out.trans (X.out M);have aQ:(fv !=0)=true:=by simp[M]
  clear X Y a0 a6 a8 ab HX;go_wp2_with fail;refine(R.out _ J).mono ?_;rintro e w3 ⟨v3,F3,rfl,o3,L⟩;obtain⟨e1,e2,e3,e4,e5,f1,f2,f3,f4,f5,rfl⟩:=mW o3;have aS:aa w w3:=bS J L;have HO:Hid (shdRR.O w3 w2.heap.size F3 (.agg #[iV 0,iV fv,iV d.idx,.slice e1 d.bals.length f1,.slice e2 d.votes.length f2,.slice e3 d.held.length f3,.slice e4 d.done.length f4,.slice e5 d.appl.length f5]) ⟨0,fv,d⟩):=vX 0 fv o3;refine kR8 L ?_ m n s z A B C D;clear m n s z A B C D;intro m n s z A B C D;replace G:=ai L oM G;clear o3 L R;generalize d.bals.length=n1 at *;generalize d.votes.length=N at *;generalize d.held.length=n3 at *;generalize d.done.length=n4 at *;generalize d.appl.length=n5 at *;go_wp2;refine⟨.agg #[iV 0,iV fv,iV d.idx,.slice e1 n1 f1,.slice e2 N f2,.slice e3 n3 f3,.slice e4 n4 f4,.slice e5 n5 f5],by simp[results,Tryz.results145,go_sem,m,n,s,z,A,B,C,D,G],?_⟩;rw[HC.out];refine⟨_,F3,rfl,shdRR.base (vZ shdRR HO.out (fun h=>by have:=(shdRR.rng HO.out _ h).1;omega) _ _ _ _ _ _ _ _) J.size,?_⟩;exact qS
 rw[M];by_cases hm:100≤N
 ·
  have HC:Hid (Z=errH 2):=a7.out.trans (Y.out M hm);have aL:((N:Int)==100)=true:=by simp;omega
  have aM:(N:Int)=100:=oM;clear X Y a0 a6 a8 ab HX R;go_wp2;refine⟨.agg #[iV 2,iV 0,iV 0,aj,aj,aj,aj,aj],by simp[results,Tryz.results145,go_sem,m,n,s,z,A,B,C,D,G],mO HC.out ?_⟩;exact qS
 have HY:Hid (kV d c=true→Z=⟨0,1,votV (zK d c) c.id 1⟩):=fun h=>a7.out.trans (a0.out M hm h)
 have aH:Hid (kV d c=false→Z=⟨0,2,votV d c.id 2⟩):=fun h=>a7.out.trans (a6.out M hm h)
 have aL:((N:Int)==100)=false:=by simp;omega
 have aM:¬(N:Int)=100:=oM;have aN:Hid (DoorOk w2 w.heap.size (w.heap.size+1) (w.heap.size+2) d c):=⟨⟨a1,a2,a3,a4,a5,n1,N,n3,n4,n5,c1,c2,c3,c4,c5,⟨y0,y1,y2,y3,y4,y5⟩,HX.out w2 J⟩,x0,⟨m,n,s,z,A,B,C,D⟩,G⟩;clear X Y a0 a6 R a7 M hm;go_wp2;refine uF [{target:=.fn (.func 175) #[an w.heap.size,an (w.heap.size+1),an (w.heap.size+2)],args:=#[]}] 4 (an (w.heap.size+2)) (fun c' W=>∃q,c'=[{v:=refV q,recovered:=false}]∧kV d c=false∧aa w2 W) ?_ ?_
 ·rintro c' a W hd ht ⟨q,rfl,hz,hb⟩;show Leaves Tryz.prog Tryz.f145 a.tmps _ a.defers (.panicking _) W;rw[hd];exact gAc w W a.tmps _ _ _ d c Z q (aH.out hz) ht oM (aN.out.keep hb) aG.out (bS J hb)
 refine fB (fun W=>aa w2 W∧cI W w.heap.size 0 d.idx∧ah W w.heap.size 1 a1 n1 c1∧ah W w.heap.size 2 a2 N c2∧ah W w.heap.size 3 a3 n3 c3∧ah W w.heap.size 4 a4 n4 c4∧ah W w.heap.size 5 a5 n5 c5∧cI W (w.heap.size+1) 0 c.id∧ah W (w.heap.size+1) 1 ax nx cx) 6 kF ⟨hE,cK hE y0,cK hE y1,cK hE y2,cK hE y3,cK hE y4,cK hE y5,cK hE x0,cK hE x1⟩ (fun hS=>?_);refine yG (i:=0) (v:=?_) rfl kF kF kF kF (fun _ _ _=>PanicAs.put (by decide)) (by rfl) hS ?_ ?_;rotate_left
 ·intro wS hSw;(try dsimp only at hSw);go_simp;try with_reducible rfl
 try simp only[jX]
 refine yG (i:=1) (v:=?_) rfl kF kF kF kF (fun _ _ _=>PanicAs.put (by decide)) (by rfl) hS ?_ ?_;rotate_left
 ·intro wS hSw;(try dsimp only at hSw);go_simp;try with_reducible rfl
 try simp only[jX]
 refine yG (i:=3) (v:=?_) rfl kF kF kF kF (fun _ _ _=>PanicAs.put (by decide)) (by rfl) hS ?_ ?_;rotate_left
 ·intro wS hSw;(try dsimp only at hSw);go_simp;try with_reducible rfl
 try simp only[jX]
 refine yG (i:=4) (v:=?_) rfl kF kF kF kF (fun _ _ _=>PanicAs.put (by decide)) (by rfl) hS ?_ ?_;rotate_left
 ·intro wS hSw;(try dsimp only at hSw);go_simp;try with_reducible rfl
 try simp only[jX]
 refine uS 2 rfl (fun K hK=>?_);go_simp;refine(a8.out _ (bS J hS.1)).mono ?_;rintro e w3 ⟨he,L⟩;have E:aa w2 w3:=bS hS.1 L;rcases he with ⟨ad,v3,F3,rfl,o3⟩|⟨ad,q,rfl⟩
 rotate_left
 ·first|exact⟨rfl,rfl,⟨q,rfl⟩,ad,E⟩|exact⟨rfl,rfl,q,rfl,ad,E⟩
 have HC:Hid _:=HY.out ad;have aI:=And.intro E (kS8 L hS.2);refine hK _ _ (fun _=>aI) ?_;clear hK K L hS;have aw:Hid (shdR.O w3 w2.heap.size F3 v3 (zK d c)):=shdR.base o3 (by simp);clear o3;obtain⟨e1,e2,e3,e4,e5,f1,f2,f3,f4,f5,rfl⟩:=mW aw.out;try simp only[jX]
 refine uS 5 rfl (fun K hK=>?_);go_simp;refine(ab.out _ _ _ _ aw.out E.size aG.out).mono ?_;rintro e w4 ⟨v4,F4,rfl,o4,aO,aP⟩;have l:aa w2 w4:=Below.trans E aO;obtain⟨p1,p2,p3,p4,p5,m1,m2,m3,m4,m5,q1,q2,q3,q4,q5,rfl⟩:=kR o4;refine hK _ _ (fun _=>⟨l,cK l y0,cK l y1,cK l y2,cK l y3,cK l y4,cK l y5,cK l x0,cK l x1⟩) ?_;clear hK K aI;have aJ:Hid (shdRR.O w4 w2.heap.size F4 (.agg #[iV 0,iV 1,iV d.idx,.slice p1 m1 q1,.slice p2 m2 q2,.slice p3 m3 q3,.slice p4 m4 q4,.slice p5 m5 q5]) ⟨0,1,votV (zK d c) c.id 1⟩):=o4;have aT:aa w w4:=bS J l;refine kR8 l ?_ m n s z A B C D;clear m n s z A B C D;intro m n s z A B C D;replace G:aq w4 (w.heap.size+2):=fun o=>by rw[l.frozen (p:=⟨w.heap.size+2,o,none⟩) aK];exact G o
 clear o4 aP aw aH HY E;have aU:(votV (zK d c) c.id 1).idx=d.idx:=rfl;try simp only[jX]
 refine uS 6 rfl (fun K hK=>?_);go_simp;refine hK _ _ (fun h=>absurd rfl h) ?_;clear hK K;refine vY kF ?_;refine PanicAs.normal ?_;go_wp2;refine gAd w _ _ _ _ (w.heap.size+2) Z (iV 0) (iV 1) (iV d.idx) (.slice p1 m1 q1) (.slice p2 m2 q2) (.slice p3 m3 q3) (.slice p4 m4 q4) (.slice p5 m5 q5) F4 ?_ rfl ⟨by simp[go_sem,m,n,s,z,A,B,C,D,G],by simp[go_sem,m,n,s,z,A,B,C,D,G],by simp[go_sem,m,n,s,z,A,B,C,D,G],by simp[go_sem,m,n,s,z,A,B,C,D,G],by simp[go_sem,m,n,s,z,A,B,C,D,G],by simp[go_sem,m,n,s,z,A,B,C,D,G],by simp[go_sem,m,n,s,z,A,B,C,D,G],by simp[go_sem,m,n,s,z,A,B,C,D,G]⟩ ?_
 ·rw[HC.out];exact shdRR.base (vZ shdRR aJ.out (fun h=>by have:=(shdRR.rng aJ.out _ h).1;omega) _ _ _ _ _ _ _ _) J.size
 exact qS
end
section
variable [dQ Mrk] [iH Mrk] [dQ Leg] [iH Leg] [dQ Cont] [iH Cont] [dQ Bal] [iH Bal] [dQ Ledg] [iH Ledg]
theorem fCn (g o j:Nat):(Addr.mk g o none).add j=⟨g,o+j,none⟩:=by
 by_cases h:j=0
 ·subst h;simp[Addr.add]
 simp[Addr.add,h]
theorem fX5 {w:World} {base:Nat} {F:Nat→Prop} {x:Value} {xs:List Mrk} (h:mrksR.O w base F x xs):(x =aj∧xs=[])∨∃g cap,x =.slice (some ⟨g,0,none⟩) xs.length cap∧xs.length≤cap∧cap≤maxLen∧∀k,k<xs.length→qP w g (0+k*2) (xs.getD k default):=by
 have m:=mrksR.ofO h;rcases h.1.2 with ⟨rfl,h0⟩|⟨g,cap,cur,rfl,n,y,d,j,_⟩
 ·exact .inl ⟨rfl,List.eq_nil_of_length_eq_zero h0⟩
 refine .inr ⟨g,cap,rfl,d,j,fun k p=>?_⟩;obtain⟨a,c,e,_,_,q⟩:=m;obtain⟨b,o,l,r⟩:=q k p;simp only[Value.slice.injEq,true_and] at e;obtain⟨s,_⟩:=e;rw[←s] at l;simp only[Option.some.injEq,Addr.mk.injEq,and_true] at l;obtain⟨rfl,rfl⟩:=l;exact r
theorem fCo (W:World) (p:Option Addr) (c:Nat):gP W (.slice p 0 c) 0 []:=by
 cases p with
 | none=>exact .inl ⟨c,rfl,rfl,rfl⟩
 | some a=>exact .inr ⟨a,c,rfl,fun j x d=>by simp at d⟩
theorem fMn {e:TypeId} {w:World} {base g cap n:Nat} {cs:List Value} (h:w.ownsRow base e 2 (.slice (some ⟨g,0,none⟩) n cap) n cs) (i m c:Nat) (hi:i+m≤n) :
  gP w (.slice (some ⟨g,i*2,none⟩) m c) m ((cs.drop (i*2)).take (m*2)):=by
 refine .inr ⟨_,_,rfl,fun j x d=>?_⟩;have k:cs.length=n*2:=h.1;rw[List.getElem?_take] at d;split at d
 ·rw[List.getElem?_drop] at d;have:=h.cellAt (i*2+j) oM;rw[d] at this;rw[fCn];exact this
 cases d
theorem fEi {e:TypeId} {w:World} {base n cap k:Nat} {s:Option Addr} {cs:List Value} (h:w.ownsRow base e 2 (.slice s n cap) n cs) (hk:k≤n) :
  gP w (.slice s k cap) k (cs.take (k*2))∧gP w (.slice (if cap=k then s else Option.map (fun x=>x.add (k*2)) s) (n-k) (cap-k)) (n-k) (cs.drop (k*2)):=by
 have j:cs.length=n*2:=h.1;rcases h.2 with ⟨d,h0⟩|⟨g,m,cur,d,_,_,l,_⟩
 ·simp only[Value.slice.injEq] at d;obtain⟨rfl,_,rfl⟩:=d;subst h0;obtain rfl:k=0:=oM;obtain rfl:cs=[]:=List.eq_nil_of_length_eq_zero oM;exact⟨by simpa using fCo w none 0,by simpa using fCo w none 0⟩
 simp only[Value.slice.injEq] at d;obtain⟨rfl,_,rfl⟩:=d;refine⟨by have h1:=fMn h 0 k cap oM;simpa using h1,?_⟩;by_cases e:cap=k
 ·rw[if_pos e,show cs.drop (k*2)=[] from List.eq_nil_of_length_eq_zero (by rw[List.length_drop];omega),show n-k=0 by omega];exact fCo w _ _
 rw[if_neg e];have h1:=fMn h k (n-k) (cap-k) oM;rw[List.take_of_length_le (by rw[List.length_drop];omega)] at h1;rw[Option.map_some,fCn,Nat.zero_add];exact h1
theorem fZl (Y:World) (base:Nat) (m:Mrk) (hb:base≤Y.heap.size):mrksR.O (Y.alloc (.cells #[iV m.con,iV m.val] 166)) base (fun b=>b=Y.heap.size) (.slice (some ⟨Y.heap.size,0,none⟩) 1 1) [m]:=
 ⟨World.ownsRow_lit (base:=base) (e:=166) (size:=2) Y #[iV m.con,iV m.val] 1 hb (by decide) rfl,by funext b;simp[Value.ownBlock,eq_comm]⟩
def fG9:Nat→List Nat
 | 4=>[0]
 | 9=>[4]
 | 13=>[9]
 | _=>[]
def fFs (base:Nat) (xs:List Mrk) (m:Mrk) (k:Nat):Nat→(Nat→Value)→(Nat→Prop)→World→Prop
 | 0,y,F,w=>mrksR.O w base F (y 23) []
 | 4,y,F,w=>mrksR.O w base F (y 27) (xs.take k)
 | 8,y,F,w=>mrksR.O w base F (y 31) [m]
 | 9,y,F,w=>mrksR.O w base F (y 32) (xs.take k++[m])
 | 13,y,F,w=>mrksR.O w base F (y 36) (xs.take k++[m]++xs.drop k)
 | _,_,_,_=>True
theorem fL1 (x:Value) (xs:List Mrk) (m:Mrk) (base:Nat) (F:Nat→Prop) (w:World) (hx:mrksR.O w base F x xs) (hn:xs.length≤1048576) :
  cL 156 #[x,iV m.con,iV m.val] w fun e w'=>∃v F',e =.returned v∧mrksR.O w' w.heap.size F' v (putM xs m)∧aa w w':=by
 have A:=hx.1;have q:=fX5 hx;obtain⟨s,cap,rfl⟩:=fH (mrksR.ofO hx);obtain⟨n,B⟩:∃n,n=xs.length:=⟨_,rfl⟩
 have HN:Hid (xs.length=n):=B.symm;rw[←B] at A q hn ⊢;have HO:Hid (w.ownsRow base 166 2 (.slice s n cap) n (gM xs)):=A;have HC:Hid (∀k,k<n→∃g,s=some ⟨g,0,none⟩∧qP w g (0+k*2) (xs.getD k default)):=fun k V=>by
  rcases q with ⟨_,h0⟩|⟨g,Y,e,_,_,Z⟩
  ·rw[h0] at B;simp at B;omega
  simp only[Value.slice.injEq] at e;exact⟨g,e.1,Z k V⟩
 have D:n≤cap∧cap≤maxLen:=by
  rcases q with ⟨e,h0⟩|⟨g,Y,e,D,L,Z⟩
  ·simp only[Value.slice.injEq] at e;obtain⟨_,e1,e2⟩:=e;unfold maxLen;omega
  simp only[Value.slice.injEq] at e;obtain⟨_,_,e2⟩:=e;rw[e2];exact⟨D,L⟩
 obtain⟨D,L⟩:=D;have M:Hid (∀k,k≤n→(∀j,j<k→(xs.getD j default).con<m.con)→(k<n→¬(xs.getD k default).con<m.con)→putM xs m=xs.take k++[m]++xs.drop k):=fun k V h1 h2=>by
  unfold putM;rw[fO1 oM h1 (fun h=>h2 oM)]
 unfold maxLen at L;clear B A hx q;go_enter Tryz.func156,Tryz.ntmps156;go_wp2;go_loopw [7] (fun i w'=>∃k:Nat,k≤n∧i =.int .i64 k∧Hid (∀j,j<k→(xs.getD j default).con<m.con)∧aa w w') (fun i _=>n-(intOf i).toNat)
 case atStart=>exact⟨0,oM,rfl,fun j hj=>absurd hj oM,bR _ _⟩
 obtain⟨k,V,rfl,HJ,E⟩:=hrel;have HG:Hid (∃go,go=decide (k<n∧(xs.getD k default).con<m.con)):=⟨_,rfl⟩;obtain⟨go,C⟩:=HG.out;have l:Hid (go=decide (k<n∧(xs.getD k default).con<m.con)):=C;clear HG C;go_upto_region 2 with fail
 go_cut [20] from 8 to 22 (fun c wx=>c =.bool go∧wx=wr)
 case first=>
  by_cases G:k<n
  ·
   obtain⟨g,rfl,z0,z1⟩:=HC.out k G;replace z0:=cK E z0;rw[Nat.zero_add] at z0;have k1:(k:Int)<n:=oM;have k2:(0:Int)≤k:=oM;clear z1 HJ M HO;generalize (xs.getD k default).con=kc at *;by_cases a0:kc<m.con
   ·go_wp2;go_meet;exact⟨by rw[l.out];simp[G,a0],rfl⟩
   go_wp2;go_meet;exact⟨by rw[l.out];simp[a0],rfl⟩
  have a8:¬(k:Int)<n:=oM;go_wp2;go_meet;exact⟨by rw[l.out];simp[G],rfl⟩
 case rest=>
  obtain⟨rfl,hw⟩:=hcut;obtain rfl:=hw.symm;cases go;rotate_left
  ·
   have hh:=of_decide_eq_true l.out.symm;have a3:Hid (∀j,j<k+1→(xs.getD j default).con<m.con):=fun j hj=>by
    by_cases e:j=k
    ·rw[e];exact hh.2
    exact HJ.out j oM
   have G:=hh.1;clear hh l HJ;go_wp2;exact⟨⟨k+1,by omega,by go_num,a3,hE⟩,mI⟩
  have C:=of_decide_eq_false l.out.symm;have HP:Hid (putM xs m=xs.take k++[m]++xs.drop k):=M.out k V HJ.out (fun h1=>by
   by_cases h2:(xs.getD k default).con<m.con
   ·exact absurd ⟨h1,h2⟩ C
   first|exact h2|omega)
  have a1:Hid (wr.ownsRow base 166 2 (.slice s n cap) n (gM xs)):=fO HO.out E;clear M HJ C l;have c3:(k:Int)≤cap:=oM;have c4:(k:Int)≤n:=oM;have a4:Hid (bW wr fun W=>gP W (.slice s k cap) (xs.take k).length (gM (xs.take k))):=fun W hW=>by
   rw[show(xs.take k).length=k by rw[List.length_take,HN.out];omega,fIo];exact(fEi (fO a1.out hW) V).1
  have a5:Hid (bW wr fun W=>gP W (.slice (if cap=k then s else Option.map (fun x=>x.add (k*2)) s) (n-k) (cap-k)) (xs.drop k).length (gM (xs.drop k))):=fun W hW=>by
   rw[show(xs.drop k).length=n-k by rw[List.length_drop,HN.out],fIm];exact(fEi (fO a1.out hW) V).2
  have N:Hid ((xs.take k).length≤1048576∧(xs.drop k).length≤1048576):=⟨by rw[List.length_take,HN.out];omega,by rw[List.length_drop,HN.out];omega⟩;go_wp2;refine wp_region_noPanic ?_;refine fB (fun W=>aa wr W) 14 kF hE (fun hS=>?_);refine tY 1 ?_;refine tY 2 ?_;refine tY 3 ?_;refine tY 5 ?_;refine tY 6 ?_;refine tY 7 ?_;refine tY 10 ?_;refine tY 11 ?_;refine tY 12 ?_;generalize (if cap=k then s else Option.map (fun x=>x.add (k*2)) s)=q0 at *;have R:aa wr wr.drew:=Below.drew (bR _ _);generalize wr.drew=W0 at *;refine uE [(0,23),(4,27),(8,31),(9,32),(13,36)] fG9 (fFs W0.heap.size xs m k) kF hS ?_ ?_ ?_ ?_
  ·intro F' W W' h H hF;exact H.below h h.size (fun b hb=>by have:=hF b hb;have:=R.size;omega)
  ·
   intro p hp;simp only[List.mem_cons,List.not_mem_nil,or_false] at hp;rcases hp with rfl|rfl|rfl|rfl|rfl
   all_goals
    intro y y' F1 F' W W' h hF H T a9 e he;simp only[fFs] at h ⊢;rw[e];exact mrksR.mod h H (fun b hb hf=>T b hf hb)
  ·
   intro p hp;simp only[List.mem_cons,List.not_mem_nil,or_false] at hp;rcases hp with rfl|rfl|rfl|rfl|rfl
   all_goals
    refine⟨_,rfl,rfl,?_⟩;intro y W Φ I d z K r
   ·clear z;refine⟨?_⟩;simp only[over,jX,lZ] at r ⊢;go_simp;refine r _ _ (fun b=>b=W.heap.size) (Mod.of_below hE) (fun b hb=>.inr (by rw[hb];simp)) ?_;simp only[fFs,updV];exact fVe W _ d.size
   ·
    have J:=(z (0,23) (by simp) kF (.inl (by simp[fG9]))).2;clear z;simp only[fFs] at J;refine⟨?_⟩;simp only[over,jX,lZ] at r ⊢;refine kW rfl ?_;refine fAc W ?hg1 (.tmp 23) (.tmp 26) ?ho1 W0.heap.size (y 23) (Φ 0) ([]) ?hs1 (.slice s k cap) (xs.take k) ?hx1 J (a4.out W I) (by have:=N.out;simp only[List.length_append,List.length_cons,List.length_nil];omega) d.size ?_
    case hg1=>rfl
    case ho1=>rfl
    case hs1=>rfl
    case hx1=>rfl
    intro v' w' F' X H hl;rw[List.nil_append] at X;refine r _ _ F' (H.mono (fun b hb=>⟨0,by simp[fG9],hb⟩)) (fun b hb=>(hl b hb).imp (fun h=>⟨0,by simp[fG9],h⟩) (fun h=>h)) ?_;simp only[fFs,updV];simpa using X
   ·clear z;refine⟨?_⟩;simp only[over,jX,lZ] at r ⊢;go_simp;refine r _ _ (fun b=>b=W.heap.size) (Mod.of_below hE) (fun b hb=>.inr (by rw[hb];simp)) ?_;simp only[fFs,updV];exact fZl W _ m d.size
   ·
    have J:=(z (4,27) (by simp) kF (.inl (by simp[fG9]))).2;have g1:=(z (8,31) (by simp) kF (.inr (by decide))).2;clear z;simp only[fFs] at J g1;have a2:=rM (mrksR.ofO g1);refine⟨?_⟩;simp only[over,jX,lZ] at r ⊢;refine kW rfl ?_;refine fAc W ?hg1 (.tmp 27) (.tmp 31) ?ho1 W0.heap.size (y 27) (Φ 4) (xs.take k) ?hs1 (y 31) [m] ?hx1 J a2 (by have:=N.out.1;simp only[List.length_cons,List.length_nil];omega) d.size ?_
    case hg1=>rfl
    case ho1=>rfl
    case hs1=>rfl
    case hx1=>rfl
    intro v' w' F' X H hl;refine r _ _ F' (H.mono (fun b hb=>⟨4,by simp[fG9],hb⟩)) (fun b hb=>(hl b hb).imp (fun h=>⟨4,by simp[fG9],h⟩) (fun h=>h)) ?_;simp only[fFs,updV];simpa using X
   have J:=(z (9,32) (by simp) kF (.inl (by simp[fG9]))).2;clear z;simp only[fFs] at J;refine⟨?_⟩;simp only[over,jX,lZ] at r ⊢;refine kW rfl ?_;refine fAc W ?hg1 (.tmp 32) (.tmp 35) ?ho1 W0.heap.size (y 32) (Φ 9) (xs.take k++[m]) ?hs1 (.slice q0 (n-k) (cap-k)) (xs.drop k) ?hx1 J (a5.out W I) (by have:=N.out;simp only[List.length_append,List.length_cons,List.length_nil];omega) d.size ?_
   case hg1=>rfl
   case ho1=>rfl
   case hs1=>rfl
   case hx1=>rfl
   intro v' w' F' X H hl;skip;refine r _ _ F' (H.mono (fun b hb=>⟨9,by simp[fG9],hb⟩)) (fun b hb=>(hl b hb).imp (fun h=>⟨9,by simp[fG9],h⟩) (fun h=>h)) ?_;simp only[fFs,updV];simpa using X
  refine⟨_,rfl,?_⟩;intro y W Φ I d z T K r;have U:=(z (13,36) (by simp) (by decide)).2;clear z T;simp only[fFs] at U;have hz:=d.size;have ab:=R.size;have a6:Hid (mrksR.O W W0.heap.size (Φ 13) (y 36) (xs.take k++[m]++xs.drop k)):=U;have ac:=E.size;have a7:aa w W:=bS E (bS R d);refine⟨?_⟩;simp only[over,jX,lZ];clear U hS I;go_simp;refine r _ _ ?_;clear r K;refine NoPanic.normal ?_;go_wp2;refine bodyPost_ret (v:=y 36) (by simp[results,Tryz.results156,go_sem]) rfl ⟨_,Φ 13,rfl,?_,a7⟩;rw[HP.out];exact mrksR.base a6.out oM
end
end Go.Proofs.YtpibfdebfacooaaGreat

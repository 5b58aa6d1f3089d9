import Derived.Test.YtpibfdebfacooaaGreatPrnWriteEventLaw26
set_option maxHeartbeats 16000000
set_option maxRecDepth 20000
set_option linter.all false
namespace Go.Proofs.YtpibfdebfacooaaGreat
open Go.RowKit
attribute [local go_sem ↓] Go.wp_at_zero Go.wp_at_succ
attribute [local go_sem] cW cI ah cN iV aj an
section
variable [dQ Logg] [iH Logg] [dQ LoggR] [iH LoggR] [dQ BytesR] [iH BytesR] [dQ RecsR] [iH RecsR] [dQ Leg] [iH Leg]
theorem Mod.frozenAt {F:Nat→Prop} {w w':World} (h:Mod F w w') {a:Addr} (hl:a.block<w.heap.size) (hn:¬F a.block):w'.frozen? a=w.frozen? a:=World.frozen?_of_block (h.block a.block hl hn)
theorem fS6 (Y:World) {ops:Array Oper} {o:Oper} {a:Act} {K:Act→World→Prop} {Q:Exit→Act→World→Prop} {E:Prop} (hgd:o.guard=none) (s x:Operand)
  (ho:o.op =.call {callee:=.builtin .append,args:=#[s,x],argTypes:=#[23,23]})
  (base:Nat) (v:Value) (xs:List Byte) (hs:a.eval s=v) (u:Value) (ys:List Byte) (hx:a.eval x=u)
  (hown:Y.ownsRow base 5 1 v xs.length (fT xs)) (hsrc:gP Y u ys.length (fT ys)) (hpos:0<ys.length) (hlen:xs.length+ys.length≤1073741824) (hbase:base≤Y.heap.size)
  (h:∀v' w',w'.ownsRow base 5 1 v' (xs++ys).length (fT (xs++ys))→Y.grownBy w' v.ownBlock→(v'.ownBlock=v.ownBlock∨v'.ownBlock=some Y.heap.size)→K (a.put o.dst v') w') :
  if Region.wanted o (yielded ops a.tmps)=true then Oper.wp Tryz.prog o a Y K Q else E:=by
 obtain⟨j,k,d,e,g⟩:=info_parts infoByte;rcases hsrc with ⟨c,rfl,p,_⟩|⟨l,c,rfl,m⟩
 ·omega
 refine uI Y hgd s x 23 ho base 5 j _ 1 1 Tryz.underlying23 k d e g rfl (by decide) v xs.length (fT xs) hs hown l ys.length c (fT ys) hx (by rw[qO];omega) m (xU ys) (by unfold maxLen;omega) oM hbase ?_;intro v' w' h1 h2 n;refine h v' w' ?_ h2 n;rw[List.length_append,uZ];exact h1
theorem fL4 (x y:Value) (d:Logg) (xs:List Byte) (w:World) (hx:loggR.V w x d) (hy:bytesR.V w y xs) (hn:d.synced.length+d.loose.length≤6000) (h500:xs.length≤500) :
  cL 48 #[x,y] w fun e w'=>∃v F,e =.returned (.tuple #[v,iV (logF ⟨d.synced,d.loose++gK xs⟩)])∧loggR.O w' w.heap.size F v ⟨d.synced,d.loose++gK xs⟩∧aa w w':=by
 have hX:=hx;obtain⟨a1,a2,c1,c2,rfl⟩:=mJ hx;obtain⟨ay,cy,rfl⟩:=fF hy;have ab:0<(gK xs).length:=by rw[yX];omega
 have ac:(gK xs).length≤504:=by rw[yX];omega
 obtain⟨c,hc⟩:∃c,logF ⟨d.synced,d.loose++gK xs⟩=c:=⟨_,rfl⟩
 have HC:Hid (logF ⟨d.synced,d.loose++gK xs⟩=c):=hc;rw[hc];clear hc;go_enter Tryz.func48,Tryz.ntmps48;go_wp2_with fail;refine(fIa _ d _ (loggR.below hX hE) (by unfold gJ kM;omega)).mono ?_;rintro e g ⟨v,F,rfl,ho,z⟩;obtain⟨u1,u2,R,F2,rfl,M,E,A,_⟩:=ho;obtain⟨H,I,rfl⟩:=fF (bytesR.ofO M);obtain⟨a7,c7,rfl⟩:=fF (bytesR.ofO E);have r0:g.cell? ⟨w.heap.size+1,0,none⟩=some aj:=cK z sG;have r1:g.cell? ⟨w.heap.size+1,1,none⟩=some aj:=cK z sG;have rf:aq g (w.heap.size+1):=ap z;have s1:=z.size;simp only[World.size_alloc] at s1;have T:aa w g:=hE;replace M:=bytesR.base (base':=w.heap.size+2) M (by simp);replace E:=bytesR.base (base':=w.heap.size+2) E (by simp);have m:∀b,F2 b→w.heap.size+2≤b∧b<g.heap.size:=fun b hb=>bytesR.rng E b hb
 have hY:=bytesR.below hy T;clear z hX hx;go_wp2;refine wp_region_noPanic ?_;refine fB (fun w'=>aa w w'∧w'.cell? ⟨g.heap.size,1,none⟩=some (.slice a7 d.loose.length c7)) 6 kF ⟨hE,by simp[go_sem]⟩ (fun hS=>?_);refine tY 0 ?_;refine tY 1 ?_;refine tY 2 ?_;refine uS 3 rfl (fun K p=>?_);go_simp;refine(fOm _ xs _ (bytesR.below hY hE) h500).mono ?_;rintro e N ⟨v,F3,rfl,o3,s⟩;have V3:=bytesR.ofO o3;obtain⟨a3,c3,rfl⟩:=fF V3;have q:=bT g s;have x0:N.cell? ⟨g.heap.size,0,none⟩=some (.slice H d.synced.length I):=cK s sG;have x1:N.cell? ⟨g.heap.size,1,none⟩=some (.slice a7 d.loose.length c7):=cK s sG;have xf:aq N g.heap.size:=ap s;have z2:=s.size;simp at z2;have G:aa w N:=bS T q;refine p _ _ (fun _=>⟨G,x1⟩) ?_;clear p K s o3 hY;try simp only[jX]
 refine uS 4 rfl (fun K p=>?_);have U:=bytesR.keep E q;have X:=bytesR.keep M q;refine fS6 N rfl _ _ rfl (w.heap.size+2) (.slice a7 d.loose.length c7) d.loose rfl (.slice a3 (gK xs).length c3) (gK xs) rfl U.1 (kN V3) oM oM oM ?_;intro v4 n o4 Y B;have l:Mod F2 N n:=by rw[E.2];exact Mod.of_grown Y
 have k1:=bytesR.mod X l A;have C:aa w n:=l.below G G.size (fun b hb=>by have:=m b hb;omega);have y0:=l.cell x0 (nJ m);have y1:=l.cell x1 (nJ m);have yf:aq n g.heap.size:=fun o=>by rw[l.frozenAt (a:=⟨g.heap.size,o,none⟩) (by dsimp only;omega) (nJ m)];exact xf o
 have t0:=l.cell (cK q r0) (nJ m);have t1:=l.cell (cK q r1) (nJ m);have tf:aq n (w.heap.size+1):=fun o=>by rw[l.frozenAt (a:=⟨w.heap.size+1,o,none⟩) (by dsimp only;omega) (nJ m),(bcell q).2 _ _ oM];exact rf o
 obtain⟨j,k,rfl⟩:=fD o4;have J:∀b,R b→b<g.heap.size:=fun b hb=>(bytesR.rng M b hb).2
 have a9:=q.size;have f4:∀b,R b→¬(Value.slice j (d.loose++gK xs).length k).ownBlock=some b:=fun b hf hb=>by
  rcases B with h|h
  ·refine A b hf ?_;rw[E.2,←h];exact hb
  rw[h] at hb;have:=J b hf;simp only[Option.some.injEq] at hb;omega
 have Z:∀b,(Value.slice j (d.loose++gK xs).length k).ownBlock=some b→b≠g.heap.size:=fun b hb e=>by
  rcases B with h|h
  ·
   have h5:F2 b:=by rw[E.2,←h];exact hb
   have:=m b h5;omega
  rw[h] at hb;simp only[Option.some.injEq] at hb;omega
 have z4:=l.size;have HO:Hid (bytesR.O n (w.heap.size+2) (fun b=>(Value.slice j (d.loose++gK xs).length k).ownBlock=some b) (.slice j (d.loose++gK xs).length k) (d.loose++gK xs)):=⟨o4,rfl⟩;have a0:(fun w'=>aa w w'∧w'.cell? ⟨g.heap.size,1,none⟩=some (.slice a7 d.loose.length c7)) n:=⟨C,y1⟩;refine p _ _ (fun _=>a0) ?_;clear p K B Y o4 X U M E hS x0 x1 xf r0 r1 rf q l V3 G;rw[List.length_append] at *;try simp only[jX]
 refine tY 5 ?_;refine uS 6 rfl (fun K p=>?_);go_simp;refine p _ _ (fun h=>absurd rfl h) ?_;clear p K;refine dP ?_;have s0:(n.setCell ⟨g.heap.size,1,none⟩ (.slice j (d.loose.length+(gK xs).length) k)).cell? ⟨g.heap.size,0,none⟩=some (.slice H d.synced.length I):=by rw[fU (by simp)];exact y0
 have L:(n.setCell ⟨g.heap.size,1,none⟩ (.slice j (d.loose.length+(gK xs).length) k)).cell? ⟨g.heap.size,1,none⟩=some (.slice j (d.loose.length+(gK xs).length) k):=by simpa using mY y1
 have m0:(n.setCell ⟨g.heap.size,1,none⟩ (.slice j (d.loose.length+(gK xs).length) k)).cell? ⟨w.heap.size+1,0,none⟩=some aj:=by rw[fU (by simp)];exact t0
 have m1:(n.setCell ⟨g.heap.size,1,none⟩ (.slice j (d.loose.length+(gK xs).length) k)).cell? ⟨w.heap.size+1,1,none⟩=some aj:=by rw[fU (by simp)];exact t1
 have mf:∀o,(n.setCell ⟨g.heap.size,1,none⟩ (.slice j (d.loose.length+(gK xs).length) k)).frozen? ⟨w.heap.size+1,o,none⟩=false:=fun o=>by simp[tf]
 have a5:aa w (n.setCell ⟨g.heap.size,1,none⟩ (.slice j (d.loose.length+(gK xs).length) k)):=C.setCell (by dsimp only;omega) _;have n1:bytesR.O (n.setCell ⟨g.heap.size,1,none⟩ (.slice j (d.loose.length+(gK xs).length) k)) (w.heap.size+2) R (.slice H d.synced.length I) d.synced:=bytesR.mod k1 (Mod.of_set n _ _) (fun b hb e=>by have:=J b hb;dsimp only at e;omega);have n2:bytesR.O (n.setCell ⟨g.heap.size,1,none⟩ (.slice j (d.loose.length+(gK xs).length) k)) (w.heap.size+2) (fun b=>(Value.slice j (d.loose.length+(gK xs).length) k).ownBlock=some b) (.slice j (d.loose.length+(gK xs).length) k) (d.loose++gK xs):=bytesR.mod HO.out (Mod.of_set n _ _) (fun b hb e=>Z b hb e);have hL:loggR.O (n.setCell ⟨g.heap.size,1,none⟩ (.slice j (d.loose.length+(gK xs).length) k)) (w.heap.size+2) (fun b=>R b∨(Value.slice j (d.loose.length+(gK xs).length) k).ownBlock=some b) (.agg #[.slice H d.synced.length I,.slice j (d.loose.length+(gK xs).length) k]) ⟨d.synced,d.loose++gK xs⟩:=⟨_,_,R,_,rfl,n1,n2,f4,fun b=>Iff.rfl⟩;have z5:g.heap.size<(n.setCell ⟨g.heap.size,1,none⟩ (.slice j (d.loose.length+(gK xs).length) k)).heap.size:=by simp;omega
 generalize n.setCell ⟨g.heap.size,1,none⟩ (.slice j (d.loose.length+(gK xs).length) k)=W5 at *;clear a0 y0 y1 yf t0 t1 tf k1 HO n1 n2 Z f4 A J m C;go_wp2;refine wp_region_noPanic ?_;refine fB (fun w'=>aa w w'∧w'.cell? ⟨g.heap.size,0,none⟩=some (.slice H d.synced.length I)∧w'.cell? ⟨g.heap.size,1,none⟩=some (.slice j (d.loose.length+(gK xs).length) k)) 4 kF ⟨hE,by simpa [go_sem] using s0,by simpa [go_sem] using L⟩ (fun hS=>?_);refine tY 0 ?_;refine tY 1 ?_;refine uS 2 rfl (fun K p=>?_);go_simp;refine(fDv _ ⟨d.synced,d.loose++gK xs⟩ _ (loggR.below (loggR.ofO hL) hE) (by unfold gJ kM;simp only[List.length_append];omega)).mono ?_;rintro e w6 ⟨rfl,a4⟩;rw[HC.out];have r:=bT W5 a4;have D:(fun w'=>aa w w'∧w'.cell? ⟨g.heap.size,0,none⟩=some (.slice H d.synced.length I)∧w'.cell? ⟨g.heap.size,1,none⟩=some (.slice j (d.loose.length+(gK xs).length) k)) w6:=⟨bS a5 r,cK r s0,cK r L⟩;have q0:=cK r m0;have q1:=cK r m1;have qf:aq w6 (w.heap.size+1):=fun o=>by rw[(bcell r).2 _ _ oM];exact mf o
 have ad:=D.1;have a8:=loggR.keep hL r;refine p _ _ (fun _=>D) ?_;clear p K a4 hL;try simp only[jX]
 refine uS 3 rfl (fun K p=>?_);go_simp;refine p _ _ (fun _=>⟨hE,?_,?_⟩) ?_
 ·rw[fU (by simp),fU (by simp)];exact D.2.1
 ·rw[fU (by simp),fU (by simp)];exact D.2.2
 clear p K;try simp only[jX]
 refine uS 4 rfl (fun K p=>?_);go_simp;refine p _ _ (fun h=>absurd rfl h) ?_;clear p K;refine dP ?_;clear hS D s0 L m0 m1 mf r;go_wp2;refine bodyPost_ret (v:=.tuple #[.agg #[.slice H d.synced.length I,.slice j (d.loose.length+(gK xs).length) k],iV c]) ?_ rfl ⟨_,_,rfl,loggR.base (loggR.set (loggR.set a8 _ (by simp)) _ (by simp)) oM,hE⟩;simp[results,Tryz.results48,go_sem,q0,q1]
end
section
theorem fJo:∀(ds:List Nat) (T:Array Value) (y:Nat→Value) (d:Nat) (v:Value),T.size≤d →
  ds.foldl (fun t s=>t.setIfInBounds s (updV y d v s)) T=ds.foldl (fun t s=>t.setIfInBounds s (y s)) T
 | [],_,_,_,_,_=>rfl
 | e::ds,T,y,d,v,h=>by
  simp only[List.foldl_cons];by_cases hd:e=d
  ·subst hd;rw[Array.setIfInBounds_eq_of_size_le h,Array.setIfInBounds_eq_of_size_le h];exact fJo ds T y e v h
  have e1:updV y d v e=y e:=if_neg hd;rw[e1];exact fJo ds _ y d v (by simpa using h)
theorem fVn {a:Act} {ds:List Nat} {y:Nat→Value} {d:Nat} {v:Value} {dst:Option Nat} (hd:dst=some d∨(dst=none∧a.tmps.size≤d)) (h:d ∈ ds) (hn:ds.Nodup):(over a ds y).put dst v=over a ds (updV y d v):=by
 rcases hd with rfl|⟨rfl,hd⟩
 ·exact fKc h hn
 simp only[over,Act.put];rw[fJo ds _ y d v hd]
section
variable {P : Program} {ops : Array Oper} {Q : Exit → Act → World → Prop} {md : Region.Mode} {S : World → Prop} {t : Nat}
def fZ3 (P:Program) (md:Region.Mode) (ops:Array Oper) (Q:Exit→Act→World→Prop) (S:World→Prop) (L:List (Nat × Nat)) (cons:Nat→List Nat) (G:Nat→(Nat→Value)→(Nat→Prop)→World→Prop) (a0:Act) (w0:World) (p:Nat × Nat):Prop:=
 ∃o,ops[p.1]? = some o∧(o.dst=some p.2∨(o.dst=none∧a0.tmps.size≤p.2))∧∀(y:Nat→Value) (w:World) (Φ:Nat→Nat→Prop),S w→aa w0 w →
  (∀q ∈ L,waitsFor md ops p.1 q.1=true→(q.1 ∈ cons p.1∨∀r ∈ L,q.1 ∉ cons r.1)→FIn w0 w (Φ q.1)∧G q.1 y (Φ q.1) w) →
  ∀K:Act→World→Prop,(∀v w' F',Mod (Taken cons Φ p.1) w w'→(∀b,F' b→Taken cons Φ p.1 b∨(w.heap.size≤b∧b<w'.heap.size))→G p.1 (updV y p.2 v) F' w'→K ((over a0 (L.map Prod.snd) y).put o.dst v) w') →
   Shut (if Region.wanted o (yielded ops (over a0 (L.map Prod.snd) y).tmps)=true then Oper.wp P o (over a0 (L.map Prod.snd) y) w K Q else K ((over a0 (L.map Prod.snd) y).put o.dst undef) w)
theorem fWj (L:List (Nat × Nat)) (cons:Nat→List Nat) (G:Nat→(Nat→Value)→(Nat→Prop)→World→Prop) {f:Nat} {listed:Array Bool} {a0:Act} {w0:World}
  (hrise:fMm md ops=true) (hsz:listed.size=ops.size) (hot:∃ot,ops[t]? = some ot)
  (hall:∀i,i<ops.size→listed.getD i true=false→i=t∨∃p ∈ L,p.1=i)
  (hun:listed.getD t true=false∧∀p ∈ L,listed.getD p.1 true=false)
  (hno:(L.map Prod.fst).Nodup) (hnd:(L.map Prod.snd).Nodup) (htl:∀p ∈ L,p.1≠t∧waitsFor md ops t p.1=true) (hf:f=L.length+1)
  (hcons:∀p ∈ L,∀j ∈ cons p.1,waitsFor md ops p.1 j=true∧∃q ∈ L,q.1=j) (huniq:∀p ∈ L,∀r ∈ L,p.1≠r.1→∀j ∈ cons p.1,j ∉ cons r.1)
  (hS:S w0) (hSst:∀(F:Nat→Prop) (w w':World),S w→Mod F w w'→(∀b,F b→w0.heap.size≤b)→S w')
  (hG:∀p ∈ L,∀(y y':Nat→Value) (F F':Nat→Prop) (w w':World),G p.1 y F w→FIn w0 w F→Mod F' w w'→tJ F' F→(∀b,F' b→w0.heap.size≤b)→y' p.2=y p.2→(∀q ∈ L,waitsFor md ops p.1 q.1=true→y' q.2=y q.2)→G p.1 y' F w')
  (hstep:∀p ∈ L,fZ3 P md ops Q S L cons G a0 w0 p)
  (hlast:∃o,ops[t]? = some o∧∀(y:Nat→Value) (w:World) (Φ:Nat→Nat→Prop),S w→aa w0 w→(∀q ∈ L,(∀r ∈ L,q.1 ∉ cons r.1)→FIn w0 w (Φ q.1)∧G q.1 y (Φ q.1) w)→(∀q ∈ L,∀r ∈ L,q.1≠r.1→(∀p ∈ L,q.1 ∉ cons p.1)→(∀p ∈ L,r.1 ∉ cons p.1)→tJ (Φ q.1) (Φ r.1)) →
   ∀K:Act→World→Prop,(∀a' w',Q .normal a' w'→K a' w')→Shut (if Region.wanted o (yielded ops (over a0 (L.map Prod.snd) y).tmps)=true then Oper.wp P o (over a0 (L.map Prod.snd) y) w K Q else K ((over a0 (L.map Prod.snd) y).put o.dst undef) w)) :
  gQ P md ops Q S t f listed a0 w0:=by
 have H:∀(n f:Nat) (listed:Array Bool) (y:Nat→Value) (w:World) (Φ:Nat→Nat→Prop),
   f=(L.filter fun p=>!listed.getD p.1 true).length+1→listed.size=ops.size→listed.getD t true=false →
   (∀i,i<ops.size→listed.getD i true=false→i=t∨∃p ∈ L,p.1=i) →
   (∀p ∈ L,listed.getD p.1 true=true→∀q ∈ L,waitsFor md ops p.1 q.1=true→listed.getD q.1 true=true) →
   S w→aa w0 w→(∀q ∈ L,Alive L cons listed q.1→FIn w0 w (Φ q.1)∧G q.1 y (Φ q.1) w) →
   (∀q ∈ L,∀r ∈ L,q.1≠r.1→Alive L cons listed q.1→Alive L cons listed r.1→tJ (Φ q.1) (Φ r.1)) →
   f≤n→gQ P md ops Q S t f listed (over a0 (L.map Prod.snd) y) w:=by
  intro n;induction n with
  | zero=>intro f listed y w Φ hf _ _ _ _ _ _ _ _ hn;omega
  | succ n ih=>
   intro f listed y w Φ hf hsz a3 hall U hS hB C a5 hn;obtain⟨ot,hot⟩:=hot;have ad:t<ops.size:=by
    rcases Nat.lt_or_ge t ops.size with h|h
    ·exact h
    rw[Array.getElem?_eq_none h] at hot;cases hot
   obtain⟨g,rfl⟩:∃g,f=g+1:=⟨_,hf⟩
   have hg:g=(L.filter fun p=>!listed.getD p.1 true).length:=oM;refine⟨fun h=>?_,fun i ar=>?_⟩
   ·obtain⟨j,E⟩:=fDc hrise hsz (t+1) t oM ad a3;rw[h] at E;cases E
   obtain⟨A,o,R,a6⟩:=mem_ready.1 ar;have ae:i<ops.size:=by
    rcases Nat.lt_or_ge i ops.size with h|h
    ·exact h
    rw[Array.getElem?_eq_none h] at R;cases R
   have M:∀k,k<ops.size→waitsFor md ops i k=true→listed.getD k true=true:=by
    intro k hk I;unfold waitsFor at I;rw[R] at I;obtain⟨e,he,hb⟩:=Array.any_eq_true'.1 I;simp only[Bool.and_eq_true,beq_iff_eq] at hb;have h1:=a6 e he hb.1;rw[hb.2] at h1;have a7:k<listed.size:=oM;simp[a7] at h1 ⊢;exact h1
   have N:∀p ∈ L,p.1<ops.size:=by
    intro p l;obtain⟨o',V,_⟩:=hstep p l;rcases Nat.lt_or_ge p.1 ops.size with h|h
    ·exact h
    rw[Array.getElem?_eq_none h] at V;cases V
   have au:∀K:Act→World→Prop,(if Region.wanted o (yielded ops (over a0 (L.map Prod.snd) y).tmps)=true then Oper.wp P o (over a0 (L.map Prod.snd) y) w K Q else K ((over a0 (L.map Prod.snd) y).put o.dst undef) w)→wpOp P ops Q i K (over a0 (L.map Prod.snd) y) w:=by
    intro K h1;unfold wpOp;simp only[R];split
    ·rename_i I;rw[if_pos I] at h1;exact .inl h1
    rename_i I;rw[if_neg I] at h1;exact h1
   refine au _ ?_;by_cases a8:i=t
   ·
    subst a8;have hl:∀p ∈ L,listed.getD p.1 true=true:=fun p l=>M p.1 (N p l) (htl p l).2
    obtain⟨o2,af,ag⟩:=hlast;rw[R] at af;cases af;refine(ag y w Φ hS hB (fun q d Y=>C q d ⟨hl q d,fun p l _=>Y p l⟩) (fun q d r m J h1 h2=>a5 q d r m J ⟨hl q d,fun p l _=>h1 p l⟩ ⟨hl r m,fun p l _=>h2 p l⟩) _ (fun a' w' d=>⟨fun h=>absurd rfl h,vY ?_ d⟩)).out;rw[List.eq_nil_iff_forall_not_mem];intro j E;obtain⟨D,oj,ak,_⟩:=mem_ready.1 E;have av:j<ops.size:=by
     rcases Nat.lt_or_ge j ops.size with h|h
     ·exact h
     rw[Array.getElem?_eq_none h] at ak;cases ak
    by_cases a9:i=j
    ·subst a9;have a7:i<listed.size:=oM;simp[a7] at D
    rw[getD_set_ne true a9] at D;rcases hall j av D with h|⟨p,l,h⟩
    ·exact a9 h.symm
    rw[←h,hl p l] at D;cases D
   obtain⟨p,l,aw⟩:=(hall i ae A).resolve_left a8;subst aw;obtain⟨o',V,al,ax⟩:=hstep p l;rw[R] at V;cases V;have O:∀q ∈ L,q.1 ∈ cons p.1→Alive L cons listed q.1:=fun q d Y=>⟨M q.1 (N q d) (hcons p l _ Y).1,fun r m T ay=>by
    by_cases e:r.1=p.1
    ·rw[e,A] at T;cases T
    exact huniq p l r m (Ne.symm e) q.1 Y ay⟩
   refine(ax y w Φ hS hB (fun q d I Y=>?_) _ (fun v w' F' hm ab az=>⟨fun _=>hSst _ _ _ hS hm ?_,?_⟩)).out
   ·
    rcases Y with Y|Y
    ·exact C q d (O q d Y)
    exact C q d ⟨M q.1 (N q d) I,fun r m _=>Y r m⟩
   ·rintro b ⟨j,E,hb⟩;obtain⟨_,q,d,rfl⟩:=hcons p l j E;exact((C q d (O q d E)).1 b hb).1
   have Z:∀b,Taken cons Φ p.1 b→w0.heap.size≤b∧b<w.heap.size:=by
    rintro b ⟨j,E,hb⟩;obtain⟨_,q,d,rfl⟩:=hcons p l j E;exact(C q d (O q d E)).1 b hb
   rw[fVn al (List.mem_map_of_mem l) hnd];have aA:p.1<listed.size:=oM;have x:(listed.setIfInBounds p.1 true).getD p.1 true=true:=by simp[aA]
   have z:∀j,p.1≠j→(listed.setIfInBounds p.1 true).getD j true=listed.getD j true:=fun j h=>getD_set_ne true h
   have a4:∀q ∈ L,q.1=p.1→q=p:=fun q d h=>fJ1 L hno q d p l h
   have X:∀q ∈ L,q.2=p.2→q=p:=fun q d h=>fJ2 L hnd q d p l h
   have B:∀q ∈ L,q.1≠p.1→Alive L cons (listed.setIfInBounds p.1 true) q.1→Alive L cons listed q.1∧q.1 ∉ cons p.1:=fun q d e ha=>by
    refine⟨⟨by rw[←z _ (Ne.symm e)];exact ha.1,fun r m T=>?_⟩,ha.2 p l x⟩;by_cases e2:r.1=p.1
    ·rw[e2,A] at T;cases T
    exact ha.2 r m (by rw[z _ (Ne.symm e2)];exact T)
   have ac:∀q ∈ L,Alive L cons listed q.1→q.1 ∉ cons p.1→tJ (Taken cons Φ p.1) (Φ q.1):=by
    rintro q d ha hn b ⟨j,E,hb⟩;obtain⟨_,r,m,rfl⟩:=hcons p l j E;exact a5 r m q d (fun e=>hn (e▸E)) (O r m E) ha b hb
   refine ih g (listed.setIfInBounds p.1 true) (updV y p.2 v) w' (fun j=>if j=p.1 then F' else Φ j) ?_ (by simpa using hsz) ?_ ?_ ?_ (hSst _ _ _ hS hm (fun b hb=>(Z b hb).1)) (hm.below hB hB.size (fun b hb=>(Z b hb).1)) ?_ ?_ oM
   ·rw[hg];refine yO hno l (by rw[A];rfl) (by rw[x];rfl) (fun q d J=>?_);rw[z _ (fun c=>J (a4 q d c.symm))]
   ·rw[z _ (fun h=>a8 h)];exact a3
   ·
    intro j E a1;by_cases e:p.1=j
    ·subst e;rw[x] at a1;cases a1
    rw[z _ e] at a1;exact hall j E a1
   ·
    intro q d am r m I;by_cases e:p.1=r.1
    ·rw[←e];exact x
    rw[z _ e];by_cases e2:p.1=q.1
    ·rw[←e2] at I;exact M r.1 (N r m) I
    rw[z _ e2] at am;exact U q d am r m I
   ·
    intro q d ha;by_cases e:q.1=p.1
    ·
     have e2:=a4 q d e;subst e2;simp only[if_true];refine⟨fun b hb=>?_,az⟩;rcases ab b hb with h|h
     ·have:=Z b h;have:=hm.size;omega
     have:=hB.size;omega
    obtain⟨h1,h2⟩:=B q d e ha;simp only[if_neg e];obtain⟨g1,g2⟩:=C q d h1;refine⟨fun b hb=>⟨(g1 b hb).1,Nat.lt_of_lt_of_le (g1 b hb).2 hm.size⟩,hG q d y (updV y p.2 v) _ _ w w' g2 g1 hm (ac q d h1 h2) (fun b hb=>(Z b hb).1) ?_ ?_⟩
    ·exact if_neg (fun c=>e (by rw[X q d c]))
    intro r m I;refine if_neg (fun c=>?_);have e3:=X r m c;subst e3;rw[U q d h1.1 _ m I] at A;cases A
   intro q d r m J aB ao;by_cases e:q.1=p.1
   ·
    have e':r.1≠p.1:=fun c=>J (e.trans c.symm)
    obtain⟨h1,h2⟩:=B r m e' ao;simp only[if_pos e,if_neg e'];intro b hb a2;rcases ab b hb with h|h
    ·exact ac r m h1 h2 b h a2
    have:=((C r m h1).1 b a2).2;omega
   obtain⟨h1,h2⟩:=B q d e aB;by_cases e':r.1=p.1
   ·
    simp only[if_neg e,if_pos e'];intro b hb a2;rcases ab b a2 with h|h
    ·exact ac q d h1 h2 b h hb
    have:=((C q d h1).1 b hb).2;omega
   obtain⟨h3,_⟩:=B r m e' ao;simp only[if_neg e,if_neg e'];exact a5 q d r m J h1 h3
 have h0:=H f f listed (fun s=>a0.tmps.getD s undef) w0 (fun _ _=>False) (by
  rw[hf,List.filter_eq_self.2 (fun p l=>by rw[hun.2 p l];rfl)]) hsz hun.1 hall (fun p l h=>by rw[hun.2 p l] at h;cases h) hS (bR _ _) (fun q d h=>by have h:=h.1;rw[hun.2 q d] at h;cases h) (fun q d r m J h=>by have h:=h.1;rw[hun.2 q d] at h;cases h) (Nat.le_refl _)
 rw[over_self] at h0;exact h0
def fYo (md:Region.Mode) (ops:Array Oper) (listed:Array Bool) (t f:Nat) (L:List (Nat × Nat)) (cons:Nat→List Nat):Bool:=
 fHs md ops listed t f L&&(L.all fun p=>(cons p.1).all fun j=>waitsFor md ops p.1 j&&L.any fun q=>decide (q.1=j))&&(L.all fun p=>L.all fun r=>decide (p.1=r.1)||(cons p.1).all fun j=>decide (j ∉ cons r.1))
theorem fTi (L:List (Nat × Nat)) (cons:Nat→List Nat) (G:Nat→(Nat→Value)→(Nat→Prop)→World→Prop) {f:Nat} {listed:Array Bool} {a0:Act} {w0:World} (hc:fYo md ops listed t f L cons=true)
  (hS:S w0) (hSst:∀(F:Nat→Prop) (w w':World),S w→Mod F w w'→(∀b,F b→w0.heap.size≤b)→S w')
  (hG:∀p ∈ L,∀(y y':Nat→Value) (F F':Nat→Prop) (w w':World),G p.1 y F w→FIn w0 w F→Mod F' w w'→tJ F' F→(∀b,F' b→w0.heap.size≤b)→y' p.2=y p.2→(∀q ∈ L,waitsFor md ops p.1 q.1=true→y' q.2=y q.2)→G p.1 y' F w')
  (hstep:∀p ∈ L,fZ3 P md ops Q S L cons G a0 w0 p)
  (hlast:∃o,ops[t]? = some o∧∀(y:Nat→Value) (w:World) (Φ:Nat→Nat→Prop),S w→aa w0 w→(∀q ∈ L,(∀r ∈ L,q.1 ∉ cons r.1)→FIn w0 w (Φ q.1)∧G q.1 y (Φ q.1) w)→(∀q ∈ L,∀r ∈ L,q.1≠r.1→(∀p ∈ L,q.1 ∉ cons p.1)→(∀p ∈ L,r.1 ∉ cons p.1)→tJ (Φ q.1) (Φ r.1)) →
   ∀K:Act→World→Prop,(∀a' w',Q .normal a' w'→K a' w')→Shut (if Region.wanted o (yielded ops (over a0 (L.map Prod.snd) y).tmps)=true then Oper.wp P o (over a0 (L.map Prod.snd) y) w K Q else K ((over a0 (L.map Prod.snd) y).put o.dst undef) w)) :
  gQ P md ops Q S t f listed a0 w0:=by
 unfold fYo fHs at hc;simp only[Bool.and_eq_true,decide_eq_true_eq,List.all_eq_true,List.any_eq_true,Bool.or_eq_true,Bool.not_eq_true',List.mem_range] at hc;obtain⟨⟨⟨⟨⟨⟨⟨⟨⟨⟨⟨h1,h2⟩,k⟩,l⟩,m⟩,n⟩,s⟩,x⟩,z⟩,d⟩,e⟩,g⟩:=hc;refine fWj L cons G h1 h2 (Option.isSome_iff_exists.1 k) (fun i A B=>?_) ⟨m,n⟩ s x z d e (fun p C r D j=>(g p C r D).resolve_left j) hS hSst hG hstep hlast;rcases l i A with (h|h)|h
 ·rw[B] at h;cases h
 ·exact .inl h
 exact .inr h
end
end
section
variable [dQ Bal] [iH Bal] [dQ Logg] [iH Logg] [dQ Jrn] [iH Jrn] [dQ Mrk] [iH Mrk] [dQ Leg] [iH Leg] [dQ Cont] [iH Cont] [dQ Shd] [iH Shd] [dQ JrnR] [iH JrnR] [dQ Evt] [iH Evt] [dQ EvtsR] [iH EvtsR] [dQ EvtR] [iH EvtR] [dQ BytesR] [iH BytesR] [dQ ContR] [iH ContR] [dQ LoggR] [iH LoggR] [dQ RecsR] [iH RecsR] [dQ Rw] [iH Rw] [dQ Ledg] [iH Ledg] [dQ LedgR] [iH LedgR] [dQ OutcR] [iH OutcR] [dQ ShdR] [iH ShdR]
theorem gAr {F:Nat→Prop} {w w':World} (h:Mod F w w') (a:Addr) (v:Value) (ha:F a.block):Mod F w (w'.setCell a v):=h.trans ((Mod.of_set w' a v).mono (fun b e=>by rw[e];exact ha))
def wreC:Nat→List Nat
 | 9=>[8]
 | _=>[]
def wreG (bs:List Byte) (L:Logg) (lf:Int) (base:Nat):Nat→(Nat→Value)→(Nat→Prop)→World→Prop
 | 3,y,F,w=>(∃a c,y 48 =.slice a bs.length c)∧bytesR.O w base F (y 48) bs
 | 4,y,F,w=>∃a c b k,y 49 =.tuple #[.agg #[.slice a L.synced.length c,.slice b L.loose.length k],.int .i64 lf]∧loggR.O w base F (.agg #[.slice a L.synced.length c,.slice b L.loose.length k]) L
 | 5,y,F,_=>(∃a c b k,y 44 =.tuple #[.agg #[.slice a L.synced.length c,.slice b L.loose.length k],.int .i64 lf])∧y 44=y 49∧∀b,¬F b
 | 6,y,F,_=>(∃a c b k,y 50 =.agg #[.slice a L.synced.length c,.slice b L.loose.length k])∧y 44 =.tuple #[y 50,.int .i64 lf]∧∀b,¬F b
 | 7,y,F,_=>y 51 =.int .i64 lf∧∀b,¬F b
 | 8,y,F,w=>∃lo,y 11 =.pointer (some ⟨lo,0,none⟩)∧w.cell? ⟨lo,0,none⟩=some (.slice none 0 0)∧w.cell? ⟨lo,1,none⟩=some (.slice none 0 0)∧(∀o,w.frozen? ⟨lo,o,none⟩=false)∧∀b,F b↔b=lo
 | 9,y,F,w=>∃lo a c b k,y 11 =.pointer (some ⟨lo,0,none⟩)∧y 50 =.agg #[.slice a L.synced.length c,.slice b L.loose.length k]∧w.cell? ⟨lo,0,none⟩=some (.slice a L.synced.length c)∧w.cell? ⟨lo,1,none⟩=some (.slice b L.loose.length k)∧(∀o,w.frozen? ⟨lo,o,none⟩=false)∧∀b,F b↔b=lo
 | _,_,_,_=>True
theorem fYf (x z:Value) (d:Jrn) (ev:Evt) (b:Bool) (w:World) (hx:jrnR.V w x d) (hz:evtR.V w z ev) (hn:pM d≤1048576) :
  cL 19 #[x,z,.bool b] w (JrE w (wrtD d ev b)):=by
 have ad:Hid (bW w fun W=>evtR.V W z ev):=fun W hW=>evtR.below hz hW
 have HR:Hid (bW w fun W=>cL 28 #[x] W (fTm W d)):=fun W hW=>fOk x d W (jrnR.below hx hW) hn
 have HC:Hid (bW w fun W=>cL 33 #[x] W fun e w'=>∃v F,e =.returned v∧jrnR.O w' W.heap.size F v d∧aa W w'):=fun W hW=>fU4 x d W (jrnR.below hx hW) hn
 have HF:Hid (bW w fun W=>RI 45 #[z] W (iV (evtF ev))):=fun W hW=>fGd z ev W (evtR.below hz hW)
 have aJ:Hid (∀W y s,aa w W→shdR.V W y s→cL 46 #[y,z] W (rJ W (doE s ev))):=fun W y s hW h1=>fU5 y z s ev W h1 (evtR.below hz hW)
 have aK:Hid (evtF ev=0→∀W,aa w W→cL 49 #[z] W fun e w'=>∃v F,e =.returned v∧bytesR.O w' W.heap.size F v (evtB ev)∧aa W w'):=fun h W hW=>fU6 z ev W (evtR.below hz hW) (fBr h).1
 obtain⟨a0,c0,b1,d1,b2,d2,rfl,bN,bw⟩:=vC hx;have bx:gJ d.log≤1048576:=by unfold pM at hn;omega
 have aI:Hid (bW w fun W=>cL 47 #[.agg #[iV d.idx,.slice a0 d.start.length c0,.slice b1 d.log.synced.length d1,.slice b2 d.log.loose.length d2]] W fun e w'=>∃v F,e =.returned v∧evtsRR.O w' W.heap.size F v (evsD d.log)∧aa W w'):=fun W hW=>fMs _ d W (jrnR.below hx hW) bx
 have a9:Hid ((repT d).code=0→evtF ev=0→∀W y,aa w W→bytesR.V W y (evtB ev)→cL 48 #[.agg #[.slice b1 d.log.synced.length d1,.slice b2 d.log.loose.length d2],y] W fun e w'=>∃v F,e =.returned (.tuple #[v,iV (logF (uM d.log ev))])∧loggR.O w' W.heap.size F v (uM d.log ev)∧aa W w'):=fun h h1 W y hW hy=>fL4 _ y d.log (evtB ev) W (loggR.below bw hW) hy (fP0 (fAq h).2) (fBr h1).2
 have ar:Hid (logF (uM d.log ev)=0→∀W y,loggR.V W y (uM d.log ev)→cL 50 #[y] W fun e w'=>∃v F,e =.returned v∧loggR.O w' W.heap.size F v ⟨(uM d.log ev).synced++(uM d.log ev).loose,[]⟩∧aa W w'):=fun h W y hy=>fIb y _ W hy (by
  unfold logF at h;split at h
  ·omega
  unfold gJ kM;omega)
 have bf:Hid (¬(repT d).code=0→wrtD d ev b=errJ (repT d).code):=fun h=>gAw rfl h
 have bg:Hid ((repT d).code=0→¬evtF ev=0→wrtD d ev b=errJ (evtF ev)):=fun h h1=>gAx h h1
 have ak:Hid (∀s c,(repT d).code=0→evtF ev=0→(repT d).shard=s→(doE s ev).code=c→¬c=0→wrtD d ev b=errJ c):=fun s c h h1 h2 n p=>gAy h h1 h2 n p
 have al:Hid (∀s,(repT d).code=0→evtF ev=0→(repT d).shard=s→(doE s ev).code=0→60≤(evsD d.log).evts.length→wrtD d ev b=errJ 2):=fun s h h1 h2 n p=>gAz h h1 h2 n p
 have B:Hid (∀s,(repT d).code=0→evtF ev=0→(repT d).shard=s→(doE s ev).code=0→¬60≤(evsD d.log).evts.length→¬logF (uM d.log ev)=0→wrtD d ev b=errJ (logF (uM d.log ev))):=fun s h h1 h2 n p h5=>by rw[gAp h5];exact gA0 h h1 h2 n p h5
 have C:Hid (∀s t,(repT d).code=0→evtF ev=0→(repT d).shard=s→(doE s ev).code=0→(doE s ev).shard=t→¬60≤(evsD d.log).evts.length→logF (uM d.log ev)=0→wrtD d ev b=⟨0,⟨d.idx,d.start,fG5 (uM d.log ev) b⟩,t⟩):=fun s t h h1 h2 n p h5 h6=>gA1 h h1 h2 n p h5 h6
 obtain⟨ae,ce,rfl,_⟩:=pF hz;clear hx hz hn bN bw bx;obtain⟨n0,bh⟩:∃n0,d.start.length=n0:=⟨_,rfl⟩
 obtain⟨n1,aV⟩:∃n1,d.log.synced.length=n1:=⟨_,rfl⟩
 obtain⟨n2,aW⟩:∃n2,d.log.loose.length=n2:=⟨_,rfl⟩
 obtain⟨ne,bz⟩:∃ne,ev.con.legs.length=ne:=⟨_,rfl⟩
 have HN:Hid (d.start.length=n0∧d.log.synced.length=n1∧d.log.loose.length=n2):=⟨bh,aV,aW⟩;rw[bh,aV,aW] at HR HC aI ⊢;rw[aV,aW] at a9;rw[bz] at ad HF aJ aK ⊢;clear bh aV aW bz;generalize wrtD d ev b=Z at *;generalize evtF ev=ef at *;generalize evsD d.log=ES at *;obtain⟨LL,bB⟩:∃LL,uM d.log ev=LL:=⟨_,rfl⟩
 rw[bB] at a9 ar B C;clear bB;generalize logF LL=lf at *;have bC:Hid (∀s,(repT d).shard=s→(repT d).shard=s):=fun _ h=>h
 go_enter Tryz.func19,Tryz.ntmps19;go_wp2_with fail;refine(HR.out _ hE).mono ?_;rintro e q ⟨v1,F1,s,rfl,o1,hs,j⟩;obtain⟨p1,p2,p3,p4,p5,q1,q2,q3,q4,q5,rfl⟩:=mW o1;have aX:=bT w j;have y0:cI q w.heap.size 0 d.idx:=cK j sG;have y1:ah q w.heap.size 1 a0 n0 c0:=cK j sG;have y2:ah q w.heap.size 2 b1 n1 d1:=cK j sG;have y3:ah q w.heap.size 3 b2 n2 d2:=cK j sG;have g0:cW q (w.heap.size+1) 0 (.bool ev.vote):=cK j sG;have g1:cI q (w.heap.size+1) 1 ev.con.id:=cK j sG;have g2:ah q (w.heap.size+1) 2 ae ne ce:=cK j sG;have g3:cI q (w.heap.size+1) 3 ev.out:=cK j sG;have D:cI q (w.heap.size+2) 0 0:=cK j sG;have E:cI q (w.heap.size+2) 1 0:=cK j sG;have H:cN q (w.heap.size+2) 2:=cK j sG;have I:cN q (w.heap.size+2) 3:=cK j sG;have J:cN q (w.heap.size+2) 4:=cK j sG;have L:cI q (w.heap.size+2) 5 0:=cK j sG;have M:cN q (w.heap.size+2) 6:=cK j sG;have N:cN q (w.heap.size+2) 7:=cK j sG;have R:cN q (w.heap.size+2) 8:=cK j sG;have U:cN q (w.heap.size+2) 9:=cK j sG;have g:cN q (w.heap.size+2) 10:=cK j sG
 have rf:aq q (w.heap.size+2):=ap j;have hz:w.heap.size+3≤q.heap.size:=by have:=j.size;simp at this;omega
 have bi:Hid (shdR.O q (w.heap.size+3) F1 (.agg #[iV s.idx,.slice p1 s.bals.length q1,.slice p2 s.votes.length q2,.slice p3 s.held.length q3,.slice p4 s.done.length q4,.slice p5 s.appl.length q5]) s):=shdR.base o1 (by simp);have HS:Hid ((repT d).code=0→(repT d).shard=s):=hs;clear o1 j HR hs;have z2:w.heap.size+2<q.heap.size:=oM;have cl:w.heap.size<q.heap.size:=oM;have cm:w.heap.size+1<q.heap.size:=oM;have am:w.heap.size≤w.heap.size+2:=oM;generalize (repT d).code=rc at *;generalize aY:s.bals.length=m1 at *;generalize bO:s.votes.length=m2 at *;generalize bP:s.held.length=m3 at *;generalize bQ:s.done.length=m4 at *;generalize bU:s.appl.length=m5 at *;clear aY bO bP bQ bU;by_cases aZ:rc=0;rotate_left
 ·
  have HD:Hid _:=bf.out aZ;have A:(rc !=0)=true:=by simp[aZ]
  clear bf bg ak al B C HS HC bi HF aJ aK aI a9 ar ad bC aZ;go_wp2;refine bodyPost_ret (v:=.agg #[iV rc,iV 0,aj,aj,aj,iV 0,aj,aj,aj,aj,aj]) (by simp[results,Tryz.results19,go_sem,D,E,H,I,J,L,M,N,R,U,g,rf,z2]) rfl (uV HD.out ?_);first|exact bA (qU aX am _ _ _ _ _ _ _ _ _ _ _) _|exact qU (bA aX _) am _ _ _ _ _ _ _ _ _ _ _
 subst aZ;have aL:Hid ((repT d).shard=s):=HS.out rfl;have aM:Hid _:=bg.out rfl;have aN:Hid _:=a9.out rfl;have aO:Hid (∀c,ef=0→(doE s ev).code=c→¬c=0→Z=errJ c):=fun c h1 n p=>ak.out s c rfl h1 aL.out n p
 have a2:Hid (ef=0→(doE s ev).code=0→60≤ES.evts.length→Z=errJ 2):=fun h1 n p=>al.out s rfl h1 aL.out n p
 have a3:Hid (ef=0→(doE s ev).code=0→¬60≤ES.evts.length→¬lf=0→Z=errJ lf):=fun h1 n p h5=>B.out s rfl h1 aL.out n p h5
 have a4:Hid (ef=0→(doE s ev).code=0→¬60≤ES.evts.length→lf=0→Z=⟨0,⟨d.idx,d.start,fG5 LL b⟩,(doE s ev).shard⟩):=fun h1 n p h5=>C.out s _ rfl h1 aL.out n rfl p h5
 clear bf bg ak al B C HS aL a9 bC;go_wp2_with fail;refine(HF.out _ hE).mono ?_;rintro e w2 ⟨rfl,au⟩;have aw:=bT q au;have b0:aa w w2:=bS aX aw;have t0:cI w2 q.heap.size 0 s.idx:=cK au sG;have t1:ah w2 q.heap.size 1 p1 m1 q1:=cK au sG;have t2:ah w2 q.heap.size 2 p2 m2 q2:=cK au sG;have t3:ah w2 q.heap.size 3 p3 m3 q3:=cK au sG;have t4:ah w2 q.heap.size 4 p4 m4 q4:=cK au sG;have t5:ah w2 q.heap.size 5 p5 m5 q5:=cK au sG;have z3:q.heap.size<w2.heap.size:=wL _ _ t0;refine kR12 aw ?_ y0 y1 y2 y3 g0 g1 g2 g3 D E H I;clear y0 y1 y2 y3 g0 g1 g2 g3 D E H I;intro y0 y1 y2 y3 g0 g1 g2 g3 D E H I;refine kR7 aw ?_ J L M N R U g;clear J L M N R U g;intro J L M N R U g;replace rf:=ai aw z2 rf;have bj:Hid (shdR.O w2 (w.heap.size+3) F1 (.agg #[iV s.idx,.slice p1 m1 q1,.slice p2 m2 q2,.slice p3 m3 q3,.slice p4 m4 q4,.slice p5 m5 q5]) s):=shdR.keep bi.out aw;clear au bi HF aX;have z4:w.heap.size+2<w2.heap.size:=oM;have cn:w.heap.size<w2.heap.size:=oM;have co:w.heap.size+1<w2.heap.size:=oM;by_cases b3:ef=0;rotate_left
 ·
  have HD:Hid (Z=errJ ef):=aM.out b3;have A:(ef !=0)=true:=by simp[b3]
  clear aM aO a2 a3 a4 HC bj aJ aK aI aN ar ad b3;go_wp2;refine bodyPost_ret (v:=.agg #[iV ef,iV 0,aj,aj,aj,iV 0,aj,aj,aj,aj,aj]) (by simp[results,Tryz.results19,go_sem,D,E,H,I,J,L,M,N,R,U,g,rf,z4]) rfl (uV HD.out ?_);exact qU b0 am _ _ _ _ _ _ _ _ _ _ _
 subst b3;have ak:Hid _:=fun c=>aO.out c rfl
 have al:Hid _:=a2.out rfl;have B:Hid _:=a3.out rfl;have C:Hid _:=a4.out rfl;have a9:Hid _:=aN.out rfl;have aF:Hid _:=aK.out rfl;clear aM aO a2 a3 a4 aN aK;go_wp2_with fail;refine(aJ.out _ _ s b0 (shdR.ofO bj.out)).mono ?_;rintro e Y ⟨v3,F3,rfl,o3,aC⟩;obtain⟨T,hT⟩:∃T,doE s ev=T:=⟨_,rfl⟩
 rw[hT] at o3 ak al B C;clear hT aJ bj;obtain⟨tc,tv,ts⟩:=T;dsimp only at ak al B C;obtain⟨x1,x2,x3,x4,x5,h1,h2,n,p,h5,i1,i2,i3,i4,i5,rfl⟩:=kR o3;have b4:Hid (shdR.O Y w2.heap.size F3 (.agg #[iV ts.idx,.slice x1 h1 i1,.slice x2 h2 i2,.slice x3 n i3,.slice x4 p i4,.slice x5 h5 i5]) ts):=uC o3;have b5:aa w Y:=bS b0 aC;refine kR12 aC ?_ y0 y1 y2 y3 g0 g1 g2 g3 D E H I;clear y0 y1 y2 y3 g0 g1 g2 g3 D E H I;intro y0 y1 y2 y3 g0 g1 g2 g3 D E H I;refine kR7 aC ?_ J L M N R U g;clear J L M N R U g;intro J L M N R U g;replace rf:=ai aC z4 rf;have z5:w.heap.size+2<Y.heap.size:=Nat.lt_of_lt_of_le z4 aC.size;have cp:w.heap.size<Y.heap.size:=oM;have cq:w.heap.size+1<Y.heap.size:=oM;have cu:w2.heap.size≤Y.heap.size:=aC.size;clear aC o3 t0 t1 t2 t3 t4 t5 b0;by_cases b6:tc=0;rotate_left
 ·
  have HD:Hid (Z=errJ tc):=ak.out tc rfl b6;have A:(tc !=0)=true:=by simp[b6]
  clear ak al B C HC b4 aF aI a9 ar ad b6;go_wp2;refine bodyPost_ret (v:=.agg #[iV tc,iV 0,aj,aj,aj,iV 0,aj,aj,aj,aj,aj]) (by simp[results,Tryz.results19,go_sem,D,E,H,I,J,L,M,N,R,U,g,rf,z5]) rfl (uV HD.out ?_);first|exact bA (qU b5 am _ _ _ _ _ _ _ _ _ _ _) _|exact qU (bA b5 _) am _ _ _ _ _ _ _ _ _ _ _
 subst b6;have a2:Hid _:=al.out rfl;have a3:Hid _:=B.out rfl;have a4:Hid _:=C.out rfl;clear ak al B C;go_wp2_with fail;refine(aI.out _ hE).mono ?_;rintro e w4 ⟨v4,F4,rfl,o4,ac⟩;obtain⟨ec,es⟩:=ES;obtain⟨u4,F5,rfl,o4,_⟩:=o4;dsimp only at o4 a2 a3 a4 ⊢;obtain⟨af,cf,rfl⟩:=vO (evtsR.ofO o4);have ax:=bT Y ac;have b7:aa w w4:=bS b5 ax;have t0:cI w4 Y.heap.size 0 0:=cK ac sG;have t1:cI w4 Y.heap.size 1 tv:=cK ac sG;have t2:cI w4 Y.heap.size 2 ts.idx:=cK ac sG;have t3:ah w4 Y.heap.size 3 x1 h1 i1:=cK ac sG;have t4:ah w4 Y.heap.size 4 x2 h2 i2:=cK ac sG;have t5:ah w4 Y.heap.size 5 x3 n i3:=cK ac sG;have t6:ah w4 Y.heap.size 6 x4 p i4:=cK ac sG;have t7:ah w4 Y.heap.size 7 x5 h5 i5:=cK ac sG;have z6:Y.heap.size<w4.heap.size:=wL _ _ t0;refine kR12 ax ?_ y0 y1 y2 y3 g0 g1 g2 g3 D E H I;clear y0 y1 y2 y3 g0 g1 g2 g3 D E H I;intro y0 y1 y2 y3 g0 g1 g2 g3 D E H I;refine kR7 ax ?_ J L M N R U g;clear J L M N R U g;intro J L M N R U g;replace rf:=ai ax z5 rf;have bk:Hid (shdR.O w4 w2.heap.size F3 (.agg #[iV ts.idx,.slice x1 h1 i1,.slice x2 h2 i2,.slice x3 n i3,.slice x4 p i4,.slice x5 h5 i5]) ts):=shdR.keep b4.out ax;have bl:Hid (∀b,F3 b→b<Y.heap.size):=fun b hb=>(shdR.rng b4.out b hb).2
 clear ac o4 aI b4 b5;have z7:w.heap.size+2<w4.heap.size:=oM;have cr:w.heap.size<w4.heap.size:=oM;have cs:w.heap.size+1<w4.heap.size:=oM;generalize es.length=nn at *;have cw:∀w:World,(Instr.field 80 (.agg #[iV ec,.slice af nn cf]) 1).run Tryz.prog w =.ok (.slice af nn cf) w:=fun _=>kF
 by_cases aP:60≤nn
 ·have HD:Hid (Z=errJ 2):=a2.out aP;have A:(60:Int)≤nn:=oM;clear a2 a3 a4 HC bk aF a9 ar ad aP;go_wp2;refine bodyPost_ret (v:=.agg #[iV 2,iV 0,aj,aj,aj,iV 0,aj,aj,aj,aj,aj]) (by simp[results,Tryz.results19,go_sem,D,E,H,I,J,L,M,N,R,U,g,rf,z7]) rfl (uV HD.out ?_);exact qU b7 am _ _ _ _ _ _ _ _ _ _ _
 have A:¬(60:Int)≤nn:=oM;have B:Hid _:=a3.out aP;have C:Hid _:=a4.out aP;clear a2 a3 a4 aP;go_wp2;have cx:¬w.heap.size=w.heap.size+1:=oM;refine wp_region_noPanic ?_;refine fB (fun W=>cI W w.heap.size 0 d.idx∧ah W w.heap.size 1 a0 n0 c0∧ah W w.heap.size 2 b1 n1 d1∧ah W w.heap.size 3 b2 n2 d2∧cW W (w.heap.size+1) 0 (.bool ev.vote)∧cI W (w.heap.size+1) 1 ev.con.id∧ah W (w.heap.size+1) 2 ae ne ce∧cI W (w.heap.size+1) 3 ev.out) 10 kF ⟨cK (Below.drew (bR _ _)) y0,cK (Below.drew (bR _ _)) y1,cK (Below.drew (bR _ _)) y2,cK (Below.drew (bR _ _)) y3,cK (Below.drew (bR _ _)) g0,cK (Below.drew (bR _ _)) g1,cK (Below.drew (bR _ _)) g2,cK (Below.drew (bR _ _)) g3⟩ (fun hS=>?_);refine tY 0 ?_;refine tY 1 ?_;refine tY 2 ?_;have b8:aa w4 w4.drew:=Below.drew (bR _ _);generalize w4.drew=W0 at *;have ct:=b8.size;refine fTi [(3,48),(4,49),(5,44),(6,50),(7,51),(8,11),(9,99)] wreC (wreG (evtB ev) LL lf W0.heap.size) kF hS ?_ ?_ ?_ ?_
 ·
  intro F W W' h hm hF;have aG:¬F w.heap.size:=fun e=>by have:=hF _ e;omega
  have aH:¬F (w.heap.size+1):=fun e=>by have:=hF _ e;omega
  exact⟨hm.cell h.1 aG,hm.cell h.2.1 aG,hm.cell h.2.2.1 aG,hm.cell h.2.2.2.1 aG,hm.cell h.2.2.2.2.1 aH,hm.cell h.2.2.2.2.2.1 aH,hm.cell h.2.2.2.2.2.2.1 aH,hm.cell h.2.2.2.2.2.2.2 aH⟩
 ·
  intro pp hp;simp only[List.mem_cons,List.not_mem_nil,or_false] at hp;rcases hp with rfl|rfl|rfl|rfl|rfl|rfl|rfl
  all_goals
   intro y y' F F' W W' h hi hm a5 hF e he;simp only[wreG] at h ⊢
  ·rw[e];exact⟨h.1,bytesR.mod h.2 hm (fun b hb hf=>a5 b hf hb)⟩
  ·rw[e];obtain⟨a,c,b,k,h1,h2⟩:=h;exact⟨a,c,b,k,h1,loggR.mod h2 hm (fun b hb hf=>a5 b hf hb)⟩
  ·have e9:=he (4,49) (by simp) kF;rw[e,e9];exact h
  ·have e9:=he (5,44) (by simp) kF;rw[e,e9];exact h
  ·rw[e];exact h
  ·obtain⟨lo,h0,h1,h2,n,p⟩:=h;rw[e];refine⟨lo,h0,hm.cell h1 (fun x=>a5 _ x ((p _).2 rfl)),hm.cell h2 (fun x=>a5 _ x ((p _).2 rfl)),fun o=>?_,p⟩;exact(hm.frozenAt (a:=⟨lo,o,none⟩) (by have:=wL _ _ h1;exact this) (fun x=>a5 _ x ((p _).2 rfl))).trans (n o)
  obtain⟨lo,a,c,b,k,h0,h1,h2,n,bV,p⟩:=h;have bX:=he (8,11) (by simp) kF;have bY:=he (6,50) (by simp) kF;rw[bX,bY];exact⟨lo,a,c,b,k,h0,h1,hm.cell h2 (fun x=>a5 _ x ((p _).2 rfl)),hm.cell n (fun x=>a5 _ x ((p _).2 rfl)),fun o=>(hm.frozenAt (a:=⟨lo,o,none⟩) (by have:=wL _ _ h2;exact this) (fun x=>a5 _ x ((p _).2 rfl))).trans (bV o),p⟩
 ·
  intro pp hp;simp only[List.mem_cons,List.not_mem_nil,or_false] at hp;rcases hp with rfl|rfl|rfl|rfl|rfl|rfl|rfl
  ·refine⟨_,rfl,.inl rfl,?_⟩;intro y W Φ ay a1 A K X;clear A;refine⟨?_⟩;simp only[over,Act.put,List.getElem_toArray,List.getElem_cons_zero,List.getElem_cons_succ,List.map_cons,List.map_nil,List.foldl_cons,List.foldl_nil,List.setIfInBounds_toArray,List.set_cons_zero,List.set_cons_succ,List.set_nil] at X ⊢;go_simp;refine(aF.out _ (bS b7 (bS b8 a1))).mono ?_;rintro e w' ⟨r,F,rfl,o5,bZ⟩;refine X _ _ F (Mod.of_below bZ) (fun b hb=>.inr (bytesR.rng o5 b hb)) ?_;simp only[wreG,updV];obtain⟨av,cv,hv⟩:=fF (bytesR.ofO o5);exact⟨⟨av,cv,by simpa using hv⟩,by simpa using bytesR.base o5 a1.size⟩
  ·refine⟨_,rfl,.inl rfl,?_⟩;intro y W Φ ay a1 A K X;have g5:=A (3,48) (by simp) kF (.inr (by simp[wreC]));clear A;simp only[wreG] at g5;obtain⟨-,⟨ab,cb,e5⟩,o5⟩:=g5;rw[e5] at o5;refine⟨?_⟩;simp only[over,Act.put,List.getElem_toArray,List.getElem_cons_zero,List.getElem_cons_succ,List.map_cons,List.map_nil,List.foldl_cons,List.foldl_nil,List.setIfInBounds_toArray,List.set_cons_zero,List.set_cons_succ,List.set_nil] at X ⊢;simp only[e5] at X ⊢;go_simp;refine(a9.out _ _ (bS b7 (bS b8 a1)) (bytesR.ofO o5)).mono ?_;rintro e w' ⟨v,F,rfl,o6,c1⟩;obtain⟨a,b,c,k,rfl⟩:=mJ (loggR.ofO o6);refine X _ _ F (Mod.of_below c1) (fun b hb=>.inr (loggR.rng o6 b hb)) ?_;simp only[wreG,updV];exact⟨a,c,b,k,by simp,loggR.base o6 a1.size⟩
  ·refine⟨_,rfl,.inl rfl,?_⟩;intro y W Φ ay a1 A K X;have g9:=A (4,49) (by simp) kF (.inr (by simp[wreC]));clear A;simp only[wreG] at g9;obtain⟨-,a,c,b,k,e0,-⟩:=g9;refine⟨?_⟩;simp only[over,Act.put,List.getElem_toArray,List.getElem_cons_zero,List.getElem_cons_succ,List.map_cons,List.map_nil,List.foldl_cons,List.foldl_nil,List.setIfInBounds_toArray,List.set_cons_zero,List.set_cons_succ,List.set_nil] at X ⊢;simp only[e0] at X ⊢;go_simp;refine X _ _ (fun _=>False) (Mod.refl _ _) (fun b hb=>hb.elim) ?_;simp only[wreG,updV];exact⟨⟨a,c,b,k,by simp⟩,by simp[e0],fun b hb=>hb⟩
  ·refine⟨_,rfl,.inl rfl,?_⟩;intro y W Φ ay a1 A K X;have g9:=A (5,44) (by simp) kF (.inr (by simp[wreC]));clear A;simp only[wreG] at g9;obtain⟨-,⟨a,c,b,k,e0⟩,-⟩:=g9;refine⟨?_⟩;simp only[over,Act.put,List.getElem_toArray,List.getElem_cons_zero,List.getElem_cons_succ,List.map_cons,List.map_nil,List.foldl_cons,List.foldl_nil,List.setIfInBounds_toArray,List.set_cons_zero,List.set_cons_succ,List.set_nil] at X ⊢;simp only[e0] at X ⊢;go_simp;refine X _ _ (fun _=>False) (Mod.refl _ _) (fun b hb=>hb.elim) ?_;simp only[wreG,updV];exact⟨⟨a,c,b,k,by simp⟩,by simp[e0],fun b hb=>hb⟩
  ·refine⟨_,rfl,.inl rfl,?_⟩;intro y W Φ ay a1 A K X;have g9:=A (5,44) (by simp) kF (.inr (by simp[wreC]));clear A;simp only[wreG] at g9;obtain⟨-,⟨a,c,b,k,e0⟩,-⟩:=g9;refine⟨?_⟩;simp only[over,Act.put,List.getElem_toArray,List.getElem_cons_zero,List.getElem_cons_succ,List.map_cons,List.map_nil,List.foldl_cons,List.foldl_nil,List.setIfInBounds_toArray,List.set_cons_zero,List.set_cons_succ,List.set_nil] at X ⊢;simp only[e0] at X ⊢;go_simp;refine X _ _ (fun _=>False) (Mod.refl _ _) (fun b hb=>hb.elim) ?_;simp only[wreG,updV];exact⟨by simp,fun b hb=>hb⟩
  ·refine⟨_,rfl,.inl rfl,?_⟩;intro y W Φ ay a1 A K X;clear A;refine⟨?_⟩;simp only[over,Act.put,List.getElem_toArray,List.getElem_cons_zero,List.getElem_cons_succ,List.map_cons,List.map_nil,List.foldl_cons,List.foldl_nil,List.setIfInBounds_toArray,List.set_cons_zero,List.set_cons_succ,List.set_nil] at X ⊢;go_simp;refine X _ _ (fun b=>b=W.heap.size) (Mod.of_below hE) (fun b hb=>.inr (by simp;omega)) ?_;simp only[wreG,updV];exact⟨W.heap.size,by simp,by simp[go_sem],sG,fun o=>sG,fun b=>Iff.rfl⟩
  refine⟨_,rfl,.inr ⟨rfl,by simp⟩,?_⟩;intro y W Φ ay a1 A K X;have aQ:=A (6,50) (by simp) kF (.inr (by simp[wreC]));have bE:=A (8,11) (by simp) kF (.inl (by simp[wreC]));clear A;simp only[wreG] at aQ bE;obtain⟨-,⟨a,c,b,k,e0⟩,-⟩:=aQ;obtain⟨_,lo,e1,k0,k1,kf,fl⟩:=bE;refine⟨?_⟩;simp only[over,Act.put,List.getElem_toArray,List.getElem_cons_zero,List.getElem_cons_succ,List.map_cons,List.map_nil,List.foldl_cons,List.foldl_nil,List.setIfInBounds_toArray,List.set_cons_zero,List.set_cons_succ,List.set_nil] at X ⊢;simp only[e0,e1] at X ⊢;go_simp;refine X undef _ (fun b=>b=lo) (((Mod.of_set W ⟨lo,0,none⟩ _).trans (Mod.of_set _ ⟨lo,1,none⟩ _)).mono (fun b hb=>⟨8,by simp[wreC],(fl b).2 hb⟩)) (fun b hb=>.inl ⟨8,by simp[wreC],(fl b).2 hb⟩) ?_;simp only[wreG,updV];exact⟨lo,a,c,b,k,by simp[e1],by simp[e0],(fU (by simp)).trans (mY k0),mY ((fU (by simp)).trans k1),fun o=>by simp[go_sem,kf],fun b=>Iff.rfl⟩
 refine⟨_,rfl,?_⟩;intro y W Φ ay a1 A a5 K X;have g6:=A (4,49) (by simp) (by simp[wreC]);have g7:=(A (5,44) (by simp) (by simp[wreC])).2;have g8:=(A (6,50) (by simp) (by simp[wreC])).2;have g9:=(A (7,51) (by simp) (by simp[wreC])).2;have aQ:=A (9,99) (by simp) (by simp[wreC]);have bb:=a5 (4,49) (by simp) (9,99) (by simp) (by simp) (by simp[wreC]) (by simp[wreC]);clear A a5;simp only[wreG] at g6 g7 g8 g9 aQ;obtain⟨c2,a7,c7,a8,c8,bF,o6⟩:=g6;obtain⟨-,bG,-⟩:=g7;obtain⟨-,b9,-⟩:=g8;obtain⟨bH,-⟩:=g9;obtain⟨bc,m,a',c',b',k',bI,aR,az,aA,nf,bm⟩:=aQ;rw[bG,bF] at b9;simp only[Value.tuple.injEq,Array.mk.injEq,List.cons.injEq,and_true] at b9;rw[←b9] at aR;simp only[Value.agg.injEq,Array.mk.injEq,List.cons.injEq,and_true,Value.slice.injEq,true_and] at aR;obtain⟨⟨rfl,rfl⟩,rfl,rfl⟩:=aR;have cy:=bc m ((bm m).2 rfl);have bJ:¬ Φ 4 m:=fun h=>bb m h ((bm m).2 rfl)
 generalize (Φ 4)=F6 at *;have ag:aa w4 W:=bS b8 a1;have a6:aa w W:=bS b7 ag;have cz:=ag.size;refine kR12 ag ?_ y0 y1 y2 y3 D E H I J L M N;clear y0 y1 y2 y3 D E H I J L M N;intro y0 y1 y2 y3 D E H I J L M N;refine kR11 ag ?_ R U g t0 t1 t2 t3 t4 t5 t6 t7;clear R U g t0 t1 t2 t3 t4 t5 t6 t7;intro R U g t0 t1 t2 t3 t4 t5 t6 t7;replace rf:=ai ag z7 rf;have aB:Hid (shdR.O W (w.heap.size+3) F3 (.agg #[iV ts.idx,.slice x1 h1 i1,.slice x2 h2 i2,.slice x3 n i3,.slice x4 p i4,.slice x5 h5 i5]) ts):=shdR.base (shdR.keep bk.out ag) oM;have aS:Hid (loggR.O W W0.heap.size F6 (.agg #[.slice a7 LL.synced.length c7,.slice a8 LL.loose.length c8]) LL):=o6;have bn:Hid (∀b,F6 b→W0.heap.size≤b∧b<W.heap.size):=fun b hb=>loggR.rng o6 b hb
 have c3:Hid (¬F6 m):=bJ;refine⟨?_⟩;simp only[over,Act.put,List.getElem_toArray,List.getElem_cons_zero,List.getElem_cons_succ,List.map_cons,List.map_nil,List.foldl_cons,List.foldl_nil,List.setIfInBounds_toArray,List.set_cons_zero,List.set_cons_succ,List.set_nil];simp only[bH,bI];clear bG bF b9 bH bI bb bm c2 bc o6 bJ hS ay a1 bk aF a9 ad g0 g1 g2 g3;generalize LL.synced.length=l1 at *;generalize LL.loose.length=l2 at *;go_simp;refine X _ _ ?_;clear X K;refine NoPanic.normal ?_;have cA:Y.heap.size<W.heap.size:=oM;have aT:w.heap.size+2<W.heap.size:=oM;have cB:w.heap.size<W.heap.size:=oM;by_cases ba:lf=0;rotate_left
 ·
  have HD:Hid _:=B.out ba;have A:(lf !=0)=true:=by simp[ba]
  clear B C HC aB ar aS bn c3 ba;go_wp2;refine bodyPost_ret (v:=.agg #[iV lf,iV 0,aj,aj,aj,iV 0,aj,aj,aj,aj,aj]) (by simp[results,Tryz.results19,go_sem,D,E,H,I,J,L,M,N,R,U,g,rf,aT]) rfl (uV HD.out ?_);exact qU a6 am _ _ _ _ _ _ _ _ _ _ _
 subst ba;have HD:Hid _:=C.out rfl;have aU:Hid _:=ar.out rfl;clear B C ar;cases b with
 | false=>
  have HD:Hid (Z=⟨0,⟨d.idx,d.start,LL⟩,ts⟩):=HD.out;have aD:Hid (loggR.O W (w.heap.size+3) F6 (.agg #[.slice a7 l1 c7,.slice a8 l2 c8]) LL):=loggR.base aS.out oM;have bo:Hid (∀b,F6 b→Y.heap.size≤b):=fun b hb=>by have:=(bn.out b hb).1;omega
  clear aU aS;obtain⟨pa,c4⟩:∃pa,pa=a7:=⟨_,rfl⟩
  obtain⟨pb,c5⟩:∃pb,pb=a8:=⟨_,rfl⟩
  obtain⟨ca,c6⟩:∃ca,ca=c7:=⟨_,rfl⟩
  obtain⟨cb,c9⟩:∃cb,cb=c8:=⟨_,rfl⟩
  obtain⟨FF,cc⟩:∃FF,FF=F6:=⟨_,rfl⟩
  subst c4 c5 c6 c9 cc;go_wp2_with fail;refine(HC.out _ a6).mono ?_;rintro e w8 ⟨v8,F8,rfl,o8,l⟩;obtain⟨k0,k1,k2,k3,k4,k5,rfl⟩:=fFl o8;obtain⟨G,aE⟩:∃G,Hid (balsR.O w8 (w.heap.size+3) G (.slice k0 n0 k1) d.start∧∀b,G b→W.heap.size≤b):=by
   obtain⟨_,_,_,F9,_,he,h1,_⟩:=o8;simp only[Value.agg.injEq,Array.mk.injEq,List.cons.injEq,and_true,true_and] at he;obtain⟨rfl,rfl,rfl⟩:=he;have n:∀b,F9 b→W.heap.size≤b:=fun b hb=>(balsR.rng h1 b hb).1
   have h2:=balsR.base h1 (show w.heap.size+3≤W.heap.size by omega);rw[HN.out.1] at h2;exact⟨F9,h2,n⟩
  rw[HN.out.1,HN.out.2.1,HN.out.2.2];have cd:=l.size;have bp:aa w w8:=bS a6 l;refine kR12 l ?_ D E H I J L M N R U g t0;clear D E H I J L M N R U g t0;intro D E H I J L M N R U g t0;refine kR7 l ?_ t1 t2 t3 t4 t5 t6 t7;clear t1 t2 t3 t4 t5 t6 t7;intro t1 t2 t3 t4 t5 t6 t7;replace rf:=ai l aT rf;replace az:=cK l az;replace aA:=cK l aA;have bq:Hid (shdR.O w8 (w.heap.size+3) F3 (.agg #[iV ts.idx,.slice x1 h1 i1,.slice x2 h2 i2,.slice x3 n i3,.slice x4 p i4,.slice x5 h5 i5]) ts):=shdR.keep aB.out l;have br:Hid (loggR.O w8 (w.heap.size+3) FF (.agg #[.slice pa l1 ca,.slice pb l2 cb]) LL):=loggR.keep aD.out l;have bs:Hid (∀b,G b→¬FF b):=fun b h1 h2=>by have:=aE.out.2 b h1;have:=(loggR.rng aD.out b h2).2;omega
  have bt:Hid (∀b,(G b∨FF b)→¬F3 b):=fun b h1 h2=>by
   have n:=bl.out b h2;rcases h1 with h1|h1
   ·have:=aE.out.2 b h1;omega
   have:=bo.out b h1;omega
  clear o8 l HC aB aD a6;have cg:m<w8.heap.size:=oM;have ch:Y.heap.size<w8.heap.size:=oM;have bu:w.heap.size+2<w8.heap.size:=oM;have e1:¬w8.heap.size=m:=oM;have e2:¬m=w8.heap.size:=oM;have e3:¬w8.heap.size=Y.heap.size:=oM;have e4:¬Y.heap.size=w8.heap.size:=oM;have e5:¬w8.heap.size=w.heap.size+2:=oM;have e6:¬w.heap.size+2=w8.heap.size:=oM;go_wp2;refine bodyPost_ret (v:=.agg #[iV 0,iV d.idx,.slice k0 n0 k1,.slice pa l1 ca,.slice pb l2 cb,iV ts.idx,.slice x1 h1 i1,.slice x2 h2 i2,.slice x3 n i3,.slice x4 p i4,.slice x5 h5 i5]) (by simp[results,Tryz.results19,go_sem,D,E,H,I,J,L,M,N,R,U,g,rf,bu,e5,e6]) rfl ?_;rw[HD.out];exact⟨_,_,rfl,jrnRR.base (jrnRR.alloc (fSy jrnRR (fBw (c:=0) (fH6 aE.out.1 br.out bs.out) bq.out bt.out) oM _ _ _ _ _ _ _ _ _ _ _) _) oM,bA (qU bp am _ _ _ _ _ _ _ _ _ _ _) _⟩
 | true=>
  have HD:Hid (Z=⟨0,⟨d.idx,d.start,⟨LL.synced++LL.loose,[]⟩⟩,ts⟩):=HD.out;go_wp2_with fail;refine(aU.out _ _ (loggR.ofO aS.out)).mono ?_;rintro e w7 ⟨v7,FF,rfl,o7,ao⟩;obtain⟨pa,pb,ca,cb,rfl⟩:=mJ (loggR.ofO o7);simp only[List.length_nil] at o7 ⊢;obtain⟨m1,aY⟩:∃m1,(LL.synced++LL.loose).length=m1:=⟨_,rfl⟩
  rw[aY] at o7 ⊢;clear aY aU aS;have bv:Mod (fun b=>b=m) w7 ((w7.setCell ⟨m,0,none⟩ (.slice pa m1 ca)).setCell ⟨m,1,none⟩ (.slice pb 0 cb)):=gAr (F:=fun b=>b=m) (gAr (F:=fun b=>b=m) (Mod.refl _ _) ⟨m,0,none⟩ _ rfl) ⟨m,1,none⟩ _ rfl;have hM:Mod (fun b=>b=m) W ((w7.setCell ⟨m,0,none⟩ (.slice pa m1 ca)).setCell ⟨m,1,none⟩ (.slice pb 0 cb)):=(Mod.of_below ao).trans bv;have cC:=hM.size;have bd:aa w ((w7.setCell ⟨m,0,none⟩ (.slice pa m1 ca)).setCell ⟨m,1,none⟩ (.slice pb 0 cb)):=hM.below a6 a6.size (fun b e=>oM);have cD:¬w.heap.size=m:=oM;have bK:¬w.heap.size+2=m:=oM;have ci:¬Y.heap.size=m:=oM;have bL:((w7.setCell ⟨m,0,none⟩ (.slice pa m1 ca)).setCell ⟨m,1,none⟩ (.slice pb 0 cb)).cell? ⟨m,0,none⟩=some (.slice pa m1 ca):=(fU (by simp)).trans (mY (cK ao az));have bM:((w7.setCell ⟨m,0,none⟩ (.slice pa m1 ca)).setCell ⟨m,1,none⟩ (.slice pb 0 cb)).cell? ⟨m,1,none⟩=some (.slice pb 0 cb):=mY ((fU (by simp)).trans (cK ao aA));have qf:aq w7 m:=fun o=>by rw[(bcell ao).2 _ _ oM];exact nf o
  have be:Hid (shdR.O ((w7.setCell ⟨m,0,none⟩ (.slice pa m1 ca)).setCell ⟨m,1,none⟩ (.slice pb 0 cb)) (w.heap.size+3) F3 (.agg #[iV ts.idx,.slice x1 h1 i1,.slice x2 h2 i2,.slice x3 n i3,.slice x4 p i4,.slice x5 h5 i5]) ts):=shdR.mod aB.out hM (fun b hb e=>by have:=bl.out b hb;omega);have cE:=ao.size;have aD:Hid (loggR.O ((w7.setCell ⟨m,0,none⟩ (.slice pa m1 ca)).setCell ⟨m,1,none⟩ (.slice pb 0 cb)) (w.heap.size+3) FF (.agg #[.slice pa m1 ca,.slice pb 0 cb]) ⟨LL.synced++LL.loose,[]⟩):=loggR.mod (loggR.base o7 oM) bv (fun b hb e=>by have:=(loggR.rng o7 b hb).1;omega);have bo:Hid (∀b,FF b→Y.heap.size≤b):=fun b hb=>by have:=(loggR.rng o7 b hb).1;omega
  have cj:=cK ao az;have ck:=cK ao aA;refine kR4 ao ?_ y0 y1 y2 y3;clear y0 y1 y2 y3;intro y0 y1 y2 y3;clear o7 az aA nf aB a6;have cF:w.heap.size<w7.heap.size:=oM;have cG:m<w7.heap.size:=oM;have cH:¬m=w.heap.size:=oM;go_wp2_with fail;generalize ((w7.setCell ⟨m,0,none⟩ (.slice pa m1 ca)).setCell ⟨m,1,none⟩ (.slice pb 0 cb))=Wc at *;clear cj ck qf bv ao y0 y1 y2 y3;refine kM11 hM bK ?_ D E H I J L M N R U g;clear D E H I J L M N R U g;intro D E H I J L M N R U g;refine kM8 hM ci ?_ t0 t1 t2 t3 t4 t5 t6 t7;clear t0 t1 t2 t3 t4 t5 t6 t7;intro t0 t1 t2 t3 t4 t5 t6 t7;replace rf:aq Wc (w.heap.size+2):=fun o=>(hM.frozenAt (a:=⟨w.heap.size+2,o,none⟩) aT bK).trans (rf o)
  have az:=bL;have aA:=bM;have aB:Hid _:=be.out;have a6:aa w Wc:=bd;replace aT:w.heap.size+2<Wc.heap.size:=oM;clear be bd bL bM hM bn;refine(HC.out _ a6).mono ?_;rintro e w8 ⟨v8,F8,rfl,o8,l⟩;obtain⟨k0,k1,k2,k3,k4,k5,rfl⟩:=fFl o8;obtain⟨G,aE⟩:∃G,Hid (balsR.O w8 (w.heap.size+3) G (.slice k0 n0 k1) d.start∧∀b,G b→Wc.heap.size≤b):=by
   obtain⟨_,_,_,F9,_,he,h1,_⟩:=o8;simp only[Value.agg.injEq,Array.mk.injEq,List.cons.injEq,and_true,true_and] at he;obtain⟨rfl,rfl,rfl⟩:=he;have n:∀b,F9 b→Wc.heap.size≤b:=fun b hb=>(balsR.rng h1 b hb).1
   have h2:=balsR.base h1 (show w.heap.size+3≤Wc.heap.size by omega);rw[HN.out.1] at h2;exact⟨F9,h2,n⟩
  rw[HN.out.1,HN.out.2.1,HN.out.2.2];have cd:=l.size;have bp:aa w w8:=bS a6 l;refine kR12 l ?_ D E H I J L M N R U g t0;clear D E H I J L M N R U g t0;intro D E H I J L M N R U g t0;refine kR7 l ?_ t1 t2 t3 t4 t5 t6 t7;clear t1 t2 t3 t4 t5 t6 t7;intro t1 t2 t3 t4 t5 t6 t7;replace rf:=ai l aT rf;replace az:=cK l az;replace aA:=cK l aA;have bq:Hid (shdR.O w8 (w.heap.size+3) F3 (.agg #[iV ts.idx,.slice x1 h1 i1,.slice x2 h2 i2,.slice x3 n i3,.slice x4 p i4,.slice x5 h5 i5]) ts):=shdR.keep aB.out l;have br:Hid (loggR.O w8 (w.heap.size+3) FF (.agg #[.slice pa m1 ca,.slice pb 0 cb]) ⟨LL.synced++LL.loose,[]⟩):=loggR.keep aD.out l;have bs:Hid (∀b,G b→¬FF b):=fun b h1 h2=>by have:=aE.out.2 b h1;have:=(loggR.rng aD.out b h2).2;omega
  have bt:Hid (∀b,(G b∨FF b)→¬F3 b):=fun b h1 h2=>by
   have n:=bl.out b h2;rcases h1 with h1|h1
   ·have:=aE.out.2 b h1;omega
   have:=bo.out b h1;omega
  clear o8 l HC aB aD a6;have cg:m<w8.heap.size:=oM;have ch:Y.heap.size<w8.heap.size:=oM;have bu:w.heap.size+2<w8.heap.size:=oM;have e1:¬w8.heap.size=m:=oM;have e2:¬m=w8.heap.size:=oM;have e3:¬w8.heap.size=Y.heap.size:=oM;have e4:¬Y.heap.size=w8.heap.size:=oM;have e5:¬w8.heap.size=w.heap.size+2:=oM;have e6:¬w.heap.size+2=w8.heap.size:=oM;go_wp2;refine bodyPost_ret (v:=.agg #[iV 0,iV d.idx,.slice k0 n0 k1,.slice pa m1 ca,.slice pb 0 cb,iV ts.idx,.slice x1 h1 i1,.slice x2 h2 i2,.slice x3 n i3,.slice x4 p i4,.slice x5 h5 i5]) (by simp[results,Tryz.results19,go_sem,D,E,H,I,J,L,M,N,R,U,g,rf,bu,e5,e6]) rfl ?_;rw[HD.out];exact⟨_,_,rfl,jrnRR.base (jrnRR.alloc (fSy jrnRR (fBw (c:=0) (fH6 aE.out.1 br.out bs.out) bq.out bt.out) oM _ _ _ _ _ _ _ _ _ _ _) _) oM,bA (qU bp am _ _ _ _ _ _ _ _ _ _ _) _⟩
end
section
variable [dQ Logg] [iH Logg] [dQ LoggR] [iH LoggR] [dQ BytesR] [iH BytesR] [dQ RecsR] [iH RecsR] [dQ Leg] [iH Leg]
def appD (d:Logg) (xs:List Byte):LoggR:=if logF d=0 then (if 1≤xs.length∧xs.length≤500 then (if logF ⟨d.synced,d.loose++gK xs⟩=0 then ⟨0,⟨d.synced,d.loose++gK xs⟩⟩ else fA5 2) else fA5 2) else fA5 2
theorem fY3 (d:Logg) (xs:List Byte):fKx (appD d xs)≤6000:=by
 unfold appD;split
 ·
  split
  ·
   split
   ·
    rename_i h;rcases rE ⟨d.synced,d.loose++gK xs⟩ with ⟨_,e⟩|h2
    ·simp only[fKx,gJ,kM];exact e
    omega
   exact fJi 2
  exact fJi 2
 exact fJi 2
def appG (d:Logg) (fs:List Byte) (a1 a2 a3:Option Addr) (c1 c2 c3:Nat):Nat→(Nat→Value)→Nat→Nat→World→Prop
 | 2,y,lo,_,w=>y 25 =.slice (some ⟨lo,0,none⟩) 1 1∧w.cell? ⟨lo,0,none⟩=some (.slice a1 d.synced.length c1)
 | 3,y,lo,hi,w=>(∃a c,y 26 =.slice a d.synced.length c)∧∃F,bytesR.O w lo F (y 26) d.synced∧∀b,F b→b<hi
 | 8,y,lo,_,w=>y 31 =.slice (some ⟨lo,0,none⟩) 2 2∧w.cell? ⟨lo,0,none⟩=some (.slice a2 d.loose.length c2)∧w.cell? ⟨lo,1,none⟩=some (.slice a3 fs.length c3)
 | 9,y,lo,hi,w=>(∃a c,y 32 =.slice a (d.loose.length+fs.length) c)∧∃F,bytesR.O w lo F (y 32) (d.loose++fs)∧∀b,F b→b<hi
 | 10,y,_,_,_=>y 33 =.agg #[y 26,y 32]
 | 11,y,lo,hi,w=>y 7 =.pointer (some ⟨lo,0,none⟩)∧lo<hi∧w.cell? ⟨lo,0,none⟩=some (.slice none 0 0)∧w.cell? ⟨lo,1,none⟩=some (.slice none 0 0)∧∀o,w.frozen? ⟨lo,o,none⟩=false
 | _,_,_,_,_=>True
theorem fUs (x:Value) (d:Logg) (y:Value) (xs:List Byte) (w:World) (hx:loggR.V w x d) (hn:gJ d≤1048576) (hy:bytesR.V w y xs) :
  cL 99 #[x,y] w fun e w'=>∃v F,e =.returned v∧loggRR.O w' w.heap.size F v (appD d xs)∧aa w w':=by
 have hX:=hx;obtain⟨a1,a2,c1,c2,rfl⟩:=mJ hx;obtain⟨ay,cy,rfl⟩:=fF hy;go_enter Tryz.func99,Tryz.ntmps99;go_wp2_with fail;refine(xC _ d _ (loggR.below hX hE) hn).mono ?_;rintro e G ⟨rfl,l⟩;have x0:ah G w.heap.size 0 a1 d.synced.length c1:=cK l sG;have x1:ah G w.heap.size 1 a2 d.loose.length c2:=cK l sG;have r0:cI G (w.heap.size+1) 0 0:=cK l sG;have r1:cN G (w.heap.size+1) 1:=cK l sG;have r2:cN G (w.heap.size+1) 2:=cK l sG;have rf:aq G (w.heap.size+1):=ap l;have s1:=l.size;simp only[World.size_alloc] at s1;have H:aa w G:=hE;clear l;have z0:w.heap.size<G.heap.size:=oM;have z1:w.heap.size+1<G.heap.size:=oM;rcases rE d with ⟨h0,hl⟩|h0
 rotate_left
 ·
  have HD:Hid (appD d xs=fA5 2):=by unfold Hid appD;rw[if_neg oM]
  rw[h0];go_wp2;refine bodyPost_ret (v:=.agg #[iV 2,aj,aj]) ?_ rfl ?_
  ·simp[results,Tryz.results99,go_sem,r0,r1,r2]
  rw[HD.out];exact⟨_,none_,rfl,vJ _ _ _,hE⟩
 rw[h0];have ag:=loggR.below hX H;clear hX hx;have hY:=bytesR.below hy H;clear hy;have ak:∀W:World,aa G W→bytesR.V W (.slice ay xs.length cy) xs:=fun W hW=>bytesR.below hY hW
 go_wp2_with fail;refine(fN3 _ xs _ hY).mono ?_;rintro e w2 ⟨v,F,rfl,ho,hb⟩;have aI:aa w w2:=bS H hb;have A:=bytesRR.ofO ho;by_cases h5:1≤xs.length∧xs.length≤500;rotate_left
 ·
  have HD:Hid (appD d xs=fA5 2):=by unfold Hid appD;rw[if_pos h0,if_neg h5]
  have I:fLk xs=⟨2,[]⟩:=if_neg h5;rw[I] at A;obtain⟨a3,c3,rfl⟩:=fNj A;have a0:=cK hb x0;have a4:=cK hb x1;have J:=cK hb r0;have L:=cK hb r1;have M:=cK hb r2;have a5:=(pJ ⟨rf,z1⟩ hb).1;have aB:=Nat.lt_of_lt_of_le z0 hb.size;have a8:=Nat.lt_of_lt_of_le z1 hb.size;clear x0 x1 r0 r1 r2 rf z0 z1;clear ho hb H ag A ak hY;go_wp2;refine bodyPost_ret (v:=.agg #[iV 2,aj,aj]) ?_ rfl ?_
  ·simp[results,Tryz.results99,go_sem,J,L,M,a8]
  rw[HD.out];exact⟨_,none_,rfl,vJ _ _ _,hE⟩
 have I:fLk xs=⟨0,gK xs⟩:=if_pos h5;rw[I] at A;obtain⟨u3,e3,V3⟩:=A;subst e3;obtain⟨a3,c3,rfl⟩:=fF V3;have a0:=cK hb x0;have a4:=cK hb x1;have J:=cK hb r0;have L:=cK hb r1;have M:=cK hb r2;have a5:=(pJ ⟨rf,z1⟩ hb).1;have aB:=Nat.lt_of_lt_of_le z0 hb.size;have a8:=Nat.lt_of_lt_of_le z1 hb.size;clear x0 x1 r0 r1 r2 rf z0 z1;have a9:=hb;clear ho hb;clear ak hY;obtain⟨u1,u2,e,V1,V2⟩:=ag;simp only[Value.agg.injEq,Array.mk.injEq,List.cons.injEq,and_true] at e;obtain⟨rfl,rfl⟩:=e;replace V1:=bytesR.below V1 a9;replace V2:=bytesR.below V2 a9;have aC:(gK xs).length≤504:=by rw[yX];omega
 obtain⟨fs,ab⟩:∃fs,gK xs=fs:=⟨_,rfl⟩
 have al:Hid (gK xs=fs):=ab;rw[ab] at V3 aC ⊢;clear ab I a9;go_wp2;refine wp_region_noPanic ?_;refine fB (fun w'=>aa w w'∧ah w' w.heap.size 0 a1 d.synced.length c1∧ah w' w.heap.size 1 a2 d.loose.length c2∧ah w' w2.heap.size 1 a3 fs.length c3) 12 kF ⟨hE,cK hE a0,cK hE a4,by simp[go_sem]⟩ (fun hS=>?_);refine tY 0 ?_;refine tY 1 ?_;refine tY 4 ?_;refine tY 5 ?_;refine tY 6 ?_;refine tY 7 ?_;have C:aa w2 (w2.alloc (.cells #[iV 0,.slice a3 fs.length c3] 178)).drew:=hE;have aD:w.heap.size+2≤((w2.alloc (.cells #[iV 0,.slice a3 fs.length c3] 178)).drew).heap.size:=by simp;omega
 generalize (w2.alloc (.cells #[iV 0,.slice a3 fs.length c3] 178)).drew=W0 at *;refine uT [(2,25),(3,26),(8,31),(9,32),(10,33),(11,7)] (appG d fs a1 a2 a3 c1 c2 c3) kF hS (fun W W' h hb=>⟨bS h.1 hb,cK hb h.2.1,cK hb h.2.2.1,cK hb h.2.2.2⟩) ?_ ?_ ?_
 ·
  intro p hp;simp only[List.mem_cons,List.not_mem_nil,or_false] at hp;rcases hp with rfl|rfl|rfl|rfl|rfl|rfl
  ·intro y y' n hi W W' h r hb e _;simp only[appG] at h ⊢;rw[e];exact⟨h.1,cK hb h.2⟩
  ·intro y y' n hi W W' h r hb e _;simp only[appG] at h ⊢;rw[e];obtain⟨h1,F,h2,h3⟩:=h;exact⟨h1,F,bytesR.keep h2 hb,h3⟩
  ·intro y y' n hi W W' h r hb e _;simp only[appG] at h ⊢;rw[e];exact⟨h.1,cK hb h.2.1,cK hb h.2.2⟩
  ·intro y y' n hi W W' h r hb e _;simp only[appG] at h ⊢;rw[e];obtain⟨h1,F,h2,h3⟩:=h;exact⟨h1,F,bytesR.keep h2 hb,h3⟩
  ·intro y y' n hi W W' h r hb e he;have e0:=he (3,26) (by simp) kF;have e1:=he (9,32) (by simp) kF;simp only[appG] at h ⊢;rw[e,e0,e1];exact h
  intro y y' n hi W W' h r hb e _;simp only[appG] at h ⊢;rw[e];exact⟨h.1,h.2.1,cK hb h.2.2.1,cK hb h.2.2.2.1,fun o=>by rw[(bcell hb).2 _ _ (Nat.lt_of_lt_of_le h.2.1 r.2.2)];exact h.2.2.2.2 o⟩
 ·
  intro p hp;simp only[List.mem_cons,List.not_mem_nil,or_false] at hp;rcases hp with rfl|rfl|rfl|rfl|rfl|rfl
  all_goals
   refine⟨_,rfl,rfl,?_⟩;intro y W n hi ac s m z K k;clear z
  ·clear m;refine⟨?_⟩;simp only[over,jX,lZ] at k ⊢;go_simp;refine k _ _ hE ?_;simp only[appG,updV];exact⟨rfl,by simp[go_sem]⟩
  ·
   have R:=(m (2,25) (by simp) kF).2;clear m;simp only[appG] at R;refine⟨?_⟩;simp only[over,jX,lZ] at k ⊢;simp only[R.1] at k ⊢;go_simp;refine(pR _ [d.synced] _ (fNl R.2 (bytesR.below V1 (bS C s))) (by simp;omega)).mono ?_;rintro e w' ⟨v,F,rfl,N,ad⟩;have e1:[d.synced].flatten=d.synced:=by simp
   rw[e1] at N;refine k _ _ ad ?_;simp only[appG,updV];obtain⟨av,cv,hv⟩:=fF (bytesR.ofO N);exact⟨⟨av,cv,by simpa using hv⟩,F,by simpa using N,fun b hb=>(bytesR.rng N b hb).2⟩
  ·clear m;refine⟨?_⟩;simp only[over,jX,lZ] at k ⊢;go_simp;refine k _ _ hE ?_;simp only[appG,updV];exact⟨rfl,by simp[go_sem],sG⟩
  ·
   have R:=(m (8,31) (by simp) kF).2;clear m;simp only[appG] at R;refine⟨?_⟩;simp only[over,jX,lZ] at k ⊢;simp only[R.1] at k ⊢;go_simp;refine(pR _ [d.loose,fs] _ (fNm R.2.1 R.2.2 (bytesR.below V2 (bS C s)) (bytesR.below V3 (bS C s))) (by simp;omega)).mono ?_;rintro e w' ⟨v,F,rfl,N,ad⟩;have e1:[d.loose,fs].flatten=d.loose++fs:=by simp
   rw[e1] at N;refine k _ _ ad ?_;simp only[appG,updV];obtain⟨av,cv,hv⟩:=fF (bytesR.ofO N);exact⟨⟨av,cv,by simpa using hv⟩,F,by simpa using N,fun b hb=>(bytesR.rng N b hb).2⟩
  ·have g3:=(m (3,26) (by simp) kF).2;have g7:=(m (9,32) (by simp) kF).2;clear m;simp only[appG] at g3 g7;obtain⟨⟨T,U,e6⟩,_⟩:=g3;obtain⟨⟨X,Y,e7⟩,_⟩:=g7;refine⟨?_⟩;simp only[over,jX,lZ] at k ⊢;simp only[e6,e7] at k ⊢;go_simp;refine k _ _ (bR _ _) ?_;simp only[appG,updV];simp[e6,e7]
  clear m;refine⟨?_⟩;simp only[over,jX,lZ] at k ⊢;go_simp;refine k _ _ hE ?_;simp only[appG,updV];exact⟨rfl,by simp,by simp[go_sem],sG,fun o=>sG⟩
 refine⟨_,rfl,?_⟩;intro y W n hi ac s m z K k;have g3:=m (3,26) (by simp);have g9:=m (9,32) (by simp);have D:=(m (10,33) (by simp)).2;have am:=m (11,7) (by simp);clear m;have ao:=z (3,26) (by simp) (9,32) (by simp) (by simp);have ar:=z (3,26) (by simp) (11,7) (by simp) (by simp);have au:=z (9,32) (by simp) (11,7) (by simp) (by simp);clear z;simp only[appG,fBi,InB] at g3 g9 D am ao ar au;obtain⟨b3,⟨T,U,e6⟩,F1,o1,f1⟩:=g3;obtain⟨b9,⟨X,Y,e7⟩,F2,o2,f2⟩:=g9;obtain⟨aE,aw,aJ,k0,k1,kf⟩:=am;have ae:∀b,F1 b→n 3≤b:=fun b hb=>(bytesR.rng o1 b hb).1
 have E:∀b,F2 b→n 9≤b:=fun b hb=>(bytesR.rng o2 b hb).1
 have Z:∀b,F1 b→¬F2 b:=fun b q1 q2=>by
  have:=f1 b q1;have:=f2 b q2;have:=ae b q1;have:=E b q2;omega
 have ax:¬F1 (n 11):=fun q=>by
  have:=f1 _ q;have:=ae _ q;omega
 have az:¬F2 (n 11):=fun q=>by
  have:=f2 _ q;have:=E _ q;omega
 have aH:w.heap.size+2≤n 11:=oM;have hW:aa w2 W:=bS C s;replace o1:=bytesR.base (base':=w.heap.size+2) o1 oM;replace o2:=bytesR.base (base':=w.heap.size+2) o2 oM;rw[e6] at o1 D;rw[e7] at o2 D;have af:=ac.1;have aF:n 11<W.heap.size:=oM;generalize n 11=B at *;refine⟨?_⟩;simp only[over,jX,lZ];simp only[D,aw];clear D aw e6 e7 b3 b9 aE ao ar au f1 f2 ae E hS ac s C aD;go_simp;refine k _ _ ?_;clear k K;refine NoPanic.normal ?_;have t0:((W.setCell ⟨B,0,none⟩ (.slice T d.synced.length U)).setCell ⟨B,1,none⟩ (.slice X (d.loose.length+fs.length) Y)).cell? ⟨B,0,none⟩=some (.slice T d.synced.length U):=by rw[fU (by simp)];simpa using mY k0
 have t1:((W.setCell ⟨B,0,none⟩ (.slice T d.synced.length U)).setCell ⟨B,1,none⟩ (.slice X (d.loose.length+fs.length) Y)).cell? ⟨B,1,none⟩=some (.slice X (d.loose.length+fs.length) Y):=by simpa using mY (by rw[fU (by simp)];exact k1)
 have g:Mod (fun b=>b=B) W ((W.setCell ⟨B,0,none⟩ (.slice T d.synced.length U)).setCell ⟨B,1,none⟩ (.slice X (d.loose.length+fs.length) Y)):=(Mod.of_set W ⟨B,0,none⟩ _).trans (Mod.of_set _ ⟨B,1,none⟩ _);generalize (W.setCell ⟨B,0,none⟩ (.slice T d.synced.length U)).setCell ⟨B,1,none⟩ (.slice X (d.loose.length+fs.length) Y)=W5 at *;have n1:=bytesR.mod o1 g (fun b hb e=>ax (e▸hb));have n2:=bytesR.mod o2 g (fun b hb e=>az (e▸hb));have hL:loggR.O W5 (w.heap.size+2) (fun b=>F1 b∨F2 b) (.agg #[.slice T d.synced.length U,.slice X (d.loose.length+fs.length) Y]) ⟨d.synced,d.loose++fs⟩:=⟨_,_,F1,F2,rfl,n1,n2,Z,fun _=>Iff.rfl⟩;have aA:aa w W5:=g.below af af.size (fun b hb=>oM);have m0:=g.cell (cK hW J) (fun e=>by dsimp only at e;omega);have m1:=g.cell (cK hW L) (fun e=>by dsimp only at e;omega);have m2:=g.cell (cK hW M) (fun e=>by dsimp only at e;omega);have mf:aq W5 (w.heap.size+1):=fun o=>by rw[g.frozenAt (a:=⟨w.heap.size+1,o,none⟩) (by dsimp only;omega) (fun e=>by dsimp only at e;omega),(bcell hW).2 _ _ a8];exact a5 o
 have aK:B<W5.heap.size:=Nat.lt_of_lt_of_le aF g.size;clear o1 o2 n1 n2 g Z ax az k0 k1 kf hW a0 a4 J L M a5 V1 V2 V3 af;go_wp2_with fail;refine(xC _ ⟨d.synced,d.loose++fs⟩ _ (loggR.ofO hL) (by unfold gJ kM;simp only[List.length_append];omega)).mono ?_;rintro e w6 ⟨rfl,j⟩;have aL:aa w w6:=bS aA j;have aG:=loggR.keep hL j;have v0:=cK j t0;have v1:=cK j t1;have q0:=cK j m0;have q1:=cK j m1;have q2:=cK j m2;have qf:=(pJ ⟨mf,(by omega:w.heap.size+1<W5.heap.size)⟩ j).1;clear hL t0 t1 m0 m1 m2 mf j aA;rcases rE ⟨d.synced,d.loose++fs⟩ with ⟨hc,E⟩|hc
 ·
  have HD:Hid (appD d xs=⟨0,⟨d.synced,d.loose++fs⟩⟩):=by unfold Hid appD;rw[if_pos h0,if_pos h5,al.out,if_pos hc]
  rw[hc];clear hc E;go_wp2;have aM:=fQj aG;refine bodyPost_ret (v:=.agg #[iV 0,.slice T d.synced.length U,.slice X (d.loose.length+fs.length) Y]) ?_ rfl ?_
  ·simp[results,Tryz.results99,go_sem,q0,q1,q2]
  first|refine⟨_,fun b=>F1 b∨F2 b,rfl,?_,hE⟩|refine⟨_,rfl,⟨fun b=>F1 b∨F2 b,?_⟩,hE⟩
  rw[HD.out];exact loggRR.base (base:=w.heap.size+2) (by(repeat (first|assumption|refine Rep.set _ ?_ _ (by simp;omega)|refine Rep.set _ ?_ _ (by simp)|refine Rep.alloc _ ?_ _|refine Rep.keep _ ?_ (by assumption)))) oM
 have HD:Hid (appD d xs=fA5 2):=by unfold Hid appD;rw[if_pos h0,if_pos h5,al.out,if_neg oM]
 rw[hc];clear hc;go_wp2;refine bodyPost_ret (v:=.agg #[iV 2,aj,aj]) ?_ rfl ?_
 ·simp[results,Tryz.results99,go_sem,q0,q1,q2]
 rw[HD.out];first|exact⟨_,none_,rfl,vJ _ _ _,hE⟩|exact⟨_,rfl,⟨none_,vJ _ _ _⟩,hE⟩
variable [dQ Cont] [iH Cont] [dQ Evt] [iH Evt] [dQ EvtR] [iH EvtR] [dQ ContR] [iH ContR] [dQ Rw] [iH Rw] [dQ Bal] [iH Bal] [dQ Ledg] [iH Ledg] [dQ LedgR] [iH LedgR] [dQ OutcR] [iH OutcR] [dQ Mrk] [iH Mrk] [dQ Shd] [iH Shd] [dQ ShdR] [iH ShdR]
theorem fSr {F:Nat→Prop} {w w':World} (h:Mod F w w') (a:Addr) (v:Value) (ha:F a.block):Mod F w (w'.setCell a v):=h.trans ((Mod.of_set w' a v).mono (fun b e=>by rw[e];exact ha))
def lgZ (b:Bool) (T:LoggR):LoggR:=if b=true∧T.code=0 then fHh T.log else T
def LgE (w:World) (Z:LoggR) (e:Ending) (w':World):Prop:=∃v F,e =.returned v∧loggRR.O w' w.heap.size F v Z∧aa w w'
def LgB (base bt:Nat) (W:World) (T:LoggR):Prop:=∃u1 u2 m1 m2 g1 g2 F,W.cell? ⟨bt,0,none⟩=some (.int .i64 T.code)∧W.cell? ⟨bt,1,none⟩=some (.slice u1 m1 g1)∧W.cell? ⟨bt,2,none⟩=some (.slice u2 m2 g2)∧(∀o,W.frozen? ⟨bt,o,none⟩=false)∧loggRR.O W base F (.agg #[.int .i64 T.code,.slice u1 m1 g1,.slice u2 m2 g2]) T
theorem fZm {w:World} {c:Int} {u1 u2:Value} {T:LoggR} (h:loggRR.V w (.agg #[iV c,u1,u2]) T):loggR.V w (.agg #[u1,u2]) T.log:=by
 obtain⟨d,g,e,h⟩:=h;simp only[Value.agg.injEq,Array.mk.injEq,List.cons.injEq,and_true] at e;obtain⟨_,rfl,rfl⟩:=e;exact h
def LgP (base bt:Nat) (W:World) (Z:LoggR) (e:Ending) (w':World):Prop:=e =.returned (.tuple #[])∧LgB base bt w' Z∧Below bt W w'
theorem gAq (base bs bt:Nat) (b:Bool) (T:LoggR) (W:World) (hc:W.cell? ⟨bs,0,none⟩=some (.bool b)) (hB:LgB base bt W T) (hl:bt<base) (hbW:base≤W.heap.size) (hn:T.code=0→gJ T.log≤1048576) :
  CallsD Tryz.prog 97 #[an bs,an bt] .returning W fun e u' w'=>u' =.returning∧LgP base bt W (lgZ b T) e w':=by
 have x:Hid (LgB base bt W T):=hB;obtain⟨u1,u2,V,X,Y,g2,F,y,H,I,J,K⟩:=hB;have g:Hid (T.code=0→∀k,aa W k→cL 98 #[.agg #[.slice u1 V Y,.slice u2 X g2]] k fun e w'=>∃v F,e =.returned v∧loggRR.O w' k.heap.size F v (fHh T.log)∧aa k w'):=fun h k hW=>fR7 _ T.log k (loggR.below (fZm (loggRR.ofO K)) hW) (hn h)
 have zt:bt<W.heap.size:=oM;clear K hn;obtain⟨m,n⟩:=T;dsimp only at y g;by_cases h:b=true∧m=0;rotate_left
 ·
  have l:Hid (lgZ b ⟨m,n⟩=⟨m,n⟩):=if_neg h;rw[l.out];cases b with
  | false=>
   clear g h l;go_enter_d Tryz.func97,Tryz.ntmps97;go_wp2;go_end0;exact⟨rfl,x.out,hE⟩
  | true=>
   have a0:(m==0)=false:=by simpa using h
   have L:¬m=0:=by simpa using h
   clear g h l;go_enter_d Tryz.func97,Tryz.ntmps97;go_wp2;go_end0;exact⟨rfl,x.out,hE⟩
 obtain⟨rfl,rfl⟩:=h;have l:Hid (lgZ true ⟨0,n⟩=fHh n):=if_pos ⟨rfl,rfl⟩;rw[l.out];have M:Hid _:=g.out rfl;clear g l x;generalize fHh n=Z at *;go_enter_d Tryz.func97,Tryz.ntmps97;go_wp2_with fail;refine(M.out _ hE).mono ?_;rintro e p ⟨v2,z,rfl,r,q⟩;obtain⟨A,B,C,D,rfl⟩:=fAo (loggRR.ofO r);have d:=bT W q;have a1:=d.size;have n0:=cK d y;have n1:=cK d H;have n2:=cK d I;have nf:aq p bt:=fun o=>by rw[(bcell d).2 _ _ zt];exact J o
 have E:Hid (loggRR.O p base z (.agg #[iV Z.code,.slice A Z.log.synced.length C,.slice B Z.log.loose.length D]) Z∧∀b,z b→base≤b):=⟨loggRR.base r (by first|exact hbW|(simp;omega)),fun b hb=>by have:=(loggRR.rng r b hb).1;first|omega|(simp at this;omega)⟩;have G:Below bt W p:=d.mono oM;clear r q M y H I J;generalize Z.log.synced.length=N at *;generalize Z.log.loose.length=R at *;obtain⟨s,j⟩:∃s,Z.code=s:=⟨_,rfl⟩
 have U:Hid (Z.code=s):=j;rw[j] at E ⊢;clear j;go_wp2;go_end0;have hM:Mod (fun b=>b=bt) p (((p.setCell ⟨bt,0,none⟩ (iV s)).setCell ⟨bt,1,none⟩ (.slice A N C)).setCell ⟨bt,2,none⟩ (.slice B R D)):=fSr (F:=fun b=>b=bt) (fSr (F:=fun b=>b=bt) (fSr (F:=fun b=>b=bt) (Mod.refl _ _) ⟨bt,0,none⟩ _ rfl) ⟨bt,1,none⟩ _ rfl) ⟨bt,2,none⟩ _ rfl;refine⟨rfl,⟨A,B,N,R,C,D,z,?_,?_,?_,?_,?_⟩,?_⟩
 ·rw[U.out];exact(fU (by simp)).trans ((fU (by simp)).trans (mY n0))
 ·exact(fU (by simp)).trans (mY ((fU (by simp)).trans n1))
 ·exact mY ((fU (by simp)).trans ((fU (by simp)).trans n2))
 ·intro o;simp[go_sem,nf]
 ·rw[U.out];exact loggRR.mod E.out.1 hM (fun b hb e=>by have:=E.out.2 b hb;omega)
 exact Below.setCell (Below.setCell (Below.setCell G (Nat.le_refl _) _) (Nat.le_refl _) _) (Nat.le_refl _) _
theorem gAa (w W:World) (tm:Array Value) (bs bt:Nat) (b:Bool) (T:LoggR) (ht:tm[6]? = some (an bt)) (hw:w.heap.size≤bt) (hc:W.cell? ⟨bs,0,none⟩=some (.bool b)) (hB:LgB (bt+1) bt W T) (hbW:bt<W.heap.size) (hn:T.code=0→gJ T.log≤1048576) (hb:aa w W) :
  Leaves Tryz.prog Tryz.f53 tm (LgE w (lgZ b T)) [{target:=.fn (.func 97) #[an bs,an bt],args:=#[]}] .returning W:=by
 refine leaves_cons (f:=97) (args:=#[an bs,an bt]) (by simp) sG ?_;refine(gAq (bt+1) bs bt b T W hc hB (Nat.lt_succ_self _) hbW hn).mono ?_;rintro e r s ⟨rfl,rfl,⟨u1,u2,g,j,k,l,F,m,n,p,x,q⟩,d⟩;refine⟨.agg #[iV (lgZ b T).code,.slice u1 g k,.slice u2 j l],?_,_,F,rfl,loggRR.base q oM,?_⟩
 ·simp[results,Tryz.results53,go_sem,ht,m,n,p]
 exact hb.trans (d.mono hw)
theorem fX2 (x z:Value) (l:Logg) (ev:Evt) (b:Bool) (w:World) (hx:loggR.V w x l) (hz:evtR.V w z ev) (hev:evtF ev=0) (hn:gJ l≤1048576) :
  cL 53 #[x,z,.bool b] w (LgE w (lgZ b (appD l (evtB ev)))):=by
 have B:Hid (bW w fun W=>cL 100 #[z] W fun e w'=>∃v F,e =.returned v∧bytesR.O w' W.heap.size F v (evtB ev)∧aa W w'):=fun W R=>fTy z ev W (evtR.below hz R) hev
 have C:Hid (∀W y,aa w W→bytesR.V W y (evtB ev)→cL 99 #[x,y] W fun e w'=>∃v F,e =.returned v∧loggRR.O w' W.heap.size F v (appD l (evtB ev))∧aa W w'):=fun W y R hy=>fUs x l y (evtB ev) W (loggR.below hx R) hn hy
 have U:Hid ((appD l (evtB ev)).code=0→gJ (appD l (evtB ev)).log≤1048576):=fun _=>Nat.le_trans (fY3 l (evtB ev)) (by decide)
 obtain⟨X,Y,Z,c2,rfl⟩:=mJ hx;obtain⟨ae,ce,rfl,_⟩:=pF hz;clear hx hz hn hev;generalize appD l (evtB ev)=T at *;generalize l.synced.length=n1 at *;generalize l.loose.length=n2 at *;generalize ev.con.legs.length=ne at *;have a3:∀(fn:Fn) (first cap:Array Value) (w:World),(Instr.makeFunc fn first cap).run Tryz.prog w =.ok (.func fn first cap) w:=fun _ _ _ _=>rfl
 go_enter_defers Tryz.func53,Tryz.ntmps53
 go_wp2;obtain⟨g,d⟩:∃g,g=(((w.alloc (.cells #[.slice X n1 Z,.slice Y n2 c2] 31)).alloc (.cells #[.bool ev.vote,iV ev.con.id,.slice ae ne ce,iV ev.out] 59)).alloc (.cells #[.bool b] 4)).alloc (.cells #[iV 0,aj,aj] 95):=⟨_,rfl⟩
 have y0:ah g w.heap.size 0 X n1 Z:=cQ d;have y1:ah g w.heap.size 1 Y n2 c2:=cQ d;have g0:cW g (w.heap.size+1) 0 (.bool ev.vote):=cQ d;have g1:cI g (w.heap.size+1) 1 ev.con.id:=cQ d;have g2:ah g (w.heap.size+1) 2 ae ne ce:=cQ d;have g3:cI g (w.heap.size+1) 3 ev.out:=cQ d;have J:cW g (w.heap.size+2) 0 (.bool b):=cQ d;have L:cI g (w.heap.size+3) 0 0:=cQ d;have M:cN g (w.heap.size+3) 1:=cQ d;have N:cN g (w.heap.size+3) 2:=cQ d;have tf:aq g (w.heap.size+3):=fun o=>by rw[d];simp[go_sem]
 have m:aa w g:=by rw[d];exact hE
 have zq:g.heap.size=w.heap.size+4:=by rw[d];simp
 have ZQ:Hid (g.heap.size=w.heap.size+4):=zq;rw[←d];clear d zq;refine wp_region_noPanic ?_;refine fB (fun W=>aa g W∧ah W w.heap.size 0 X n1 Z∧ah W w.heap.size 1 Y n2 c2∧cW W (w.heap.size+1) 0 (.bool ev.vote)∧cI W (w.heap.size+1) 1 ev.con.id∧ah W (w.heap.size+1) 2 ae ne ce∧cI W (w.heap.size+1) 3 ev.out) 4 kF ⟨hE,cK hE y0,cK hE y1,cK hE g0,cK hE g1,cK hE g2,cK hE g3⟩ (fun hS=>?_);refine tY 0 ?_;refine tY 1 ?_;refine uS 2 rfl (fun K n=>?_);go_simp;refine(B.out _ (bS m hS.1)).mono ?_;rintro e w1 ⟨v1,F1,rfl,o1,p⟩;obtain⟨ab,cb,rfl⟩:=fF (bytesR.ofO o1);have j:=And.intro (bS hS.1 p) (kS6 p hS.2);refine n _ _ (fun _=>j) ?_;clear n K hS p B;try simp only[jX]
 refine uS 3 rfl (fun K n=>?_);go_simp;refine(C.out _ _ (bS m j.1) (bytesR.ofO o1)).mono ?_;rintro e D ⟨v2,F2,rfl,o2,q⟩;obtain⟨u1,u2,E,G,rfl⟩:=fAo (loggRR.ofO o2);have r:=And.intro (bS j.1 q) (kS6 q j.2);have a4:=j.1.size;refine n _ _ (fun _=>r) ?_;clear n K q C o1;have k:aa g D:=r.1;have s:Hid (loggRR.O D (w.heap.size+4) F2 (.agg #[iV T.code,.slice u1 T.log.synced.length E,.slice u2 T.log.loose.length G]) T):=loggRR.base o2 (by have:=ZQ.out;omega);have zt:w.heap.size+3<g.heap.size:=by have:=ZQ.out;omega
 have zz:g.heap.size≤D.heap.size:=k.size;refine kR4 k ?_ J L M N;clear J L M N;intro J L M N;replace tf:=ai k zt tf;have a0:aa w D:=bS m k;have a5:w.heap.size+3<D.heap.size:=oM;clear o2 k m j y0 y1 g0 g1 g2 g3;obtain⟨k0,A⟩:∃k0,T.code=k0:=⟨_,rfl⟩
 obtain⟨k1,H⟩:∃k1,T.log.synced.length=k1:=⟨_,rfl⟩
 obtain⟨k2,I⟩:∃k2,T.log.loose.length=k2:=⟨_,rfl⟩
 have HK:Hid (T.code=k0):=A;rw[A,H,I] at s ⊢;clear A H I;try simp only[jX]
 refine uS 4 rfl (fun K n=>?_);go_simp;refine n _ _ (fun h=>absurd rfl h) ?_;clear n K r;refine dP ?_;go_wp2;refine gAa w _ _ (w.heap.size+2) (w.heap.size+3) b T rfl oM ?_ ⟨u1,u2,k1,k2,E,G,F2,?_,?_,?_,?_,?_⟩ (by simp;omega) U.out ?_
 ·simp[go_sem,J]
 ·rw[HK.out];simp[go_sem,L]
 ·simp[go_sem,M]
 ·simp[go_sem,N]
 ·intro o;simp[go_sem,tf]
 ·rw[HK.out];exact loggRR.mod s.out (fSr (F:=fun b=>b=w.heap.size+3) (fSr (F:=fun b=>b=w.heap.size+3) (fSr (F:=fun b=>b=w.heap.size+3) (Mod.refl _ _) ⟨w.heap.size+3,0,none⟩ _ rfl) ⟨w.heap.size+3,1,none⟩ _ rfl) ⟨w.heap.size+3,2,none⟩ _ rfl) (fun b hb e=>by have:=(loggRR.rng s.out b hb).1;omega)
 exact bset (bset (bset a0 (by show w.heap.size≤w.heap.size+3;omega) _) (by show w.heap.size≤w.heap.size+3;omega) _) (by show w.heap.size≤w.heap.size+3;omega) _
end
end Go.Proofs.YtpibfdebfacooaaGreat

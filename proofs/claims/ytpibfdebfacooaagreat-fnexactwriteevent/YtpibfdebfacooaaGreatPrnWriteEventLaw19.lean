import Derived.Test.YtpibfdebfacooaaGreatPrnWriteEventLaw18
set_option maxHeartbeats 8000000
set_option maxRecDepth 20000
set_option linter.all false
namespace Go.Proofs.YtpibfdebfacooaaGreat
open Go.RowKit
attribute [local go_sem ↓] Go.wp_at_zero Go.wp_at_succ
attribute [local go_sem] cW cI ah cN iV aj an
section
variable [dQ Rw] [iH Rw] [dQ Bal] [iH Bal] [dQ Ledg] [iH Ledg] [dQ Leg] [iH Leg] [dQ Cont] [iH Cont] [dQ LedgR] [iH LedgR] [dQ OutcR] [iH OutcR] [dQ Mrk] [iH Mrk] [dQ Shd] [iH Shd] [dQ ShdR] [iH ShdR]
def PanicAs (D:List Deferred) (k:Nat) (p:Value) (R:List PanicEntry→World→Prop) (Q:Exit→Act→World→Prop):Exit→Act→World→Prop
 | .panic c,a,w=>a.defers=D∧a.tmps[k]? = some p∧R c w
 | e,a,w=>Q e a w
theorem PanicAs.put {D:List Deferred} {k:Nat} {p:Value} {R:List PanicEntry→World→Prop} {Q:Exit→Act→World→Prop} {dst:Option Nat} {v:Value} {c:List PanicEntry} {a:Act} {w:World} (hk:dst≠some k) (h:PanicAs D k p R Q (.panic c) (a.put dst v) w):PanicAs D k p R Q (.panic c) a w:=by
 cases dst with
 | none=>exact h
 | some j=>
  obtain⟨h1,h2,d⟩:=h;have g:j≠k:=fun e=>hk (by rw[e])
  refine⟨h1,?_,d⟩;simp only[Act.put] at h2;rw[Array.getElem?_setIfInBounds_ne g] at h2;exact h2
theorem PanicAs.normal {D:List Deferred} {k:Nat} {p:Value} {R:List PanicEntry→World→Prop} {Q:Exit→Act→World→Prop} {a:Act} {w:World} (h:Q .normal a w):PanicAs D k p R Q .normal a w:=h
theorem uF {P:Program} {id:Nat} {ops:Array Oper} {b:Bool} {Q:Exit→Act→World→Prop} {a:Act} {w:World} (D:List Deferred) (k:Nat) (p:Value) (R:List PanicEntry→World→Prop)
  (hi:∀c a w,a.defers=D→a.tmps[k]? = some p→R c w→Q (.panic c) a w) (h:(Code.region id ops b).wp P (PanicAs D k p R Q) a w):(Code.region id ops b).wp P Q a w:=
 Code.wp_mono (fun e a w h=>by
  cases e with
  | panic c=>exact hi c a w h.1 h.2.1 h.2.2
  | _=>exact h) h
theorem gAb (w W:World) (tm:Array Value) (B:Nat) (Z c x:Int) (hz:Z=c) (ht:tm[2]? = some (an B)) (hB:w.heap.size≤B) (hc:W.cell? ⟨B,0,none⟩=some (iV x)) (hf:W.frozen? ⟨B,0,none⟩=false) (hb:aa w W) :
  Leaves Tryz.prog Tryz.f179 tm (fun e w'=>e =.returned (iV Z)∧aa w w') [{target:=.fn (.func 202) #[an B],args:=#[]}] (.panicking [{v:=refV c,recovered:=false}]) W:=by
 refine leaves_cons (f:=202) (args:=#[an B]) (by simp) sG ?_;refine(fCr ⟨B,0,none⟩ x c [] W hc hf).mono ?_;rintro e m n ⟨rfl,rfl,g,d,rfl⟩;have j:cI g B 0 x:=cK d hc;have k:g.frozen? ⟨B,0,none⟩=false:=by rw[d.frozen (p:=⟨B,0,none⟩) (wL W _ hc)];exact hf
 have l:aa w g:=bS hb d;subst hz;refine⟨iV Z,?_,rfl,?_⟩
 ·simp[results,Tryz.results179,go_sem,ht,j,k]
 exact qS
theorem gA5 (w W:World) (tm:Array Value) (B:Nat) (Z x:Int) (hz:Z=x) (ht:tm[2]? = some (an B)) (hB:w.heap.size≤B) (hc:W.cell? ⟨B,0,none⟩=some (iV x)) (hb:aa w W) :
  Leaves Tryz.prog Tryz.f179 tm (fun e w'=>e =.returned (iV Z)∧aa w w') [{target:=.fn (.func 202) #[an B],args:=#[]}] .returning W:=by
 refine leaves_cons (f:=202) (args:=#[an B]) (by simp) sG ?_;refine(fK3 ⟨B,0,none⟩ W).mono ?_;rintro e l k ⟨rfl,rfl,d⟩;have g:cI k B 0 x:=cK d hc;have j:aa w k:=bS hb d;subst hz;refine⟨iV Z,?_,rfl,j⟩;simp[results,Tryz.results179,go_sem,ht,g]
theorem fRo {w:World} {a:Option Addr} {n c k:Nat} {xs:List Cont} (hx:contsR.V w (.slice a n c) xs) (hk:k≤n):contsR.V w (.slice a k c) (xs.take k):=by
 obtain⟨a',j,e,h1,h2,d⟩:=hx;simp only[Value.slice.injEq] at e;obtain⟨rfl,rfl,rfl⟩:=e;refine⟨a,c,by rw[List.length_take,Nat.min_eq_left hk],by rw[List.length_take];omega,h2,fun i g=>?_⟩;rw[List.length_take] at g;have e:(xs.take k).getD i default=xs.getD i default:=by simp[List.getD,List.getElem?_take,show i<k by omega]
 rw[e];exact d i oM
theorem frz {w w':World} {p:Addr} (hb:aa w w') (hp:p.block<w.heap.size) (h:w.frozen? p=false):w'.frozen? p=false:=by rw[hb.frozen hp];exact h
theorem fTr {d:Shd} {k:Nat} (hk:k<d.held.length):xA d.idx (d.held.take k) (d.held.getD k default).legs=gW d k:=by
 unfold xA gW;rw[fK0 oM];rfl
theorem fL6 {d:Shd} (h:mG d=0):qA d.idx d.bals=0∧LsOk d∧HeldOk d:=by
 unfold mG at h;split at h
 ·
  rename_i h0;split at h
  ·omega
  rename_i h1;split at h
  ·
   rename_i h2;split at h
   ·
    rename_i e;split at h
    ·rename_i g;exact⟨h0,⟨oM,by omega,by omega,by omega,zX h2,zX e⟩,fFg g⟩
    rename_i g;exact absurd h g
   rename_i e;exact absurd h e
  rename_i h2;exact absurd h h2
 rename_i h0;exact absurd h h0
theorem fDn (x:Value) (d:Shd) (w:World) (hx:shdR.V w x d) :
  RI 179 #[x] w (iV (shdF d)):=by
 have aw:Hid (bW w fun W=>RI 201 #[x] W (iV (mG d))):=fun W J=>fG6 x d W (shdR.below hx J)
 have af:Hid (bW w fun W=>qA d.idx d.bals=0→cL 198 #[x] W fun e w'=>∃b,e =.returned (.agg #[iV 3,.map (some b)])∧W.heap.size≤b∧Book w' b 54 (mE (mR d.idx d.bals))∧aa W w'):=fun W J h0=>zO x d W (shdR.below hx J) h0
 obtain⟨u1,u2,u3,u4,u5,rfl,h1,h2,h3,h4,h5⟩:=hx;have ax:Hid (∃a c,u3 =.slice a d.held.length c∧d.held.length≤c∧c≤maxLen∧∀k,k<d.held.length→∃b o p q,a=some ⟨b,o,none⟩∧w.cell? ⟨b,o+k*2,none⟩=some (iV (d.held.getD k default).id)∧w.cell? ⟨b,o+k*2+1,none⟩=some (.slice p (d.held.getD k default).legs.length q)∧contR.V w (.agg #[iV (d.held.getD k default).id,.slice p (d.held.getD k default).legs.length q]) (d.held.getD k default)):=qN h3;obtain⟨a1,c1,rfl⟩:=fQ h1;obtain⟨a2,c2,rfl⟩:=fH h2;obtain⟨a3,c3,rfl⟩:=fM h3;obtain⟨a4,c4,rfl⟩:=fH h4;obtain⟨a5,c5,rfl⟩:=gL h5;obtain⟨_,_,e3,aS,aI,ay⟩:=ax.out;simp only[Value.slice.injEq,true_and] at e3;obtain⟨rfl,rfl⟩:=e3;unfold maxLen at aI;have HX:Hid (∀k,k<d.held.length→∃b o p q,a3=some ⟨b,o,none⟩∧w.cell? ⟨b,o+k*2,none⟩=some (iV (d.held.getD k default).id)∧w.cell? ⟨b,o+k*2+1,none⟩=some (.slice p (d.held.getD k default).legs.length q)∧contR.V w (.agg #[iV (d.held.getD k default).id,.slice p (d.held.getD k default).legs.length q]) (d.held.getD k default)):=ay;have ag:Hid (HeldOk d→∀k W id z,k<d.held.length→aa w W→legsR.V W z (d.held.getD k default).legs→cL 196 #[iV d.idx,.slice a3 k c3,.agg #[iV id,z]] W (fGv (gW d k) W)):=fun hh k W id z hk J hl=>by
  rw[←fTr hk];exact fBx d.idx id _ z (d.held.take k) _ W (contsR.below (fRo h3 oM) J) hl (by have:=hh.len hk;omega)
 have al:Hid (HeldOk d→qA d.idx d.bals=0→∀k W id z b,k<d.held.length→legsR.V W z (d.held.getD k default).legs→Book W b 54 (mE (mR d.idx d.bals))→cL 197 #[iV d.idx,.agg #[iV 3,.map (some b)],.agg #[iV id,z]] W (fGv (gN d k) W)):=fun hh h0 k W id z b hk hl hb=>
  zU d.idx id b z d.bals _ W hb hl (by have:=hh.len hk;omega) (pE h0).1 (pE h0).2 (hh.fault hk)
 have a0:Hid (¬mG d=0→shdF d=mG d):=fun h=>by unfold shdF;rw[if_neg h]
 have a6:Hid (mG d=0→∀k,k<d.held.length→fI (gW d) k=0→¬gW d k=0→shdF d=gW d k):=fun h k hk hs hc=>by
  have h1:=mV hs hc _ hk;unfold shdF zL;rw[if_pos h,if_neg (by rw[h1];exact hc),h1]
 have a7:Hid (mG d=0→fI (gW d) d.held.length=0→∀k,k<d.held.length→fI (gN d) k=0→¬gN d k=0→shdF d=gN d k):=fun h h0 k hk hs hc=>by
  have h1:=mV hs hc _ hk;unfold shdF zL;rw[if_pos h,if_pos h0,h1]
 have a8:Hid (mG d=0→fI (gW d) d.held.length=0→fI (gN d) d.held.length=0→shdF d=0):=fun h h0 h1=>by
  unfold shdF zL;rw[if_pos h,if_pos h0,h1]
 have am:Hid (mG d=0→qA d.idx d.bals=0∧LsOk d∧HeldOk d):=fun h=>fL6 h
 clear h1 h2 h3 h4 h5 ax ay;generalize d.bals.length=n1 at *;generalize d.votes.length=n2 at *;generalize d.held.length=C at *;generalize d.done.length=n4 at *;generalize d.appl.length=n5 at *;obtain⟨Z,hZ⟩:∃Z,Z=shdF d:=⟨_,rfl⟩
 rw[←hZ] at a0 a6 a7 a8 ⊢;clear hZ;generalize mG d=lf at *;have aT:∀(fn:Fn) (first cap:Array Value) (w:World),(Instr.makeFunc fn first cap).run Tryz.prog w =.ok (.func fn first cap) w:=fun _ _ _ _=>rfl
 go_enter_defers Tryz.func179,Tryz.ntmps179
 go_wp2_with fail;refine(aw.out _ hE).mono ?_;rintro e w1 ⟨rfl,r⟩;have f1:=(bcell r).2;have aJ:=bT w r;have az:=r.size;simp at az;have D:cI w1 w.heap.size 0 d.idx:=cK r sG;have F:ah w1 w.heap.size 1 a1 n1 c1:=cK r sG;have G:ah w1 w.heap.size 2 a2 n2 c2:=cK r sG;have E:ah w1 w.heap.size 3 a3 C c3:=cK r sG;have H:ah w1 w.heap.size 4 a4 n4 c4:=cK r sG;have I:ah w1 w.heap.size 5 a5 n5 c5:=cK r sG;have s:cI w1 (w.heap.size+1) 0 0:=cK r sG;have B:w1.frozen? ⟨w.heap.size+1,0,none⟩=false:=by rw[f1 _ _ (by simp)];simp[go_sem]
 clear r f1 aw;by_cases A:lf=0;rotate_left
 ·
  have HC:=a0.out A;have aR:(lf !=0)=true:=by simp[A]
  clear a0 a6 a7 a8 ag al af HX am;go_wp2;refine⟨iV lf,by simp[results,Tryz.results179,go_sem,s,B],by rw[HC],?_⟩;exact qS
 obtain⟨h0,aK,ao⟩:=am.out A;have a9:Hid (∀k,k<C→fI (gW d) k=0→¬gW d k=0→Z=gW d k):=a6.out A;have ab:Hid (fI (gW d) C=0→∀k,k<C→fI (gN d) k=0→¬gN d k=0→Z=gN d k):=a7.out A;have ac:Hid (fI (gW d) C=0→fI (gN d) C=0→Z=0):=a8.out A;have ad:Hid (∀k W id z,k<C→aa w W→legsR.V W z (d.held.getD k default).legs→cL 196 #[iV d.idx,.slice a3 k c3,.agg #[iV id,z]] W (fGv (gW d k) W)):=ag.out ao;have aA:Hid (∀k W id z b,k<C→legsR.V W z (d.held.getD k default).legs→Book W b 54 (mE (mR d.idx d.bals))→cL 197 #[iV d.idx,.agg #[iV 3,.map (some b)],.agg #[iV id,z]] W (fGv (gN d k) W)):=al.out ao h0;have ae:Hid (bW w fun W=>cL 198 #[.agg #[iV d.idx,.slice a1 n1 c1,.slice a2 n2 c2,.slice a3 C c3,.slice a4 n4 c4,.slice a5 n5 c5]] W fun e w'=>∃b,e =.returned (.agg #[iV 3,.map (some b)])∧W.heap.size≤b∧Book w' b 54 (mE (mR d.idx d.bals))∧aa W w'):=fun W J=>af.out W J h0
 clear a0 a6 a7 a8 ag al af am h0 aK ao;rw[A];clear A;go_wp2;obtain⟨L,n⟩:∃L,L=w1.setCell ⟨w.heap.size+1,0,none⟩ (iV 0):=⟨_,rfl⟩
 have aB:aa w L:=by rw[n];exact qS
 have zq:w.heap.size+1<L.heap.size:=by rw[n];simp;omega
 replace D:L.cell? ⟨w.heap.size,0,none⟩=some (iV d.idx):=by rw[n];simp[go_sem,D]
 replace F:L.cell? ⟨w.heap.size,1,none⟩=some (.slice a1 n1 c1):=by rw[n];simp[go_sem,F]
 replace G:L.cell? ⟨w.heap.size,2,none⟩=some (.slice a2 n2 c2):=by rw[n];simp[go_sem,G]
 replace E:L.cell? ⟨w.heap.size,3,none⟩=some (.slice a3 C c3):=by rw[n];simp[go_sem,E]
 replace H:L.cell? ⟨w.heap.size,4,none⟩=some (.slice a4 n4 c4):=by rw[n];simp[go_sem,H]
 replace I:L.cell? ⟨w.heap.size,5,none⟩=some (.slice a5 n5 c5):=by rw[n];simp[go_sem,I]
 replace s:L.cell? ⟨w.heap.size+1,0,none⟩=some (iV 0):=by rw[n];simp[go_sem,s]
 replace B:L.frozen? ⟨w.heap.size+1,0,none⟩=false:=by rw[n];simp[go_sem,B]
 rw[←n];clear n aJ az;try clear w1
 go_loopw [17] (fun i w'=>∃k:Nat,k≤C∧i =.int .i64 k∧Hid (fI (gW d) k=0)∧aa L w') (fun i _=>C-(intOf i).toNat)
 case atStart=>exact⟨0,oM,rfl,rfl,bR _ _⟩
 obtain⟨k,hk,rfl,M,l⟩:=hrel;have m:aa w wr:=bS aB l;have zr:=l.size;refine kR7 l ?_ D F G E H I s;clear D F G E H I s;intro D F G E H I s;replace B:wr.frozen? ⟨w.heap.size+1,0,none⟩=false:=by rw[l.frozen (p:=⟨w.heap.size+1,0,none⟩) zq];exact B
 by_cases ar:k<C
 ·
  obtain⟨bx,ox,pp,qq,rfl,g0,g1,hV⟩:=HX.out k ar;obtain⟨z,N,O⟩:=hV;simp only[Value.agg.injEq,Array.mk.injEq,List.cons.injEq,and_true,true_and] at N;subst N;have au:Hid (bW wr fun W=>cL 196 #[iV d.idx,.slice (some ⟨bx,ox,none⟩) k c3,.agg #[iV (d.held.getD k default).id,.slice pp (d.held.getD k default).legs.length qq]] W (fGv (gW d k) W)):=fun W J=>ad.out k W _ _ ar (bS m J) (legsR.below O (bS m J))
  have HP:Hid (¬gW d k=0→Z=gW d k):=fun h=>a9.out k ar M.out h
  have HN:Hid (gW d k=0→fI (gW d) (k+1)=0):=fun h=>gU M.out h
  clear O M;generalize (d.held.getD k default).legs.length=ll at *;generalize (d.held.getD k default).id=aC at *;generalize gW d k=ak at *;replace g0:=cK m g0;replace g1:=cK m g1;have zb:bx<wr.heap.size:=wL wr _ g0;have aU:k≤c3:=oM;have aV:w.heap.size<wr.heap.size:=oM;go_wp2;refine uF [{target:=.fn (.func 202) #[an (w.heap.size+1)],args:=#[]}] 2 (an (w.heap.size+1)) (fun c W=>∃q,c=[{v:=refV q,recovered:=false}]∧Z=q∧W.cell? ⟨w.heap.size+1,0,none⟩=some (iV 0)∧W.frozen? ⟨w.heap.size+1,0,none⟩=false∧aa w W) ?_ ?_
  ·rintro c a W hd ht ⟨q,rfl,hz,hc,hf,hb⟩;show Leaves Tryz.prog Tryz.f179 a.tmps _ a.defers (.panicking _) W;rw[hd];exact gAb w W a.tmps _ Z q 0 hz ht (Nat.le_succ _) hc hf hb
  refine fB (fun W=>aa wr W∧cI W w.heap.size 0 d.idx∧ah W w.heap.size 3 (some ⟨bx,ox,none⟩) C c3∧cI W wr.heap.size 0 aC∧ah W wr.heap.size 1 pp ll qq∧cI W (w.heap.size+1) 0 0∧W.frozen? ⟨w.heap.size+1,0,none⟩=false) 8 kF ⟨hE,cK hE D,cK hE E,by simp[go_sem],sG,cK hE s,frz hE (show w.heap.size+1<wr.heap.size by omega) B⟩ (fun hS=>?_);refine mU (i:=0) (v:=?_) rfl kF kF kF kF (fun _ _ _=>PanicAs.put (by decide)) (by rfl) hS ?_ ?_;rotate_left
  ·intro wS hSw;(try dsimp only at hSw);go_simp;try with_reducible rfl
  try simp only[jX]
  refine mU (i:=1) (v:=?_) rfl kF kF kF kF (fun _ _ _=>PanicAs.put (by decide)) (by rfl) hS ?_ ?_;rotate_left
  ·intro wS hSw;(try dsimp only at hSw);go_simp;try with_reducible rfl
  try simp only[jX]
  refine mU (i:=2) (v:=?_) rfl kF kF kF kF (fun _ _ _=>PanicAs.put (by decide)) (by rfl) hS ?_ ?_;rotate_left
  ·intro wS hSw;(try dsimp only at hSw);go_simp;try with_reducible rfl
  try simp only[jX]
  refine mU (i:=3) (v:=?_) rfl kF kF kF kF (fun _ _ _=>PanicAs.put (by decide)) (by rfl) hS ?_ ?_;rotate_left
  ·intro wS hSw;(try dsimp only at hSw);go_simp;try with_reducible rfl
  try simp only[jX]
  refine mU (i:=4) (v:=?_) rfl kF kF kF kF (fun _ _ _=>PanicAs.put (by decide)) (by rfl) hS ?_ ?_;rotate_left
  ·intro wS hSw;(try dsimp only at hSw);go_simp;try with_reducible rfl
  try simp only[jX]
  refine mU (i:=5) (v:=?_) rfl kF kF kF kF (fun _ _ _=>PanicAs.put (by decide)) (by rfl) hS ?_ ?_;rotate_left
  ·intro wS hSw;(try dsimp only at hSw);go_simp;try with_reducible rfl
  try simp only[jX]
  refine mU (i:=6) (v:=?_) rfl kF kF kF kF (fun _ _ _=>PanicAs.put (by decide)) (by rfl) hS ?_ ?_;rotate_left
  ·intro wS hSw;(try dsimp only at hSw);go_simp;try with_reducible rfl
  try simp only[jX]
  refine uS 7 rfl (fun K hK=>?_);go_simp;refine(au.out _ hS.1).mono ?_;rintro e wz ⟨he,y⟩;have g:aa wr wz:=bS hS.1 y;have zz:w.heap.size+1<wr.heap.size:=oM;rcases he with ⟨h,rfl⟩|⟨h,rfl⟩
  rotate_left
  ·refine⟨rfl,rfl,ak,rfl,HP.out h,cK g s,frz g zz B,bS m g⟩
  refine hK _ _ (fun _=>⟨g,cK y hS.2.1,cK y hS.2.2.1,cK y hS.2.2.2.1,cK y hS.2.2.2.2.1,cK g s,frz g zz B⟩) ?_;clear hK K hS y;try simp only[jX]
  refine vY kF ?_;refine PanicAs.normal ?_;go_wp2;exact⟨⟨k+1,by omega,by go_num,HN.out h,bS l g⟩,mI⟩
 have aL:k=C:=oM;subst aL;have aD:Hid (∀j,j<k→fI (gN d) j=0→¬gN d j=0→Z=gN d j):=ab.out M.out;have aE:Hid (fI (gN d) k=0→Z=0):=ac.out M.out;clear a9 ab ac ad M;go_wp2_with fail;refine(ae.out _ m).mono ?_;rintro e R ⟨b,rfl,aW,av,T⟩;have aM:aa w R:=bS m T;have zz:w.heap.size+1<wr.heap.size:=oM;have z3:=T.size;have zb:b<R.heap.size:=av.lt;refine kR7 T ?_ D F G E H I s;clear D F G E H I s;intro D F G E H I s;replace B:=frz T zz B;have aF:Hid (Book R b 54 (mE (mR d.idx d.bals))):=av;have zw:w.heap.size<R.heap.size:=oM;have aX:w.heap.size+1<R.heap.size:=oM;clear av T ae l m aB;go_wp2;obtain⟨w4,U⟩:∃w4,w4=R.alloc (.cells #[iV 3,.map (some b)] 227):=⟨_,rfl⟩
 have X:aa R w4:=by rw[U];exact hE
 have q0:cI w4 R.heap.size 0 3:=cQ U;have q1:cW w4 R.heap.size 1 (.map (some b)):=cQ U;rw[←U];clear U;have aN:aa w w4:=bS aM X;have z4:w.heap.size+1<w4.heap.size:=by have:=X.size;omega
 have aG:Hid (Book w4 b 54 (mE (mR d.idx d.bals))):=aF.out.below X;refine kR7 X ?_ D F G E H I s;clear D F G E H I s;intro D F G E H I s;replace B:=frz X (show w.heap.size+1<R.heap.size by omega) B;clear aF;go_loopw [36] (fun i w'=>∃j:Nat,j≤k∧i =.int .i64 j∧Hid (fI (gN d) j=0)∧aa w4 w') (fun i _=>k-(intOf i).toNat)
 case atStart=>exact⟨0,oM,rfl,rfl,bR _ _⟩
 rename_i aY;obtain⟨j,hj,rfl,M,l⟩:=hrel;have m:aa w wr:=bS aN l;have zr:=l.size;refine kR7 l ?_ D F G E H I s;clear D F G E H I s;intro D F G E H I s;replace B:=frz l z4 B;replace q0:=cK l q0;replace q1:=cK l q1;have aH:Hid (Book wr b 54 (mE (mR d.idx d.bals))):=aG.out.below l;by_cases Y:j<k
 ·
  obtain⟨bx,ox,pp,qq,rfl,g0,g1,hV⟩:=HX.out j Y;obtain⟨z,N,O⟩:=hV;simp only[Value.agg.injEq,Array.mk.injEq,List.cons.injEq,and_true,true_and] at N;subst N;have au:Hid (bW wr fun W=>cL 197 #[iV d.idx,.agg #[iV 3,.map (some b)],.agg #[iV (d.held.getD j default).id,.slice pp (d.held.getD j default).legs.length qq]] W (fGv (gN d j) W)):=fun W J=>aA.out j W _ _ b Y (legsR.below O (bS m J)) (aH.out.below J)
  have HP:Hid (¬gN d j=0→Z=gN d j):=fun h=>aD.out j Y M.out h
  have HN:Hid (gN d j=0→fI (gN d) (j+1)=0):=fun h=>gU M.out h
  clear O M;generalize (d.held.getD j default).legs.length=ll at *;generalize (d.held.getD j default).id=aC at *;generalize gN d j=ak at *;replace g0:=cK m g0;replace g1:=cK m g1;have aZ:bx<wr.heap.size:=wL wr _ g0;have b0:R.heap.size<wr.heap.size:=wL wr _ q0;have aO:w.heap.size+1<wr.heap.size:=oM;have b1:w.heap.size<wr.heap.size:=oM;go_wp2_with fail;refine(au.out _ hE).mono ?_;rintro e wz ⟨he,y⟩;have g:aa wr wz:=bS hE y;clear y;rcases he with ⟨h,rfl⟩|⟨h,rfl⟩
  ·have aP:Hid _:=HN.out h;clear HN HP h;go_wp2;exact⟨⟨j+1,by omega,by go_num,aP,bS l g⟩,mI⟩
  have hz:=HP.out h;exact gAb w wz _ _ Z ak 0 hz rfl (Nat.le_succ _) (cK g s) (frz g aO B) (bS m g)
 have aQ:j=k:=oM;subst aQ;have hz:=aE.out M.out;clear aD aE M;go_wp2;refine gA5 w _ _ (w.heap.size+1) Z 0 hz rfl (Nat.le_succ _) (by simp[go_sem,s,B]) ?_;exact qS
theorem fOg (i:Int) (x:Value) (xs:List Bal) (w:World) (hx:balsR.V w x xs) :
  RI 110 #[iV i,x] w (iV (qA i xs)):=by
 have d:Hid (bW w fun W=>RI 137 #[x] W (iV (gZ xs))):=fun W g=>zI x xs W (balsR.below hx g)
 obtain⟨a,c,rfl⟩:=fQ hx;clear hx;generalize xs.length=n at *;unfold qA;cases h:inB i 0 2
 ·go_enter Tryz.func110,Tryz.ntmps110;go_wp2_with (first|(go_at_call 88;refine(mF _ _ _ _).mono ?_;rintro e w' ⟨rfl,rfl⟩;rw[h]));go_ret;exact⟨rfl,hE⟩
 go_enter Tryz.func110,Tryz.ntmps110;go_wp2_with (first|(go_at_call 88;refine(mF _ _ _ _).mono ?_;rintro e w' ⟨rfl,rfl⟩;rw[h])|(go_at_call 137;refine(d.out _ hE).mono ?_;rintro e w' ⟨rfl,j⟩));go_ret;exact⟨rfl,hE⟩
theorem fDw (x:Value) (d:Shd) (w:World) (hx:shdR.V w x d) :
  RI 126 #[x] w (iV (shdF d)):=by
 have a0:Hid (bW w fun W=>BalsOk d.bals→RI 151 #[x] W (iV (fAs d))):=fun W A hb=>fOi x d W (shdR.below hx A) hb
 obtain⟨u1,u2,u3,u4,u5,rfl,h1,h2,n,h4,h5⟩:=hx;have a6:Hid (bW w fun W=>RI 110 #[iV d.idx,u1] W (iV (qA d.idx d.bals))):=fun W A=>fOg _ u1 _ W (balsR.below h1 A)
 have a7:Hid (bW w fun W=>RI 150 #[u2] W (iV (mrkF d.votes))):=fun W A=>fDp u2 _ W (mrksR.below h2 A)
 have a8:Hid (bW w fun W=>RI 150 #[u4] W (iV (mrkF d.done))):=fun W A=>fDp u4 _ W (mrksR.below h4 A)
 obtain⟨a1,c1,rfl⟩:=fQ h1;obtain⟨a2,c2,rfl,aC,al,_⟩:=h2;obtain⟨a3,c3,rfl,aD,am,_⟩:=qN n;obtain⟨a4,c4,rfl,aE,ao,_⟩:=h4;obtain⟨a5,c5,rfl,aF,ar,_⟩:=h5;unfold maxLen at al am ao ar;have G:Hid (¬qA d.idx d.bals=0→shdF d=qA d.idx d.bals):=fun h=>by unfold shdF mG;rw[if_neg h,if_neg h]
 have H:Hid (qA d.idx d.bals=0→(100<d.votes.length∨100<d.held.length∨100<d.done.length∨100<d.appl.length)→shdF d=2):=fun h h1=>by unfold shdF mG;rw[if_pos h,if_pos h1];rfl
 have I:Hid (qA d.idx d.bals=0→¬(100<d.votes.length∨100<d.held.length∨100<d.done.length∨100<d.appl.length)→¬mrkF d.votes=0→shdF d=mrkF d.votes):=fun h h1 h2=>by unfold shdF mG;rw[if_pos h,if_neg h1,if_neg h2,if_neg h2]
 have J:Hid (qA d.idx d.bals=0→¬(100<d.votes.length∨100<d.held.length∨100<d.done.length∨100<d.appl.length)→mrkF d.votes=0→¬mrkF d.done=0→shdF d=mrkF d.done):=fun h h1 h2 n=>by unfold shdF mG;rw[if_pos h,if_neg h1,if_pos h2,if_neg n,if_neg n]
 have K:Hid (qA d.idx d.bals=0→¬(100<d.votes.length∨100<d.held.length∨100<d.done.length∨100<d.appl.length)→mrkF d.votes=0→mrkF d.done=0→shdF d=fAs d):=fun h h1 h2 n=>fV1 h h1 h2 n
 have a9:Hid (qA d.idx d.bals=0→BalsOk d.bals):=fun h=>by
  unfold qA at h;split at h
  ·exact uK h
  omega
 generalize d.bals.length=n1 at *;generalize d.votes.length=q at *;generalize d.held.length=r at *;generalize d.done.length=s at *;generalize d.appl.length=y at *;generalize fAs d=tf at *;generalize mrkF d.votes=z at *;generalize mrkF d.done=B at *;generalize g:qA d.idx d.bals=bf at *;obtain⟨Z,hZ⟩:∃Z,Z=shdF d:=⟨_,rfl⟩
 rw[←hZ] at G H I J K ⊢;clear hZ g h1 n;go_enter Tryz.func126,Tryz.ntmps126;go_wp2_with fail;refine(a6.out _ hE).mono ?_;rintro e N ⟨rfl,k⟩;have O:cI N w.heap.size 0 d.idx:=cK k sG;have R:ah N w.heap.size 1 a1 n1 c1:=cK k sG;have T:ah N w.heap.size 2 a2 q c2:=cK k sG;have U:ah N w.heap.size 3 a3 r c3:=cK k sG;have X:ah N w.heap.size 4 a4 s c4:=cK k sG;have Y:ah N w.heap.size 5 a5 y c5:=cK k sG;have ab:=bT w k;clear k a6;by_cases g:bf=0;rotate_left
 ·
  have HC:=G.out g;have az:(bf !=0)=true:=by simp[g]
  go_wp2;go_ret;exact⟨by rw[HC];rfl,hE⟩
 have C:=a9.out g;have ac:Hid (bW w fun W=>RI 151 #[.agg #[iV d.idx,.slice a1 n1 c1,.slice a2 q c2,.slice a3 r c3,.slice a4 s c4,.slice a5 y c5]] W (iV tf)):=fun W A=>a0.out W A C
 have l:Hid ((100<q∨100<r∨100<s∨100<y)→Z=2):=fun h=>H.out g h
 have D:Hid (¬(100<q∨100<r∨100<s∨100<y)→¬z=0→Z=z):=fun h h2=>I.out g h h2
 have E:Hid (¬(100<q∨100<r∨100<s∨100<y)→z=0→¬B=0→Z=B):=fun h h2 n=>J.out g h h2 n
 have F:Hid (¬(100<q∨100<r∨100<s∨100<y)→z=0→B=0→Z=tf):=fun h h2 n=>K.out g h h2 n
 rw[g];clear G H I J K a9 C a0 g;by_cases m2:100<q
 ·have HC:=l.out (.inl m2);have au:(100:Int)<q:=oM;go_wp2;go_ret;exact⟨by rw[HC];rfl,hE⟩
 have au:¬(100:Int)<q:=oM;by_cases m3:100<r
 ·have HC:=l.out (.inr (.inl m3));have av:(100:Int)<r:=oM;go_wp2;go_ret;exact⟨by rw[HC];rfl,hE⟩
 have av:¬(100:Int)<r:=oM;by_cases m4:100<s
 ·have HC:=l.out (.inr (.inr (.inl m4)));have aw:(100:Int)<s:=oM;go_wp2;go_ret;exact⟨by rw[HC];rfl,hE⟩
 have aw:¬(100:Int)<s:=oM;by_cases m5:100<y
 ·have HC:=l.out (.inr (.inr (.inr m5)));have ax:(100:Int)<y:=oM;go_wp2;go_ret;exact⟨by rw[HC];rfl,hE⟩
 have ax:¬(100:Int)<y:=oM;have j:¬(100<q∨100<r∨100<s∨100<y):=oM;have ad:Hid (¬z=0→Z=z):=fun h=>D.out j h
 have ae:Hid (z=0→¬B=0→Z=B):=fun h h2=>E.out j h h2
 have af:Hid (z=0→B=0→Z=tf):=fun h h2=>F.out j h h2
 clear l D E F j;go_wp2_with fail;refine(a7.out _ ab).mono ?_;rintro e w2 ⟨rfl,L⟩;have ag:aa w w2:=bS ab L;refine kR6 L ?_ O R T U X Y;clear O R T U X Y;intro O R T U X Y;clear L a7;by_cases m:z=0;rotate_left
 ·
  have HC:=ad.out m;have aA:(z !=0)=true:=by simp[m]
  go_wp2;go_ret;exact⟨by rw[HC];rfl,hE⟩
 rw[m];go_wp2_with fail;refine(a8.out _ ag).mono ?_;rintro e w3 ⟨rfl,M⟩;have ak:aa w w3:=bS ag M;refine kR6 M ?_ O R T U X Y;clear O R T U X Y;intro O R T U X Y;clear M a8;by_cases p:B=0;rotate_left
 ·
  have HC:=ae.out m p;have aB:(B !=0)=true:=by simp[p]
  go_wp2;go_ret;exact⟨by rw[HC];rfl,hE⟩
 have HC:Hid (Z=tf):=af.out m p;rw[p];clear ad ae af m p;go_wp2_with fail;refine(ac.out _ ak).mono ?_;rintro e w4 ⟨rfl,ay⟩;go_wp2;go_ret;exact⟨rH,bS ak ay⟩
theorem fPq {c:Cont} (h:fA c.id c.legs=0):∀l ∈ c.legs,gI l=0:=fun l g=>by
 obtain⟨i,d,rfl⟩:=List.getElem_of_mem g;have h1:=((fAu h).2.2.2.1 i d).1;have e:c.legs.getD i default=c.legs[i]:=by rw[List.getD,List.getElem?_eq_getElem d];rfl
 rw[e] at h1;exact h1
theorem fW4 {c:Cont} (h:fA c.id c.legs=0) (s:Int):small (onSh s c.legs):=fun j d=>by
 have e:(onSh s c.legs).getD j default ∈ onSh s c.legs:=by simp[List.getD,d]
 exact(kC (fPq h _ (List.mem_filter.1 e).1)).2.2.2.1
theorem fDk {c:Cont} (h:fA c.id c.legs=0):c.legs.length≤8:=(fAu h).2.2.1
def xJ (d:Shd) (c:Cont) (o:Cont):Bool:=touch (onSh d.idx c.legs) (onSh d.idx o.legs)
theorem fF0 {d:Shd} {c:Cont} (h:¬fK c.id d.done=0):kV d c=false:=by unfold kV;rw[decide_eq_false_iff_not];exact fun e=>h e.1
theorem fIs {d:Shd} {c:Cont} (h:¬yK d.bals (onSh d.idx c.legs)=0):kV d c=false:=by unfold kV;rw[decide_eq_false_iff_not];exact fun e=>h e.2.1
theorem fDt {d:Shd} {c:Cont} (h:d.held.any (xJ d c)=true):kV d c=false:=by
 unfold kV;rw[decide_eq_false_iff_not];intro e;have h2:=e.2.2;unfold xJ at h;rw[h] at h2;cases h2
theorem fMi {d:Shd} {c:Cont} (h1:fK c.id d.done=0) (h2:yK d.bals (onSh d.idx c.legs)=0) (h3:d.held.any (xJ d c)=false):kV d c=true:=by
 unfold kV;rw[decide_eq_true_iff];exact⟨h1,h2,h3⟩
theorem fL2 (x y:Value) (d:Shd) (c:Cont) (w:World) (hx:shdR.V w x d) (hy:contR.V w y c) (hbo:BalsOk d.bals) (hcf:fA c.id c.legs=0) (hok:HeldOk d) :
  RI 154 #[x,y] w (.bool (kV d c)):=by
 obtain⟨uy,rfl,hy⟩:=hy;obtain⟨u1,u2,u3,u4,u5,rfl,h1,h2,h3,h4,h5⟩:=hx;have ad:Hid (∃a c,u3 =.slice a d.held.length c∧d.held.length≤c∧c≤maxLen∧∀k,k<d.held.length→∃b o p q,a=some ⟨b,o,none⟩∧w.cell? ⟨b,o+k*2,none⟩=some (iV (d.held.getD k default).id)∧w.cell? ⟨b,o+k*2+1,none⟩=some (.slice p (d.held.getD k default).legs.length q)∧contR.V w (.agg #[iV (d.held.getD k default).id,.slice p (d.held.getD k default).legs.length q]) (d.held.getD k default)):=qN h3;have ae:Hid (bW w fun W=>RI 153 #[u4,iV c.id] W (iV (fK c.id d.done))):=fun W m=>uA u4 _ c.id W (mrksR.below h4 m)
 have af:Hid (∀W y,aa w W→legsR.V W y (onSh d.idx c.legs)→RI 184 #[u1,y] W (iV (yK d.bals (onSh d.idx c.legs)))):=fun W y m hy=>fH9 u1 y d.bals _ W (balsR.below h1 m) hy (fF9 hbo) (fW4 hcf _)
 have ag:Hid (bW w fun W=>cL 127 #[.agg #[iV c.id,uy],iV d.idx] W fun e w'=>∃v,e =.returned v∧w'.ownsRow W.heap.size 168 4 v (onSh d.idx c.legs).length (gT (onSh d.idx c.legs))∧aa W w'):=fun W m=>xZ _ _ _ _ W (legsR.below hy m) (by have:=fDk hcf;omega)
 have ak:Hid (∀W k p q,aa w W→k<d.held.length→contR.V w (.agg #[iV (d.held.getD k default).id,.slice p (d.held.getD k default).legs.length q]) (d.held.getD k default)→cL 127 #[.agg #[iV (d.held.getD k default).id,.slice p (d.held.getD k default).legs.length q],iV d.idx] W fun e w'=>∃v,e =.returned v∧w'.ownsRow W.heap.size 168 4 v (kI d k).length (gT (kI d k))∧aa W w'):=fun W k p q m hk hV=>by
  obtain⟨u,e,hu⟩:=contR.below hV m;simp only[Value.agg.injEq,Array.mk.injEq,List.cons.injEq,and_true,true_and] at e;subst e;exact xZ _ _ _ _ W hu (by have:=hok.len hk;omega)
 obtain⟨a1,c1,rfl⟩:=fQ h1;obtain⟨a2,c2,rfl⟩:=fH h2;obtain⟨a3,c3,rfl⟩:=fM h3;obtain⟨a4,c4,rfl⟩:=fH h4;obtain⟨a5,c5,rfl⟩:=gL h5;obtain⟨_,_,e3,aD,aE,am⟩:=ad.out;simp only[Value.slice.injEq,true_and] at e3;obtain⟨rfl,rfl⟩:=e3;unfold maxLen at aE;have HX:Hid (∀k,k<d.held.length→∃b o p q,a3=some ⟨b,o,none⟩∧w.cell? ⟨b,o+k*2,none⟩=some (iV (d.held.getD k default).id)∧w.cell? ⟨b,o+k*2+1,none⟩=some (.slice p (d.held.getD k default).legs.length q)∧contR.V w (.agg #[iV (d.held.getD k default).id,.slice p (d.held.getD k default).legs.length q]) (d.held.getD k default)):=am;obtain⟨ax,cx,rfl⟩:=kK hy;clear h1 h2 h3 h4 h5 hy ad am;have J:Hid (∀k,k<d.held.length→(d.held.take k).any (xJ d c)=false→touch (onSh d.idx c.legs) (kI d k)=false→(d.held.take (k+1)).any (xJ d c)=false):=fun k hk h1 h2=>by
  rw[fBj _ hk,h1];exact h2
 have L:Hid (∀k,k<d.held.length→touch (onSh d.idx c.legs) (kI d k)=true→kV d c=false):=fun k hk h=>fDt (fKz hk h)
 have a9:Hid (fK c.id d.done=0→yK d.bals (onSh d.idx c.legs)=0→(d.held.take d.held.length).any (xJ d c)=false→kV d c=true):=fun h1 h2 h3=>fMi h1 h2 (by rw[List.take_length] at h3;exact h3)
 have ao:Hid (¬fK c.id d.done=0→kV d c=false):=fun h=>fF0 h
 have ar:Hid (¬yK d.bals (onSh d.idx c.legs)=0→kV d c=false):=fun h=>fIs h
 obtain⟨z,au⟩:∃z,z=d.held.length:=⟨_,rfl⟩
 rw[←au] at HX J L a9 ak aD ⊢;clear au;generalize d.bals.length=n1 at *;generalize d.votes.length=n2 at *;generalize d.done.length=n4 at *;generalize d.appl.length=n5 at *;generalize c.legs.length=nx at *;generalize kV d c=Z at *;generalize fK c.id d.done=fd at *;generalize yK d.bals (onSh d.idx c.legs)=cl at *;go_enter Tryz.func154,Tryz.ntmps154;go_wp2_with fail;refine(ag.out _ hE).mono ?_;rintro e s ⟨vl,rfl,ol,l⟩;obtain⟨al,ab,rfl⟩:=fD ol;have av:=bT w l;have A:cI s w.heap.size 0 d.idx:=cK l sG;have M:ah s w.heap.size 1 a1 n1 c1:=cK l sG;have N:ah s w.heap.size 2 a2 n2 c2:=cK l sG;have B:ah s w.heap.size 3 a3 z c3:=cK l sG;have O:ah s w.heap.size 4 a4 n4 c4:=cK l sG;have R:ah s w.heap.size 5 a5 n5 c5:=cK l sG;have T:cI s (w.heap.size+1) 0 c.id:=cK l sG;have U:ah s (w.heap.size+1) 1 ax nx cx:=cK l sG;have aw:Hid (bW s fun W=>legsR.V W (.slice al (onSh d.idx c.legs).length ab) (onSh d.idx c.legs)):=fun W m=>kE (gX ol) m
 have aF:Hid (∀k W y,aa s W→legsR.V W y (kI d k)→RI 183 #[.slice al (onSh d.idx c.legs).length ab,y] W (.bool (touch (onSh d.idx c.legs) (kI d k)))):=fun k W y m hy=>fDq _ _ _ _ W (aw.out W m) hy
 clear l ol ag;generalize (onSh d.idx c.legs).length=nl at *;go_wp2_with fail;refine(ae.out _ av).mono ?_;rintro e w2 ⟨rfl,C⟩;have ay:aa w w2:=bS av C;refine kR8 C ?_ A M N B O R T U;clear A M N B O R T U;intro A M N B O R T U;by_cases D:fd=0;rotate_left
 ·
  have HC:=ao.out D;have az:(fd !=0)=true:=by simp[D]
  go_wp2;go_ret;exact⟨by rw[HC] <;> rfl,hE⟩
 have az:(fd !=0)=false:=by simp[D]
 go_wp2_with fail;refine(af.out _ _ ay (aw.out _ C)).mono ?_;rintro e w3 ⟨rfl,X⟩;have aG:aa w w3:=bS ay X;have aA:aa s w3:=bS C X;refine kR8 X ?_ A M N B O R T U;clear A M N B O R T U;intro A M N B O R T U;by_cases E:cl=0;rotate_left
 ·
  have HC:=ar.out E;have aM:(cl !=0)=true:=by simp[E]
  go_wp2;go_ret;exact⟨by rw[HC] <;> rfl,hE⟩
 have aH:(cl !=0)=false:=by simp[E]
 have F:Hid ((d.held.take z).any (xJ d c)=false→Z=true):=fun h=>a9.out D E h
 clear a9 ao ar ae af D E X C;go_wp2;go_loopw [6] (fun i w'=>∃k:Nat,k≤z∧i =.int .i64 k∧Hid ((d.held.take k).any (xJ d c)=false)∧aa w3 w') (fun i _=>z-(intOf i).toNat)
 case atStart=>exact⟨0,oM,rfl,by show(d.held.take 0).any _=false;rfl,hE⟩
 obtain⟨k,hk,rfl,HS,Y⟩:=hrel;have a0:aa w wr:=bS aG Y;refine kR8 Y ?_ A M N B O R T U;clear A M N B O R T U;intro A M N B O R T U;have aB:aa s wr:=bS aA Y;by_cases a6:k<z
 ·
  obtain⟨bx,ox,p1,q1,rfl,g0,g1,hV⟩:=HX.out k a6;have aC:Hid (bW wr fun W=>cL 127 #[.agg #[iV (d.held.getD k default).id,.slice p1 (d.held.getD k default).legs.length q1],iV d.idx] W fun e w'=>∃v,e =.returned v∧w'.ownsRow W.heap.size 168 4 v (kI d k).length (gT (kI d k))∧aa W w'):=fun W m=>ak.out W k p1 q1 (bS a0 m) a6 hV
  have a8:Hid (∀W y,aa wr W→legsR.V W y (kI d k)→RI 183 #[.slice al nl ab,y] W (.bool (touch (onSh d.idx c.legs) (kI d k)))):=fun W y m hy=>aF.out k W y (bS aB m) hy
  clear hV;replace g0:=cK a0 g0;replace g1:=cK a0 g1;have k1:(k:Int)<z:=oM;have k2:(0:Int)≤k:=oM;cases a7:touch (onSh d.idx c.legs) (kI d k)
  ·
   have HC:Hid ((d.held.take (k+1)).any (xJ d c)=false):=J.out k a6 HS.out a7;clear J L F HS;go_wp2;refine wp_region_noPanic ?_;refine fB (fun W=>aa wr W∧cI W w.heap.size 0 d.idx∧ah W w.heap.size 3 (some ⟨bx,ox,none⟩) z c3∧cI W bx (ox+k*2) ((d.held.getD k default).id)∧ah W bx (ox+k*2+1) p1 (d.held.getD k default).legs.length q1) 10 kF ⟨hE,cK hE A,cK hE B,cK hE g0,cK hE g1⟩ (fun hS=>?_);refine tX 0 ?_;refine tX 1 ?_;refine tX 2 ?_;refine tX 3 ?_;refine tX 4 ?_;refine tX 5 ?_;refine tX 6 ?_;refine tX 7 ?_;refine uS 8 rfl (fun K G=>?_);go_simp;refine(aC.out _ hS.1).mono ?_;rintro e ac ⟨aI,rfl,H,j⟩;obtain⟨aJ,aK,rfl⟩:=fD H;have V2:=gX H;have n:aa wr ac:=bS hS.1 j;have g:=And.intro n (kS4 j hS.2);refine G _ _ (fun _=>g) ?_;clear G K hS j;have hS:=g;clear g;try simp only[jX]
   refine uS 9 rfl (fun K G=>?_);go_simp;refine(a8.out _ _ hS.1 V2).mono ?_;rintro e wz ⟨rfl,r⟩;rw[a7];have I:aa wr wz:=bS hS.1 r;have g:=And.intro I (kS4 r hS.2);refine G _ _ (fun _=>g) ?_;clear G K hS r;have hS:=g;clear g;try simp only[jX]
   refine dP ?_;go_wp2;exact⟨⟨k+1,by omega,by go_num,HC,bS Y hS.1⟩,mI⟩
  have HC:Z=false:=L.out k a6 a7;clear J L F HS;go_wp2;refine wp_region_noPanic ?_;refine fB (fun W=>aa wr W∧cI W w.heap.size 0 d.idx∧ah W w.heap.size 3 (some ⟨bx,ox,none⟩) z c3∧cI W bx (ox+k*2) ((d.held.getD k default).id)∧ah W bx (ox+k*2+1) p1 (d.held.getD k default).legs.length q1) 10 kF ⟨hE,cK hE A,cK hE B,cK hE g0,cK hE g1⟩ (fun hS=>?_);refine tX 0 ?_;refine tX 1 ?_;refine tX 2 ?_;refine tX 3 ?_;refine tX 4 ?_;refine tX 5 ?_;refine tX 6 ?_;refine tX 7 ?_;refine uS 8 rfl (fun K G=>?_);go_simp;refine(aC.out _ hS.1).mono ?_;rintro e ac ⟨aI,rfl,H,j⟩;obtain⟨aJ,aK,rfl⟩:=fD H;have V2:=gX H;have n:aa wr ac:=bS hS.1 j;have g:=And.intro n (kS4 j hS.2);refine G _ _ (fun _=>g) ?_;clear G K hS j;have hS:=g;clear g;try simp only[jX]
  refine uS 9 rfl (fun K G=>?_);go_simp;refine(a8.out _ _ hS.1 V2).mono ?_;rintro e wz ⟨rfl,r⟩;rw[a7];have I:aa wr wz:=bS hS.1 r;have g:=And.intro I (kS4 r hS.2);refine G _ _ (fun _=>g) ?_;clear G K hS r;have hS:=g;clear g;try simp only[jX]
  refine dP ?_;go_wp2;go_ret;exact⟨by rw[HC] <;> rfl,bS a0 hS.1⟩
 have aL:k=z:=oM;subst aL;have HC:=F.out HS.out;go_wp2;go_ret;exact⟨by rw[HC] <;> rfl,hE⟩
end
section
section
variable {P : Program} {ops : Array Oper} {Q : Exit → Act → World → Prop} {md : Region.Mode} {S : World → Prop} {t : Nat}
def Alive (L:List (Nat × Nat)) (cons:Nat→List Nat) (listed:Array Bool) (j:Nat):Prop:=listed.getD j true=true∧∀p ∈ L,listed.getD p.1 true=true→j ∉ cons p.1
def Taken (cons:Nat→List Nat) (Φ:Nat→Nat→Prop) (i b:Nat):Prop:=∃j ∈ cons i,Φ j b
def FIn (w0 w:World) (F:Nat→Prop):Prop:=∀b,F b→w0.heap.size≤b∧b<w.heap.size
def tJ (F F':Nat→Prop):Prop:=∀b,F b→¬F' b
def fZ2 (P:Program) (md:Region.Mode) (ops:Array Oper) (Q:Exit→Act→World→Prop) (S:World→Prop) (L:List (Nat × Nat)) (cons:Nat→List Nat) (G:Nat→(Nat→Value)→(Nat→Prop)→World→Prop) (a0:Act) (w0:World) (p:Nat × Nat):Prop:=
 ∃o,ops[p.1]? = some o∧o.dst=some p.2∧∀(y:Nat→Value) (w:World) (Φ:Nat→Nat→Prop),S w→aa w0 w →
  (∀q ∈ L,waitsFor md ops p.1 q.1=true→(q.1 ∈ cons p.1∨∀r ∈ L,q.1 ∉ cons r.1)→FIn w0 w (Φ q.1)∧G q.1 y (Φ q.1) w) →
  ∀K:Act→World→Prop,(∀v w' F',Mod (Taken cons Φ p.1) w w'→(∀b,F' b→Taken cons Φ p.1 b∨(w.heap.size≤b∧b<w'.heap.size))→G p.1 (updV y p.2 v) F' w'→K ((over a0 (L.map Prod.snd) y).put (some p.2) v) w') →
   Shut (if Region.wanted o (yielded ops (over a0 (L.map Prod.snd) y).tmps)=true then Oper.wp P o (over a0 (L.map Prod.snd) y) w K Q else K ((over a0 (L.map Prod.snd) y).put o.dst undef) w)
theorem fWh (L:List (Nat × Nat)) (cons:Nat→List Nat) (G:Nat→(Nat→Value)→(Nat→Prop)→World→Prop) {f:Nat} {listed:Array Bool} {a0:Act} {w0:World}
  (hrise:fMm md ops=true) (hsz:listed.size=ops.size) (hot:∃ot,ops[t]? = some ot)
  (hall:∀i,i<ops.size→listed.getD i true=false→i=t∨∃p ∈ L,p.1=i)
  (hun:listed.getD t true=false∧∀p ∈ L,listed.getD p.1 true=false)
  (hno:(L.map Prod.fst).Nodup) (hnd:(L.map Prod.snd).Nodup) (htl:∀p ∈ L,p.1≠t∧waitsFor md ops t p.1=true) (hf:f=L.length+1)
  (hcons:∀p ∈ L,∀j ∈ cons p.1,waitsFor md ops p.1 j=true∧∃q ∈ L,q.1=j) (huniq:∀p ∈ L,∀r ∈ L,p.1≠r.1→∀j ∈ cons p.1,j ∉ cons r.1)
  (hS:S w0) (hSst:∀(F:Nat→Prop) (w w':World),S w→Mod F w w'→(∀b,F b→w0.heap.size≤b)→S w')
  (hG:∀p ∈ L,∀(y y':Nat→Value) (F F':Nat→Prop) (w w':World),G p.1 y F w→FIn w0 w F→Mod F' w w'→tJ F' F→(∀b,F' b→w0.heap.size≤b)→y' p.2=y p.2→(∀q ∈ L,waitsFor md ops p.1 q.1=true→y' q.2=y q.2)→G p.1 y' F w')
  (hstep:∀p ∈ L,fZ2 P md ops Q S L cons G a0 w0 p)
  (hlast:∃o,ops[t]? = some o∧∀(y:Nat→Value) (w:World) (Φ:Nat→Nat→Prop),S w→aa w0 w→(∀q ∈ L,(∀r ∈ L,q.1 ∉ cons r.1)→FIn w0 w (Φ q.1)∧G q.1 y (Φ q.1) w)→(∀q ∈ L,∀r ∈ L,q.1≠r.1→(∀p ∈ L,q.1 ∉ cons p.1)→(∀p ∈ L,r.1 ∉ cons p.1)→tJ (Φ q.1) (Φ r.1)) →
   ∀K:Act→World→Prop,(∀a' w',Q .normal a' w'→K a' w')→Shut (if Region.wanted o (yielded ops (over a0 (L.map Prod.snd) y).tmps)=true then Oper.wp P o (over a0 (L.map Prod.snd) y) w K Q else K ((over a0 (L.map Prod.snd) y).put o.dst undef) w)) :
  gQ P md ops Q S t f listed a0 w0:=by
 have H:∀(n f:Nat) (listed:Array Bool) (y:Nat→Value) (w:World) (Φ:Nat→Nat→Prop),
   f=(L.filter fun p=>!listed.getD p.1 true).length+1→listed.size=ops.size→listed.getD t true=false →
   (∀i,i<ops.size→listed.getD i true=false→i=t∨∃p ∈ L,p.1=i) →
   (∀p ∈ L,listed.getD p.1 true=true→∀q ∈ L,waitsFor md ops p.1 q.1=true→listed.getD q.1 true=true) →
   S w→aa w0 w→(∀q ∈ L,Alive L cons listed q.1→FIn w0 w (Φ q.1)∧G q.1 y (Φ q.1) w) →
   (∀q ∈ L,∀r ∈ L,q.1≠r.1→Alive L cons listed q.1→Alive L cons listed r.1→tJ (Φ q.1) (Φ r.1)) →
   f≤n→gQ P md ops Q S t f listed (over a0 (L.map Prod.snd) y) w:=by
  intro n;induction n with
  | zero=>intro f listed y w Φ hf _ _ _ _ _ _ _ _ hn;omega
  | succ n ih=>
   intro f listed y w Φ hf hsz a3 hall U hS hB C a5 hn;obtain⟨ot,hot⟩:=hot;have ad:t<ops.size:=by
    rcases Nat.lt_or_ge t ops.size with h|h
    ·exact h
    rw[Array.getElem?_eq_none h] at hot;cases hot
   obtain⟨g,rfl⟩:∃g,f=g+1:=⟨_,hf⟩
   have hg:g=(L.filter fun p=>!listed.getD p.1 true).length:=oM;refine⟨fun h=>?_,fun i ao=>?_⟩
   ·obtain⟨j,E⟩:=fDc hrise hsz (t+1) t oM ad a3;rw[h] at E;cases E
   obtain⟨A,o,R,a6⟩:=mem_ready.1 ao;have ae:i<ops.size:=by
    rcases Nat.lt_or_ge i ops.size with h|h
    ·exact h
    rw[Array.getElem?_eq_none h] at R;cases R
   have M:∀k,k<ops.size→waitsFor md ops i k=true→listed.getD k true=true:=by
    intro k hk I;unfold waitsFor at I;rw[R] at I;obtain⟨e,he,hb⟩:=Array.any_eq_true'.1 I;simp only[Bool.and_eq_true,beq_iff_eq] at hb;have h1:=a6 e he hb.1;rw[hb.2] at h1;have a7:k<listed.size:=oM;simp[a7] at h1 ⊢;exact h1
   have N:∀p ∈ L,p.1<ops.size:=by
    intro p l;obtain⟨o',V,_⟩:=hstep p l;rcases Nat.lt_or_ge p.1 ops.size with h|h
    ·exact h
    rw[Array.getElem?_eq_none h] at V;cases V
   have ar:∀K:Act→World→Prop,(if Region.wanted o (yielded ops (over a0 (L.map Prod.snd) y).tmps)=true then Oper.wp P o (over a0 (L.map Prod.snd) y) w K Q else K ((over a0 (L.map Prod.snd) y).put o.dst undef) w)→wpOp P ops Q i K (over a0 (L.map Prod.snd) y) w:=by
    intro K h1;unfold wpOp;simp only[R];split
    ·rename_i I;rw[if_pos I] at h1;exact .inl h1
    rename_i I;rw[if_neg I] at h1;exact h1
   refine ar _ ?_;by_cases a8:i=t
   ·
    subst a8;have hl:∀p ∈ L,listed.getD p.1 true=true:=fun p l=>M p.1 (N p l) (htl p l).2
    obtain⟨o2,af,ag⟩:=hlast;rw[R] at af;cases af;refine(ag y w Φ hS hB (fun q d Y=>C q d ⟨hl q d,fun p l _=>Y p l⟩) (fun q d r m J h1 h2=>a5 q d r m J ⟨hl q d,fun p l _=>h1 p l⟩ ⟨hl r m,fun p l _=>h2 p l⟩) _ (fun a' w' d=>⟨fun h=>absurd rfl h,vY ?_ d⟩)).out;rw[List.eq_nil_iff_forall_not_mem];intro j E;obtain⟨D,oj,ak,_⟩:=mem_ready.1 E;have au:j<ops.size:=by
     rcases Nat.lt_or_ge j ops.size with h|h
     ·exact h
     rw[Array.getElem?_eq_none h] at ak;cases ak
    by_cases a9:i=j
    ·subst a9;have a7:i<listed.size:=oM;simp[a7] at D
    rw[getD_set_ne true a9] at D;rcases hall j au D with h|⟨p,l,h⟩
    ·exact a9 h.symm
    rw[←h,hl p l] at D;cases D
   obtain⟨p,l,av⟩:=(hall i ae A).resolve_left a8;subst av;obtain⟨o',V,aB,aw⟩:=hstep p l;rw[R] at V;cases V;have O:∀q ∈ L,q.1 ∈ cons p.1→Alive L cons listed q.1:=fun q d Y=>⟨M q.1 (N q d) (hcons p l _ Y).1,fun r m T ax=>by
    by_cases e:r.1=p.1
    ·rw[e,A] at T;cases T
    exact huniq p l r m (Ne.symm e) q.1 Y ax⟩
   refine(aw y w Φ hS hB (fun q d I Y=>?_) _ (fun v w' F' hm ab ay=>⟨fun _=>hSst _ _ _ hS hm ?_,?_⟩)).out
   ·
    rcases Y with Y|Y
    ·exact C q d (O q d Y)
    exact C q d ⟨M q.1 (N q d) I,fun r m _=>Y r m⟩
   ·rintro b ⟨j,E,hb⟩;obtain⟨_,q,d,rfl⟩:=hcons p l j E;exact((C q d (O q d E)).1 b hb).1
   have Z:∀b,Taken cons Φ p.1 b→w0.heap.size≤b∧b<w.heap.size:=by
    rintro b ⟨j,E,hb⟩;obtain⟨_,q,d,rfl⟩:=hcons p l j E;exact(C q d (O q d E)).1 b hb
   rw[fKc (List.mem_map_of_mem l) hnd];have az:p.1<listed.size:=oM;have x:(listed.setIfInBounds p.1 true).getD p.1 true=true:=by simp[az]
   have z:∀j,p.1≠j→(listed.setIfInBounds p.1 true).getD j true=listed.getD j true:=fun j h=>getD_set_ne true h
   have a4:∀q ∈ L,q.1=p.1→q=p:=fun q d h=>fJ1 L hno q d p l h
   have X:∀q ∈ L,q.2=p.2→q=p:=fun q d h=>fJ2 L hnd q d p l h
   have B:∀q ∈ L,q.1≠p.1→Alive L cons (listed.setIfInBounds p.1 true) q.1→Alive L cons listed q.1∧q.1 ∉ cons p.1:=fun q d e ha=>by
    refine⟨⟨by rw[←z _ (Ne.symm e)];exact ha.1,fun r m T=>?_⟩,ha.2 p l x⟩;by_cases e2:r.1=p.1
    ·rw[e2,A] at T;cases T
    exact ha.2 r m (by rw[z _ (Ne.symm e2)];exact T)
   have ac:∀q ∈ L,Alive L cons listed q.1→q.1 ∉ cons p.1→tJ (Taken cons Φ p.1) (Φ q.1):=by
    rintro q d ha hn b ⟨j,E,hb⟩;obtain⟨_,r,m,rfl⟩:=hcons p l j E;exact a5 r m q d (fun e=>hn (e▸E)) (O r m E) ha b hb
   refine ih g (listed.setIfInBounds p.1 true) (updV y p.2 v) w' (fun j=>if j=p.1 then F' else Φ j) ?_ (by simpa using hsz) ?_ ?_ ?_ (hSst _ _ _ hS hm (fun b hb=>(Z b hb).1)) (hm.below hB hB.size (fun b hb=>(Z b hb).1)) ?_ ?_ oM
   ·rw[hg];refine yO hno l (by rw[A];rfl) (by rw[x];rfl) (fun q d J=>?_);rw[z _ (fun c=>J (a4 q d c.symm))]
   ·rw[z _ (fun h=>a8 h)];exact a3
   ·
    intro j E a1;by_cases e:p.1=j
    ·subst e;rw[x] at a1;cases a1
    rw[z _ e] at a1;exact hall j E a1
   ·
    intro q d al r m I;by_cases e:p.1=r.1
    ·rw[←e];exact x
    rw[z _ e];by_cases e2:p.1=q.1
    ·rw[←e2] at I;exact M r.1 (N r m) I
    rw[z _ e2] at al;exact U q d al r m I
   ·
    intro q d ha;by_cases e:q.1=p.1
    ·
     have e2:=a4 q d e;subst e2;simp only[if_true];refine⟨fun b hb=>?_,ay⟩;rcases ab b hb with h|h
     ·have:=Z b h;have:=hm.size;omega
     have:=hB.size;omega
    obtain⟨h1,h2⟩:=B q d e ha;simp only[if_neg e];obtain⟨g1,g2⟩:=C q d h1;refine⟨fun b hb=>⟨(g1 b hb).1,Nat.lt_of_lt_of_le (g1 b hb).2 hm.size⟩,hG q d y (updV y p.2 v) _ _ w w' g2 g1 hm (ac q d h1 h2) (fun b hb=>(Z b hb).1) ?_ ?_⟩
    ·exact if_neg (fun c=>e (by rw[X q d c]))
    intro r m I;refine if_neg (fun c=>?_);have e3:=X r m c;subst e3;rw[U q d h1.1 _ m I] at A;cases A
   intro q d r m J aA am;by_cases e:q.1=p.1
   ·
    have e':r.1≠p.1:=fun c=>J (e.trans c.symm)
    obtain⟨h1,h2⟩:=B r m e' am;simp only[if_pos e,if_neg e'];intro b hb a2;rcases ab b hb with h|h
    ·exact ac r m h1 h2 b h a2
    have:=((C r m h1).1 b a2).2;omega
   obtain⟨h1,h2⟩:=B q d e aA;by_cases e':r.1=p.1
   ·
    simp only[if_neg e,if_pos e'];intro b hb a2;rcases ab b a2 with h|h
    ·exact ac q d h1 h2 b h hb
    have:=((C q d h1).1 b hb).2;omega
   obtain⟨h3,_⟩:=B r m e' am;simp only[if_neg e,if_neg e'];exact a5 q d r m J h1 h3
 have h0:=H f f listed (fun s=>a0.tmps.getD s undef) w0 (fun _ _=>False) (by
  rw[hf,List.filter_eq_self.2 (fun p l=>by rw[hun.2 p l];rfl)]) hsz hun.1 hall (fun p l h=>by rw[hun.2 p l] at h;cases h) hS (bR _ _) (fun q d h=>by have h:=h.1;rw[hun.2 q d] at h;cases h) (fun q d r m J h=>by have h:=h.1;rw[hun.2 q d] at h;cases h) (Nat.le_refl _)
 rw[over_self] at h0;exact h0
def fYn (md:Region.Mode) (ops:Array Oper) (listed:Array Bool) (t f:Nat) (L:List (Nat × Nat)) (cons:Nat→List Nat):Bool:=
 fHs md ops listed t f L&&(L.all fun p=>(cons p.1).all fun j=>waitsFor md ops p.1 j&&L.any fun q=>decide (q.1=j))&&(L.all fun p=>L.all fun r=>decide (p.1=r.1)||(cons p.1).all fun j=>decide (j ∉ cons r.1))
theorem uE (L:List (Nat × Nat)) (cons:Nat→List Nat) (G:Nat→(Nat→Value)→(Nat→Prop)→World→Prop) {f:Nat} {listed:Array Bool} {a0:Act} {w0:World} (hc:fYn md ops listed t f L cons=true)
  (hS:S w0) (hSst:∀(F:Nat→Prop) (w w':World),S w→Mod F w w'→(∀b,F b→w0.heap.size≤b)→S w')
  (hG:∀p ∈ L,∀(y y':Nat→Value) (F F':Nat→Prop) (w w':World),G p.1 y F w→FIn w0 w F→Mod F' w w'→tJ F' F→(∀b,F' b→w0.heap.size≤b)→y' p.2=y p.2→(∀q ∈ L,waitsFor md ops p.1 q.1=true→y' q.2=y q.2)→G p.1 y' F w')
  (hstep:∀p ∈ L,fZ2 P md ops Q S L cons G a0 w0 p)
  (hlast:∃o,ops[t]? = some o∧∀(y:Nat→Value) (w:World) (Φ:Nat→Nat→Prop),S w→aa w0 w→(∀q ∈ L,(∀r ∈ L,q.1 ∉ cons r.1)→FIn w0 w (Φ q.1)∧G q.1 y (Φ q.1) w)→(∀q ∈ L,∀r ∈ L,q.1≠r.1→(∀p ∈ L,q.1 ∉ cons p.1)→(∀p ∈ L,r.1 ∉ cons p.1)→tJ (Φ q.1) (Φ r.1)) →
   ∀K:Act→World→Prop,(∀a' w',Q .normal a' w'→K a' w')→Shut (if Region.wanted o (yielded ops (over a0 (L.map Prod.snd) y).tmps)=true then Oper.wp P o (over a0 (L.map Prod.snd) y) w K Q else K ((over a0 (L.map Prod.snd) y).put o.dst undef) w)) :
  gQ P md ops Q S t f listed a0 w0:=by
 unfold fYn fHs at hc;simp only[Bool.and_eq_true,decide_eq_true_eq,List.all_eq_true,List.any_eq_true,Bool.or_eq_true,Bool.not_eq_true',List.mem_range] at hc;obtain⟨⟨⟨⟨⟨⟨⟨⟨⟨⟨⟨h1,h2⟩,k⟩,l⟩,m⟩,n⟩,s⟩,x⟩,z⟩,d⟩,e⟩,g⟩:=hc;refine fWh L cons G h1 h2 (Option.isSome_iff_exists.1 k) (fun i A B=>?_) ⟨m,n⟩ s x z d e (fun p C r D j=>(g p C r D).resolve_left j) hS hSst hG hstep hlast;rcases l i A with (h|h)|h
 ·rw[B] at h;cases h
 ·exact .inl h
 exact .inr h
end
end
section
variable [dQ Leg] [iH Leg] [dQ Mrk] [iH Mrk] [dQ Bal] [iH Bal]
theorem fGs (Y:World) {o:Oper} {a:Act} {K:Act→World→Prop} {Q:Exit→Act→World→Prop} (hgd:o.guard=none) (s x:Operand) (t:TypeId)
  (ho:o.op =.call {callee:=.builtin .append,args:=#[s,x],argTypes:=#[t,t]})
  (e:TypeId) (i:TypeInfo) (z:Value) (size bytes:Nat) (ht:Tryz.prog.underlying t=some (.slice e)) (hi:Tryz.prog.info? e=some i) (hz:i.zero=some z)
  (hsize:i.size=size) (hby:i.bytes=bytes) (hzs:z.cells.size=size) (hsz:0<size) (hbs:bytes≤64)
  (base:Nat) (v:Value) (F1:Nat→Prop) (n:Nat) (cs:List Value) (hs:a.eval s=v) (u:Value) (m:Nat) (ds:List Value) (hx:a.eval x=u)
  (hown:Y.ownsRow base e size v n cs∧F1=(fun b=>v.ownBlock=some b)) (hsrc:gP Y u m ds) (hl:ds.length=m*size) (h1:∀y ∈ ds,y.oneCell'=true) (hlen:n+m≤1073741824) (hbase:base≤Y.heap.size)
  (h:∀v' w',(w'.ownsRow base e size v' (n+m) (cs++ds)∧(fun b=>v'.ownBlock=some b)=(fun b=>v'.ownBlock=some b))→Mod F1 Y w'→(∀b,v'.ownBlock=some b→F1 b∨(Y.heap.size≤b∧b<w'.heap.size))→K (a.put o.dst v') w'):Oper.wp Tryz.prog o a Y K Q:=by
 obtain⟨hown,d⟩:=hown;rcases hsrc with ⟨c,rfl,j,k⟩|⟨l,c,rfl,p⟩
 ·subst j k;have q:=vW (P:=Tryz.prog) Y base t o.type e i size c ht hi v n cs hown;unfold Oper.wp execOp;simp only[ho,resolve,invoke,builtin,Sem.run_bind,Sem.run_pure,Result.andThen_ok,List.map_toArray,List.map_cons,List.map_nil,hs,hx,q];refine h v Y ⟨?_,rfl⟩ (Mod.refl _ _) (fun b hb=>.inl (by rw[d];exact hb));rw[List.append_nil,Nat.add_zero];exact hown
 have h0:=uI (E:=True) (ops:=#[]) (Q:=Q) (K:=K) Y hgd s x t ho base e i z size bytes ht hi hz hsize hby hzs hsz v n cs hs hown l m c ds hx hl p h1 (by unfold maxLen;omega) (Nat.le_trans (Nat.mul_le_mul hlen hbs) (by decide)) hbase (by
  intro v' w' h1 h2 g;refine h v' w' ⟨h1,rfl⟩ (by rw[d];exact Mod.of_grown h2) (fun b hb=>?_);rcases g with g|g
  ·exact .inl (by rw[d];exact g▸hb)
  rw[g] at hb;simp only[Option.some.injEq] at hb;have:=(h1.lt b (by rw[g,hb])).2;exact .inr ⟨oM,this⟩)
 rwa [if_pos (by simp[Region.wanted,hgd])] at h0
theorem kW {c:Bool} {A B:Prop} (hc:c=true) (h:A):if c=true then A else B:=by rw[if_pos hc];exact h
theorem fAc (Y:World) {o:Oper} {a:Act} {K:Act→World→Prop} {Q:Exit→Act→World→Prop} (hgd:o.guard=none) (s x:Operand)
  (ho:o.op =.call {callee:=.builtin .append,args:=#[s,x],argTypes:=#[37,37]})
  (base:Nat) (v:Value) (F1:Nat→Prop) (xs:List Mrk) (hs:a.eval s=v) (u:Value) (ys:List Mrk) (hx:a.eval x=u)
  (hown:mrksR.O Y base F1 v xs) (hsrc:gP Y u ys.length (gM ys)) (hlen:xs.length+ys.length≤1073741824) (hbase:base≤Y.heap.size)
  (h:∀v' w' F',mrksR.O w' base F' v' (xs++ys)→Mod F1 Y w'→(∀b,F' b→F1 b∨(Y.heap.size≤b∧b<w'.heap.size))→K (a.put o.dst v') w'):Oper.wp Tryz.prog o a Y K Q:=by
 obtain⟨j,k,d,e,g⟩:=info_parts fC4;refine fGs Y hgd s x 37 ho 166 j _ 2 16 Tryz.underlying37 k d e g rfl (by decide) (by decide) base v F1 xs.length (gM xs) hs u ys.length (gM ys) hx hown hsrc (by rw[xG]) (fIq ys) hlen hbase ?_;intro v' w' h1 h2 l;refine h v' w' _ ⟨?_,rfl⟩ h2 l;rw[List.length_append,fIp];exact h1.1
theorem fM5 (Y:World) {o:Oper} {a:Act} {K:Act→World→Prop} {Q:Exit→Act→World→Prop} (hgd:o.guard=none) (s x:Operand)
  (ho:o.op =.call {callee:=.builtin .append,args:=#[s,x],argTypes:=#[30,30]})
  (base:Nat) (v:Value) (F1:Nat→Prop) (xs:List Bal) (hs:a.eval s=v) (u:Value) (ys:List Bal) (hx:a.eval x=u)
  (hown:balsR.O Y base F1 v xs) (hsrc:gP Y u ys.length (mD ys)) (hlen:xs.length+ys.length≤1073741824) (hbase:base≤Y.heap.size)
  (h:∀v' w' F',balsR.O w' base F' v' (xs++ys)→Mod F1 Y w'→(∀b,F' b→F1 b∨(Y.heap.size≤b∧b<w'.heap.size))→K (a.put o.dst v') w'):Oper.wp Tryz.prog o a Y K Q:=by
 obtain⟨j,k,d,e,g⟩:=info_parts fBc;refine fGs Y hgd s x 30 ho 103 j _ 3 24 Tryz.underlying30 k d e g rfl (by decide) (by decide) base v F1 xs.length (mD xs) hs u ys.length (mD ys) hx hown hsrc (by rw[rD]) (fCq ys) hlen hbase ?_;intro v' w' h1 h2 l;refine h v' w' _ ⟨?_,rfl⟩ h2 l;rw[List.length_append,fCp];exact h1.1
theorem fWl (Y:World) {o:Oper} {a:Act} {K:Act→World→Prop} {Q:Exit→Act→World→Prop} (hgd:o.guard=none) (s x:Operand)
  (ho:o.op =.call {callee:=.builtin .append,args:=#[s,x],argTypes:=#[39,39]})
  (base:Nat) (v:Value) (F1:Nat→Prop) (xs:List Int) (hs:a.eval s=v) (u:Value) (ys:List Int) (hx:a.eval x=u)
  (hown:intsR.O Y base F1 v xs) (hsrc:gP Y u ys.length (kT ys)) (hlen:xs.length+ys.length≤1073741824) (hbase:base≤Y.heap.size)
  (h:∀v' w' F',intsR.O w' base F' v' (xs++ys)→Mod F1 Y w'→(∀b,F' b→F1 b∨(Y.heap.size≤b∧b<w'.heap.size))→K (a.put o.dst v') w'):Oper.wp Tryz.prog o a Y K Q:=by
 obtain⟨j,k,d,e,g⟩:=info_parts fC2;refine fGs Y hgd s x 39 ho 2 j _ 1 8 Tryz.underlying39 k d e g rfl (by decide) (by decide) base v F1 xs.length (kT xs) hs u ys.length (kT ys) hx hown hsrc (by rw[yY,Nat.mul_one]) (fH2 ys) hlen hbase ?_;intro v' w' h1 h2 l;refine h v' w' _ ⟨?_,rfl⟩ h2 l;rw[List.length_append,fAm];exact h1.1
theorem fVe (Y:World) (base:Nat) (hb:base≤Y.heap.size):mrksR.O (Y.alloc (.cells #[] 166)) base (fun b=>b=Y.heap.size) (.slice (some ⟨Y.heap.size,0,none⟩) 0 0) []:=
 ⟨World.ownsRow_lit (base:=base) (e:=166) (size:=2) Y #[] 0 hb (by decide) rfl,by funext b;simp[Value.ownBlock,eq_comm]⟩
theorem fYr (Y:World) (base:Nat) (hb:base≤Y.heap.size):balsR.O (Y.alloc (.cells #[] 103)) base (fun b=>b=Y.heap.size) (.slice (some ⟨Y.heap.size,0,none⟩) 0 0) []:=
 ⟨World.ownsRow_lit (base:=base) (e:=103) (size:=3) Y #[] 0 hb (by decide) rfl,by funext b;simp[Value.ownBlock,eq_comm]⟩
theorem gAo (Y:World) (base:Nat) (hb:base≤Y.heap.size):intsR.O (Y.alloc (.cells #[] 2)) base (fun b=>b=Y.heap.size) (.slice (some ⟨Y.heap.size,0,none⟩) 0 0) []:=
 ⟨World.ownsRow_lit (base:=base) (e:=2) (size:=1) Y #[] 0 hb (by decide) rfl,by funext b;simp[Value.ownBlock,eq_comm]⟩
variable [dQ Cont] [iH Cont] [dQ Shd] [iH Shd]
theorem Mod.frz10 {F:Nat→Prop} {w w':World} (h:Mod F w w') {a:Addr} (hl:a.block<w.heap.size) (hn:¬F a.block):w'.frozen? a=w.frozen? a:=World.frozen?_of_block (h.block a.block hl hn)
theorem Mod.low {F:Nat→Prop} {w w1 w2:World} (h:Mod F w w1) (k:Below w.heap.size w1 w2):Mod F w w2:=
 ⟨k.os.trans h.os,k.tape.trans h.tape,k.output.trans h.output,Nat.le_trans h.size k.size,fun i d e=>(k.block i d).trans (h.block i d e)⟩
theorem uN {n:Nat} {w w':World} {a:Addr} {v:Value} (h:Below n w w') (hb:a.block<n) (hc:w.cell? a=some v):w'.cell? a=some v:=(h.cell (p:=a) hb).trans hc
theorem fPb (w:World) {ops:Array Oper} {o:Oper} {a:Act} {K:Act→World→Prop} {Q:Exit→Act→World→Prop} {E:Prop} (hgd:o.guard=none) (s x:Operand)
  (ho:o.op =.call {callee:=.builtin .append,args:=#[s,x],argTypes:=#[38,38]})
  (base:Nat) (F Fu:Nat→Prop) (v:Value) (xs:List Cont) (y:Cont) (g:Nat) (p:Option Addr) (q:Nat) (hs:a.eval s=v) (hx:a.eval x =.slice (some ⟨g,0,none⟩) 1 1) (hown:contsR.O w base F v xs) (hu:contR.O w base Fu (.agg #[iV y.id,.slice p y.legs.length q]) y) (hd:∀b,F b→¬Fu b)
  (hc:w.cell? ⟨g,0,none⟩=some (iV y.id)∧w.cell? ⟨g,1,none⟩=some (.slice p y.legs.length q)) (hn:xs.length≤2000000) (hbase:base≤w.heap.size)
  (h:∀v' w' F',contsR.O w' base F' v' (xs++[y])→Below base w w'→(∀b,F' b→F b∨Fu b∨w.heap.size≤b)→K (a.put o.dst v') w') :
  if Region.wanted o (yielded ops a.tmps)=true then Oper.wp Tryz.prog o a w K Q else E:=by
 obtain⟨n,r,e,k,l⟩:=info_parts rQ;exact fV9 w hgd s x 38 ho 57 n _ 2 32 Tryz.underlying38 r e k l rfl (by decide) (by decide) base F Fu v _ xs y ⟨g,0,none⟩ 1 hs hx hown hu rfl (fun z m=>by
  simp[kS,one] at m;rcases m with rfl|rfl <;> rfl) hd (fun j A d=>by
  match j,d with
  | 0,d=>simp[kS,one] at d;subst d;simpa [Addr.add] using hc.1
  | 1,d=>simp[kS,one] at d;subst d;simpa [Addr.add] using hc.2
  | j+2,d=>simp[kS,one] at d) hn hbase h
def fCv:Nat→List Nat
 | 5=>[2]
 | 9=>[6]
 | 13=>[10]
 | 17=>[14]
 | _=>[]
def tT (base:Nat) (d:Shd):Nat→(Nat→Value)→(Nat→Prop)→World→Prop
 | 2,y,F,w=>balsR.O w base F (y 7) []
 | 5,y,F,w=>(∃a c,y 10 =.slice a d.bals.length c)∧balsR.O w base F (y 10) d.bals
 | 6,y,F,w=>mrksR.O w base F (y 11) []
 | 9,y,F,w=>(∃a c,y 14 =.slice a d.votes.length c)∧mrksR.O w base F (y 14) d.votes
 | 10,y,F,w=>mrksR.O w base F (y 15) []
 | 13,y,F,w=>(∃a c,y 18 =.slice a d.done.length c)∧mrksR.O w base F (y 18) d.done
 | 14,y,F,w=>intsR.O w base F (y 19) []
 | 17,y,F,w=>(∃a c,y 22 =.slice a d.appl.length c)∧intsR.O w base F (y 22) d.appl
 | 18,y,F,w=>y 23 =.agg #[.int .i64 d.idx,y 10,y 14,.slice none 0 0,y 18,y 22]
 | 19,y,F,w=>∃B,y 3 =.pointer (some ⟨B,0,none⟩)∧F B∧base≤B∧B<w.heap.size∧(w.cell? ⟨B,0,none⟩=some (.int .i64 0)∧w.cell? ⟨B,1,none⟩=some (.slice none 0 0)∧w.cell? ⟨B,2,none⟩=some (.slice none 0 0)∧w.cell? ⟨B,3,none⟩=some (.slice none 0 0)∧w.cell? ⟨B,4,none⟩=some (.slice none 0 0)∧w.cell? ⟨B,5,none⟩=some (.slice none 0 0))∧∀o,w.frozen? ⟨B,o,none⟩=false
 | _,_,_,_=>True
theorem fL0 (x:Value) (d:Shd) (w:World) (hx:shdR.V w x d) (hn:d.bals.length≤1048576∧d.votes.length≤1048576∧d.held.length≤1048576∧d.done.length≤1048576∧d.appl.length≤1048576) (hll:∀k,k<d.held.length→(d.held.getD k default).legs.length≤1048576) :
  cL 152 #[x] w fun e w'=>∃v F,e =.returned v∧shdR.O w' w.heap.size F v d∧aa w w':=by
 obtain⟨u1,u2,u3,u4,u5,rfl,h1,h2,h3,h4,h5⟩:=hx;have aO:Hid (∃a c,u3 =.slice a d.held.length c∧d.held.length≤c∧c≤maxLen∧∀k,k<d.held.length→∃b o p q,a=some ⟨b,o,none⟩∧w.cell? ⟨b,o+k*2,none⟩=some (iV (d.held.getD k default).id)∧w.cell? ⟨b,o+k*2+1,none⟩=some (.slice p (d.held.getD k default).legs.length q)∧contR.V w (.agg #[iV (d.held.getD k default).id,.slice p (d.held.getD k default).legs.length q]) (d.held.getD k default)):=fHu h3;have b8:Hid (bW w fun W=>gP W u1 d.bals.length (mD d.bals)):=fun W hW=>tQ (balsR.below h1 hW)
 have b9:Hid (bW w fun W=>gP W u2 d.votes.length (gM d.votes)):=fun W hW=>rM (mrksR.below h2 hW)
 have ba:Hid (bW w fun W=>gP W u4 d.done.length (gM d.done)):=fun W hW=>rM (mrksR.below h4 hW)
 have bb:Hid (bW w fun W=>gP W u5 d.appl.length (kT d.appl)):=fun W hW=>fEn (intsR.below h5 hW)
 obtain⟨a1,c1,rfl⟩:=fQ h1;obtain⟨a2,c2,rfl⟩:=fH h2;obtain⟨a3,c3,rfl⟩:=fM h3;obtain⟨a4,c4,rfl⟩:=fH h4;obtain⟨a5,c5,rfl⟩:=gL h5;obtain⟨_,_,e3,bc,bd,aP⟩:=aO.out;simp only[Value.slice.injEq,true_and] at e3;obtain⟨rfl,rfl⟩:=e3;unfold maxLen at bd;have HX:Hid (∀k,k<d.held.length→∃b o p q,a3=some ⟨b,o,none⟩∧w.cell? ⟨b,o+k*2,none⟩=some (iV (d.held.getD k default).id)∧w.cell? ⟨b,o+k*2+1,none⟩=some (.slice p (d.held.getD k default).legs.length q)∧contR.V w (.agg #[iV (d.held.getD k default).id,.slice p (d.held.getD k default).legs.length q]) (d.held.getD k default)):=aP;clear h1 h2 h3 h4 h5 aO aP;have aQ:Hid (∀k,k<d.held.length→(d.held.getD k default).legs.length≤1048576):=hll;have a8:Hid (d.bals.length≤1048576∧d.votes.length≤1048576∧d.held.length≤1048576∧d.done.length≤1048576∧d.appl.length≤1048576):=hn;clear hll hn;obtain⟨n3,aD⟩:∃n3,n3=d.held.length:=⟨_,rfl⟩
 have HN:Hid (d.held.length=n3):=aD.symm;rw[←aD] at bc HX aQ ⊢;clear aD;have bL:n3≤1048576:=by rw[←HN.out];exact a8.out.2.2.1
 go_enter Tryz.func152,Tryz.ntmps152;go_wp2;obtain⟨C,n⟩:∃C,C=(w.alloc (.cells #[iV d.idx,.slice a1 d.bals.length c1,.slice a2 d.votes.length c2,.slice a3 n3 c3,.slice a4 d.done.length c4,.slice a5 d.appl.length c5] 41)).alloc (.cells #[iV 0,aj,aj,aj,aj,aj] 41):=⟨_,rfl⟩
 have y0:cI C w.heap.size 0 d.idx:=cQ n;have y1:ah C w.heap.size 1 a1 d.bals.length c1:=cQ n;have y2:ah C w.heap.size 2 a2 d.votes.length c2:=cQ n;have y3:ah C w.heap.size 3 a3 n3 c3:=cQ n;have y4:ah C w.heap.size 4 a4 d.done.length c4:=cQ n;have y5:ah C w.heap.size 5 a5 d.appl.length c5:=cQ n;have r0:cI C (w.heap.size+1) 0 0:=cQ n;have r1:cN C (w.heap.size+1) 1:=cQ n;have r2:cN C (w.heap.size+1) 2:=cQ n;have r3:cN C (w.heap.size+1) 3:=cQ n;have r4:cN C (w.heap.size+1) 4:=cQ n;have r5:cN C (w.heap.size+1) 5:=cQ n;have rf:aq C (w.heap.size+1):=fun o=>by rw[n];simp[go_sem]
 have a9:aa w C:=by rw[n];exact hE
 have zq:w.heap.size+1<C.heap.size:=by rw[n];simp
 rw[←n];clear n;refine wp_region_noPanic ?_;refine fB (fun W=>aa C W∧cI W w.heap.size 0 d.idx∧ah W w.heap.size 1 a1 d.bals.length c1∧ah W w.heap.size 2 a2 d.votes.length c2∧ah W w.heap.size 3 a3 n3 c3∧ah W w.heap.size 4 a4 d.done.length c4∧ah W w.heap.size 5 a5 d.appl.length c5) 20 kF ⟨hE,cK hE y0,cK hE y1,cK hE y2,cK hE y3,cK hE y4,cK hE y5⟩ (fun hS=>?_);refine tY 0 ?_;refine tY 1 ?_;refine tY 3 ?_;refine tY 4 ?_;refine tY 7 ?_;refine tY 8 ?_;refine tY 11 ?_;refine tY 12 ?_;refine tY 15 ?_;refine tY 16 ?_;have aR:aa C C.drew:=Below.drew (bR _ _);generalize C.drew=W0 at *;have bI:=aR.size;have bM:w.heap.size+1<W0.heap.size:=oM;refine uE [(2,7),(5,10),(6,11),(9,14),(10,15),(13,18),(14,19),(17,22),(18,23),(19,3)] fCv (tT W0.heap.size d) kF hS ?_ ?_ ?_ ?_
 ·
  intro F W W' h r hF;have g:¬F w.heap.size:=fun e=>by have:=hF _ e;omega
  exact⟨r.below h.1 h.1.size (fun b hb=>by have:=hF b hb;omega),r.cell h.2.1 g,r.cell h.2.2.1 g,r.cell h.2.2.2.1 g,r.cell h.2.2.2.2.1 g,r.cell h.2.2.2.2.2.1 g,r.cell h.2.2.2.2.2.2 g⟩
 ·
  intro p hp;simp only[List.mem_cons,List.not_mem_nil,or_false] at hp;rcases hp with rfl|rfl|rfl|rfl|rfl|rfl|rfl|rfl|rfl|rfl
  all_goals
   intro y y' F F' W W' h hF r j bN e he
  ·simp only[tT] at h ⊢;rw[e];exact balsR.mod h r (fun b hb H=>j b H hb)
  ·simp only[tT] at h ⊢;rw[e];exact⟨h.1,balsR.mod h.2 r (fun b hb H=>j b H hb)⟩
  ·simp only[tT] at h ⊢;rw[e];exact mrksR.mod h r (fun b hb H=>j b H hb)
  ·simp only[tT] at h ⊢;rw[e];exact⟨h.1,mrksR.mod h.2 r (fun b hb H=>j b H hb)⟩
  ·simp only[tT] at h ⊢;rw[e];exact mrksR.mod h r (fun b hb H=>j b H hb)
  ·simp only[tT] at h ⊢;rw[e];exact⟨h.1,mrksR.mod h.2 r (fun b hb H=>j b H hb)⟩
  ·simp only[tT] at h ⊢;rw[e];exact intsR.mod h r (fun b hb H=>j b H hb)
  ·simp only[tT] at h ⊢;rw[e];exact⟨h.1,intsR.mod h.2 r (fun b hb H=>j b H hb)⟩
  ·have e1:=he (5,10) (by simp) kF;have e2:=he (9,14) (by simp) kF;have e3:=he (13,18) (by simp) kF;have e4:=he (17,22) (by simp) kF;simp only[tT] at h ⊢;rw[e,e1,e2,e3,e4];exact h
  simp only[tT] at h ⊢;rw[e];obtain⟨B,h1,h2,h3,aS,⟨G,g1,g2,g3,g4,g5⟩,h4⟩:=h;have g:¬F' B:=fun H=>j B H h2
  exact⟨B,h1,h2,h3,Nat.lt_of_lt_of_le aS r.size,⟨r.cell G g,r.cell g1 g,r.cell g2 g,r.cell g3 g,r.cell g4 g,r.cell g5 g⟩,fun o=>(r.frz10 (a:=⟨B,o,none⟩) aS g).trans (h4 o)⟩
 ·
  intro p hp;simp only[List.mem_cons,List.not_mem_nil,or_false] at hp;rcases hp with rfl|rfl|rfl|rfl|rfl|rfl|rfl|rfl|rfl|rfl
  all_goals
   refine⟨_,rfl,rfl,?_⟩;intro y W Φ a0 D A K m
  ·clear A;refine⟨?_⟩;simp only[over,jX,lZ] at m ⊢;go_simp;refine m _ _ (fun b=>b=W.heap.size) (Mod.of_below hE) (fun b hb=>.inr (by rw[hb];simp)) ?_;simp only[tT,updV];exact fYr W _ D.size
  ·
   have G:=(A (2,7) (by simp) kF (.inl (by simp[fCv]))).2;clear A;simp only[tT] at G;refine⟨?_⟩;simp only[over,jX,lZ] at m ⊢;refine kW rfl ?_;refine fM5 W ?hg1 (.tmp 7) (.tmp 9) ?ho1 W0.heap.size (y 7) (Φ 2) [] ?hs1 (.slice a1 d.bals.length c1) d.bals ?hx1 G (b8.out W (bS a9 a0.1)) (by have:=a8.out;simp;omega) D.size ?_
   case hg1=>rfl
   case ho1=>rfl
   case hs1=>rfl
   case hx1=>rfl
   intro v' w' F' X r hl;simp only[List.nil_append] at X;refine m _ _ F' (r.mono (fun b hb=>⟨2,by simp[fCv],hb⟩)) (fun b hb=>(hl b hb).imp (fun h=>⟨2,by simp[fCv],h⟩) (fun h=>h)) ?_;simp only[tT,updV];obtain⟨av,cv,hv⟩:=fD X.1;exact⟨⟨av,cv,by simpa using hv⟩,by simpa using X⟩
  ·clear A;refine⟨?_⟩;simp only[over,jX,lZ] at m ⊢;go_simp;refine m _ _ (fun b=>b=W.heap.size) (Mod.of_below hE) (fun b hb=>.inr (by rw[hb];simp)) ?_;simp only[tT,updV];exact fVe W _ D.size
  ·
   have G:=(A (6,11) (by simp) kF (.inl (by simp[fCv]))).2;clear A;simp only[tT] at G;refine⟨?_⟩;simp only[over,jX,lZ] at m ⊢;refine kW rfl ?_;refine fAc W ?hg1 (.tmp 11) (.tmp 13) ?ho1 W0.heap.size (y 11) (Φ 6) [] ?hs1 (.slice a2 d.votes.length c2) d.votes ?hx1 G (b9.out W (bS a9 a0.1)) (by have:=a8.out;simp;omega) D.size ?_
   case hg1=>rfl
   case ho1=>rfl
   case hs1=>rfl
   case hx1=>rfl
   intro v' w' F' X r hl;simp only[List.nil_append] at X;refine m _ _ F' (r.mono (fun b hb=>⟨6,by simp[fCv],hb⟩)) (fun b hb=>(hl b hb).imp (fun h=>⟨6,by simp[fCv],h⟩) (fun h=>h)) ?_;simp only[tT,updV];obtain⟨av,cv,hv⟩:=fD X.1;exact⟨⟨av,cv,by simpa using hv⟩,by simpa using X⟩
  ·clear A;refine⟨?_⟩;simp only[over,jX,lZ] at m ⊢;go_simp;refine m _ _ (fun b=>b=W.heap.size) (Mod.of_below hE) (fun b hb=>.inr (by rw[hb];simp)) ?_;simp only[tT,updV];exact fVe W _ D.size
  ·
   have G:=(A (10,15) (by simp) kF (.inl (by simp[fCv]))).2;clear A;simp only[tT] at G;refine⟨?_⟩;simp only[over,jX,lZ] at m ⊢;refine kW rfl ?_;refine fAc W ?hg1 (.tmp 15) (.tmp 17) ?ho1 W0.heap.size (y 15) (Φ 10) [] ?hs1 (.slice a4 d.done.length c4) d.done ?hx1 G (ba.out W (bS a9 a0.1)) (by have:=a8.out;simp;omega) D.size ?_
   case hg1=>rfl
   case ho1=>rfl
   case hs1=>rfl
   case hx1=>rfl
   intro v' w' F' X r hl;simp only[List.nil_append] at X;refine m _ _ F' (r.mono (fun b hb=>⟨10,by simp[fCv],hb⟩)) (fun b hb=>(hl b hb).imp (fun h=>⟨10,by simp[fCv],h⟩) (fun h=>h)) ?_;simp only[tT,updV];obtain⟨av,cv,hv⟩:=fD X.1;exact⟨⟨av,cv,by simpa using hv⟩,by simpa using X⟩
  ·clear A;refine⟨?_⟩;simp only[over,jX,lZ] at m ⊢;go_simp;refine m _ _ (fun b=>b=W.heap.size) (Mod.of_below hE) (fun b hb=>.inr (by rw[hb];simp)) ?_;simp only[tT,updV];exact gAo W _ D.size
  ·
   have G:=(A (14,19) (by simp) kF (.inl (by simp[fCv]))).2;clear A;simp only[tT] at G;refine⟨?_⟩;simp only[over,jX,lZ] at m ⊢;refine kW rfl ?_;refine fWl W ?hg1 (.tmp 19) (.tmp 21) ?ho1 W0.heap.size (y 19) (Φ 14) [] ?hs1 (.slice a5 d.appl.length c5) d.appl ?hx1 G (bb.out W (bS a9 a0.1)) (by have:=a8.out;simp;omega) D.size ?_
   case hg1=>rfl
   case ho1=>rfl
   case hs1=>rfl
   case hx1=>rfl
   intro v' w' F' X r hl;simp only[List.nil_append] at X;refine m _ _ F' (r.mono (fun b hb=>⟨14,by simp[fCv],hb⟩)) (fun b hb=>(hl b hb).imp (fun h=>⟨14,by simp[fCv],h⟩) (fun h=>h)) ?_;simp only[tT,updV];obtain⟨av,cv,hv⟩:=fD X.1;exact⟨⟨av,cv,by simpa using hv⟩,by simpa using X⟩
  ·have g1:=(A (5,10) (by simp) kF (.inr (by decide))).2;have g2:=(A (9,14) (by simp) kF (.inr (by decide))).2;have g3:=(A (13,18) (by simp) kF (.inr (by decide))).2;have g4:=(A (17,22) (by simp) kF (.inr (by decide))).2;clear A;simp only[tT] at g1 g2 g3 g4;obtain⟨⟨q1,N,e1⟩,_⟩:=g1;obtain⟨⟨q2,R,e2⟩,_⟩:=g2;obtain⟨⟨q3,s3,e3⟩,_⟩:=g3;obtain⟨⟨T,U,e4⟩,_⟩:=g4;refine⟨?_⟩;simp only[over,jX,lZ] at m ⊢;simp only[e1,e2,e3,e4] at m ⊢;go_simp;refine m _ _ (fun _=>False) (Mod.refl _ _) (fun b hb=>hb.elim) ?_;simp only[tT,updV];simp[e1,e2,e3,e4]
  clear A;have be:=D.size;refine⟨?_⟩;simp only[over,jX,lZ] at m ⊢;go_simp;refine m _ _ (fun b=>b=W.heap.size) (Mod.of_below hE) (fun b hb=>.inr (by rw[hb];simp)) ?_;simp only[tT,updV];exact⟨W.heap.size,by simp,rfl,be,by simp,⟨sG,by simp[go_sem],sG,by simp[go_sem],sG,by simp[go_sem]⟩,fun o=>sG⟩
 refine⟨_,rfl,?_⟩;intro y W Φ a0 D A j K m;have g1:=A (5,10) (by simp) (by decide);have g2:=A (9,14) (by simp) (by decide);have g3:=A (13,18) (by simp) (by decide);have g4:=A (17,22) (by simp) (by decide);have Y:=(A (18,23) (by simp) (by decide)).2;have aT:=A (19,3) (by simp) (by decide);have p1:=j (5,10) (by simp) (19,3) (by simp) (by simp) (by decide) (by decide);have p2:=j (9,14) (by simp) (19,3) (by simp) (by simp) (by decide) (by decide);have p3:=j (13,18) (by simp) (19,3) (by simp) (by simp) (by decide) (by decide);have p4:=j (17,22) (by simp) (19,3) (by simp) (by simp) (by decide) (by decide);have am:=j (5,10) (by simp) (9,14) (by simp) (by simp) (by decide) (by decide);have aU:=j (5,10) (by simp) (13,18) (by simp) (by simp) (by decide) (by decide);have ao:=j (5,10) (by simp) (17,22) (by simp) (by simp) (by decide) (by decide);have aV:=j (9,14) (by simp) (13,18) (by simp) (by simp) (by decide) (by decide);have ar:=j (9,14) (by simp) (17,22) (by simp) (by simp) (by decide) (by decide);have aW:=j (13,18) (by simp) (17,22) (by simp) (by simp) (by decide) (by decide);clear A j;simp only[tT] at g1 g2 g3 g4 Y aT;obtain⟨i1,⟨q1,N,e1⟩,o1⟩:=g1;obtain⟨i2,⟨q2,R,e2⟩,o2⟩:=g2;obtain⟨i3,⟨T,U,e4⟩,o4⟩:=g3;obtain⟨i4,⟨Z,s5,e5⟩,o5⟩:=g4;obtain⟨_,B,eB,ab,bJ,aC,⟨k0,k1,k2,k3,k4,k5⟩,kf⟩:=aT;rw[e1] at o1 Y;rw[e2] at o2 Y;rw[e4] at o4 Y;rw[e5] at o5 Y;have ac:aa C W:=bS aR D;generalize Φ 5=F1 at *;generalize Φ 9=F2 at *
 generalize Φ 13=F4 at *;generalize Φ 17=F5 at *;have n1:¬F1 B:=fun h=>p1 B h ab
 have n2:¬F2 B:=fun h=>p2 B h ab
 have n4:¬F4 B:=fun h=>p3 B h ab
 have n5:¬F5 B:=fun h=>p4 B h ab
 clear ab p1 p2 p3 p4 i1 i2 i3 i4 e1 e2 e4 e5;refine⟨?_⟩;simp only[over,jX,lZ];simp only[Y,eB];clear Y eB a0 hS;go_simp;refine m _ _ ?_;clear m K;refine NoPanic.normal ?_;have a7:Mod (fun b=>b=B) W ((((((W.setCell ⟨B,0,none⟩ (iV d.idx)).setCell ⟨B,1,none⟩ (.slice q1 d.bals.length N)).setCell ⟨B,2,none⟩ (.slice q2 d.votes.length R)).setCell ⟨B,3,none⟩ aj).setCell ⟨B,4,none⟩ (.slice T d.done.length U)).setCell ⟨B,5,none⟩ (.slice Z d.appl.length s5)):=(((((Mod.of_set W ⟨B,0,none⟩ _).trans (Mod.of_set _ ⟨B,1,none⟩ _)).trans (Mod.of_set _ ⟨B,2,none⟩ _)).trans (Mod.of_set _ ⟨B,3,none⟩ _)).trans (Mod.of_set _ ⟨B,4,none⟩ _)).trans (Mod.of_set _ ⟨B,5,none⟩ _);have t0:((((((W.setCell ⟨B,0,none⟩ (iV d.idx)).setCell ⟨B,1,none⟩ (.slice q1 d.bals.length N)).setCell ⟨B,2,none⟩ (.slice q2 d.votes.length R)).setCell ⟨B,3,none⟩ aj).setCell ⟨B,4,none⟩ (.slice T d.done.length U)).setCell ⟨B,5,none⟩ (.slice Z d.appl.length s5)).cell? ⟨B,0,none⟩=some (iV d.idx):=by simp[go_sem,k0,k1,k2,k3,k4,k5,kf]
 have t1:((((((W.setCell ⟨B,0,none⟩ (iV d.idx)).setCell ⟨B,1,none⟩ (.slice q1 d.bals.length N)).setCell ⟨B,2,none⟩ (.slice q2 d.votes.length R)).setCell ⟨B,3,none⟩ aj).setCell ⟨B,4,none⟩ (.slice T d.done.length U)).setCell ⟨B,5,none⟩ (.slice Z d.appl.length s5)).cell? ⟨B,1,none⟩=some (.slice q1 d.bals.length N):=by simp[go_sem,k0,k1,k2,k3,k4,k5,kf]
 have t2:((((((W.setCell ⟨B,0,none⟩ (iV d.idx)).setCell ⟨B,1,none⟩ (.slice q1 d.bals.length N)).setCell ⟨B,2,none⟩ (.slice q2 d.votes.length R)).setCell ⟨B,3,none⟩ aj).setCell ⟨B,4,none⟩ (.slice T d.done.length U)).setCell ⟨B,5,none⟩ (.slice Z d.appl.length s5)).cell? ⟨B,2,none⟩=some (.slice q2 d.votes.length R):=by simp[go_sem,k0,k1,k2,k3,k4,k5,kf]
 have t3:((((((W.setCell ⟨B,0,none⟩ (iV d.idx)).setCell ⟨B,1,none⟩ (.slice q1 d.bals.length N)).setCell ⟨B,2,none⟩ (.slice q2 d.votes.length R)).setCell ⟨B,3,none⟩ aj).setCell ⟨B,4,none⟩ (.slice T d.done.length U)).setCell ⟨B,5,none⟩ (.slice Z d.appl.length s5)).cell? ⟨B,3,none⟩=some aj:=by simp[go_sem,k0,k1,k2,k3,k4,k5,kf]
 have t4:((((((W.setCell ⟨B,0,none⟩ (iV d.idx)).setCell ⟨B,1,none⟩ (.slice q1 d.bals.length N)).setCell ⟨B,2,none⟩ (.slice q2 d.votes.length R)).setCell ⟨B,3,none⟩ aj).setCell ⟨B,4,none⟩ (.slice T d.done.length U)).setCell ⟨B,5,none⟩ (.slice Z d.appl.length s5)).cell? ⟨B,4,none⟩=some (.slice T d.done.length U):=by simp[go_sem,k0,k1,k2,k3,k4,k5,kf]
 have t5:((((((W.setCell ⟨B,0,none⟩ (iV d.idx)).setCell ⟨B,1,none⟩ (.slice q1 d.bals.length N)).setCell ⟨B,2,none⟩ (.slice q2 d.votes.length R)).setCell ⟨B,3,none⟩ aj).setCell ⟨B,4,none⟩ (.slice T d.done.length U)).setCell ⟨B,5,none⟩ (.slice Z d.appl.length s5)).cell? ⟨B,5,none⟩=some (.slice Z d.appl.length s5):=by simp[go_sem,k0,k1,k2,k3,k4,k5,kf]
 have tf:∀o,((((((W.setCell ⟨B,0,none⟩ (iV d.idx)).setCell ⟨B,1,none⟩ (.slice q1 d.bals.length N)).setCell ⟨B,2,none⟩ (.slice q2 d.votes.length R)).setCell ⟨B,3,none⟩ aj).setCell ⟨B,4,none⟩ (.slice T d.done.length U)).setCell ⟨B,5,none⟩ (.slice Z d.appl.length s5)).frozen? ⟨B,o,none⟩=false:=fun o=>by simp[go_sem,kf]
 have zB:B<((((((W.setCell ⟨B,0,none⟩ (iV d.idx)).setCell ⟨B,1,none⟩ (.slice q1 d.bals.length N)).setCell ⟨B,2,none⟩ (.slice q2 d.votes.length R)).setCell ⟨B,3,none⟩ aj).setCell ⟨B,4,none⟩ (.slice T d.done.length U)).setCell ⟨B,5,none⟩ (.slice Z d.appl.length s5)).heap.size:=by simpa using aC
 generalize (((((W.setCell ⟨B,0,none⟩ (iV d.idx)).setCell ⟨B,1,none⟩ (.slice q1 d.bals.length N)).setCell ⟨B,2,none⟩ (.slice q2 d.votes.length R)).setCell ⟨B,3,none⟩ aj).setCell ⟨B,4,none⟩ (.slice T d.done.length U)).setCell ⟨B,5,none⟩ (.slice Z d.appl.length s5)=z at *;have aE:Hid (balsR.O z W0.heap.size F1 (.slice q1 d.bals.length N) d.bals):=balsR.mod o1 a7 (fun b hb e=>n1 (e▸hb));have aF:Hid (mrksR.O z W0.heap.size F2 (.slice q2 d.votes.length R) d.votes):=mrksR.mod o2 a7 (fun b hb e=>n2 (e▸hb));have aG:Hid (mrksR.O z W0.heap.size F4 (.slice T d.done.length U) d.done):=mrksR.mod o4 a7 (fun b hb e=>n4 (e▸hb));have aH:Hid (intsR.O z W0.heap.size F5 (.slice Z d.appl.length s5) d.appl):=intsR.mod o5 a7 (fun b hb e=>n5 (e▸hb));have ad:Hid (¬F1 B∧¬F2 B∧¬F4 B∧¬F5 B):=⟨n1,n2,n4,n5⟩;have bf:Hid (tJ F1 F2∧tJ F1 F4∧tJ F1 F5∧tJ F2 F4∧tJ F2 F5∧tJ F4 F5):=⟨am,aU,ao,aV,ar,aW⟩;have I:aa C z:=a7.below ac ac.size (fun b e=>by rw[e];omega);clear o1 o2 o4 o5 n1 n2 n4 n5 am aU ao aV ar aW a7 k0 k1 k2 k3 k4 k5 kf aC D ac;refine kR12 I ?_ y0 y1 y2 y3 y4 y5 r0 r1 r2 r3 r4 r5;clear y0 y1 y2 y3 y4 y5 r0 r1 r2 r3 r4 r5;intro y0 y1 y2 y3 y4 y5 r0 r1 r2 r3 r4 r5;replace rf:=ai I zq rf;have J:aa w z:=bS a9 I;have bO:C.heap.size≤z.heap.size:=I.size;go_wp2;go_loopw [4] (fun i w'=>∃(k:Nat) (a:Option Addr) (c:Nat) (F:Nat→Prop),k≤n3∧i =.int .i64 k∧Hid (contsR.O w' z.heap.size F (.slice a k c) (d.held.take k))∧Hid (Mod (fun b=>b=B) z w')∧w'.cell? ⟨B,0,none⟩=some (.int .i64 d.idx)∧w'.cell? ⟨B,1,none⟩=some (.slice q1 d.bals.length N)∧w'.cell? ⟨B,2,none⟩=some (.slice q2 d.votes.length R)∧w'.cell? ⟨B,3,none⟩=some (.slice a k c)∧w'.cell? ⟨B,4,none⟩=some (.slice T d.done.length U)∧w'.cell? ⟨B,5,none⟩=some (.slice Z d.appl.length s5)∧(∀o,w'.frozen? ⟨B,o,none⟩=false)) (fun i _=>n3-(intOf i).toNat)
 case atStart=>exact⟨0,none,0,_,Nat.zero_le _,rfl,xX _ _,Mod.refl _ _,t0,t1,t2,t3,t4,t5,tf⟩
 obtain⟨k,au,aw,F,hk,rfl,HO,L,aI,aX,aY,aJ,aZ,b0,b1⟩:=hrel;have zr:z.heap.size≤wr.heap.size:=L.out.size;have g:∀b,b<C.heap.size→b≠B:=fun b hb=>oM
 have aK:aa w wr:=L.out.below J J.size (fun b e=>by rw[e];omega);have bP:=L.out.cell y0 (g _ (by dsimp only;omega));have bg:=L.out.cell y3 (g _ (by dsimp only;omega));by_cases ax:k<n3
 ·
  obtain⟨bx,ox,pp,qq,rfl,G,g1,hV⟩:=HX.out k ax;have b2:=aQ.out k ax;obtain⟨l,hl⟩:∃l,l=d.held.getD k default:=⟨_,rfl⟩
  rw[←hl] at G g1 hV b2;have HL:Hid (d.held.take (k+1)=d.held.take k++[l]):=by
   show _=_;rw[List.take_succ_eq_append_getElem (by rw[HN.out];exact ax),hl];simp[List.getD,show k<d.held.length by rw[HN.out];exact ax]
  clear hl;have bh:Hid (bW w fun W=>cL 155 #[.agg #[iV l.id,.slice pp l.legs.length qq]] W fun e w'=>∃v F,e =.returned v∧contR.O w' W.heap.size F v l∧aa W w'):=fun W hW=>yV _ l W (contR.below hV hW) b2
  clear hV;have bK:bx<w.heap.size:=wL w _ G;replace G:=cK aK G;replace g1:=cK aK g1;have zb:bx<wr.heap.size:=wL wr _ G;have k1:(k:Int)<n3:=oM;have k2:(0:Int)≤k:=oM;have bQ:B<wr.heap.size:=wL wr _ aI;have bi:Hid (∀W,Below z.heap.size wr W→aa w W):=fun W h=>Below.trans aK (h.mono (by have:=J.size;omega))
  have M:aa wr wr.drew:=hE;go_wp2;refine wp_region_noPanic ?_;refine fB (fun W=>Below z.heap.size wr W∧ah W B 3 au k aw∧ah W w.heap.size 3 (some ⟨bx,ox,none⟩) n3 c3∧cI W bx (ox+k*2) l.id∧ah W bx (ox+k*2+1) pp l.legs.length qq) 11 kF ⟨M.mono zr,cK M aJ,cK M bg,cK M G,cK M g1⟩ (fun hS=>?_);refine tY 0 ?_;refine tY 1 ?_;refine tY 2 ?_;refine tY 3 ?_;refine tY 4 ?_;refine tY 5 ?_;refine tY 6 ?_;refine uS 7 rfl (fun K m=>?_);go_simp;refine(bh.out _ (bi.out _ hS.1)).mono ?_;rintro e w2 ⟨v2,aL,rfl,o2,aM⟩;obtain⟨ay,az,rfl⟩:=xW o2;have ae:aa wr w2:=bS M aM;have E:=And.intro (ae.mono zr) (kS4 aM hS.2);refine m _ _ (fun _=>E) ?_;clear m K;have HU:Hid (contR.O w2 z.heap.size aL (.agg #[iV l.id,.slice ay l.legs.length az]) l):=contR.base o2 (by have:=M.size;omega);have bj:Hid (∀b,aL b→wr.heap.size≤b):=fun b hb=>by have:=(contR.rng o2 b hb).1;have:=M.size;omega
  have af:Hid (contsR.O w2 z.heap.size F (.slice au k aw) (d.held.take k)):=contsR.keep HO.out ae;have bk:Hid (∀b,F b→b<wr.heap.size):=fun b hb=>(contsR.rng HO.out b hb).2
  clear o2 hS aM;have hS:=E;clear E;try simp only[jX]
  refine uS 8 rfl (fun K m=>?_);go_simp;obtain⟨w3,ag⟩:∃w3,w3=w2.alloc (.cells #[iV l.id,.slice ay l.legs.length az] 57):=⟨_,rfl⟩
  rw[←ag];have aA:aa w2 w3:=by rw[ag];exact hE
  have v0:cI w3 w2.heap.size 0 l.id:=cQ ag;have v1:ah w3 w2.heap.size 1 ay l.legs.length az:=cQ ag;clear ag;have ak:aa wr w3:=bS ae aA;have E:=And.intro (ak.mono zr) (kS4 aA hS.2);refine m _ _ (fun _=>E) ?_;clear m K hS;have hS:=E;clear E;try simp only[jX]
  refine uS 9 rfl (fun K m=>?_);refine fPb w3 rfl _ _ rfl z.heap.size F aL _ (d.held.take k) l w2.heap.size ay az rfl rfl ?a1 ?a2 ?a3 ?a4 ?a5 ?a6 ?_
  case a1=>exact contsR.keep af.out aA
  case a2=>exact contR.keep HU.out aA
  case a3=>exact fun b h1 h2=>by have:=bk.out b h1;have:=bj.out b h2;omega
  case a4=>exact⟨v0,v1⟩
  case a5=>rw[List.length_take,HN.out];omega
  case a6=>have:=ak.size;omega
  intro v4 w4 aN o4 al _;rw[←HL.out] at o4;obtain⟨b3,b4,e4⟩:=fM (contsR.ofO o4);rw[show(d.held.take (k+1)).length=k+1 by rw[List.length_take,HN.out];omega] at e4;subst e4;have b5:Hid (contsR.O w4 z.heap.size aN (.slice b3 (k+1) b4) (d.held.take (k+1))):=o4;have bl:Hid (∀b,aN b→z.heap.size≤b):=fun b hb=>(contsR.rng o4 b hb).1
  have s:Below z.heap.size wr w4:=Below.trans (ak.mono zr) al;have b6:bx<z.heap.size:=by have:=J.size;omega
  have E:=And.intro s (And.intro (uN al zB hS.2.1) (And.intro (uN al (show w.heap.size<z.heap.size by omega) hS.2.2.1) (And.intro (uN al b6 hS.2.2.2.1) (uN al b6 hS.2.2.2.2))));refine m _ _ (fun _=>E) ?_;clear m K hS;have hS:=E;clear E o4;have bm:Hid (Mod (fun b=>b=B) z w4):=Mod.low L.out s;have bn:=uN s zB aI;have bo:=uN s zB aX;have bp:=uN s zB aY;have bq:=uN s zB aJ;have br:=uN s zB aZ;have bs:=uN s zB b0;have b7:aq w4 B:=fun o=>by rw[s.frozen (p:=⟨B,o,none⟩) zB];exact b1 o
  try simp only[jX]
  refine uS 10 rfl (fun K m=>?_);go_simp;refine m _ _ (fun _=>hS) ?_;clear m K;try simp only[jX]
  refine uS 11 rfl (fun K m=>?_);go_simp;refine m _ _ (fun h=>absurd rfl h) ?_;clear m K;refine dP ?_;clear aI aX aY aJ aZ b0 b1 hS;go_wp2;refine⟨⟨k+1,b3,b4,aN,oM,by go_num,?_,?_,by simp[go_sem,bn],by simp[go_sem,bo],by simp[go_sem,bp],by simp[go_sem,bq,b7],by simp[go_sem,br],by simp[go_sem,bs],fun o=>by simp[go_sem,b7]⟩,mI⟩
  ·exact contsR.mod b5.out (Mod.of_set w4 ⟨B,3,none⟩ _) (fun b hb e=>by have:=bl.out b hb;dsimp only at e;omega)
  exact bm.out.trans (Mod.of_set w4 ⟨B,3,none⟩ _)
 have bt:k=n3:=oM;subst bt;have ho:=HO.out;rw[List.take_of_length_le (by rw[HN.out];exact Nat.le_refl _)] at ho;have af:Hid (contsR.O wr z.heap.size F (.slice au k aw) d.held):=ho;have aB:Hid (∀b,F b→z.heap.size≤b):=fun b hb=>(contsR.rng ho b hb).1
 clear ho HO;have P1:Hid (balsR.O wr W0.heap.size F1 (.slice q1 d.bals.length N) d.bals):=balsR.mod aE.out L.out (fun b hb e=>ad.out.1 (e▸hb));have P2:Hid (mrksR.O wr W0.heap.size F2 (.slice q2 d.votes.length R) d.votes):=mrksR.mod aF.out L.out (fun b hb e=>ad.out.2.1 (e▸hb));have P4:Hid (mrksR.O wr W0.heap.size F4 (.slice T d.done.length U) d.done):=mrksR.mod aG.out L.out (fun b hb e=>ad.out.2.2.1 (e▸hb));have P5:Hid (intsR.O wr W0.heap.size F5 (.slice Z d.appl.length s5) d.appl):=intsR.mod aH.out L.out (fun b hb e=>ad.out.2.2.2 (e▸hb));have HR:Hid ((∀b,F1 b→b<z.heap.size)∧(∀b,F2 b→b<z.heap.size)∧(∀b,F4 b→b<z.heap.size)∧(∀b,F5 b→b<z.heap.size)):=⟨fun b hb=>(balsR.rng aE.out b hb).2,fun b hb=>(mrksR.rng aF.out b hb).2,fun b hb=>(mrksR.rng aG.out b hb).2,fun b hb=>(intsR.rng aH.out b hb).2⟩;have bu:=L.out.cell r0 (g _ zq);have bv:=L.out.cell r1 (g _ zq);have bw:=L.out.cell r2 (g _ zq);have bz:=L.out.cell r3 (g _ zq);have bB:=L.out.cell r4 (g _ zq);have bC:=L.out.cell r5 (g _ zq);have bE:aq wr (w.heap.size+1):=fun o=>(L.out.frz10 (a:=⟨w.heap.size+1,o,none⟩) (by dsimp only;omega) (g _ (by dsimp only;omega))).trans (rf o)
 clear L aE aF aG aH ad t0 t1 t2 t3 t4 t5 tf r0 r1 r2 r3 r4 r5 rf y0 y1 y2 y3 y4 y5 I J;go_wp2;refine bodyPost_ret (v:=.agg #[iV d.idx,.slice q1 d.bals.length N,.slice q2 d.votes.length R,.slice au k aw,.slice T d.done.length U,.slice Z d.appl.length s5]) (by simp[results,Tryz.results152,go_sem,bu,bv,bw,bz,bB,bC,bE]) rfl ⟨_,_,rfl,⟨_,_,_,_,_,F1,F2,F,F4,F5,rfl,balsR.base (set6 balsR P1.out oM _ _ _ _ _ _) oM,mrksR.base (set6 mrksR P2.out oM _ _ _ _ _ _) oM,contsR.base (set6 contsR af.out oM _ _ _ _ _ _) oM,mrksR.base (set6 mrksR P4.out oM _ _ _ _ _ _) oM,intsR.base (set6 intsR P5.out oM _ _ _ _ _ _) oM,?_,?_,?_,?_,?_,?_,?_,?_,?_,?_,fun b=>Iff.rfl⟩,qS⟩;all_goals
  intro b h h';obtain⟨u1,u2,u4,u5⟩:=HR.out;obtain⟨am,ao,bF,ar,bG,bH⟩:=bf.out;first|exact am b h h'|exact ao b h h'|exact bF b h h'|exact ar b h h'|exact bG b h h'|exact bH b h h'|(have:=u1 b h;have:=aB.out b h';omega)|(have:=u2 b h;have:=aB.out b h';omega)|(have:=aB.out b h;have:=u4 b h';omega)|(have:=aB.out b h;have:=u5 b h';omega)
end
end Go.Proofs.YtpibfdebfacooaaGreat

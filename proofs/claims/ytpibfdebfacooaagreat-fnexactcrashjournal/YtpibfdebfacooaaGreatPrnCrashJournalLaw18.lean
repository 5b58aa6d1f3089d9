import Derived.Test.YtpibfdebfacooaaGreatPrnCrashJournalLaw17
set_option maxHeartbeats 8000000
set_option maxRecDepth 20000
set_option linter.unusedSimpArgs false
set_option linter.unusedVariables false
set_option linter.unusedSectionVars false
namespace Go.Proofs.YtpibfdebfacooaaGreat
open Go.RowKit
attribute [local go_sem ↓] Go.wp_at_zero Go.wp_at_succ
section
variable [dQ Rw] [iH Rw] [dQ Bal] [iH Bal] [dQ Ledg] [iH Ledg] [dQ Leg] [iH Leg] [dQ Cont] [iH Cont] [dQ LedgR] [iH LedgR] [dQ OutcR] [iH OutcR] [dQ Mrk] [iH Mrk] [dQ Shd] [iH Shd] [dQ ShdR] [iH ShdR]
def PanicAs (D:List Deferred) (k:Nat) (p:Value) (R:List PanicEntry→World→Prop) (Q:Exit→Act→World→Prop):Exit→Act→World→Prop
 | .panic c,a,w=>a.defers=D∧a.tmps[k]? = some p∧R c w
 | e,a,w=>Q e a w
theorem PanicAs.put {D:List Deferred} {k:Nat} {p:Value} {R:List PanicEntry→World→Prop} {Q:Exit→Act→World→Prop} {dst:Option Nat} {v:Value} {c:List PanicEntry} {a:Act} {w:World} (hk:dst≠some k) (h:PanicAs D k p R Q (.panic c) (a.put dst v) w):PanicAs D k p R Q (.panic c) a w:=by
 cases dst with
 | none=>exact h
 | some j=>
  obtain⟨h1,h2,h3⟩:=h;have hj:j≠k:=fun e=>hk (by rw[e])
  refine⟨h1,?_,h3⟩;simp only[Act.put] at h2;rw[Array.getElem?_setIfInBounds_ne hj] at h2;exact h2
theorem PanicAs.normal {D:List Deferred} {k:Nat} {p:Value} {R:List PanicEntry→World→Prop} {Q:Exit→Act→World→Prop} {a:Act} {w:World} (h:Q .normal a w):PanicAs D k p R Q .normal a w:=h
theorem tF {P:Program} {id:Nat} {ops:Array Oper} {b:Bool} {Q:Exit→Act→World→Prop} {a:Act} {w:World} (D:List Deferred) (k:Nat) (p:Value) (R:List PanicEntry→World→Prop)
  (hi:∀c a w,a.defers=D→a.tmps[k]? = some p→R c w→Q (.panic c) a w) (h:(Code.region id ops b).wp P (PanicAs D k p R Q) a w):(Code.region id ops b).wp P Q a w:=
 Code.wp_mono (fun e a w h=>by
  cases e with
  | panic c=>exact hi c a w h.1 h.2.1 h.2.2
  | _=>exact h) h
theorem fXn (w W:World) (tm:Array Value) (B:Nat) (Z c x:Int) (hz:Z=c) (ht:tm[2]? = some (.pointer (some ⟨B,0,none⟩))) (hB:w.heap.size≤B) (hc:W.cell? ⟨B,0,none⟩=some (.int .i64 x)) (hf:W.frozen? ⟨B,0,none⟩=false) (hb:Below w.heap.size w W) :
  Leaves Tryz.prog Tryz.f179 tm (fun e w'=>e =.returned (.int .i64 Z)∧Below w.heap.size w w') [{target:=.fn (.func 202) #[.pointer (some ⟨B,0,none⟩)],args:=#[]}] (.panicking [{v:=refV c,recovered:=false}]) W:=by
 refine leaves_cons (f:=202) (args:=#[.pointer (some ⟨B,0,none⟩)]) (by simp) sG ?_;refine(fCd ⟨B,0,none⟩ x c [] W hc hf).mono ?_;rintro e u' w2 ⟨rfl,rfl,w1,hb1,rfl⟩;have hc1:w1.cell? ⟨B,0,none⟩=some (.int .i64 x):=cK hb1 hc;have hf1:w1.frozen? ⟨B,0,none⟩=false:=by rw[hb1.frozen (p:=⟨B,0,none⟩) (wL W _ hc)];exact hf
 have hB1:Below w.heap.size w w1:=bS hb hb1;subst hz;refine⟨.int .i64 Z,?_,rfl,?_⟩
 ·simp[results,Tryz.results179,go_sem,ht,hc1,hf1]
 exact qS
theorem fX7 (w W:World) (tm:Array Value) (B:Nat) (Z x:Int) (hz:Z=x) (ht:tm[2]? = some (.pointer (some ⟨B,0,none⟩))) (hB:w.heap.size≤B) (hc:W.cell? ⟨B,0,none⟩=some (.int .i64 x)) (hb:Below w.heap.size w W) :
  Leaves Tryz.prog Tryz.f179 tm (fun e w'=>e =.returned (.int .i64 Z)∧Below w.heap.size w w') [{target:=.fn (.func 202) #[.pointer (some ⟨B,0,none⟩)],args:=#[]}] .returning W:=by
 refine leaves_cons (f:=202) (args:=#[.pointer (some ⟨B,0,none⟩)]) (by simp) sG ?_;refine(fJt ⟨B,0,none⟩ W).mono ?_;rintro e u' w2 ⟨rfl,rfl,hb1⟩;have hc1:w2.cell? ⟨B,0,none⟩=some (.int .i64 x):=cK hb1 hc;have hB1:Below w.heap.size w w2:=bS hb hb1;subst hz;refine⟨.int .i64 Z,?_,rfl,hB1⟩;simp[results,Tryz.results179,go_sem,ht,hc1]
theorem fPy {w:World} {a:Option Addr} {n c k:Nat} {xs:List Cont} (hx:contsR.V w (.slice a n c) xs) (hk:k≤n):contsR.V w (.slice a k c) (xs.take k):=by
 obtain⟨a',c',e,h1,h2,h3⟩:=hx;simp only[Value.slice.injEq] at e;obtain⟨rfl,rfl,rfl⟩:=e;refine⟨a,c,by rw[List.length_take,Nat.min_eq_left hk],by rw[List.length_take];omega,h2,fun i hi=>?_⟩;rw[List.length_take] at hi;have e:(xs.take k).getD i default=xs.getD i default:=by simp[List.getD,List.getElem?_take,show i<k by omega]
 rw[e];exact h3 i oM
theorem frz {w w':World} {p:Addr} (hb:Below w.heap.size w w') (hp:p.block<w.heap.size) (h:w.frozen? p=false):w'.frozen? p=false:=by rw[hb.frozen hp];exact h
theorem fRw {d:Shd} {k:Nat} (hk:k<d.held.length):vF d.idx (d.held.take k) (d.held.getD k default).legs=gT d k:=by
 unfold vF gT;rw[fJr oM];rfl
theorem fKu {d:Shd} (h:kZ d=0):pW d.idx d.bals=0∧LsOk d∧HeldOk d:=by
 unfold kZ at h;split at h
 ·
  rename_i h0;split at h
  ·omega
  rename_i h1;split at h
  ·
   rename_i h2;split at h
   ·
    rename_i h3;split at h
    ·rename_i h4;exact⟨h0,⟨oM,by omega,by omega,by omega,zK h2,zK h3⟩,fEt h4⟩
    rename_i h4;exact absurd h h4
   rename_i h3;exact absurd h h3
  rename_i h2;exact absurd h h2
 rename_i h0;exact absurd h h0
theorem fC4 (x:Value) (d:Shd) (w:World) (hx:shdR.V w x d) :
  RI 179 #[x] w (.int .i64 (shdF d)):=by
 have HLi:Hid (bW w fun W=>RI 201 #[x] W (.int .i64 (kZ d))):=fun W hW=>fGf x d W (shdR.below hx hW)
 have HBo:Hid (bW w fun W=>pW d.idx d.bals=0→Calls Tryz.prog 198 #[x] W fun e w'=>∃b,e =.returned (.agg #[.int .i64 3,.map (some b)])∧W.heap.size≤b∧Book w' b 54 (kY (mM d.idx d.bals))∧Below W.heap.size W w'):=fun W hW h0=>yX x d W (shdR.below hx hW) h0
 obtain⟨u1,u2,u3,u4,u5,rfl,h1,h2,h3,h4,h5⟩:=hx;have HX3:Hid (∃a c,u3 =.slice a d.held.length c∧d.held.length≤c∧c≤maxLen∧∀k,k<d.held.length→∃b o p q,a=some ⟨b,o,none⟩∧w.cell? ⟨b,o+k*2,none⟩=some (.int .i64 (d.held.getD k default).id)∧w.cell? ⟨b,o+k*2+1,none⟩=some (.slice p (d.held.getD k default).legs.length q)∧contR.V w (.agg #[.int .i64 (d.held.getD k default).id,.slice p (d.held.getD k default).legs.length q]) (d.held.getD k default)):=qH h3;obtain⟨a1,c1,rfl⟩:=fP h1;obtain⟨a2,c2,rfl⟩:=fF h2;obtain⟨a3,c3,rfl⟩:=fM h3;obtain⟨a4,c4,rfl⟩:=fF h4;obtain⟨a5,c5,rfl⟩:=gJ h5;obtain⟨_,_,e3,hc3,hm3,hx3⟩:=HX3.out;simp only[Value.slice.injEq,true_and] at e3;obtain⟨rfl,rfl⟩:=e3;unfold maxLen at hm3;have HX:Hid (∀k,k<d.held.length→∃b o p q,a3=some ⟨b,o,none⟩∧w.cell? ⟨b,o+k*2,none⟩=some (.int .i64 (d.held.getD k default).id)∧w.cell? ⟨b,o+k*2+1,none⟩=some (.slice p (d.held.getD k default).legs.length q)∧contR.V w (.agg #[.int .i64 (d.held.getD k default).id,.slice p (d.held.getD k default).legs.length q]) (d.held.getD k default)):=hx3;have HAp:Hid (HeldOk d→∀k W id ul,k<d.held.length→Below w.heap.size w W→legsR.V W ul (d.held.getD k default).legs→Calls Tryz.prog 196 #[.int .i64 d.idx,.slice a3 k c3,.agg #[.int .i64 id,ul]] W (fF6 (gT d k) W)):=fun hh k W id ul hk hW hl=>by
  rw[←fRw hk];exact fBh d.idx id _ ul (d.held.take k) _ W (contsR.below (fPy h3 oM) hW) hl (by have:=hh.len hk;omega)
 have HCo:Hid (HeldOk d→pW d.idx d.bals=0→∀k W id ul b,k<d.held.length→legsR.V W ul (d.held.getD k default).legs→Book W b 54 (kY (mM d.idx d.bals))→Calls Tryz.prog 197 #[.int .i64 d.idx,.agg #[.int .i64 3,.map (some b)],.agg #[.int .i64 id,ul]] W (fF6 (gL d k) W)):=fun hh h0 k W id ul b hk hl hb=>
  zH d.idx id b ul d.bals _ W hb hl (by have:=hh.len hk;omega) (pE h0).1 (pE h0).2 (hh.fault hk)
 have HD0:Hid (¬kZ d=0→shdF d=kZ d):=fun h=>by unfold shdF;rw[if_neg h]
 have HD1:Hid (kZ d=0→∀k,k<d.held.length→fJ (gT d) k=0→¬gT d k=0→shdF d=gT d k):=fun h k hk hs hc=>by
  have h1:=mW hs hc _ hk;unfold shdF yT;rw[if_pos h,if_neg (by rw[h1];exact hc),h1]
 have HD2:Hid (kZ d=0→fJ (gT d) d.held.length=0→∀k,k<d.held.length→fJ (gL d) k=0→¬gL d k=0→shdF d=gL d k):=fun h h0 k hk hs hc=>by
  have h1:=mW hs hc _ hk;unfold shdF yT;rw[if_pos h,if_pos h0,h1]
 have HD3:Hid (kZ d=0→fJ (gT d) d.held.length=0→fJ (gL d) d.held.length=0→shdF d=0):=fun h h0 h1=>by
  unfold shdF yT;rw[if_pos h,if_pos h0,h1]
 have HOk:Hid (kZ d=0→pW d.idx d.bals=0∧LsOk d∧HeldOk d):=fun h=>fKu h
 clear h1 h2 h3 h4 h5 HX3 hx3;generalize d.bals.length=n1 at *;generalize d.votes.length=n2 at *;generalize d.held.length=n3 at *;generalize d.done.length=n4 at *;generalize d.appl.length=n5 at *;obtain⟨Z,hZ⟩:∃Z,Z=shdF d:=⟨_,rfl⟩
 rw[←hZ] at HD0 HD1 HD2 HD3 ⊢;clear hZ;generalize kZ d=lf at *;have hmf:∀(fn:Fn) (first cap:Array Value) (w:World),(Instr.makeFunc fn first cap).run Tryz.prog w =.ok (.func fn first cap) w:=fun _ _ _ _=>rfl
 go_enter_defers Tryz.func179,Tryz.ntmps179
 go_wp2_with fail;refine(HLi.out _ qBq).mono ?_;rintro e w1 ⟨rfl,hb1⟩;have f1:=(bcell hb1).2;have hB1:=bT w hb1;have hz1:=hb1.size;simp at hz1;have y0:w1.cell? ⟨w.heap.size,0,none⟩=some (.int .i64 d.idx):=cK hb1 sG;have y1:w1.cell? ⟨w.heap.size,1,none⟩=some (.slice a1 n1 c1):=cK hb1 sG;have y2:w1.cell? ⟨w.heap.size,2,none⟩=some (.slice a2 n2 c2):=cK hb1 sG;have y3:w1.cell? ⟨w.heap.size,3,none⟩=some (.slice a3 n3 c3):=cK hb1 sG;have y4:w1.cell? ⟨w.heap.size,4,none⟩=some (.slice a4 n4 c4):=cK hb1 sG;have y5:w1.cell? ⟨w.heap.size,5,none⟩=some (.slice a5 n5 c5):=cK hb1 sG;have r0:w1.cell? ⟨w.heap.size+1,0,none⟩=some (.int .i64 0):=cK hb1 sG;have rf:w1.frozen? ⟨w.heap.size+1,0,none⟩=false:=by rw[f1 _ _ (by simp)];simp[go_sem]
 clear hb1 f1 HLi;by_cases hlf:lf=0;rotate_left
 ·
  have HC:=HD0.out hlf;have hlf':(lf !=0)=true:=by simp[hlf]
  clear HD0 HD1 HD2 HD3 HAp HCo HBo HX HOk;go_wp2;refine⟨.int .i64 lf,by simp[results,Tryz.results179,go_sem,r0,rf],by rw[HC],?_⟩;exact qS
 obtain⟨h0,hls,hhk⟩:=HOk.out hlf;have HD1':Hid (∀k,k<n3→fJ (gT d) k=0→¬gT d k=0→Z=gT d k):=HD1.out hlf;have HD2':Hid (fJ (gT d) n3=0→∀k,k<n3→fJ (gL d) k=0→¬gL d k=0→Z=gL d k):=HD2.out hlf;have HD3':Hid (fJ (gT d) n3=0→fJ (gL d) n3=0→Z=0):=HD3.out hlf;have HAp':Hid (∀k W id ul,k<n3→Below w.heap.size w W→legsR.V W ul (d.held.getD k default).legs→Calls Tryz.prog 196 #[.int .i64 d.idx,.slice a3 k c3,.agg #[.int .i64 id,ul]] W (fF6 (gT d k) W)):=HAp.out hhk;have HCo':Hid (∀k W id ul b,k<n3→legsR.V W ul (d.held.getD k default).legs→Book W b 54 (kY (mM d.idx d.bals))→Calls Tryz.prog 197 #[.int .i64 d.idx,.agg #[.int .i64 3,.map (some b)],.agg #[.int .i64 id,ul]] W (fF6 (gL d k) W)):=HCo.out hhk h0;have HBo':Hid (bW w fun W=>Calls Tryz.prog 198 #[.agg #[.int .i64 d.idx,.slice a1 n1 c1,.slice a2 n2 c2,.slice a3 n3 c3,.slice a4 n4 c4,.slice a5 n5 c5]] W fun e w'=>∃b,e =.returned (.agg #[.int .i64 3,.map (some b)])∧W.heap.size≤b∧Book w' b 54 (kY (mM d.idx d.bals))∧Below W.heap.size W w'):=fun W hW=>HBo.out W hW h0
 clear HD0 HD1 HD2 HD3 HAp HCo HBo HOk h0 hls hhk;rw[hlf];clear hlf;go_wp2;obtain⟨wq,hwq⟩:∃wq,wq=w1.setCell ⟨w.heap.size+1,0,none⟩ (.int .i64 0):=⟨_,rfl⟩
 have hBq:Below w.heap.size w wq:=by rw[hwq];exact qS
 have zq:w.heap.size+1<wq.heap.size:=by rw[hwq];simp;omega
 replace y0:wq.cell? ⟨w.heap.size,0,none⟩=some (.int .i64 d.idx):=by rw[hwq];simp[go_sem,y0]
 replace y1:wq.cell? ⟨w.heap.size,1,none⟩=some (.slice a1 n1 c1):=by rw[hwq];simp[go_sem,y1]
 replace y2:wq.cell? ⟨w.heap.size,2,none⟩=some (.slice a2 n2 c2):=by rw[hwq];simp[go_sem,y2]
 replace y3:wq.cell? ⟨w.heap.size,3,none⟩=some (.slice a3 n3 c3):=by rw[hwq];simp[go_sem,y3]
 replace y4:wq.cell? ⟨w.heap.size,4,none⟩=some (.slice a4 n4 c4):=by rw[hwq];simp[go_sem,y4]
 replace y5:wq.cell? ⟨w.heap.size,5,none⟩=some (.slice a5 n5 c5):=by rw[hwq];simp[go_sem,y5]
 replace r0:wq.cell? ⟨w.heap.size+1,0,none⟩=some (.int .i64 0):=by rw[hwq];simp[go_sem,r0]
 replace rf:wq.frozen? ⟨w.heap.size+1,0,none⟩=false:=by rw[hwq];simp[go_sem,rf]
 rw[←hwq];clear hwq hB1 hz1;try clear w1
 go_loopw [17] (fun i w'=>∃k:Nat,k≤n3∧i =.int .i64 k∧Hid (fJ (gT d) k=0)∧Below wq.heap.size wq w') (fun i _=>n3-(intOf i).toNat)
 case atStart=>exact⟨0,oM,rfl,rfl,bR _ _⟩
 obtain⟨k,hk,rfl,HS,hbl⟩:=hrel;have hBr:Below w.heap.size w wr:=bS hBq hbl;have zr:=hbl.size;replace y0:=cK hbl y0;replace y1:=cK hbl y1;replace y2:=cK hbl y2;replace y3:=cK hbl y3;replace y4:=cK hbl y4;replace y5:=cK hbl y5;replace r0:=cK hbl r0;replace rf:wr.frozen? ⟨w.heap.size+1,0,none⟩=false:=by rw[hbl.frozen (p:=⟨w.heap.size+1,0,none⟩) zq];exact rf
 by_cases hlt:k<n3
 ·
  obtain⟨bx,ox,pp,qq,rfl,g0,g1,hV⟩:=HX.out k hlt;obtain⟨ul,hul,hvl⟩:=hV;simp only[Value.agg.injEq,Array.mk.injEq,List.cons.injEq,and_true,true_and] at hul;subst hul;have HC1:Hid (bW wr fun W=>Calls Tryz.prog 196 #[.int .i64 d.idx,.slice (some ⟨bx,ox,none⟩) k c3,.agg #[.int .i64 (d.held.getD k default).id,.slice pp (d.held.getD k default).legs.length qq]] W (fF6 (gT d k) W)):=fun W hW=>HAp'.out k W _ _ hlt (bS hBr hW) (legsR.below hvl (bS hBr hW))
  have HP:Hid (¬gT d k=0→Z=gT d k):=fun h=>HD1'.out k hlt HS.out h
  have HN:Hid (gT d k=0→fJ (gT d) (k+1)=0):=fun h=>gP HS.out h
  clear hvl HS;generalize (d.held.getD k default).legs.length=ll at *;generalize (d.held.getD k default).id=qid at *;generalize gT d k=ak at *;replace g0:=cK hBr g0;replace g1:=cK hBr g1;have zb:bx<wr.heap.size:=wL wr _ g0;have hkc:k≤c3:=oM;have zz0:w.heap.size<wr.heap.size:=oM;go_wp2;refine tF [{target:=.fn (.func 202) #[.pointer (some ⟨w.heap.size+1,0,none⟩)],args:=#[]}] 2 (.pointer (some ⟨w.heap.size+1,0,none⟩)) (fun c W=>∃q,c=[{v:=refV q,recovered:=false}]∧Z=q∧W.cell? ⟨w.heap.size+1,0,none⟩=some (.int .i64 0)∧W.frozen? ⟨w.heap.size+1,0,none⟩=false∧Below w.heap.size w W) ?_ ?_
  ·rintro c a W hd ht ⟨q,rfl,hz,hc,hf,hb⟩;show Leaves Tryz.prog Tryz.f179 a.tmps _ a.defers (.panicking _) W;rw[hd];exact fXn w W a.tmps _ Z q 0 hz ht (Nat.le_succ _) hc hf hb
  refine fB (fun W=>Below wr.heap.size wr W∧W.cell? ⟨w.heap.size,0,none⟩=some (.int .i64 d.idx)∧W.cell? ⟨w.heap.size,3,none⟩=some (.slice (some ⟨bx,ox,none⟩) n3 c3)∧W.cell? ⟨wr.heap.size,0,none⟩=some (.int .i64 qid)∧W.cell? ⟨wr.heap.size,1,none⟩=some (.slice pp ll qq)∧W.cell? ⟨w.heap.size+1,0,none⟩=some (.int .i64 0)∧W.frozen? ⟨w.heap.size+1,0,none⟩=false) 8 kF ⟨qBq,cK qBq y0,cK qBq y3,by simp[go_sem],sG,cK qBq r0,frz qBq (show w.heap.size+1<wr.heap.size by omega) rf⟩ (fun hS=>?_);refine mO (i:=0) (v:=?_) rfl kF kF kF kF (fun _ _ _=>PanicAs.put (by decide)) (by rfl) hS ?_ ?_;rotate_left
  ·intro wS hSw;(try dsimp only at hSw);go_simp;try with_reducible rfl
  try simp only[jX]
  refine mO (i:=1) (v:=?_) rfl kF kF kF kF (fun _ _ _=>PanicAs.put (by decide)) (by rfl) hS ?_ ?_;rotate_left
  ·intro wS hSw;(try dsimp only at hSw);go_simp;try with_reducible rfl
  try simp only[jX]
  refine mO (i:=2) (v:=?_) rfl kF kF kF kF (fun _ _ _=>PanicAs.put (by decide)) (by rfl) hS ?_ ?_;rotate_left
  ·intro wS hSw;(try dsimp only at hSw);go_simp;try with_reducible rfl
  try simp only[jX]
  refine mO (i:=3) (v:=?_) rfl kF kF kF kF (fun _ _ _=>PanicAs.put (by decide)) (by rfl) hS ?_ ?_;rotate_left
  ·intro wS hSw;(try dsimp only at hSw);go_simp;try with_reducible rfl
  try simp only[jX]
  refine mO (i:=4) (v:=?_) rfl kF kF kF kF (fun _ _ _=>PanicAs.put (by decide)) (by rfl) hS ?_ ?_;rotate_left
  ·intro wS hSw;(try dsimp only at hSw);go_simp;try with_reducible rfl
  try simp only[jX]
  refine mO (i:=5) (v:=?_) rfl kF kF kF kF (fun _ _ _=>PanicAs.put (by decide)) (by rfl) hS ?_ ?_;rotate_left
  ·intro wS hSw;(try dsimp only at hSw);go_simp;try with_reducible rfl
  try simp only[jX]
  refine mO (i:=6) (v:=?_) rfl kF kF kF kF (fun _ _ _=>PanicAs.put (by decide)) (by rfl) hS ?_ ?_;rotate_left
  ·intro wS hSw;(try dsimp only at hSw);go_simp;try with_reducible rfl
  try simp only[jX]
  refine uS 7 rfl (fun K hK=>?_);go_simp;refine(HC1.out _ hS.1).mono ?_;rintro e wz ⟨he,hbz⟩;have hbz':Below wr.heap.size wr wz:=bS hS.1 hbz;have zz:w.heap.size+1<wr.heap.size:=oM;rcases he with ⟨h,rfl⟩|⟨h,rfl⟩
  rotate_left
  ·refine⟨rfl,rfl,ak,rfl,HP.out h,cK hbz' r0,frz hbz' zz rf,bS hBr hbz'⟩
  refine hK _ _ (fun _=>⟨hbz',cK hbz hS.2.1,cK hbz hS.2.2.1,cK hbz hS.2.2.2.1,cK hbz hS.2.2.2.2.1,cK hbz' r0,frz hbz' zz rf⟩) ?_;clear hK K hS hbz;try simp only[jX]
  refine xQ kF ?_;refine PanicAs.normal ?_;go_wp2;exact⟨⟨k+1,by omega,by go_num,HN.out h,bS hbl hbz'⟩,mI⟩
 have hkn:k=n3:=oM;subst hkn;have HP2:Hid (∀j,j<k→fJ (gL d) j=0→¬gL d j=0→Z=gL d j):=HD2'.out HS.out;have HP3:Hid (fJ (gL d) k=0→Z=0):=HD3'.out HS.out;clear HD1' HD2' HD3' HAp' HS;go_wp2_with fail;refine(HBo'.out _ hBr).mono ?_;rintro e w3 ⟨b,rfl,hbb,hbk,hb3⟩;have hB3:Below w.heap.size w w3:=bS hBr hb3;have zz:w.heap.size+1<wr.heap.size:=oM;have z3:=hb3.size;have zb:b<w3.heap.size:=hbk.lt;replace y0:=cK hb3 y0;replace y1:=cK hb3 y1;replace y2:=cK hb3 y2;replace y3:=cK hb3 y3;replace y4:=cK hb3 y4;replace y5:=cK hb3 y5;replace r0:=cK hb3 r0;replace rf:=frz hb3 zz rf;have HBk:Hid (Book w3 b 54 (kY (mM d.idx d.bals))):=hbk;have zw:w.heap.size<w3.heap.size:=oM;have zw1:w.heap.size+1<w3.heap.size:=oM;clear hbk hb3 HBo' hbl hBr hBq;go_wp2;obtain⟨w4,hw4⟩:∃w4,w4=w3.alloc (.cells #[.int .i64 3,.map (some b)] 227):=⟨_,rfl⟩
 have hb4:Below w3.heap.size w3 w4:=by rw[hw4];exact qBq
 have q0:w4.cell? ⟨w3.heap.size,0,none⟩=some (.int .i64 3):=by rw[hw4];simp[go_sem]
 have q1:w4.cell? ⟨w3.heap.size,1,none⟩=some (.map (some b)):=by rw[hw4];simp[go_sem]
 rw[←hw4];clear hw4;have hB4:Below w.heap.size w w4:=bS hB3 hb4;have z4:w.heap.size+1<w4.heap.size:=by have:=hb4.size;omega
 have HBk4:Hid (Book w4 b 54 (kY (mM d.idx d.bals))):=HBk.out.below hb4;replace y0:=cK hb4 y0;replace y1:=cK hb4 y1;replace y2:=cK hb4 y2;replace y3:=cK hb4 y3;replace y4:=cK hb4 y4;replace y5:=cK hb4 y5;replace r0:=cK hb4 r0;replace rf:=frz hb4 (show w.heap.size+1<w3.heap.size by omega) rf;clear HBk;go_loopw [36] (fun i w'=>∃j:Nat,j≤k∧i =.int .i64 j∧Hid (fJ (gL d) j=0)∧Below w4.heap.size w4 w') (fun i _=>k-(intOf i).toNat)
 case atStart=>exact⟨0,oM,rfl,rfl,bR _ _⟩
 rename_i wr0;obtain⟨j,hj,rfl,HS,hbl⟩:=hrel;have hBr:Below w.heap.size w wr:=bS hB4 hbl;have zr:=hbl.size;replace y0:=cK hbl y0;replace y1:=cK hbl y1;replace y2:=cK hbl y2;replace y3:=cK hbl y3;replace y4:=cK hbl y4;replace y5:=cK hbl y5;replace r0:=cK hbl r0;replace rf:=frz hbl z4 rf;replace q0:=cK hbl q0;replace q1:=cK hbl q1;have HBkr:Hid (Book wr b 54 (kY (mM d.idx d.bals))):=HBk4.out.below hbl;by_cases hlt2:j<k
 ·
  obtain⟨bx,ox,pp,qq,rfl,g0,g1,hV⟩:=HX.out j hlt2;obtain⟨ul,hul,hvl⟩:=hV;simp only[Value.agg.injEq,Array.mk.injEq,List.cons.injEq,and_true,true_and] at hul;subst hul;have HC1:Hid (bW wr fun W=>Calls Tryz.prog 197 #[.int .i64 d.idx,.agg #[.int .i64 3,.map (some b)],.agg #[.int .i64 (d.held.getD j default).id,.slice pp (d.held.getD j default).legs.length qq]] W (fF6 (gL d j) W)):=fun W hW=>HCo'.out j W _ _ b hlt2 (legsR.below hvl (bS hBr hW)) (HBkr.out.below hW)
  have HP:Hid (¬gL d j=0→Z=gL d j):=fun h=>HP2.out j hlt2 HS.out h
  have HN:Hid (gL d j=0→fJ (gL d) (j+1)=0):=fun h=>gP HS.out h
  clear hvl HS;generalize (d.held.getD j default).legs.length=ll at *;generalize (d.held.getD j default).id=qid at *;generalize gL d j=ak at *;replace g0:=cK hBr g0;replace g1:=cK hBr g1;have zb2:bx<wr.heap.size:=wL wr _ g0;have zq3:w3.heap.size<wr.heap.size:=wL wr _ q0;have zz2:w.heap.size+1<wr.heap.size:=oM;have zz3:w.heap.size<wr.heap.size:=oM;go_wp2_with fail;refine(HC1.out _ qBq).mono ?_;rintro e wz ⟨he,hbz⟩;have hbz':Below wr.heap.size wr wz:=bS qBq hbz;clear hbz;rcases he with ⟨h,rfl⟩|⟨h,rfl⟩
  ·have HN2:Hid _:=HN.out h;clear HN HP h;go_wp2;exact⟨⟨j+1,by omega,by go_num,HN2,bS hbl hbz'⟩,mI⟩
  have hz:=HP.out h;exact fXn w wz _ _ Z ak 0 hz rfl (Nat.le_succ _) (cK hbz' r0) (frz hbz' zz2 rf) (bS hBr hbz')
 have hjn:j=k:=oM;subst hjn;have hz:=HP3.out HS.out;clear HP2 HP3 HS;go_wp2;refine fX7 w _ _ (w.heap.size+1) Z 0 hz rfl (Nat.le_succ _) (by simp[go_sem,r0,rf]) ?_;exact qS
theorem fMt (i:Int) (x:Value) (xs:List Bal) (w:World) (hx:balsR.V w x xs) :
  RI 110 #[.int .i64 i,x] w (.int .i64 (pW i xs)):=by
 have HB:Hid (bW w fun W=>RI 137 #[x] W (.int .i64 (gY xs))):=fun W hW=>yQ x xs W (balsR.below hx hW)
 obtain⟨a,c,rfl⟩:=fP hx;clear hx;generalize xs.length=n at *;unfold pW;cases h:inB i 0 2
 ·go_enter Tryz.func110,Tryz.ntmps110;go_wp2_with (first|(go_at_call 88;refine(kV _ _ _ _).mono ?_;rintro e w' ⟨rfl,rfl⟩;rw[h]));go_ret;exact⟨rfl,qBq⟩
 go_enter Tryz.func110,Tryz.ntmps110;go_wp2_with (first|(go_at_call 88;refine(kV _ _ _ _).mono ?_;rintro e w' ⟨rfl,rfl⟩;rw[h])|(go_at_call 137;refine(HB.out _ qBq).mono ?_;rintro e w' ⟨rfl,hb1⟩));go_ret;exact⟨rfl,qBq⟩
theorem fDb (x:Value) (d:Shd) (w:World) (hx:shdR.V w x d) :
  RI 126 #[x] w (.int .i64 (shdF d)):=by
 have HHd:Hid (bW w fun W=>BalsOk d.bals→RI 151 #[x] W (.int .i64 (fAe d))):=fun W hW hb=>fMv x d W (shdR.below hx hW) hb
 obtain⟨u1,u2,u3,u4,u5,rfl,h1,h2,h3,h4,h5⟩:=hx;have HBa:Hid (bW w fun W=>RI 110 #[.int .i64 d.idx,u1] W (.int .i64 (pW d.idx d.bals))):=fun W hW=>fMt _ u1 _ W (balsR.below h1 hW)
 have HVo:Hid (bW w fun W=>RI 150 #[u2] W (.int .i64 (mrkF d.votes))):=fun W hW=>fC6 u2 _ W (mrksR.below h2 hW)
 have HDo:Hid (bW w fun W=>RI 150 #[u4] W (.int .i64 (mrkF d.done))):=fun W hW=>fC6 u4 _ W (mrksR.below h4 hW)
 obtain⟨a1,c1,rfl⟩:=fP h1;obtain⟨a2,c2,rfl,hc2,hm2,_⟩:=h2;obtain⟨a3,c3,rfl,hc3,hm3,_⟩:=qH h3;obtain⟨a4,c4,rfl,hc4,hm4,_⟩:=h4;obtain⟨a5,c5,rfl,hc5,hm5,_⟩:=h5;unfold maxLen at hm2 hm3 hm4 hm5;have HD0:Hid (¬pW d.idx d.bals=0→shdF d=pW d.idx d.bals):=fun h=>by unfold shdF kZ;rw[if_neg h,if_neg h]
 have HD1:Hid (pW d.idx d.bals=0→(100<d.votes.length∨100<d.held.length∨100<d.done.length∨100<d.appl.length)→shdF d=2):=fun h h1=>by unfold shdF kZ;rw[if_pos h,if_pos h1];rfl
 have HD2:Hid (pW d.idx d.bals=0→¬(100<d.votes.length∨100<d.held.length∨100<d.done.length∨100<d.appl.length)→¬mrkF d.votes=0→shdF d=mrkF d.votes):=fun h h1 h2=>by unfold shdF kZ;rw[if_pos h,if_neg h1,if_neg h2,if_neg h2]
 have HD3:Hid (pW d.idx d.bals=0→¬(100<d.votes.length∨100<d.held.length∨100<d.done.length∨100<d.appl.length)→mrkF d.votes=0→¬mrkF d.done=0→shdF d=mrkF d.done):=fun h h1 h2 h3=>by unfold shdF kZ;rw[if_pos h,if_neg h1,if_pos h2,if_neg h3,if_neg h3]
 have HD4:Hid (pW d.idx d.bals=0→¬(100<d.votes.length∨100<d.held.length∨100<d.done.length∨100<d.appl.length)→mrkF d.votes=0→mrkF d.done=0→shdF d=fAe d):=fun h h1 h2 h3=>fTt h h1 h2 h3
 have HBO:Hid (pW d.idx d.bals=0→BalsOk d.bals):=fun h=>by
  unfold pW at h;split at h
  ·exact tQ h
  omega
 generalize d.bals.length=n1 at *;generalize d.votes.length=n2 at *;generalize d.held.length=n3 at *;generalize d.done.length=n4 at *;generalize d.appl.length=n5 at *;generalize fAe d=tf at *;generalize mrkF d.votes=fv at *;generalize mrkF d.done=fd at *;generalize hbf:pW d.idx d.bals=bf at *;obtain⟨Z,hZ⟩:∃Z,Z=shdF d:=⟨_,rfl⟩
 rw[←hZ] at HD0 HD1 HD2 HD3 HD4 ⊢;clear hZ hbf h1 h3;go_enter Tryz.func126,Tryz.ntmps126;go_wp2_with fail;refine(HBa.out _ qBq).mono ?_;rintro e w1 ⟨rfl,hb1⟩;have y0:w1.cell? ⟨w.heap.size,0,none⟩=some (.int .i64 d.idx):=cK hb1 sG;have y1:w1.cell? ⟨w.heap.size,1,none⟩=some (.slice a1 n1 c1):=cK hb1 sG;have y2:w1.cell? ⟨w.heap.size,2,none⟩=some (.slice a2 n2 c2):=cK hb1 sG;have y3:w1.cell? ⟨w.heap.size,3,none⟩=some (.slice a3 n3 c3):=cK hb1 sG;have y4:w1.cell? ⟨w.heap.size,4,none⟩=some (.slice a4 n4 c4):=cK hb1 sG;have y5:w1.cell? ⟨w.heap.size,5,none⟩=some (.slice a5 n5 c5):=cK hb1 sG;have hB1:=bT w hb1;clear hb1 HBa;by_cases hbf:bf=0;rotate_left
 ·
  have HC:=HD0.out hbf;have hbf':(bf !=0)=true:=by simp[hbf]
  go_wp2;go_ret;exact⟨by rw[HC];rfl,qBq⟩
 have HBO':=HBO.out hbf;have HHd':Hid (bW w fun W=>RI 151 #[.agg #[.int .i64 d.idx,.slice a1 n1 c1,.slice a2 n2 c2,.slice a3 n3 c3,.slice a4 n4 c4,.slice a5 n5 c5]] W (.int .i64 tf)):=fun W hW=>HHd.out W hW HBO'
 have HD1':Hid ((100<n2∨100<n3∨100<n4∨100<n5)→Z=2):=fun h=>HD1.out hbf h
 have HD2':Hid (¬(100<n2∨100<n3∨100<n4∨100<n5)→¬fv=0→Z=fv):=fun h h2=>HD2.out hbf h h2
 have HD3':Hid (¬(100<n2∨100<n3∨100<n4∨100<n5)→fv=0→¬fd=0→Z=fd):=fun h h2 h3=>HD3.out hbf h h2 h3
 have HD4':Hid (¬(100<n2∨100<n3∨100<n4∨100<n5)→fv=0→fd=0→Z=tf):=fun h h2 h3=>HD4.out hbf h h2 h3
 rw[hbf];clear HD0 HD1 HD2 HD3 HD4 HBO HBO' HHd hbf;by_cases m2:100<n2
 ·have HC:=HD1'.out (.inl m2);have m2':(100:Int)<n2:=oM;go_wp2;go_ret;exact⟨by rw[HC];rfl,qBq⟩
 have m2':¬(100:Int)<n2:=oM;by_cases m3:100<n3
 ·have HC:=HD1'.out (.inr (.inl m3));have m3':(100:Int)<n3:=oM;go_wp2;go_ret;exact⟨by rw[HC];rfl,qBq⟩
 have m3':¬(100:Int)<n3:=oM;by_cases m4:100<n4
 ·have HC:=HD1'.out (.inr (.inr (.inl m4)));have m4':(100:Int)<n4:=oM;go_wp2;go_ret;exact⟨by rw[HC];rfl,qBq⟩
 have m4':¬(100:Int)<n4:=oM;by_cases m5:100<n5
 ·have HC:=HD1'.out (.inr (.inr (.inr m5)));have m5':(100:Int)<n5:=oM;go_wp2;go_ret;exact⟨by rw[HC];rfl,qBq⟩
 have m5':¬(100:Int)<n5:=oM;have hmany:¬(100<n2∨100<n3∨100<n4∨100<n5):=oM;have HE2:Hid (¬fv=0→Z=fv):=fun h=>HD2'.out hmany h
 have HE3:Hid (fv=0→¬fd=0→Z=fd):=fun h h2=>HD3'.out hmany h h2
 have HE4:Hid (fv=0→fd=0→Z=tf):=fun h h2=>HD4'.out hmany h h2
 clear HD1' HD2' HD3' HD4' hmany;go_wp2_with fail;refine(HVo.out _ hB1).mono ?_;rintro e w2 ⟨rfl,hb2⟩;have hB2:Below w.heap.size w w2:=bS hB1 hb2;replace y0:=cK hb2 y0;replace y1:=cK hb2 y1;replace y2:=cK hb2 y2;replace y3:=cK hb2 y3;replace y4:=cK hb2 y4;replace y5:=cK hb2 y5;clear hb2 HVo;by_cases hfv:fv=0;rotate_left
 ·
  have HC:=HE2.out hfv;have hfv':(fv !=0)=true:=by simp[hfv]
  go_wp2;go_ret;exact⟨by rw[HC];rfl,qBq⟩
 rw[hfv];go_wp2_with fail;refine(HDo.out _ hB2).mono ?_;rintro e w3 ⟨rfl,hb3⟩;have hB3:Below w.heap.size w w3:=bS hB2 hb3;replace y0:=cK hb3 y0;replace y1:=cK hb3 y1;replace y2:=cK hb3 y2;replace y3:=cK hb3 y3;replace y4:=cK hb3 y4;replace y5:=cK hb3 y5;clear hb3 HDo;by_cases hfd:fd=0;rotate_left
 ·
  have HC:=HE3.out hfv hfd;have hfd':(fd !=0)=true:=by simp[hfd]
  go_wp2;go_ret;exact⟨by rw[HC];rfl,qBq⟩
 have HC:Hid (Z=tf):=HE4.out hfv hfd;rw[hfd];clear HE2 HE3 HE4 hfv hfd;go_wp2_with fail;refine(HHd'.out _ hB3).mono ?_;rintro e w4 ⟨rfl,hb4⟩;go_wp2;go_ret;exact⟨rH,bS hB3 hb4⟩
theorem fN0 {c:Cont} (h:fA c.id c.legs=0):∀l ∈ c.legs,gI l=0:=fun l hl=>by
 obtain⟨i,hi,rfl⟩:=List.getElem_of_mem hl;have h1:=((fGv h).2.2.2.1 i hi).1;have e:c.legs.getD i default=c.legs[i]:=by rw[List.getD,List.getElem?_eq_getElem hi];rfl
 rw[e] at h1;exact h1
theorem fUv {c:Cont} (h:fA c.id c.legs=0) (s:Int):small (onSh s c.legs):=fun j hj=>by
 have hm:(onSh s c.legs).getD j default ∈ onSh s c.legs:=by simp[List.getD,hj]
 exact(gZ (fN0 h _ (List.mem_filter.1 hm).1)).2.2.2.1
theorem fC2 {c:Cont} (h:fA c.id c.legs=0):c.legs.length≤8:=(fGv h).2.2.1
def vR (d:Shd) (c:Cont) (o:Cont):Bool:=touch (onSh d.idx c.legs) (onSh d.idx o.legs)
theorem fFg {d:Shd} {c:Cont} (h:¬fK c.id d.done=0):kR d c=false:=by unfold kR;rw[decide_eq_false_iff_not];exact fun h'=>h h'.1
theorem fHq {d:Shd} {c:Cont} (h:¬xW d.bals (onSh d.idx c.legs)=0):kR d c=false:=by unfold kR;rw[decide_eq_false_iff_not];exact fun h'=>h h'.2.1
theorem fC8 {d:Shd} {c:Cont} (h:d.held.any (vR d c)=true):kR d c=false:=by
 unfold kR;rw[decide_eq_false_iff_not];intro h';have h2:=h'.2.2;unfold vR at h;rw[h] at h2;cases h2
theorem fK4 {d:Shd} {c:Cont} (h1:fK c.id d.done=0) (h2:xW d.bals (onSh d.idx c.legs)=0) (h3:d.held.any (vR d c)=false):kR d c=true:=by
 unfold kR;rw[decide_eq_true_iff];exact⟨h1,h2,h3⟩
theorem fKr (x y:Value) (d:Shd) (c:Cont) (w:World) (hx:shdR.V w x d) (hy:contR.V w y c) (hbo:BalsOk d.bals) (hcf:fA c.id c.legs=0) (hok:HeldOk d) :
  RI 154 #[x,y] w (.bool (kR d c)):=by
 obtain⟨uy,rfl,hy⟩:=hy;obtain⟨u1,u2,u3,u4,u5,rfl,h1,h2,h3,h4,h5⟩:=hx;have HX3:Hid (∃a c,u3 =.slice a d.held.length c∧d.held.length≤c∧c≤maxLen∧∀k,k<d.held.length→∃b o p q,a=some ⟨b,o,none⟩∧w.cell? ⟨b,o+k*2,none⟩=some (.int .i64 (d.held.getD k default).id)∧w.cell? ⟨b,o+k*2+1,none⟩=some (.slice p (d.held.getD k default).legs.length q)∧contR.V w (.agg #[.int .i64 (d.held.getD k default).id,.slice p (d.held.getD k default).legs.length q]) (d.held.getD k default)):=qH h3;have HDo:Hid (bW w fun W=>RI 153 #[u4,.int .i64 c.id] W (.int .i64 (fK c.id d.done))):=fun W hW=>rW u4 _ c.id W (mrksR.below h4 hW)
 have HL2:Hid (∀W y,Below w.heap.size w W→legsR.V W y (onSh d.idx c.legs)→RI 184 #[u1,y] W (.int .i64 (xW d.bals (onSh d.idx c.legs)))):=fun W y hW hy=>fHa u1 y d.bals _ W (balsR.below h1 hW) hy (fFq hbo) (fUv hcf _)
 have HLc:Hid (bW w fun W=>Calls Tryz.prog 127 #[.agg #[.int .i64 c.id,uy],.int .i64 d.idx] W fun e w'=>∃v,e =.returned v∧w'.ownsRow W.heap.size 168 4 v (onSh d.idx c.legs).length (gN (onSh d.idx c.legs))∧Below W.heap.size W w'):=fun W hW=>xJ _ _ _ _ W (legsR.below hy hW) (by have:=fC2 hcf;omega)
 have HLg:Hid (∀W k p q,Below w.heap.size w W→k<d.held.length→contR.V w (.agg #[.int .i64 (d.held.getD k default).id,.slice p (d.held.getD k default).legs.length q]) (d.held.getD k default)→Calls Tryz.prog 127 #[.agg #[.int .i64 (d.held.getD k default).id,.slice p (d.held.getD k default).legs.length q],.int .i64 d.idx] W fun e w'=>∃v,e =.returned v∧w'.ownsRow W.heap.size 168 4 v (kH d k).length (gN (kH d k))∧Below W.heap.size W w'):=fun W k p q hW hk hV=>by
  obtain⟨u,e,hu⟩:=contR.below hV hW;simp only[Value.agg.injEq,Array.mk.injEq,List.cons.injEq,and_true,true_and] at e;subst e;exact xJ _ _ _ _ W hu (by have:=hok.len hk;omega)
 obtain⟨a1,c1,rfl⟩:=fP h1;obtain⟨a2,c2,rfl⟩:=fF h2;obtain⟨a3,c3,rfl⟩:=fM h3;obtain⟨a4,c4,rfl⟩:=fF h4;obtain⟨a5,c5,rfl⟩:=gJ h5;obtain⟨_,_,e3,hc3,hm3,hx3⟩:=HX3.out;simp only[Value.slice.injEq,true_and] at e3;obtain⟨rfl,rfl⟩:=e3;unfold maxLen at hm3;have HX:Hid (∀k,k<d.held.length→∃b o p q,a3=some ⟨b,o,none⟩∧w.cell? ⟨b,o+k*2,none⟩=some (.int .i64 (d.held.getD k default).id)∧w.cell? ⟨b,o+k*2+1,none⟩=some (.slice p (d.held.getD k default).legs.length q)∧contR.V w (.agg #[.int .i64 (d.held.getD k default).id,.slice p (d.held.getD k default).legs.length q]) (d.held.getD k default)):=hx3;obtain⟨ax,cx,rfl⟩:=kP hy;clear h1 h2 h3 h4 h5 hy HX3 hx3;have HAn:Hid (∀k,k<d.held.length→(d.held.take k).any (vR d c)=false→touch (onSh d.idx c.legs) (kH d k)=false→(d.held.take (k+1)).any (vR d c)=false):=fun k hk h1 h2=>by
  rw[fA5 _ hk,h1];exact h2
 have HAy:Hid (∀k,k<d.held.length→touch (onSh d.idx c.legs) (kH d k)=true→kR d c=false):=fun k hk h=>fC8 (fJq hk h)
 have HAl:Hid (fK c.id d.done=0→xW d.bals (onSh d.idx c.legs)=0→(d.held.take d.held.length).any (vR d c)=false→kR d c=true):=fun h1 h2 h3=>fK4 h1 h2 (by rw[List.take_length] at h3;exact h3)
 have HE1:Hid (¬fK c.id d.done=0→kR d c=false):=fun h=>fFg h
 have HE2:Hid (¬xW d.bals (onSh d.idx c.legs)=0→kR d c=false):=fun h=>fHq h
 obtain⟨n3,hn3⟩:∃n3,n3=d.held.length:=⟨_,rfl⟩
 rw[←hn3] at HX HAn HAy HAl HLg hc3 ⊢;clear hn3;generalize d.bals.length=n1 at *;generalize d.votes.length=n2 at *;generalize d.done.length=n4 at *;generalize d.appl.length=n5 at *;generalize c.legs.length=nx at *;generalize kR d c=Z at *;generalize fK c.id d.done=fd at *;generalize xW d.bals (onSh d.idx c.legs)=cl at *;go_enter Tryz.func154,Tryz.ntmps154;go_wp2_with fail;refine(HLc.out _ qBq).mono ?_;rintro e w1 ⟨vl,rfl,ol,hb1⟩;obtain⟨al,cl',rfl⟩:=fD ol;have hB1:=bT w hb1;have y0:w1.cell? ⟨w.heap.size,0,none⟩=some (.int .i64 d.idx):=cK hb1 sG;have y1:w1.cell? ⟨w.heap.size,1,none⟩=some (.slice a1 n1 c1):=cK hb1 sG;have y2:w1.cell? ⟨w.heap.size,2,none⟩=some (.slice a2 n2 c2):=cK hb1 sG;have y3:w1.cell? ⟨w.heap.size,3,none⟩=some (.slice a3 n3 c3):=cK hb1 sG;have y4:w1.cell? ⟨w.heap.size,4,none⟩=some (.slice a4 n4 c4):=cK hb1 sG;have y5:w1.cell? ⟨w.heap.size,5,none⟩=some (.slice a5 n5 c5):=cK hb1 sG;have x0:w1.cell? ⟨w.heap.size+1,0,none⟩=some (.int .i64 c.id):=cK hb1 sG;have x1:w1.cell? ⟨w.heap.size+1,1,none⟩=some (.slice ax nx cx):=cK hb1 sG;have HVl:Hid (bW w1 fun W=>legsR.V W (.slice al (onSh d.idx c.legs).length cl') (onSh d.idx c.legs)):=fun W hW=>kS (gV ol) hW
 have HTo:Hid (∀k W y,Below w1.heap.size w1 W→legsR.V W y (kH d k)→RI 183 #[.slice al (onSh d.idx c.legs).length cl',y] W (.bool (touch (onSh d.idx c.legs) (kH d k)))):=fun k W y hW hy=>fC7 _ _ _ _ W (HVl.out W hW) hy
 clear hb1 ol HLc;generalize (onSh d.idx c.legs).length=nl at *;go_wp2_with fail;refine(HDo.out _ hB1).mono ?_;rintro e w2 ⟨rfl,hb2⟩;have hB2:Below w.heap.size w w2:=bS hB1 hb2;replace y0:=cK hb2 y0;replace y1:=cK hb2 y1;replace y2:=cK hb2 y2;replace y3:=cK hb2 y3;replace y4:=cK hb2 y4;replace y5:=cK hb2 y5;replace x0:=cK hb2 x0;replace x1:=cK hb2 x1;by_cases hfd:fd=0;rotate_left
 ·
  have HC:=HE1.out hfd;have hfd':(fd !=0)=true:=by simp[hfd]
  go_wp2;go_ret;exact⟨by rw[HC] <;> rfl,qBq⟩
 have hfd':(fd !=0)=false:=by simp[hfd]
 go_wp2_with fail;refine(HL2.out _ _ hB2 (HVl.out _ hb2)).mono ?_;rintro e w3 ⟨rfl,hb3⟩;have hB3:Below w.heap.size w w3:=bS hB2 hb3;have hB13:Below w1.heap.size w1 w3:=bS hb2 hb3;replace y0:=cK hb3 y0;replace y1:=cK hb3 y1;replace y2:=cK hb3 y2;replace y3:=cK hb3 y3;replace y4:=cK hb3 y4;replace y5:=cK hb3 y5;replace x0:=cK hb3 x0;replace x1:=cK hb3 x1;by_cases hcl:cl=0;rotate_left
 ·
  have HC:=HE2.out hcl;have hcl':(cl !=0)=true:=by simp[hcl]
  go_wp2;go_ret;exact⟨by rw[HC] <;> rfl,qBq⟩
 have hcl'':(cl !=0)=false:=by simp[hcl]
 have HAl':Hid ((d.held.take n3).any (vR d c)=false→Z=true):=fun h=>HAl.out hfd hcl h
 clear HAl HE1 HE2 HDo HL2 hfd hcl hb3 hb2;go_wp2;go_loopw [6] (fun i w'=>∃k:Nat,k≤n3∧i =.int .i64 k∧Hid ((d.held.take k).any (vR d c)=false)∧Below w3.heap.size w3 w') (fun i _=>n3-(intOf i).toNat)
 case atStart=>exact⟨0,oM,rfl,by show(d.held.take 0).any _=false;rfl,qBq⟩
 obtain⟨k,hk,rfl,HS,hbl⟩:=hrel;have hBr:Below w.heap.size w wr:=bS hB3 hbl;replace y0:=cK hbl y0;replace y1:=cK hbl y1;replace y2:=cK hbl y2;replace y3:=cK hbl y3;replace y4:=cK hbl y4;replace y5:=cK hbl y5;replace x0:=cK hbl x0;replace x1:=cK hbl x1;have hB1r:Below w1.heap.size w1 wr:=bS hB13 hbl;by_cases hlt:k<n3
 ·
  obtain⟨bx,ox,p1,q1,rfl,g0,g1,hV⟩:=HX.out k hlt;have HG1:Hid (bW wr fun W=>Calls Tryz.prog 127 #[.agg #[.int .i64 (d.held.getD k default).id,.slice p1 (d.held.getD k default).legs.length q1],.int .i64 d.idx] W fun e w'=>∃v,e =.returned v∧w'.ownsRow W.heap.size 168 4 v (kH d k).length (gN (kH d k))∧Below W.heap.size W w'):=fun W hW=>HLg.out W k p1 q1 (bS hBr hW) hlt hV
  have HTo':Hid (∀W y,Below wr.heap.size wr W→legsR.V W y (kH d k)→RI 183 #[.slice al nl cl',y] W (.bool (touch (onSh d.idx c.legs) (kH d k)))):=fun W y hW hy=>HTo.out k W y (bS hB1r hW) hy
  clear hV;replace g0:=cK hBr g0;replace g1:=cK hBr g1;have k1:(k:Int)<n3:=oM;have k2:(0:Int)≤k:=oM;cases htc:touch (onSh d.idx c.legs) (kH d k)
  ·
   have HC:Hid ((d.held.take (k+1)).any (vR d c)=false):=HAn.out k hlt HS.out htc;clear HAn HAy HAl' HS;go_wp2;refine wp_region_noPanic ?_;refine fB (fun W=>Below wr.heap.size wr W∧W.cell? ⟨w.heap.size,0,none⟩=some (.int .i64 d.idx)∧W.cell? ⟨w.heap.size,3,none⟩=some (.slice (some ⟨bx,ox,none⟩) n3 c3)∧W.cell? ⟨bx,ox+k*2,none⟩=some (.int .i64 (d.held.getD k default).id)∧W.cell? ⟨bx,ox+k*2+1,none⟩=some (.slice p1 (d.held.getD k default).legs.length q1)) 10 kF ⟨qBq,cK qBq y0,cK qBq y3,cK qBq g0,cK qBq g1⟩ (fun hS=>?_);refine tX 0 ?_;refine tX 1 ?_;refine tX 2 ?_;refine tX 3 ?_;refine tX 4 ?_;refine tX 5 ?_;refine tX 6 ?_;refine tX 7 ?_;refine uS 8 rfl (fun K hK=>?_);go_simp;refine(HG1.out _ hS.1).mono ?_;rintro e wz1 ⟨vl2,rfl,ol2,hbz1⟩;obtain⟨al2,cl2,rfl⟩:=fD ol2;have V2:=gV ol2;have hbz1':Below wr.heap.size wr wz1:=bS hS.1 hbz1;have hS3:=And.intro hbz1' (kS4 hbz1 hS.2);refine hK _ _ (fun _=>hS3) ?_;clear hK K hS hbz1;have hS:=hS3;clear hS3;try simp only[jX]
   refine uS 9 rfl (fun K hK=>?_);go_simp;refine(HTo'.out _ _ hS.1 V2).mono ?_;rintro e wz ⟨rfl,hbz⟩;rw[htc];have hbz':Below wr.heap.size wr wz:=bS hS.1 hbz;have hS3:=And.intro hbz' (kS4 hbz hS.2);refine hK _ _ (fun _=>hS3) ?_;clear hK K hS hbz;have hS:=hS3;clear hS3;try simp only[jX]
   refine dP ?_;go_wp2;exact⟨⟨k+1,by omega,by go_num,HC,bS hbl hS.1⟩,mI⟩
  have HC:Z=false:=HAy.out k hlt htc;clear HAn HAy HAl' HS;go_wp2;refine wp_region_noPanic ?_;refine fB (fun W=>Below wr.heap.size wr W∧W.cell? ⟨w.heap.size,0,none⟩=some (.int .i64 d.idx)∧W.cell? ⟨w.heap.size,3,none⟩=some (.slice (some ⟨bx,ox,none⟩) n3 c3)∧W.cell? ⟨bx,ox+k*2,none⟩=some (.int .i64 (d.held.getD k default).id)∧W.cell? ⟨bx,ox+k*2+1,none⟩=some (.slice p1 (d.held.getD k default).legs.length q1)) 10 kF ⟨qBq,cK qBq y0,cK qBq y3,cK qBq g0,cK qBq g1⟩ (fun hS=>?_);refine tX 0 ?_;refine tX 1 ?_;refine tX 2 ?_;refine tX 3 ?_;refine tX 4 ?_;refine tX 5 ?_;refine tX 6 ?_;refine tX 7 ?_;refine uS 8 rfl (fun K hK=>?_);go_simp;refine(HG1.out _ hS.1).mono ?_;rintro e wz1 ⟨vl2,rfl,ol2,hbz1⟩;obtain⟨al2,cl2,rfl⟩:=fD ol2;have V2:=gV ol2;have hbz1':Below wr.heap.size wr wz1:=bS hS.1 hbz1;have hS3:=And.intro hbz1' (kS4 hbz1 hS.2);refine hK _ _ (fun _=>hS3) ?_;clear hK K hS hbz1;have hS:=hS3;clear hS3;try simp only[jX]
  refine uS 9 rfl (fun K hK=>?_);go_simp;refine(HTo'.out _ _ hS.1 V2).mono ?_;rintro e wz ⟨rfl,hbz⟩;rw[htc];have hbz':Below wr.heap.size wr wz:=bS hS.1 hbz;have hS3:=And.intro hbz' (kS4 hbz hS.2);refine hK _ _ (fun _=>hS3) ?_;clear hK K hS hbz;have hS:=hS3;clear hS3;try simp only[jX]
  refine dP ?_;go_wp2;go_ret;exact⟨by rw[HC] <;> rfl,bS hBr hS.1⟩
 have hkn:k=n3:=oM;subst hkn;have HC:=HAl'.out HS.out;go_wp2;go_ret;exact⟨by rw[HC] <;> rfl,qBq⟩
end
section
section
variable {P : Program} {ops : Array Oper} {Q : Exit → Act → World → Prop} {md : Region.Mode} {S : World → Prop} {t : Nat}
def Alive (L:List (Nat × Nat)) (cons:Nat→List Nat) (listed:Array Bool) (j:Nat):Prop:=listed.getD j true=true∧∀p ∈ L,listed.getD p.1 true=true→j ∉ cons p.1
def Taken (cons:Nat→List Nat) (Φ:Nat→Nat→Prop) (i b:Nat):Prop:=∃j ∈ cons i,Φ j b
def FIn (w0 w:World) (F:Nat→Prop):Prop:=∀b,F b→w0.heap.size≤b∧b<w.heap.size
def yO (F F':Nat→Prop):Prop:=∀b,F b→¬F' b
def fXh (P:Program) (md:Region.Mode) (ops:Array Oper) (Q:Exit→Act→World→Prop) (S:World→Prop) (L:List (Nat × Nat)) (cons:Nat→List Nat) (G:Nat→(Nat→Value)→(Nat→Prop)→World→Prop) (a0:Act) (w0:World) (p:Nat × Nat):Prop:=
 ∃o,ops[p.1]? = some o∧o.dst=some p.2∧∀(y:Nat→Value) (w:World) (Φ:Nat→Nat→Prop),S w→Below w0.heap.size w0 w →
  (∀q ∈ L,waitsFor md ops p.1 q.1=true→(q.1 ∈ cons p.1∨∀r ∈ L,q.1 ∉ cons r.1)→FIn w0 w (Φ q.1)∧G q.1 y (Φ q.1) w) →
  ∀K:Act→World→Prop,(∀v w' F',Mod (Taken cons Φ p.1) w w'→(∀b,F' b→Taken cons Φ p.1 b∨(w.heap.size≤b∧b<w'.heap.size))→G p.1 (updV y p.2 v) F' w'→K ((over a0 (L.map Prod.snd) y).put (some p.2) v) w') →
   Shut (if Region.wanted o (yielded ops (over a0 (L.map Prod.snd) y).tmps)=true then Oper.wp P o (over a0 (L.map Prod.snd) y) w K Q else K ((over a0 (L.map Prod.snd) y).put o.dst undef) w)
theorem fUa (L:List (Nat × Nat)) (cons:Nat→List Nat) (G:Nat→(Nat→Value)→(Nat→Prop)→World→Prop) {f:Nat} {listed:Array Bool} {a0:Act} {w0:World}
  (hrise:fO3 md ops=true) (hsz:listed.size=ops.size) (hot:∃ot,ops[t]? = some ot)
  (hall:∀i,i<ops.size→listed.getD i true=false→i=t∨∃p ∈ L,p.1=i)
  (hun:listed.getD t true=false∧∀p ∈ L,listed.getD p.1 true=false)
  (hno:(L.map Prod.fst).Nodup) (hnd:(L.map Prod.snd).Nodup) (htl:∀p ∈ L,p.1≠t∧waitsFor md ops t p.1=true) (hf:f=L.length+1)
  (hcons:∀p ∈ L,∀j ∈ cons p.1,waitsFor md ops p.1 j=true∧∃q ∈ L,q.1=j) (huniq:∀p ∈ L,∀r ∈ L,p.1≠r.1→∀j ∈ cons p.1,j ∉ cons r.1)
  (hS:S w0) (hSst:∀(F:Nat→Prop) (w w':World),S w→Mod F w w'→(∀b,F b→w0.heap.size≤b)→S w')
  (hG:∀p ∈ L,∀(y y':Nat→Value) (F F':Nat→Prop) (w w':World),G p.1 y F w→FIn w0 w F→Mod F' w w'→yO F' F→(∀b,F' b→w0.heap.size≤b)→y' p.2=y p.2→(∀q ∈ L,waitsFor md ops p.1 q.1=true→y' q.2=y q.2)→G p.1 y' F w')
  (hstep:∀p ∈ L,fXh P md ops Q S L cons G a0 w0 p)
  (hlast:∃o,ops[t]? = some o∧∀(y:Nat→Value) (w:World) (Φ:Nat→Nat→Prop),S w→Below w0.heap.size w0 w→(∀q ∈ L,(∀r ∈ L,q.1 ∉ cons r.1)→FIn w0 w (Φ q.1)∧G q.1 y (Φ q.1) w)→(∀q ∈ L,∀r ∈ L,q.1≠r.1→(∀p ∈ L,q.1 ∉ cons p.1)→(∀p ∈ L,r.1 ∉ cons p.1)→yO (Φ q.1) (Φ r.1)) →
   ∀K:Act→World→Prop,(∀a' w',Q .normal a' w'→K a' w')→Shut (if Region.wanted o (yielded ops (over a0 (L.map Prod.snd) y).tmps)=true then Oper.wp P o (over a0 (L.map Prod.snd) y) w K Q else K ((over a0 (L.map Prod.snd) y).put o.dst undef) w)) :
  gW P md ops Q S t f listed a0 w0:=by
 have H:∀(n f:Nat) (listed:Array Bool) (y:Nat→Value) (w:World) (Φ:Nat→Nat→Prop),
   f=(L.filter fun p=>!listed.getD p.1 true).length+1→listed.size=ops.size→listed.getD t true=false →
   (∀i,i<ops.size→listed.getD i true=false→i=t∨∃p ∈ L,p.1=i) →
   (∀p ∈ L,listed.getD p.1 true=true→∀q ∈ L,waitsFor md ops p.1 q.1=true→listed.getD q.1 true=true) →
   S w→Below w0.heap.size w0 w→(∀q ∈ L,Alive L cons listed q.1→FIn w0 w (Φ q.1)∧G q.1 y (Φ q.1) w) →
   (∀q ∈ L,∀r ∈ L,q.1≠r.1→Alive L cons listed q.1→Alive L cons listed r.1→yO (Φ q.1) (Φ r.1)) →
   f≤n→gW P md ops Q S t f listed (over a0 (L.map Prod.snd) y) w:=by
  intro n;induction n with
  | zero=>intro f listed y w Φ hf _ _ _ _ _ _ _ _ hn;omega
  | succ n ih=>
   intro f listed y w Φ hf hsz htun hall hdown hS hB hGs hAp hn;obtain⟨ot,hot⟩:=hot;have htlt:t<ops.size:=by
    rcases Nat.lt_or_ge t ops.size with h|h
    ·exact h
    rw[Array.getElem?_eq_none h] at hot;cases hot
   obtain⟨g,rfl⟩:∃g,f=g+1:=⟨_,hf⟩
   have hg:g=(L.filter fun p=>!listed.getD p.1 true).length:=oM;refine⟨fun h=>?_,fun i hi'=>?_⟩
   ·obtain⟨j,hj⟩:=fHr hrise hsz (t+1) t oM htlt htun;rw[h] at hj;cases hj
   obtain⟨hiun,o,hio,hdeps⟩:=mem_ready.1 hi';have hilt:i<ops.size:=by
    rcases Nat.lt_or_ge i ops.size with h|h
    ·exact h
    rw[Array.getElem?_eq_none h] at hio;cases hio
   have hdep:∀k,k<ops.size→waitsFor md ops i k=true→listed.getD k true=true:=by
    intro k hk hw;unfold waitsFor at hw;rw[hio] at hw;obtain⟨e,he,hb⟩:=Array.any_eq_true'.1 hw;simp only[Bool.and_eq_true,beq_iff_eq] at hb;have h1:=hdeps e he hb.1;rw[hb.2] at h1;have hk':k<listed.size:=oM;simp[hk'] at h1 ⊢;exact h1
   have hLlt:∀p ∈ L,p.1<ops.size:=by
    intro p hp;obtain⟨o',ho',_⟩:=hstep p hp;rcases Nat.lt_or_ge p.1 ops.size with h|h
    ·exact h
    rw[Array.getElem?_eq_none h] at ho';cases ho'
   have key:∀K:Act→World→Prop,(if Region.wanted o (yielded ops (over a0 (L.map Prod.snd) y).tmps)=true then Oper.wp P o (over a0 (L.map Prod.snd) y) w K Q else K ((over a0 (L.map Prod.snd) y).put o.dst undef) w)→wpOp P ops Q i K (over a0 (L.map Prod.snd) y) w:=by
    intro K h1;unfold wpOp;simp only[hio];split
    ·rename_i hw;rw[if_pos hw] at h1;exact .inl h1
    rename_i hw;rw[if_neg hw] at h1;exact h1
   refine key _ ?_;by_cases hit:i=t
   ·
    subst hit;have hl:∀p ∈ L,listed.getD p.1 true=true:=fun p hp=>hdep p.1 (hLlt p hp) (htl p hp).2
    obtain⟨o2,ho2,hlst⟩:=hlast;rw[hio] at ho2;cases ho2;refine(hlst y w Φ hS hB (fun q hq hc=>hGs q hq ⟨hl q hq,fun p hp _=>hc p hp⟩) (fun q hq r hr hne h1 h2=>hAp q hq r hr hne ⟨hl q hq,fun p hp _=>h1 p hp⟩ ⟨hl r hr,fun p hp _=>h2 p hp⟩) _ (fun a' w' hq=>⟨fun h=>absurd rfl h,xQ ?_ hq⟩)).out;rw[List.eq_nil_iff_forall_not_mem];intro j hj;obtain⟨hjun,oj,hjo,_⟩:=mem_ready.1 hj;have hjl:j<ops.size:=by
     rcases Nat.lt_or_ge j ops.size with h|h
     ·exact h
     rw[Array.getElem?_eq_none h] at hjo;cases hjo
    by_cases hji:i=j
    ·subst hji;have hk':i<listed.size:=oM;simp[hk'] at hjun
    rw[getD_set_ne true hji] at hjun;rcases hall j hjl hjun with h|⟨p,hp,h⟩
    ·exact hji h.symm
    rw[←h,hl p hp] at hjun;cases hjun
   obtain⟨p,hp,hpi⟩:=(hall i hilt hiun).resolve_left hit;subst hpi;obtain⟨o',ho',hdst,hst⟩:=hstep p hp;rw[hio] at ho';cases ho';have hcal:∀q ∈ L,q.1 ∈ cons p.1→Alive L cons listed q.1:=fun q hq hc=>⟨hdep q.1 (hLlt q hq) (hcons p hp _ hc).1,fun r hr hrl hcr=>by
    by_cases e:r.1=p.1
    ·rw[e,hiun] at hrl;cases hrl
    exact huniq p hp r hr (Ne.symm e) q.1 hc hcr⟩
   refine(hst y w Φ hS hB (fun q hq hw hc=>?_) _ (fun v w' F' hm hF' hGp=>⟨fun _=>hSst _ _ _ hS hm ?_,?_⟩)).out
   ·
    rcases hc with hc|hc
    ·exact hGs q hq (hcal q hq hc)
    exact hGs q hq ⟨hdep q.1 (hLlt q hq) hw,fun r hr _=>hc r hr⟩
   ·rintro b ⟨j,hj,hb⟩;obtain⟨_,q,hq,rfl⟩:=hcons p hp j hj;exact((hGs q hq (hcal q hq hj)).1 b hb).1
   have hTk:∀b,Taken cons Φ p.1 b→w0.heap.size≤b∧b<w.heap.size:=by
    rintro b ⟨j,hj,hb⟩;obtain⟨_,q,hq,rfl⟩:=hcons p hp j hj;exact(hGs q hq (hcal q hq hj)).1 b hb
   rw[fOy (List.mem_map_of_mem hp) hnd];have hlt:p.1<listed.size:=oM;have hself':(listed.setIfInBounds p.1 true).getD p.1 true=true:=by simp[hlt]
   have hoth:∀j,p.1≠j→(listed.setIfInBounds p.1 true).getD j true=listed.getD j true:=fun j h=>getD_set_ne true h
   have hinj:∀q ∈ L,q.1=p.1→q=p:=fun q hq h=>fMg L hno q hq p hp h
   have hinj2:∀q ∈ L,q.2=p.2→q=p:=fun q hq h=>fMh L hnd q hq p hp h
   have hback:∀q ∈ L,q.1≠p.1→Alive L cons (listed.setIfInBounds p.1 true) q.1→Alive L cons listed q.1∧q.1 ∉ cons p.1:=fun q hq e ha=>by
    refine⟨⟨by rw[←hoth _ (Ne.symm e)];exact ha.1,fun r hr hrl=>?_⟩,ha.2 p hp hself'⟩;by_cases e2:r.1=p.1
    ·rw[e2,hiun] at hrl;cases hrl
    exact ha.2 r hr (by rw[hoth _ (Ne.symm e2)];exact hrl)
   have hTq:∀q ∈ L,Alive L cons listed q.1→q.1 ∉ cons p.1→yO (Taken cons Φ p.1) (Φ q.1):=by
    rintro q hq ha hn b ⟨j,hj,hb⟩;obtain⟨_,r,hr,rfl⟩:=hcons p hp j hj;exact hAp r hr q hq (fun e=>hn (e▸hj)) (hcal r hr hj) ha b hb
   refine ih g (listed.setIfInBounds p.1 true) (updV y p.2 v) w' (fun j=>if j=p.1 then F' else Φ j) ?_ (by simpa using hsz) ?_ ?_ ?_ (hSst _ _ _ hS hm (fun b hb=>(hTk b hb).1)) (hm.below hB hB.size (fun b hb=>(hTk b hb).1)) ?_ ?_ oM
   ·rw[hg];refine fAu hno hp (by rw[hiun];rfl) (by rw[hself'];rfl) (fun q hq hne=>?_);rw[hoth _ (fun c=>hne (hinj q hq c.symm))]
   ·rw[hoth _ (fun h=>hit h)];exact htun
   ·
    intro j hj hju;by_cases e:p.1=j
    ·subst e;rw[hself'] at hju;cases hju
    rw[hoth _ e] at hju;exact hall j hj hju
   ·
    intro q hq hql r hr hw;by_cases e:p.1=r.1
    ·rw[←e];exact hself'
    rw[hoth _ e];by_cases e2:p.1=q.1
    ·rw[←e2] at hw;exact hdep r.1 (hLlt r hr) hw
    rw[hoth _ e2] at hql;exact hdown q hq hql r hr hw
   ·
    intro q hq ha;by_cases e:q.1=p.1
    ·
     have e2:=hinj q hq e;subst e2;simp only[if_true];refine⟨fun b hb=>?_,hGp⟩;rcases hF' b hb with h|h
     ·have:=hTk b h;have:=hm.size;omega
     have:=hB.size;omega
    obtain⟨h1,h2⟩:=hback q hq e ha;simp only[if_neg e];obtain⟨g1,g2⟩:=hGs q hq h1;refine⟨fun b hb=>⟨(g1 b hb).1,Nat.lt_of_lt_of_le (g1 b hb).2 hm.size⟩,hG q hq y (updV y p.2 v) _ _ w w' g2 g1 hm (hTq q hq h1 h2) (fun b hb=>(hTk b hb).1) ?_ ?_⟩
    ·exact if_neg (fun c=>e (by rw[hinj2 q hq c]))
    intro r hr hw;refine if_neg (fun c=>?_);have e3:=hinj2 r hr c;subst e3;rw[hdown q hq h1.1 _ hr hw] at hiun;cases hiun
   intro q hq r hr hne hqa hra;by_cases e:q.1=p.1
   ·
    have e':r.1≠p.1:=fun c=>hne (e.trans c.symm)
    obtain⟨h1,h2⟩:=hback r hr e' hra;simp only[if_pos e,if_neg e'];intro b hb hb2;rcases hF' b hb with h|h
    ·exact hTq r hr h1 h2 b h hb2
    have:=((hGs r hr h1).1 b hb2).2;omega
   obtain⟨h1,h2⟩:=hback q hq e hqa;by_cases e':r.1=p.1
   ·
    simp only[if_neg e,if_pos e'];intro b hb hb2;rcases hF' b hb2 with h|h
    ·exact hTq q hq h1 h2 b h hb
    have:=((hGs q hq h1).1 b hb).2;omega
   obtain⟨h3,_⟩:=hback r hr e' hra;simp only[if_neg e,if_neg e'];exact hAp q hq r hr hne h1 h3
 have h0:=H f f listed (fun s=>a0.tmps.getD s undef) w0 (fun _ _=>False) (by
  rw[hf,List.filter_eq_self.2 (fun p hp=>by rw[hun.2 p hp];rfl)]) hsz hun.1 hall (fun p hp h=>by rw[hun.2 p hp] at h;cases h) hS (bR _ _) (fun q hq h=>by have h:=h.1;rw[hun.2 q hq] at h;cases h) (fun q hq r hr hne h=>by have h:=h.1;rw[hun.2 q hq] at h;cases h) (Nat.le_refl _)
 rw[over_self] at h0;exact h0
def fV6 (md:Region.Mode) (ops:Array Oper) (listed:Array Bool) (t f:Nat) (L:List (Nat × Nat)) (cons:Nat→List Nat):Bool:=
 fN2 md ops listed t f L&&(L.all fun p=>(cons p.1).all fun j=>waitsFor md ops p.1 j&&L.any fun q=>decide (q.1=j))&&(L.all fun p=>L.all fun r=>decide (p.1=r.1)||(cons p.1).all fun j=>decide (j ∉ cons r.1))
theorem fAd (L:List (Nat × Nat)) (cons:Nat→List Nat) (G:Nat→(Nat→Value)→(Nat→Prop)→World→Prop) {f:Nat} {listed:Array Bool} {a0:Act} {w0:World} (hc:fV6 md ops listed t f L cons=true)
  (hS:S w0) (hSst:∀(F:Nat→Prop) (w w':World),S w→Mod F w w'→(∀b,F b→w0.heap.size≤b)→S w')
  (hG:∀p ∈ L,∀(y y':Nat→Value) (F F':Nat→Prop) (w w':World),G p.1 y F w→FIn w0 w F→Mod F' w w'→yO F' F→(∀b,F' b→w0.heap.size≤b)→y' p.2=y p.2→(∀q ∈ L,waitsFor md ops p.1 q.1=true→y' q.2=y q.2)→G p.1 y' F w')
  (hstep:∀p ∈ L,fXh P md ops Q S L cons G a0 w0 p)
  (hlast:∃o,ops[t]? = some o∧∀(y:Nat→Value) (w:World) (Φ:Nat→Nat→Prop),S w→Below w0.heap.size w0 w→(∀q ∈ L,(∀r ∈ L,q.1 ∉ cons r.1)→FIn w0 w (Φ q.1)∧G q.1 y (Φ q.1) w)→(∀q ∈ L,∀r ∈ L,q.1≠r.1→(∀p ∈ L,q.1 ∉ cons p.1)→(∀p ∈ L,r.1 ∉ cons p.1)→yO (Φ q.1) (Φ r.1)) →
   ∀K:Act→World→Prop,(∀a' w',Q .normal a' w'→K a' w')→Shut (if Region.wanted o (yielded ops (over a0 (L.map Prod.snd) y).tmps)=true then Oper.wp P o (over a0 (L.map Prod.snd) y) w K Q else K ((over a0 (L.map Prod.snd) y).put o.dst undef) w)) :
  gW P md ops Q S t f listed a0 w0:=by
 unfold fV6 fN2 at hc;simp only[Bool.and_eq_true,decide_eq_true_eq,List.all_eq_true,List.any_eq_true,Bool.or_eq_true,Bool.not_eq_true',List.mem_range] at hc;obtain⟨⟨⟨⟨⟨⟨⟨⟨⟨⟨⟨h1,h2⟩,h3⟩,h4⟩,h5⟩,h6⟩,h7⟩,h8⟩,h9⟩,h10⟩,h11⟩,h13⟩:=hc;refine fUa L cons G h1 h2 (Option.isSome_iff_exists.1 h3) (fun i hi hu=>?_) ⟨h5,h6⟩ h7 h8 h9 h10 h11 (fun p hp r hr hne=>(h13 p hp r hr).resolve_left hne) hS hSst hG hstep hlast;rcases h4 i hi with (h|h)|h
 ·rw[hu] at h;cases h
 ·exact .inl h
 exact .inr h
end
end
section
variable [dQ Leg] [iH Leg] [dQ Mrk] [iH Mrk] [dQ Bal] [iH Bal]
theorem fJo (Y:World) {o:Oper} {a:Act} {K:Act→World→Prop} {Q:Exit→Act→World→Prop} (hgd:o.guard=none) (s x:Operand) (t:TypeId)
  (ho:o.op =.call {callee:=.builtin .append,args:=#[s,x],argTypes:=#[t,t]})
  (e:TypeId) (i:TypeInfo) (z:Value) (size bytes:Nat) (ht:Tryz.prog.underlying t=some (.slice e)) (hi:Tryz.prog.info? e=some i) (hz:i.zero=some z)
  (hsize:i.size=size) (hby:i.bytes=bytes) (hzs:z.cells.size=size) (hsz:0<size) (hbs:bytes≤64)
  (base:Nat) (v:Value) (F1:Nat→Prop) (n:Nat) (cs:List Value) (hs:a.eval s=v) (u:Value) (m:Nat) (ds:List Value) (hx:a.eval x=u)
  (hown:Y.ownsRow base e size v n cs∧F1=(fun b=>v.ownBlock=some b)) (hsrc:gU Y u m ds) (hl:ds.length=m*size) (h1:∀y ∈ ds,y.oneCell'=true) (hlen:n+m≤1073741824) (hbase:base≤Y.heap.size)
  (h:∀v' w',(w'.ownsRow base e size v' (n+m) (cs++ds)∧(fun b=>v'.ownBlock=some b)=(fun b=>v'.ownBlock=some b))→Mod F1 Y w'→(∀b,v'.ownBlock=some b→F1 b∨(Y.heap.size≤b∧b<w'.heap.size))→K (a.put o.dst v') w'):Oper.wp Tryz.prog o a Y K Q:=by
 obtain⟨hown,hF1⟩:=hown;rcases hsrc with ⟨c,rfl,hm,hd⟩|⟨ad,c,rfl,hc⟩
 ·subst hm hd;have hr:=uY (P:=Tryz.prog) Y base t o.type e i size c ht hi v n cs hown;unfold Oper.wp execOp;simp only[ho,resolve,invoke,builtin,Sem.run_bind,Sem.run_pure,Result.andThen_ok,List.map_toArray,List.map_cons,List.map_nil,hs,hx,hr];refine h v Y ⟨?_,rfl⟩ (Mod.refl _ _) (fun b hb=>.inl (by rw[hF1];exact hb));rw[List.append_nil,Nat.add_zero];exact hown
 have h0:=fAm (E:=True) (ops:=#[]) (Q:=Q) (K:=K) Y hgd s x t ho base e i z size bytes ht hi hz hsize hby hzs hsz v n cs hs hown ad m c ds hx hl hc h1 (by unfold maxLen;omega) (Nat.le_trans (Nat.mul_le_mul hlen hbs) (by decide)) hbase (by
  intro v' w' h1 h2 h3;refine h v' w' ⟨h1,rfl⟩ (by rw[hF1];exact Mod.of_grown h2) (fun b hb=>?_);rcases h3 with h3|h3
  ·exact .inl (by rw[hF1];exact h3▸hb)
  rw[h3] at hb;simp only[Option.some.injEq] at hb;have:=(h1.lt b (by rw[h3,hb])).2;exact .inr ⟨oM,this⟩)
 rwa [if_pos (by simp[Region.wanted,hgd])] at h0
theorem mR {c:Bool} {A B:Prop} (hc:c=true) (h:A):if c=true then A else B:=by rw[if_pos hc];exact h
theorem zQ (Y:World) {o:Oper} {a:Act} {K:Act→World→Prop} {Q:Exit→Act→World→Prop} (hgd:o.guard=none) (s x:Operand)
  (ho:o.op =.call {callee:=.builtin .append,args:=#[s,x],argTypes:=#[37,37]})
  (base:Nat) (v:Value) (F1:Nat→Prop) (xs:List Mrk) (hs:a.eval s=v) (u:Value) (ys:List Mrk) (hx:a.eval x=u)
  (hown:mrksR.O Y base F1 v xs) (hsrc:gU Y u ys.length (gK ys)) (hlen:xs.length+ys.length≤1073741824) (hbase:base≤Y.heap.size)
  (h:∀v' w' F',mrksR.O w' base F' v' (xs++ys)→Mod F1 Y w'→(∀b,F' b→F1 b∨(Y.heap.size≤b∧b<w'.heap.size))→K (a.put o.dst v') w'):Oper.wp Tryz.prog o a Y K Q:=by
 obtain⟨i0,hi,hz0,hz1,hz2⟩:=info_parts fCm;refine fJo Y hgd s x 37 ho 166 i0 _ 2 16 Tryz.underlying37 hi hz0 hz1 hz2 rfl (by decide) (by decide) base v F1 xs.length (gK xs) hs u ys.length (gK ys) hx hown hsrc (by rw[vN]) (fHo ys) hlen hbase ?_;intro v' w' h1 h2 h3;refine h v' w' _ ⟨?_,rfl⟩ h2 h3;rw[List.length_append,fHn];exact h1.1
theorem fLn (Y:World) {o:Oper} {a:Act} {K:Act→World→Prop} {Q:Exit→Act→World→Prop} (hgd:o.guard=none) (s x:Operand)
  (ho:o.op =.call {callee:=.builtin .append,args:=#[s,x],argTypes:=#[30,30]})
  (base:Nat) (v:Value) (F1:Nat→Prop) (xs:List Bal) (hs:a.eval s=v) (u:Value) (ys:List Bal) (hx:a.eval x=u)
  (hown:balsR.O Y base F1 v xs) (hsrc:gU Y u ys.length (kX ys)) (hlen:xs.length+ys.length≤1073741824) (hbase:base≤Y.heap.size)
  (h:∀v' w' F',balsR.O w' base F' v' (xs++ys)→Mod F1 Y w'→(∀b,F' b→F1 b∨(Y.heap.size≤b∧b<w'.heap.size))→K (a.put o.dst v') w'):Oper.wp Tryz.prog o a Y K Q:=by
 obtain⟨i0,hi,hz0,hz1,hz2⟩:=info_parts fAx;refine fJo Y hgd s x 30 ho 103 i0 _ 3 24 Tryz.underlying30 hi hz0 hz1 hz2 rfl (by decide) (by decide) base v F1 xs.length (kX xs) hs u ys.length (kX ys) hx hown hsrc (by rw[qV]) (fCb ys) hlen hbase ?_;intro v' w' h1 h2 h3;refine h v' w' _ ⟨?_,rfl⟩ h2 h3;rw[List.length_append,fCa];exact h1.1
theorem fUd (Y:World) {o:Oper} {a:Act} {K:Act→World→Prop} {Q:Exit→Act→World→Prop} (hgd:o.guard=none) (s x:Operand)
  (ho:o.op =.call {callee:=.builtin .append,args:=#[s,x],argTypes:=#[39,39]})
  (base:Nat) (v:Value) (F1:Nat→Prop) (xs:List Int) (hs:a.eval s=v) (u:Value) (ys:List Int) (hx:a.eval x=u)
  (hown:intsR.O Y base F1 v xs) (hsrc:gU Y u ys.length (kM ys)) (hlen:xs.length+ys.length≤1073741824) (hbase:base≤Y.heap.size)
  (h:∀v' w' F',intsR.O w' base F' v' (xs++ys)→Mod F1 Y w'→(∀b,F' b→F1 b∨(Y.heap.size≤b∧b<w'.heap.size))→K (a.put o.dst v') w'):Oper.wp Tryz.prog o a Y K Q:=by
 obtain⟨i0,hi,hz0,hz1,hz2⟩:=info_parts fCl;refine fJo Y hgd s x 39 ho 2 i0 _ 1 8 Tryz.underlying39 hi hz0 hz1 hz2 rfl (by decide) (by decide) base v F1 xs.length (kM xs) hs u ys.length (kM ys) hx hown hsrc (by rw[yH,Nat.mul_one]) (fG4 ys) hlen hbase ?_;intro v' w' h1 h2 h3;refine h v' w' _ ⟨?_,rfl⟩ h2 h3;rw[List.length_append,zY];exact h1.1
theorem fTb (Y:World) (base:Nat) (hb:base≤Y.heap.size):mrksR.O (Y.alloc (.cells #[] 166)) base (fun b=>b=Y.heap.size) (.slice (some ⟨Y.heap.size,0,none⟩) 0 0) []:=
 ⟨World.ownsRow_lit (base:=base) (e:=166) (size:=2) Y #[] 0 hb (by decide) rfl,by funext b;simp[Value.ownBlock,eq_comm]⟩
theorem fV9 (Y:World) (base:Nat) (hb:base≤Y.heap.size):balsR.O (Y.alloc (.cells #[] 103)) base (fun b=>b=Y.heap.size) (.slice (some ⟨Y.heap.size,0,none⟩) 0 0) []:=
 ⟨World.ownsRow_lit (base:=base) (e:=103) (size:=3) Y #[] 0 hb (by decide) rfl,by funext b;simp[Value.ownBlock,eq_comm]⟩
theorem fXz (Y:World) (base:Nat) (hb:base≤Y.heap.size):intsR.O (Y.alloc (.cells #[] 2)) base (fun b=>b=Y.heap.size) (.slice (some ⟨Y.heap.size,0,none⟩) 0 0) []:=
 ⟨World.ownsRow_lit (base:=base) (e:=2) (size:=1) Y #[] 0 hb (by decide) rfl,by funext b;simp[Value.ownBlock,eq_comm]⟩
variable [dQ Cont] [iH Cont] [dQ Shd] [iH Shd]
theorem Mod.frz10 {F:Nat→Prop} {w w':World} (h:Mod F w w') {a:Addr} (hl:a.block<w.heap.size) (hn:¬F a.block):w'.frozen? a=w.frozen? a:=World.frozen?_of_block (h.block a.block hl hn)
theorem Mod.low {F:Nat→Prop} {w w1 w2:World} (h:Mod F w w1) (k:Below w.heap.size w1 w2):Mod F w w2:=
 ⟨k.os.trans h.os,k.tape.trans h.tape,k.output.trans h.output,Nat.le_trans h.size k.size,fun i hi hn=>(k.block i hi).trans (h.block i hi hn)⟩
theorem tT {n:Nat} {w w':World} {a:Addr} {v:Value} (h:Below n w w') (hb:a.block<n) (hc:w.cell? a=some v):w'.cell? a=some v:=(h.cell (p:=a) hb).trans hc
theorem fNl (w:World) {ops:Array Oper} {o:Oper} {a:Act} {K:Act→World→Prop} {Q:Exit→Act→World→Prop} {E:Prop} (hgd:o.guard=none) (s x:Operand)
  (ho:o.op =.call {callee:=.builtin .append,args:=#[s,x],argTypes:=#[38,38]})
  (base:Nat) (F Fu:Nat→Prop) (v:Value) (xs:List Cont) (y:Cont) (g:Nat) (p:Option Addr) (q:Nat) (hs:a.eval s=v) (hx:a.eval x =.slice (some ⟨g,0,none⟩) 1 1) (hown:contsR.O w base F v xs) (hu:contR.O w base Fu (.agg #[.int .i64 y.id,.slice p y.legs.length q]) y) (hd:∀b,F b→¬Fu b)
  (hc:w.cell? ⟨g,0,none⟩=some (.int .i64 y.id)∧w.cell? ⟨g,1,none⟩=some (.slice p y.legs.length q)) (hn:xs.length≤2000000) (hbase:base≤w.heap.size)
  (h:∀v' w' F',contsR.O w' base F' v' (xs++[y])→Below base w w'→(∀b,F' b→F b∨Fu b∨w.heap.size≤b)→K (a.put o.dst v') w') :
  if Region.wanted o (yielded ops a.tmps)=true then Oper.wp Tryz.prog o a w K Q else E:=by
 obtain⟨i0,hi,hz0,hz1,hz2⟩:=info_parts qZ;exact fT4 w hgd s x 38 ho 57 i0 _ 2 32 Tryz.underlying38 hi hz0 hz1 hz2 rfl (by decide) (by decide) base F Fu v _ xs y ⟨g,0,none⟩ 1 hs hx hown hu rfl (fun z hz=>by
  simp[kL,one] at hz;rcases hz with rfl|rfl <;> rfl) hd (fun j y' hj=>by
  match j,hj with
  | 0,hj=>simp[kL,one] at hj;subst hj;simpa [Addr.add] using hc.1
  | 1,hj=>simp[kL,one] at hj;subst hj;simpa [Addr.add] using hc.2
  | j+2,hj=>simp[kL,one] at hj) hn hbase h
def fCg:Nat→List Nat
 | 5=>[2]
 | 9=>[6]
 | 13=>[10]
 | 17=>[14]
 | _=>[]
def rT (base:Nat) (d:Shd):Nat→(Nat→Value)→(Nat→Prop)→World→Prop
 | 2,y,F,w=>balsR.O w base F (y 7) []
 | 5,y,F,w=>(∃a c,y 10 =.slice a d.bals.length c)∧balsR.O w base F (y 10) d.bals
 | 6,y,F,w=>mrksR.O w base F (y 11) []
 | 9,y,F,w=>(∃a c,y 14 =.slice a d.votes.length c)∧mrksR.O w base F (y 14) d.votes
 | 10,y,F,w=>mrksR.O w base F (y 15) []
 | 13,y,F,w=>(∃a c,y 18 =.slice a d.done.length c)∧mrksR.O w base F (y 18) d.done
 | 14,y,F,w=>intsR.O w base F (y 19) []
 | 17,y,F,w=>(∃a c,y 22 =.slice a d.appl.length c)∧intsR.O w base F (y 22) d.appl
 | 18,y,F,w=>y 23 =.agg #[.int .i64 d.idx,y 10,y 14,.slice none 0 0,y 18,y 22]
 | 19,y,F,w=>∃B,y 3 =.pointer (some ⟨B,0,none⟩)∧F B∧base≤B∧B<w.heap.size∧(w.cell? ⟨B,0,none⟩=some (.int .i64 0)∧w.cell? ⟨B,1,none⟩=some (.slice none 0 0)∧w.cell? ⟨B,2,none⟩=some (.slice none 0 0)∧w.cell? ⟨B,3,none⟩=some (.slice none 0 0)∧w.cell? ⟨B,4,none⟩=some (.slice none 0 0)∧w.cell? ⟨B,5,none⟩=some (.slice none 0 0))∧∀o,w.frozen? ⟨B,o,none⟩=false
 | _,_,_,_=>True
theorem fKp (x:Value) (d:Shd) (w:World) (hx:shdR.V w x d) (hn:d.bals.length≤1048576∧d.votes.length≤1048576∧d.held.length≤1048576∧d.done.length≤1048576∧d.appl.length≤1048576) (hll:∀k,k<d.held.length→(d.held.getD k default).legs.length≤1048576) :
  Calls Tryz.prog 152 #[x] w fun e w'=>∃v F,e =.returned v∧shdR.O w' w.heap.size F v d∧Below w.heap.size w w':=by
 obtain⟨u1,u2,u3,u4,u5,rfl,h1,h2,h3,h4,h5⟩:=hx;have HX3:Hid (∃a c,u3 =.slice a d.held.length c∧d.held.length≤c∧c≤maxLen∧∀k,k<d.held.length→∃b o p q,a=some ⟨b,o,none⟩∧w.cell? ⟨b,o+k*2,none⟩=some (.int .i64 (d.held.getD k default).id)∧w.cell? ⟨b,o+k*2+1,none⟩=some (.slice p (d.held.getD k default).legs.length q)∧contR.V w (.agg #[.int .i64 (d.held.getD k default).id,.slice p (d.held.getD k default).legs.length q]) (d.held.getD k default)):=fGx h3;have HA1:Hid (bW w fun W=>gU W u1 d.bals.length (kX d.bals)):=fun W hW=>rR (balsR.below h1 hW)
 have HA2:Hid (bW w fun W=>gU W u2 d.votes.length (gK d.votes)):=fun W hW=>qW (mrksR.below h2 hW)
 have HA4:Hid (bW w fun W=>gU W u4 d.done.length (gK d.done)):=fun W hW=>qW (mrksR.below h4 hW)
 have HA5:Hid (bW w fun W=>gU W u5 d.appl.length (kM d.appl)):=fun W hW=>fD2 (intsR.below h5 hW)
 obtain⟨a1,c1,rfl⟩:=fP h1;obtain⟨a2,c2,rfl⟩:=fF h2;obtain⟨a3,c3,rfl⟩:=fM h3;obtain⟨a4,c4,rfl⟩:=fF h4;obtain⟨a5,c5,rfl⟩:=gJ h5;obtain⟨_,_,e3,hc3,hm3,hx3⟩:=HX3.out;simp only[Value.slice.injEq,true_and] at e3;obtain⟨rfl,rfl⟩:=e3;unfold maxLen at hm3;have HX:Hid (∀k,k<d.held.length→∃b o p q,a3=some ⟨b,o,none⟩∧w.cell? ⟨b,o+k*2,none⟩=some (.int .i64 (d.held.getD k default).id)∧w.cell? ⟨b,o+k*2+1,none⟩=some (.slice p (d.held.getD k default).legs.length q)∧contR.V w (.agg #[.int .i64 (d.held.getD k default).id,.slice p (d.held.getD k default).legs.length q]) (d.held.getD k default)):=hx3;clear h1 h2 h3 h4 h5 HX3 hx3;have HLl:Hid (∀k,k<d.held.length→(d.held.getD k default).legs.length≤1048576):=hll;have HLn:Hid (d.bals.length≤1048576∧d.votes.length≤1048576∧d.held.length≤1048576∧d.done.length≤1048576∧d.appl.length≤1048576):=hn;clear hll hn;obtain⟨n3,hn3⟩:∃n3,n3=d.held.length:=⟨_,rfl⟩
 have HN:Hid (d.held.length=n3):=hn3.symm;rw[←hn3] at hc3 HX HLl ⊢;clear hn3;have h3n:n3≤1048576:=by rw[←HN.out];exact HLn.out.2.2.1
 go_enter Tryz.func152,Tryz.ntmps152;go_wp2;obtain⟨wq,hwq⟩:∃wq,wq=(w.alloc (.cells #[.int .i64 d.idx,.slice a1 d.bals.length c1,.slice a2 d.votes.length c2,.slice a3 n3 c3,.slice a4 d.done.length c4,.slice a5 d.appl.length c5] 41)).alloc (.cells #[.int .i64 0,.slice none 0 0,.slice none 0 0,.slice none 0 0,.slice none 0 0,.slice none 0 0] 41):=⟨_,rfl⟩
 have y0:wq.cell? ⟨w.heap.size,0,none⟩=some (.int .i64 d.idx):=by rw[hwq];simp[go_sem]
 have y1:wq.cell? ⟨w.heap.size,1,none⟩=some (.slice a1 d.bals.length c1):=by rw[hwq];simp[go_sem]
 have y2:wq.cell? ⟨w.heap.size,2,none⟩=some (.slice a2 d.votes.length c2):=by rw[hwq];simp[go_sem]
 have y3:wq.cell? ⟨w.heap.size,3,none⟩=some (.slice a3 n3 c3):=by rw[hwq];simp[go_sem]
 have y4:wq.cell? ⟨w.heap.size,4,none⟩=some (.slice a4 d.done.length c4):=by rw[hwq];simp[go_sem]
 have y5:wq.cell? ⟨w.heap.size,5,none⟩=some (.slice a5 d.appl.length c5):=by rw[hwq];simp[go_sem]
 have r0:wq.cell? ⟨w.heap.size+1,0,none⟩=some (.int .i64 0):=by rw[hwq];simp[go_sem]
 have r1:wq.cell? ⟨w.heap.size+1,1,none⟩=some (.slice none 0 0):=by rw[hwq];simp[go_sem]
 have r2:wq.cell? ⟨w.heap.size+1,2,none⟩=some (.slice none 0 0):=by rw[hwq];simp[go_sem]
 have r3:wq.cell? ⟨w.heap.size+1,3,none⟩=some (.slice none 0 0):=by rw[hwq];simp[go_sem]
 have r4:wq.cell? ⟨w.heap.size+1,4,none⟩=some (.slice none 0 0):=by rw[hwq];simp[go_sem]
 have r5:wq.cell? ⟨w.heap.size+1,5,none⟩=some (.slice none 0 0):=by rw[hwq];simp[go_sem]
 have rf:∀o,wq.frozen? ⟨w.heap.size+1,o,none⟩=false:=fun o=>by rw[hwq];simp[go_sem]
 have hBq:Below w.heap.size w wq:=by rw[hwq];exact qBq
 have zq:w.heap.size+1<wq.heap.size:=by rw[hwq];simp
 rw[←hwq];clear hwq;refine wp_region_noPanic ?_;refine fB (fun W=>Below wq.heap.size wq W∧W.cell? ⟨w.heap.size,0,none⟩=some (.int .i64 d.idx)∧W.cell? ⟨w.heap.size,1,none⟩=some (.slice a1 d.bals.length c1)∧W.cell? ⟨w.heap.size,2,none⟩=some (.slice a2 d.votes.length c2)∧W.cell? ⟨w.heap.size,3,none⟩=some (.slice a3 n3 c3)∧W.cell? ⟨w.heap.size,4,none⟩=some (.slice a4 d.done.length c4)∧W.cell? ⟨w.heap.size,5,none⟩=some (.slice a5 d.appl.length c5)) 20 kF ⟨qBq,cK qBq y0,cK qBq y1,cK qBq y2,cK qBq y3,cK qBq y4,cK qBq y5⟩ (fun hS=>?_);refine tY 0 ?_;refine tY 1 ?_;refine tY 3 ?_;refine tY 4 ?_;refine tY 7 ?_;refine tY 8 ?_;refine tY 11 ?_;refine tY 12 ?_;refine tY 15 ?_;refine tY 16 ?_;have hb0:Below wq.heap.size wq wq.drew:=Below.drew (bR _ _);generalize wq.drew=W0 at *;have hs10:=hb0.size;have hz0:w.heap.size+1<W0.heap.size:=oM;refine fAd [(2,7),(5,10),(6,11),(9,14),(10,15),(13,18),(14,19),(17,22),(18,23),(19,3)] fCg (rT W0.heap.size d) kF hS ?_ ?_ ?_ ?_
 ·
  intro F W W' h hm hF;have hne:¬F w.heap.size:=fun e=>by have:=hF _ e;omega
  exact⟨hm.below h.1 h.1.size (fun b hb=>by have:=hF b hb;omega),hm.cell h.2.1 hne,hm.cell h.2.2.1 hne,hm.cell h.2.2.2.1 hne,hm.cell h.2.2.2.2.1 hne,hm.cell h.2.2.2.2.2.1 hne,hm.cell h.2.2.2.2.2.2 hne⟩
 ·
  intro p hp;simp only[List.mem_cons,List.not_mem_nil,or_false] at hp;rcases hp with rfl|rfl|rfl|rfl|rfl|rfl|rfl|rfl|rfl|rfl
  all_goals
   intro y y' F F' W W' h hF hm hap hF' e he
  ·simp only[rT] at h ⊢;rw[e];exact balsR.mod h hm (fun b hb hf=>hap b hf hb)
  ·simp only[rT] at h ⊢;rw[e];exact⟨h.1,balsR.mod h.2 hm (fun b hb hf=>hap b hf hb)⟩
  ·simp only[rT] at h ⊢;rw[e];exact mrksR.mod h hm (fun b hb hf=>hap b hf hb)
  ·simp only[rT] at h ⊢;rw[e];exact⟨h.1,mrksR.mod h.2 hm (fun b hb hf=>hap b hf hb)⟩
  ·simp only[rT] at h ⊢;rw[e];exact mrksR.mod h hm (fun b hb hf=>hap b hf hb)
  ·simp only[rT] at h ⊢;rw[e];exact⟨h.1,mrksR.mod h.2 hm (fun b hb hf=>hap b hf hb)⟩
  ·simp only[rT] at h ⊢;rw[e];exact intsR.mod h hm (fun b hb hf=>hap b hf hb)
  ·simp only[rT] at h ⊢;rw[e];exact⟨h.1,intsR.mod h.2 hm (fun b hb hf=>hap b hf hb)⟩
  ·have e1:=he (5,10) (by simp) kF;have e2:=he (9,14) (by simp) kF;have e3:=he (13,18) (by simp) kF;have e4:=he (17,22) (by simp) kF;simp only[rT] at h ⊢;rw[e,e1,e2,e3,e4];exact h
  simp only[rT] at h ⊢;rw[e];obtain⟨B,h1,h2,h3,h3',⟨g0,g1,g2,g3,g4,g5⟩,h4⟩:=h;have hne:¬F' B:=fun hf=>hap B hf h2
  exact⟨B,h1,h2,h3,Nat.lt_of_lt_of_le h3' hm.size,⟨hm.cell g0 hne,hm.cell g1 hne,hm.cell g2 hne,hm.cell g3 hne,hm.cell g4 hne,hm.cell g5 hne⟩,fun o=>(hm.frz10 (a:=⟨B,o,none⟩) h3' hne).trans (h4 o)⟩
 ·
  intro p hp;simp only[List.mem_cons,List.not_mem_nil,or_false] at hp;rcases hp with rfl|rfl|rfl|rfl|rfl|rfl|rfl|rfl|rfl|rfl
  all_goals
   refine⟨_,rfl,rfl,?_⟩;intro y W Φ hSW hBW hd K hK
  ·clear hd;refine⟨?_⟩;simp only[over,jX,lZ] at hK ⊢;go_simp;refine hK _ _ (fun b=>b=W.heap.size) (Mod.of_below qBq) (fun b hb=>.inr (by rw[hb];simp)) ?_;simp only[rT,updV];exact fV9 W _ hBW.size
  ·
   have g0:=(hd (2,7) (by simp) kF (.inl (by simp[fCg]))).2;clear hd;simp only[rT] at g0;refine⟨?_⟩;simp only[over,jX,lZ] at hK ⊢;refine mR rfl ?_;refine fLn W ?hg1 (.tmp 7) (.tmp 9) ?ho1 W0.heap.size (y 7) (Φ 2) [] ?hs1 (.slice a1 d.bals.length c1) d.bals ?hx1 g0 (HA1.out W (bS hBq hSW.1)) (by have:=HLn.out;simp;omega) hBW.size ?_
   case hg1=>rfl
   case ho1=>rfl
   case hs1=>rfl
   case hx1=>rfl
   intro v' w' F' hO hm hl;simp only[List.nil_append] at hO;refine hK _ _ F' (hm.mono (fun b hb=>⟨2,by simp[fCg],hb⟩)) (fun b hb=>(hl b hb).imp (fun h=>⟨2,by simp[fCg],h⟩) (fun h=>h)) ?_;simp only[rT,updV];obtain⟨av,cv,hv⟩:=fD hO.1;exact⟨⟨av,cv,by simpa using hv⟩,by simpa using hO⟩
  ·clear hd;refine⟨?_⟩;simp only[over,jX,lZ] at hK ⊢;go_simp;refine hK _ _ (fun b=>b=W.heap.size) (Mod.of_below qBq) (fun b hb=>.inr (by rw[hb];simp)) ?_;simp only[rT,updV];exact fTb W _ hBW.size
  ·
   have g0:=(hd (6,11) (by simp) kF (.inl (by simp[fCg]))).2;clear hd;simp only[rT] at g0;refine⟨?_⟩;simp only[over,jX,lZ] at hK ⊢;refine mR rfl ?_;refine zQ W ?hg1 (.tmp 11) (.tmp 13) ?ho1 W0.heap.size (y 11) (Φ 6) [] ?hs1 (.slice a2 d.votes.length c2) d.votes ?hx1 g0 (HA2.out W (bS hBq hSW.1)) (by have:=HLn.out;simp;omega) hBW.size ?_
   case hg1=>rfl
   case ho1=>rfl
   case hs1=>rfl
   case hx1=>rfl
   intro v' w' F' hO hm hl;simp only[List.nil_append] at hO;refine hK _ _ F' (hm.mono (fun b hb=>⟨6,by simp[fCg],hb⟩)) (fun b hb=>(hl b hb).imp (fun h=>⟨6,by simp[fCg],h⟩) (fun h=>h)) ?_;simp only[rT,updV];obtain⟨av,cv,hv⟩:=fD hO.1;exact⟨⟨av,cv,by simpa using hv⟩,by simpa using hO⟩
  ·clear hd;refine⟨?_⟩;simp only[over,jX,lZ] at hK ⊢;go_simp;refine hK _ _ (fun b=>b=W.heap.size) (Mod.of_below qBq) (fun b hb=>.inr (by rw[hb];simp)) ?_;simp only[rT,updV];exact fTb W _ hBW.size
  ·
   have g0:=(hd (10,15) (by simp) kF (.inl (by simp[fCg]))).2;clear hd;simp only[rT] at g0;refine⟨?_⟩;simp only[over,jX,lZ] at hK ⊢;refine mR rfl ?_;refine zQ W ?hg1 (.tmp 15) (.tmp 17) ?ho1 W0.heap.size (y 15) (Φ 10) [] ?hs1 (.slice a4 d.done.length c4) d.done ?hx1 g0 (HA4.out W (bS hBq hSW.1)) (by have:=HLn.out;simp;omega) hBW.size ?_
   case hg1=>rfl
   case ho1=>rfl
   case hs1=>rfl
   case hx1=>rfl
   intro v' w' F' hO hm hl;simp only[List.nil_append] at hO;refine hK _ _ F' (hm.mono (fun b hb=>⟨10,by simp[fCg],hb⟩)) (fun b hb=>(hl b hb).imp (fun h=>⟨10,by simp[fCg],h⟩) (fun h=>h)) ?_;simp only[rT,updV];obtain⟨av,cv,hv⟩:=fD hO.1;exact⟨⟨av,cv,by simpa using hv⟩,by simpa using hO⟩
  ·clear hd;refine⟨?_⟩;simp only[over,jX,lZ] at hK ⊢;go_simp;refine hK _ _ (fun b=>b=W.heap.size) (Mod.of_below qBq) (fun b hb=>.inr (by rw[hb];simp)) ?_;simp only[rT,updV];exact fXz W _ hBW.size
  ·
   have g0:=(hd (14,19) (by simp) kF (.inl (by simp[fCg]))).2;clear hd;simp only[rT] at g0;refine⟨?_⟩;simp only[over,jX,lZ] at hK ⊢;refine mR rfl ?_;refine fUd W ?hg1 (.tmp 19) (.tmp 21) ?ho1 W0.heap.size (y 19) (Φ 14) [] ?hs1 (.slice a5 d.appl.length c5) d.appl ?hx1 g0 (HA5.out W (bS hBq hSW.1)) (by have:=HLn.out;simp;omega) hBW.size ?_
   case hg1=>rfl
   case ho1=>rfl
   case hs1=>rfl
   case hx1=>rfl
   intro v' w' F' hO hm hl;simp only[List.nil_append] at hO;refine hK _ _ F' (hm.mono (fun b hb=>⟨14,by simp[fCg],hb⟩)) (fun b hb=>(hl b hb).imp (fun h=>⟨14,by simp[fCg],h⟩) (fun h=>h)) ?_;simp only[rT,updV];obtain⟨av,cv,hv⟩:=fD hO.1;exact⟨⟨av,cv,by simpa using hv⟩,by simpa using hO⟩
  ·have g1:=(hd (5,10) (by simp) kF (.inr (by decide))).2;have g2:=(hd (9,14) (by simp) kF (.inr (by decide))).2;have g3:=(hd (13,18) (by simp) kF (.inr (by decide))).2;have g4:=(hd (17,22) (by simp) kF (.inr (by decide))).2;clear hd;simp only[rT] at g1 g2 g3 g4;obtain⟨⟨q1,s1,e1⟩,_⟩:=g1;obtain⟨⟨q2,s2,e2⟩,_⟩:=g2;obtain⟨⟨q3,s3,e3⟩,_⟩:=g3;obtain⟨⟨q4,s4,e4⟩,_⟩:=g4;refine⟨?_⟩;simp only[over,jX,lZ] at hK ⊢;simp only[e1,e2,e3,e4] at hK ⊢;go_simp;refine hK _ _ (fun _=>False) (Mod.refl _ _) (fun b hb=>hb.elim) ?_;simp only[rT,updV];simp[e1,e2,e3,e4]
  clear hd;have hbw:=hBW.size;refine⟨?_⟩;simp only[over,jX,lZ] at hK ⊢;go_simp;refine hK _ _ (fun b=>b=W.heap.size) (Mod.of_below qBq) (fun b hb=>.inr (by rw[hb];simp)) ?_;simp only[rT,updV];exact⟨W.heap.size,by simp,rfl,hbw,by simp,⟨sG,by simp[go_sem],sG,by simp[go_sem],sG,by simp[go_sem]⟩,fun o=>sG⟩
 refine⟨_,rfl,?_⟩;intro y W Φ hSW hBW hd hap K hK;have g1:=hd (5,10) (by simp) (by decide);have g2:=hd (9,14) (by simp) (by decide);have g3:=hd (13,18) (by simp) (by decide);have g4:=hd (17,22) (by simp) (by decide);have g18:=(hd (18,23) (by simp) (by decide)).2;have g19:=hd (19,3) (by simp) (by decide);have p1:=hap (5,10) (by simp) (19,3) (by simp) (by simp) (by decide) (by decide);have p2:=hap (9,14) (by simp) (19,3) (by simp) (by simp) (by decide) (by decide);have p3:=hap (13,18) (by simp) (19,3) (by simp) (by simp) (by decide) (by decide);have p4:=hap (17,22) (by simp) (19,3) (by simp) (by simp) (by decide) (by decide);have x12:=hap (5,10) (by simp) (9,14) (by simp) (by simp) (by decide) (by decide);have x13:=hap (5,10) (by simp) (13,18) (by simp) (by simp) (by decide) (by decide);have x14:=hap (5,10) (by simp) (17,22) (by simp) (by simp) (by decide) (by decide);have x23:=hap (9,14) (by simp) (13,18) (by simp) (by simp) (by decide) (by decide);have x24:=hap (9,14) (by simp) (17,22) (by simp) (by simp) (by decide) (by decide);have x34:=hap (13,18) (by simp) (17,22) (by simp) (by simp) (by decide) (by decide);clear hd hap;simp only[rT] at g1 g2 g3 g4 g18 g19;obtain⟨i1,⟨q1,s1,e1⟩,o1⟩:=g1;obtain⟨i2,⟨q2,s2,e2⟩,o2⟩:=g2;obtain⟨i3,⟨q4,s4,e4⟩,o4⟩:=g3;obtain⟨i4,⟨q5,s5,e5⟩,o5⟩:=g4;obtain⟨_,B,eB,hFB,hBlo,hBhi,⟨k0,k1,k2,k3,k4,k5⟩,kf⟩:=g19;rw[e1] at o1 g18;rw[e2] at o2 g18;rw[e4] at o4 g18;rw[e5] at o5 g18;have hBW1:Below wq.heap.size wq W:=bS hb0 hBW;generalize Φ 5=F1 at *;generalize Φ 9=F2 at *
 generalize Φ 13=F4 at *;generalize Φ 17=F5 at *;have n1:¬F1 B:=fun h=>p1 B h hFB
 have n2:¬F2 B:=fun h=>p2 B h hFB
 have n4:¬F4 B:=fun h=>p3 B h hFB
 have n5:¬F5 B:=fun h=>p4 B h hFB
 clear hFB p1 p2 p3 p4 i1 i2 i3 i4 e1 e2 e4 e5;refine⟨?_⟩;simp only[over,jX,lZ];simp only[g18,eB];clear g18 eB hSW hS;go_simp;refine hK _ _ ?_;clear hK K;refine NoPanic.normal ?_;have hmB:Mod (fun b=>b=B) W ((((((W.setCell ⟨B,0,none⟩ (.int .i64 d.idx)).setCell ⟨B,1,none⟩ (.slice q1 d.bals.length s1)).setCell ⟨B,2,none⟩ (.slice q2 d.votes.length s2)).setCell ⟨B,3,none⟩ (.slice none 0 0)).setCell ⟨B,4,none⟩ (.slice q4 d.done.length s4)).setCell ⟨B,5,none⟩ (.slice q5 d.appl.length s5)):=(((((Mod.of_set W ⟨B,0,none⟩ _).trans (Mod.of_set _ ⟨B,1,none⟩ _)).trans (Mod.of_set _ ⟨B,2,none⟩ _)).trans (Mod.of_set _ ⟨B,3,none⟩ _)).trans (Mod.of_set _ ⟨B,4,none⟩ _)).trans (Mod.of_set _ ⟨B,5,none⟩ _);have t0:((((((W.setCell ⟨B,0,none⟩ (.int .i64 d.idx)).setCell ⟨B,1,none⟩ (.slice q1 d.bals.length s1)).setCell ⟨B,2,none⟩ (.slice q2 d.votes.length s2)).setCell ⟨B,3,none⟩ (.slice none 0 0)).setCell ⟨B,4,none⟩ (.slice q4 d.done.length s4)).setCell ⟨B,5,none⟩ (.slice q5 d.appl.length s5)).cell? ⟨B,0,none⟩=some (.int .i64 d.idx):=by simp[go_sem,k0,k1,k2,k3,k4,k5,kf]
 have t1:((((((W.setCell ⟨B,0,none⟩ (.int .i64 d.idx)).setCell ⟨B,1,none⟩ (.slice q1 d.bals.length s1)).setCell ⟨B,2,none⟩ (.slice q2 d.votes.length s2)).setCell ⟨B,3,none⟩ (.slice none 0 0)).setCell ⟨B,4,none⟩ (.slice q4 d.done.length s4)).setCell ⟨B,5,none⟩ (.slice q5 d.appl.length s5)).cell? ⟨B,1,none⟩=some (.slice q1 d.bals.length s1):=by simp[go_sem,k0,k1,k2,k3,k4,k5,kf]
 have t2:((((((W.setCell ⟨B,0,none⟩ (.int .i64 d.idx)).setCell ⟨B,1,none⟩ (.slice q1 d.bals.length s1)).setCell ⟨B,2,none⟩ (.slice q2 d.votes.length s2)).setCell ⟨B,3,none⟩ (.slice none 0 0)).setCell ⟨B,4,none⟩ (.slice q4 d.done.length s4)).setCell ⟨B,5,none⟩ (.slice q5 d.appl.length s5)).cell? ⟨B,2,none⟩=some (.slice q2 d.votes.length s2):=by simp[go_sem,k0,k1,k2,k3,k4,k5,kf]
 have t3:((((((W.setCell ⟨B,0,none⟩ (.int .i64 d.idx)).setCell ⟨B,1,none⟩ (.slice q1 d.bals.length s1)).setCell ⟨B,2,none⟩ (.slice q2 d.votes.length s2)).setCell ⟨B,3,none⟩ (.slice none 0 0)).setCell ⟨B,4,none⟩ (.slice q4 d.done.length s4)).setCell ⟨B,5,none⟩ (.slice q5 d.appl.length s5)).cell? ⟨B,3,none⟩=some (.slice none 0 0):=by simp[go_sem,k0,k1,k2,k3,k4,k5,kf]
 have t4:((((((W.setCell ⟨B,0,none⟩ (.int .i64 d.idx)).setCell ⟨B,1,none⟩ (.slice q1 d.bals.length s1)).setCell ⟨B,2,none⟩ (.slice q2 d.votes.length s2)).setCell ⟨B,3,none⟩ (.slice none 0 0)).setCell ⟨B,4,none⟩ (.slice q4 d.done.length s4)).setCell ⟨B,5,none⟩ (.slice q5 d.appl.length s5)).cell? ⟨B,4,none⟩=some (.slice q4 d.done.length s4):=by simp[go_sem,k0,k1,k2,k3,k4,k5,kf]
 have t5:((((((W.setCell ⟨B,0,none⟩ (.int .i64 d.idx)).setCell ⟨B,1,none⟩ (.slice q1 d.bals.length s1)).setCell ⟨B,2,none⟩ (.slice q2 d.votes.length s2)).setCell ⟨B,3,none⟩ (.slice none 0 0)).setCell ⟨B,4,none⟩ (.slice q4 d.done.length s4)).setCell ⟨B,5,none⟩ (.slice q5 d.appl.length s5)).cell? ⟨B,5,none⟩=some (.slice q5 d.appl.length s5):=by simp[go_sem,k0,k1,k2,k3,k4,k5,kf]
 have tf:∀o,((((((W.setCell ⟨B,0,none⟩ (.int .i64 d.idx)).setCell ⟨B,1,none⟩ (.slice q1 d.bals.length s1)).setCell ⟨B,2,none⟩ (.slice q2 d.votes.length s2)).setCell ⟨B,3,none⟩ (.slice none 0 0)).setCell ⟨B,4,none⟩ (.slice q4 d.done.length s4)).setCell ⟨B,5,none⟩ (.slice q5 d.appl.length s5)).frozen? ⟨B,o,none⟩=false:=fun o=>by simp[go_sem,kf]
 have zB:B<((((((W.setCell ⟨B,0,none⟩ (.int .i64 d.idx)).setCell ⟨B,1,none⟩ (.slice q1 d.bals.length s1)).setCell ⟨B,2,none⟩ (.slice q2 d.votes.length s2)).setCell ⟨B,3,none⟩ (.slice none 0 0)).setCell ⟨B,4,none⟩ (.slice q4 d.done.length s4)).setCell ⟨B,5,none⟩ (.slice q5 d.appl.length s5)).heap.size:=by simpa using hBhi
 generalize (((((W.setCell ⟨B,0,none⟩ (.int .i64 d.idx)).setCell ⟨B,1,none⟩ (.slice q1 d.bals.length s1)).setCell ⟨B,2,none⟩ (.slice q2 d.votes.length s2)).setCell ⟨B,3,none⟩ (.slice none 0 0)).setCell ⟨B,4,none⟩ (.slice q4 d.done.length s4)).setCell ⟨B,5,none⟩ (.slice q5 d.appl.length s5)=W1 at *;have HO1:Hid (balsR.O W1 W0.heap.size F1 (.slice q1 d.bals.length s1) d.bals):=balsR.mod o1 hmB (fun b hb e=>n1 (e▸hb));have HO2:Hid (mrksR.O W1 W0.heap.size F2 (.slice q2 d.votes.length s2) d.votes):=mrksR.mod o2 hmB (fun b hb e=>n2 (e▸hb));have HO4:Hid (mrksR.O W1 W0.heap.size F4 (.slice q4 d.done.length s4) d.done):=mrksR.mod o4 hmB (fun b hb e=>n4 (e▸hb));have HO5:Hid (intsR.O W1 W0.heap.size F5 (.slice q5 d.appl.length s5) d.appl):=intsR.mod o5 hmB (fun b hb e=>n5 (e▸hb));have HNB:Hid (¬F1 B∧¬F2 B∧¬F4 B∧¬F5 B):=⟨n1,n2,n4,n5⟩;have HXX:Hid (yO F1 F2∧yO F1 F4∧yO F1 F5∧yO F2 F4∧yO F2 F5∧yO F4 F5):=⟨x12,x13,x14,x23,x24,x34⟩;have hB1q:Below wq.heap.size wq W1:=hmB.below hBW1 hBW1.size (fun b e=>by rw[e];omega);clear o1 o2 o4 o5 n1 n2 n4 n5 x12 x13 x14 x23 x24 x34 hmB k0 k1 k2 k3 k4 k5 kf hBhi hBW hBW1;replace y0:=cK hB1q y0;replace y1:=cK hB1q y1;replace y2:=cK hB1q y2;replace y3:=cK hB1q y3;replace y4:=cK hB1q y4;replace y5:=cK hB1q y5;replace r0:=cK hB1q r0;replace r1:=cK hB1q r1;replace r2:=cK hB1q r2;replace r3:=cK hB1q r3;replace r4:=cK hB1q r4;replace r5:=cK hB1q r5;replace rf:∀o,W1.frozen? ⟨w.heap.size+1,o,none⟩=false:=fun o=>by rw[(bcell hB1q).2 _ _ zq];exact rf o
 have hB1w:Below w.heap.size w W1:=bS hBq hB1q;have zW1:wq.heap.size≤W1.heap.size:=hB1q.size;go_wp2;go_loopw [4] (fun i w'=>∃(k:Nat) (a:Option Addr) (c:Nat) (F:Nat→Prop),k≤n3∧i =.int .i64 k∧Hid (contsR.O w' W1.heap.size F (.slice a k c) (d.held.take k))∧Hid (Mod (fun b=>b=B) W1 w')∧w'.cell? ⟨B,0,none⟩=some (.int .i64 d.idx)∧w'.cell? ⟨B,1,none⟩=some (.slice q1 d.bals.length s1)∧w'.cell? ⟨B,2,none⟩=some (.slice q2 d.votes.length s2)∧w'.cell? ⟨B,3,none⟩=some (.slice a k c)∧w'.cell? ⟨B,4,none⟩=some (.slice q4 d.done.length s4)∧w'.cell? ⟨B,5,none⟩=some (.slice q5 d.appl.length s5)∧(∀o,w'.frozen? ⟨B,o,none⟩=false)) (fun i _=>n3-(intOf i).toNat)
 case atStart=>exact⟨0,none,0,_,Nat.zero_le _,rfl,xH _ _,Mod.refl _ _,t0,t1,t2,t3,t4,t5,tf⟩
 obtain⟨k,as_,cs_,F,hk,rfl,HO,HM,t0',t1',t2',t3',t4',t5',tf'⟩:=hrel;have zr:W1.heap.size≤wr.heap.size:=HM.out.size;have hne:∀b,b<wq.heap.size→b≠B:=fun b hb=>oM
 have hBr:Below w.heap.size w wr:=HM.out.below hB1w hB1w.size (fun b e=>by rw[e];omega);have yr0:=HM.out.cell y0 (hne _ (by dsimp only;omega));have yr3:=HM.out.cell y3 (hne _ (by dsimp only;omega));by_cases hlt:k<n3
 ·
  obtain⟨bx,ox,pp,qq,rfl,g0,g1,hV⟩:=HX.out k hlt;have hcw:=HLl.out k hlt;obtain⟨l,hl⟩:∃l,l=d.held.getD k default:=⟨_,rfl⟩
  rw[←hl] at g0 g1 hV hcw;have HL:Hid (d.held.take (k+1)=d.held.take k++[l]):=by
   show _=_;rw[List.take_succ_eq_append_getElem (by rw[HN.out];exact hlt),hl];simp[List.getD,show k<d.held.length by rw[HN.out];exact hlt]
  clear hl;have HCp:Hid (bW w fun W=>Calls Tryz.prog 155 #[.agg #[.int .i64 l.id,.slice pp l.legs.length qq]] W fun e w'=>∃v F,e =.returned v∧contR.O w' W.heap.size F v l∧Below W.heap.size W w'):=fun W hW=>yG _ l W (contR.below hV hW) hcw
  clear hV;have zbw0:bx<w.heap.size:=wL w _ g0;replace g0:=cK hBr g0;replace g1:=cK hBr g1;have zb:bx<wr.heap.size:=wL wr _ g0;have k1:(k:Int)<n3:=oM;have k2:(0:Int)≤k:=oM;have zBr:B<wr.heap.size:=wL wr _ t0';have HBW:Hid (∀W,Below W1.heap.size wr W→Below w.heap.size w W):=fun W h=>Below.trans hBr (h.mono (by have:=hB1w.size;omega))
  have hbd:Below wr.heap.size wr wr.drew:=qBq;go_wp2;refine wp_region_noPanic ?_;refine fB (fun W=>Below W1.heap.size wr W∧W.cell? ⟨B,3,none⟩=some (.slice as_ k cs_)∧W.cell? ⟨w.heap.size,3,none⟩=some (.slice (some ⟨bx,ox,none⟩) n3 c3)∧W.cell? ⟨bx,ox+k*2,none⟩=some (.int .i64 l.id)∧W.cell? ⟨bx,ox+k*2+1,none⟩=some (.slice pp l.legs.length qq)) 11 kF ⟨hbd.mono zr,cK hbd t3',cK hbd yr3,cK hbd g0,cK hbd g1⟩ (fun hS=>?_);refine tY 0 ?_;refine tY 1 ?_;refine tY 2 ?_;refine tY 3 ?_;refine tY 4 ?_;refine tY 5 ?_;refine tY 6 ?_;refine uS 7 rfl (fun K hK=>?_);go_simp;refine(HCp.out _ (HBW.out _ hS.1)).mono ?_;rintro e w2 ⟨v2,F2',rfl,o2,hb2⟩;obtain⟨a2',c2',rfl⟩:=xG o2;have hb2':Below wr.heap.size wr w2:=bS hbd hb2;have hS2:=And.intro (hb2'.mono zr) (kS4 hb2 hS.2);refine hK _ _ (fun _=>hS2) ?_;clear hK K;have HU:Hid (contR.O w2 W1.heap.size F2' (.agg #[.int .i64 l.id,.slice a2' l.legs.length c2']) l):=contR.base o2 (by have:=hbd.size;omega);have HF2:Hid (∀b,F2' b→wr.heap.size≤b):=fun b hb=>by have:=(contR.rng o2 b hb).1;have:=hbd.size;omega
  have HO2':Hid (contsR.O w2 W1.heap.size F (.slice as_ k cs_) (d.held.take k)):=contsR.keep HO.out hb2';have HFl:Hid (∀b,F b→b<wr.heap.size):=fun b hb=>(contsR.rng HO.out b hb).2
  clear o2 hS hb2;have hS:=hS2;clear hS2;try simp only[jX]
  refine uS 8 rfl (fun K hK=>?_);go_simp;obtain⟨w3,hw3⟩:∃w3,w3=w2.alloc (.cells #[.int .i64 l.id,.slice a2' l.legs.length c2'] 57):=⟨_,rfl⟩
  rw[←hw3];have hb3:Below w2.heap.size w2 w3:=by rw[hw3];exact qBq
  have v0:w3.cell? ⟨w2.heap.size,0,none⟩=some (.int .i64 l.id):=by rw[hw3];simp[go_sem]
  have v1:w3.cell? ⟨w2.heap.size,1,none⟩=some (.slice a2' l.legs.length c2'):=by rw[hw3];simp[go_sem]
  clear hw3;have hb3':Below wr.heap.size wr w3:=bS hb2' hb3;have hS2:=And.intro (hb3'.mono zr) (kS4 hb3 hS.2);refine hK _ _ (fun _=>hS2) ?_;clear hK K hS;have hS:=hS2;clear hS2;try simp only[jX]
  refine uS 9 rfl (fun K hK=>?_);refine fNl w3 rfl _ _ rfl W1.heap.size F F2' _ (d.held.take k) l w2.heap.size a2' c2' rfl rfl ?a1 ?a2 ?a3 ?a4 ?a5 ?a6 ?_
  case a1=>exact contsR.keep HO2'.out hb3
  case a2=>exact contR.keep HU.out hb3
  case a3=>exact fun b h1 h2=>by have:=HFl.out b h1;have:=HF2.out b h2;omega
  case a4=>exact⟨v0,v1⟩
  case a5=>rw[List.length_take,HN.out];omega
  case a6=>have:=hb3'.size;omega
  intro v4 w4 F4' o4 hb4 _;rw[←HL.out] at o4;obtain⟨a4',c4',e4⟩:=fM (contsR.ofO o4);rw[show(d.held.take (k+1)).length=k+1 by rw[List.length_take,HN.out];omega] at e4;subst e4;have HO4':Hid (contsR.O w4 W1.heap.size F4' (.slice a4' (k+1) c4') (d.held.take (k+1))):=o4;have HR4:Hid (∀b,F4' b→W1.heap.size≤b):=fun b hb=>(contsR.rng o4 b hb).1
  have hb14:Below W1.heap.size wr w4:=Below.trans (hb3'.mono zr) hb4;have zbw:bx<W1.heap.size:=by have:=hB1w.size;omega
  have hS2:=And.intro hb14 (And.intro (tT hb4 zB hS.2.1) (And.intro (tT hb4 (show w.heap.size<W1.heap.size by omega) hS.2.2.1) (And.intro (tT hb4 zbw hS.2.2.2.1) (tT hb4 zbw hS.2.2.2.2))));refine hK _ _ (fun _=>hS2) ?_;clear hK K hS;have hS:=hS2;clear hS2 o4;have HM4:Hid (Mod (fun b=>b=B) W1 w4):=Mod.low HM.out hb14;have z40:=tT hb14 zB t0';have z41:=tT hb14 zB t1';have z42:=tT hb14 zB t2';have z43:=tT hb14 zB t3';have z44:=tT hb14 zB t4';have z45:=tT hb14 zB t5';have z4f:∀o,w4.frozen? ⟨B,o,none⟩=false:=fun o=>by rw[hb14.frozen (p:=⟨B,o,none⟩) zB];exact tf' o
  try simp only[jX]
  refine uS 10 rfl (fun K hK=>?_);go_simp;refine hK _ _ (fun _=>hS) ?_;clear hK K;try simp only[jX]
  refine uS 11 rfl (fun K hK=>?_);go_simp;refine hK _ _ (fun h=>absurd rfl h) ?_;clear hK K;refine dP ?_;clear t0' t1' t2' t3' t4' t5' tf' hS;go_wp2;refine⟨⟨k+1,a4',c4',F4',oM,by go_num,?_,?_,by simp[go_sem,z40],by simp[go_sem,z41],by simp[go_sem,z42],by simp[go_sem,z43,z4f],by simp[go_sem,z44],by simp[go_sem,z45],fun o=>by simp[go_sem,z4f]⟩,mI⟩
  ·exact contsR.mod HO4'.out (Mod.of_set w4 ⟨B,3,none⟩ _) (fun b hb e=>by have:=HR4.out b hb;dsimp only at e;omega)
  exact HM4.out.trans (Mod.of_set w4 ⟨B,3,none⟩ _)
 have hkn:k=n3:=oM;subst hkn;have ho:=HO.out;rw[List.take_of_length_le (by rw[HN.out];exact Nat.le_refl _)] at ho;have HO2':Hid (contsR.O wr W1.heap.size F (.slice as_ k cs_) d.held):=ho;have HFr:Hid (∀b,F b→W1.heap.size≤b):=fun b hb=>(contsR.rng ho b hb).1
 clear ho HO;have P1:Hid (balsR.O wr W0.heap.size F1 (.slice q1 d.bals.length s1) d.bals):=balsR.mod HO1.out HM.out (fun b hb e=>HNB.out.1 (e▸hb));have P2:Hid (mrksR.O wr W0.heap.size F2 (.slice q2 d.votes.length s2) d.votes):=mrksR.mod HO2.out HM.out (fun b hb e=>HNB.out.2.1 (e▸hb));have P4:Hid (mrksR.O wr W0.heap.size F4 (.slice q4 d.done.length s4) d.done):=mrksR.mod HO4.out HM.out (fun b hb e=>HNB.out.2.2.1 (e▸hb));have P5:Hid (intsR.O wr W0.heap.size F5 (.slice q5 d.appl.length s5) d.appl):=intsR.mod HO5.out HM.out (fun b hb e=>HNB.out.2.2.2 (e▸hb));have HR:Hid ((∀b,F1 b→b<W1.heap.size)∧(∀b,F2 b→b<W1.heap.size)∧(∀b,F4 b→b<W1.heap.size)∧(∀b,F5 b→b<W1.heap.size)):=⟨fun b hb=>(balsR.rng HO1.out b hb).2,fun b hb=>(mrksR.rng HO2.out b hb).2,fun b hb=>(mrksR.rng HO4.out b hb).2,fun b hb=>(intsR.rng HO5.out b hb).2⟩;have qr0:=HM.out.cell r0 (hne _ zq);have qr1:=HM.out.cell r1 (hne _ zq);have qr2:=HM.out.cell r2 (hne _ zq);have qr3:=HM.out.cell r3 (hne _ zq);have qr4:=HM.out.cell r4 (hne _ zq);have qr5:=HM.out.cell r5 (hne _ zq);have qrf:∀o,wr.frozen? ⟨w.heap.size+1,o,none⟩=false:=fun o=>(HM.out.frz10 (a:=⟨w.heap.size+1,o,none⟩) (by dsimp only;omega) (hne _ (by dsimp only;omega))).trans (rf o)
 clear HM HO1 HO2 HO4 HO5 HNB t0 t1 t2 t3 t4 t5 tf r0 r1 r2 r3 r4 r5 rf y0 y1 y2 y3 y4 y5 hB1q hB1w;go_wp2;refine bodyPost_ret (v:=.agg #[.int .i64 d.idx,.slice q1 d.bals.length s1,.slice q2 d.votes.length s2,.slice as_ k cs_,.slice q4 d.done.length s4,.slice q5 d.appl.length s5]) (by simp[results,Tryz.results152,go_sem,qr0,qr1,qr2,qr3,qr4,qr5,qrf]) rfl ⟨_,_,rfl,⟨_,_,_,_,_,F1,F2,F,F4,F5,rfl,balsR.base (set6 balsR P1.out oM _ _ _ _ _ _) oM,mrksR.base (set6 mrksR P2.out oM _ _ _ _ _ _) oM,contsR.base (set6 contsR HO2'.out oM _ _ _ _ _ _) oM,mrksR.base (set6 mrksR P4.out oM _ _ _ _ _ _) oM,intsR.base (set6 intsR P5.out oM _ _ _ _ _ _) oM,?_,?_,?_,?_,?_,?_,?_,?_,?_,?_,fun b=>Iff.rfl⟩,qS⟩;all_goals
  intro b h h';obtain⟨u1,u2,u4,u5⟩:=HR.out;obtain⟨x12,x14,x15,x24,x25,x45⟩:=HXX.out;first|exact x12 b h h'|exact x14 b h h'|exact x15 b h h'|exact x24 b h h'|exact x25 b h h'|exact x45 b h h'|(have:=u1 b h;have:=HFr.out b h';omega)|(have:=u2 b h;have:=HFr.out b h';omega)|(have:=HFr.out b h;have:=u4 b h';omega)|(have:=HFr.out b h;have:=u5 b h';omega)
end
end Go.Proofs.YtpibfdebfacooaaGreat

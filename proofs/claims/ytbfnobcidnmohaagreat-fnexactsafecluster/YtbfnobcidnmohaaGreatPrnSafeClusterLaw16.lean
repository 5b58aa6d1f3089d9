import Derived.Test.YtbfnobcidnmohaaGreatPrnSafeClusterLaw15
set_option maxHeartbeats 8000000
set_option maxRecDepth 20000
set_option linter.unusedSimpArgs false
set_option linter.unusedVariables false
set_option linter.unusedSectionVars false
namespace Go.Proofs.YtbfnobcidnmohaaGreat
open Go.RowKit
attribute [local go_sem ↓] Go.wp_at_zero Go.wp_at_succ
section
variable [dQ Rw] [iH Rw] [dQ Bal] [iH Bal] [dQ Ledg] [iH Ledg] [dQ Leg] [iH Leg] [dQ Cont] [iH Cont] [dQ LedgR] [iH LedgR] [dQ OutcR] [iH OutcR] [dQ Mrk] [iH Mrk] [dQ Shd] [iH Shd] [dQ ShdR] [iH ShdR]
def PanicAs (D:List Deferred) (k:Nat) (p:Value) (R:List PanicEntry→World→Prop) (Q:Exit→Act→World→Prop):Exit→Act→World→Prop
 | .panic c,a,w=>a.defers=D∧a.tmps[k]? = some p∧R c w
 | e,a,w=>Q e a w
theorem PanicAs.put {D:List Deferred} {k:Nat} {p:Value} {R:List PanicEntry→World→Prop} {Q:Exit→Act→World→Prop} {dst:Option Nat} {v:Value} {c:List PanicEntry} {a:Act} {w:World} (hk:dst≠some k) (h:PanicAs D k p R Q (.panic c) (a.put dst v) w):PanicAs D k p R Q (.panic c) a w:=by
 cases dst with
 | none=>exact h
 | some j=>
  obtain⟨h1,h2,h3⟩:=h;have hj:j≠k:=fun e=>hk (by rw[e])
  refine⟨h1,?_,h3⟩;simp only[Act.put] at h2;rw[Array.getElem?_setIfInBounds_ne hj] at h2;exact h2
theorem PanicAs.normal {D:List Deferred} {k:Nat} {p:Value} {R:List PanicEntry→World→Prop} {Q:Exit→Act→World→Prop} {a:Act} {w:World} (h:Q .normal a w):PanicAs D k p R Q .normal a w:=h
theorem fBg {P:Program} {id:Nat} {ops:Array Oper} {b:Bool} {Q:Exit→Act→World→Prop} {a:Act} {w:World} (D:List Deferred) (k:Nat) (p:Value) (R:List PanicEntry→World→Prop)
  (hi:∀c a w,a.defers=D→a.tmps[k]? = some p→R c w→Q (.panic c) a w) (h:(Code.region id ops b).wp P (PanicAs D k p R Q) a w):(Code.region id ops b).wp P Q a w:=
 Code.wp_mono (fun e a w h=>by
  cases e with
  | panic c=>exact hi c a w h.1 h.2.1 h.2.2
  | _=>exact h) h
theorem fXp (w W:World) (tm:Array Value) (B:Nat) (Z c x:Int) (hz:Z=c) (ht:tm[2]? = some (.pointer (some ⟨B,0,none⟩))) (hB:w.heap.size≤B) (hc:W.cell? ⟨B,0,none⟩=some (.int .i64 x)) (hf:W.frozen? ⟨B,0,none⟩=false) (hb:Below w.heap.size w W) :
  Leaves Tryz.prog Tryz.f146 tm (fun e w'=>e =.returned (.int .i64 Z)∧Below w.heap.size w w') [{target:=.fn (.func 209) #[.pointer (some ⟨B,0,none⟩)],args:=#[]}] (.panicking [{v:=refV c,recovered:=false}]) W:=by
 refine leaves_cons (f:=209) (args:=#[.pointer (some ⟨B,0,none⟩)]) (by simp) sG ?_;refine(fAw ⟨B,0,none⟩ x c [] W hc hf).mono ?_;rintro e u' w2 ⟨rfl,rfl,w1,hb1,rfl⟩;have hc1:w1.cell? ⟨B,0,none⟩=some (.int .i64 x):=cK hb1 hc;have hf1:w1.frozen? ⟨B,0,none⟩=false:=by rw[hb1.frozen (p:=⟨B,0,none⟩) (wL W _ hc)];exact hf
 have hB1:Below w.heap.size w w1:=bS hb hb1;subst hz;refine⟨.int .i64 Z,?_,rfl,?_⟩
 ·simp[results,Tryz.results146,go_sem,ht,hc1,hf1]
 (repeat (first|refine bset ?_ (by simp;omega) _|refine bset ?_ (by simp) _|refine bA ?_ _|assumption))
theorem fX4 (w W:World) (tm:Array Value) (B:Nat) (Z x:Int) (hz:Z=x) (ht:tm[2]? = some (.pointer (some ⟨B,0,none⟩))) (hB:w.heap.size≤B) (hc:W.cell? ⟨B,0,none⟩=some (.int .i64 x)) (hb:Below w.heap.size w W) :
  Leaves Tryz.prog Tryz.f146 tm (fun e w'=>e =.returned (.int .i64 Z)∧Below w.heap.size w w') [{target:=.fn (.func 209) #[.pointer (some ⟨B,0,none⟩)],args:=#[]}] .returning W:=by
 refine leaves_cons (f:=209) (args:=#[.pointer (some ⟨B,0,none⟩)]) (by simp) sG ?_;refine(fHs ⟨B,0,none⟩ W).mono ?_;rintro e u' w2 ⟨rfl,rfl,hb1⟩;have hc1:w2.cell? ⟨B,0,none⟩=some (.int .i64 x):=cK hb1 hc;have hB1:Below w.heap.size w w2:=bS hb hb1;subst hz;refine⟨.int .i64 Z,?_,rfl,hB1⟩;simp[results,Tryz.results146,go_sem,ht,hc1]
theorem fOy {w:World} {a:Option Addr} {n c k:Nat} {xs:List Cont} (hx:contsR.V w (.slice a n c) xs) (hk:k≤n):contsR.V w (.slice a k c) (xs.take k):=by
 obtain⟨a',c',e,h1,h2,h3⟩:=hx;simp only[Value.slice.injEq] at e;obtain⟨rfl,rfl,rfl⟩:=e;refine⟨a,c,by rw[List.length_take,Nat.min_eq_left hk],by rw[List.length_take];omega,h2,fun i hi=>?_⟩;rw[List.length_take] at hi;have e:(xs.take k).getD i default=xs.getD i default:=by simp[List.getD,List.getElem?_take,show i<k by omega]
 rw[e];exact h3 i oM
theorem frz {w w':World} {p:Addr} (hb:Below w.heap.size w w') (hp:p.block<w.heap.size) (h:w.frozen? p=false):w'.frozen? p=false:=by rw[hb.frozen hp];exact h
theorem fQ1 {d:Shd} {k:Nat} (hk:k<d.held.length):fBh d.idx (d.held.take k) (d.held.getD k default).legs=gM d k:=by
 unfold fBh gM;rw[fHl oM];rfl
theorem fI5 {d:Shd} (h:kU d=0):pJ d.idx d.bals=0∧LsOk d∧HeldOk d:=by
 unfold kU at h;split at h
 ·
  rename_i h0;split at h
  ·omega
  rename_i h1;split at h
  ·
   rename_i h2;split at h
   ·
    rename_i h3;split at h
    ·rename_i h4;exact⟨h0,⟨oM,by omega,by omega,by omega,xL h2,xL h3⟩,fCv h4⟩
    rename_i h4;exact absurd h h4
   rename_i h3;exact absurd h h3
  rename_i h2;exact absurd h h2
 rename_i h0;exact absurd h h0
theorem fIn (x:Value) (d:Shd) (w:World) (hx:shdR.V w x d) :
  RI 146 #[x] w (.int .i64 (shdF d)):=by
 have HLi:Hid (bW w fun W=>RI 208 #[x] W (.int .i64 (kU d))):=fun W hW=>fEa x d W (shdR.below hx hW)
 have HBo:Hid (bW w fun W=>pJ d.idx d.bals=0→Calls Tryz.prog 212 #[x] W fun e w'=>∃b,e =.returned (.agg #[.int .i64 3,.map (some b)])∧W.heap.size≤b∧Book w' b 54 (tJ (tF d.idx d.bals))∧Below W.heap.size W w'):=fun W hW h0=>fHq x d W (shdR.below hx hW) h0
 obtain⟨u1,u2,u3,u4,u5,rfl,h1,h2,h3,h4,h5⟩:=hx;have HX3:Hid (∃a c,u3 =.slice a d.held.length c∧d.held.length≤c∧c≤maxLen∧∀k,k<d.held.length→∃b o p q,a=some ⟨b,o,none⟩∧w.cell? ⟨b,o+k*2,none⟩=some (.int .i64 (d.held.getD k default).id)∧w.cell? ⟨b,o+k*2+1,none⟩=some (.slice p (d.held.getD k default).legs.length q)∧contR.V w (.agg #[.int .i64 (d.held.getD k default).id,.slice p (d.held.getD k default).legs.length q]) (d.held.getD k default)):=tO h3;obtain⟨a1,c1,rfl⟩:=gU h1;obtain⟨a2,c2,rfl⟩:=fT h2;obtain⟨a3,c3,rfl⟩:=gG h3;obtain⟨a4,c4,rfl⟩:=fT h4;obtain⟨a5,c5,rfl⟩:=gZ h5;obtain⟨_,_,e3,hc3,hm3,hx3⟩:=HX3.out;simp only[Value.slice.injEq,true_and] at e3;obtain⟨rfl,rfl⟩:=e3;unfold maxLen at hm3;have HX:Hid (∀k,k<d.held.length→∃b o p q,a3=some ⟨b,o,none⟩∧w.cell? ⟨b,o+k*2,none⟩=some (.int .i64 (d.held.getD k default).id)∧w.cell? ⟨b,o+k*2+1,none⟩=some (.slice p (d.held.getD k default).legs.length q)∧contR.V w (.agg #[.int .i64 (d.held.getD k default).id,.slice p (d.held.getD k default).legs.length q]) (d.held.getD k default)):=hx3;have HAp:Hid (HeldOk d→∀k W id ul,k<d.held.length→Below w.heap.size w W→legsR.V W ul (d.held.getD k default).legs→Calls Tryz.prog 211 #[.int .i64 d.idx,.slice a3 k c3,.agg #[.int .i64 id,ul]] W (fHc (gM d k) W)):=fun hh k W id ul hk hW hl=>by
  rw[←fQ1 hk];exact fF5 d.idx id _ ul (d.held.take k) _ W (contsR.below (fOy h3 oM) hW) hl (by have:=hh.len hk;omega)
 have HCo:Hid (HeldOk d→pJ d.idx d.bals=0→∀k W id ul b,k<d.held.length→legsR.V W ul (d.held.getD k default).legs→Book W b 54 (tJ (tF d.idx d.bals))→Calls Tryz.prog 213 #[.int .i64 d.idx,.agg #[.int .i64 3,.map (some b)],.agg #[.int .i64 id,ul]] W (fHc (gK d k) W)):=fun hh h0 k W id ul b hk hl hb=>
  fC3 d.idx id b ul d.bals _ W hb hl (by have:=hh.len hk;omega) (fFn h0).1 (fFn h0).2 (hh.fault hk)
 have HD0:Hid (¬kU d=0→shdF d=kU d):=fun h=>by unfold shdF;rw[if_neg h]
 have HD1:Hid (kU d=0→∀k,k<d.held.length→fC (gM d) k=0→¬gM d k=0→shdF d=gM d k):=fun h k hk hs hc=>by
  have h1:=fK hs hc _ hk;unfold shdF vZ;rw[if_pos h,if_neg (by rw[h1];exact hc),h1]
 have HD2:Hid (kU d=0→fC (gM d) d.held.length=0→∀k,k<d.held.length→fC (gK d) k=0→¬gK d k=0→shdF d=gK d k):=fun h h0 k hk hs hc=>by
  have h1:=fK hs hc _ hk;unfold shdF vZ;rw[if_pos h,if_pos h0,h1]
 have HD3:Hid (kU d=0→fC (gM d) d.held.length=0→fC (gK d) d.held.length=0→shdF d=0):=fun h h0 h1=>by
  unfold shdF vZ;rw[if_pos h,if_pos h0,h1]
 have HOk:Hid (kU d=0→pJ d.idx d.bals=0∧LsOk d∧HeldOk d):=fun h=>fI5 h
 clear h1 h2 h3 h4 h5 HX3 hx3;generalize d.bals.length=n1 at *;generalize d.votes.length=n2 at *;generalize d.held.length=n3 at *;generalize d.done.length=n4 at *;generalize d.appl.length=n5 at *;obtain⟨Z,hZ⟩:∃Z,Z=shdF d:=⟨_,rfl⟩
 rw[←hZ] at HD0 HD1 HD2 HD3 ⊢;clear hZ;generalize kU d=lf at *;have hmf:∀(fn:Fn) (first cap:Array Value) (w:World),(Instr.makeFunc fn first cap).run Tryz.prog w =.ok (.func fn first cap) w:=fun _ _ _ _=>rfl
 go_enter_defers Tryz.func146,Tryz.ntmps146
 go_wp2_with fail;refine(HLi.out _ qBq).mono ?_;rintro e w1 ⟨rfl,hb1⟩;have f1:=(bcell hb1).2;have hB1:=bT w hb1;have hz1:=hb1.size;simp at hz1;have y0:w1.cell? ⟨w.heap.size,0,none⟩=some (.int .i64 d.idx):=cK hb1 sG;have y1:w1.cell? ⟨w.heap.size,1,none⟩=some (.slice a1 n1 c1):=cK hb1 sG;have y2:w1.cell? ⟨w.heap.size,2,none⟩=some (.slice a2 n2 c2):=cK hb1 sG;have y3:w1.cell? ⟨w.heap.size,3,none⟩=some (.slice a3 n3 c3):=cK hb1 sG;have y4:w1.cell? ⟨w.heap.size,4,none⟩=some (.slice a4 n4 c4):=cK hb1 sG;have y5:w1.cell? ⟨w.heap.size,5,none⟩=some (.slice a5 n5 c5):=cK hb1 sG;have r0:w1.cell? ⟨w.heap.size+1,0,none⟩=some (.int .i64 0):=cK hb1 sG;have rf:w1.frozen? ⟨w.heap.size+1,0,none⟩=false:=by rw[f1 _ _ (by simp)];simp[go_sem]
 clear hb1 f1 HLi;by_cases hlf:lf=0;rotate_left
 ·
  have HC:=HD0.out hlf;have hlf':(lf !=0)=true:=by simp[hlf]
  clear HD0 HD1 HD2 HD3 HAp HCo HBo HX HOk;go_wp2;refine⟨.int .i64 lf,by simp[results,Tryz.results146,go_sem,r0,rf],by rw[HC],?_⟩;(repeat (first|refine bset ?_ (by simp;omega) _|refine bset ?_ (by simp) _|refine bA ?_ _|assumption))
 obtain⟨h0,hls,hhk⟩:=HOk.out hlf;have HD1':Hid (∀k,k<n3→fC (gM d) k=0→¬gM d k=0→Z=gM d k):=HD1.out hlf;have HD2':Hid (fC (gM d) n3=0→∀k,k<n3→fC (gK d) k=0→¬gK d k=0→Z=gK d k):=HD2.out hlf;have HD3':Hid (fC (gM d) n3=0→fC (gK d) n3=0→Z=0):=HD3.out hlf;have HAp':Hid (∀k W id ul,k<n3→Below w.heap.size w W→legsR.V W ul (d.held.getD k default).legs→Calls Tryz.prog 211 #[.int .i64 d.idx,.slice a3 k c3,.agg #[.int .i64 id,ul]] W (fHc (gM d k) W)):=HAp.out hhk;have HCo':Hid (∀k W id ul b,k<n3→legsR.V W ul (d.held.getD k default).legs→Book W b 54 (tJ (tF d.idx d.bals))→Calls Tryz.prog 213 #[.int .i64 d.idx,.agg #[.int .i64 3,.map (some b)],.agg #[.int .i64 id,ul]] W (fHc (gK d k) W)):=HCo.out hhk h0;have HBo':Hid (bW w fun W=>Calls Tryz.prog 212 #[.agg #[.int .i64 d.idx,.slice a1 n1 c1,.slice a2 n2 c2,.slice a3 n3 c3,.slice a4 n4 c4,.slice a5 n5 c5]] W fun e w'=>∃b,e =.returned (.agg #[.int .i64 3,.map (some b)])∧W.heap.size≤b∧Book w' b 54 (tJ (tF d.idx d.bals))∧Below W.heap.size W w'):=fun W hW=>HBo.out W hW h0
 clear HD0 HD1 HD2 HD3 HAp HCo HBo HOk h0 hls hhk;rw[hlf];clear hlf;go_wp2;obtain⟨wq,hwq⟩:∃wq,wq=w1.setCell ⟨w.heap.size+1,0,none⟩ (.int .i64 0):=⟨_,rfl⟩
 have hBq:Below w.heap.size w wq:=by rw[hwq];(repeat (first|refine bset ?_ (by simp;omega) _|refine bset ?_ (by simp) _|refine bA ?_ _|assumption))
 have zq:w.heap.size+1<wq.heap.size:=by rw[hwq];simp;omega
 replace y0:wq.cell? ⟨w.heap.size,0,none⟩=some (.int .i64 d.idx):=by rw[hwq];simp[go_sem,y0]
 replace y1:wq.cell? ⟨w.heap.size,1,none⟩=some (.slice a1 n1 c1):=by rw[hwq];simp[go_sem,y1]
 replace y2:wq.cell? ⟨w.heap.size,2,none⟩=some (.slice a2 n2 c2):=by rw[hwq];simp[go_sem,y2]
 replace y3:wq.cell? ⟨w.heap.size,3,none⟩=some (.slice a3 n3 c3):=by rw[hwq];simp[go_sem,y3]
 replace y4:wq.cell? ⟨w.heap.size,4,none⟩=some (.slice a4 n4 c4):=by rw[hwq];simp[go_sem,y4]
 replace y5:wq.cell? ⟨w.heap.size,5,none⟩=some (.slice a5 n5 c5):=by rw[hwq];simp[go_sem,y5]
 replace r0:wq.cell? ⟨w.heap.size+1,0,none⟩=some (.int .i64 0):=by rw[hwq];simp[go_sem,r0]
 replace rf:wq.frozen? ⟨w.heap.size+1,0,none⟩=false:=by rw[hwq];simp[go_sem,rf]
 rw[←hwq];clear hwq hB1 hz1;try clear w1
 go_loopw [17] (fun i w'=>∃k:Nat,k≤n3∧i =.int .i64 k∧Hid (fC (gM d) k=0)∧Below wq.heap.size wq w') (fun i _=>n3-(intOf i).toNat)
 case atStart=>exact⟨0,oM,rfl,rfl,bR _ _⟩
 obtain⟨k,hk,rfl,HS,hbl⟩:=hrel;have hBr:Below w.heap.size w wr:=bS hBq hbl;have zr:=hbl.size;replace y0:=cK hbl y0;replace y1:=cK hbl y1;replace y2:=cK hbl y2;replace y3:=cK hbl y3;replace y4:=cK hbl y4;replace y5:=cK hbl y5;replace r0:=cK hbl r0;replace rf:wr.frozen? ⟨w.heap.size+1,0,none⟩=false:=by rw[hbl.frozen (p:=⟨w.heap.size+1,0,none⟩) zq];exact rf
 by_cases hlt:k<n3
 ·
  obtain⟨bx,ox,pp,qq,rfl,g0,g1,hV⟩:=HX.out k hlt;obtain⟨ul,hul,hvl⟩:=hV;simp only[Value.agg.injEq,Array.mk.injEq,List.cons.injEq,and_true,true_and] at hul;subst hul;have HC1:Hid (bW wr fun W=>Calls Tryz.prog 211 #[.int .i64 d.idx,.slice (some ⟨bx,ox,none⟩) k c3,.agg #[.int .i64 (d.held.getD k default).id,.slice pp (d.held.getD k default).legs.length qq]] W (fHc (gM d k) W)):=fun W hW=>HAp'.out k W _ _ hlt (bS hBr hW) (legsR.below hvl (bS hBr hW))
  have HP:Hid (¬gM d k=0→Z=gM d k):=fun h=>HD1'.out k hlt HS.out h
  have HN:Hid (gM d k=0→fC (gM d) (k+1)=0):=fun h=>fE HS.out h
  clear hvl HS;generalize (d.held.getD k default).legs.length=ll at *;generalize (d.held.getD k default).id=qid at *;generalize gM d k=ak at *;replace g0:=cK hBr g0;replace g1:=cK hBr g1;have zb:bx<wr.heap.size:=wL wr _ g0;have hkc:k≤c3:=oM;have zz0:w.heap.size<wr.heap.size:=oM;go_wp2;refine fBg [{target:=.fn (.func 209) #[.pointer (some ⟨w.heap.size+1,0,none⟩)],args:=#[]}] 2 (.pointer (some ⟨w.heap.size+1,0,none⟩)) (fun c W=>∃q,c=[{v:=refV q,recovered:=false}]∧Z=q∧W.cell? ⟨w.heap.size+1,0,none⟩=some (.int .i64 0)∧W.frozen? ⟨w.heap.size+1,0,none⟩=false∧Below w.heap.size w W) ?_ ?_
  ·rintro c a W hd ht ⟨q,rfl,hz,hc,hf,hb⟩;show Leaves Tryz.prog Tryz.f146 a.tmps _ a.defers (.panicking _) W;rw[hd];exact fXp w W a.tmps _ Z q 0 hz ht (Nat.le_succ _) hc hf hb
  refine fB (fun W=>Below wr.heap.size wr W∧W.cell? ⟨w.heap.size,0,none⟩=some (.int .i64 d.idx)∧W.cell? ⟨w.heap.size,3,none⟩=some (.slice (some ⟨bx,ox,none⟩) n3 c3)∧W.cell? ⟨wr.heap.size,0,none⟩=some (.int .i64 qid)∧W.cell? ⟨wr.heap.size,1,none⟩=some (.slice pp ll qq)∧W.cell? ⟨w.heap.size+1,0,none⟩=some (.int .i64 0)∧W.frozen? ⟨w.heap.size+1,0,none⟩=false) 8 kF ⟨qBq,cK qBq y0,cK qBq y3,by simp[go_sem],sG,cK qBq r0,frz qBq (show w.heap.size+1<wr.heap.size by omega) rf⟩ (fun hS=>?_);refine kP (i:=0) (v:=?_) rfl kF kF kF kF (fun _ _ _=>PanicAs.put (by decide)) (by rfl) hS ?_ ?_;rotate_left
  ·intro wS hSw;(try dsimp only at hSw);go_simp;try with_reducible rfl
  try simp only[jX]
  refine kP (i:=1) (v:=?_) rfl kF kF kF kF (fun _ _ _=>PanicAs.put (by decide)) (by rfl) hS ?_ ?_;rotate_left
  ·intro wS hSw;(try dsimp only at hSw);go_simp;try with_reducible rfl
  try simp only[jX]
  refine kP (i:=2) (v:=?_) rfl kF kF kF kF (fun _ _ _=>PanicAs.put (by decide)) (by rfl) hS ?_ ?_;rotate_left
  ·intro wS hSw;(try dsimp only at hSw);go_simp;try with_reducible rfl
  try simp only[jX]
  refine kP (i:=3) (v:=?_) rfl kF kF kF kF (fun _ _ _=>PanicAs.put (by decide)) (by rfl) hS ?_ ?_;rotate_left
  ·intro wS hSw;(try dsimp only at hSw);go_simp;try with_reducible rfl
  try simp only[jX]
  refine kP (i:=4) (v:=?_) rfl kF kF kF kF (fun _ _ _=>PanicAs.put (by decide)) (by rfl) hS ?_ ?_;rotate_left
  ·intro wS hSw;(try dsimp only at hSw);go_simp;try with_reducible rfl
  try simp only[jX]
  refine kP (i:=5) (v:=?_) rfl kF kF kF kF (fun _ _ _=>PanicAs.put (by decide)) (by rfl) hS ?_ ?_;rotate_left
  ·intro wS hSw;(try dsimp only at hSw);go_simp;try with_reducible rfl
  try simp only[jX]
  refine kP (i:=6) (v:=?_) rfl kF kF kF kF (fun _ _ _=>PanicAs.put (by decide)) (by rfl) hS ?_ ?_;rotate_left
  ·intro wS hSw;(try dsimp only at hSw);go_simp;try with_reducible rfl
  try simp only[jX]
  refine uS 7 rfl (fun K hK=>?_);go_simp;refine(HC1.out _ hS.1).mono ?_;rintro e wz ⟨he,hbz⟩;have hbz':Below wr.heap.size wr wz:=bS hS.1 hbz;have zz:w.heap.size+1<wr.heap.size:=oM;rcases he with ⟨h,rfl⟩|⟨h,rfl⟩
  rotate_left
  ·refine⟨rfl,rfl,ak,rfl,HP.out h,cK hbz' r0,frz hbz' zz rf,bS hBr hbz'⟩
  refine hK _ _ (fun _=>⟨hbz',cK hbz hS.2.1,cK hbz hS.2.2.1,cK hbz hS.2.2.2.1,cK hbz hS.2.2.2.2.1,cK hbz' r0,frz hbz' zz rf⟩) ?_;clear hK K hS hbz;try simp only[jX]
  refine fAv kF ?_;refine PanicAs.normal ?_;go_wp2;exact⟨⟨k+1,by omega,by go_num,HN.out h,bS hbl hbz'⟩,mI⟩
 have hkn:k=n3:=oM;subst hkn;have HP2:Hid (∀j,j<k→fC (gK d) j=0→¬gK d j=0→Z=gK d j):=HD2'.out HS.out;have HP3:Hid (fC (gK d) k=0→Z=0):=HD3'.out HS.out;clear HD1' HD2' HD3' HAp' HS;go_wp2_with fail;refine(HBo'.out _ hBr).mono ?_;rintro e w3 ⟨b,rfl,hbb,hbk,hb3⟩;have hB3:Below w.heap.size w w3:=bS hBr hb3;have zz:w.heap.size+1<wr.heap.size:=oM;have z3:=hb3.size;have zb:b<w3.heap.size:=hbk.lt;replace y0:=cK hb3 y0;replace y1:=cK hb3 y1;replace y2:=cK hb3 y2;replace y3:=cK hb3 y3;replace y4:=cK hb3 y4;replace y5:=cK hb3 y5;replace r0:=cK hb3 r0;replace rf:=frz hb3 zz rf;have HBk:Hid (Book w3 b 54 (tJ (tF d.idx d.bals))):=hbk;have zw:w.heap.size<w3.heap.size:=oM;have zw1:w.heap.size+1<w3.heap.size:=oM;clear hbk hb3 HBo' hbl hBr hBq;go_wp2;obtain⟨w4,hw4⟩:∃w4,w4=w3.alloc (.cells #[.int .i64 3,.map (some b)] 95):=⟨_,rfl⟩
 have hb4:Below w3.heap.size w3 w4:=by rw[hw4];(repeat (first|exact bR _ _|assumption|refine bD ?_|refine bA ?_ _|refine bset ?_ (by simp;omega) _|refine bset ?_ (by simp) _|refine bS ?_ (by assumption)))
 have q0:w4.cell? ⟨w3.heap.size,0,none⟩=some (.int .i64 3):=by rw[hw4];simp[go_sem]
 have q1:w4.cell? ⟨w3.heap.size,1,none⟩=some (.map (some b)):=by rw[hw4];simp[go_sem]
 rw[←hw4];clear hw4;have hB4:Below w.heap.size w w4:=bS hB3 hb4;have z4:w.heap.size+1<w4.heap.size:=by have:=hb4.size;omega
 have HBk4:Hid (Book w4 b 54 (tJ (tF d.idx d.bals))):=HBk.out.below hb4;replace y0:=cK hb4 y0;replace y1:=cK hb4 y1;replace y2:=cK hb4 y2;replace y3:=cK hb4 y3;replace y4:=cK hb4 y4;replace y5:=cK hb4 y5;replace r0:=cK hb4 r0;replace rf:=frz hb4 (show w.heap.size+1<w3.heap.size by omega) rf;clear HBk;go_loopw [36] (fun i w'=>∃j:Nat,j≤k∧i =.int .i64 j∧Hid (fC (gK d) j=0)∧Below w4.heap.size w4 w') (fun i _=>k-(intOf i).toNat)
 case atStart=>exact⟨0,oM,rfl,rfl,bR _ _⟩
 rename_i wr0;obtain⟨j,hj,rfl,HS,hbl⟩:=hrel;have hBr:Below w.heap.size w wr:=bS hB4 hbl;have zr:=hbl.size;replace y0:=cK hbl y0;replace y1:=cK hbl y1;replace y2:=cK hbl y2;replace y3:=cK hbl y3;replace y4:=cK hbl y4;replace y5:=cK hbl y5;replace r0:=cK hbl r0;replace rf:=frz hbl z4 rf;replace q0:=cK hbl q0;replace q1:=cK hbl q1;have HBkr:Hid (Book wr b 54 (tJ (tF d.idx d.bals))):=HBk4.out.below hbl;by_cases hlt2:j<k
 ·
  obtain⟨bx,ox,pp,qq,rfl,g0,g1,hV⟩:=HX.out j hlt2;obtain⟨ul,hul,hvl⟩:=hV;simp only[Value.agg.injEq,Array.mk.injEq,List.cons.injEq,and_true,true_and] at hul;subst hul;have HC1:Hid (bW wr fun W=>Calls Tryz.prog 213 #[.int .i64 d.idx,.agg #[.int .i64 3,.map (some b)],.agg #[.int .i64 (d.held.getD j default).id,.slice pp (d.held.getD j default).legs.length qq]] W (fHc (gK d j) W)):=fun W hW=>HCo'.out j W _ _ b hlt2 (legsR.below hvl (bS hBr hW)) (HBkr.out.below hW)
  have HP:Hid (¬gK d j=0→Z=gK d j):=fun h=>HP2.out j hlt2 HS.out h
  have HN:Hid (gK d j=0→fC (gK d) (j+1)=0):=fun h=>fE HS.out h
  clear hvl HS;generalize (d.held.getD j default).legs.length=ll at *;generalize (d.held.getD j default).id=qid at *;generalize gK d j=ak at *;replace g0:=cK hBr g0;replace g1:=cK hBr g1;have zb2:bx<wr.heap.size:=wL wr _ g0;have zq3:w3.heap.size<wr.heap.size:=wL wr _ q0;have zz2:w.heap.size+1<wr.heap.size:=oM;have zz3:w.heap.size<wr.heap.size:=oM;go_wp2_with fail;refine(HC1.out _ qBq).mono ?_;rintro e wz ⟨he,hbz⟩;have hbz':Below wr.heap.size wr wz:=bS qBq hbz;clear hbz;rcases he with ⟨h,rfl⟩|⟨h,rfl⟩
  ·have HN2:Hid _:=HN.out h;clear HN HP h;go_wp2;exact⟨⟨j+1,by omega,by go_num,HN2,bS hbl hbz'⟩,mI⟩
  have hz:=HP.out h;exact fXp w wz _ _ Z ak 0 hz rfl (Nat.le_succ _) (cK hbz' r0) (frz hbz' zz2 rf) (bS hBr hbz')
 have hjn:j=k:=oM;subst hjn;have hz:=HP3.out HS.out;clear HP2 HP3 HS;go_wp2;refine fX4 w _ _ (w.heap.size+1) Z 0 hz rfl (Nat.le_succ _) (by simp[go_sem,r0,rf]) ?_;(repeat (first|refine bset ?_ (by simp;omega) _|refine bset ?_ (by simp) _|refine bA ?_ _|assumption))
end
section
variable [dQ Leg] [iH Leg] [dQ Cont] [iH Cont] [dQ Bal] [iH Bal] [dQ Mrk] [iH Mrk] [dQ Shd] [iH Shd] [dQ Vot] [iH Vot] [dQ Slt] [iH Slt] [dQ Acc] [iH Acc] [dQ Trr] [iH Trr] [dQ Hrd] [iH Hrd] [dQ Ldr] [iH Ldr] [dQ Msg] [iH Msg] [dQ Clu] [iH Clu] [dQ Ledg] [iH Ledg] [dQ SltR] [iH SltR] [dQ AccR] [iH AccR] [dQ AccsR] [iH AccsR] [dQ SltsR] [iH SltsR] [dQ Rw] [iH Rw] [dQ LedgR] [iH LedgR] [dQ OutcR] [iH OutcR] [dQ ShdR] [iH ShdR]
theorem fRq {cs:List Cont} {id:Int} (h:fF cs id<cs.length):(cs.getD (fF cs id) default).id=id:=by
 have:=List.findIdx_getElem (p:=fun x:Cont=>x.id==id) (w:=h);simp only[beq_iff_eq] at this;simp only[List.getD,List.getElem?_eq_getElem h,Option.getD_some];exact this
theorem yQ {c:Clu} (h:cluF c=0) {k:Nat} (hk:k<c.cons.length):fA (c.cons.getD k default).id (c.cons.getD k default).legs=0∧∀s,s ∈ fD (c.cons.getD k default).legs→0≤s∧s<(c.shards.length:Int):=by
 have h1:=(cluF_zero.1 h).2.1;unfold vX at h1;have h2:=kI h1 k hk;unfold uQ at h2;have h3:=(orF_zero.1 h2).1;unfold subF at h3;obtain⟨h4,h5⟩:=orF_zero.1 h3;refine⟨h4,fun s hs=>?_⟩;have h6:pV c.shards.length (c.cons.getD k default).legs=true:=by
  cases hq:pV c.shards.length (c.cons.getD k default).legs with
  | true=>rfl
  | false=>rw[hq] at h5;simp at h5
 have hh:hasS (c.cons.getD k default).legs s=true:=by
  unfold fD sl at hs;cases q0:hasS (c.cons.getD k default).legs 0 <;> cases q1:hasS (c.cons.getD k default).legs 1 <;> cases q2:hasS (c.cons.getD k default).legs 2 <;> rw[q0,q1,q2] at hs <;> simp at hs
  all_goals rcases hs with rfl|rfl|rfl
  all_goals first|exact q0|exact q1|exact q2
 unfold hasS at hh;rw[List.any_eq_true] at hh;obtain⟨l,hl,e⟩:=hh;unfold pV at h6;rw[List.all_eq_true] at h6;have:=h6 l hl;rw[inBi] at this;rw[beq_iff_eq] at e;omega
theorem fRe {c:Clu} (h:cluF c=0) {k:Nat} (hk:k<c.shards.length):LsOk (c.shards.getD k default):=by
 have h1:=(cluF_zero.1 h).2.2.1;unfold uX at h1;have h2:=kI h1 k hk;unfold rE at h2;have h3:=(orF_zero.1 h2).1;unfold shdF at h3;by_cases hl:kU (c.shards.getD k default)=0
 ·exact(fI5 hl).2.1
 rw[if_neg hl] at h3;exact absurd h3 hl
def zO (c:Clu) (id:Int):Cont:=if fF c.cons id<c.cons.length then c.cons.getD (fF c.cons id) default else ⟨0,[]⟩
theorem fEw {c:Clu} {id s:Int} (h:hasL c id s=true):fF c.cons id<c.cons.length:=by
 unfold hasL at h;rw[Bool.and_eq_true] at h;exact of_decide_eq_true h.1
theorem fX0 {xs:List Shd} {x:Shd} (h:x ∈ xs):∃j,j<xs.length∧xs.getD j default=x:=by
 obtain⟨i,hi,rfl⟩:=List.getElem_of_mem h;exact⟨i,hi,by simp[List.getD,hi]⟩
theorem fXo {c:Clu} (h:cluF c=0):1≤c.shards.length∧c.shards.length≤3:=by
 have h2:=(cluF_zero.1 h).1;unfold szC at h2;split at h2
 ·omega
 omega
end
section
variable [dQ Vot] [iH Vot] [dQ Slt] [iH Slt] [dQ SltR] [iH SltR] [dQ Bal] [iH Bal] [dQ Ledg] [iH Ledg] [dQ Leg] [iH Leg] [dQ Acc] [iH Acc] [dQ AccR] [iH AccR] [dQ AccsR] [iH AccsR] [dQ SltsR] [iH SltsR]
theorem fPl (x:Int) (w:World) :
  Calls Tryz.prog 292 #[.int .i64 x] w fun e w'=>e =.returned (.bool false)∧w'=w:=by
 go_enter Tryz.func292,Tryz.ntmps292;go_wp2;go_ret;exact⟨rfl,rfl⟩
theorem fB6 (x y:Int) (w:World) :
  Calls Tryz.prog 247 #[.int .i64 x,.int .i64 y] w fun e w'=>e =.returned (.int .i64 (cmpZ x y))∧w'=w:=by
 go_enter Tryz.func247,Tryz.ntmps247;go_wp2_with (go_at_call 292;refine(fPl _ _).mono ?_;rintro e w' ⟨rfl,rfl⟩);all_goals (go_ret;refine⟨?_,rfl⟩;unfold cmpZ;(repeat' split) <;> first|rfl|(exfalso;omega))
theorem fSg (b:Nat) (x y:Int) (w:World) (h0:w.cell? ⟨b,0,none⟩=some (.int .i64 x)) (h1:w.cell? ⟨b,1,none⟩=some (.int .i64 y)) :
  Calls Tryz.prog 277 #[.slice (some ⟨b,0,none⟩) 2 2] w fun e w'=>e =.returned (.int .i64 (orZ x y))∧w'=w:=by
 go_enter Tryz.func277,Tryz.ntmps277;go_wp2;go_loopw [8] (fun i w'=>∃k:Nat,k≤2∧i =.int .i64 k∧w'=w∧(0<k→x=0)∧(1<k→y=0)) (fun i _=>2-(intOf i).toNat)
 case atStart=>exact⟨0,by omega,rfl,rfl,by omega,by omega⟩
 obtain⟨k,hk,rfl,rfl,p0,p1⟩:=hrel;rcases(show k=0∨k=1∨k=2 by omega) with rfl|rfl|rfl
 ·
  by_cases hx:x=0
  ·subst hx;go_wp2;exact⟨⟨1,by omega,by go_num,by simp⟩,by simp[intOf]⟩
  go_wp2;go_ret;refine⟨?_,rfl⟩;unfold orZ;rw[if_neg hx];rfl
 ·
  have hx:=p0 oM;subst hx;by_cases hy:y=0
  ·subst hy;go_wp2;exact⟨⟨2,by omega,by go_num,by simp⟩,by simp[intOf]⟩
  go_wp2;go_ret;refine⟨?_,rfl⟩;unfold orZ;rw[if_pos rfl];rfl
 have hx:=p0 oM;have hy:=p1 oM;subst hx hy;go_wp2;go_ret;exact⟨rfl,rfl⟩
theorem qB (x y:Slt) (u v:Value) (w:World) :
  RI 219 #[.agg #[.int .i64 x.con,.int .i64 x.sh,.int .i64 x.pr,.int .i64 x.lb,.int .i64 x.lv,u],.agg #[.int .i64 y.con,.int .i64 y.sh,.int .i64 y.pr,.int .i64 y.lb,.int .i64 y.lv,v]] w (.int .i64 (cmpS x y)):=by
 go_enter Tryz.func219,Tryz.ntmps219;go_wp2;go_region_held3 (fun w'=>Below w.heap.size w w'∧w'.cell? ⟨w.heap.size,0,none⟩=some (.int .i64 x.con)∧w'.cell? ⟨w.heap.size,1,none⟩=some (.int .i64 x.sh)∧w'.cell? ⟨w.heap.size+1,0,none⟩=some (.int .i64 y.con)∧w'.cell? ⟨w.heap.size+1,1,none⟩=some (.int .i64 y.sh))
  ((refine⟨?_,?_,?_,?_,?_⟩;(repeat (first|exact bR _ _|assumption|refine bD ?_|refine bA ?_ _));all_goals simp[go_sem]))
  (first|(go_at_call 247;refine(fB6 _ _ _).mono ?_;rintro e w' ⟨rfl,rfl⟩)|(go_at_call 277;refine(fSg _ (cmpZ x.con y.con) (cmpZ x.sh y.sh) _ ?_ ?_).mono ?_;simp[go_sem];simp[go_sem];rintro e w' ⟨rfl,rfl⟩))
 all_goals
  rename_i hH;have hB:=hH.1;clear hH;go_wp2;go_ret;exact⟨rfl,hB⟩
theorem yU (x y:Slt) (u v:Value) (w:World) :
  RI 198 #[.agg #[.int .i64 x.con,.int .i64 x.sh,.int .i64 x.pr,.int .i64 x.lb,.int .i64 x.lv,u],.agg #[.int .i64 y.con,.int .i64 y.sh,.int .i64 y.pr,.int .i64 y.lb,.int .i64 y.lv,v]] w (.bool (kX x y)):=by
 have e:kX x y=if x.con=y.con then decide (x.sh<y.sh) else decide (x.con<y.con):=by
  rw[Bool.eq_iff_iff,aheadS_iff];split <;> simp only[decide_eq_true_eq] <;> omega
 rw[e];by_cases h:x.con=y.con
 ·
  rw[if_pos h];have f1:(x.con !=y.con)=false:=by simp[h]
  go_enter Tryz.func198,Tryz.ntmps198;go_wp2;go_ret;exact⟨rfl,qBq⟩
 rw[if_neg h];have f1:(x.con !=y.con)=true:=by simp[h]
 go_enter Tryz.func198,Tryz.ntmps198;go_wp2;go_ret;exact⟨rfl,qBq⟩
theorem fCa {w w':World} {b o b' o':Nat} {x y:Slt} {u v:Value} {p:Addr} {q:Value} (hb:Below w.heap.size w w') (h:w.cell? ⟨b,o,none⟩=some (.int .i64 x.con)∧w.cell? ⟨b,o+1,none⟩=some (.int .i64 x.sh)∧w.cell? ⟨b,o+2,none⟩=some (.int .i64 x.pr)∧w.cell? ⟨b,o+3,none⟩=some (.int .i64 x.lb)∧w.cell? ⟨b,o+4,none⟩=some (.int .i64 x.lv)∧w.cell? ⟨b,o+5,none⟩=some (u)) (h':w.cell? ⟨b',o',none⟩=some (.int .i64 y.con)∧w.cell? ⟨b',o'+1,none⟩=some (.int .i64 y.sh)∧w.cell? ⟨b',o'+2,none⟩=some (.int .i64 y.pr)∧w.cell? ⟨b',o'+3,none⟩=some (.int .i64 y.lb)∧w.cell? ⟨b',o'+4,none⟩=some (.int .i64 y.lv)∧w.cell? ⟨b',o'+5,none⟩=some (v)) (hq:w.cell? p=some q) :
  Below w.heap.size w w'∧(w'.cell? ⟨b,o,none⟩=some (.int .i64 x.con)∧w'.cell? ⟨b,o+1,none⟩=some (.int .i64 x.sh)∧w'.cell? ⟨b,o+2,none⟩=some (.int .i64 x.pr)∧w'.cell? ⟨b,o+3,none⟩=some (.int .i64 x.lb)∧w'.cell? ⟨b,o+4,none⟩=some (.int .i64 x.lv)∧w'.cell? ⟨b,o+5,none⟩=some (u))∧(w'.cell? ⟨b',o',none⟩=some (.int .i64 y.con)∧w'.cell? ⟨b',o'+1,none⟩=some (.int .i64 y.sh)∧w'.cell? ⟨b',o'+2,none⟩=some (.int .i64 y.pr)∧w'.cell? ⟨b',o'+3,none⟩=some (.int .i64 y.lb)∧w'.cell? ⟨b',o'+4,none⟩=some (.int .i64 y.lv)∧w'.cell? ⟨b',o'+5,none⟩=some (v))∧w'.cell? p=some q:=
 ⟨hb,⟨cK hb h.1,cK hb h.2.1,cK hb h.2.2.1,cK hb h.2.2.2.1,cK hb h.2.2.2.2.1,cK hb h.2.2.2.2.2⟩,⟨cK hb h'.1,cK hb h'.2.1,cK hb h'.2.2.1,cK hb h'.2.2.2.1,cK hb h'.2.2.2.2.1,cK hb h'.2.2.2.2.2⟩,cK hb hq⟩
end
section
variable [dQ Vot] [iH Vot] [dQ Slt] [iH Slt] [dQ Bal] [iH Bal] [dQ Ledg] [iH Ledg] [dQ Leg] [iH Leg]
theorem fPu (x:Value) (d:Slt) (w:World) (hx:sltR.V w x d) :
  RI 199 #[x] w (.agg #[.int .i64 (rT d.cast d.cast.length).bal,.int .i64 (rT d.cast d.cast.length).val]):=by
 obtain⟨u1,rfl,hx⟩:=hx;obtain⟨ax,cx,rfl,hcx,hmx,hx⟩:=hx;unfold maxLen at hmx;cases hn:d.cast.length with
 | zero=>
  rw[hn] at hcx hx;clear hx;rw[uT];go_enter Tryz.func199,Tryz.ntmps199;go_wp2_with fail;refine(rC _).mono ?_;rintro e w1 ⟨rfl,hb1⟩;have hB:=bT w hb1;obtain⟨c1,f1⟩:=bcell hb1;go_wp2;refine bodyPost_ret (v:=.agg #[.int .i64 (-1),.int .i64 0]) ?_ rfl ⟨rfl,qS⟩;simp[results,Tryz.results199,go_sem,c1]
 | succ m=>
  rw[hn] at hcx hx;rw[tZ];obtain⟨bx,ox,rfl,g1⟩:=hx m oM;clear hx;generalize d.cast.getD m default=l at *;clear hn;obtain⟨g0,g1⟩:=g1;have v1:IntKind.i64.wrap (m:Int)=m:=kD oM oM;have z5:bx<w.heap.size:=wL w _ g0;go_enter Tryz.func199,Tryz.ntmps199;go_wp2;refine bodyPost_ret (v:=.agg #[.int .i64 l.bal,.int .i64 l.val]) ?_ rfl ⟨rfl,qBq⟩;simp[results,Tryz.results199,go_sem]
theorem fAo (x:Value) (d:Slt) (w:World) (hx:sltR.V w x d) :
  RI 132 #[x] w (.int .i64 (fI d)):=by
 have hX:=hx;obtain⟨u1,rfl,hx⟩:=hx;obtain⟨ax,cx,rfl,hcx,hmx,hx⟩:=hx;unfold maxLen at hmx;cases h1:inB d.con 1 1000000000
 ·rw[rF (by simp[kW,h1])];go_enter Tryz.func132,Tryz.ntmps132;go_wp2_with (first|(go_at_call 192;refine(mD _ _).mono ?_;rintro e w' ⟨rfl,rfl⟩)|(go_at_call 123;refine(fM _ _ _ _).mono ?_;rintro e w' ⟨rfl,rfl⟩));go_ret;exact⟨rfl,qBq⟩
 cases h2:inB d.sh 0 2
 ·rw[rF (by simp[kW,h2])];go_enter Tryz.func132,Tryz.ntmps132;go_wp2_with (first|(go_at_call 192;refine(mD _ _).mono ?_;rintro e w' ⟨rfl,rfl⟩)|(go_at_call 123;refine(fM _ _ _ _).mono ?_;rintro e w' ⟨rfl,rfl⟩));go_ret;exact⟨rfl,qBq⟩
 cases h3:inB d.pr (-1) 1000
 ·rw[rF (by simp[kW,h3])];go_enter Tryz.func132,Tryz.ntmps132;go_wp2_with (first|(go_at_call 192;refine(mD _ _).mono ?_;rintro e w' ⟨rfl,rfl⟩)|(go_at_call 123;refine(fM _ _ _ _).mono ?_;rintro e w' ⟨rfl,rfl⟩));go_ret;exact⟨rfl,qBq⟩
 have hR:Hid (kW d=true):=by show _=_;simp[kW,h1,h2,h3]
 by_cases h6:60<d.cast.length
 ·rw[fDj hR.out h6];go_enter Tryz.func132,Tryz.ntmps132;go_wp2_with (first|(go_at_call 192;refine(mD _ _).mono ?_;rintro e w' ⟨rfl,rfl⟩)|(go_at_call 123;refine(fM _ _ _ _).mono ?_;rintro e w' ⟨rfl,rfl⟩));go_ret;exact⟨rfl,qBq⟩
 obtain⟨xs,hxs⟩:∃xs,xs=d.cast:=⟨_,rfl⟩
 have HXS:Hid (d.cast=xs):=hxs.symm;rw[←hxs] at h6 hcx hx hX ⊢;clear hxs;obtain⟨n,hn'⟩:∃n,n=xs.length:=⟨_,rfl⟩
 have HN:Hid (xs.length=n):=hn'.symm;rw[←hn'] at h6 hcx hx hX ⊢;clear hn';go_enter Tryz.func132,Tryz.ntmps132;go_wp2_with (first|(go_at_call 192;refine(mD _ _).mono ?_;rintro e w' ⟨rfl,rfl⟩)|(go_at_call 123;refine(fM _ _ _ _).mono ?_;rintro e w' ⟨rfl,rfl⟩));go_loopw [3] (fun i w'=>∃k:Nat,k≤n∧i =.int .i64 k∧fC (uY xs) k=0∧(w'.cell? ⟨w.heap.size,0,none⟩=some (.int .i64 d.con)∧w'.cell? ⟨w.heap.size,1,none⟩=some (.int .i64 d.sh)∧w'.cell? ⟨w.heap.size,2,none⟩=some (.int .i64 d.pr)∧w'.cell? ⟨w.heap.size,3,none⟩=some (.int .i64 d.lb)∧w'.cell? ⟨w.heap.size,4,none⟩=some (.int .i64 d.lv)∧w'.cell? ⟨w.heap.size,5,none⟩=some (.slice ax n cx))∧Below w.heap.size w w') (fun i _=>n-(intOf i).toNat)
 case atStart=>exact⟨0,oM,rfl,rfl,⟨sG,by simp[go_sem],sG,by simp[go_sem],sG,by simp[go_sem]⟩,qBq⟩
 obtain⟨k,hk,rfl,hs,⟨c0,c1,c2,c3,c4,c5⟩,hbl⟩:=hrel;have HS:Hid (fC (uY xs) k=0):=hs;clear hs;have z0:w.heap.size<wr.heap.size:=wL wr _ c0;by_cases hlt:k<n
 ·
  obtain⟨bx,ox,rfl,g1⟩:=hx k hlt;obtain⟨l,hl⟩:∃l,l=xs.getD k default:=⟨_,rfl⟩
  rw[←hl] at g1;have HL:Hid (l=xs.getD k default):=hl;clear hl;obtain⟨a1,a2⟩:=gL hbl g1;cases v1:inB l.bal 0 1000
  ·clear hx;go_wp2_with (first|(go_at_call 125;refine(fZ _ _).mono ?_;rintro e w' ⟨rfl,rfl⟩)|(go_at_call 126;refine(kC _ _).mono ?_;rintro e w' ⟨rfl,rfl⟩));go_ret;refine⟨?_,qBq⟩;rw[vT (k:=k) (c:=3) hR.out (by rw[HXS.out,HN.out];omega) (by rw[HXS.out,HN.out];exact hlt) (by rw[HXS.out];exact HS.out) (by rw[HXS.out];exact fDs (by rw[←HL.out];simp[votB,v1])) oM];rfl
  cases v2:inB l.val 1 2
  ·clear hx;go_wp2_with (first|(go_at_call 125;refine(fZ _ _).mono ?_;rintro e w' ⟨rfl,rfl⟩)|(go_at_call 126;refine(kC _ _).mono ?_;rintro e w' ⟨rfl,rfl⟩));go_ret;refine⟨?_,qBq⟩;rw[vT (k:=k) (c:=3) hR.out (by rw[HXS.out,HN.out];omega) (by rw[HXS.out,HN.out];exact hlt) (by rw[HXS.out];exact HS.out) (by rw[HXS.out];exact fDs (by rw[←HL.out];simp[votB,v2])) oM];rfl
  have hok:Hid (votB (xs.getD k default)=true):=by show _=_;rw[←HL.out];simp[votB,v1,v2]
  cases k with
  | zero=>
   clear hx;simp only[Nat.zero_mul,Nat.add_zero] at a1 a2;go_wp2_with (first|(go_at_call 125;refine(fZ _ _).mono ?_;rintro e w' ⟨rfl,rfl⟩)|(go_at_call 126;refine(kC _ _).mono ?_;rintro e w' ⟨rfl,rfl⟩));go_quiet (fail);go_wp2;exact⟨⟨1,by omega,by go_num,fE HS.out (fN6 hok.out (by rw[uT];exact fP8 hok.out)),⟨cK (fJ (bA (bR _ _) _) _) c0,cK (fJ (bA (bR _ _) _) _) c1,cK (fJ (bA (bR _ _) _) _) c2,cK (fJ (bA (bR _ _) _) _) c3,cK (fJ (bA (bR _ _) _) _) c4,cK (fJ (bA (bR _ _) _) _) c5⟩,fJ (bA hbl _) _⟩,mI⟩
  | succ m=>
   obtain⟨b',o',he,g2⟩:=hx m oM;simp only[Option.some.injEq,Addr.mk.injEq,and_true] at he;obtain⟨rfl,rfl⟩:=he;obtain⟨o,ho⟩:∃o,o=xs.getD m default:=⟨_,rfl⟩
   rw[←ho] at g2;have HO:Hid (o=xs.getD m default):=ho;clear ho hx;obtain⟨d1,d2⟩:=gL hbl g2;have i1:(m:Int)<(n:Int):=oM;have z5:bx<wr.heap.size:=wL wr _ d1;have i2:m<n:=oM;have w1:IntKind.i64.wrap (m:Int)=m:=kD oM oM;have hL:Hid (∀c,uY xs (m+1)=c↔(if other l o=true then 1 else 0)=c):=by
    intro c;unfold uY;rw[hok.out,tZ,←HL.out,←HO.out];simp
   by_cases q1:l.bal<o.bal
   ·
    have e1:decide (l.bal<o.bal)=true:=by simp[q1]
    go_wp2_with (first|(go_at_call 125;refine(fZ _ _).mono ?_;rintro e w' ⟨rfl,rfl⟩)|(go_at_call 126;refine(kC _ _).mono ?_;rintro e w' ⟨rfl,rfl⟩))
    go_quiet (fail)
    go_wp2;go_ret;refine⟨?_,fJ (bA hbl _) _⟩;rw[vT (k:=m+1) (c:=1) hR.out (by rw[HXS.out,HN.out];omega) (by rw[HXS.out,HN.out];exact hlt) (by rw[HXS.out];exact HS.out) (by rw[HXS.out];exact(hL.out 1).2 (by simp[other,q1])) oM];rfl
   have e1:decide (l.bal<o.bal)=false:=by simp[q1]
   by_cases q2:l.bal=o.bal
   ·
    have e2:(l.bal==o.bal)=true:=by simp[q2]
    by_cases q3:l.val=o.val
    ·
     have e3:(l.val !=o.val)=false:=by simp[q3]
     have HQ:Hid (other l o=false):=by show _=_;simp[other,q2,q3]
     clear q1 q2 q3;go_wp2_with (first|(go_at_call 125;refine(fZ _ _).mono ?_;rintro e w' ⟨rfl,rfl⟩)|(go_at_call 126;refine(kC _ _).mono ?_;rintro e w' ⟨rfl,rfl⟩));go_quiet (fail);go_wp2;exact⟨⟨m+1+1,by omega,by go_num,fE HS.out ((hL.out 0).2 (by rw[HQ.out];rfl)),⟨cK (fJ (bA (bR _ _) _) _) c0,cK (fJ (bA (bR _ _) _) _) c1,cK (fJ (bA (bR _ _) _) _) c2,cK (fJ (bA (bR _ _) _) _) c3,cK (fJ (bA (bR _ _) _) _) c4,cK (fJ (bA (bR _ _) _) _) c5⟩,fJ (bA hbl _) _⟩,mI⟩
    have e3:(l.val !=o.val)=true:=by simp[q3]
    have HQ:Hid (other l o=true):=by show _=_;simp[other,q2,q3]
    clear q1 q2 q3;go_wp2_with (first|(go_at_call 125;refine(fZ _ _).mono ?_;rintro e w' ⟨rfl,rfl⟩)|(go_at_call 126;refine(kC _ _).mono ?_;rintro e w' ⟨rfl,rfl⟩));go_quiet (fail);go_wp2;go_ret;refine⟨?_,fJ (bA hbl _) _⟩;rw[vT (k:=m+1) (c:=1) hR.out (by rw[HXS.out,HN.out];omega) (by rw[HXS.out,HN.out];exact hlt) (by rw[HXS.out];exact HS.out) (by rw[HXS.out];exact(hL.out 1).2 (by rw[HQ.out];rfl)) oM];rfl
   have e2:(l.bal==o.bal)=false:=by simp[q2]
   have HQ:Hid (other l o=false):=by show _=_;simp[other,q1,q2]
   clear q1 q2;go_wp2_with (first|(go_at_call 125;refine(fZ _ _).mono ?_;rintro e w' ⟨rfl,rfl⟩)|(go_at_call 126;refine(kC _ _).mono ?_;rintro e w' ⟨rfl,rfl⟩));go_quiet (fail);go_wp2;exact⟨⟨m+1+1,by omega,by go_num,fE HS.out ((hL.out 0).2 (by rw[HQ.out];rfl)),⟨cK (fJ (bA (bR _ _) _) _) c0,cK (fJ (bA (bR _ _) _) _) c1,cK (fJ (bA (bR _ _) _) _) c2,cK (fJ (bA (bR _ _) _) _) c3,cK (fJ (bA (bR _ _) _) _) c4,cK (fJ (bA (bR _ _) _) _) c5⟩,fJ (bA hbl _) _⟩,mI⟩
 have hkn:k=n:=oM;subst hkn;have HE:Hid (fI d=if (d.lb=(rT xs k).bal∧d.lv=(rT xs k).val)∧d.lb≤d.pr then 0 else 1):=by
  show _=_;rw[fB9 hR.out (by rw[HXS.out,HN.out];omega) (by rw[HXS.out,HN.out];exact HS.out),HXS.out,HN.out]
 have hLast:=fun W h=>fPu (.agg #[.int .i64 d.con,.int .i64 d.sh,.int .i64 d.pr,.int .i64 d.lb,.int .i64 d.lv,.slice ax k cx]) d W h
 rw[HXS.out,HN.out] at hLast;obtain⟨q,hq⟩:∃q,q=rT xs k:=⟨_,rfl⟩
 have HQ:Hid (rT xs k=q):=hq.symm;rw[←hq] at hLast;clear hq hx hlt;have HLast:Hid (bW wr fun W=>RI 199 #[.agg #[.int .i64 d.con,.int .i64 d.sh,.int .i64 d.pr,.int .i64 d.lb,.int .i64 d.lv,.slice ax k cx]] W (.agg #[.int .i64 q.bal,.int .i64 q.val])):=fun W h=>hLast W (sltR.below hX (bS hbl h))
 clear hLast hX;cases he:(decide (d.lb=q.bal)&&decide (d.lv=q.val))
 ·
  clear h1 h2 h3;have heq:∀w,(binOp .neq 126 (.agg #[.int .i64 d.lb,.int .i64 d.lv]) (.agg #[.int .i64 q.bal,.int .i64 q.val])).run Tryz.prog w =.ok (.bool true) w:=fun w=>by rw[uW,he];rfl
  go_wp2;refine wp_region_noPanic ?_;refine fB (fun W=>Below wr.heap.size wr W∧W.cell? ⟨w.heap.size,0,none⟩=some (.int .i64 d.con)∧W.cell? ⟨w.heap.size,1,none⟩=some (.int .i64 d.sh)∧W.cell? ⟨w.heap.size,2,none⟩=some (.int .i64 d.pr)∧W.cell? ⟨w.heap.size,3,none⟩=some (.int .i64 d.lb)∧W.cell? ⟨w.heap.size,4,none⟩=some (.int .i64 d.lv)∧W.cell? ⟨w.heap.size,5,none⟩=some (.slice ax k cx)) 13 kF (fV4 qBq c0 c1 c2 c3 c4 c5) (fun hS=>?_);refine tX 0 ?_;refine tX 1 ?_;refine tX 2 ?_;refine uS 3 rfl (fun K hK=>?_);go_simp;refine(HLast.out _ hS.1).mono ?_;rintro e w3 ⟨rfl,hb3⟩;have hS3:(fun W=>Below wr.heap.size wr W∧W.cell? ⟨w.heap.size,0,none⟩=some (.int .i64 d.con)∧W.cell? ⟨w.heap.size,1,none⟩=some (.int .i64 d.sh)∧W.cell? ⟨w.heap.size,2,none⟩=some (.int .i64 d.pr)∧W.cell? ⟨w.heap.size,3,none⟩=some (.int .i64 d.lb)∧W.cell? ⟨w.heap.size,4,none⟩=some (.int .i64 d.lv)∧W.cell? ⟨w.heap.size,5,none⟩=some (.slice ax k cx)) w3:=⟨bS hS.1 hb3,cK hb3 hS.2.1,cK hb3 hS.2.2.1,cK hb3 hS.2.2.2.1,cK hb3 hS.2.2.2.2.1,cK hb3 hS.2.2.2.2.2.1,cK hb3 hS.2.2.2.2.2.2⟩;refine hK _ _ (fun _=>hS3) ?_;clear hK K hS hb3;try simp only[jX]
  refine tX 4 (v:=(.bool true)) ?_;refine tX 5 (v:=(.bool true)) ?_;refine sX 6 fun _=>?_
  refine sX 7 fun _=>?_
  refine sX 8 fun _=>?_
  refine sX 9 fun _=>?_
  refine sX 10 fun _=>?_
  refine sX 11 fun _=>?_
  refine tX 12 (v:=(.bool true)) ?_;refine dP ?_;have hB3:=bS hbl hS3.1;clear hS3;go_wp2;go_ret;refine⟨?_,hB3⟩;rw[HE.out,HQ.out,if_neg (by simp at he;rintro⟨⟨e1,e2⟩,_⟩;exact he e1 e2)];rfl
 clear h1 h2 h3;have heq:∀w,(binOp .neq 126 (.agg #[.int .i64 d.lb,.int .i64 d.lv]) (.agg #[.int .i64 q.bal,.int .i64 q.val])).run Tryz.prog w =.ok (.bool false) w:=fun w=>by rw[uW,he];rfl
 go_wp2;refine wp_region_noPanic ?_;refine fB (fun W=>Below wr.heap.size wr W∧W.cell? ⟨w.heap.size,0,none⟩=some (.int .i64 d.con)∧W.cell? ⟨w.heap.size,1,none⟩=some (.int .i64 d.sh)∧W.cell? ⟨w.heap.size,2,none⟩=some (.int .i64 d.pr)∧W.cell? ⟨w.heap.size,3,none⟩=some (.int .i64 d.lb)∧W.cell? ⟨w.heap.size,4,none⟩=some (.int .i64 d.lv)∧W.cell? ⟨w.heap.size,5,none⟩=some (.slice ax k cx)) 13 kF (fV4 qBq c0 c1 c2 c3 c4 c5) (fun hS=>?_);refine tX 0 ?_;refine tX 1 ?_;refine tX 2 ?_;refine uS 3 rfl (fun K hK=>?_);go_simp;refine(HLast.out _ hS.1).mono ?_;rintro e w3 ⟨rfl,hb3⟩;have hS3:(fun W=>Below wr.heap.size wr W∧W.cell? ⟨w.heap.size,0,none⟩=some (.int .i64 d.con)∧W.cell? ⟨w.heap.size,1,none⟩=some (.int .i64 d.sh)∧W.cell? ⟨w.heap.size,2,none⟩=some (.int .i64 d.pr)∧W.cell? ⟨w.heap.size,3,none⟩=some (.int .i64 d.lb)∧W.cell? ⟨w.heap.size,4,none⟩=some (.int .i64 d.lv)∧W.cell? ⟨w.heap.size,5,none⟩=some (.slice ax k cx)) w3:=⟨bS hS.1 hb3,cK hb3 hS.2.1,cK hb3 hS.2.2.1,cK hb3 hS.2.2.2.1,cK hb3 hS.2.2.2.2.1,cK hb3 hS.2.2.2.2.2.1,cK hb3 hS.2.2.2.2.2.2⟩;refine hK _ _ (fun _=>hS3) ?_;clear hK K hS hb3;try simp only[jX]
 refine tX 4 (v:=(.bool false)) ?_;refine tX 5 (v:=(.bool false)) ?_;refine tX 6 ?_;refine tX 7 ?_;refine tX 8 ?_;refine tX 9 ?_;refine tX 10 ?_;refine tX 11 ?_;refine tX 12 ?_;refine dP ?_;have hB3:=bS hbl hS3.1;clear hS3;go_wp2
 ·rename_i hle;go_ret;refine⟨?_,hB3⟩;rw[HE.out,HQ.out,if_neg (by rintro⟨_,h⟩;omega)];rfl
 rename_i hle;go_ret;refine⟨?_,hB3⟩;simp at he;rw[HE.out,HQ.out,if_pos ⟨he,by omega⟩];rfl
variable [dQ SltR] [iH SltR] [dQ Acc] [iH Acc] [dQ AccR] [iH AccR] [dQ AccsR] [iH AccsR] [dQ SltsR] [iH SltsR]
theorem fJn (x:Value) (d:Acc) (w:World) (hx:accR.V w x d) :
  RI 122 #[x] w (.int .i64 (accF d.slots)):=by
 obtain⟨u1,rfl,hx⟩:=hx;obtain⟨ax,cx,rfl,hcx,hmx,hx⟩:=hx;unfold maxLen at hmx;obtain⟨xs⟩:=d;dsimp only at hx hcx ⊢;obtain⟨n,hn'⟩:∃n,n=xs.length:=⟨_,rfl⟩
 have HN:Hid (xs.length=n):=hn'.symm;rw[←hn'] at hcx hx ⊢;clear hn';by_cases h6:60<n
 ·have HC:Hid (accF xs=2):=fHg (by rw[HN.out];exact h6);have h6':(60:Int)<n:=oM;clear hx;go_enter Tryz.func122,Tryz.ntmps122;go_wp2;go_ret;exact⟨rH,qBq⟩
 have h6':¬(60:Int)<n:=oM;have HH:Hid (∀k c,k<n→fC (qO xs) k=0→qO xs k=c→¬c=0→accF xs=c):=fun k c hk hs hc h0=>fMu (by rw[HN.out];exact h6) (by rw[HN.out];exact hk) hs hc h0
 have HE:Hid (fC (qO xs) n=0→accF xs=0):=fun hs=>fMt (by rw[HN.out];exact h6) (by rw[HN.out];exact hs)
 clear h6;go_enter Tryz.func122,Tryz.ntmps122;go_wp2;go_loopw [3] (fun i w'=>∃k:Nat,k≤n∧i =.int .i64 k∧fC (qO xs) k=0∧w'.cell? ⟨w.heap.size,0,none⟩=some (.slice ax n cx)∧Below w.heap.size w w') (fun i _=>n-(intOf i).toNat)
 case atStart=>exact⟨0,oM,rfl,rfl,by simp[go_sem],qBq⟩
 obtain⟨k,hk,rfl,hs,hq,hbl⟩:=hrel;have HS:Hid (fC (qO xs) k=0):=hs;clear hs;by_cases hlt:k<n
 ·
  obtain⟨bxa,oxa,ua,rfl,_,pa,hva⟩:=hx k oM;obtain⟨l,hla⟩:∃l,l=xs.getD k default:=⟨_,rfl⟩
  rw[←hla] at hva;have HLa:Hid (l=xs.getD k default):=hla;clear hla;have hVa:=hva;obtain⟨sa,rfl,hca⟩:=hva;obtain⟨aua,cua,rfl⟩:=gJ hca;clear hca;have ga0:w.cell? ⟨bxa,oxa+k*6,none⟩=some (.int .i64 l.con):=pa 0 oM;have ga1:w.cell? ⟨bxa,oxa+k*6+1,none⟩=some (.int .i64 l.sh):=pa 1 oM;have ga2:w.cell? ⟨bxa,oxa+k*6+2,none⟩=some (.int .i64 l.pr):=pa 2 oM;have ga3:w.cell? ⟨bxa,oxa+k*6+3,none⟩=some (.int .i64 l.lb):=pa 3 oM;have ga4:w.cell? ⟨bxa,oxa+k*6+4,none⟩=some (.int .i64 l.lv):=pa 4 oM;have ga5:w.cell? ⟨bxa,oxa+k*6+5,none⟩=some (.slice aua l.cast.length cua):=pa 5 oM;clear pa;have HF:Hid (bW w fun W=>RI 132 #[.agg #[.int .i64 l.con,.int .i64 l.sh,.int .i64 l.pr,.int .i64 l.lb,.int .i64 l.lv,.slice aua l.cast.length cua]] W (.int .i64 (fI l))):=fun W h=>fAo _ l W (sltR.below hVa h)
  clear hVa;have hX:Hid (∀i,i<n→∃b o u,some (⟨bxa,oxa,none⟩:Addr)=some ⟨b,o,none⟩∧(uU u).length=6∧(∀j,j<6→w.cell? ⟨b,o+i*6+j,none⟩=(uU u)[j]?)∧sltR.V w u (xs.getD i default)):=hx;clear hx;replace ga0:=cK hbl ga0;replace ga1:=cK hbl ga1;replace ga2:=cK hbl ga2;replace ga3:=cK hbl ga3;replace ga4:=cK hbl ga4;replace ga5:=cK hbl ga5;have zb:bxa<wr.heap.size:=wL wr _ ga0;have zq:w.heap.size<wr.heap.size:=wL wr _ hq;go_wp2_with fail;refine(HF.out _ qBq).mono ?_;rintro e w1 ⟨rfl,hb1⟩;have hB1:=bT w hb1;have hq1:w1.cell? ⟨w.heap.size,0,none⟩=some (.slice (some ⟨bxa,oxa,none⟩) n cx):=cK hb1 (by simp[go_sem,hq,zq]);replace ga0:=cK hb1 (cK qBq ga0);replace ga1:=cK hb1 (cK qBq ga1);replace ga2:=cK hb1 (cK qBq ga2);replace ga3:=cK hb1 (cK qBq ga3);replace ga4:=cK hb1 (cK qBq ga4);replace ga5:=cK hb1 (cK qBq ga5);clear hb1 hq;have HX:Hid (qO xs k=if fI l=0 then (if k=0 then 0 else if kX (xs.getD (k-1) default) l=true then 0 else 1) else fI l):=by show _=_;unfold qO;rw[←HLa.out]
  by_cases hf:fI l=0
  ·
   rw[hf];have HX2:Hid (qO xs k=if k=0 then 0 else if kX (xs.getD (k-1) default) l=true then 0 else 1):=by show _=_;rw[HX.out,if_pos hf]
   clear hf HX;cases k with
   | zero=>
    have H0:Hid (qO xs 0=0):=by show _=_;rw[HX2.out,if_pos rfl]
    clear HX2;clear ga0 ga1 ga2 ga3 ga4 ga5 hX;go_wp2;go_quiet (fail);go_wp2;exact⟨⟨1,by omega,by go_num,fE HS.out H0.out,cK (fJ (bR _ _) _) hq1,fJ hB1 _⟩,mI⟩
   | succ p=>
    have hx:=hX.out;clear hX;have hxz:=hx p oM;obtain⟨bxz,oxz,uz,hez,_,pz,hvz⟩:=hxz;simp only[Option.some.injEq,Addr.mk.injEq,and_true] at hez;obtain⟨rfl,rfl⟩:=hez;obtain⟨z,hlz⟩:∃l,l=xs.getD p default:=⟨_,rfl⟩
    rw[←hlz] at hvz;have HLz:Hid (z=xs.getD p default):=hlz;clear hlz;have hVz:=hvz;obtain⟨sz,rfl,hcz⟩:=hvz;obtain⟨auz,cuz,rfl⟩:=gJ hcz;clear hcz;have gz0:w.cell? ⟨bxa,oxa+p*6,none⟩=some (.int .i64 z.con):=pz 0 oM;have gz1:w.cell? ⟨bxa,oxa+p*6+1,none⟩=some (.int .i64 z.sh):=pz 1 oM;have gz2:w.cell? ⟨bxa,oxa+p*6+2,none⟩=some (.int .i64 z.pr):=pz 2 oM;have gz3:w.cell? ⟨bxa,oxa+p*6+3,none⟩=some (.int .i64 z.lb):=pz 3 oM;have gz4:w.cell? ⟨bxa,oxa+p*6+4,none⟩=some (.int .i64 z.lv):=pz 4 oM;have gz5:w.cell? ⟨bxa,oxa+p*6+5,none⟩=some (.slice auz z.cast.length cuz):=pz 5 oM;clear pz;clear hx hVz;replace gz0:=cK hB1 gz0;replace gz1:=cK hB1 gz1;replace gz2:=cK hB1 gz2;replace gz3:=cK hB1 gz3;replace gz4:=cK hB1 gz4;replace gz5:=cK hB1 gz5;have i1:(p:Int)<(n:Int):=oM;have i2:((p+1:Nat):Int)<(n:Int):=oM;have i3:(0:Int)<((p+1:Nat):Int):=oM;have i4:decide (0<p+1)=true:=decide_eq_true oM;have i5:IntKind.i64.wrap (((p+1:Nat):Int)-1)=(p:Int):=by rw[IntKind.wrap_i64];omega
    have i6:(0:Int)≤((p+1:Nat):Int):=oM;have i7:(0:Int)≤(p:Int):=oM;have i8:(p:Int)+1<(n:Int):=oM;have i9:(0:Int)≤(p:Int)+1:=oM;have i10:((p:Int)+1).toNat=p+1:=oM;have w1':IntKind.i64.wrap (p:Int)=p:=kD oM oM;have HX3:Hid (qO xs (p+1)=if kX z l=true then 0 else 1):=by show _=_;rw[HX2.out,if_neg oM,Nat.add_sub_cancel,←HLz.out]
    clear HX2;obtain⟨u,hu⟩:∃u:Value,u =.slice aua l.cast.length cua:=⟨_,rfl⟩
    obtain⟨u',hu'⟩:∃u:Value,u =.slice auz z.cast.length cuz:=⟨_,rfl⟩
    have rA:=And.intro ga0 (And.intro ga1 (And.intro ga2 (And.intro ga3 (And.intro ga4 ga5))));have rZ:=And.intro gz0 (And.intro gz1 (And.intro gz2 (And.intro gz3 (And.intro gz4 gz5))));clear ga0 gz0 ga1 gz1 ga2 gz2 ga3 gz3 ga4 gz4 ga5 gz5 hu hu';cases hah:kX z l
    ·have hah':kX z l=false:=hah;have HAH:Hid (kX z l=false):=hah';clear hah';go_wp2;go_region_held3 (fun W=>Below w1.heap.size w1 W∧(W.cell? ⟨bxa,oxa+(p+1)*6,none⟩=some (.int .i64 l.con)∧W.cell? ⟨bxa,oxa+(p+1)*6+1,none⟩=some (.int .i64 l.sh)∧W.cell? ⟨bxa,oxa+(p+1)*6+2,none⟩=some (.int .i64 l.pr)∧W.cell? ⟨bxa,oxa+(p+1)*6+3,none⟩=some (.int .i64 l.lb)∧W.cell? ⟨bxa,oxa+(p+1)*6+4,none⟩=some (.int .i64 l.lv)∧W.cell? ⟨bxa,oxa+(p+1)*6+5,none⟩=some (.slice aua l.cast.length cua))∧(W.cell? ⟨bxa,oxa+p*6,none⟩=some (.int .i64 z.con)∧W.cell? ⟨bxa,oxa+p*6+1,none⟩=some (.int .i64 z.sh)∧W.cell? ⟨bxa,oxa+p*6+2,none⟩=some (.int .i64 z.pr)∧W.cell? ⟨bxa,oxa+p*6+3,none⟩=some (.int .i64 z.lb)∧W.cell? ⟨bxa,oxa+p*6+4,none⟩=some (.int .i64 z.lv)∧W.cell? ⟨bxa,oxa+p*6+5,none⟩=some (.slice auz z.cast.length cuz))∧W.cell? ⟨w.heap.size,0,none⟩=some (.slice (some ⟨bxa,oxa,none⟩) n cx)) ((refine fCa ?_ rA rZ hq1;repeat (first|exact bR _ _|assumption|refine bD ?_|refine bA ?_ _|refine bS ?_ (by assumption)))) (first|(go_at_call 198;refine(yU z l _ _ _).mono ?_;rintro e wa ⟨rfl,hb2⟩;rw[hah]));rename_i hH;have hB2:=bS hB1 hH.1;have hq2:=hH.2.2.2;clear hH;have HC:Hid (accF xs=1):=HH.out (p+1) 1 hlt HS.out (by rw[HX3.out,HAH.out];rfl) oM;go_wp2;go_ret;exact⟨rH,hB2⟩
    have hah':kX z l=true:=hah;have HAH:Hid (kX z l=true):=hah';clear hah';go_wp2;go_region_held3 (fun W=>Below w1.heap.size w1 W∧(W.cell? ⟨bxa,oxa+(p+1)*6,none⟩=some (.int .i64 l.con)∧W.cell? ⟨bxa,oxa+(p+1)*6+1,none⟩=some (.int .i64 l.sh)∧W.cell? ⟨bxa,oxa+(p+1)*6+2,none⟩=some (.int .i64 l.pr)∧W.cell? ⟨bxa,oxa+(p+1)*6+3,none⟩=some (.int .i64 l.lb)∧W.cell? ⟨bxa,oxa+(p+1)*6+4,none⟩=some (.int .i64 l.lv)∧W.cell? ⟨bxa,oxa+(p+1)*6+5,none⟩=some (.slice aua l.cast.length cua))∧(W.cell? ⟨bxa,oxa+p*6,none⟩=some (.int .i64 z.con)∧W.cell? ⟨bxa,oxa+p*6+1,none⟩=some (.int .i64 z.sh)∧W.cell? ⟨bxa,oxa+p*6+2,none⟩=some (.int .i64 z.pr)∧W.cell? ⟨bxa,oxa+p*6+3,none⟩=some (.int .i64 z.lb)∧W.cell? ⟨bxa,oxa+p*6+4,none⟩=some (.int .i64 z.lv)∧W.cell? ⟨bxa,oxa+p*6+5,none⟩=some (.slice auz z.cast.length cuz))∧W.cell? ⟨w.heap.size,0,none⟩=some (.slice (some ⟨bxa,oxa,none⟩) n cx)) ((refine fCa ?_ rA rZ hq1;repeat (first|exact bR _ _|assumption|refine bD ?_|refine bA ?_ _|refine bS ?_ (by assumption)))) (first|(go_at_call 198;refine(yU z l _ _ _).mono ?_;rintro e wa ⟨rfl,hb2⟩;rw[hah]));rename_i hH;have hB2:=bS hB1 hH.1;have hq2:=hH.2.2.2;clear hH;have H0:Hid (qO xs (p+1)=0):=by show _=_;rw[HX3.out,HAH.out];rfl
    go_wp2;exact⟨⟨p+1+1,by omega,by go_num,fE HS.out H0.out,hq2,hB2⟩,mI⟩
  have HC:Hid (accF xs=fI l):=HH.out k _ hlt HS.out (by rw[HX.out,if_neg hf]) hf;clear HX hX;generalize fI l=c at *;go_wp2;go_ret;exact⟨rH,hB1⟩
 have hkn:k=n:=oM;subst hkn;have HC:Hid (accF xs=0):=HE.out HS.out;go_wp2;go_ret;exact⟨rH,qBq⟩
end
end Go.Proofs.YtbfnobcidnmohaaGreat

import Derived.Test.YtbfnobcidnmohaaGreatPrnBooksBalanceLaw16
import Derived.BigQuiet
import Derived.Deep.QuietTactic
import Derived.Deep.RegionHeld3
set_option maxHeartbeats 8000000
set_option maxRecDepth 20000
set_option linter.unusedSimpArgs false
set_option linter.unusedVariables false
set_option linter.unusedSectionVars false
namespace Go.Proofs.YtbfnobcidnmohaaGreat
open Go.RowKit
variable [DecidableEq Rw] [Inhabited Rw] [DecidableEq Bal] [Inhabited Bal] [DecidableEq Ledg] [Inhabited Ledg] [DecidableEq Leg] [Inhabited Leg] [DecidableEq Cont] [Inhabited Cont] [DecidableEq LedgR] [Inhabited LedgR] [DecidableEq OutcR] [Inhabited OutcR] [DecidableEq Mrk] [Inhabited Mrk] [DecidableEq Shd] [Inhabited Shd] [DecidableEq ShdR] [Inhabited ShdR]
attribute [local go_sem ↓] Go.wp_at_zero Go.wp_at_succ
def PanicAs (D:List Deferred) (k:Nat) (p:Value) (R:List PanicEntry→World→Prop) (Q:Exit→Act→World→Prop):Exit→Act→World→Prop
 | .panic c,a,w=>a.defers=D∧a.tmps[k]? = some p∧R c w
 | e,a,w=>Q e a w
theorem PanicAs.put {D:List Deferred} {k:Nat} {p:Value} {R:List PanicEntry→World→Prop} {Q:Exit→Act→World→Prop} {dst:Option Nat} {v:Value} {c:List PanicEntry} {a:Act} {w:World} (hk:dst≠some k) (h:PanicAs D k p R Q (.panic c) (a.put dst v) w):PanicAs D k p R Q (.panic c) a w:=by
 cases dst with
 | none=>exact h
 | some j=>
  obtain⟨h1,h2,h3⟩:=h;have hj:j≠k:=fun e=>hk (by rw[e])
  refine⟨h1,?_,h3⟩;simp only[Act.put] at h2;rw[Array.getElem?_setIfInBounds_ne hj] at h2;exact h2
theorem PanicAs.normal {D:List Deferred} {k:Nat} {p:Value} {R:List PanicEntry→World→Prop} {Q:Exit→Act→World→Prop} {a:Act} {w:World} (h:Q .normal a w):PanicAs D k p R Q .normal a w:=h
theorem fA2 {P:Program} {id:Nat} {ops:Array Oper} {b:Bool} {Q:Exit→Act→World→Prop} {a:Act} {w:World} (D:List Deferred) (k:Nat) (p:Value) (R:List PanicEntry→World→Prop)
  (hi:∀c a w,a.defers=D→a.tmps[k]? = some p→R c w→Q (.panic c) a w) (h:(Code.region id ops b).wp P (PanicAs D k p R Q) a w):(Code.region id ops b).wp P Q a w:=
 Code.wp_mono (fun e a w h=>by
  cases e with
  | panic c=>exact hi c a w h.1 h.2.1 h.2.2
  | _=>exact h) h
theorem fVe (w W:World) (tm:Array Value) (B:Nat) (Z c x:Int) (hz:Z=c) (ht:tm[2]? = some (.pointer (some ⟨B,0,none⟩))) (hB:w.heap.size≤B) (hc:W.cell? ⟨B,0,none⟩=some (.int .i64 x)) (hf:W.frozen? ⟨B,0,none⟩=false) (hb:Below w.heap.size w W) :
  Leaves Tryz.prog Tryz.f146 tm (fun e w'=>e = .returned (.int .i64 Z)∧Below w.heap.size w w') [{target:=.fn (.func 209) #[.pointer (some ⟨B,0,none⟩)],args:=#[]}] (.panicking [{v:=refV c,recovered:=false}]) W:=by
 refine leaves_cons (f:=209) (args:=#[.pointer (some ⟨B,0,none⟩)]) (by simp) (by simp[go_sem]) ?_;refine(fAg ⟨B,0,none⟩ x c [] W hc hf).mono ?_;rintro e u' w2 ⟨rfl,rfl,w1,hb1,rfl⟩;have hc1:w1.cell? ⟨B,0,none⟩=some (.int .i64 x):=cK hb1 hc;have hf1:w1.frozen? ⟨B,0,none⟩=false:=by rw[hb1.frozen (p:=⟨B,0,none⟩) (wL W _ hc)];exact hf
 have hB1:Below w.heap.size w w1:=bS hb hb1;subst hz;refine⟨.int .i64 Z,?_,rfl,?_⟩
 ·
  simp[results,Tryz.results146,go_sem,ht,hc1,hf1]
 (repeat (first|refine bset ?_ (by simp;omega) _|refine bset ?_ (by simp) _|refine bA ?_ _|assumption))
theorem fVq (w W:World) (tm:Array Value) (B:Nat) (Z x:Int) (hz:Z=x) (ht:tm[2]? = some (.pointer (some ⟨B,0,none⟩))) (hB:w.heap.size≤B) (hc:W.cell? ⟨B,0,none⟩=some (.int .i64 x)) (hb:Below w.heap.size w W) :
  Leaves Tryz.prog Tryz.f146 tm (fun e w'=>e = .returned (.int .i64 Z)∧Below w.heap.size w w') [{target:=.fn (.func 209) #[.pointer (some ⟨B,0,none⟩)],args:=#[]}] .returning W:=by
 refine leaves_cons (f:=209) (args:=#[.pointer (some ⟨B,0,none⟩)]) (by simp) (by simp[go_sem]) ?_;refine(fG6 ⟨B,0,none⟩ W).mono ?_;rintro e u' w2 ⟨rfl,rfl,hb1⟩;have hc1:w2.cell? ⟨B,0,none⟩=some (.int .i64 x):=cK hb1 hc;have hB1:Below w.heap.size w w2:=bS hb hb1;subst hz;refine⟨.int .i64 Z,?_,rfl,hB1⟩;simp[results,Tryz.results146,go_sem,ht,hc1]
theorem fNn {w:World} {a:Option Addr} {n c k:Nat} {xs:List Cont} (hx:contsR.V w (.slice a n c) xs) (hk:k≤n):contsR.V w (.slice a k c) (xs.take k):=by
 obtain⟨a',c',e,h1,h2,h3⟩:=hx;simp only[Value.slice.injEq] at e;obtain⟨rfl,rfl,rfl⟩:=e;refine⟨a,c,by rw[List.length_take,Nat.min_eq_left hk],by rw[List.length_take];omega,h2,fun i hi=>?_⟩;rw[List.length_take] at hi;have e:(xs.take k).getD i default=xs.getD i default:=by simp[List.getD,List.getElem?_take,show i<k by omega]
 rw[e];exact h3 i (by omega)
theorem frz {w w':World} {p:Addr} (hb:Below w.heap.size w w') (hp:p.block<w.heap.size) (h:w.frozen? p=false):w'.frozen? p=false:=by rw[hb.frozen hp];exact h
theorem fPs {d:Shd} {k:Nat} (hk:k<d.held.length):fA4 d.idx (d.held.take k) (d.held.getD k default).legs=gK d k:=by
 unfold fA4 gK;rw[fG0 (by omega)];rfl
theorem fCu {d:Shd} (h:kD d=0):mX d.idx d.bals=0∧LsOk d∧HeldOk d:=by
 unfold kD at h;split at h
 ·
  rename_i h0;split at h
  ·
   omega
  rename_i h1;split at h
  ·
   rename_i h2;split at h
   ·
    rename_i h3;split at h
    ·
     rename_i h4;exact⟨h0,⟨by omega,by omega,by omega,by omega,xC h2,xC h3⟩,fCk h4⟩
    rename_i h4;exact absurd h h4
   rename_i h3;exact absurd h h3
  rename_i h2;exact absurd h h2
 rename_i h0;exact absurd h h0
theorem fHw (x:Value) (d:Shd) (w:World) (hx:shdR.V w x d) :
  Calls Tryz.prog 146 #[x] w fun e w'=>e = .returned (.int .i64 (shdF d))∧Below w.heap.size w w':=by
 have HLi:Hid (∀W,Below w.heap.size w W→Calls Tryz.prog 208 #[x] W fun e w'=>e = .returned (.int .i64 (kD d))∧Below W.heap.size W w'):=fun W hW=>fD1 x d W (shdR.below hx hW)
 have HBo:Hid (∀W,Below w.heap.size w W→mX d.idx d.bals=0→Calls Tryz.prog 212 #[x] W fun e w'=>∃b,e = .returned (.agg #[.int .i64 3,.map (some b)])∧W.heap.size≤b∧Book w' b 54 (kC (rU d.idx d.bals))∧Below W.heap.size W w'):=fun W hW h0=>fG3 x d W (shdR.below hx hW) h0
 obtain⟨u1,u2,u3,u4,u5,rfl,h1,h2,h3,h4,h5⟩:=hx;have HX3:Hid (∃a c,u3 = .slice a d.held.length c∧d.held.length≤c∧c≤maxLen∧∀k,k<d.held.length→∃b o p q,a=some ⟨b,o,none⟩∧w.cell? ⟨b,o+k*2,none⟩=some (.int .i64 (d.held.getD k default).id)∧w.cell? ⟨b,o+k*2+1,none⟩=some (.slice p (d.held.getD k default).legs.length q)∧contR.V w (.agg #[.int .i64 (d.held.getD k default).id,.slice p (d.held.getD k default).legs.length q]) (d.held.getD k default)):=tF h3;obtain⟨a1,c1,rfl⟩:=fJ h1;obtain⟨a2,c2,rfl⟩:=fK h2;obtain⟨a3,c3,rfl⟩:=fZ h3;obtain⟨a4,c4,rfl⟩:=fK h4;obtain⟨a5,c5,rfl⟩:=gT h5;obtain⟨_,_,e3,hc3,hm3,hx3⟩:=HX3.out;simp only[Value.slice.injEq,true_and] at e3;obtain⟨rfl,rfl⟩:=e3;unfold maxLen at hm3;have HX:Hid (∀k,k<d.held.length→∃b o p q,a3=some ⟨b,o,none⟩∧w.cell? ⟨b,o+k*2,none⟩=some (.int .i64 (d.held.getD k default).id)∧w.cell? ⟨b,o+k*2+1,none⟩=some (.slice p (d.held.getD k default).legs.length q)∧contR.V w (.agg #[.int .i64 (d.held.getD k default).id,.slice p (d.held.getD k default).legs.length q]) (d.held.getD k default)):=hx3;have HAp:Hid (HeldOk d→∀k W id ul,k<d.held.length→Below w.heap.size w W→legsR.V W ul (d.held.getD k default).legs→Calls Tryz.prog 211 #[.int .i64 d.idx,.slice a3 k c3,.agg #[.int .i64 id,ul]] W (fGr (gK d k) W)):=fun hh k W id ul hk hW hl=>by
  rw[←fPs hk];exact fFp d.idx id _ ul (d.held.take k) _ W (contsR.below (fNn h3 (by omega)) hW) hl (by have:=hh.len hk;omega)
 have HCo:Hid (HeldOk d→mX d.idx d.bals=0→∀k W id ul b,k<d.held.length→legsR.V W ul (d.held.getD k default).legs→Book W b 54 (kC (rU d.idx d.bals))→Calls Tryz.prog 213 #[.int .i64 d.idx,.agg #[.int .i64 3,.map (some b)],.agg #[.int .i64 id,ul]] W (fGr (gI d k) W)):=fun hh h0 k W id ul b hk hl hb=>
  fCs d.idx id b ul d.bals _ W hb hl (by have:=hh.len hk;omega) (fE8 h0).1 (fE8 h0).2 (hh.fault hk)
 have HD0:Hid (¬kD d=0→shdF d=kD d):=fun h=>by unfold shdF;rw[if_neg h]
 have HD1:Hid (kD d=0→∀k,k<d.held.length→fC (gK d) k=0→¬gK d k=0→shdF d=gK d k):=fun h k hk hs hc=>by
  have h1:=fH hs hc _ hk;unfold shdF vS;rw[if_pos h,if_neg (by rw[h1];exact hc),h1]
 have HD2:Hid (kD d=0→fC (gK d) d.held.length=0→∀k,k<d.held.length→fC (gI d) k=0→¬gI d k=0→shdF d=gI d k):=fun h h0 k hk hs hc=>by
  have h1:=fH hs hc _ hk;unfold shdF vS;rw[if_pos h,if_pos h0,h1]
 have HD3:Hid (kD d=0→fC (gK d) d.held.length=0→fC (gI d) d.held.length=0→shdF d=0):=fun h h0 h1=>by
  unfold shdF vS;rw[if_pos h,if_pos h0,h1]
 have HOk:Hid (kD d=0→mX d.idx d.bals=0∧LsOk d∧HeldOk d):=fun h=>fCu h
 clear h1 h2 h3 h4 h5 HX3 hx3;generalize d.bals.length=n1 at *;generalize d.votes.length=n2 at *;generalize d.held.length=n3 at *;generalize d.done.length=n4 at *;generalize d.appl.length=n5 at *;obtain⟨Z,hZ⟩:∃Z,Z=shdF d:=⟨_,rfl⟩
 rw[←hZ] at HD0 HD1 HD2 HD3 ⊢;clear hZ;generalize kD d=lf at *;have hmf:∀(fn:Fn) (first cap:Array Value) (w:World),(Instr.makeFunc fn first cap).run Tryz.prog w = .ok (.func fn first cap) w:=fun _ _ _ _=>rfl
 go_enter_defers Tryz.func146,Tryz.ntmps146
 go_wp2_with fail;refine(HLi.out _ (qBq)).mono ?_;rintro e w1 ⟨rfl,hb1⟩;have f1:=(bcell hb1).2;have hB1:Below w.heap.size w w1:=bS (qBq) hb1;have hz1:=hb1.size;simp at hz1;have y0:w1.cell? ⟨w.heap.size,0,none⟩=some (.int .i64 d.idx):=cK hb1 (by simp[go_sem]);have y1:w1.cell? ⟨w.heap.size,1,none⟩=some (.slice a1 n1 c1):=cK hb1 (by simp[go_sem]);have y2:w1.cell? ⟨w.heap.size,2,none⟩=some (.slice a2 n2 c2):=cK hb1 (by simp[go_sem]);have y3:w1.cell? ⟨w.heap.size,3,none⟩=some (.slice a3 n3 c3):=cK hb1 (by simp[go_sem]);have y4:w1.cell? ⟨w.heap.size,4,none⟩=some (.slice a4 n4 c4):=cK hb1 (by simp[go_sem]);have y5:w1.cell? ⟨w.heap.size,5,none⟩=some (.slice a5 n5 c5):=cK hb1 (by simp[go_sem]);have r0:w1.cell? ⟨w.heap.size+1,0,none⟩=some (.int .i64 0):=cK hb1 (by simp[go_sem]);have rf:w1.frozen? ⟨w.heap.size+1,0,none⟩=false:=by rw[f1 _ _ (by simp)];simp[go_sem]
 clear hb1 f1 HLi;by_cases hlf:lf=0;rotate_left
 ·
  have HC:=HD0.out hlf;have hlf':(lf !=0)=true:=by simp[hlf]
  clear HD0 HD1 HD2 HD3 HAp HCo HBo HX HOk;go_wp2;refine⟨.int .i64 lf,by simp[results,Tryz.results146,go_sem,r0,rf],by rw[HC],?_⟩;(repeat (first|refine bset ?_ (by simp;omega) _|refine bset ?_ (by simp) _|refine bA ?_ _|assumption))
 obtain⟨h0,hls,hhk⟩:=HOk.out hlf;have HD1':Hid (∀k,k<n3→fC (gK d) k=0→¬gK d k=0→Z=gK d k):=HD1.out hlf;have HD2':Hid (fC (gK d) n3=0→∀k,k<n3→fC (gI d) k=0→¬gI d k=0→Z=gI d k):=HD2.out hlf;have HD3':Hid (fC (gK d) n3=0→fC (gI d) n3=0→Z=0):=HD3.out hlf;have HAp':Hid (∀k W id ul,k<n3→Below w.heap.size w W→legsR.V W ul (d.held.getD k default).legs→Calls Tryz.prog 211 #[.int .i64 d.idx,.slice a3 k c3,.agg #[.int .i64 id,ul]] W (fGr (gK d k) W)):=HAp.out hhk;have HCo':Hid (∀k W id ul b,k<n3→legsR.V W ul (d.held.getD k default).legs→Book W b 54 (kC (rU d.idx d.bals))→Calls Tryz.prog 213 #[.int .i64 d.idx,.agg #[.int .i64 3,.map (some b)],.agg #[.int .i64 id,ul]] W (fGr (gI d k) W)):=HCo.out hhk h0;have HBo':Hid (∀W,Below w.heap.size w W→Calls Tryz.prog 212 #[.agg #[.int .i64 d.idx,.slice a1 n1 c1,.slice a2 n2 c2,.slice a3 n3 c3,.slice a4 n4 c4,.slice a5 n5 c5]] W fun e w'=>∃b,e = .returned (.agg #[.int .i64 3,.map (some b)])∧W.heap.size≤b∧Book w' b 54 (kC (rU d.idx d.bals))∧Below W.heap.size W w'):=fun W hW=>HBo.out W hW h0
 clear HD0 HD1 HD2 HD3 HAp HCo HBo HOk h0 hls hhk;rw[hlf];clear hlf;go_wp2;obtain⟨wq,hwq⟩:∃wq,wq=w1.setCell ⟨w.heap.size+1,0,none⟩ (.int .i64 0):=⟨_,rfl⟩
 have hBq:Below w.heap.size w wq:=by rw[hwq];(repeat (first|refine bset ?_ (by simp;omega) _|refine bset ?_ (by simp) _|refine bA ?_ _|assumption))
 have zq:w.heap.size+1<wq.heap.size:=by rw[hwq];simp;omega
 replace y0:wq.cell? ⟨w.heap.size,0,none⟩=some (.int .i64 d.idx):=by rw[hwq];simp[go_sem,y0]
 replace y1:wq.cell? ⟨w.heap.size,1,none⟩=some (.slice a1 n1 c1):=by rw[hwq];simp[go_sem,y1]
 replace y2:wq.cell? ⟨w.heap.size,2,none⟩=some (.slice a2 n2 c2):=by rw[hwq];simp[go_sem,y2]
 replace y3:wq.cell? ⟨w.heap.size,3,none⟩=some (.slice a3 n3 c3):=by rw[hwq];simp[go_sem,y3]
 replace y4:wq.cell? ⟨w.heap.size,4,none⟩=some (.slice a4 n4 c4):=by rw[hwq];simp[go_sem,y4]
 replace y5:wq.cell? ⟨w.heap.size,5,none⟩=some (.slice a5 n5 c5):=by rw[hwq];simp[go_sem,y5]
 replace r0:wq.cell? ⟨w.heap.size+1,0,none⟩=some (.int .i64 0):=by rw[hwq];simp[go_sem,r0]
 replace rf:wq.frozen? ⟨w.heap.size+1,0,none⟩=false:=by rw[hwq];simp[go_sem,rf]
 rw[←hwq];clear hwq hB1 hz1;try clear w1
 go_loopw [17] (fun i w'=>∃k:Nat,k≤n3∧i = .int .i64 k∧Hid (fC (gK d) k=0)∧Below wq.heap.size wq w') (fun i _=>n3-(intOf i).toNat)
 case atStart=>exact⟨0,Nat.zero_le _,rfl,rfl,Below.refl _ _⟩
 obtain⟨k,hk,rfl,HS,hbl⟩:=hrel;have hBr:Below w.heap.size w wr:=bS hBq hbl;have zr:=hbl.size;replace y0:=cK hbl y0;replace y1:=cK hbl y1;replace y2:=cK hbl y2;replace y3:=cK hbl y3;replace y4:=cK hbl y4;replace y5:=cK hbl y5;replace r0:=cK hbl r0;replace rf:wr.frozen? ⟨w.heap.size+1,0,none⟩=false:=by rw[hbl.frozen (p:=⟨w.heap.size+1,0,none⟩) zq];exact rf
 by_cases hlt:k<n3
 ·
  obtain⟨bx,ox,pp,qq,rfl,g0,g1,hV⟩:=HX.out k hlt;obtain⟨ul,hul,hvl⟩:=hV;simp only[Value.agg.injEq,Array.mk.injEq,List.cons.injEq,and_true,true_and] at hul;subst hul;have HC1:Hid (∀W,Below wr.heap.size wr W→Calls Tryz.prog 211 #[.int .i64 d.idx,.slice (some ⟨bx,ox,none⟩) k c3,.agg #[.int .i64 (d.held.getD k default).id,.slice pp (d.held.getD k default).legs.length qq]] W (fGr (gK d k) W)):=fun W hW=>HAp'.out k W _ _ hlt (bS hBr hW) (legsR.below hvl (bS hBr hW))
  have HP:Hid (¬gK d k=0→Z=gK d k):=fun h=>HD1'.out k hlt HS.out h
  have HN:Hid (gK d k=0→fC (gK d) (k+1)=0):=fun h=>fD HS.out h
  clear hvl HS;generalize (d.held.getD k default).legs.length=ll at *;generalize (d.held.getD k default).id=qid at *;generalize gK d k=ak at *;replace g0:=cK hBr g0;replace g1:=cK hBr g1;have zb:bx<wr.heap.size:=wL wr _ g0;have hkc:k≤c3:=by omega
  have zz0:w.heap.size<wr.heap.size:=by omega
  go_wp2;refine fA2 [{target:=.fn (.func 209) #[.pointer (some ⟨w.heap.size+1,0,none⟩)],args:=#[]}] 2 (.pointer (some ⟨w.heap.size+1,0,none⟩)) (fun c W=>∃q,c=[{v:=refV q,recovered:=false}]∧Z=q∧W.cell? ⟨w.heap.size+1,0,none⟩=some (.int .i64 0)∧W.frozen? ⟨w.heap.size+1,0,none⟩=false∧Below w.heap.size w W) ?_ ?_
  ·
   rintro c a W hd ht ⟨q,rfl,hz,hc,hf,hb⟩;show Leaves Tryz.prog Tryz.f146 a.tmps _ a.defers (.panicking _) W;rw[hd];exact fVe w W a.tmps _ Z q 0 hz ht (Nat.le_succ _) hc hf hb
  refine fA (fun W=>Below wr.heap.size wr W∧W.cell? ⟨w.heap.size,0,none⟩=some (.int .i64 d.idx)∧W.cell? ⟨w.heap.size,3,none⟩=some (.slice (some ⟨bx,ox,none⟩) n3 c3)∧W.cell? ⟨wr.heap.size,0,none⟩=some (.int .i64 qid)∧W.cell? ⟨wr.heap.size,1,none⟩=some (.slice pp ll qq)∧W.cell? ⟨w.heap.size+1,0,none⟩=some (.int .i64 0)∧W.frozen? ⟨w.heap.size+1,0,none⟩=false) 8 (by kernel_rfl) ⟨qBq,cK (qBq) y0,cK (qBq) y3,by simp[go_sem],by simp[go_sem],cK (qBq) r0,frz (qBq) (show w.heap.size+1<wr.heap.size by omega) rf⟩ (fun hS=>?_);refine kL (i:=0) (v:=?_) rfl (by kernel_rfl) (by kernel_rfl) (by kernel_rfl) (by kernel_rfl) (fun _ _ _=>PanicAs.put (by decide)) (by rfl) hS ?_ ?_;rotate_left
  ·
   intro wS hSw;(try dsimp only at hSw);go_simp;try with_reducible rfl
  try simp only[jX]
  refine kL (i:=1) (v:=?_) rfl (by kernel_rfl) (by kernel_rfl) (by kernel_rfl) (by kernel_rfl) (fun _ _ _=>PanicAs.put (by decide)) (by rfl) hS ?_ ?_;rotate_left
  ·
   intro wS hSw;(try dsimp only at hSw);go_simp;try with_reducible rfl
  try simp only[jX]
  refine kL (i:=2) (v:=?_) rfl (by kernel_rfl) (by kernel_rfl) (by kernel_rfl) (by kernel_rfl) (fun _ _ _=>PanicAs.put (by decide)) (by rfl) hS ?_ ?_;rotate_left
  ·
   intro wS hSw;(try dsimp only at hSw);go_simp;try with_reducible rfl
  try simp only[jX]
  refine kL (i:=3) (v:=?_) rfl (by kernel_rfl) (by kernel_rfl) (by kernel_rfl) (by kernel_rfl) (fun _ _ _=>PanicAs.put (by decide)) (by rfl) hS ?_ ?_;rotate_left
  ·
   intro wS hSw;(try dsimp only at hSw);go_simp;try with_reducible rfl
  try simp only[jX]
  refine kL (i:=4) (v:=?_) rfl (by kernel_rfl) (by kernel_rfl) (by kernel_rfl) (by kernel_rfl) (fun _ _ _=>PanicAs.put (by decide)) (by rfl) hS ?_ ?_;rotate_left
  ·
   intro wS hSw;(try dsimp only at hSw);go_simp;try with_reducible rfl
  try simp only[jX]
  refine kL (i:=5) (v:=?_) rfl (by kernel_rfl) (by kernel_rfl) (by kernel_rfl) (by kernel_rfl) (fun _ _ _=>PanicAs.put (by decide)) (by rfl) hS ?_ ?_;rotate_left
  ·
   intro wS hSw;(try dsimp only at hSw);go_simp;try with_reducible rfl
  try simp only[jX]
  refine kL (i:=6) (v:=?_) rfl (by kernel_rfl) (by kernel_rfl) (by kernel_rfl) (by kernel_rfl) (fun _ _ _=>PanicAs.put (by decide)) (by rfl) hS ?_ ?_;rotate_left
  ·
   intro wS hSw;(try dsimp only at hSw);go_simp;try with_reducible rfl
  try simp only[jX]
  refine uS 7 rfl (fun K hK=>?_);go_simp;refine(HC1.out _ hS.1).mono ?_;rintro e wz ⟨he,hbz⟩;have hbz':Below wr.heap.size wr wz:=bS hS.1 hbz;have zz:w.heap.size+1<wr.heap.size:=by omega
  rcases he with ⟨h,rfl⟩|⟨h,rfl⟩
  rotate_left
  ·
   refine⟨rfl,rfl,ak,rfl,HP.out h,cK hbz' r0,frz hbz' zz rf,bS hBr hbz'⟩
  refine hK _ _ (fun _=>⟨hbz',cK hbz hS.2.1,cK hbz hS.2.2.1,cK hbz hS.2.2.2.1,cK hbz hS.2.2.2.2.1,cK hbz' r0,frz hbz' zz rf⟩) ?_;clear hK K hS hbz;try simp only[jX]
  refine fDe (by kernel_rfl) ?_;refine PanicAs.normal ?_;go_wp2;exact⟨⟨k+1,by omega,by go_num,HN.out h,bS hbl hbz'⟩,by simp[intOf];omega⟩
 have hkn:k=n3:=by omega
 subst hkn;have HP2:Hid (∀j,j<k→fC (gI d) j=0→¬gI d j=0→Z=gI d j):=HD2'.out HS.out;have HP3:Hid (fC (gI d) k=0→Z=0):=HD3'.out HS.out;clear HD1' HD2' HD3' HAp' HS;go_wp2_with fail;refine(HBo'.out _ hBr).mono ?_;rintro e w3 ⟨b,rfl,hbb,hbk,hb3⟩;have hB3:Below w.heap.size w w3:=bS hBr hb3;have zz:w.heap.size+1<wr.heap.size:=by omega
 have z3:=hb3.size;have zb:b<w3.heap.size:=hbk.lt;replace y0:=cK hb3 y0;replace y1:=cK hb3 y1;replace y2:=cK hb3 y2;replace y3:=cK hb3 y3;replace y4:=cK hb3 y4;replace y5:=cK hb3 y5;replace r0:=cK hb3 r0;replace rf:=frz hb3 zz rf;have HBk:Hid (Book w3 b 54 (kC (rU d.idx d.bals))):=hbk;have zw:w.heap.size<w3.heap.size:=by omega
 have zw1:w.heap.size+1<w3.heap.size:=by omega
 clear hbk hb3 HBo' hbl hBr hBq;go_wp2;obtain⟨w4,hw4⟩:∃w4,w4=w3.alloc (.cells #[.int .i64 3,.map (some b)] 95):=⟨_,rfl⟩
 have hb4:Below w3.heap.size w3 w4:=by rw[hw4];(repeat (first|exact bR _ _|assumption|refine bD ?_|refine bA ?_ _|refine bset ?_ (by simp;omega) _|refine bset ?_ (by simp) _|refine bS ?_ (by assumption)))
 have q0:w4.cell? ⟨w3.heap.size,0,none⟩=some (.int .i64 3):=by rw[hw4];simp[go_sem]
 have q1:w4.cell? ⟨w3.heap.size,1,none⟩=some (.map (some b)):=by rw[hw4];simp[go_sem]
 rw[←hw4];clear hw4;have hB4:Below w.heap.size w w4:=bS hB3 hb4;have z4:w.heap.size+1<w4.heap.size:=by have:=hb4.size;omega
 have HBk4:Hid (Book w4 b 54 (kC (rU d.idx d.bals))):=HBk.out.below hb4;replace y0:=cK hb4 y0;replace y1:=cK hb4 y1;replace y2:=cK hb4 y2;replace y3:=cK hb4 y3;replace y4:=cK hb4 y4;replace y5:=cK hb4 y5;replace r0:=cK hb4 r0;replace rf:=frz hb4 (show w.heap.size+1<w3.heap.size by omega) rf;clear HBk;go_loopw [36] (fun i w'=>∃j:Nat,j≤k∧i = .int .i64 j∧Hid (fC (gI d) j=0)∧Below w4.heap.size w4 w') (fun i _=>k-(intOf i).toNat)
 case atStart=>exact⟨0,Nat.zero_le _,rfl,rfl,Below.refl _ _⟩
 rename_i wr0;obtain⟨j,hj,rfl,HS,hbl⟩:=hrel;have hBr:Below w.heap.size w wr:=bS hB4 hbl;have zr:=hbl.size;replace y0:=cK hbl y0;replace y1:=cK hbl y1;replace y2:=cK hbl y2;replace y3:=cK hbl y3;replace y4:=cK hbl y4;replace y5:=cK hbl y5;replace r0:=cK hbl r0;replace rf:=frz hbl z4 rf;replace q0:=cK hbl q0;replace q1:=cK hbl q1;have HBkr:Hid (Book wr b 54 (kC (rU d.idx d.bals))):=HBk4.out.below hbl;by_cases hlt2:j<k
 ·
  obtain⟨bx,ox,pp,qq,rfl,g0,g1,hV⟩:=HX.out j hlt2;obtain⟨ul,hul,hvl⟩:=hV;simp only[Value.agg.injEq,Array.mk.injEq,List.cons.injEq,and_true,true_and] at hul;subst hul;have HC1:Hid (∀W,Below wr.heap.size wr W→Calls Tryz.prog 213 #[.int .i64 d.idx,.agg #[.int .i64 3,.map (some b)],.agg #[.int .i64 (d.held.getD j default).id,.slice pp (d.held.getD j default).legs.length qq]] W (fGr (gI d j) W)):=fun W hW=>HCo'.out j W _ _ b hlt2 (legsR.below hvl (bS hBr hW)) (HBkr.out.below hW)
  have HP:Hid (¬gI d j=0→Z=gI d j):=fun h=>HP2.out j hlt2 HS.out h
  have HN:Hid (gI d j=0→fC (gI d) (j+1)=0):=fun h=>fD HS.out h
  clear hvl HS;generalize (d.held.getD j default).legs.length=ll at *;generalize (d.held.getD j default).id=qid at *;generalize gI d j=ak at *;replace g0:=cK hBr g0;replace g1:=cK hBr g1;have zb2:bx<wr.heap.size:=wL wr _ g0;have zq3:w3.heap.size<wr.heap.size:=wL wr _ q0;have zz2:w.heap.size+1<wr.heap.size:=by omega
  have zz3:w.heap.size<wr.heap.size:=by omega
  go_wp2_with fail;refine(HC1.out _ (qBq)).mono ?_;rintro e wz ⟨he,hbz⟩;have hbz':Below wr.heap.size wr wz:=bS (qBq) hbz;clear hbz;rcases he with ⟨h,rfl⟩|⟨h,rfl⟩
  ·
   have HN2:Hid _:=HN.out h;clear HN HP h;go_wp2;exact⟨⟨j+1,by omega,by go_num,HN2,bS hbl hbz'⟩,by simp[intOf];omega⟩
  have hz:=HP.out h;exact fVe w wz _ _ Z ak 0 hz rfl (Nat.le_succ _) (cK hbz' r0) (frz hbz' zz2 rf) (bS hBr hbz')
 have hjn:j=k:=by omega
 subst hjn;have hz:=HP3.out HS.out;clear HP2 HP3 HS;go_wp2;refine fVq w _ _ (w.heap.size+1) Z 0 hz rfl (Nat.le_succ _) (by simp[go_sem,r0,rf]) ?_;(repeat (first|refine bset ?_ (by simp;omega) _|refine bset ?_ (by simp) _|refine bA ?_ _|assumption))
end Go.Proofs.YtbfnobcidnmohaaGreat
namespace Go.Proofs.YtbfnobcidnmohaaGreat
open Go.RowKit
variable [DecidableEq Leg] [Inhabited Leg] [DecidableEq Cont] [Inhabited Cont] [DecidableEq Bal] [Inhabited Bal] [DecidableEq Mrk] [Inhabited Mrk] [DecidableEq Shd] [Inhabited Shd] [DecidableEq Vot] [Inhabited Vot] [DecidableEq Slt] [Inhabited Slt] [DecidableEq Acc] [Inhabited Acc] [DecidableEq Trr] [Inhabited Trr] [DecidableEq Hrd] [Inhabited Hrd] [DecidableEq Ldr] [Inhabited Ldr] [DecidableEq Msg] [Inhabited Msg] [DecidableEq Clu] [Inhabited Clu] [DecidableEq Ledg] [Inhabited Ledg] [DecidableEq SltR] [Inhabited SltR] [DecidableEq AccR] [Inhabited AccR] [DecidableEq AccsR] [Inhabited AccsR] [DecidableEq SltsR] [Inhabited SltsR] [DecidableEq Rw] [Inhabited Rw] [DecidableEq LedgR] [Inhabited LedgR] [DecidableEq OutcR] [Inhabited OutcR] [DecidableEq ShdR] [Inhabited ShdR]
theorem fUj {c:Clu} (h:cluF c=0) {k:Nat} (hk:k<c.cons.length):fB (c.cons.getD k default).id (c.cons.getD k default).legs=0∧∀s,s ∈ kK (c.cons.getD k default).legs→0≤s∧s<(c.shards.length:Int):=by
 have h1:=(cluF_zero.1 h).2.1;unfold vT at h1;have h2:=mD h1 k hk;unfold vC at h2;have h3:=(orF_zero.1 h2).1;unfold subF at h3;obtain⟨h4,h5⟩:=orF_zero.1 h3;refine⟨h4,fun s hs=>?_⟩;have h6:pX c.shards.length (c.cons.getD k default).legs=true:=by
  cases hq:pX c.shards.length (c.cons.getD k default).legs with
  | true=>rfl
  | false=>rw[hq] at h5;simp at h5
 have hh:hasS (c.cons.getD k default).legs s=true:=by
  unfold kK sl at hs;cases q0:hasS (c.cons.getD k default).legs 0 <;> cases q1:hasS (c.cons.getD k default).legs 1 <;> cases q2:hasS (c.cons.getD k default).legs 2 <;> rw[q0,q1,q2] at hs <;> simp at hs
  all_goals rcases hs with rfl|rfl|rfl
  all_goals first|exact q0|exact q1|exact q2
 unfold hasS at hh;rw[List.any_eq_true] at hh;obtain⟨l,hl,e⟩:=hh;unfold pX at h6;rw[List.all_eq_true] at h6;have:=h6 l hl;rw[inBi] at this;rw[beq_iff_eq] at e;omega
theorem fUk {c:Clu} (h:cluF c=0) {k:Nat} (hk:k<c.shards.length):LsOk (c.shards.getD k default):=by
 have h1:=(cluF_zero.1 h).2.2.1;unfold uL at h1;have h2:=mD h1 k hk;unfold qU at h2;have h3:=(orF_zero.1 h2).1;unfold shdF at h3;by_cases hl:kD (c.shards.getD k default)=0
 ·
  exact(fCu hl).2.1
 rw[if_neg hl] at h3;exact absurd h3 hl
def qM (c:Clu) (id:Int):Cont:=if fE c.cons id<c.cons.length then c.cons.getD (fE c.cons id) default else ⟨0,[]⟩
def pW (c:Clu) (s:Shd) (id:Int):List Leg:=onSh s.idx (qM c id).legs
def fBf (c:Clu) (s:Shd):List Leg:=s.appl.flatMap (pW c s)
def allL (c:Clu):List Leg:=c.shards.flatMap (fBf c)
def allP (c:Clu) (k j:Nat):List Leg:=(c.shards.take k).flatMap (fBf c)++((c.shards.getD k default).appl.take j).flatMap (pW c (c.shards.getD k default))
def uF (g:Ledg) (c:Clu) (i:Nat):Bool:=decide (addB (g.shards.getD i default) (fBf c (c.shards.getD i default))=(c.shards.getD i default).bals)
def rW (g:Ledg) (c:Clu):Bool:=decide (cluF c=0∧fP g=0∧g.shards.length=c.shards.length∧∀i,i<c.shards.length→uF g c i=true)
theorem take_at {α:Type} [Inhabited α] (xs:List α) (k:Nat) (h:k<xs.length):xs.take (k+1)=xs.take k++[xs.getD k default]:=by
 rw[List.take_add_one];simp[List.getD,h]
theorem fMx (xs:List Int) (k:Nat) (h:k<xs.length):xs.take (k+1)=xs.take k++[xs.getD k 0]:=by
 rw[List.take_add_one];simp[List.getD,h]
theorem fGw (f:Int→Int→Int→Option Int) (xs ys:List Leg):kH f (xs++ys)=kH (kH f xs) ys:=by unfold kH;rw[List.foldl_append]
theorem fRx (bs:List Bal) (xs ys:List Leg):addB bs (xs++ys)=addB (addB bs xs) ys:=by unfold addB;rw[List.foldl_append]
theorem fPr (c:Clu):allP c 0 0=[]:=by simp[allP]
theorem fPq (c:Clu) {k j:Nat} (hj:j<(c.shards.getD k default).appl.length):allP c k (j+1)=allP c k j++pW c (c.shards.getD k default) ((c.shards.getD k default).appl.getD j 0):=by
 unfold allP;rw[fMx _ _ hj,List.flatMap_append,List.append_assoc];simp
theorem fGz (c:Clu) {k:Nat} (hk:k<c.shards.length):allP c k (c.shards.getD k default).appl.length=allP c (k+1) 0:=by
 unfold allP;rw[List.take_length,take_at _ _ hk,List.flatMap_append];simp[fBf]
theorem fRz (c:Clu):allP c c.shards.length 0=allL c:=by
 unfold allP allL;rw[List.take_length];simp
theorem fHk {id:Int}:∀{xs:List Mrk},¬gJ id xs=0→∃m ∈ xs,m.con=id
 | [],h=>absurd rfl h
 | m::r,h=>by
  unfold gJ at h;split at h
  ·
   rename_i e;exact⟨m,List.mem_cons_self ..,e⟩
  obtain⟨m',h1,h2⟩:=fHk h;exact⟨m',List.mem_cons_of_mem _ h1,h2⟩
theorem rR {c:Clu} (h:cluF c=0) {k:Nat} (hk:k<c.shards.length):(c.shards.getD k default).idx=(k:Int)∧LsOk (c.shards.getD k default)∧∀j,j<(c.shards.getD k default).appl.length→hasL c ((c.shards.getD k default).appl.getD j 0) (c.shards.getD k default).idx=true:=by
 have h1:=(cluF_zero.1 h).2.2.1;unfold uL at h1;have h2:=mD h1 k hk;unfold qU at h2;obtain⟨h3,h4⟩:=orF_zero.1 h2;obtain⟨s,hs⟩:∃s,s=c.shards.getD k default:=⟨_,rfl⟩
 have hl:=fUk h hk;rw[←hs] at h3 h4 hl ⊢;split at h4
 ·
  rename_i h5;refine⟨h5.1,hl,fun j hj=>?_⟩;have h6:=h5.2;unfold qP strange at h6;simp only[Bool.and_eq_true,Bool.not_eq_true',List.any_eq_false,Bool.not_eq_true] at h6;have h7:kD s=0:=by
   unfold shdF at h3;by_cases e:kD s=0
   ·
    exact e
   rw[if_neg e] at h3;exact absurd h3 e
  have h8:uK s.done s.appl=true:=by
   unfold kD at h7;split at h7
   ·
    split at h7
    ·
     omega
    split at h7
    ·
     split at h7
     ·
      split at h7
      ·
       split at h7
       ·
        split at h7
        ·
         assumption
        omega
       omega
      rename_i h9;exact absurd h7 h9
     rename_i h9;exact absurd h7 h9
    rename_i h9;exact absurd h7 h9
   rename_i h9;exact absurd h7 h9
  unfold uK at h8;have h9:=((of_decide_eq_true h8).2 j hj).1;obtain⟨m,hm,e⟩:=fHk (id:=s.appl.getD j 0) (xs:=s.done) (by rw[h9];omega);have:=h6.2.1 m hm;rw[e] at this;cases hq:hasL c (s.appl.getD j 0) s.idx with
  | true=>rfl
  | false=>exact absurd (by rw[hq]) this
 omega
theorem fL1 {c:Clu} (h:cluF c=0) {id:Int} (hi:fE c.cons id<c.cons.length):qM c id=c.cons.getD (fE c.cons id) default∧fB (qM c id).id (qM c id).legs=0:=by
 have e:qM c id=c.cons.getD (fE c.cons id) default:=if_pos hi;rw[e];exact⟨rfl,(fUj h hi).1⟩
theorem fAn {c:Clu} {id s:Int} (h:hasL c id s=true):fE c.cons id<c.cons.length:=by
 unfold hasL at h;rw[Bool.and_eq_true] at h;exact of_decide_eq_true h.1
theorem fHb {c:Cont} (h:fB c.id c.legs=0):(∀l ∈ c.legs,gF l=0)∧c.legs.length≤8:=by
 refine⟨fun l hl=>?_,(fB6 h).2.2.1⟩;obtain⟨i,hi,rfl⟩:=List.getElem_of_mem hl;have h1:=((fB6 h).2.2.2.1 i hi).1;have e:c.legs.getD i default=c.legs[i]:=by rw[List.getD,List.getElem?_eq_getElem hi];rfl
 rw[e] at h1;exact h1
theorem uI {c:Clu} (h:cluF c=0) {k j:Nat} (hk:k<c.shards.length) (hj:j<(c.shards.getD k default).appl.length):(∀l ∈ pW c (c.shards.getD k default) ((c.shards.getD k default).appl.getD j 0),gF l=0∧l.sh=(k:Int))∧(pW c (c.shards.getD k default) ((c.shards.getD k default).appl.getD j 0)).length≤8:=by
 obtain⟨h1,h2,h3⟩:=rR h hk;obtain⟨h4,h5⟩:=fHb (fL1 h (fAn (h3 j hj))).2;unfold pW;refine⟨fun l hl=>?_,Nat.le_trans (List.length_filter_le _ _) h5⟩;have:=List.mem_filter.1 hl;exact⟨h4 l this.1,by have e:=this.2;rw[h1] at e;simpa using e⟩
theorem fBw {α β:Type} {f:α→List β} {n:Nat}:∀{xs:List α},(∀x ∈ xs,(f x).length≤n)→(xs.flatMap f).length≤xs.length*n
 | [],_=>by simp
 | x::r,h=>by
  have h1:=h x (List.mem_cons_self ..);have h2:=fBw (xs:=r) (fun y hy=>h y (List.mem_cons_of_mem _ hy));simp only[List.flatMap_cons,List.length_append,List.length_cons,Nat.succ_mul];omega
theorem fE7 {xs:List Int} {x:Int} (h:x ∈ xs):∃j,j<xs.length∧xs.getD j 0=x:=by
 obtain⟨i,hi,rfl⟩:=List.getElem_of_mem h;exact⟨i,hi,by simp[List.getD,hi]⟩
theorem fUd {xs:List Shd} {x:Shd} (h:x ∈ xs):∃j,j<xs.length∧xs.getD j default=x:=by
 obtain⟨i,hi,rfl⟩:=List.getElem_of_mem h;exact⟨i,hi,by simp[List.getD,hi]⟩
theorem fBt {c:Clu} (h:cluF c=0) {k:Nat} (hk:k<c.shards.length):(∀l ∈ fBf c (c.shards.getD k default),gF l=0∧l.sh=(k:Int))∧(fBf c (c.shards.getD k default)).length≤800:=by
 constructor
 ·
  intro l hl;unfold fBf at hl;obtain⟨id,h1,h2⟩:=List.mem_flatMap.1 hl;obtain⟨j,hj,rfl⟩:=fE7 h1;exact(uI h hk hj).1 l h2
 have h1:(fBf c (c.shards.getD k default)).length≤(c.shards.getD k default).appl.length*8:=fBw fun id hid=>by
  obtain⟨j,hj,rfl⟩:=fE7 hid;exact(uI h hk hj).2
 have:=(rR h hk).2.1.na;omega
theorem fJy {c:Clu} (h:cluF c=0):(∀l ∈ allL c,gF l=0∧0≤l.sh∧l.sh<(c.shards.length:Int))∧(allL c).length≤2400:=by
 constructor
 ·
  intro l hl;obtain⟨s,h1,h2⟩:=List.mem_flatMap.1 hl;obtain⟨k,hk,rfl⟩:=fUd h1;obtain⟨h3,h4⟩:=(fBt h hk).1 l h2;exact⟨h3,by omega,by omega⟩
 have h1:(allL c).length≤c.shards.length*800:=fBw fun s hs=>by
  obtain⟨k,hk,rfl⟩:=fUd hs;exact(fBt h hk).2
 have h2:=(cluF_zero.1 h).1;unfold szC at h2;split at h2
 ·
  omega
 omega
theorem fLz {c:Clu} (h:cluF c=0):1≤c.shards.length∧c.shards.length≤3:=by
 have h2:=(cluF_zero.1 h).1;unfold szC at h2;split at h2
 ·
  omega
 omega
theorem fR0 (c:Clu) {k j:Nat} (hk:k<c.shards.length) (hj:j≤(c.shards.getD k default).appl.length):∃r,allL c=allP c k j++r:=by
 have e1:allL c=allP c (k+1) 0++(c.shards.drop (k+1)).flatMap (fBf c):=by
  unfold allL allP;simp only[List.take_zero,List.flatMap_nil,List.append_nil];rw[←List.flatMap_append,List.take_append_drop]
 rw[←fGz c hk] at e1;have e2:allP c k (c.shards.getD k default).appl.length=allP c k j++((c.shards.getD k default).appl.drop j).flatMap (pW c (c.shards.getD k default)):=by
  unfold allP;rw[List.append_assoc,←List.flatMap_append,List.take_append_drop,List.take_length]
 exact⟨_,by rw[e1,e2,List.append_assoc]⟩
theorem fRy {g:Ledg} {c:Clu} (h0:fP g=0) (h:cluF c=0) {k j:Nat} (hk:k<c.shards.length) (hj:j<(c.shards.getD k default).appl.length) :
  ∀i,i<(pW c (c.shards.getD k default) ((c.shards.getD k default).appl.getD j 0)).length →
   kwf ((pW c (c.shards.getD k default) ((c.shards.getD k default).appl.getD j 0)).getD i default).sh ((pW c (c.shards.getD k default) ((c.shards.getD k default).appl.getD j 0)).getD i default).ac ((pW c (c.shards.getD k default) ((c.shards.getD k default).appl.getD j 0)).getD i default).ast ∧
   -9223372036854775808≤(kH (kH (kC g.shards) (allP c k j)) ((pW c (c.shards.getD k default) ((c.shards.getD k default).appl.getD j 0)).take i) ((pW c (c.shards.getD k default) ((c.shards.getD k default).appl.getD j 0)).getD i default).sh ((pW c (c.shards.getD k default) ((c.shards.getD k default).appl.getD j 0)).getD i default).ac ((pW c (c.shards.getD k default) ((c.shards.getD k default).appl.getD j 0)).getD i default).ast).getD 0+((pW c (c.shards.getD k default) ((c.shards.getD k default).appl.getD j 0)).getD i default).am ∧
   (kH (kH (kC g.shards) (allP c k j)) ((pW c (c.shards.getD k default) ((c.shards.getD k default).appl.getD j 0)).take i) ((pW c (c.shards.getD k default) ((c.shards.getD k default).appl.getD j 0)).getD i default).sh ((pW c (c.shards.getD k default) ((c.shards.getD k default).appl.getD j 0)).getD i default).ac ((pW c (c.shards.getD k default) ((c.shards.getD k default).appl.getD j 0)).getD i default).ast).getD 0+((pW c (c.shards.getD k default) ((c.shards.getD k default).appl.getD j 0)).getD i default).am≤9223372036854775807:=by
 obtain⟨h1,h2⟩:=uI h hk hj;obtain⟨r,hr⟩:=fR0 c hk (Nat.le_of_lt hj);obtain⟨h3,h4⟩:=fJy h;generalize pW c (c.shards.getD k default) ((c.shards.getD k default).appl.getD j 0)=ls at *;intro i hi;have e:ls.getD i default=ls[i]:=by simp[List.getD,hi]
 have hz:=gP (h1 _ (List.getElem_mem hi)).1;rw[e,←fGw];have hb:=fJx (M:=1000000000000) (fJ4 h0) (allP c k j++ls.take i) (fun l hl=>by
  rcases List.mem_append.1 hl with hl|hl
  ·
   exact(gP (h3 l (by rw[hr];exact List.mem_append_left _ hl)).1).2.2.2.1
  exact(gP (h1 l (List.mem_of_mem_take hl)).1).2.2.2.1) ls[i].sh ls[i].ac ls[i].ast
 have hl2:(allP c k j).length≤2400:=by rw[hr,List.length_append] at h4;omega
 rw[List.length_append,List.length_take] at hb;have hmin:min i ls.length≤8:=by omega
 generalize (kH (kC g.shards) (allP c k j++ls.take i) ls[i].sh ls[i].ac ls[i].ast).getD 0=q at *;refine⟨⟨xK (by omega) (by omega),xK (by omega) (by omega),xK (by omega) (by omega)⟩,by omega,by omega⟩
structure SumSt (n:Nat) (xs:List Bal):Prop where
 rise:RiseB xs
 am:∀x ∈ xs,-((n+1:Nat)*1000000000000:Int)≤x.am∧x.am≤((n+1:Nat)*1000000000000:Int)
theorem fTk {xs:List Bal} (h:RiseB xs):xs.length≤18:=by
 have h1:(xs.map (fun x=>(plB x).toNat)).Nodup:=by
  rw[List.nodup_iff_pairwise_ne,List.pairwise_map];exact h.rise.imp_of_mem fun {a b} ha hb hab=>by
   have ka:=keyOk_iff.1 (h.key a ha);have kb:=keyOk_iff.1 (h.key b hb);unfold plB at hab ⊢;omega
 have h2:=fFz 18 _ h1 (fun x hx=>by
  obtain⟨b,hb,rfl⟩:=List.mem_map.1 hx;have kb:=keyOk_iff.1 (h.key b hb);unfold plB;omega)
 simpa using h2
theorem fTt {n:Nat} {xs:List Bal} {l:Leg} (h:SumSt n xs) (hl:gF l=0):SumSt (n+1) (uZ xs l):=by
 have hz:=gP hl;have hb:=fAm (M:=((n+1:Nat)*1000000000000:Int)) (by omega) (a:=l.ac) (t:=l.ast) h.am;unfold uZ;refine⟨(fIq (keyOk_iff.2 ⟨hz.2.1,hz.2.2.1⟩) h.rise).1,fun x hx=>?_⟩;rcases fTn hx with hx|rfl
 ·
  have:=h.am x hx;omega
 dsimp only;have:=hz.2.2.2.1;omega
theorem fLe:∀{ls:List Leg} {n:Nat} {xs:List Bal},SumSt n xs→(∀l ∈ ls,gF l=0)→SumSt (n+ls.length) (addB xs ls)
 | [],_,_,h,_=>h
 | l::r,n,xs,h,hl=>by
  have h1:=fLe (fTt h (hl l (List.mem_cons_self ..))) (fun x hx=>hl x (List.mem_cons_of_mem _ hx));have e:n+(l::r).length=n+1+r.length:=by simp only[List.length_cons];omega
  rw[e];exact h1
theorem fRg {xs:List Bal} (h:BalsOk xs):SumSt 0 xs:=by
 refine⟨fQ4 h,fun x hx=>?_⟩;obtain⟨i,hi,rfl⟩:=List.mem_iff_getElem.1 hx;have:=h.ok i hi;have e:xs.getD i default=xs[i]:=by simp[List.getD,hi]
 rw[e] at this;have:=(balOk_iff.1 this).2;omega
theorem fRf {n:Nat} {xs:List Bal} {ls:List Leg} (h:SumSt n xs) (hl:∀l ∈ ls,gF l=0) (hn:n+ls.length≤1000000):AddOk xs ls:=by
 have hs:∀k,k≤ls.length→SumSt (n+(ls.take k).length) (uN xs ls k):=fun k hk=>fLe h (fun l hl'=>hl l (List.mem_of_mem_take hl'))
 have hg:∀k,k<ls.length→gF (ls.getD k default)=0:=fun k hk=>by
  have e:ls.getD k default=ls[k]:=by simp[List.getD,hk]
  rw[e];exact hl _ (List.getElem_mem hk)
 refine⟨fun k hk=>?_,fun k hk j hj=>?_,fun k hk=>?_,fun k hk=>?_⟩
 ·
  have:=fTk (hs k hk).rise;omega
 ·
  have e:(uN xs ls k).getD j default=(uN xs ls k)[j]:=by simp[List.getD,hj]
  rw[e];exact(hs k hk).rise.key _ (List.getElem_mem hj)
 ·
  have hz:=gP (hg k hk);exact keyOk_iff.2 ⟨hz.2.1,hz.2.2.1⟩
 have hz:=gP (hg k hk);have hq:=(hs k (Nat.le_of_lt hk)).am;rw[List.length_take] at hq;have hb:=fAm (M:=((n+min k ls.length+1:Nat)*1000000000000:Int)) (by omega) (a:=(ls.getD k default).ac) (t:=(ls.getD k default).ast) hq;have:min k ls.length≤ls.length:=by omega
 omega
theorem fSj {α β:Type} [Inhabited α] {f:α→List β} {i:Nat}:∀{xs:List α},i<xs.length→(∀k,k<xs.length→¬k=i→f (xs.getD k default)=[])→xs.flatMap f=f (xs.getD i default):=by
 induction i with
 | zero=>
  intro xs hi h;cases xs with
  | nil=>simp at hi
  | cons x r=>
   have e:r.flatMap f=[]:=by
    rw[List.flatMap_eq_nil_iff];intro y hy;obtain⟨j,hj,rfl⟩:=List.getElem_of_mem hy;have:=h (j+1) (by simp only[List.length_cons];omega) (by omega);simpa [List.getD,hj] using this
   simp[e]
 | succ i ih=>
  intro xs hi h;cases xs with
  | nil=>simp at hi
  | cons x r=>
   have e:f x=[]:=by
    have:=h 0 (by simp only[List.length_cons];omega) (by omega);simpa using this
   have:=ih (xs:=r) (by simp only[List.length_cons] at hi;omega) (fun k hk hne=>by
    have:=h (k+1) (by simp only[List.length_cons];omega) (by omega);simpa using this)
   simp only[List.flatMap_cons,e,List.nil_append,this];simp
theorem fMj {c:Clu} (h:cluF c=0) {i:Nat} (hi:i<c.shards.length):onSh (i:Int) (allL c)=fBf c (c.shards.getD i default):=by
 have e:onSh (i:Int) (allL c)=c.shards.flatMap (fun s=>onSh (i:Int) (fBf c s)):=by
  unfold onSh allL;rw[List.filter_flatMap]
 rw[e,fSj hi]
 ·
  show List.filter _ _=_;rw[List.filter_eq_self];intro l hl;have:=((fBt h hi).1 l hl).2;simpa using this
 intro k hk hne;show List.filter _ _=_;rw[List.filter_eq_nil_iff];intro l hl;have:=((fBt h hk).1 l hl).2;rw[this];simp;omega
theorem fPx {g:Ledg} {c:Clu} (h:cluF c=0) (hn:g.shards.length=c.shards.length):decide ((⟨pU g.shards (allL c)⟩:Ledg)=⟨c.shards.map (fun s=>s.bals)⟩)=decide (∀i,i<c.shards.length→uF g c i=true):=by
 rw[decide_eq_decide];simp only[Ledg.mk.injEq];constructor
 ·
  intro e i hi;have h1:=yX g.shards (allL c) (i:=i) (by omega);rw[e] at h1;unfold uF;rw[decide_eq_true_iff];unfold fBz at h1;rw[fMj h hi] at h1;rw[←h1];simp[List.getD,hi]
 intro e;apply List.ext_getElem (by rw[tZ,hn];simp);intro i h1 h2;rw[tZ,hn] at h1;have h3:=yX g.shards (allL c) (i:=i) (by omega);unfold fBz at h3;rw[fMj h h1] at h3;have h4:=of_decide_eq_true (e i h1);rw[h4] at h3;simp only[List.getD,List.getElem?_eq_getElem (show i<(pU g.shards (allL c)).length by rw[tZ];omega),Option.getD_some] at h3;rw[h3];simp[List.getD,h1]
theorem fG4 {g:Ledg} {c:Clu} (h:¬(cluF c=0∧fP g=0∧g.shards.length=c.shards.length)):rW g c=false:=by
 unfold rW;rw[decide_eq_false_iff_not];exact fun h'=>h ⟨h'.1,h'.2.1,h'.2.2.1⟩
theorem fE9 {g:Ledg} {c:Clu} (h:cluF c=0) (h0:fP g=0) (hn:g.shards.length=c.shards.length):rW g c=decide (∀i,i<c.shards.length→uF g c i=true):=by
 unfold rW;rw[decide_eq_decide];exact⟨fun h'=>h'.2.2.2,fun h'=>⟨h,h0,hn,h'⟩⟩
theorem fPw {g:Ledg} {c:Clu} (h:cluF c=0) (h0:fP g=0) (hn:g.shards.length=c.shards.length):(∀i,i<g.shards.length→RiseB (g.shards.getD i default))∧(∀l ∈ allL c,qN l.ac l.ast=true)∧KDom g.shards.length (kH (kC g.shards) (allL c)):=by
 obtain⟨_,_,hok⟩:=xW h0;have hg:∀i,i<g.shards.length→RiseB (g.shards.getD i default):=fun i hi=>fQ4 (hok i hi)
 have hk:∀l ∈ allL c,qN l.ac l.ast=true:=fun l hl=>by
  have hz:=gP ((fJy h).1 l hl).1;exact keyOk_iff.2 ⟨hz.2.1,hz.2.2.1⟩
 exact⟨hg,hk,fKs hg hk (fun l hl=>by have:=((fJy h).1 l hl).2;omega)⟩
end Go.Proofs.YtbfnobcidnmohaaGreat
namespace Go.Proofs.YtbfnobcidnmohaaGreat
open Go.RowKit
variable [DecidableEq Leg] [Inhabited Leg] [DecidableEq Cont] [Inhabited Cont] [DecidableEq Bal] [Inhabited Bal] [DecidableEq Mrk] [Inhabited Mrk] [DecidableEq Shd] [Inhabited Shd] [DecidableEq Vot] [Inhabited Vot] [DecidableEq Slt] [Inhabited Slt] [DecidableEq Acc] [Inhabited Acc] [DecidableEq Trr] [Inhabited Trr] [DecidableEq Hrd] [Inhabited Hrd] [DecidableEq Ldr] [Inhabited Ldr] [DecidableEq Msg] [Inhabited Msg] [DecidableEq Clu] [Inhabited Clu] [DecidableEq Ledg] [Inhabited Ledg] [DecidableEq SltR] [Inhabited SltR] [DecidableEq AccR] [Inhabited AccR] [DecidableEq AccsR] [Inhabited AccsR] [DecidableEq SltsR] [Inhabited SltsR] [DecidableEq Rw] [Inhabited Rw] [DecidableEq LedgR] [Inhabited LedgR] [DecidableEq OutcR] [Inhabited OutcR] [DecidableEq ShdR] [Inhabited ShdR]
attribute [local go_sem ↓] Go.wp_at_zero Go.wp_at_succ
def ConsAt (w W:World) (base:Nat) (u:Value) (ls:List Cont):Prop:=∃cs,W.ownsRow base 60 2 u ls.length cs∧∀i,i<ls.length→∃p q,cs[i*2]? = some (.int .i64 (ls.getD i default).id)∧cs[i*2+1]? = some (.slice p (ls.getD i default).legs.length q)∧legsR.V w (.slice p (ls.getD i default).legs.length q) (ls.getD i default).legs
theorem ConsAt.nil (w W:World) (base:Nat):ConsAt w W base (.slice none 0 0) []:=⟨[],World.ownsRow_nil _ _ _ _,fun i hi=>by simp at hi⟩
theorem fJ7 {w W:World} {base:Nat} {u:Value} {ls:List Cont} {l:Cont} {cs:List Value} {p:Option Addr} {q:Nat} (hc:∀i,i<ls.length→∃p q,cs[i*2]? = some (.int .i64 (ls.getD i default).id)∧cs[i*2+1]? = some (.slice p (ls.getD i default).legs.length q)∧legsR.V w (.slice p (ls.getD i default).legs.length q) (ls.getD i default).legs)
  (hl:cs.length=ls.length*2) (ho:W.ownsRow base 60 2 u (ls.length+1) (cs++[.int .i64 l.id,.slice p l.legs.length q])) (hv:legsR.V w (.slice p l.legs.length q) l.legs):ConsAt w W base u (ls++[l]):=by
 refine⟨_,by rw[List.length_append];exact ho,fun i hi=>?_⟩;rw[List.length_append,List.length_singleton] at hi;by_cases h:i<ls.length
 ·
  obtain⟨p',q',h1,h2,h3⟩:=hc i h;have e:(ls++[l]).getD i default=ls.getD i default:=by simp[List.getD,List.getElem?_append_left h]
  rw[e];exact⟨p',q',by rw[List.getElem?_append_left (by omega)];exact h1,by rw[List.getElem?_append_left (by omega)];exact h2,h3⟩
 obtain rfl:i=ls.length:=by omega
 have e:(ls++[l]).getD ls.length default=l:=by simp[List.getD]
 rw[e];refine⟨p,q,?_,?_,hv⟩
 ·
  rw[List.getElem?_append_right (by omega),hl,Nat.sub_self];rfl
 rw[List.getElem?_append_right (by omega),hl,Nat.add_sub_cancel_left];rfl
theorem ConsAt.row {w W:World} {base:Nat} {u:Value} {ls:List Cont} (h:ConsAt w W base u ls) (hb:Below w.heap.size w W):contsR.V W u ls:=by
 obtain⟨cs,hr,hc⟩:=h;have hl:=hr.1;rcases hr.2 with ⟨rfl,hn⟩|⟨g,cap,cur,rfl,hb',hg,hnc,hcm,hcs,htake⟩
 ·
  exact⟨none,0,by rw[hn],by omega,by unfold maxLen;omega,fun i hi=>by omega⟩
 refine⟨some ⟨g,0,none⟩,cap,rfl,hnc,hcm,fun i hi=>?_⟩;obtain⟨p,q,h1,h2,h3⟩:=hc i hi;refine⟨g,0,.agg #[.int .i64 (ls.getD i default).id,.slice p (ls.getD i default).legs.length q],rfl,rfl,fun j hj=>?_,_,rfl,legsR.below h3 hb⟩;rw[Nat.zero_add];obtain rfl|rfl:j=0∨j=1:=by omega
 ·
  exact(hr.cellAt _ (by omega)).trans h1
 exact(hr.cellAt _ (by omega)).trans h2
theorem fB9 (x y:Value) (c:Clu) (ids:List Int) (w:World) (hx:cluR.V w x c) (hy:intsR.V w y ids) (hn:ids.length≤1000) :
  Calls Tryz.prog 50 #[x,y] w fun e w'=>∃v,e = .returned v∧contsR.V w' v (ids.map (qM c))∧Below w.heap.size w w':=by
 have HSu:Hid (∀k W,Below w.heap.size w W→Calls Tryz.prog 104 #[x,.int .i64 k] W fun e w'=>∃p q b,e = .returned (.tuple #[.agg #[.int .i64 (qM c k).id,.slice p (qM c k).legs.length q],.bool b])∧legsR.V w (.slice p (qM c k).legs.length q) (qM c k).legs∧Below W.heap.size W w'):=fun k W hW=>by
  obtain⟨u1,u2,u3,u4,u5,rfl,h1,h2,h3,h4,h5⟩:=hx;obtain⟨a0,c0,rfl⟩:=fZ h1;obtain⟨a1,c1,rfl⟩:=uW h2;obtain⟨a2,c2,rfl⟩:=uM h3;obtain⟨a3,c3,rfl⟩:=uU h4;obtain⟨a4,c4,rfl⟩:=xD h5;refine(yL a0 c0 _ _ _ _ c.cons k w W hW ⟨_,_,_,_,_,_,_,_,_,_,_,_,rfl,rfl,rfl,rfl⟩ h1).mono ?_;rintro e w' ⟨hb,h⟩;unfold qM;rcases h with ⟨h6,p,q,rfl,h7⟩|⟨h6,rfl⟩
  ·
   rw[if_pos h6];exact⟨p,q,true,rfl,h7,hb⟩
  rw[if_neg h6];exact⟨none,0,false,rfl,⟨none,0,rfl,Nat.le_refl _,by unfold maxLen;omega,fun i hi=>by simp at hi⟩,hb⟩
 obtain⟨a0,a1,a2,a3,a4,c0,c1,c2,c3,c4,n0,n1,n2,n3,n4,rfl,_⟩:=gL hx;obtain⟨ay,cy,rfl,hcy,hmy,hyy⟩:=hy;unfold maxLen at hmy;obtain⟨i0,hi,hz0,hz1,hz2⟩:=info_parts fHz;have HT:Hid (∀k,k<ids.length→(ids.take (k+1)).map (qM c)=(ids.take k).map (qM c)++[qM c (ids.getD k 0)]):=fun k hk=>by
  rw[show ids.take (k+1)=ids.take k++[ids.getD k 0] by rw[List.take_add_one];simp[List.getD,hk],List.map_append];rfl
 have HTL:Hid (∀k,k≤ids.length→((ids.take k).map (qM c)).length=k):=fun k hk=>by simp;omega
 have HTN:Hid (ids.take ids.length=ids):=List.take_length;have HYY:Hid _:=hyy;clear hx hyy;generalize hm:ids.length=m at *;clear hm;go_enter Tryz.func50,Tryz.ntmps50;go_wp2;have y0:(w.alloc (.cells #[.slice a0 n0 c0,.slice a1 n1 c1,.slice a2 n2 c2,.slice a3 n3 c3,.slice a4 n4 c4] 37)).cell? ⟨w.heap.size,0,none⟩=some (.slice a0 n0 c0):=by simp[go_sem]
 have y1:(w.alloc (.cells #[.slice a0 n0 c0,.slice a1 n1 c1,.slice a2 n2 c2,.slice a3 n3 c3,.slice a4 n4 c4] 37)).cell? ⟨w.heap.size,1,none⟩=some (.slice a1 n1 c1):=by simp[go_sem]
 have y2:(w.alloc (.cells #[.slice a0 n0 c0,.slice a1 n1 c1,.slice a2 n2 c2,.slice a3 n3 c3,.slice a4 n4 c4] 37)).cell? ⟨w.heap.size,2,none⟩=some (.slice a2 n2 c2):=by simp[go_sem]
 have y3:(w.alloc (.cells #[.slice a0 n0 c0,.slice a1 n1 c1,.slice a2 n2 c2,.slice a3 n3 c3,.slice a4 n4 c4] 37)).cell? ⟨w.heap.size,3,none⟩=some (.slice a3 n3 c3):=by simp[go_sem]
 have y4:(w.alloc (.cells #[.slice a0 n0 c0,.slice a1 n1 c1,.slice a2 n2 c2,.slice a3 n3 c3,.slice a4 n4 c4] 37)).cell? ⟨w.heap.size,4,none⟩=some (.slice a4 n4 c4):=by simp[go_sem]
 have hb0:Below w.heap.size w (w.alloc (.cells #[.slice a0 n0 c0,.slice a1 n1 c1,.slice a2 n2 c2,.slice a3 n3 c3,.slice a4 n4 c4] 37)):=qBq;generalize w.alloc (.cells #[.slice a0 n0 c0,.slice a1 n1 c1,.slice a2 n2 c2,.slice a3 n3 c3,.slice a4 n4 c4] 37)=Y at *;go_loopw [5,12] (fun u ii W=>∃k:Nat,k≤m∧ii = .int .i64 k∧Hid (ConsAt w W Y.heap.size u ((ids.take k).map (qM c)))∧Below Y.heap.size Y W) (fun _ ii _=>m-(intOf ii).toNat)
 case atStart=>exact⟨0,Nat.zero_le _,rfl,ConsAt.nil _ _ _,Below.refl _ _⟩
 obtain⟨k,hk,rfl,HC,hbl⟩:=hrel;have hblw:=bS hb0 hbl;replace y0:=cK hbl y0;replace y1:=cK hbl y1;replace y2:=cK hbl y2;replace y3:=cK hbl y3;replace y4:=cK hbl y4;have zw:w.heap.size<wr.heap.size:=wL wr _ y0;by_cases hlt:k<m
 ·
  obtain⟨by1,oy,rfl,g1⟩:=HYY.out k hlt;have HTk:=HT.out k hlt;have HSk:=HSu.out (ids.getD k 0);have hlen:=HTL.out k hk;obtain⟨id,hid⟩:∃id,id=ids.getD k 0:=⟨_,rfl⟩
  rw[←hid] at HTk HSk g1;replace g1:=cK hblw g1;have HT':Hid _:=HTk;have HS':Hid _:=HSk;clear hid HTk HSk;generalize qM c id=l at *;obtain⟨cs,ho,hcs⟩:=HC.out;have HCS:Hid _:=hcs;have hcl:=ho.1;rw[hlen] at ho hcl;have HLN:Hid (((ids.take k).map (qM c)).length=k):=hlen;obtain⟨pu,cu,rfl⟩:=gD ho;clear hcs hlen HC;have hk':(k:Int)<(m:Int):=by omega
  have hk0:(0:Int)≤(k:Int):=by omega
  go_wp2_with fail;refine(HS'.out _ (qBq)).mono ?_;rintro e w1 ⟨p,q,b,rfl,hlv,hb1⟩;have HLV:Hid _:=hlv;have hB1:Below Y.heap.size Y w1:=bS (qBq) hb1;have ho1:w1.ownsRow Y.heap.size 60 2 (.slice pu k cu) k cs:=kT (by first|exact ho|exact ho.drew) hb1;clear hlv hb1 HS' ho;go_wp2_with (at_builtin;refine wpList_append_own _ rfl _ _ 31 rfl Y.heap.size 60 i0 _ 2 32 Tryz.underlying31 hi hz0 hz1 hz2 rfl (by decide) _ _ _ rfl ((ho1.alloc _).alloc _) ⟨w1.heap.size+1,0,none⟩ 1 1 [.int .i64 l.id,.slice p l.legs.length q] rfl rfl ?c1 ?c2 ?c3 ?c4 ?c5 ?_)
  case c1=>
   intro j u hu;match j,hu with
   | 0,hu=>simp at hu;subst hu;simp[go_sem,Addr.add]
   | 1,hu=>simp at hu;subst hu;simp[go_sem,Addr.add]
   | j+2,hu=>simp at hu
  case c2=>intro u hu;simp at hu;rcases hu with rfl|rfl <;> rfl
  case c3=>unfold maxLen;omega
  case c4=>omega
  case c5=>have:=hB1.size;simp;omega
  intro v' w2 hown' hgrow _;have hB2:Below Y.heap.size Y w2:=qY ((ho1.alloc _).alloc _) (bA (bA hB1 _) _) (by have:=hB1.size;simp;omega) (Nat.le_refl _) hgrow;have HC2:Hid (ConsAt w w2 Y.heap.size v' ((ids.take (k+1)).map (qM c))):=by
   show ConsAt _ _ _ _ _;rw[HT'.out];exact fJ7 HCS.out (by rw[HLN.out];exact hcl) (by rw[HLN.out];exact hown') HLV.out
  clear hown' hgrow ho1 HCS HLV HT';go_wp2;exact⟨⟨k+1,by omega,by go_num,HC2,hB2⟩,by simp[intOf];omega⟩
 obtain rfl:k=m:=by omega
 have hti:¬(k:Int)<(k:Int):=by omega
 have HR:=HC.out;rw[HTN.out] at HR;have HR':Hid _:=HR.row hblw;clear HC HR;go_wp2;go_ret;exact⟨_,rfl,HR'.out,hblw⟩
theorem vD (x:Value) (c:Clu) (con sh:Int) (w:World) (hx:cluR.V w x c) :
  Calls Tryz.prog 151 #[x,.int .i64 con,.int .i64 sh] w fun e w'=>e = .returned (.bool (hasL c con sh))∧Below w.heap.size w w':=by
 have HSu:Hid (∀W,Below w.heap.size w W→Calls Tryz.prog 104 #[x,.int .i64 con] W (SubE c.cons con W)):=fun W hW=>fDb x c con W (cluR.below hx hW)
 have H1:Hid (fE c.cons con<c.cons.length→hasL c con sh=hasS (c.cons.getD (fE c.cons con) default).legs sh):=fun h=>by unfold hasL;rw[decide_eq_true h];rfl
 have H2:Hid (¬fE c.cons con<c.cons.length→hasL c con sh=false):=fun h=>by unfold hasL;rw[decide_eq_false h];rfl
 obtain⟨a0,a1,a2,a3,a4,c0,c1,c2,c3,c4,n0,n1,n2,n3,n4,rfl,e0,e1,e2,e3,e4,L0,L1,L2,L3,L4⟩:=gL hx;clear hx e0 e1 e2 e3 e4 L0 L1 L2 L3 L4;generalize hasL c con sh=R at *;go_enter Tryz.func151,Tryz.ntmps151;go_wp2_with fail;refine(HSu.out _ (qBq)).mono ?_;rintro e w1 ⟨hb1,hr⟩;have hB1:Below w.heap.size w w1:=qBq;clear hb1 HSu;rcases hr with ⟨hlt,p,q,rfl,hlv⟩|⟨hlt,rfl⟩
 ·
  have HC:Hid _:=H1.out hlt;have HL:Hid (∀W,Below w1.heap.size w1 W→Calls Tryz.prog 221 #[.agg #[.int .i64 (c.cons.getD (fE c.cons con) default).id,.slice p (c.cons.getD (fE c.cons con) default).legs.length q],.int .i64 sh] W fun e w'=>e = .returned (.bool (hasS (c.cons.getD (fE c.cons con) default).legs sh))∧Below W.heap.size W w'):=fun W hW=>fA6 _ _ _ sh W (legsR.below hlv hW)
  clear H1 H2 hlt hlv;generalize c.cons.getD (fE c.cons con) default=l at *;generalize l.legs.length=m at *;generalize hasS l.legs sh=b at *;generalize l.id=id at *;go_wp2_with fail;refine(HL.out _ (qBq)).mono ?_;rintro e w2 ⟨rfl,hb2⟩;have hB2:Below w.heap.size w w2:=bS (qBq) hb2;clear hb2 HL;cases b;all_goals
   go_wp2;go_ret;exact⟨by rw[HC.out];rfl,hB2⟩
 have HC:Hid _:=H2.out hlt;clear H1 H2 hlt;go_wp2;go_ret;exact⟨by rw[HC.out];rfl,qBq⟩
theorem fTl (a b c d:Int):∃M:Int,(0<M↔(0<a∨0<b∨0<c∨0<d))∧∀(ts:Array TypeId) (ty:TypeId) (w:World),(Builtin.max_ ts ty #[.int .i64 a,.int .i64 b,.int .i64 c,.int .i64 d]).run Tryz.prog w = .ok (.int .i64 M) w:=by
 refine⟨if d>(if c>(if b>a then b else a) then c else (if b>a then b else a)) then d else (if c>(if b>a then b else a) then c else (if b>a then b else a)),?_,fun ts ty w=>rfl⟩;(repeat' split) <;> omega
theorem fTm (a b:Int):∃N:Int,(N<1↔(a<1∨b<1))∧∀(ts:Array TypeId) (ty:TypeId) (w:World),(Builtin.min_ ts ty #[.int .i64 a,.int .i64 b]).run Tryz.prog w = .ok (.int .i64 N) w:=by
 refine⟨if b<a then b else a,?_,fun ts ty w=>rfl⟩;(repeat' split) <;> omega
theorem fQ7 (x:Value) (c:Clu) (w:World) (hx:cluR.V w x c) :
  Calls Tryz.prog 76 #[x] w fun e w'=>e = .returned (.int .i64 (szC c))∧Below w.heap.size w w':=by
 obtain⟨a0,a1,a2,a3,a4,c0,c1,c2,c3,c4,n0,n1,n2,n3,n4,rfl,e0,e1,e2,e3,e4,L0,L1,L2,L3,L4⟩:=gL hx;have HZ:Hid (szC c=if n0≤20∧(1≤n1∧n1≤3)∧(1≤n2∧n2≤5)∧n3=2∧n4≤200 then 0 else 2):=by show _=_;unfold szC;rw[e0,e1,e2,e3,e4]
 clear hx e0 e1 e2 e3 e4;generalize szC c=R at *;have i0:IntKind.i64.wrap ((n0:Int)-20)=(n0:Int)-20:=gM (by omega) (by omega);have i1:IntKind.i64.wrap ((n1:Int)-3)=(n1:Int)-3:=gM (by omega) (by omega);have i2:IntKind.i64.wrap ((n2:Int)-5)=(n2:Int)-5:=gM (by omega) (by omega);have i4:IntKind.i64.wrap ((n4:Int)-200)=(n4:Int)-200:=gM (by omega) (by omega);obtain⟨M,hM,hm⟩:=fTl ((n0:Int)-20) ((n1:Int)-3) ((n2:Int)-5) ((n4:Int)-200);obtain⟨N,hN,hn⟩:=fTm (n1:Int) (n2:Int);by_cases hb:n0≤20∧n1≤3∧n2≤5∧n4≤200;rotate_left
 ·
  have HC:Hid (R=2):=by show _=_;rw[HZ.out,if_neg (fun h=>hb ⟨h.1,h.2.1.2,h.2.2.1.2,h.2.2.2.2⟩)]
  have hM1:0<M:=hM.2 (by omega);clear HZ hb hM hN hn;go_enter Tryz.func76,Tryz.ntmps76;go_wp2;go_ret;exact⟨by rw[HC.out];rfl,qBq⟩
 have hM1:¬0<M:=fun h=>by have:=hM.1 h;omega
 by_cases hl:1≤n1∧1≤n2
 rotate_left
 ·
  have HC:Hid (R=2):=by show _=_;rw[HZ.out,if_neg (fun h=>hl ⟨h.2.1.1,h.2.2.1.1⟩)]
  have hN1:N<1:=hN.2 (by omega);clear HZ hb hM hN hl;go_enter Tryz.func76,Tryz.ntmps76;go_wp2;go_ret;exact⟨by rw[HC.out];rfl,qBq⟩
 have hN1:¬N<1:=fun h=>by have:=hN.1 h;omega
 by_cases h3:n3=2
 ·
  have HC:Hid (R=0):=by show _=_;rw[HZ.out,if_pos ⟨hb.1,⟨hl.1,hb.2.1⟩,⟨hl.2,hb.2.2.1⟩,h3,hb.2.2.2⟩]
  subst h3;clear HZ hb hM hN hl;go_enter Tryz.func76,Tryz.ntmps76;go_wp2;go_ret;exact⟨by rw[HC.out];rfl,qBq⟩
 have HC:Hid (R=2):=by show _=_;rw[HZ.out,if_neg (fun h=>h3 h.2.2.2.1)]
 have h3':((n3:Int) !=2)=true:=by simp;omega
 clear HZ hb hM hN hl;go_enter Tryz.func76,Tryz.ntmps76;go_wp2;go_ret;exact⟨by rw[HC.out];rfl,qBq⟩
theorem fD7 (x:Value) (c:Clu) (id:Int) (y:Value) (xs:List Leg) (w:World) (hx:cluR.V w x c) (hy:mJ w y xs) :
  Calls Tryz.prog 205 #[x,.agg #[.int .i64 id,y]] w fun e w'=>e = .returned (.int .i64 (subF c.shards.length ⟨id,xs⟩))∧Below w.heap.size w w':=by
 have HF:Hid (∀W,Below w.heap.size w W→Calls Tryz.prog 163 #[.agg #[.int .i64 id,y]] W fun e w'=>e = .returned (.int .i64 (fB id xs))∧Below W.heap.size W w'):=fun W hW=>zO id y xs W (kU hy hW)
 obtain⟨a0,a1,a2,a3,a4,c0,c1,c2,c3,c4,n0,n1,n2,n3,n4,rfl,e0,e1,e2,e3,e4,L0,L1,L2,L3,L4⟩:=gL hx;have H1:Hid (¬fB id xs=0→subF c.shards.length ⟨id,xs⟩=fB id xs):=fun h=>xG h
 have H2:Hid (fB id xs=0→pX n1 xs=false→subF c.shards.length ⟨id,xs⟩=4):=fun h h'=>by unfold subF;rw[vI h,e1,h'];rfl
 have H3:Hid (fB id xs=0→pX n1 xs=true→subF c.shards.length ⟨id,xs⟩=0):=fun h h'=>by unfold subF;rw[vI h,e1,h'];rfl
 have H4:Hid (∀j,j<xs.length→inB (xs.getD j default).sh 0 ((n1:Int)-1)=false→pX n1 xs=false):=fun j hj h=>fQs hj h
 have H5:Hid ((∀j,j<xs.length→inB (xs.getD j default).sh 0 ((n1:Int)-1)=true)→pX n1 xs=true):=fun h=>fOl h
 clear hx e0 e1 e2 e3 e4 L0 L2 L3 L4;obtain⟨ax,cx,rfl,hcx,hmx,hy⟩:=hy;unfold maxLen at hmx;have HY:Hid (∀i,i<xs.length→∃b o,ax=some ⟨b,o,none⟩∧kQ w b (o+i*4) (xs.getD i default)):=hy;clear hy;generalize subF c.shards.length ⟨id,xs⟩=R at *;generalize hm':xs.length=m at *;clear hm';go_enter Tryz.func205,Tryz.ntmps205;go_wp2_with fail;refine(HF.out _ (qBq)).mono ?_;rintro e w1 ⟨rfl,hb1⟩;have hB1:Below w.heap.size w w1:=qBq;have y1:w1.cell? ⟨w.heap.size,1,none⟩=some (.slice a1 n1 c1):=cK hb1 (by simp[go_sem]);have z1:w1.cell? ⟨w.heap.size+1,1,none⟩=some (.slice ax m cx):=cK hb1 (by simp[go_sem]);have hz1:=hb1.size;simp at hz1;clear hb1 HF;by_cases hf:fB id xs=0;rotate_left
 ·
  have HC:Hid _:=H1.out hf;have hf':(fB id xs !=0)=true:=by simp[hf]
  clear H1 H2 H3 H4 H5 HY;generalize fB id xs=g at *;go_wp2;go_ret;exact⟨by rw[HC.out];rfl,hB1⟩
 rw[hf];have HZ2:Hid _:=H2.out hf;have HZ3:Hid _:=H3.out hf;clear H1 H2 H3 hf;go_wp2;go_loopw [16] (fun i w'=>∃k:Nat,k≤m∧i = .int .i64 k∧Hid (∀j,j<k→inB (xs.getD j default).sh 0 ((n1:Int)-1)=true)∧Below w1.heap.size w1 w') (fun i _=>m-(intOf i).toNat)
 case atStart=>exact⟨0,Nat.zero_le _,rfl,fun j hj=>absurd hj (Nat.not_lt_zero _),Below.refl _ _⟩
 obtain⟨k,hk,rfl,HS,hbl⟩:=hrel;have hblw:=bS hB1 hbl;have hzr:=hbl.size;replace y1:=cK hbl y1;have zq:w.heap.size<wr.heap.size:=wL wr _ y1;by_cases hlt:k<m
 ·
  obtain⟨b,o,rfl,g⟩:=HY.out k hlt;obtain⟨l,hl⟩:∃l,l=xs.getD k default:=⟨_,rfl⟩
  rw[←hl] at g;have HLE:Hid (l=xs.getD k default):=hl;clear hl;obtain⟨g1,g2,g3,g4⟩:=fF hblw g;clear g;have zb:b<wr.heap.size:=wL wr _ g1;have hti:(k:Int)<(m:Int):=by omega
  cases hp:inB l.sh 0 ((n1:Int)-1)
  ·
   have HC:Hid (R=4):=HZ2.out (H4.out k hlt (by rw[←HLE.out];exact hp));go_wp2_with (first|(go_at_call 264;refine(yA _ _ _ _ _ L1).mono ?_;rintro e w' ⟨rfl,hw⟩;obtain rfl:=hw.symm;rw[hp]));go_ret;exact⟨by rw[HC.out];rfl,qBq⟩
  have HQ:Hid (∀j,j<k+1→inB (xs.getD j default).sh 0 ((n1:Int)-1)=true):=fun j hj=>by
   by_cases e:j=k
   ·
    rw[e,←HLE.out];exact hp
   exact HS.out j (by omega)
  go_wp2_with (first|(go_at_call 264;refine(yA _ _ _ _ _ L1).mono ?_;rintro e w' ⟨rfl,hw⟩;obtain rfl:=hw.symm;rw[hp]))
  exact⟨⟨k+1,by omega,by go_num,HQ,qBq⟩,by simp[intOf];omega⟩
 obtain rfl:k=m:=by omega
 have hti:¬(k:Int)<(k:Int):=by omega
 have HC:Hid (R=0):=HZ3.out (H5.out HS.out);go_wp2;go_ret;exact⟨by rw[HC.out];rfl,hblw⟩
theorem fKm (gf:Nat) (P Q:Value) (pb:Mrk→Bool) (x:Value) (xs:List Mrk) (w:World) (hx:mrksR.V w x xs) (eg:∀args w,(callFunc gf args).run Tryz.prog w = .ok (.enter gf args) w) (hp:(∀k W,k<xs.length→Below w.heap.size w W→Calls Tryz.prog gf #[mrkV (xs.getD k default),P,Q] W fun e w'=>e = .returned (.bool (pb (xs.getD k default)))∧Below W.heap.size W w')) :
  Calls Tryz.prog 274 #[x,.func (.func gf) #[] #[P,Q]] w fun e w'=>(∃r:Int,e = .returned (.int .i64 r)∧((r = -1∧xs.any pb=false)∨(0≤r∧xs.any pb=true)))∧Below w.heap.size w w':=by
 obtain⟨ax,cx,rfl,hcx,hmx,hx⟩:=hx;unfold maxLen at hmx;have HX:Hid (∀i,i<xs.length→∃b o,ax=some ⟨b,o,none⟩∧qE w b (o+i*2) (xs.getD i default)):=hx;clear hx;have HHit:Hid (∀j,j<xs.length→pb (xs.getD j default)=true→xs.any pb=true):=fun j hj h=>by
  show _=_;rw[List.any_eq_true];exact⟨xs.getD j default,by simp[List.getD,hj],h⟩
 have HNo:Hid ((∀j,j<xs.length→pb (xs.getD j default)=false)→xs.any pb=false):=fun h=>by
  show _=_;rw[List.any_eq_false];intro y hy;obtain⟨i,hi,rfl⟩:=List.getElem_of_mem hy;have:=h i hi;simp only[List.getD,List.getElem?_eq_getElem hi,Option.getD_some] at this;rw[this];simp
 have HP:Hid (∀k W,k<xs.length→Below w.heap.size w W→Calls Tryz.prog gf #[mrkV (xs.getD k default),P,Q] W fun e w'=>e = .returned (.bool (pb (xs.getD k default)))∧Below W.heap.size W w'):=hp;clear hp;generalize hA:xs.any pb=A at *;clear hA;generalize hn':xs.length=n at *;clear hn';go_enter Tryz.func274,Tryz.ntmps274;go_wp2;go_loopw [8] (fun i w'=>∃k':Nat,k'≤n∧i = .int .i64 k'∧Hid (∀j,j<k'→pb (xs.getD j default)=false)∧Below w.heap.size w w') (fun i _=>n-(intOf i).toNat)
 case atStart=>exact⟨0,Nat.zero_le _,rfl,fun j hj=>absurd hj (Nat.not_lt_zero _),Below.refl _ _⟩
 obtain⟨j,hk,rfl,HS,hbl⟩:=hrel;by_cases hlt:j<n
 ·
  have HA:=HX.out j hlt;have hP:=HP.out j;have HH:=HHit.out j hlt;have HLs:Hid (pb (xs.getD j default)=false→∀i,i<j+1→pb (xs.getD i default)=false):=fun h i hi=>by
   by_cases e:i=j
   ·
    rw[e];exact h
   exact HS.out i (by omega)
  obtain⟨l,hl0⟩:∃l,l=xs.getD j default:=⟨_,rfl⟩
  rw[←hl0] at HA hP HH HLs;clear hl0;obtain⟨b,o,rfl,g0,g1⟩:=HA;have HC:Hid (∀W,Below w.heap.size w W→Calls Tryz.prog gf #[.agg #[.int .i64 l.con,.int .i64 l.val],P,Q] W fun e w'=>e = .returned (.bool (pb l))∧Below W.heap.size W w'):=fun W hW=>hP W hlt hW
  have HH':Hid (pb l=true→A=true):=HH;clear hP HH;skip;replace g0:=cK hbl g0;replace g1:=cK hbl g1;have hti:(j:Int)<(n:Int):=by omega
  generalize pb l=z at *;go_wp2_with fail;refine(HC.out _ (qBq)).mono ?_;rintro e w1 ⟨rfl,hb1⟩;have hB:=bS hbl hb1;clear hb1 HC g0 g1;cases z
  ·
   have HQ:Hid _:=HLs.out rfl;clear HLs HH';go_wp2;exact⟨⟨j+1,by omega,by go_num,HQ,hB⟩,by simp[intOf];omega⟩
  have HQ:Hid (A=true):=HH'.out rfl;clear HLs HH';go_wp2;go_ret;exact⟨⟨j,rfl,.inr ⟨by omega,HQ.out⟩⟩,hB⟩
 obtain rfl:j=n:=by omega
 have hti:¬(j:Int)<(j:Int):=by omega
 have HQ:Hid (A=false):=HNo.out HS.out;go_wp2;go_ret;exact⟨⟨-1,rfl,.inl ⟨rfl,HQ.out⟩⟩,hbl⟩
theorem fDq (gf:Nat) (P Q:Value) (pb:Mrk→Bool) (x:Value) (xs:List Mrk) (w:World) (hx:mrksR.V w x xs) (eg:∀args w,(callFunc gf args).run Tryz.prog w = .ok (.enter gf args) w) (hp:(∀k W,k<xs.length→Below w.heap.size w W→Calls Tryz.prog gf #[mrkV (xs.getD k default),P,Q] W fun e w'=>e = .returned (.bool (pb (xs.getD k default)))∧Below W.heap.size W w')) :
  Calls Tryz.prog 215 #[x,.func (.func gf) #[] #[P,Q]] w fun e w'=>e = .returned (.bool (xs.any pb))∧Below w.heap.size w w':=by
 have HI:Hid (Calls Tryz.prog 274 #[x,.func (.func gf) #[] #[P,Q]] w fun e w'=>(∃r:Int,e = .returned (.int .i64 r)∧((r = -1∧xs.any pb=false)∨(0≤r∧xs.any pb=true)))∧Below w.heap.size w w'):=fKm gf P Q pb x xs w hx eg hp;clear hp eg;obtain⟨ax,cx,rfl,_⟩:=hx;generalize xs.any pb=A at *;go_enter Tryz.func215,Tryz.ntmps215;go_wp2_with fail;refine HI.out.mono ?_;rintro e w1 ⟨⟨r,rfl,hr⟩,hb1⟩;clear HI;rcases hr with ⟨rfl,hr⟩|⟨hr0,hr⟩
 all_goals
  subst hr;go_wp2;go_ret;exact⟨rfl,hb1⟩
theorem fKl (gf:Nat) (P:Value) (pb:Cont→Bool) (x:Value) (xs:List Cont) (w:World) (hx:contsR.V w x xs) (eg:∀args w,(callFunc gf args).run Tryz.prog w = .ok (.enter gf args) w) (hp:(∀k W,k<xs.length→Below w.heap.size w W→∀item,contR.V W item (xs.getD k default)→Calls Tryz.prog gf #[item,P] W fun e w'=>e = .returned (.bool (pb (xs.getD k default)))∧Below W.heap.size W w')) :
  Calls Tryz.prog 84 #[x,.func (.func gf) #[] #[P]] w fun e w'=>(∃r:Int,e = .returned (.int .i64 r)∧((r = -1∧xs.any pb=false)∨(0≤r∧xs.any pb=true)))∧Below w.heap.size w w':=by
 obtain⟨ax,cx,rfl,hcx,hmx,hx⟩:=tF hx;unfold maxLen at hmx;have HX:Hid _:=hx;clear hx;have HHit:Hid (∀j,j<xs.length→pb (xs.getD j default)=true→xs.any pb=true):=fun j hj h=>by
  show _=_;rw[List.any_eq_true];exact⟨xs.getD j default,by simp[List.getD,hj],h⟩
 have HNo:Hid ((∀j,j<xs.length→pb (xs.getD j default)=false)→xs.any pb=false):=fun h=>by
  show _=_;rw[List.any_eq_false];intro y hy;obtain⟨i,hi,rfl⟩:=List.getElem_of_mem hy;have:=h i hi;simp only[List.getD,List.getElem?_eq_getElem hi,Option.getD_some] at this;rw[this];simp
 have HP:Hid (∀k W,k<xs.length→Below w.heap.size w W→∀item,contR.V W item (xs.getD k default)→Calls Tryz.prog gf #[item,P] W fun e w'=>e = .returned (.bool (pb (xs.getD k default)))∧Below W.heap.size W w'):=hp;clear hp;generalize hA:xs.any pb=A at *;clear hA;generalize hn':xs.length=n at *;clear hn';go_enter Tryz.func84,Tryz.ntmps84;go_wp2;go_loopw [8] (fun i w'=>∃k':Nat,k'≤n∧i = .int .i64 k'∧Hid (∀j,j<k'→pb (xs.getD j default)=false)∧Below w.heap.size w w') (fun i _=>n-(intOf i).toNat)
 case atStart=>exact⟨0,Nat.zero_le _,rfl,fun j hj=>absurd hj (Nat.not_lt_zero _),Below.refl _ _⟩
 obtain⟨j,hk,rfl,HS,hbl⟩:=hrel;by_cases hlt:j<n
 ·
  have HA:=HX.out j hlt;have hP:=HP.out j;have HH:=HHit.out j hlt;have HLs:Hid (pb (xs.getD j default)=false→∀i,i<j+1→pb (xs.getD i default)=false):=fun h i hi=>by
   by_cases e:i=j
   ·
    rw[e];exact h
   exact HS.out i (by omega)
  obtain⟨l,hl0⟩:∃l,l=xs.getD j default:=⟨_,rfl⟩
  rw[←hl0] at HA hP HH HLs;clear hl0;obtain⟨b,o,p,q,rfl,g0,g1,hl⟩:=HA;have HC:Hid (∀W,Below w.heap.size w W→Calls Tryz.prog gf #[.agg #[.int .i64 l.id,.slice p l.legs.length q],P] W fun e w'=>e = .returned (.bool (pb l))∧Below W.heap.size W w'):=fun W hW=>hP W hlt hW _ (contR.below hl hW)
  have HH':Hid (pb l=true→A=true):=HH;clear hP HH;clear hl;replace g0:=cK hbl g0;replace g1:=cK hbl g1;have hti:(j:Int)<(n:Int):=by omega
  generalize pb l=z at *;go_wp2_with fail;refine(HC.out _ (qBq)).mono ?_;rintro e w1 ⟨rfl,hb1⟩;have hB:=bS hbl hb1;clear hb1 HC g0 g1;cases z
  ·
   have HQ:Hid _:=HLs.out rfl;clear HLs HH';go_wp2;exact⟨⟨j+1,by omega,by go_num,HQ,hB⟩,by simp[intOf];omega⟩
  have HQ:Hid (A=true):=HH'.out rfl;clear HLs HH';go_wp2;go_ret;exact⟨⟨j,rfl,.inr ⟨by omega,HQ.out⟩⟩,hB⟩
 obtain rfl:j=n:=by omega
 have hti:¬(j:Int)<(j:Int):=by omega
 have HQ:Hid (A=false):=HNo.out HS.out;go_wp2;go_ret;exact⟨⟨-1,rfl,.inl ⟨rfl,HQ.out⟩⟩,hbl⟩
theorem fDp (gf:Nat) (P:Value) (pb:Cont→Bool) (x:Value) (xs:List Cont) (w:World) (hx:contsR.V w x xs) (eg:∀args w,(callFunc gf args).run Tryz.prog w = .ok (.enter gf args) w) (hp:(∀k W,k<xs.length→Below w.heap.size w W→∀item,contR.V W item (xs.getD k default)→Calls Tryz.prog gf #[item,P] W fun e w'=>e = .returned (.bool (pb (xs.getD k default)))∧Below W.heap.size W w')) :
  Calls Tryz.prog 33 #[x,.func (.func gf) #[] #[P]] w fun e w'=>e = .returned (.bool (xs.any pb))∧Below w.heap.size w w':=by
 have HI:Hid (Calls Tryz.prog 84 #[x,.func (.func gf) #[] #[P]] w fun e w'=>(∃r:Int,e = .returned (.int .i64 r)∧((r = -1∧xs.any pb=false)∨(0≤r∧xs.any pb=true)))∧Below w.heap.size w w'):=fKl gf P pb x xs w hx eg hp;clear hp eg;obtain⟨ax,cx,rfl,_⟩:=hx;generalize xs.any pb=A at *;go_enter Tryz.func33,Tryz.ntmps33;go_wp2_with fail;refine HI.out.mono ?_;rintro e w1 ⟨⟨r,rfl,hr⟩,hb1⟩;clear HI;rcases hr with ⟨rfl,hr⟩|⟨hr0,hr⟩
 all_goals
  subst hr;go_wp2;go_ret;exact⟨rfl,hb1⟩
theorem fKn (gf:Nat) (P:Value) (pb:Slt→Bool) (x:Value) (xs:List Slt) (w:World) (hx:sltsR.V w x xs) (eg:∀args w,(callFunc gf args).run Tryz.prog w = .ok (.enter gf args) w) (hp:(∀k W,k<xs.length→Below w.heap.size w W→∀u,Calls Tryz.prog gf #[.agg #[.int .i64 (xs.getD k default).con,.int .i64 (xs.getD k default).sh,.int .i64 (xs.getD k default).pr,.int .i64 (xs.getD k default).lb,.int .i64 (xs.getD k default).lv,u],P] W fun e w'=>e = .returned (.bool (pb (xs.getD k default)))∧Below W.heap.size W w')) :
  Calls Tryz.prog 220 #[x,.func (.func gf) #[] #[P]] w fun e w'=>(∃r:Int,e = .returned (.int .i64 r)∧((r = -1∧xs.any pb=false)∨(0≤r∧xs.any pb=true)))∧Below w.heap.size w w':=by
 obtain⟨ax,cx,rfl,hcx,hmx,hx⟩:=hx;unfold maxLen at hmx;have HX:Hid (∀k,k<xs.length→∃b o u,ax=some ⟨b,o,none⟩∧w.cell? ⟨b,o+k*6,none⟩=some (.int .i64 (xs.getD k default).con)∧w.cell? ⟨b,o+k*6+1,none⟩=some (.int .i64 (xs.getD k default).sh)∧w.cell? ⟨b,o+k*6+2,none⟩=some (.int .i64 (xs.getD k default).pr)∧w.cell? ⟨b,o+k*6+3,none⟩=some (.int .i64 (xs.getD k default).lb)∧w.cell? ⟨b,o+k*6+4,none⟩=some (.int .i64 (xs.getD k default).lv)∧w.cell? ⟨b,o+k*6+5,none⟩=some (u)):=fun k hk=>by
  obtain⟨b,o,u,e,_,p,hv⟩:=hx k hk;obtain⟨s,rfl,hc⟩:=hv;obtain⟨au,cu,rfl⟩:=pJ hc;exact⟨b,o,_,e,p 0 (by omega),p 1 (by omega),p 2 (by omega),p 3 (by omega),p 4 (by omega),p 5 (by omega)⟩
 clear hx;have HHit:Hid (∀j,j<xs.length→pb (xs.getD j default)=true→xs.any pb=true):=fun j hj h=>by
  show _=_;rw[List.any_eq_true];exact⟨xs.getD j default,by simp[List.getD,hj],h⟩
 have HNo:Hid ((∀j,j<xs.length→pb (xs.getD j default)=false)→xs.any pb=false):=fun h=>by
  show _=_;rw[List.any_eq_false];intro y hy;obtain⟨i,hi,rfl⟩:=List.getElem_of_mem hy;have:=h i hi;simp only[List.getD,List.getElem?_eq_getElem hi,Option.getD_some] at this;rw[this];simp
 have HP:Hid (∀k W,k<xs.length→Below w.heap.size w W→∀u,Calls Tryz.prog gf #[.agg #[.int .i64 (xs.getD k default).con,.int .i64 (xs.getD k default).sh,.int .i64 (xs.getD k default).pr,.int .i64 (xs.getD k default).lb,.int .i64 (xs.getD k default).lv,u],P] W fun e w'=>e = .returned (.bool (pb (xs.getD k default)))∧Below W.heap.size W w'):=hp;clear hp;generalize hA:xs.any pb=A at *;clear hA;generalize hn':xs.length=n at *;clear hn';go_enter Tryz.func220,Tryz.ntmps220;go_wp2;go_loopw [8] (fun i w'=>∃k':Nat,k'≤n∧i = .int .i64 k'∧Hid (∀j,j<k'→pb (xs.getD j default)=false)∧Below w.heap.size w w') (fun i _=>n-(intOf i).toNat)
 case atStart=>exact⟨0,Nat.zero_le _,rfl,fun j hj=>absurd hj (Nat.not_lt_zero _),Below.refl _ _⟩
 obtain⟨j,hk,rfl,HS,hbl⟩:=hrel;by_cases hlt:j<n
 ·
  have HA:=HX.out j hlt;have hP:=HP.out j;have HH:=HHit.out j hlt;have HLs:Hid (pb (xs.getD j default)=false→∀i,i<j+1→pb (xs.getD i default)=false):=fun h i hi=>by
   by_cases e:i=j
   ·
    rw[e];exact h
   exact HS.out i (by omega)
  obtain⟨l,hl0⟩:∃l,l=xs.getD j default:=⟨_,rfl⟩
  rw[←hl0] at HA hP HH HLs;clear hl0;obtain⟨b,o,u,rfl,g0,g1,g2,g3,g4,g5⟩:=HA;have HC:Hid (∀W,Below w.heap.size w W→Calls Tryz.prog gf #[.agg #[.int .i64 l.con,.int .i64 l.sh,.int .i64 l.pr,.int .i64 l.lb,.int .i64 l.lv,u],P] W fun e w'=>e = .returned (.bool (pb l))∧Below W.heap.size W w'):=fun W hW=>hP W hlt hW u
  have HH':Hid (pb l=true→A=true):=HH;clear hP HH;skip;replace g0:=cK hbl g0;replace g1:=cK hbl g1;replace g2:=cK hbl g2;replace g3:=cK hbl g3;replace g4:=cK hbl g4;replace g5:=cK hbl g5;have hti:(j:Int)<(n:Int):=by omega
  generalize pb l=z at *;go_wp2_with fail;refine(HC.out _ (qBq)).mono ?_;rintro e w1 ⟨rfl,hb1⟩;have hB:=bS hbl hb1;clear hb1 HC g0 g1 g2 g3 g4 g5;cases z
  ·
   have HQ:Hid _:=HLs.out rfl;clear HLs HH';go_wp2;exact⟨⟨j+1,by omega,by go_num,HQ,hB⟩,by simp[intOf];omega⟩
  have HQ:Hid (A=true):=HH'.out rfl;clear HLs HH';go_wp2;go_ret;exact⟨⟨j,rfl,.inr ⟨by omega,HQ.out⟩⟩,hB⟩
 obtain rfl:j=n:=by omega
 have hti:¬(j:Int)<(j:Int):=by omega
 have HQ:Hid (A=false):=HNo.out HS.out;go_wp2;go_ret;exact⟨⟨-1,rfl,.inl ⟨rfl,HQ.out⟩⟩,hbl⟩
theorem fDr (gf:Nat) (P:Value) (pb:Slt→Bool) (x:Value) (xs:List Slt) (w:World) (hx:sltsR.V w x xs) (eg:∀args w,(callFunc gf args).run Tryz.prog w = .ok (.enter gf args) w) (hp:(∀k W,k<xs.length→Below w.heap.size w W→∀u,Calls Tryz.prog gf #[.agg #[.int .i64 (xs.getD k default).con,.int .i64 (xs.getD k default).sh,.int .i64 (xs.getD k default).pr,.int .i64 (xs.getD k default).lb,.int .i64 (xs.getD k default).lv,u],P] W fun e w'=>e = .returned (.bool (pb (xs.getD k default)))∧Below W.heap.size W w')) :
  Calls Tryz.prog 149 #[x,.func (.func gf) #[] #[P]] w fun e w'=>e = .returned (.bool (xs.any pb))∧Below w.heap.size w w':=by
 have HI:Hid (Calls Tryz.prog 220 #[x,.func (.func gf) #[] #[P]] w fun e w'=>(∃r:Int,e = .returned (.int .i64 r)∧((r = -1∧xs.any pb=false)∨(0≤r∧xs.any pb=true)))∧Below w.heap.size w w'):=fKn gf P pb x xs w hx eg hp;clear hp eg;obtain⟨ax,cx,rfl,_⟩:=hx;generalize xs.any pb=A at *;go_enter Tryz.func149,Tryz.ntmps149;go_wp2_with fail;refine HI.out.mono ?_;rintro e w1 ⟨⟨r,rfl,hr⟩,hb1⟩;clear HI;rcases hr with ⟨rfl,hr⟩|⟨hr0,hr⟩
 all_goals
  subst hr;go_wp2;go_ret;exact⟨rfl,hb1⟩
end Go.Proofs.YtbfnobcidnmohaaGreat
namespace Go.Proofs.YtbfnobcidnmohaaGreat
open Go.RowKit
variable [DecidableEq Vot] [Inhabited Vot] [DecidableEq Slt] [Inhabited Slt] [DecidableEq SltR] [Inhabited SltR] [DecidableEq Bal] [Inhabited Bal] [DecidableEq Ledg] [Inhabited Ledg] [DecidableEq Leg] [Inhabited Leg] [DecidableEq Acc] [Inhabited Acc] [DecidableEq AccR] [Inhabited AccR] [DecidableEq AccsR] [Inhabited AccsR] [DecidableEq SltsR] [Inhabited SltsR]
attribute [local go_sem ↓] Go.wp_at_zero Go.wp_at_succ
theorem fN9 (x:Int) (w:World) :
  Calls Tryz.prog 292 #[.int .i64 x] w fun e w'=>e = .returned (.bool false)∧w'=w:=by
 go_enter Tryz.func292,Tryz.ntmps292;go_wp2;go_ret;exact⟨rfl,rfl⟩
theorem fBu (x y:Int) (w:World) :
  Calls Tryz.prog 247 #[.int .i64 x,.int .i64 y] w fun e w'=>e = .returned (.int .i64 (cmpZ x y))∧w'=w:=by
 go_enter Tryz.func247,Tryz.ntmps247;go_wp2_with (go_at_call 292;refine(fN9 _ _).mono ?_;rintro e w' ⟨rfl,rfl⟩);all_goals (go_ret;refine⟨?_,rfl⟩;unfold cmpZ;(repeat' split) <;> first|rfl|(exfalso;omega))
theorem fQ1 (b:Nat) (x y:Int) (w:World) (h0:w.cell? ⟨b,0,none⟩=some (.int .i64 x)) (h1:w.cell? ⟨b,1,none⟩=some (.int .i64 y)) :
  Calls Tryz.prog 277 #[.slice (some ⟨b,0,none⟩) 2 2] w fun e w'=>e = .returned (.int .i64 (orZ x y))∧w'=w:=by
 go_enter Tryz.func277,Tryz.ntmps277;go_wp2;go_loopw [8] (fun i w'=>∃k:Nat,k≤2∧i = .int .i64 k∧w'=w∧(0<k→x=0)∧(1<k→y=0)) (fun i _=>2-(intOf i).toNat)
 case atStart=>exact⟨0,by omega,rfl,rfl,by omega,by omega⟩
 obtain⟨k,hk,rfl,rfl,p0,p1⟩:=hrel;rcases(show k=0∨k=1∨k=2 by omega) with rfl|rfl|rfl
 ·
  by_cases hx:x=0
  ·
   subst hx;go_wp2;exact⟨⟨1,by omega,by go_num,by simp⟩,by simp[intOf]⟩
  go_wp2;go_ret;refine⟨?_,rfl⟩;unfold orZ;rw[if_neg hx];rfl
 ·
  have hx:=p0 (by omega);subst hx;by_cases hy:y=0
  ·
   subst hy;go_wp2;exact⟨⟨2,by omega,by go_num,by simp⟩,by simp[intOf]⟩
  go_wp2;go_ret;refine⟨?_,rfl⟩;unfold orZ;rw[if_pos rfl];rfl
 have hx:=p0 (by omega);have hy:=p1 (by omega);subst hx hy;go_wp2;go_ret;exact⟨rfl,rfl⟩
theorem vL (x y:Slt) (u v:Value) (w:World) :
  Calls Tryz.prog 219 #[.agg #[.int .i64 x.con,.int .i64 x.sh,.int .i64 x.pr,.int .i64 x.lb,.int .i64 x.lv,u],.agg #[.int .i64 y.con,.int .i64 y.sh,.int .i64 y.pr,.int .i64 y.lb,.int .i64 y.lv,v]] w fun e w'=>e = .returned (.int .i64 (cmpS x y))∧Below w.heap.size w w':=by
 go_enter Tryz.func219,Tryz.ntmps219;go_wp2;go_region_held3 (fun w'=>Below w.heap.size w w'∧w'.cell? ⟨w.heap.size,0,none⟩=some (.int .i64 x.con)∧w'.cell? ⟨w.heap.size,1,none⟩=some (.int .i64 x.sh)∧w'.cell? ⟨w.heap.size+1,0,none⟩=some (.int .i64 y.con)∧w'.cell? ⟨w.heap.size+1,1,none⟩=some (.int .i64 y.sh))
  ((refine⟨?_,?_,?_,?_,?_⟩;(repeat (first|exact bR _ _|assumption|refine bD ?_|refine bA ?_ _));all_goals simp[go_sem]))
  (first|(go_at_call 247;refine(fBu _ _ _).mono ?_;rintro e w' ⟨rfl,rfl⟩)|(go_at_call 277;refine(fQ1 _ (cmpZ x.con y.con) (cmpZ x.sh y.sh) _ ?_ ?_).mono ?_;simp[go_sem];simp[go_sem];rintro e w' ⟨rfl,rfl⟩))
 all_goals
  rename_i hH;have hB:=hH.1;clear hH;go_wp2;go_ret;exact⟨rfl,hB⟩
theorem yT (x y:Slt) (u v:Value) (w:World) :
  Calls Tryz.prog 198 #[.agg #[.int .i64 x.con,.int .i64 x.sh,.int .i64 x.pr,.int .i64 x.lb,.int .i64 x.lv,u],.agg #[.int .i64 y.con,.int .i64 y.sh,.int .i64 y.pr,.int .i64 y.lb,.int .i64 y.lv,v]] w fun e w'=>e = .returned (.bool (mE x y))∧Below w.heap.size w w':=by
 have e:mE x y=if x.con=y.con then decide (x.sh<y.sh) else decide (x.con<y.con):=by
  rw[Bool.eq_iff_iff,fNb];split <;> simp only[decide_eq_true_eq] <;> omega
 rw[e];by_cases h:x.con=y.con
 ·
  rw[if_pos h];have f1:(x.con !=y.con)=false:=by simp[h]
  go_enter Tryz.func198,Tryz.ntmps198;go_wp2;go_ret;exact⟨rfl,qBq⟩
 rw[if_neg h];have f1:(x.con !=y.con)=true:=by simp[h]
 go_enter Tryz.func198,Tryz.ntmps198;go_wp2;go_ret;exact⟨rfl,qBq⟩
end Go.Proofs.YtbfnobcidnmohaaGreat

import Derived.Test.YtpibfdebfacooaaGreatPrnCrashJournalLaw23
import Derived.Deep.RegionLawGrows
set_option maxHeartbeats 8000000
set_option maxRecDepth 20000
set_option linter.unusedSimpArgs false
set_option linter.unusedVariables false
set_option linter.unusedSectionVars false
namespace Go.Proofs.YtpibfdebfacooaaGreat
open Go.RowKit
attribute [local go_sem ↓] Go.wp_at_zero Go.wp_at_succ
section
variable [dQ Bal] [iH Bal] [dQ Logg] [iH Logg] [dQ Jrn] [iH Jrn] [dQ Mrk] [iH Mrk] [dQ Leg] [iH Leg] [dQ Cont] [iH Cont] [dQ Shd] [iH Shd] [dQ JrnR] [iH JrnR] [dQ Evt] [iH Evt] [dQ EvtsR] [iH EvtsR] [dQ EvtR] [iH EvtR] [dQ BytesR] [iH BytesR] [dQ ContR] [iH ContR] [dQ LoggR] [iH LoggR] [dQ RecsR] [iH RecsR] [dQ Rw] [iH Rw] [dQ Ledg] [iH Ledg] [dQ LedgR] [iH LedgR] [dQ OutcR] [iH OutcR] [dQ ShdR] [iH ShdR]
theorem fN9 {s:Shd} {e:Evt} (h:e.vote=true):doE s e=rO s e.con:=if_pos h
theorem fSe {s:Shd} {e:Evt} (h:e.vote=false):doE s e=kW s e.con.id e.out:=if_neg (by rw[h];exact Bool.false_ne_true)
theorem fWw (x y:Value) (s:Shd) (e:Evt) (w:World) (hx:shdR.V w x s) (hy:evtR.V w y e):Calls Tryz.prog 46 #[x,y] w (rP w (doE s e)):=by
 have HVo:Hid (e.vote=true→∀W z,Below w.heap.size w W→contR.V W z e.con→Calls Tryz.prog 89 #[x,z] W (rP W (doE s e))):=fun h W z hW hz=>by rw[fN9 h];exact fRf x z s e.con W (shdR.below hx hW) hz
 have HDe:Hid (e.vote=false→∀W,Below w.heap.size w W→Calls Tryz.prog 90 #[x,.int .i64 e.con.id,.int .i64 e.out] W (rP W (doE s e))):=fun h W hW=>by rw[fSe h];exact fLc x s _ _ W (shdR.below hx hW)
 obtain⟨u1,u2,u3,u4,u5,rfl,h1,h2,h3,h4,h5⟩:=hx;obtain⟨a1,c1,rfl⟩:=fP h1;obtain⟨a2,c2,rfl⟩:=fF h2;obtain⟨a3,c3,rfl⟩:=fM h3;obtain⟨a4,c4,rfl⟩:=fF h4;obtain⟨a5,c5,rfl⟩:=gJ h5;clear h1 h2 h3 h4 h5;obtain⟨ae,ce,rfl,hl⟩:=tH hy;clear hy;have HCV:Hid (bW w fun W=>contR.V W (.agg #[.int .i64 e.con.id,.slice ae e.con.legs.length ce]) e.con):=fun W hW=>⟨_,rfl,kS hl hW⟩
 clear hl;generalize s.bals.length=n1 at *;generalize s.votes.length=n2 at *;generalize s.held.length=n3 at *;generalize s.done.length=n4 at *;generalize s.appl.length=n5 at *;generalize e.con.legs.length=ne at *;generalize doE s e=Z at *;cases hv:e.vote
 ·
  have HD:Hid _:=HDe.out hv;clear HVo HDe HCV hv;go_enter Tryz.func46,Tryz.ntmps46;go_wp2_with fail;refine(HD.out _ qBq).mono ?_;rintro e' w1 ⟨v1,F1,rfl,o1,hb1⟩;generalize Z=VD at *;obtain⟨cd,vt,sd⟩:=VD;obtain⟨p1,p2,p3,p4,p5,m1,m2,m3,m4,m5,q1,q2,q3,q4,q5,rfl⟩:=mD o1;have hB1:=bT w hb1;have hz:w.heap.size+3≤w1.heap.size:=by have:=hb1.size;simp at this;omega
  have HO:Hid (shdRR.O w1 (w.heap.size+3) F1 (.agg #[.int .i64 cd,.int .i64 vt,.int .i64 sd.idx,.slice p1 m1 q1,.slice p2 m2 q2,.slice p3 m3 q3,.slice p4 m4 q4,.slice p5 m5 q5]) ⟨cd,vt,sd⟩):=shdRR.base o1 (by simp);have r0:w1.cell? ⟨w.heap.size+2,0,none⟩=some (.int .i64 0):=cK hb1 sG;have r1:w1.cell? ⟨w.heap.size+2,1,none⟩=some (.int .i64 0):=cK hb1 sG;have r2:w1.cell? ⟨w.heap.size+2,2,none⟩=some (.int .i64 0):=cK hb1 sG;have r3:w1.cell? ⟨w.heap.size+2,3,none⟩=some (.slice none 0 0):=cK hb1 sG;have r4:w1.cell? ⟨w.heap.size+2,4,none⟩=some (.slice none 0 0):=cK hb1 sG;have r5:w1.cell? ⟨w.heap.size+2,5,none⟩=some (.slice none 0 0):=cK hb1 sG;have r6:w1.cell? ⟨w.heap.size+2,6,none⟩=some (.slice none 0 0):=cK hb1 sG;have r7:w1.cell? ⟨w.heap.size+2,7,none⟩=some (.slice none 0 0):=cK hb1 sG;have rf:∀o,w1.frozen? ⟨w.heap.size+2,o,none⟩=false:=fun o=>by rw[(bcell hb1).2 _ _ (by simp;try omega)];simp[go_sem]
  clear o1 hb1 HD;go_wp2;refine bodyPost_ret (v:=.agg #[.int .i64 cd,.int .i64 vt,.int .i64 sd.idx,.slice p1 m1 q1,.slice p2 m2 q2,.slice p3 m3 q3,.slice p4 m4 q4,.slice p5 m5 q5]) (by simp[results,Tryz.results46,go_sem,r0,r1,r2,r3,r4,r5,r6,r7,rf]) rfl ?_;have hbR:w.heap.size≤w.heap.size+2:=oM;exact⟨_,F1,rfl,shdRR.base (vD shdRR HO.out (fun h=>by have:=(shdRR.rng HO.out _ h).1;omega) _ _ _ _ _ _ _ _) oM,bset (p:=⟨w.heap.size+2,7,none⟩) (bset (p:=⟨w.heap.size+2,6,none⟩) (bset (p:=⟨w.heap.size+2,5,none⟩) (bset (p:=⟨w.heap.size+2,4,none⟩) (bset (p:=⟨w.heap.size+2,3,none⟩) (bset (p:=⟨w.heap.size+2,2,none⟩) (bset (p:=⟨w.heap.size+2,1,none⟩) (bset (p:=⟨w.heap.size+2,0,none⟩) (hB1) hbR _) hbR _) hbR _) hbR _) hbR _) hbR _) hbR _) hbR _⟩
 have HD:Hid _:=HVo.out hv;clear HVo HDe hv;go_enter Tryz.func46,Tryz.ntmps46;go_wp2_with fail;refine(HD.out _ _ qBq (HCV.out _ qBq)).mono ?_;rintro e' w1 ⟨v1,F1,rfl,o1,hb1⟩;generalize Z=VD at *;obtain⟨cd,vt,sd⟩:=VD;obtain⟨p1,p2,p3,p4,p5,m1,m2,m3,m4,m5,q1,q2,q3,q4,q5,rfl⟩:=mD o1;have hB1:=bT w hb1;have hz:w.heap.size+3≤w1.heap.size:=by have:=hb1.size;simp at this;omega
 have HO:Hid (shdRR.O w1 (w.heap.size+3) F1 (.agg #[.int .i64 cd,.int .i64 vt,.int .i64 sd.idx,.slice p1 m1 q1,.slice p2 m2 q2,.slice p3 m3 q3,.slice p4 m4 q4,.slice p5 m5 q5]) ⟨cd,vt,sd⟩):=shdRR.base o1 (by simp);have r0:w1.cell? ⟨w.heap.size+2,0,none⟩=some (.int .i64 0):=cK hb1 sG;have r1:w1.cell? ⟨w.heap.size+2,1,none⟩=some (.int .i64 0):=cK hb1 sG;have r2:w1.cell? ⟨w.heap.size+2,2,none⟩=some (.int .i64 0):=cK hb1 sG;have r3:w1.cell? ⟨w.heap.size+2,3,none⟩=some (.slice none 0 0):=cK hb1 sG;have r4:w1.cell? ⟨w.heap.size+2,4,none⟩=some (.slice none 0 0):=cK hb1 sG;have r5:w1.cell? ⟨w.heap.size+2,5,none⟩=some (.slice none 0 0):=cK hb1 sG;have r6:w1.cell? ⟨w.heap.size+2,6,none⟩=some (.slice none 0 0):=cK hb1 sG;have r7:w1.cell? ⟨w.heap.size+2,7,none⟩=some (.slice none 0 0):=cK hb1 sG;have rf:∀o,w1.frozen? ⟨w.heap.size+2,o,none⟩=false:=fun o=>by rw[(bcell hb1).2 _ _ (by simp;try omega)];simp[go_sem]
 clear o1 hb1 HD HCV;go_wp2;refine bodyPost_ret (v:=.agg #[.int .i64 cd,.int .i64 vt,.int .i64 sd.idx,.slice p1 m1 q1,.slice p2 m2 q2,.slice p3 m3 q3,.slice p4 m4 q4,.slice p5 m5 q5]) (by simp[results,Tryz.results46,go_sem,r0,r1,r2,r3,r4,r5,r6,r7,rf]) rfl ?_;have hbR:w.heap.size≤w.heap.size+2:=oM;exact⟨_,F1,rfl,shdRR.base (vD shdRR HO.out (fun h=>by have:=(shdRR.rng HO.out _ h).1;omega) _ _ _ _ _ _ _ _) oM,bset (p:=⟨w.heap.size+2,7,none⟩) (bset (p:=⟨w.heap.size+2,6,none⟩) (bset (p:=⟨w.heap.size+2,5,none⟩) (bset (p:=⟨w.heap.size+2,4,none⟩) (bset (p:=⟨w.heap.size+2,3,none⟩) (bset (p:=⟨w.heap.size+2,2,none⟩) (bset (p:=⟨w.heap.size+2,1,none⟩) (bset (p:=⟨w.heap.size+2,0,none⟩) (hB1) hbR _) hbR _) hbR _) hbR _) hbR _) hbR _) hbR _) hbR _⟩
theorem fXf (y x:Value) (s:Shd) (e:Evt) (w:World) (hx:shdR.V w x s) (hy:evtR.V w y e) (hv:e.vote=true):Calls Tryz.prog 118 #[y,x] w (rP w (doE s e)):=by
 have HD:Hid (∀W z,Below w.heap.size w W→contR.V W z e.con→Calls Tryz.prog 145 #[x,z] W (rP W (doE s e))):=fun W z hW hz=>by rw[fN9 hv];exact fQk x z s e.con W (shdR.below hx hW) hz
 obtain⟨u1,u2,u3,u4,u5,rfl,h1,h2,h3,h4,h5⟩:=hx;obtain⟨a1,c1,rfl⟩:=fP h1;obtain⟨a2,c2,rfl⟩:=fF h2;obtain⟨a3,c3,rfl⟩:=fM h3;obtain⟨a4,c4,rfl⟩:=fF h4;obtain⟨a5,c5,rfl⟩:=gJ h5;clear h1 h2 h3 h4 h5;obtain⟨ae,ce,rfl,hl⟩:=tH hy;clear hy;have HCV:Hid (bW w fun W=>contR.V W (.agg #[.int .i64 e.con.id,.slice ae e.con.legs.length ce]) e.con):=fun W hW=>⟨_,rfl,kS hl hW⟩
 clear hl hv;generalize s.bals.length=n1 at *;generalize s.votes.length=n2 at *;generalize s.held.length=n3 at *;generalize s.done.length=n4 at *;generalize s.appl.length=n5 at *;generalize e.con.legs.length=ne at *;generalize doE s e=Z at *;go_enter Tryz.func118,Tryz.ntmps118;go_wp2_with fail;refine(HD.out _ _ qBq (HCV.out _ qBq)).mono ?_;rintro e' w1 ⟨v1,F1,rfl,o1,hb1⟩;generalize Z=VD at *;obtain⟨cd,vt,sd⟩:=VD;obtain⟨p1,p2,p3,p4,p5,m1,m2,m3,m4,m5,q1,q2,q3,q4,q5,rfl⟩:=mD o1;have hB1:=bT w hb1;have hz:w.heap.size+3≤w1.heap.size:=by have:=hb1.size;simp at this;omega
 have HO:Hid (shdRR.O w1 (w.heap.size+3) F1 (.agg #[.int .i64 cd,.int .i64 vt,.int .i64 sd.idx,.slice p1 m1 q1,.slice p2 m2 q2,.slice p3 m3 q3,.slice p4 m4 q4,.slice p5 m5 q5]) ⟨cd,vt,sd⟩):=shdRR.base o1 (by simp);have r0:w1.cell? ⟨w.heap.size+2,0,none⟩=some (.int .i64 0):=cK hb1 sG;have r1:w1.cell? ⟨w.heap.size+2,1,none⟩=some (.int .i64 0):=cK hb1 sG;have r2:w1.cell? ⟨w.heap.size+2,2,none⟩=some (.int .i64 0):=cK hb1 sG;have r3:w1.cell? ⟨w.heap.size+2,3,none⟩=some (.slice none 0 0):=cK hb1 sG;have r4:w1.cell? ⟨w.heap.size+2,4,none⟩=some (.slice none 0 0):=cK hb1 sG;have r5:w1.cell? ⟨w.heap.size+2,5,none⟩=some (.slice none 0 0):=cK hb1 sG;have r6:w1.cell? ⟨w.heap.size+2,6,none⟩=some (.slice none 0 0):=cK hb1 sG;have r7:w1.cell? ⟨w.heap.size+2,7,none⟩=some (.slice none 0 0):=cK hb1 sG;have rf:∀o,w1.frozen? ⟨w.heap.size+2,o,none⟩=false:=fun o=>by rw[(bcell hb1).2 _ _ (by simp;try omega)];simp[go_sem]
 clear o1 hb1 HD HCV;go_wp2;refine bodyPost_ret (v:=.agg #[.int .i64 cd,.int .i64 vt,.int .i64 sd.idx,.slice p1 m1 q1,.slice p2 m2 q2,.slice p3 m3 q3,.slice p4 m4 q4,.slice p5 m5 q5]) (by simp[results,Tryz.results118,go_sem,r0,r1,r2,r3,r4,r5,r6,r7,rf]) rfl ?_;have hbR:w.heap.size≤w.heap.size+2:=oM;exact⟨_,F1,rfl,shdRR.base (vD shdRR HO.out (fun h=>by have:=(shdRR.rng HO.out _ h).1;omega) _ _ _ _ _ _ _ _) oM,bset (p:=⟨w.heap.size+2,7,none⟩) (bset (p:=⟨w.heap.size+2,6,none⟩) (bset (p:=⟨w.heap.size+2,5,none⟩) (bset (p:=⟨w.heap.size+2,4,none⟩) (bset (p:=⟨w.heap.size+2,3,none⟩) (bset (p:=⟨w.heap.size+2,2,none⟩) (bset (p:=⟨w.heap.size+2,1,none⟩) (bset (p:=⟨w.heap.size+2,0,none⟩) (hB1) hbR _) hbR _) hbR _) hbR _) hbR _) hbR _) hbR _) hbR _⟩
theorem fSd (y x:Value) (s:Shd) (e:Evt) (w:World) (hx:shdR.V w x s) (hy:evtR.V w y e) (hv:e.vote=false):Calls Tryz.prog 121 #[y,x] w (rP w (doE s e)):=by
 have HD:Hid (bW w fun W=>Calls Tryz.prog 149 #[x,.int .i64 e.con.id,.int .i64 e.out] W (rP W (doE s e))):=fun W hW=>by rw[fSe hv];exact fKi x s _ _ W (shdR.below hx hW)
 obtain⟨u1,u2,u3,u4,u5,rfl,h1,h2,h3,h4,h5⟩:=hx;obtain⟨a1,c1,rfl⟩:=fP h1;obtain⟨a2,c2,rfl⟩:=fF h2;obtain⟨a3,c3,rfl⟩:=fM h3;obtain⟨a4,c4,rfl⟩:=fF h4;obtain⟨a5,c5,rfl⟩:=gJ h5;clear h1 h2 h3 h4 h5;obtain⟨ae,ce,rfl,hl⟩:=tH hy;clear hy;have HCV:Hid (bW w fun W=>contR.V W (.agg #[.int .i64 e.con.id,.slice ae e.con.legs.length ce]) e.con):=fun W hW=>⟨_,rfl,kS hl hW⟩
 clear hl hv;generalize s.bals.length=n1 at *;generalize s.votes.length=n2 at *;generalize s.held.length=n3 at *;generalize s.done.length=n4 at *;generalize s.appl.length=n5 at *;generalize e.con.legs.length=ne at *;generalize doE s e=Z at *;go_enter Tryz.func121,Tryz.ntmps121;go_wp2_with fail;refine(HD.out _ qBq).mono ?_;rintro e' w1 ⟨v1,F1,rfl,o1,hb1⟩;generalize Z=VD at *;obtain⟨cd,vt,sd⟩:=VD;obtain⟨p1,p2,p3,p4,p5,m1,m2,m3,m4,m5,q1,q2,q3,q4,q5,rfl⟩:=mD o1;have hB1:=bT w hb1;have hz:w.heap.size+3≤w1.heap.size:=by have:=hb1.size;simp at this;omega
 have HO:Hid (shdRR.O w1 (w.heap.size+3) F1 (.agg #[.int .i64 cd,.int .i64 vt,.int .i64 sd.idx,.slice p1 m1 q1,.slice p2 m2 q2,.slice p3 m3 q3,.slice p4 m4 q4,.slice p5 m5 q5]) ⟨cd,vt,sd⟩):=shdRR.base o1 (by simp);have r0:w1.cell? ⟨w.heap.size+2,0,none⟩=some (.int .i64 0):=cK hb1 sG;have r1:w1.cell? ⟨w.heap.size+2,1,none⟩=some (.int .i64 0):=cK hb1 sG;have r2:w1.cell? ⟨w.heap.size+2,2,none⟩=some (.int .i64 0):=cK hb1 sG;have r3:w1.cell? ⟨w.heap.size+2,3,none⟩=some (.slice none 0 0):=cK hb1 sG;have r4:w1.cell? ⟨w.heap.size+2,4,none⟩=some (.slice none 0 0):=cK hb1 sG;have r5:w1.cell? ⟨w.heap.size+2,5,none⟩=some (.slice none 0 0):=cK hb1 sG;have r6:w1.cell? ⟨w.heap.size+2,6,none⟩=some (.slice none 0 0):=cK hb1 sG;have r7:w1.cell? ⟨w.heap.size+2,7,none⟩=some (.slice none 0 0):=cK hb1 sG;have rf:∀o,w1.frozen? ⟨w.heap.size+2,o,none⟩=false:=fun o=>by rw[(bcell hb1).2 _ _ (by simp;try omega)];simp[go_sem]
 clear o1 hb1 HD HCV;go_wp2;refine bodyPost_ret (v:=.agg #[.int .i64 cd,.int .i64 vt,.int .i64 sd.idx,.slice p1 m1 q1,.slice p2 m2 q2,.slice p3 m3 q3,.slice p4 m4 q4,.slice p5 m5 q5]) (by simp[results,Tryz.results121,go_sem,r0,r1,r2,r3,r4,r5,r6,r7,rf]) rfl ?_;have hbR:w.heap.size≤w.heap.size+2:=oM;exact⟨_,F1,rfl,shdRR.base (vD shdRR HO.out (fun h=>by have:=(shdRR.rng HO.out _ h).1;omega) _ _ _ _ _ _ _ _) oM,bset (p:=⟨w.heap.size+2,7,none⟩) (bset (p:=⟨w.heap.size+2,6,none⟩) (bset (p:=⟨w.heap.size+2,5,none⟩) (bset (p:=⟨w.heap.size+2,4,none⟩) (bset (p:=⟨w.heap.size+2,3,none⟩) (bset (p:=⟨w.heap.size+2,2,none⟩) (bset (p:=⟨w.heap.size+2,1,none⟩) (bset (p:=⟨w.heap.size+2,0,none⟩) (hB1) hbR _) hbR _) hbR _) hbR _) hbR _) hbR _) hbR _) hbR _⟩
theorem fU3 (x y:Value) (s:Shd) (e:Evt) (w:World) (hx:shdR.V w x s) (hy:evtR.V w y e):Calls Tryz.prog 36 #[x,y] w (rP w (doE s e)):=by
 have HX:Hid (bW w fun W=>evtR.V W y e):=fun W hW=>evtR.below hy hW
 have HVo:Hid (e.vote=true→∀W,Below w.heap.size w W→Calls Tryz.prog 118 #[y,x] W (rP W (doE s e))):=fun h W hW=>fXf y x s e W (shdR.below hx hW) (evtR.below hy hW) h
 have HDe:Hid (e.vote=false→∀W,Below w.heap.size w W→Calls Tryz.prog 121 #[y,x] W (rP W (doE s e))):=fun h W hW=>fSd y x s e W (shdR.below hx hW) (evtR.below hy hW) h
 obtain⟨u1,u2,u3,u4,u5,rfl,h1,h2,h3,h4,h5⟩:=hx;obtain⟨a1,c1,rfl⟩:=fP h1;obtain⟨a2,c2,rfl⟩:=fF h2;obtain⟨a3,c3,rfl⟩:=fM h3;obtain⟨a4,c4,rfl⟩:=fF h4;obtain⟨a5,c5,rfl⟩:=gJ h5;clear h1 h2 h3 h4 h5;obtain⟨ae,ce,rfl,hl⟩:=tH hy;clear hy hl;generalize s.bals.length=n1 at *;generalize s.votes.length=n2 at *;generalize s.held.length=n3 at *;generalize s.done.length=n4 at *;generalize s.appl.length=n5 at *;generalize e.con.legs.length=ne at *;generalize doE s e=Z at *;have hfd:=fQt;cases hv:e.vote
 ·
  have HD:Hid _:=HDe.out hv;have HK:Hid (bW w fun W=>RI 71 #[.agg #[.bool false,.int .i64 e.con.id,.slice ae ne ce,.int .i64 e.out]] W (.agg #[.func (.func 119) #[] #[],.func (.func 120) #[] #[],.func (.func 121) #[] #[]])):=fun W hW=>by have h:=fG9 _ e W (HX.out W hW) hv;rw[hv] at h;exact h
  rw[hv] at HD;have eg:=enters_of Tryz.func121 kF rfl;clear HVo HDe HX hv;go_enter Tryz.func36,Tryz.ntmps36;go_wp2;obtain⟨wq,hwq⟩:∃wq,wq=((w.alloc (.cells #[.int .i64 s.idx,.slice a1 n1 c1,.slice a2 n2 c2,.slice a3 n3 c3,.slice a4 n4 c4,.slice a5 n5 c5] 41)).alloc (.cells #[.bool false,.int .i64 e.con.id,.slice ae ne ce,.int .i64 e.out] 59)).alloc (.cells #[.int .i64 0,.int .i64 0,.int .i64 0,.slice none 0 0,.slice none 0 0,.slice none 0 0,.slice none 0 0,.slice none 0 0] 76):=⟨_,rfl⟩
  have y0:wq.cell? ⟨w.heap.size,0,none⟩=some (.int .i64 s.idx):=by rw[hwq];simp[go_sem]
  have y1:wq.cell? ⟨w.heap.size,1,none⟩=some (.slice a1 n1 c1):=by rw[hwq];simp[go_sem]
  have y2:wq.cell? ⟨w.heap.size,2,none⟩=some (.slice a2 n2 c2):=by rw[hwq];simp[go_sem]
  have y3:wq.cell? ⟨w.heap.size,3,none⟩=some (.slice a3 n3 c3):=by rw[hwq];simp[go_sem]
  have y4:wq.cell? ⟨w.heap.size,4,none⟩=some (.slice a4 n4 c4):=by rw[hwq];simp[go_sem]
  have y5:wq.cell? ⟨w.heap.size,5,none⟩=some (.slice a5 n5 c5):=by rw[hwq];simp[go_sem]
  have g0:wq.cell? ⟨w.heap.size+1,0,none⟩=some (.bool false):=by rw[hwq];simp[go_sem]
  have g1:wq.cell? ⟨w.heap.size+1,1,none⟩=some (.int .i64 e.con.id):=by rw[hwq];simp[go_sem]
  have g2:wq.cell? ⟨w.heap.size+1,2,none⟩=some (.slice ae ne ce):=by rw[hwq];simp[go_sem]
  have g3:wq.cell? ⟨w.heap.size+1,3,none⟩=some (.int .i64 e.out):=by rw[hwq];simp[go_sem]
  have r0:wq.cell? ⟨w.heap.size+2,0,none⟩=some (.int .i64 0):=by rw[hwq];simp[go_sem]
  have r1:wq.cell? ⟨w.heap.size+2,1,none⟩=some (.int .i64 0):=by rw[hwq];simp[go_sem]
  have r2:wq.cell? ⟨w.heap.size+2,2,none⟩=some (.int .i64 0):=by rw[hwq];simp[go_sem]
  have r3:wq.cell? ⟨w.heap.size+2,3,none⟩=some (.slice none 0 0):=by rw[hwq];simp[go_sem]
  have r4:wq.cell? ⟨w.heap.size+2,4,none⟩=some (.slice none 0 0):=by rw[hwq];simp[go_sem]
  have r5:wq.cell? ⟨w.heap.size+2,5,none⟩=some (.slice none 0 0):=by rw[hwq];simp[go_sem]
  have r6:wq.cell? ⟨w.heap.size+2,6,none⟩=some (.slice none 0 0):=by rw[hwq];simp[go_sem]
  have r7:wq.cell? ⟨w.heap.size+2,7,none⟩=some (.slice none 0 0):=by rw[hwq];simp[go_sem]
  have rf:∀o,wq.frozen? ⟨w.heap.size+2,o,none⟩=false:=fun o=>by rw[hwq];simp[go_sem]
  have hBq:Below w.heap.size w wq:=by rw[hwq];exact qBq
  have zq:w.heap.size+2<wq.heap.size:=by rw[hwq];simp
  rw[←hwq];clear hwq;refine wp_region_noPanic ?_;refine fB (fun W=>Below wq.heap.size wq W∧W.cell? ⟨w.heap.size,0,none⟩=some (.int .i64 s.idx)∧W.cell? ⟨w.heap.size,1,none⟩=some (.slice a1 n1 c1)∧W.cell? ⟨w.heap.size,2,none⟩=some (.slice a2 n2 c2)∧W.cell? ⟨w.heap.size,3,none⟩=some (.slice a3 n3 c3)∧W.cell? ⟨w.heap.size,4,none⟩=some (.slice a4 n4 c4)∧W.cell? ⟨w.heap.size,5,none⟩=some (.slice a5 n5 c5)∧W.cell? ⟨w.heap.size+1,0,none⟩=some (.bool false)∧W.cell? ⟨w.heap.size+1,1,none⟩=some (.int .i64 e.con.id)∧W.cell? ⟨w.heap.size+1,2,none⟩=some (.slice ae ne ce)∧W.cell? ⟨w.heap.size+1,3,none⟩=some (.int .i64 e.out)) 6 kF ⟨qBq,cK qBq y0,cK qBq y1,cK qBq y2,cK qBq y3,cK qBq y4,cK qBq y5,cK qBq g0,cK qBq g1,cK qBq g2,cK qBq g3⟩ (fun hS=>?_);refine tY 0 ?_;refine tY 3 ?_;refine tY 4 ?_;refine uS 1 rfl (fun K hK=>?_);go_simp;refine(HK.out _ (bS hBq hS.1)).mono ?_;rintro e' w2 ⟨rfl,hb2⟩;have hS2:=And.intro (bS hS.1 hb2) (kS10 hb2 hS.2);refine hK _ _ (fun _=>hS2) ?_;clear hK K hb2 HK hS;try simp only[jX]
  refine tY 2 ?_;refine uS 5 rfl (fun K hK=>?_);go_simp;refine(HD.out _ (bS hBq hS2.1)).mono ?_;rintro e' w1 ⟨v1,F1,rfl,o1,hb1⟩;generalize Z=VD at *;obtain⟨cd,vt,sd⟩:=VD;obtain⟨p1,p2,p3,p4,p5,m1,m2,m3,m4,m5,q1,q2,q3,q4,q5,rfl⟩:=mD o1;have hbq1:Below wq.heap.size wq w1:=bS hS2.1 hb1;have hB1:Below w.heap.size w w1:=bS hBq hbq1;have hz:w.heap.size+3≤w1.heap.size:=by have:=hbq1.size;omega
  have HO:Hid (shdRR.O w1 (w.heap.size+3) F1 (.agg #[.int .i64 cd,.int .i64 vt,.int .i64 sd.idx,.slice p1 m1 q1,.slice p2 m2 q2,.slice p3 m3 q3,.slice p4 m4 q4,.slice p5 m5 q5]) ⟨cd,vt,sd⟩):=shdRR.base o1 (by have:=hS2.1.size;omega);have hS3:=And.intro (bS hS2.1 hb1) (kS10 hb1 hS2.2);replace r0:=cK hbq1 r0;replace r1:=cK hbq1 r1;replace r2:=cK hbq1 r2;replace r3:=cK hbq1 r3;replace r4:=cK hbq1 r4;replace r5:=cK hbq1 r5;replace r6:=cK hbq1 r6;replace r7:=cK hbq1 r7;replace rf:∀o,w1.frozen? ⟨w.heap.size+2,o,none⟩=false:=fun o=>by rw[(bcell hbq1).2 _ _ zq];exact rf o
  refine hK _ _ (fun _=>hS3) ?_;clear hK K hb1 HD hS2 o1 y0 y1 y2 y3 y4 y5 g0 g1 g2 g3;try simp only[jX]
  refine uS 6 rfl (fun K hK=>?_);go_simp;refine hK _ _ (fun h=>absurd rfl h) ?_;clear hK K hS3 hbq1;refine dP ?_;go_wp2;refine bodyPost_ret (v:=.agg #[.int .i64 cd,.int .i64 vt,.int .i64 sd.idx,.slice p1 m1 q1,.slice p2 m2 q2,.slice p3 m3 q3,.slice p4 m4 q4,.slice p5 m5 q5]) (by simp[results,Tryz.results36,go_sem,r0,r1,r2,r3,r4,r5,r6,r7,rf]) rfl ?_;have hbR:w.heap.size≤w.heap.size+2:=oM;exact⟨_,F1,rfl,shdRR.base (vD shdRR HO.out (fun h=>by have:=(shdRR.rng HO.out _ h).1;omega) _ _ _ _ _ _ _ _) oM,bset (p:=⟨w.heap.size+2,7,none⟩) (bset (p:=⟨w.heap.size+2,6,none⟩) (bset (p:=⟨w.heap.size+2,5,none⟩) (bset (p:=⟨w.heap.size+2,4,none⟩) (bset (p:=⟨w.heap.size+2,3,none⟩) (bset (p:=⟨w.heap.size+2,2,none⟩) (bset (p:=⟨w.heap.size+2,1,none⟩) (bset (p:=⟨w.heap.size+2,0,none⟩) (hB1) hbR _) hbR _) hbR _) hbR _) hbR _) hbR _) hbR _) hbR _⟩
 have HD:Hid _:=HVo.out hv;have HK:Hid (bW w fun W=>RI 71 #[.agg #[.bool true,.int .i64 e.con.id,.slice ae ne ce,.int .i64 e.out]] W (.agg #[.func (.func 116) #[] #[],.func (.func 117) #[] #[],.func (.func 118) #[] #[]])):=fun W hW=>by have h:=fE0 _ e W (HX.out W hW) hv;rw[hv] at h;exact h
 rw[hv] at HD;have eg:=enters_of Tryz.func118 kF rfl;clear HVo HDe HX hv;go_enter Tryz.func36,Tryz.ntmps36;go_wp2;obtain⟨wq,hwq⟩:∃wq,wq=((w.alloc (.cells #[.int .i64 s.idx,.slice a1 n1 c1,.slice a2 n2 c2,.slice a3 n3 c3,.slice a4 n4 c4,.slice a5 n5 c5] 41)).alloc (.cells #[.bool true,.int .i64 e.con.id,.slice ae ne ce,.int .i64 e.out] 59)).alloc (.cells #[.int .i64 0,.int .i64 0,.int .i64 0,.slice none 0 0,.slice none 0 0,.slice none 0 0,.slice none 0 0,.slice none 0 0] 76):=⟨_,rfl⟩
 have y0:wq.cell? ⟨w.heap.size,0,none⟩=some (.int .i64 s.idx):=by rw[hwq];simp[go_sem]
 have y1:wq.cell? ⟨w.heap.size,1,none⟩=some (.slice a1 n1 c1):=by rw[hwq];simp[go_sem]
 have y2:wq.cell? ⟨w.heap.size,2,none⟩=some (.slice a2 n2 c2):=by rw[hwq];simp[go_sem]
 have y3:wq.cell? ⟨w.heap.size,3,none⟩=some (.slice a3 n3 c3):=by rw[hwq];simp[go_sem]
 have y4:wq.cell? ⟨w.heap.size,4,none⟩=some (.slice a4 n4 c4):=by rw[hwq];simp[go_sem]
 have y5:wq.cell? ⟨w.heap.size,5,none⟩=some (.slice a5 n5 c5):=by rw[hwq];simp[go_sem]
 have g0:wq.cell? ⟨w.heap.size+1,0,none⟩=some (.bool true):=by rw[hwq];simp[go_sem]
 have g1:wq.cell? ⟨w.heap.size+1,1,none⟩=some (.int .i64 e.con.id):=by rw[hwq];simp[go_sem]
 have g2:wq.cell? ⟨w.heap.size+1,2,none⟩=some (.slice ae ne ce):=by rw[hwq];simp[go_sem]
 have g3:wq.cell? ⟨w.heap.size+1,3,none⟩=some (.int .i64 e.out):=by rw[hwq];simp[go_sem]
 have r0:wq.cell? ⟨w.heap.size+2,0,none⟩=some (.int .i64 0):=by rw[hwq];simp[go_sem]
 have r1:wq.cell? ⟨w.heap.size+2,1,none⟩=some (.int .i64 0):=by rw[hwq];simp[go_sem]
 have r2:wq.cell? ⟨w.heap.size+2,2,none⟩=some (.int .i64 0):=by rw[hwq];simp[go_sem]
 have r3:wq.cell? ⟨w.heap.size+2,3,none⟩=some (.slice none 0 0):=by rw[hwq];simp[go_sem]
 have r4:wq.cell? ⟨w.heap.size+2,4,none⟩=some (.slice none 0 0):=by rw[hwq];simp[go_sem]
 have r5:wq.cell? ⟨w.heap.size+2,5,none⟩=some (.slice none 0 0):=by rw[hwq];simp[go_sem]
 have r6:wq.cell? ⟨w.heap.size+2,6,none⟩=some (.slice none 0 0):=by rw[hwq];simp[go_sem]
 have r7:wq.cell? ⟨w.heap.size+2,7,none⟩=some (.slice none 0 0):=by rw[hwq];simp[go_sem]
 have rf:∀o,wq.frozen? ⟨w.heap.size+2,o,none⟩=false:=fun o=>by rw[hwq];simp[go_sem]
 have hBq:Below w.heap.size w wq:=by rw[hwq];exact qBq
 have zq:w.heap.size+2<wq.heap.size:=by rw[hwq];simp
 rw[←hwq];clear hwq;refine wp_region_noPanic ?_;refine fB (fun W=>Below wq.heap.size wq W∧W.cell? ⟨w.heap.size,0,none⟩=some (.int .i64 s.idx)∧W.cell? ⟨w.heap.size,1,none⟩=some (.slice a1 n1 c1)∧W.cell? ⟨w.heap.size,2,none⟩=some (.slice a2 n2 c2)∧W.cell? ⟨w.heap.size,3,none⟩=some (.slice a3 n3 c3)∧W.cell? ⟨w.heap.size,4,none⟩=some (.slice a4 n4 c4)∧W.cell? ⟨w.heap.size,5,none⟩=some (.slice a5 n5 c5)∧W.cell? ⟨w.heap.size+1,0,none⟩=some (.bool true)∧W.cell? ⟨w.heap.size+1,1,none⟩=some (.int .i64 e.con.id)∧W.cell? ⟨w.heap.size+1,2,none⟩=some (.slice ae ne ce)∧W.cell? ⟨w.heap.size+1,3,none⟩=some (.int .i64 e.out)) 6 kF ⟨qBq,cK qBq y0,cK qBq y1,cK qBq y2,cK qBq y3,cK qBq y4,cK qBq y5,cK qBq g0,cK qBq g1,cK qBq g2,cK qBq g3⟩ (fun hS=>?_);refine tY 0 ?_;refine tY 3 ?_;refine tY 4 ?_;refine uS 1 rfl (fun K hK=>?_);go_simp;refine(HK.out _ (bS hBq hS.1)).mono ?_;rintro e' w2 ⟨rfl,hb2⟩;have hS2:=And.intro (bS hS.1 hb2) (kS10 hb2 hS.2);refine hK _ _ (fun _=>hS2) ?_;clear hK K hb2 HK hS;try simp only[jX]
 refine tY 2 ?_;refine uS 5 rfl (fun K hK=>?_);go_simp;refine(HD.out _ (bS hBq hS2.1)).mono ?_;rintro e' w1 ⟨v1,F1,rfl,o1,hb1⟩;generalize Z=VD at *;obtain⟨cd,vt,sd⟩:=VD;obtain⟨p1,p2,p3,p4,p5,m1,m2,m3,m4,m5,q1,q2,q3,q4,q5,rfl⟩:=mD o1;have hbq1:Below wq.heap.size wq w1:=bS hS2.1 hb1;have hB1:Below w.heap.size w w1:=bS hBq hbq1;have hz:w.heap.size+3≤w1.heap.size:=by have:=hbq1.size;omega
 have HO:Hid (shdRR.O w1 (w.heap.size+3) F1 (.agg #[.int .i64 cd,.int .i64 vt,.int .i64 sd.idx,.slice p1 m1 q1,.slice p2 m2 q2,.slice p3 m3 q3,.slice p4 m4 q4,.slice p5 m5 q5]) ⟨cd,vt,sd⟩):=shdRR.base o1 (by have:=hS2.1.size;omega);have hS3:=And.intro (bS hS2.1 hb1) (kS10 hb1 hS2.2);replace r0:=cK hbq1 r0;replace r1:=cK hbq1 r1;replace r2:=cK hbq1 r2;replace r3:=cK hbq1 r3;replace r4:=cK hbq1 r4;replace r5:=cK hbq1 r5;replace r6:=cK hbq1 r6;replace r7:=cK hbq1 r7;replace rf:∀o,w1.frozen? ⟨w.heap.size+2,o,none⟩=false:=fun o=>by rw[(bcell hbq1).2 _ _ zq];exact rf o
 refine hK _ _ (fun _=>hS3) ?_;clear hK K hb1 HD hS2 o1 y0 y1 y2 y3 y4 y5 g0 g1 g2 g3;try simp only[jX]
 refine uS 6 rfl (fun K hK=>?_);go_simp;refine hK _ _ (fun h=>absurd rfl h) ?_;clear hK K hS3 hbq1;refine dP ?_;go_wp2;refine bodyPost_ret (v:=.agg #[.int .i64 cd,.int .i64 vt,.int .i64 sd.idx,.slice p1 m1 q1,.slice p2 m2 q2,.slice p3 m3 q3,.slice p4 m4 q4,.slice p5 m5 q5]) (by simp[results,Tryz.results36,go_sem,r0,r1,r2,r3,r4,r5,r6,r7,rf]) rfl ?_;have hbR:w.heap.size≤w.heap.size+2:=oM;exact⟨_,F1,rfl,shdRR.base (vD shdRR HO.out (fun h=>by have:=(shdRR.rng HO.out _ h).1;omega) _ _ _ _ _ _ _ _) oM,bset (p:=⟨w.heap.size+2,7,none⟩) (bset (p:=⟨w.heap.size+2,6,none⟩) (bset (p:=⟨w.heap.size+2,5,none⟩) (bset (p:=⟨w.heap.size+2,4,none⟩) (bset (p:=⟨w.heap.size+2,3,none⟩) (bset (p:=⟨w.heap.size+2,2,none⟩) (bset (p:=⟨w.heap.size+2,1,none⟩) (bset (p:=⟨w.heap.size+2,0,none⟩) (hB1) hbR _) hbR _) hbR _) hbR _) hbR _) hbR _) hbR _) hbR _⟩
end
section
variable [dQ Logg] [iH Logg] [dQ LoggR] [iH LoggR] [dQ BytesR] [iH BytesR] [dQ RecsR] [iH RecsR] [dQ Leg] [iH Leg]
theorem fFl {P:Program} (w:World) (t ty e:TypeId) (i:TypeInfo) (ht:P.underlying t=some (.slice e)) (hi:P.info? e=some i) (g c:Nat) (ao:Option Addr) :
  (Builtin.append_ #[t,t] ty #[.slice (some ⟨g,0,none⟩) 0 0,.slice ao 0 c]).run P w =.ok (.slice (some ⟨g,0,none⟩) 0 0) w:=by
 cases ao with
 | none=>simp[Builtin.append_,run_underlying ht,sizeOf,typeInfo,hi,Builtin.lenOf,Builtin.firstCells,storeCells]
 | some ad=>simp[Builtin.append_,run_underlying ht,sizeOf,typeInfo,hi,Builtin.lenOf,Builtin.firstCells,storeCells,loadCells,loadCellsFrom]
theorem fLd (Y:World) {ops:Array Oper} {o:Oper} {a:Act} {K:Act→World→Prop} {Q:Exit→Act→World→Prop} {E:Prop} (hgd:o.guard=none) (s x:Operand)
  (ho:o.op =.call {callee:=.builtin .append,args:=#[s,x],argTypes:=#[23,23]})
  (g:Nat) (hs:a.eval s =.slice (some ⟨g,0,none⟩) 0 0) (u:Value) (ys:List Byte) (hx:a.eval x=u) (hsrc:gU Y u ys.length (gX ys)) (hlen:ys.length≤1073741824)
  (h:∀v' w',Below Y.heap.size Y w'→((ys=[]∧v' =.slice (some ⟨g,0,none⟩) 0 0)∨w'.ownsRow Y.heap.size 5 1 v' ys.length (gX ys))→K (a.put o.dst v') w') :
  if Region.wanted o (yielded ops a.tmps)=true then Oper.wp Tryz.prog o a Y K Q else E:=by
 obtain⟨i0,hi,hz0,hz1,hz2⟩:=info_parts infoByte;by_cases hy:ys=[]
 ·
  subst hy;have hu:∃ao c,u =.slice ao 0 c:=by
   rcases hsrc with ⟨c,rfl,_,_⟩|⟨ad,c,rfl,_⟩
   ·exact⟨_,_,rfl⟩
   exact⟨_,_,rfl⟩
  obtain⟨ao,c,rfl⟩:=hu;have hw:Region.wanted o (yielded ops a.tmps)=true:=by simp[Region.wanted,hgd]
  rw[if_pos hw];have hr:=fFl (P:=Tryz.prog) Y 23 o.type 5 i0 Tryz.underlying23 hi g c ao;unfold Oper.wp execOp;simp only[ho,resolve,invoke,builtin,Sem.run_bind,Sem.run_pure,Result.andThen_ok,List.map_toArray,List.map_cons,List.map_nil,hs,hx,hr];exact h _ _ (bR _ _) (.inl ⟨rfl,rfl⟩)
 rcases hsrc with ⟨c,rfl,hm,_⟩|⟨ad,c,rfl,hc⟩
 ·exact absurd (List.eq_nil_of_length_eq_zero hm) hy
 have hpos:0<ys.length:=List.length_pos_iff.2 hy;refine step_append_grows hgd s x 23 ho 5 i0 _ 1 1 Tryz.underlying23 hi hz0 hz1 hz2 rfl (by decide) (some ⟨g,0,none⟩) 0 0 [] hs (fun e=>by cases e) rfl (fun _ _ j v hj=>by cases hj) ad ys.length c (gX ys) hx (by rw[uH];omega) hc (fCc ys) oM (by unfold maxLen;omega) oM ?_;intro v' w' hown hg;refine h v' w' ((bR _ _).grown hg (Nat.le_refl _) (fun k e=>by cases e)) (.inr ?_);simpa using hown
def fAt (d:Logg):Nat→(Nat→Value)→Nat→Nat→World→Prop
 | 0,y,lo,hi,w=>y 3 =.slice (some ⟨lo,0,none⟩) 0 0∧lo<hi∧w.ownsRow lo 5 1 (.slice (some ⟨lo,0,none⟩) 0 0) 0 (gX [])
 | 3,y,lo,hi,w=>(∃a c,y 6 =.slice a d.synced.length c)∧((d.synced=[]∧y 6=y 3)∨(w.ownsRow lo 5 1 (y 6) d.synced.length (gX d.synced)∧∀b,(y 6).ownBlock=some b→b<hi))
 | 4,y,lo,hi,w=>y 7 =.slice (some ⟨lo,0,none⟩) 0 0∧lo<hi∧w.ownsRow lo 5 1 (.slice (some ⟨lo,0,none⟩) 0 0) 0 (gX [])
 | 7,y,lo,hi,w=>(∃a c,y 10 =.slice a d.loose.length c)∧((d.loose=[]∧y 10=y 7)∨(w.ownsRow lo 5 1 (y 10) d.loose.length (gX d.loose)∧∀b,(y 10).ownBlock=some b→b<hi))
 | 8,y,_,_,_=>y 11 =.agg #[y 6,y 10]
 | _,_,_,_,_=>True
theorem fOs {w0 w:World} {xs:List Byte} {v v0:Value} {l1 h1 l2 h2:Nat} (b1:InB w0 w l1 h1) (b2:InB w0 w l2 h2)
  (g1:v0 =.slice (some ⟨l1,0,none⟩) 0 0∧l1<h1∧w.ownsRow l1 5 1 (.slice (some ⟨l1,0,none⟩) 0 0) 0 (gX []))
  (g2:(xs=[]∧v=v0)∨(w.ownsRow l2 5 1 v xs.length (gX xs)∧∀b,v.ownBlock=some b→b<h2)) :
  ∃F,bytesR.O w w0.heap.size F v xs∧∀b,F b→(l1≤b∧b<h1)∨(l2≤b∧b<h2):=by
 rcases g2 with ⟨rfl,rfl⟩|⟨g2,g3⟩
 ·obtain⟨rfl,g4,g5⟩:=g1;refine⟨_,bytesR.base (base:=l1) ⟨g5,rfl⟩ b1.1,fun b hb=>.inl ?_⟩;simp[Value.ownBlock] at hb;omega
 refine⟨_,bytesR.base (base:=l2) ⟨g2,rfl⟩ b2.1,fun b hb=>.inr ⟨?_,g3 b hb⟩⟩;exact(bytesR.rng (F:=fun b=>v.ownBlock=some b) (show bytesR.O w l2 _ v xs from ⟨g2,rfl⟩) b hb).1
theorem fQu (x:Value) (d:Logg) (w:World) (hx:loggR.V w x d) (hn:gM d≤1048576) :
  Calls Tryz.prog 66 #[x] w fun e w'=>∃v F,e =.returned v∧loggR.O w' w.heap.size F v d∧Below w.heap.size w w':=by
 have hX:=hx;obtain⟨u1,u2,rfl,h1,h2⟩:=hx;obtain⟨a1,c1,rfl⟩:=fZ h1;obtain⟨a2,c2,rfl⟩:=fZ h2;unfold gM kK at hn;go_enter Tryz.func66,Tryz.ntmps66;go_wp2;refine wp_region_noPanic ?_;refine fB (fun w'=>Below w.heap.size w w'∧w'.cell? ⟨w.heap.size,0,none⟩=some (.slice a1 d.synced.length c1)∧w'.cell? ⟨w.heap.size,1,none⟩=some (.slice a2 d.loose.length c2)) 9 kF ⟨qBq,by simp[go_sem],sG⟩ (fun hS=>?_);refine tY 1 ?_;refine tY 2 ?_;refine tY 5 ?_;refine tY 6 ?_;have hB0:Below (w.heap.size+2) ((w.alloc (.cells #[.slice a1 d.synced.length c1,.slice a2 d.loose.length c2] 31)).alloc (.cells #[.slice none 0 0,.slice none 0 0] 31)) ((w.alloc (.cells #[.slice a1 d.synced.length c1,.slice a2 d.loose.length c2] 31)).alloc (.cells #[.slice none 0 0,.slice none 0 0] 31)).drew:=Below.drew (bR _ _);have hs0:((w.alloc (.cells #[.slice a1 d.synced.length c1,.slice a2 d.loose.length c2] 31)).alloc (.cells #[.slice none 0 0,.slice none 0 0] 31)).drew.heap.size=w.heap.size+2:=by simp
 have r0:((w.alloc (.cells #[.slice a1 d.synced.length c1,.slice a2 d.loose.length c2] 31)).alloc (.cells #[.slice none 0 0,.slice none 0 0] 31)).drew.cell? ⟨w.heap.size+1,0,none⟩=some (.slice none 0 0):=sG;have r1:((w.alloc (.cells #[.slice a1 d.synced.length c1,.slice a2 d.loose.length c2] 31)).alloc (.cells #[.slice none 0 0,.slice none 0 0] 31)).drew.cell? ⟨w.heap.size+1,1,none⟩=some (.slice none 0 0):=sG;have rf:∀o,((w.alloc (.cells #[.slice a1 d.synced.length c1,.slice a2 d.loose.length c2] 31)).alloc (.cells #[.slice none 0 0,.slice none 0 0] 31)).drew.frozen? ⟨w.heap.size+1,o,none⟩=false:=fun o=>sG
 have hb0:=hS.1;clear hB0;generalize ((w.alloc (.cells #[.slice a1 d.synced.length c1,.slice a2 d.loose.length c2] 31)).alloc (.cells #[.slice none 0 0,.slice none 0 0] 31)).drew=W0 at *;refine zO [(0,3),(3,6),(4,7),(7,10),(8,11)] (fAt d) kF hS (fun W W' h hb=>⟨bS h.1 hb,cK hb h.2.1,cK hb h.2.2⟩) ?_ ?_ ?_
 ·
  intro p hp;simp only[List.mem_cons,List.not_mem_nil,or_false] at hp;rcases hp with rfl|rfl|rfl|rfl|rfl
  ·intro y y' lo hi W W' h hi' hb e _;simp only[fAt] at h ⊢;rw[e];exact⟨h.1,h.2.1,fV h.2.2 hb⟩
  ·intro y y' lo hi W W' h hi' hb e he;have e0:=he (0,3) (by simp) kF;simp only[fAt] at h ⊢;rw[e,e0];exact⟨h.1,h.2.imp id (fun h=>⟨fV h.1 hb,h.2⟩)⟩
  ·intro y y' lo hi W W' h hi' hb e _;simp only[fAt] at h ⊢;rw[e];exact⟨h.1,h.2.1,fV h.2.2 hb⟩
  ·intro y y' lo hi W W' h hi' hb e he;have e0:=he (4,7) (by simp) kF;simp only[fAt] at h ⊢;rw[e,e0];exact⟨h.1,h.2.imp id (fun h=>⟨fV h.1 hb,h.2⟩)⟩
  intro y y' lo hi W W' h hi' hb e he;have e0:=he (3,6) (by simp) kF;have e1:=he (7,10) (by simp) kF;simp only[fAt] at h ⊢;rw[e,e0,e1];exact h
 ·
  intro p hp;simp only[List.mem_cons,List.not_mem_nil,or_false] at hp;rcases hp with rfl|rfl|rfl|rfl|rfl
  all_goals
   refine⟨_,rfl,rfl,?_⟩;intro y W lo hi hSW hBW hd hap K hK;clear hap
  ·clear hd;refine⟨?_⟩;simp only[over,jX,lZ] at hK ⊢;go_simp;refine hK _ _ qBq ?_;simp only[fAt,updV];exact⟨rfl,by simp,fBt (bR _ _) _ rfl (Nat.le_refl _)⟩
  ·
   have g0:=(hd (0,3) (by simp) kF).2;clear hd;simp only[fAt] at g0;refine⟨?_⟩;refine fLd W rfl (.tmp 3) (.tmp 5) rfl (lo 0) ?_ (.slice a1 d.synced.length c1) d.synced ?_ (mZ (bytesR.below h1 hSW.1)) oM ?_
   ·exact g0.1
   ·rfl
   intro v' w' hb ho;refine hK _ _ hb ?_;simp only[fAt,updV];rcases ho with ⟨hl,rfl⟩|ho
   ·exact⟨⟨some ⟨lo 0,0,none⟩,0,by simp[hl]⟩,.inl ⟨hl,by simp[g0.1]⟩⟩
   obtain⟨av,cv,hv⟩:=fD ho;refine⟨⟨av,cv,by simpa using hv⟩,.inr ⟨by simpa using ho,fun b hb'=>?_⟩⟩;exact(bytesR.rng (F:=fun b=>v'.ownBlock=some b) (show bytesR.O w' _ _ v' d.synced from ⟨ho,rfl⟩) b (by simpa using hb')).2
  ·clear hd;refine⟨?_⟩;simp only[over,jX,lZ] at hK ⊢;go_simp;refine hK _ _ qBq ?_;simp only[fAt,updV];exact⟨rfl,by simp,fBt (bR _ _) _ rfl (Nat.le_refl _)⟩
  ·
   have g0:=(hd (4,7) (by simp) kF).2;clear hd;simp only[fAt] at g0;refine⟨?_⟩;refine fLd W rfl (.tmp 7) (.tmp 9) rfl (lo 4) ?_ (.slice a2 d.loose.length c2) d.loose ?_ (mZ (bytesR.below h2 hSW.1)) oM ?_
   ·exact g0.1
   ·rfl
   intro v' w' hb ho;refine hK _ _ hb ?_;simp only[fAt,updV];rcases ho with ⟨hl,rfl⟩|ho
   ·exact⟨⟨some ⟨lo 4,0,none⟩,0,by simp[hl]⟩,.inl ⟨hl,by simp[g0.1]⟩⟩
   obtain⟨av,cv,hv⟩:=fD ho;refine⟨⟨av,cv,by simpa using hv⟩,.inr ⟨by simpa using ho,fun b hb'=>?_⟩⟩;exact(bytesR.rng (F:=fun b=>v'.ownBlock=some b) (show bytesR.O w' _ _ v' d.loose from ⟨ho,rfl⟩) b (by simpa using hb')).2
  have g3:=(hd (3,6) (by simp) kF).2;have g7:=(hd (7,10) (by simp) kF).2;clear hd;simp only[fAt] at g3 g7;obtain⟨⟨a6,c6,e6⟩,_⟩:=g3;obtain⟨⟨a7,c7,e7⟩,_⟩:=g7;refine⟨?_⟩;simp only[over,jX,lZ] at hK ⊢;simp only[e6,e7] at hK ⊢;go_simp;refine hK _ _ (bR _ _) ?_;simp only[fAt,updV];simp[e6,e7]
 refine⟨_,rfl,?_⟩;intro y W lo hi hSW hBW hd hap K hK;have h0:=hd (0,3) (by simp);have h3:=hd (3,6) (by simp);have h4:=hd (4,7) (by simp);have h7:=hd (7,10) (by simp);have h8:=hd (8,11) (by simp);clear hd;simp only[fAt] at h0 h3 h4 h7 h8;obtain⟨b0,g0⟩:=h0;obtain⟨b3,g3⟩:=h3;obtain⟨b4,g4⟩:=h4;obtain⟨b7,g7⟩:=h7;obtain⟨b8,g8⟩:=h8;have p04:=hap (0,3) (by simp) (4,7) (by simp) (by simp);have p07:=hap (0,3) (by simp) (7,10) (by simp) (by simp);have p34:=hap (3,6) (by simp) (4,7) (by simp) (by simp);have p37:=hap (3,6) (by simp) (7,10) (by simp) (by simp);clear hap;simp only[fCz] at p04 p07 p34 p37;obtain⟨F1,o1,f1⟩:=fOs b0 b3 g0 g3.2;obtain⟨F2,o2,f2⟩:=fOs b4 b7 g4 g7.2;obtain⟨⟨a6,c6,e6⟩,_⟩:=g3;obtain⟨⟨a7,c7,e7⟩,_⟩:=g7;have hdis:∀b,F1 b→¬F2 b:=fun b q1 q2=>by
  have:=f1 b q1;have:=f2 b q2;omega
 have q0:=cK hBW r0;have q1:=cK hBW r1;have qf:∀o,W.frozen? ⟨w.heap.size+1,o,none⟩=false:=fun o=>by rw[(bcell hBW).2 _ _ oM];exact rf o
 rw[hs0] at o1 o2;rw[e6] at o1 g8;rw[e7] at o2 g8;have hBB:=hSW.1;refine⟨?_⟩;simp only[over,jX,lZ];simp only[g8];clear g0 g4 g8 b0 b3 b4 b7 b8 p04 p07 p34 p37 f1 f2 hS hSW hBW;go_simp;refine hK _ _ ?_;clear hK K;refine NoPanic.normal ?_;go_wp2;refine bodyPost_ret (v:=.agg #[.slice a6 d.synced.length c6,.slice a7 d.loose.length c7]) ?_ rfl ⟨_,fun b=>F1 b∨F2 b,rfl,⟨_,_,F1,F2,rfl,bytesR.base (bytesR.set (bytesR.set o1 _ (by simp)) _ (by simp)) oM,bytesR.base (bytesR.set (bytesR.set o2 _ (by simp)) _ (by simp)) oM,hdis,fun b=>Iff.rfl⟩,qBq⟩;simp[results,Tryz.results66,go_sem,q0,q1]
variable [dQ Cont] [iH Cont] [dQ Evt] [iH Evt] [dQ EvtsR] [iH EvtsR] [dQ EvtR] [iH EvtR] [dQ ContR] [iH ContR] [dQ Bal] [iH Bal] [dQ Jrn] [iH Jrn]
theorem fMw (x:Value) (d:Logg) (w:World) (hx:loggR.V w x d) (h0:logF d=0) :
  Calls Tryz.prog 92 #[x] w fun e w'=>∃v F,e =.returned (.tuple #[v,.int .i64 (evsR (d.synced++d.loose)).code])∧evtsR.O w' w.heap.size F v (evsR (d.synced++d.loose)).evts∧Below w.heap.size w w':=by
 have hl6:d.synced.length+d.loose.length≤6000:=by
  rcases rX d with ⟨_,h⟩|h
  ·exact h
  rw[h0] at h;cases h
 have HS:Hid (bW w fun W=>Calls Tryz.prog 50 #[x] W fun e w'=>∃v F,e =.returned v∧loggR.O w' W.heap.size F v ⟨d.synced++d.loose,[]⟩∧Below W.heap.size W w'):=fun W hW=>fQv x d W (loggR.below hx hW) (by unfold gM kK;omega)
 obtain⟨a1,a2,c1,c2,rfl⟩:=mU hx;have hbl:(d.synced++d.loose).length=d.synced.length+d.loose.length:=List.length_append;have HR:Hid (∀W v,mQ W v (d.synced++d.loose)→Calls Tryz.prog 104 #[v] W fun e w'=>∃v F,e =.returned (.tuple #[v,.int .i64 (recU (d.synced++d.loose))])∧bytessR.O w' W.heap.size F v (recL (d.synced++d.loose))∧Below W.heap.size W w'):=fun W v hv=>fBl v _ W hv oM
 have hrl:recU (d.synced++d.loose)≤(d.synced++d.loose).length:=fI6 _;have hrc:=fHs (d.synced++d.loose);clear hx h0;generalize hn1:d.synced.length=n1 at *;generalize hn2:d.loose.length=n2 at *;clear hn1 hn2;generalize d.synced++d.loose=xs at *;have HB1:Hid (allE (recL xs)=false∨¬recU xs=xs.length→evsR xs=⟨5,[]⟩):=fOd;have HB2:Hid (allE (recL xs)=true→recU xs=xs.length→¬(recL xs).length≤60→evsR xs=⟨2,[]⟩):=fJ7;have HB3:Hid (allE (recL xs)=true→recU xs=xs.length→(recL xs).length≤60→evsR xs=⟨0,evL (recL xs)⟩):=fSk;generalize evsR xs=Z at *;generalize hus:recU xs=us at *;clear hus;generalize recL xs=rs at *;have HBL:Hid (xs.length=n1+n2):=hbl;have HRL:Hid (us≤n1+n2∧rs.length≤n1+n2):=by show _∧_;omega
 clear hbl hrl hrc;go_enter Tryz.func92,Tryz.ntmps92;go_wp2_with fail;refine(HS.out _ qBq).mono ?_;rintro e w1 ⟨v1,F1,rfl,o1,hb1⟩;obtain⟨u3,u4,rfl,V3,V4⟩:=loggR.ofO o1;obtain⟨a3,c3,rfl⟩:=fZ V3;obtain⟨a4,c4,rfl⟩:=fZ V4;have hB1:=bT w hb1;have x0:w1.cell? ⟨w.heap.size,0,none⟩=some (.slice a1 n1 c1):=cK hb1 sG;have x1:w1.cell? ⟨w.heap.size,1,none⟩=some (.slice a2 n2 c2):=cK hb1 sG;have hfd:∀w:World,(Instr.field 31 (.agg #[.slice a3 xs.length c3,.slice a4 0 c4]) 0).run Tryz.prog w =.ok (.slice a3 xs.length c3) w:=fun _=>kF
 clear hb1 o1 HS V4;go_wp2_with fail;refine(HR.out _ _ V3).mono ?_;rintro e w2 ⟨v2,F2,rfl,o2,hb2⟩;obtain⟨ar,cr,rfl,hrc2,hrm,hra⟩:=fTm (bytessR.ofO o2);unfold maxLen at hrm;have hB2:Below w.heap.size w w2:=bS hB1 hb2;replace x0:=cK hb2 x0;replace x1:=cK hb2 x1;have z0:w.heap.size<w2.heap.size:=wL w2 _ x0;have HX:Hid (∀k,k<rs.length→∃b o u,ar=some ⟨b,o,none⟩∧w2.cell? ⟨b,o+k,none⟩=some u∧bytesR.V w2 u (rs.getD k default)):=hra;clear hb2 o2 HR V3 hfd hB1 hra;have HU:Hid (∀k,k<rs.length→evL (rs.take (k+1))=evL (rs.take k)++[(unpE (rs.getD k default)).evt]):=fun k hk=>fOb hk
 have HA:Hid ((∀j,j<rs.length→(unpE (rs.getD j default)).code=0)→allE rs=true):=fRv;have HAn:Hid (∀k,k<rs.length→¬(unpE (rs.getD k default)).code=0→allE rs=false):=fun k hk h=>fRu hk h
 have HL0:Hid (∀k,k≤rs.length→(evL (rs.take k)).length=k):=fun k hk=>by show _=_;rw[fSh,List.length_take];omega
 have HT:Hid (evL (rs.take rs.length)=evL rs):=by show _=_;rw[List.take_length]
 generalize hn:rs.length=n at *;clear hn;have hlit:=fVa w2 w2.heap.size (Nat.le_refl _);go_wp2;go_loopw [6,7] (fun s i w'=>∃(k:Nat) (a:Option Addr) (c:Nat) (F:Nat→Prop),k≤n∧i =.int .i64 k∧s =.slice a k c∧Hid (evtsR.O w' w2.heap.size F (.slice a k c) (evL (rs.take k)))∧Hid (∀j,j<k→(unpE (rs.getD j default)).code=0)∧Below w2.heap.size w2 w') (fun s i _=>n-(intOf i).toNat)
 case atStart=>exact⟨0,_,0,_,Nat.zero_le _,rfl,rfl,hlit,fun j hj=>absurd hj oM,qBq⟩
 clear hlit;obtain⟨k,as_,cs_,F,hk,rfl,rfl,HO,HK,hbl⟩:=hrel;have zr:=hbl.size;have hBr:Below w.heap.size w wr:=hB2.trans (hbl.mono oM);have y0:=cK hbl x0;have y1:=cK hbl x1;have zr0:w.heap.size<wr.heap.size:=oM;by_cases hlt:k<n
 ·
  obtain⟨bx,ox,ux,rfl,g0,hV⟩:=HX.out k hlt;have HUk:=HU.out k hlt;have HAk:=HAn.out k hlt;obtain⟨r,hr⟩:∃r,r=rs.getD k default:=⟨_,rfl⟩
  rw[←hr] at hV HUk HAk;have HRk:Hid (r=rs.getD k default):=hr;have HE:Hid (evL (rs.take (k+1))=evL (rs.take k)++[(unpE r).evt]):=HUk;have HAk':Hid (¬(unpE r).code=0→allE rs=false):=HAk;clear hr HUk HAk;have zb:bx<w2.heap.size:=wL w2 _ g0;replace g0:=cK hbl g0;have HCp:Hid (bW w2 fun W=>Calls Tryz.prog 130 #[ux] W (fJp W r)):=fun W hW=>fMx ux r W (bytesR.below hV hW)
  clear hV;have k1:(k:Int)<n:=oM;go_wp2_with fail;refine(HCp.out _ qBq).mono ?_;rintro e w3 ⟨v3,F3,y3,rfl,o3,hy,hb3⟩;obtain⟨p,q,rfl⟩:=fEe o3;have hB3:Below w2.heap.size w2 w3:=hbl.trans (hb3.mono zr);have hz3:=hb3.size;by_cases hc:(unpE r).code=0
  ·
   have hev:unpE r=⟨0,y3⟩:=hy hc;have e1:decide ((unpE r).code=0)=true:=decide_eq_true hc;have HE':Hid (evL (rs.take (k+1))=evL (rs.take k)++[y3]):=by show _=_;rw[HE.out,hev]
   have HKn:Hid (∀j,j<k+1→(unpE (rs.getD j default)).code=0):=fun j hj=>by
    by_cases e:j=k
    ·rw[e,←HRk.out];exact hc
    exact HK.out j oM
   rw[e1];have HO2:Hid (evtsR.O w3 w2.heap.size F (.slice as_ k cs_) (evL (rs.take k))):=evtsR.keep HO.out hb3;have HFl:Hid (∀b,F b→b<wr.heap.size):=fun b hb=>(evtsR.rng HO.out b hb).2
   have HF2:Hid (∀b,F3 b→wr.heap.size≤b):=fun b hb=>(evtR.rng o3 b hb).1
   have HU3:Hid (evtR.O w3 w2.heap.size F3 (.agg #[.bool y3.vote,.int .i64 y3.con.id,.slice p y3.con.legs.length q,.int .i64 y3.out]) y3):=evtR.base o3 zr;have hlk:=HL0.out k hk;clear hb3 o3 HCp HO g0 e1 hc hev hy HE HK HAk' HRk;generalize hm:y3.con.legs.length=m at *;have HM:Hid (y3.con.legs.length=m):=hm;clear hm;go_wp2_with (at_builtin;refine fLq _ rfl _ _ rfl w2.heap.size F F3 _ (evL (rs.take k)) y3 (w3.heap.size+1) p q rfl rfl ?a1 ?a2 ?a3 ?a4 ?a5 ?a6 ?_)
   case a1=>exact evtsR.alloc (evtsR.alloc HO2.out _) _
   case a2=>rw[HM.out];exact evtR.alloc (evtR.alloc HU3.out _) _
   case a3=>exact fun b h1 h2=>by have:=HFl.out b h1;have:=HF2.out b h2;omega
   case a4=>rw[HM.out];simp[go_sem]
   case a5=>have:=HRL.out;rw[hlk];omega
   case a6=>simp;omega
   intro v4 w4 F4 o4 hb4 _;rw[←HE'.out] at o4;obtain⟨a4',c4',e4⟩:=zA (evtsR.ofO o4);rw[HL0.out (k+1) oM] at e4;subst e4;have HO4:Hid (evtsR.O w4 w2.heap.size F4 (.slice a4' (k+1) c4') (evL (rs.take (k+1)))):=o4;have hB4:Below w2.heap.size w2 w4:=Below.trans qBq hb4;clear o4 hb4 HO2 HU3 HFl HF2 hlk;go_wp2;exact⟨⟨k+1,a4',c4',F4,by omega,by go_num,rfl,HO4,HKn,hB4⟩,mI⟩
  have e1:decide ((unpE r).code=0)=false:=decide_eq_false hc;have HD:Hid (Z=⟨5,[]⟩):=HB1.out (.inl (HAk'.out hc));rw[e1];have hBz:Below w.heap.size w w3:=hBr.trans (hb3.mono oM);clear hb3 o3 HCp HO g0 e1 hc hy HE HK HAk' HRk;generalize y3.con.legs.length=m at *;go_wp2;refine bodyPost_ret (v:=.tuple #[.slice none 0 0,.int .i64 5]) (by simp[results,Tryz.results92,go_sem]) rfl ?_;rw[HD.out];have hBz':=fun o=>bA hBz o
  first|exact⟨_,fun _=>False,rfl,vK _ _,hBz' _⟩|exact⟨_,rfl,⟨fun _=>False,vK _ _⟩,hBz' _⟩
 have hkn:k=n:=oM;subst hkn;have hAl:allE rs=true:=HA.out HK.out;have ho:=HO.out;rw[HT.out] at ho;have k1:¬(k:Int)<(k:Int):=oM;have hw1:IntKind.i64.wrap ((n1:Int)+n2)=n1+n2:=by rw[IntKind.wrap_i64];omega
 by_cases hu:us=n1+n2
 ·
  have hlss:¬(us:Int)<(n1:Int)+n2:=oM;have hu':us=xs.length:=by rw[HBL.out];exact hu
  by_cases h60:k≤60
  ·have HD:Hid (Z=⟨0,evL rs⟩):=HB3.out hAl hu' h60;have hgt:¬(60:Int)<(k:Int):=oM;have HO2:Hid (evtsR.O wr w.heap.size F (.slice as_ k cs_) (evL rs)):=evtsR.base ho oM;clear ho HO HX HU HAn HL0 HK HB1 HB2 HB3 HA HT hu hu';go_wp2;refine bodyPost_ret (v:=.tuple #[.slice as_ k cs_,.int .i64 0]) (by simp[results,Tryz.results92,go_sem]) rfl ?_;rw[HD.out];first|exact⟨_,F,rfl,HO2.out,hBr⟩|exact⟨_,rfl,⟨F,HO2.out⟩,hBr⟩
  have HD:Hid (Z=⟨2,[]⟩):=HB2.out hAl hu' h60;have hgt:(60:Int)<(k:Int):=oM;clear ho HO HX HU HAn HL0 HK HB1 HB2 HB3 HA HT hu hu';go_wp2;refine bodyPost_ret (v:=.tuple #[.slice none 0 0,.int .i64 2]) (by simp[results,Tryz.results92,go_sem]) rfl ?_;rw[HD.out];first|exact⟨_,fun _=>False,rfl,vK _ _,hBr⟩|exact⟨_,rfl,⟨fun _=>False,vK _ _⟩,hBr⟩
 have HD:Hid (Z=⟨5,[]⟩):=HB1.out (.inr (by rw[HBL.out];exact hu));have hlss:(us:Int)<(n1:Int)+n2:=by have:=HRL.out;omega
 clear ho HO HX HU HAn HL0 HK HB1 HB2 HB3 HA HT hu;go_wp2;refine bodyPost_ret (v:=.tuple #[.slice none 0 0,.int .i64 5]) (by simp[results,Tryz.results92,go_sem]) rfl ?_;rw[HD.out];first|exact⟨_,fun _=>False,rfl,vK _ _,hBr⟩|exact⟨_,rfl,⟨fun _=>False,vK _ _⟩,hBr⟩
end
section
variable [dQ Leg] [iH Leg] [dQ Cont] [iH Cont] [dQ Evt] [iH Evt] [dQ EvtR] [iH EvtR] [dQ BytesR] [iH BytesR] [dQ ContR] [iH ContR] [dQ Logg] [iH Logg] [dQ LoggR] [iH LoggR] [dQ RecsR] [iH RecsR] [dQ Rw] [iH Rw] [dQ Bal] [iH Bal] [dQ Ledg] [iH Ledg] [dQ LedgR] [iH LedgR] [dQ OutcR] [iH OutcR] [dQ Mrk] [iH Mrk] [dQ Shd] [iH Shd] [dQ ShdR] [iH ShdR]
def yJ (ys:List Byte):Value:=.tuple (if ys.length=9 then #[.agg #[.bool false,.int .i64 (IntKind.i64.wrap (hiN (ys.take 8))),.slice none 0 0,.int .i64 ((ys.getD 8 0).val:Int)],.bool (evtF ⟨false,⟨IntKind.i64.wrap (hiN (ys.take 8)),[]⟩,((ys.getD 8 0).val:Int)⟩==0)] else #[.agg #[.bool false,.int .i64 0,.slice none 0 0,.int .i64 0],.bool false])
theorem fM6 (x:Value) (ys:List Byte) (w:World) (hx:bytesR.V w x ys) :
  RI 141 #[x] w (yJ ys):=by
 have hX:=hx;obtain⟨ax,cx,rfl,hcx,hmx,hx⟩:=hx;unfold maxLen at hmx;by_cases h9:ys.length=9
 ·
  have HD:Hid (yJ ys =.tuple #[.agg #[.bool false,.int .i64 (IntKind.i64.wrap (hiN (ys.take 8))),.slice none 0 0,.int .i64 ((ys.getD 8 0).val:Int)],.bool (evtF ⟨false,⟨IntKind.i64.wrap (hiN (ys.take 8)),[]⟩,((ys.getD 8 0).val:Int)⟩==0)]):=by show _=_;unfold yJ;rw[if_pos h9]
  obtain⟨a',c',run,hv⟩:=cutH (a:=ax) (n:=ys.length) (cap:=cx) 8 oM oM hcx;have hV8:=hv w ys rfl hX;rw[show(8:Int).toNat=8 by omega] at hV8 run;obtain⟨bb,ob,rfl,hc8⟩:=hx 8 oM;have hw9:IntKind.i64.wrap ((ys.getD 8 0).val:Int)=((ys.getD 8 0).val:Int):=by rw[IntKind.wrap_i64];have:=(ys.getD 8 0).isLt;omega
  have HN:Hid (bW w fun W=>Calls Tryz.prog 169 #[.slice a' 8 c'] W fun e w'=>e =.returned (.int .i64 (IntKind.i64.wrap (hiN (ys.take 8))))∧w'=W):=fun W hW=>tV _ _ W (gG hV8 hW)
  generalize IntKind.i64.wrap (hiN (ys.take 8))=id at *;generalize ((ys.getD 8 0).val:Int)=oo at *;have zb:bb<w.heap.size:=wL w _ hc8;have HF:Hid (∀W,RI 52 #[.agg #[.bool false,.int .i64 id,.slice none 0 0,.int .i64 oo]] W (.int .i64 (evtF ⟨false,⟨id,[]⟩,oo⟩))):=fun W=>fMe _ ⟨false,⟨id,[]⟩,oo⟩ W (evtR.ofO (xI W 0 false id oo))
  clear hx hX hv hV8;rw[h9] at hcx run ⊢;rw[HD.out];clear HD h9;generalize evtF ⟨false,⟨id,[]⟩,oo⟩=ef at *;go_enter Tryz.func141,Tryz.ntmps141;go_wp2;have hc:∀W,Below w.heap.size w W→W.cell? ⟨bb,ob+8,none⟩=some (.int .u8 oo):=fun W hW=>cK hW hc8
  have c8:(w.alloc (.cells #[.bool false,.int .i64 0,.slice none 0 0,.int .i64 0] 59)).cell? ⟨bb,ob+8,none⟩=some (.int .u8 oo):=hc _ qBq;go_region_held3 (fun W=>Below w.heap.size w W∧W.cell? ⟨bb,ob+8,none⟩=some (.int .u8 oo)) ((refine⟨qBq,?_⟩;refine hc _ qBq)) (first|(go_at_call 169;refine(HN.out _ qBq).mono ?_;rintro e w2 ⟨rfl,hw⟩;obtain rfl:=hw.symm));all_goals
   go_wp2;obtain⟨wq,hwq⟩:∃wq,wq=((w.alloc (.cells #[.bool false,.int .i64 0,.slice none 0 0,.int .i64 0] 59)).alloc (.cells #[.bool false,.int .i64 id,.slice none 0 0,.int .i64 oo] 59)).drew:=⟨_,rfl⟩
   have h0:Below w.heap.size w wq∧wq.cell? ⟨w.heap.size+1,0,none⟩=some (.bool false)∧wq.cell? ⟨w.heap.size+1,1,none⟩=some (.int .i64 id)∧wq.cell? ⟨w.heap.size+1,2,none⟩=some (.slice none 0 0)∧wq.cell? ⟨w.heap.size+1,3,none⟩=some (.int .i64 oo):=by
    rw[hwq];exact⟨qBq,by simp[go_sem],sG,by simp[go_sem],sG⟩
   have r0:wq.cell? ⟨w.heap.size,0,none⟩=some (.bool false):=by rw[hwq];simp[go_sem]
   have r1:wq.cell? ⟨w.heap.size,1,none⟩=some (.int .i64 0):=by rw[hwq];simp[go_sem]
   have r2:wq.cell? ⟨w.heap.size,2,none⟩=some (.slice none 0 0):=by rw[hwq];simp[go_sem]
   have r3:wq.cell? ⟨w.heap.size,3,none⟩=some (.int .i64 0):=by rw[hwq];simp[go_sem]
   have rf:∀o,wq.frozen? ⟨w.heap.size,o,none⟩=false:=fun o=>by rw[hwq];simp[go_sem]
   have hz0:w.heap.size<wq.drew.heap.size:=by show w.heap.size<wq.heap.size;rw[hwq];simp;omega
   rw[←hwq];clear hwq zb run hc hc8 c8 HN;go_region_held3 (fun W=>Below w.heap.size w W∧W.cell? ⟨w.heap.size+1,0,none⟩=some (.bool false)∧W.cell? ⟨w.heap.size+1,1,none⟩=some (.int .i64 id)∧W.cell? ⟨w.heap.size+1,2,none⟩=some (.slice none 0 0)∧W.cell? ⟨w.heap.size+1,3,none⟩=some (.int .i64 oo))
    ((first|exact fBi h0 (Below.drew (bR _ _))|exact hS3|exact fH3 hS3 _ _ _ _))
    (first|(go_at_call 52;refine(HF.out _).mono ?_;rintro e w3 ⟨rfl,hb3⟩;have hS3:=fBi (fBi h0 (Below.drew (bR _ _))) hb3;have e0:=cK hb3 (cK (Below.drew (bR _ _)) r0);have e1:=cK hb3 (cK (Below.drew (bR _ _)) r1);have e2:=cK hb3 (cK (Below.drew (bR _ _)) r2);have e3:=cK hb3 (cK (Below.drew (bR _ _)) r3);have ef':=fun o=>((bcell hb3).2 w.heap.size o hz0).trans (rf o)))
   have hB3:Below w.heap.size w w3:=hS3.1;clear hS3 hb3 h0 HF;go_wp2;refine bodyPost_ret (v:=.tuple #[.agg #[.bool false,.int .i64 id,.slice none 0 0,.int .i64 oo],.bool (ef==0)]) (by simp[results,Tryz.results141,go_sem,e0,e1,e2,e3,ef']) rfl ⟨rfl,?_⟩;iterate 4 (refine bset ?_ (by simp) _)
   exact hB3
 have HD:Hid (yJ ys =.tuple #[.agg #[.bool false,.int .i64 0,.slice none 0 0,.int .i64 0],.bool false]):=by show _=_;unfold yJ;rw[if_neg h9]
 have hd:((ys.length:Int) !=9)=true:=by simp only[bne_iff_ne,ne_eq];omega
 clear hx hX h9;rw[HD.out];generalize ys.length=n at *;go_enter Tryz.func141,Tryz.ntmps141;go_wp2;exact bodyPost_ret (v:=.tuple #[.agg #[.bool false,.int .i64 0,.slice none 0 0,.int .i64 0],.bool false]) (by simp[results,Tryz.results141,go_sem]) rfl ⟨rfl,qBq⟩
theorem fP3 {xs:List Byte} (h:1≤xs.length):(xs.drop 1).length=xs.length-1∧(xs.drop 1).getD 8 0=xs.getD 9 0:=⟨by rw[List.length_drop],by simp[List.getD]⟩
theorem fSi (x:Value) (xs:List Byte) (w:World) (hx:bytesR.V w x xs) :
  Calls Tryz.prog 115 #[x] w (fJp w xs):=by
 have hX:=hx;obtain⟨ax,cx,rfl,hcx,hmx,hx⟩:=hx;unfold maxLen at hmx;by_cases h0:xs.length=0
 ·have HD:Hid (unpE xs=errE):=fH5 h0;clear hx hX;rw[h0] at hcx ⊢;go_enter Tryz.func115,Tryz.ntmps115;go_wp2;exact bodyPost_ret (v:=.tuple #[.agg #[.bool false,.int .i64 0,.slice none 0 0,.int .i64 0],.bool false]) (by simp[results,Tryz.results115,go_sem]) rfl (xP HD.out qBq)
 have hl1:1≤xs.length:=Nat.pos_of_ne_zero h0;obtain⟨bb,oo',rfl,hc0⟩:=hx 0 oM;rw[Nat.add_zero] at hc0;have hd0:((xs.length:Int)==0)=false:=beq_eq_false_iff_ne.2 oM;have hlt:(0:Int)<(xs.length:Int):=oM;have zb:bb<w.heap.size:=wL w _ hc0;obtain⟨a',c',run,hv⟩:=cutL (a:=some ⟨bb,oo',none⟩) (n:=xs.length) (cap:=cx) 1 oM oM hcx;by_cases h1:(xs.getD 0 0).val=1
 ·
  have HD:Hid (unpE xs=if (unpD (xs.drop 1)).code=0 then ⟨0,⟨true,(unpD (xs.drop 1)).contract,0⟩⟩ else errE):=fF1 h0 h1;have HC:Hid (bW w fun W=>Calls Tryz.prog 140 #[.slice a' (xs.length-(1:Int).toNat) c'] W fun e w'=>∃v F,e =.returned v∧contRR.O w' W.heap.size F v (unpD (xs.drop 1))∧Below W.heap.size W w'):=fun W hW=>fQh _ (xs.drop 1) W (hv W xs rfl (bytesR.below hX hW))
  have g0:w.cell? ⟨bb,oo',none⟩=some (.int .u8 1):=by have h:=hc0;rw[h1] at h;exact h
  clear hx hX hv hc0 h1;obtain⟨D,hD⟩:∃D,unpD (xs.drop 1)=D:=⟨_,rfl⟩
  rw[hD] at HC HD;clear hD;obtain⟨cd,ct⟩:=D;dsimp only at HC HD;go_enter Tryz.func115,Tryz.ntmps115;go_wp2_with fail;refine(HC.out _ qBq).mono ?_;rintro e w1 ⟨v1,F1,rfl,o1,hb1⟩;obtain⟨u1,F2,rfl,o2,hF2⟩:=o1;have HO:Hid (contR.O w1 (w.heap.size+1) F2 (.agg #[.int .i64 ct.id,u1]) ct):=contR.base o2 (by simp);obtain⟨p,q,e2⟩:=fGw o2;simp only[Value.agg.injEq,Array.mk.injEq,List.cons.injEq,and_true,true_and] at e2;subst e2;have hB1:=bT w hb1;have r0:w1.cell? ⟨w.heap.size,0,none⟩=some (.bool false):=cK hb1 sG;have r1:w1.cell? ⟨w.heap.size,1,none⟩=some (.int .i64 0):=cK hb1 sG;have r2:w1.cell? ⟨w.heap.size,2,none⟩=some (.slice none 0 0):=cK hb1 sG;have r3:w1.cell? ⟨w.heap.size,3,none⟩=some (.int .i64 0):=cK hb1 sG;have rf:∀o,w1.frozen? ⟨w.heap.size,o,none⟩=false:=fun o=>by rw[(bcell hb1).2 _ _ (by simp)];simp[go_sem]
  have z1:w.heap.size<w1.heap.size:=by have:=hb1.size;simp at this;omega
  clear o2 hb1 HC run hF2;generalize hm:ct.legs.length=m at *;clear hm;go_wp2;have hS0:(w1.alloc (.cells #[.int .i64 cd,.int .i64 ct.id,.slice p m q] 184)).cell? ⟨w1.heap.size,0,none⟩=some (.int .i64 cd)∧(w1.alloc (.cells #[.int .i64 cd,.int .i64 ct.id,.slice p m q] 184)).cell? ⟨w1.heap.size,1,none⟩=some (.int .i64 ct.id)∧(w1.alloc (.cells #[.int .i64 cd,.int .i64 ct.id,.slice p m q] 184)).cell? ⟨w1.heap.size,2,none⟩=some (.slice p m q):=⟨sG,by simp[go_sem],sG⟩;obtain⟨wq,hwq⟩:∃wq,wq=w1.alloc (.cells #[.int .i64 cd,.int .i64 ct.id,.slice p m q] 184):=⟨_,rfl⟩
  rw[←hwq] at hS0;have hbq:Below w1.heap.size w1 wq:=by rw[hwq];exact qBq
  rw[←hwq];clear hwq;replace r0:=cK hbq r0;replace r1:=cK hbq r1;replace r2:=cK hbq r2;replace r3:=cK hbq r3;replace rf:∀o,wq.frozen? ⟨w.heap.size,o,none⟩=false:=fun o=>by rw[(bcell hbq).2 _ _ z1];exact rf o
  have HO2:Hid (contR.O wq (w.heap.size+1) F2 (.agg #[.int .i64 ct.id,.slice p m q]) ct):=contR.keep HO.out hbq;have hBq:Below w.heap.size w wq:=bS hB1 hbq;have z2:w.heap.size<wq.heap.size:=Nat.lt_of_lt_of_le z1 hbq.size;have hbd:Below wq.heap.size wq wq.drew:=Below.drew (bR _ _);have hne:¬w1.heap.size=w.heap.size:=oM;have hne':¬w.heap.size=w1.heap.size:=oM;clear HO hB1 hbq;go_region_held3 (fun W=>W.cell? ⟨w1.heap.size,0,none⟩=some (.int .i64 cd)∧W.cell? ⟨w1.heap.size,1,none⟩=some (.int .i64 ct.id)∧W.cell? ⟨w1.heap.size,2,none⟩=some (.slice p m q))
   ((first|exact⟨cK hbd hS0.1,cK hbd hS0.2.1,cK hbd hS0.2.2⟩|exact⟨by simp[go_sem,hS0,hne,hne'],by simp[go_sem,hS0,hne,hne'],by simp[go_sem,hS0,hne,hne']⟩)) (first|fail)
  all_goals
   clear hS0;go_wp2;refine bodyPost_ret (v:=.tuple #[.agg #[.bool true,.int .i64 ct.id,.slice p m q,.int .i64 0],.bool (cd==0)]) (by simp[results,Tryz.results115,go_sem,r0,r1,r2,r3,rf,z2]) rfl ?_;refine⟨.agg #[.bool true,.int .i64 ct.id,.slice p m q,.int .i64 0],F2,⟨true,ct,0⟩,?_,fEf (i:=ct.id) (u:=.slice p m q) (contR.base (base:=w.heap.size+1) ?_ oM) true 0,?_,?_⟩
   ·
    rw[HD.out];by_cases hc:cd=0
    ·rw[if_pos hc,hc];rfl
    rw[if_neg hc];have:(cd==0)=false:=by simpa using hc
    rw[this];rfl
   ·
    refine contR.keep ?_ (Below.drew (bR _ _));iterate 4 (refine contR.set ?_ _ (by simp))
    exact HO2.out
   ·
    intro h;rw[HD.out] at h ⊢;by_cases hc:cd=0
    ·rw[if_pos hc]
    rw[if_neg hc] at h;cases h
   refine Below.drew ?_;iterate 4 (refine bset ?_ (by simp) _)
   exact hBq
 by_cases h2:(xs.getD 0 0).val=2
 ·
  obtain⟨hdl,hd9⟩:=fP3 hl1;have HC:Hid (bW w fun W=>RI 141 #[.slice a' (xs.length-(1:Int).toNat) c'] W (yJ (xs.drop 1))):=fun W hW=>fM6 _ (xs.drop 1) W (hv W xs rfl (bytesR.below hX hW))
  have g0:w.cell? ⟨bb,oo',none⟩=some (.int .u8 2):=by have h:=hc0;rw[h2] at h;exact h
  have HV:Hid (∃(i o:Int) (b:Bool),yJ (xs.drop 1) =.tuple #[.agg #[.bool false,.int .i64 i,.slice none 0 0,.int .i64 o],.bool b]∧b=decide ((unpE xs).code=0)∧((unpE xs).code=0→unpE xs=⟨0,⟨false,⟨i,[]⟩,o⟩⟩)):=by
   show ∃_,_
   by_cases h10:xs.length=10
   ·
    have e1:unpE xs=if evtF (outE xs)=0 then ⟨0,outE xs⟩ else errE:=fH6 h0 h1 ⟨h2,h10⟩
    have e2:outE xs=⟨false,⟨IntKind.i64.wrap (hiN ((xs.drop 1).take 8)),[]⟩,((xs.getD 9 0).val:Int)⟩:=rfl;refine⟨IntKind.i64.wrap (hiN ((xs.drop 1).take 8)),((xs.getD 9 0).val:Int),evtF (outE xs)==0,?_,?_,?_⟩
    ·unfold yJ;rw[if_pos oM,hd9,←e2]
    ·
     rw[e1];by_cases hc:evtF (outE xs)=0
     ·rw[if_pos hc,hc];rfl
     rw[if_neg hc];have:(evtF (outE xs)==0)=false:=by simpa using hc
     rw[this];rfl
    intro h;rw[e1] at h ⊢;by_cases hc:evtF (outE xs)=0
    ·rw[if_pos hc,e2]
    rw[if_neg hc] at h;cases h
   have e1:unpE xs=errE:=fF0 h0 h1 (fun h=>h10 h.2);refine⟨0,0,false,?_,?_,?_⟩
   ·unfold yJ;rw[if_neg oM]
   ·rw[e1];rfl
   intro h;rw[e1] at h;cases h
  obtain⟨i,o,b,e1,e2,e3⟩:=HV.out;have HE2:Hid (b=decide ((unpE xs).code=0)):=e2;have HE3:Hid ((unpE xs).code=0→unpE xs=⟨0,⟨false,⟨i,[]⟩,o⟩⟩):=e3;rw[e1] at HC;clear hx hX hv hc0 h1 h2 hdl hd9 HV e1 e2 e3;go_enter Tryz.func115,Tryz.ntmps115;go_wp2_with fail;refine(HC.out _ qBq).mono ?_;rintro e w1 ⟨rfl,hb1⟩;have hB1:=bT w hb1;have r0:w1.cell? ⟨w.heap.size,0,none⟩=some (.bool false):=cK hb1 sG;have r1:w1.cell? ⟨w.heap.size,1,none⟩=some (.int .i64 0):=cK hb1 sG;have r2:w1.cell? ⟨w.heap.size,2,none⟩=some (.slice none 0 0):=cK hb1 sG;have r3:w1.cell? ⟨w.heap.size,3,none⟩=some (.int .i64 0):=cK hb1 sG;have rf:∀o,w1.frozen? ⟨w.heap.size,o,none⟩=false:=fun o=>by rw[(bcell hb1).2 _ _ (by simp)];simp[go_sem]
  have z1:w.heap.size<w1.heap.size:=by have:=hb1.size;simp at this;omega
  clear hb1 HC run;go_wp2;refine bodyPost_ret (v:=.tuple #[.agg #[.bool false,.int .i64 i,.slice none 0 0,.int .i64 o],.bool b]) (by simp[results,Tryz.results115,go_sem,r0,r1,r2,r3,rf,z1]) rfl ?_;refine⟨_,none_,⟨false,⟨i,[]⟩,o⟩,by rw[HE2.out],xI _ _ _ _ _,HE3.out,?_⟩;iterate 4 (refine bset ?_ (by simp) _)
  exact hB1
 have HD:Hid (unpE xs=errE):=fF0 h0 h1 (fun h=>h2 h.1);have hd1:(((xs.getD 0 0).val:Int)==1)=false:=beq_eq_false_iff_ne.2 oM;have hd2:(((xs.getD 0 0).val:Int)==2)=false:=beq_eq_false_iff_ne.2 oM;clear hx hX hv run h0 h1 h2 hl1;generalize ((xs.getD 0 0).val:Int)=q at *;generalize xs.length=n at *;go_enter Tryz.func115,Tryz.ntmps115;go_wp2;exact bodyPost_ret (v:=.tuple #[.agg #[.bool false,.int .i64 0,.slice none 0 0,.int .i64 0],.bool false]) (by simp[results,Tryz.results115,go_sem]) rfl (xP HD.out qBq)
theorem fQi (x:Value) (xs:List Byte) (w:World) (hx:bytesR.V w x xs) :
  Calls Tryz.prog 70 #[x] w fun e w'=>∃v F,e =.returned v∧evtRR.O w' w.heap.size F v (unpE xs)∧Below w.heap.size w w':=by
 have HU:Hid (bW w fun W=>Calls Tryz.prog 115 #[x] W (fJp W xs)):=fun W hW=>fSi x xs W (bytesR.below hx hW)
 have HZ:Hid (¬(unpE xs).code=0→unpE xs=errE):=fH4;obtain⟨ax,cx,rfl,_⟩:=hx;go_enter Tryz.func70,Tryz.ntmps70;go_wp2_with fail;refine(HU.out _ qBq).mono ?_;rintro e w1 ⟨v1,F1,y1,rfl,o1,hy,hb1⟩;obtain⟨p,q,rfl⟩:=fEe o1;have hB1:=bT w hb1;have r0:w1.cell? ⟨w.heap.size,0,none⟩=some (.int .i64 0):=cK hb1 sG;have r1:w1.cell? ⟨w.heap.size,1,none⟩=some (.bool false):=cK hb1 sG;have r2:w1.cell? ⟨w.heap.size,2,none⟩=some (.int .i64 0):=cK hb1 sG;have r3:w1.cell? ⟨w.heap.size,3,none⟩=some (.slice none 0 0):=cK hb1 sG;have r4:w1.cell? ⟨w.heap.size,4,none⟩=some (.int .i64 0):=cK hb1 sG;have rf:∀o,w1.frozen? ⟨w.heap.size,o,none⟩=false:=fun o=>by rw[(bcell hb1).2 _ _ (by simp)];simp[go_sem]
 have hz:w.heap.size<w1.heap.size:=by have:=hb1.size;simp at this;omega
 have HO:Hid (evtR.O w1 (w.heap.size+1) F1 (.agg #[.bool y1.vote,.int .i64 y1.con.id,.slice p y1.con.legs.length q,.int .i64 y1.out]) y1):=evtR.base o1 (by simp);clear o1 hb1 HU;by_cases hc:(unpE xs).code=0
 ·
  have HD:Hid (unpE xs=⟨0,y1⟩):=hy hc;have e1:decide ((unpE xs).code=0)=true:=decide_eq_true hc;rw[e1];clear e1 hc hy HZ;generalize y1.con.legs.length=m at *;go_wp2;refine bodyPost_ret (v:=.agg #[.int .i64 0,.bool y1.vote,.int .i64 y1.con.id,.slice p m q,.int .i64 y1.out]) (by simp[results,Tryz.results70,go_sem,r0,r1,r2,r3,r4,rf,hz]) rfl ⟨_,F1,rfl,?_,?_⟩
  ·
   rw[HD.out];refine fJ8 (evtR.base (base:=w.heap.size+1) ?_ oM);refine evtR.alloc ?_ _;iterate 5 (refine evtR.set ?_ _ (by simp))
   exact HO.out
  refine bA ?_ _;iterate 5 (refine bset ?_ (by simp) _)
  exact hB1
 have HD:Hid _:=HZ.out hc;have e1:decide ((unpE xs).code=0)=false:=decide_eq_false hc;rw[e1];clear e1 hc hy HZ;generalize y1.con.legs.length=m at *;go_wp2;refine bodyPost_ret (v:=.agg #[.int .i64 5,.bool false,.int .i64 0,.slice none 0 0,.int .i64 0]) (by simp[results,Tryz.results70,go_sem,r0,r1,r2,r3,r4,rf,hz]) rfl ⟨_,none_,rfl,?_,?_⟩
 ·rw[HD.out];exact fU8 _ _
 refine bA ?_ _;iterate 5 (refine bset ?_ (by simp) _)
 exact hB1
variable [dQ EvtsR] [iH EvtsR] [dQ Jrn] [iH Jrn]
theorem qI {w:World} {x:Value} {d:Jrn} (hx:jrnR.V w x d):∃a0 c0 a1 c1 a2 c2,x =.agg #[.int .i64 d.idx,.slice a0 d.start.length c0,.slice a1 d.log.synced.length c1,.slice a2 d.log.loose.length c2]∧balsR.V w (.slice a0 d.start.length c0) d.start∧loggR.V w (.agg #[.slice a1 d.log.synced.length c1,.slice a2 d.log.loose.length c2]) d.log:=by
 obtain⟨u0,u1,u2,rfl,h0,h1⟩:=hx;obtain⟨a0,c0,rfl⟩:=fP h0;obtain⟨a1,a2,c1,c2,e⟩:=mU h1;simp only[Value.agg.injEq,Array.mk.injEq,List.cons.injEq,and_true] at e;obtain⟨rfl,rfl⟩:=e;exact⟨a0,c0,a1,c1,a2,c2,rfl,h0,h1⟩
theorem gQ (w:World) (base:Nat) (c:Int):evtsRR.O w base (fun _=>False) (.agg #[.int .i64 c,.slice none 0 0]) ⟨c,[]⟩:=⟨_,_,rfl,vK w base,fun _=>Iff.rfl⟩
theorem fOc {d:Logg} (h:¬logF d=0):evsD d=⟨logF d,[]⟩:=by
 rcases rX d with ⟨h0,_⟩|h0
 ·exact absurd h0 h
 unfold evsD;rw[if_neg h,h0]
theorem fSj {d:Logg} (h:logF d=0):evsD d=evsR (d.synced++d.loose):=by unfold evsD;rw[if_pos h]
theorem fT1 (x:Value) (d:Jrn) (w:World) (hx:jrnR.V w x d) (hn:gM d.log≤1048576) :
  Calls Tryz.prog 47 #[x] w fun e w'=>∃v F,e =.returned v∧evtsRR.O w' w.heap.size F v (evsD d.log)∧Below w.heap.size w w':=by
 obtain⟨a0,c0,a1,c1,a2,c2,rfl,hbs,hlg⟩:=qI hx;have HF:Hid (bW w fun W=>RI 91 #[.agg #[.slice a1 d.log.synced.length c1,.slice a2 d.log.loose.length c2]] W (.int .i64 (logF d.log))):=fun W hW=>fDa _ d.log W (loggR.below hlg hW) hn
 have HE:Hid (logF d.log=0→∀W,Below w.heap.size w W→Calls Tryz.prog 92 #[.agg #[.slice a1 d.log.synced.length c1,.slice a2 d.log.loose.length c2]] W fun e w'=>∃v F,e =.returned (.tuple #[v,.int .i64 (evsD d.log).code])∧evtsR.O w' W.heap.size F v (evsD d.log).evts∧Below W.heap.size W w'):=fun h W hW=>by rw[fSj h];exact fMw _ d.log W (loggR.below hlg hW) h
 have HB:Hid (¬logF d.log=0→evsD d.log=⟨logF d.log,[]⟩):=fOc;clear hx hbs hlg hn;generalize evsD d.log=Z at *;generalize logF d.log=lf at *;generalize d.log.synced.length=n1 at *;generalize d.log.loose.length=n2 at *;generalize d.start.length=n0 at *;generalize d.idx=ix at *;go_enter Tryz.func47,Tryz.ntmps47;go_wp2_with fail;refine(HF.out _ qBq).mono ?_;rintro e w1 ⟨rfl,hb1⟩;have hB1:=bT w hb1;have y0:w1.cell? ⟨w.heap.size,0,none⟩=some (.int .i64 ix):=cK hb1 sG;have y1:w1.cell? ⟨w.heap.size,1,none⟩=some (.slice a0 n0 c0):=cK hb1 sG;have y2:w1.cell? ⟨w.heap.size,2,none⟩=some (.slice a1 n1 c1):=cK hb1 sG;have y3:w1.cell? ⟨w.heap.size,3,none⟩=some (.slice a2 n2 c2):=cK hb1 sG;have r0:w1.cell? ⟨w.heap.size+1,0,none⟩=some (.int .i64 0):=cK hb1 sG;have r1:w1.cell? ⟨w.heap.size+1,1,none⟩=some (.slice none 0 0):=cK hb1 sG;have hrf:(∀o,w1.frozen? ⟨w.heap.size+1,o,none⟩=false)∧w.heap.size+1<w1.heap.size:=(fR2 hb1 (by simp)).2.2;clear hb1 HF;by_cases hc:lf=0
 ·have HE':Hid _:=HE.out hc;have hz:=hrf.2;clear HE HB;subst hc;go_wp2_with fail;refine(HE'.out _ qBq).mono ?_;rintro e w2 ⟨v2,F2,rfl,o2,hb2⟩;have hB2:Below w.heap.size w w2:=bS hB1 hb2;replace r0:=cK hb2 r0;replace r1:=cK hb2 r1;obtain⟨rf,rz⟩:=qY hrf hb2;obtain⟨p,q,rfl⟩:=zA (evtsR.ofO o2);have HO:Hid (evtsR.O w2 (w.heap.size+2) F2 (.slice p Z.evts.length q) Z.evts):=evtsR.base o2 oM;clear o2 hb2 HE';generalize Z.evts.length=m at *;go_wp2;refine bodyPost_ret (v:=.agg #[.int .i64 Z.code,.slice p m q]) (by simp[results,Tryz.results47,go_sem,r0,r1,rf]) rfl ⟨_,F2,rfl,?_,qBq⟩;exact⟨_,F2,rfl,evtsR.base (base:=w.heap.size+2) (evtsR.set (evtsR.set HO.out _ (by simp)) _ (by simp)) oM,fun b=>Iff.rfl⟩
 have HD:Hid _:=HB.out hc;have hc':(lf !=0)=true:=by simp[hc]
 obtain⟨rf,rz⟩:=hrf;clear HE HB hc;go_wp2;refine bodyPost_ret (v:=.agg #[.int .i64 lf,.slice none 0 0]) (by simp[results,Tryz.results47,go_sem,r0,r1,rf]) rfl ?_;rw[HD.out];first|exact⟨_,fun _=>False,rfl,gQ _ _ _,qBq⟩|exact⟨_,rfl,⟨fun _=>False,gQ _ _ _⟩,qBq⟩
theorem fSt (x:Value) (d:Jrn) (w:World) (hx:jrnR.V w x d) (hn:gM d.log≤1048576) :
  Calls Tryz.prog 35 #[x] w fun e w'=>∃v F,e =.returned v∧evtsRR.O w' w.heap.size F v (evsD d.log)∧Below w.heap.size w w':=by
 obtain⟨a0,c0,a1,c1,a2,c2,rfl,hbs,hlg⟩:=qI hx;have HR:Hid (bW w fun W=>Calls Tryz.prog 69 #[.agg #[.slice a1 d.log.synced.length c1,.slice a2 d.log.loose.length c2]] W fun e w'=>∃v F,e =.returned v∧recsRR.O w' W.heap.size F v (zL d.log)∧Below W.heap.size W w'):=fun W hW=>fQf _ d.log W (loggR.below hlg hW) hn
 have HZ:Hid ((¬(zL d.log).code=0→evsD d.log=⟨(zL d.log).code,[]⟩)∧((zL d.log).code=0→zL d.log=⟨0,recU (d.log.synced++d.log.loose),recL (d.log.synced++d.log.loose)⟩∧evsD d.log=evsR (d.log.synced++d.log.loose)∧d.log.synced.length+d.log.loose.length≤6000)):=by
  show _∧_;rcases rX d.log with ⟨h0,hl⟩|h0
  ·
   have e1:zL d.log=⟨0,recU (d.log.synced++d.log.loose),recL (d.log.synced++d.log.loose)⟩:=by
    unfold zL fDn;rw[if_pos h0,if_pos (by rw[List.length_append];omega)]
   refine⟨fun h=>?_,fun _=>⟨e1,fSj h0,hl⟩⟩;rw[e1] at h;exact absurd rfl h
  have e1:zL d.log=⟨2,0,[]⟩:=by unfold zL;rw[if_neg oM]
  refine⟨fun h=>?_,fun h=>?_⟩
  ·rw[e1,fOc oM,h0]
  rw[e1] at h;cases h
 have hrl:=fI6 (d.log.synced++d.log.loose);have hrc:=fHs (d.log.synced++d.log.loose);have hbl:(d.log.synced++d.log.loose).length=d.log.synced.length+d.log.loose.length:=List.length_append;clear hx hbs hlg hn;generalize hn1:d.log.synced.length=n1 at *;generalize hn2:d.log.loose.length=n2 at *;clear hn1 hn2;generalize d.log.synced++d.log.loose=xs at *;have HB1:Hid (allE (recL xs)=false∨¬recU xs=xs.length→evsR xs=⟨5,[]⟩):=fOd;have HB2:Hid (allE (recL xs)=true→recU xs=xs.length→¬(recL xs).length≤60→evsR xs=⟨2,[]⟩):=fJ7;have HB3:Hid (allE (recL xs)=true→recU xs=xs.length→(recL xs).length≤60→evsR xs=⟨0,evL (recL xs)⟩):=fSk;generalize evsD d.log=Z at *;generalize evsR xs=Z' at *;generalize hus:recU xs=us at *;clear hus;generalize recL xs=rs at *;obtain⟨D,hD⟩:∃D,zL d.log=D:=⟨_,rfl⟩
 rw[hD] at HR HZ;clear hD;obtain⟨dc,du,dr⟩:=D;dsimp only at HR HZ;have HBL:Hid (xs.length=n1+n2):=hbl;have HRL:Hid (us≤n1+n2∧rs.length≤n1+n2):=by show _∧_;omega
 clear hbl hrl hrc;generalize d.start.length=n0 at *;generalize d.idx=ix at *;go_enter Tryz.func35,Tryz.ntmps35;go_wp2_with fail;refine(HR.out _ qBq).mono ?_;rintro e w1 ⟨v1,F1,rfl,o1,hb1⟩;obtain⟨u1,Fr,rfl,o1,_⟩:=o1;dsimp only at o1;obtain⟨ar,cr,rfl,hrc2,hrm,hra⟩:=fTm (bytessR.ofO o1);unfold maxLen at hrm;have hB1:=bT w hb1;have y0:w1.cell? ⟨w.heap.size,0,none⟩=some (.int .i64 ix):=cK hb1 sG;have y1:w1.cell? ⟨w.heap.size,1,none⟩=some (.slice a0 n0 c0):=cK hb1 sG;have y2:w1.cell? ⟨w.heap.size,2,none⟩=some (.slice a1 n1 c1):=cK hb1 sG;have y3:w1.cell? ⟨w.heap.size,3,none⟩=some (.slice a2 n2 c2):=cK hb1 sG;have r0:w1.cell? ⟨w.heap.size+1,0,none⟩=some (.int .i64 0):=cK hb1 sG;have r1:w1.cell? ⟨w.heap.size+1,1,none⟩=some (.slice none 0 0):=cK hb1 sG;have hrf:(∀o,w1.frozen? ⟨w.heap.size+1,o,none⟩=false)∧w.heap.size+1<w1.heap.size:=(fR2 hb1 (by simp)).2.2;have hz:=hrf.2;have hz0:w.heap.size<w1.heap.size:=oM;clear hb1 HR o1;by_cases hc:dc=0;rotate_left
 ·
  have HD:Hid (Z=⟨dc,[]⟩):=HZ.out.1 hc;have hc':(dc !=0)=true:=by simp[hc]
  obtain⟨rf,rz⟩:=hrf;clear hc HZ hra HB1 HB2 HB3;generalize dr.length=m at *;go_wp2;refine bodyPost_ret (v:=.agg #[.int .i64 dc,.slice none 0 0]) (by simp[results,Tryz.results35,go_sem,r0,r1,rf,hz]) rfl ?_;rw[HD.out];have hbz:∀(o:Obj),Below w.heap.size w (((w1.alloc o).setCell ⟨w.heap.size+1,0,none⟩ (.int .i64 dc)).setCell ⟨w.heap.size+1,1,none⟩ (.slice none 0 0)):=fun o=>bset (bset (bA hB1 o) (by simp) _) (by simp) _
  have hbz2:∀(o:Obj),Below w.heap.size w (((w1.setCell ⟨w.heap.size+1,0,none⟩ (.int .i64 dc)).setCell ⟨w.heap.size+1,1,none⟩ (.slice none 0 0)).alloc o):=fun o=>bA (bset (bset hB1 (by simp) _) (by simp) _) o
  first|exact⟨_,fun _=>False,rfl,gQ _ _ _,hbz2 _⟩|exact⟨_,rfl,⟨fun _=>False,gQ _ _ _⟩,hbz2 _⟩|exact⟨_,fun _=>False,rfl,gQ _ _ _,hbz _⟩|exact⟨_,rfl,⟨fun _=>False,gQ _ _ _⟩,hbz _⟩
 obtain⟨hd,hZ',hl6⟩:=HZ.out.2 hc;simp only[RecsR.mk.injEq] at hd;obtain⟨_,hdu,hdr⟩:=hd;subst hc;rw[hdr] at hra hrc2 ⊢;rw[hdu];have HZe:Hid (Z=Z'):=hZ';clear HZ hZ' hdu hdr;have HX:Hid (∀k,k<rs.length→∃b o u,ar=some ⟨b,o,none⟩∧w1.cell? ⟨b,o+k,none⟩=some u∧bytesR.V w1 u (rs.getD k default)):=hra;clear hra;have HU:Hid (∀k,k<rs.length→evL (rs.take (k+1))=evL (rs.take k)++[(unpE (rs.getD k default)).evt]):=fun k hk=>fOb hk
 have HA:Hid ((∀j,j<rs.length→(unpE (rs.getD j default)).code=0)→allE rs=true):=fRv;have HAn:Hid (∀k,k<rs.length→¬(unpE (rs.getD k default)).code=0→allE rs=false):=fun k hk h=>fRu hk h
 have HL0:Hid (∀k,k≤rs.length→(evL (rs.take k)).length=k):=fun k hk=>by show _=_;rw[fSh,List.length_take];omega
 have HT:Hid (evL (rs.take rs.length)=evL rs):=by show _=_;rw[List.take_length]
 generalize hn:rs.length=n at *;clear hn;have hw1:IntKind.i64.wrap ((n1:Int)+n2)=n1+n2:=by rw[IntKind.wrap_i64];omega
 by_cases hu:us=n1+n2
 rotate_left
 ·
  have HD:Hid (Z=⟨5,[]⟩):=by show _=_;rw[HZe.out];exact HB1.out (.inr (by rw[HBL.out];exact hu))
  have hd:((us:Int) !=(n1:Int)+n2)=true:=by simp only[bne_iff_ne,ne_eq];omega
  obtain⟨rf,rz⟩:=hrf;clear hu HX HU HA HAn HL0 HT HB1 HB2 HB3 HRL;go_wp2;refine bodyPost_ret (v:=.agg #[.int .i64 5,.slice none 0 0]) (by simp[results,Tryz.results35,go_sem,r0,r1,rf,hz]) rfl ?_;rw[HD.out];have hbz:∀(o:Obj),Below w.heap.size w (((w1.alloc o).setCell ⟨w.heap.size+1,0,none⟩ (.int .i64 5)).setCell ⟨w.heap.size+1,1,none⟩ (.slice none 0 0)):=fun o=>bset (bset (bA hB1 o) (by simp) _) (by simp) _
  have hbz2:∀(o:Obj),Below w.heap.size w (((w1.setCell ⟨w.heap.size+1,0,none⟩ (.int .i64 5)).setCell ⟨w.heap.size+1,1,none⟩ (.slice none 0 0)).alloc o):=fun o=>bA (bset (bset hB1 (by simp) _) (by simp) _) o
  first|exact⟨_,fun _=>False,rfl,gQ _ _ _,hbz2 _⟩|exact⟨_,rfl,⟨fun _=>False,gQ _ _ _⟩,hbz2 _⟩|exact⟨_,fun _=>False,rfl,gQ _ _ _,hbz _⟩|exact⟨_,rfl,⟨fun _=>False,gQ _ _ _⟩,hbz _⟩
 have hu':us=xs.length:=by rw[HBL.out];exact hu
 have HB1':Hid (allE rs=false→Z=⟨5,[]⟩):=fun h=>by rw[HZe.out];exact HB1.out (.inl h)
 have HB2':Hid (allE rs=true→¬n≤60→Z=⟨2,[]⟩):=fun h h1=>by rw[HZe.out];exact HB2.out h hu' h1
 have HB3':Hid (allE rs=true→n≤60→Z=⟨0,evL rs⟩):=fun h h1=>by rw[HZe.out];exact HB3.out h hu' h1
 have hd:((us:Int) !=(n1:Int)+n2)=false:=by simp only[bne_eq_false_iff_eq];omega
 clear hu hu' HB1 HB2 HB3 HZe;go_wp2;go_loopw [4,33] (fun s i w'=>∃(k:Nat) (a:Option Addr) (c:Nat) (F:Nat→Prop),k≤n∧i =.int .i64 k∧s =.slice a k c∧Hid (evtsR.O w' w1.heap.size F (.slice a k c) (evL (rs.take k)))∧Hid (∀j,j<k→(unpE (rs.getD j default)).code=0)∧Below w1.heap.size w1 w') (fun s i _=>n-(intOf i).toNat)
 case atStart=>exact⟨0,none,0,_,Nat.zero_le _,rfl,rfl,vK _ _,fun j hj=>absurd hj oM,qBq⟩
 obtain⟨k,as_,cs_,F,hk,rfl,rfl,HO,HK,hbl⟩:=hrel;have zr:=hbl.size;have hBr:Below w.heap.size w wr:=hB1.trans (hbl.mono oM);replace r0:=cK hbl r0;replace r1:=cK hbl r1;have hrf':=qY hrf hbl;by_cases hlt:k<n
 ·
  obtain⟨bx,ox,ux,rfl,g0,hV⟩:=HX.out k hlt;have HUk:=HU.out k hlt;have HAk:=HAn.out k hlt;obtain⟨r,hr⟩:∃r,r=rs.getD k default:=⟨_,rfl⟩
  rw[←hr] at hV HUk HAk;have HRk:Hid (r=rs.getD k default):=hr;have HE:Hid (evL (rs.take (k+1))=evL (rs.take k)++[(unpE r).evt]):=HUk;have HAk':Hid (¬(unpE r).code=0→allE rs=false):=HAk;clear hr HUk HAk;have zb:bx<w1.heap.size:=wL w1 _ g0;replace g0:=cK hbl g0;have HCp:Hid (bW w1 fun W=>Calls Tryz.prog 70 #[ux] W fun e w'=>∃v F,e =.returned v∧evtRR.O w' W.heap.size F v (unpE r)∧Below W.heap.size W w'):=fun W hW=>fQi ux r W (bytesR.below hV hW)
  clear hV;have k1:(k:Int)<n:=oM;go_wp2_with fail;refine(HCp.out _ qBq).mono ?_;rintro e w3 ⟨v3,F3,rfl,o3,hb3⟩;obtain⟨u3,F3',rfl,o3,hF3⟩:=o3;have HEv:Hid (evtR.O w3 wr.heap.size F3' (.agg #[.bool (unpE r).evt.vote,.int .i64 (unpE r).evt.con.id,u3,.int .i64 (unpE r).evt.out]) (unpE r).evt):=o3;obtain⟨p,q,e4⟩:=fEe o3;simp only[Value.agg.injEq,Array.mk.injEq,List.cons.injEq,and_true,true_and] at e4;subst e4;have hB3:Below w1.heap.size w1 w3:=hbl.trans (hb3.mono zr);have hz3:=hb3.size;replace r0:=cK hb3 r0;replace r1:=cK hb3 r1;obtain⟨rf3,rz3⟩:=qY hrf' hb3;clear o3;have HUr:Hid (unpE r=⟨(unpE r).code,(unpE r).evt⟩):=rfl;generalize (unpE r).code=cde at *;obtain⟨y3,hy3⟩:∃y3,y3=(unpE r).evt:=⟨_,rfl⟩
  rw[←hy3] at HE HEv ⊢;have HYe:Hid (y3=(unpE r).evt):=hy3;clear hy3;by_cases hc:cde=0
  ·
   have HKn:Hid (∀j,j<k+1→(unpE (rs.getD j default)).code=0):=fun j hj=>by
    by_cases e:j=k
    ·rw[e,←HRk.out,HUr.out];exact hc
    exact HK.out j oM
   have HO2:Hid (evtsR.O w3 w1.heap.size F (.slice as_ k cs_) (evL (rs.take k))):=evtsR.keep HO.out hb3;have HFl:Hid (∀b,F b→b<wr.heap.size):=fun b hb=>(evtsR.rng HO.out b hb).2
   have HF2:Hid (∀b,F3' b→wr.heap.size≤b):=fun b hb=>(evtR.rng HEv.out b hb).1
   have HU3:Hid (evtR.O w3 w1.heap.size F3' (.agg #[.bool y3.vote,.int .i64 y3.con.id,.slice p y3.con.legs.length q,.int .i64 y3.out]) y3):=evtR.base HEv.out zr;have hlk:=HL0.out k hk;subst hc;clear hb3 HEv HCp HO g0 HK HAk' HRk HUr HYe hF3;generalize hm:y3.con.legs.length=m at *;have HM:Hid (y3.con.legs.length=m):=hm;clear hm;go_wp2_with (at_builtin;refine fLq _ rfl _ _ rfl w1.heap.size F F3' _ (evL (rs.take k)) y3 (w3.heap.size+1) p q rfl rfl ?a1 ?a2 ?a3 ?a4 ?a5 ?a6 ?_)
   case a1=>exact evtsR.alloc (evtsR.alloc HO2.out _) _
   case a2=>rw[HM.out];exact evtR.alloc (evtR.alloc HU3.out _) _
   case a3=>exact fun b h1 h2=>by have:=HFl.out b h1;have:=HF2.out b h2;omega
   case a4=>rw[HM.out];simp[go_sem]
   case a5=>have:=HRL.out;rw[hlk];omega
   case a6=>simp;omega
   intro v4 w4 F4 o4 hb4 _;rw[←HE.out] at o4;obtain⟨a4',c4',e4⟩:=zA (evtsR.ofO o4);rw[HL0.out (k+1) oM] at e4;subst e4;have HO4:Hid (evtsR.O w4 w1.heap.size F4 (.slice a4' (k+1) c4') (evL (rs.take (k+1)))):=o4;have hB4:Below w1.heap.size w1 w4:=Below.trans qBq hb4;clear o4 hb4 HO2 HU3 HFl HF2 hlk r0 r1 rf3 rz3;go_wp2;exact⟨⟨k+1,a4',c4',F4,by omega,by go_num,rfl,HO4,HKn,hB4⟩,mI⟩
  have HD:Hid (Z=⟨5,[]⟩):=HB1'.out (HAk'.out hc);have h5:cde=5:=by
   have:=fH4 (xs:=r) (by rw[HUr.out];exact hc);rw[HUr.out] at this;exact congrArg EvtR.code this
  subst h5;have hBz:Below w.heap.size w w3:=hBr.trans (hb3.mono oM);clear hb3 HCp HO g0 HK HAk' HRk HUr HYe hF3 HEv hc HE;generalize y3.con.legs.length=m at *;go_wp2;refine bodyPost_ret (v:=.agg #[.int .i64 5,.slice none 0 0]) (by simp[results,Tryz.results35,go_sem,r0,r1,rf3,rz3]) rfl ?_;rw[HD.out];have hbz:∀(o:Obj),Below w.heap.size w (((w3.alloc o).setCell ⟨w.heap.size+1,0,none⟩ (.int .i64 5)).setCell ⟨w.heap.size+1,1,none⟩ (.slice none 0 0)):=fun o=>bset (bset (bA hBz o) (by simp) _) (by simp) _
  have hbz2:∀(o:Obj),Below w.heap.size w (((w3.setCell ⟨w.heap.size+1,0,none⟩ (.int .i64 5)).setCell ⟨w.heap.size+1,1,none⟩ (.slice none 0 0)).alloc o):=fun o=>bA (bset (bset hBz (by simp) _) (by simp) _) o
  first|exact⟨_,fun _=>False,rfl,gQ _ _ _,hbz2 _⟩|exact⟨_,rfl,⟨fun _=>False,gQ _ _ _⟩,hbz2 _⟩|exact⟨_,fun _=>False,rfl,gQ _ _ _,hbz _⟩|exact⟨_,rfl,⟨fun _=>False,gQ _ _ _⟩,hbz _⟩
 have hkn:k=n:=oM;subst hkn;have hAl:allE rs=true:=HA.out HK.out;have ho:=HO.out;rw[HT.out] at ho;have k1:¬(k:Int)<(k:Int):=oM;obtain⟨rf,rz⟩:=hrf';by_cases h60:k≤60
 ·
  have HD:Hid (Z=⟨0,evL rs⟩):=HB3'.out hAl h60;have hgt:¬(60:Int)<(k:Int):=oM;have hll:(evL rs).length=k:=by rw[←HT.out];exact HL0.out k (Nat.le_refl _)
  have HO2:Hid (evtsR.O wr (w.heap.size+2) F (.slice as_ k cs_) (evL rs)):=evtsR.base ho oM;clear ho HO HX HU HAn HL0 HK HB1' HB2' HB3' HA HT hll;go_wp2;refine bodyPost_ret (v:=.agg #[.int .i64 0,.slice as_ k cs_]) (by simp[results,Tryz.results35,go_sem,r0,r1,rf,rz]) rfl ?_;rw[HD.out];have HO3:=evtsR.base (base:=w.heap.size+2) (base':=w.heap.size) (evtsR.set (evtsR.set HO2.out (.int .i64 0) (p:=⟨w.heap.size+1,0,none⟩) (by simp)) (.slice as_ k cs_) (p:=⟨w.heap.size+1,1,none⟩) (by simp)) oM;first|exact⟨_,F,rfl,⟨_,F,rfl,HO3,fun b=>Iff.rfl⟩,qBq⟩|exact⟨_,rfl,⟨F,_,F,rfl,HO3,fun b=>Iff.rfl⟩,qBq⟩
 have HD:Hid (Z=⟨2,[]⟩):=HB2'.out hAl h60;have hgt:(60:Int)<(k:Int):=oM;clear ho HO HX HU HAn HL0 HK HB1' HB2' HB3' HA HT;go_wp2;refine bodyPost_ret (v:=.agg #[.int .i64 2,.slice none 0 0]) (by simp[results,Tryz.results35,go_sem,r0,r1,rf,rz]) rfl ?_;rw[HD.out];first|exact⟨_,fun _=>False,rfl,gQ _ _ _,qBq⟩|exact⟨_,rfl,⟨fun _=>False,gQ _ _ _⟩,qBq⟩
end
end Go.Proofs.YtpibfdebfacooaaGreat

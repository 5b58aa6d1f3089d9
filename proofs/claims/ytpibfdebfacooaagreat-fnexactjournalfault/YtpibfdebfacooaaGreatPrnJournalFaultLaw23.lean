import Derived.Test.YtpibfdebfacooaaGreatVoS
import Derived.Ground.SlsfProg
import Derived.Shelf.SlSortCmp.NoneTotal
set_option maxHeartbeats 8000000
set_option maxRecDepth 20000
set_option linter.unusedSimpArgs false
set_option linter.unusedVariables false
set_option linter.unusedSectionVars false
namespace Go.Proofs.YtpibfdebfacooaaGreat
open Go.RowKit
variable [dQ Rw] [iH Rw] [dQ Bal] [iH Bal] [dQ Ledg] [iH Ledg] [dQ Leg] [iH Leg] [dQ Cont] [iH Cont] [dQ LedgR] [iH LedgR] [dQ OutcR] [iH OutcR] [dQ Mrk] [iH Mrk] [dQ Shd] [iH Shd] [dQ ShdR] [iH ShdR]
attribute [local go_sem ↓] Go.wp_at_zero Go.wp_at_succ
theorem fMv (x y:Value) (d:Shd) (c:Cont) (w:World) (hx:shdR.V w x d) (hy:contR.V w y c) :
  Calls Tryz.prog 89 #[x,y] w (qN w (tZ d c)):=by
 have HSf:Hid (bW w fun W=>RI 126 #[x] W (.int .i64 (shdF d))):=fun W hW=>fA2 x d W (shdR.below hx hW)
 have HVt:Hid (bW w fun W=>shdF d=0→fA c.id c.legs=0→Calls Tryz.prog 128 #[x,y] W (qN W (mE d c))):=fun W hW h0 h1=>fOe x y d c W (shdR.below hx hW) (contR.below hy hW) (yA h0) h1
 obtain⟨uy,rfl,hy⟩:=hy;have HCf:Hid (bW w fun W=>RI 86 #[.agg #[.int .i64 c.id,uy]] W (.int .i64 (fA c.id c.legs))):=fun W hW=>rT c.id uy c.legs W (legsR.below hy hW)
 have HLe:Hid (bW w fun W=>fA c.id c.legs=0→Calls Tryz.prog 127 #[.agg #[.int .i64 c.id,uy],.int .i64 d.idx] W fun e w'=>∃v,e =.returned v∧w'.ownsRow W.heap.size 168 4 v (onSh d.idx c.legs).length (gM (onSh d.idx c.legs))∧Below W.heap.size W w'):=fun W hW hcf=>uN _ _ _ _ W (legsR.below hy hW) (by have:=fBr hcf;omega)
 obtain⟨a1,a2,a3,a4,a5,c1,c2,c3,c4,c5,rfl⟩:=fBl hx;obtain⟨ax,cx,rfl⟩:=kC hy;clear hx hy;have HE0:Hid (¬shdF d=0→tZ d c=errH (shdF d)):=fun h=>by unfold tZ;rw[if_neg h]
 have HE1:Hid (shdF d=0→¬fA c.id c.legs=0→tZ d c=errH (fA c.id c.legs)):=fun h h1=>by unfold tZ;rw[if_pos h,if_neg h1]
 have HE2:Hid (shdF d=0→fA c.id c.legs=0→(onSh d.idx c.legs).length=0→tZ d c=errH 4):=fun h h1 h2=>by unfold tZ;rw[if_pos h,if_pos h1,if_pos h2]
 have HE3:Hid (shdF d=0→fA c.id c.legs=0→¬(onSh d.idx c.legs).length=0→tZ d c=mE d c):=fun h h1 h2=>by unfold tZ;rw[if_pos h,if_pos h1,if_neg h2]
 generalize d.bals.length=n1 at *;generalize d.votes.length=n2 at *;generalize d.held.length=n3 at *;generalize d.done.length=n4 at *;generalize d.appl.length=n5 at *;generalize c.legs.length=nx at *;generalize tZ d c=Z at *;generalize shdF d=sf at *;generalize fA c.id c.legs=cf at *;go_enter Tryz.func89,Tryz.ntmps89;go_wp2_with fail;refine(HSf.out _ qBq).mono ?_;rintro e w1 ⟨rfl,hb1⟩;have hB1:=bT w hb1;have hz1:=hb1.size;simp at hz1;have y0:w1.cell? ⟨w.heap.size,0,none⟩=some (.int .i64 d.idx):=cK hb1 sG;have y1:w1.cell? ⟨w.heap.size,1,none⟩=some (.slice a1 n1 c1):=cK hb1 sG;have y2:w1.cell? ⟨w.heap.size,2,none⟩=some (.slice a2 n2 c2):=cK hb1 sG;have y3:w1.cell? ⟨w.heap.size,3,none⟩=some (.slice a3 n3 c3):=cK hb1 sG;have y4:w1.cell? ⟨w.heap.size,4,none⟩=some (.slice a4 n4 c4):=cK hb1 sG;have y5:w1.cell? ⟨w.heap.size,5,none⟩=some (.slice a5 n5 c5):=cK hb1 sG;have x0:w1.cell? ⟨w.heap.size+1,0,none⟩=some (.int .i64 c.id):=cK hb1 sG;have x1:w1.cell? ⟨w.heap.size+1,1,none⟩=some (.slice ax nx cx):=cK hb1 sG;have r0:w1.cell? ⟨w.heap.size+2,0,none⟩=some (.int .i64 0):=cK hb1 sG;have r1:w1.cell? ⟨w.heap.size+2,1,none⟩=some (.int .i64 0):=cK hb1 sG;have r2:w1.cell? ⟨w.heap.size+2,2,none⟩=some (.int .i64 0):=cK hb1 sG;have r3:w1.cell? ⟨w.heap.size+2,3,none⟩=some (.slice none 0 0):=cK hb1 sG;have r4:w1.cell? ⟨w.heap.size+2,4,none⟩=some (.slice none 0 0):=cK hb1 sG;have r5:w1.cell? ⟨w.heap.size+2,5,none⟩=some (.slice none 0 0):=cK hb1 sG;have r6:w1.cell? ⟨w.heap.size+2,6,none⟩=some (.slice none 0 0):=cK hb1 sG
 have r7:w1.cell? ⟨w.heap.size+2,7,none⟩=some (.slice none 0 0):=cK hb1 sG;have rf:∀o,w1.frozen? ⟨w.heap.size+2,o,none⟩=false:=fun o=>by rw[(bcell hb1).2 _ _ (by simp)];simp[go_sem]
 clear hb1 HSf;by_cases hsf:sf=0;rotate_left
 ·
  have HC:Hid _:=HE0.out hsf;have hsf':(sf !=0)=true:=by simp[hsf]
  go_wp2;refine bodyPost_ret (v:=.agg #[.int .i64 sf,.int .i64 0,.int .i64 0,.slice none 0 0,.slice none 0 0,.slice none 0 0,.slice none 0 0,.slice none 0 0]) (by simp[results,Tryz.results89,go_sem,r0,r1,r2,r3,r4,r5,r6,r7,rf]) rfl (kR HC.out ?_);(repeat (first|refine bset ?_ (by simp;omega) _|refine bset ?_ (by simp) _|refine bA ?_ _|assumption))
 have hsf':(sf !=0)=false:=by simp[hsf]
 go_wp2_with fail;refine(HCf.out _ hB1).mono ?_;rintro e w2 ⟨rfl,hb2⟩;have hB2:Below w.heap.size w w2:=bS hB1 hb2;replace y0:=cK hb2 y0;replace y1:=cK hb2 y1;replace y2:=cK hb2 y2;replace y3:=cK hb2 y3;replace y4:=cK hb2 y4;replace y5:=cK hb2 y5;replace x0:=cK hb2 x0;replace x1:=cK hb2 x1;replace r0:=cK hb2 r0;replace r1:=cK hb2 r1;replace r2:=cK hb2 r2;replace r3:=cK hb2 r3;replace r4:=cK hb2 r4;replace r5:=cK hb2 r5;replace r6:=cK hb2 r6;replace r7:=cK hb2 r7;replace rf:∀o,w2.frozen? ⟨w.heap.size+2,o,none⟩=false:=fun o=>by rw[(bcell hb2).2 _ _ oM];exact rf o
 have hz2:=hb2.size;clear HCf hb2;by_cases hcf:cf=0;rotate_left
 ·
  have HC:Hid (Z=errH cf):=HE1.out hsf hcf;have hcf':(cf !=0)=true:=by simp[hcf]
  go_wp2;refine bodyPost_ret (v:=.agg #[.int .i64 cf,.int .i64 0,.int .i64 0,.slice none 0 0,.slice none 0 0,.slice none 0 0,.slice none 0 0,.slice none 0 0]) (by simp[results,Tryz.results89,go_sem,r0,r1,r2,r3,r4,r5,r6,r7,rf]) rfl (kR HC.out ?_);(repeat (first|refine bset ?_ (by simp;omega) _|refine bset ?_ (by simp) _|refine bA ?_ _|assumption))
 have hcf':(cf !=0)=false:=by simp[hcf]
 go_wp2_with fail;refine(HLe.out _ hB2 hcf).mono ?_;rintro e w3 ⟨v3,rfl,o3,hb3⟩;obtain⟨a6,c6,rfl⟩:=fD o3;have hB3:Below w.heap.size w w3:=bS hB2 hb3;replace y0:=cK hb3 y0;replace y1:=cK hb3 y1;replace y2:=cK hb3 y2;replace y3:=cK hb3 y3;replace y4:=cK hb3 y4;replace y5:=cK hb3 y5;replace x0:=cK hb3 x0;replace x1:=cK hb3 x1;replace r0:=cK hb3 r0;replace r1:=cK hb3 r1;replace r2:=cK hb3 r2;replace r3:=cK hb3 r3;replace r4:=cK hb3 r4;replace r5:=cK hb3 r5;replace r6:=cK hb3 r6;replace r7:=cK hb3 r7;replace rf:∀o,w3.frozen? ⟨w.heap.size+2,o,none⟩=false:=fun o=>by rw[(bcell hb3).2 _ _ oM];exact rf o
 have hz3:=hb3.size;have HE2':Hid ((onSh d.idx c.legs).length=0→Z=errH 4):=fun h=>HE2.out hsf hcf h
 have HE3':Hid (¬(onSh d.idx c.legs).length=0→Z=mE d c):=fun h=>HE3.out hsf hcf h
 have HVt':Hid (bW w fun W=>Calls Tryz.prog 128 #[.agg #[.int .i64 d.idx,.slice a1 n1 c1,.slice a2 n2 c2,.slice a3 n3 c3,.slice a4 n4 c4,.slice a5 n5 c5],.agg #[.int .i64 c.id,.slice ax nx cx]] W (qN W (mE d c))):=fun W hW=>HVt.out W hW hsf hcf
 clear o3 HE0 HE1 HE2 HE3 HLe HVt hsf hcf hb3;generalize (onSh d.idx c.legs).length=nl at *;by_cases hl:nl=0
 ·
  have HC:Hid (Z=errH 4):=HE2'.out hl;have hl':((nl:Int)==0)=true:=by simp[hl]
  clear HE2' HE3' HVt';go_wp2;refine bodyPost_ret (v:=.agg #[.int .i64 4,.int .i64 0,.int .i64 0,.slice none 0 0,.slice none 0 0,.slice none 0 0,.slice none 0 0,.slice none 0 0]) (by simp[results,Tryz.results89,go_sem,r0,r1,r2,r3,r4,r5,r6,r7,rf]) rfl (kR HC.out ?_);(repeat (first|refine bset ?_ (by simp;omega) _|refine bset ?_ (by simp) _|refine bA ?_ _|assumption))
 have HC:Hid (Z=mE d c):=HE3'.out hl;have hl':((nl:Int)==0)=false:=by simpa using hl
 clear HE2' HE3';go_wp2_with fail;refine(HVt'.out _ hB3).mono ?_;rintro e w4 ⟨v4,F4,rfl,o4,hb4⟩;generalize mE d c=VD at *;obtain⟨cd,vt,sd⟩:=VD;obtain⟨p1,p2,p3,p4,p5,m1,m2,m3,m4,m5,q1,q2,q3,q4,q5,rfl⟩:=kN o4;have HO4:Hid (shdRR.O w4 w3.heap.size F4 (.agg #[.int .i64 cd,.int .i64 vt,.int .i64 sd.idx,.slice p1 m1 q1,.slice p2 m2 q2,.slice p3 m3 q3,.slice p4 m4 q4,.slice p5 m5 q5]) ⟨cd,vt,sd⟩):=o4;have hB4:Below w.heap.size w w4:=bS hB3 hb4;replace r0:=cK hb4 r0;replace r1:=cK hb4 r1;replace r2:=cK hb4 r2;replace r3:=cK hb4 r3;replace r4:=cK hb4 r4;replace r5:=cK hb4 r5;replace r6:=cK hb4 r6;replace r7:=cK hb4 r7;replace rf:∀o,w4.frozen? ⟨w.heap.size+2,o,none⟩=false:=fun o=>by rw[(bcell hb4).2 _ _ oM];exact rf o
 clear o4 hb4 HVt';go_wp2;refine bodyPost_ret (v:=.agg #[.int .i64 cd,.int .i64 vt,.int .i64 sd.idx,.slice p1 m1 q1,.slice p2 m2 q2,.slice p3 m3 q3,.slice p4 m4 q4,.slice p5 m5 q5]) (by simp[results,Tryz.results89,go_sem,r0,r1,r2,r3,r4,r5,r6,r7,rf]) rfl ?_;rw[HC.out];refine⟨_,F4,rfl,shdRR.base (rG shdRR HO4.out (fun h=>by have:=(shdRR.rng HO4.out _ h).1;omega) _ _ _ _ _ _ _ _) oM,?_⟩;(repeat (first|refine bset ?_ (by simp;omega) _|refine bset ?_ (by simp) _|refine bA ?_ _|assumption))
end Go.Proofs.YtpibfdebfacooaaGreat
namespace Go.Proofs.YtpibfdebfacooaaGreat
open Go.RowKit
variable [dQ Rw] [iH Rw] [dQ Bal] [iH Bal] [dQ Ledg] [iH Ledg] [dQ Leg] [iH Leg] [dQ Cont] [iH Cont] [dQ LedgR] [iH LedgR] [dQ OutcR] [iH OutcR] [dQ Mrk] [iH Mrk] [dQ Shd] [iH Shd] [dQ ShdR] [iH ShdR]
theorem fMw (x y:Value) (d:Shd) (c:Cont) (w:World) (hx:shdR.V w x d) (hy:contR.V w y c) :
  Calls Tryz.prog 89 #[x,y] w fun e w'=>∃v F,e =.returned v∧shdRR.O w' w.heap.size F v (tZ d c)∧Below w.heap.size w w':=fMv x y d c w hx hy
theorem fL9 (x y:Value) (d:Shd) (c:Cont) (w:World) (hx:shdR.V w x d) (hy:contR.V w y c) :
  Calls Tryz.prog 145 #[x,y] w fun e w'=>∃v F,e =.returned v∧shdRR.O w' w.heap.size F v (tZ d c)∧Below w.heap.size w w':=fL8 x y d c w hx hy
end Go.Proofs.YtpibfdebfacooaaGreat
namespace Go.Proofs.YtpibfdebfacooaaGreat
open Go.Shelf
def Tryz.sortK_ren:Go.Shelf.Ren:=⟨fun|6=>242|15=>250|14=>252|28=>263|29=>264|20=>265|21=>266|22=>267|23=>268|24=>269|25=>270|26=>271|27=>272|46=>278|47=>274|48=>275|49=>279|50=>280|57=>282|n=>n,fun|22=>256|24=>254|25=>261|3=>3|39=>174|0=>0|53=>287|55=>173|4=>4|46=>281|45=>280|50=>220|5=>5|9=>9|66=>294|70=>298|76=>302|77=>303|n=>n,fun|n=>n⟩
theorem Tryz.sortK:Go.Proofs.SlLaysF0.n6 Tryz.prog Tryz.sortK_ren:={
 mixed:=kF
 f6:=⟨Tryz.f242.name,by decide,Tryz.func242.trans (congrArg some kF)⟩
 f14:=⟨Tryz.f252.name,by decide,Tryz.func252.trans (congrArg some kF)⟩
 f15:=Tryz.func250.trans (congrArg some kF)
 f20:=⟨Tryz.f265.name,by decide,Tryz.func265.trans (congrArg some kF)⟩
 f21:=⟨Tryz.f266.name,by decide,Tryz.func266.trans (congrArg some kF)⟩
 f22:=⟨Tryz.f267.name,by decide,Tryz.func267.trans (congrArg some kF)⟩
 f23:=⟨Tryz.f268.name,by decide,Tryz.func268.trans (congrArg some kF)⟩
 f24:=⟨Tryz.f269.name,by decide,Tryz.func269.trans (congrArg some kF)⟩
 f25:=⟨Tryz.f270.name,by decide,Tryz.func270.trans (congrArg some kF)⟩
 f26:=⟨Tryz.f271.name,by decide,Tryz.func271.trans (congrArg some kF)⟩
 f27:=⟨Tryz.f272.name,by decide,Tryz.func272.trans (congrArg some kF)⟩
 f28:=Tryz.func263.trans (congrArg some kF)
 f29:=Tryz.func264.trans (congrArg some kF)
 f46:=⟨Tryz.f278.name,by decide,Tryz.func278.trans (congrArg some kF)⟩
 f47:=Tryz.func274.trans (congrArg some kF)
 f48:=Tryz.func275.trans (congrArg some kF)
 f49:=⟨Tryz.f279.name,by decide,Tryz.func279.trans (congrArg some kF)⟩
 f50:=⟨Tryz.f280.name,by decide,Tryz.func280.trans (congrArg some kF)⟩
 f57:=⟨Tryz.f282.name,by decide,Tryz.func282.trans (congrArg some kF)⟩
 t0:=Tryz.underlying0
 a0:=Tryz.isAgg0
 z0:=Tryz.sizeOf0
 v0:=Tryz.zeroValue0
 t3:=Tryz.underlying3
 a3:=Tryz.isAgg3
 z3:=Tryz.sizeOf3
 v3:=Tryz.zeroValue3
 t4:=Tryz.underlying4
 a4:=Tryz.isAgg4
 z4:=Tryz.sizeOf4
 v4:=Tryz.zeroValue4
 t5:=Tryz.underlying5
 a5:=Tryz.isAgg5
 z5:=Tryz.sizeOf5
 v5:=Tryz.zeroValue5
 t9:=Tryz.underlying9
 a9:=Tryz.isAgg9
 z9:=Tryz.sizeOf9
 v9:=Tryz.zeroValue9
 t22:=Tryz.underlying256
 a22:=Tryz.isAgg256
 z22:=Tryz.sizeOf256
 v22:=Tryz.zeroValue256
 t25:=Tryz.underlying261
 a25:=Tryz.isAgg261
 z25:=Tryz.sizeOf261
 v25:=Tryz.zeroValue261
 t39:=Tryz.underlying174
 a39:=Tryz.isAgg174
 z39:=Tryz.sizeOf174
 v39:=Tryz.zeroValue174
 t45:=Tryz.underlying280
 a45:=Tryz.isAgg280
 z45:=Tryz.sizeOf280
 v45:=Tryz.zeroValue280
 t46:=Tryz.underlying281
 a46:=Tryz.isAgg281
 z46:=Tryz.sizeOf281
 v46:=Tryz.zeroValue281
 t50:=Tryz.underlying220
 a50:=Tryz.isAgg220
 z50:=Tryz.sizeOf220
 v50:=Tryz.zeroValue220
 t53:=Tryz.underlying287
 a53:=Tryz.isAgg287
 z53:=Tryz.sizeOf287
 v53:=Tryz.zeroValue287
 t55:=Tryz.underlying173
 a55:=Tryz.isAgg173
 z55:=Tryz.sizeOf173
 v55:=Tryz.zeroValue173
 t66:=Tryz.underlying294
 a66:=Tryz.isAgg294
 z66:=Tryz.sizeOf294
 v66:=Tryz.zeroValue294
 t70:=Tryz.underlying298
 a70:=Tryz.isAgg298
 z70:=Tryz.sizeOf298
 v70:=Tryz.zeroValue298
 t76:=Tryz.underlying302
 a76:=Tryz.isAgg302
 z76:=Tryz.sizeOf302
 v76:=Tryz.zeroValue302
 t77:=Tryz.underlying303
 a77:=Tryz.isAgg303
 z77:=Tryz.sizeOf303
 v77:=Tryz.zeroValue303}
end Go.Proofs.YtpibfdebfacooaaGreat
namespace Go.Proofs.YtpibfdebfacooaaGreat
open Go.RowKit Go.Sort Go.Shelf
variable [dQ Rw] [iH Rw] [dQ Bal] [iH Bal] [dQ Ledg] [iH Ledg] [dQ Leg] [iH Leg] [dQ Cont] [iH Cont]
theorem fSi:SortsK where
 some_:=fun xs g cap base W ho hb hn=>fO0 Tryz.sortK_ren Tryz.sortK rfl rfl xs g cap base W ho hb hn
 none_:=fun W=>AnyF.slices_SortFunc_none Tryz.sortK none 0 (.func (.func 229) #[] #[]) W
end Go.Proofs.YtpibfdebfacooaaGreat
namespace Go.Proofs.YtpibfdebfacooaaGreat
open Go.RowKit
theorem PO.put {α:Type} {R:Rep α} {e size:Nat} {lv:Value→List Value} {w w':World} {base:Nat} {v:Value} {n k j:Nat} {d:Nat→α} {cs cs':List Value} {us:Nat→Value} {fs:Nat→Nat→Prop} {u:Value} {x:α} {F':Nat→Prop}
  (h:PO R e size lv w base v n k d cs us fs) (hj:j<k) (hm:Mod (fun b=>v.ownBlock=some b∨fs j b) w w') (hu:R.O w' base F' u x) (hF:∀b,F' b→fs j b∨w.heap.size≤b) (hl:(lv u).length=size)
  (hr:w'.ownsRow base e size v n cs') (hold:∀i,i<k→i≠j→∀o,o<size→cs'[i*size+o]? = cs[i*size+o]?) (hnew:∀o,o<size→cs'[j*size+o]? = (lv u)[o]?) :
  PO R e size lv w' base v n k (upd d j x) cs' (upd us j u) (upd fs j F'):=by
 have hlt:∀b,v.ownBlock=some b→b<w.heap.size:=fun b hb=>(h.row.lt b hb).2
 have hfs:∀i,i<k→∀b,fs i b→b<w.heap.size:=fun i hi b hb=>(R.rng (h.el i hi) b hb).2
 refine⟨hr,?_,?_,?_,?_,?_⟩
 ·
  intro i hi;by_cases hik:i=j
  ·subst hik;rw[kP,kP,kP];exact hu
  rw[upd_ne _ _ hik,upd_ne _ _ hik,upd_ne _ _ hik];exact R.mod (h.el i hi) hm (fun b hb=>by
   rintro(he|he)
   ·exact h.out i hi b hb he
   exact h.sep i j hi hj hik b hb he)
 ·
  intro i hi;by_cases hik:i=j
  ·subst hik;rw[kP];exact hl
  rw[upd_ne _ _ hik];exact h.ln i hi
 ·
  intro i hi o ho;by_cases hik:i=j
  ·subst hik;rw[kP];exact hnew o ho
  rw[upd_ne _ _ hik,hold i hi hik o ho];exact h.cell i hi o ho
 ·
  intro i hi b hb he;by_cases hik:i=j
  ·
   subst hik;rw[kP] at hb;rcases hF b hb with h1|h1
   ·exact h.out i hi b h1 he
   have:=hlt b he;omega
  rw[upd_ne _ _ hik] at hb;exact h.out i hi b hb he
 intro i i' hi hi' hii b h1 h2;by_cases hik:i=j
 ·
  subst hik;rw[kP] at h1;rw[upd_ne _ _ (Ne.symm hii)] at h2;rcases hF b h1 with h3|h3
  ·exact h.sep i i' hi hi' hii b h3 h2
  have:=hfs i' hi' b h2;omega
 rw[upd_ne _ _ hik] at h1;by_cases hjk:i'=j
 ·
  subst hjk;rw[kP] at h2;rcases hF b h2 with h3|h3
  ·exact h.sep i i' hi hi' hii b h1 h3
  have:=hfs i hi b h1;omega
 rw[upd_ne _ _ hjk] at h2;exact h.sep i i' hi hi' hii b h1 h2
theorem PO.putS {α:Type} {R:Rep α} {e:Nat} {w w1 w2:World} {base g cap:Nat} {n j:Nat} {d:Nat→α} {cs:List Value} {us:Nat→Value} {fs:Nat→Nat→Prop} {u:Value} {x:α} {F':Nat→Prop}
  (h:PO R e 1 one w base (.slice (some ⟨g,0,none⟩) n cap) n n d cs us fs) (hj:j<n) (hm:Mod (fun b=>fs j b) w w1) (hu:R.O w1 base F' u x) (hF:∀b,F' b→fs j b∨w.heap.size≤b)
  (hr:w2.ownsRow base e 1 (.slice (some ⟨g,0,none⟩) n cap) n (cs.set j u)) (hm2:Mod (fun b=>b=g) w1 w2) :
  PO R e 1 one w2 base (.slice (some ⟨g,0,none⟩) n cap) n n (upd d j x) (cs.set j u) (upd us j u) (upd fs j F'):=by
 have hcl:cs.length=n:=by simpa using h.row.1
 have hg:g<w.heap.size:=(h.row.lt g rfl).2;have hgF:¬F' g:=fun hf=>by
  rcases hF g hf with h1|h1
  ·exact h.out j hj g h1 rfl
  omega
 refine h.put hj (Mod.trans (Mod.mono hm (fun b hb=>Or.inr hb)) (Mod.mono hm2 (fun b hb=>Or.inl (by rw[hb];rfl)))) (R.mod hu hm2 (fun b hb e=>hgF (e▸hb))) hF rfl hr ?_ ?_
 ·intro i hi hij o ho;obtain rfl:o=0:=oM;rw[Nat.mul_one,Nat.add_zero,List.getElem?_set_ne (Ne.symm hij)]
 intro o ho;obtain rfl:o=0:=oM;rw[Nat.mul_one,Nat.add_zero,List.getElem?_set_self oM];rfl
end Go.Proofs.YtpibfdebfacooaaGreat
namespace Go.Proofs.YtpibfdebfacooaaGreat
open Go.RowKit Go.Sort Go.Shelf
variable [dQ Rw] [iH Rw] [dQ Bal] [iH Bal] [dQ Ledg] [iH Ledg] [dQ Leg] [iH Leg] [dQ Cont] [iH Cont] [dQ LedgR] [iH LedgR]
attribute [local go_sem ↓] Go.wp_at_zero Go.wp_at_succ
theorem KDn.perm {f:Int→Int→Int→Option Int} {xs ys:List K3} (h:KDn f xs) (hp:ys.Perm xs):KDn f ys:=
 ⟨⟨hp.symm.nodup h.1.1,fun x hx=>h.1.2 x (hp.mem_iff.1 hx)⟩,fun s a t hk hs=>hp.mem_iff.2 (h.2 s a t hk hs)⟩
theorem fRh {W:World} {base G n:Nat} (h:W.ownsRow base 30 1 (.slice (some ⟨G,0,none⟩) n n) n (madeCells (Value.slice none 0 0).cells (n*1)).toList) (f:Int→Int→Int→Option Int) :
  PO balsR 30 1 one W base (.slice (some ⟨G,0,none⟩) n n) n n (fun i=>shK f [] i) (List.replicate n (.slice none 0 0)) (fun _=>.slice none 0 0) (fun _ b=>(Value.slice none 0 0).ownBlock=some b):=by
 rw[Nat.mul_one,show(Value.slice none 0 0).cells = #[.slice none 0 0] from rfl,toList_madeCells_one] at h;refine⟨h,fun i hi=>⟨⟨rfl,.inl ⟨rfl,rfl⟩⟩,rfl⟩,fun _ _=>rfl,fun i hi j hj=>?_,fun i hi b hb=>(by cases hb),fun i j hi hj hij b hb=>(by cases hb)⟩;obtain rfl:j=0:=oM;simp[one,hi]
theorem fC9 (n b m:Nat) (f:Int→Int→Int→Option Int) (w:World) (hb:Book w b m f) (hn0:1≤n) (hn:n≤3) (hd:KDom n f) :
  Calls Tryz.prog 204 #[.agg #[.int .i64 n,.map (some b)]] w fun e w'=>∃v F ys,e =.returned (.agg #[v])∧KDn f ys∧ys.Pairwise (fun p q=>ltOf cfK q p=false)∧balssR.O w' w.heap.size F v ((List.range n).map (shK f ys))∧Go.RowKit.Below w.heap.size w w':=by
 have hbl:=hb.lt;obtain⟨W0,hW0⟩:∃W0,W0=(w.alloc (.cells #[.int .i64 n,.map (some b)] 227)).alloc (.cells #[.slice none 0 0] 234):=⟨_,rfl⟩
 obtain⟨i0,hi,hz0,hz1,hz2⟩:=info_parts fN7;obtain⟨w1,hmk,hown,hgr⟩:=run_make_full (P:=Tryz.prog) W0 w.heap.size 232 30 i0 _ 1 Tryz.underlying232 hi hz0 hz1 .i64 .i64 n (by rw[hz2];omega) (by unfold maxLen;omega) (by rw[hW0];simp;omega);have hs0:W0.heap.size=w.heap.size+1+1:=by rw[hW0];simp
 have hB1:Go.RowKit.Below W0.heap.size W0 w1:=(bR _ _).grown hgr (Nat.le_refl _) (fun k h=>by cases h);have k0:w1.cell? ⟨w.heap.size,0,none⟩=some (.int .i64 n):=cK hB1 (by rw[hW0];simp[go_sem]);have k1:w1.cell? ⟨w.heap.size,1,none⟩=some (.map (some b)):=cK hB1 (by rw[hW0];simp[go_sem]);have r0:w1.cell? ⟨w.heap.size+1,0,none⟩=some (.slice none 0 0):=cK hB1 (by rw[hW0];simp[go_sem]);have hbw1:Go.RowKit.Below w.heap.size w w1:=by
  have h1:Go.RowKit.Below w.heap.size w W0:=by rw[hW0];(repeat (first|exact bR _ _|assumption|refine bD ?_|refine bA ?_ _|refine bset ?_ (by simp;omega) _|refine bset ?_ (by simp) _|refine bS ?_ (by assumption)))
  exact bS h1 hB1
 have z1:w.heap.size+1+1<w1.heap.size:=by
  have:=(hown.lt W0.heap.size rfl).2;omega
 have z0:w.heap.size<w1.heap.size:=oM;have z01:w.heap.size+1<w1.heap.size:=oM;have fr0:w1.frozen? ⟨w.heap.size+1,0,none⟩=false:=(hB1.frozen (p:=⟨w.heap.size+1,0,none⟩) (by rw[hs0];simp)).trans (by rw[hW0];simp[go_sem]);rw[hs0] at hown;rw[hW0] at hmk;clear hW0 hgr hB1 hi hz0 hz1 hz2 i0;go_enter Tryz.func204,Tryz.ntmps204;go_wp2_with fail;refine(fMi _ b).mono ?_;rintro e w2 ⟨rfl,hb2,q2⟩;have hB12:Go.RowKit.Below w1.heap.size w1 w2:=bS (bA (bR _ _) _) hb2;have g2:w2.cell? ⟨w1.heap.size,0,none⟩=some (.slice (some ⟨w.heap.size+1+1,0,none⟩) n n):=cK hb2 sG;rw[World.size_alloc] at q2;have hz2:w1.heap.size+1<w2.heap.size:=wL _ _ q2;have hcon:=fDi fSi 243 #[.pointer (some ⟨w1.heap.size+1,0,none⟩)] (KOk f) (KDn f) (fun i=>i=w1.heap.size+1∨i=b) w2 (enters_of Tryz.func243 kF rfl)
  (fOd _ b m f _ w2 q2 (.inl rfl) (.inr rfl) (fun i hi=>by rcases hi with rfl|rfl <;> omega) (hb.below (bS hbw1 hB12))) (fun i hi=>by rcases hi with rfl|rfl <;> omega) (fun ys h=>by have:=hd.len h;omega) (fun ys h=>by have:=hd.len h.1;omega)
 rw[World.size_alloc];clear q2 hb2 hmk;go_wp2_with fail;refine hcon.mono ?_;rintro e w3 ⟨v,xs,ys,rfl,hD,hp,hs,hkv,hb3⟩;clear hcon;have HD:Hid (KDn f ys):=hD.perm hp;have HS:Hid (ys.Pairwise (fun p q=>ltOf cfK q p=false)):=hs;have hlen:ys.length≤54:=by have:=hd.len HD.out.1;omega
 clear hD hp hs xs;have hB13:Go.RowKit.Below w1.heap.size w1 w3:=bS hB12 hb3;have hB3:Go.RowKit.Below w.heap.size w w3:=bS hbw1 hB13;have HBK:Hid (Book w3 b m f):=hb.below hB3;have e0:w3.cell? ⟨w.heap.size,1,none⟩=some (.map (some b)):=cK hB13 k1;have e1:w3.cell? ⟨w.heap.size+1,0,none⟩=some (.slice none 0 0):=cK hB13 r0;have e2:w3.cell? ⟨w1.heap.size,0,none⟩=some (.slice (some ⟨w.heap.size+1+1,0,none⟩) n n):=cK hb3 g2;have e3:w3.frozen? ⟨w.heap.size+1,0,none⟩=false:=(hB13.frozen (p:=⟨w.heap.size+1,0,none⟩) z01).trans fr0;have HP0:=fRh (fH hown hB13) f;have hGc:w3.cell? ⟨w.heap.size+1+1,0,none⟩=some (.slice none 0 0):=by
  have h:=HP0.row.cellAt 0 oM;rw[h,List.getElem?_replicate,if_pos oM]
 have hz3:w1.heap.size<w3.heap.size:=wL _ _ e2;obtain⟨av,cv,rfl,hkeys⟩:=hkv;clear hb hb3 hB13 hB12 g2 k0 k1 r0 fr0 hown hbw1 hz2;have HKE:Hid (∀i,i<ys.length→∃g,av=some ⟨g,0,none⟩∧vI w3 g (i*3) (ys.getD i default)):=hkeys;clear hkeys;generalize hq:ys.length=q at *;have HN:Hid (ys.length=q):=hq;clear hq;go_wp2;go_loopw [17] (fun i W=>∃(k:Nat) (cs:List Value) (us:Nat→Value) (fs:Nat→Nat→Prop),k≤q∧i =.int .i64 k∧Hid (PO balsR 30 1 one W w.heap.size (.slice (some ⟨w.heap.size+1+1,0,none⟩) n n) n n (fun i=>shK f (ys.take k) i) cs us fs)∧Hid (∀i,i<n→∀b,fs i b→w3.heap.size≤b)∧Mod (fun b=>b=w.heap.size+1+1) w3 W) (fun i _=>q-(intOf i).toNat)
 case atStart=>exact⟨0,_,_,_,Nat.zero_le _,rfl,HP0,fun i hi b hb=>(by cases hb),Mod.refl _ _⟩
 obtain⟨k,cs,us,fs,hk,rfl,HP,HF,hM⟩:=hrel;rename World=>w4
 by_cases hlt:k<q
 ·
  obtain⟨g,rfl,hc⟩:=HKE.out k hlt;have hgne:g≠w.heap.size+1+1:=fun e=>by
   obtain⟨g',e',h0,_⟩:=HKE.out 0 oM;simp only[Option.some.injEq,Addr.mk.injEq,and_true] at e';rw[←e',e,Nat.zero_mul,hGc] at h0;cases h0
  have hlk:k<ys.length:=by rw[HN.out];exact hlt
  have hgd:ys.getD k default=ys[k]:=by simp[List.getD,hlk]
  have hmem:ys.getD k default ∈ ys:=by rw[hgd];exact List.getElem_mem _
  have htk:ys.take k++[ys.getD k default]=ys.take (k+1):=by rw[hgd,List.take_add_one,List.getElem?_eq_getElem hlk];rfl
  clear hlk hgd;obtain⟨x,hx⟩:∃x,x=ys.getD k default:=⟨_,rfl⟩
  rw[←hx] at hc hmem htk;clear hx;have HTK:Hid (ys.take k++[x]=ys.take (k+1)):=htk;clear htk;obtain⟨s,a,t⟩:=x;have hsome:=HD.out.1.2 _ hmem;dsimp only at hsome;obtain⟨⟨hs0',hs1'⟩,hko⟩:=hd s a t hsome;obtain⟨⟨ha0,ha1⟩,ht0,ht1⟩:=keyOk_iff.1 hko;have hkw:kwf s a t:=⟨xO oM oM,xO oM oM,xO oM oM⟩;obtain⟨j,rfl⟩:∃j:Nat,s=(j:Int):=⟨s.toNat,by omega⟩
  have hjn:j<n:=oM;obtain⟨d0,d1,d2⟩:=hc;dsimp only at d0 d1 d2;replace d0:=hM.cell d0 hgne;replace d1:=hM.cell d1 hgne;replace d2:=hM.cell d2 hgne;have f0:=hM.cell e0 (by dsimp only;omega);have f2:=hM.cell e2 (by dsimp only;omega);have hz4:=hM.size;have HB4:Hid (Book w4 b m f):=HBK.out.turned hM oM;obtain⟨v,hv⟩:∃v,v=(f j a t).getD 0:=⟨_,rfl⟩
  have HV:Hid (v=(f j a t).getD 0):=hv;clear hv hmem hsome HP0 e0 e1 e2 hGc;have hk':(k:Int)<q:=oM;have hk0:(0:Int)≤k:=oM;have hwk:IntKind.i64.wrap ((k:Int)+1)=(k:Int)+1:=qB oM oM;go_wp2;have HLK:∀W,Go.RowKit.Below w4.heap.size w4 W→(Instr.lookup 225 (.map (some b)) (.agg #[.int .i64 j,.int .i64 a,.int .i64 t]) false).run Tryz.prog W =.ok (.int .i64 v) W:=fun W hW=>by rw[HV.out];exact((HB4.out.below hW).look hkw).1
  refine wp_region_noPanic ?_;refine fB (fun W=>W.cell? ⟨w.heap.size,1,none⟩=some (.map (some b))∧(W.cell? ⟨w4.heap.size,0,none⟩=some (.int .i64 j)∧W.cell? ⟨w4.heap.size,1,none⟩=some (.int .i64 a)∧W.cell? ⟨w4.heap.size,2,none⟩=some (.int .i64 t))∧(Instr.lookup 225 (.map (some b)) (.agg #[.int .i64 j,.int .i64 a,.int .i64 t]) false).run Tryz.prog W =.ok (.int .i64 v) W) 10 kF ⟨cK qBq f0,⟨sG,by simp[go_sem],sG⟩,HLK _ qBq⟩ (fun hS=>?_);refine tY 0 ?_;refine tY 1 ?_;refine tY 2 ?_;refine tY 3 ?_;refine tY 4 ?_;refine tY 5 ?_;refine tY 6 ?_;refine tY 7 ?_;refine tY 8 ?_;refine uS 9 rfl (fun K hK=>?_);go_simp;refine hK _ _ (fun _=>⟨cK (bA (bR _ _) _) hS.1,⟨cK (bA (bR _ _) _) hS.2.1.1,cK (bA (bR _ _) _) hS.2.1.2.1,cK (bA (bR _ _) _) hS.2.1.2.2⟩,HLK _ qBq⟩) ?_;clear hK K;try simp only[jX]
  refine uS 10 rfl (fun K hK=>?_);go_simp;refine hK _ _ (fun h=>absurd rfl h) ?_;clear hK K;refine dP ?_;have hb5:Go.RowKit.Below w4.heap.size w4 ((w4.alloc (.cells #[.int .i64 j,.int .i64 a,.int .i64 t] 254)).alloc (.cells #[.int .i64 a,.int .i64 t,.int .i64 v] 103)).drew:=qBq;generalize hw5:((w4.alloc (.cells #[.int .i64 j,.int .i64 a,.int .i64 t] 254)).alloc (.cells #[.int .i64 a,.int .i64 t,.int .i64 v] 103)).drew=w5 at *;have x0:w5.cell? ⟨w4.heap.size+1,0,none⟩=some (.int .i64 a):=by rw[←hw5];simp[go_sem]
  have x1:w5.cell? ⟨w4.heap.size+1,1,none⟩=some (.int .i64 t):=by rw[←hw5];simp[go_sem]
  have x2:w5.cell? ⟨w4.heap.size+1,2,none⟩=some (.int .i64 v):=by rw[←hw5];simp[go_sem]
  clear hw5 hS HLK;have hp5:=HP.out.keep hb5;have h2:=cK hb5 f2;have hM5:=hM.transB' hb5;have hj0:(0:Int)≤j:=oM;have hj1:(j:Int)<n:=oM;have hel:=hp5.el j hjn;have hcel:w5.cell? ⟨w.heap.size+1+1,j,none⟩=some (us j):=by
   have h:=hp5.cell j hjn 0 oM;rw[Nat.mul_one,Nat.add_zero] at h;rw[hp5.row.cellAt j oM,h];rfl
  have hrngj:∀b,fs j b→b<w4.heap.size:=fun b hb=>(balsR.rng (HP.out.el j hjn) b hb).2
  have hfrj:w5.frozen? ⟨w.heap.size+1+1,j,none⟩=false:=hp5.row.frozenAt j;obtain⟨au,cu,hu⟩:=fM (balsR.ofO hel);have hol:(shK f (ys.take k) j).length≤54:=by
   unfold shK;rw[List.length_map];refine Nat.le_trans (List.length_filter_le _ _) ?_;rw[List.length_take];omega
  have HP5:Hid (PO balsR 30 1 one w5 w.heap.size (.slice (some ⟨w.heap.size+1+1,0,none⟩) n n) n n (fun i=>shK f (ys.take k) i) cs us fs):=hp5;obtain⟨out,hout⟩:∃out,out=shK f (ys.take k) j:=⟨_,rfl⟩
  rw[←hout] at hel hu hol;have HOUT:Hid (out=shK f (ys.take k) j):=hout;obtain⟨L,hL⟩:∃L,L=out.length:=⟨_,rfl⟩
  obtain⟨hown5,hfsj⟩:=hel;rw[hu] at hcel hown5 hfsj;rw[←hL] at hcel hown5 hol;have HL:Hid (L=out.length):=hL;clear hp5 hout hL HP hM;rw[←HL.out] at hfsj;have HFJ:Hid (fs j=fun b=>(Value.slice au L cu).ownBlock=some b):=hfsj;clear hfsj hu;go_wp2;refine wp_region_noPanic ?_;refine fB (fun W=>W.cell? ⟨w1.heap.size,0,none⟩=some (.slice (some ⟨w.heap.size+1+1,0,none⟩) n n)∧W.cell? ⟨w.heap.size+1+1,j,none⟩=some (.slice au L cu)∧W.cell? ⟨w4.heap.size+1,0,none⟩=some (.int .i64 a)∧W.cell? ⟨w4.heap.size+1,1,none⟩=some (.int .i64 t)∧W.cell? ⟨w4.heap.size+1,2,none⟩=some (.int .i64 v)) 12 kF ⟨cK qBq h2,cK qBq hcel,cK qBq x0,cK qBq x1,cK qBq x2⟩ (fun hS=>?_);refine tY 0 ?_;refine tY 1 ?_;refine tY 2 ?_;refine tY 3 ?_;refine tY 4 ?_;refine tY 5 ?_;refine tY 6 ?_;refine tY 7 ?_;refine tY 8 ?_;refine uS 9 rfl (fun K hK=>?_);go_simp;have hSY:=And.intro (cK (bA (bR _ _) (.cells #[.int .i64 a,.int .i64 t,.int .i64 v] 103)) hS.1) (And.intro (cK (bA (bR _ _) (.cells #[.int .i64 a,.int .i64 t,.int .i64 v] 103)) hS.2.1) (And.intro (cK (bA (bR _ _) (.cells #[.int .i64 a,.int .i64 t,.int .i64 v] 103)) hS.2.2.1) (And.intro (cK (bA (bR _ _) (.cells #[.int .i64 a,.int .i64 t,.int .i64 v] 103)) hS.2.2.2.1) (cK (bA (bR _ _) (.cells #[.int .i64 a,.int .i64 t,.int .i64 v] 103)) hS.2.2.2.2))));refine hK _ _ (fun _=>hSY) ?_;clear hK K;try simp only[jX]
  refine uS 10 rfl (fun K hK=>?_);obtain⟨i0,hi,hz0,hz1,hz2⟩:=info_parts yP;have hbY:Go.RowKit.Below w5.heap.size w5 (w5.drew.alloc (.cells #[.int .i64 a,.int .i64 t,.int .i64 v] 103)):=qBq;have hzY:=hbY.size;have hz5:=hb5.size;refine yI _ rfl _ _ 30 rfl w.heap.size 103 i0 _ 3 24 Tryz.underlying30 hi hz0 hz1 hz2 rfl (by decide) (.slice au L cu) L (kT out) rfl (fH hown5 hbY) ⟨w5.heap.size,0,none⟩ 1 1 (balC ⟨a,t,v⟩) rfl rfl ?_ (xR _) (by unfold maxLen;omega) oM (by simp;omega) ?_
  ·refine uK (x:=⟨a,t,v⟩) (o:=0) ?_;exact⟨sG,by simp[go_sem],sG⟩
  intro v6 w6 o6 hg6 hloc;have hmY:Mod (fs j) (w5.drew.alloc (.cells #[.int .i64 a,.int .i64 t,.int .i64 v] 103)) w6:=by rw[HFJ.out];exact Mod.of_grown hg6
  have hm6:Mod (fs j) w5 w6:=(Mod.of_below hbY).trans hmY;have hn1:¬fs j w1.heap.size:=fun h=>by have:=HF.out j hjn _ h;omega
  have hn2:¬fs j (w.heap.size+1+1):=fun h=>HP5.out.out j hjn _ h rfl
  have hn3:¬fs j (w4.heap.size+1):=fun h=>by have:=hrngj _ h;omega
  have hS6:=And.intro (hmY.cell hSY.1 hn1) (And.intro (hmY.cell hSY.2.1 hn2) (And.intro (hmY.cell hSY.2.2.1 hn3) (And.intro (hmY.cell hSY.2.2.2.1 hn3) (hmY.cell hSY.2.2.2.2 hn3))));have hf6:w6.frozen? ⟨w.heap.size+1+1,j,none⟩=false:=(xZ hm6 (a:=⟨w.heap.size+1+1,j,none⟩) (show w.heap.size+1+1<w5.heap.size by omega) hn2).trans hfrj;have hc6:w6.cell? ⟨w.heap.size+1+1,j,none⟩=some (.slice au L cu):=hS6.2.1;obtain⟨p6,c6,hv6⟩:=fD o6;subst hv6;refine hK _ _ (fun _=>hS6) ?_;clear hK K hSY hS;try simp only[jX]
  refine uS 11 rfl (fun K hK=>?_);go_simp;refine hK _ _ (fun _=>hS6) ?_;clear hK K;try simp only[jX]
  refine uS 12 rfl (fun K hK=>?_);go_simp;refine hK _ _ (fun h=>absurd rfl h) ?_;clear hK K;refine dP ?_;have hF6:∀b,(Value.slice p6 (L+1) c6).ownBlock=some b→fs j b∨w5.heap.size≤b:=fun b hb=>by
   rw[HFJ.out];rcases hloc with h|h
   ·exact .inl (h▸hb)
   rw[h] at hb;simp at hb;exact .inr oM
  have hO6:balsR.O w6 w.heap.size (fun b=>(Value.slice p6 (L+1) c6).ownBlock=some b) (.slice p6 (L+1) c6) (out++[⟨a,t,v⟩]):=by
   refine⟨?_,rfl⟩;rw[uL,List.length_append,←HL.out];exact o6
  have hm7:Mod (fun b=>b=w.heap.size+1+1) w6 (w6.setCell ⟨w.heap.size+1+1,j,none⟩ (.slice p6 (L+1) c6)):=Mod.of_set w6 ⟨w.heap.size+1+1,j,none⟩ _;have hr6:=hm6.owns HP5.out.row (fun b hb=>by simp[Value.ownBlock] at hb;rw[←hb];exact hn2);have hr7:=(hr6.stored j (.slice p6 (L+1) c6)).1;have hp7:=HP5.out.putS hjn hm6 hO6 hF6 hr7 hm7;have HP7:Hid (PO balsR 30 1 one (w6.setCell ⟨w.heap.size+1+1,j,none⟩ (.slice p6 (L+1) c6)) w.heap.size (.slice (some ⟨w.heap.size+1+1,0,none⟩) n n) n n (fun i=>shK f (ys.take (k+1)) i) (cs.set j (.slice p6 (L+1) c6)) (upd us j (.slice p6 (L+1) c6)) (upd fs j (fun b=>(Value.slice p6 (L+1) c6).ownBlock=some b))):=by
   refine hp7.cast (fun i hi=>?_);rw[←HTK.out,fQl];by_cases hij:i=j
   ·subst hij;rw[kP,if_pos rfl,HOUT.out,HV.out];rfl
   rw[upd_ne _ _ hij,if_neg (fun e=>hij (by simp only at e;omega))]
  have HF7:Hid (∀i,i<n→∀b,upd fs j (fun b=>(Value.slice p6 (L+1) c6).ownBlock=some b) i b→w3.heap.size≤b):=fun i hi b hb=>by
   by_cases hij:i=j
   ·
    subst hij;rw[kP] at hb;rcases hF6 b hb with h|h
    ·exact HF.out i hi b h
    omega
   rw[upd_ne _ _ hij] at hb;exact HF.out i hi b hb
  have hM7:Mod (fun b=>b=w.heap.size+1+1) w3 (w6.setCell ⟨w.heap.size+1+1,j,none⟩ (.slice p6 (L+1) c6)):=by
   have h36:Mod (fun b=>b=w.heap.size+1+1) w3 w6:=⟨hm6.os.trans hM5.os,hm6.tape.trans hM5.tape,hm6.output.trans hM5.output,Nat.le_trans hM5.size hm6.size,fun i hi hn=>(hm6.block i (Nat.lt_of_lt_of_le hi hM5.size) (fun e=>by have:=HF.out j hjn i e;omega)).trans (hM5.block i hi hn)⟩;exact h36.trans hm7
  clear hp7 hr7 hr6 hO6 hF6 hm7 o6 hg6 hloc hmY hm6;go_wp2;go_roundw
  case rel=>exact⟨k+1,_,_,_,by omega,by simp,HP7,HF7,hM7⟩
  case measure=>simp[intOf];omega
 obtain rfl:k=q:=oM;have f2:=hM.cell e2 (by dsimp only;omega);have f1:=hM.cell e1 (by dsimp only;omega);have f3:w4.frozen? ⟨w.heap.size+1,0,none⟩=false:=(xZ hM (a:=⟨w.heap.size+1,0,none⟩) (show w.heap.size+1<w3.heap.size by omega) (show ¬(w.heap.size+1=w.heap.size+1+1) by omega)).trans e3;have hz4:=hM.size;have hy:ys.take k=ys:=by rw[←HN.out];exact List.take_length
 rw[hy] at HP;clear hy HKE HP0 HBK hGc;go_wp2;have hm5:Mod (fun b=>b=w.heap.size+1) w4 (w4.setCell ⟨w.heap.size+1,0,none⟩ (.slice (some ⟨w.heap.size+1+1,0,none⟩) n n)):=Mod.of_set w4 ⟨w.heap.size+1,0,none⟩ _;have hp5:=HP.out.mod hm5 (fun b hb e=>by simp[Value.ownBlock] at hb;omega) (fun i hi b hb e=>by have:=HF.out i hi b hb;omega);have hB5:Go.RowKit.Below w.heap.size w (w4.setCell ⟨w.heap.size+1,0,none⟩ (.slice (some ⟨w.heap.size+1+1,0,none⟩) n n)):=Mod.below (F:=fun b=>b=w.heap.size+1+1∨b=w.heap.size+1) hB3 ((hM.mono (fun b hb=>Or.inl hb)).trans (hm5.mono (fun b hb=>Or.inr hb))) oM (fun b hb=>oM);refine bodyPost_ret (v:=.agg #[.slice (some ⟨w.heap.size+1+1,0,none⟩) n n]) (by simp[results,Tryz.results204,go_sem,f1]) rfl ?_;exact⟨_,_,ys,rfl,HD.out,HS.out,⟨cs,us,fs,by
  rw[List.length_map,List.length_range];exact hp5.cast (fun i hi=>by simp[List.getD,hi]),fun b=>Iff.rfl⟩,hB5⟩
end Go.Proofs.YtpibfdebfacooaaGreat
namespace Go.Proofs.YtpibfdebfacooaaGreat
open Go.RowKit
variable [dQ Rw] [iH Rw] [dQ Bal] [iH Bal] [dQ Ledg] [iH Ledg] [dQ Leg] [iH Leg] [dQ Cont] [iH Cont] [dQ LedgR] [iH LedgR] [dQ OutcR] [iH OutcR] [dQ Mrk] [iH Mrk] [dQ Shd] [iH Shd] [dQ ShdR] [iH ShdR]
attribute [local go_sem ↓] Go.wp_at_zero Go.wp_at_succ
theorem fFz {g:Ledg} {ls:List Leg} (h0:qY g=0) (hl:∀x ∈ ls,gD x=0∧x.sh<(g.shards.length:Int)) (h8:ls.length≤8):(1≤g.shards.length∧g.shards.length≤3)∧(∀i,i<g.shards.length→RiseB (g.shards.getD i default))∧(∀l ∈ ls,qJ l.ac l.ast=true)∧(∀l ∈ ls,0≤l.sh∧l.sh<(g.shards.length:Int)) ∧
  ∀k,k<ls.length→kwf (ls.getD k default).sh (ls.getD k default).ac (ls.getD k default).ast ∧ -9223372036854775808≤(mX (kK g.shards) (ls.take k) (ls.getD k default).sh (ls.getD k default).ac (ls.getD k default).ast).getD 0+(ls.getD k default).am∧(mX (kK g.shards) (ls.take k) (ls.getD k default).sh (ls.getD k default).ac (ls.getD k default).ast).getD 0+(ls.getD k default).am≤9223372036854775807:=by
 obtain⟨hn0,hn,hbk⟩:=fBf h0;refine⟨⟨hn0,hn⟩,fun i hi=>fRj (hbk i hi),fun l h=>?_,fun l h=>?_,fun k hk=>?_⟩
 ·have hz:=gQ (hl l h).1;exact keyOk_iff.2 ⟨hz.2.1,hz.2.2.1⟩
 ·exact⟨(gQ (hl l h).1).1.1,(hl l h).2⟩
 have e:ls.getD k default=ls[k]:=by simp[List.getD,hk]
 have hz:=gQ (hl _ (List.getElem_mem hk)).1;rw[e];have hb:=fH9 (fIc h0) (ls.take k) (fun l hm=>(gQ (hl l (List.mem_of_mem_take hm)).1).2.2.2.1) ls[k].sh ls[k].ac ls[k].ast;rw[List.length_take] at hb;have hs:=(hl _ (List.getElem_mem hk)).2;refine⟨⟨xO oM oM,xO oM oM,xO oM oM⟩,?_,?_⟩ <;> omega
theorem fMq (s:Int) (ls:List Leg):onSh s (onSh s ls)=onSh s ls:=by
 unfold onSh;rw[List.filter_filter];congr 1;funext l;simp
theorem fIo {idx:Int} {bs:List Bal} {ls:List Leg} (h:0≤idx∧idx≤2):(qL (kY idx bs) (onSh idx ls)).getD idx.toNat default=addB bs (onSh idx ls):=by
 rw[fCn _ _ (by show idx.toNat<3;omega)];unfold fFy;rw[fKn h];have e:((idx.toNat:Nat):Int)=idx:=oM;rw[e,fMq]
theorem fB3 {hs:List Cont} {k:Int} {i:Nat} (hi:i<hs.length) (he:(hs.getD i default).id=k) (hb:∀j,j<i→(hs.getD j default).id<k):zK k hs=(hs.getD i default).legs:=by
 induction hs generalizing i with
 | nil=>simp at hi
 | cons x r ih=>
  cases i with
  | zero=>
   simp only[List.getD_cons_zero] at he ⊢;simp[zK,he]
  | succ i=>
   have h0:=hb 0 oM;simp only[List.getD_cons_zero] at h0;have hne:¬x.id=k:=oM;simp only[zK,if_neg hne];simp only[List.getD_cons_succ] at he ⊢;exact ih (by simpa using hi) he (fun j hj=>by have:=hb (j+1) oM;simpa using this)
theorem fMl {hs:List Cont} {k:Int} (h:fJ hs k=false):kJ k hs=hs:=by
 unfold kJ;rw[List.filter_eq_self];intro c hc;unfold fJ at h;rw[List.any_eq_false] at h;have:=h c hc;simpa using this
def qQ (hs:List Cont) (k:Int) (n:Nat):List Nat:=(List.range n).filter (fun j=>!((hs.getD j default).id==k))
theorem fMf (hs:List Cont) (k:Int) (n:Nat):qQ hs k (n+1)=if (hs.getD n default).id=k then qQ hs k n else qQ hs k n++[n]:=by
 unfold qQ;rw[List.range_succ,List.filter_append];by_cases h:(hs.getD n default).id=k
 ·rw[if_pos h,List.filter_cons_of_neg (by simp only[h];simp)];simp
 rw[if_neg h,List.filter_cons_of_pos (by simp only[Bool.not_eq_true',beq_eq_false_iff_ne];exact h)];simp
theorem fQb {hs:List Cont} {k:Int} {n j:Nat} (h:j ∈ qQ hs k n):j<n:=List.mem_range.1 (List.mem_filter.1 h).1
theorem fQa (hs:List Cont) (k:Int) (n:Nat):(qQ hs k n).length≤n:=by
 have:=List.length_filter_le (fun j=>!((hs.getD j default).id==k)) (List.range n);rw[List.length_range] at this;exact this
theorem fMe (hs:List Cont) (k:Int):(qQ hs k hs.length).map (fun j=>hs.getD j default)=kJ k hs:=by
 have e:hs=(List.range hs.length).map (fun j=>hs.getD j default):=by
  refine List.ext_getElem (by simp) (fun i h1 h2=>?_);simp[List.getD,h1]
 unfold qQ kJ;conv=>rhs;rw[e]
 rw[List.filter_map];rfl
theorem fI3 (hs:List Cont) (k:Int) (n:Nat):(qQ hs k n).Nodup:=by
 unfold qQ List.Nodup;exact List.Pairwise.filter _ List.nodup_range
theorem flat_get {f:Nat→List Value} {size:Nat}:∀(js:List Nat),(∀j ∈ js,(f j).length=size)→∀i,i<js.length→∀o,o<size→(js.flatMap f)[i*size+o]? = (f (js.getD i 0))[o]?
 | [],_,i,hi,_,_=>by simp at hi
 | j::js,h,0,_,o,ho=>by
  have hl:=h j (List.mem_cons_self ..);rw[List.flatMap_cons,List.getElem?_append_left oM];simp
 | j::js,h,i+1,hi,o,ho=>by
  have hl:=h j (List.mem_cons_self ..);have ih:=flat_get js (fun x hx=>h x (List.mem_cons_of_mem _ hx)) i (by simpa using hi) o ho;have e:(i+1)*size=i*size+size:=Nat.succ_mul _ _;rw[List.flatMap_cons,List.getElem?_append_right oM,hl,e,show i*size+size+o-size=i*size+o by omega,ih];simp
theorem NO.pick {α:Type} [Inhabited α] {R:Rep α} {e size:Nat} {lv:Value→List Value} {W:World} {base:Nat} {v':Value} {xs:List α} {us:Nat→Value} {fs:Nat→Nat→Prop} (js:List Nat)
  (hel:∀j,j<xs.length→R.O W base (fs j) (us j) (xs.getD j default)) (hln:∀j,j<xs.length→(lv (us j)).length=size) (hsep:∀j k,j<xs.length→k<xs.length→j≠k→∀b,fs j b→¬fs k b)
  (hjs:∀j ∈ js,j<xs.length) (hnd:js.Nodup) (hr:W.ownsRow base e size v' js.length (js.flatMap (fun j=>lv (us j)))) (hv:∀b,v'.ownBlock=some b→∀j,j<xs.length→¬fs j b) :
  ∃F',NO R e size lv W base F' v' (js.map (fun j=>xs.getD j default))∧∀b,F' b→v'.ownBlock=some b∨∃j,j<xs.length∧fs j b:=by
 have hj:∀i,i<js.length→js.getD i 0<xs.length:=fun i hi=>hjs _ (by simp[List.getD,hi])
 have hlen:(js.map (fun j=>xs.getD j default)).length=js.length:=List.length_map ..;refine⟨fun b=>v'.ownBlock=some b∨∃i,i<js.length∧fs (js.getD i 0) b,⟨js.flatMap (fun j=>lv (us j)),fun i=>us (js.getD i 0),fun i=>fs (js.getD i 0),?_,fun b=>by rw[hlen]⟩,fun b hb=>?_⟩
 ·
  rw[hlen];refine⟨hr,fun i hi=>?_,fun i hi=>hln _ (hj i hi),fun i hi o ho=>?_,fun i hi b hb e=>hv b e _ (hj i hi) hb,fun i k hi hk hik b h1 h2=>?_⟩
  ·
   have h:=hel _ (hj i hi);have e:(js.map (fun j=>xs.getD j default)).getD i default=xs.getD (js.getD i 0) default:=by simp[List.getD,hi]
   rw[e];exact h
  ·exact flat_get js (fun j hj'=>hln j (hjs j hj')) i hi o ho
  refine hsep _ _ (hj i hi) (hj k hk) (fun e=>?_) b h1 h2;unfold List.Nodup at hnd;rw[List.pairwise_iff_getElem] at hnd;have e1:js.getD i 0=js[i]:=by simp[List.getD,hi]
  have e2:js.getD k 0=js[k]:=by simp[List.getD,hk]
  rw[e1,e2] at e;rcases Nat.lt_trichotomy i k with h|h|h
  ·exact hnd i k hi hk h e
  ·exact hik h
  exact hnd k i hk hi h e.symm
 rcases hb with hb|⟨i,hi,hb⟩
 ·exact .inl hb
 exact .inr ⟨_,hj i hi,hb⟩
theorem fPv (bm:Nat) (k id:Int) (u:Value) (a:Option Addr) (n q:Nat) (hu:u =.slice a n q) (w:World) (hm:w.cell? ⟨bm,0,none⟩=some (.int .i64 k)) :
  RI 206 #[.agg #[.int .i64 id,u],.pointer (some ⟨bm,0,none⟩)] w (.bool (id==k)):=by
 subst hu;have zb:=wL w _ hm;dsimp only at zb;go_enter Tryz.func206,Tryz.ntmps206;go_wp2;go_ret;exact⟨rfl,qBq⟩
theorem fKt (x:Value) (xs:List Cont) (k:Int) (bm base:Nat) (F:Nat→Prop) (w:World) (hx:contsR.O w base F x xs) (hm:w.cell? ⟨bm,0,none⟩=some (.int .i64 k)) (hbase:base≤w.heap.size) (hn:xs.length≤1000) :
  Calls Tryz.prog 205 #[x,.func (.func 206) #[] #[.pointer (some ⟨bm,0,none⟩)]] w fun e w'=>∃v F',e =.returned v∧contsR.O w' base F' v (kJ k xs)∧Below w.heap.size w w'∧∀b,F' b→F b∨w.heap.size≤b:=by
 obtain⟨a3,c3,e3,hc3,hm3,hx3⟩:=pV (contsR.ofO hx);subst e3;unfold maxLen at hm3;have HX:Hid (∀j,j<xs.length→∃b o p q,a3=some ⟨b,o,none⟩∧w.cell? ⟨b,o+j*2,none⟩=some (.int .i64 (xs.getD j default).id)∧w.cell? ⟨b,o+j*2+1,none⟩=some (.slice p (xs.getD j default).legs.length q)∧contR.V w (.agg #[.int .i64 (xs.getD j default).id,.slice p (xs.getD j default).legs.length q]) (xs.getD j default)):=hx3;obtain⟨cs,us,fs,hp,hFF⟩:=hx;have HUs:Hid (∀j,j<xs.length→∀u0 u1,(∀b o,a3=some ⟨b,o,none⟩→w.cell? ⟨b,o+j*2,none⟩=some u0∧w.cell? ⟨b,o+j*2+1,none⟩=some u1)→gZ (us j)=[u0,u1]):=fun j hj u0 u1 h=>by
  rcases hp.row.2 with ⟨_,h0⟩|⟨g,cap,cur,hv,_⟩
  ·omega
  simp only[Value.slice.injEq] at hv;obtain⟨rfl,_,_⟩:=hv;obtain⟨g0,g1⟩:=h g 0 rfl;have hl:=hp.ln j hj;have c0:=hp.cell j hj 0 oM;have c1:=hp.cell j hj 1 oM;have hcl:cs.length=xs.length*2:=hp.row.1;have r0:=hp.row.cellAt (j*2) oM;have r1:=hp.row.cellAt (j*2+1) oM;rw[Nat.zero_add] at g0 g1;try rw[Nat.zero_add] at r0 r1
  rw[g0] at r0;rw[g1] at r1;rw[Nat.add_zero,←r0] at c0;rw[←r1] at c1;match hlv:gZ (us j),hl with
  | [p,q],_=>
   rw[hlv] at c0 c1;simp at c0 c1;rw[←c0,←c1]
 have HEl:Hid ((∀j,j<xs.length→contR.O w base (fs j) (us j) (xs.getD j default))∧(∀j,j<xs.length→(gZ (us j)).length=2)∧(∀j k,j<xs.length→k<xs.length→j≠k→∀b,fs j b→¬fs k b)∧(∀j,j<xs.length→∀b,fs j b→F b∧b<w.heap.size)):=⟨hp.el,hp.ln,hp.sep,fun j hj b hb=>⟨(hFF b).2 (.inr ⟨j,hj,hb⟩),(contR.rng (hp.el j hj) b hb).2⟩⟩;have HLe:Hid (∀j,(qQ xs k j).length≤j):=fun j=>fQa xs k j
 have HFi:Hid ((qQ xs k xs.length).map (fun j=>xs.getD j default)=kJ k xs):=fMe xs k;clear hp hFF hx3;obtain⟨n,hn'⟩:∃n,n=xs.length:=⟨_,rfl⟩
 have HN:Hid (xs.length=n):=hn'.symm;rw[←hn'] at HX HUs hc3 hn ⊢;clear hn';obtain⟨i0,hi,hz0,hz1,hz2⟩:=info_parts qI;have eg:=enters_of Tryz.func206 kF rfl;go_enter Tryz.func205,Tryz.ntmps205;go_wp2;go_loopw [5,10] (fun v i w'=>∃(j:Nat) (a:Option Addr) (m c:Nat),j≤n∧i =.int .i64 j∧v =.slice a m c∧Hid (m=(qQ xs k j).length)∧Hid (w'.ownsRow w.heap.size 57 2 (.slice a m c) m ((qQ xs k j).flatMap (fun q=>gZ (us q))))∧Below w.heap.size w w') (fun _ i _=>n-(intOf i).toNat)
 case atStart=>exact⟨0,none,0,0,Nat.zero_le _,rfl,rfl,rfl,World.ownsRow_nil _ _ _ _,bR _ _⟩
 obtain⟨j,al,m,cl,hj,rfl,rfl,HM,HO,hbl⟩:=hrel;have zr:=hbl.size;have hml:m≤n:=by have:=HLe.out j;rw[←HM.out] at this;omega
 by_cases hlt:j<n
 ·
  obtain⟨bx,ox,pp,qq,rfl,g0,g1,_⟩:=HX.out j hlt;have HU:Hid (gZ (us j)=[.int .i64 (xs.getD j default).id,.slice pp (xs.getD j default).legs.length qq]):=HUs.out j hlt _ _ (fun b o e=>by
   simp only[Option.some.injEq,Addr.mk.injEq,and_true] at e;obtain⟨rfl,rfl⟩:=e;exact⟨g0,g1⟩)
  have HK:Hid (qQ xs k (j+1)=if (xs.getD j default).id=k then qQ xs k j else qQ xs k j++[j]):=fMf xs k j;replace g0:=cK hbl g0;replace g1:=cK hbl g1;have zb:bx<wr.heap.size:=wL wr _ g0;generalize (xs.getD j default).legs.length=nl at *;generalize (xs.getD j default).id=id at *;have HD1:Hid (bW w fun W=>RI 206 #[.agg #[.int .i64 id,.slice pp nl qq],.pointer (some ⟨bm,0,none⟩)] W (.bool (id==k))):=fun W hW=>fPv bm k id _ pp nl qq rfl W (cK hW hm)
  have k1:(j:Int)<n:=oM;have k2:(0:Int)≤j:=oM;by_cases hid:id=k
  ·
   have HE:Hid (qQ xs k (j+1)=qQ xs k j):=by show _=_;rw[HK.out,if_pos hid]
   have hb:(id==k)=true:=by simp[hid]
   rw[hb] at HD1;clear HK HU hid;go_wp2_with (first|(go_at_call 206;refine(HD1.out _ qBq).mono ?_;rintro e w1 ⟨rfl,hb1⟩));have hB1:=bT wr hb1;exact⟨⟨j+1,al,m,cl,by omega,by go_num,rfl,by show _=_;rw[HE.out];exact HM.out,by show World.ownsRow _ _ _ _ _ _ _;rw[HE.out];exact fH HO.out hB1,bS hbl hB1⟩,mI⟩
  have HE:Hid (qQ xs k (j+1)=qQ xs k j++[j]):=by show _=_;rw[HK.out,if_neg hid]
  have hb:(id==k)=false:=by simpa using hid
  rw[hb] at HD1;clear HK hid;go_wp2_with fail;refine(HD1.out _ qBq).mono ?_;rintro e w1 ⟨rfl,hb1⟩;have hB1:=bT wr hb1;have b0:w1.cell? ⟨wr.heap.size,0,none⟩=some (.int .i64 id):=cK hb1 sG;have b1:w1.cell? ⟨wr.heap.size,1,none⟩=some (.slice pp nl qq):=cK hb1 sG;have z1:wr.heap.size<w1.heap.size:=wL w1 _ b0;have HO1:Hid (w1.ownsRow w.heap.size 57 2 (.slice al m cl) m ((qQ xs k j).flatMap (fun q=>gZ (us q)))):=fH HO.out hB1;have hBl:Below w.heap.size w w1:=bS hbl hB1;clear hb1 HO g0 g1;go_wp2_with (at_builtin;refine wpList_append_own_at _ rfl _ _ 38 rfl w.heap.size 57 i0 _ 2 32 Tryz.underlying38 hi hz0 hz1 hz2 rfl (by decide) _ m ((qQ xs k j).flatMap (fun q=>gZ (us q))) rfl (HO1.out.alloc _) ⟨w1.heap.size,0,none⟩ 1 1 [.int .i64 id,.slice pp nl qq] rfl rfl ?c1 ?c2 ?c3 ?c4 ?c5 ?_)
  case c1=>
   intro o u ho;match o,ho with
   | 0,ho=>simp at ho;subst ho;simp[Addr.add,go_sem]
   | 1,ho=>simp at ho;subst ho;simp[Addr.add,go_sem]
   | o+2,ho=>simp at ho
  case c2=>
   intro u hu;simp only[List.mem_cons,List.not_mem_nil,or_false] at hu;rcases hu with rfl|rfl <;> rfl
  case c3=>unfold maxLen;omega
  case c4=>omega
  case c5=>simp;omega
  intro v2 w2 ho2 hg2 _ _;have hB2:Below w.heap.size w w2:=qU (HO1.out.alloc _) (bA hBl _) (by simp;omega) (Nat.le_refl _) hg2;obtain⟨a2,c2,rfl⟩:=fD ho2;have HO2:Hid (w2.ownsRow w.heap.size 57 2 (.slice a2 (m+1) c2) (m+1) ((qQ xs k (j+1)).flatMap (fun q=>gZ (us q)))):=by
   show World.ownsRow _ _ _ _ _ _ _;rw[HE.out,List.flatMap_append,List.flatMap_cons,List.flatMap_nil,List.append_nil,HU.out];exact ho2
  have HM2:Hid (m+1=(qQ xs k (j+1)).length):=by
   show _=_;rw[HE.out,List.length_append,←HM.out];rfl
  clear ho2 hg2;go_wp2;exact⟨⟨j+1,a2,m+1,c2,by omega,by go_num,rfl,HM2,HO2,hB2⟩,mI⟩
 have hjn:j=n:=oM;subst hjn;have HRes:Hid (∃F',contsR.O wr base F' (.slice al m cl) (kJ k xs)∧∀b,F' b→F b∨w.heap.size≤b):=by
  obtain⟨hel,hln,hsep,hFs⟩:=HEl.out;have ho:=HO.out;rw[HM.out] at ho;obtain⟨F',h1,h2⟩:=NO.pick (R:=contR) (lv:=gZ) (e:=57) (size:=2) (xs:=xs) (us:=us) (fs:=fs) (W:=wr) (base:=base) (v':=.slice al (qQ xs k j).length cl) (qQ xs k j) (fun q hq=>contR.keep (hel q hq) hbl) hln hsep (fun q hq=>by rw[HN.out];exact fQb hq) (fI3 xs k j) (mV ho hbase) (fun b hb q hq h=>by have:=(ho.lt b hb).1;have:=(hFs q hq b h).2;omega);have hfi:=HFi.out;rw[HN.out] at hfi;rw[hfi] at h1;rw[HM.out];exact⟨F',h1,fun b hb=>by
   rcases h2 b hb with h|⟨q,hq,h⟩
   ·exact .inr (ho.lt b h).1
   exact .inl (hFs q hq b h).1⟩
 clear HO HM;go_wp2;go_ret;obtain⟨F',h1,h2⟩:=HRes.out;exact⟨_,F',rfl,h1,qBq,h2⟩
end Go.Proofs.YtpibfdebfacooaaGreat

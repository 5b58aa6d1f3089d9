import Derived.Test.YtbfnobcidnmohaaGreatPrnSafeClusterLaw20
import Derived.Shelf.SlicesG.CompactI
import Derived.Ground.SlgnProg
set_option maxHeartbeats 8000000
set_option maxRecDepth 20000
set_option linter.unusedSimpArgs false
set_option linter.unusedVariables false
set_option linter.unusedSectionVars false
namespace Go.Proofs.YtbfnobcidnmohaaGreat
open Go.RowKit
variable [dQ Leg] [iH Leg] [dQ Cont] [iH Cont] [dQ Bal] [iH Bal] [dQ Mrk] [iH Mrk] [dQ Shd] [iH Shd] [dQ Vot] [iH Vot] [dQ Slt] [iH Slt] [dQ Acc] [iH Acc] [dQ Trr] [iH Trr] [dQ Hrd] [iH Hrd] [dQ Ldr] [iH Ldr] [dQ Msg] [iH Msg] [dQ Clu] [iH Clu] [dQ Ledg] [iH Ledg] [dQ SltR] [iH SltR] [dQ AccR] [iH AccR] [dQ AccsR] [iH AccsR] [dQ SltsR] [iH SltsR] [dQ Rw] [iH Rw] [dQ LedgR] [iH LedgR] [dQ OutcR] [iH OutcR] [dQ ShdR] [iH ShdR]
attribute [local go_sem ↓] Go.wp_at_zero Go.wp_at_succ
theorem fKs (i j:Int) (u v:Value) (a:Option Addr) (n c:Nat) (w:World) (hn:n≤9223372036854775807) (h:∀p,n=p+1→∃b o,a=some ⟨b,o,none⟩∧w.cell? ⟨b,o+p*2,none⟩=some (.int .i64 j)∧w.cell? ⟨b,o+p*2+1,none⟩=some (v)) :
  RI 206 #[.agg #[.int .i64 i,u],.slice a n c,.func (.func 207) #[] #[]] w (.bool (decide (n=0)||decide (cmpZ j i<0))):=by
 have eg:=enters_of Tryz.func207 kF rfl;cases n with
 | zero=>
  clear h;go_enter Tryz.func206,Tryz.ntmps206;go_wp2;refine wp_region_noPanic ?_;refine fB (fun W=>W.cell? ⟨w.heap.size,0,none⟩=some (.int .i64 i)∧W.cell? ⟨w.heap.size,1,none⟩=some (u)) 16 kF ⟨sG,by simp[go_sem]⟩ (fun hS=>?_);refine tX 0 ?_;refine tX 1 ?_;refine tX 2 (v:=(.bool true)) ?_;refine tX 3 ?_;refine sX 4 fun _=>?_
  refine sX 5 fun _=>?_
  refine sX 6 fun _=>?_
  refine sX 7 fun _=>?_
  refine sX 8 fun _=>?_
  refine sX 9 fun _=>?_
  refine sX 10 fun _=>?_
  refine sX 11 fun _=>?_
  refine sX 12 fun _=>?_
  refine sX 13 fun _=>?_
  refine tX 14 ?_;refine tX 15 ?_;refine dP ?_;go_wp2;go_ret;exact⟨rfl,qBq⟩
 | succ p=>
  obtain⟨b,o,rfl,g0,g1⟩:=h p rfl;clear h;have zb:b<w.heap.size:=wL w _ g0;have i1:(0:Int)≤(p:Int):=oM;have i2:(p:Int)<((p+1:Nat):Int):=oM;have i3:(((p+1:Nat):Int)==0)=false:=by rw[beq_eq_false_iff_ne];omega
  have i4:((p:Int)+1==0)=false:=by rw[beq_eq_false_iff_ne];omega
  have i5:IntKind.i64.wrap (((p+1:Nat):Int)-1)=(p:Int):=by rw[IntKind.wrap_i64];omega
  have i6:IntKind.i64.wrap ((p:Int)+1-1)=(p:Int):=by rw[IntKind.wrap_i64];omega
  have i7:¬((p:Int)+1=0):=oM;have i8:(p:Int)<(p:Int)+1:=oM;have w1':IntKind.i64.wrap (p:Int)=p:=kD oM oM;rw[show(decide (p+1=0)||decide (cmpZ j i<0))=decide (cmpZ j i<0) by simp];go_enter Tryz.func206,Tryz.ntmps206;go_wp2;refine wp_region_noPanic ?_;refine fB (fun W=>W.cell? ⟨w.heap.size,0,none⟩=some (.int .i64 i)∧W.cell? ⟨w.heap.size,1,none⟩=some (u)∧W.cell? ⟨b,o+p*2,none⟩=some (.int .i64 j)∧W.cell? ⟨b,o+p*2+1,none⟩=some (v)) 16 kF ⟨sG,by simp[go_sem],cK qBq g0,cK qBq g1⟩ (fun hS=>?_);refine tX 0 ?_;refine tX 1 ?_;refine tX 2 (v:=(.bool false)) ?_;refine tX 3 ?_;refine tX 4 ?_;refine tX 5 ?_;refine tX 6 ?_;refine tX 7 ?_;refine tX 8 ?_;refine tX 9 ?_;refine tX 10 ?_;refine tX 11 ?_;refine uS 12 rfl (fun K hK=>?_);go_simp;refine(fDx _ _ _ _ _).mono ?_;rintro e w1 ⟨rfl,hb1⟩;have hB1:=bT w hb1;have hS1:=kS4 hb1 hS;refine hK _ _ (fun _=>hS1) ?_;clear hK K;try simp only[jX]
  refine tX 13 ?_;refine tX 14 ?_;refine tX 15 ?_;refine dP ?_;go_wp2;go_ret;exact⟨rfl,hB1⟩
theorem fKu (x y:Trr) (u v u' v':Value) (a:Option Addr) (n c:Nat) (w:World) (hn:n≤9223372036854775807) (h:∀p,n=p+1→∃b o,a=some ⟨b,o,none⟩∧w.cell? ⟨b,o+p*6,none⟩=some (.int .i64 y.con)∧w.cell? ⟨b,o+p*6+1,none⟩=some (.int .i64 y.sh)∧w.cell? ⟨b,o+p*6+2,none⟩=some (.int .i64 y.bal)∧w.cell? ⟨b,o+p*6+3,none⟩=some (.int .i64 y.val)∧w.cell? ⟨b,o+p*6+4,none⟩=some (u')∧w.cell? ⟨b,o+p*6+5,none⟩=some (v')) :
  RI 222 #[.agg #[.int .i64 x.con,.int .i64 x.sh,.int .i64 x.bal,.int .i64 x.val,u,v],.slice a n c,.func (.func 223) #[] #[]] w (.bool (decide (n=0)||decide (cmpT y x<0))):=by
 have eg:=enters_of Tryz.func223 kF rfl;cases n with
 | zero=>
  clear h;go_enter Tryz.func222,Tryz.ntmps222;go_wp2;refine wp_region_noPanic ?_;refine fB (fun W=>W.cell? ⟨w.heap.size,0,none⟩=some (.int .i64 x.con)∧W.cell? ⟨w.heap.size,1,none⟩=some (.int .i64 x.sh)∧W.cell? ⟨w.heap.size,2,none⟩=some (.int .i64 x.bal)∧W.cell? ⟨w.heap.size,3,none⟩=some (.int .i64 x.val)∧W.cell? ⟨w.heap.size,4,none⟩=some (u)∧W.cell? ⟨w.heap.size,5,none⟩=some (v)) 16 kF ⟨sG,by simp[go_sem],sG,by simp[go_sem],sG,by simp[go_sem]⟩ (fun hS=>?_);refine tX 0 ?_;refine tX 1 ?_;refine tX 2 (v:=(.bool true)) ?_;refine tX 3 ?_;refine sX 4 fun _=>?_
  refine sX 5 fun _=>?_
  refine sX 6 fun _=>?_
  refine sX 7 fun _=>?_
  refine sX 8 fun _=>?_
  refine sX 9 fun _=>?_
  refine sX 10 fun _=>?_
  refine sX 11 fun _=>?_
  refine sX 12 fun _=>?_
  refine sX 13 fun _=>?_
  refine tX 14 ?_;refine tX 15 ?_;refine dP ?_;go_wp2;go_ret;exact⟨rfl,qBq⟩
 | succ p=>
  obtain⟨b,o,rfl,g0,g1,g2,g3,g4,g5⟩:=h p rfl;clear h;have zb:b<w.heap.size:=wL w _ g0;have i1:(0:Int)≤(p:Int):=oM;have i2:(p:Int)<((p+1:Nat):Int):=oM;have i3:(((p+1:Nat):Int)==0)=false:=by rw[beq_eq_false_iff_ne];omega
  have i4:((p:Int)+1==0)=false:=by rw[beq_eq_false_iff_ne];omega
  have i5:IntKind.i64.wrap (((p+1:Nat):Int)-1)=(p:Int):=by rw[IntKind.wrap_i64];omega
  have i6:IntKind.i64.wrap ((p:Int)+1-1)=(p:Int):=by rw[IntKind.wrap_i64];omega
  have i7:¬((p:Int)+1=0):=oM;have i8:(p:Int)<(p:Int)+1:=oM;have w1':IntKind.i64.wrap (p:Int)=p:=kD oM oM;rw[show(decide (p+1=0)||decide (cmpT y x<0))=decide (cmpT y x<0) by simp];go_enter Tryz.func222,Tryz.ntmps222;go_wp2;refine wp_region_noPanic ?_;refine fB (fun W=>W.cell? ⟨w.heap.size,0,none⟩=some (.int .i64 x.con)∧W.cell? ⟨w.heap.size,1,none⟩=some (.int .i64 x.sh)∧W.cell? ⟨w.heap.size,2,none⟩=some (.int .i64 x.bal)∧W.cell? ⟨w.heap.size,3,none⟩=some (.int .i64 x.val)∧W.cell? ⟨w.heap.size,4,none⟩=some (u)∧W.cell? ⟨w.heap.size,5,none⟩=some (v)∧W.cell? ⟨b,o+p*6,none⟩=some (.int .i64 y.con)∧W.cell? ⟨b,o+p*6+1,none⟩=some (.int .i64 y.sh)∧W.cell? ⟨b,o+p*6+2,none⟩=some (.int .i64 y.bal)∧W.cell? ⟨b,o+p*6+3,none⟩=some (.int .i64 y.val)∧W.cell? ⟨b,o+p*6+4,none⟩=some (u')∧W.cell? ⟨b,o+p*6+5,none⟩=some (v')) 16 kF ⟨sG,by simp[go_sem],sG,by simp[go_sem],sG,by simp[go_sem],cK qBq g0,cK qBq g1,cK qBq g2,cK qBq g3,cK qBq g4,cK qBq g5⟩ (fun hS=>?_);refine tX 0 ?_;refine tX 1 ?_;refine tX 2 (v:=(.bool false)) ?_;refine tX 3 ?_;refine tX 4 ?_;refine tX 5 ?_;refine tX 6 ?_;refine tX 7 ?_;refine tX 8 ?_;refine tX 9 ?_;refine tX 10 ?_;refine tX 11 ?_;refine uS 12 rfl (fun K hK=>?_);go_simp;refine(fBv y x _ _ _ _ _).mono ?_;rintro e w1 ⟨rfl,hb1⟩;have hB1:=bT w hb1;have hS1:=kS12 hb1 hS;refine hK _ _ (fun _=>hS1) ?_;clear hK K;try simp only[jX]
  refine tX 13 ?_;refine tX 14 ?_;refine tX 15 ?_;refine dP ?_;go_wp2;go_ret;exact⟨rfl,hB1⟩
theorem fKt (x y:Hrd) (a:Option Addr) (n c:Nat) (w:World) (hn:n≤9223372036854775807) (h:∀p,n=p+1→∃b o,a=some ⟨b,o,none⟩∧w.cell? ⟨b,o+p*5,none⟩=some (.int .i64 y.con)∧w.cell? ⟨b,o+p*5+1,none⟩=some (.int .i64 y.sh)∧w.cell? ⟨b,o+p*5+2,none⟩=some (.int .i64 y.bal)∧w.cell? ⟨b,o+p*5+3,none⟩=some (.int .i64 y.val)∧w.cell? ⟨b,o+p*5+4,none⟩=some (.int .i64 y.frm)) :
  RI 230 #[.agg #[.int .i64 x.con,.int .i64 x.sh,.int .i64 x.bal,.int .i64 x.val,.int .i64 x.frm],.slice a n c,.func (.func 231) #[] #[]] w (.bool (decide (n=0)||decide (cmpH y x<0))):=by
 have eg:=enters_of Tryz.func231 kF rfl;cases n with
 | zero=>
  clear h;go_enter Tryz.func230,Tryz.ntmps230;go_wp2;refine wp_region_noPanic ?_;refine fB (fun W=>W.cell? ⟨w.heap.size,0,none⟩=some (.int .i64 x.con)∧W.cell? ⟨w.heap.size,1,none⟩=some (.int .i64 x.sh)∧W.cell? ⟨w.heap.size,2,none⟩=some (.int .i64 x.bal)∧W.cell? ⟨w.heap.size,3,none⟩=some (.int .i64 x.val)∧W.cell? ⟨w.heap.size,4,none⟩=some (.int .i64 x.frm)) 16 kF ⟨sG,by simp[go_sem],sG,by simp[go_sem],sG⟩ (fun hS=>?_);refine tX 0 ?_;refine tX 1 ?_;refine tX 2 (v:=(.bool true)) ?_;refine tX 3 ?_;refine sX 4 fun _=>?_
  refine sX 5 fun _=>?_
  refine sX 6 fun _=>?_
  refine sX 7 fun _=>?_
  refine sX 8 fun _=>?_
  refine sX 9 fun _=>?_
  refine sX 10 fun _=>?_
  refine sX 11 fun _=>?_
  refine sX 12 fun _=>?_
  refine sX 13 fun _=>?_
  refine tX 14 ?_;refine tX 15 ?_;refine dP ?_;go_wp2;go_ret;exact⟨rfl,qBq⟩
 | succ p=>
  obtain⟨b,o,rfl,g0,g1,g2,g3,g4⟩:=h p rfl;clear h;have zb:b<w.heap.size:=wL w _ g0;have i1:(0:Int)≤(p:Int):=oM;have i2:(p:Int)<((p+1:Nat):Int):=oM;have i3:(((p+1:Nat):Int)==0)=false:=by rw[beq_eq_false_iff_ne];omega
  have i4:((p:Int)+1==0)=false:=by rw[beq_eq_false_iff_ne];omega
  have i5:IntKind.i64.wrap (((p+1:Nat):Int)-1)=(p:Int):=by rw[IntKind.wrap_i64];omega
  have i6:IntKind.i64.wrap ((p:Int)+1-1)=(p:Int):=by rw[IntKind.wrap_i64];omega
  have i7:¬((p:Int)+1=0):=oM;have i8:(p:Int)<(p:Int)+1:=oM;have w1':IntKind.i64.wrap (p:Int)=p:=kD oM oM;rw[show(decide (p+1=0)||decide (cmpH y x<0))=decide (cmpH y x<0) by simp];go_enter Tryz.func230,Tryz.ntmps230;go_wp2;refine wp_region_noPanic ?_;refine fB (fun W=>W.cell? ⟨w.heap.size,0,none⟩=some (.int .i64 x.con)∧W.cell? ⟨w.heap.size,1,none⟩=some (.int .i64 x.sh)∧W.cell? ⟨w.heap.size,2,none⟩=some (.int .i64 x.bal)∧W.cell? ⟨w.heap.size,3,none⟩=some (.int .i64 x.val)∧W.cell? ⟨w.heap.size,4,none⟩=some (.int .i64 x.frm)∧W.cell? ⟨b,o+p*5,none⟩=some (.int .i64 y.con)∧W.cell? ⟨b,o+p*5+1,none⟩=some (.int .i64 y.sh)∧W.cell? ⟨b,o+p*5+2,none⟩=some (.int .i64 y.bal)∧W.cell? ⟨b,o+p*5+3,none⟩=some (.int .i64 y.val)∧W.cell? ⟨b,o+p*5+4,none⟩=some (.int .i64 y.frm)) 16 kF ⟨sG,by simp[go_sem],sG,by simp[go_sem],sG,cK qBq g0,cK qBq g1,cK qBq g2,cK qBq g3,cK qBq g4⟩ (fun hS=>?_);refine tX 0 ?_;refine tX 1 ?_;refine tX 2 (v:=(.bool false)) ?_;refine tX 3 ?_;refine tX 4 ?_;refine tX 5 ?_;refine tX 6 ?_;refine tX 7 ?_;refine tX 8 ?_;refine tX 9 ?_;refine tX 10 ?_;refine tX 11 ?_;refine uS 12 rfl (fun K hK=>?_);go_simp;refine(fBu y x _).mono ?_;rintro e w1 ⟨rfl,hb1⟩;have hB1:=bT w hb1;have hS1:=kS10 hb1 hS;refine hK _ _ (fun _=>hS1) ?_;clear hK K;try simp only[jX]
  refine tX 13 ?_;refine tX 14 ?_;refine tX 15 ?_;refine dP ?_;go_wp2;go_ret;exact⟨rfl,hB1⟩
theorem zV {w:World} {a:Option Addr} {n c:Nat} {xs:List Hrd} (hx:hrdsR.V w (.slice a n c) xs):xs.length=n∧n≤c∧c≤maxLen∧∀k,k<n→∃b o,a=some ⟨b,o,none⟩∧w.cell? ⟨b,o+k*5,none⟩=some (.int .i64 (xs.getD k default).con)∧w.cell? ⟨b,o+k*5+1,none⟩=some (.int .i64 (xs.getD k default).sh)∧w.cell? ⟨b,o+k*5+2,none⟩=some (.int .i64 (xs.getD k default).bal)∧w.cell? ⟨b,o+k*5+3,none⟩=some (.int .i64 (xs.getD k default).val)∧w.cell? ⟨b,o+k*5+4,none⟩=some (.int .i64 (xs.getD k default).frm):=by
 obtain⟨a',c',e,h1,h2,h3⟩:=hx;simp only[Value.slice.injEq] at e;obtain⟨rfl,rfl,rfl⟩:=e;exact⟨rfl,h1,h2,fun k hk=>h3 k hk⟩
theorem fO8 (x:Value) (c:Clu) (gf:Nat) (ff:Nat→Int) (a:Option Addr) (n cc:Nat) (xs:List Cont) (w:World) (hx:cluR.V w x c) (eg:∀args w,(callFunc gf args).run Tryz.prog w =.ok (.enter gf args) w) (hx0:contsR.V w (.slice a n cc) xs) (hlen:xs.length=n)
  (hf:∀k,k<n→(∀W item,Below w.heap.size w W→contR.V W item (xs.getD k default)→Calls Tryz.prog gf #[x,.slice a k cc,item] W fun e w'=>e =.returned (.int .i64 (ff k))∧Below W.heap.size W w')) :
  RI 144 #[x,.slice a n cc,.func (.func gf) #[] #[]] w (.int .i64 (fC ff n)):=by
 obtain⟨a0,a1,a2,a3,a4,c0,c1,c2,c3,c4,n0,n1,n2,n3,n4,rfl,e0,e1,e2,e3,e4,L0,L1,L2,L3,L4⟩:=gP hx;clear e0 e1 e2 e3 e4 L0 L1 L2 L3 L4 hx;subst hlen;have HA:=pE hx0;clear hx0;obtain⟨hnc,hmc,HA⟩:=HA;have HX:Hid _:=HA;clear HA;unfold maxLen at hmc;have HF:Hid _:=hf;clear hf;have H1:Hid (∀k,k<xs.length→fC ff k=0→¬ff k=0→fC ff xs.length=ff k):=fun k hk hs h0=>fK hs h0 _ hk
 have H2:Hid (fC ff xs.length=fC ff xs.length):=rfl;obtain⟨R,hR⟩:∃R,R=fC ff xs.length:=⟨_,rfl⟩
 rw[←hR] at H1 H2 ⊢;have HR:Hid (fC ff xs.length=R):=hR.symm;clear hR H2;obtain⟨n,hn⟩:∃n,n=xs.length:=⟨_,rfl⟩
 rw[←hn] at HX HF H1 HR hnc ⊢;clear hn;go_enter Tryz.func144,Tryz.ntmps144;go_wp2;go_loopw [12] (fun i w'=>∃k:Nat,k≤n∧i =.int .i64 k∧Hid (fC ff k=0)∧(w'.cell? ⟨w.heap.size,0,none⟩=some (.slice a0 n0 c0)∧w'.cell? ⟨w.heap.size,1,none⟩=some (.slice a1 n1 c1)∧w'.cell? ⟨w.heap.size,2,none⟩=some (.slice a2 n2 c2)∧w'.cell? ⟨w.heap.size,3,none⟩=some (.slice a3 n3 c3)∧w'.cell? ⟨w.heap.size,4,none⟩=some (.slice a4 n4 c4))∧Below w.heap.size w w') (fun i _=>n-(intOf i).toNat)
 case atStart=>exact⟨0,oM,rfl,rfl,⟨sG,by simp[go_sem],sG,by simp[go_sem],sG⟩,qBq⟩
 obtain⟨k,hk,rfl,HS,⟨y0,y1,y2,y3,y4⟩,hbl⟩:=hrel;have zq:w.heap.size<wr.heap.size:=wL wr _ y0;by_cases hlt:k<n
 ·
  have HA:=HX.out k hlt;have hF:=HF.out k hlt;have HH:Hid (¬ff k=0→R=ff k):=fun h=>H1.out k hlt HS.out h
  have HZ:Hid (ff k=0→fC ff (k+1)=0):=fun h=>fE HS.out h
  obtain⟨l,hl0⟩:∃l,l=xs.getD k default:=⟨_,rfl⟩
  rw[←hl0] at HA hF;clear hl0;obtain⟨b,o,p,q,rfl,g0,g1,hl⟩:=HA;have HC:Hid (bW w fun W=>Calls Tryz.prog gf #[.agg #[.slice a0 n0 c0,.slice a1 n1 c1,.slice a2 n2 c2,.slice a3 n3 c3,.slice a4 n4 c4],.slice (some ⟨b,o,none⟩) k cc,.agg #[.int .i64 l.id,.slice p l.legs.length q]] W fun e w'=>e =.returned (.int .i64 (ff k))∧Below W.heap.size W w'):=fun W hW=>hF W _ hW (contR.below ⟨_,rfl,hl⟩ hW)
  clear hF;replace g0:=cK hbl g0;replace g1:=cK hbl g1;have zb:b<wr.heap.size:=wL wr _ g0;have hti:(k:Int)<(n:Int):=oM;have hi0:(0:Int)≤(k:Int):=oM;have hi1:(k:Int)≤(cc:Int):=oM;have w1':IntKind.i64.wrap (k:Int)=k:=kD oM oM;clear hl;generalize ff k=z at *;go_wp2;refine wp_region_noPanic ?_;refine fB (fun W=>W.cell? ⟨w.heap.size,0,none⟩=some (.slice a0 n0 c0)∧W.cell? ⟨w.heap.size,1,none⟩=some (.slice a1 n1 c1)∧W.cell? ⟨w.heap.size,2,none⟩=some (.slice a2 n2 c2)∧W.cell? ⟨w.heap.size,3,none⟩=some (.slice a3 n3 c3)∧W.cell? ⟨w.heap.size,4,none⟩=some (.slice a4 n4 c4)∧W.cell? ⟨wr.heap.size,0,none⟩=some (.int .i64 l.id)∧W.cell? ⟨wr.heap.size,1,none⟩=some (.slice p l.legs.length q)) 8 kF ⟨cK qBq y0,cK qBq y1,cK qBq y2,cK qBq y3,cK qBq y4,by simp[go_sem],sG⟩ (fun hS=>?_);refine tX 0 ?_;refine tX 1 ?_;refine tX 2 ?_;refine tX 3 ?_;refine tX 4 ?_;refine tX 5 ?_;refine uS 6 rfl (fun K hK=>?_);go_simp;refine(HC.out _ qBq).mono ?_;rintro e w1 ⟨rfl,hb1⟩;have hB1:=bT w hb1;have hS1:=kS7 hb1 hS;refine hK _ _ (fun _=>hS1) ?_;clear hK K;try simp only[jX]
  refine tX 7 ?_;refine dP ?_;have Y:=And.intro hS1.1 (And.intro hS1.2.1 (And.intro hS1.2.2.1 (And.intro hS1.2.2.2.1 hS1.2.2.2.2.1)));clear hS hS1 hb1;by_cases hz:z=0
  ·subst hz;have HQ:Hid _:=HZ.out rfl;clear HZ HH;go_wp2;exact⟨⟨k+1,by omega,by go_num,HQ,Y,hB1⟩,mI⟩
  have HC:Hid _:=HH.out hz;have hz':(z !=0)=true:=by simp[hz]
  clear HZ HH;go_wp2;go_ret;exact⟨rH,hB1⟩
 obtain rfl:k=n:=oM;have hti:¬(k:Int)<(k:Int):=oM;have HC:Hid (R=0):=by show _=_;rw[←HR.out];exact HS.out
 go_wp2;go_ret;exact⟨rH,hbl⟩
theorem fPa (x:Value) (c:Clu) (gf:Nat) (ff:Nat→Int) (a:Option Addr) (n cc:Nat) (xs:List Trr) (w:World) (hx:cluR.V w x c) (eg:∀args w,(callFunc gf args).run Tryz.prog w =.ok (.enter gf args) w) (hx0:trysR.V w (.slice a n cc) xs) (hlen:xs.length=n)
  (hf:∀k,k<n→(∀W item,Below w.heap.size w W→trrR.V W item (xs.getD k default)→Calls Tryz.prog gf #[x,.slice a k cc,item] W fun e w'=>e =.returned (.int .i64 (ff k))∧Below W.heap.size W w')) :
  RI 153 #[x,.slice a n cc,.func (.func gf) #[] #[]] w (.int .i64 (fC ff n)):=by
 obtain⟨a0,a1,a2,a3,a4,c0,c1,c2,c3,c4,n0,n1,n2,n3,n4,rfl,e0,e1,e2,e3,e4,L0,L1,L2,L3,L4⟩:=gP hx;clear e0 e1 e2 e3 e4 L0 L1 L2 L3 L4 hx;subst hlen;have HA:=fDp hx0;clear hx0;obtain⟨_,hnc,hmc,HA⟩:=HA;have HX:Hid _:=HA;clear HA;unfold maxLen at hmc;have HF:Hid _:=hf;clear hf;have H1:Hid (∀k,k<xs.length→fC ff k=0→¬ff k=0→fC ff xs.length=ff k):=fun k hk hs h0=>fK hs h0 _ hk
 have H2:Hid (fC ff xs.length=fC ff xs.length):=rfl;obtain⟨R,hR⟩:∃R,R=fC ff xs.length:=⟨_,rfl⟩
 rw[←hR] at H1 H2 ⊢;have HR:Hid (fC ff xs.length=R):=hR.symm;clear hR H2;obtain⟨n,hn⟩:∃n,n=xs.length:=⟨_,rfl⟩
 rw[←hn] at HX HF H1 HR hnc ⊢;clear hn;go_enter Tryz.func153,Tryz.ntmps153;go_wp2;go_loopw [12] (fun i w'=>∃k:Nat,k≤n∧i =.int .i64 k∧Hid (fC ff k=0)∧(w'.cell? ⟨w.heap.size,0,none⟩=some (.slice a0 n0 c0)∧w'.cell? ⟨w.heap.size,1,none⟩=some (.slice a1 n1 c1)∧w'.cell? ⟨w.heap.size,2,none⟩=some (.slice a2 n2 c2)∧w'.cell? ⟨w.heap.size,3,none⟩=some (.slice a3 n3 c3)∧w'.cell? ⟨w.heap.size,4,none⟩=some (.slice a4 n4 c4))∧Below w.heap.size w w') (fun i _=>n-(intOf i).toNat)
 case atStart=>exact⟨0,oM,rfl,rfl,⟨sG,by simp[go_sem],sG,by simp[go_sem],sG⟩,qBq⟩
 obtain⟨k,hk,rfl,HS,⟨y0,y1,y2,y3,y4⟩,hbl⟩:=hrel;have zq:w.heap.size<wr.heap.size:=wL wr _ y0;by_cases hlt:k<n
 ·
  have HA:=HX.out k hlt;have hF:=HF.out k hlt;have HH:Hid (¬ff k=0→R=ff k):=fun h=>H1.out k hlt HS.out h
  have HZ:Hid (ff k=0→fC ff (k+1)=0):=fun h=>fE HS.out h
  obtain⟨l,hl0⟩:∃l,l=xs.getD k default:=⟨_,rfl⟩
  rw[←hl0] at HA hF;clear hl0;obtain⟨b,o,p,q,p',q',rfl,g0,g1,g2,g3,g4,g5,hi,hv⟩:=HA;have HC:Hid (bW w fun W=>Calls Tryz.prog gf #[.agg #[.slice a0 n0 c0,.slice a1 n1 c1,.slice a2 n2 c2,.slice a3 n3 c3,.slice a4 n4 c4],.slice (some ⟨b,o,none⟩) k cc,.agg #[.int .i64 l.con,.int .i64 l.sh,.int .i64 l.bal,.int .i64 l.val,.slice p l.frm.length q,.slice p' l.olds.length q']] W fun e w'=>e =.returned (.int .i64 (ff k))∧Below W.heap.size W w'):=fun W hW=>hF W _ hW (trrR.below ⟨_,_,rfl,hi,hv⟩ hW)
  clear hF;replace g0:=cK hbl g0;replace g1:=cK hbl g1;replace g2:=cK hbl g2;replace g3:=cK hbl g3;replace g4:=cK hbl g4;replace g5:=cK hbl g5;have zb:b<wr.heap.size:=wL wr _ g0;have hti:(k:Int)<(n:Int):=oM;have hi0:(0:Int)≤(k:Int):=oM;have hi1:(k:Int)≤(cc:Int):=oM;have w1':IntKind.i64.wrap (k:Int)=k:=kD oM oM;clear hi hv;generalize ff k=z at *;go_wp2;refine wp_region_noPanic ?_;refine fB (fun W=>W.cell? ⟨w.heap.size,0,none⟩=some (.slice a0 n0 c0)∧W.cell? ⟨w.heap.size,1,none⟩=some (.slice a1 n1 c1)∧W.cell? ⟨w.heap.size,2,none⟩=some (.slice a2 n2 c2)∧W.cell? ⟨w.heap.size,3,none⟩=some (.slice a3 n3 c3)∧W.cell? ⟨w.heap.size,4,none⟩=some (.slice a4 n4 c4)∧W.cell? ⟨wr.heap.size,0,none⟩=some (.int .i64 l.con)∧W.cell? ⟨wr.heap.size,1,none⟩=some (.int .i64 l.sh)∧W.cell? ⟨wr.heap.size,2,none⟩=some (.int .i64 l.bal)∧W.cell? ⟨wr.heap.size,3,none⟩=some (.int .i64 l.val)∧W.cell? ⟨wr.heap.size,4,none⟩=some (.slice p l.frm.length q)∧W.cell? ⟨wr.heap.size,5,none⟩=some (.slice p' l.olds.length q')) 8 kF ⟨cK qBq y0,cK qBq y1,cK qBq y2,cK qBq y3,cK qBq y4,by simp[go_sem],sG,by simp[go_sem],sG,by simp[go_sem],sG⟩ (fun hS=>?_);refine tX 0 ?_;refine tX 1 ?_;refine tX 2 ?_;refine tX 3 ?_;refine tX 4 ?_;refine tX 5 ?_;refine uS 6 rfl (fun K hK=>?_);go_simp;refine(HC.out _ qBq).mono ?_;rintro e w1 ⟨rfl,hb1⟩;have hB1:=bT w hb1;have hS1:=kS11 hb1 hS;refine hK _ _ (fun _=>hS1) ?_;clear hK K;try simp only[jX]
  refine tX 7 ?_;refine dP ?_;have Y:=And.intro hS1.1 (And.intro hS1.2.1 (And.intro hS1.2.2.1 (And.intro hS1.2.2.2.1 hS1.2.2.2.2.1)));clear hS hS1 hb1;by_cases hz:z=0
  ·subst hz;have HQ:Hid _:=HZ.out rfl;clear HZ HH;go_wp2;exact⟨⟨k+1,by omega,by go_num,HQ,Y,hB1⟩,mI⟩
  have HC:Hid _:=HH.out hz;have hz':(z !=0)=true:=by simp[hz]
  clear HZ HH;go_wp2;go_ret;exact⟨rH,hB1⟩
 obtain rfl:k=n:=oM;have hti:¬(k:Int)<(k:Int):=oM;have HC:Hid (R=0):=by show _=_;rw[←HR.out];exact HS.out
 go_wp2;go_ret;exact⟨rH,hbl⟩
theorem fO9 (x:Value) (c:Clu) (gf:Nat) (ff:Nat→Int) (a:Option Addr) (n cc:Nat) (xs:List Hrd) (w:World) (hx:cluR.V w x c) (eg:∀args w,(callFunc gf args).run Tryz.prog w =.ok (.enter gf args) w) (hx0:hrdsR.V w (.slice a n cc) xs) (hlen:xs.length=n)
  (hf:∀k,k<n→(∀W item,Below w.heap.size w W→item=hrdV (xs.getD k default)→Calls Tryz.prog gf #[x,.slice a k cc,item] W fun e w'=>e =.returned (.int .i64 (ff k))∧Below W.heap.size W w')) :
  RI 155 #[x,.slice a n cc,.func (.func gf) #[] #[]] w (.int .i64 (fC ff n)):=by
 obtain⟨a0,a1,a2,a3,a4,c0,c1,c2,c3,c4,n0,n1,n2,n3,n4,rfl,e0,e1,e2,e3,e4,L0,L1,L2,L3,L4⟩:=gP hx;clear e0 e1 e2 e3 e4 L0 L1 L2 L3 L4 hx;subst hlen;have HA:=zV hx0;clear hx0;obtain⟨_,hnc,hmc,HA⟩:=HA;have HX:Hid _:=HA;clear HA;unfold maxLen at hmc;have HF:Hid _:=hf;clear hf;have H1:Hid (∀k,k<xs.length→fC ff k=0→¬ff k=0→fC ff xs.length=ff k):=fun k hk hs h0=>fK hs h0 _ hk
 have H2:Hid (fC ff xs.length=fC ff xs.length):=rfl;obtain⟨R,hR⟩:∃R,R=fC ff xs.length:=⟨_,rfl⟩
 rw[←hR] at H1 H2 ⊢;have HR:Hid (fC ff xs.length=R):=hR.symm;clear hR H2;obtain⟨n,hn⟩:∃n,n=xs.length:=⟨_,rfl⟩
 rw[←hn] at HX HF H1 HR hnc ⊢;clear hn;go_enter Tryz.func155,Tryz.ntmps155;go_wp2;go_loopw [12] (fun i w'=>∃k:Nat,k≤n∧i =.int .i64 k∧Hid (fC ff k=0)∧(w'.cell? ⟨w.heap.size,0,none⟩=some (.slice a0 n0 c0)∧w'.cell? ⟨w.heap.size,1,none⟩=some (.slice a1 n1 c1)∧w'.cell? ⟨w.heap.size,2,none⟩=some (.slice a2 n2 c2)∧w'.cell? ⟨w.heap.size,3,none⟩=some (.slice a3 n3 c3)∧w'.cell? ⟨w.heap.size,4,none⟩=some (.slice a4 n4 c4))∧Below w.heap.size w w') (fun i _=>n-(intOf i).toNat)
 case atStart=>exact⟨0,oM,rfl,rfl,⟨sG,by simp[go_sem],sG,by simp[go_sem],sG⟩,qBq⟩
 obtain⟨k,hk,rfl,HS,⟨y0,y1,y2,y3,y4⟩,hbl⟩:=hrel;have zq:w.heap.size<wr.heap.size:=wL wr _ y0;by_cases hlt:k<n
 ·
  have HA:=HX.out k hlt;have hF:=HF.out k hlt;have HH:Hid (¬ff k=0→R=ff k):=fun h=>H1.out k hlt HS.out h
  have HZ:Hid (ff k=0→fC ff (k+1)=0):=fun h=>fE HS.out h
  obtain⟨l,hl0⟩:∃l,l=xs.getD k default:=⟨_,rfl⟩
  rw[←hl0] at HA hF;clear hl0;obtain⟨b,o,rfl,g0,g1,g2,g3,g4⟩:=HA;have HC:Hid (bW w fun W=>Calls Tryz.prog gf #[.agg #[.slice a0 n0 c0,.slice a1 n1 c1,.slice a2 n2 c2,.slice a3 n3 c3,.slice a4 n4 c4],.slice (some ⟨b,o,none⟩) k cc,.agg #[.int .i64 l.con,.int .i64 l.sh,.int .i64 l.bal,.int .i64 l.val,.int .i64 l.frm]] W fun e w'=>e =.returned (.int .i64 (ff k))∧Below W.heap.size W w'):=fun W hW=>hF W _ hW rfl
  clear hF;replace g0:=cK hbl g0;replace g1:=cK hbl g1;replace g2:=cK hbl g2;replace g3:=cK hbl g3;replace g4:=cK hbl g4;have zb:b<wr.heap.size:=wL wr _ g0;have hti:(k:Int)<(n:Int):=oM;have hi0:(0:Int)≤(k:Int):=oM;have hi1:(k:Int)≤(cc:Int):=oM;have w1':IntKind.i64.wrap (k:Int)=k:=kD oM oM;skip;generalize ff k=z at *;go_wp2;refine wp_region_noPanic ?_;refine fB (fun W=>W.cell? ⟨w.heap.size,0,none⟩=some (.slice a0 n0 c0)∧W.cell? ⟨w.heap.size,1,none⟩=some (.slice a1 n1 c1)∧W.cell? ⟨w.heap.size,2,none⟩=some (.slice a2 n2 c2)∧W.cell? ⟨w.heap.size,3,none⟩=some (.slice a3 n3 c3)∧W.cell? ⟨w.heap.size,4,none⟩=some (.slice a4 n4 c4)∧W.cell? ⟨wr.heap.size,0,none⟩=some (.int .i64 l.con)∧W.cell? ⟨wr.heap.size,1,none⟩=some (.int .i64 l.sh)∧W.cell? ⟨wr.heap.size,2,none⟩=some (.int .i64 l.bal)∧W.cell? ⟨wr.heap.size,3,none⟩=some (.int .i64 l.val)∧W.cell? ⟨wr.heap.size,4,none⟩=some (.int .i64 l.frm)) 8 kF ⟨cK qBq y0,cK qBq y1,cK qBq y2,cK qBq y3,cK qBq y4,by simp[go_sem],sG,by simp[go_sem],sG,by simp[go_sem]⟩ (fun hS=>?_);refine tX 0 ?_;refine tX 1 ?_;refine tX 2 ?_;refine tX 3 ?_;refine tX 4 ?_;refine tX 5 ?_;refine uS 6 rfl (fun K hK=>?_);go_simp;refine(HC.out _ qBq).mono ?_;rintro e w1 ⟨rfl,hb1⟩;have hB1:=bT w hb1;have hS1:=kS10 hb1 hS;refine hK _ _ (fun _=>hS1) ?_;clear hK K;try simp only[jX]
  refine tX 7 ?_;refine dP ?_;have Y:=And.intro hS1.1 (And.intro hS1.2.1 (And.intro hS1.2.2.1 (And.intro hS1.2.2.2.1 hS1.2.2.2.2.1)));clear hS hS1 hb1;by_cases hz:z=0
  ·subst hz;have HQ:Hid _:=HZ.out rfl;clear HZ HH;go_wp2;exact⟨⟨k+1,by omega,by go_num,HQ,Y,hB1⟩,mI⟩
  have HC:Hid _:=HH.out hz;have hz':(z !=0)=true:=by simp[hz]
  clear HZ HH;go_wp2;go_ret;exact⟨rH,hB1⟩
 obtain rfl:k=n:=oM;have hti:¬(k:Int)<(k:Int):=oM;have HC:Hid (R=0):=by show _=_;rw[←HR.out];exact HS.out
 go_wp2;go_ret;exact⟨rH,hbl⟩
theorem fJu (x:Value) (c:Clu) (l:Cont) (item:Value) (j:Int) (v:Value) (a:Option Addr) (k cc:Nat) (w:World) (hx:cluR.V w x c) (hi:contR.V w item l) (hk:k≤9223372036854775807) (h:∀p,k=p+1→∃b o,a=some ⟨b,o,none⟩∧w.cell? ⟨b,o+p*2,none⟩=some (.int .i64 j)∧w.cell? ⟨b,o+p*2+1,none⟩=some v) :
  RI 145 #[x,.slice a k cc,item] w (.int .i64 (orF (subF c.shards.length l) (if (decide (k=0)||decide (cmpZ j l.id<0))=true then 0 else 1))):=by
 obtain⟨u,rfl,hl⟩:=hi;have HS:Hid (bW w fun W=>RI 205 #[x,.agg #[.int .i64 l.id,u]] W (.int .i64 (subF c.shards.length l))):=fun W hW=>fEf x c l.id u l.legs W (cluR.below hx hW) (legsR.below hl hW)
 have HB:Hid (bW w fun W=>RI 206 #[.agg #[.int .i64 l.id,u],.slice a k cc,.func (.func 207) #[] #[]] W (.bool (decide (k=0)||decide (cmpZ j l.id<0)))):=fun W hW=>fKs l.id j u v a k cc W hk (fun p hp=>by
  obtain⟨b,o,h0,h1,h2⟩:=h p hp;exact⟨b,o,h0,cK hW h1,cK hW h2⟩)
 obtain⟨p,q,rfl⟩:=mM hl;clear hl h;obtain⟨a0,a1,a2,a3,a4,c0,c1,c2,c3,c4,n0,n1,n2,n3,n4,rfl,e0,e1,e2,e3,e4,L0,L1,L2,L3,L4⟩:=gP hx;clear hx e0 e1 e2 e3 e4 L0 L1 L2 L3 L4;generalize subF c.shards.length l=f at *;generalize (decide (k=0)||decide (cmpZ j l.id<0))=bh at *;generalize l.legs.length=m at *;generalize l.id=i at *;have HC1:Hid (¬f=0→orF f (if bh=true then 0 else 1)=f):=fun h=>xN h
 have HC2:Hid (f=0→orF f (if bh=true then 0 else 1)=if bh=true then 0 else 1):=fun h=>vS h
 generalize orF f (if bh=true then 0 else 1)=R at *;go_enter Tryz.func145,Tryz.ntmps145;go_wp2_with fail;refine(HS.out _ qBq).mono ?_;rintro e w1 ⟨rfl,hb1⟩;have hB1:Below w.heap.size w w1:=qBq;have t0:w1.cell? ⟨w.heap.size+1,0,none⟩=some (.int .i64 i):=cK hb1 sG;have t1:w1.cell? ⟨w.heap.size+1,1,none⟩=some (.slice p m q):=cK hb1 sG;clear hb1 HS;by_cases hf:f=0;rotate_left
 ·
  have hf':(f !=0)=true:=by simp[hf]
  have HC:Hid _:=HC1.out hf;clear HC1 HC2;go_wp2;go_ret;exact⟨rH,hB1⟩
 have HC:Hid _:=HC2.out hf;clear HC1 HC2;subst hf;go_wp2_with fail;refine(HB.out _ qBq).mono ?_;rintro e w2 ⟨rfl,hb2⟩;have hB2:=bT w hb2;clear hb2 HB;cases bh;all_goals
  go_wp2;go_ret;exact⟨rH,hB2⟩
theorem fTu (n:Nat) (cs:List Cont) (k:Nat):uQ n cs k=orF (subF n (cs.getD k default)) (if (decide (k=0)||decide (cmpZ (cs.getD (k-1) default).id (cs.getD k default).id<0))=true then 0 else 1):=by
 unfold uQ fGr;rw[show decide (cmpZ (cs.getD (k-1) default).id (cs.getD k default).id<0)=decide ((cs.getD (k-1) default).id<(cs.getD k default).id) by rw[decide_eq_decide];exact vH]
theorem fD0 (x:Value) (c:Clu) (w:World) (hx:cluR.V w x c) :
  RI 77 #[x] w (.int .i64 (vX c)):=by
 have HV:Hid (bW w fun W=>cluR.V W x c):=fun W hW=>cluR.below hx hW
 have hx':=hx;obtain⟨a0,a1,a2,a3,a4,c0,c1,c2,c3,c4,n0,n1,n2,n3,n4,rfl,e0,e1,e2,e3,e4,L0,L1,L2,L3,L4⟩:=gP hx;obtain⟨u1,u2,u3,u4,u5,eq,h1,h2,h3,h4,h5⟩:=hx';simp only[Value.agg.injEq,Array.mk.injEq,List.cons.injEq,and_true] at eq;obtain⟨rfl,rfl,rfl,rfl,rfl⟩:=eq;have eg:=enters_of Tryz.func145 kF rfl;have HA:=pE (by rw[e0];exact h1);obtain⟨hnc,hmc,HA⟩:=HA;unfold maxLen at hmc;rw[e0] at HA;have HX:Hid _:=HA;clear HA;have HF:Hid (bW w fun W=>RI 144 #[.agg #[.slice a0 n0 c0,.slice a1 n1 c1,.slice a2 n2 c2,.slice a3 n3 c3,.slice a4 n4 c4],.slice a0 n0 c0,.func (.func 145) #[] #[]] W (.int .i64 (fC (uQ c.shards.length c.cons) n0))):=fun W hW=>fO8 _ c 145 (uQ c.shards.length c.cons) a0 n0 c0 c.cons W (HV.out W hW) eg (contsR.below h1 hW) e0 (fun k hk W' item hW' hi=>by
  rw[fTu];by_cases hk0:k=0
  ·exact fJu _ c _ item _ (.int .i64 0) a0 k c0 W' (HV.out W' (bS hW hW')) hi oM (fun p hp=>oM)
  obtain⟨b,o,p',q',ha,g0,g1,_⟩:=HX.out (k-1) oM;exact fJu _ c _ item _ _ a0 k c0 W' (HV.out W' (bS hW hW')) hi oM (fun p hp=>⟨b,o,ha,cK (bS hW hW') (by rw[show p=k-1 by omega];exact g0),cK (bS hW hW') (by rw[show p=k-1 by omega];exact g1)⟩))
 have HR:Hid (vX c=fC (uQ c.shards.length c.cons) n0):=by show _=_;unfold vX;rw[e0]
 clear h1 h2 h3 h4 h5 e0 e1 e2 e3 e4 L0 L1 L2 L3 L4 eg;generalize vX c=R at *;generalize fC (uQ c.shards.length c.cons) n0=S at *;go_enter Tryz.func77,Tryz.ntmps77;go_wp2_with fail;refine(HF.out _ qBq).mono ?_;rintro e w1 ⟨rfl,hb1⟩;have hB1:Below w.heap.size w w1:=qBq;clear hb1;go_wp2;go_ret;exact⟨by rw[HR.out];rfl,hB1⟩
theorem fI0 (x:Value) (c:Clu) (w:World) (hx:cluR.V w x c) :
  RI 80 #[x] w (.int .i64 (fD9 c)):=by
 have HV:Hid (bW w fun W=>cluR.V W x c):=fun W hW=>cluR.below hx hW
 have hx':=hx;obtain⟨a0,a1,a2,a3,a4,c0,c1,c2,c3,c4,n0,n1,n2,n3,n4,rfl,e0,e1,e2,e3,e4,L0,L1,L2,L3,L4⟩:=gP hx;obtain⟨u1,u2,u3,u4,u5,eq,h1,h2,h3,h4,h5⟩:=hx';simp only[Value.agg.injEq,Array.mk.injEq,List.cons.injEq,and_true] at eq;obtain⟨rfl,rfl,rfl,rfl,rfl⟩:=eq;obtain⟨_,hnc,hmc,HA⟩:=fGb h4;unfold maxLen at hmc;have HX:Hid _:=HA;clear HA h1 h2 h3 h4 h5 hx;have H1:Hid (∀k,k<n3→fC (fun k=>ldrF (c.ldrs.getD k default)) k=0→¬ldrF (c.ldrs.getD k default)=0→fD9 c=ldrF (c.ldrs.getD k default)):=fun k hk hs h0=>by unfold fD9;exact fK (f:=fun k=>ldrF (c.ldrs.getD k default)) hs h0 _ (by rw[e3];exact hk)
 have H2:Hid (fC (fun k=>ldrF (c.ldrs.getD k default)) n3=0→fD9 c=0):=fun h=>by unfold fD9;rw[e3];exact h
 clear e0 e1 e2 e3 e4 L0 L1 L2 L4 HV;generalize fD9 c=R at *;go_enter Tryz.func80,Tryz.ntmps80;go_wp2;go_loopw [8] (fun i w'=>∃k:Nat,k≤n3∧i =.int .i64 k∧Hid (fC (fun k=>ldrF (c.ldrs.getD k default)) k=0)∧Below w.heap.size w w') (fun i _=>n3-(intOf i).toNat)
 case atStart=>exact⟨0,oM,rfl,rfl,qBq⟩
 obtain⟨k,hk,rfl,HS,hbl⟩:=hrel;by_cases hlt:k<n3
 ·
  have HA:=HX.out k hlt;have HH:Hid (¬ldrF (c.ldrs.getD k default)=0→R=ldrF (c.ldrs.getD k default)):=fun h=>H1.out k hlt HS.out h
  have HZ:Hid (ldrF (c.ldrs.getD k default)=0→fC (fun k=>ldrF (c.ldrs.getD k default)) (k+1)=0):=fun h=>fE (f:=fun k=>ldrF (c.ldrs.getD k default)) HS.out h
  obtain⟨l,hl0⟩:∃l,l=c.ldrs.getD k default:=⟨_,rfl⟩
  rw[←hl0] at HA HH HZ;clear hl0;obtain⟨b,o,p,q,p',q',rfl,g0,g1,g2,ht,hh⟩:=HA;have lt:=fAd ht;obtain⟨_,_,lh,lh2,lh3,_⟩:=hh;simp only[Value.slice.injEq] at lh;unfold maxLen at lh3;have HD:Hid (ldrF l=if inB l.count 0 400=true then (if 60<l.tries.length∨300<l.known.length then 2 else 0) else 3):=rfl;clear ht;replace g0:=cK hbl g0;replace g1:=cK hbl g1;replace g2:=cK hbl g2;have zb:b<wr.heap.size:=wL wr _ g0;have hti:(k:Int)<(n3:Int):=oM;generalize ldrF l=z at *;generalize l.count=ct at *;generalize hmt:l.tries.length=mt at *;generalize hmk:l.known.length=mk at *;clear hmt hmk;cases hc:inB ct 0 400
  ·
   have hz:z=3:=by rw[HD.out,hc];rfl
   have HC:Hid (R=3):=by show _=_;rw[←hz];exact HH.out (by rw[hz];omega)
   clear HH HZ HD hz;go_wp2_with (first|(go_at_call 152;refine(fO _ _ _ _).mono ?_;rintro e w' ⟨rfl,hw⟩;obtain rfl:=hw.symm;rw[hc]));go_ret;exact⟨rH,qBq⟩
  by_cases ht6:60<mt
  ·
   have hz:z=2:=by rw[HD.out,if_pos hc,if_pos (.inl ht6)]
   have HC:Hid (R=2):=by show _=_;rw[←hz];exact HH.out (by rw[hz];omega)
   have ht6':(60:Int)<(mt:Int):=oM;clear HH HZ HD hz;go_wp2_with (first|(go_at_call 152;refine(fO _ _ _ _).mono ?_;rintro e w' ⟨rfl,hw⟩;obtain rfl:=hw.symm;rw[hc]));go_ret;exact⟨rH,qBq⟩
  have ht6':¬(60:Int)<(mt:Int):=oM;by_cases hk3:300<mk
  ·
   have hz:z=2:=by rw[HD.out,if_pos hc,if_pos (.inr hk3)]
   have HC:Hid (R=2):=by show _=_;rw[←hz];exact HH.out (by rw[hz];omega)
   have hk3':(300:Int)<(mk:Int):=oM;clear HH HZ HD hz;go_wp2_with (first|(go_at_call 152;refine(fO _ _ _ _).mono ?_;rintro e w' ⟨rfl,hw⟩;obtain rfl:=hw.symm;rw[hc]));go_ret;exact⟨rH,qBq⟩
  have hz:z=0:=by rw[HD.out,if_pos hc,if_neg (fun h=>h.elim ht6 hk3)]
  have hk3':¬(300:Int)<(mk:Int):=oM;have HQ:Hid _:=HZ.out hz;clear HH HZ HD hz;go_wp2_with (first|(go_at_call 152;refine(fO _ _ _ _).mono ?_;rintro e w' ⟨rfl,hw⟩;obtain rfl:=hw.symm;rw[hc]));exact⟨⟨k+1,by omega,by go_num,HQ,qBq⟩,mI⟩
 obtain rfl:k=n3:=oM;have hti:¬(k:Int)<(k:Int):=oM;have HC:Hid (R=0):=H2.out HS.out;go_wp2;go_ret;exact⟨rH,hbl⟩
def hrdD (c:Clu) (t:Hrd) (bh:Bool):Int:=if hasL c t.con t.sh=true then (if (inB t.bal 0 1000=true∧inB t.val 1 2=true)∧inB t.frm 0 ((c.accs.length:Int)-1)=true then (if bh=true then 0 else 1) else 3) else 4
theorem fNg (c:Clu) (hs:List Hrd) (k:Nat):xG c hs k=hrdD c (hs.getD k default) (decide (k=0)||decide (cmpH (hs.getD (k-1) default) (hs.getD k default)<0)):=by
 unfold xG hrdD;simp only[Bool.or_eq_true,decide_eq_true_eq]
theorem fEx (x:Value) (c:Clu) (t y:Hrd) (a:Option Addr) (k cc:Nat) (w:World) (hx:cluR.V w x c) (hk:k≤9223372036854775807) (h:∀p,k=p+1→∃b o,a=some ⟨b,o,none⟩∧w.cell? ⟨b,o+p*5,none⟩=some (.int .i64 y.con)∧w.cell? ⟨b,o+p*5+1,none⟩=some (.int .i64 y.sh)∧w.cell? ⟨b,o+p*5+2,none⟩=some (.int .i64 y.bal)∧w.cell? ⟨b,o+p*5+3,none⟩=some (.int .i64 y.val)∧w.cell? ⟨b,o+p*5+4,none⟩=some (.int .i64 y.frm)) :
  RI 156 #[x,.slice a k cc,hrdV t] w (.int .i64 (hrdD c t (decide (k=0)||decide (cmpH y t<0)))):=by
 have HP:Hid (bW w fun W=>RI 151 #[x,.int .i64 t.con,.int .i64 t.sh] W (.bool (hasL c t.con t.sh))):=fun W hW=>vI x c _ _ W (cluR.below hx hW)
 have HB:Hid (bW w fun W=>RI 230 #[.agg #[.int .i64 t.con,.int .i64 t.sh,.int .i64 t.bal,.int .i64 t.val,.int .i64 t.frm],.slice a k cc,.func (.func 231) #[] #[]] W (.bool (decide (k=0)||decide (cmpH y t<0)))):=fun W hW=>fKt t y a k cc W hk (fun p hp=>by
  obtain⟨b,o,h0,h1,h2,h3,h4,h5⟩:=h p hp;exact⟨b,o,h0,cK hW h1,cK hW h2,cK hW h3,cK hW h4,cK hW h5⟩)
 clear h;obtain⟨a0,a1,a2,a3,a4,c0,c1,c2,c3,c4,n0,n1,n2,n3,n4,rfl,e0,e1,e2,e3,e4,L0,L1,L2,L3,L4⟩:=gP hx;clear hx;have HD:Hid (hrdD c t (decide (k=0)||decide (cmpH y t<0))=if hasL c t.con t.sh=true then (if (inB t.bal 0 1000=true∧inB t.val 1 2=true)∧inB t.frm 0 ((n2:Int)-1)=true then (if (decide (k=0)||decide (cmpH y t<0))=true then 0 else 1) else 3) else 4):=by show _=_;unfold hrdD;rw[e2]
 clear e0 e1 e2 e3 e4 L0 L1 L3 L4;generalize hrdD c t (decide (k=0)||decide (cmpH y t<0))=R at *;generalize (decide (k=0)||decide (cmpH y t<0))=bh at *;generalize hasL c t.con t.sh=hl at *;unfold hrdV;go_enter Tryz.func156,Tryz.ntmps156;go_wp2_with fail;refine(HP.out _ qBq).mono ?_;rintro e w1 ⟨rfl,hb1⟩;have hB1:Below w.heap.size w w1:=qBq;have y2:w1.cell? ⟨w.heap.size,2,none⟩=some (.slice a2 n2 c2):=cK hb1 sG;have t0:w1.cell? ⟨w.heap.size+1,0,none⟩=some (.int .i64 t.con):=cK hb1 sG;have t1:w1.cell? ⟨w.heap.size+1,1,none⟩=some (.int .i64 t.sh):=cK hb1 sG;have t2:w1.cell? ⟨w.heap.size+1,2,none⟩=some (.int .i64 t.bal):=cK hb1 sG;have t3:w1.cell? ⟨w.heap.size+1,3,none⟩=some (.int .i64 t.val):=cK hb1 sG;have t4:w1.cell? ⟨w.heap.size+1,4,none⟩=some (.int .i64 t.frm):=cK hb1 sG;have zt:w.heap.size+1<w1.heap.size:=wL w1 _ t0;clear hb1 HP;cases hl
 ·
  have HC:Hid (R=4):=by show _=_;rw[HD.out];rfl
  clear HD;go_wp2;go_ret;exact⟨rH,hB1⟩
 have HD2:Hid (R=if (inB t.bal 0 1000=true∧inB t.val 1 2=true)∧inB t.frm 0 ((n2:Int)-1)=true then (if bh=true then 0 else 1) else 3):=by show _=_;rw[HD.out,if_pos rfl]
 clear HD;by_cases hv:(inB t.bal 0 1000&&inB t.val 1 2)=true;rotate_left
 ·
  have hv':(inB t.bal 0 1000&&inB t.val 1 2)=false:=by simpa using hv
  have HC:Hid (R=3):=by show _=_;rw[HD2.out,if_neg (fun h=>hv (by simp[h.1.1,h.1.2]))]
  clear HD2 hv;go_wp2_with (first|(go_at_call 229;refine(qZ ⟨t.bal,t.val⟩ _).mono ?_;rintro e w' ⟨rfl,hb8⟩;rw[show votB ⟨t.bal,t.val⟩=(inB t.bal 0 1000&&inB t.val 1 2) from rfl,hv']));go_ret;exact⟨rH,qBq⟩
 have HVt:Hid (inB t.bal 0 1000=true∧inB t.val 1 2=true):=by show _∧_;simpa using hv
 go_wp2_with fail;refine(qZ ⟨t.bal,t.val⟩ _).mono ?_;rintro e w2 ⟨rfl,hb2⟩;rw[show votB ⟨t.bal,t.val⟩=(inB t.bal 0 1000&&inB t.val 1 2) from rfl,hv];have hB2:=bT w hb2;replace y2:=cK hb2 (cK qBq y2);replace t0:=cK hb2 (cK qBq t0);replace t1:=cK hb2 (cK qBq t1);replace t2:=cK hb2 (cK qBq t2);replace t3:=cK hb2 (cK qBq t3);replace t4:=cK hb2 (cK qBq t4);replace zt:w.heap.size+1<w2.heap.size:=wL w2 _ t0;clear hb2 hv hB1;cases hp:inB t.frm 0 ((n2:Int)-1)
 ·
  have HC:Hid (R=3):=by show _=_;rw[HD2.out,if_neg (fun h=>by rw[hp] at h;cases h.2)]
  clear HD2;go_wp2_with (first|(go_at_call 224;refine(qI _ _ _ _ _ L2).mono ?_;rintro e w' ⟨rfl,hw⟩;obtain rfl:=hw.symm;rw[hp]));go_ret;exact⟨rH,qBq⟩
 have HD3:Hid (R=if bh=true then 0 else 1):=by show _=_;rw[HD2.out,if_pos ⟨HVt.out,hp⟩]
 clear HD2 HVt;go_wp2_with (first|(go_at_call 224;refine(qI _ _ _ _ _ L2).mono ?_;rintro e w' ⟨rfl,hw⟩;obtain rfl:=hw.symm;rw[hp]));refine(HB.out _ qBq).mono ?_;rintro e w3 ⟨rfl,hb3⟩;have hB3:=bT w hb3;clear hb3 HB;cases bh;all_goals
  go_wp2;go_ret;exact⟨by rw[HD3.out];rfl,hB3⟩
theorem fPn (x:Value) (c:Clu) (w:World) (hx:cluR.V w x c) :
  RI 82 #[x] w (.int .i64 (yL c)):=by
 have HV:Hid (bW w fun W=>cluR.V W x c):=fun W hW=>cluR.below hx hW
 have hx':=hx;obtain⟨a0,a1,a2,a3,a4,c0,c1,c2,c3,c4,n0,n1,n2,n3,n4,rfl,e0,e1,e2,e3,e4,L0,L1,L2,L3,L4⟩:=gP hx;obtain⟨u1,u2,u3,u4,u5,eq,h1,h2,h3,h4,h5⟩:=hx';simp only[Value.agg.injEq,Array.mk.injEq,List.cons.injEq,and_true] at eq;obtain⟨rfl,rfl,rfl,rfl,rfl⟩:=eq;obtain⟨_,hnc,hmc,HA⟩:=fGb h4;unfold maxLen at hmc;have HX:Hid _:=HA;clear HA h1 h2 h3 h4 h5 hx;have H1:Hid (∀k,k<n3→fC (fun k=>qR c (c.ldrs.getD k default)) k=0→¬qR c (c.ldrs.getD k default)=0→yL c=qR c (c.ldrs.getD k default)):=fun k hk hs h0=>by unfold yL;exact fK (f:=fun k=>qR c (c.ldrs.getD k default)) hs h0 _ (by rw[e3];exact hk)
 have H2:Hid (fC (fun k=>qR c (c.ldrs.getD k default)) n3=0→yL c=0):=fun h=>by unfold yL;rw[e3];exact h
 skip
 skip
 skip
 clear e0 e1 e2 e3 e4 L0 L1 L2 L4;generalize yL c=R at *;go_enter Tryz.func82,Tryz.ntmps82;go_wp2;go_loopw [9] (fun i w'=>∃k:Nat,k≤n3∧i =.int .i64 k∧Hid (fC (fun k=>qR c (c.ldrs.getD k default)) k=0)∧(w'.cell? ⟨w.heap.size,0,none⟩=some (.slice a0 n0 c0)∧w'.cell? ⟨w.heap.size,1,none⟩=some (.slice a1 n1 c1)∧w'.cell? ⟨w.heap.size,2,none⟩=some (.slice a2 n2 c2)∧w'.cell? ⟨w.heap.size,3,none⟩=some (.slice a3 n3 c3)∧w'.cell? ⟨w.heap.size,4,none⟩=some (.slice a4 n4 c4))∧Below w.heap.size w w') (fun i _=>n3-(intOf i).toNat)
 case atStart=>exact⟨0,oM,rfl,rfl,⟨sG,by simp[go_sem],sG,by simp[go_sem],sG⟩,qBq⟩
 obtain⟨k,hk,rfl,HS,⟨y0,y1,y2,y3,y4⟩,hbl⟩:=hrel;have zq:w.heap.size<wr.heap.size:=wL wr _ y0;by_cases hlt:k<n3
 ·
  have HA:=HX.out k hlt;skip;have HH:Hid (¬qR c (c.ldrs.getD k default)=0→R=qR c (c.ldrs.getD k default)):=fun h=>H1.out k hlt HS.out h
  have HZ:Hid (qR c (c.ldrs.getD k default)=0→fC (fun k=>qR c (c.ldrs.getD k default)) (k+1)=0):=fun h=>fE (f:=fun k=>qR c (c.ldrs.getD k default)) HS.out h
  obtain⟨l,hl0⟩:∃l,l=c.ldrs.getD k default:=⟨_,rfl⟩
  rw[←hl0] at HA HH HZ;clear hl0;obtain⟨b,o,p,q,p',q',rfl,g0,g1,g2,ht,hh⟩:=HA;have HF:Hid (bW w fun W=>RI 155 #[.agg #[.slice a0 n0 c0,.slice a1 n1 c1,.slice a2 n2 c2,.slice (some ⟨b,o,none⟩) n3 c3,.slice a4 n4 c4],.slice p' l.known.length q',.func (.func 156) #[] #[]] W (.int .i64 (qR c l))):=fun W hW=>by
   have HX2:Hid _:=(zV hh).2.2.2;have hmx:=(zV hh).2.2.1;have hnx:=(zV hh).2.1;unfold maxLen at hmx;exact fO9 _ c 156 (xG c l.known) p' _ q' l.known W (HV.out W hW) (enters_of Tryz.func156 kF rfl) (hrdsR.below hh hW) rfl (fun k hk W' item hW' hi=>by
    subst hi;rw[fNg];by_cases hk0:k=0
    ·exact fEx _ c _ _ p' k q' W' (HV.out W' (bS hW hW')) oM (fun p hp=>oM)
    obtain⟨b,o,ha,k0,k1,k2,k3,k4⟩:=HX2.out (k-1) oM;exact fEx _ c _ _ p' k q' W' (HV.out W' (bS hW hW')) oM (fun p hp=>⟨b,o,ha,cK (bS hW hW') (by rw[show p=k-1 by omega];exact k0),cK (bS hW hW') (by rw[show p=k-1 by omega];exact k1),cK (bS hW hW') (by rw[show p=k-1 by omega];exact k2),cK (bS hW hW') (by rw[show p=k-1 by omega];exact k3),cK (bS hW hW') (by rw[show p=k-1 by omega];exact k4)⟩))
  clear ht hh;replace g0:=cK hbl g0;replace g1:=cK hbl g1;replace g2:=cK hbl g2;have zb:b<wr.heap.size:=wL wr _ g0;have hti:(k:Int)<(n3:Int):=oM;generalize qR c l=z at *;generalize l.count=ct at *;generalize l.tries.length=mt at *;generalize l.known.length=mk at *;go_wp2_with fail;refine(HF.out _ qBq).mono ?_;rintro e w1 ⟨rfl,hb1⟩;have hB1:=bT w hb1;have Y1:=And.intro (cK hb1 (cK qBq y0)) (And.intro (cK hb1 (cK qBq y1)) (And.intro (cK hb1 (cK qBq y2)) (And.intro (cK hb1 (cK qBq y3)) (cK hb1 (cK qBq y4)))));clear hb1 HF g0 g1 g2;by_cases hz:z=0
  ·have HQ:Hid _:=HZ.out hz;subst hz;clear HH HZ;go_wp2;exact⟨⟨k+1,by omega,by go_num,HQ,Y1,hB1⟩,mI⟩
  have HC:Hid _:=HH.out hz;have hz':(z !=0)=true:=by simp[hz]
  clear HH HZ;go_wp2;go_ret;exact⟨rH,hB1⟩
 obtain rfl:k=n3:=oM;have hti:¬(k:Int)<(k:Int):=oM;have HC:Hid (R=0):=H2.out HS.out;go_wp2;go_ret;exact⟨rH,hbl⟩
end Go.Proofs.YtbfnobcidnmohaaGreat
namespace Go.Proofs.YtbfnobcidnmohaaGreat
open Go.Shelf
def Tryz.cmpI_ren:Go.Shelf.Ren:=⟨fun|43=>226|n=>n,fun|22=>61|23=>2|3=>3|4=>4|0=>0|n=>n,fun|n=>n⟩
theorem Tryz.cmpI:Go.Proofs.SlLaysN.n43 Tryz.prog Tryz.cmpI_ren:={
 mixed:=kF
 f43:=⟨Tryz.f226.name,by decide,Tryz.func226.trans (congrArg some kF)⟩
 t0:=Tryz.underlying0
 a0:=Tryz.isAgg0
 z0:=Tryz.sizeOf0
 v0:=Tryz.zeroValue0
 t3:=Tryz.underlying3
 a3:=Tryz.isAgg3
 z3:=Tryz.sizeOf3
 v3:=Tryz.zeroValue3
 t4:=Tryz.underlying4
 a4:=Tryz.isAgg4
 z4:=Tryz.sizeOf4
 v4:=Tryz.zeroValue4
 t22:=Tryz.underlying61
 a22:=Tryz.isAgg61
 z22:=Tryz.sizeOf61
 v22:=Tryz.zeroValue61
 t23:=Tryz.underlying2
 a23:=Tryz.isAgg2
 z23:=Tryz.sizeOf2
 v23:=Tryz.zeroValue2
 i23:=by kernel_rfl}
end Go.Proofs.YtbfnobcidnmohaaGreat
namespace Go.Proofs.YtbfnobcidnmohaaGreat
open Go.RowKit Go.Sort Go.Shelf
variable [dQ Leg] [iH Leg] [dQ Rw] [iH Rw] [dQ Bal] [iH Bal] [dQ Ledg] [iH Ledg] [dQ Cont] [iH Cont] [dQ LedgR] [iH LedgR] [dQ OutcR] [iH OutcR] [dQ Mrk] [iH Mrk] [dQ Shd] [iH Shd] [dQ ShdR] [iH ShdR] [dQ Vot] [iH Vot] [dQ Slt] [iH Slt] [dQ Acc] [iH Acc] [dQ Trr] [iH Trr] [dQ Hrd] [iH Hrd] [dQ Ldr] [iH Ldr] [dQ Msg] [iH Msg] [dQ Clu] [iH Clu] [dQ SltR] [iH SltR] [dQ AccR] [iH AccR] [dQ AccsR] [iH AccsR] [dQ SltsR] [iH SltsR]
attribute [local go_sem ↓] Go.wp_at_zero Go.wp_at_succ
theorem fT4 (w:World):grow w #[]=w:=by cases w;simp[grow]
theorem fHx (v:Value) (ys:List Int) (w:World) (base:Nat) (ho:w.ownsRow base 2 1 v ys.length (gN ys)) (hbase:base≤w.heap.size) (hl:ys.length≤1048576) :
  Calls Tryz.prog 226 #[v] w fun e w'=>(∃a c,e =.returned (.slice a (Lib.compact ys).length c))∧Below base w w':=by
 rcases ho.2 with ⟨rfl,hn⟩|⟨g,cap,cur,rfl,hbg,hg,hnc,hcm,hcs,htake⟩
 ·have hy:ys=[]:=List.eq_nil_of_length_eq_zero hn;subst hy;have h:=AnyG.slices_Compact_int_empty Tryz.cmpI none 0 w;change Calls Tryz.prog 226 _ _ _ at h;refine h.mono ?_;rintro e w' ⟨rfl,hw⟩;obtain rfl:=hw.symm;exact⟨⟨_,_,rfl⟩,bR _ _⟩
 have h:=AnyG.slices_Compact_int Tryz.cmpI g 0 cap ys w (fV1 hg (by rw[Nat.mul_one] at htake;exact htake)) oM hnc;change Calls Tryz.prog 226 _ _ _ at h;refine h.mono ?_;rintro e w' ⟨rfl,q,hw⟩;refine⟨⟨_,_,rfl⟩,?_⟩;have hgr:=fV0 (w:=w) (g:=g) (n:=q) (os:=#[]) (Lib.compact ys++List.replicate (ys.length-(Lib.compact ys).length) 0).toArray;have e0:grow (putRow (Value.int .i64) (Sort.ahead w q) g 0 (Lib.compact ys++List.replicate (ys.length-(Lib.compact ys).length) 0).toArray) #[]=w':=by rw[hw];exact fT4 _
 rw[e0] at hgr;exact(bR _ _).grown hgr hbase (fun b e=>by cases e;exact hbg)
theorem fOw (zs:List Int):(Lib.compact zs).length≤zs.length:=by
 unfold Lib.compact Lib.compactUpTo;rw[List.length_map];exact Nat.le_trans (List.length_filter_le _ _) (by simp)
theorem fOx {zs:List Int} {j:Nat} (hj:j<zs.length) (h:Lib.keeps zs.toArray j=false):(Lib.compact zs).length<zs.length:=by
 unfold Lib.compact Lib.compactUpTo;rw[List.length_map];have:=List.length_filter_lt_length_iff_exists (l:=List.range zs.length) (p:=Lib.keeps zs.toArray);rw[List.length_range] at this;exact this.2 ⟨j,by simp[hj],by rw[h];simp⟩
theorem fIt {zs:List Int} {j:Nat} (hj:j+1<zs.length):Lib.keeps zs.toArray (j+1)=true↔zs.getD (j+1) 0≠zs.getD j 0:=by
 unfold Lib.keeps;rw[decide_eq_true_iff];have e1:zs.toArray[j+1]! = zs.getD (j+1) 0:=by simp[List.getD,hj]
 have e2:zs.toArray[j+1-1]! = zs.getD j 0:=by simp[List.getD,show j<zs.length by omega]
 rw[e1,e2];simp
theorem fNv {zs:List Int} (hs:∀i j,i<j→j<zs.length→zs.getD i 0≤zs.getD j 0) (ha:∀j,j+1<zs.length→zs.getD (j+1) 0≠zs.getD j 0):∀j i,i<j→j<zs.length→zs.getD i 0<zs.getD j 0
 | 0,i,h,_=>absurd h (Nat.not_lt_zero _)
 | j+1,i,h,hl=>by
  have h1:=ha j hl;have h2:=hs j (j+1) oM hl;by_cases e:i=j
  ·rw[e];omega
  have:=fNv hs ha j i oM oM;omega
theorem fVk (xs:List Int):∀i j,i<j→j<(sortI xs).length→(sortI xs).getD i 0≤(sortI xs).getD j 0:=by
 intro i j hij hj;have h:(sortI xs).Pairwise (fun a b=>decide (a≤b)=true):=List.pairwise_mergeSort (le:=fun x y=>decide (x≤y)) (fun a b c h1 h2=>by simp at h1 h2 ⊢;omega) (fun a b=>by simp;omega) xs;have:=List.pairwise_iff_getElem.1 h i j oM hj hij;simpa [List.getD,hj,show i<(sortI xs).length by omega] using this
theorem fKz (xs:List Int):(Lib.compact (sortI xs)).length<xs.length↔dupB xs=true:=by
 have hp:(sortI xs).Perm xs:=List.mergeSort_perm _ _;have hlen:=hp.length_eq;unfold dupB;rw[decide_eq_true_iff,←hlen,←hp.nodup_iff];constructor
 ·
  intro h hn;have hall:∀j,j<(sortI xs).length→Lib.keeps (sortI xs).toArray j=true:=by
   intro j hj;cases j with
   | zero=>exact Lib.keeps_lt_one _ 0 oM
   | succ j=>
    rw[fIt hj];intro e;have h2:=List.pairwise_iff_getElem.1 hn j (j+1) oM hj oM;apply h2;simpa [List.getD,hj,show j<(sortI xs).length by omega] using e.symm
  rw[Lib.compact_all _ hall] at h;omega
 intro hn;apply Classical.byContradiction;intro hc;have ha:∀j,j+1<(sortI xs).length→(sortI xs).getD (j+1) 0≠(sortI xs).getD j 0:=by
  intro j hj;rw[←fIt hj];cases hk:Lib.keeps (sortI xs).toArray (j+1) with
  | true=>rfl
  | false=>exact absurd (fOx hj hk) hc
 apply hn;rw[List.Nodup,List.pairwise_iff_getElem];intro i j hi hj hij;have:=fNv (fVk xs) ha j i hij hj;simp[List.getD,hj,hi] at this;omega
theorem fJm (xs:List Int):(sortI xs).length=xs.length:=(List.mergeSort_perm _ _).length_eq
end Go.Proofs.YtbfnobcidnmohaaGreat

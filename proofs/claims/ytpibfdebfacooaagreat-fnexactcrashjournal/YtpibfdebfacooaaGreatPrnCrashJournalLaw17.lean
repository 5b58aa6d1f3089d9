import Derived.Test.YtpibfdebfacooaaGreatShD
import Derived.Shelf.SortM.Plain
import Derived.Shelf.SortM.SortNone
import Derived.Ground.SlgmProg
import Derived.Test.YtpibfdebfacooaaGreatProg
import Derived.Defers
import Derived.Laws.Pointers
set_option maxHeartbeats 8000000
set_option maxRecDepth 100000
set_option linter.unusedSimpArgs false
set_option linter.unusedVariables false
set_option linter.unusedSectionVars false
namespace Go.Proofs.YtpibfdebfacooaaGreat
open Go.RowKit
variable [dQ Rw] [iH Rw] [dQ Bal] [iH Bal] [dQ Ledg] [iH Ledg] [dQ Leg] [iH Leg] [dQ Cont] [iH Cont] [dQ LedgR] [iH LedgR] [dQ OutcR] [iH OutcR] [dQ Mrk] [iH Mrk] [dQ Shd] [iH Shd] [dQ ShdR] [iH ShdR]
attribute [local go_sem ↓] Go.wp_at_zero Go.wp_at_succ
theorem fM1 {d:Shd} {k:Nat} (h:(qM d (d.votes.getD k default).con && !fO d.held (d.votes.getD k default).con)=false) (hf:fK (d.votes.getD k default).con d.votes=(d.votes.getD k default).val):kG d k=0:=by
 unfold kG;rw[if_neg];rintro⟨h1,h2,h3⟩;unfold qM at h;rw[hf,h1,h2,h3] at h;simp at h
theorem fQ0 {d:Shd} {k:Nat} (h:(qM d (d.votes.getD k default).con && !fO d.held (d.votes.getD k default).con)=true) (hf:fK (d.votes.getD k default).con d.votes=(d.votes.getD k default).val):kG d k=1:=by
 unfold kG;unfold qM at h;rw[hf] at h;simp at h;rw[if_pos ⟨h.1.1,by simp[h.2],h.1.2⟩]
theorem fJ9 {xs:List Mrk} (h:MrksOk xs) {k:Nat} (hk:k<xs.length):fK (xs.getD k default).con xs=(xs.getD k default).val:=by
 rw[fDs (i:=k) h.rise oM (fun j hj=>h.rise j k hj hk) (fun j hj hl=>by
  by_cases e:k=j
  ·rw[e];exact Int.le_refl _
  have:=h.rise k j oM hl;omega),if_pos ⟨hk,rfl⟩]
structure LsOk (d:Shd):Prop where
 nv:d.votes.length≤100
 nh:d.held.length≤100
 nd:d.done.length≤100
 na:d.appl.length≤100
 ov:MrksOk d.votes
 od:MrksOk d.done
theorem fL6 (B:Nat) (x:Value) (d:Shd) (m:Mrk) (w:World) (hx:shdR.V w x d) (hB:∃c0 c1 c2 c3 c4 c5,x =.agg #[c0,c1,c2,c3,c4,c5]∧w.cell? ⟨B,0,none⟩=some (c0)∧w.cell? ⟨B,1,none⟩=some (c1)∧w.cell? ⟨B,2,none⟩=some (c2)∧w.cell? ⟨B,3,none⟩=some (c3)∧w.cell? ⟨B,4,none⟩=some (c4)∧w.cell? ⟨B,5,none⟩=some (c5)) (hok:LsOk d) (hh:HeldOk d) :
  RI 237 #[.agg #[.int .i64 m.con,.int .i64 m.val],.pointer (some ⟨B,0,none⟩)] w (.bool (qM d m.con && !fO d.held m.con)):=by
 have HAw:Hid (bW w fun W=>RI 235 #[x,.int .i64 m.con] W (.bool (qM d m.con))):=fun W hW=>fGs x d m.con W (shdR.below hx hW) ⟨by have:=hok.nv;omega,by have:=hok.nd;omega⟩ hok.ov hok.od
 have HIs:Hid (bW w fun W=>RI 180 #[x,.int .i64 m.con] W (.bool (fO d.held m.con))):=fun W hW=>fG6 x d m.con W (shdR.below hx hW) (by have:=hok.nh;omega) hh.rise
 obtain⟨u1,u2,u3,u4,u5,rfl,h1,h2,h3,h4,h5⟩:=hx;obtain⟨a1,c1,rfl⟩:=fP h1;obtain⟨a2,c2,rfl⟩:=fF h2;obtain⟨a3,c3,rfl⟩:=fM h3;obtain⟨a4,c4,rfl⟩:=fF h4;obtain⟨a5,c5,rfl⟩:=gJ h5;obtain⟨q0,q1,q2,q3,q4,q5,e,y0,y1,y2,y3,y4,y5⟩:=hB;simp only[Value.agg.injEq,Array.mk.injEq,List.cons.injEq,and_true] at e;obtain⟨rfl,rfl,rfl,rfl,rfl,rfl⟩:=e;clear h1 h2 h3 h4 h5 hok hh;generalize d.bals.length=n1 at *;generalize d.votes.length=n2 at *;generalize d.held.length=n3 at *;generalize d.done.length=n4 at *;generalize d.appl.length=n5 at *;have zB:B<w.heap.size:=wL w _ y0;cases ha:qM d m.con
 ·rw[ha] at HAw;go_enter Tryz.func237,Tryz.ntmps237;go_wp2_with (first|(go_at_call 235;refine(HAw.out _ qBq).mono ?_;rintro e w1 ⟨rfl,hb1⟩));go_ret;exact⟨by rfl,qBq⟩
 rw[ha] at HAw;go_enter Tryz.func237,Tryz.ntmps237;go_wp2_with fail;refine(HAw.out _ qBq).mono ?_;rintro e w1 ⟨rfl,hb1⟩;have hB1:=bT w hb1;have g0:w1.cell? ⟨w.heap.size,0,none⟩=some (.int .i64 m.con):=cK hb1 sG;replace y0:=cK hB1 y0;replace y1:=cK hB1 y1;replace y2:=cK hB1 y2;replace y3:=cK hB1 y3;replace y4:=cK hB1 y4;replace y5:=cK hB1 y5;clear hb1;go_wp2_with (first|(go_at_call 180;refine(HIs.out _ qBq).mono ?_;rintro e w2 ⟨rfl,hb2⟩));go_ret;exact⟨by simp,qBq⟩
theorem fIu (B:Nat) (x v:Value) (d:Shd) (w:World) (hx:shdR.V w x d) (hv:mrksR.V w v d.votes) (hB:∃c0 c1 c2 c3 c4 c5,x =.agg #[c0,c1,c2,c3,c4,c5]∧w.cell? ⟨B,0,none⟩=some (c0)∧w.cell? ⟨B,1,none⟩=some (c1)∧w.cell? ⟨B,2,none⟩=some (c2)∧w.cell? ⟨B,3,none⟩=some (c3)∧w.cell? ⟨B,4,none⟩=some (c4)∧w.cell? ⟨B,5,none⟩=some (c5)) (hok:LsOk d) (hh:HeldOk d) :
  Calls Tryz.prog 247 #[v,.func (.func 237) #[] #[.pointer (some ⟨B,0,none⟩)]] w fun e w'=>∃i:Int,e =.returned (.int .i64 i)∧(0≤i↔¬fJ (kG d) d.votes.length=0)∧Below w.heap.size w w':=by
 have HF:Hid (∀W (m:Mrk),Below w.heap.size w W→RI 237 #[.agg #[.int .i64 m.con,.int .i64 m.val],.pointer (some ⟨B,0,none⟩)] W (.bool (qM d m.con && !fO d.held m.con))):=fun W m hW=>fL6 B x d m W (shdR.below hx hW) (by
  obtain⟨c0,c1,c2,c3,c4,c5,e,g0,g1,g2,g3,g4,g5⟩:=hB;exact⟨c0,c1,c2,c3,c4,c5,e,cK hW g0,cK hW g1,cK hW g2,cK hW g3,cK hW g4,cK hW g5⟩) hok hh
 obtain⟨ax,cx,rfl,hcx,hmx,hx2⟩:=hv;unfold maxLen at hmx;have HX:Hid (∀i,i<d.votes.length→∃b o,ax=some ⟨b,o,none⟩∧qJ w b (o+i*2) (d.votes.getD i default)):=hx2;have HZ:Hid (∀k,k<d.votes.length→(qM d (d.votes.getD k default).con && !fO d.held (d.votes.getD k default).con)=false→kG d k=0):=fun k hk h=>fM1 h (fJ9 hok.ov hk)
 have HO:Hid (∀k,k<d.votes.length→(qM d (d.votes.getD k default).con && !fO d.held (d.votes.getD k default).con)=true→fJ (kG d) k=0→¬fJ (kG d) d.votes.length=0):=fun k hk h hs=>by
  have h1:=fQ0 h (fJ9 hok.ov hk);rw[mW hs (by rw[h1];omega) _ hk,h1];omega
 clear hx hB hok hh hx2;generalize hn:d.votes.length=n at *;clear hn;have eg:=enters_of Tryz.func237 kF rfl;go_enter Tryz.func247,Tryz.ntmps247;go_wp2;go_loopw [8] (fun i w'=>∃k:Nat,k≤n∧i =.int .i64 k∧Hid (fJ (kG d) k=0)∧Below w.heap.size w w') (fun i _=>n-(intOf i).toNat)
 case atStart=>exact⟨0,oM,rfl,rfl,bR _ _⟩
 obtain⟨k,hk,rfl,HS,hbl⟩:=hrel;by_cases hlt:k<n
 ·
  obtain⟨bx,ox,rfl,g1⟩:=HX.out k hlt;have h1:=HZ.out k hlt;have h2:=HO.out k hlt;obtain⟨l,hl⟩:∃l,l=d.votes.getD k default:=⟨_,rfl⟩
  rw[←hl] at g1 h1 h2;have HF1:Hid (bW w fun W=>RI 237 #[.agg #[.int .i64 l.con,.int .i64 l.val],.pointer (some ⟨B,0,none⟩)] W (.bool (qM d l.con && !fO d.held l.con))):=fun W hW=>HF.out W l hW
  generalize (qM d l.con && !fO d.held l.con)=bb at *;have H1:Hid (bb=false→kG d k=0):=h1;have H2:Hid (bb=true→fJ (kG d) k=0→¬fJ (kG d) n=0):=h2;clear hl h1 h2;obtain⟨g2,g3⟩:=gF hbl g1;clear g1;cases hbb:bb
  ·have HC:Hid (fJ (kG d) (k+1)=0):=gP HS.out (H1.out hbb);rw[hbb] at HF1;clear H1 H2 HS hbb;go_wp2_with (first|(go_at_call 237;refine(HF1.out _ qBq).mono ?_;rintro e w1 ⟨rfl,hb1⟩));exact⟨⟨k+1,by omega,by go_num,HC,qBq⟩,mI⟩
  have HC:=H2.out hbb HS.out;rw[hbb] at HF1;clear H1 H2 hbb;have HCh:Hid (¬fJ (kG d) n=0):=HC;clear HC;go_wp2_with (first|(go_at_call 237;refine(HF1.out _ qBq).mono ?_;rintro e w1 ⟨rfl,hb1⟩));go_ret;exact⟨k,rfl,⟨fun _=>HCh.out,fun _=>oM⟩,qBq⟩
 have hkn:k=n:=oM;subst hkn;go_wp2;go_ret;exact⟨-1,rfl,⟨fun h=>absurd h oM,fun h=>absurd HS.out h⟩,qBq⟩
theorem fIj (x:Value) (d:Shd) (w:World) (hx:shdR.V w x d) (hok:LsOk d) (hh:HeldOk d) :
  RI 221 #[x] w (.bool (decide (¬fJ (kG d) d.votes.length=0))):=by
 have HI:Hid (∀W v,Below w.heap.size w W→mrksR.V W v d.votes→(∃c0 c1 c2 c3 c4 c5,x =.agg #[c0,c1,c2,c3,c4,c5]∧W.cell? ⟨w.heap.size,0,none⟩=some (c0)∧W.cell? ⟨w.heap.size,1,none⟩=some (c1)∧W.cell? ⟨w.heap.size,2,none⟩=some (c2)∧W.cell? ⟨w.heap.size,3,none⟩=some (c3)∧W.cell? ⟨w.heap.size,4,none⟩=some (c4)∧W.cell? ⟨w.heap.size,5,none⟩=some (c5))→Calls Tryz.prog 247 #[v,.func (.func 237) #[] #[.pointer (some ⟨w.heap.size,0,none⟩)]] W fun e w'=>∃i:Int,e =.returned (.int .i64 i)∧(0≤i↔¬fJ (kG d) d.votes.length=0)∧Below W.heap.size W w'):=fun W v hW hv hB=>fIu w.heap.size x v d W (shdR.below hx hW) hv hB hok hh
 obtain⟨u1,u2,u3,u4,u5,rfl,h1,h2,h3,h4,h5⟩:=hx;have HV:Hid (bW w fun W=>mrksR.V W u2 d.votes):=fun W hW=>mrksR.below h2 hW
 obtain⟨a1,c1,rfl⟩:=fP h1;obtain⟨a2,c2,rfl⟩:=fF h2;obtain⟨a3,c3,rfl⟩:=fM h3;obtain⟨a4,c4,rfl⟩:=fF h4;obtain⟨a5,c5,rfl⟩:=gJ h5;clear h1 h2 h3 h4 h5 hok hh;obtain⟨pz,hpz⟩:∃pz:Prop,pz=¬fJ (kG d) d.votes.length=0:=⟨_,rfl⟩
 have e9:decide (¬fJ (kG d) d.votes.length=0) = !decide (fJ (kG d) d.votes.length=0):=by simp
 rw[e9];clear e9 hpz pz;generalize d.bals.length=n1 at *;generalize d.votes.length=n2 at *;generalize d.held.length=n3 at *;generalize d.done.length=n4 at *;generalize d.appl.length=n5 at *;generalize fJ (kG d) n2=sc at *;have hmf:∀(fn:Fn) (first cap:Array Value) (w:World),(Instr.makeFunc fn first cap).run Tryz.prog w =.ok (.func fn first cap) w:=fun _ _ _ _=>rfl
 have HCF:Hid (bW w fun W=>W.cell? ⟨w.heap.size,0,none⟩=some (.int .i64 d.idx)→W.cell? ⟨w.heap.size,1,none⟩=some (.slice a1 n1 c1)→W.cell? ⟨w.heap.size,2,none⟩=some (.slice a2 n2 c2)→W.cell? ⟨w.heap.size,3,none⟩=some (.slice a3 n3 c3)→W.cell? ⟨w.heap.size,4,none⟩=some (.slice a4 n4 c4)→W.cell? ⟨w.heap.size,5,none⟩=some (.slice a5 n5 c5)→RI 236 #[.slice a2 n2 c2,.func (.func 237) #[] #[.pointer (some ⟨w.heap.size,0,none⟩)]] W (.bool (!decide (sc=0)))):=fun W hW g0 g1 g2 g3 g4 g5=>by
  have hc:=HI.out W (.slice a2 n2 c2) hW (HV.out W hW) ⟨_,_,_,_,_,_,rfl,g0,g1,g2,g3,g4,g5⟩;clear HI HV;go_enter Tryz.func236,Tryz.ntmps236;go_wp2_with fail;refine hc.mono ?_;rintro e w1 ⟨i,rfl,hi,hb1⟩;have HI1:Hid (decide (0≤i) = !decide (sc=0)):=by
   show _=_;rw[Bool.eq_iff_iff];simp;exact hi
  clear hi hc;go_wp2;go_ret;exact⟨by rw[←HI1.out];rfl,qBq⟩
 go_enter Tryz.func221,Tryz.ntmps221;go_wp2_with fail;refine(HCF.out _ qBq sG sG sG sG sG sG).mono ?_;rintro e w1 ⟨rfl,hb1⟩;go_wp2;go_ret;exact⟨rfl,qBq⟩
theorem fKk (x:Value) (d:Shd) (w:World) (hx:shdR.V w x d) (hok:LsOk d) :
  RI 220 #[x] w (.int .i64 (fJ (kC d) d.held.length)):=by
 have HAw:Hid (∀W c,Below w.heap.size w W→RI 235 #[x,.int .i64 c] W (.bool (qM d c))):=fun W c hW=>fGs x d c W (shdR.below hx hW) ⟨by have:=hok.nv;omega,by have:=hok.nd;omega⟩ hok.ov hok.od
 obtain⟨u1,u2,u3,u4,u5,rfl,h1,h2,h3,h4,h5⟩:=hx;have HX3:Hid (∃a c,u3 =.slice a d.held.length c∧d.held.length≤c∧c≤maxLen∧∀k,k<d.held.length→∃b o p q,a=some ⟨b,o,none⟩∧w.cell? ⟨b,o+k*2,none⟩=some (.int .i64 (d.held.getD k default).id)∧w.cell? ⟨b,o+k*2+1,none⟩=some (.slice p (d.held.getD k default).legs.length q)∧contR.V w (.agg #[.int .i64 (d.held.getD k default).id,.slice p (d.held.getD k default).legs.length q]) (d.held.getD k default)):=qH h3;obtain⟨a1,c1,rfl⟩:=fP h1;obtain⟨a2,c2,rfl⟩:=fF h2;obtain⟨a3,c3,rfl⟩:=fM h3;obtain⟨a4,c4,rfl⟩:=fF h4;obtain⟨a5,c5,rfl⟩:=gJ h5;obtain⟨_,_,e3,hc3,hm3,hx3⟩:=HX3.out;simp only[Value.slice.injEq,true_and] at e3;obtain⟨rfl,rfl⟩:=e3;unfold maxLen at hm3;have HX:Hid (∀k,k<d.held.length→∃b o p q,a3=some ⟨b,o,none⟩∧w.cell? ⟨b,o+k*2,none⟩=some (.int .i64 (d.held.getD k default).id)∧w.cell? ⟨b,o+k*2+1,none⟩=some (.slice p (d.held.getD k default).legs.length q)∧contR.V w (.agg #[.int .i64 (d.held.getD k default).id,.slice p (d.held.getD k default).legs.length q]) (d.held.getD k default)):=hx3;have HHe:Hid (∀k c,k<d.held.length→fJ (kC d) k=0→kC d k=c→c≠0→fJ (kC d) d.held.length=c):=fun k c hk hs h hc=>by rw[mW hs (by rw[h];exact hc) _ hk,h]
 clear h1 h2 h3 h4 h5 hok HX3 hx3;generalize d.bals.length=n1 at *;generalize d.votes.length=n2 at *;generalize d.held.length=n3 at *;generalize d.done.length=n4 at *;generalize d.appl.length=n5 at *;obtain⟨Z,hZ⟩:∃Z,Z=fJ (kC d) n3:=⟨_,rfl⟩
 have HZ:Hid (Z=fJ (kC d) n3):=hZ;rw[←hZ] at HHe ⊢;clear hZ;go_enter Tryz.func220,Tryz.ntmps220;go_wp2;go_loopw [10] (fun i w'=>∃k:Nat,k≤n3∧i =.int .i64 k∧Hid (fJ (kC d) k=0)∧(w'.cell? ⟨w.heap.size,0,none⟩=some (.int .i64 d.idx)∧w'.cell? ⟨w.heap.size,1,none⟩=some (.slice a1 n1 c1)∧w'.cell? ⟨w.heap.size,2,none⟩=some (.slice a2 n2 c2)∧w'.cell? ⟨w.heap.size,3,none⟩=some (.slice a3 n3 c3)∧w'.cell? ⟨w.heap.size,4,none⟩=some (.slice a4 n4 c4)∧w'.cell? ⟨w.heap.size,5,none⟩=some (.slice a5 n5 c5))∧Below w.heap.size w w') (fun i _=>n3-(intOf i).toNat)
 case atStart=>exact⟨0,oM,rfl,rfl,by simp[go_sem],qBq⟩
 obtain⟨k,hk,rfl,HS,⟨y0,y1,y2,y3,y4,y5⟩,hbl⟩:=hrel;have zq:w.heap.size<wr.heap.size:=wL wr _ y0;by_cases hlt:k<n3
 ·
  obtain⟨bx,ox,pp,qq,rfl,g0,g1,hV⟩:=HX.out k hlt;obtain⟨ul,hul,hvl⟩:=hV;simp only[Value.agg.injEq,Array.mk.injEq,List.cons.injEq,and_true,true_and] at hul;subst hul;have HC1:Hid (bW wr fun W=>RI 142 #[.agg #[.int .i64 (d.held.getD k default).id,.slice pp (d.held.getD k default).legs.length qq]] W (.int .i64 (fA (d.held.getD k default).id (d.held.getD k default).legs))):=fun W hW=>uG _ _ _ W (legsR.below hvl (bS hbl hW))
  have HC2:Hid (bW wr fun W=>fA (d.held.getD k default).id (d.held.getD k default).legs=0→Calls Tryz.prog 192 #[.slice pp (d.held.getD k default).legs.length qq,.int .i64 d.idx] W fun e w'=>∃v,e =.returned v∧w'.ownsRow W.heap.size 168 4 v (kH d k).length (gN (kH d k))∧Below W.heap.size W w'):=fun W hW h0=>xK _ _ _ W (legsR.below hvl (bS hbl hW)) (by have:=(fGv h0).2.2.1;omega)
  have HC3:Hid (bW wr fun W=>RI 235 #[.agg #[.int .i64 d.idx,.slice a1 n1 c1,.slice a2 n2 c2,.slice (some ⟨bx,ox,none⟩) n3 c3,.slice a4 n4 c4,.slice a5 n5 c5],.int .i64 (d.held.getD k default).id] W (.bool (qM d (d.held.getD k default).id))):=fun W hW=>HAw.out W _ (bS hbl hW)
  have HE1:Hid (¬fA (d.held.getD k default).id (d.held.getD k default).legs=0→Z=fA (d.held.getD k default).id (d.held.getD k default).legs):=fun h=>HHe.out k _ hlt HS.out (fEo h) h
  have HE2:Hid (fA (d.held.getD k default).id (d.held.getD k default).legs=0→¬(tZ d.held k=true∧¬(kH d k).length=0∧qM d (d.held.getD k default).id=true)→Z=1):=fun h h2=>HHe.out k 1 hlt HS.out (fG2 h (fun h3=>h2 ⟨h3.1,h3.2.1,by unfold qM;rw[h3.2.2.1,h3.2.2.2];rfl⟩)) oM
  have HE3:Hid (fA (d.held.getD k default).id (d.held.getD k default).legs=0→(tZ d.held k=true∧¬(kH d k).length=0∧qM d (d.held.getD k default).id=true)→fJ (kC d) (k+1)=0):=fun h h2=>gP HS.out (fKb h (by
   have h3:=h2.2.2;unfold qM at h3;simp at h3;exact⟨h2.1,h2.2.1,h3.1,h3.2⟩))
  have HPre:Hid (∀m,k=m+1→∃q,wr.cell? ⟨bx,ox+m*2,none⟩=some (.int .i64 q)∧(tZ d.held k=decide (q<(d.held.getD k default).id))):=fun m hm=>by
   obtain⟨bx',ox',_,_,he,g2,_,_⟩:=HX.out m oM;simp only[Option.some.injEq,Addr.mk.injEq,and_true] at he;obtain⟨rfl,rfl⟩:=he;refine⟨_,cK hbl g2,?_⟩;unfold tZ;rw[hm,Nat.add_sub_cancel,decide_eq_decide];constructor
   ·
    rintro(h|h)
    ·omega
    exact h
   exact .inr
  have HR0:Hid (k=0→tZ d.held k=true):=fun h=>by unfold tZ;exact decide_eq_true (.inl h)
  replace g0:=cK hbl g0;replace g1:=cK hbl g1;clear hvl HHe HS;generalize (d.held.getD k default).legs.length=ll at *;generalize fA (d.held.getD k default).id (d.held.getD k default).legs=cf at *;generalize qM d (d.held.getD k default).id=aw at *;generalize (d.held.getD k default).id=qid at *;have zb:bx<wr.heap.size:=wL wr _ g0;go_wp2_with fail;refine(HC1.out _ qBq).mono ?_;rintro e w3 ⟨rfl,hb3⟩;have hB3:=bT wr hb3;have b0:w3.cell? ⟨wr.heap.size,0,none⟩=some (.int .i64 qid):=cK hb3 sG;have b1:w3.cell? ⟨wr.heap.size,1,none⟩=some (.slice pp ll qq):=cK hb3 sG;clear hb3 HC1;by_cases hcf:cf=0;rotate_left
  ·
   have HC:=HE1.out hcf;have hcf':(cf !=0)=true:=by simp[hcf]
   clear HE1 HE2 HE3 HC2 HC3;go_wp2;go_ret;exact⟨by rw[HC];rfl,qBq⟩
  have HC2':Hid (bW wr fun W=>Calls Tryz.prog 192 #[.slice pp ll qq,.int .i64 d.idx] W fun e w'=>∃v,e =.returned v∧w'.ownsRow W.heap.size 168 4 v (kH d k).length (gN (kH d k))∧Below W.heap.size W w'):=fun W hW=>HC2.out W hW hcf
  have HE2':Hid (¬(tZ d.held k=true∧¬(kH d k).length=0∧aw=true)→Z=1):=fun h=>HE2.out hcf h
  have HE3':Hid ((tZ d.held k=true∧¬(kH d k).length=0∧aw=true)→fJ (kC d) (k+1)=0):=fun h=>HE3.out hcf h
  rw[hcf];clear HE1 HE2 HE3 HC2 hcf;replace g0:=cK hB3 g0;replace y0:=cK hB3 y0;replace y1:=cK hB3 y1;replace y2:=cK hB3 y2;replace y3:=cK hB3 y3;replace y4:=cK hB3 y4;replace y5:=cK hB3 y5;have hz3:=hB3.size;generalize hll:kH d k=lgs at *;clear hll;have HRS:Hid (tZ d.held k=true∨tZ d.held k=false):=by cases tZ d.held k <;> simp[Hid]
  cases k with
  | zero=>
   have hrs:=HR0.out rfl;rw[hrs] at HE2' HE3';simp only[Nat.zero_mul,Nat.add_zero] at g0 g1;clear HPre HR0 hrs HRS;go_wp2;go_quiet (fail);obtain⟨w4,hw4⟩:∃w4,w4=w3.drewN nq:=⟨_,rfl⟩
   have hb4:Below w3.heap.size w3 w4:=by rw[hw4];exact qN (bR _ _) _
   rw[←hw4];clear hw4;replace y0:=cK hb4 y0;replace y1:=cK hb4 y1;replace y2:=cK hb4 y2;replace y3:=cK hb4 y3;replace y4:=cK hb4 y4;replace y5:=cK hb4 y5;replace b0:=cK hb4 b0;replace b1:=cK hb4 b1;have hB4:Below wr.heap.size wr w4:=bS hB3 hb4;go_wp2_with fail;refine(HC2'.out _ hB4).mono ?_;rintro e w5 ⟨vl,rfl,ol,hb5⟩;obtain⟨al,cl,rfl⟩:=fD ol;replace y0:=cK hb5 y0;replace y1:=cK hb5 y1;replace y2:=cK hb5 y2;replace y3:=cK hb5 y3;replace y4:=cK hb5 y4;replace y5:=cK hb5 y5;replace b0:=cK hb5 b0;have hB5:Below wr.heap.size wr w5:=bS hB4 hb5;clear hb5 hb4 ol;by_cases hl0:lgs.length=0
   ·
    have hl0':(((lgs.length:Nat):Int)==0)=true:=by simp[hl0]
    have HC:=HE2'.out (fun h=>h.2.1 hl0);clear HE2' HE3' hl0;generalize lgs.length=lg at *;go_wp2;go_ret;exact⟨by rw[HC];rfl,qBq⟩
   have hl0':(((lgs.length:Nat):Int)==0)=false:=by simp;exact fun h=>hl0 (by rw[h];rfl)
   cases haw:aw
   ·have HC:=HE2'.out (fun h=>by rw[haw] at h;exact absurd h.2.2 (by decide));rw[haw] at HC3;clear HE2' HE3' hl0 haw;generalize lgs.length=lg at *;go_wp2_with (first|(go_at_call 235;refine(HC3.out _ qBq).mono ?_;rintro e w6 ⟨rfl,hb6⟩));go_ret;exact⟨by rw[HC];rfl,qBq⟩
   have HC:Hid (fJ (kC d) (0+1)=0):=HE3'.out ⟨by first|rfl|trivial,hl0,haw⟩;rw[haw] at HC3;clear HE2' HE3' hl0 haw;generalize lgs.length=lg at *;go_wp2_with fail;refine(HC3.out _ hB5).mono ?_;rintro e w6 ⟨rfl,hb6⟩;replace y0:=cK hb6 y0;replace y1:=cK hb6 y1;replace y2:=cK hb6 y2;replace y3:=cK hb6 y3;replace y4:=cK hb6 y4;replace y5:=cK hb6 y5;have hB6:Below wr.heap.size wr w6:=bS hB5 hb6;have hBw6:Below w.heap.size w w6:=bS hbl hB6;clear hb6;go_wp2;exact⟨⟨1,by omega,by go_num,HC,⟨y0,y1,y2,y3,y4,y5⟩,hBw6⟩,mI⟩
  | succ m=>
   obtain⟨q,gq,hq⟩:=HPre.out m rfl;replace gq:=cK hB3 gq;clear HPre HR0 HRS;have hw1:IntKind.i64.wrap (((m+1:Nat):Int)-1)=(m:Int):=by rw[IntKind.wrap_i64];omega
   have hw2:(((m+1:Nat):Int)-1)=(m:Int):=oM;have hw3:IntKind.i64.wrap (m:Int)=(m:Int):=qP oM oM;have e1:((m+1:Nat):Int)<n3:=oM;have e2:(m:Int)<n3:=oM;have e3:(0:Int)≤m:=oM;have e4:(((m+1:Nat):Int)==0)=false:=by simp;omega
   have e5:(0:Int)≤((m+1:Nat):Int):=oM;obtain⟨ii,hii⟩:∃ii:Nat,ii=m+1:=⟨_,rfl⟩
   have HII:Hid (ii=m+1):=hii;rw[←hii] at g0 g1 hw1 hw2 e1 e4 e5 HE2' HE3' hlt hk hq ⊢;clear hii;have e6:¬ii=0:=by have:=HII.out;omega
   by_cases hle:q<qid
   ·
    rw[decide_eq_true hle] at hq;rw[hq] at HE2' HE3';have hle':decide (q<qid)=true:=decide_eq_true hle;clear hq;go_wp2;go_quiet (fail);obtain⟨w4,hw4⟩:∃w4,w4=w3.drewN nq:=⟨_,rfl⟩
    have hb4:Below w3.heap.size w3 w4:=by rw[hw4];exact qN (bR _ _) _
    rw[←hw4];clear hw4;replace y0:=cK hb4 y0;replace y1:=cK hb4 y1;replace y2:=cK hb4 y2;replace y3:=cK hb4 y3;replace y4:=cK hb4 y4;replace y5:=cK hb4 y5;replace b0:=cK hb4 b0;replace b1:=cK hb4 b1;have hB4:Below wr.heap.size wr w4:=bS hB3 hb4;go_wp2_with fail;refine(HC2'.out _ hB4).mono ?_;rintro e w5 ⟨vl,rfl,ol,hb5⟩;obtain⟨al,cl,rfl⟩:=fD ol;replace y0:=cK hb5 y0;replace y1:=cK hb5 y1;replace y2:=cK hb5 y2;replace y3:=cK hb5 y3;replace y4:=cK hb5 y4;replace y5:=cK hb5 y5;replace b0:=cK hb5 b0;have hB5:Below wr.heap.size wr w5:=bS hB4 hb5;clear hb5 hb4 ol;by_cases hl0:lgs.length=0
    ·
     have hl0':(((lgs.length:Nat):Int)==0)=true:=by simp[hl0]
     have HC:=HE2'.out (fun h=>h.2.1 hl0);clear HE2' HE3' hl0;generalize lgs.length=lg at *;go_wp2;go_ret;exact⟨by rw[HC];rfl,qBq⟩
    have hl0':(((lgs.length:Nat):Int)==0)=false:=by simp;exact fun h=>hl0 (by rw[h];rfl)
    cases haw:aw
    ·have HC:=HE2'.out (fun h=>by rw[haw] at h;exact absurd h.2.2 (by decide));rw[haw] at HC3;clear HE2' HE3' hl0 haw;generalize lgs.length=lg at *;go_wp2_with (first|(go_at_call 235;refine(HC3.out _ qBq).mono ?_;rintro e w6 ⟨rfl,hb6⟩));go_ret;exact⟨by rw[HC];rfl,qBq⟩
    have HC:Hid (fJ (kC d) (ii+1)=0):=HE3'.out ⟨by first|rfl|trivial,hl0,haw⟩;rw[haw] at HC3;clear HE2' HE3' hl0 haw;generalize lgs.length=lg at *;go_wp2_with fail;refine(HC3.out _ hB5).mono ?_;rintro e w6 ⟨rfl,hb6⟩;replace y0:=cK hb6 y0;replace y1:=cK hb6 y1;replace y2:=cK hb6 y2;replace y3:=cK hb6 y3;replace y4:=cK hb6 y4;replace y5:=cK hb6 y5;have hB6:Below wr.heap.size wr w6:=bS hB5 hb6;have hBw6:Below w.heap.size w w6:=bS hbl hB6;clear hb6;go_wp2;exact⟨⟨ii+1,by omega,by go_num,HC,⟨y0,y1,y2,y3,y4,y5⟩,hBw6⟩,mI⟩
   rw[decide_eq_false hle] at hq;rw[hq] at HE2' HE3';have HC:=HE2'.out (fun h=>by exact absurd h.1 (by decide));have hle':decide (q<qid)=false:=decide_eq_false hle;clear hq HE2' HE3';go_wp2;go_quiet (fail);go_wp2;go_ret;exact⟨by rw[HC];rfl,qN qBq _⟩
 have hkn:k=n3:=oM;subst hkn;have HC:Hid (Z=0):=by show _=_;rw[HZ.out];exact HS.out
 go_wp2;go_ret;exact⟨rH,qBq⟩
end Go.Proofs.YtpibfdebfacooaaGreat
namespace Go.Proofs.YtpibfdebfacooaaGreat
open Go.RowKit Go.Shelf
variable [dQ Leg] [iH Leg] [dQ Rw] [iH Rw] [dQ Bal] [iH Bal] [dQ Ledg] [iH Ledg] [dQ Cont] [iH Cont] [dQ LedgR] [iH LedgR] [dQ OutcR] [iH OutcR] [dQ Mrk] [iH Mrk] [dQ Shd] [iH Shd] [dQ ShdR] [iH ShdR]
attribute [local go_sem] Oper.semAt_some
def QclC (C:List Value) (k T L0:Nat) (w W:World) (Y:Nat→Prop) (v:Value):Prop:=
 W.cell? ⟨T,0,none⟩=some v∧W.ownsRow L0 2 1 v k C∧(∀b,v.ownBlock=some b→¬Y b)∧(∀b,b≤T→¬Y b)∧L0≤W.heap.size∧W.frozen? ⟨T,0,none⟩=false∧Below T w W
theorem fUl {C:List Value} {k T L0:Nat} {w W W':World} {Y Y' F:Nat→Prop} {v:Value} (hTL:T<L0) (h:QclC C k T L0 w W Y v) (hm:Mod F W W') (hF:∀b,b≤T→¬F b) (hFv:∀b,v.ownBlock=some b→¬F b)
  (hY:∀b,b≤T→¬Y' b) (hYv:∀b,v.ownBlock=some b→¬Y' b):QclC C k T L0 w W' Y' v:=by
 obtain⟨h1,h2,h3,h4,h5,h9,h10⟩:=h;have hs:=hm.size;refine⟨hm.cell h1 (hF _ (Nat.le_refl _)),hm.owns h2 hFv,hYv,hY,by omega,(hm.frz (a:=⟨T,0,none⟩) (by dsimp only;omega) (hF _ (by dsimp only;omega))).trans h9,?_⟩;exact⟨hm.os.trans h10.os,hm.tape.trans h10.tape,hm.output.trans h10.output,Nat.le_trans h10.size hs,fun b hb=>(hm.block b oM (hF b oM)).trans (h10.block b hb)⟩
def QclI (T L0:Nat) (w:World) (pre:List Int) (W:World) (Y:Nat→Prop):Prop:=∃v,QclC (kM pre) pre.length T L0 w W Y v
theorem fUm {T L0:Nat} {w:World} (hTL:T<L0):Stb (QclI T L0 w):=by
 rintro pre W W' Y Y' ⟨v,h⟩ hm hYY hYn;have h':=h;obtain⟨h1,h2,h3,h4,h5,h9,h10⟩:=h';refine⟨v,fUl hTL h hm h4 h3 (fun b hb h2=>?_) (fun b hb hy=>?_)⟩
 ·
  rcases(hYn b h2).1 with h3|h3
  ·exact h4 b hb h3
  omega
 rcases(hYn b hy).1 with h|h
 ·exact h3 b hb h
 have:=(h2.lt b hb).2;omega
theorem fNv {C:List Value} {k T L0:Nat} {w W w5:World} {Y:Nat→Prop} {v:Value} {o:Obj} (hTL:T<L0) (h:QclC C k T L0 w W Y v) (hg:(W.alloc o).grownBy w5 v.ownBlock) :
  w5.cell? ⟨T,0,none⟩=some v∧w5.frozen? ⟨T,0,none⟩=false∧Mod (fun b=>v.ownBlock=some b) W w5:=by
 obtain⟨h1,h2,h3,h4,h5,h9,h10⟩:=h;have hm:Mod (fun b=>v.ownBlock=some b) W w5:=(uV _ W o).trans (Mod.of_grown hg);have hn:¬v.ownBlock=some T:=fun e=>by have:=(h2.lt T e).1;omega
 exact⟨hm.cell h1 hn,(hm.frz (a:=⟨T,0,none⟩) (by dsimp only;omega) hn).trans h9,hm⟩
theorem fUk {C news:List Value} {k m T L0:Nat} {w W w5:World} {Y:Nat→Prop} {v v':Value} {o:Obj} (hTL:T<L0) (h:QclC C k T L0 w W Y v) (hg:(W.alloc o).grownBy w5 v.ownBlock)
  (ho:w5.ownsRow L0 2 1 v' (k+m) (C++news)) (hv:v'.ownBlock=v.ownBlock∨v'.ownBlock=some (W.alloc o).heap.size) (hYa:∀b,Y b→b<W.heap.size) :
  QclC (C++news) (k+m) T L0 w (w5.setCell ⟨T,0,none⟩ v') Y v'∧Mod (fun b=>b=T∨v.ownBlock=some b) W (w5.setCell ⟨T,0,none⟩ v'):=by
 obtain⟨c1,c2,hm⟩:=fNv hTL h hg;obtain⟨h1,h2,h3,h4,h5,h9,h10⟩:=h;have hset:Mod (fun b=>b=T) w5 (w5.setCell ⟨T,0,none⟩ v'):=Mod.of_set w5 ⟨T,0,none⟩ v';have hM:Mod (fun b=>b=T∨v.ownBlock=some b) W (w5.setCell ⟨T,0,none⟩ v'):=(hm.mono (fun b h=>.inr h)).trans (hset.mono (fun b h=>.inl h));have hlow:∀b,b<T→¬(b=T∨v.ownBlock=some b):=by
  rintro b hb (h|h)
  ·omega
  have:=(h2.lt b h).1;omega
 have hs:=hM.size;refine⟨⟨vO c1,pI ho (by dsimp only;exact hTL) _,fun b hb hy=>?_,h4,by omega,by rw[World.frozen?_setCell];exact c2,
  ⟨hM.os.trans h10.os,hM.tape.trans h10.tape,hM.output.trans h10.output,Nat.le_trans h10.size hs,fun b hb=>(hM.block b oM (hlow b oM)).trans (h10.block b hb)⟩⟩,hM⟩
 rcases hv with hv|hv
 ·rw[hv] at hb;exact h3 b hb hy
 rw[hv] at hb;cases hb;have:=hYa _ hy;simp at this;omega
def NoQ (c:Code) (pre:List Int) (W:World) (Y:Nat→Prop):Prop:=False
theorem fWg (c:Code):Stb (NoQ c):=fun _ _ _ _ _ h _ _ _=>h
theorem fF8 (gf:Nat) (lb:Array Value) (Ok Dn:List Int→Prop) (R:Nat→Prop) (w:World) (eg:∀args w,(callFunc gf args).run Tryz.prog w =.ok (.enter gf args) w) (hseq:Seqy Tryz.prog gf lb (Value.int .i64) Ok Dn R w) (hR:∀b,R b→b<w.heap.size) (hlen:∀ys,Ok ys→ys.length≤1048576) :
  Calls Tryz.prog 248 #[.slice none 0 0,.func (.func gf) #[] lb] w fun e w'=>∃v xs,e =.returned v∧Dn xs∧w'.ownsRow w.heap.size 2 1 v xs.length (kM xs)∧Below w.heap.size w w':=by
 obtain⟨i0,hi,hz0,hz1,hz2⟩:=info_parts fCl;refine(callsIn_wide (n:=0)).1 ?_;refine callsIn_of_wp_marks Tryz.func248 rfl trivial ?_ rfl;simp only[Tryz.ntmps248,List.size_toArray,List.length_cons,List.length_nil,Nat.reduceAdd,Nat.reduceSub,Array.replicate_succ,Array.replicate_zero,List.push_toArray,List.append_toArray,List.nil_append,List.cons_append];gi_wp2;have acc:QclC (kM []) 0 w.heap.size (w.heap.size+1) w (w.alloc (.cells #[.slice none 0 0] 39)) (fun _=>False) (.slice none 0 0):=
  ⟨sG,World.ownsRow_nil _ _ _ _,fun _ _ h=>h,fun _ _ h=>h,by simp,by simp[go_sem],qBq⟩
 have hseq2:=fO6 hseq (uV (fun k=>¬R k) w (.cells #[.slice none 0 0] 39));have hRa:∀b,R b→b<(w.alloc (.cells #[.slice none 0 0] 39)).heap.size:=fun b h=>by have:=hR b h;simp;omega
 have HR:Hid (∀b,R b→b<w.heap.size):=hR;have HLE:Hid (∀ys,Ok ys→ys.length≤1048576):=hlen;have hsz:(w.alloc (.cells #[.slice none 0 0] 39)).heap.size=w.heap.size+1:=by simp
 have HSZ:Hid ((w.alloc (.cells #[.slice none 0 0] 39)).heap.size=w.heap.size+1):=hsz;clear hsz hR hseq;generalize w.alloc (.cells #[.slice none 0 0] 39)=W0 at *;obtain⟨T,hTT⟩:∃T,w.heap.size=T:=⟨_,rfl⟩
 have HTT:Hid (w.heap.size=T):=hTT;rw[hTT] at acc HR HSZ ⊢;clear hTT;obtain⟨L0,hL0⟩:∃L,T+1=L:=⟨_,rfl⟩
 rw[hL0] at acc HSZ;have hTL:T<L0:=oM;refine fLp (gf:=gf) rfl eg hseq2 hRa (QclI T L0 w) NoQ (fUm hTL) fWg (fun _=>False) (fun _ h=>h.elim) ⟨_,acc⟩
  (fun x a' _ _=>a'={tmps:=#[.slice none 0 0,.func (.func gf) #[] lb,.pointer (some ⟨T,0,none⟩),undef,.slice none 0 0,.int .i64 x,.func (.func gf) #[] lb,.int .i64 x,undef,undef,undef,undef,undef],defers:=[]})
  (fun x a' _ _ _ _ _ h _ _ _=>h) ?assign ?body ?done ?stop
 case assign=>
  intro l2 pre x W3 Y K hI hYl hYa hK;gi_wp2;exact hK _ _ (Mod.refl _ _) rfl
 case body=>
  rintro l2 pre x a' W3 Y hYl hYa ⟨vv,ha⟩ rfl hpre;have hle:pre.length≤1048576:=by have:=HLE.out _ hpre;rw[List.length_append] at this;omega
  have HP:Hid ((pre++[x]).length=pre.length+1∧kM (pre++[x])=kM pre++[.int .i64 x]):=⟨by simp,by simp[kM]⟩;have ha':=ha;obtain⟨a1,a2,a3,a4,a5,a9,a10⟩:=ha;obtain⟨ys,hys⟩:∃ys,kM pre=ys:=⟨_,rfl⟩
  obtain⟨m,hm⟩:∃m,pre.length=m:=⟨_,rfl⟩
  rw[hys,hm] at a2 HP ha';rw[hm] at hle;clear hys hm;obtain⟨av,cv,rfl⟩:=fD a2;have hzT:=wL _ _ a1;dsimp only at hzT;gi_wp2_with (gi_at_builtin;refine wpListIn_append_own_at _ rfl _ _ 39 rfl L0 2 i0 _ 1 8 Tryz.underlying39 hi hz0 hz1 hz2 rfl (by decide) _ _ _ rfl (a2.alloc _) ⟨W3.heap.size,0,none⟩ 1 1 [.int .i64 x] rfl rfl ?c1 ?c2 ?c3 ?c4 ?c5 ?_)
  case c1=>
   intro j u hj;match j,hj with
   | 0,hj=>simp at hj;subst hj;simp[Addr.add,go_sem]
   | j+1,hj=>simp at hj
  case c2=>
   intro u hu;rw[List.mem_singleton] at hu;rw[hu];rfl
  case c3=>unfold maxLen;omega
  case c4=>omega
  case c5=>simp;omega
  intro v' w5 hown' hgrow _ hown;obtain⟨g',cap',rfl⟩:=ownsRow_succ hown';obtain⟨b1,b9,_⟩:=fNv hTL ha' hgrow;obtain⟨hnew,hM⟩:=fUk hTL ha' hgrow hown' (by rw[World.size_alloc];exact hown) hYa;gi_wp2;refine⟨hM.mono (fun b h=>?_),.slice (some ⟨g',0,none⟩) (m+1) cap',?_⟩
  ·
   rcases h with rfl|h
   ·
    rintro(h2|h2)
    ·have:=HR.out _ h2;omega
    exact a4 _ (Nat.le_refl _) h2
   have:=(a2.lt b h).1;rintro(h2|h2)
   ·have:=HR.out _ h2;omega
   exact a3 b h h2
  rw[HP.out.1,HP.out.2];exact hnew
 case done=>
  rintro D W3 Y hD hYD xs hDn ⟨vv,ha⟩ hdef;obtain⟨a1,a2,a3,a4,a5,a9,a10⟩:=ha;obtain⟨av,cv,rfl⟩:=fD a2;have hsD:=HSZ.out;gi_wp2;refine⟨by simp,.inl ⟨_,_,rfl,run_takeDeferred hdef,?_⟩⟩;refine⟨.slice av xs.length cv,by simp[results,Tryz.results248,go_sem],?_⟩;have mp:Mod (fun b=>b=D) W3 (W3.putObj D (.deferred none)):=fE9 _ _ _;have hTT:=HTT.out;rw[hTT];refine⟨_,xs,rfl,hDn,rG (mp.owns a2 (fun b hb e=>a3 b hb (by rw[e];exact hYD))) oM,?_⟩;exact⟨mp.os.trans a10.os,mp.tape.trans a10.tape,mp.output.trans a10.output,Nat.le_trans a10.size mp.size,fun b hb=>(mp.block b (by have:=a10.size;omega) oM).trans (a10.block b hb)⟩
 case stop=>
  rintro D c pre W3 Y hD hYD hpre h hdef;exact h.elim
theorem fJz (gf:Nat) (lb:Array Value) (Ok Dn:List Int→Prop) (R:Nat→Prop) (w:World) (eg:∀args w,(callFunc gf args).run Tryz.prog w =.ok (.enter gf args) w) (hseq:Seqy Tryz.prog gf lb (Value.int .i64) Ok Dn R w) (hR:∀b,R b→b<w.heap.size) (hlen:∀ys,Ok ys→ys.length≤1048576) :
  Calls Tryz.prog 238 #[.func (.func gf) #[] lb] w fun e w'=>∃v xs,e =.returned v∧Dn xs∧w'.ownsRow w.heap.size 2 1 v xs.length (kM xs)∧Below w.heap.size w w':=by
 have hc:=fF8 gf lb Ok Dn R w eg hseq hR hlen;clear eg hseq;go_enter Tryz.func238,Tryz.ntmps238;go_wp2_with fail;refine hc.mono ?_;rintro e w1 ⟨v,xs,rfl,hDn,ho,hb⟩;obtain⟨av,cv,rfl⟩:=fD ho;clear hc;go_wp2;go_ret;exact⟨_,xs,rfl,hDn,ho,hb⟩
theorem fNt (Bs:Nat) (v:Value) (xs:List Int) (w:World) (hB:w.cell? ⟨Bs,0,none⟩=some v) (hT:vZ w v xs) :
  Seqy Tryz.prog 240 #[.pointer (some ⟨Bs,0,none⟩)] (Value.int .i64) (fun ys=>ys <+: xs) (fun ys=>ys=xs) (fun b=>b<w.heap.size) w:=by
 intro l J Jx W X hm hXa hJ hJx hY h0;have hBl:Bs<w.heap.size:=wL w _ hB;have hBW:=hm.cell hB (fun h=>h hBl);obtain⟨a,cap,rfl,hc1,hc2,hrow0⟩:=hT;have hrow:∀i,i<xs.length→∃b o,a=some ⟨b,o,none⟩∧b<w.heap.size∧W.cell? ⟨b,o+i,none⟩=some (.int .i64 (xs.getD i 0)):=fun i hi=>by
  obtain⟨b,o,e,hc⟩:=hrow0 i hi;have hl:b<w.heap.size:=wL w _ hc;exact⟨b,o,e,hl,hm.cell hc (fun h=>h hl)⟩
 clear hB hrow0;unfold maxLen at hc2;have HP:Hid (∀k,k<xs.length→xs.take k++[xs.getD k 0]=xs.take (k+1)):=fun k hk=>by rw[List.take_add_one,List.getElem?_eq_getElem hk];simp[List.getD,hk]
 have HA:Hid (∀k,xs.take k <+: xs):=fun k=>List.take_prefix _ _
 have HE:Hid (xs.take xs.length=xs):=List.take_length;generalize hN:xs.length=n at *;have HN:Hid (xs.length=n):=hN;clear hN;refine callsIn_of_wp Tryz.func240 rfl trivial ?_ rfl;simp only[Tryz.ntmps240,List.size_toArray,List.length_cons,List.length_nil,Nat.reduceAdd,Nat.reduceSub,Array.replicate_succ,Array.replicate_zero,List.push_toArray,List.append_toArray,List.nil_append,List.cons_append];gi_wp2;gi_loopw [7] (fun i wr=>∃k:Nat,k≤n∧i =.int .i64 k∧Hid (J (xs.take k) wr X)∧Hid (∀b,X b→b<wr.heap.size)∧Mod (fun b=>¬b<w.heap.size) W wr) (fun i _=>n-(intOf i).toNat)
 case atStart=>exact⟨0,oM,rfl,(show J [] W X from h0),hXa,Mod.refl _ _⟩
 obtain⟨k,hk,rfl,HJ,HXa,hmr⟩:=hrel;by_cases hlt:k<n
 ·
  obtain⟨b,o,rfl,hRb,hc⟩:=hrow k hlt;obtain⟨q,hq⟩:∃q,q=xs.getD k 0:=⟨_,rfl⟩
  have hP:=HP.out k hlt;rw[←hq] at hc hP;have HPk:Hid (xs.take k++[q]=xs.take (k+1)):=hP;replace hc:=hmr.cell hc (fun h=>h hRb);obtain⟨fn,tmps,assign,body,hy,hR2⟩:=hY _ q _ X HJ.out (fun _ h=>h) HXa.out (by rw[hP];exact HA.out _);clear hP hq hrow;gi_wp2;refine⟨rfl,hR2.mono ?_⟩;rintro e W3 (⟨rfl,hJ3,hk3⟩|⟨rfl,hJx3,hk3⟩)
  ·
   gi_wp2
   go_roundw
   case rel=>
    have hs:=hk3.size;refine⟨k+1,by omega,by simp,?_,fun b h=>?_,hmr.trans (hk3.mono (fun b h hr=>h (.inl hr)))⟩
    ·rw[Hid,←HPk.out];exact hJ3
    have:=HXa.out b h;omega
   case measure=>simp[intOf];omega
  gi_wp2
  refine bodyPost_ret (results_none rfl _ _ _) rfl ?_;exact⟨⟨_,rfl⟩,X,fun _ h=>h,.inr ⟨_,by rw[HPk.out];exact HA.out _,hJx3⟩⟩
 obtain rfl:k=n:=oM;gi_wp2;go_end0;refine⟨⟨_,rfl⟩,X,fun _ h=>h,.inl ⟨_,rfl,?_⟩⟩;have hj:=HJ.out;rw[HE.out] at hj;exact hj
theorem fNs (a:Option Addr) (n c:Nat) (w:World):Calls Tryz.prog 224 #[.slice a n c] w fun e w'=>e =.returned (.func (.func 240) #[] #[.pointer (some ⟨w.heap.size,0,none⟩)])∧w'=w.alloc (.cells #[.slice a n c] 39):=by
 have hmf:∀(fn:Fn) (first cap:Array Value) (w:World),(Instr.makeFunc fn first cap).run Tryz.prog w =.ok (.func fn first cap) w:=fun _ _ _ _=>rfl
 go_enter Tryz.func224,Tryz.ntmps224;go_wp2;go_ret;exact⟨rfl,rfl⟩
end Go.Proofs.YtpibfdebfacooaaGreat
namespace Go.Proofs.YtpibfdebfacooaaGreat
open Go.RowKit
variable [dQ Rw] [iH Rw] [dQ Bal] [iH Bal] [dQ Ledg] [iH Ledg] [dQ Leg] [iH Leg] [dQ Cont] [iH Cont] [dQ LedgR] [iH LedgR] [dQ OutcR] [iH OutcR] [dQ Mrk] [iH Mrk] [dQ Shd] [iH Shd] [dQ ShdR] [iH ShdR]
attribute [local go_sem ↓] Go.wp_at_zero Go.wp_at_succ
theorem fP8 (x y:Value) (xs ys:List Int) (w:World) (hx:vZ w x xs) (hy:vZ w y ys) :
  RI 222 #[x,y] w (.bool (decide (xs=ys))):=by
 obtain⟨ax,cx,rfl,hcx,hmx,hx⟩:=hx;obtain⟨ay,cy,rfl,hcy,hmy,hy⟩:=hy;unfold maxLen at hmx hmy;by_cases hl:xs.length=ys.length;rotate_left
 ·
  have e:decide (xs=ys)=false:=decide_eq_false (fun h=>hl (by rw[h]));rw[e];have hl':((xs.length:Int) !=(ys.length:Int))=true:=by simp;omega
  clear hx hy;go_enter Tryz.func222,Tryz.ntmps222;go_wp2;go_ret;exact⟨rfl,qBq⟩
 have HN:Hid (∀k,k<xs.length→¬xs.getD k 0=ys.getD k 0→decide (xs=ys)=false):=fun k hk h=>decide_eq_false (fun e=>h (by rw[e]))
 have HE:Hid ((∀k,k<xs.length→xs.getD k 0=ys.getD k 0)→decide (xs=ys)=true):=fun h=>decide_eq_true (fG3 hl.symm h)
 rw[←hl] at hcy hy ⊢;clear hl;generalize hn':xs.length=n at *;clear hn';go_enter Tryz.func222,Tryz.ntmps222;go_wp2;go_loopw [13] (fun i w'=>∃k:Nat,k≤n∧i =.int .i64 k∧Hid (∀j,j<k→xs.getD j 0=ys.getD j 0)∧Below w.heap.size w w') (fun i _=>n-(intOf i).toNat)
 case atStart=>exact⟨0,oM,rfl,fun j hj=>absurd hj oM,bR _ _⟩
 obtain⟨k,hk,rfl,HS,hbl⟩:=hrel;by_cases hlt:k<n
 ·
  obtain⟨bx,ox,rfl,g1⟩:=hx k hlt;obtain⟨by_,oy,rfl,g2⟩:=hy k hlt;replace g1:=cK hbl g1;replace g2:=cK hbl g2;have h1:=HN.out k hlt;have H2:Hid (xs.getD k 0=ys.getD k 0→∀j,j<k+1→xs.getD j 0=ys.getD j 0):=fun h j hj=>by
   by_cases e:j=k
   ·rw[e];exact h
   exact HS.out j oM
  generalize xs.getD k 0=q at *;generalize ys.getD k 0=q' at *;have H1:Hid (¬q=q'→decide (xs=ys)=false):=h1;clear h1 hx hy;have k1:(k:Int)<n:=oM;have k2:(0:Int)≤k:=oM;by_cases he:q=q'
  ·
   have HC:=H2.out he;have HC':Hid (∀j,j<k+1→xs.getD j 0=ys.getD j 0):=HC;have he':(q !=q')=false:=by simp[he]
   clear HC H1 H2 he;go_wp2;go_quiet (fail);go_wp2;exact⟨⟨k+1,by omega,by go_num,HC',qN hbl _⟩,mI⟩
  have HC:=H1.out he;have he':(q !=q')=true:=by simp[he]
  clear H1 H2 he;go_wp2;go_quiet (fail);go_wp2;go_ret;exact⟨by rw[HC];rfl,qN hbl _⟩
 have hkn:k=n:=oM;subst hkn;have HC:=HE.out HS.out;go_wp2;go_ret;exact⟨by rw[HC];rfl,qBq⟩
theorem fCf (x:Value) (d:Shd) (w:World) (hx:shdR.V w x d) (hn:d.done.length≤1000) :
  Calls Tryz.prog 225 #[x] w fun e w'=>∃v,e =.returned v∧w'.ownsRow w.heap.size 2 1 v (kE d.done).length (kM (kE d.done))∧Below w.heap.size w w':=by
 obtain⟨u1,u2,u3,u4,u5,rfl,h1,h2,h3,h4,h5⟩:=hx;obtain⟨a1,c1,rfl⟩:=fP h1;obtain⟨a2,c2,rfl⟩:=fF h2;obtain⟨a3,c3,rfl⟩:=fM h3;obtain⟨a4,c4,rfl,hc4,hm4,hx4⟩:=h4;obtain⟨a5,c5,rfl⟩:=gJ h5;unfold maxLen at hm4;have HX:Hid (∀i,i<d.done.length→∃b o,a4=some ⟨b,o,none⟩∧qJ w b (o+i*2) (d.done.getD i default)):=hx4;have HDs:Hid (∀k,k<d.done.length→kE (d.done.take (k+1))=if (d.done.getD k default).val=1 then kE (d.done.take k)++[(d.done.getD k default).con] else kE (d.done.take k)):=fun k hk=>fGz hk
 have HDe:Hid (kE (d.done.take d.done.length)=kE d.done):=by show _=_;rw[List.take_length]
 have HDl:Hid (∀k,(kE (d.done.take k)).length≤k):=fun k=>Nat.le_trans (fOa _) (by rw[List.length_take];omega)
 clear h1 h2 h3 h5 hx4;generalize d.bals.length=n1 at *;generalize d.votes.length=n2 at *;generalize d.held.length=n3 at *;generalize d.done.length=n4 at *;generalize d.appl.length=n5 at *;obtain⟨i0,hi0,hz0,hzz1,hzz2⟩:=info_parts fCl;have HI0:Hid (Tryz.prog.info? 2=some i0∧i0.zero=some (.int .i64 0)∧i0.size=1∧i0.bytes=8):=⟨hi0,hz0,hzz1,hzz2⟩;clear hi0 hz0 hzz1 hzz2;go_enter Tryz.func225,Tryz.ntmps225;go_wp2;go_loopw [3,9] (fun s i w'=>∃(k m:Nat) (p:Option Addr) (q:Nat),k≤n4∧s =.slice p m q∧i =.int .i64 k∧Hid ((kE (d.done.take k)).length=m)∧Hid (w'.ownsRow w.heap.size 2 1 (.slice p m q) m (kM (kE (d.done.take k))))∧Below w.heap.size w w') (fun s i _=>n4-(intOf i).toNat)
 case atStart=>exact⟨0,0,none,0,Nat.zero_le _,rfl,rfl,by show(kE (d.done.take 0)).length=0;simp[kE],by show World.ownsRow _ _ _ _ _ _ _;exact World.ownsRow_nil _ _ _ _,qBq⟩
 obtain⟨k,m,p,q,hk,rfl,rfl,HM,HO,hbl⟩:=hrel;by_cases hlt:k<n4
 ·
  obtain⟨bx,ox,rfl,g1⟩:=HX.out k hlt;have h1:=HDs.out k hlt;have hl:=HDl.out k;obtain⟨l,hl'⟩:∃l,l=d.done.getD k default:=⟨_,rfl⟩
  rw[←hl'] at g1 h1;have H1:Hid (kE (d.done.take (k+1))=if l.val=1 then kE (d.done.take k)++[l.con] else kE (d.done.take k)):=h1;clear hl' h1;obtain⟨g2,g3⟩:=gF hbl g1;have zb:bx<wr.heap.size:=wL wr _ g2;have hmk:m≤k:=by rw[←HM.out];exact hl
  clear hl g1;by_cases he:l.val=1
  ·
   have he':(l.val==1)=true:=by simp[he]
   have HD:Hid (kE (d.done.take (k+1))=kE (d.done.take k)++[l.con]):=by show _=_;rw[H1.out,if_pos he]
   clear H1;rw[he] at g3;have hobl:∀b',(Value.slice p m q).ownBlock=some b'→w.heap.size≤b'∧b'<wr.heap.size:=fun b' h=>HO.out.lt b' h
   have HOl:Hid (∀b',(Value.slice p m q).ownBlock=some b'→w.heap.size≤b'∧b'<wr.heap.size):=hobl;clear hobl;go_wp2_with (at_builtin;refine wpList_append_own_at _ rfl _ _ 39 rfl w.heap.size 2 i0 _ 1 8 Tryz.underlying39 HI0.out.1 HI0.out.2.1 HI0.out.2.2.1 HI0.out.2.2.2 rfl (by decide) _ m (kM (kE (d.done.take k))) rfl (fV HO.out (bA (bA (bR _ _) _) _)) ⟨wr.heap.size+1,0,none⟩ 1 1 [.int .i64 l.con] rfl rfl ?c1 ?c2 ?c3 ?c4 ?c5 ?_)
   case c1=>
    intro j u hj;match j,hj with
    | 0,hj=>simp at hj;subst hj;simp[Addr.add,go_sem]
    | j+1,hj=>simp at hj
   case c2=>
    intro u hu;rw[List.mem_singleton] at hu;rw[hu];rfl
   case c3=>unfold maxLen;omega
   case c4=>omega
   case c5=>have:=hbl.size;simp;omega
   intro v6 w6 o6 g6 _ l6;obtain⟨a6,c6,rfl⟩:=fD o6;have hB6:Below w.heap.size w w6:=((bA (bA hbl _) _)).grown g6 (by have:=hbl.size;simp;omega) (fun b' h=>(HOl.out b' h).1);have HO6:Hid (w6.ownsRow w.heap.size 2 1 (.slice a6 (m+1) c6) (m+1) (kM (kE (d.done.take (k+1))))):=by
    show World.ownsRow _ _ _ _ _ _ _;rw[HD.out];have e:kM (kE (d.done.take k)++[l.con])=kM (kE (d.done.take k))++[.int .i64 l.con]:=by simp[kM]
    rw[e];exact o6
   have HM6:Hid ((kE (d.done.take (k+1))).length=m+1):=by show _=_;rw[HD.out,List.length_append,HM.out];rfl
   clear o6 g6 l6;go_wp2;exact⟨⟨k+1,m+1,a6,c6,by omega,rfl,by go_num,HM6,HO6,hB6⟩,mI⟩
  have he':(l.val==1)=false:=by simp[he]
  have HD:Hid (kE (d.done.take (k+1))=kE (d.done.take k)):=by show _=_;rw[H1.out,if_neg he]
  have HM6:Hid ((kE (d.done.take (k+1))).length=m):=by show _=_;rw[HD.out,HM.out]
  clear H1;go_wp2;refine⟨⟨k+1,m,p,q,by omega,rfl,by go_num,HM6,?_,qBq⟩,mI⟩;show World.ownsRow _ _ _ _ _ _ _;rw[HD.out];exact fV HO.out qBq
 have hkn:k=n4:=oM;subst hkn;have ho:=HO.out;have hm:=HM.out;rw[HDe.out] at ho hm;have HOe:Hid (wr.ownsRow w.heap.size 2 1 (.slice p m q) m (kM (kE d.done))):=ho;have HMe:Hid ((kE d.done).length=m):=hm;clear ho hm HO HM;go_wp2;go_ret;exact⟨_,rfl,by rw[HMe.out];exact HOe.out,qBq⟩
end Go.Proofs.YtpibfdebfacooaaGreat
namespace Go.Proofs.YtpibfdebfacooaaGreat
open Go.Shelf
def Tryz.sortI_ren:Go.Shelf.Ren:=⟨fun|5=>239|8=>250|7=>249|19=>263|20=>264|10=>254|11=>255|12=>256|13=>257|14=>258|15=>259|16=>260|17=>261|18=>262|30=>273|31=>274|32=>275|33=>276|34=>277|35=>230|40=>281|n=>n,fun|23=>39|25=>2|3=>3|32=>174|22=>39|0=>0|44=>287|46=>173|4=>4|36=>281|35=>280|41=>220|5=>5|9=>9|53=>294|57=>298|63=>302|64=>303|n=>n,fun|n=>n⟩
theorem Tryz.sortI:Go.Proofs.SlLaysM.n5 Tryz.prog Tryz.sortI_ren:={
 mixed:=kF
 f5:=⟨Tryz.f239.name,by decide,Tryz.func239.trans (congrArg some kF)⟩
 f7:=⟨Tryz.f249.name,by decide,Tryz.func249.trans (congrArg some kF)⟩
 f8:=Tryz.func250.trans (congrArg some kF)
 f10:=⟨Tryz.f254.name,by decide,Tryz.func254.trans (congrArg some kF)⟩
 f11:=⟨Tryz.f255.name,by decide,Tryz.func255.trans (congrArg some kF)⟩
 f12:=⟨Tryz.f256.name,by decide,Tryz.func256.trans (congrArg some kF)⟩
 f13:=⟨Tryz.f257.name,by decide,Tryz.func257.trans (congrArg some kF)⟩
 f14:=⟨Tryz.f258.name,by decide,Tryz.func258.trans (congrArg some kF)⟩
 f15:=⟨Tryz.f259.name,by decide,Tryz.func259.trans (congrArg some kF)⟩
 f16:=⟨Tryz.f260.name,by decide,Tryz.func260.trans (congrArg some kF)⟩
 f17:=⟨Tryz.f261.name,by decide,Tryz.func261.trans (congrArg some kF)⟩
 f18:=⟨Tryz.f262.name,by decide,Tryz.func262.trans (congrArg some kF)⟩
 f19:=Tryz.func263.trans (congrArg some kF)
 f20:=Tryz.func264.trans (congrArg some kF)
 f30:=⟨Tryz.f273.name,by decide,Tryz.func273.trans (congrArg some kF)⟩
 f31:=Tryz.func274.trans (congrArg some kF)
 f32:=Tryz.func275.trans (congrArg some kF)
 f33:=⟨Tryz.f276.name,by decide,Tryz.func276.trans (congrArg some kF)⟩
 f34:=⟨Tryz.f277.name,by decide,Tryz.func277.trans (congrArg some kF)⟩
 f35:=⟨Tryz.f230.name,by decide,Tryz.func230.trans (congrArg some kF)⟩
 f40:=⟨Tryz.f281.name,by decide,Tryz.func281.trans (congrArg some kF)⟩
 t0:=Tryz.underlying0
 a0:=Tryz.isAgg0
 z0:=Tryz.sizeOf0
 v0:=Tryz.zeroValue0
 t3:=Tryz.underlying3
 a3:=Tryz.isAgg3
 z3:=Tryz.sizeOf3
 v3:=Tryz.zeroValue3
 t4:=Tryz.underlying4
 a4:=Tryz.isAgg4
 z4:=Tryz.sizeOf4
 v4:=Tryz.zeroValue4
 t5:=Tryz.underlying5
 a5:=Tryz.isAgg5
 z5:=Tryz.sizeOf5
 v5:=Tryz.zeroValue5
 t9:=Tryz.underlying9
 a9:=Tryz.isAgg9
 z9:=Tryz.sizeOf9
 v9:=Tryz.zeroValue9
 t22:=Tryz.underlying39
 a22:=Tryz.isAgg39
 z22:=Tryz.sizeOf39
 v22:=Tryz.zeroValue39
 t23:=Tryz.underlying39
 a23:=Tryz.isAgg39
 z23:=Tryz.sizeOf39
 v23:=Tryz.zeroValue39
 t25:=Tryz.underlying2
 a25:=Tryz.isAgg2
 z25:=Tryz.sizeOf2
 v25:=Tryz.zeroValue2
 t32:=Tryz.underlying174
 a32:=Tryz.isAgg174
 z32:=Tryz.sizeOf174
 v32:=Tryz.zeroValue174
 t35:=Tryz.underlying280
 a35:=Tryz.isAgg280
 z35:=Tryz.sizeOf280
 v35:=Tryz.zeroValue280
 t36:=Tryz.underlying281
 a36:=Tryz.isAgg281
 z36:=Tryz.sizeOf281
 v36:=Tryz.zeroValue281
 t41:=Tryz.underlying220
 a41:=Tryz.isAgg220
 z41:=Tryz.sizeOf220
 v41:=Tryz.zeroValue220
 t44:=Tryz.underlying287
 a44:=Tryz.isAgg287
 z44:=Tryz.sizeOf287
 v44:=Tryz.zeroValue287
 t46:=Tryz.underlying173
 a46:=Tryz.isAgg173
 z46:=Tryz.sizeOf173
 v46:=Tryz.zeroValue173
 t53:=Tryz.underlying294
 a53:=Tryz.isAgg294
 z53:=Tryz.sizeOf294
 v53:=Tryz.zeroValue294
 t57:=Tryz.underlying298
 a57:=Tryz.isAgg298
 z57:=Tryz.sizeOf298
 v57:=Tryz.zeroValue298
 t63:=Tryz.underlying302
 a63:=Tryz.isAgg302
 z63:=Tryz.sizeOf302
 v63:=Tryz.zeroValue302
 t64:=Tryz.underlying303
 a64:=Tryz.isAgg303
 z64:=Tryz.sizeOf303
 v64:=Tryz.zeroValue303}
end Go.Proofs.YtpibfdebfacooaaGreat
namespace Go.Proofs.YtpibfdebfacooaaGreat
open Go.RowKit Go.Sort Go.Shelf
variable [dQ Leg] [iH Leg] [dQ Rw] [iH Rw] [dQ Bal] [iH Bal] [dQ Ledg] [iH Ledg] [dQ Cont] [iH Cont] [dQ LedgR] [iH LedgR] [dQ OutcR] [iH OutcR] [dQ Mrk] [iH Mrk] [dQ Shd] [iH Shd] [dQ ShdR] [iH ShdR]
attribute [local go_sem ↓] Go.wp_at_zero Go.wp_at_succ
theorem fXu {w:World} {g:Nat} {cur:Array Value} {e:TypeId} {ss:List Int} (hb:w.heap[g]? = some (.cells cur e (0,0))) (ht:cur.toList.take ss.length=ss.map (Value.int .i64)):Go.Sort.Holds (Value.int .i64) w g 0 ss.toArray:=by
 intro j hj;have hj':j<ss.length:=by simpa using hj
 refine⟨?_,by simp[World.frozen?,hb]⟩;have h1:(cur.toList.take ss.length)[j]? = (ss.map (Value.int .i64))[j]?:=by rw[ht]
 rw[List.getElem?_take_of_lt hj'] at h1;simp only[World.cell?,hb,Nat.zero_add];rw[←Array.getElem?_toList,h1];simp[hj']
theorem fYa {w:World} {g n:Nat} {os:Array Obj} {cur:Array Value} {e:TypeId} {fr:Nat × Nat} (d:Array Int) (hb:w.heap[g]? = some (.cells cur e fr)) :
  (grow (putRow (Value.int .i64) (Sort.ahead w n) g 0 d) os).heap[g]? = some (.cells (putCells (Value.int .i64) 0 d cur) e fr):=by
 have hg:g<w.heap.size:=(Array.getElem?_eq_some_iff.1 hb).1;rw[heap_grow_old _ _ (by simpa using hg)];simp[putRow,mapBlock,Sort.ahead,Array.getElem?_modify,hb,onCells]
theorem fXs {w:World} {g n:Nat} {os:Array Obj} (d:Array Int):w.grownBy (grow (putRow (Value.int .i64) (Sort.ahead w n) g 0 d) os) (some g):=by
 refine⟨rfl,rfl,rfl,by simp,fun k hk hne=>?_⟩;rw[heap_grow_old _ _ (by simpa using hk)];have:g≠k:=fun e=>hne (by rw[e])
 simp[putRow,mapBlock,Sort.ahead,Array.getElem?_modify,this]
theorem fYh (cur:Array Value) (ts:List Int) (h:ts.length≤cur.size):(putCells (Value.int .i64) 0 ts.toArray cur).toList.take ts.length=ts.map (Value.int .i64):=by
 apply List.ext_getElem?;intro j;by_cases hj:j<ts.length
 ·rw[List.getElem?_take_of_lt hj,Array.getElem?_toList];simp[putCells,hj,show j<cur.size by omega]
 rw[List.getElem?_take_eq_none oM,List.getElem?_eq_none (by simp;omega)]
theorem fYd {w:World} {base g cap n:Nat} {e:TypeId} {os:Array Obj} {cur:Array Value} {ss ts:List Int} (hl:ts.length=ss.length) (hbase:base≤g) (hb:w.heap[g]? = some (.cells cur e (0,0)))
  (h1:ss.length≤cap) (h2:cap≤maxLen) (h3:cur.size=cap*1) :
  (grow (putRow (Value.int .i64) (Sort.ahead w n) g 0 ts.toArray) os).ownsRow base e 1 (.slice (some ⟨g,0,none⟩) ss.length cap) ss.length (ts.map (Value.int .i64)):=
 ⟨by simp[hl],.inr ⟨g,cap,_,rfl,hbase,fYa _ hb,h1,h2,by simp[putCells,h3],by rw[Nat.mul_one,←hl];exact fYh cur ts oM⟩⟩
def sortI (xs:List Int):List Int:=xs.mergeSort (fun x y=>decide (x≤y))
theorem fNe (a:Option Addr) (n c:Nat) (xs:List Int) (w:World) (hx:vZ w (.slice a n c) xs) (Bs:Nat) (hB:w.cell? ⟨Bs,0,none⟩=some (.slice a n c)) (hl:xs.length≤1048576) :
  Calls Tryz.prog 223 #[.func (.func 240) #[] #[.pointer (some ⟨Bs,0,none⟩)]] w fun e w'=>∃v,e =.returned v∧w'.ownsRow w.heap.size 2 1 v (sortI xs).length (kM (sortI xs))∧Go.RowKit.Below w.heap.size w w':=by
 have eg:=enters_of Tryz.func240 kF rfl;have hc:=fJz 240 #[.pointer (some ⟨Bs,0,none⟩)] _ _ _ w eg (fNt Bs _ xs w hB hx) (fun b h=>h) (fun ys h=>by have:=h.length_le;omega);clear eg hx hB;go_enter Tryz.func223,Tryz.ntmps223;go_wp2_with fail;refine hc.mono ?_;rintro e w1 ⟨v,ys,rfl,rfl,ho,hb⟩;clear hc;have hlen:(sortI ys).length=ys.length:=by unfold sortI;exact(List.mergeSort_perm _ _).length_eq
 rcases ho.2 with ⟨rfl,hn⟩|⟨g,cap,cur,rfl,hbg,hg,hnc,hcm,hcs,htake⟩
 ·
  have hx:ys=[]:=List.eq_nil_of_length_eq_zero hn;subst hx;go_wp2_with fail;refine(AnyM.slices_Sort_int_none Tryz.sortI none 0 w1).mono ?_;rintro e w2 ⟨rfl,hw2⟩;obtain rfl:=hw2.symm;have e0:sortI []=[]:=by unfold sortI;simp
  go_wp2;go_ret;exact⟨_,rfl,by rw[e0];exact ho,hb⟩
 have hgl:g<w1.heap.size:=(Array.getElem?_eq_some_iff.1 hg).1;have hcon:=AnyM.slices_Sort_int Tryz.sortI g 0 cap ys w1 (fXu hg (by rw[Nat.mul_one] at htake;exact htake)) hgl oM;have HOw:Hid (∀k os,(grow (putRow (Value.int .i64) (Sort.ahead w1 k) g 0 (ys.mergeSort fun x y=>decide (x≤y)).toArray) os).ownsRow w.heap.size 2 1 (.slice (some ⟨g,0,none⟩) ys.length cap) (sortI ys).length (kM (sortI ys))):=fun k os=>by
  have h:=fYd (w:=w1) (base:=w.heap.size) (g:=g) (cap:=cap) (n:=k) (os:=os) (ss:=ys) (ts:=sortI ys) hlen hbg hg hnc hcm hcs;rw[hlen];exact h
 have HBl:Hid (∀k os,Go.RowKit.Below w.heap.size w (grow (putRow (Value.int .i64) (Sort.ahead w1 k) g 0 (ys.mergeSort fun x y=>decide (x≤y)).toArray) os)):=fun k os=>hb.grown (fXs _) hb.size (fun b e=>by cases e;exact hbg)
 change Calls Tryz.prog 239 _ _ _ at hcon
 obtain⟨m,hm⟩:∃m,m=ys.length:=⟨_,rfl⟩
 rw[←hm] at hcon HOw ⊢;clear hm ho hlen htake hnc;go_wp2_with fail;refine hcon.mono ?_;rintro e w2 ⟨rfl,k,os,hw2⟩;have o2:=HOw.out k os;have b2:=HBl.out k os;rw[←hw2] at o2 b2;have HO2:Hid (w2.ownsRow w.heap.size 2 1 (.slice (some ⟨g,0,none⟩) m cap) (sortI ys).length (kM (sortI ys))):=o2;clear hcon hw2 o2 HOw HBl;go_wp2;go_ret;exact⟨_,rfl,HO2.out,b2⟩
end Go.Proofs.YtpibfdebfacooaaGreat
namespace Go.Proofs.YtpibfdebfacooaaGreat
open Go.RowKit
variable [dQ Rw] [iH Rw] [dQ Bal] [iH Bal] [dQ Ledg] [iH Ledg] [dQ Leg] [iH Leg] [dQ Cont] [iH Cont] [dQ LedgR] [iH LedgR] [dQ OutcR] [iH OutcR] [dQ Mrk] [iH Mrk] [dQ Shd] [iH Shd] [dQ ShdR] [iH ShdR]
attribute [local go_sem ↓] Go.wp_at_zero Go.wp_at_succ
theorem fGm (i:Int) (x:Value) (xs:List Bal) (w:World) (hx:balsR.V w x xs) :
  RI 67 #[.int .i64 i,x] w (.int .i64 (pW i xs)):=by
 have HB:Hid (bW w fun W=>RI 112 #[x] W (.int .i64 (gY xs))):=fun W hW=>yP x xs W (balsR.below hx hW)
 obtain⟨a,c,rfl⟩:=fP hx;clear hx;generalize xs.length=n at *;unfold pW;cases h:inB i 0 2
 ·go_enter Tryz.func67,Tryz.ntmps67;go_wp2_with (first|(go_at_call 111;refine(uT _ _).mono ?_;rintro e w' ⟨rfl,rfl⟩;rw[h]));go_ret;exact⟨rfl,qBq⟩
 go_enter Tryz.func67,Tryz.ntmps67;go_wp2_with (first|(go_at_call 111;refine(uT _ _).mono ?_;rintro e w' ⟨rfl,rfl⟩;rw[h])|(go_at_call 112;refine(HB.out _ qBq).mono ?_;rintro e w' ⟨rfl,hb1⟩));go_ret;exact⟨rfl,qBq⟩
def mx4 (x y z u:Int):Int:=if u>(if z>(if y>x then y else x) then z else (if y>x then y else x)) then u else (if z>(if y>x then y else x) then z else (if y>x then y else x))
theorem mx4_gt {x y z u:Int}:100<mx4 x y z u↔(100<x∨100<y∨100<z∨100<u):=by
 unfold mx4;constructor
 ·intro h;(repeat' split at h) <;> omega
 intro h;(repeat' split) <;> omega
theorem fLa {P:Program} (w:World) (ts:Array TypeId) (t:TypeId) (k k' k'' k3:IntKind) (x y z u:Int):(Builtin.max_ ts t #[.int k x,.int k' y,.int k'' z,.int k3 u]).run P w =.ok (.int k (mx4 x y z u)) w:=by
 simp[Builtin.max_,Builtin.max2,mx4]
attribute [local go_sem] fLa
theorem fGf (x:Value) (d:Shd) (w:World) (hx:shdR.V w x d) :
  RI 201 #[x] w (.int .i64 (kZ d)):=by
 have HDo:Hid (bW w fun W=>LsOk d→RI 220 #[x] W (.int .i64 (fJ (kC d) d.held.length))):=fun W hW ho=>fKk x d W (shdR.below hx hW) ho
 have HFo:Hid (bW w fun W=>LsOk d→HeldOk d→RI 221 #[x] W (.bool (decide (¬fJ (kG d) d.votes.length=0)))):=fun W hW ho hh=>fIj x d W (shdR.below hx hW) ho hh
 have HCd:Hid (bW w fun W=>LsOk d→Calls Tryz.prog 225 #[x] W fun e w'=>∃v,e =.returned v∧w'.ownsRow W.heap.size 2 1 v (kE d.done).length (kM (kE d.done))∧Below W.heap.size W w'):=fun W hW ho=>fCf x d W (shdR.below hx hW) (by have:=ho.nd;omega)
 obtain⟨u1,u2,u3,u4,u5,rfl,h1,h2,h3,h4,h5⟩:=hx;have HBa:Hid (bW w fun W=>RI 67 #[.int .i64 d.idx,u1] W (.int .i64 (pW d.idx d.bals))):=fun W hW=>fGm _ u1 _ W (balsR.below h1 hW)
 have HVo:Hid (bW w fun W=>RI 218 #[u2,.func (.func 219) #[] #[]] W (.int .i64 (mrkF d.votes))):=fun W hW=>fQ3 u2 _ W (mrksR.below h2 hW)
 have HDn:Hid (bW w fun W=>RI 218 #[u4,.func (.func 147) #[] #[]] W (.int .i64 (mrkF d.done))):=fun W hW=>fQ2 u4 _ W (mrksR.below h4 hW)
 have HSo:Hid (∀W Bs,Below w.heap.size w W→LsOk d→W.cell? ⟨Bs,0,none⟩=some u5→Calls Tryz.prog 223 #[.func (.func 240) #[] #[.pointer (some ⟨Bs,0,none⟩)]] W fun e w'=>∃v,e =.returned v∧w'.ownsRow W.heap.size 2 1 v (sortI d.appl).length (kM (sortI d.appl))∧Below W.heap.size W w'):=fun W Bs hW ho hc=>by
  obtain⟨a5,c5,rfl⟩:=gJ h5;exact fNe a5 _ c5 d.appl W (intsR.below h5 hW) Bs hc (by have:=ho.na;omega)
 obtain⟨a1,c1,rfl⟩:=fP h1;obtain⟨a2,c2,rfl⟩:=fF h2;obtain⟨a3,c3,rfl⟩:=fM h3;obtain⟨a4,c4,rfl⟩:=fF h4;obtain⟨a5,c5,rfl⟩:=gJ h5;obtain⟨_,_,e2,hc2,hm2,_⟩:=h2;obtain⟨_,_,e3,hc3,hm3,_⟩:=qH h3;obtain⟨_,_,e4,hc4,hm4,_⟩:=h4;obtain⟨_,_,e5,hc5,hm5,_⟩:=h5;simp only[Value.slice.injEq,true_and] at e2 e3 e4 e5;obtain⟨rfl,rfl⟩:=e2;obtain⟨rfl,rfl⟩:=e3;obtain⟨rfl,rfl⟩:=e4;obtain⟨rfl,rfl⟩:=e5;unfold maxLen at hm2 hm3 hm4 hm5;have HEq:Hid (∀W x y,vZ W x (sortI d.appl)→vZ W y (kE d.done)→RI 222 #[x,y] W (.bool (decide (sortI d.appl=kE d.done)))):=fun W x y hx hy=>fP8 x y _ _ W hx hy
 have HD0:Hid (¬pW d.idx d.bals=0→kZ d=pW d.idx d.bals):=fun h=>by unfold kZ;rw[if_neg h]
 have HD1:Hid (pW d.idx d.bals=0→(100<d.votes.length∨100<d.held.length∨100<d.done.length∨100<d.appl.length)→kZ d=2):=fun h h1=>by unfold kZ;rw[if_pos h,if_pos h1]
 have HD2:Hid (pW d.idx d.bals=0→¬(100<d.votes.length∨100<d.held.length∨100<d.done.length∨100<d.appl.length)→¬mrkF d.votes=0→kZ d=mrkF d.votes):=fun h h1 h2=>by unfold kZ;rw[if_pos h,if_neg h1,if_neg h2]
 have HD3:Hid (pW d.idx d.bals=0→¬(100<d.votes.length∨100<d.held.length∨100<d.done.length∨100<d.appl.length)→mrkF d.votes=0→¬mrkF d.done=0→kZ d=mrkF d.done):=fun h h1 h2 h3=>by unfold kZ;rw[if_pos h,if_neg h1,if_pos h2,if_neg h3]
 have HD4:Hid (pW d.idx d.bals=0→¬(100<d.votes.length∨100<d.held.length∨100<d.done.length∨100<d.appl.length)→mrkF d.votes=0→mrkF d.done=0→¬fJ (kC d) d.held.length=0→kZ d=fJ (kC d) d.held.length):=fun h h1 h2 h3 h4=>by unfold kZ;rw[if_pos h,if_neg h1,if_pos h2,if_pos h3,if_neg h4]
 have HD5:Hid (pW d.idx d.bals=0→¬(100<d.votes.length∨100<d.held.length∨100<d.done.length∨100<d.appl.length)→mrkF d.votes=0→mrkF d.done=0→fJ (kC d) d.held.length=0→¬fJ (kG d) d.votes.length=0→kZ d=1):=fun h h1 h2 h3 h4 h5=>by unfold kZ;rw[if_pos h,if_neg h1,if_pos h2,if_pos h3,if_pos h4,if_neg h5]
 have HD6:Hid (pW d.idx d.bals=0→¬(100<d.votes.length∨100<d.held.length∨100<d.done.length∨100<d.appl.length)→mrkF d.votes=0→mrkF d.done=0→fJ (kC d) d.held.length=0→fJ (kG d) d.votes.length=0→kZ d=if decide (sortI d.appl=kE d.done)=true then 0 else 1):=fun h h1 h2 h3 h4 h5=>by
  unfold kZ;rw[if_pos h,if_neg h1,if_pos h2,if_pos h3,if_pos h4,if_pos h5,fPn (zK h3)];rfl
 have HOk:Hid (¬(100<d.votes.length∨100<d.held.length∨100<d.done.length∨100<d.appl.length)→mrkF d.votes=0→mrkF d.done=0→LsOk d):=fun h h2 h3=>⟨oM,by omega,by omega,by omega,zK h2,zK h3⟩
 have HHk:Hid (fJ (kC d) d.held.length=0→HeldOk d):=fun h=>fEt h
 clear h1 h3;generalize d.bals.length=n1 at *;generalize d.votes.length=n2 at *;generalize d.held.length=n3 at *;generalize d.done.length=n4 at *;generalize d.appl.length=n5 at *;generalize mrkF d.votes=fv at *;generalize mrkF d.done=fd at *;generalize hhf:fJ (kC d) n3=fh at *;generalize hlf:fJ (kG d) n2=fl at *;generalize hbf:pW d.idx d.bals=bf at *;obtain⟨ga,hga⟩:∃ga,ga=decide (sortI d.appl=kE d.done):=⟨_,rfl⟩
 rw[←hga] at HEq HD6;obtain⟨Z,hZ⟩:∃Z,Z=kZ d:=⟨_,rfl⟩
 rw[←hZ] at HD0 HD1 HD2 HD3 HD4 HD5 HD6 ⊢;clear hZ hbf hga hhf hlf;have HVl:Hid (bW w fun W=>Calls Tryz.prog 224 #[.slice a5 n5 c5] W fun e w'=>e =.returned (.func (.func 240) #[] #[.pointer (some ⟨W.heap.size,0,none⟩)])∧w'.cell? ⟨W.heap.size,0,none⟩=some (.slice a5 n5 c5)∧Below W.heap.size W w'):=fun W _=>(fNs a5 n5 c5 W).mono (by rintro e w' ⟨rfl,rfl⟩;exact⟨rfl,by simp[go_sem],qBq⟩)
 go_enter Tryz.func201,Tryz.ntmps201;go_wp2_with fail;refine(HBa.out _ qBq).mono ?_;rintro e w1 ⟨rfl,hb1⟩;have y0:w1.cell? ⟨w.heap.size,0,none⟩=some (.int .i64 d.idx):=cK hb1 sG;have y1:w1.cell? ⟨w.heap.size,1,none⟩=some (.slice a1 n1 c1):=cK hb1 sG;have y2:w1.cell? ⟨w.heap.size,2,none⟩=some (.slice a2 n2 c2):=cK hb1 sG;have y3:w1.cell? ⟨w.heap.size,3,none⟩=some (.slice a3 n3 c3):=cK hb1 sG;have y4:w1.cell? ⟨w.heap.size,4,none⟩=some (.slice a4 n4 c4):=cK hb1 sG;have y5:w1.cell? ⟨w.heap.size,5,none⟩=some (.slice a5 n5 c5):=cK hb1 sG;have hB1:=bT w hb1;clear hb1 HBa;by_cases hbf:bf=0;rotate_left
 ·
  have HC:=HD0.out hbf;have hbf':(bf !=0)=true:=by simp[hbf]
  go_wp2;go_ret;exact⟨by rw[HC];rfl,qBq⟩
 by_cases hmany:(100<n2∨100<n3∨100<n4∨100<n5)
 ·have HC:=HD1.out hbf hmany;have hm4':(100:Int)<mx4 n2 n3 n4 n5:=mx4_gt.2 oM;rw[hbf];clear HD0 HD1 HD2 HD3 HD4 HD5 HD6 HOk;go_wp2;go_ret;exact⟨by rw[HC];rfl,qBq⟩
 have hm4':¬(100:Int)<mx4 n2 n3 n4 n5:=fun h=>hmany (by have:=mx4_gt.1 h;omega)
 have HE2:Hid (¬fv=0→Z=fv):=fun h=>HD2.out hbf hmany h
 have HE3:Hid (fv=0→¬fd=0→Z=fd):=fun h h2=>HD3.out hbf hmany h h2
 have HE4:Hid (fv=0→fd=0→¬fh=0→Z=fh):=fun h h2 h3=>HD4.out hbf hmany h h2 h3
 have HE5:Hid (fv=0→fd=0→fh=0→¬fl=0→Z=1):=fun h h2 h3 h4=>HD5.out hbf hmany h h2 h3 h4
 have HE6:Hid (fv=0→fd=0→fh=0→fl=0→Z=if ga=true then 0 else 1):=fun h h2 h3 h4=>HD6.out hbf hmany h h2 h3 h4
 have HOk':Hid (fv=0→fd=0→LsOk d):=fun h h2=>HOk.out hmany h h2
 rw[hbf];clear HD0 HD1 HD2 HD3 HD4 HD5 HD6 HOk hbf hmany;go_wp2_with fail;refine(HVo.out _ hB1).mono ?_;rintro e w2 ⟨rfl,hb2⟩;have hB2:Below w.heap.size w w2:=bS hB1 hb2;replace y0:=cK hb2 y0;replace y1:=cK hb2 y1;replace y2:=cK hb2 y2;replace y3:=cK hb2 y3;replace y4:=cK hb2 y4;replace y5:=cK hb2 y5;clear hb2;by_cases hfv:fv=0;rotate_left
 ·
  have HC:=HE2.out hfv;have hfv':(fv !=0)=true:=by simp[hfv]
  go_wp2;go_ret;exact⟨by rw[HC];rfl,qBq⟩
 rw[hfv];have HE3':Hid (¬fd=0→Z=fd):=fun h=>HE3.out hfv h
 go_wp2_with fail;refine(HDn.out _ hB2).mono ?_;rintro e w3 ⟨rfl,hb3⟩;have hB3:Below w.heap.size w w3:=bS hB2 hb3;replace y0:=cK hb3 y0;replace y1:=cK hb3 y1;replace y2:=cK hb3 y2;replace y3:=cK hb3 y3;replace y4:=cK hb3 y4;replace y5:=cK hb3 y5;clear hb3;by_cases hfd:fd=0;rotate_left
 ·
  have HC:=HE3'.out hfd;have hfd':(fd !=0)=true:=by simp[hfd]
  go_wp2;go_ret;exact⟨by rw[HC];rfl,qBq⟩
 have hok:Hid (LsOk d):=HOk'.out hfv hfd;have HE4':Hid (¬fh=0→Z=fh):=fun h=>HE4.out hfv hfd h
 have HE5':Hid (fh=0→¬fl=0→Z=1):=fun h=>HE5.out hfv hfd h
 have HE6':Hid (fh=0→fl=0→Z=if ga=true then 0 else 1):=fun h=>HE6.out hfv hfd h
 clear HE3' HE2 HE3 HE4 HE5 HE6 HOk' hfv HVo HDn;rw[hfd];go_wp2_with fail;refine(HDo.out _ hB3 hok.out).mono ?_;rintro e w4 ⟨rfl,hb4⟩;have hB4:Below w.heap.size w w4:=bS hB3 hb4;replace y0:=cK hb4 y0;replace y1:=cK hb4 y1;replace y2:=cK hb4 y2;replace y3:=cK hb4 y3;replace y4:=cK hb4 y4;replace y5:=cK hb4 y5;clear hb4;by_cases hfh:fh=0;rotate_left
 ·
  have HC:=HE4'.out hfh;have hfh':(fh !=0)=true:=by simp[hfh]
  go_wp2;go_ret;exact⟨by rw[HC];rfl,qBq⟩
 have HF5:Hid (¬fl=0→Z=1):=fun h=>HE5'.out hfh h
 have HF6:Hid (fl=0→Z=if ga=true then 0 else 1):=fun h=>HE6'.out hfh h
 have hhk:Hid _:=HHk.out hfh;clear HE4' HE5' HE6' HHk HDo;rw[hfh];clear hfh hfd hm4' hB1 hB2 hB3;have HFo':Hid (bW w fun W=>RI 221 #[.agg #[.int .i64 d.idx,.slice a1 n1 c1,.slice a2 n2 c2,.slice a3 n3 c3,.slice a4 n4 c4,.slice a5 n5 c5]] W (.bool (decide (¬fl=0)))):=fun W hW=>HFo.out W hW hok.out hhk.out
 have HSo':Hid (∀W Bs,Below w.heap.size w W→W.cell? ⟨Bs,0,none⟩=some (.slice a5 n5 c5)→Calls Tryz.prog 223 #[.func (.func 240) #[] #[.pointer (some ⟨Bs,0,none⟩)]] W fun e w'=>∃v,e =.returned v∧w'.ownsRow W.heap.size 2 1 v (sortI d.appl).length (kM (sortI d.appl))∧Below W.heap.size W w'):=fun W Bs hW=>HSo.out W Bs hW hok.out
 have HCd':Hid (bW w fun W=>Calls Tryz.prog 225 #[.agg #[.int .i64 d.idx,.slice a1 n1 c1,.slice a2 n2 c2,.slice a3 n3 c3,.slice a4 n4 c4,.slice a5 n5 c5]] W fun e w'=>∃v,e =.returned v∧w'.ownsRow W.heap.size 2 1 v (kE d.done).length (kM (kE d.done))∧Below W.heap.size W w'):=fun W hW=>HCd.out W hW hok.out
 clear HFo HSo HCd hok hhk;by_cases hfl:fl=0;rotate_left
 ·
  have HC:=HF5.out hfl;rw[show decide (¬fl=0)=true from decide_eq_true hfl] at HFo';clear HF5 HF6 HSo' HCd' HEq HVl hfl;go_wp2;refine wp_region_noPanic ?_;refine fB (fun W=>Below w4.heap.size w4 W∧W.cell? ⟨w.heap.size,0,none⟩=some (.int .i64 d.idx)∧W.cell? ⟨w.heap.size,1,none⟩=some (.slice a1 n1 c1)∧W.cell? ⟨w.heap.size,2,none⟩=some (.slice a2 n2 c2)∧W.cell? ⟨w.heap.size,3,none⟩=some (.slice a3 n3 c3)∧W.cell? ⟨w.heap.size,4,none⟩=some (.slice a4 n4 c4)∧W.cell? ⟨w.heap.size,5,none⟩=some (.slice a5 n5 c5)) 12 kF ⟨qBq,cK qBq y0,cK qBq y1,cK qBq y2,cK qBq y3,cK qBq y4,cK qBq y5⟩ (fun hS=>?_);refine tX 0 ?_;refine uS 1 rfl (fun K hK=>?_);go_simp;refine(HFo'.out _ (bS hB4 hS.1)).mono ?_;rintro e wz ⟨rfl,hbz⟩;have hbz':Below w4.heap.size w4 wz:=bS hS.1 hbz;have hS3:=And.intro hbz' (kS6 hbz hS.2);refine hK _ _ (fun _=>hS3) ?_;clear hK K hS hbz;have hS:=hS3;clear hS3;try simp only[jX]
  refine tX 2 (v:=(.bool true)) ?_;refine sY 3 ?_;refine sY 4 ?_;refine sY 5 ?_;refine sY 6 ?_;refine sY 7 ?_;refine sY 8 ?_;refine sY 9 ?_;refine sY 10 ?_;refine tX 11 (v:=(.bool true)) ?_;refine dP ?_;go_wp2;go_ret;exact⟨by rw[HC];rfl,bS hB4 hS.1⟩
 have HC:Hid _:=HF6.out hfl;rw[show decide (¬fl=0)=false from decide_eq_false (fun h=>h hfl)] at HFo';clear HF5 HF6 hfl;go_wp2;refine wp_region_noPanic ?_;refine fB (fun W=>Below w4.heap.size w4 W∧W.cell? ⟨w.heap.size,0,none⟩=some (.int .i64 d.idx)∧W.cell? ⟨w.heap.size,1,none⟩=some (.slice a1 n1 c1)∧W.cell? ⟨w.heap.size,2,none⟩=some (.slice a2 n2 c2)∧W.cell? ⟨w.heap.size,3,none⟩=some (.slice a3 n3 c3)∧W.cell? ⟨w.heap.size,4,none⟩=some (.slice a4 n4 c4)∧W.cell? ⟨w.heap.size,5,none⟩=some (.slice a5 n5 c5)) 12 kF ⟨qBq,cK qBq y0,cK qBq y1,cK qBq y2,cK qBq y3,cK qBq y4,cK qBq y5⟩ (fun hS=>?_);refine tX 0 ?_;refine uS 1 rfl (fun K hK=>?_);go_simp;refine(HFo'.out _ (bS hB4 hS.1)).mono ?_;rintro e wz ⟨rfl,hbz⟩;have hbz':Below w4.heap.size w4 wz:=bS hS.1 hbz;have hS3:=And.intro hbz' (kS6 hbz hS.2);refine hK _ _ (fun _=>hS3) ?_;clear hK K hS hbz;have hS:=hS3;clear hS3;try simp only[jX]
 refine tX 2 (v:=(.bool false)) ?_;refine tX 3 ?_;refine tX 4 ?_;refine tX 7 ?_;refine uS 5 rfl (fun K hK=>?_);go_simp;refine(HVl.out _ (bS hB4 hS.1)).mono ?_;rintro e wz ⟨rfl,gB,hbz⟩;have hbz':Below w4.heap.size w4 wz:=bS hS.1 hbz;have hS3:=And.intro hbz' (kS6 hbz hS.2);refine hK _ _ (fun _=>hS3) ?_;clear hK K hS hbz;have hS:=hS3;clear hS3;try simp only[jX]
 refine uS 6 rfl (fun K hK=>?_);go_simp;refine(HSo'.out _ _ (bS hB4 hS.1) gB).mono ?_;rintro e wz ⟨vs,rfl,os,hbz⟩;have V6:vZ wz vs (sortI d.appl):=xS os;obtain⟨aS,cS,rfl⟩:=fD os;clear os gB;have hbz':Below w4.heap.size w4 wz:=bS hS.1 hbz;have hS3:=And.intro hbz' (kS6 hbz hS.2);refine hK _ _ (fun _=>hS3) ?_;clear hK K hS hbz;have hS:=hS3;clear hS3;try simp only[jX]
 refine uS 8 rfl (fun K hK=>?_);go_simp;refine(HCd'.out _ (bS hB4 hS.1)).mono ?_;rintro e wz ⟨vd,rfl,od,hbz⟩;replace V6:=fAp V6 hbz;have V8:vZ wz vd (kE d.done):=xS od;obtain⟨ad,cd,rfl⟩:=fD od;clear od;have hbz':Below w4.heap.size w4 wz:=bS hS.1 hbz;have hS3:=And.intro hbz' (kS6 hbz hS.2);refine hK _ _ (fun _=>hS3) ?_;clear hK K hS hbz;have hS:=hS3;clear hS3;try simp only[jX]
 refine uS 9 rfl (fun K hK=>?_);go_simp;have hEQ:=HEq.out _ _ _ V6 V8;clear V6 V8;refine hEQ.mono ?_;rintro e wz ⟨rfl,hbz⟩;have hbz':Below w4.heap.size w4 wz:=bS hS.1 hbz;have hS3:=And.intro hbz' (kS6 hbz hS.2);refine hK _ _ (fun _=>hS3) ?_;clear hK K hS hbz;have hS:=hS3;clear hS3;try simp only[jX]
 refine tX 10 (v:=(.bool (!ga))) ?_;refine tX 11 (v:=(.bool (!ga))) ?_;refine dP ?_;cases ga
 ·go_wp2;go_ret;exact⟨rH,bS hB4 hS.1⟩
 go_wp2;go_ret;exact⟨rH,bS hB4 hS.1⟩
theorem fYg (c:Int) (w:World):(Instr.typeAssert (.iface 204 (.int .i64 c)) 20 204 true).run Tryz.prog w =.ok (.tuple #[.int .i64 c,.bool true]) w:=kF
theorem fYf (w:World):(Instr.typeAssert .nilIface 20 204 true).run Tryz.prog w =.ok (.tuple #[.int .i64 0,.bool false]) w:=kF
theorem fBv (c:Int) (w:World):RI 176 #[refV c] w (.tuple #[.int .i64 c,.bool true]):=by
 unfold refV;have h1:=fYg c;go_enter Tryz.func176,Tryz.ntmps176;go_wp2;refine bodyPost_ret (v:=.tuple #[.int .i64 c,.bool true]) (by simp[results,Tryz.results176,go_sem]) rfl ?_;exact⟨rfl,qBq⟩
theorem fBu (w:World):RI 176 #[.nilIface] w (.tuple #[.int .i64 0,.bool false]):=by
 have h1:=fYf;go_enter Tryz.func176,Tryz.ntmps176;go_wp2;refine bodyPost_ret (v:=.tuple #[.int .i64 0,.bool false]) (by simp[results,Tryz.results176,go_sem]) rfl ?_;exact⟨rfl,qBq⟩
theorem fCd (p:Addr) (x c:Int) (older:List PanicEntry) (w:World) (hc:w.cell? p=some (.int .i64 x)) (hz:w.frozen? p=false) :
  CallsD Tryz.prog 202 #[.pointer (some p)] (.panicking ({v:=refV c,recovered:=false}::older)) w fun e u' w'=>
   e =.returned (.tuple #[])∧u' =.panicking ({v:=refV c,recovered:=true}::older)∧∃w1,Below w.heap.size w w1∧w'=w1.setCell p (.int .i64 c):=by
 refine callsD_of_wpS Tryz.func202 rfl fun c₀ cs hu=>?_
 apply wpS_seq;apply wpS_region;simp[wpOpsS,go_sem,recoverD,hu,Tryz.ntmps202,Exit.thenS];refine(fBv c w).mono ?_;rintro e w1 ⟨rfl,hb⟩;obtain⟨_,f1⟩:=bcell hb;have hp:p.block<w.heap.size:=wL w _ hc;have hc1:w1.cell? p=some (.int .i64 x):=cK hb hc;have hz1:w1.frozen? p=false:=by rw[hb.frozen (p:=p) hp];exact hz
 simp[wpOpsS,go_sem,recoverD,Exit.thenS];apply wpS_seq;apply wpS_region;simp[wpOpsS,go_sem,recoverD,Exit.thenS];refine wpS_cond (t:=true) (by simp[Act.eval,Array.replicate]) ?_;simp only[if_true];apply wpS_region;simp[wpOpsS,go_sem,hc1,hz1,bodyPostS,results,Tryz.results202];exact⟨w1,hb,rfl⟩
theorem fJt (p:Addr) (w:World) :
  CallsD Tryz.prog 202 #[.pointer (some p)] .returning w fun e u' w'=>e =.returned (.tuple #[])∧u' =.returning∧Below w.heap.size w w':=by
 refine callsD_of_wpS Tryz.func202 rfl fun c₀ cs hu=>?_
 apply wpS_seq;apply wpS_region;simp[wpOpsS,go_sem,recoverD,hu,Tryz.ntmps202,Exit.thenS];refine(fBu w).mono ?_;rintro e w1 ⟨rfl,hb⟩;simp[wpOpsS,go_sem,recoverD,Exit.thenS];apply wpS_seq;apply wpS_region;simp[wpOpsS,go_sem,recoverD,Exit.thenS];refine wpS_cond (t:=false) (by simp[Act.eval,Array.replicate]) ?_;simp only[Bool.false_eq_true,if_false];refine wpS_of_wp (wp_skip ?_);cases c₀;simp_all [bodyPostS,results,Tryz.results202]
end Go.Proofs.YtpibfdebfacooaaGreat

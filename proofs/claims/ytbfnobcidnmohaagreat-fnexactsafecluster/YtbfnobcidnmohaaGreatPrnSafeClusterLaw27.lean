import Derived.Test.YtbfnobcidnmohaaGreatPrnSafeClusterLaw26
set_option maxHeartbeats 16000000
set_option maxRecDepth 20000
set_option linter.unusedSimpArgs false
set_option linter.unusedVariables false
set_option linter.unusedSectionVars false
namespace Go.Proofs.YtbfnobcidnmohaaGreat
open Go.RowKit
attribute [local go_sem ↓] Go.wp_at_zero Go.wp_at_succ
section
variable [dQ Vot] [iH Vot] [dQ Slt] [iH Slt] [dQ SltR] [iH SltR] [dQ Bal] [iH Bal] [dQ Ledg] [iH Ledg] [dQ Leg] [iH Leg]
def Done (D:List Slt) (i k:Nat) (v:Vot):Prop:=∃i' k',(i'<i∨(i'=i∧k'<k))∧i'<D.length∧k'<(D.getD i' default).cast.length∧(D.getD i' default).cast.getD k' default=v
structure Inv (D:List Slt) (i k:Nat) (ys:List Vot):Prop where
 rise:Rise ys
 mem:∀v,v ∈ ys↔isCh D v∧Done D i k v
theorem fRx (D:List Slt):Inv D 0 0 []:=⟨by simp[Rise],fun v=>⟨fun h=>by simp at h,fun ⟨_,i',k',h,_⟩=>oM⟩⟩
theorem fWp {D:List Slt} {i:Nat} {ys:List Vot} (h:Inv D i (D.getD i default).cast.length ys) (hi:i<D.length):Inv D (i+1) 0 ys:=by
 refine⟨h.rise,fun v=>(h.mem v).trans ⟨fun ⟨h1,h2⟩=>⟨h1,?_⟩,fun ⟨h1,h2⟩=>⟨h1,?_⟩⟩⟩
 ·obtain⟨i',k',h3,h4⟩:=h2;exact⟨i',k',oM,h4⟩
 obtain⟨i',k',h3,h4,h5,h6⟩:=h2;refine⟨i',k',?_,h4,h5,h6⟩;by_cases e:i'<i
 ·exact .inl e
 have e2:i'=i:=oM;subst e2;exact .inr ⟨rfl,h5⟩
theorem fHz {D:List Slt} {i k:Nat} {v u:Vot} (hi:i<D.length) (hk:k<(D.getD i default).cast.length) (hv:(D.getD i default).cast.getD k default=v):Done D i (k+1) u↔Done D i k u∨u=v:=by
 constructor
 ·
  rintro⟨i',k',h3,h4,h5,h6⟩;by_cases e:i'=i∧k'=k
  ·obtain⟨rfl,rfl⟩:=e;exact .inr (h6.symm.trans hv)
  exact .inl ⟨i',k',oM,h4,h5,h6⟩
 rintro(⟨i',k',h3,h4⟩|h)
 ·exact⟨i',k',oM,h4⟩
 subst h;exact⟨i,k,by omega,hi,hk,hv⟩
theorem fF3 {D:List Slt} {i k:Nat} {ys:List Vot} {v:Vot} (h:Inv D i k ys) (hi:i<D.length) (hk:k<(D.getD i default).cast.length) (hv:(D.getD i default).cast.getD k default=v) (hs:¬isCh D v∨v ∈ ys):Inv D i (k+1) ys:=by
 refine⟨h.rise,fun u=>?_⟩;rw[fHz hi hk hv];constructor
 ·intro hu;have:=(h.mem u).1 hu;exact⟨this.1,.inl this.2⟩
 rintro⟨h1,h2|h2⟩
 ·exact(h.mem u).2 ⟨h1,h2⟩
 subst h2;rcases hs with hs|hs
 ·exact absurd h1 hs
 exact hs
theorem fLm {D:List Slt} {i k:Nat} {ys:List Vot} {v:Vot} (hok:fCc D) (h:Inv D i k ys) (hi:i<D.length) (hk:k<(D.getD i default).cast.length) (hv:(D.getD i default).cast.getD k default=v) (hc:isCh D v) {a:Nat} (ha:a≤ys.length)
  (h1:∀t,t<a→(ys.getD t default).bal<v.bal) (h2:a<ys.length→¬(ys.getD a default).bal<v.bal∧¬ys.getD a default=v):Inv D i (k+1) (ys.take a++[v]++ys.drop a):=by
 refine⟨fU9 h.rise ha h1 (fun hl=>?_),fun u=>?_⟩
 ·
  obtain⟨h3,h4⟩:=h2 hl;by_cases e:(ys.getD a default).bal=v.bal
  ·exact absurd (fRc hok ((h.mem _).1 (fB8 hl)).1 hc e) h4
  omega
 rw[fGf,fHz hi hk hv,h.mem];constructor
 ·
  rintro(e|⟨e1,e2⟩)
  ·subst e;exact⟨hc,.inr rfl⟩
  exact⟨e1,.inl e2⟩
 rintro⟨e1,e2|e2⟩
 ·exact .inr ⟨e1,e2⟩
 exact .inl e2
theorem fWo {D:List Slt} {ys:List Vot} (h:Inv D D.length 0 ys):Chs D ys:=by
 refine⟨h.rise,fun v=>(h.mem v).trans ⟨fun h=>h.1,fun h1=>⟨h1,?_⟩⟩⟩;obtain⟨k,hk,hv⟩:=fRb h1;obtain⟨j,hj,e⟩:=qE hv;exact⟨k,j,.inl hk,hk,hj,e⟩
def insG (base:Nat) (p q:List Vot) (r:Vot):Nat→(Nat→Value)→(Nat→Prop)→World→Prop
 | 0,y,F,w=>votsR.O w base F (y 84) []
 | 4,y,F,w=>votsR.O w base F (y 88) p
 | 6,y,F,w=>votsR.O w base F (y 90) [r]
 | 7,y,F,w=>votsR.O w base F (y 91) (p++[r])
 | 11,y,F,w=>votsR.O w base F (y 95) (p++[r]++q)
 | _,_,_,_=>True
def insC:Nat→List Nat
 | 4=>[0]
 | 7=>[4]
 | 11=>[7]
 | _=>[]
theorem fBm (x:Value) (D:List Slt) (w:World) (hx:sltsR.V w x D) (hok0:askF D=0) :
  Calls Tryz.prog 68 #[x] w fun e w'=>ChE D w e w':=by
 obtain⟨hok1,h19⟩:=fKq hok0;have hok:Hid (fCc D):=hok1;clear hok0 hok1;obtain⟨ax,cx,rfl,hcx,hmx,hx⟩:=hx;unfold maxLen at hmx;obtain⟨n,hn'⟩:∃n,n=D.length:=⟨_,rfl⟩
 have HN:Hid (D.length=n):=hn'.symm;rw[←hn'] at hcx hx h19 ⊢;clear hn';have hn9:1≤n∧n≤9:=by have:=inBi.1 h19;omega
 have ho0:=World.ownsRow_lit (base:=w.heap.size) (e:=126) (size:=2) w #[] 0 (Nat.le_refl _) (by unfold maxLen;omega) rfl;go_enter Tryz.func68,Tryz.ntmps68;go_wp2;go_loopw [3,4] (fun u ii w'=>∃(i:Nat) (ys:List Vot) (g cap:Nat),i≤n∧ii =.int .i64 i∧u =.slice (some ⟨g,0,none⟩) ys.length cap∧w'.ownsRow w.heap.size 126 2 (.slice (some ⟨g,0,none⟩) ys.length cap) ys.length (kJ ys)∧Inv D i 0 ys∧ys.length≤i*60∧Below w.heap.size w w') (fun _ ii _=>n-(intOf ii).toNat)
 case atStart=>exact⟨0,[],_,_,Nat.zero_le _,rfl,rfl,ho0,fRx D,by simp,qBq⟩
 clear ho0;obtain⟨i,ys,g,cap,hi,rfl,rfl,hO,hI,hL,hbl⟩:=hrel;have HI:Hid (Inv D i 0 ys):=hI;clear hI;by_cases hlt:i<n
 ·
  obtain⟨bxa,oxa,ua,rfl,_,pa,hva⟩:=hx i hlt;obtain⟨l,hla⟩:∃l,l=D.getD i default:=⟨_,rfl⟩
  rw[←hla] at hva;have HLa:Hid (l=D.getD i default):=hla;clear hla;have hVa:=hva;obtain⟨sa,rfl,hca⟩:=hva;obtain⟨aua,cua,rfl⟩:=gJ hca;obtain⟨_,_,ee,hcc,hmc,hce⟩:=hca;simp only[Value.slice.injEq,true_and] at ee;obtain⟨rfl,rfl⟩:=ee;have ga0:w.cell? ⟨bxa,oxa+i*6,none⟩=some (.int .i64 l.con):=pa 0 oM;have ga1:w.cell? ⟨bxa,oxa+i*6+1,none⟩=some (.int .i64 l.sh):=pa 1 oM;have ga2:w.cell? ⟨bxa,oxa+i*6+2,none⟩=some (.int .i64 l.pr):=pa 2 oM;have ga3:w.cell? ⟨bxa,oxa+i*6+3,none⟩=some (.int .i64 l.lb):=pa 3 oM;have ga4:w.cell? ⟨bxa,oxa+i*6+4,none⟩=some (.int .i64 l.lv):=pa 4 oM;have ga5:w.cell? ⟨bxa,oxa+i*6+5,none⟩=some (.slice aua l.cast.length cua):=pa 5 oM;clear pa;clear ga0 ga1 ga2 ga3 ga4 hVa;unfold maxLen at hmc;have h60:l.cast.length≤60:=by rw[HLa.out];exact(hok.out i (by rw[HN.out];exact hlt)).len
  have HC0:Hid (l.cast=(D.getD i default).cast):=by show _=_;rw[←HLa.out]
  obtain⟨cs,hcs⟩:∃cs,cs=l.cast:=⟨_,rfl⟩
  rw[←hcs] at hcc hce h60 ga5 HC0;obtain⟨m,hm'⟩:∃m,m=cs.length:=⟨_,rfl⟩
  have HM:Hid (cs.length=m):=hm'.symm;rw[←hm'] at hcc hce h60 ga5;clear hm' hcs;go_wp2;go_loopw [3,5] (fun u kk w'=>∃(k:Nat) (ys:List Vot) (g cap:Nat),k≤m∧kk =.int .i64 k∧u =.slice (some ⟨g,0,none⟩) ys.length cap∧w'.ownsRow w.heap.size 126 2 (.slice (some ⟨g,0,none⟩) ys.length cap) ys.length (kJ ys)∧Inv D i k ys∧ys.length≤i*60+k∧Below w.heap.size w w') (fun _ kk _=>m-(intOf kk).toNat)
  case atStart=>exact⟨0,ys,g,cap,Nat.zero_le _,rfl,rfl,hO,HI.out,by omega,hbl⟩
  clear hO hL hbl HI;obtain⟨k,ys,g,cap,hk,rfl,rfl,hO,hI,hL,hbl⟩:=hrel;have HI:Hid (Inv D i k ys):=hI;clear hI;have ga5':=cK hbl ga5;have zba:bxa<wr.heap.size:=wL wr _ ga5';by_cases hkm:k<m
  ·
   obtain⟨bc,oc,rfl,g1⟩:=hce k hkm;obtain⟨v,hv⟩:∃v,v=cs.getD k default:=⟨_,rfl⟩
   rw[←hv] at g1;have HB:Hid (i<D.length∧k<(D.getD i default).cast.length∧(D.getD i default).cast.getD k default=v):=⟨by rw[HN.out];exact hlt,by rw[←HC0.out,HM.out];exact hkm,by rw[←HC0.out];exact hv.symm⟩;clear hv hce;obtain⟨a1,a2⟩:=gL hbl g1;clear g1;obtain⟨L,hLn⟩:∃L,L=ys.length:=⟨_,rfl⟩
   have HLn:Hid (ys.length=L):=hLn.symm;have hLb:L≤600:=oM;rw[←hLn] at hL ⊢;clear hLn;go_wp2;have r0':(wr.alloc (.cells #[.int .i64 v.bal,.int .i64 v.val] 126)).cell? ⟨wr.heap.size,0,none⟩=some (.int .i64 v.bal):=sG;have r1':(wr.alloc (.cells #[.int .i64 v.bal,.int .i64 v.val] 126)).cell? ⟨wr.heap.size,1,none⟩=some (.int .i64 v.val):=sG;have hOY:=gT hO (bA (Below.refl _ wr) (.cells #[.int .i64 v.bal,.int .i64 v.val] 126));have hBY:Below w.heap.size w (wr.alloc (.cells #[.int .i64 v.bal,.int .i64 v.val] 126)):=bA hbl _;generalize wr.alloc (.cells #[.int .i64 v.bal,.int .i64 v.val] 126)=Y at *;generalize wr.heap.size=B at *;clear a1 a2 hO hbl ga5';have hfr:=hOY.frozenAt;go_loopw [7,8] (fun cc jj w'=>∃j:Nat,j≤n∧jj =.int .i64 j∧cc =.int .i64 (cntP (fun t=>hasV (D.getD t default) v) j)∧Below Y.heap.size Y w') (fun _ jj _=>n-(intOf jj).toNat)
   case atStart=>exact⟨0,oM,rfl,rfl,bR _ _⟩
   obtain⟨j,hj,rfl,rfl,hbY⟩:=hrel;have r0:=cK hbY r0';have r1:=cK hbY r1';by_cases hjn:j<n
   ·
    obtain⟨bxb,oxb,ub,heb,_,pb,hvb⟩:=hx j hjn;simp only[Option.some.injEq,Addr.mk.injEq,and_true] at heb;obtain⟨rfl,rfl⟩:=heb;obtain⟨l2,hlb⟩:∃l,l=D.getD j default:=⟨_,rfl⟩
    rw[←hlb] at hvb;have HLb:Hid (l2=D.getD j default):=hlb;clear hlb;have hVb:=hvb;obtain⟨sb,rfl,hcb⟩:=hvb;obtain⟨aub,cub,rfl⟩:=gJ hcb;clear hcb;have gb0:w.cell? ⟨bxa,oxa+j*6,none⟩=some (.int .i64 l2.con):=pb 0 oM;have gb1:w.cell? ⟨bxa,oxa+j*6+1,none⟩=some (.int .i64 l2.sh):=pb 1 oM;have gb2:w.cell? ⟨bxa,oxa+j*6+2,none⟩=some (.int .i64 l2.pr):=pb 2 oM;have gb3:w.cell? ⟨bxa,oxa+j*6+3,none⟩=some (.int .i64 l2.lb):=pb 3 oM;have gb4:w.cell? ⟨bxa,oxa+j*6+4,none⟩=some (.int .i64 l2.lv):=pb 4 oM;have gb5:w.cell? ⟨bxa,oxa+j*6+5,none⟩=some (.slice aub l2.cast.length cub):=pb 5 oM;clear pb;clear hx;replace gb0:=cK (bS hBY hbY) gb0;replace gb1:=cK (bS hBY hbY) gb1;replace gb2:=cK (bS hBY hbY) gb2;replace gb3:=cK (bS hBY hbY) gb3;replace gb4:=cK (bS hBY hbY) gb4;replace gb5:=cK (bS hBY hbY) gb5;have HCs:Hid (bW wr fun W=>RI 133 #[.agg #[.int .i64 l2.con,.int .i64 l2.sh,.int .i64 l2.pr,.int .i64 l2.lb,.int .i64 l2.lv,.slice aub l2.cast.length cub],.agg #[.int .i64 v.bal,.int .i64 v.val]] W (.bool (hasV l2 v))):=fun W h=>fPt _ l2 v W (sltR.below hVb (bS (bS hBY hbY) h))
    clear hVb;have hst:Hid (cntP (fun t=>hasV (D.getD t default) v) (j+1)=cntP (fun t=>hasV (D.getD t default) v) j+if hasV l2 v then 1 else 0):=by show _=_;rw[HLb.out];rfl
    have hcb:=fFq (fun t=>hasV (D.getD t default) v) j;obtain⟨c,hc⟩:∃c,c=cntP (fun t=>hasV (D.getD t default) v) j:=⟨_,rfl⟩
    rw[←hc] at hst hcb ⊢;clear hc;go_wp2;refine wp_region_noPanic ?_;refine fB (fun W=>Below wr.heap.size wr W∧(W.cell? ⟨bxa,oxa+j*6,none⟩=some (.int .i64 l2.con)∧W.cell? ⟨bxa,oxa+j*6+1,none⟩=some (.int .i64 l2.sh)∧W.cell? ⟨bxa,oxa+j*6+2,none⟩=some (.int .i64 l2.pr)∧W.cell? ⟨bxa,oxa+j*6+3,none⟩=some (.int .i64 l2.lb)∧W.cell? ⟨bxa,oxa+j*6+4,none⟩=some (.int .i64 l2.lv)∧W.cell? ⟨bxa,oxa+j*6+5,none⟩=some (.slice aub l2.cast.length cub))∧W.cell? ⟨B,0,none⟩=some (.int .i64 v.bal)∧W.cell? ⟨B,1,none⟩=some (.int .i64 v.val)) 6 kF ⟨qBq,⟨cK qBq gb0,cK qBq gb1,cK qBq gb2,cK qBq gb3,cK qBq gb4,cK qBq gb5⟩,cK qBq r0,cK qBq r1⟩ (fun hS=>?_);refine tX 0 ?_;refine tX 1 ?_;refine tX 2 ?_;refine tX 3 ?_;refine tX 4 ?_;refine uS 5 rfl (fun K hK=>?_);go_simp;refine(HCs.out _ hS.1).mono ?_;rintro e w5 ⟨rfl,hb5⟩;have hB5:Below wr.heap.size wr w5:=bS hS.1 hb5;refine hK _ _ (fun _=>⟨hB5,⟨cK hb5 hS.2.1.1,cK hb5 hS.2.1.2.1,cK hb5 hS.2.1.2.2.1,cK hb5 hS.2.1.2.2.2.1,cK hb5 hS.2.1.2.2.2.2.1,cK hb5 hS.2.1.2.2.2.2.2⟩,cK hb5 hS.2.2.1,cK hb5 hS.2.2.2⟩) ?_;clear hK K hS hb5;try simp only[jX]
    refine dP ?_;have hbY5:=bS hbY hB5;cases hh:hasV l2 v
    ·go_wp2;exact⟨⟨j+1,by omega,by go_num,by rw[hst.out,hh];rfl,hbY5⟩,mI⟩
    go_wp2;exact⟨⟨j+1,by omega,by go_num,by rw[hst.out,hh];rfl,hbY5⟩,mI⟩
   have hjn':n=j:=oM;subst hjn';have HCn:Hid (cntP (fun t=>hasV (D.getD t default) v) n=cntV D v):=by show _=_;unfold cntV;rw[HN.out]
   have hcb:=fFq (fun t=>hasV (D.getD t default) v) n;generalize cntP (fun t=>hasV (D.getD t default) v) n=c at *;clear hx r0 r1;go_wp2;go_loopw [9] (fun aa w'=>∃a:Nat,a≤L∧aa =.int .i64 a∧(∀t,t<a→(ys.getD t default).bal<v.bal)∧Below Y.heap.size Y w') (fun aa _=>L-(intOf aa).toNat)
   case atStart=>exact⟨0,oM,rfl,fun t h=>absurd h oM,hbY⟩
   clear hbY;obtain⟨a,ha,rfl,hA,hYt⟩:=hrel;have HA1:Hid (∀t,t<a→(ys.getD t default).bal<v.bal):=hA;clear hA;have r0:=cK hYt r0';have r1:=cK hYt r1';have hcapL:L≤cap∧cap≤9223372036854775807:=by
    rcases hOY.2 with ⟨h,_⟩|⟨_,_,_,h,_,_,h1,h2,_⟩
    ·cases h
    simp only[Value.slice.injEq] at h;unfold maxLen at h2;have:=HLn.out;omega
   obtain⟨hc1,hc2⟩:=hcapL;by_cases haL:a<L
   ·
    obtain⟨p,hp⟩:∃p,p=ys.getD a default:=⟨_,rfl⟩
    have HP:Hid (p=ys.getD a default):=hp;have hgv:=uC ys a (by rw[HLn.out];exact haL);rw[←hp] at hgv;clear hp;have p0:=cK hYt ((hOY.cellAt (a*2) (by rw[HLn.out];omega)).trans hgv.1);have p1:=cK hYt ((hOY.cellAt (a*2+1) (by rw[HLn.out];omega)).trans hgv.2);clear hgv;have zg:g<wr.heap.size:=wL wr _ p0;have i1:(a:Int)<(L:Int):=oM;have hd1:decide ((a:Int)<(L:Int))=true:=by simp;omega
    by_cases hlt2:p.bal<v.bal
    ·
     have hd2:decide (p.bal<v.bal)=true:=by simp[hlt2]
     have HA2:Hid (∀t,t<a+1→(ys.getD t default).bal<v.bal):=fun t ht=>by
      by_cases h:t<a
      ·exact HA1.out t h
      have:t=a:=oM;subst this;rw[←HP.out];exact hlt2
     go_wp2;go_quiet (fail);go_wp2;exact⟨⟨a+1,by omega,by go_num,HA2.out,fJ hYt _⟩,mI⟩
    have hd2:decide (p.bal<v.bal)=false:=by simp[hlt2]
    have HA2:Hid (¬(ys.getD a default).bal<v.bal):=by show ¬_;rw[←HP.out];exact hlt2
    go_wp2;go_quiet (fail);go_wp2;replace r0:=cK (fJ (Below.refl _ wr) nq) r0;replace r1:=cK (fJ (Below.refl _ wr) nq) r1;replace p0:=cK (fJ (Below.refl _ wr) nq) p0;replace p1:=cK (fJ (Below.refl _ wr) nq) p1;replace hYt:=fJ hYt nq;generalize wr.drewN nq=wt at *;clear hd1 hd2;by_cases hch:quoV (n:Int)≤(c:Int)
    ·
     have hd:decide (quoV (n:Int)≤(c:Int))=true:=by simp[hch]
     have HCh:Hid (isCh D v):=by show _≤_;rw[HN.out,←HCn.out];exact hch
     obtain⟨qq,hqq⟩:∃q,q=quoV (n:Int):=⟨_,rfl⟩
     have HQ:Hid (quoV (n:Int)=qq):=hqq.symm;rw[←hqq] at hch hd;clear hqq;have hel:((a:Int)==(L:Int))=false:=by simp;omega
     cases he:(decide (p.bal=v.bal)&&decide (p.val=v.val))
     ·
      have heq:∀w,(binOp .neq 126 (.agg #[.int .i64 p.bal,.int .i64 p.val]) (.agg #[.int .i64 v.bal,.int .i64 v.val])).run Tryz.prog w =.ok (.bool true) w:=fun w=>by rw[uW,he];rfl
      have HA3:Hid (¬ys.getD a default=v):=fun h=>by rw[←HP.out] at h;rw[vot_eq.2 h] at he;cases he
      clear he;go_wp2;refine wp_region_noPanic ?_;refine fB (fun W=>Below wt.heap.size wt W∧(W.cell? ⟨B,0,none⟩=some (.int .i64 v.bal)∧W.cell? ⟨B,1,none⟩=some (.int .i64 v.val))∧W.cell? ⟨g,a*2,none⟩=some (.int .i64 p.bal)∧W.cell? ⟨g,a*2+1,none⟩=some (.int .i64 p.val)) 19 kF ⟨qBq,⟨cK qBq r0,cK qBq r1⟩,cK qBq p0,cK qBq p1⟩ (fun hS=>?_);refine tX 0 ?_;refine tX 1 ?_;refine tX 2 ?_;refine uS 3 rfl (fun K hK=>?_);go_simp;refine(rR _ h19 _).mono ?_;rintro e w5 ⟨rfl,rfl⟩;refine hK _ _ (fun _=>hS) ?_;clear hK K;try simp only[jX]
      rw[HQ.out];refine tX 4 (v:=(.bool true)) ?_;refine tX 5 (v:=(.bool true)) ?_;refine tX 6 ?_;refine tX 7 ?_;refine tX 8 ?_;refine tX 9 (v:=(.bool false)) ?_;refine tX 10 (v:=(.bool false)) ?_;refine tX 11 ?_;refine tX 12 ?_;refine tX 13 ?_;refine tX 14 ?_;refine tX 15 ?_;refine tX 16 (v:=(.bool true)) ?_;refine tX 17 (v:=(.bool true)) ?_;refine tX 18 (v:=(.bool true)) ?_;refine dP ?_;clear hS;clear p0 p1 heq;have hca:¬cap=a:=oM;have hac1:a≤cap:=oM;have hac2:a≤L:=oM;have hac3:(a:Int)≤(L:Int):=oM;have hac4:(a:Int)≤(cap:Int):=oM;have hac5:(0:Int)≤(a:Int):=oM;go_wp2;refine wp_region_noPanic ?_;refine fB (fun W=>Below wt.heap.size wt W∧W.cell? ⟨B,0,none⟩=some (.int .i64 v.bal)∧W.cell? ⟨B,1,none⟩=some (.int .i64 v.val)) 12 kF ⟨qBq,cK qBq r0,cK qBq r1⟩ (fun hS=>?_);refine tY 1 ?_;refine tY 2 ?_;refine tY 3 ?_;refine tY 5 ?_;refine tY 8 ?_;refine tY 9 ?_;refine tY 10 ?_;have hB3:Below w.heap.size w wt.drew.drew:=Below.drew (Below.drew (bS hBY hYt));have HO3:Hid (∀W:World,Below wt.drew.drew.heap.size wt.drew.drew W→W.ownsRow w.heap.size 126 2 (.slice (some ⟨g,0,none⟩) ys.length cap) ys.length (kJ ys)):=fun W hW=>gT (gT hOY (Below.drew (Below.drew hYt))) hW
      have HS1:Hid (∀W:World,Below wt.drew.drew.heap.size wt.drew.drew W→pQ W (.slice (some ⟨g,0,none⟩) a cap) a (kJ (ys.take a))):=fun W hW=>by
       have:=pO (HO3.out W hW) 0 a (by rw[HLn.out];omega) cap;simpa using this
      have HS2:Hid (∀W:World,Below wt.drew.drew.heap.size wt.drew.drew W→∀c,pQ W (.slice (some ⟨g,a*2,none⟩) (L-a) c) (L-a) (kJ (ys.drop a))):=fun W hW c=>by
       have:=pO (HO3.out W hW) a (L-a) (by rw[HLn.out];omega) c;rw[List.take_of_length_le (by rw[List.length_drop,HLn.out];omega)] at this;exact this
      have HL1:Hid ((ys.take a).length=a):=by rw[Hid,List.length_take,HLn.out];omega
      have HL2:Hid ((ys.drop a).length=L-a):=by rw[Hid,List.length_drop,HLn.out]
      have HInv:Hid (Inv D i (k+1) (ys.take a++[v]++ys.drop a)):=fLm hok.out HI.out HB.out.1 HB.out.2.1 HB.out.2.2 HCh.out (by rw[HLn.out];omega) HA1.out (fun h=>⟨by have:=HA2.out;omega,HA3.out⟩);have hzB:B<wt.drew.drew.heap.size:=wL wt _ r0;have hwW:w.heap.size≤wt.drew.drew.heap.size:=hB3.size;have hwt0:wt.heap.size≤wt.drew.drew.heap.size:=Nat.le_refl _;generalize wt.drew.drew=W0 at *;obtain⟨P1,hP1⟩:∃P,ys.take a=P:=⟨_,rfl⟩
      obtain⟨P2,hP2⟩:∃P,ys.drop a=P:=⟨_,rfl⟩
      rw[hP1] at HS1 HL1 HInv;rw[hP2] at HS2 HL2 HInv;clear hP1 hP2 HO3;refine fBf [(0,84),(4,88),(6,90),(7,91),(11,95)] insC (insG W0.heap.size P1 P2 v) kF hS ?_ ?_ ?_ ?_
      ·intro F' W W' h hm hF;obtain⟨h1,h3,h4⟩:=h;exact⟨hm.below h1 h1.size (fun b hb=>by have:=hF b hb;omega),hm.cell h3 (fun e=>by have:=hF _ e;dsimp only at this;omega),hm.cell h4 (fun e=>by have:=hF _ e;dsimp only at this;omega)⟩
      ·
       intro pp hp;simp only[List.mem_cons,List.not_mem_nil,or_false] at hp;rcases hp with rfl|rfl|rfl|rfl|rfl
       all_goals
        intro y y' F F' W W' h hi hm hap hF e _;simp only[insG] at h ⊢;rw[e];exact votsR.mod h hm (fun b h1 h2=>hap b h2 h1)
      ·
       intro pp hp;simp only[List.mem_cons,List.not_mem_nil,or_false] at hp;rcases hp with rfl|rfl|rfl|rfl|rfl
       all_goals
        refine⟨_,rfl,rfl,?_⟩;intro y W Φ hSW hBW hd K hK
       ·clear hd;refine⟨?_⟩;simp only[over,Act.put,jA,jB,jC,List.map_cons,List.map_nil,List.foldl_cons,List.foldl_nil,jD,jE,jF] at hK ⊢;go_simp;refine hK _ _ (fun b=>b=W.heap.size) (Mod.of_below qBq) (fun b hb=>.inr (by first|omega|(dsimp only at hb;omega)|(simp;omega))) ?_;simp only[insG,updV];refine⟨World.ownsRow_lit (base:=W0.heap.size) (e:=126) (size:=2) W #[] 0 hBW.size (by unfold maxLen;omega) rfl,?_⟩;funext b;simp[Value.ownBlock,eq_comm]
       ·have g0:=(hd (0,84) (by simp) kF (.inl (by simp[insC]))).2;clear hd;simp only[insG] at g0;refine⟨?_⟩;have hsrc:=HS1.out W hBW;refine qW W rfl (.tmp 84) (.tmp 87) rfl W0.heap.size (y 84) (Φ 0) [] rfl (.slice (some ⟨g,0,none⟩) a cap) P1 rfl g0 (by rw[HL1.out];exact hsrc) (by rw[HL1.out];simp;omega) hBW.size ?_;intro v' w' hO hm hl;refine hK _ _ (fun b=>v'.ownBlock=some b) (hm.mono (fun b hb=>⟨0,by simp[insC],hb⟩)) (fun b hb=>(hl b hb).imp (fun h=>⟨0,by simp[insC],h⟩) (fun h=>h)) ?_;simp only[insG,updV];simpa using hO
       ·clear hd;obtain⟨h1,h3,h4⟩:=hSW;refine⟨?_⟩;simp only[over,Act.put,jA,jB,jC,List.map_cons,List.map_nil,List.foldl_cons,List.foldl_nil,jD,jE,jF] at hK ⊢;go_simp;refine hK _ _ (fun b=>b=W.heap.size) (Mod.of_below qBq) (fun b hb=>.inr (by first|omega|(dsimp only at hb;omega)|(simp;omega))) ?_;simp only[insG,updV];refine⟨World.ownsRow_lit (base:=W0.heap.size) (e:=126) (size:=2) W #[.int .i64 v.bal,.int .i64 v.val] 1 hBW.size (by unfold maxLen;omega) rfl,?_⟩;funext b;simp[Value.ownBlock,eq_comm]
       ·have g0:=(hd (4,88) (by simp) kF (.inl (by simp[insC]))).2;have g1:=(hd (6,90) (by simp) kF (.inr (by simp[insC]))).2;clear hd;simp only[insG] at g0 g1;refine⟨?_⟩;refine qW W rfl (.tmp 88) (.tmp 90) rfl W0.heap.size (y 88) (Φ 4) P1 rfl (y 90) [v] rfl g0 (zA g1.1) (by rw[HL1.out];simp;omega) hBW.size ?_;intro v' w' hO hm hl;refine hK _ _ (fun b=>v'.ownBlock=some b) (hm.mono (fun b hb=>⟨4,by simp[insC],hb⟩)) (fun b hb=>(hl b hb).imp (fun h=>⟨4,by simp[insC],h⟩) (fun h=>h)) ?_;simp only[insG,updV];simpa using hO
       have g0:=(hd (7,91) (by simp) kF (.inl (by simp[insC]))).2;clear hd;simp only[insG] at g0;refine⟨?_⟩;have hsrc:=HS2.out W hBW (cap-a);refine qW W rfl (.tmp 91) (.tmp 94) rfl W0.heap.size (y 91) (Φ 7) (P1++[v]) rfl (.slice (some ⟨g,a*2,none⟩) (L-a) (cap-a)) P2 rfl g0 (by rw[HL2.out];exact hsrc) (by rw[List.length_append,HL1.out,HL2.out];simp;omega) hBW.size ?_;intro v' w' hO hm hl;refine hK _ _ (fun b=>v'.ownBlock=some b) (hm.mono (fun b hb=>⟨7,by simp[insC],hb⟩)) (fun b hb=>(hl b hb).imp (fun h=>⟨7,by simp[insC],h⟩) (fun h=>h)) ?_;simp only[insG,updV];simpa using hO
      refine⟨_,rfl,?_⟩;intro y W Φ hSW hBW hd hap K hK;have g11:=(hd (11,95) (by simp) (by simp[insC])).2;clear hd hap;simp only[insG] at g11;have g11':=g11.1;have HN9:Hid ((P1++[v]++P2).length=L+1):=by rw[Hid,List.length_append,List.length_append,HL1.out,HL2.out];simp <;> omega
      rw[HN9.out] at g11';clear g11;have hform:∃g9 c9,y 95 =.slice (some ⟨g9,0,none⟩) (L+1) c9:=by
       rcases g11'.2 with ⟨_,h⟩|⟨g9,c9,_,h,_⟩
       ·omega
       exact⟨g9,c9,h⟩
      obtain⟨g9,c9,e9⟩:=hform;have hBw:Below w.heap.size w W:=bS hB3 hBW;refine⟨?_⟩;simp only[over,Act.put,jA,jB,jC,List.map_cons,List.map_nil,List.foldl_cons,List.foldl_nil,jD,jE,jF];simp only[e9] at g11' ⊢;go_simp;refine hK _ _ ?_;clear hK K hSW;refine NoPanic.normal ?_;have hOf:W.ownsRow w.heap.size 126 2 (.slice (some ⟨g9,0,none⟩) (P1++[v]++P2).length c9) (P1++[v]++P2).length (kJ (P1++[v]++P2)):=by rw[HN9.out];exact mF g11' hwW
      clear g11' hBW hB3 r0 r1 hS hYt hOY;go_wp2;exact⟨⟨k+1,P1++[v]++P2,g9,c9,by omega,by go_num,by rw[HN9.out],hOf,HInv.out,by rw[HN9.out];omega,hBw⟩,mI⟩
     have heq:∀w,(binOp .neq 126 (.agg #[.int .i64 p.bal,.int .i64 p.val]) (.agg #[.int .i64 v.bal,.int .i64 v.val])).run Tryz.prog w =.ok (.bool false) w:=fun w=>by rw[uW,he];rfl
     have HA3:Hid (v ∈ ys):=by have h:=vot_eq.1 he;rw[HP.out] at h;rw[←h];exact fB8 (by rw[HLn.out];omega)
     clear he;go_wp2;refine wp_region_noPanic ?_;refine fB (fun W=>Below wt.heap.size wt W∧(W.cell? ⟨B,0,none⟩=some (.int .i64 v.bal)∧W.cell? ⟨B,1,none⟩=some (.int .i64 v.val))∧W.cell? ⟨g,a*2,none⟩=some (.int .i64 p.bal)∧W.cell? ⟨g,a*2+1,none⟩=some (.int .i64 p.val)) 19 kF ⟨qBq,⟨cK qBq r0,cK qBq r1⟩,cK qBq p0,cK qBq p1⟩ (fun hS=>?_);refine tX 0 ?_;refine tX 1 ?_;refine tX 2 ?_;refine uS 3 rfl (fun K hK=>?_);go_simp;refine(rR _ h19 _).mono ?_;rintro e w5 ⟨rfl,rfl⟩;refine hK _ _ (fun _=>hS) ?_;clear hK K;try simp only[jX]
     rw[HQ.out];refine tX 4 (v:=(.bool true)) ?_;refine tX 5 (v:=(.bool true)) ?_;refine tX 6 ?_;refine tX 7 ?_;refine tX 8 ?_;refine tX 9 (v:=(.bool false)) ?_;refine tX 10 (v:=(.bool false)) ?_;refine tX 11 ?_;refine tX 12 ?_;refine tX 13 ?_;refine tX 14 ?_;refine tX 15 ?_;refine tX 16 (v:=(.bool false)) ?_;refine tX 17 (v:=(.bool false)) ?_;refine tX 18 (v:=(.bool false)) ?_;refine dP ?_;clear hS;clear p0 p1 heq;have hBt:Below w.heap.size w wt.drew:=Below.drew (bS hBY hYt);have hOt:=gT hOY (Below.drew hYt);clear r0 r1;go_wp2;exact⟨⟨k+1,ys,g,cap,by omega,by go_num,by rw[HLn.out],hOt,fF3 HI.out HB.out.1 HB.out.2.1 HB.out.2.2 (.inr HA3.out),by rw[HLn.out];omega,hBt⟩,mI⟩
    have hd:decide (quoV (n:Int)≤(c:Int))=false:=by simp[hch]
    have HCh:Hid (¬isCh D v):=fun h=>hch (by have h':_≤_:=h;rw[HN.out,←HCn.out] at h';exact h')
    obtain⟨qq,hqq⟩:∃q,q=quoV (n:Int):=⟨_,rfl⟩
    have HQ:Hid (quoV (n:Int)=qq):=hqq.symm;rw[←hqq] at hch hd;clear hqq;have hel:((a:Int)==(L:Int))=false:=by simp;omega
    go_wp2;refine wp_region_noPanic ?_;refine fB (fun W=>Below wt.heap.size wt W∧(W.cell? ⟨B,0,none⟩=some (.int .i64 v.bal)∧W.cell? ⟨B,1,none⟩=some (.int .i64 v.val))∧W.cell? ⟨g,a*2,none⟩=some (.int .i64 p.bal)∧W.cell? ⟨g,a*2+1,none⟩=some (.int .i64 p.val)) 19 kF ⟨qBq,⟨cK qBq r0,cK qBq r1⟩,cK qBq p0,cK qBq p1⟩ (fun hS=>?_);refine tX 0 ?_;refine tX 1 ?_;refine tX 2 ?_;refine uS 3 rfl (fun K hK=>?_);go_simp;refine(rR _ h19 _).mono ?_;rintro e w5 ⟨rfl,rfl⟩;refine hK _ _ (fun _=>hS) ?_;clear hK K;try simp only[jX]
    rw[HQ.out];refine tX 4 (v:=(.bool false)) ?_;refine tX 5 (v:=(.bool false)) ?_;refine sY 6 ?_;refine sY 7 ?_;refine sY 8 ?_;refine sY 9 ?_;refine sY 10 ?_;refine sY 11 ?_;refine sY 12 ?_;refine sY 13 ?_;refine sY 14 ?_;refine sY 15 ?_;refine sY 16 ?_;refine sY 17 ?_;refine tX 18 (v:=(.bool false)) ?_;refine dP ?_;clear hS;clear p0 p1;have hBt:Below w.heap.size w wt.drew:=Below.drew (bS hBY hYt);have hOt:=gT hOY (Below.drew hYt);clear r0 r1;go_wp2;exact⟨⟨k+1,ys,g,cap,by omega,by go_num,by rw[HLn.out],hOt,fF3 HI.out HB.out.1 HB.out.2.1 HB.out.2.2 (.inl HCh.out),by rw[HLn.out];omega,hBt⟩,mI⟩
   have haL':a=L:=oM;have hd1:decide ((a:Int)<(L:Int))=false:=by simp;omega
   go_wp2;go_quiet (fail);go_wp2;replace r0:=cK (fJ (Below.refl _ wr) nq) r0;replace r1:=cK (fJ (Below.refl _ wr) nq) r1;replace hYt:=fJ hYt nq;generalize wr.drewN nq=wt at *;clear hd1;by_cases hch:quoV (n:Int)≤(c:Int)
   ·
    have hd:decide (quoV (n:Int)≤(c:Int))=true:=by simp[hch]
    have HCh:Hid (isCh D v):=by show _≤_;rw[HN.out,←HCn.out];exact hch
    obtain⟨qq,hqq⟩:∃q,q=quoV (n:Int):=⟨_,rfl⟩
    have HQ:Hid (quoV (n:Int)=qq):=hqq.symm;rw[←hqq] at hch hd;clear hqq;have hel:((a:Int)==(L:Int))=true:=by simp;omega
    go_wp2;refine wp_region_noPanic ?_;refine fB (fun W=>Below wt.heap.size wt W∧(W.cell? ⟨B,0,none⟩=some (.int .i64 v.bal)∧W.cell? ⟨B,1,none⟩=some (.int .i64 v.val))) 19 kF ⟨qBq,⟨cK qBq r0,cK qBq r1⟩⟩ (fun hS=>?_);refine tX 0 ?_;refine tX 1 ?_;refine tX 2 ?_;refine uS 3 rfl (fun K hK=>?_);go_simp;refine(rR _ h19 _).mono ?_;rintro e w5 ⟨rfl,rfl⟩;refine hK _ _ (fun _=>hS) ?_;clear hK K;try simp only[jX]
    rw[HQ.out];refine tX 4 (v:=(.bool true)) ?_;refine tX 5 (v:=(.bool true)) ?_;refine tX 6 ?_;refine tX 7 ?_;refine tX 8 ?_;refine tX 9 (v:=(.bool true)) ?_;refine tX 10 (v:=(.bool true)) ?_;refine sY 11 ?_;refine sY 12 ?_;refine sY 13 ?_;refine sY 14 ?_;refine sY 15 ?_;refine sY 16 ?_;refine tX 17 (v:=(.bool true)) ?_;refine tX 18 (v:=(.bool true)) ?_;refine dP ?_;clear hS;have haL9:L=a:=oM;clear haL' hel;subst haL9;by_cases hca:cap=L
    ·
     have hca9:L=cap:=hca.symm;clear hca;subst hca9;have hac1:L≤L:=oM;have hac2:L≤L:=oM;have hac3:(L:Int)≤(L:Int):=oM;have hac4:(L:Int)≤(L:Int):=oM;have hac5:(0:Int)≤(L:Int):=oM;go_wp2;refine wp_region_noPanic ?_;refine fB (fun W=>Below wt.heap.size wt W∧W.cell? ⟨B,0,none⟩=some (.int .i64 v.bal)∧W.cell? ⟨B,1,none⟩=some (.int .i64 v.val)) 12 kF ⟨qBq,cK qBq r0,cK qBq r1⟩ (fun hS=>?_);refine tY 1 ?_;refine tY 2 ?_;refine tY 3 ?_;refine tY 5 ?_;refine tY 8 ?_;refine tY 9 ?_;refine tY 10 ?_;have hB3:Below w.heap.size w wt.drew.drew:=Below.drew (Below.drew (bS hBY hYt));have HO3:Hid (∀W:World,Below wt.drew.drew.heap.size wt.drew.drew W→W.ownsRow w.heap.size 126 2 (.slice (some ⟨g,0,none⟩) ys.length L) ys.length (kJ ys)):=fun W hW=>gT (gT hOY (Below.drew (Below.drew hYt))) hW
     have HS1:Hid (∀W:World,Below wt.drew.drew.heap.size wt.drew.drew W→pQ W (.slice (some ⟨g,0,none⟩) L L) L (kJ (ys.take L))):=fun W hW=>by
      have:=pO (HO3.out W hW) 0 L (by rw[HLn.out];omega) L;simpa using this
     have HS2:Hid (∀W:World,Below wt.drew.drew.heap.size wt.drew.drew W→∀c,pQ W (.slice (some ⟨g,L*2,none⟩) (L-L) c) (L-L) (kJ (ys.drop L))):=fun W hW c=>by
      have:=pO (HO3.out W hW) L (L-L) (by rw[HLn.out];omega) c;rw[List.take_of_length_le (by rw[List.length_drop,HLn.out];omega)] at this;exact this
     have HL1:Hid ((ys.take L).length=L):=by rw[Hid,List.length_take,HLn.out];omega
     have HL2:Hid ((ys.drop L).length=L-L):=by rw[Hid,List.length_drop,HLn.out]
     have HInv:Hid (Inv D i (k+1) (ys.take L++[v]++ys.drop L)):=fLm hok.out HI.out HB.out.1 HB.out.2.1 HB.out.2.2 HCh.out (by rw[HLn.out];omega) HA1.out (fun h=>absurd h (by rw[HLn.out];omega));have hzB:B<wt.drew.drew.heap.size:=wL wt _ r0;have hwW:w.heap.size≤wt.drew.drew.heap.size:=hB3.size;have hwt0:wt.heap.size≤wt.drew.drew.heap.size:=Nat.le_refl _;generalize wt.drew.drew=W0 at *;obtain⟨P1,hP1⟩:∃P,ys.take L=P:=⟨_,rfl⟩
     obtain⟨P2,hP2⟩:∃P,ys.drop L=P:=⟨_,rfl⟩
     rw[hP1] at HS1 HL1 HInv;rw[hP2] at HS2 HL2 HInv;clear hP1 hP2 HO3;refine fBf [(0,84),(4,88),(6,90),(7,91),(11,95)] insC (insG W0.heap.size P1 P2 v) kF hS ?_ ?_ ?_ ?_
     ·intro F' W W' h hm hF;obtain⟨h1,h3,h4⟩:=h;exact⟨hm.below h1 h1.size (fun b hb=>by have:=hF b hb;omega),hm.cell h3 (fun e=>by have:=hF _ e;dsimp only at this;omega),hm.cell h4 (fun e=>by have:=hF _ e;dsimp only at this;omega)⟩
     ·
      intro pp hp;simp only[List.mem_cons,List.not_mem_nil,or_false] at hp;rcases hp with rfl|rfl|rfl|rfl|rfl
      all_goals
       intro y y' F F' W W' h hi hm hap hF e _;simp only[insG] at h ⊢;rw[e];exact votsR.mod h hm (fun b h1 h2=>hap b h2 h1)
     ·
      intro pp hp;simp only[List.mem_cons,List.not_mem_nil,or_false] at hp;rcases hp with rfl|rfl|rfl|rfl|rfl
      all_goals
       refine⟨_,rfl,rfl,?_⟩;intro y W Φ hSW hBW hd K hK
      ·clear hd;refine⟨?_⟩;simp only[over,Act.put,jA,jB,jC,List.map_cons,List.map_nil,List.foldl_cons,List.foldl_nil,jD,jE,jF] at hK ⊢;go_simp;refine hK _ _ (fun b=>b=W.heap.size) (Mod.of_below qBq) (fun b hb=>.inr (by first|omega|(dsimp only at hb;omega)|(simp;omega))) ?_;simp only[insG,updV];refine⟨World.ownsRow_lit (base:=W0.heap.size) (e:=126) (size:=2) W #[] 0 hBW.size (by unfold maxLen;omega) rfl,?_⟩;funext b;simp[Value.ownBlock,eq_comm]
      ·have g0:=(hd (0,84) (by simp) kF (.inl (by simp[insC]))).2;clear hd;simp only[insG] at g0;refine⟨?_⟩;have hsrc:=HS1.out W hBW;refine qW W rfl (.tmp 84) (.tmp 87) rfl W0.heap.size (y 84) (Φ 0) [] rfl (.slice (some ⟨g,0,none⟩) L L) P1 rfl g0 (by rw[HL1.out];exact hsrc) (by rw[HL1.out];simp;omega) hBW.size ?_;intro v' w' hO hm hl;refine hK _ _ (fun b=>v'.ownBlock=some b) (hm.mono (fun b hb=>⟨0,by simp[insC],hb⟩)) (fun b hb=>(hl b hb).imp (fun h=>⟨0,by simp[insC],h⟩) (fun h=>h)) ?_;simp only[insG,updV];simpa using hO
      ·clear hd;obtain⟨h1,h3,h4⟩:=hSW;refine⟨?_⟩;simp only[over,Act.put,jA,jB,jC,List.map_cons,List.map_nil,List.foldl_cons,List.foldl_nil,jD,jE,jF] at hK ⊢;go_simp;refine hK _ _ (fun b=>b=W.heap.size) (Mod.of_below qBq) (fun b hb=>.inr (by first|omega|(dsimp only at hb;omega)|(simp;omega))) ?_;simp only[insG,updV];refine⟨World.ownsRow_lit (base:=W0.heap.size) (e:=126) (size:=2) W #[.int .i64 v.bal,.int .i64 v.val] 1 hBW.size (by unfold maxLen;omega) rfl,?_⟩;funext b;simp[Value.ownBlock,eq_comm]
      ·have g0:=(hd (4,88) (by simp) kF (.inl (by simp[insC]))).2;have g1:=(hd (6,90) (by simp) kF (.inr (by simp[insC]))).2;clear hd;simp only[insG] at g0 g1;refine⟨?_⟩;refine qW W rfl (.tmp 88) (.tmp 90) rfl W0.heap.size (y 88) (Φ 4) P1 rfl (y 90) [v] rfl g0 (zA g1.1) (by rw[HL1.out];simp;omega) hBW.size ?_;intro v' w' hO hm hl;refine hK _ _ (fun b=>v'.ownBlock=some b) (hm.mono (fun b hb=>⟨4,by simp[insC],hb⟩)) (fun b hb=>(hl b hb).imp (fun h=>⟨4,by simp[insC],h⟩) (fun h=>h)) ?_;simp only[insG,updV];simpa using hO
      have g0:=(hd (7,91) (by simp) kF (.inl (by simp[insC]))).2;clear hd;simp only[insG] at g0;refine⟨?_⟩;have hsrc:pQ W (.slice (some ⟨g,0,none⟩) 0 0) 0 (kJ P2):=by
       have e0:P2=[]:=List.eq_nil_of_length_eq_zero (by rw[HL2.out];omega);rw[e0];exact .inr ⟨_,_,rfl,fun j x hj=>by simp[kJ] at hj⟩
      refine qW W rfl (.tmp 91) (.tmp 94) rfl W0.heap.size (y 91) (Φ 7) (P1++[v]) rfl (.slice (some ⟨g,0,none⟩) 0 0) P2 rfl g0 (by rw[HL2.out,show L-L=0 by omega];exact hsrc) (by rw[List.length_append,HL1.out,HL2.out];simp;omega) hBW.size ?_;intro v' w' hO hm hl;refine hK _ _ (fun b=>v'.ownBlock=some b) (hm.mono (fun b hb=>⟨7,by simp[insC],hb⟩)) (fun b hb=>(hl b hb).imp (fun h=>⟨7,by simp[insC],h⟩) (fun h=>h)) ?_;simp only[insG,updV];simpa using hO
     refine⟨_,rfl,?_⟩;intro y W Φ hSW hBW hd hap K hK;have g11:=(hd (11,95) (by simp) (by simp[insC])).2;clear hd hap;simp only[insG] at g11;have g11':=g11.1;have HN9:Hid ((P1++[v]++P2).length=L+1):=by rw[Hid,List.length_append,List.length_append,HL1.out,HL2.out];simp <;> omega
     rw[HN9.out] at g11';clear g11;have hform:∃g9 c9,y 95 =.slice (some ⟨g9,0,none⟩) (L+1) c9:=by
      rcases g11'.2 with ⟨_,h⟩|⟨g9,c9,_,h,_⟩
      ·omega
      exact⟨g9,c9,h⟩
     obtain⟨g9,c9,e9⟩:=hform;have hBw:Below w.heap.size w W:=bS hB3 hBW;refine⟨?_⟩;simp only[over,Act.put,jA,jB,jC,List.map_cons,List.map_nil,List.foldl_cons,List.foldl_nil,jD,jE,jF];simp only[e9] at g11' ⊢;go_simp;refine hK _ _ ?_;clear hK K hSW;refine NoPanic.normal ?_;have hOf:W.ownsRow w.heap.size 126 2 (.slice (some ⟨g9,0,none⟩) (P1++[v]++P2).length c9) (P1++[v]++P2).length (kJ (P1++[v]++P2)):=by rw[HN9.out];exact mF g11' hwW
     clear g11' hBW hB3 r0 r1 hS hYt hOY;go_wp2;exact⟨⟨k+1,P1++[v]++P2,g9,c9,by omega,by go_num,by rw[HN9.out],hOf,HInv.out,by rw[HN9.out];omega,hBw⟩,mI⟩
    have hac1:L≤cap:=oM;have hac2:L≤L:=oM;have hac3:(L:Int)≤(L:Int):=oM;have hac4:(L:Int)≤(cap:Int):=oM;have hac5:(0:Int)≤(L:Int):=oM;go_wp2;refine wp_region_noPanic ?_;refine fB (fun W=>Below wt.heap.size wt W∧W.cell? ⟨B,0,none⟩=some (.int .i64 v.bal)∧W.cell? ⟨B,1,none⟩=some (.int .i64 v.val)) 12 kF ⟨qBq,cK qBq r0,cK qBq r1⟩ (fun hS=>?_);refine tY 1 ?_;refine tY 2 ?_;refine tY 3 ?_;refine tY 5 ?_;refine tY 8 ?_;refine tY 9 ?_;refine tY 10 ?_;have hB3:Below w.heap.size w wt.drew.drew:=Below.drew (Below.drew (bS hBY hYt));have HO3:Hid (∀W:World,Below wt.drew.drew.heap.size wt.drew.drew W→W.ownsRow w.heap.size 126 2 (.slice (some ⟨g,0,none⟩) ys.length cap) ys.length (kJ ys)):=fun W hW=>gT (gT hOY (Below.drew (Below.drew hYt))) hW
    have HS1:Hid (∀W:World,Below wt.drew.drew.heap.size wt.drew.drew W→pQ W (.slice (some ⟨g,0,none⟩) L cap) L (kJ (ys.take L))):=fun W hW=>by
     have:=pO (HO3.out W hW) 0 L (by rw[HLn.out];omega) cap;simpa using this
    have HS2:Hid (∀W:World,Below wt.drew.drew.heap.size wt.drew.drew W→∀c,pQ W (.slice (some ⟨g,L*2,none⟩) (L-L) c) (L-L) (kJ (ys.drop L))):=fun W hW c=>by
     have:=pO (HO3.out W hW) L (L-L) (by rw[HLn.out];omega) c;rw[List.take_of_length_le (by rw[List.length_drop,HLn.out];omega)] at this;exact this
    have HL1:Hid ((ys.take L).length=L):=by rw[Hid,List.length_take,HLn.out];omega
    have HL2:Hid ((ys.drop L).length=L-L):=by rw[Hid,List.length_drop,HLn.out]
    have HInv:Hid (Inv D i (k+1) (ys.take L++[v]++ys.drop L)):=fLm hok.out HI.out HB.out.1 HB.out.2.1 HB.out.2.2 HCh.out (by rw[HLn.out];omega) HA1.out (fun h=>absurd h (by rw[HLn.out];omega));have hzB:B<wt.drew.drew.heap.size:=wL wt _ r0;have hwW:w.heap.size≤wt.drew.drew.heap.size:=hB3.size;have hwt0:wt.heap.size≤wt.drew.drew.heap.size:=Nat.le_refl _;generalize wt.drew.drew=W0 at *;obtain⟨P1,hP1⟩:∃P,ys.take L=P:=⟨_,rfl⟩
    obtain⟨P2,hP2⟩:∃P,ys.drop L=P:=⟨_,rfl⟩
    rw[hP1] at HS1 HL1 HInv;rw[hP2] at HS2 HL2 HInv;clear hP1 hP2 HO3;refine fBf [(0,84),(4,88),(6,90),(7,91),(11,95)] insC (insG W0.heap.size P1 P2 v) kF hS ?_ ?_ ?_ ?_
    ·intro F' W W' h hm hF;obtain⟨h1,h3,h4⟩:=h;exact⟨hm.below h1 h1.size (fun b hb=>by have:=hF b hb;omega),hm.cell h3 (fun e=>by have:=hF _ e;dsimp only at this;omega),hm.cell h4 (fun e=>by have:=hF _ e;dsimp only at this;omega)⟩
    ·
     intro pp hp;simp only[List.mem_cons,List.not_mem_nil,or_false] at hp;rcases hp with rfl|rfl|rfl|rfl|rfl
     all_goals
      intro y y' F F' W W' h hi hm hap hF e _;simp only[insG] at h ⊢;rw[e];exact votsR.mod h hm (fun b h1 h2=>hap b h2 h1)
    ·
     intro pp hp;simp only[List.mem_cons,List.not_mem_nil,or_false] at hp;rcases hp with rfl|rfl|rfl|rfl|rfl
     all_goals
      refine⟨_,rfl,rfl,?_⟩;intro y W Φ hSW hBW hd K hK
     ·clear hd;refine⟨?_⟩;simp only[over,Act.put,jA,jB,jC,List.map_cons,List.map_nil,List.foldl_cons,List.foldl_nil,jD,jE,jF] at hK ⊢;go_simp;refine hK _ _ (fun b=>b=W.heap.size) (Mod.of_below qBq) (fun b hb=>.inr (by first|omega|(dsimp only at hb;omega)|(simp;omega))) ?_;simp only[insG,updV];refine⟨World.ownsRow_lit (base:=W0.heap.size) (e:=126) (size:=2) W #[] 0 hBW.size (by unfold maxLen;omega) rfl,?_⟩;funext b;simp[Value.ownBlock,eq_comm]
     ·have g0:=(hd (0,84) (by simp) kF (.inl (by simp[insC]))).2;clear hd;simp only[insG] at g0;refine⟨?_⟩;have hsrc:=HS1.out W hBW;refine qW W rfl (.tmp 84) (.tmp 87) rfl W0.heap.size (y 84) (Φ 0) [] rfl (.slice (some ⟨g,0,none⟩) L cap) P1 rfl g0 (by rw[HL1.out];exact hsrc) (by rw[HL1.out];simp;omega) hBW.size ?_;intro v' w' hO hm hl;refine hK _ _ (fun b=>v'.ownBlock=some b) (hm.mono (fun b hb=>⟨0,by simp[insC],hb⟩)) (fun b hb=>(hl b hb).imp (fun h=>⟨0,by simp[insC],h⟩) (fun h=>h)) ?_;simp only[insG,updV];simpa using hO
     ·clear hd;obtain⟨h1,h3,h4⟩:=hSW;refine⟨?_⟩;simp only[over,Act.put,jA,jB,jC,List.map_cons,List.map_nil,List.foldl_cons,List.foldl_nil,jD,jE,jF] at hK ⊢;go_simp;refine hK _ _ (fun b=>b=W.heap.size) (Mod.of_below qBq) (fun b hb=>.inr (by first|omega|(dsimp only at hb;omega)|(simp;omega))) ?_;simp only[insG,updV];refine⟨World.ownsRow_lit (base:=W0.heap.size) (e:=126) (size:=2) W #[.int .i64 v.bal,.int .i64 v.val] 1 hBW.size (by unfold maxLen;omega) rfl,?_⟩;funext b;simp[Value.ownBlock,eq_comm]
     ·have g0:=(hd (4,88) (by simp) kF (.inl (by simp[insC]))).2;have g1:=(hd (6,90) (by simp) kF (.inr (by simp[insC]))).2;clear hd;simp only[insG] at g0 g1;refine⟨?_⟩;refine qW W rfl (.tmp 88) (.tmp 90) rfl W0.heap.size (y 88) (Φ 4) P1 rfl (y 90) [v] rfl g0 (zA g1.1) (by rw[HL1.out];simp;omega) hBW.size ?_;intro v' w' hO hm hl;refine hK _ _ (fun b=>v'.ownBlock=some b) (hm.mono (fun b hb=>⟨4,by simp[insC],hb⟩)) (fun b hb=>(hl b hb).imp (fun h=>⟨4,by simp[insC],h⟩) (fun h=>h)) ?_;simp only[insG,updV];simpa using hO
     have g0:=(hd (7,91) (by simp) kF (.inl (by simp[insC]))).2;clear hd;simp only[insG] at g0;refine⟨?_⟩;have hsrc:=HS2.out W hBW (cap-L);rw[show L-L=0 by omega] at hsrc;refine qW W rfl (.tmp 91) (.tmp 94) rfl W0.heap.size (y 91) (Φ 7) (P1++[v]) rfl (.slice (some ⟨g,L*2,none⟩) 0 (cap-L)) P2 rfl g0 (by rw[HL2.out,show L-L=0 by omega];exact hsrc) (by rw[List.length_append,HL1.out,HL2.out];simp;omega) hBW.size ?_;intro v' w' hO hm hl;refine hK _ _ (fun b=>v'.ownBlock=some b) (hm.mono (fun b hb=>⟨7,by simp[insC],hb⟩)) (fun b hb=>(hl b hb).imp (fun h=>⟨7,by simp[insC],h⟩) (fun h=>h)) ?_;simp only[insG,updV];simpa using hO
    refine⟨_,rfl,?_⟩;intro y W Φ hSW hBW hd hap K hK;have g11:=(hd (11,95) (by simp) (by simp[insC])).2;clear hd hap;simp only[insG] at g11;have g11':=g11.1;have HN9:Hid ((P1++[v]++P2).length=L+1):=by rw[Hid,List.length_append,List.length_append,HL1.out,HL2.out];simp <;> omega
    rw[HN9.out] at g11';clear g11;have hform:∃g9 c9,y 95 =.slice (some ⟨g9,0,none⟩) (L+1) c9:=by
     rcases g11'.2 with ⟨_,h⟩|⟨g9,c9,_,h,_⟩
     ·omega
     exact⟨g9,c9,h⟩
    obtain⟨g9,c9,e9⟩:=hform;have hBw:Below w.heap.size w W:=bS hB3 hBW;refine⟨?_⟩;simp only[over,Act.put,jA,jB,jC,List.map_cons,List.map_nil,List.foldl_cons,List.foldl_nil,jD,jE,jF];simp only[e9] at g11' ⊢;go_simp;refine hK _ _ ?_;clear hK K hSW;refine NoPanic.normal ?_;have hOf:W.ownsRow w.heap.size 126 2 (.slice (some ⟨g9,0,none⟩) (P1++[v]++P2).length c9) (P1++[v]++P2).length (kJ (P1++[v]++P2)):=by rw[HN9.out];exact mF g11' hwW
    clear g11' hBW hB3 r0 r1 hS hYt hOY;go_wp2;exact⟨⟨k+1,P1++[v]++P2,g9,c9,by omega,by go_num,by rw[HN9.out],hOf,HInv.out,by rw[HN9.out];omega,hBw⟩,mI⟩
   have hd:decide (quoV (n:Int)≤(c:Int))=false:=by simp[hch]
   have HCh:Hid (¬isCh D v):=fun h=>hch (by have h':_≤_:=h;rw[HN.out,←HCn.out] at h';exact h')
   obtain⟨qq,hqq⟩:∃q,q=quoV (n:Int):=⟨_,rfl⟩
   have HQ:Hid (quoV (n:Int)=qq):=hqq.symm;rw[←hqq] at hch hd;clear hqq;go_wp2;refine wp_region_noPanic ?_;refine fB (fun W=>Below wt.heap.size wt W∧(W.cell? ⟨B,0,none⟩=some (.int .i64 v.bal)∧W.cell? ⟨B,1,none⟩=some (.int .i64 v.val))) 19 kF ⟨qBq,⟨cK qBq r0,cK qBq r1⟩⟩ (fun hS=>?_);refine tX 0 ?_;refine tX 1 ?_;refine tX 2 ?_;refine uS 3 rfl (fun K hK=>?_);go_simp;refine(rR _ h19 _).mono ?_;rintro e w5 ⟨rfl,rfl⟩;refine hK _ _ (fun _=>hS) ?_;clear hK K;try simp only[jX]
   rw[HQ.out];refine tX 4 (v:=(.bool false)) ?_;refine tX 5 (v:=(.bool false)) ?_;refine sY 6 ?_;refine sY 7 ?_;refine sY 8 ?_;refine sY 9 ?_;refine sY 10 ?_;refine sY 11 ?_;refine sY 12 ?_;refine sY 13 ?_;refine sY 14 ?_;refine sY 15 ?_;refine sY 16 ?_;refine sY 17 ?_;refine tX 18 (v:=(.bool false)) ?_;refine dP ?_;clear hS;have hBt:Below w.heap.size w wt.drew:=Below.drew (bS hBY hYt);have hOt:=gT hOY (Below.drew hYt);clear r0 r1;go_wp2;exact⟨⟨k+1,ys,g,cap,by omega,by go_num,by rw[HLn.out],hOt,fF3 HI.out HB.out.1 HB.out.2.1 HB.out.2.2 (.inl HCh.out),by rw[HLn.out];omega,hBt⟩,mI⟩
  have hkm':k=m:=oM;subst hkm';have HIn:Hid (Inv D (i+1) 0 ys):=fWp (by rw[←HC0.out,HM.out];exact HI.out) (by rw[HN.out];exact hlt);clear hce;go_wp2;exact⟨⟨i+1,ys,g,cap,by omega,by go_num,rfl,hO,HIn.out,by omega,hbl⟩,mI⟩
 have hin:i=n:=oM;subst hin;have HCh:Hid (Chs D ys):=fWo (by rw[HN.out];exact HI.out);clear hx;go_wp2;go_ret;exact⟨_,ys,rfl,zG hO,HCh.out,hbl⟩
variable [dQ Acc] [iH Acc] [dQ AccR] [iH AccR] [dQ AccsR] [iH AccsR] [dQ SltsR] [iH SltsR]
theorem fBn (x:Value) (l:List Acc) (c s:Int) (ys:List Vot) (w:World) (hx:accsR.V w x l) (hl:ListOk l) (hid:idOk c s=true) (hys:Chs (fQ l c s) ys) :
  RI 24 #[x,.int .i64 c,.int .i64 s] w (.int .i64 (hdV ys)):=by
 have HSl:Hid (bW w fun W=>Calls Tryz.prog 23 #[x,.int .i64 c,.int .i64 s] W fun e w'=>∃v F,e =.returned v∧sltsR.O w' W.heap.size F v (fQ l c s)∧Below W.heap.size W w'):=fun W hW=>fIz x l c s W (accsR.below hx hW) hl hid
 have HA:Hid (askF (fQ l c s)=0):=fCf hl hid;have HU:Hid (∀zs,Chs (fQ l c s) zs→zs=ys):=fun zs h=>uP h hys
 obtain⟨a,cx,rfl⟩:=qP hx;clear hx hl hid hys;generalize l.length=n at *;generalize fQ l c s=D at *;go_enter Tryz.func24,Tryz.ntmps24;go_wp2_with fail;refine(HSl.out _ qBq).mono ?_;rintro e w1 ⟨v1,F1,rfl,o1,hb1⟩;have HC:Hid (bW w1 fun W=>Calls Tryz.prog 68 #[v1] W fun e w'=>ChE D W e w'):=fun W hW=>fBm v1 D W (sltsR.below (sltsR.ofO o1) hW) HA.out
 have hB1:Below w.heap.size w w1:=qBq;clear o1 hb1 HSl;go_wp2_with fail;refine(HC.out _ qBq).mono ?_;rintro e w2 ⟨v2,zs,rfl,hv2,hz,hb2⟩;have hB2:Below w.heap.size w w2:=bS hB1 hb2;obtain rfl:=HU.out zs hz;clear hz hb2 HC;obtain⟨a2,c2,rfl,hc2,hm2,hv2⟩:=hv2;unfold maxLen at hm2;by_cases h0:zs.length=0
 ·
  have HR:Hid (hdV zs=0):=by show _=_;unfold hdV;rw[if_pos h0]
  rw[h0];clear hv2;go_wp2;go_ret;exact⟨by rw[HR.out];rfl,hB2⟩
 have HR:Hid (hdV zs=(zs.getD 0 default).val):=by show _=_;unfold hdV;rw[if_neg h0]
 obtain⟨b,o,rfl,g⟩:=hv2 0 oM;simp only[Nat.zero_mul,Nat.add_zero] at g;have g1:=g.1;have g2:=g.2;clear g hv2;generalize (zs.getD 0 default).val=y at *;generalize (zs.getD 0 default).bal=y' at *;generalize zs.length=m at *;have h0':((m:Int)==0)=false:=by simp;omega
 have i0:(0:Int)<m:=oM;go_wp2;go_ret;exact⟨by rw[HR.out];rfl,hB2⟩
end
section
open Go.Maps
variable [dQ Vot] [iH Vot] [dQ Slt] [iH Slt] [dQ SltR] [iH SltR] [dQ Bal] [iH Bal] [dQ Ledg] [iH Ledg] [dQ Leg] [iH Leg] [dQ Acc] [iH Acc] [dQ AccR] [iH AccR] [dQ AccsR] [iH AccsR] [dQ SltsR] [iH SltsR] [dQ Cont] [iH Cont]
theorem fW3 {w w':World} {p q:Addr} {u v:Value} (hb:Below w.heap.size w w') (h:w.cell? p=some u) (h':w.cell? q=some v):Below w.heap.size w w'∧w'.cell? p=some u∧w'.cell? q=some v:=⟨hb,cK hb h,cK hb h'⟩
theorem fGa (x y:Value) (l:List Acc) (c:Cont) (ysf:Int→List Vot) (w:World) (hx:accsR.V w x l) (hy:contR.V w y c) (hC:outC l c=0) (hys:∀s,s ∈ fD c.legs→Chs (fQ l c.id s) (ysf s)) :
  RI 70 #[x,y] w (.int .i64 (outV (fun s=>hdV (ysf s)) (fD c.legs))):=by
 obtain⟨uy,rfl,hy⟩:=hy;obtain⟨hlf,hcf⟩:=fL1 hC;obtain⟨_,hl2,hl8,hokL,_⟩:=fBi hcf;have HSh:Hid (bW w fun W=>Calls Tryz.prog 21 #[.agg #[.int .i64 c.id,uy]] W fun e w'=>∃v,e =.returned v∧w'.ownsRow W.heap.size 2 1 v (fD c.legs).length (gN (fD c.legs))∧Below W.heap.size W w'):=fun W hW=>xI c.id uy c.legs W (legsR.below hy hW) oM (fNx hokL)
 have HCh:Hid (∀W s,Below w.heap.size w W→s ∈ fD c.legs→RI 24 #[x,.int .i64 c.id,.int .i64 s] W (.int .i64 (hdV (ysf s)))):=fun W s hW hs=>fBn x l c.id s (ysf s) W (accsR.below hx hW) (uD hlf) (fKw hcf hs) (hys s hs)
 obtain⟨a,cx,rfl⟩:=qP hx;obtain⟨ay,cy,rfl⟩:=mM hy;clear hx hy hys hC hlf hcf hl2 hl8 hokL;generalize l.length=n at *;have HMem:Hid (∀i,i<(fD c.legs).length→(fD c.legs).getD i 0 ∈ fD c.legs):=fun i hi=>fNy hi
 have HHit:Hid (∀k,k<(fD c.legs).length→hdV (ysf ((fD c.legs).getD k 0))=2→outV (fun s=>hdV (ysf s)) (fD c.legs)=2):=fun k hk h=>fGl (f:=fun s=>hdV (ysf s)) hk h
 have HEnd:Hid ((∀k,k<(fD c.legs).length→¬hdV (ysf ((fD c.legs).getD k 0))=2)→outV (fun s=>hdV (ysf s)) (fD c.legs)=outZ (fun s=>hdV (ysf s)) (fD c.legs) (fD c.legs).length):=fun h=>fGk (f:=fun s=>hdV (ysf s)) h
 have hlen3:(fD c.legs).length≤3:=fW8 _ _ _;obtain⟨shs,hshs⟩:∃shs,shs=fD c.legs:=⟨_,rfl⟩
 rw[←hshs] at HSh HCh HMem HHit HEnd hlen3 ⊢;clear hshs;generalize c.legs.length=ny at *;obtain⟨R,hR⟩:∃R,R=outV (fun s=>hdV (ysf s)) shs:=⟨_,rfl⟩
 rw[←hR] at HHit HEnd ⊢;clear hR;go_enter Tryz.func70,Tryz.ntmps70;go_wp2_with fail;refine(HSh.out _ qBq).mono ?_;rintro e w2 ⟨v2,rfl,ho2,hb2⟩;have hB2:Below w.heap.size w w2:=qBq;have Y0:w2.cell? ⟨w.heap.size,0,none⟩=some (.int .i64 c.id):=cK hb2 sG;have Y1:w2.cell? ⟨w.heap.size,1,none⟩=some (.slice ay ny cy):=cK hb2 sG;clear hb2 HSh;obtain⟨a2,c2,rfl,hc2,hm2,hi2⟩:=kR ho2;unfold maxLen at hm2;have HI:Hid (∀i,i<shs.length→∃b o,a2=some ⟨b,o,none⟩∧w2.cell? ⟨b,o+i,none⟩=some (.int .i64 (shs.getD i 0))):=hi2;clear ho2 hi2;obtain⟨m,hm'⟩:∃m,m=shs.length:=⟨_,rfl⟩
 rw[←hm'] at hc2 HI HMem HHit HEnd hlen3 ⊢;clear hm';go_wp2;go_loopw [6,7] (fun t i w'=>∃k:Nat,k≤m∧i =.int .i64 k∧t =.int .i64 (outZ (fun s=>hdV (ysf s)) shs k)∧Hid (∀j,j<k→¬hdV (ysf (shs.getD j 0))=2)∧Below w2.heap.size w2 w') (fun t i _=>m-(intOf i).toNat)
 case atStart=>exact⟨0,oM,rfl,rfl,fun j h=>absurd h oM,bR _ _⟩
 obtain⟨k,hk,rfl,rfl,HP,hbl⟩:=hrel;have y0:=cK hbl Y0;have hBw:Below w.heap.size w wr:=bS hB2 hbl;by_cases hlt:k<m
 ·
  obtain⟨b,o,rfl,hc⟩:=HI.out k hlt;have hms:=HMem.out k hlt;have HHk:Hid (hdV (ysf (shs.getD k 0))=2→R=2):=HHit.out k hlt;have HA:Hid (outZ (fun s=>hdV (ysf s)) shs (k+1)=if hdV (ysf (shs.getD k 0))=0 then 0 else outZ (fun s=>hdV (ysf s)) shs k):=rfl;have HP2:Hid (¬hdV (ysf (shs.getD k 0))=2→∀j,j<k+1→¬hdV (ysf (shs.getD j 0))=2):=fun h j hj=>by
   by_cases e:j=k
   ·subst e;exact h
   exact HP.out j oM
  replace hc:=cK hbl hc;have HC2:Hid (bW wr fun W=>RI 24 #[.slice a n cx,.int .i64 c.id,.int .i64 (shs.getD k 0)] W (.int .i64 (hdV (ysf (shs.getD k 0))))):=fun W hW=>HCh.out W _ (bS hBw hW) hms
  have hi5:(k:Int)<m:=oM;have hi4:(0:Int)≤k:=oM;clear hms;generalize shs.getD k 0=sh at *;generalize outZ (fun s=>hdV (ysf s)) shs k=T at *;generalize hdV (ysf sh)=g at *;go_wp2;go_region_held3 (fun W=>Below wr.heap.size wr W∧W.cell? ⟨w.heap.size,0,none⟩=some (.int .i64 c.id)∧W.cell? ⟨b,o+k,none⟩=some (.int .i64 sh)) ((refine fW3 ?_ y0 hc;repeat (first|exact bR _ _|assumption|refine bD ?_|refine bA ?_ _|refine bS ?_ (by assumption)))) (first|(go_at_call 24;refine(HC2.out _ (by repeat (first|exact bR _ _|assumption|refine bD ?_|refine bA ?_ _|refine bS ?_ (by assumption)))).mono ?_;rintro e wa ⟨rfl,hb3⟩));rename_i hH;have hB3:=hH.1;clear hH;have hbl3:Below w2.heap.size w2 wa:=bS hbl hB3;have hB4:Below w.heap.size w wa:=bS hB2 hbl3;by_cases h2:g=2
  ·have HC:Hid _:=HHk.out h2;subst h2;go_wp2;go_ret;exact⟨rH,hB4⟩
  have HP4:Hid _:=HP2.out h2;have h2':(g==2)=false:=by simp[h2]
  by_cases h0:g=0
  ·
   have HA0:Hid (outZ (fun s=>hdV (ysf s)) shs (k+1)=0):=by show _=_;rw[HA.out,if_pos h0]
   subst h0;go_wp2;exact⟨⟨k+1,by omega,by go_num,by rw[HA0.out],HP4,hbl3⟩,mI⟩
  have HA0:Hid (outZ (fun s=>hdV (ysf s)) shs (k+1)=T):=by show _=_;rw[HA.out,if_neg h0]
  have h0':(g==0)=false:=by simp[h0]
  go_wp2;exact⟨⟨k+1,by omega,by go_num,by rw[HA0.out],HP4,hbl3⟩,mI⟩
 have hkm:k=m:=oM;subst hkm;have HC:Hid (R=outZ (fun s=>hdV (ysf s)) shs k):=HEnd.out HP.out;generalize outZ (fun s=>hdV (ysf s)) shs k=T at *;go_wp2;go_ret;exact⟨rH,hBw⟩
end
end Go.Proofs.YtbfnobcidnmohaaGreat

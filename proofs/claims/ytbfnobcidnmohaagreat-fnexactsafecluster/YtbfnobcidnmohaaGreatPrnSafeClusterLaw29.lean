import Derived.Test.YtbfnobcidnmohaaGreatPrnSafeClusterLaw26
set_option maxHeartbeats 16000000
set_option maxRecDepth 20000
set_option linter.unusedSimpArgs false
set_option linter.unusedVariables false
set_option linter.unusedSectionVars false
namespace Go.Proofs.YtbfnobcidnmohaaGreat
open Go.RowKit
attribute [local go_sem ↓] Go.wp_at_zero Go.wp_at_succ
section
variable [dQ Vot] [iH Vot] [dQ Slt] [iH Slt] [dQ SltR] [iH SltR] [dQ Bal] [iH Bal] [dQ Ledg] [iH Ledg] [dQ Leg] [iH Leg] [dQ Acc] [iH Acc] [dQ AccR] [iH AccR] [dQ AccsR] [iH AccsR] [dQ SltsR] [iH SltsR]
theorem fL6 {xs:List Slt} {q:Slt} {i:Nat} (hi:i<xs.length) (h1:∀k,k<i→cmpS (xs.getD k default) q<0) (h:cmpS (xs.getD i default) q=0):qL xs q=xs.getD i default:=by
 refine fGv hi (fun k hk=>?_) (sameS_iff.2 (cmpS_eq.1 h));cases e:xA (xs.getD k default) q with
 | false=>rfl
 | true=>have h2:=h1 k hk;rw[cmpS_eq.2 (sameS_iff.1 e)] at h2;omega
theorem fQc {xs:List Slt} {q:Slt} {i:Nat} (hok:AccOk xs) (h1:∀k,k<i→cmpS (xs.getD k default) q<0) (h2:∀k,i≤k→k<xs.length→0≤cmpS (xs.getD k default) q) (h:¬(i<xs.length∧cmpS (xs.getD i default) q=0)):qL xs q=q:=by
 refine fFa (fun k hk=>?_);cases e:xA (xs.getD k default) q with
 | false=>rfl
 | true=>
  exfalso
  have e0:=sameS_iff.1 e;have e1:=cmpS_eq.2 e0;rcases Nat.lt_trichotomy k i with h3|h3|h3
  ·have:=h1 k h3;omega
  ·subst h3;exact h ⟨hk,e1⟩
  have h4:=aheadS_iff.1 (hok.ord i k h3 hk);have h5:=h2 i (Nat.le_refl _) oM;have h6:cmpS (xs.getD i default) q<0:=by rw[fKy];omega
  omega
theorem fFc (x y:Value) (d:Acc) (q:Slt) (w:World) (hx:accR.V w x d) (hy:sltR.V w y q) (hok:AccOk d.slots) :
  Calls Tryz.prog 166 #[x,y] w fun e w'=>∃v,e =.returned v∧sltR.V w' v (qL d.slots q)∧Below w.heap.size w w':=by
 have hX:=hx;have hY:=hy;obtain⟨u1,rfl,hx⟩:=hx;obtain⟨u2,rfl,hy⟩:=hy;obtain⟨ay,cy,rfl⟩:=gJ hy;clear hy;obtain⟨xs⟩:=d;dsimp only at hx hok hX ⊢;have HP:Hid (bW w fun W=>Calls Tryz.prog 243 #[.agg #[u1],.agg #[.int .i64 q.con,.int .i64 q.sh,.int .i64 q.pr,.int .i64 q.lb,.int .i64 q.lv,.slice ay q.cast.length cy]] W fun e w'=>PlE xs q W e w'):=fun W hW=>fL2 _ ⟨xs⟩ q _ W (accR.below hX hW) hok
 have HOK:Hid (AccOk xs):=hok;clear hX hok;obtain⟨au,cu,rfl,hcx,hmx,hx⟩:=hx;unfold maxLen at hmx;have hXs:Hid (∀k,k<xs.length→∃b o p q,au=some ⟨b,o,none⟩∧(w.cell? ⟨b,o+k*6,none⟩=some (.int .i64 (xs.getD k default).con)∧w.cell? ⟨b,o+k*6+1,none⟩=some (.int .i64 (xs.getD k default).sh)∧w.cell? ⟨b,o+k*6+2,none⟩=some (.int .i64 (xs.getD k default).pr)∧w.cell? ⟨b,o+k*6+3,none⟩=some (.int .i64 (xs.getD k default).lb)∧w.cell? ⟨b,o+k*6+4,none⟩=some (.int .i64 (xs.getD k default).lv)∧w.cell? ⟨b,o+k*6+5,none⟩=some (.slice p (xs.getD k default).cast.length q))∧sltR.V w (.agg #[.int .i64 (xs.getD k default).con,.int .i64 (xs.getD k default).sh,.int .i64 (xs.getD k default).pr,.int .i64 (xs.getD k default).lb,.int .i64 (xs.getD k default).lv,.slice p (xs.getD k default).cast.length q]) (xs.getD k default)):=fun k hk=>fL8 hx hk
 clear hx;obtain⟨n,hn'⟩:∃n,n=xs.length:=⟨_,rfl⟩
 have HN:Hid (xs.length=n):=hn'.symm;rw[←hn'] at hcx hXs HP ⊢;clear hn';go_enter Tryz.func166,Tryz.ntmps166;go_wp2_with fail;refine(HP.out _ qBq).mono ?_;rintro e w1 ⟨i,hi,rfl,h1,h2,hb1⟩;have hB1:Below w.heap.size w w1:=qBq;have HA:Hid (∀k,k<i→cmpS (xs.getD k default) q<0):=h1;have HB:Hid (∀k,i≤k→k<xs.length→0≤cmpS (xs.getD k default) q):=h2;clear h1 h2 HP;obtain⟨c1,f1⟩:=bcell hb1;have hz1:=hb1.size;simp at hz1;have y0:w1.cell? ⟨w.heap.size,0,none⟩=some (.slice au n cu):=cK hb1 sG;have q0:w1.cell? ⟨w.heap.size+1,0,none⟩=some (.int .i64 q.con):=cK hb1 sG;have q1:w1.cell? ⟨w.heap.size+1,1,none⟩=some (.int .i64 q.sh):=cK hb1 sG;have q2:w1.cell? ⟨w.heap.size+1,2,none⟩=some (.int .i64 q.pr):=cK hb1 sG;have q3:w1.cell? ⟨w.heap.size+1,3,none⟩=some (.int .i64 q.lb):=cK hb1 sG;have q4:w1.cell? ⟨w.heap.size+1,4,none⟩=some (.int .i64 q.lv):=cK hb1 sG;have q5:w1.cell? ⟨w.heap.size+1,5,none⟩=some (.slice ay q.cast.length cy):=cK hb1 sG;have r0:w1.cell? ⟨w.heap.size+2,0,none⟩=some (.int .i64 0):=cK hb1 sG;have r1:w1.cell? ⟨w.heap.size+2,1,none⟩=some (.int .i64 0):=cK hb1 sG;have r2:w1.cell? ⟨w.heap.size+2,2,none⟩=some (.int .i64 0):=cK hb1 sG;have r3:w1.cell? ⟨w.heap.size+2,3,none⟩=some (.int .i64 0):=cK hb1 sG;have r4:w1.cell? ⟨w.heap.size+2,4,none⟩=some (.int .i64 0):=cK hb1 sG;have r5:w1.cell? ⟨w.heap.size+2,5,none⟩=some (.slice none 0 0):=cK hb1 sG;have rf:∀o,w1.frozen? ⟨w.heap.size+2,o,none⟩=false:=fun o=>by rw[f1 _ _ (by simp;try omega)];simp[go_sem]
 clear hb1 c1 f1;rw[HN.out] at hi;by_cases hD:i<xs.length∧cmpS (xs.getD i default) q=0
 ·
  rw[decide_eq_true hD];have HS:Hid (qL xs q=xs.getD i default):=fL6 hD.1 HA.out hD.2;have hin:i<n:=by rw[←HN.out];exact hD.1
  clear hD;obtain⟨b,o,pp,qq,rfl,hc,hV⟩:=hXs.out i hin;obtain⟨l,hl⟩:∃l,l=xs.getD i default:=⟨_,rfl⟩
  rw[←hl] at hc hV HS;clear hl hXs;obtain⟨g0,g1,g2,g3,g4,g5⟩:=(yG hB1 hc hc).2.1;clear hc;have zb:b<w1.heap.size:=wL w1 _ g0;go_wp2;refine bodyPost_ret (v:=.agg #[.int .i64 l.con,.int .i64 l.sh,.int .i64 l.pr,.int .i64 l.lb,.int .i64 l.lv,.slice pp l.cast.length qq]) ?_ rfl ⟨_,rfl,by rw[HS.out];exact sltR.below hV qS,qS⟩;simp[results,Tryz.results166,go_sem,r0,r1,r2,r3,r4,r5,rf]
 rw[decide_eq_false hD];have HS:Hid (qL xs q=q):=fQc HOK.out HA.out HB.out hD;clear hD hXs;go_wp2;refine bodyPost_ret (v:=.agg #[.int .i64 q.con,.int .i64 q.sh,.int .i64 q.pr,.int .i64 q.lb,.int .i64 q.lv,.slice ay q.cast.length cy]) ?_ rfl ⟨_,rfl,by rw[HS.out];exact sltR.below hY qS,qS⟩;simp[results,Tryz.results166,go_sem,r0,r1,r2,r3,r4,r5,rf]
end
section
open Go.Maps
variable [dQ Vot] [iH Vot] [dQ Slt] [iH Slt] [dQ SltR] [iH SltR] [dQ Bal] [iH Bal] [dQ Ledg] [iH Ledg] [dQ Leg] [iH Leg]
def fCs (xs:List Vot) (v:Vot):Bool:=xs.any (fun u=>decide (u.bal=v.bal)&&decide (u.val=v.val))
theorem hasLV_iff {xs:List Vot} {v:Vot}:fCs xs v=true↔v ∈ xs:=by
 unfold fCs;rw[List.any_eq_true];constructor
 ·rintro⟨u,hu,e⟩;rw[vot_eq] at e;exact e▸hu
 intro h;exact⟨v,h,vot_eq.2 rfl⟩
def cF (D:List Slt) (i k:Nat) (v:Vot):Nat:=cntP (fun t=>hasV (D.getD t default) v) i+if fCs ((D.getD i default).cast.take k) v then 1 else 0
def cB (D:List Slt) (i k:Nat):Vot→Option Int:=fun v=>if cF D i k v=0 then none else some (cF D i k v:Int)
theorem fM0 (D:List Slt) (i k:Nat) (v:Vot):(cB D i k v).getD 0=(cF D i k v:Int):=by
 unfold cB;split
 ·rename_i h;rw[h];rfl
 rfl
theorem fQ5 (D:List Slt) (i k:Nat) (v:Vot):(cB D i k v).isSome=true↔¬cF D i k v=0:=by
 unfold cB;split <;> simp_all
theorem fFo (D:List Slt) (i:Nat) (v:Vot):cF D i 0 v=cntP (fun t=>hasV (D.getD t default) v) i:=by
 unfold cF;simp[fCs]
theorem fM1 (D:List Slt):cB D 0 0=fun _=>none:=by
 funext v
 unfold cB;rw[fFo];rfl
theorem fXl (D:List Slt) (i k:Nat) (v:Vot):cF D i k v≤i+1:=by
 have:=fFq (fun t=>hasV (D.getD t default) v) i;unfold cF;split <;> omega
theorem fXk (D:List Slt) (i:Nat):cB D i (D.getD i default).cast.length=cB D (i+1) 0:=by
 funext v
 have e:cF D i (D.getD i default).cast.length v=cF D (i+1) 0 v:=by
  rw[fFo];unfold cF;rw[List.take_length];rfl
 unfold cB;rw[e]
theorem fBd (xs:List Vot) (k:Nat) (h:k<xs.length):xs.take (k+1)=xs.take k++[xs.getD k default]:=by
 rw[List.take_succ_eq_append_getElem h];simp[List.getD,h]
theorem fVw (D:List Slt) (i k:Nat) (u:Vot) (hk:k<(D.getD i default).cast.length) (hu:(D.getD i default).cast.getD k default=u) (hn:¬u ∈ (D.getD i default).cast.take k):cB D i (k+1)=fDq (cB D i k) u (some ((cB D i k u).getD 0+1)):=by
 have e:∀v,cF D i (k+1) v=cF D i k v+if v=u then 1 else 0:=by
  intro v;unfold cF;rw[fBd _ k hk,hu];by_cases hv:v=u
  ·
   subst hv;have h1:fCs ((D.getD i default).cast.take k++[v]) v=true:=hasLV_iff.2 (by simp);have h2:fCs ((D.getD i default).cast.take k) v=false:=by
    cases e:fCs ((D.getD i default).cast.take k) v with
    | false=>rfl
    | true=>exact absurd (hasLV_iff.1 e) hn
   rw[h1,h2];simp
  have h1:fCs ((D.getD i default).cast.take k++[u]) v=fCs ((D.getD i default).cast.take k) v:=by
   rw[Bool.eq_iff_iff,hasLV_iff,hasLV_iff];simp[hv]
  rw[h1,if_neg hv];omega
 funext v
 by_cases hv:v=u
 ·subst hv;rw[fCb,fM0];unfold cB;rw[e,if_pos rfl,if_neg oM];simp
 rw[fN3 _ _ hv];unfold cB;rw[e,if_neg hv,Nat.add_zero]
theorem fXj (D:List Slt) (i k:Nat) (u:Vot) (hk:k<(D.getD i default).cast.length) (hu:(D.getD i default).cast.getD k default=u) (hn:u ∈ (D.getD i default).cast.take k):cB D i (k+1)=cB D i k:=by
 funext v
 have e:cF D i (k+1) v=cF D i k v:=by
  unfold cF;rw[fBd _ k hk,hu];have h1:fCs ((D.getD i default).cast.take k++[u]) v=fCs ((D.getD i default).cast.take k) v:=by
   rw[Bool.eq_iff_iff,hasLV_iff,hasLV_iff];simp only[List.mem_append,List.mem_singleton];constructor
   ·
    rintro(h|h)
    ·exact h
    exact h▸hn
   exact fun h=>.inl h
  rw[h1]
 unfold cB;rw[e]
theorem fWk {s:Slt} (h:SltOk s) {p:Nat} (hp:p+1<s.cast.length):s.cast.getD (p+1) default ∈ s.cast.take (p+1)↔s.cast.getD (p+1) default=s.cast.getD p default:=by
 constructor
 ·
  intro hm;obtain⟨j,hj,e⟩:=qE hm;rw[List.length_take] at hj;have e2:(s.cast.take (p+1)).getD j default=s.cast.getD j default:=by simp[List.getD,List.getElem?_take,show j<p+1 by omega]
  rw[e2] at e;have h1:=xR h j (p-j) oM;have h2:=xR h p 1 oM;rw[show j+(p-j)=p by omega] at h1;have hb:(s.cast.getD p default).bal=(s.cast.getD (p+1) default).bal:=by rw[e] at h1;omega
  have hv:=h2.2 hb;exact vot_eq.1 (by rw[hb,hv];simp)
 intro e;rw[e,fBd _ p oM];simp
theorem fXi (D:List Slt) (v:Vot):cF D D.length 0 v=cntV D v:=fFo D D.length v
def leftV (ko:Value→Option Lit) (left:Lit→Bool) (x:Vot):Bool:=match ko (vv x) with|some kl=>left kl|none=>false
theorem fE2 {left:Lit→Bool} {x:Vot} {kl:Lit} (h:keyOf Tryz.prog 126 (vv x)=some kl):leftV (keyOf Tryz.prog 126) left x=left kl:=by unfold leftV;rw[h]
theorem fBo {left:Lit→Bool} {x y:Vot} {kl:Lit} (hk:keyOf Tryz.prog 126 (vv x)=some kl) :
  leftV (keyOf Tryz.prog 126) (fun z=>left z && !z.sameKey kl) y=(leftV (keyOf Tryz.prog 126) left y && !(decide (y.bal=x.bal)&&decide (y.val=x.val))):=by
 unfold leftV;split
 ·
  rename_i kl' hk';by_cases e:kl'=kl
  ·subst e;have e':=fV8 (votLaw.inj hk' hk);subst e';simp[WideAt.sameKey_self (votLaw.key hk)]
  have hne:(decide (y.bal=x.bal)&&decide (y.val=x.val))=false:=by
   cases h:(decide (y.bal=x.bal)&&decide (y.val=x.val)) with
   | false=>rfl
   | true=>
    have:=vot_eq.1 h;subst this;rw[hk] at hk';exact absurd (by simpa using hk'.symm) e
  show(left kl' && !kl'.sameKey kl)=_;simp[Maps.sameKey_ne e,hne]
 rfl
structure Came (f:Vot→Option Int) (q:Int) (left:Lit→Bool) (xs:List Vot):Prop where
 nodup:xs.Nodup
 mem:∀v,v ∈ xs↔(f v).isSome=true∧leftV (keyOf Tryz.prog 126) left v=false∧q≤(f v).getD 0
theorem fWd {f:Vot→Option Int} {q:Int} {D:DataW Unit} (hf:∀v,(f v).isSome=true→vwf v) (h:∀x kl,keyOf Tryz.prog 126 (vv x)=some kl→Maps.has D kl=(f x).isSome∧D.atKey kl (.lit (.int .i64 0)) =.lit (.int .i64 ((f x).getD 0))):Came f q (Maps.has D) []:=by
 refine⟨List.nodup_nil,fun v=>⟨fun h=>by simp at h,fun ⟨h1,h2,_⟩=>?_⟩⟩;obtain⟨kl,hk⟩:=fAb (hf v h1);rw[fE2 hk,(h v kl hk).1,h1] at h2;cases h2
theorem fTn {f:Vot→Option Int} {q:Int} {left:Lit→Bool} {xs:List Vot} (h:Came f q left xs) {x:Vot} {kl:Lit} (hk:keyOf Tryz.prog 126 (vv x)=some kl) (hl:left kl=true) (hs:(f x).isSome=true) (hq:q≤(f x).getD 0):Came f q (fun z=>left z && !z.sameKey kl) (xs++[x]):=by
 have hlx:leftV (keyOf Tryz.prog 126) left x=true:=by rw[fE2 hk,hl]
 have hx:¬x ∈ xs:=fun hx=>by have:=((h.mem x).1 hx).2.1;rw[hlx] at this;cases this
 refine⟨?_,fun v=>?_⟩
 ·rw[List.nodup_append];exact⟨h.nodup,by simp,fun a ha b hb=>by simp at hb;subst hb;rintro rfl;exact hx ha⟩
 rw[fBo hk,List.mem_append,List.mem_singleton,h.mem];by_cases e:v=x
 ·subst e;have:(decide (v.bal=v.bal)&&decide (v.val=v.val))=true:=vot_eq.2 rfl;rw[this];simp[hs,hq]
 have:(decide (v.bal=x.bal)&&decide (v.val=x.val))=false:=by
  cases h:(decide (v.bal=x.bal)&&decide (v.val=x.val)) with
  | false=>rfl
  | true=>exact absurd (vot_eq.1 h) e
 rw[this];simp[e]
theorem fQ7 {f:Vot→Option Int} {q:Int} {left:Lit→Bool} {xs:List Vot} (h:Came f q left xs) {x:Vot} {kl:Lit} (hk:keyOf Tryz.prog 126 (vv x)=some kl) (hq:¬q≤(f x).getD 0):Came f q (fun z=>left z && !z.sameKey kl) xs:=by
 refine⟨h.nodup,fun v=>?_⟩;rw[fBo hk,h.mem];by_cases e:v=x
 ·subst e;simp[hq]
 have:(decide (v.bal=x.bal)&&decide (v.val=x.val))=false:=by
  cases h:(decide (v.bal=x.bal)&&decide (v.val=x.val)) with
  | false=>rfl
  | true=>exact absurd (vot_eq.1 h) e
 rw[this];simp
theorem fQ6 {f:Vot→Option Int} {q:Int} {left:Lit→Bool} {xs:List Vot} (h:Came f q left xs) (h0:∀kl,left kl=false) (v:Vot):v ∈ xs↔(f v).isSome=true∧q≤(f v).getD 0:=by
 rw[h.mem];have:leftV (keyOf Tryz.prog 126) left v=false:=by
  unfold leftV;split
  ·exact h0 _
  rfl
 simp[this]
theorem fOt {D:List Slt} (hok:fCc D) {xs ys:List Vot} (hn:xs.Nodup) (hm:∀v,v ∈ xs↔isCh D v) (hp:ys.Perm xs) (hs:ys.Pairwise (fun p q=>¬q.bal<p.bal)):Chs D ys:=by
 have hm':∀v,v ∈ ys↔isCh D v:=fun v=>by rw[hp.mem_iff];exact hm v
 refine⟨?_,hm'⟩;have hnd:ys.Nodup:=hp.nodup_iff.2 hn;unfold Rise;rw[List.pairwise_iff_getElem] at hs ⊢;intro i j hi hj hij;have h1:=hs i j hi hj hij;have h2:¬ys[i].bal=ys[j].bal:=fun e=>by
  have:=fRc hok ((hm' _).1 (List.getElem_mem hi)) ((hm' _).1 (List.getElem_mem hj)) e;exact(List.pairwise_iff_getElem.1 hnd i j hi hj hij) this
 omega
end
section
open Go.Sort Go.Shelf
variable [dQ Vot] [iH Vot] [dQ Slt] [iH Slt] [dQ SltR] [iH SltR] [dQ Bal] [iH Bal] [dQ Ledg] [iH Ledg] [dQ Leg] [iH Leg]
def cmpN (x y:Int):Int:=if x<y then -1 else if y<x then 1 else 0
theorem fIr (x:Int) (w:World) :
  Calls Tryz.prog 292 #[.int .i64 x] w fun e w'=>e =.returned (.bool false)∧w'=w:=by
 go_enter Tryz.func292,Tryz.ntmps292;go_wp2;go_ret;exact⟨rfl,rfl⟩
theorem fOu (x y:Int) (w:World) :
  Calls Tryz.prog 247 #[.int .i64 x,.int .i64 y] w fun e w'=>e =.returned (.int .i64 (cmpN x y))∧w'=w:=by
 go_enter Tryz.func247,Tryz.ntmps247;go_wp2_with (go_at_call 292;refine(fIr _ _).mono ?_;rintro e w' ⟨rfl,rfl⟩);all_goals (go_ret;refine⟨?_,rfl⟩;unfold cmpN;(repeat' split) <;> first|rfl|(exfalso;omega))
theorem zN (x y:Vot) (w:World) :
  Calls Tryz.prog 287 #[.agg #[.int .i64 x.bal,.int .i64 x.val],.agg #[.int .i64 y.bal,.int .i64 y.val]] w fun e w'=>e =.returned (.int .i64 (cmpN x.bal y.bal))∧w'=(w.alloc (.cells #[.int .i64 x.bal,.int .i64 x.val] 126)).alloc (.cells #[.int .i64 y.bal,.int .i64 y.val] 126):=by
 go_enter Tryz.func287,Tryz.ntmps287;go_wp2_with (go_at_call 247;refine(fOu _ _ _).mono ?_;rintro e w' ⟨rfl,rfl⟩);go_ret;exact⟨rfl,rfl⟩
def cfV (x y:Vot):Int:=cmpN x.bal y.bal
theorem fGd (x y:Vot):ltOf cfV x y=true↔x.bal<y.bal:=by
 unfold ltOf cfV cmpN;simp only[decide_eq_true_eq];by_cases h:x.bal<y.bal
 ·simp[h]
 by_cases h':y.bal<x.bal
 ·simp[h,h']
 simp[h,h']
theorem swoV:SWO (ltOf cfV) where
 irrefl x:=by
  rw[←Bool.not_eq_true,fGd];omega
 trans x y z h1 h2:=by
  rw[fGd] at *;omega
 ntrans x y z h1 h2:=by
  rw[←Bool.not_eq_true,fGd] at *;omega
theorem fTt (blk off size:Nat) (w:World):CmpLays Tryz.prog 287 #[] votC 2 cfV blk off size w:=by
 intro m os dk _ x y;refine(zN x y _).mono ?_;rintro e w' ⟨rfl,rfl⟩;refine⟨rfl,0,#[.cells #[.int .i64 x.bal,.int .i64 x.val] 126,.cells #[.int .i64 y.bal,.int .i64 y.val] 126],?_⟩;rw[alloc_eq_grow,alloc_eq_grow,grow_grow];rfl
theorem fTb (l:Vot):∀u ∈ votC l,u.oneCell'=true:=by
 intro u hu;simp only[votC,List.mem_cons,List.not_mem_nil,or_false] at hu;rcases hu with rfl|rfl <;> rfl
theorem fPf {w:World} {base g cap:Nat} {xs:List Vot} (h:w.ownsRow base 126 2 (.slice (some ⟨g,0,none⟩) xs.length cap) xs.length (kJ xs)):HoldsK votC 2 w g 0 xs.toArray:=by
 intro j hj;simp only[size_flatK,List.size_toArray] at hj;have hd:j / 2<xs.length:=oM;refine⟨?_,h.frozenAt _⟩;rw[Nat.zero_add,h.cellAt j hj,get_flatK votC 2 xs.toArray j (by simpa using hj)];obtain⟨q0,q1⟩:=uC xs (j / 2) hd;have e2:xs.toArray[j / 2]! = xs.getD (j / 2) default:=by simp[List.getD,hd]
 rw[e2];generalize xs.getD (j / 2) default=x at *;have hm:j % 2=0∨j % 2=1:=oM;rcases hm with hm|hm
 ·rw[show j / 2*2=j by omega] at q0;rw[q0,hm];rfl
 rw[show j / 2*2+1=j by omega] at q1;rw[q1,hm];rfl
theorem fMa (w:World) (base g m:Nat) (d:Array Vot) (os:Array Obj) (hg:base≤g) (hb:base≤w.heap.size):Go.RowKit.Below base w (sortWorldK votC 2 w g 0 m d os):=by
 refine⟨rfl,rfl,rfl,?_,fun i hi=>?_⟩
 ·simp[sortWorldK,grow,putRowK,putRow,mapBlock,Sort.ahead]
 simp only[sortWorldK,grow,putRowK,putRow,mapBlock,Sort.ahead];rw[Array.getElem?_append_left (by simp;omega),Array.getElem?_modify];rw[if_neg oM]
theorem fSv (ρ:Ren) (L:SlLaysF0.n6 Tryz.prog ρ) (hf:ρ.f 6=286) (ht:ρ.t 24=126) (xs:List Vot) (g cap base:Nat) (W:World) (ho:W.ownsRow base 126 2 (.slice (some ⟨g,0,none⟩) xs.length cap) xs.length (kJ xs)) (hbs:base≤W.heap.size) (hn:xs.length≤100000) :
  Calls Tryz.prog 286 #[.slice (some ⟨g,0,none⟩) xs.length cap,.func (.func 287) #[] #[]] W fun e w'=>e =.returned (.tuple #[])∧∃ys:List Vot,ys.Perm xs∧ys.Pairwise (fun p q=>ltOf cfV q p=false)∧(∀i,i<ys.length→rP w' g (i*2) (ys.getD i default))∧Go.RowKit.Below base W w':=by
 have eg:∀args w,(callFunc 287 args).run Tryz.prog w =.ok (.enter 287 args) w:=enters_of Tryz.func287 kF rfl
 have aE:∀w,(isAgg (ρ.t 24)).run Tryz.prog w =.ok true w:=fun w=>by rw[ht];exact Tryz.isAgg126 w
 have zE:∀w,(Go.sizeOf (ρ.t 24)).run Tryz.prog w =.ok 2 w:=fun w=>by rw[ht];exact Tryz.sizeOf126 w
 have hH:=fPf ho;have hg:=ho.lt g rfl;have hcon:=AnyQ.slices_SortFunc L 2 aE zE votC (fun _=>rfl) fTb cfV swoV 287 #[] g 0 cap xs.toArray W eg (fTt g 0 _ W) hH hg.2 (by simp;omega);rw[hf] at hcon;simp only[List.size_toArray] at hcon;refine hcon.mono ?_;rintro e w' ⟨rfl,d',n,os,hp,hs,rfl⟩;obtain⟨hsz,_,hperm⟩:=hp;simp only[List.size_toArray] at hsz hperm;have hP:d'.toList.Perm xs:=by
  have e1:d'.extract 0 xs.length=d':=by rw[←hsz];simp
  have e2:xs.toArray.extract 0 xs.length=xs.toArray:=by simp
  rw[e1,e2] at hperm;exact hperm
 have hHo:HoldsK votC 2 (sortWorldK votC 2 W g 0 n d' os) g 0 d':=holdsK_grow (enc:=votC) (k:=2) _ os g 0 d' (by simp[putRowK,putRow,mapBlock,Sort.ahead];exact hg.2) (holdsK_putRowK (enc:=votC) (k:=2) (Sort.ahead W n) g 0 xs.toArray d' (holdsK_ahead (enc:=votC) (k:=2) W n g 0 _ hH) (by simp[hsz]));refine⟨rfl,d'.toList,hP,?_,fun i hi=>?_,fMa W base g n d' os hg.1 hbs⟩
 ·rw[List.pairwise_iff_getElem];intro i j hi hj hij;simp only[Array.length_toList] at hi hj;have:=hs i j (Nat.zero_le _) hij oM;simpa [hi,hj] using this
 simp only[Array.length_toList] at hi;have e:d'.toList.getD i default=d'[i]!:=by simp[List.getD,hi]
 rw[e];have c0:=(hHo.cell hi (c:=0) oM).1;have c1:=(hHo.cell hi (c:=1) oM).1;simp only[Nat.zero_add,Nat.add_zero] at c0 c1;generalize d'[i]! = x at *;exact⟨c0,c1⟩
structure SortsV:Prop where
 some_:∀(xs:List Vot) (g cap base:Nat) (W:World),W.ownsRow base 126 2 (.slice (some ⟨g,0,none⟩) xs.length cap) xs.length (kJ xs)→base≤W.heap.size→xs.length≤100000 →
  Calls Tryz.prog 286 #[.slice (some ⟨g,0,none⟩) xs.length cap,.func (.func 287) #[] #[]] W fun e w'=>e =.returned (.tuple #[])∧∃ys:List Vot,ys.Perm xs∧ys.Pairwise (fun p q=>ltOf cfV q p=false)∧(∀i,i<ys.length→rP w' g (i*2) (ys.getD i default))∧Go.RowKit.Below base W w'
 none_:∀W:World,Calls Tryz.prog 286 #[.slice none 0 0,.func (.func 287) #[] #[]] W fun e w'=>e =.returned (.tuple #[])∧w'=W
end
section
open Go.Maps Go.Sort Go.Shelf
variable [dQ Vot] [iH Vot] [dQ Slt] [iH Slt] [dQ SltR] [iH SltR] [dQ Bal] [iH Bal] [dQ Ledg] [iH Ledg] [dQ Leg] [iH Leg]
theorem Bkv.cells {w:World} {B n:Nat} {f:Vot→Option Int} (h:Bkv w B n f) {b o:Nat} {v:Value} (hc:w.cell? ⟨b,o,none⟩=some v):b≠B:=by
 rintro rfl;obtain⟨D,⟨es,clock,hb,_⟩,_⟩:=h;simp[World.cell?,hb] at hc
def AddE (B i:Nat) (D:List Slt) (w:World) (e:Ending) (w':World):Prop:=e =.returned (.tuple #[])∧∃m'',m''≤(i+1)*60∧Bkv w' B m'' (cB D (i+1) 0)∧Mod (fun b=>b=B) w w'
theorem fBr (B:Nat) (x:Value) (D:List Slt) (i m':Nat) (w:World) (hx:sltR.V w x (D.getD i default)) (hid:i<D.length) (hok:SltOk (D.getD i default)) (hBk:Bkv w B m' (cB D i 0)) (hm':m'≤i*60) (hi9:i≤9) :
  Calls Tryz.prog 235 #[.map (some B),x] w (AddE B i D w):=by
 unfold AddE;obtain⟨l,hla⟩:∃l,l=D.getD i default:=⟨_,rfl⟩
 rw[←hla] at hx;have HLa:Hid (l=D.getD i default):=hla;clear hla;obtain⟨sa,rfl,hca⟩:=hx;obtain⟨aua,cua,rfl⟩:=gJ hca;obtain⟨_,_,ee,hcc,hmc,hce⟩:=hca;simp only[Value.slice.injEq,true_and] at ee;obtain⟨rfl,rfl⟩:=ee;unfold maxLen at hmc;have HOk:Hid (SltOk (D.getD i default)):=hok;have HIL:Hid (i<D.length):=hid;have h60:l.cast.length≤60:=by rw[HLa.out];exact HOk.out.len
 have HC0:Hid (l.cast=(D.getD i default).cast):=by show _=_;rw[←HLa.out]
 obtain⟨cs,hcs⟩:∃cs,cs=l.cast:=⟨_,rfl⟩
 rw[←hcs] at hcc hce h60 HC0 ⊢;obtain⟨m,hm0⟩:∃m,m=cs.length:=⟨_,rfl⟩
 have HM:Hid (cs.length=m):=hm0.symm;rw[←hm0] at hcc hce h60 ⊢;clear hm0 hcs hok hid;have HMB:Hid (∀b o v,w.cell? ⟨b,o,none⟩=some v→b≠B):=fun b o v hc=>hBk.cells hc
 have hBS:B<w.heap.size:=hBk.lt;have HBk0:Hid (Bkv w B m' (cB D i 0)):=hBk;clear hBk;go_enter Tryz.func235,Tryz.ntmps235;go_wp2;have s0:(w.alloc (.cells #[.int .i64 l.con,.int .i64 l.sh,.int .i64 l.pr,.int .i64 l.lb,.int .i64 l.lv,.slice aua m cua] 136)).cell? ⟨w.heap.size,5,none⟩=some (.slice aua m cua):=sG;have hb1:=HBk0.out.below (bA (Below.refl _ w) (.cells #[.int .i64 l.con,.int .i64 l.sh,.int .i64 l.pr,.int .i64 l.lb,.int .i64 l.lv,.slice aua m cua] 136));have hbl1:Mod (fun b=>b=B) w (w.alloc (.cells #[.int .i64 l.con,.int .i64 l.sh,.int .i64 l.pr,.int .i64 l.lb,.int .i64 l.lv,.slice aua m cua] 136)):=(Mod.refl _ w).alloc _;clear HBk0;generalize w.alloc (.cells #[.int .i64 l.con,.int .i64 l.sh,.int .i64 l.pr,.int .i64 l.lb,.int .i64 l.lv,.slice aua m cua] 136)=Y0 at *;generalize w.heap.size=BS at *;go_loopw [9] (fun kk w'=>∃k m':Nat,k≤m∧kk =.int .i64 k∧m'≤i*60+k∧Bkv w' B m' (cB D i k)∧w'.cell? ⟨BS,5,none⟩=some (.slice aua m cua)∧Mod (fun b=>b=B) w w') (fun kk _=>m-(intOf kk).toNat)
 case atStart=>exact⟨0,m',Nat.zero_le _,rfl,by omega,hb1,s0,hbl1⟩
 clear s0 hb1 hbl1 hm';obtain⟨k,m',hk,rfl,hm',hBk,s5,hbl⟩:=hrel;have HBk:Hid (Bkv wr B m' (cB D i k)):=hBk;clear hBk;by_cases hkm:k<m
 ·
  obtain⟨bc,oc,rfl,g1⟩:=hce k hkm;obtain⟨v,hv⟩:∃v,v=cs.getD k default:=⟨_,rfl⟩
  rw[←hv] at g1;have HB:Hid (i<D.length∧k<(D.getD i default).cast.length∧(D.getD i default).cast.getD k default=v):=⟨HIL.out,by rw[←HC0.out,HM.out];exact hkm,by rw[←HC0.out];exact hv.symm⟩;have HVt:Hid (votB v=true):=by have:=(HOk.out.at_ k HB.out.2.1).1;rw[HB.out.2.2] at this;exact this
  clear hv;have hbcB:bc≠B:=HMB.out _ _ _ g1.1;have a1:=hbl.cell g1.1 hbcB;have a2:=hbl.cell g1.2 hbcB;clear g1;have zbs:BS<wr.heap.size:=wL wr _ s5;have r0':(wr.alloc (.cells #[.int .i64 v.bal,.int .i64 v.val] 126)).cell? ⟨wr.heap.size,0,none⟩=some (.int .i64 v.bal):=sG;have r1':(wr.alloc (.cells #[.int .i64 v.bal,.int .i64 v.val] 126)).cell? ⟨wr.heap.size,1,none⟩=some (.int .i64 v.val):=sG;have s5':=cK (bA (Below.refl _ wr) (.cells #[.int .i64 v.bal,.int .i64 v.val] 126)) s5;have HBk':Hid (Bkv (wr.alloc (.cells #[.int .i64 v.bal,.int .i64 v.val] 126)) B m' (cB D i k)):=HBk.out.below (bA (Below.refl _ wr) (.cells #[.int .i64 v.bal,.int .i64 v.val] 126));have hBY:Mod (fun b=>b=B) w (wr.alloc (.cells #[.int .i64 v.bal,.int .i64 v.val] 126)):=hbl.alloc _;cases k with
  | zero=>
   have hnew:¬v ∈ (D.getD i default).cast.take 0:=by simp
   have hk0:(((0:Nat):Int)==0)=true:=by simp
   simp only[Nat.zero_mul,Nat.add_zero] at a1 a2;clear hce;go_wp2;generalize wr.alloc (.cells #[.int .i64 v.bal,.int .i64 v.val] 126)=Y at *;generalize wr.heap.size=BV at *;clear a1 a2 s5 HBk hbl;have r0:=r0';have r1:=r1';have s5:=s5';have HBk:=HBk';clear r0' r1' s5' HBk';have zY:BV<Y.heap.size:=wL Y _ r0;go_quiet (fail);go_wp2;replace r0:=cK (fJ (Below.refl _ Y) nq) r0;replace r1:=cK (fJ (Below.refl _ Y) nq) r1;replace s5:=cK (fJ (Below.refl _ Y) nq) s5;replace HBk:Hid (Bkv (Y.drewN nq) B m' (cB D i 0)):=HBk.out.below (fJ (Below.refl _ Y) nq);have hBX:Mod (fun b=>b=B) w (Y.drewN nq):=hBY.trans (Mod.of_below (fJ (Below.refl Y.heap.size Y) nq));generalize Y.drewN nq=X at *;have hc0:=fM0 D i 0 v;have hcl:=fXl D i 0 v;obtain⟨c,hcc⟩:∃c,c=(cB D i 0 v).getD 0:=⟨_,rfl⟩
   have HCc:Hid (c=(cB D i 0 v).getD 0):=hcc;rw[←hcc] at hc0;have hcr:0≤c∧c≤100:=oM;obtain⟨hcr1,hcr2⟩:=hcr;have HNew:Hid (cB D i (0+1)=fDq (cB D i 0) v (some (c+1))):=by show _=_;rw[hcc];exact fVw D i 0 v HB.out.2.1 HB.out.2.2 hnew
   clear hcc hc0 hcl hnew;have hwc:IntKind.i64.wrap (c+1)=c+1:=kD oM oM;have hvw:vwf v:=fTe HVt.out;have hzV:BV<X.heap.size:=wL X _ r0;go_wp2;refine wp_region_noPanic ?_;have HLK:∀W,Below X.heap.size X W→(Instr.lookup 245 (.map (some B)) (.agg #[.int .i64 v.bal,.int .i64 v.val]) false).run Tryz.prog W =.ok (.int .i64 c) W:=fun W hW=>by
    have:=((HBk.out.below hW).look hvw).1;rw[←HCc.out] at this;exact this
   refine fB (fun W=>(W.cell? ⟨BV,0,none⟩=some (.int .i64 v.bal)∧W.cell? ⟨BV,1,none⟩=some (.int .i64 v.val))∧(Instr.lookup 245 (.map (some B)) (.agg #[.int .i64 v.bal,.int .i64 v.val]) false).run Tryz.prog W =.ok (.int .i64 c) W) 6 kF ⟨⟨cK (Below.drew (bR _ _)) r0,cK (Below.drew (bR _ _)) r1⟩,HLK _ (Below.drew (bR _ _))⟩ (fun hS=>?_);refine tY 0 ?_;refine tY 1 ?_;refine tY 2 ?_;refine tY 3 ?_;obtain⟨v0,st,w4,hr,hm4,hB4,hst⟩:=(HBk.out.below (Below.drew (Below.refl _ X))).entry2 hvw (by unfold maxLen;omega);unfold vv goInt at hr;unfold goInt at hst;have hneV:BV≠B:=oM;have hneS:BS≠B:=oM;have hS4:(fun W=>(W.cell? ⟨BV,0,none⟩=some (.int .i64 v.bal)∧W.cell? ⟨BV,1,none⟩=some (.int .i64 v.val))∧(Instr.lookup 245 (.map (some B)) (.agg #[.int .i64 v.bal,.int .i64 v.val]) false).run Tryz.prog W =.ok (.int .i64 c) W) w4:=⟨⟨hm4.cell hS.1.1 hneV,hm4.cell hS.1.2 hneV⟩,by
    have e:=(hB4.look hvw).1;rw[fCb,←HCc.out] at e;exact e⟩
   clear HLK;refine uS 4 rfl (fun K hK=>?_);go_simp;refine hK _ _ (fun _=>hS4) ?_;clear hK K;try simp only[jX]
   refine uS 5 rfl (fun K hK=>?_);go_simp;refine hK _ _ (fun _=>hS4) ?_;clear hK K;try simp only[jX]
   obtain⟨w5,hr5,hB5,hm5⟩:=hst (c+1) (wfv oM oM);refine uS 6 rfl (fun K hK=>?_);go_simp;refine hK _ _ (fun h=>absurd rfl h) ?_;clear hK K;refine dP ?_;have hbl5:Mod (fun b=>b=B) w w5:=(hBX.trans (Mod.of_below (Below.drew (Below.refl X.heap.size X)))).trans hm5;have s55:=hm5.cell (cK (Below.drew (Below.refl _ X)) s5) hneS;have HB5:Hid (Bkv w5 B (m'+1) (cB D i (0+1))):=by show Bkv _ _ _ _;rw[HNew.out];exact hB5
   clear hS hS4 hr hst hr5 hB5 hB4 hm4 hm5 HBk r0 r1 s5;go_wp2;exact⟨⟨1,m'+1,by omega,by go_num,by omega,HB5.out,s55,hbl5⟩,mI⟩
  | succ p=>
   obtain⟨b',o',he',g2⟩:=hce p oM;simp only[Option.some.injEq,Addr.mk.injEq,and_true] at he';obtain⟨rfl,rfl⟩:=he';obtain⟨u,hu⟩:∃u,u=cs.getD p default:=⟨_,rfl⟩
   rw[←hu] at g2;have HU:Hid ((D.getD i default).cast.getD p default=u):=by show _=_;rw[←HC0.out];exact hu.symm
   clear hu hce;have d1:=hBY.cell g2.1 hbcB;have d2:=hBY.cell g2.2 hbcB;have hk0:(((p+1:Nat):Int)==0)=false:=by simp;omega
   have i1:(p:Int)<(m:Int):=oM;have w1:IntKind.i64.wrap (p:Int)=p:=kD oM oM;have hiff:=fWk HOk.out HB.out.2.1;rw[HB.out.2.2,HU.out] at hiff;have Hiff:Hid (v ∈ (D.getD i default).cast.take (p+1)↔v=u):=hiff;clear hiff g2;cases he:(decide (v.bal=u.bal)&&decide (v.val=u.val))
   ·
    have heq:∀w,(binOp .neq 126 (.agg #[.int .i64 v.bal,.int .i64 v.val]) (.agg #[.int .i64 u.bal,.int .i64 u.val])).run Tryz.prog w =.ok (.bool true) w:=fun w=>by rw[uW,he];rfl
    have HNw:Hid (¬v ∈ (D.getD i default).cast.take (p+1)):=fun h=>by rw[vot_eq.2 (Hiff.out.1 h)] at he;cases he
    clear he;go_wp2;generalize wr.alloc (.cells #[.int .i64 v.bal,.int .i64 v.val] 126)=Y at *;generalize wr.heap.size=BV at *;clear a1 a2 s5 HBk hbl;have r0:=r0';have r1:=r1';have s5:=s5';have HBk:=HBk';clear r0' r1' s5' HBk';have zY:BV<Y.heap.size:=wL Y _ r0;have zc:bc<Y.heap.size:=wL Y _ d1;have zs:BS<Y.heap.size:=wL Y _ s5;go_quiet (fail);go_wp2;replace r0:=cK (fJ (Below.refl _ Y) nq) r0;replace r1:=cK (fJ (Below.refl _ Y) nq) r1;replace s5:=cK (fJ (Below.refl _ Y) nq) s5;replace HBk:Hid (Bkv (Y.drewN nq) B m' (cB D i (p+1))):=HBk.out.below (fJ (Below.refl _ Y) nq);have hBX:Mod (fun b=>b=B) w (Y.drewN nq):=hBY.trans (Mod.of_below (fJ (Below.refl Y.heap.size Y) nq));generalize Y.drewN nq=X at *;clear d1 d2 heq;have hnew:=HNw.out;have hc0:=fM0 D i (p+1) v;have hcl:=fXl D i (p+1) v;obtain⟨c,hcc⟩:∃c,c=(cB D i (p+1) v).getD 0:=⟨_,rfl⟩
    have HCc:Hid (c=(cB D i (p+1) v).getD 0):=hcc;rw[←hcc] at hc0;have hcr:0≤c∧c≤100:=oM;obtain⟨hcr1,hcr2⟩:=hcr;have HNew:Hid (cB D i (p+1+1)=fDq (cB D i (p+1)) v (some (c+1))):=by show _=_;rw[hcc];exact fVw D i (p+1) v HB.out.2.1 HB.out.2.2 hnew
    clear hcc hc0 hcl hnew;have hwc:IntKind.i64.wrap (c+1)=c+1:=kD oM oM;have hvw:vwf v:=fTe HVt.out;have hzV:BV<X.heap.size:=wL X _ r0;go_wp2;refine wp_region_noPanic ?_;have HLK:∀W,Below X.heap.size X W→(Instr.lookup 245 (.map (some B)) (.agg #[.int .i64 v.bal,.int .i64 v.val]) false).run Tryz.prog W =.ok (.int .i64 c) W:=fun W hW=>by
     have:=((HBk.out.below hW).look hvw).1;rw[←HCc.out] at this;exact this
    refine fB (fun W=>(W.cell? ⟨BV,0,none⟩=some (.int .i64 v.bal)∧W.cell? ⟨BV,1,none⟩=some (.int .i64 v.val))∧(Instr.lookup 245 (.map (some B)) (.agg #[.int .i64 v.bal,.int .i64 v.val]) false).run Tryz.prog W =.ok (.int .i64 c) W) 6 kF ⟨⟨cK (Below.drew (bR _ _)) r0,cK (Below.drew (bR _ _)) r1⟩,HLK _ (Below.drew (bR _ _))⟩ (fun hS=>?_);refine tY 0 ?_;refine tY 1 ?_;refine tY 2 ?_;refine tY 3 ?_;obtain⟨v0,st,w4,hr,hm4,hB4,hst⟩:=(HBk.out.below (Below.drew (Below.refl _ X))).entry2 hvw (by unfold maxLen;omega);unfold vv goInt at hr;unfold goInt at hst;have hneV:BV≠B:=oM;have hneS:BS≠B:=oM;have hS4:(fun W=>(W.cell? ⟨BV,0,none⟩=some (.int .i64 v.bal)∧W.cell? ⟨BV,1,none⟩=some (.int .i64 v.val))∧(Instr.lookup 245 (.map (some B)) (.agg #[.int .i64 v.bal,.int .i64 v.val]) false).run Tryz.prog W =.ok (.int .i64 c) W) w4:=⟨⟨hm4.cell hS.1.1 hneV,hm4.cell hS.1.2 hneV⟩,by
     have e:=(hB4.look hvw).1;rw[fCb,←HCc.out] at e;exact e⟩
    clear HLK;refine uS 4 rfl (fun K hK=>?_);go_simp;refine hK _ _ (fun _=>hS4) ?_;clear hK K;try simp only[jX]
    refine uS 5 rfl (fun K hK=>?_);go_simp;refine hK _ _ (fun _=>hS4) ?_;clear hK K;try simp only[jX]
    obtain⟨w5,hr5,hB5,hm5⟩:=hst (c+1) (wfv oM oM);refine uS 6 rfl (fun K hK=>?_);go_simp;refine hK _ _ (fun h=>absurd rfl h) ?_;clear hK K;refine dP ?_;have hbl5:Mod (fun b=>b=B) w w5:=(hBX.trans (Mod.of_below (Below.drew (Below.refl X.heap.size X)))).trans hm5;have s55:=hm5.cell (cK (Below.drew (Below.refl _ X)) s5) hneS;have HB5:Hid (Bkv w5 B (m'+1) (cB D i (p+1+1))):=by show Bkv _ _ _ _;rw[HNew.out];exact hB5
    clear hS hS4 hr hst hr5 hB5 hB4 hm4 hm5 HBk r0 r1 s5;go_wp2;exact⟨⟨p+1+1,m'+1,by omega,by go_num,by omega,HB5.out,s55,hbl5⟩,mI⟩
   have heq:∀w,(binOp .neq 126 (.agg #[.int .i64 v.bal,.int .i64 v.val]) (.agg #[.int .i64 u.bal,.int .i64 u.val])).run Tryz.prog w =.ok (.bool false) w:=fun w=>by rw[uW,he];rfl
   have HOld:Hid (cB D i (p+1+1)=cB D i (p+1)):=fXj D i (p+1) v HB.out.2.1 HB.out.2.2 (Hiff.out.2 (vot_eq.1 he));clear he;go_wp2;generalize wr.alloc (.cells #[.int .i64 v.bal,.int .i64 v.val] 126)=Y at *;generalize wr.heap.size=BV at *;clear a1 a2 s5 HBk hbl;have r0:=r0';have r1:=r1';have s5:=s5';have HBk:=HBk';clear r0' r1' s5' HBk';have zY:BV<Y.heap.size:=wL Y _ r0;have zc:bc<Y.heap.size:=wL Y _ d1;have zs:BS<Y.heap.size:=wL Y _ s5;go_quiet (fail);go_wp2;exact⟨⟨p+1+1,m',oM,by go_num,by omega,by rw[HOld.out];exact HBk.out.below (fJ (Below.refl _ Y) _),cK (fJ (Below.refl _ Y) _) s5,hBY.trans (Mod.of_below (fJ (Below.refl Y.heap.size Y) _))⟩,mI⟩
 have hkm':k=m:=oM;have HBn:Hid (Bkv wr B m' (cB D (i+1) 0)):=by
  show Bkv _ _ _ _;rw[←fXk,←HC0.out,HM.out,←hkm'];exact HBk.out
 subst hkm';clear hce;go_wp2;refine bodyPost_end (v:=.tuple #[]) (by simp[results,Tryz.results235,go_sem]) rfl ⟨rfl,m',oM,HBn.out,hbl⟩
theorem fX7 (v:Value) (y:DataW Unit × List MemPlace) (h:plainElem Tryz.prog 2 v=some y):∃c:Int,v=(fun c=>Value.int .i64 c) c:=by
 obtain⟨c,rfl,_⟩:=plainElem_int_inv Tryz.underlying2 h;exact⟨c,rfl⟩
theorem fX6 (key:Value) (kl:Lit) (h:keyOf Tryz.prog 126 key=some kl):∃x:Int × Int,key=(fun x:Int × Int=>Value.agg #[.int .i64 x.1,.int .i64 x.2]) x:=by
 obtain⟨x,rfl,_⟩:=fTd h;exact⟨(x.bal,x.val),rfl⟩
theorem xU (hSV:SortsV) (B m' n:Nat) (D:List Slt) (w:World) (hBk:Bkv w B m' (cB D n 0)) (hm':m'≤n*60) (hD0:D.length=n) (hok1:fCc D) (h19:inB (n:Int) 1 9=true) :
  Calls Tryz.prog 236 #[.map (some B),.int .i64 n] w fun e w'=>ChE D w e w':=by
 have hok:Hid (fCc D):=hok1;have HSV:Hid SortsV:=hSV;have HN:Hid (D.length=n):=hD0;have HBk:Hid (Bkv w B m' (cB D n 0)):=hBk;have hn9:1≤n∧n≤9:=by have:=inBi.1 h19;omega
 have hbl:Below w.heap.size w w:=bR _ _;have hBw:B<w.heap.size:=hBk.lt;clear hok1 hSV hD0 hBk;go_enter Tryz.func236,Tryz.ntmps236;have hq0:∃q,quoR (n:Int)=q∧quoV (n:Int)=q∧1≤q:=⟨_,rfl,by unfold quoR;rw[h19,if_pos rfl],by unfold quoR quoV;rw[h19,if_pos rfl];omega⟩
 obtain⟨q,hq1,hq2,hq3⟩:=hq0;have HQ:Hid (quoV (n:Int)=q):=hq2;have hcon:=fD4 (n:Int);rw[hq1] at hcon;clear hq1 hq2;obtain⟨qc,hqc⟩:∃qc,qc=quoC (n:Int):=⟨_,rfl⟩
 rw[←hqc] at hcon;clear hqc;have hfl:∀w,(Instr.field 158 (.agg #[.int .i64 qc,.int .i64 q]) 1).run Tryz.prog w =.ok (.int .i64 q) w:=fun _=>kF
 go_wp2_with fail;refine(hcon _).mono ?_;rintro e w1 ⟨rfl,hb1⟩;have hB1:Below w.heap.size w w1:=bS hbl hb1;have hz1:B<w1.heap.size:=(HBk.out.below hb1).lt;have hz1w:w.heap.size≤w1.heap.size:=hb1.size;obtain⟨DM,hD,h1⟩:=HBk.out.below hb1;have H1:Hid (∀x kl,keyOf Tryz.prog 126 (vv x)=some kl→Maps.has DM kl=(cB D n 0 x).isSome∧DM.atKey kl (.lit (.int .i64 0)) =.lit (.int .i64 ((cB D n 0 x).getD 0))):=h1;have hsl:=hD.size_le;have HWf:Hid (∀v,(cB D n 0 v).isSome=true→vwf v):=fun v h=>by
  rw[fQ5,fFo] at h;obtain⟨t,ht,hp⟩:=fFr _ _ (Nat.pos_of_ne_zero h);obtain⟨j,hj,e⟩:=qE (hasV_iff.1 hp);have:=((hok.out t (by rw[HN.out];exact ht)).at_ j hj).1;rw[e] at this;exact fTe this
 have HC0:Hid (Came (cB D n 0) q (Maps.has DM) []):=fWd HWf.out H1.out;clear h1 hcon hb1 hbl HBk;go_wp2_with (first
  | (at_range;refine wpList_range_own _ rfl _ 245 rfl 126 2 votLaw Tryz.underlying245 _ B m' DM rfl hD ?_;intro w0 hrg0 hg0 hs0)
  | go_in)
 go_frame
 have hB0:Below w.heap.size w w0:=hB1.grown hg0 hB1.size (fun k e=>by cases e);clear hg0 hD;go_loopw [6] (fun u wr=>∃(left:Lit→Bool) (cnt:Nat) (xs:List Vot),(∃a c,u =.slice a xs.length c)∧(∃F,votsR.O wr (w1.heap.size+1) F u xs)∧Came (cB D n 0) q left xs∧xs.length+cnt≤600∧wr.ranges (H:=Unit) Tryz.prog 126 (plainElem Tryz.prog 2) B w1.heap.size m' DM left cnt∧Below w.heap.size w wr) (fun _ wr=>wr.rangeLeft B w1.heap.size)
 case atStart=>exact⟨_,_,[],⟨none,0,rfl⟩,⟨_,fG7 _ _⟩,HC0.out,by simp;omega,hrg0,hB0⟩
 clear hrg0 hB0 HC0;obtain⟨left,cnt,xs,⟨au,cu,rfl⟩,⟨F,ho⟩,hcm,hlen,hrg,hbl⟩:=hrel;have HCm:Hid (Came (cB D n 0) q left xs):=hcm;have HO:Hid (votsR.O wr (w1.heap.size+1) F (.slice au xs.length cu) xs):=ho;have hrl:=hrg.lt;clear hcm ho;obtain⟨Lx,hLx⟩:∃L,L=xs.length:=⟨_,rfl⟩
 have HLx:Hid (xs.length=Lx):=hLx.symm;rw[←hLx] at hlen HO ⊢;clear hLx;go_wp2_with (first
  | (at_next;refine wpList_next_ranges _ rfl _ rfl 126 votLaw _ (fun x:Int × Int=>Value.agg #[.int .i64 x.1,.int .i64 x.2]) (fun c:Int=>Value.int .i64 c) fX6 fX7 B w1.heap.size m' DM left cnt rfl hrg ?_ ?_)
  | go_in)
 ·
  intro _ hl0;have HMem:Hid (∀v,v ∈ xs↔isCh D v):=fun v=>by
   rw[fQ6 HCm.out hl0,fQ5,fM0];have e:cF D n 0 v=cntV D v:=by rw[←fXi,HN.out]
   unfold isCh;rw[e,HN.out,HQ.out];omega
  rcases HO.out.1.2 with ⟨hnil,hx0⟩|⟨g,cap,cur,hsm,_⟩
  ·rw[HLx.out] at hx0;simp only[Value.slice.injEq] at hnil;obtain⟨rfl,_,rfl⟩:=hnil;subst hx0;have HE:Hid (xs=[]):=List.eq_nil_of_length_eq_zero HLx.out;go_wp2_with fail;refine(HSV.out.none_ _).mono ?_;rintro e w5 ⟨rfl,hw5⟩;obtain rfl:=hw5.symm;go_wp2;go_ret;refine⟨_,[],rfl,votsR.ofO (fG7 _ 0),⟨by simp[Rise],fun v=>?_⟩,hbl⟩;rw[←HMem.out v,HE.out]
  rw[HLx.out] at hsm;simp only[Value.slice.injEq,true_and] at hsm;obtain⟨rfl,rfl⟩:=hsm;have hown:=HO.out.1;have hcp:Lx≤cu∧cu≤maxLen:=by
   rcases hown.2 with ⟨h,_⟩|⟨_,_,_,h,_,_,h1,h2,_⟩
   ·cases h
   simp only[Value.slice.injEq] at h;have:=HLx.out;omega
  have hcon:=HSV.out.some_ xs g cu (w1.heap.size+1) wr (by rw[HLx.out] at hown ⊢;exact hown) oM (by rw[HLx.out];omega);rw[HLx.out] at hcon;clear hown;go_wp2_with fail;refine hcon.mono ?_;rintro e w5 ⟨rfl,ys,hp,hs,hk,hb5⟩;have hB5:Below w.heap.size w w5:=hbl.trans (hb5.mono oM);have HY:Hid (∀i,i<ys.length→rP w5 g (i*2) (ys.getD i default)):=hk;have HP:Hid (ys.Perm xs):=hp;have HS:Hid (ys.Pairwise (fun p q=>¬q.bal<p.bal)):=hs.imp (fun h hlt=>by rw[(fGd _ _).2 hlt] at h;cases h);have hly:ys.length=Lx:=by rw[hp.length_eq];exact HLx.out
  have HLy:Hid (ys.length=Lx):=hly;clear hcon hk hp hs hly;go_wp2;go_ret;refine⟨.slice (some ⟨g,0,none⟩) Lx cu,ys,rfl,⟨some ⟨g,0,none⟩,cu,by rw[HLy.out],by rw[HLy.out];exact hcp.1,hcp.2,fun i hi=>⟨g,0,rfl,by rw[Nat.zero_add];exact HY.out i hi⟩⟩,fOt hok.out HCm.out.nodup HMem.out HP.out (HS.out.imp (fun h=>oM)),hB5⟩
 intro xb xv c kl y1 y2 w4 cnt1 hk hlk hv hat hrg1 hlt hg1 hs1 hen;obtain⟨c',ec,ey,hwc⟩:=plainElem_int_inv Tryz.underlying2 hv;simp only[Value.int.injEq,true_and] at ec;subst ec;simp only[Prod.mk.injEq] at ey;obtain⟨rfl,rfl⟩:=ey;have hat0:=hat (.lit (.int .i64 0));obtain⟨q1,q2⟩:=H1.out ⟨xb,xv⟩ kl hk;rw[hat0] at q2;simp only[DataW.lit.injEq,Lit.int.injEq,true_and] at q2;have hsome:(cB D n 0 ⟨xb,xv⟩).isSome=true:=by rw[←q1];exact has_true_of_atKey hat
 have HQ2:Hid (c=(cB D n 0 ⟨xb,xv⟩).getD 0):=q2;have HSm:Hid ((cB D n 0 ⟨xb,xv⟩).isSome=true):=hsome;have HK:Hid (keyOf Tryz.prog 126 (vv ⟨xb,xv⟩)=some kl∧left kl=true):=⟨hk,hlk⟩;have hB4:Below w.heap.size w w4:=hbl.grown hg1 hbl.size (fun k e=>by cases e;omega);have HO4:Hid (votsR.O w4 (w1.heap.size+1) F (.slice au Lx cu) xs):=votsR.mod HO.out (Mod.of_grown hg1) (fun b hb e=>by have:=(votsR.rng HO.out b hb).1;simp at e;omega);clear hk hlk hat hat0 q1 q2 hsome hv hg1 HO;by_cases hqc:q≤c
 ·
  have HCn:Hid (Came (cB D n 0) q (fun z=>left z && !z.sameKey kl) (xs++[⟨xb,xv⟩])):=fTn HCm.out HK.out.1 HK.out.2 HSm.out (by rw[←HQ2.out];exact hqc);go_wp2_with (at_builtin;refine zD _ rfl _ _ rfl (w1.heap.size+1) _ xs rfl _ [⟨xb,xv⟩] rfl (votsR.alloc (votsR.alloc HO4.out _) _).1 ?c0 ?c1 ?c2 ?_)
  case c0=>exact fOk (g:=wr.heap.size+1) (l:=⟨xb,xv⟩) (by rw[←hs1];simp[go_sem]) (by rw[←hs1];simp[go_sem])
  case c1=>rw[HLx.out];simp;omega
  case c2=>simp;omega
  intro v9 w9 o9 hg9 hb9;obtain⟨a9,c9,rfl⟩:=gF o9;have hnb:∀b,(Value.slice au Lx cu).ownBlock=some b→w1.heap.size+1≤b:=fun b hb=>(HO4.out.1.lt b hb).1
  have hrg9:=((hrg1.alloc (.cells #[.int .i64 xb,.int .i64 xv] 126)).alloc (.cells #[.int .i64 xb,.int .i64 xv] 126)).kept hg9 (fun e=>by have:=hnb _ e.symm;omega) (fun e=>by have:=hnb _ e.symm;omega);have hB9:Below w.heap.size w w9:=Below.trans (bA (bA hB4 _) _) ((hb9 _ (bR _ _)).mono oM);have o9':∃F',votsR.O w9 (w1.heap.size+1) F' (.slice a9 (xs.length+1) c9) (xs++[⟨xb,xv⟩]):=⟨_,by rw[List.length_append];exact o9,rfl⟩
  have hl9:(xs++[(⟨xb,xv⟩:Vot)]).length=Lx+1:=by rw[List.length_append,HLx.out];rfl
  clear o9 hg9 hb9 hrg1;rw[HLx.out] at o9' ⊢;go_wp2;refine⟨⟨_,cnt1,xs++[⟨xb,xv⟩],⟨a9,c9,by rw[hl9]⟩,o9',HCn.out,by rw[hl9];omega,hrg9,hB9⟩,by rw[hrg9.left_eq,hrg.left_eq];exact hlt⟩
 have HCn:Hid (Came (cB D n 0) q (fun z=>left z && !z.sameKey kl) xs):=fQ7 HCm.out HK.out.1 (by rw[←HQ2.out];exact hqc);go_wp2;exact⟨⟨_,cnt1,xs,⟨au,cu,by rw[HLx.out]⟩,⟨F,Rep.alloc _ HO4.out _⟩,HCn.out,by rw[HLx.out];omega,hrg1.alloc _,qS⟩,by rw[(hrg1.alloc _).left_eq,hrg.left_eq];exact hlt⟩
end
section
open Go.Maps
variable [dQ Vot] [iH Vot] [dQ Slt] [iH Slt] [dQ SltR] [iH SltR] [dQ Bal] [iH Bal] [dQ Ledg] [iH Ledg] [dQ Leg] [iH Leg] [dQ Acc] [iH Acc] [dQ AccR] [iH AccR] [dQ AccsR] [iH AccsR] [dQ SltsR] [iH SltsR]
def fOf (B:Nat) (ys:List Vot) (w:World) (e:Ending) (w':World):Prop:=e =.returned (.int .i64 (hdV ys))∧(∃m f,m≤600∧Bkv w' B m f)∧Mod (fun b=>b=B) w w'
theorem fUp (hSV:SortsV) (B:Nat) (x:Value) (p2:Option Addr) (q2:Nat) (l:List Acc) (c s:Int) (ys:List Vot) (w0 w:World) (hx:accsR.V w0 x l) (hb0:Below w0.heap.size w0 w) (hB0:w0.heap.size≤B) (hl:ListOk l) (hid:idOk c s=true) (hys:Chs (fQ l c s) ys)
  (hv:sltR.V w0 (.agg #[.int .i64 c,.int .i64 s,.int .i64 (-1),.int .i64 (-1),.int .i64 0,.slice p2 0 q2]) (freS c s)) (hBk:Bkv w B 0 (fun _=>none)) :
  Calls Tryz.prog 161 #[.map (some B),x,.agg #[.int .i64 c,.int .i64 s,.int .i64 (-1),.int .i64 (-1),.int .i64 0,.slice p2 0 q2]] w (fOf B ys w):=by
 have HV:Hid (∀W,sltR.V W (.agg #[.int .i64 c,.int .i64 s,.int .i64 (-1),.int .i64 (-1),.int .i64 0,.slice p2 0 q2]) (freS c s)):=fun W=>fVz hv W
 have HSV:Hid SortsV:=hSV;have hok:Hid (fCc (fQ l c s)):=fHv hl hid;have HU:Hid (∀zs,Chs (fQ l c s) zs→zs=ys):=fun zs h=>uP h hys
 have HOk:Hid (∀k,k<l.length→AccOk (l.getD k default).slots):=fun k hk=>fFl (hl.ok k hk)
 have HLn:Hid ((fQ l c s).length=l.length):=pM l c s;have HAt:Hid (∀k,k<l.length→(fQ l c s).getD k default=qL (l.getD k default).slots (freS c s)):=fun k hk=>fAm l c s hk
 have hlo:=hl.lo;have hhi:=hl.hi;have h19:inB (l.length:Int) 1 9=true:=inBi.2 oM;obtain⟨a,cx,rfl,hcx,hmx,hx⟩:=fFm hx;unfold maxLen at hmx;have hXs:Hid (∀k,k<l.length→∃b o p q,a=some ⟨b,o,none⟩∧w0.cell? ⟨b,o+k,none⟩=some (.slice p (l.getD k default).slots.length q)∧accR.V w0 (.agg #[.slice p (l.getD k default).slots.length q]) (l.getD k default)):=hx;clear hx hv hSV hl hys hid;obtain⟨n,hn'⟩:∃n,n=l.length:=⟨_,rfl⟩
 rw[←hn'] at hcx hXs HOk HLn HAt hlo hhi h19 ⊢;clear hn';obtain⟨D,hD⟩:∃D,D=fQ l c s:=⟨_,rfl⟩
 rw[←hD] at hok HU HLn HAt;clear hD;rw[←fM1 D] at hBk;have hBw:B<w.heap.size:=hBk.lt;have HBk0:Hid (Bkv w B 0 (cB D 0 0)):=hBk;clear hBk;go_enter Tryz.func161,Tryz.ntmps161;go_wp2;go_loopw [12] (fun ii w'=>∃i m':Nat,i≤n∧ii =.int .i64 i∧m'≤i*60∧Bkv w' B m' (cB D i 0)∧(w'.cell? ⟨w.heap.size,0,none⟩=some (.int .i64 c)∧w'.cell? ⟨w.heap.size,1,none⟩=some (.int .i64 s)∧w'.cell? ⟨w.heap.size,2,none⟩=some (.int .i64 (-1))∧w'.cell? ⟨w.heap.size,3,none⟩=some (.int .i64 (-1))∧w'.cell? ⟨w.heap.size,4,none⟩=some (.int .i64 0)∧w'.cell? ⟨w.heap.size,5,none⟩=some (.slice p2 0 q2))∧Mod (fun b=>b=B) w w') (fun ii _=>n-(intOf ii).toNat)
 case atStart=>exact⟨0,0,Nat.zero_le _,rfl,by omega,HBk0.out.below qBq,sG,(Mod.refl _ w).alloc _⟩
 clear HBk0;obtain⟨i,m',hi,rfl,hm',hBk,⟨t0,t1,t2,t3,t4,t5⟩,hmod⟩:=hrel;have HBk:Hid (Bkv wr B m' (cB D i 0)):=hBk;clear hBk;have hb0r:Below w0.heap.size w0 wr:=hmod.below hb0 hb0.size (fun b hb=>oM);have zt:w.heap.size<wr.heap.size:=wL wr _ t0;by_cases hlt:i<n
 ·
  obtain⟨b,o,p,q,rfl,hc,hV⟩:=hXs.out i hlt;have hcr:=cK hb0r hc;have zb:b<wr.heap.size:=wL wr _ hcr;have HSo:Hid (bW wr fun W=>Calls Tryz.prog 166 #[.agg #[.slice p (l.getD i default).slots.length q],.agg #[.int .i64 c,.int .i64 s,.int .i64 (-1),.int .i64 (-1),.int .i64 0,.slice p2 0 q2]] W fun e w'=>∃v,e =.returned v∧sltR.V w' v (D.getD i default)∧Below W.heap.size W w'):=fun W hW=>by
   rw[HAt.out i hlt];exact fFc _ _ (l.getD i default) (freS c s) W (accR.below hV (bS hb0r hW)) (HV.out W) (HOk.out i hlt)
  have HAdd:Hid (∀W v,Below wr.heap.size wr W→sltR.V W v (D.getD i default)→Calls Tryz.prog 235 #[.map (some B),v] W (AddE B i D W)):=fun W v hW hv=>fBr B v D i m' W hv (by rw[HLn.out];exact hlt) (hok.out i (by rw[HLn.out];exact hlt)) (HBk.out.below hW) hm' oM
  clear hc hV;generalize (l.getD i default).slots.length=m at *;go_wp2_with fail;refine(HSo.out _ qBq).mono ?_;rintro e w2 ⟨v2,rfl,hv2,hb2⟩;have hB2:Below wr.heap.size wr w2:=qBq;have HA2:Hid (Calls Tryz.prog 235 #[.map (some B),v2] w2 (AddE B i D w2)):=HAdd.out w2 v2 hB2 hv2;clear hb2 hv2 HSo HAdd HBk hcr;go_wp2_with fail;refine HA2.out.mono ?_;rintro e w3 ⟨rfl,m3,hm3,hB3,hmod3⟩;have hz2:=hB2.size;have hne:w.heap.size≠B:=oM;replace t0:=hmod3.cell (cK hB2 t0) hne;replace t1:=hmod3.cell (cK hB2 t1) hne;replace t2:=hmod3.cell (cK hB2 t2) hne;replace t3:=hmod3.cell (cK hB2 t3) hne;replace t4:=hmod3.cell (cK hB2 t4) hne;replace t5:=hmod3.cell (cK hB2 t5) hne;have hmod4:Mod (fun b=>b=B) w w3:=(hmod.trans (Mod.of_below hB2)).trans hmod3;have HB3:Hid (Bkv w3 B m3 (cB D (i+1) 0)):=hB3;clear hB3 hmod3 hmod hB2 HA2;go_wp2;exact⟨⟨i+1,m3,by omega,by go_num,hm3,HB3.out,⟨t0,t1,t2,t3,t4,t5⟩,hmod4⟩,mI⟩
 have hin:i=n:=oM;subst hin;have HCh:Hid (Calls Tryz.prog 236 #[.map (some B),.int .i64 i] wr fun e w'=>ChE D wr e w'):=xU HSV.out B m' i D wr HBk.out hm' HLn.out hok.out h19;clear t0 t1 t2 t3 t4 t5;go_wp2_with fail;refine HCh.out.mono ?_;rintro e w2 ⟨v2,zs,rfl,hv2,hz,hb2⟩;obtain rfl:=HU.out zs hz;have hmod2:Mod (fun b=>b=B) w w2:=hmod.trans (Mod.of_below hb2);have HB2:Hid (∃m f,m≤600∧Bkv w2 B m f):=⟨m',_,by omega,HBk.out.below hb2⟩;clear hz hb2 HCh hmod HBk;obtain⟨a2,c2,rfl,hc2,hm2,hv2⟩:=hv2;unfold maxLen at hm2;by_cases h0:zs.length=0
 ·
  have HR:Hid (hdV zs=0):=by show _=_;unfold hdV;rw[if_pos h0]
  rw[h0];clear hv2;go_wp2;go_ret;exact⟨by rw[HR.out];rfl,HB2.out,hmod2⟩
 have HR:Hid (hdV zs=(zs.getD 0 default).val):=by show _=_;unfold hdV;rw[if_neg h0]
 obtain⟨b,o,rfl,g⟩:=hv2 0 oM;simp only[Nat.zero_mul,Nat.add_zero] at g;have g1:=g.1;have g2:=g.2;clear g hv2;generalize (zs.getD 0 default).val=y at *;generalize (zs.getD 0 default).bal=y' at *;generalize zs.length=m at *;have h0':((m:Int)==0)=false:=by simp;omega
 have i0:(0:Int)<m:=oM;go_wp2;go_ret;exact⟨by rw[HR.out];rfl,HB2.out,hmod2⟩
variable [dQ Cont] [iH Cont]
theorem fGm (a2:Option Addr) (c2:Nat) (shs:List Int) (fv:Int→Int) (p1 p2 p3:Value) (Inv:World→Prop) (w:World) (hI:Inv w) (hlen:shs.length≤3)
  (hcell:∀W,Inv W→∀i,i<shs.length→∃b o,a2=some ⟨b,o,none⟩∧W.cell? ⟨b,o+i,none⟩=some (.int .i64 (shs.getD i 0)))
  (hcall:∀W s,Inv W→s ∈ shs→Calls Tryz.prog 160 #[.int .i64 s,p1,p2,p3] W fun e w'=>e =.returned (.int .i64 (fv s))∧Inv w') :
  Calls Tryz.prog 159 #[.slice a2 shs.length c2,.func (.func 160) #[] #[p1,p2,p3]] w fun e w'=>e =.returned (.int .i64 (outV fv shs))∧Inv w':=by
 have HI:Hid (Inv w):=hI;have HC:Hid (∀W,Inv W→∀i,i<shs.length→∃b o,a2=some ⟨b,o,none⟩∧W.cell? ⟨b,o+i,none⟩=some (.int .i64 (shs.getD i 0))):=hcell;have HF:Hid (∀W i,Inv W→i<shs.length→Calls Tryz.prog 160 #[.int .i64 (shs.getD i 0),p1,p2,p3] W fun e w'=>e =.returned (.int .i64 (fv (shs.getD i 0)))∧Inv w'):=fun W i hW hi=>hcall W _ hW (by simp[List.getD,hi])
 have HHit:Hid (∀k,k<shs.length→fv (shs.getD k 0)=2→outV fv shs=2):=fun k hk h=>fGl hk h
 have HEnd:Hid ((∀k,k<shs.length→¬fv (shs.getD k 0)=2)→outV fv shs=outZ fv shs shs.length):=fun h=>fGk h
 clear hI hcell hcall;obtain⟨m,hm'⟩:∃m,m=shs.length:=⟨_,rfl⟩
 rw[←hm'] at HC HF HHit HEnd hlen ⊢;clear hm';have eg:=enters_of Tryz.func160 kF rfl;go_enter Tryz.func159,Tryz.ntmps159;go_wp2;go_loopw [5,10] (fun t i w'=>∃k:Nat,k≤m∧i =.int .i64 k∧t =.int .i64 (outZ fv shs k)∧Hid (∀j,j<k→¬fv (shs.getD j 0)=2)∧Hid (Inv w')) (fun _ i _=>m-(intOf i).toNat)
 case atStart=>exact⟨0,oM,rfl,rfl,fun j h=>absurd h oM,HI⟩
 clear HI;obtain⟨k,hk,rfl,rfl,HP,HW⟩:=hrel;by_cases hlt:k<m
 ·
  obtain⟨b,o,rfl,hc⟩:=HC.out wr HW.out k hlt;have HFk:Hid (Calls Tryz.prog 160 #[.int .i64 (shs.getD k 0),p1,p2,p3] wr fun e w'=>e =.returned (.int .i64 (fv (shs.getD k 0)))∧Inv w'):=HF.out wr k HW.out hlt;have HHk:Hid (fv (shs.getD k 0)=2→outV fv shs=2):=HHit.out k hlt;have HA:Hid (outZ fv shs (k+1)=if fv (shs.getD k 0)=0 then 0 else outZ fv shs k):=rfl;have HP2:Hid (¬fv (shs.getD k 0)=2→∀j,j<k+1→¬fv (shs.getD j 0)=2):=fun h j hj=>by
   by_cases e:j=k
   ·subst e;exact h
   exact HP.out j oM
  have k1:(k:Int)<m:=oM;have k2:(0:Int)≤k:=oM;clear HF HHit HW HP;generalize shs.getD k 0=sh at *;generalize outZ fv shs k=T at *;go_wp2_with fail;refine HFk.out.mono ?_;rintro e w5 ⟨rfl,hw5⟩;have HW5:Hid (Inv w5):=hw5;clear hw5 HFk;generalize fv sh=g at *;by_cases h2:g=2
  ·have HR:Hid _:=HHk.out h2;subst h2;go_wp2;go_ret;exact⟨by rw[HR.out];rfl,HW5.out⟩
  have HP4:Hid _:=HP2.out h2;have h2':(g==2)=false:=by simp[h2]
  by_cases h0:g=0
  ·
   have HA0:Hid (outZ fv shs (k+1)=0):=by show _=_;rw[HA.out,if_pos h0]
   subst h0;go_wp2;exact⟨⟨k+1,by omega,by go_num,by rw[HA0.out],HP4,HW5⟩,mI⟩
  have HA0:Hid (outZ fv shs (k+1)=T):=by show _=_;rw[HA.out,if_neg h0]
  have h0':(g==0)=false:=by simp[h0]
  go_wp2;exact⟨⟨k+1,by omega,by go_num,by rw[HA0.out],HP4,HW5⟩,mI⟩
 have hkm:k=m:=oM;subst hkm;have HR:Hid (outV fv shs=outZ fv shs k):=HEnd.out HP.out;generalize outZ fv shs k=T at *;go_wp2;go_ret;exact⟨by rw[HR.out];rfl,HW.out⟩
def fOg (w2:World) (B G:Nat) (W:World):Prop:=Below w2.heap.size w2 W∧(∃m f,m≤600∧Bkv W B m f)∧W.cell? ⟨G,0,none⟩=some (.map (some B))
theorem fSc (w2:World) (B G Lb Cb n cx:Nat) (a:Option Addr) (ci s:Int) (ys:List Vot)
  (hMo:∀W p2 q2,Below w2.heap.size w2 W→sltR.V w2 (.agg #[.int .i64 ci,.int .i64 s,.int .i64 (-1),.int .i64 (-1),.int .i64 0,.slice p2 0 q2]) (freS ci s)→Bkv W B 0 (fun _=>none)→Calls Tryz.prog 161 #[.map (some B),.slice a n cx,.agg #[.int .i64 ci,.int .i64 s,.int .i64 (-1),.int .i64 (-1),.int .i64 0,.slice p2 0 q2]] W (fOf B ys W))
  (hid:idOk ci s=true) (hL:w2.cell? ⟨Lb,0,none⟩=some (.slice a n cx)) (hC:w2.cell? ⟨Cb,0,none⟩=some (.int .i64 ci)) (hB:w2.heap.size≤B) (hG:¬G=B) (W:World) (hI:fOg w2 B G W) :
  Calls Tryz.prog 160 #[.int .i64 s,.pointer (some ⟨G,0,none⟩),.pointer (some ⟨Lb,0,none⟩),.pointer (some ⟨Cb,0,none⟩)] W fun e w'=>e =.returned (.int .i64 (hdV ys))∧fOg w2 B G w':=by
 obtain⟨hb,⟨mm,ff,hmm,hBk⟩,hg⟩:=hI;have zL:=wL w2 _ hL;have zC:=wL w2 _ hC;dsimp only at zL zC;obtain⟨w3,hr3,hB3,hm3⟩:=fOn hBk;have hb3:Below w2.heap.size w2 w3:=hm3.below hb hb.size (fun b hb=>oM);have g3:w3.cell? ⟨G,0,none⟩=some (.map (some B)):=hm3.cell hg (by dsimp only;exact hG);have l3:=cK hb3 hL;have c3:=cK hb3 hC;have HB3:Hid (Bkv w3 B 0 (fun _=>none)):=hB3;have HNw:Hid (∀W,Calls Tryz.prog 162 #[.int .i64 ci,.int .i64 s] W (NewE ci s W)):=fun W=>fEz ci s W hid
 have HMo:Hid (∀W p2 q2,Below w2.heap.size w2 W→sltR.V w2 (.agg #[.int .i64 ci,.int .i64 s,.int .i64 (-1),.int .i64 (-1),.int .i64 0,.slice p2 0 q2]) (freS ci s)→Bkv W B 0 (fun _=>none)→Calls Tryz.prog 161 #[.map (some B),.slice a n cx,.agg #[.int .i64 ci,.int .i64 s,.int .i64 (-1),.int .i64 (-1),.int .i64 0,.slice p2 0 q2]] W (fOf B ys W)):=hMo;have hslot:=fJj;clear hMo hB3 hm3 hBk hid hb;go_enter Tryz.func160,Tryz.ntmps160;go_wp2_with (first|(at_builtin;refine fTg rfl _ 245 rfl _ rfl (hr3 _) ?_)|fail);clear hg hr3;refine wp_region_noPanic ?_;refine fB (fun w':World=>w'.cell? ⟨G,0,none⟩=some (.map (some B))∧w'.cell? ⟨Lb,0,none⟩=some (.slice a n cx)∧w'.cell? ⟨Cb,0,none⟩=some (.int .i64 ci)) 8 kF ⟨cK (Below.drew (bR _ _)) g3,cK (Below.drew (bR _ _)) l3,cK (Below.drew (bR _ _)) c3⟩ (fun hS=>?_);refine tY 0 ?_;refine tY 1 ?_;refine tY 2 ?_;refine tY 3 ?_;refine tY 4 ?_;refine uS 5 rfl (fun K hK=>?_);go_simp;have hbd:Below w3.heap.size w3 w3.drew:=Below.drew (bR _ _);refine(HNw.out _).mono ?_;rintro e w4 ⟨p4,q4,F4,rfl,o4,hb4⟩;have hb4':Below w3.heap.size w3 w4:=bS hbd hb4;have hS4:=kS3 hb4 hS;refine hK _ _ (fun _=>hS4) ?_;clear hK K;have HM4:Hid (Calls Tryz.prog 161 #[.map (some B),.slice a n cx,.agg #[.int .i64 ci,.int .i64 s,.int .i64 (-1),.int .i64 (-1),.int .i64 0,.slice p4 0 q4]] w4 (fOf B ys w4)):=HMo.out w4 p4 q4 (bS hb3 hb4') (fVz (sltR.ofO o4) w2) (HB3.out.below hb4');clear HMo HNw o4 HB3;try simp only[jX]
 refine uS 6 rfl (fun K hK=>?_);go_simp;refine hK _ _ (fun _=>hS4) ?_;clear hK K;try simp only[jX]
 refine uS 7 rfl (fun K hK=>?_);go_simp;refine HM4.out.mono ?_;rintro e w5 ⟨rfl,hB5,hm5⟩;have hz4:=(bS hb3 hb4').size;have hI5:fOg w2 B G w5:=⟨hm5.below (bS hb3 hb4') hz4 (fun b hb=>oM),hB5,hm5.cell hS4.1 (by dsimp only;exact hG)⟩;have HI5:Hid (fOg w2 B G w5):=hI5;have hS5:(fun w':World=>w'.cell? ⟨G,0,none⟩=some (.map (some B))∧w'.cell? ⟨Lb,0,none⟩=some (.slice a n cx)∧w'.cell? ⟨Cb,0,none⟩=some (.int .i64 ci)) w5:=⟨hm5.cell hS4.1 (by dsimp only;exact hG),hm5.cell hS4.2.1 (by dsimp only;omega),hm5.cell hS4.2.2 (by dsimp only;omega)⟩;refine hK _ _ (fun _=>hS5) ?_;clear hK K HM4;clear hI5 hB5 hm5 hS4 hS hb4 hb4' hbd;try simp only[jX]
 refine uS 8 rfl (fun K hK=>?_);go_simp;refine hK _ _ (fun h=>absurd rfl h) ?_;clear hK K;refine dP ?_;go_wp2;go_ret;exact⟨rfl,HI5.out⟩
end
end Go.Proofs.YtbfnobcidnmohaaGreat

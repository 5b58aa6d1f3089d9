import Derived.Test.YtbfnobcidnmohaaGreatPrnBooksBalanceLaw20
import Derived.Shelf.SlSortCmp.WholeK
import Derived.Ground.SlsfProg
import Derived.Shelf.SlSortCmp.NoneTotal
import Derived.BigQuiet
import Derived.Deep.QuietTactic
import Derived.Deep.RegionHeld3
set_option maxHeartbeats 16000000
set_option maxRecDepth 20000
set_option linter.unusedSectionVars false
set_option linter.unusedVariables false
set_option linter.unusedSimpArgs false
namespace Go.Proofs.YtbfnobcidnmohaaGreat
open Go.RowKit
variable [DecidableEq Bal] [Inhabited Bal] [DecidableEq Ledg] [Inhabited Ledg] [DecidableEq Leg] [Inhabited Leg]
attribute [local go_sem ↓] Go.wp_at_zero Go.wp_at_succ
theorem fMg (g g':Ledg):decide (g.shards=g'.shards)=decide (g=g'):=by
 obtain⟨a⟩:=g;obtain⟨b⟩:=g';simp
theorem fFk (x y:Value) (g g':Ledg) (w:World) (hx:ledgR.V w x g) (hy:ledgR.V w y g') :
  Calls Tryz.prog 53 #[x,y] w fun e w'=>e = .returned (.bool (decide (g=g')))∧Below w.heap.size w w':=by
 obtain⟨u,rfl,hu⟩:=hx;obtain⟨v,rfl,hv⟩:=hy;obtain⟨ax,cx,rfl⟩:=qW hu;obtain⟨ay,cy,rfl⟩:=qW hv;go_enter Tryz.func53,Tryz.ntmps53;go_wp2_with fail;refine(fFe _ _ g.shards g'.shards _ (balssR.below hu (qBq)) (balssR.below hv (qBq))).mono ?_;rintro e w' ⟨rfl,hb⟩;rw[fMg];go_wp2;go_ret;exact⟨rfl,qBq⟩
theorem fGa (x y:Value) (g g':Ledg) (w:World) (hx:ledgR.V w x g) (hy:ledgR.V w y g') :
  Calls Tryz.prog 46 #[x,y] w fun e w'=>e = .returned (.bool (decide (g=g')))∧Below w.heap.size w w':=by
 obtain⟨u,rfl,ax,cx,rfl,hcx,hmx,hx⟩:=hx;obtain⟨v,rfl,ay,cy,rfl,hcy,hmy,hy⟩:=hy;unfold maxLen at hmx hmy;rw[←fMg];generalize g.shards=xs at *;generalize g'.shards=ys at *;by_cases hl:xs.length=ys.length
 ·
  generalize hn':xs.length=n at *;have HN:Hid (xs.length=n):=hn';have HM:Hid (ys.length=n):=hl.symm;rw[←hl] at hy hcy ⊢;clear hn' hl;go_enter Tryz.func46,Tryz.ntmps46;go_wp2;go_loopw [5] (fun i w'=>∃k:Nat,k≤n∧i = .int .i64 k∧(∀j,j<k→xs.getD j default=ys.getD j default)∧Below w.heap.size w w'∧w'.cell? ⟨w.heap.size,0,none⟩=some (.slice ax n cx)∧w'.cell? ⟨w.heap.size+1,0,none⟩=some (.slice ay n cy)) (fun i _=>n-(intOf i).toNat)
  case atStart=>exact⟨0,Nat.zero_le _,rfl,fun j hj=>by omega,qBq,by simp[go_sem],by simp[go_sem]⟩
  obtain⟨k,hk,rfl,hs,hbl,q1,q2⟩:=hrel;have HS:Hid (∀j,j<k→xs.getD j default=ys.getD j default):=hs;clear hs;by_cases hlt:k<n
  ·
   obtain⟨bx,ox,u,rfl,_,hc,hu⟩:=hx k hlt;obtain⟨b2,o2,v,rfl,_,hd,hv⟩:=hy k hlt;have c1:=cK hbl (rX hc);have d1:=cK hbl (rX hd);have hu1:=balsR.below hu hbl;have hv1:=balsR.below hv hbl;clear hu hc hv hd hx hy;obtain⟨l,hl⟩:∃l,l=xs.getD k default:=⟨_,rfl⟩
   rw[←hl] at hu1;have HL:Hid (l=xs.getD k default):=hl;obtain⟨o,ho⟩:∃o,o=ys.getD k default:=⟨_,rfl⟩
   rw[←ho] at hv1;have HO:Hid (o=ys.getD k default):=ho;clear hl ho;have i1:(k:Int)<(n:Int):=by omega
   obtain⟨a',c',rfl⟩:=fJ hu1;obtain⟨a2,c2,rfl⟩:=fJ hv1;go_wp2;go_quiet (fail);by_cases hll:l.length=o.length
   ·
    have hB:=gG hbl nq;replace q1:=cK (gG (Below.refl _ _) nq) q1;replace q2:=cK (gG (Below.refl _ _) nq) q2;replace c1:=cK (gG (Below.refl _ _) nq) c1;replace d1:=cK (gG (Below.refl _ _) nq) d1;replace hu1:=balsR.below hu1 (gG (Below.refl _ _) nq);replace hv1:=balsR.below hv1 (gG (Below.refl _ _) nq);clear hbl;generalize wr.drewN nq=wo at *;obtain⟨a1',c1',e1,hcc,hmc,hu1⟩:=hu1;obtain⟨a2',c2',e2,hcc2,hmc2,hv1⟩:=hv1;simp only[Value.slice.injEq,true_and] at e1 e2;obtain⟨rfl,rfl⟩:=e1;obtain⟨rfl,rfl⟩:=e2;unfold maxLen at hmc hmc2;generalize hm':l.length=m at *;have HLN:Hid (l.length=m):=hm';have HLM:Hid (o.length=m):=hll.symm;rw[←hll] at hv1 hcc2 d1 ⊢;clear hm' hll;go_wp2;go_loopw [6] (fun i w'=>∃p:Nat,p≤m∧i = .int .i64 p∧(∀j,j<p→l.getD j default=o.getD j default)∧Below wo.heap.size wo w') (fun i _=>m-(intOf i).toNat)
    case atStart=>exact⟨0,Nat.zero_le _,rfl,fun j hj=>by omega,Below.refl _ _⟩
    obtain⟨p,hp,rfl,hs,hb3⟩:=hrel;have HS3:Hid (∀j,j<p→l.getD j default=o.getD j default):=hs;clear hs;have q3:=cK hb3 q1;have q4:=cK hb3 q2;have c3:=cK hb3 c1;have d3:=cK hb3 d1;by_cases hlt3:p<m
    ·
     obtain⟨b5,o5,rfl,g1⟩:=hu1 p hlt3;obtain⟨b6,o6,rfl,g2⟩:=hv1 p hlt3;obtain⟨lx,hlx⟩:∃lx,lx=l.getD p default:=⟨_,rfl⟩
     obtain⟨ly,hly⟩:∃ly,ly=o.getD p default:=⟨_,rfl⟩
     rw[←hlx] at g1;rw[←hly] at g2;have HX:Hid (lx=l.getD p default):=hlx;have HY:Hid (ly=o.getD p default):=hly;clear hlx hly hu1 hv1;obtain⟨e1,e2,e3⟩:=gH hb3 g1;obtain⟨f1,f2,f3⟩:=gH hb3 g2;have hnq:=fUb lx ly;have hgd:=fEk;have i2:(p:Int)<(m:Int):=by omega
     clear g1 g2 q1 q2 c1 d1;go_wp2;go_quiet (fail);clear hnq hgd;generalize hd:decide (lx=ly)=b;have HD:Hid (decide (lx=ly)=b):=hd;clear hd;cases b with
     | true=>
      go_wp2;have he:lx=ly:=of_decide_eq_true HD.out;refine⟨⟨p+1,by omega,by go_num,?_,gG hb3 _⟩,by simp[intOf];omega⟩;intro j hj;by_cases e:j=p
      ·
       subst e;rw[←HX.out,←HY.out,he]
      exact HS3.out j (by omega)
     | false=>
      go_wp2;go_ret;have he:¬lx=ly:=of_decide_eq_false HD.out;refine⟨?_,gG (bS hB hb3) _⟩;rw[xZ (k:=k) (by
       rw[←HL.out,←HO.out];intro e;rw[HX.out,HY.out,e] at he;exact he rfl)]
      rfl
    go_wp2;have hpm:p=m:=by omega
    subst hpm;refine⟨⟨k+1,by omega,by go_num,?_,bS hB hb3,q3,q4⟩,by simp[intOf];omega⟩;intro j hj;by_cases e:j=k
    ·
     subst e;rw[←HL.out,←HO.out];exact kY (by rw[HLN.out,HLM.out]) (by rw[HLN.out];exact HS3.out)
    exact HS.out j (by omega)
   have e:decide (xs=ys)=false:=xZ (k:=k) (by
    rw[←HL.out,←HO.out];intro e;rw[e] at hll;exact hll rfl)
   have HE:Hid (decide (xs=ys)=false):=e;clear e;generalize l.length=m1 at *;generalize o.length=m2 at *;have hl2:¬(m1:Int)=(m2:Int):=by omega
   go_wp2;go_ret;refine⟨?_,gG hbl _⟩;rw[HE.out];rfl
  go_wp2;go_ret;have hkn:k=n:=by omega
  subst hkn;refine⟨?_,hbl⟩;have e:xs=ys:=kY (by rw[HN.out,HM.out]) (by rw[HN.out];exact HS.out);rw[decide_eq_true e];rfl
 have e:decide (xs=ys)=false:=by
  simp only[decide_eq_false_iff_not];intro e;rw[e] at hl;exact hl rfl
 rw[e];clear hx hy;generalize xs.length=n at *;generalize ys.length=m at *;have hl2:¬(n:Int)=(m:Int):=by omega
 go_enter Tryz.func46,Tryz.ntmps46;go_wp2;go_ret;exact⟨rfl,qBq⟩
end Go.Proofs.YtbfnobcidnmohaaGreat
namespace Go.Proofs.YtbfnobcidnmohaaGreat
open Go.Shelf
def Tryz.sortK_ren:Go.Shelf.Ren:=⟨fun|6=>186|15=>257|14=>256|28=>302|29=>303|20=>294|21=>295|22=>296|23=>297|24=>298|25=>299|26=>300|27=>301|46=>311|47=>312|48=>313|49=>314|50=>315|57=>334|n=>n,fun|22=>190|24=>183|25=>195|3=>3|39=>330|0=>0|53=>360|55=>362|4=>4|46=>354|45=>353|50=>251|5=>5|9=>9|66=>368|70=>372|76=>385|77=>386|n=>n,fun|n=>n⟩
theorem Tryz.sortK:Go.Proofs.SlLaysF0.n6 Tryz.prog Tryz.sortK_ren:={
 mixed:=by kernel_rfl
 f6:=⟨Tryz.f186.name,by decide,Tryz.func186.trans (congrArg some (by kernel_rfl))⟩
 f14:=⟨Tryz.f256.name,by decide,Tryz.func256.trans (congrArg some (by kernel_rfl))⟩
 f15:=Tryz.func257.trans (congrArg some (by kernel_rfl))
 f20:=⟨Tryz.f294.name,by decide,Tryz.func294.trans (congrArg some (by kernel_rfl))⟩
 f21:=⟨Tryz.f295.name,by decide,Tryz.func295.trans (congrArg some (by kernel_rfl))⟩
 f22:=⟨Tryz.f296.name,by decide,Tryz.func296.trans (congrArg some (by kernel_rfl))⟩
 f23:=⟨Tryz.f297.name,by decide,Tryz.func297.trans (congrArg some (by kernel_rfl))⟩
 f24:=⟨Tryz.f298.name,by decide,Tryz.func298.trans (congrArg some (by kernel_rfl))⟩
 f25:=⟨Tryz.f299.name,by decide,Tryz.func299.trans (congrArg some (by kernel_rfl))⟩
 f26:=⟨Tryz.f300.name,by decide,Tryz.func300.trans (congrArg some (by kernel_rfl))⟩
 f27:=⟨Tryz.f301.name,by decide,Tryz.func301.trans (congrArg some (by kernel_rfl))⟩
 f28:=Tryz.func302.trans (congrArg some (by kernel_rfl))
 f29:=Tryz.func303.trans (congrArg some (by kernel_rfl))
 f46:=⟨Tryz.f311.name,by decide,Tryz.func311.trans (congrArg some (by kernel_rfl))⟩
 f47:=Tryz.func312.trans (congrArg some (by kernel_rfl))
 f48:=Tryz.func313.trans (congrArg some (by kernel_rfl))
 f49:=⟨Tryz.f314.name,by decide,Tryz.func314.trans (congrArg some (by kernel_rfl))⟩
 f50:=⟨Tryz.f315.name,by decide,Tryz.func315.trans (congrArg some (by kernel_rfl))⟩
 f57:=⟨Tryz.f334.name,by decide,Tryz.func334.trans (congrArg some (by kernel_rfl))⟩
 t0:=Tryz.underlying0
 a0:=Tryz.isAgg0
 z0:=Tryz.sizeOf0
 v0:=Tryz.zeroValue0
 t3:=Tryz.underlying3
 a3:=Tryz.isAgg3
 z3:=Tryz.sizeOf3
 v3:=Tryz.zeroValue3
 t4:=Tryz.underlying4
 a4:=Tryz.isAgg4
 z4:=Tryz.sizeOf4
 v4:=Tryz.zeroValue4
 t5:=Tryz.underlying5
 a5:=Tryz.isAgg5
 z5:=Tryz.sizeOf5
 v5:=Tryz.zeroValue5
 t9:=Tryz.underlying9
 a9:=Tryz.isAgg9
 z9:=Tryz.sizeOf9
 v9:=Tryz.zeroValue9
 t22:=Tryz.underlying190
 a22:=Tryz.isAgg190
 z22:=Tryz.sizeOf190
 v22:=Tryz.zeroValue190
 t25:=Tryz.underlying195
 a25:=Tryz.isAgg195
 z25:=Tryz.sizeOf195
 v25:=Tryz.zeroValue195
 t39:=Tryz.underlying330
 a39:=Tryz.isAgg330
 z39:=Tryz.sizeOf330
 v39:=Tryz.zeroValue330
 t45:=Tryz.underlying353
 a45:=Tryz.isAgg353
 z45:=Tryz.sizeOf353
 v45:=Tryz.zeroValue353
 t46:=Tryz.underlying354
 a46:=Tryz.isAgg354
 z46:=Tryz.sizeOf354
 v46:=Tryz.zeroValue354
 t50:=Tryz.underlying251
 a50:=Tryz.isAgg251
 z50:=Tryz.sizeOf251
 v50:=Tryz.zeroValue251
 t53:=Tryz.underlying360
 a53:=Tryz.isAgg360
 z53:=Tryz.sizeOf360
 v53:=Tryz.zeroValue360
 t55:=Tryz.underlying362
 a55:=Tryz.isAgg362
 z55:=Tryz.sizeOf362
 v55:=Tryz.zeroValue362
 t66:=Tryz.underlying368
 a66:=Tryz.isAgg368
 z66:=Tryz.sizeOf368
 v66:=Tryz.zeroValue368
 t70:=Tryz.underlying372
 a70:=Tryz.isAgg372
 z70:=Tryz.sizeOf372
 v70:=Tryz.zeroValue372
 t76:=Tryz.underlying385
 a76:=Tryz.isAgg385
 z76:=Tryz.sizeOf385
 v76:=Tryz.zeroValue385
 t77:=Tryz.underlying386
 a77:=Tryz.isAgg386
 z77:=Tryz.sizeOf386
 v77:=Tryz.zeroValue386}
end Go.Proofs.YtbfnobcidnmohaaGreat
namespace Go.Proofs.YtbfnobcidnmohaaGreat
open Go.RowKit Go.Sort Go.Shelf
variable [DecidableEq Rw] [Inhabited Rw] [DecidableEq Bal] [Inhabited Bal] [DecidableEq Ledg] [Inhabited Ledg] [DecidableEq Leg] [Inhabited Leg] [DecidableEq Cont] [Inhabited Cont]
theorem fVo:SortsK where
 some_:=fun xs g cap base W ho hb hn=>fRa Tryz.sortK_ren Tryz.sortK rfl rfl xs g cap base W ho hb hn
 none_:=fun W=>AnyF.slices_SortFunc_none Tryz.sortK none 0 (.func (.func 110) #[] #[]) W
end Go.Proofs.YtbfnobcidnmohaaGreat
namespace Go.Proofs.YtbfnobcidnmohaaGreat
open Go.RowKit
theorem PO.put {α:Type} {R:Rep α} {e size:Nat} {lv:Value→List Value} {w w':World} {base:Nat} {v:Value} {n k j:Nat} {d:Nat→α} {cs cs':List Value} {us:Nat→Value} {fs:Nat→Nat→Prop} {u:Value} {x:α} {F':Nat→Prop}
  (h:PO R e size lv w base v n k d cs us fs) (hj:j<k) (hm:Mod (fun b=>v.ownBlock=some b∨fs j b) w w') (hu:R.O w' base F' u x) (hF:∀b,F' b→fs j b∨w.heap.size≤b) (hl:(lv u).length=size)
  (hr:w'.ownsRow base e size v n cs') (hold:∀i,i<k→i≠j→∀o,o<size→cs'[i*size+o]? = cs[i*size+o]?) (hnew:∀o,o<size→cs'[j*size+o]? = (lv u)[o]?) :
  PO R e size lv w' base v n k (upd d j x) cs' (upd us j u) (upd fs j F'):=by
 have hlt:∀b,v.ownBlock=some b→b<w.heap.size:=fun b hb=>(h.row.lt b hb).2
 have hfs:∀i,i<k→∀b,fs i b→b<w.heap.size:=fun i hi b hb=>(R.rng (h.el i hi) b hb).2
 refine⟨hr,?_,?_,?_,?_,?_⟩
 ·
  intro i hi;by_cases hik:i=j
  ·
   subst hik;rw[mU,mU,mU];exact hu
  rw[upd_ne _ _ hik,upd_ne _ _ hik,upd_ne _ _ hik];exact R.mod (h.el i hi) hm (fun b hb=>by
   rintro(he|he)
   ·
    exact h.out i hi b hb he
   exact h.sep i j hi hj hik b hb he)
 ·
  intro i hi;by_cases hik:i=j
  ·
   subst hik;rw[mU];exact hl
  rw[upd_ne _ _ hik];exact h.ln i hi
 ·
  intro i hi o ho;by_cases hik:i=j
  ·
   subst hik;rw[mU];exact hnew o ho
  rw[upd_ne _ _ hik,hold i hi hik o ho];exact h.cell i hi o ho
 ·
  intro i hi b hb he;by_cases hik:i=j
  ·
   subst hik;rw[mU] at hb;rcases hF b hb with h1|h1
   ·
    exact h.out i hi b h1 he
   have:=hlt b he;omega
  rw[upd_ne _ _ hik] at hb;exact h.out i hi b hb he
 intro i i' hi hi' hii b h1 h2;by_cases hik:i=j
 ·
  subst hik;rw[mU] at h1;rw[upd_ne _ _ (Ne.symm hii)] at h2;rcases hF b h1 with h3|h3
  ·
   exact h.sep i i' hi hi' hii b h3 h2
  have:=hfs i' hi' b h2;omega
 rw[upd_ne _ _ hik] at h1;by_cases hjk:i'=j
 ·
  subst hjk;rw[mU] at h2;rcases hF b h2 with h3|h3
  ·
   exact h.sep i i' hi hi' hii b h1 h3
  have:=hfs i hi b h1;omega
 rw[upd_ne _ _ hjk] at h2;exact h.sep i i' hi hi' hii b h1 h2
theorem PO.putS {α:Type} {R:Rep α} {e:Nat} {w w1 w2:World} {base g cap:Nat} {n j:Nat} {d:Nat→α} {cs:List Value} {us:Nat→Value} {fs:Nat→Nat→Prop} {u:Value} {x:α} {F':Nat→Prop}
  (h:PO R e 1 one w base (.slice (some ⟨g,0,none⟩) n cap) n n d cs us fs) (hj:j<n) (hm:Mod (fun b=>fs j b) w w1) (hu:R.O w1 base F' u x) (hF:∀b,F' b→fs j b∨w.heap.size≤b)
  (hr:w2.ownsRow base e 1 (.slice (some ⟨g,0,none⟩) n cap) n (cs.set j u)) (hm2:Mod (fun b=>b=g) w1 w2) :
  PO R e 1 one w2 base (.slice (some ⟨g,0,none⟩) n cap) n n (upd d j x) (cs.set j u) (upd us j u) (upd fs j F'):=by
 have hcl:cs.length=n:=by simpa using h.row.1
 have hg:g<w.heap.size:=(h.row.lt g rfl).2;have hgF:¬F' g:=fun hf=>by
  rcases hF g hf with h1|h1
  ·
   exact h.out j hj g h1 rfl
  omega
 refine h.put hj (Mod.trans (Mod.mono hm (fun b hb=>Or.inr hb)) (Mod.mono hm2 (fun b hb=>Or.inl (by rw[hb];rfl)))) (R.mod hu hm2 (fun b hb e=>hgF (e▸hb))) hF rfl hr ?_ ?_
 ·
  intro i hi hij o ho;obtain rfl:o=0:=by omega
  rw[Nat.mul_one,Nat.add_zero,List.getElem?_set_ne (Ne.symm hij)]
 intro o ho;obtain rfl:o=0:=by omega
 rw[Nat.mul_one,Nat.add_zero,List.getElem?_set_self (by omega)];rfl
end Go.Proofs.YtbfnobcidnmohaaGreat
namespace Go.Proofs.YtbfnobcidnmohaaGreat
open Go.RowKit Go.Sort Go.Shelf
variable [DecidableEq Rw] [Inhabited Rw] [DecidableEq Bal] [Inhabited Bal] [DecidableEq Ledg] [Inhabited Ledg] [DecidableEq Leg] [Inhabited Leg] [DecidableEq Cont] [Inhabited Cont] [DecidableEq LedgR] [Inhabited LedgR]
attribute [local go_sem ↓] Go.wp_at_zero Go.wp_at_succ
theorem KDn.perm {f:Int→Int→Int→Option Int} {xs ys:List K3} (h:KDn f xs) (hp:ys.Perm xs):KDn f ys:=
 ⟨⟨hp.symm.nodup h.1.1,fun x hx=>h.1.2 x (hp.mem_iff.1 hx)⟩,fun s a t hk hs=>hp.mem_iff.2 (h.2 s a t hk hs)⟩
theorem fU5 {W:World} {base G n:Nat} (h:W.ownsRow base 68 1 (.slice (some ⟨G,0,none⟩) n n) n (madeCells (Value.slice none 0 0).cells (n*1)).toList) (f:Int→Int→Int→Option Int) :
  PO balsR 68 1 one W base (.slice (some ⟨G,0,none⟩) n n) n n (fun i=>shK f [] i) (List.replicate n (.slice none 0 0)) (fun _=>.slice none 0 0) (fun _ b=>(Value.slice none 0 0).ownBlock=some b):=by
 rw[Nat.mul_one,show(Value.slice none 0 0).cells = #[.slice none 0 0] from rfl,toList_madeCells_one] at h;refine⟨h,fun i hi=>⟨⟨rfl,.inl ⟨rfl,rfl⟩⟩,rfl⟩,fun _ _=>rfl,fun i hi j hj=>?_,fun i hi b hb=>(by cases hb),fun i j hi hj hij b hb=>(by cases hb)⟩;obtain rfl:j=0:=by omega
 simp[one,hi]
theorem fDn (n b m:Nat) (f:Int→Int→Int→Option Int) (w:World) (hb:Book w b m f) (hn0:1≤n) (hn:n≤3) (hd:KDom n f) :
  Calls Tryz.prog 54 #[.agg #[.int .i64 n,.map (some b)]] w fun e w'=>∃v F ys,e = .returned (.agg #[v])∧KDn f ys∧ys.Pairwise (fun p q=>ltOf cfK q p=false)∧balssR.O w' w.heap.size F v ((List.range n).map (shK f ys))∧Go.RowKit.Below w.heap.size w w':=by
 have hbl:=hb.lt;obtain⟨W0,hW0⟩:∃W0,W0=(w.alloc (.cells #[.int .i64 n,.map (some b)] 95)).alloc (.cells #[.slice none 0 0] 48):=⟨_,rfl⟩
 obtain⟨i0,hi,hz0,hz1,hz2⟩:=info_parts fCo;obtain⟨w1,hmk,hown,hgr⟩:=run_make_full (P:=Tryz.prog) W0 w.heap.size 46 68 i0 _ 1 Tryz.underlying46 hi hz0 hz1 .i64 .i64 n (by rw[hz2];omega) (by unfold maxLen;omega) (by rw[hW0];simp;omega);have hs0:W0.heap.size=w.heap.size+1+1:=by rw[hW0];simp
 have hB1:Go.RowKit.Below W0.heap.size W0 w1:=(Below.refl _ _).grown hgr (Nat.le_refl _) (fun k h=>by cases h);have k0:w1.cell? ⟨w.heap.size,0,none⟩=some (.int .i64 n):=cK hB1 (by rw[hW0];simp[go_sem]);have k1:w1.cell? ⟨w.heap.size,1,none⟩=some (.map (some b)):=cK hB1 (by rw[hW0];simp[go_sem]);have r0:w1.cell? ⟨w.heap.size+1,0,none⟩=some (.slice none 0 0):=cK hB1 (by rw[hW0];simp[go_sem]);have hbw1:Go.RowKit.Below w.heap.size w w1:=by
  have h1:Go.RowKit.Below w.heap.size w W0:=by rw[hW0];(repeat (first|exact bR _ _|assumption|refine bD ?_|refine bA ?_ _|refine bset ?_ (by simp;omega) _|refine bset ?_ (by simp) _|refine bS ?_ (by assumption)))
  exact bS h1 hB1
 have z1:w.heap.size+1+1<w1.heap.size:=by
  have:=(hown.lt W0.heap.size rfl).2;omega
 have z0:w.heap.size<w1.heap.size:=by omega
 have z01:w.heap.size+1<w1.heap.size:=by omega
 have fr0:w1.frozen? ⟨w.heap.size+1,0,none⟩=false:=(hB1.frozen (p:=⟨w.heap.size+1,0,none⟩) (by rw[hs0];simp)).trans (by rw[hW0];simp[go_sem]);rw[hs0] at hown;rw[hW0] at hmk;clear hW0 hgr hB1 hi hz0 hz1 hz2 i0;go_enter Tryz.func54,Tryz.ntmps54;go_wp2_with fail;refine(fOc _ b).mono ?_;rintro e w2 ⟨rfl,hb2,q2⟩;have hB12:Go.RowKit.Below w1.heap.size w1 w2:=bS (bA (Below.refl _ _) _) hb2;have g2:w2.cell? ⟨w1.heap.size,0,none⟩=some (.slice (some ⟨w.heap.size+1+1,0,none⟩) n n):=cK hb2 (by simp[go_sem]);rw[World.size_alloc] at q2;have hz2:w1.heap.size+1<w2.heap.size:=wL _ _ q2;have hcon:=fD4 fVo 187 #[.pointer (some ⟨w1.heap.size+1,0,none⟩)] (KOk f) (KDn f) (fun i=>i=w1.heap.size+1∨i=b) w2 (enters_of Tryz.func187 (by kernel_rfl) rfl)
  (fQl _ b m f _ w2 q2 (.inl rfl) (.inr rfl) (fun i hi=>by rcases hi with rfl|rfl <;> omega) (hb.below (bS hbw1 hB12))) (fun i hi=>by rcases hi with rfl|rfl <;> omega) (fun ys h=>by have:=hd.len h;omega) (fun ys h=>by have:=hd.len h.1;omega)
 rw[World.size_alloc];clear q2 hb2 hmk;go_wp2_with fail;refine hcon.mono ?_;rintro e w3 ⟨v,xs,ys,rfl,hD,hp,hs,hkv,hb3⟩;clear hcon;have HD:Hid (KDn f ys):=hD.perm hp;have HS:Hid (ys.Pairwise (fun p q=>ltOf cfK q p=false)):=hs;have hlen:ys.length≤54:=by have:=hd.len HD.out.1;omega
 clear hD hp hs xs;have hB13:Go.RowKit.Below w1.heap.size w1 w3:=bS hB12 hb3;have hB3:Go.RowKit.Below w.heap.size w w3:=bS hbw1 hB13;have HBK:Hid (Book w3 b m f):=hb.below hB3;have e0:w3.cell? ⟨w.heap.size,1,none⟩=some (.map (some b)):=cK hB13 k1;have e1:w3.cell? ⟨w.heap.size+1,0,none⟩=some (.slice none 0 0):=cK hB13 r0;have e2:w3.cell? ⟨w1.heap.size,0,none⟩=some (.slice (some ⟨w.heap.size+1+1,0,none⟩) n n):=cK hb3 g2;have e3:w3.frozen? ⟨w.heap.size+1,0,none⟩=false:=(hB13.frozen (p:=⟨w.heap.size+1,0,none⟩) z01).trans fr0;have HP0:=fU5 (kT hown hB13) f;have hGc:w3.cell? ⟨w.heap.size+1+1,0,none⟩=some (.slice none 0 0):=by
  have h:=HP0.row.cellAt 0 (by omega);rw[h,List.getElem?_replicate,if_pos (by omega)]
 have hz3:w1.heap.size<w3.heap.size:=wL _ _ e2;obtain⟨av,cv,rfl,hkeys⟩:=hkv;clear hb hb3 hB13 hB12 g2 k0 k1 r0 fr0 hown hbw1 hz2;have HKE:Hid (∀i,i<ys.length→∃g,av=some ⟨g,0,none⟩∧vG w3 g (i*3) (ys.getD i default)):=hkeys;clear hkeys;generalize hq:ys.length=q at *;have HN:Hid (ys.length=q):=hq;clear hq;go_wp2;go_loopw [17] (fun i W=>∃(k:Nat) (cs:List Value) (us:Nat→Value) (fs:Nat→Nat→Prop),k≤q∧i = .int .i64 k∧Hid (PO balsR 68 1 one W w.heap.size (.slice (some ⟨w.heap.size+1+1,0,none⟩) n n) n n (fun i=>shK f (ys.take k) i) cs us fs)∧Hid (∀i,i<n→∀b,fs i b→w3.heap.size≤b)∧Mod (fun b=>b=w.heap.size+1+1) w3 W) (fun i _=>q-(intOf i).toNat)
 case atStart=>exact⟨0,_,_,_,Nat.zero_le _,rfl,HP0,fun i hi b hb=>(by cases hb),Mod.refl _ _⟩
 obtain⟨k,cs,us,fs,hk,rfl,HP,HF,hM⟩:=hrel;rename World=>w4
 by_cases hlt:k<q
 ·
  obtain⟨g,rfl,hc⟩:=HKE.out k hlt;have hgne:g≠w.heap.size+1+1:=fun e=>by
   obtain⟨g',e',h0,_⟩:=HKE.out 0 (by omega);simp only[Option.some.injEq,Addr.mk.injEq,and_true] at e';rw[←e',e,Nat.zero_mul,hGc] at h0;cases h0
  have hlk:k<ys.length:=by rw[HN.out];exact hlt
  have hgd:ys.getD k default=ys[k]:=by simp[List.getD,hlk]
  have hmem:ys.getD k default ∈ ys:=by rw[hgd];exact List.getElem_mem _
  have htk:ys.take k++[ys.getD k default]=ys.take (k+1):=by rw[hgd,List.take_add_one,List.getElem?_eq_getElem hlk];rfl
  clear hlk hgd;obtain⟨x,hx⟩:∃x,x=ys.getD k default:=⟨_,rfl⟩
  rw[←hx] at hc hmem htk;clear hx;have HTK:Hid (ys.take k++[x]=ys.take (k+1)):=htk;clear htk;obtain⟨s,a,t⟩:=x;have hsome:=HD.out.1.2 _ hmem;dsimp only at hsome;obtain⟨⟨hs0',hs1'⟩,hko⟩:=hd s a t hsome;obtain⟨⟨ha0,ha1⟩,ht0,ht1⟩:=keyOk_iff.1 hko;have hkw:kwf s a t:=⟨xK (by omega) (by omega),xK (by omega) (by omega),xK (by omega) (by omega)⟩;obtain⟨j,rfl⟩:∃j:Nat,s=(j:Int):=⟨s.toNat,by omega⟩
  have hjn:j<n:=by omega
  obtain⟨d0,d1,d2⟩:=hc;dsimp only at d0 d1 d2;replace d0:=hM.cell d0 hgne;replace d1:=hM.cell d1 hgne;replace d2:=hM.cell d2 hgne;have f0:=hM.cell e0 (by dsimp only;omega);have f2:=hM.cell e2 (by dsimp only;omega);have hz4:=hM.size;have HB4:Hid (Book w4 b m f):=HBK.out.turned hM (by omega);obtain⟨v,hv⟩:∃v,v=(f j a t).getD 0:=⟨_,rfl⟩
  have HV:Hid (v=(f j a t).getD 0):=hv;clear hv hmem hsome HP0 e0 e1 e2 hGc;have hk':(k:Int)<q:=by omega
  have hk0:(0:Int)≤k:=by omega
  have hwk:IntKind.i64.wrap ((k:Int)+1)=(k:Int)+1:=gM (by omega) (by omega);go_wp2;have HLK:∀W,Go.RowKit.Below w4.heap.size w4 W→(Instr.lookup 93 (.map (some b)) (.agg #[.int .i64 j,.int .i64 a,.int .i64 t]) false).run Tryz.prog W = .ok (.int .i64 v) W:=fun W hW=>by rw[HV.out];exact((HB4.out.below hW).look hkw).1
  refine wp_region_noPanic ?_;refine fA (fun W=>W.cell? ⟨w.heap.size,1,none⟩=some (.map (some b))∧(W.cell? ⟨w4.heap.size,0,none⟩=some (.int .i64 j)∧W.cell? ⟨w4.heap.size,1,none⟩=some (.int .i64 a)∧W.cell? ⟨w4.heap.size,2,none⟩=some (.int .i64 t))∧(Instr.lookup 93 (.map (some b)) (.agg #[.int .i64 j,.int .i64 a,.int .i64 t]) false).run Tryz.prog W = .ok (.int .i64 v) W) 10 (by kernel_rfl) ⟨cK (qBq) f0,⟨by simp[go_sem],by simp[go_sem],by simp[go_sem]⟩,HLK _ (qBq)⟩ (fun hS=>?_);refine tL 0 rfl hS ?_;try simp only[jX]
  refine tL 1 rfl hS ?_;try simp only[jX]
  refine tL 2 rfl hS ?_;try simp only[jX]
  refine tL 3 rfl hS ?_;try simp only[jX]
  refine tL 4 rfl hS ?_;try simp only[jX]
  refine tL 5 rfl hS ?_;try simp only[jX]
  refine tL 6 rfl hS ?_;try simp only[jX]
  refine tL 7 rfl hS ?_;try simp only[jX]
  refine tL 8 rfl hS ?_;try simp only[jX]
  refine uS 9 rfl (fun K hK=>?_);go_simp;refine hK _ _ (fun _=>⟨cK (bA (Below.refl _ _) _) hS.1,⟨cK (bA (Below.refl _ _) _) hS.2.1.1,cK (bA (Below.refl _ _) _) hS.2.1.2.1,cK (bA (Below.refl _ _) _) hS.2.1.2.2⟩,HLK _ (qBq)⟩) ?_;clear hK K;try simp only[jX]
  refine uS 10 rfl (fun K hK=>?_);go_simp;refine hK _ _ (fun h=>absurd rfl h) ?_;clear hK K;refine dN (NoPanic.normal ?_);have hb5:Go.RowKit.Below w4.heap.size w4 ((w4.alloc (.cells #[.int .i64 j,.int .i64 a,.int .i64 t] 183)).alloc (.cells #[.int .i64 a,.int .i64 t,.int .i64 v] 180)).drew:=qBq;generalize hw5:((w4.alloc (.cells #[.int .i64 j,.int .i64 a,.int .i64 t] 183)).alloc (.cells #[.int .i64 a,.int .i64 t,.int .i64 v] 180)).drew=w5 at *;have x0:w5.cell? ⟨w4.heap.size+1,0,none⟩=some (.int .i64 a):=by rw[←hw5];simp[go_sem]
  have x1:w5.cell? ⟨w4.heap.size+1,1,none⟩=some (.int .i64 t):=by rw[←hw5];simp[go_sem]
  have x2:w5.cell? ⟨w4.heap.size+1,2,none⟩=some (.int .i64 v):=by rw[←hw5];simp[go_sem]
  clear hw5 hS HLK;have hp5:=HP.out.keep hb5;have h2:=cK hb5 f2;have hM5:=hM.transB' hb5;have hj0:(0:Int)≤j:=by omega
  have hj1:(j:Int)<n:=by omega
  have hel:=hp5.el j hjn;have hcel:w5.cell? ⟨w.heap.size+1+1,j,none⟩=some (us j):=by
   have h:=hp5.cell j hjn 0 (by omega);rw[Nat.mul_one,Nat.add_zero] at h;rw[hp5.row.cellAt j (by omega),h];rfl
  have hrngj:∀b,fs j b→b<w4.heap.size:=fun b hb=>(balsR.rng (HP.out.el j hjn) b hb).2
  have hfrj:w5.frozen? ⟨w.heap.size+1+1,j,none⟩=false:=hp5.row.frozenAt j;obtain⟨au,cu,hu⟩:=fJ (balsR.ofO hel);have hol:(shK f (ys.take k) j).length≤54:=by
   unfold shK;rw[List.length_map];refine Nat.le_trans (List.length_filter_le _ _) ?_;rw[List.length_take];omega
  have HP5:Hid (PO balsR 68 1 one w5 w.heap.size (.slice (some ⟨w.heap.size+1+1,0,none⟩) n n) n n (fun i=>shK f (ys.take k) i) cs us fs):=hp5;obtain⟨out,hout⟩:∃out,out=shK f (ys.take k) j:=⟨_,rfl⟩
  rw[←hout] at hel hu hol;have HOUT:Hid (out=shK f (ys.take k) j):=hout;obtain⟨L,hL⟩:∃L,L=out.length:=⟨_,rfl⟩
  obtain⟨hown5,hfsj⟩:=hel;rw[hu] at hcel hown5 hfsj;rw[←hL] at hcel hown5 hol;have HL:Hid (L=out.length):=hL;clear hp5 hout hL HP hM;rw[←HL.out] at hfsj;have HFJ:Hid (fs j=fun b=>(Value.slice au L cu).ownBlock=some b):=hfsj;clear hfsj hu;go_wp2;refine wp_region_noPanic ?_;refine fA (fun W=>W.cell? ⟨w1.heap.size,0,none⟩=some (.slice (some ⟨w.heap.size+1+1,0,none⟩) n n)∧W.cell? ⟨w.heap.size+1+1,j,none⟩=some (.slice au L cu)∧W.cell? ⟨w4.heap.size+1,0,none⟩=some (.int .i64 a)∧W.cell? ⟨w4.heap.size+1,1,none⟩=some (.int .i64 t)∧W.cell? ⟨w4.heap.size+1,2,none⟩=some (.int .i64 v)) 12 (by kernel_rfl) ⟨cK (qBq) h2,cK (qBq) hcel,cK (qBq) x0,cK (qBq) x1,cK (qBq) x2⟩ (fun hS=>?_);refine tL 0 rfl hS ?_;try simp only[jX]
  refine tL 1 rfl hS ?_;try simp only[jX]
  refine tL 2 rfl hS ?_;try simp only[jX]
  refine tL 3 rfl hS ?_;try simp only[jX]
  refine tL 4 rfl hS ?_;try simp only[jX]
  refine tL 5 rfl hS ?_;try simp only[jX]
  refine tL 6 rfl hS ?_;try simp only[jX]
  refine tL 7 rfl hS ?_;try simp only[jX]
  refine tL 8 rfl hS ?_;try simp only[jX]
  refine uS 9 rfl (fun K hK=>?_);go_simp;have hSY:=And.intro (cK (bA (Below.refl _ _) (.cells #[.int .i64 a,.int .i64 t,.int .i64 v] 180)) hS.1) (And.intro (cK (bA (Below.refl _ _) (.cells #[.int .i64 a,.int .i64 t,.int .i64 v] 180)) hS.2.1) (And.intro (cK (bA (Below.refl _ _) (.cells #[.int .i64 a,.int .i64 t,.int .i64 v] 180)) hS.2.2.1) (And.intro (cK (bA (Below.refl _ _) (.cells #[.int .i64 a,.int .i64 t,.int .i64 v] 180)) hS.2.2.2.1) (cK (bA (Below.refl _ _) (.cells #[.int .i64 a,.int .i64 t,.int .i64 v] 180)) hS.2.2.2.2))));refine hK _ _ (fun _=>hSY) ?_;clear hK K;try simp only[jX]
  refine uS 10 rfl (fun K hK=>?_);obtain⟨i0,hi,hz0,hz1,hz2⟩:=info_parts fAo;have hbY:Go.RowKit.Below w5.heap.size w5 (w5.drew.alloc (.cells #[.int .i64 a,.int .i64 t,.int .i64 v] 180)):=qBq;have hzY:=hbY.size;have hz5:=hb5.size;refine yK _ rfl _ _ 68 rfl w.heap.size 180 i0 _ 3 24 Tryz.underlying68 hi hz0 hz1 hz2 rfl (by decide) (.slice au L cu) L (kV out) rfl (kT hown5 hbY) ⟨w5.heap.size,0,none⟩ 1 1 (balC ⟨a,t,v⟩) rfl rfl ?_ (xQ _) (by unfold maxLen;omega) (by omega) (by simp;omega) ?_
  ·
   refine uO (x:=⟨a,t,v⟩) (o:=0) ?_;exact⟨by simp[go_sem],by simp[go_sem],by simp[go_sem]⟩
  intro v6 w6 o6 hg6 hloc;have hmY:Mod (fs j) (w5.drew.alloc (.cells #[.int .i64 a,.int .i64 t,.int .i64 v] 180)) w6:=by rw[HFJ.out];exact Mod.of_grown hg6
  have hm6:Mod (fs j) w5 w6:=(Mod.of_below hbY).trans hmY;have hn1:¬fs j w1.heap.size:=fun h=>by have:=HF.out j hjn _ h;omega
  have hn2:¬fs j (w.heap.size+1+1):=fun h=>HP5.out.out j hjn _ h rfl
  have hn3:¬fs j (w4.heap.size+1):=fun h=>by have:=hrngj _ h;omega
  have hS6:=And.intro (hmY.cell hSY.1 hn1) (And.intro (hmY.cell hSY.2.1 hn2) (And.intro (hmY.cell hSY.2.2.1 hn3) (And.intro (hmY.cell hSY.2.2.2.1 hn3) (hmY.cell hSY.2.2.2.2 hn3))));have hf6:w6.frozen? ⟨w.heap.size+1+1,j,none⟩=false:=(tT hm6 (a:=⟨w.heap.size+1+1,j,none⟩) (show w.heap.size+1+1<w5.heap.size by omega) hn2).trans hfrj;have hc6:w6.cell? ⟨w.heap.size+1+1,j,none⟩=some (.slice au L cu):=hS6.2.1;obtain⟨p6,c6,hv6⟩:=gD o6;subst hv6;refine hK _ _ (fun _=>hS6) ?_;clear hK K hSY hS;try simp only[jX]
  refine uS 11 rfl (fun K hK=>?_);go_simp;refine hK _ _ (fun _=>hS6) ?_;clear hK K;try simp only[jX]
  refine uS 12 rfl (fun K hK=>?_);go_simp;refine hK _ _ (fun h=>absurd rfl h) ?_;clear hK K;refine dN (NoPanic.normal ?_);have hF6:∀b,(Value.slice p6 (L+1) c6).ownBlock=some b→fs j b∨w5.heap.size≤b:=fun b hb=>by
   rw[HFJ.out];rcases hloc with h|h
   ·
    exact .inl (h▸hb)
   rw[h] at hb;simp at hb;exact .inr (by omega)
  have hO6:balsR.O w6 w.heap.size (fun b=>(Value.slice p6 (L+1) c6).ownBlock=some b) (.slice p6 (L+1) c6) (out++[⟨a,t,v⟩]):=by
   refine⟨?_,rfl⟩;rw[uP,List.length_append,←HL.out];exact o6
  have hm7:Mod (fun b=>b=w.heap.size+1+1) w6 (w6.setCell ⟨w.heap.size+1+1,j,none⟩ (.slice p6 (L+1) c6)):=Mod.of_set w6 ⟨w.heap.size+1+1,j,none⟩ _;have hr6:=hm6.owns HP5.out.row (fun b hb=>by simp[Value.ownBlock] at hb;rw[←hb];exact hn2);have hr7:=(hr6.stored j (.slice p6 (L+1) c6)).1;have hp7:=HP5.out.putS hjn hm6 hO6 hF6 hr7 hm7;have HP7:Hid (PO balsR 68 1 one (w6.setCell ⟨w.heap.size+1+1,j,none⟩ (.slice p6 (L+1) c6)) w.heap.size (.slice (some ⟨w.heap.size+1+1,0,none⟩) n n) n n (fun i=>shK f (ys.take (k+1)) i) (cs.set j (.slice p6 (L+1) c6)) (upd us j (.slice p6 (L+1) c6)) (upd fs j (fun b=>(Value.slice p6 (L+1) c6).ownBlock=some b))):=by
   refine hp7.cast (fun i hi=>?_);rw[←HTK.out,fTp];by_cases hij:i=j
   ·
    subst hij;rw[mU,if_pos rfl,HOUT.out,HV.out];rfl
   rw[upd_ne _ _ hij,if_neg (fun e=>hij (by simp only at e;omega))]
  have HF7:Hid (∀i,i<n→∀b,upd fs j (fun b=>(Value.slice p6 (L+1) c6).ownBlock=some b) i b→w3.heap.size≤b):=fun i hi b hb=>by
   by_cases hij:i=j
   ·
    subst hij;rw[mU] at hb;rcases hF6 b hb with h|h
    ·
     exact HF.out i hi b h
    omega
   rw[upd_ne _ _ hij] at hb;exact HF.out i hi b hb
  have hM7:Mod (fun b=>b=w.heap.size+1+1) w3 (w6.setCell ⟨w.heap.size+1+1,j,none⟩ (.slice p6 (L+1) c6)):=by
   have h36:Mod (fun b=>b=w.heap.size+1+1) w3 w6:=⟨hm6.os.trans hM5.os,hm6.tape.trans hM5.tape,hm6.output.trans hM5.output,Nat.le_trans hM5.size hm6.size,fun i hi hn=>(hm6.block i (Nat.lt_of_lt_of_le hi hM5.size) (fun e=>by have:=HF.out j hjn i e;omega)).trans (hM5.block i hi hn)⟩;exact h36.trans hm7
  clear hp7 hr7 hr6 hO6 hF6 hm7 o6 hg6 hloc hmY hm6;go_wp2;go_roundw
  case rel=>exact⟨k+1,_,_,_,by omega,by simp,HP7,HF7,hM7⟩
  case measure=>simp[intOf];omega
 obtain rfl:k=q:=by omega
 have f2:=hM.cell e2 (by dsimp only;omega);have f1:=hM.cell e1 (by dsimp only;omega);have f3:w4.frozen? ⟨w.heap.size+1,0,none⟩=false:=(tT hM (a:=⟨w.heap.size+1,0,none⟩) (show w.heap.size+1<w3.heap.size by omega) (show ¬(w.heap.size+1=w.heap.size+1+1) by omega)).trans e3;have hz4:=hM.size;have hy:ys.take k=ys:=by rw[←HN.out];exact List.take_length
 rw[hy] at HP;clear hy HKE HP0 HBK hGc;go_wp2;have hm5:Mod (fun b=>b=w.heap.size+1) w4 (w4.setCell ⟨w.heap.size+1,0,none⟩ (.slice (some ⟨w.heap.size+1+1,0,none⟩) n n)):=Mod.of_set w4 ⟨w.heap.size+1,0,none⟩ _;have hp5:=HP.out.mod hm5 (fun b hb e=>by simp[Value.ownBlock] at hb;omega) (fun i hi b hb e=>by have:=HF.out i hi b hb;omega);have hB5:Go.RowKit.Below w.heap.size w (w4.setCell ⟨w.heap.size+1,0,none⟩ (.slice (some ⟨w.heap.size+1+1,0,none⟩) n n)):=Mod.below (F:=fun b=>b=w.heap.size+1+1∨b=w.heap.size+1) hB3 ((hM.mono (fun b hb=>Or.inl hb)).trans (hm5.mono (fun b hb=>Or.inr hb))) (by omega) (fun b hb=>by omega);refine bodyPost_ret (v:=.agg #[.slice (some ⟨w.heap.size+1+1,0,none⟩) n n]) (by simp[results,Tryz.results54,go_sem,f1]) rfl ?_;exact⟨_,_,ys,rfl,HD.out,HS.out,⟨cs,us,fs,by
  rw[List.length_map,List.length_range];exact hp5.cast (fun i hi=>by simp[List.getD,hi]),fun b=>Iff.rfl⟩,hB5⟩
end Go.Proofs.YtbfnobcidnmohaaGreat
namespace Go.Proofs.YtbfnobcidnmohaaGreat
open Go.RowKit
variable [DecidableEq Leg] [Inhabited Leg] [DecidableEq Cont] [Inhabited Cont] [DecidableEq Bal] [Inhabited Bal] [DecidableEq Mrk] [Inhabited Mrk] [DecidableEq Shd] [Inhabited Shd] [DecidableEq Vot] [Inhabited Vot] [DecidableEq Slt] [Inhabited Slt] [DecidableEq Acc] [Inhabited Acc] [DecidableEq Trr] [Inhabited Trr] [DecidableEq Hrd] [Inhabited Hrd] [DecidableEq Ldr] [Inhabited Ldr] [DecidableEq Msg] [Inhabited Msg] [DecidableEq Clu] [Inhabited Clu] [DecidableEq Ledg] [Inhabited Ledg] [DecidableEq SltR] [Inhabited SltR] [DecidableEq AccR] [Inhabited AccR] [DecidableEq AccsR] [Inhabited AccsR] [DecidableEq SltsR] [Inhabited SltsR] [DecidableEq Rw] [Inhabited Rw] [DecidableEq LedgR] [Inhabited LedgR] [DecidableEq OutcR] [Inhabited OutcR] [DecidableEq ShdR] [Inhabited ShdR]
attribute [local go_sem ↓] Go.wp_at_zero Go.wp_at_succ
theorem fQt {w W:World} {v:Value} {ls:List Leg} {b m:Nat} {f:Int→Int→Int→Option Int} (hv:legsR.V w v ls) (hb:Book w b m f) (hm:Mod (fun i=>i=b) w W):legsR.V W v ls:=by
 obtain⟨a,c,e,h1,h2,h3⟩:=hv;refine⟨a,c,e,h1,h2,fun k hk=>?_⟩;obtain⟨b',o,e',hc⟩:=h3 k hk;have hn:b'≠b:=fun e=>by subst e;exact hb.nocell _ _ hc.1
 exact⟨b',o,e',hm.cell hc.1 hn,hm.cell hc.2.1 hn,hm.cell hc.2.2.1 hn,hm.cell hc.2.2.2 hn⟩
theorem fQr {n b m:Nat} {g:Ledg} {c:Clu} (h:cluF c=0) (h0:fP g=0) (hn:g.shards.length=c.shards.length) (w:World) (hb:Book w b m (kH (kC g.shards) (allL c))) (hN:g.shards.length=n) :
  Calls Tryz.prog 54 #[.agg #[.int .i64 n,.map (some b)]] w fun e w'=>∃v,e = .returned (.agg #[v])∧ledgR.V w' (.agg #[v]) ⟨pU g.shards (allL c)⟩∧Below w.heap.size w w':=by
 obtain⟨hg,hk,hd⟩:=fPw h h0 hn;have hs:=fLz h;subst hN;refine(fDn g.shards.length b m _ w hb (by omega) (by omega) hd).mono ?_;rintro e w' ⟨v,F,ys,rfl,hy,hp,hO,hbl⟩;refine⟨v,rfl,⟨v,rfl,?_⟩,hbl⟩;have e:(List.range g.shards.length).map (shK (kH (kC g.shards) (allL c)) ys)=pU g.shards (allL c):=fKz hg hk (by omega) hd hy hp (by simp) (fun i hi=>by simp[List.getD,hi]);rw[←e];exact balssR.ofO hO
theorem fFj (x y:Value) (g:Ledg) (c:Clu) (w:World) (hx:ledgR.V w x g) (hy:cluR.V w y c) (hneed:∀k,k<c.ldrs.length→∀i,i<(c.ldrs.getD k default).tries.length→((c.ldrs.getD k default).tries.getD i default).frm.length≤1048576) :
  Calls Tryz.prog 13 #[x,y] w fun e w'=>e = .returned (.bool (rW g c))∧Below w.heap.size w w':=by
 have HF:Hid (∀W,Below w.heap.size w W→Calls Tryz.prog 32 #[y] W fun e w'=>e = .returned (.int .i64 (cluF c))∧Below W.heap.size W w'):=fun W hW=>fA7 y c W (cluR.below hy hW) hneed
 have HL:Hid (∀W,Below w.heap.size w W→Calls Tryz.prog 48 #[x] W fun e w'=>e = .returned (.int .i64 (fP g))∧Below W.heap.size W w'):=fun W hW=>fBj x g W (ledgR.below hx hW)
 have HO:Hid (fP g=0→∀W,Below w.heap.size w W→Calls Tryz.prog 49 #[x] W fun e w'=>∃b,e = .returned (.agg #[.int .i64 g.shards.length,.map (some b)])∧W.heap.size≤b∧Book w' b 54 (kC g.shards)∧Below W.heap.size W w'):=fun h W hW=>fEi x g W (ledgR.below hx hW) h
 have HCo:Hid (cluF c=0→∀k,k<c.shards.length→∀v W,Below w.heap.size w W→intsR.V W v (c.shards.getD k default).appl→Calls Tryz.prog 50 #[y,v] W fun e w'=>∃p q,e = .returned (.slice p (c.shards.getD k default).appl.length q)∧contsR.V w' (.slice p (c.shards.getD k default).appl.length q) ((c.shards.getD k default).appl.map (qM c))∧Below W.heap.size W w'):=fun h k hk v W hW hv=>by
  refine(fB9 y v c _ W (cluR.below hy hW) hv (by have:=(rR h hk).2.1.na;omega)).mono ?_;rintro e w' ⟨u,rfl,hu,hb⟩;obtain⟨p,q,rfl⟩:=fZ hu;rw[List.length_map] at hu ⊢;exact⟨p,q,rfl,hu,hb⟩
 have HLo:Hid (cluF c=0→∀W,Below w.heap.size w W→Calls Tryz.prog 55 #[y] W fun e w'=>∃v,e = .returned (.agg #[.int .i64 0,v])∧ledgR.V w' (.agg #[v]) ⟨c.shards.map (fun s=>s.bals)⟩∧Below W.heap.size W w'):=fun h W hW=>fIa y c W (cluR.below hy hW) h hneed
 have HLg:Hid (cluF c=0→fP g=0→g.shards.length=c.shards.length→∀W b m,Book W b m (kH (kC g.shards) (allL c))→Calls Tryz.prog 54 #[.agg #[.int .i64 g.shards.length,.map (some b)]] W fun e w'=>∃v,e = .returned (.agg #[v])∧ledgR.V w' (.agg #[v]) ⟨pU g.shards (allL c)⟩∧Below W.heap.size W w'):=fun h h0 hn W b m hb=>fQr h h0 hn W hb rfl
 have HAd:Hid (cluF c=0→fP g=0→∀k,k<c.shards.length→∀j,j<(c.shards.getD k default).appl.length→∀W b m v,Book W b m (kH (kC g.shards) (allP c k j))→legsR.V W v (pW c (c.shards.getD k default) ((c.shards.getD k default).appl.getD j 0))→m+8<1000000→Calls Tryz.prog 51 #[.agg #[.int .i64 g.shards.length,.map (some b)],v] W fun e w'=>e = .returned (.tuple #[])∧∃m',m'≤m+8∧Book w' b m' (kH (kC g.shards) (allP c k (j+1)))∧Mod (fun i=>i=b) W w'):=fun h h0 k hk j hj W b m v hb hv hm=>by
  have hlen:=(uI h hk hj).2;refine(fJ3 _ b m _ v _ W hb hv (by omega) (fRy h0 h hk hj)).mono ?_;rintro e w' ⟨rfl,m',h1,h2,h3⟩;rw[←fGw,←fPq c hj] at h2;exact⟨rfl,m',by omega,h2,h3⟩
 have HLn:Hid (cluF c=0→∀k,k<c.shards.length→∀j,j<(c.shards.getD k default).appl.length→(qM c ((c.shards.getD k default).appl.getD j 0)).legs.length≤1048576):=fun h k hk j hj=>by
  have:=(fHb (fL1 h (fAn ((rR h hk).2.2 j hj))).2).2;omega
 have HAp:Hid (cluF c=0→∀k,k<c.shards.length→(c.shards.getD k default).appl.length≤100):=fun h k hk=>(rR h hk).2.1.na
 have HNx:Hid (∀k,k<c.shards.length→allP c k (c.shards.getD k default).appl.length=allP c (k+1) 0):=fun k hk=>fGz c hk
 have HEn:Hid (allP c c.shards.length 0=allL c):=fRz c;have HZr:Hid (kH (kC g.shards) (allP c 0 0)=kC g.shards):=by show _=_;rw[fPr];rfl
 have HNo:Hid (¬(cluF c=0∧fP g=0∧g.shards.length=c.shards.length)→rW g c=false):=fun h=>fG4 h
 have HIs:Hid (cluF c=0→fP g=0→g.shards.length=c.shards.length→rW g c=decide ((⟨pU g.shards (allL c)⟩:Ledg)=⟨c.shards.map (fun s=>s.bals)⟩)):=fun h h0 hn=>by rw[fPx h hn,fE9 h h0 hn]
 have HN3:Hid (cluF c=0→1≤c.shards.length∧c.shards.length≤3):=fun h=>fLz h
 obtain⟨ag,cg,rfl⟩:=vZ hx;have hy':=hy;obtain⟨a0,a1,a2,a3,a4,c0,c1,c2,c3,c4,n0,n1,n2,n3,n4,rfl,e0,e1,e2,e3,e4,L0,L1,L2,L3,L4⟩:=gL hy;obtain⟨u1,u2,u3,u4,u5,eq,h1,h2,h3,h4,h5⟩:=hy';simp only[Value.agg.injEq,Array.mk.injEq,List.cons.injEq,and_true] at eq;obtain⟨rfl,rfl,rfl,rfl,rfl⟩:=eq;obtain⟨_,hnc,hmc,HA⟩:=fC4 h2;unfold maxLen at hmc;have HX:Hid _:=HA;rw[e1] at HCo HLg HAd HLn HAp HNx HEn HNo HIs HN3;have hngm:g.shards.length≤9223372036854775807:=by
  obtain⟨ug,eg,hxb⟩:=hx;obtain⟨ag',cg',rfl⟩:=qW hxb;exact(xA hxb).2
 clear HA h1 h2 h3 h4 h5 hx hy hneed e0 e1 e2 e3 e4 L0 L2 L3 L4;generalize rW g c=R at *;generalize cluF c=cf at *;generalize fP g=lf at *;generalize hng:g.shards.length=ng at *;clear hng;go_enter Tryz.func13,Tryz.ntmps13;go_wp2_with fail;refine(HF.out _ (qBq)).mono ?_;rintro e w1 ⟨rfl,hb1⟩;have hB1:Below w.heap.size w w1:=qBq;have x0:w1.cell? ⟨w.heap.size,0,none⟩=some (.slice ag ng cg):=cK hb1 (by simp[go_sem]);have y0:w1.cell? ⟨w.heap.size+1,0,none⟩=some (.slice a0 n0 c0):=cK hb1 (by simp[go_sem]);have y1:w1.cell? ⟨w.heap.size+1,1,none⟩=some (.slice a1 n1 c1):=cK hb1 (by simp[go_sem]);have y2:w1.cell? ⟨w.heap.size+1,2,none⟩=some (.slice a2 n2 c2):=cK hb1 (by simp[go_sem]);have y3:w1.cell? ⟨w.heap.size+1,3,none⟩=some (.slice a3 n3 c3):=cK hb1 (by simp[go_sem]);have y4:w1.cell? ⟨w.heap.size+1,4,none⟩=some (.slice a4 n4 c4):=cK hb1 (by simp[go_sem]);clear hb1 HF;by_cases hcf:cf=0;rotate_left
 ·
  have HC:Hid (R=false):=HNo.out (fun h=>hcf h.1);have hcf':(cf !=0)=true:=by simp[hcf]
  clear HCo HLo HLg HAd HLn HAp HNo HIs HN3 HO HL;go_wp2;go_ret;exact⟨by rw[HC.out];rfl,hB1⟩
 subst hcf;have HCo':Hid _:=HCo.out rfl;have HLo':Hid _:=HLo.out rfl;have HLg':Hid _:=HLg.out rfl;have HAd':Hid _:=HAd.out rfl;have HLn':Hid _:=HLn.out rfl;have HAp':Hid _:=HAp.out rfl;have HIs':Hid _:=HIs.out rfl;obtain⟨hN1,hN3⟩:=HN3.out rfl;clear HCo HLo HLg HAd HLn HAp HIs HN3;have zw1:w.heap.size+1<w1.heap.size:=wL w1 _ y0;have zw0:w.heap.size<w1.heap.size:=wL w1 _ x0;go_wp2_with fail;refine(HL.out _ (qBq)).mono ?_;rintro e w2 ⟨rfl,hb2⟩;have hB2:Below w.heap.size w w2:=bS (qBq) hb2;replace x0:=cK hb2 (by first|exact x0|exact cK (qBq) x0);replace y0:=cK hb2 (by first|exact y0|exact cK (qBq) y0);replace y1:=cK hb2 (by first|exact y1|exact cK (qBq) y1);replace y2:=cK hb2 (by first|exact y2|exact cK (qBq) y2);replace y3:=cK hb2 (by first|exact y3|exact cK (qBq) y3);replace y4:=cK hb2 (by first|exact y4|exact cK (qBq) y4);replace zw1:w.heap.size+1<w2.heap.size:=wL w2 _ y0;replace zw0:w.heap.size<w2.heap.size:=wL w2 _ x0;clear hb2 HL hB1;by_cases hlf:lf=0;rotate_left
 ·
  have HC:Hid (R=false):=HNo.out (fun h=>hlf h.2.1);have hlf':(lf !=0)=true:=by simp[hlf]
  clear HCo' HLo' HLg' HAd' HLn' HAp' HNo HIs' HO;go_wp2;go_ret;exact⟨by rw[HC.out];rfl,hB2⟩
 subst hlf;by_cases hn:ng=n1;rotate_left
 ·
  have HC:Hid (R=false):=HNo.out (fun h=>hn h.2.2);have hn':((ng:Int) !=(n1:Int))=true:=by simp;omega
  clear HCo' HLo' HLg' HAd' HLn' HAp' HNo HIs' HO;go_wp2;go_ret;exact⟨by rw[HC.out];rfl,hB2⟩
 subst hn;have HLg2:Hid _:=HLg'.out rfl rfl;have HAd2:Hid _:=HAd'.out rfl;have HIs2:Hid _:=HIs'.out rfl rfl;have HO2:Hid _:=HO.out rfl;clear HLg' HAd' HIs' HO HNo;go_wp2_with fail;refine(HO2.out _ (qBq)).mono ?_;rintro e w3 ⟨b,rfl,hbb,hbk,hb3⟩;have hB3:Below w.heap.size w w3:=bS (qBq) hb3;replace y0:=cK hb3 (by first|exact y0|exact cK (qBq) y0);replace y1:=cK hb3 (by first|exact y1|exact cK (qBq) y1);replace y2:=cK hb3 (by first|exact y2|exact cK (qBq) y2);replace y3:=cK hb3 (by first|exact y3|exact cK (qBq) y3);replace y4:=cK hb3 (by first|exact y4|exact cK (qBq) y4);have zw3:w.heap.size+1<w3.heap.size:=wL w3 _ y0;have zb:=hbk.lt;have zbb:w.heap.size+1<b:=by omega
 have HBK:Hid (Book w3 b 54 (kC g.shards)):=hbk;clear hb3 hbk x0 hbb HO2 hB2 zw0 zw1;go_wp2;have q0:(w3.alloc (.cells #[.int .i64 ng,.map (some b)] 95)).cell? ⟨w3.heap.size,0,none⟩=some (.int .i64 ng):=by simp[go_sem]
 have q1:(w3.alloc (.cells #[.int .i64 ng,.map (some b)] 95)).cell? ⟨w3.heap.size,1,none⟩=some (.map (some b)):=by simp[go_sem]
 have hb4:Below w3.heap.size w3 (w3.alloc (.cells #[.int .i64 ng,.map (some b)] 95)):=bA (Below.refl _ _) _;replace y0:=cK hb4 y0;replace y1:=cK hb4 y1;replace y2:=cK hb4 y2;replace y3:=cK hb4 y3;replace y4:=cK hb4 y4;have hB4:Below w.heap.size w (w3.alloc (.cells #[.int .i64 ng,.map (some b)] 95)):=bS hB3 hb4;have HB4:Hid (Book (w3.alloc (.cells #[.int .i64 ng,.map (some b)] 95)) b 54 (kC g.shards)):=HBK.out.below hb4;clear hb4 hB3 HBK;generalize w3.alloc (.cells #[.int .i64 ng,.map (some b)] 95)=Y at *;generalize w3.heap.size=B at *;have zB:B<Y.heap.size:=wL Y _ q0;go_loopw [32] (fun i W=>∃k m':Nat,k≤ng∧i = .int .i64 k∧m'≤54+800*k∧Hid (Book W b m' (kH (kC g.shards) (allP c k 0)))∧Hid (Mod (fun i=>i=b) Y W)) (fun i _=>ng-(intOf i).toNat)
 case atStart=>exact⟨0,54,Nat.zero_le _,rfl,by omega,by show Book _ _ _ _;rw[HZr.out];exact HB4.out,Mod.refl _ _⟩
 obtain⟨k,m',hk,rfl,hm',HBk,HM⟩:=hrel;have zYr:=HM.out.size;have hBr:Below w.heap.size w wr:=Mod.below hB4 HM.out (by have:=hB4.size;omega) (fun i e=>by omega);have q0r:=HM.out.cell q0 (by dsimp only;omega);have q1r:=HM.out.cell q1 (by dsimp only;omega);have y0r:=HM.out.cell y0 (by dsimp only;omega);have y1r:=HM.out.cell y1 (by dsimp only;omega);have y2r:=HM.out.cell y2 (by dsimp only;omega);have y3r:=HM.out.cell y3 (by dsimp only;omega);have y4r:=HM.out.cell y4 (by dsimp only;omega);clear q0 q1 y0 y1 y2 y3 y4;have zr:w.heap.size+1<wr.heap.size:=wL wr _ y0r;have zBr:B<wr.heap.size:=wL wr _ q0r;by_cases hlt:k<ng
 ·
  have hap:=HAp'.out k hlt;have HCk:=HCo'.out k hlt;have HAk:=HAd2.out k hlt;have HLk:=HLn'.out k hlt;have HNk:=HNx.out k hlt;obtain⟨bs,os,v1,v2,v3,v4,v5,rfl,g0,g1,g2,g3,g4,g6,hv⟩:=HX.out k hlt;obtain⟨_,_,_,_,_,eq,k1,k2,k3,k4,k5⟩:=hv;simp only[Value.agg.injEq,Array.mk.injEq,List.cons.injEq,and_true,true_and] at eq;obtain⟨rfl,rfl,rfl,rfl,rfl⟩:=eq;obtain⟨s,hs⟩:∃s,s=c.shards.getD k default:=⟨_,rfl⟩
  rw[←hs] at g0 k5 hap HCk HAk HLk HNk;have HCk':Hid _:=HCk;have HAk':Hid _:=HAk;have HLk':Hid _:=HLk;have HNk':Hid _:=HNk;have HV:Hid (∀W,Below w.heap.size w W→intsR.V W v5 s.appl):=fun W hW=>intsR.below k5 hW
  replace g0:=cK hBr g0;replace g1:=cK hBr g1;replace g2:=cK hBr g2;replace g3:=cK hBr g3;replace g4:=cK hBr g4;replace g6:=cK hBr g6;obtain⟨p1,q1,rfl⟩:=fJ k1;obtain⟨p2,q2,rfl⟩:=fK k2;obtain⟨p3,q3,rfl⟩:=fZ k3;obtain⟨p4,q4,rfl⟩:=fK k4;obtain⟨p5,q5,rfl⟩:=gT k5;clear k1 k2 k3 k4 k5 hs HCk HAk HLk HNk;have hk':(k:Int)<(ng:Int):=by omega
  have hk0:(0:Int)≤(k:Int):=by omega
  go_wp2_with fail;refine(HCk'.out _ _ (qBq) (HV.out _ (qBq))).mono ?_;rintro e w6 ⟨p,q,rfl,hcv,hb6⟩;have hBw6:Below w.heap.size w w6:=bS (qBq) hb6;have hbr6:Below wr.heap.size wr w6:=bS (qBq) hb6;have S0:w6.cell? ⟨wr.heap.size,0,none⟩=some (.int .i64 s.idx):=cK hb6 (by simp[go_sem]);have Q0:=cK hbr6 q0r;have Q1:=cK hbr6 q1r;have HB6:Hid (Book w6 b m' (kH (kC g.shards) (allP c k 0))):=HBk.out.below hbr6;have HM6:Hid (Mod (fun i=>i=b) Y w6):=HM.out.transB' hbr6;obtain⟨hcx,hmx,hcc⟩:=mY (by rw[List.length_map];exact hcv);rw[List.length_map] at hcx hcc;have HCC:Hid (∀j,j<s.appl.length→∃b' o p' q',p=some ⟨b',o,none⟩∧w6.cell? ⟨b',o+j*2,none⟩=some (.int .i64 (qM c (s.appl.getD j 0)).id)∧w6.cell? ⟨b',o+j*2+1,none⟩=some (.slice p' (qM c (s.appl.getD j 0)).legs.length q')∧legsR.V w6 (.slice p' (qM c (s.appl.getD j 0)).legs.length q') (qM c (s.appl.getD j 0)).legs):=fun j hj=>by
   have:=hcc j hj;rw[show(s.appl.map (qM c)).getD j default=qM c (s.appl.getD j 0) by simp[List.getD,hj]] at this;exact this
  unfold maxLen at hmx;have hzb6:b<wr.heap.size:=HBk.out.lt;have zS:wr.heap.size<w6.heap.size:=wL w6 _ S0;clear hcv hcc hb6 HCk' HBk HM hbr6 g0 g1 g2 g3 g4 g6 q0r q1r;generalize hna:s.appl.length=na at *;have HNA:Hid (s.appl.length=na):=hna;clear hna;generalize wr.heap.size=S at *;go_wp2;go_loopw [41] (fun i W=>∃j m2:Nat,j≤na∧i = .int .i64 j∧m2≤54+800*k+8*j∧Hid (Book W b m2 (kH (kC g.shards) (allP c k j)))∧Hid (Mod (fun i=>i=b) w6 W)) (fun i _=>na-(intOf i).toNat)
  case atStart=>exact⟨0,m',Nat.zero_le _,rfl,by omega,HB6.out,Mod.refl _ _⟩
  obtain⟨j,m2,hj,rfl,hm2,HBj,HMj⟩:=hrel;rename World=>w7
  have z7:=HMj.out.size;have S0j:=HMj.out.cell S0 (by dsimp only;omega);have Q0j:=HMj.out.cell Q0 (by dsimp only;omega);have Q1j:=HMj.out.cell Q1 (by dsimp only;omega);have hB7:Below w.heap.size w w7:=Mod.below hBw6 HMj.out (by have:=hBw6.size;omega) (fun i e=>by omega);have zS7:S<w7.heap.size:=wL w7 _ S0j;have zB7:B<w7.heap.size:=wL w7 _ Q0j;by_cases hltj:j<na
  ·
   obtain⟨b',o',p',q',rfl,t0,t1,hlv⟩:=HCC.out j hltj;have hbn:b'≠b:=fun e=>by subst e;exact HB6.out.nocell _ _ t0
   have hlv7:=fQt hlv HB6.out HMj.out;have t0':=HMj.out.cell t0 hbn;have t1':=HMj.out.cell t1 hbn;have hll:=HLk'.out j hltj;have HAj:=HAk'.out j hltj;unfold pW at HAj;generalize qM c (s.appl.getD j 0)=l at *;have HAj':Hid _:=HAj;have HLV:Hid (∀W,Below w7.heap.size w7 W→legsR.V W (.slice p' l.legs.length q') l.legs):=fun W hW=>legsR.below hlv7 hW
   clear hlv hlv7 t0 t1 HAj;have hj':(j:Int)<(na:Int):=by omega
   have hj0:(0:Int)≤(j:Int):=by omega
   have HLE:Hid (l.legs.length≤1048576):=hll;clear hll;go_wp2;have T1:(w7.alloc (.cells #[.int .i64 l.id,.slice p' l.legs.length q'] 60)).cell? ⟨w7.heap.size,1,none⟩=some (.slice p' l.legs.length q'):=by simp[go_sem]
   have hb8:Below w7.heap.size w7 (w7.alloc (.cells #[.int .i64 l.id,.slice p' l.legs.length q'] 60)):=bA (Below.refl _ _) _;have S8:=cK hb8 S0j;have Q8:=cK hb8 Q0j;have Q9:=cK hb8 Q1j;have HB8:Hid (Book (w7.alloc (.cells #[.int .i64 l.id,.slice p' l.legs.length q'] 60)) b m2 (kH (kC g.shards) (allP c k j))):=HBj.out.below hb8;have HLV8:Hid (∀W,Below (w7.alloc (.cells #[.int .i64 l.id,.slice p' l.legs.length q'] 60)).heap.size (w7.alloc (.cells #[.int .i64 l.id,.slice p' l.legs.length q'] 60)) W→legsR.V W (.slice p' l.legs.length q') l.legs):=fun W hW=>HLV.out W (bS hb8 hW)
   have HM8:Hid (Mod (fun i=>i=b) w6 (w7.alloc (.cells #[.int .i64 l.id,.slice p' l.legs.length q'] 60))):=HMj.out.alloc _;have zC:b<w7.heap.size:=HBj.out.lt;clear hb8 HLV HBj HMj S0j Q0j Q1j t0' t1' hB7;generalize hw8:w7.alloc (.cells #[.int .i64 l.id,.slice p' l.legs.length q'] 60)=w8 at *;generalize w7.heap.size=C at *;clear hw8;refine wp_region_noPanic ?_;refine fA (fun W=>W.cell? ⟨B,0,none⟩=some (.int .i64 ng)∧W.cell? ⟨B,1,none⟩=some (.map (some b))∧W.cell? ⟨S,0,none⟩=some (.int .i64 s.idx)∧W.cell? ⟨C,1,none⟩=some (.slice p' l.legs.length q')) 7 (by kernel_rfl) ⟨cK (qBq) Q8,cK (qBq) Q9,cK (qBq) S8,cK (qBq) T1⟩ (fun hS=>?_);refine tM 0 rfl hS ?_;try simp only[jX]
   refine tM 1 rfl hS ?_;try simp only[jX]
   refine tM 2 rfl hS ?_;try simp only[jX]
   refine tM 3 rfl hS ?_;try simp only[jX]
   refine tM 4 rfl hS ?_;try simp only[jX]
   refine uS 5 rfl (fun K hK=>?_);go_simp;refine(xX _ l.legs s.idx _ (HLV8.out _ (qBq)) HLE.out).mono ?_;rintro e w9 ⟨v9,rfl,o9,hb9⟩;have hB9:Below w8.heap.size w8 w9:=bS (qBq) hb9;have hS9:=And.intro (cK hb9 hS.1) (And.intro (cK hb9 hS.2.1) (And.intro (cK hb9 hS.2.2.1) (cK hb9 hS.2.2.2)));have HV9:Hid (legsR.V w9 v9 (onSh s.idx l.legs)):=kM o9;have HB9:Hid (Book w9 b m2 (kH (kC g.shards) (allP c k j))):=HB8.out.below hB9;have HM9:Hid (Mod (fun i=>i=b) w6 w9):=HM8.out.transB' hB9;refine hK _ _ (fun _=>hS9) ?_;clear hK K hb9 o9 HB8 HM8 hS;try simp only[jX]
   refine uS 6 rfl (fun K hK=>?_);go_simp;refine(HAj'.out _ b m2 _ HB9.out HV9.out (by omega)).mono ?_;rintro e w10 ⟨rfl,m3,hm3,hbk3,hmo⟩;have HB10:Hid (Book w10 b m3 (kH (kC g.shards) (allP c k (j+1)))):=hbk3;have HM10:Hid (Mod (fun i=>i=b) w6 w10):=HM9.out.trans hmo;have hS10:(fun W=>W.cell? ⟨B,0,none⟩=some (.int .i64 ng)∧W.cell? ⟨B,1,none⟩=some (.map (some b))∧W.cell? ⟨S,0,none⟩=some (.int .i64 s.idx)∧W.cell? ⟨C,1,none⟩=some (.slice p' l.legs.length q')) w10:=⟨hmo.cell hS9.1 (by dsimp only;omega),hmo.cell hS9.2.1 (by dsimp only;omega),hmo.cell hS9.2.2.1 (by dsimp only;omega),hmo.cell hS9.2.2.2 (by dsimp only;omega)⟩;refine hK _ _ (fun _=>hS10) ?_;clear hK K hmo hbk3 HB9 HM9 HV9 HAj' hS9;try simp only[jX]
   refine dN (NoPanic.normal ?_);clear hS10 Q8 Q9 S8 T1;go_wp2;exact⟨⟨j+1,m3,by omega,by go_num,by omega,HB10,HM10⟩,by simp[intOf];omega⟩
  obtain rfl:j=na:=by omega
  have hti:¬(j:Int)<(j:Int):=by omega
  have HBn:Hid (Book w7 b m2 (kH (kC g.shards) (allP c (k+1) 0))):=by
   have:=HBj.out;rw[HNk'.out] at this;exact this
  have HMn:Hid (Mod (fun i=>i=b) Y w7):=HM6.out.trans HMj.out;clear HBj HMj HM6 HB6;go_wp2;exact⟨⟨k+1,m2,by omega,by go_num,by omega,HBn,HMn⟩,by simp[intOf];omega⟩
 obtain rfl:k=ng:=by omega
 have hti:¬(k:Int)<(k:Int):=by omega
 have HBe:Hid (Book wr b m' (kH (kC g.shards) (allL c))):=by
  have:=HBk.out;rw[HEn.out] at this;exact this
 clear HBk HM;go_wp2;refine wp_region_noPanic ?_;refine fA (fun W=>W.cell? ⟨B,0,none⟩=some (.int .i64 k)∧W.cell? ⟨B,1,none⟩=some (.map (some b))∧W.cell? ⟨w.heap.size+1,0,none⟩=some (.slice a0 n0 c0)∧W.cell? ⟨w.heap.size+1,1,none⟩=some (.slice a1 k c1)∧W.cell? ⟨w.heap.size+1,2,none⟩=some (.slice a2 n2 c2)∧W.cell? ⟨w.heap.size+1,3,none⟩=some (.slice a3 n3 c3)∧W.cell? ⟨w.heap.size+1,4,none⟩=some (.slice a4 n4 c4)) 7 (by kernel_rfl) ⟨cK (qBq) q0r,cK (qBq) q1r,cK (qBq) y0r,cK (qBq) y1r,cK (qBq) y2r,cK (qBq) y3r,cK (qBq) y4r⟩ (fun hS=>?_);refine tM 0 rfl hS ?_;try simp only[jX]
 refine tM 2 rfl hS ?_;try simp only[jX]
 refine uS 1 rfl (fun K hK=>?_);go_simp;refine(HLg2.out _ b m' (HBe.out.below (qBq))).mono ?_;rintro e w7 ⟨v7,rfl,hv7,hb7⟩;have hB7:Below wr.heap.size wr w7:=bS (qBq) hb7;have HV7:Hid (∀W,Below w7.heap.size w7 W→ledgR.V W (.agg #[v7]) ⟨pU g.shards (allL c)⟩):=fun W hW=>ledgR.below hv7 hW
 have hS7:=And.intro (cK hb7 hS.1) (And.intro (cK hb7 hS.2.1) (And.intro (cK hb7 hS.2.2.1) (And.intro (cK hb7 hS.2.2.2.1) (And.intro (cK hb7 hS.2.2.2.2.1) (And.intro (cK hb7 hS.2.2.2.2.2.1) (cK hb7 hS.2.2.2.2.2.2))))));refine hK _ _ (fun _=>hS7) ?_;clear hK K hb7 hv7 hS;try simp only[jX]
 refine uS 3 rfl (fun K hK=>?_);go_simp;refine(HLo'.out _ (bS hBr (qBq))).mono ?_;rintro e w8 ⟨v8,rfl,hv8,hb8⟩;have hB8:Below w7.heap.size w7 w8:=bS (qBq) hb8;have HV8:Hid (∀W,Below w8.heap.size w8 W→ledgR.V W (.agg #[v8]) ⟨c.shards.map (fun s=>s.bals)⟩):=fun W hW=>ledgR.below hv8 hW
 have hS8:=And.intro (cK hb8 hS7.1) (And.intro (cK hb8 hS7.2.1) (And.intro (cK hb8 hS7.2.2.1) (And.intro (cK hb8 hS7.2.2.2.1) (And.intro (cK hb8 hS7.2.2.2.2.1) (And.intro (cK hb8 hS7.2.2.2.2.2.1) (cK hb8 hS7.2.2.2.2.2.2))))));obtain⟨p8,m8,q8,rfl⟩:∃p8 m8 q8,v8 = .slice p8 m8 q8:=by
  obtain⟨u,eu,hu⟩:=hv8;simp only[Value.agg.injEq,Array.mk.injEq,List.cons.injEq,and_true] at eu;subst eu;obtain⟨p,q,rfl⟩:=qW hu;exact⟨_,_,_,rfl⟩
 refine hK _ _ (fun _=>hS8) ?_;clear hK K hb8 hv8 hS7;try simp only[jX]
 have hfd:∀w:World,(Instr.field 102 (.agg #[.int .i64 0,.slice p8 m8 q8]) 1).run Tryz.prog w = .ok (.agg #[.slice p8 m8 q8]) w:=fun _=>by kernel_rfl
 refine tM 4 rfl hS8 ?_;try simp only[jX]
 refine uS 5 rfl (fun K hK=>?_);go_simp;refine(fFk _ _ _ _ _ (HV7.out _ (bS hB8 (qBq))) (HV8.out _ (qBq))).mono ?_;rintro e w9 ⟨rfl,hb9⟩;have hB9:Below w.heap.size w w9:=bS (bS (bS hBr hB7) hB8) (bS (qBq) hb9);have hS9:=And.intro (cK hb9 hS8.1) (And.intro (cK hb9 hS8.2.1) (And.intro (cK hb9 hS8.2.2.1) (And.intro (cK hb9 hS8.2.2.2.1) (And.intro (cK hb9 hS8.2.2.2.2.1) (And.intro (cK hb9 hS8.2.2.2.2.2.1) (cK hb9 hS8.2.2.2.2.2.2))))));refine hK _ _ (fun _=>hS9) ?_;clear hK K hb9 hS8;try simp only[jX]
 rw[←HIs2.out];refine tM 6 rfl hS9 ?_;try simp only[jX]
 refine dN (NoPanic.normal ?_);go_wp2;go_ret;exact⟨rfl,hB9⟩
end Go.Proofs.YtbfnobcidnmohaaGreat
namespace Go.Proofs.YtbfnobcidnmohaaGreat
open Go.RowKit
variable [DecidableEq Leg] [Inhabited Leg] [DecidableEq Cont] [Inhabited Cont] [DecidableEq Bal] [Inhabited Bal] [DecidableEq Mrk] [Inhabited Mrk] [DecidableEq Shd] [Inhabited Shd] [DecidableEq Vot] [Inhabited Vot] [DecidableEq Slt] [Inhabited Slt] [DecidableEq Acc] [Inhabited Acc] [DecidableEq Trr] [Inhabited Trr] [DecidableEq Hrd] [Inhabited Hrd] [DecidableEq Ldr] [Inhabited Ldr] [DecidableEq Msg] [Inhabited Msg] [DecidableEq Clu] [Inhabited Clu] [DecidableEq Ledg] [Inhabited Ledg]
attribute [local go_sem ↓] Go.wp_at_zero Go.wp_at_succ
theorem fKx (m:Msg) (w:World) (hk:inB m.kind 1 6=true) :
  Calls Tryz.prog 131 #[msgV m] w fun e w'=>e = .returned (msgV (mK m))∧Below w.heap.size w w':=by
 obtain⟨kind,to,frm,con,sh,bal,val,ob,ov⟩:=m;have hk':=kinds hk;dsimp only at hk';clear hk;rcases hk' with rfl|rfl|rfl|rfl|rfl|rfl
 ·
  have HE:Hid (mK ⟨1,to,frm,con,sh,bal,val,ob,ov⟩=⟨1,to,0,con,0,0,0,0,0⟩):=by show _=_;simp[mK]
  rw[HE.out];unfold msgV;dsimp only;go_enter Tryz.func131,Tryz.ntmps131;go_wp2;exact bodyPost_ret (v:=.agg #[.int .i64 1,.int .i64 to,.int .i64 0,.int .i64 con,.int .i64 0,.int .i64 0,.int .i64 0,.int .i64 0,.int .i64 0]) (by simp[results,Tryz.results131,go_sem]) rfl ⟨rfl,qBq⟩
 ·
  have HE:Hid (mK ⟨2,to,frm,con,sh,bal,val,ob,ov⟩=⟨2,to,0,con,sh,bal,val,0,0⟩):=by show _=_;simp[mK]
  rw[HE.out];unfold msgV;dsimp only;go_enter Tryz.func131,Tryz.ntmps131;go_wp2;exact bodyPost_ret (v:=.agg #[.int .i64 2,.int .i64 to,.int .i64 0,.int .i64 con,.int .i64 sh,.int .i64 bal,.int .i64 val,.int .i64 0,.int .i64 0]) (by simp[results,Tryz.results131,go_sem]) rfl ⟨rfl,qBq⟩
 ·
  have HE:Hid (mK ⟨3,to,frm,con,sh,bal,val,ob,ov⟩=⟨3,to,frm,con,sh,bal,val,0,0⟩):=by show _=_;simp[mK]
  rw[HE.out];unfold msgV;dsimp only;go_enter Tryz.func131,Tryz.ntmps131;go_wp2;exact bodyPost_ret (v:=.agg #[.int .i64 3,.int .i64 to,.int .i64 frm,.int .i64 con,.int .i64 sh,.int .i64 bal,.int .i64 val,.int .i64 0,.int .i64 0]) (by simp[results,Tryz.results131,go_sem]) rfl ⟨rfl,qBq⟩
 ·
  have HE:Hid (mK ⟨4,to,frm,con,sh,bal,val,ob,ov⟩=⟨4,to,frm,con,sh,bal,0,0,0⟩):=by show _=_;simp[mK]
  rw[HE.out];unfold msgV;dsimp only;go_enter Tryz.func131,Tryz.ntmps131;go_wp2;exact bodyPost_ret (v:=.agg #[.int .i64 4,.int .i64 to,.int .i64 frm,.int .i64 con,.int .i64 sh,.int .i64 bal,.int .i64 0,.int .i64 0,.int .i64 0]) (by simp[results,Tryz.results131,go_sem]) rfl ⟨rfl,qBq⟩
 ·
  have HE:Hid (mK ⟨5,to,frm,con,sh,bal,val,ob,ov⟩=⟨5,to,frm,con,sh,bal,0,ob,ov⟩):=by show _=_;simp[mK]
  rw[HE.out];unfold msgV;dsimp only;go_enter Tryz.func131,Tryz.ntmps131;go_wp2;exact bodyPost_ret (v:=.agg #[.int .i64 5,.int .i64 to,.int .i64 frm,.int .i64 con,.int .i64 sh,.int .i64 bal,.int .i64 0,.int .i64 ob,.int .i64 ov]) (by simp[results,Tryz.results131,go_sem]) rfl ⟨rfl,qBq⟩
 have HE:Hid (mK ⟨6,to,frm,con,sh,bal,val,ob,ov⟩=⟨6,to,0,con,0,0,val,0,0⟩):=by show _=_;simp[mK]
 rw[HE.out];unfold msgV;dsimp only;go_enter Tryz.func131,Tryz.ntmps131;go_wp2;exact bodyPost_ret (v:=.agg #[.int .i64 6,.int .i64 to,.int .i64 0,.int .i64 con,.int .i64 0,.int .i64 0,.int .i64 val,.int .i64 0,.int .i64 0]) (by simp[results,Tryz.results131,go_sem]) rfl ⟨rfl,qBq⟩
theorem fKy (B:Nat) (c:Clu) (m:Msg) (w:World) (h:CluP w B c) (hk:inB m.kind 1 6=true) :
  Calls Tryz.prog 128 #[.pointer (some ⟨B,0,none⟩),msgV m] w fun e w'=>e = .returned (.bool (kP c m))∧Below w.heap.size w w':=by
 obtain⟨a0,c0,a1,c1,a2,c2,a3,c3,v4,y0,y1,y2,y3,y4,hv,l1,l2,l3⟩:=h;clear y0 y4 hv;have zB:B<w.heap.size:=wL w _ y1;obtain⟨n1,e1⟩:∃n1,c.shards.length=n1:=⟨_,rfl⟩
 obtain⟨n2,e2⟩:∃n2,c.accs.length=n2:=⟨_,rfl⟩
 obtain⟨n3,e3⟩:∃n3,c.ldrs.length=n3:=⟨_,rfl⟩
 rw[e1] at y1 l1;rw[e2] at y2 l2;rw[e3] at y3 l3;have w1:IntKind.i64.wrap ((n1:Int)-1)=(n1:Int)-1:=by rw[IntKind.wrap_i64];omega
 have w2:IntKind.i64.wrap ((n2:Int)-1)=(n2:Int)-1:=by rw[IntKind.wrap_i64];omega
 have w3:IntKind.i64.wrap ((n3:Int)-1)=(n3:Int)-1:=by rw[IntKind.wrap_i64];omega
 obtain⟨kind,to,frm,con,sh,bal,val,ob,ov⟩:=m;have hk':=kinds hk;dsimp only at hk';clear hk;unfold msgV;dsimp only;rcases hk' with rfl|rfl|rfl|rfl|rfl|rfl
 ·
  have HE:Hid (kP c ⟨1,to,frm,con,sh,bal,val,ob,ov⟩=inB to 0 ((n1:Int)-1)):=by show _=_;simp[kP,fAi,e1,e2,e3]
  rw[HE.out];clear HE e1 e2 e3;cases ht:inB to 0 ((n1:Int)-1);all_goals
   go_enter Tryz.func128,Tryz.ntmps128;go_wp2_with (first|(go_at_call 123;refine(fO _ _ _ _).mono ?_;rintro e w' ⟨rfl,hw⟩;obtain rfl:=hw.symm;rw[ht]));go_ret;exact⟨rfl,qBq⟩
 ·
  have HE:Hid (kP c ⟨2,to,frm,con,sh,bal,val,ob,ov⟩=inB to 0 ((n2:Int)-1)):=by show _=_;simp[kP,fAi,e1,e2,e3]
  rw[HE.out];clear HE e1 e2 e3;cases ht:inB to 0 ((n2:Int)-1);all_goals
   go_enter Tryz.func128,Tryz.ntmps128;go_wp2_with (first|(go_at_call 123;refine(fO _ _ _ _).mono ?_;rintro e w' ⟨rfl,hw⟩;obtain rfl:=hw.symm;rw[ht]));go_ret;exact⟨rfl,qBq⟩
 ·
  have HE:Hid (kP c ⟨3,to,frm,con,sh,bal,val,ob,ov⟩=(inB to 0 ((n3:Int)-1)&&inB frm 0 ((n2:Int)-1))):=by show _=_;simp[kP,fAi,e1,e2,e3]
  rw[HE.out];clear HE e1 e2 e3;cases ht:inB to 0 ((n3:Int)-1);all_goals cases hf:inB frm 0 ((n2:Int)-1)
  all_goals
   go_enter Tryz.func128,Tryz.ntmps128;go_wp2_with (first|(go_at_call 123;refine(fO _ _ _ _).mono ?_;rintro e w' ⟨rfl,hw⟩;obtain rfl:=hw.symm;first|rw[ht]|rw[hf]));go_ret;exact⟨rfl,qBq⟩
 ·
  have HE:Hid (kP c ⟨4,to,frm,con,sh,bal,val,ob,ov⟩=(inB to 0 ((n2:Int)-1)&&inB frm 0 ((n3:Int)-1))):=by show _=_;simp[kP,fAi,e1,e2,e3]
  rw[HE.out];clear HE e1 e2 e3;cases ht:inB to 0 ((n2:Int)-1);all_goals cases hf:inB frm 0 ((n3:Int)-1)
  all_goals
   go_enter Tryz.func128,Tryz.ntmps128;go_wp2_with (first|(go_at_call 123;refine(fO _ _ _ _).mono ?_;rintro e w' ⟨rfl,hw⟩;obtain rfl:=hw.symm;first|rw[ht]|rw[hf]));go_ret;exact⟨rfl,qBq⟩
 ·
  have HE:Hid (kP c ⟨5,to,frm,con,sh,bal,val,ob,ov⟩=(inB to 0 ((n3:Int)-1)&&inB frm 0 ((n2:Int)-1))):=by show _=_;simp[kP,fAi,e1,e2,e3]
  rw[HE.out];clear HE e1 e2 e3;cases ht:inB to 0 ((n3:Int)-1);all_goals cases hf:inB frm 0 ((n2:Int)-1)
  all_goals
   go_enter Tryz.func128,Tryz.ntmps128;go_wp2_with (first|(go_at_call 123;refine(fO _ _ _ _).mono ?_;rintro e w' ⟨rfl,hw⟩;obtain rfl:=hw.symm;first|rw[ht]|rw[hf]));go_ret;exact⟨rfl,qBq⟩
 have HE:Hid (kP c ⟨6,to,frm,con,sh,bal,val,ob,ov⟩=inB to 0 ((n1:Int)-1)):=by show _=_;simp[kP,fAi,e1,e2,e3]
 rw[HE.out];clear HE e1 e2 e3;cases ht:inB to 0 ((n1:Int)-1);all_goals
  go_enter Tryz.func128,Tryz.ntmps128;go_wp2_with (first|(go_at_call 123;refine(fO _ _ _ _).mono ?_;rintro e w' ⟨rfl,hw⟩;obtain rfl:=hw.symm;rw[ht]));go_ret;exact⟨rfl,qBq⟩
end Go.Proofs.YtbfnobcidnmohaaGreat

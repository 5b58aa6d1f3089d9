import Derived.Shelf.SlicesG.CompactI
import Derived.Ground.SlgnProg
import Derived.Test.YtbfnobcidnmohaaGreatPrnBooksBalanceLaw19
import Derived.BigQuiet
import Derived.Deep.QuietTactic
import Derived.Deep.RegionHeld3
import Derived.RegionTactic
import Derived.ChangeAlike
import Derived.BigRegion
import Derived.Shelf.Abstract
set_option maxHeartbeats 16000000
set_option maxRecDepth 20000
set_option linter.unusedSectionVars false
set_option linter.unusedVariables false
set_option linter.unusedSimpArgs false
namespace Go.Proofs.YtbfnobcidnmohaaGreat
open Go.Shelf
def Tryz.cmpI_ren:Go.Shelf.Ren:=⟨fun|43=>226|n=>n,fun|22=>61|23=>2|3=>3|4=>4|0=>0|n=>n,fun|n=>n⟩
theorem Tryz.cmpI:Go.Proofs.SlLaysN.n43 Tryz.prog Tryz.cmpI_ren:={
 mixed:=by kernel_rfl
 f43:=⟨Tryz.f226.name,by decide,Tryz.func226.trans (congrArg some (by kernel_rfl))⟩
 t0:=Tryz.underlying0
 a0:=Tryz.isAgg0
 z0:=Tryz.sizeOf0
 v0:=Tryz.zeroValue0
 t3:=Tryz.underlying3
 a3:=Tryz.isAgg3
 z3:=Tryz.sizeOf3
 v3:=Tryz.zeroValue3
 t4:=Tryz.underlying4
 a4:=Tryz.isAgg4
 z4:=Tryz.sizeOf4
 v4:=Tryz.zeroValue4
 t22:=Tryz.underlying61
 a22:=Tryz.isAgg61
 z22:=Tryz.sizeOf61
 v22:=Tryz.zeroValue61
 t23:=Tryz.underlying2
 a23:=Tryz.isAgg2
 z23:=Tryz.sizeOf2
 v23:=Tryz.zeroValue2
 i23:=by kernel_rfl}
end Go.Proofs.YtbfnobcidnmohaaGreat
namespace Go.Proofs.YtbfnobcidnmohaaGreat
open Go.RowKit Go.Sort Go.Shelf
variable [DecidableEq Leg] [Inhabited Leg] [DecidableEq Rw] [Inhabited Rw] [DecidableEq Bal] [Inhabited Bal] [DecidableEq Ledg] [Inhabited Ledg] [DecidableEq Cont] [Inhabited Cont] [DecidableEq LedgR] [Inhabited LedgR] [DecidableEq OutcR] [Inhabited OutcR] [DecidableEq Mrk] [Inhabited Mrk] [DecidableEq Shd] [Inhabited Shd] [DecidableEq ShdR] [Inhabited ShdR] [DecidableEq Vot] [Inhabited Vot] [DecidableEq Slt] [Inhabited Slt] [DecidableEq Acc] [Inhabited Acc] [DecidableEq Trr] [Inhabited Trr] [DecidableEq Hrd] [Inhabited Hrd] [DecidableEq Ldr] [Inhabited Ldr] [DecidableEq Msg] [Inhabited Msg] [DecidableEq Clu] [Inhabited Clu] [DecidableEq SltR] [Inhabited SltR] [DecidableEq AccR] [Inhabited AccR] [DecidableEq AccsR] [Inhabited AccsR] [DecidableEq SltsR] [Inhabited SltsR]
attribute [local go_sem ↓] Go.wp_at_zero Go.wp_at_succ
theorem fSk (w:World):grow w #[]=w:=by cases w;simp[grow]
theorem fHa (v:Value) (ys:List Int) (w:World) (base:Nat) (ho:w.ownsRow base 2 1 v ys.length (gY ys)) (hbase:base≤w.heap.size) (hl:ys.length≤1048576) :
  Calls Tryz.prog 226 #[v] w fun e w'=>(∃a c,e = .returned (.slice a (Lib.compact ys).length c))∧Below base w w':=by
 rcases ho.2 with ⟨rfl,hn⟩|⟨g,cap,cur,rfl,hbg,hg,hnc,hcm,hcs,htake⟩
 ·
  have hy:ys=[]:=List.eq_nil_of_length_eq_zero hn;subst hy;have h:=AnyG.slices_Compact_int_empty Tryz.cmpI none 0 w;change Calls Tryz.prog 226 _ _ _ at h;refine h.mono ?_;rintro e w' ⟨rfl,hw⟩;obtain rfl:=hw.symm;exact⟨⟨_,_,rfl⟩,Below.refl _ _⟩
 have h:=AnyG.slices_Compact_int Tryz.cmpI g 0 cap ys w (fT7 hg (by rw[Nat.mul_one] at htake;exact htake)) (by omega) hnc;change Calls Tryz.prog 226 _ _ _ at h;refine h.mono ?_;rintro e w' ⟨rfl,q,hw⟩;refine⟨⟨_,_,rfl⟩,?_⟩;have hgr:=fT6 (w:=w) (g:=g) (n:=q) (os:=#[]) (Lib.compact ys++List.replicate (ys.length-(Lib.compact ys).length) 0).toArray;have e0:grow (putRow (Value.int .i64) (Sort.ahead w q) g 0 (Lib.compact ys++List.replicate (ys.length-(Lib.compact ys).length) 0).toArray) #[]=w':=by rw[hw];exact fSk _
 rw[e0] at hgr;exact(Below.refl _ _).grown hgr hbase (fun b e=>by cases e;exact hbg)
theorem fNl (zs:List Int):(Lib.compact zs).length≤zs.length:=by
 unfold Lib.compact Lib.compactUpTo;rw[List.length_map];exact Nat.le_trans (List.length_filter_le _ _) (by simp)
theorem fNm {zs:List Int} {j:Nat} (hj:j<zs.length) (h:Lib.keeps zs.toArray j=false):(Lib.compact zs).length<zs.length:=by
 unfold Lib.compact Lib.compactUpTo;rw[List.length_map];have:=List.length_filter_lt_length_iff_exists (l:=List.range zs.length) (p:=Lib.keeps zs.toArray);rw[List.length_range] at this;exact this.2 ⟨j,by simp[hj],by rw[h];simp⟩
theorem fH2 {zs:List Int} {j:Nat} (hj:j+1<zs.length):Lib.keeps zs.toArray (j+1)=true↔zs.getD (j+1) 0≠zs.getD j 0:=by
 unfold Lib.keeps;rw[decide_eq_true_iff];have e1:zs.toArray[j+1]! = zs.getD (j+1) 0:=by simp[List.getD,hj]
 have e2:zs.toArray[j+1-1]! = zs.getD j 0:=by simp[List.getD,show j<zs.length by omega]
 rw[e1,e2];simp
theorem fMq {zs:List Int} (hs:∀i j,i<j→j<zs.length→zs.getD i 0≤zs.getD j 0) (ha:∀j,j+1<zs.length→zs.getD (j+1) 0≠zs.getD j 0):∀j i,i<j→j<zs.length→zs.getD i 0<zs.getD j 0
 | 0,i,h,_=>absurd h (Nat.not_lt_zero _)
 | j+1,i,h,hl=>by
  have h1:=ha j hl;have h2:=hs j (j+1) (by omega) hl;by_cases e:i=j
  ·
   rw[e];omega
  have:=fMq hs ha j i (by omega) (by omega);omega
theorem fTs (xs:List Int):∀i j,i<j→j<(sortI xs).length→(sortI xs).getD i 0≤(sortI xs).getD j 0:=by
 intro i j hij hj;have h:(sortI xs).Pairwise (fun a b=>decide (a≤b)=true):=List.pairwise_mergeSort (le:=fun x y=>decide (x≤y)) (fun a b c h1 h2=>by simp at h1 h2 ⊢;omega) (fun a b=>by simp;omega) xs;have:=List.pairwise_iff_getElem.1 h i j (by omega) hj hij;simpa [List.getD,hj,show i<(sortI xs).length by omega] using this
theorem fJ6 (xs:List Int):(Lib.compact (sortI xs)).length<xs.length↔dupB xs=true:=by
 have hp:(sortI xs).Perm xs:=List.mergeSort_perm _ _;have hlen:=hp.length_eq;unfold dupB;rw[decide_eq_true_iff,←hlen,←hp.nodup_iff];constructor
 ·
  intro h hn;have hall:∀j,j<(sortI xs).length→Lib.keeps (sortI xs).toArray j=true:=by
   intro j hj;cases j with
   | zero=>exact Lib.keeps_lt_one _ 0 (by omega)
   | succ j=>
    rw[fH2 hj];intro e;have h2:=List.pairwise_iff_getElem.1 hn j (j+1) (by omega) hj (by omega);apply h2;simpa [List.getD,hj,show j<(sortI xs).length by omega] using e.symm
  rw[Lib.compact_all _ hall] at h;omega
 intro hn;apply Classical.byContradiction;intro hc;have ha:∀j,j+1<(sortI xs).length→(sortI xs).getD (j+1) 0≠(sortI xs).getD j 0:=by
  intro j hj;rw[←fH2 hj];cases hk:Lib.keeps (sortI xs).toArray (j+1) with
  | true=>rfl
  | false=>exact absurd (fNm hj hk) hc
 apply hn;rw[List.Nodup,List.pairwise_iff_getElem];intro i j hi hj hij;have:=fMq (fTs xs) ha j i hij hj;simp[List.getD,hj,hi] at this;omega
theorem fIw (xs:List Int):(sortI xs).length=xs.length:=(List.mergeSort_perm _ _).length_eq
end Go.Proofs.YtbfnobcidnmohaaGreat
namespace Go.Proofs.YtbfnobcidnmohaaGreat
open Go.RowKit
variable [DecidableEq Leg] [Inhabited Leg] [DecidableEq Cont] [Inhabited Cont] [DecidableEq Bal] [Inhabited Bal] [DecidableEq Mrk] [Inhabited Mrk] [DecidableEq Shd] [Inhabited Shd] [DecidableEq Vot] [Inhabited Vot] [DecidableEq Slt] [Inhabited Slt] [DecidableEq Acc] [Inhabited Acc] [DecidableEq Trr] [Inhabited Trr] [DecidableEq Hrd] [Inhabited Hrd] [DecidableEq Ldr] [Inhabited Ldr] [DecidableEq Msg] [Inhabited Msg] [DecidableEq Clu] [Inhabited Clu] [DecidableEq Ledg] [Inhabited Ledg] [DecidableEq SltR] [Inhabited SltR] [DecidableEq AccR] [Inhabited AccR] [DecidableEq AccsR] [Inhabited AccsR] [DecidableEq SltsR] [Inhabited SltsR] [DecidableEq Rw] [Inhabited Rw] [DecidableEq LedgR] [Inhabited LedgR] [DecidableEq OutcR] [Inhabited OutcR] [DecidableEq ShdR] [Inhabited ShdR]
attribute [local go_sem ↓] Go.wp_at_zero Go.wp_at_succ
def tryD (c:Clu) (t:Trr) (bh:Bool):Int:=if hasL c t.con t.sh=true then (if inB t.bal 1 1000=true∧inB t.val 0 2=true then (if bh=true∧t.olds.length=t.frm.length then orF (fC (kS c.accs.length t) t.frm.length) (if dupB t.frm=true then 7 else 0) else 1) else 3) else 4
theorem fMy (c:Clu) (ts:List Trr) (k:Nat):xI c ts k=tryD c (ts.getD k default) (decide (k=0)||decide (cmpT (ts.getD (k-1) default) (ts.getD k default)<0)):=by
 unfold xI tryD;simp only[Bool.or_eq_true,decide_eq_true_eq]
theorem fM2 {w:World} {a:Option Addr} {n c:Nat} {xs:List Vot} (hx:votsR.V w (.slice a n c) xs):xs.length=n∧n≤c∧c≤maxLen∧∀k,k<n→∃b o,a=some ⟨b,o,none⟩∧w.cell? ⟨b,o+k*2,none⟩=some (.int .i64 (xs.getD k default).bal)∧w.cell? ⟨b,o+k*2+1,none⟩=some (.int .i64 (xs.getD k default).val):=by
 obtain⟨a',c',e,h1,h2,h3⟩:=hx;simp only[Value.slice.injEq] at e;obtain⟨rfl,rfl,rfl⟩:=e;exact⟨rfl,h1,h2,fun k hk=>h3 k hk⟩
theorem fMc {w:World} {a:Option Addr} {n c:Nat} {xs:List Int} (hx:intsR.V w (.slice a n c) xs):xs.length=n∧n≤c∧c≤maxLen∧∀k,k<n→∃b o,a=some ⟨b,o,none⟩∧w.cell? ⟨b,o+k,none⟩=some (.int .i64 (xs.getD k 0)):=by
 obtain⟨a',c',e,h1,h2,h3⟩:=hx;simp only[Value.slice.injEq] at e;obtain⟨rfl,rfl,rfl⟩:=e;exact⟨rfl,h1,h2,fun k hk=>h3 k hk⟩
theorem fMz (x:Value) (c:Clu) (t y:Trr) (item u' v':Value) (a:Option Addr) (k cc:Nat) (w:World) (hx:cluR.V w x c) (hi:trrR.V w item t) (hm:t.frm.length≤1048576) (hk:k≤9223372036854775807) (h:∀p,k=p+1→∃b o,a=some ⟨b,o,none⟩∧w.cell? ⟨b,o+p*6,none⟩=some (.int .i64 y.con)∧w.cell? ⟨b,o+p*6+1,none⟩=some (.int .i64 y.sh)∧w.cell? ⟨b,o+p*6+2,none⟩=some (.int .i64 y.bal)∧w.cell? ⟨b,o+p*6+3,none⟩=some (.int .i64 y.val)∧w.cell? ⟨b,o+p*6+4,none⟩=some (u')∧w.cell? ⟨b,o+p*6+5,none⟩=some (v')) :
  Calls Tryz.prog 154 #[x,.slice a k cc,item] w fun e w'=>e = .returned (.int .i64 (tryD c t (decide (k=0)||decide (cmpT y t<0))))∧Below w.heap.size w w':=by
 have HP:Hid (∀W,Below w.heap.size w W→Calls Tryz.prog 151 #[x,.int .i64 t.con,.int .i64 t.sh] W fun e w'=>e = .returned (.bool (hasL c t.con t.sh))∧Below W.heap.size W w'):=fun W hW=>vD x c _ _ W (cluR.below hx hW)
 obtain⟨u,v,rfl,hu,hv⟩:=hi;have HB:Hid (∀W,Below w.heap.size w W→Calls Tryz.prog 222 #[.agg #[.int .i64 t.con,.int .i64 t.sh,.int .i64 t.bal,.int .i64 t.val,u,v],.slice a k cc,.func (.func 223) #[] #[]] W fun e w'=>e = .returned (.bool (decide (k=0)||decide (cmpT y t<0)))∧Below W.heap.size W w'):=fun W hW=>fJ2 t y u v u' v' a k cc W hk (fun p hp=>by
  obtain⟨b,o,h0,h1,h2,h3,h4,h5,h6⟩:=h p hp;exact⟨b,o,h0,cK hW h1,cK hW h2,cK hW h3,cK hW h4,cK hW h5,cK hW h6⟩)
 clear h;have HIv:Hid (∀W,Below w.heap.size w W→qJ W u t.frm):=fun W hW=>intsR.below hu hW
 obtain⟨p,q,rfl⟩:=gT hu;obtain⟨p',q',rfl⟩:=pJ hv;obtain⟨_,hnu,hmu,HU⟩:=fMc hu;obtain⟨_,hnv,hmv,HW⟩:=fM2 hv;unfold maxLen at hmu hmv;have HU':Hid _:=HU;have HW':Hid _:=HW;clear HU HW hu hv;obtain⟨a0,a1,a2,a3,a4,c0,c1,c2,c3,c4,n0,n1,n2,n3,n4,rfl,e0,e1,e2,e3,e4,L0,L1,L2,L3,L4⟩:=gL hx;clear hx;have HD:Hid (tryD c t (decide (k=0)||decide (cmpT y t<0))=if hasL c t.con t.sh=true then (if inB t.bal 1 1000=true∧inB t.val 0 2=true then (if (decide (k=0)||decide (cmpT y t<0))=true∧t.olds.length=t.frm.length then orF (fC (kS n2 t) t.frm.length) (if dupB t.frm=true then 7 else 0) else 1) else 3) else 4):=by show _=_;unfold tryD;rw[e2]
 clear e0 e1 e2 e3 e4 L0 L1 L3 L4;have HDu:Hid ((Lib.compact (sortI t.frm)).length<t.frm.length↔dupB t.frm=true):=fJ6 t.frm;have HLe:Hid ((Lib.compact (sortI t.frm)).length≤1048576):=by show _≤_;have h1:=fNl (sortI t.frm);rw[fIw] at h1;omega
 have HSl:Hid ((sortI t.frm).length=t.frm.length):=fIw _;generalize tryD c t (decide (k=0)||decide (cmpT y t<0))=R at *;generalize (decide (k=0)||decide (cmpT y t<0))=bh at *;generalize hasL c t.con t.sh=hl at *;obtain⟨m,hm0⟩:∃m,m=t.frm.length:=⟨_,rfl⟩
 have HM:Hid (m=t.frm.length):=hm0;obtain⟨m',hm1⟩:∃m',m'=t.olds.length:=⟨_,rfl⟩
 rw[←hm0] at hnu HU' HD HDu HSl hm ⊢;rw[←hm1] at hnv HW' HD ⊢;rw[←hm0,←hm1] at HB;clear hm0 hm1;go_enter Tryz.func154,Tryz.ntmps154;go_wp2_with fail;refine(HP.out _ (qBq)).mono ?_;rintro e w1 ⟨rfl,hb1⟩;have hB1:Below w.heap.size w w1:=qBq;have y2:w1.cell? ⟨w.heap.size,2,none⟩=some (.slice a2 n2 c2):=cK hb1 (by simp[go_sem]);have t0:w1.cell? ⟨w.heap.size+1,0,none⟩=some (.int .i64 t.con):=cK hb1 (by simp[go_sem]);have t1:w1.cell? ⟨w.heap.size+1,1,none⟩=some (.int .i64 t.sh):=cK hb1 (by simp[go_sem]);have t2:w1.cell? ⟨w.heap.size+1,2,none⟩=some (.int .i64 t.bal):=cK hb1 (by simp[go_sem]);have t3:w1.cell? ⟨w.heap.size+1,3,none⟩=some (.int .i64 t.val):=cK hb1 (by simp[go_sem]);have t4:w1.cell? ⟨w.heap.size+1,4,none⟩=some (.slice p m q):=cK hb1 (by simp[go_sem]);have t5:w1.cell? ⟨w.heap.size+1,5,none⟩=some (.slice p' m' q'):=cK hb1 (by simp[go_sem]);have zt:w.heap.size+1<w1.heap.size:=wL w1 _ t0;clear hb1 HP;cases hl
 ·
  have HC:Hid (R=4):=by show _=_;rw[HD.out];rfl
  clear HD;go_wp2;go_ret;exact⟨by rw[HC.out];rfl,hB1⟩
 have HD2:Hid (R=if inB t.bal 1 1000=true∧inB t.val 0 2=true then (if bh=true∧m'=m then orF (fC (kS n2 t) m) (if dupB t.frm=true then 7 else 0) else 1) else 3):=by show _=_;rw[HD.out,if_pos rfl]
 clear HD;cases hb:inB t.bal 1 1000
 ·
  have HC:Hid (R=3):=by show _=_;rw[HD2.out,if_neg (fun h=>by rw[hb] at h;cases h.1)]
  clear HD2;go_wp2_with (first|(go_at_call 152;refine(fT _ _ _ _).mono ?_;rintro e w' ⟨rfl,hw⟩;obtain rfl:=hw.symm;rw[hb]));go_ret;exact⟨by rw[HC.out];rfl,hB1⟩
 cases hv:inB t.val 0 2
 ·
  have HC:Hid (R=3):=by show _=_;rw[HD2.out,if_neg (fun h=>by rw[hv] at h;cases h.2)]
  clear HD2;go_wp2_with (first|(go_at_call 152;refine(fT _ _ _ _).mono ?_;rintro e w' ⟨rfl,hw⟩;obtain rfl:=hw.symm;first|rw[hb]|rw[hv]));go_ret;exact⟨by rw[HC.out];rfl,hB1⟩
 have HD3:Hid (R=if bh=true∧m'=m then orF (fC (kS n2 t) m) (if dupB t.frm=true then 7 else 0) else 1):=by show _=_;rw[HD2.out,if_pos ⟨hb,hv⟩]
 clear HD2;go_wp2_with (first|(go_at_call 152;refine(fT _ _ _ _).mono ?_;rintro e w' ⟨rfl,hw⟩;obtain rfl:=hw.symm;first|rw[hb]|rw[hv]));refine(HB.out _ (qBq)).mono ?_;rintro e w2 ⟨rfl,hb2⟩;have hB2:Below w.heap.size w w2:=bS (qBq) hb2;replace y2:=cK hb2 (cK (qBq) y2);replace t0:=cK hb2 (cK (qBq) t0);replace t1:=cK hb2 (cK (qBq) t1);replace t2:=cK hb2 (cK (qBq) t2);replace t3:=cK hb2 (cK (qBq) t3);replace t4:=cK hb2 (cK (qBq) t4);replace t5:=cK hb2 (cK (qBq) t5);replace zt:w.heap.size+1<w2.heap.size:=wL w2 _ t0;clear hb2 HB hB1 hb hv;cases bh
 ·
  have HC:Hid (R=1):=by show _=_;rw[HD3.out,if_neg (fun h=>by cases h.1)]
  clear HD3;go_wp2;go_ret;exact⟨by rw[HC.out];rfl,hB2⟩
 by_cases hmm:m'=m
 rotate_left
 ·
  have HC:Hid (R=1):=by show _=_;rw[HD3.out,if_neg (fun h=>hmm h.2)]
  have hmm':((m':Int) !=(m:Int))=true:=by simp;omega
  clear HD3;go_wp2;go_ret;exact⟨by rw[HC.out];rfl,hB2⟩
 have HD4:Hid (R=orF (fC (kS n2 t) m) (if dupB t.frm=true then 7 else 0)):=by show _=_;rw[HD3.out,if_pos ⟨rfl,hmm⟩]
 clear HD3;subst hmm;have H1:Hid (∀i,i<m'→fC (kS n2 t) i=0→¬kS n2 t i=0→R=kS n2 t i):=fun i hi hs h0=>by
  have e:=fH hs h0 m' hi;show _=_;rw[HD4.out,e,xG h0]
 have H2:Hid (fC (kS n2 t) m'=0→R=if dupB t.frm=true then 7 else 0):=fun h=>by show _=_;rw[HD4.out,vI h]
 clear HD4;go_wp2;go_loopw [42] (fun i w'=>∃k:Nat,k≤m'∧i = .int .i64 k∧Hid (fC (kS n2 t) k=0)∧Below w2.heap.size w2 w') (fun i _=>m'-(intOf i).toNat)
 case atStart=>exact⟨0,Nat.zero_le _,rfl,rfl,Below.refl _ _⟩
 obtain⟨i,hi,rfl,HS,hbl⟩:=hrel;have hblw:=bS hB2 hbl;replace y2:=cK hbl y2;replace t0:=cK hbl t0;replace t1:=cK hbl t1;replace t2:=cK hbl t2;replace t3:=cK hbl t3;replace t4:=cK hbl t4;replace t5:=cK hbl t5;replace zt:w.heap.size+1<wr.heap.size:=wL wr _ t0;by_cases hlt:i<m'
 ·
  obtain⟨b,o,rfl,g0⟩:=HU'.out i hlt;obtain⟨b',o',rfl,k0,k1⟩:=HW'.out i hlt;have HD5:Hid (kS n2 t i=if inB (t.frm.getD i 0) 0 ((n2:Int)-1)=true∧oldB (t.olds.getD i default).bal (t.olds.getD i default).val=true then 0 else 3):=rfl;have HH:Hid (¬kS n2 t i=0→R=kS n2 t i):=fun h=>H1.out i hlt HS.out h
  have HZ:Hid (kS n2 t i=0→fC (kS n2 t) (i+1)=0):=fun h=>fD HS.out h
  replace g0:=cK hblw g0;replace k0:=cK hblw k0;replace k1:=cK hblw k1;generalize kS n2 t i=z at *;generalize t.frm.getD i 0=fr at *;generalize (t.olds.getD i default).bal=ob at *;generalize (t.olds.getD i default).val=ov at *;have zb:b<wr.heap.size:=wL wr _ g0;have zb':b'<wr.heap.size:=wL wr _ k0;have hti:(i:Int)<(m':Int):=by omega
  have hi0:(0:Int)≤(i:Int):=by omega
  cases hp:inB fr 0 ((n2:Int)-1)
  ·
   have hz:z=3:=by rw[HD5.out,if_neg (fun h=>by rw[hp] at h;cases h.1)]
   have HC:Hid (R=3):=by show _=_;rw[←hz];exact HH.out (by rw[hz];omega)
   clear HH HZ HD5 hz;go_wp2_with (first|(go_at_call 224;refine(qH _ _ _ _ _ L2).mono ?_;rintro e w' ⟨rfl,hw⟩;obtain rfl:=hw.symm;rw[hp]));go_ret;exact⟨by rw[HC.out];rfl,qBq⟩
  go_wp2_with (first|(go_at_call 224;refine(qH _ _ _ _ _ L2).mono ?_;rintro e w' ⟨rfl,hw⟩;obtain rfl:=hw.symm;rw[hp]))
  refine(fH1 _ _ _).mono ?_;rintro e w3 ⟨rfl,hb3⟩;have hB3:Below w2.heap.size w2 w3:=bS (qBq) hb3;clear hb3;cases ho:oldB ob ov
  ·
   have hz:z=3:=by rw[HD5.out,if_neg (fun h=>by rw[ho] at h;cases h.2)]
   have HC:Hid (R=3):=by show _=_;rw[←hz];exact HH.out (by rw[hz];omega)
   have hB4:=bS hB2 hB3;clear HH HZ HD5 hz;go_wp2;go_ret;exact⟨by rw[HC.out];rfl,hB4⟩
  have hz:z=0:=by rw[HD5.out,if_pos ⟨hp,ho⟩]
  have HQ:Hid _:=HZ.out hz;clear HH HZ HD5 hz;go_wp2;exact⟨⟨i+1,by omega,by go_num,HQ,hB3⟩,by simp[intOf];omega⟩
 obtain rfl:i=m':=by omega
 have hti:¬(i:Int)<(i:Int):=by omega
 have HR:Hid (R=if dupB t.frm=true then 7 else 0):=H2.out HS.out;have HI2:Hid (∀W,Below wr.heap.size wr W→qJ W (.slice p i q) t.frm):=fun W hW=>by
  have:=HIv.out W (bS hblw hW);rw[←HM.out] at this;exact this
 clear H1 H2 HU' HW' HIv;go_wp2;refine wp_region_noPanic ?_;refine fA (fun W=>W.cell? ⟨w.heap.size+1,0,none⟩=some (.int .i64 t.con)∧W.cell? ⟨w.heap.size+1,1,none⟩=some (.int .i64 t.sh)∧W.cell? ⟨w.heap.size+1,2,none⟩=some (.int .i64 t.bal)∧W.cell? ⟨w.heap.size+1,3,none⟩=some (.int .i64 t.val)∧W.cell? ⟨w.heap.size+1,4,none⟩=some (.slice p i q)∧W.cell? ⟨w.heap.size+1,5,none⟩=some (.slice p' i q')) 10 (by kernel_rfl) ⟨cK (qBq) t0,cK (qBq) t1,cK (qBq) t2,cK (qBq) t3,cK (qBq) t4,cK (qBq) t5⟩ (fun hS=>?_);refine tM 0 rfl hS ?_;try simp only[jX]
 refine tM 1 rfl hS ?_;try simp only[jX]
 refine tM 6 rfl hS ?_;try simp only[jX]
 refine tM 7 rfl hS ?_;try simp only[jX]
 refine tM 8 rfl hS ?_;try simp only[jX]
 refine uS 2 rfl (fun K hK=>?_);go_simp;refine(fDg _ _ _ _).mono ?_;rintro e w3 ⟨rfl,hw3⟩;have hcv:w3.cell? ⟨wr.drew.heap.size,0,none⟩=some (.slice p i q):=by rw[hw3];simp[go_sem]
 have hb3:Below wr.drew.heap.size wr.drew w3:=by rw[hw3];(repeat (first|exact bR _ _|assumption|refine bD ?_|refine bA ?_ _|refine bset ?_ (by simp;omega) _|refine bset ?_ (by simp) _|refine bS ?_ (by assumption)))
 clear hw3;have hB3:Below wr.heap.size wr w3:=bS (qBq) hb3;have hS3:=And.intro (cK hb3 hS.1) (And.intro (cK hb3 hS.2.1) (And.intro (cK hb3 hS.2.2.1) (And.intro (cK hb3 hS.2.2.2.1) (And.intro (cK hb3 hS.2.2.2.2.1) (cK hb3 hS.2.2.2.2.2)))));clear hb3;refine hK _ _ (fun _=>hS3) ?_;clear hK K;try simp only[jX]
 refine uS 3 rfl (fun K hK=>?_);go_simp;refine(fC7 p i q t.frm w3 (HI2.out w3 hB3) _ (by simpa using hcv) (by rw[←HM.out];exact hm)).mono ?_;rintro e w4 ⟨v4,rfl,ho4,hb4⟩;have hB4:Below wr.heap.size wr w4:=bS hB3 hb4;have hS4:=And.intro (cK hb4 hS3.1) (And.intro (cK hb4 hS3.2.1) (And.intro (cK hb4 hS3.2.2.1) (And.intro (cK hb4 hS3.2.2.2.1) (And.intro (cK hb4 hS3.2.2.2.2.1) (cK hb4 hS3.2.2.2.2.2)))));have hz4:=hb4.size;clear hb4;refine hK _ _ (fun _=>hS4) ?_;clear hK K;try simp only[jX]
 refine uS 4 rfl (fun K hK=>?_);go_simp;refine(fHa v4 (sortI t.frm) w4 w3.heap.size ho4 hz4 (by rw[HSl.out];exact hm)).mono ?_;rintro e w5 ⟨⟨a5,c5,rfl⟩,hb5⟩;have hB5:Below wr.heap.size wr w5:=hB4.trans (hb5.mono hB3.size);have hS5:(fun W=>W.cell? ⟨w.heap.size+1,0,none⟩=some (.int .i64 t.con)∧W.cell? ⟨w.heap.size+1,1,none⟩=some (.int .i64 t.sh)∧W.cell? ⟨w.heap.size+1,2,none⟩=some (.int .i64 t.bal)∧W.cell? ⟨w.heap.size+1,3,none⟩=some (.int .i64 t.val)∧W.cell? ⟨w.heap.size+1,4,none⟩=some (.slice p i q)∧W.cell? ⟨w.heap.size+1,5,none⟩=some (.slice p' i q')) w5:=⟨(cK hB5 t0),(cK hB5 t1),(cK hB5 t2),(cK hB5 t3),(cK hB5 t4),(cK hB5 t5)⟩;clear hb5 ho4 hz4;refine hK _ _ (fun _=>hS5) ?_;clear hK K;try simp only[jX]
 have hBw:=bS hblw hB5;have hle:=HLe.out;have HDu':Hid ((Lib.compact (sortI t.frm)).length<i↔dupB t.frm=true):=HDu.out;clear HDu HLe HSl;generalize (Lib.compact (sortI t.frm)).length=d at *;by_cases hd:d<i
 ·
  have HC:Hid (R=7):=by show _=_;rw[HR.out,if_pos (HDu'.out.1 hd)]
  have hd':(d:Int)<(i:Int):=by omega
  refine tM 5 rfl hS5 ?_;try simp only[jX]
  refine tM 9 (v:=(.bool true)) rfl hS5 ?_;try simp only[jX]
  refine dN (NoPanic.normal ?_);go_wp2;go_ret;exact⟨by rw[HC.out];rfl,hBw⟩
 have HC:Hid (R=0):=by show _=_;rw[HR.out,if_neg (fun h=>hd (HDu'.out.2 h))]
 have hd':¬(d:Int)<(i:Int):=by omega
 refine tM 5 rfl hS5 ?_;try simp only[jX]
 refine tM 9 (v:=(.bool false)) rfl hS5 ?_;try simp only[jX]
 refine dN (NoPanic.normal ?_);go_wp2;go_ret;exact⟨by rw[HC.out];rfl,hBw⟩
theorem fPi (x:Value) (c:Clu) (w:World) (hx:cluR.V w x c)
  (hneed:∀k,k<c.ldrs.length→∀i,i<(c.ldrs.getD k default).tries.length→((c.ldrs.getD k default).tries.getD i default).frm.length≤1048576) :
  Calls Tryz.prog 81 #[x] w fun e w'=>e = .returned (.int .i64 (fEc c))∧Below w.heap.size w w':=by
 have HV:Hid (∀W,Below w.heap.size w W→cluR.V W x c):=fun W hW=>cluR.below hx hW
 have hx':=hx;obtain⟨a0,a1,a2,a3,a4,c0,c1,c2,c3,c4,n0,n1,n2,n3,n4,rfl,e0,e1,e2,e3,e4,L0,L1,L2,L3,L4⟩:=gL hx;obtain⟨u1,u2,u3,u4,u5,eq,h1,h2,h3,h4,h5⟩:=hx';simp only[Value.agg.injEq,Array.mk.injEq,List.cons.injEq,and_true] at eq;obtain⟨rfl,rfl,rfl,rfl,rfl⟩:=eq;obtain⟨_,hnc,hmc,HA⟩:=fFu h4;unfold maxLen at hmc;have HX:Hid _:=HA;clear HA h1 h2 h3 h4 h5 hx;have H1:Hid (∀k,k<n3→fC (fun k=>qD c (c.ldrs.getD k default)) k=0→¬qD c (c.ldrs.getD k default)=0→fEc c=qD c (c.ldrs.getD k default)):=fun k hk hs h0=>by unfold fEc;exact fH (f:=fun k=>qD c (c.ldrs.getD k default)) hs h0 _ (by rw[e3];exact hk)
 have H2:Hid (fC (fun k=>qD c (c.ldrs.getD k default)) n3=0→fEc c=0):=fun h=>by unfold fEc;rw[e3];exact h
 have HN:Hid _:=hneed;clear hneed;rw[e3] at HN;clear e0 e1 e2 e3 e4 L0 L1 L2 L4;generalize fEc c=R at *;go_enter Tryz.func81,Tryz.ntmps81;go_wp2;go_loopw [9] (fun i w'=>∃k:Nat,k≤n3∧i = .int .i64 k∧Hid (fC (fun k=>qD c (c.ldrs.getD k default)) k=0)∧(w'.cell? ⟨w.heap.size,0,none⟩=some (.slice a0 n0 c0)∧w'.cell? ⟨w.heap.size,1,none⟩=some (.slice a1 n1 c1)∧w'.cell? ⟨w.heap.size,2,none⟩=some (.slice a2 n2 c2)∧w'.cell? ⟨w.heap.size,3,none⟩=some (.slice a3 n3 c3)∧w'.cell? ⟨w.heap.size,4,none⟩=some (.slice a4 n4 c4))∧Below w.heap.size w w') (fun i _=>n3-(intOf i).toNat)
 case atStart=>exact⟨0,Nat.zero_le _,rfl,rfl,⟨by simp[go_sem],by simp[go_sem],by simp[go_sem],by simp[go_sem],by simp[go_sem]⟩,qBq⟩
 obtain⟨k,hk,rfl,HS,⟨y0,y1,y2,y3,y4⟩,hbl⟩:=hrel;have zq:w.heap.size<wr.heap.size:=wL wr _ y0;by_cases hlt:k<n3
 ·
  have HA:=HX.out k hlt;have HNk:=HN.out k hlt;have HH:Hid (¬qD c (c.ldrs.getD k default)=0→R=qD c (c.ldrs.getD k default)):=fun h=>H1.out k hlt HS.out h
  have HZ:Hid (qD c (c.ldrs.getD k default)=0→fC (fun k=>qD c (c.ldrs.getD k default)) (k+1)=0):=fun h=>fD (f:=fun k=>qD c (c.ldrs.getD k default)) HS.out h
  obtain⟨l,hl0⟩:∃l,l=c.ldrs.getD k default:=⟨_,rfl⟩
  rw[←hl0] at HA HH HZ HNk;clear hl0;obtain⟨b,o,p,q,p',q',rfl,g0,g1,g2,ht,hh⟩:=HA;have HF:Hid (∀W,Below w.heap.size w W→Calls Tryz.prog 153 #[.agg #[.slice a0 n0 c0,.slice a1 n1 c1,.slice a2 n2 c2,.slice (some ⟨b,o,none⟩) n3 c3,.slice a4 n4 c4],.slice p l.tries.length q,.func (.func 154) #[] #[]] W fun e w'=>e = .returned (.int .i64 (qD c l))∧Below W.heap.size W w'):=fun W hW=>by
   have HX2:Hid _:=(fDd ht).2.2.2;have hmx:=(fDd ht).2.2.1;have hnx:=(fDd ht).2.1;unfold maxLen at hmx;exact fNz _ c 154 (xI c l.tries) p _ q l.tries W (HV.out W hW) (enters_of Tryz.func154 (by kernel_rfl) rfl) (trysR.below ht hW) rfl (fun k hk W' item hW' hi=>by
    rw[fMy];by_cases hk0:k=0
    ·
     exact fMz _ c _ _ item (.int .i64 0) (.int .i64 0) p k q W' (HV.out W' (bS hW hW')) hi (HNk k hk) (by omega) (fun p hp=>by omega)
    obtain⟨b,o,_,_,_,_,ha,k0,k1,k2,k3,k4,k5,_,_⟩:=HX2.out (k-1) (by omega);exact fMz _ c _ _ item _ _ p k q W' (HV.out W' (bS hW hW')) hi (HNk k hk) (by omega) (fun p hp=>⟨b,o,ha,cK (bS hW hW') (by rw[show p=k-1 by omega];exact k0),cK (bS hW hW') (by rw[show p=k-1 by omega];exact k1),cK (bS hW hW') (by rw[show p=k-1 by omega];exact k2),cK (bS hW hW') (by rw[show p=k-1 by omega];exact k3),cK (bS hW hW') (by rw[show p=k-1 by omega];exact k4),cK (bS hW hW') (by rw[show p=k-1 by omega];exact k5)⟩))
  clear ht hh;replace g0:=cK hbl g0;replace g1:=cK hbl g1;replace g2:=cK hbl g2;have zb:b<wr.heap.size:=wL wr _ g0;have hti:(k:Int)<(n3:Int):=by omega
  generalize qD c l=z at *;generalize l.count=ct at *;generalize l.tries.length=mt at *;generalize l.known.length=mk at *;go_wp2_with fail;refine(HF.out _ (qBq)).mono ?_;rintro e w1 ⟨rfl,hb1⟩;have hB1:Below w.heap.size w w1:=bS (qBq) hb1;have Y1:=And.intro (cK hb1 (cK (qBq) y0)) (And.intro (cK hb1 (cK (qBq) y1)) (And.intro (cK hb1 (cK (qBq) y2)) (And.intro (cK hb1 (cK (qBq) y3)) (cK hb1 (cK (qBq) y4)))));clear hb1 HF g0 g1 g2;by_cases hz:z=0
  ·
   have HQ:Hid _:=HZ.out hz;subst hz;clear HH HZ;go_wp2;exact⟨⟨k+1,by omega,by go_num,HQ,Y1,hB1⟩,by simp[intOf];omega⟩
  have HC:Hid _:=HH.out hz;have hz':(z !=0)=true:=by simp[hz]
  clear HH HZ;go_wp2;go_ret;exact⟨by rw[HC.out];rfl,hB1⟩
 obtain rfl:k=n3:=by omega
 have hti:¬(k:Int)<(k:Int):=by omega
 have HC:Hid (R=0):=H2.out HS.out;go_wp2;go_ret;exact⟨by rw[HC.out];rfl,hbl⟩
theorem fMi {w:World} {a:Option Addr} {n c:Nat} {xs:List Msg} (hx:msgsR.V w (.slice a n c) xs):xs.length=n∧n≤c∧c≤maxLen∧∀k,k<n→∃b o,a=some ⟨b,o,none⟩∧w.cell? ⟨b,o+k*9,none⟩=some (.int .i64 (xs.getD k default).kind)∧w.cell? ⟨b,o+k*9+1,none⟩=some (.int .i64 (xs.getD k default).to)∧w.cell? ⟨b,o+k*9+2,none⟩=some (.int .i64 (xs.getD k default).frm)∧w.cell? ⟨b,o+k*9+3,none⟩=some (.int .i64 (xs.getD k default).con)∧w.cell? ⟨b,o+k*9+4,none⟩=some (.int .i64 (xs.getD k default).sh)∧w.cell? ⟨b,o+k*9+5,none⟩=some (.int .i64 (xs.getD k default).bal)∧w.cell? ⟨b,o+k*9+6,none⟩=some (.int .i64 (xs.getD k default).val)∧w.cell? ⟨b,o+k*9+7,none⟩=some (.int .i64 (xs.getD k default).ob)∧w.cell? ⟨b,o+k*9+8,none⟩=some (.int .i64 (xs.getD k default).ov):=by
 obtain⟨a',c',e,h1,h2,h3⟩:=hx;simp only[Value.slice.injEq] at e;obtain⟨rfl,rfl,rfl⟩:=e;exact⟨rfl,h1,h2,fun k hk=>h3 k hk⟩
theorem fFx (x:Value) (c:Clu) (w:World) (hx:cluR.V w x c) :
  Calls Tryz.prog 83 #[x] w fun e w'=>e = .returned (.int .i64 (yU c))∧Below w.heap.size w w':=by
 have HV:Hid (∀W,Below w.heap.size w W→cluR.V W x c):=fun W hW=>cluR.below hx hW
 have hx':=hx;obtain⟨a0,a1,a2,a3,a4,c0,c1,c2,c3,c4,n0,n1,n2,n3,n4,rfl,e0,e1,e2,e3,e4,L0,L1,L2,L3,L4⟩:=gL hx;obtain⟨u1,u2,u3,u4,u5,eq,h1,h2,h3,h4,h5⟩:=hx';simp only[Value.agg.injEq,Array.mk.injEq,List.cons.injEq,and_true] at eq;obtain⟨rfl,rfl,rfl,rfl,rfl⟩:=eq;obtain⟨_,hnc,hmc,HA⟩:=fMi h5;unfold maxLen at hmc;have HX:Hid _:=HA;clear HA h1 h2 h3 h4 h5 hx;have H1:Hid (∀k,k<n4→fC (fun k=>msgF c (c.msgs.getD k default)) k=0→¬msgF c (c.msgs.getD k default)=0→yU c=msgF c (c.msgs.getD k default)):=fun k hk hs h0=>by unfold yU;exact fH (f:=fun k=>msgF c (c.msgs.getD k default)) hs h0 _ (by rw[e4];exact hk)
 have H2:Hid (fC (fun k=>msgF c (c.msgs.getD k default)) n4=0→yU c=0):=fun h=>by unfold yU;rw[e4];exact h
 clear e0 e1 e2 e3 e4 L0 L1 L2 L3;generalize yU c=R at *;go_enter Tryz.func83,Tryz.ntmps83;go_wp2;go_loopw [9] (fun i w'=>∃k:Nat,k≤n4∧i = .int .i64 k∧Hid (fC (fun k=>msgF c (c.msgs.getD k default)) k=0)∧(w'.cell? ⟨w.heap.size,0,none⟩=some (.slice a0 n0 c0)∧w'.cell? ⟨w.heap.size,1,none⟩=some (.slice a1 n1 c1)∧w'.cell? ⟨w.heap.size,2,none⟩=some (.slice a2 n2 c2)∧w'.cell? ⟨w.heap.size,3,none⟩=some (.slice a3 n3 c3)∧w'.cell? ⟨w.heap.size,4,none⟩=some (.slice a4 n4 c4))∧Below w.heap.size w w') (fun i _=>n4-(intOf i).toNat)
 case atStart=>exact⟨0,Nat.zero_le _,rfl,rfl,⟨by simp[go_sem],by simp[go_sem],by simp[go_sem],by simp[go_sem],by simp[go_sem]⟩,qBq⟩
 obtain⟨k,hk,rfl,HS,⟨y0,y1,y2,y3,y4⟩,hbl⟩:=hrel;have zq:w.heap.size<wr.heap.size:=wL wr _ y0;by_cases hlt:k<n4
 ·
  have HA:=HX.out k hlt;have HH:Hid (¬msgF c (c.msgs.getD k default)=0→R=msgF c (c.msgs.getD k default)):=fun h=>H1.out k hlt HS.out h
  have HZ:Hid (msgF c (c.msgs.getD k default)=0→fC (fun k=>msgF c (c.msgs.getD k default)) (k+1)=0):=fun h=>fD (f:=fun k=>msgF c (c.msgs.getD k default)) HS.out h
  obtain⟨m,hm0⟩:∃m,m=c.msgs.getD k default:=⟨_,rfl⟩
  rw[←hm0] at HA HH HZ;clear hm0;obtain⟨b,o,rfl,g0,g1,g2,g3,g4,g5,g6,g7,g8⟩:=HA;have HF:Hid (∀W,Below w.heap.size w W→Calls Tryz.prog 157 #[.agg #[.slice a0 n0 c0,.slice a1 n1 c1,.slice a2 n2 c2,.slice a3 n3 c3,.slice (some ⟨b,o,none⟩) n4 c4],.agg #[.int .i64 m.kind,.int .i64 m.to,.int .i64 m.frm,.int .i64 m.con,.int .i64 m.sh,.int .i64 m.bal,.int .i64 m.val,.int .i64 m.ob,.int .i64 m.ov]] W fun e w'=>e = .returned (.int .i64 (msgF c m))∧Below W.heap.size W w'):=fun W hW=>fKk _ c m W (HV.out W hW)
  replace g0:=cK hbl g0;replace g1:=cK hbl g1;replace g2:=cK hbl g2;replace g3:=cK hbl g3;replace g4:=cK hbl g4;replace g5:=cK hbl g5;replace g6:=cK hbl g6;replace g7:=cK hbl g7;replace g8:=cK hbl g8;have zb:b<wr.heap.size:=wL wr _ g0;have hti:(k:Int)<(n4:Int):=by omega
  generalize msgF c m=z at *;obtain⟨m0,m1,m2,m3,m4,m5,m6,m7,m8⟩:=m;dsimp only at HF g0 g1 g2 g3 g4 g5 g6 g7 g8;go_wp2_with fail;refine(HF.out _ (qBq)).mono ?_;rintro e w1 ⟨rfl,hb1⟩;have hB1:Below w.heap.size w w1:=bS (qBq) hb1;have Y1:=And.intro (cK hb1 (cK (qBq) y0)) (And.intro (cK hb1 (cK (qBq) y1)) (And.intro (cK hb1 (cK (qBq) y2)) (And.intro (cK hb1 (cK (qBq) y3)) (cK hb1 (cK (qBq) y4)))));clear hb1 HF g0 g1 g2 g3 g4 g5 g6 g7 g8;by_cases hz:z=0
  ·
   have HQ:Hid _:=HZ.out hz;subst hz;clear HH HZ;go_wp2;exact⟨⟨k+1,by omega,by go_num,HQ,Y1,hB1⟩,by simp[intOf];omega⟩
  have HC:Hid _:=HH.out hz;have hz':(z !=0)=true:=by simp[hz]
  clear HH HZ;go_wp2;go_ret;exact⟨by rw[HC.out];rfl,hB1⟩
 obtain rfl:k=n4:=by omega
 have hti:¬(k:Int)<(k:Int):=by omega
 have HC:Hid (R=0):=H2.out HS.out;go_wp2;go_ret;exact⟨by rw[HC.out];rfl,hbl⟩
theorem zkeep {w W:World} {B:Nat} (h:Below w.heap.size w W) (z:w.cell? ⟨B,0,none⟩=some (.func (.func 76) #[] #[])∧w.cell? ⟨B,1,none⟩=some (.func (.func 77) #[] #[])∧w.cell? ⟨B,2,none⟩=some (.func (.func 78) #[] #[])∧w.cell? ⟨B,3,none⟩=some (.func (.func 79) #[] #[])∧w.cell? ⟨B,4,none⟩=some (.func (.func 80) #[] #[])∧w.cell? ⟨B,5,none⟩=some (.func (.func 81) #[] #[])∧w.cell? ⟨B,6,none⟩=some (.func (.func 82) #[] #[])∧w.cell? ⟨B,7,none⟩=some (.func (.func 83) #[] #[])):W.cell? ⟨B,0,none⟩=some (.func (.func 76) #[] #[])∧W.cell? ⟨B,1,none⟩=some (.func (.func 77) #[] #[])∧W.cell? ⟨B,2,none⟩=some (.func (.func 78) #[] #[])∧W.cell? ⟨B,3,none⟩=some (.func (.func 79) #[] #[])∧W.cell? ⟨B,4,none⟩=some (.func (.func 80) #[] #[])∧W.cell? ⟨B,5,none⟩=some (.func (.func 81) #[] #[])∧W.cell? ⟨B,6,none⟩=some (.func (.func 82) #[] #[])∧W.cell? ⟨B,7,none⟩=some (.func (.func 83) #[] #[]):=⟨cK h z.1,cK h z.2.1,cK h z.2.2.1,cK h z.2.2.2.1,cK h z.2.2.2.2.1,cK h z.2.2.2.2.2.1,cK h z.2.2.2.2.2.2.1,cK h z.2.2.2.2.2.2.2⟩
theorem fA7 (x:Value) (c:Clu) (w:World) (hx:cluR.V w x c) (hneed:∀k,k<c.ldrs.length→∀i,i<(c.ldrs.getD k default).tries.length→((c.ldrs.getD k default).tries.getD i default).frm.length≤1048576) :
  Calls Tryz.prog 32 #[x] w fun e w'=>e = .returned (.int .i64 (cluF c))∧Below w.heap.size w w':=by
 have HV:∀W,Below w.heap.size w W→cluR.V W x c:=fun W hW=>cluR.below hx hW
 have HF0:Hid (∀W,Below w.heap.size w W→Calls Tryz.prog 76 #[x] W fun e w'=>e = .returned (.int .i64 (kJ c 0))∧Below W.heap.size W w'):=fun W hW=>fQ7 x c W (HV W hW)
 have eg0:=enters_of Tryz.func76 (by kernel_rfl) rfl;have HF1:Hid (∀W,Below w.heap.size w W→Calls Tryz.prog 77 #[x] W fun e w'=>e = .returned (.int .i64 (kJ c 1))∧Below W.heap.size W w'):=fun W hW=>fDs x c W (HV W hW)
 have eg1:=enters_of Tryz.func77 (by kernel_rfl) rfl;have HF2:Hid (∀W,Below w.heap.size w W→Calls Tryz.prog 78 #[x] W fun e w'=>e = .returned (.int .i64 (kJ c 2))∧Below W.heap.size W w'):=fun W hW=>fK9 x c W (HV W hW)
 have eg2:=enters_of Tryz.func78 (by kernel_rfl) rfl;have HF3:Hid (∀W,Below w.heap.size w W→Calls Tryz.prog 79 #[x] W fun e w'=>e = .returned (.int .i64 (kJ c 3))∧Below W.heap.size W w'):=fun W hW=>fO1 x c W (HV W hW)
 have eg3:=enters_of Tryz.func79 (by kernel_rfl) rfl;have HF4:Hid (∀W,Below w.heap.size w W→Calls Tryz.prog 80 #[x] W fun e w'=>e = .returned (.int .i64 (kJ c 4))∧Below W.heap.size W w'):=fun W hW=>fH9 x c W (HV W hW)
 have eg4:=enters_of Tryz.func80 (by kernel_rfl) rfl;have HF5:Hid (∀W,Below w.heap.size w W→Calls Tryz.prog 81 #[x] W fun e w'=>e = .returned (.int .i64 (kJ c 5))∧Below W.heap.size W w'):=fun W hW=>fPi x c W (HV W hW) hneed
 have eg5:=enters_of Tryz.func81 (by kernel_rfl) rfl;have HF6:Hid (∀W,Below w.heap.size w W→Calls Tryz.prog 82 #[x] W fun e w'=>e = .returned (.int .i64 (kJ c 6))∧Below W.heap.size W w'):=fun W hW=>fOd x c W (HV W hW)
 have eg6:=enters_of Tryz.func82 (by kernel_rfl) rfl;have HF7:Hid (∀W,Below w.heap.size w W→Calls Tryz.prog 83 #[x] W fun e w'=>e = .returned (.int .i64 (kJ c 7))∧Below W.heap.size W w'):=fun W hW=>fFx x c W (HV W hW)
 have eg7:=enters_of Tryz.func83 (by kernel_rfl) rfl;clear HV hneed;obtain⟨a0,a1,a2,a3,a4,c0,c1,c2,c3,c4,n0,n1,n2,n3,n4,rfl,e0,e1,e2,e3,e4,L0,L1,L2,L3,L4⟩:=gL hx;clear hx e0 e1 e2 e3 e4 L0 L1 L2 L3 L4;have H1:Hid (∀k,k<8→fC (kJ c) k=0→¬kJ c k=0→cluF c=kJ c k):=fun k hk hs h0=>fH hs h0 8 hk
 have H2:Hid (fC (kJ c) 8=0→cluF c=0):=fun h=>h
 generalize cluF c=R at *;go_enter Tryz.func32,Tryz.ntmps32;go_wp2;go_loopw [10] (fun i w'=>∃k:Nat,k≤8∧i = .int .i64 k∧Hid (fC (kJ c) k=0)∧(w'.cell? ⟨w.heap.size,0,none⟩=some (.slice a0 n0 c0)∧w'.cell? ⟨w.heap.size,1,none⟩=some (.slice a1 n1 c1)∧w'.cell? ⟨w.heap.size,2,none⟩=some (.slice a2 n2 c2)∧w'.cell? ⟨w.heap.size,3,none⟩=some (.slice a3 n3 c3)∧w'.cell? ⟨w.heap.size,4,none⟩=some (.slice a4 n4 c4))∧(w'.cell? ⟨w.heap.size+1,0,none⟩=some (.func (.func 76) #[] #[])∧w'.cell? ⟨w.heap.size+1,1,none⟩=some (.func (.func 77) #[] #[])∧w'.cell? ⟨w.heap.size+1,2,none⟩=some (.func (.func 78) #[] #[])∧w'.cell? ⟨w.heap.size+1,3,none⟩=some (.func (.func 79) #[] #[])∧w'.cell? ⟨w.heap.size+1,4,none⟩=some (.func (.func 80) #[] #[])∧w'.cell? ⟨w.heap.size+1,5,none⟩=some (.func (.func 81) #[] #[])∧w'.cell? ⟨w.heap.size+1,6,none⟩=some (.func (.func 82) #[] #[])∧w'.cell? ⟨w.heap.size+1,7,none⟩=some (.func (.func 83) #[] #[]))∧Below w.heap.size w w') (fun i _=>8-(intOf i).toNat)
 case atStart=>exact⟨0,Nat.zero_le _,rfl,rfl,⟨by simp[go_sem],by simp[go_sem],by simp[go_sem],by simp[go_sem],by simp[go_sem]⟩,⟨by simp[go_sem],by simp[go_sem],by simp[go_sem],by simp[go_sem],by simp[go_sem],by simp[go_sem],by simp[go_sem],by simp[go_sem]⟩,qBq⟩
 obtain⟨k,hk,rfl,HS,Y,Z,hbl⟩:=hrel;have zq:w.heap.size<wr.heap.size:=wL wr _ Y.1;obtain rfl|rfl|rfl|rfl|rfl|rfl|rfl|rfl|rfl:k=0∨k=1∨k=2∨k=3∨k=4∨k=5∨k=6∨k=7∨k=8:=by omega
 ·
  have HH:Hid (¬kJ c 0=0→R=kJ c 0):=fun h=>H1.out 0 (by omega) HS.out h
  have HZ:Hid (kJ c 0=0→fC (kJ c) 1=0):=fun h=>fD HS.out h
  have HC:Hid _:=HF0.out;clear H1 H2 HS HF0 HF1 HF2 HF3 HF4 HF5 HF6 HF7 eg1 eg2 eg3 eg4 eg5 eg6 eg7;obtain⟨y0,y1,y2,y3,y4⟩:=Y;have z0:=Z.1;generalize kJ c 0=z at *;go_wp2_with fail;refine(HC.out _ (qBq)).mono ?_;rintro e w1 ⟨rfl,hb1⟩;have hB1:Below w.heap.size w w1:=bS (qBq) hb1;have Y1:=ykeep hb1 (ykeep (qBq) (And.intro y0 (And.intro y1 (And.intro y2 (And.intro y3 y4)))));have Z1:=zkeep hb1 (zkeep (qBq) Z);clear hb1 HC Z;by_cases hz:z=0
  ·
   have HQ:Hid _:=HZ.out hz;subst hz;clear HH HZ;go_wp2;exact⟨⟨1,by omega,by first|rfl|go_num,HQ,Y1,Z1,hB1⟩,by simp[intOf]⟩
  have HR:Hid _:=HH.out hz;have hz':(z !=0)=true:=by simp[hz]
  clear HH HZ;go_wp2;go_ret;exact⟨by rw[HR.out];rfl,hB1⟩
 ·
  have HH:Hid (¬kJ c 1=0→R=kJ c 1):=fun h=>H1.out 1 (by omega) HS.out h
  have HZ:Hid (kJ c 1=0→fC (kJ c) 2=0):=fun h=>fD HS.out h
  have HC:Hid _:=HF1.out;clear H1 H2 HS HF0 HF1 HF2 HF3 HF4 HF5 HF6 HF7 eg0 eg2 eg3 eg4 eg5 eg6 eg7;obtain⟨y0,y1,y2,y3,y4⟩:=Y;have z1:=Z.2.1;generalize kJ c 1=z at *;go_wp2_with fail;refine(HC.out _ (qBq)).mono ?_;rintro e w1 ⟨rfl,hb1⟩;have hB1:Below w.heap.size w w1:=bS (qBq) hb1;have Y1:=ykeep hb1 (ykeep (qBq) (And.intro y0 (And.intro y1 (And.intro y2 (And.intro y3 y4)))));have Z1:=zkeep hb1 (zkeep (qBq) Z);clear hb1 HC Z;by_cases hz:z=0
  ·
   have HQ:Hid _:=HZ.out hz;subst hz;clear HH HZ;go_wp2;exact⟨⟨2,by omega,by first|rfl|go_num,HQ,Y1,Z1,hB1⟩,by simp[intOf]⟩
  have HR:Hid _:=HH.out hz;have hz':(z !=0)=true:=by simp[hz]
  clear HH HZ;go_wp2;go_ret;exact⟨by rw[HR.out];rfl,hB1⟩
 ·
  have HH:Hid (¬kJ c 2=0→R=kJ c 2):=fun h=>H1.out 2 (by omega) HS.out h
  have HZ:Hid (kJ c 2=0→fC (kJ c) 3=0):=fun h=>fD HS.out h
  have HC:Hid _:=HF2.out;clear H1 H2 HS HF0 HF1 HF2 HF3 HF4 HF5 HF6 HF7 eg0 eg1 eg3 eg4 eg5 eg6 eg7;obtain⟨y0,y1,y2,y3,y4⟩:=Y;have z2:=Z.2.2.1;generalize kJ c 2=z at *;go_wp2_with fail;refine(HC.out _ (qBq)).mono ?_;rintro e w1 ⟨rfl,hb1⟩;have hB1:Below w.heap.size w w1:=bS (qBq) hb1;have Y1:=ykeep hb1 (ykeep (qBq) (And.intro y0 (And.intro y1 (And.intro y2 (And.intro y3 y4)))));have Z1:=zkeep hb1 (zkeep (qBq) Z);clear hb1 HC Z;by_cases hz:z=0
  ·
   have HQ:Hid _:=HZ.out hz;subst hz;clear HH HZ;go_wp2;exact⟨⟨3,by omega,by first|rfl|go_num,HQ,Y1,Z1,hB1⟩,by simp[intOf]⟩
  have HR:Hid _:=HH.out hz;have hz':(z !=0)=true:=by simp[hz]
  clear HH HZ;go_wp2;go_ret;exact⟨by rw[HR.out];rfl,hB1⟩
 ·
  have HH:Hid (¬kJ c 3=0→R=kJ c 3):=fun h=>H1.out 3 (by omega) HS.out h
  have HZ:Hid (kJ c 3=0→fC (kJ c) 4=0):=fun h=>fD HS.out h
  have HC:Hid _:=HF3.out;clear H1 H2 HS HF0 HF1 HF2 HF3 HF4 HF5 HF6 HF7 eg0 eg1 eg2 eg4 eg5 eg6 eg7;obtain⟨y0,y1,y2,y3,y4⟩:=Y;have z3:=Z.2.2.2.1;generalize kJ c 3=z at *;go_wp2_with fail;refine(HC.out _ (qBq)).mono ?_;rintro e w1 ⟨rfl,hb1⟩;have hB1:Below w.heap.size w w1:=bS (qBq) hb1;have Y1:=ykeep hb1 (ykeep (qBq) (And.intro y0 (And.intro y1 (And.intro y2 (And.intro y3 y4)))));have Z1:=zkeep hb1 (zkeep (qBq) Z);clear hb1 HC Z;by_cases hz:z=0
  ·
   have HQ:Hid _:=HZ.out hz;subst hz;clear HH HZ;go_wp2;exact⟨⟨4,by omega,by first|rfl|go_num,HQ,Y1,Z1,hB1⟩,by simp[intOf]⟩
  have HR:Hid _:=HH.out hz;have hz':(z !=0)=true:=by simp[hz]
  clear HH HZ;go_wp2;go_ret;exact⟨by rw[HR.out];rfl,hB1⟩
 ·
  have HH:Hid (¬kJ c 4=0→R=kJ c 4):=fun h=>H1.out 4 (by omega) HS.out h
  have HZ:Hid (kJ c 4=0→fC (kJ c) 5=0):=fun h=>fD HS.out h
  have HC:Hid _:=HF4.out;clear H1 H2 HS HF0 HF1 HF2 HF3 HF4 HF5 HF6 HF7 eg0 eg1 eg2 eg3 eg5 eg6 eg7;obtain⟨y0,y1,y2,y3,y4⟩:=Y;have z4:=Z.2.2.2.2.1;generalize kJ c 4=z at *;go_wp2_with fail;refine(HC.out _ (qBq)).mono ?_;rintro e w1 ⟨rfl,hb1⟩;have hB1:Below w.heap.size w w1:=bS (qBq) hb1;have Y1:=ykeep hb1 (ykeep (qBq) (And.intro y0 (And.intro y1 (And.intro y2 (And.intro y3 y4)))));have Z1:=zkeep hb1 (zkeep (qBq) Z);clear hb1 HC Z;by_cases hz:z=0
  ·
   have HQ:Hid _:=HZ.out hz;subst hz;clear HH HZ;go_wp2;exact⟨⟨5,by omega,by first|rfl|go_num,HQ,Y1,Z1,hB1⟩,by simp[intOf]⟩
  have HR:Hid _:=HH.out hz;have hz':(z !=0)=true:=by simp[hz]
  clear HH HZ;go_wp2;go_ret;exact⟨by rw[HR.out];rfl,hB1⟩
 ·
  have HH:Hid (¬kJ c 5=0→R=kJ c 5):=fun h=>H1.out 5 (by omega) HS.out h
  have HZ:Hid (kJ c 5=0→fC (kJ c) 6=0):=fun h=>fD HS.out h
  have HC:Hid _:=HF5.out;clear H1 H2 HS HF0 HF1 HF2 HF3 HF4 HF5 HF6 HF7 eg0 eg1 eg2 eg3 eg4 eg6 eg7;obtain⟨y0,y1,y2,y3,y4⟩:=Y;have z5:=Z.2.2.2.2.2.1;generalize kJ c 5=z at *;go_wp2_with fail;refine(HC.out _ (qBq)).mono ?_;rintro e w1 ⟨rfl,hb1⟩;have hB1:Below w.heap.size w w1:=bS (qBq) hb1;have Y1:=ykeep hb1 (ykeep (qBq) (And.intro y0 (And.intro y1 (And.intro y2 (And.intro y3 y4)))));have Z1:=zkeep hb1 (zkeep (qBq) Z);clear hb1 HC Z;by_cases hz:z=0
  ·
   have HQ:Hid _:=HZ.out hz;subst hz;clear HH HZ;go_wp2;exact⟨⟨6,by omega,by first|rfl|go_num,HQ,Y1,Z1,hB1⟩,by simp[intOf]⟩
  have HR:Hid _:=HH.out hz;have hz':(z !=0)=true:=by simp[hz]
  clear HH HZ;go_wp2;go_ret;exact⟨by rw[HR.out];rfl,hB1⟩
 ·
  have HH:Hid (¬kJ c 6=0→R=kJ c 6):=fun h=>H1.out 6 (by omega) HS.out h
  have HZ:Hid (kJ c 6=0→fC (kJ c) 7=0):=fun h=>fD HS.out h
  have HC:Hid _:=HF6.out;clear H1 H2 HS HF0 HF1 HF2 HF3 HF4 HF5 HF6 HF7 eg0 eg1 eg2 eg3 eg4 eg5 eg7;obtain⟨y0,y1,y2,y3,y4⟩:=Y;have z6:=Z.2.2.2.2.2.2.1;generalize kJ c 6=z at *;go_wp2_with fail;refine(HC.out _ (qBq)).mono ?_;rintro e w1 ⟨rfl,hb1⟩;have hB1:Below w.heap.size w w1:=bS (qBq) hb1;have Y1:=ykeep hb1 (ykeep (qBq) (And.intro y0 (And.intro y1 (And.intro y2 (And.intro y3 y4)))));have Z1:=zkeep hb1 (zkeep (qBq) Z);clear hb1 HC Z;by_cases hz:z=0
  ·
   have HQ:Hid _:=HZ.out hz;subst hz;clear HH HZ;go_wp2;exact⟨⟨7,by omega,by first|rfl|go_num,HQ,Y1,Z1,hB1⟩,by simp[intOf]⟩
  have HR:Hid _:=HH.out hz;have hz':(z !=0)=true:=by simp[hz]
  clear HH HZ;go_wp2;go_ret;exact⟨by rw[HR.out];rfl,hB1⟩
 ·
  have HH:Hid (¬kJ c 7=0→R=kJ c 7):=fun h=>H1.out 7 (by omega) HS.out h
  have HZ:Hid (kJ c 7=0→fC (kJ c) 8=0):=fun h=>fD HS.out h
  have HC:Hid _:=HF7.out;clear H1 H2 HS HF0 HF1 HF2 HF3 HF4 HF5 HF6 HF7 eg0 eg1 eg2 eg3 eg4 eg5 eg6;obtain⟨y0,y1,y2,y3,y4⟩:=Y;have z7:=Z.2.2.2.2.2.2.2;generalize kJ c 7=z at *;go_wp2_with fail;refine(HC.out _ (qBq)).mono ?_;rintro e w1 ⟨rfl,hb1⟩;have hB1:Below w.heap.size w w1:=bS (qBq) hb1;have Y1:=ykeep hb1 (ykeep (qBq) (And.intro y0 (And.intro y1 (And.intro y2 (And.intro y3 y4)))));have Z1:=zkeep hb1 (zkeep (qBq) Z);clear hb1 HC Z;by_cases hz:z=0
  ·
   have HQ:Hid _:=HZ.out hz;subst hz;clear HH HZ;go_wp2;exact⟨⟨8,by omega,by first|rfl|go_num,HQ,Y1,Z1,hB1⟩,by simp[intOf]⟩
  have HR:Hid _:=HH.out hz;have hz':(z !=0)=true:=by simp[hz]
  clear HH HZ;go_wp2;go_ret;exact⟨by rw[HR.out];rfl,hB1⟩
 have HC:Hid (R=0):=H2.out HS.out;go_wp2;go_ret;exact⟨by rw[HC.out];rfl,hbl⟩
end Go.Proofs.YtbfnobcidnmohaaGreat
namespace Go.Proofs.YtbfnobcidnmohaaGreat
open Go.RowKit
variable [DecidableEq Leg] [Inhabited Leg] [DecidableEq Mrk] [Inhabited Mrk] [DecidableEq Bal] [Inhabited Bal]
attribute [local go_sem ↓] Go.wp_at_zero Go.wp_at_succ
theorem zF {w:World} {v:Value} {xs:List Mrk} (h:mrksR.V w v xs):vK w v xs.length (qQ xs):=by
 obtain⟨a,c,rfl,_,_,hc⟩:=h;cases a with
 | none=>
  have h0:xs=[]:=by
   cases xs with
   | nil=>rfl
   | cons x r=>obtain⟨b,o,e,_⟩:=hc 0 (by simp);cases e
  subst h0;exact .inl ⟨c,rfl,rfl,rfl⟩
 | some ad=>
  refine .inr ⟨ad,c,rfl,fun j x hj=>?_⟩;have hjl:j<xs.length*2:=by
   have:=(List.getElem?_eq_some_iff.1 hj).1;rw[xB] at this;exact this
  have hi:j / 2<xs.length:=by omega
  obtain⟨b,o,e,g0,g1⟩:=hc (j / 2) hi;obtain⟨q0,q1⟩:=fCg xs (j / 2) hi;simp only[Option.some.injEq] at e;subst e;have hadd:(Addr.mk b o none).add j=⟨b,o+j,none⟩:=by
   by_cases h:j=0
   ·
    subst h;simp[Addr.add]
   simp[Addr.add,h]
  rw[hadd];have hm:j % 2=0∨j % 2=1:=by omega
  rcases hm with hm|hm
  ·
   have e:j=j / 2*2:=by omega
   have e2:o+j=o+j / 2*2:=by omega
   rw[e2,g0];rw[e,q0] at hj;exact hj
  have e:j=j / 2*2+1:=by omega
  have e2:o+j=o+j / 2*2+1:=by omega
  rw[e2,g1];rw[e,q1] at hj;exact hj
theorem fOs (xs:List Mrk):∀u ∈ qQ xs,u.oneCell'=true:=by
 intro u hu;simp only[qQ,List.mem_flatMap] at hu;obtain⟨b,_,hb⟩:=hu;simp[mrkC] at hb;rcases hb with rfl|rfl <;> rfl
theorem fOq (xs ys:List Mrk):qQ (xs++ys)=qQ xs++qQ ys:=by simp[qQ]
theorem fEg (xs:List Bal):∀u ∈ kV xs,u.oneCell'=true:=by
 intro u hu;simp only[kV,List.mem_flatMap] at hu;obtain⟨b,_,hb⟩:=hu;simp[balC] at hb;rcases hb with rfl|rfl|rfl <;> rfl
theorem fEf (xs ys:List Bal):kV (xs++ys)=kV xs++kV ys:=by simp[kV]
theorem fC9 (w:World) {ops:Array Oper} {o:Oper} {a:Act} {K:Act→World→Prop} {Q:Exit→Act→World→Prop} {E:Prop} (hgd:o.guard=none) (s x:Operand)
  (ho:o.op = .call {callee:=.builtin .append,args:=#[s,x],argTypes:=#[69,69]})
  (base:Nat) (v:Value) (xs:List Mrk) (hs:a.eval s=v) (u:Value) (ys:List Mrk) (hx:a.eval x=u)
  (hown:w.ownsRow base 141 2 v xs.length (qQ xs)) (hsrc:vK w u ys.length (qQ ys)) (hlen:xs.length+ys.length≤1073741824) (hbase:base≤w.heap.size)
  (h:∀v' w',w'.ownsRow base 141 2 v' (xs++ys).length (qQ (xs++ys))→w.grownBy w' v.ownBlock→(∀W:World,Below base W w→Below base W w')→K (a.put o.dst v') w') :
  if Region.wanted o (yielded ops a.tmps)=true then Oper.wp Tryz.prog o a w K Q else E:=by
 obtain⟨i0,hi,hz0,hz1,hz2⟩:=info_parts fQd;refine fDa w hgd s x 69 ho base 141 i0 _ 2 16 Tryz.underlying69 hi hz0 hz1 hz2 rfl (by decide) v xs.length (qQ xs) hs u ys.length (qQ ys) hx hown hsrc (by rw[xB]) (fOs ys) (by unfold maxLen;omega) (by omega) hbase ?_;intro v' w' h1 h2 h3;refine h v' w' ?_ h2 h3;rw[List.length_append,fOq];exact h1
theorem fLc (w:World) {ops:Array Oper} {o:Oper} {a:Act} {K:Act→World→Prop} {Q:Exit→Act→World→Prop} {E:Prop} (hgd:o.guard=none) (s x:Operand)
  (ho:o.op = .call {callee:=.builtin .append,args:=#[s,x],argTypes:=#[68,68]})
  (base:Nat) (v:Value) (xs:List Bal) (hs:a.eval s=v) (u:Value) (ys:List Bal) (hx:a.eval x=u)
  (hown:w.ownsRow base 180 3 v xs.length (kV xs)) (hsrc:vK w u ys.length (kV ys)) (hlen:xs.length+ys.length≤1073741824) (hbase:base≤w.heap.size)
  (h:∀v' w',w'.ownsRow base 180 3 v' (xs++ys).length (kV (xs++ys))→w.grownBy w' v.ownBlock→(∀W:World,Below base W w→Below base W w')→K (a.put o.dst v') w') :
  if Region.wanted o (yielded ops a.tmps)=true then Oper.wp Tryz.prog o a w K Q else E:=by
 obtain⟨i0,hi,hz0,hz1,hz2⟩:=info_parts fAo;refine fDa w hgd s x 68 ho base 180 i0 _ 3 24 Tryz.underlying68 hi hz0 hz1 hz2 rfl (by decide) v xs.length (kV xs) hs u ys.length (kV ys) hx hown hsrc (by rw[rJ]) (fEg ys) (by unfold maxLen;omega) (by omega) hbase ?_;intro v' w' h1 h2 h3;refine h v' w' ?_ h2 h3;rw[List.length_append,fEf];exact h1
theorem fGn (w:World) {ops:Array Oper} {rest:List Oper} {o:Oper} {a:Act} {Q:Exit→Act→World→Prop} (hgd:o.guard=none) (s x:Operand)
  (ho:o.op = .call {callee:=.builtin .append,args:=#[s,x],argTypes:=#[68,68]})
  (base:Nat) (v:Value) (xs:List Bal) (hs:a.eval s=v) (u:Value) (ys:List Bal) (hx:a.eval x=u)
  (hown:w.ownsRow base 180 3 v xs.length (kV xs)) (hsrc:vK w u ys.length (kV ys)) (hlen:xs.length+ys.length≤1073741824) (hbase:base≤w.heap.size)
  (h:∀v' w',w'.ownsRow base 180 3 v' (xs++ys).length (kV (xs++ys))→w.grownBy w' v.ownBlock→(∀W:World,Below base W w→Below base W w')→wpList Tryz.prog ops Q rest (a.put o.dst v') w') :
  wpList Tryz.prog ops Q (o::rest) a w:=by
 obtain⟨i0,hi,hz0,hz1,hz2⟩:=info_parts fAo;refine fAe w hgd s x 68 ho base 180 i0 _ 3 24 Tryz.underlying68 hi hz0 hz1 hz2 rfl (by decide) v xs.length (kV xs) hs u ys.length (kV ys) hx hown hsrc (by rw[rJ]) (fEg ys) (by unfold maxLen;omega) (by omega) hbase ?_;intro v' w' h1 h2 h3;refine h v' w' ?_ h2 h3;rw[List.length_append,fEf];exact h1
variable [DecidableEq Cont] [Inhabited Cont] [DecidableEq Shd] [Inhabited Shd] [DecidableEq Vot] [Inhabited Vot] [DecidableEq Slt] [Inhabited Slt] [DecidableEq Acc] [Inhabited Acc] [DecidableEq Trr] [Inhabited Trr] [DecidableEq Hrd] [Inhabited Hrd] [DecidableEq Ldr] [Inhabited Ldr] [DecidableEq Msg] [Inhabited Msg] [DecidableEq Clu] [Inhabited Clu] [DecidableEq Ledg] [Inhabited Ledg] [DecidableEq SltR] [Inhabited SltR] [DecidableEq AccR] [Inhabited AccR] [DecidableEq AccsR] [Inhabited AccsR] [DecidableEq SltsR] [Inhabited SltsR] [DecidableEq Rw] [Inhabited Rw] [DecidableEq LedgR] [Inhabited LedgR] [DecidableEq OutcR] [Inhabited OutcR] [DecidableEq ShdR] [Inhabited ShdR]
theorem fR3 {c:Clu} (h:cluF c=0) {k:Nat} (hk:k<c.shards.length):(c.shards.getD k default).bals.length≤18:=by
 have h1:=(cluF_zero.1 h).2.2.1;unfold uL at h1;have h2:=mD h1 k hk;unfold qU at h2;have h3:=(orF_zero.1 h2).1;unfold shdF at h3;by_cases hl:kD (c.shards.getD k default)=0
 ·
  have h4:=(fCu hl).1;unfold mX at h4;split at h4
  ·
   exact(fB4 h4).len
  omega
 rw[if_neg hl] at h3;exact absurd h3 hl
theorem fIa (x:Value) (c:Clu) (w:World) (hx:cluR.V w x c) (h0:cluF c=0) (hneed:∀k,k<c.ldrs.length→∀i,i<(c.ldrs.getD k default).tries.length→((c.ldrs.getD k default).tries.getD i default).frm.length≤1048576) :
  Calls Tryz.prog 55 #[x] w fun e w'=>∃v,e = .returned (.agg #[.int .i64 0,v])∧ledgR.V w' (.agg #[v]) ⟨c.shards.map (fun s=>s.bals)⟩∧Below w.heap.size w w':=by
 have HF:Hid (∀W,Below w.heap.size w W→Calls Tryz.prog 32 #[x] W fun e w'=>e = .returned (.int .i64 0)∧Below W.heap.size W w'):=fun W hW=>by
  have:=fA7 x c W (cluR.below hx hW) hneed;rw[h0] at this;exact this
 obtain⟨i0,hi,hz0,hz1,hz2⟩:=info_parts fCo;have hns:=fLz h0;have HBL:Hid (∀k,k<c.shards.length→(c.shards.getD k default).bals.length≤18):=fun k hk=>fR3 h0 hk
 have HG:Hid (∀i,i<c.shards.length→(c.shards.map (fun s=>s.bals)).getD i default=(c.shards.getD i default).bals):=fun i hi=>by simp[List.getD,hi]
 have HGL:Hid ((c.shards.map (fun s=>s.bals)).length=c.shards.length):=by show _=_;simp
 have hx':=hx;obtain⟨a0,a1,a2,a3,a4,c0,c1,c2,c3,c4,n0,n1,n2,n3,n4,rfl,e0,e1,e2,e3,e4,L0,L1,L2,L3,L4⟩:=gL hx;obtain⟨u1,u2,u3,u4,u5,eq,h1,h2,h3,h4,h5⟩:=hx';simp only[Value.agg.injEq,Array.mk.injEq,List.cons.injEq,and_true] at eq;obtain⟨rfl,rfl,rfl,rfl,rfl⟩:=eq;obtain⟨_,hnc,hmc,HA⟩:=fC4 h2;unfold maxLen at hmc;have HX:Hid _:=HA;rw[e1] at hns HBL HG HGL;clear HA h1 h2 h3 h4 h5 hx h0 hneed e0 e1 e2 e3 e4 L0 L2 L3 L4;go_enter Tryz.func55,Tryz.ntmps55;go_wp2_with fail;refine(HF.out _ (qBq)).mono ?_;rintro e w1 ⟨rfl,hb1⟩;have hB1:Below w.heap.size w w1:=qBq;have y1:w1.cell? ⟨w.heap.size,1,none⟩=some (.slice a1 n1 c1):=cK hb1 (by simp[go_sem]);have r0:w1.cell? ⟨w.heap.size+1,0,none⟩=some (.int .i64 0):=cK hb1 (by simp[go_sem]);have r1:w1.cell? ⟨w.heap.size+1,1,none⟩=some (.slice none 0 0):=cK hb1 (by simp[go_sem]);have rf:∀o,w1.frozen? ⟨w.heap.size+1,o,none⟩=false:=fun o=>by rw[(bcell hb1).2 _ _ (by simp)];simp[go_sem]
 have z1:w.heap.size+1<w1.heap.size:=wL w1 _ r0;have z0:w.heap.size<w1.heap.size:=wL w1 _ y1;clear hb1 HF;go_wp2;have hb3:Below w1.heap.size w1 (w1.alloc (.cells #[.slice none 0 0] 48)):=bA (Below.refl _ _) _;have G0:(w1.alloc (.cells #[.slice none 0 0] 48)).cell? ⟨w1.heap.size,0,none⟩=some (.slice none 0 0):=by simp[go_sem]
 have Gf:∀o,(w1.alloc (.cells #[.slice none 0 0] 48)).frozen? ⟨w1.heap.size,o,none⟩=false:=fun o=>by simp[go_sem]
 have r0':=cK hb3 r0;have r1':=cK hb3 r1;have rf':∀o,(w1.alloc (.cells #[.slice none 0 0] 48)).frozen? ⟨w.heap.size+1,o,none⟩=false:=fun o=>by rw[(bcell hb3).2 _ _ z1];exact rf o
 have hB3:Below w.heap.size w (w1.alloc (.cells #[.slice none 0 0] 48)):=bS hB1 hb3;have hsz:Hid ((w1.alloc (.cells #[.slice none 0 0] 48)).heap.size=w1.heap.size+1):=by show _=_;simp
 generalize hY:w1.alloc (.cells #[.slice none 0 0] 48)=Y at *;generalize w1.heap.size=B at *;clear hY hb3 hB1 r0 r1 rf y1;have zY:B<Y.heap.size:=by rw[hsz.out];omega
 go_loopw [16] (fun i W=>∃(k:Nat) (a:Option Addr) (cc:Nat) (cs:List Value) (us:Nat→Value) (fs:Nat→Nat→Prop),k≤n1∧i = .int .i64 k∧Hid (PO balsR 68 1 one W Y.heap.size (.slice a k cc) k k (fun i=>(c.shards.getD i default).bals) cs us fs)∧W.cell? ⟨B,0,none⟩=some (.slice a k cc)∧Hid (Mod (fun b=>b=B∨Y.heap.size≤b) Y W)∧Hid (∀o,W.frozen? ⟨B,o,none⟩=false)) (fun i _=>n1-(intOf i).toNat)
 case atStart=>
  exact⟨0,none,0,[],fun _=>.slice none 0 0,fun _ _=>False,Nat.zero_le _,rfl,⟨World.ownsRow_nil _ _ _ _,fun i h=>absurd h (Nat.not_lt_zero _),fun i h=>absurd h (Nat.not_lt_zero _),fun i h=>absurd h (Nat.not_lt_zero _),fun i h=>absurd h (Nat.not_lt_zero _),fun i j h=>absurd h (Nat.not_lt_zero _)⟩,G0,Mod.refl _ _,Gf⟩
 obtain⟨k,a,cc,cs,us,fs,hk,rfl,HP,G1,HM,HGf⟩:=hrel;have hBr:Below w.heap.size w wr:=Mod.below hB3 HM.out (by have:=hB3.size;omega) (fun i e=>by rcases e with e|e <;> omega)
 have zr:B<wr.heap.size:=wL wr _ G1;have zYr:=HM.out.size;clear G0 Gf;by_cases hlt:k<n1
 ·
  have hl18:=HBL.out k hlt;obtain⟨b,o,v1,v2,v3,v4,v5,rfl,g0,g1,g2,g3,g4,g6,hv⟩:=HX.out k hlt;obtain⟨_,_,_,_,_,eq,k1,k2,k3,k4,k5⟩:=hv;simp only[Value.agg.injEq,Array.mk.injEq,List.cons.injEq,and_true,true_and] at eq;obtain⟨rfl,rfl,rfl,rfl,rfl⟩:=eq;obtain⟨s,hs⟩:∃s,s=c.shards.getD k default:=⟨_,rfl⟩
  rw[←hs] at g0 k1 hl18;have HS:Hid (s=c.shards.getD k default):=hs;have HV:Hid (∀W,Below w.heap.size w W→balsR.V W v1 s.bals):=fun W hW=>balsR.below k1 hW
  obtain⟨p1,q1,rfl⟩:=fJ k1;obtain⟨p2,q2,rfl⟩:=fK k2;obtain⟨p3,q3,rfl⟩:=fZ k3;obtain⟨p4,q4,rfl⟩:=fK k4;obtain⟨p5,q5,rfl⟩:=gT k5;replace g0:=cK hBr g0;replace g1:=cK hBr g1;replace g2:=cK hBr g2;replace g3:=cK hBr g3;replace g4:=cK hBr g4;replace g6:=cK hBr g6;clear k1 k2 k3 k4 k5 hs;generalize (c.shards.getD k default).votes.length=m2 at *;generalize (c.shards.getD k default).held.length=m3 at *;generalize (c.shards.getD k default).done.length=m4 at *;generalize (c.shards.getD k default).appl.length=m5 at *;have hk':(k:Int)<(n1:Int):=by omega
  have hk0:(0:Int)≤(k:Int):=by omega
  generalize s.idx=ix at *;go_wp2;have S1:(wr.alloc (.cells #[.int .i64 ix,.slice p1 s.bals.length q1,.slice p2 m2 q2,.slice p3 m3 q3,.slice p4 m4 q4,.slice p5 m5 q5] 71)).cell? ⟨wr.heap.size,1,none⟩=some (.slice p1 s.bals.length q1):=by simp[go_sem]
  have hb5:Below wr.heap.size wr (wr.alloc (.cells #[.int .i64 ix,.slice p1 s.bals.length q1,.slice p2 m2 q2,.slice p3 m3 q3,.slice p4 m4 q4,.slice p5 m5 q5] 71)):=bA (Below.refl _ _) _;have G2:=cK hb5 G1;have GF2:∀o,(wr.alloc (.cells #[.int .i64 ix,.slice p1 s.bals.length q1,.slice p2 m2 q2,.slice p3 m3 q3,.slice p4 m4 q4,.slice p5 m5 q5] 71)).frozen? ⟨B,o,none⟩=false:=fun o=>by rw[(bcell hb5).2 _ _ zr];exact HGf.out o
  have HM5:Hid (Mod (fun b=>b=B∨Y.heap.size≤b) Y (wr.alloc (.cells #[.int .i64 ix,.slice p1 s.bals.length q1,.slice p2 m2 q2,.slice p3 m3 q3,.slice p4 m4 q4,.slice p5 m5 q5] 71))):=HM.out.alloc _;have HP5:Hid (PO balsR 68 1 one (wr.alloc (.cells #[.int .i64 ix,.slice p1 s.bals.length q1,.slice p2 m2 q2,.slice p3 m3 q3,.slice p4 m4 q4,.slice p5 m5 q5] 71)) Y.heap.size (.slice a k cc) k k (fun i=>(c.shards.getD i default).bals) cs us fs):=HP.out.keep hb5;have hBw5:=bS hBr hb5;have hown2:∀b,(Value.slice a k cc).ownBlock=some b→b<wr.heap.size:=fun b hb=>(HP.out.row.lt b hb).2
  generalize hw5:wr.alloc (.cells #[.int .i64 ix,.slice p1 s.bals.length q1,.slice p2 m2 q2,.slice p3 m3 q3,.slice p4 m4 q4,.slice p5 m5 q5] 71)=w5 at *;generalize wr.heap.size=S at *;have zS:S<w5.heap.size:=wL w5 _ S1;have zB5:B<w5.heap.size:=wL w5 _ G2;have zY5:Y.heap.size≤w5.heap.size:=HM5.out.size;clear hw5 hb5 G1 HP HM HGf g0 g1 g2 g3 g4 g6 hBr;refine wp_region_noPanic ?_;refine fA (fun W=>W.cell? ⟨B,0,none⟩=some (.slice a k cc)∧W.cell? ⟨S,1,none⟩=some (.slice p1 s.bals.length q1)) 8 (by kernel_rfl) ⟨cK (qBq) G2,cK (qBq) S1⟩ (fun hS=>?_);refine tL 0 rfl hS ?_;try simp only[jX]
  refine tL 1 rfl hS ?_;try simp only[jX]
  refine tL 2 rfl hS ?_;try simp only[jX]
  refine tL 3 rfl hS ?_;try simp only[jX]
  refine uS 4 rfl (fun K hK=>?_);refine fLc w5.drew rfl _ _ rfl w5.heap.size _ [] rfl _ s.bals rfl (World.ownsRow_nil _ _ _ _) (yN (HV.out _ (qBq))) (by simp;omega) (by simp) ?_;intro v6 w6 o6 g6 _;rw[List.nil_append] at o6;have hb6:Below w5.heap.size w5 w6:=(Below.drew (Below.refl _ _)).grown g6 (by simp) (fun k e=>by cases e);have HO6:Hid (∃F,balsR.O w6 w5.heap.size F v6 s.bals):=⟨_,o6,rfl⟩;obtain⟨p6,q6,rfl⟩:=gD o6;have hS6:=And.intro (cK hb6 G2) (cK hb6 S1);refine hK _ _ (fun _=>hS6) ?_;clear hK K hS g6 o6;try simp only[jX]
  refine uS 5 rfl (fun K hK=>?_);go_simp;have hb58:Below w5.heap.size w5 (w6.alloc (.cells #[.slice p6 s.bals.length q6] 68)):=bA hb6 _;have hS8:=And.intro (cK hb58 G2) (cK hb58 S1);refine hK _ _ (fun _=>hS8) ?_;clear hK K hS6;try simp only[jX]
  obtain⟨F6,hO6⟩:=HO6.out;have hO8:balsR.O (w6.alloc (.cells #[.slice p6 s.bals.length q6] 68)) w5.heap.size F6 (.slice p6 s.bals.length q6) (c.shards.getD k default).bals:=by
   rw[←HS.out];exact balsR.alloc hO6 _
  refine uS 6 rfl (fun K hK=>?_);refine yK _ rfl _ _ 46 rfl Y.heap.size 68 i0 _ 1 24 Tryz.underlying46 hi hz0 hz1 hz2 rfl (by decide) _ k cs rfl (kT HP5.out.row hb58) ⟨w6.heap.size,0,none⟩ 1 1 [.slice p6 s.bals.length q6] rfl rfl ?_ ?_ (by unfold maxLen;omega) (by omega) (by have:=hb58.size;omega) ?_
  ·
   intro j u hj;match j,hj with
   | 0,hj=>simp at hj;subst hj;simp[Addr.add,go_sem]
   | j+1,hj=>simp at hj
  ·
   intro u hu;rw[List.mem_singleton] at hu;rw[hu];rfl
  intro v9 w9 o9 g9 l9;have hown:∀b,(Value.slice a k cc).ownBlock=some b→Y.heap.size≤b:=fun b hb=>(HP5.out.row.lt b hb).1
  have HP9:Hid (PO balsR 68 1 one w9 Y.heap.size v9 (k+1) (k+1) (fun i=>(c.shards.getD i default).bals) (cs++[.slice p6 s.bals.length q6]) (upd us k (.slice p6 s.bals.length q6)) (upd fs k F6)):=HP5.out.append zY5 hb58 hO8 rfl o9 g9 (l9.imp (fun e=>e) (fun e=>⟨_,e,Nat.le_refl _⟩));have HM9:Hid (Mod (fun b=>b=B∨Y.heap.size≤b) Y w9):=(HM5.out.transB' hb58).trans ((Mod.of_grown g9).mono (fun i hi=>.inr (hown i hi)));have G9:w9.cell? ⟨B,0,none⟩=some (.slice a k cc):=(Mod.of_grown g9).cell hS8.1 (fun e=>by have:=hown _ e;dsimp only at this;omega);have GF9:∀o,w9.frozen? ⟨B,o,none⟩=false:=fun o=>(tT (Mod.of_grown g9) (a:=⟨B,o,none⟩) (by have:=hb58.size;dsimp only;omega) (fun e=>by have:=hown _ e;dsimp only at this;omega)).trans (by rw[(bcell hb58).2 _ _ zB5];exact GF2 o)
  obtain⟨a9,c9,rfl⟩:∃a9 c9,v9 = .slice a9 (k+1) c9:=by
   rcases o9.2 with ⟨rfl,h⟩|⟨g',cap',_,rfl,_⟩
   ·
    omega
   exact⟨_,_,rfl⟩
  have S9:w9.cell? ⟨S,1,none⟩=some (.slice p1 s.bals.length q1):=(Mod.of_grown g9).cell hS8.2 (fun e=>by have:=hown2 _ e;dsimp only at this;omega);refine hK _ _ (fun _=>⟨G9,S9⟩) ?_;clear hK K hS8 g9 l9 o9 hO8 hO6 hb6 hb58 HP5 HM5 G2 GF2 S1;try simp only[jX]
  refine uS 7 rfl (fun K hK=>?_);go_simp;refine hK _ _ (fun _=>⟨G9,S9⟩) ?_;clear hK K;try simp only[jX]
  refine uS 8 rfl (fun K hK=>?_);go_simp;refine hK _ _ (fun h=>absurd rfl h) ?_;clear hK K;refine dN (NoPanic.normal ?_);have HP10:Hid (PO balsR 68 1 one (w9.setCell ⟨B,0,none⟩ (.slice a9 (k+1) c9)) Y.heap.size (.slice a9 (k+1) c9) (k+1) (k+1) (fun i=>(c.shards.getD i default).bals) (cs++[.slice p6 s.bals.length q6]) (upd us k (.slice p6 s.bals.length q6)) (upd fs k F6)):=HP9.out.mod (Mod.of_set _ _ _) (fun b' hb' e=>by have:=(HP9.out.row.lt b' hb').1;dsimp only at e;omega) (fun i hi b' hb' e=>by have:=(balsR.rng (HP9.out.el i hi) b' hb').1;dsimp only at e;omega);have HM10:Hid (Mod (fun b=>b=B∨Y.heap.size≤b) Y (w9.setCell ⟨B,0,none⟩ (.slice a9 (k+1) c9))):=HM9.out.trans ((Mod.of_set _ _ _).mono (fun i hi=>.inl hi));have G10:(w9.setCell ⟨B,0,none⟩ (.slice a9 (k+1) c9)).cell? ⟨B,0,none⟩=some (.slice a9 (k+1) c9):=by simp[go_sem,G9]
  have GF10:Hid (∀o,(w9.setCell ⟨B,0,none⟩ (.slice a9 (k+1) c9)).frozen? ⟨B,o,none⟩=false):=fun o=>by simp[go_sem,GF9 o]
  clear HP9 HM9 G9 GF9 S9;go_wp2;exact⟨⟨k+1,_,_,_,_,_,by omega,by go_num,HP10,G10,HM10,GF10⟩,by simp[intOf];omega⟩
 obtain rfl:k=n1:=by omega
 have hti:¬(k:Int)<(k:Int):=by omega
 have HO:Hid (∃F,balssR.O wr Y.heap.size F (.slice a k cc) (c.shards.map (fun s=>s.bals))):=by
  refine⟨_,cs,us,fs,?_,fun b=>Iff.rfl⟩;rw[HGL.out];exact HP.out.cast (fun i hi=>HG.out i hi)
 replace r0':=HM.out.cell r0' (by dsimp only;omega);replace r1':=HM.out.cell r1' (by dsimp only;omega);replace rf':∀o,wr.frozen? ⟨w.heap.size+1,o,none⟩=false:=fun o=>(tT HM.out (a:=⟨w.heap.size+1,o,none⟩) (by have:=hB3.size;dsimp only;omega) (by dsimp only;omega)).trans (rf' o)
 have z1r:w.heap.size+1<wr.heap.size:=wL wr _ r0';clear HP HM HGf;go_wp2;refine bodyPost_ret (v:=.agg #[.int .i64 0,.slice a k cc]) (by simp[results,Tryz.results55,go_sem,r0',r1',rf']) rfl ?_;obtain⟨F,hO⟩:=HO.out;refine⟨_,rfl,⟨_,rfl,balssR.ofO (balssR.set (balssR.set hO _ (by dsimp only;omega)) _ (by dsimp only;omega))⟩,?_⟩;exact(hBr.setCell (by first|omega|(dsimp only;omega)) _).setCell (by first|omega|(dsimp only;omega)) _
end Go.Proofs.YtbfnobcidnmohaaGreat
namespace Go.Proofs.YtbfnobcidnmohaaGreat
open Go.RowKit
variable [DecidableEq Bal] [Inhabited Bal] [DecidableEq Ledg] [Inhabited Ledg] [DecidableEq Leg] [Inhabited Leg]
attribute [local go_sem ↓] Go.wp_at_zero Go.wp_at_succ
theorem fEk:Tryz.prog.eqGuardType Tryz.prog.depth 180=false:=by kernel_rfl
theorem fUb (x y:Bal) (w:World):(binOp .neq 180 (.agg #[.int .i64 x.ac,.int .i64 x.ast,.int .i64 x.am]) (.agg #[.int .i64 y.ac,.int .i64 y.ast,.int .i64 y.am])).run Tryz.prog w = .ok (.bool (!decide (x=y))) w:=by
 rw[run_neq_struct,run_equalIn_struct w 9999 180 _ _ (by kernel_rfl) (by kernel_rfl)];have hf : (Tryz.prog.fieldsOf 180).toList = [{ name := "Account", type := 2, offset := 0, embedded := false, tag := "", pkgPath := "", byteOffset := 0 }, { name := "Asset", type := 2, offset := 1, embedded := false, tag := "", pkgPath := "", byteOffset := 8 }, { name := "Amount", type := 2, offset := 2, embedded := false, tag := "", pkgPath := "", byteOffset := 16 }] := by kernel_rfl
 rw[hf];obtain⟨a,b,c⟩:=x;obtain⟨a',b',c'⟩:=y;simp[Op.eqFields,go_sem];by_cases e1:a=a' <;> by_cases e2:b=b' <;> by_cases e3:c=c' <;> simp[e1,e2,e3]
theorem xZ {α:Type} [Inhabited α] [DecidableEq α] {xs ys:List α} {k:Nat} (h:xs.getD k default≠ys.getD k default):decide (xs=ys)=false:=by
 simp only[decide_eq_false_iff_not];intro e;rw[e] at h;exact h rfl
theorem fD3 (x y:Value) (xs ys:List Bal) (w:World) (hx:balsR.V w x xs) (hy:balsR.V w y ys) :
  Calls Tryz.prog 184 #[x,y] w fun e w'=>e = .returned (.bool (decide (xs=ys)))∧Below w.heap.size w w':=by
 obtain⟨ax,cx,rfl,hcx,hmx,hx⟩:=hx;obtain⟨ay,cy,rfl,hcy,hmy,hy⟩:=hy;unfold maxLen at hmx hmy;by_cases hl:xs.length=ys.length
 ·
  generalize hn':xs.length=n at *;have HN:Hid (xs.length=n):=hn';have HM:Hid (ys.length=n):=hl.symm;rw[←hl] at hy hcy ⊢;clear hn' hl;go_enter Tryz.func184,Tryz.ntmps184;go_wp2;go_loopw [13] (fun i w'=>∃k:Nat,k≤n∧i = .int .i64 k∧(∀j,j<k→xs.getD j default=ys.getD j default)∧Below w.heap.size w w') (fun i _=>n-(intOf i).toNat)
  case atStart=>exact⟨0,Nat.zero_le _,rfl,fun j hj=>by omega,Below.refl _ _⟩
  obtain⟨k,hk,rfl,hs,hbl⟩:=hrel;have HS:Hid (∀j,j<k→xs.getD j default=ys.getD j default):=hs;clear hs;by_cases hlt:k<n
  ·
   obtain⟨bx,ox,rfl,g1⟩:=hx k hlt;obtain⟨b2,o2,rfl,g2⟩:=hy k hlt;obtain⟨l,hl⟩:∃l,l=xs.getD k default:=⟨_,rfl⟩
   rw[←hl] at g1;have HL:Hid (l=xs.getD k default):=hl;obtain⟨o,ho⟩:∃o,o=ys.getD k default:=⟨_,rfl⟩
   rw[←ho] at g2;have HO:Hid (o=ys.getD k default):=ho;clear hl ho hx hy;obtain⟨a1,a2,a3⟩:=gH hbl g1;obtain⟨d1,d2,d3⟩:=gH hbl g2;have hnq:=fUb l o;have hgd:=fEk;have i1:(k:Int)<(n:Int):=by omega
   go_wp2;go_quiet (fail);clear hnq hgd;generalize hd:decide (l=o)=b;have HD:Hid (decide (l=o)=b):=hd;clear hd;cases b with
   | true=>
    go_wp2;have he:l=o:=of_decide_eq_true HD.out;refine⟨⟨k+1,by omega,by go_num,?_,gG hbl _⟩,by simp[intOf];omega⟩;intro j hj;by_cases e:j=k
    ·
     subst e;rw[←HL.out,←HO.out,he]
    exact HS.out j (by omega)
   | false=>
    go_wp2;go_ret;have he:¬l=o:=of_decide_eq_false HD.out;refine⟨?_,gG hbl _⟩;rw[xZ (k:=k) (by rw[←HL.out,←HO.out];exact he)];rfl
  go_wp2;go_ret;have hkn:k=n:=by omega
  subst hkn;refine⟨?_,hbl⟩;have e:xs=ys:=kY (by rw[HN.out,HM.out]) (by rw[HN.out];exact HS.out);rw[decide_eq_true e];rfl
 have e:decide (xs=ys)=false:=by
  simp only[decide_eq_false_iff_not];intro e;rw[e] at hl;exact hl rfl
 rw[e];clear hx hy;generalize xs.length=n at *;generalize ys.length=m at *;have hl2:¬(n:Int)=(m:Int):=by omega
 go_enter Tryz.func184,Tryz.ntmps184;go_wp2;go_ret;exact⟨rfl,Below.refl _ _⟩
theorem fBo (x y:Value) (xs ys:List Bal) (w:World) (hx:balsR.V w x xs) (hy:balsR.V w y ys) :
  Calls Tryz.prog 107 #[x,y] w fun e w'=>e = .returned (.bool (decide (xs=ys)))∧Below w.heap.size w w':=by
 have hx0:=hx;have hy0:=hy;obtain⟨ax,cx,rfl⟩:=fJ hx;obtain⟨ay,cy,rfl⟩:=fJ hy;go_enter Tryz.func107,Tryz.ntmps107;go_wp2_with fail;refine(fD3 _ _ xs ys _ hx0 hy0).mono ?_;rintro e w' ⟨rfl,hb⟩;go_wp2;go_ret;exact⟨rfl,hb⟩
theorem fFe (x y:Value) (xs ys:List (List Bal)) (w:World) (hx:balssR.V w x xs) (hy:balssR.V w y ys) :
  Calls Tryz.prog 106 #[x,y,.func (.func 107) #[] #[]] w fun e w'=>e = .returned (.bool (decide (xs=ys)))∧Below w.heap.size w w':=by
 obtain⟨ax,cx,rfl,hcx,hmx,hx⟩:=hx;obtain⟨ay,cy,rfl,hcy,hmy,hy⟩:=hy;unfold maxLen at hmx hmy;by_cases hl:xs.length=ys.length
 ·
  generalize hn':xs.length=n at *;have HN:Hid (xs.length=n):=hn';have HM:Hid (ys.length=n):=hl.symm;rw[←hl] at hy hcy ⊢;clear hn' hl;go_enter Tryz.func106,Tryz.ntmps106;go_wp2;go_loopw [17] (fun i w'=>∃k:Nat,k≤n∧i = .int .i64 k∧(∀j,j<k→xs.getD j default=ys.getD j default)∧Below w.heap.size w w') (fun i _=>n-(intOf i).toNat)
  case atStart=>exact⟨0,Nat.zero_le _,rfl,fun j hj=>by omega,Below.refl _ _⟩
  obtain⟨k,hk,rfl,hs,hbl⟩:=hrel;have HS:Hid (∀j,j<k→xs.getD j default=ys.getD j default):=hs;clear hs;by_cases hlt:k<n
  ·
   obtain⟨bx,ox,u,rfl,_,hc,hu⟩:=hx k hlt;obtain⟨b2,o2,v,rfl,_,hd,hv⟩:=hy k hlt;have c1:=cK hbl (rX hc);have d1:=cK hbl (rX hd);have hu1:=balsR.below hu hbl;have hv1:=balsR.below hv hbl;clear hu hc hv hd hx hy;obtain⟨l,hl⟩:∃l,l=xs.getD k default:=⟨_,rfl⟩
   rw[←hl] at hu1;have HL:Hid (l=xs.getD k default):=hl;obtain⟨o,ho⟩:∃o,o=ys.getD k default:=⟨_,rfl⟩
   rw[←ho] at hv1;have HO:Hid (o=ys.getD k default):=ho;clear hl ho;obtain⟨a',c',rfl⟩:=fJ hu1;obtain⟨a2,c2,rfl⟩:=fJ hv1;have eg:∀args w,(callFunc 107 args).run Tryz.prog w = .ok (.enter 107 args) w:=enters_of Tryz.func107 (by kernel_rfl) rfl
   go_wp2_with fail;refine(fBo _ _ l o _ hu1 hv1).mono ?_;rintro e w' ⟨rfl,hb⟩;have hB:=bS hbl hb;clear eg hb;generalize hd:decide (l=o)=b;have HD:Hid (decide (l=o)=b):=hd;clear hd;cases b with
   | true=>
    go_wp2;have he:l=o:=of_decide_eq_true HD.out;refine⟨⟨k+1,by omega,by go_num,?_,hB⟩,by simp[intOf];omega⟩;intro j hj;by_cases e:j=k
    ·
     subst e;rw[←HL.out,←HO.out,he]
    exact HS.out j (by omega)
   | false=>
    go_wp2;go_ret;have he:¬l=o:=of_decide_eq_false HD.out;refine⟨?_,hB⟩;rw[xZ (k:=k) (by rw[←HL.out,←HO.out];exact he)];rfl
  go_wp2;go_ret;have hkn:k=n:=by omega
  subst hkn;refine⟨?_,hbl⟩;have e:xs=ys:=kY (by rw[HN.out,HM.out]) (by rw[HN.out];exact HS.out);rw[decide_eq_true e];rfl
 have e:decide (xs=ys)=false:=by
  simp only[decide_eq_false_iff_not];intro e;rw[e] at hl;exact hl rfl
 rw[e];clear hx hy;generalize xs.length=n at *;generalize ys.length=m at *;have hl2:¬(n:Int)=(m:Int):=by omega
 go_enter Tryz.func106,Tryz.ntmps106;go_wp2;go_ret;exact⟨rfl,Below.refl _ _⟩
end Go.Proofs.YtbfnobcidnmohaaGreat

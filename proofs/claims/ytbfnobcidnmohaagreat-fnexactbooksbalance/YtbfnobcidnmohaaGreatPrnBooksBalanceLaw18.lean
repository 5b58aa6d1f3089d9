import Derived.Test.YtbfnobcidnmohaaGreatPrnBooksBalanceLaw17
import Derived.BigQuiet
import Derived.Deep.QuietTactic
import Derived.Deep.RegionHeld3
import Derived.Deep.DrawnRows
set_option maxHeartbeats 8000000
set_option maxRecDepth 20000
set_option linter.unusedSimpArgs false
set_option linter.unusedVariables false
set_option linter.unusedSectionVars false
namespace Go.Proofs.YtbfnobcidnmohaaGreat
open Go.RowKit
variable [DecidableEq Vot] [Inhabited Vot] [DecidableEq Slt] [Inhabited Slt] [DecidableEq SltR] [Inhabited SltR] [DecidableEq Bal] [Inhabited Bal] [DecidableEq Ledg] [Inhabited Ledg] [DecidableEq Leg] [Inhabited Leg] [DecidableEq Acc] [Inhabited Acc] [DecidableEq AccR] [Inhabited AccR] [DecidableEq AccsR] [Inhabited AccsR] [DecidableEq SltsR] [Inhabited SltsR]
attribute [local go_sem ↓] Go.wp_at_zero Go.wp_at_succ
theorem fB0 {w w':World} {b o b' o':Nat} {x y:Slt} {u v:Value} {p:Addr} {q:Value} (hb:Below w.heap.size w w') (h:w.cell? ⟨b,o,none⟩=some (.int .i64 x.con)∧w.cell? ⟨b,o+1,none⟩=some (.int .i64 x.sh)∧w.cell? ⟨b,o+2,none⟩=some (.int .i64 x.pr)∧w.cell? ⟨b,o+3,none⟩=some (.int .i64 x.lb)∧w.cell? ⟨b,o+4,none⟩=some (.int .i64 x.lv)∧w.cell? ⟨b,o+5,none⟩=some (u)) (h':w.cell? ⟨b',o',none⟩=some (.int .i64 y.con)∧w.cell? ⟨b',o'+1,none⟩=some (.int .i64 y.sh)∧w.cell? ⟨b',o'+2,none⟩=some (.int .i64 y.pr)∧w.cell? ⟨b',o'+3,none⟩=some (.int .i64 y.lb)∧w.cell? ⟨b',o'+4,none⟩=some (.int .i64 y.lv)∧w.cell? ⟨b',o'+5,none⟩=some (v)) (hq:w.cell? p=some q) :
  Below w.heap.size w w'∧(w'.cell? ⟨b,o,none⟩=some (.int .i64 x.con)∧w'.cell? ⟨b,o+1,none⟩=some (.int .i64 x.sh)∧w'.cell? ⟨b,o+2,none⟩=some (.int .i64 x.pr)∧w'.cell? ⟨b,o+3,none⟩=some (.int .i64 x.lb)∧w'.cell? ⟨b,o+4,none⟩=some (.int .i64 x.lv)∧w'.cell? ⟨b,o+5,none⟩=some (u))∧(w'.cell? ⟨b',o',none⟩=some (.int .i64 y.con)∧w'.cell? ⟨b',o'+1,none⟩=some (.int .i64 y.sh)∧w'.cell? ⟨b',o'+2,none⟩=some (.int .i64 y.pr)∧w'.cell? ⟨b',o'+3,none⟩=some (.int .i64 y.lb)∧w'.cell? ⟨b',o'+4,none⟩=some (.int .i64 y.lv)∧w'.cell? ⟨b',o'+5,none⟩=some (v))∧w'.cell? p=some q:=
 ⟨hb,⟨cK hb h.1,cK hb h.2.1,cK hb h.2.2.1,cK hb h.2.2.2.1,cK hb h.2.2.2.2.1,cK hb h.2.2.2.2.2⟩,⟨cK hb h'.1,cK hb h'.2.1,cK hb h'.2.2.1,cK hb h'.2.2.2.1,cK hb h'.2.2.2.2.1,cK hb h'.2.2.2.2.2⟩,cK hb hq⟩
end Go.Proofs.YtbfnobcidnmohaaGreat
namespace Go.Proofs.YtbfnobcidnmohaaGreat
open Go.RowKit
variable [DecidableEq Vot] [Inhabited Vot] [DecidableEq Slt] [Inhabited Slt] [DecidableEq Bal] [Inhabited Bal] [DecidableEq Ledg] [Inhabited Ledg] [DecidableEq Leg] [Inhabited Leg]
attribute [local go_sem ↓] Go.wp_at_zero Go.wp_at_succ
theorem fOi (x:Value) (d:Slt) (w:World) (hx:sltR.V w x d) :
  Calls Tryz.prog 199 #[x] w fun e w'=>e = .returned (.agg #[.int .i64 (tX d.cast d.cast.length).bal,.int .i64 (tX d.cast d.cast.length).val])∧Below w.heap.size w w':=by
 obtain⟨u1,rfl,hx⟩:=hx;obtain⟨ax,cx,rfl,hcx,hmx,hx⟩:=hx;unfold maxLen at hmx;cases hn:d.cast.length with
 | zero=>
  rw[hn] at hcx hx;clear hx;rw[uT];go_enter Tryz.func199,Tryz.ntmps199;go_wp2_with fail;refine(tQ _).mono ?_;rintro e w1 ⟨rfl,hb1⟩;have hB:Below w.heap.size w w1:=bS (qBq) hb1;obtain⟨c1,f1⟩:=bcell hb1;go_wp2;refine bodyPost_ret (v:=.agg #[.int .i64 (-1),.int .i64 0]) ?_ rfl ⟨rfl,by(repeat (first|refine bset ?_ (by simp;omega) _|refine bset ?_ (by simp) _|refine bA ?_ _|assumption))⟩;simp[results,Tryz.results199,go_sem,c1]
 | succ m=>
  rw[hn] at hcx hx;rw[uR];obtain⟨bx,ox,rfl,g1⟩:=hx m (by omega);clear hx;generalize d.cast.getD m default=l at *;clear hn;obtain⟨g0,g1⟩:=g1;have v1:IntKind.i64.wrap (m:Int)=m:=gM (by omega) (by omega);have z5:bx<w.heap.size:=wL w _ g0;go_enter Tryz.func199,Tryz.ntmps199;go_wp2;refine bodyPost_ret (v:=.agg #[.int .i64 l.bal,.int .i64 l.val]) ?_ rfl ⟨rfl,qBq⟩;simp[results,Tryz.results199,go_sem]
theorem fGb (x:Value) (d:Slt) (w:World) (hx:sltR.V w x d) :
  Calls Tryz.prog 132 #[x] w fun e w'=>e = .returned (.int .i64 (gX d))∧Below w.heap.size w w':=by
 have hX:=hx;obtain⟨u1,rfl,hx⟩:=hx;obtain⟨ax,cx,rfl,hcx,hmx,hx⟩:=hx;unfold maxLen at hmx;cases h1:inB d.con 1 1000000000
 ·
  rw[tV (by simp[kX,h1])];go_enter Tryz.func132,Tryz.ntmps132;go_wp2_with (first|(go_at_call 192;refine(mO _ _).mono ?_;rintro e w' ⟨rfl,rfl⟩)|(go_at_call 123;refine(fO _ _ _ _).mono ?_;rintro e w' ⟨rfl,rfl⟩));go_ret;exact⟨rfl,qBq⟩
 cases h2:inB d.sh 0 2
 ·
  rw[tV (by simp[kX,h2])];go_enter Tryz.func132,Tryz.ntmps132;go_wp2_with (first|(go_at_call 192;refine(mO _ _).mono ?_;rintro e w' ⟨rfl,rfl⟩)|(go_at_call 123;refine(fO _ _ _ _).mono ?_;rintro e w' ⟨rfl,rfl⟩));go_ret;exact⟨rfl,qBq⟩
 cases h3:inB d.pr (-1) 1000
 ·
  rw[tV (by simp[kX,h3])];go_enter Tryz.func132,Tryz.ntmps132;go_wp2_with (first|(go_at_call 192;refine(mO _ _).mono ?_;rintro e w' ⟨rfl,rfl⟩)|(go_at_call 123;refine(fO _ _ _ _).mono ?_;rintro e w' ⟨rfl,rfl⟩));go_ret;exact⟨rfl,qBq⟩
 have hR:Hid (kX d=true):=by show _=_;simp[kX,h1,h2,h3]
 by_cases h6:60<d.cast.length
 ·
  rw[fIt hR.out h6];go_enter Tryz.func132,Tryz.ntmps132;go_wp2_with (first|(go_at_call 192;refine(mO _ _).mono ?_;rintro e w' ⟨rfl,rfl⟩)|(go_at_call 123;refine(fO _ _ _ _).mono ?_;rintro e w' ⟨rfl,rfl⟩));go_ret;exact⟨rfl,qBq⟩
 obtain⟨xs,hxs⟩:∃xs,xs=d.cast:=⟨_,rfl⟩
 have HXS:Hid (d.cast=xs):=hxs.symm;rw[←hxs] at h6 hcx hx hX ⊢;clear hxs;obtain⟨n,hn'⟩:∃n,n=xs.length:=⟨_,rfl⟩
 have HN:Hid (xs.length=n):=hn'.symm;rw[←hn'] at h6 hcx hx hX ⊢;clear hn';go_enter Tryz.func132,Tryz.ntmps132;go_wp2_with (first|(go_at_call 192;refine(mO _ _).mono ?_;rintro e w' ⟨rfl,rfl⟩)|(go_at_call 123;refine(fO _ _ _ _).mono ?_;rintro e w' ⟨rfl,rfl⟩));go_loopw [3] (fun i w'=>∃k:Nat,k≤n∧i = .int .i64 k∧fC (xJ xs) k=0∧(w'.cell? ⟨w.heap.size,0,none⟩=some (.int .i64 d.con)∧w'.cell? ⟨w.heap.size,1,none⟩=some (.int .i64 d.sh)∧w'.cell? ⟨w.heap.size,2,none⟩=some (.int .i64 d.pr)∧w'.cell? ⟨w.heap.size,3,none⟩=some (.int .i64 d.lb)∧w'.cell? ⟨w.heap.size,4,none⟩=some (.int .i64 d.lv)∧w'.cell? ⟨w.heap.size,5,none⟩=some (.slice ax n cx))∧Below w.heap.size w w') (fun i _=>n-(intOf i).toNat)
 case atStart=>exact⟨0,Nat.zero_le _,rfl,rfl,⟨by simp[go_sem],by simp[go_sem],by simp[go_sem],by simp[go_sem],by simp[go_sem],by simp[go_sem]⟩,qBq⟩
 obtain⟨k,hk,rfl,hs,⟨c0,c1,c2,c3,c4,c5⟩,hbl⟩:=hrel;have HS:Hid (fC (xJ xs) k=0):=hs;clear hs;have z0:w.heap.size<wr.heap.size:=wL wr _ c0;by_cases hlt:k<n
 ·
  obtain⟨bx,ox,rfl,g1⟩:=hx k hlt;obtain⟨l,hl⟩:∃l,l=xs.getD k default:=⟨_,rfl⟩
  rw[←hl] at g1;have HL:Hid (l=xs.getD k default):=hl;clear hl;obtain⟨a1,a2⟩:=kW hbl g1;cases v1:inB l.bal 0 1000
  ·
   clear hx;go_wp2_with (first|(go_at_call 125;refine(fU _ _).mono ?_;rintro e w' ⟨rfl,rfl⟩)|(go_at_call 126;refine(gZ _ _).mono ?_;rintro e w' ⟨rfl,rfl⟩));go_ret;refine⟨?_,qBq⟩;rw[vJ (k:=k) (c:=3) hR.out (by rw[HXS.out,HN.out];omega) (by rw[HXS.out,HN.out];exact hlt) (by rw[HXS.out];exact HS.out) (by rw[HXS.out];exact fDh (by rw[←HL.out];simp[votB,v1])) (by omega)];rfl
  cases v2:inB l.val 1 2
  ·
   clear hx;go_wp2_with (first|(go_at_call 125;refine(fU _ _).mono ?_;rintro e w' ⟨rfl,rfl⟩)|(go_at_call 126;refine(gZ _ _).mono ?_;rintro e w' ⟨rfl,rfl⟩));go_ret;refine⟨?_,qBq⟩;rw[vJ (k:=k) (c:=3) hR.out (by rw[HXS.out,HN.out];omega) (by rw[HXS.out,HN.out];exact hlt) (by rw[HXS.out];exact HS.out) (by rw[HXS.out];exact fDh (by rw[←HL.out];simp[votB,v2])) (by omega)];rfl
  have hok:Hid (votB (xs.getD k default)=true):=by show _=_;rw[←HL.out];simp[votB,v1,v2]
  cases k with
  | zero=>
   clear hx;simp only[Nat.zero_mul,Nat.add_zero] at a1 a2;go_wp2_with (first|(go_at_call 125;refine(fU _ _).mono ?_;rintro e w' ⟨rfl,rfl⟩)|(go_at_call 126;refine(gZ _ _).mono ?_;rintro e w' ⟨rfl,rfl⟩));go_quiet (fail);go_wp2;exact⟨⟨1,by omega,by go_num,fD HS.out (fM1 hok.out (by rw[uT];exact fOw hok.out)),⟨cK (gG (bA (Below.refl _ _) _) _) c0,cK (gG (bA (Below.refl _ _) _) _) c1,cK (gG (bA (Below.refl _ _) _) _) c2,cK (gG (bA (Below.refl _ _) _) _) c3,cK (gG (bA (Below.refl _ _) _) _) c4,cK (gG (bA (Below.refl _ _) _) _) c5⟩,gG (bA hbl _) _⟩,by simp[intOf];omega⟩
  | succ m=>
   obtain⟨b',o',he,g2⟩:=hx m (by omega);simp only[Option.some.injEq,Addr.mk.injEq,and_true] at he;obtain⟨rfl,rfl⟩:=he;obtain⟨o,ho⟩:∃o,o=xs.getD m default:=⟨_,rfl⟩
   rw[←ho] at g2;have HO:Hid (o=xs.getD m default):=ho;clear ho hx;obtain⟨d1,d2⟩:=kW hbl g2;have i1:(m:Int)<(n:Int):=by omega
   have z5:bx<wr.heap.size:=wL wr _ d1;have i2:m<n:=by omega
   have w1:IntKind.i64.wrap (m:Int)=m:=gM (by omega) (by omega);have hL:Hid (∀c,xJ xs (m+1)=c↔(if other l o=true then 1 else 0)=c):=by
    intro c;unfold xJ;rw[hok.out,uR,←HL.out,←HO.out];simp
   by_cases q1:l.bal<o.bal
   ·
    have e1:decide (l.bal<o.bal)=true:=by simp[q1]
    go_wp2_with (first|(go_at_call 125;refine(fU _ _).mono ?_;rintro e w' ⟨rfl,rfl⟩)|(go_at_call 126;refine(gZ _ _).mono ?_;rintro e w' ⟨rfl,rfl⟩))
    go_quiet (fail)
    go_wp2;go_ret;refine⟨?_,gG (bA hbl _) _⟩;rw[vJ (k:=m+1) (c:=1) hR.out (by rw[HXS.out,HN.out];omega) (by rw[HXS.out,HN.out];exact hlt) (by rw[HXS.out];exact HS.out) (by rw[HXS.out];exact(hL.out 1).2 (by simp[other,q1])) (by omega)];rfl
   have e1:decide (l.bal<o.bal)=false:=by simp[q1]
   by_cases q2:l.bal=o.bal
   ·
    have e2:(l.bal==o.bal)=true:=by simp[q2]
    by_cases q3:l.val=o.val
    ·
     have e3:(l.val !=o.val)=false:=by simp[q3]
     have HQ:Hid (other l o=false):=by show _=_;simp[other,q2,q3]
     clear q1 q2 q3;go_wp2_with (first|(go_at_call 125;refine(fU _ _).mono ?_;rintro e w' ⟨rfl,rfl⟩)|(go_at_call 126;refine(gZ _ _).mono ?_;rintro e w' ⟨rfl,rfl⟩));go_quiet (fail);go_wp2;exact⟨⟨m+1+1,by omega,by go_num,fD HS.out ((hL.out 0).2 (by rw[HQ.out];rfl)),⟨cK (gG (bA (Below.refl _ _) _) _) c0,cK (gG (bA (Below.refl _ _) _) _) c1,cK (gG (bA (Below.refl _ _) _) _) c2,cK (gG (bA (Below.refl _ _) _) _) c3,cK (gG (bA (Below.refl _ _) _) _) c4,cK (gG (bA (Below.refl _ _) _) _) c5⟩,gG (bA hbl _) _⟩,by simp[intOf];omega⟩
    have e3:(l.val !=o.val)=true:=by simp[q3]
    have HQ:Hid (other l o=true):=by show _=_;simp[other,q2,q3]
    clear q1 q2 q3;go_wp2_with (first|(go_at_call 125;refine(fU _ _).mono ?_;rintro e w' ⟨rfl,rfl⟩)|(go_at_call 126;refine(gZ _ _).mono ?_;rintro e w' ⟨rfl,rfl⟩));go_quiet (fail);go_wp2;go_ret;refine⟨?_,gG (bA hbl _) _⟩;rw[vJ (k:=m+1) (c:=1) hR.out (by rw[HXS.out,HN.out];omega) (by rw[HXS.out,HN.out];exact hlt) (by rw[HXS.out];exact HS.out) (by rw[HXS.out];exact(hL.out 1).2 (by rw[HQ.out];rfl)) (by omega)];rfl
   have e2:(l.bal==o.bal)=false:=by simp[q2]
   have HQ:Hid (other l o=false):=by show _=_;simp[other,q1,q2]
   clear q1 q2;go_wp2_with (first|(go_at_call 125;refine(fU _ _).mono ?_;rintro e w' ⟨rfl,rfl⟩)|(go_at_call 126;refine(gZ _ _).mono ?_;rintro e w' ⟨rfl,rfl⟩));go_quiet (fail);go_wp2;exact⟨⟨m+1+1,by omega,by go_num,fD HS.out ((hL.out 0).2 (by rw[HQ.out];rfl)),⟨cK (gG (bA (Below.refl _ _) _) _) c0,cK (gG (bA (Below.refl _ _) _) _) c1,cK (gG (bA (Below.refl _ _) _) _) c2,cK (gG (bA (Below.refl _ _) _) _) c3,cK (gG (bA (Below.refl _ _) _) _) c4,cK (gG (bA (Below.refl _ _) _) _) c5⟩,gG (bA hbl _) _⟩,by simp[intOf];omega⟩
 have hkn:k=n:=by omega
 subst hkn;have HE:Hid (gX d=if (d.lb=(tX xs k).bal∧d.lv=(tX xs k).val)∧d.lb≤d.pr then 0 else 1):=by
  show _=_;rw[fMu hR.out (by rw[HXS.out,HN.out];omega) (by rw[HXS.out,HN.out];exact HS.out),HXS.out,HN.out]
 have hLast:=fun W h=>fOi (.agg #[.int .i64 d.con,.int .i64 d.sh,.int .i64 d.pr,.int .i64 d.lb,.int .i64 d.lv,.slice ax k cx]) d W h
 rw[HXS.out,HN.out] at hLast;obtain⟨q,hq⟩:∃q,q=tX xs k:=⟨_,rfl⟩
 have HQ:Hid (tX xs k=q):=hq.symm;rw[←hq] at hLast;clear hq hx hlt;have HLast:Hid (∀W,Below wr.heap.size wr W→Calls Tryz.prog 199 #[.agg #[.int .i64 d.con,.int .i64 d.sh,.int .i64 d.pr,.int .i64 d.lb,.int .i64 d.lv,.slice ax k cx]] W fun e w'=>e = .returned (.agg #[.int .i64 q.bal,.int .i64 q.val])∧Below W.heap.size W w'):=fun W h=>hLast W (sltR.below hX (bS hbl h))
 clear hLast hX;cases he:(decide (d.lb=q.bal)&&decide (d.lv=q.val))
 ·
  clear h1 h2 h3;have heq:∀w,(binOp .neq 126 (.agg #[.int .i64 d.lb,.int .i64 d.lv]) (.agg #[.int .i64 q.bal,.int .i64 q.val])).run Tryz.prog w = .ok (.bool true) w:=fun w=>by rw[zR,he];rfl
  go_wp2;refine wp_region_noPanic ?_;refine fA (fun W=>Below wr.heap.size wr W∧W.cell? ⟨w.heap.size,0,none⟩=some (.int .i64 d.con)∧W.cell? ⟨w.heap.size,1,none⟩=some (.int .i64 d.sh)∧W.cell? ⟨w.heap.size,2,none⟩=some (.int .i64 d.pr)∧W.cell? ⟨w.heap.size,3,none⟩=some (.int .i64 d.lb)∧W.cell? ⟨w.heap.size,4,none⟩=some (.int .i64 d.lv)∧W.cell? ⟨w.heap.size,5,none⟩=some (.slice ax k cx)) 13 (by kernel_rfl) (fT9 (qBq) c0 c1 c2 c3 c4 c5) (fun hS=>?_);refine tM 0 rfl hS ?_;try simp only[jX]
  refine tM 1 rfl hS ?_;try simp only[jX]
  refine tM 2 rfl hS ?_;try simp only[jX]
  refine uS 3 rfl (fun K hK=>?_);go_simp;refine(HLast.out _ hS.1).mono ?_;rintro e w3 ⟨rfl,hb3⟩;have hS3:(fun W=>Below wr.heap.size wr W∧W.cell? ⟨w.heap.size,0,none⟩=some (.int .i64 d.con)∧W.cell? ⟨w.heap.size,1,none⟩=some (.int .i64 d.sh)∧W.cell? ⟨w.heap.size,2,none⟩=some (.int .i64 d.pr)∧W.cell? ⟨w.heap.size,3,none⟩=some (.int .i64 d.lb)∧W.cell? ⟨w.heap.size,4,none⟩=some (.int .i64 d.lv)∧W.cell? ⟨w.heap.size,5,none⟩=some (.slice ax k cx)) w3:=⟨bS hS.1 hb3,cK hb3 hS.2.1,cK hb3 hS.2.2.1,cK hb3 hS.2.2.2.1,cK hb3 hS.2.2.2.2.1,cK hb3 hS.2.2.2.2.2.1,cK hb3 hS.2.2.2.2.2.2⟩;refine hK _ _ (fun _=>hS3) ?_;clear hK K hS hb3;try simp only[jX]
  refine tM 4 (v:=(.bool true)) rfl hS3 ?_;try simp only[jX]
  refine tM 5 (v:=(.bool true)) rfl hS3 ?_;try simp only[jX]
  refine sN 6 rfl hS3 (fun _=>?_);try simp only[jX]
  refine sN 7 rfl hS3 (fun _=>?_);try simp only[jX]
  refine sN 8 rfl hS3 (fun _=>?_);try simp only[jX]
  refine sN 9 rfl hS3 (fun _=>?_);try simp only[jX]
  refine sN 10 rfl hS3 (fun _=>?_);try simp only[jX]
  refine sN 11 rfl hS3 (fun _=>?_);try simp only[jX]
  refine tM 12 (v:=(.bool true)) rfl hS3 ?_;try simp only[jX]
  refine dN (NoPanic.normal ?_);have hB3:=bS hbl hS3.1;clear hS3;go_wp2;go_ret;refine⟨?_,hB3⟩;rw[HE.out,HQ.out,if_neg (by simp at he;rintro⟨⟨e1,e2⟩,_⟩;exact he e1 e2)];rfl
 clear h1 h2 h3;have heq:∀w,(binOp .neq 126 (.agg #[.int .i64 d.lb,.int .i64 d.lv]) (.agg #[.int .i64 q.bal,.int .i64 q.val])).run Tryz.prog w = .ok (.bool false) w:=fun w=>by rw[zR,he];rfl
 go_wp2;refine wp_region_noPanic ?_;refine fA (fun W=>Below wr.heap.size wr W∧W.cell? ⟨w.heap.size,0,none⟩=some (.int .i64 d.con)∧W.cell? ⟨w.heap.size,1,none⟩=some (.int .i64 d.sh)∧W.cell? ⟨w.heap.size,2,none⟩=some (.int .i64 d.pr)∧W.cell? ⟨w.heap.size,3,none⟩=some (.int .i64 d.lb)∧W.cell? ⟨w.heap.size,4,none⟩=some (.int .i64 d.lv)∧W.cell? ⟨w.heap.size,5,none⟩=some (.slice ax k cx)) 13 (by kernel_rfl) (fT9 (qBq) c0 c1 c2 c3 c4 c5) (fun hS=>?_);refine tM 0 rfl hS ?_;try simp only[jX]
 refine tM 1 rfl hS ?_;try simp only[jX]
 refine tM 2 rfl hS ?_;try simp only[jX]
 refine uS 3 rfl (fun K hK=>?_);go_simp;refine(HLast.out _ hS.1).mono ?_;rintro e w3 ⟨rfl,hb3⟩;have hS3:(fun W=>Below wr.heap.size wr W∧W.cell? ⟨w.heap.size,0,none⟩=some (.int .i64 d.con)∧W.cell? ⟨w.heap.size,1,none⟩=some (.int .i64 d.sh)∧W.cell? ⟨w.heap.size,2,none⟩=some (.int .i64 d.pr)∧W.cell? ⟨w.heap.size,3,none⟩=some (.int .i64 d.lb)∧W.cell? ⟨w.heap.size,4,none⟩=some (.int .i64 d.lv)∧W.cell? ⟨w.heap.size,5,none⟩=some (.slice ax k cx)) w3:=⟨bS hS.1 hb3,cK hb3 hS.2.1,cK hb3 hS.2.2.1,cK hb3 hS.2.2.2.1,cK hb3 hS.2.2.2.2.1,cK hb3 hS.2.2.2.2.2.1,cK hb3 hS.2.2.2.2.2.2⟩;refine hK _ _ (fun _=>hS3) ?_;clear hK K hS hb3;try simp only[jX]
 refine tM 4 (v:=(.bool false)) rfl hS3 ?_;try simp only[jX]
 refine tM 5 (v:=(.bool false)) rfl hS3 ?_;try simp only[jX]
 refine tM 6 rfl hS3 ?_;try simp only[jX]
 refine tM 7 rfl hS3 ?_;try simp only[jX]
 refine tM 8 rfl hS3 ?_;try simp only[jX]
 refine tM 9 rfl hS3 ?_;try simp only[jX]
 refine tM 10 rfl hS3 ?_;try simp only[jX]
 refine tM 11 rfl hS3 ?_;try simp only[jX]
 refine tM 12 rfl hS3 ?_;try simp only[jX]
 refine dN (NoPanic.normal ?_);have hB3:=bS hbl hS3.1;clear hS3;go_wp2
 ·
  rename_i hle;go_ret;refine⟨?_,hB3⟩;rw[HE.out,HQ.out,if_neg (by rintro⟨_,h⟩;omega)];rfl
 rename_i hle;go_ret;refine⟨?_,hB3⟩;simp at he;rw[HE.out,HQ.out,if_pos ⟨he,by omega⟩];rfl
theorem fF0 (v p:Vot):other v p=(decide (v.bal<p.bal)||fMo v p):=rfl
theorem fFl (x:Value) (d:Slt) (w:World) (hx:sltR.V w x d) :
  Calls Tryz.prog 218 #[x] w fun e w'=>e = .returned (.int .i64 (gX d))∧Below w.heap.size w w':=by
 obtain⟨u1,rfl,hx⟩:=hx;obtain⟨ax,cx,rfl,hcx,hmx,hx⟩:=hx;unfold maxLen at hmx;cases h1:inB d.con 1 1000000000
 ·
  rw[tV (by simp[kX,h1])];go_enter Tryz.func218,Tryz.ntmps218;go_wp2_with (first|(go_at_call 237;refine(kR _ _).mono ?_;rintro e w' ⟨rfl,rfl⟩)|(go_at_call 238;refine(pE _ _).mono ?_;rintro e w' ⟨rfl,rfl⟩)|(go_at_call 152;refine(fT _ _ _ _).mono ?_;rintro e w' ⟨rfl,rfl⟩));go_ret;exact⟨rfl,qBq⟩
 cases h2:inB d.sh 0 2
 ·
  rw[tV (by simp[kX,h2])];go_enter Tryz.func218,Tryz.ntmps218;go_wp2_with (first|(go_at_call 237;refine(kR _ _).mono ?_;rintro e w' ⟨rfl,rfl⟩)|(go_at_call 238;refine(pE _ _).mono ?_;rintro e w' ⟨rfl,rfl⟩)|(go_at_call 152;refine(fT _ _ _ _).mono ?_;rintro e w' ⟨rfl,rfl⟩));go_ret;exact⟨rfl,qBq⟩
 cases h3:inB d.pr (-1) 1000
 ·
  rw[tV (by simp[kX,h3])];go_enter Tryz.func218,Tryz.ntmps218;go_wp2_with (first|(go_at_call 237;refine(kR _ _).mono ?_;rintro e w' ⟨rfl,rfl⟩)|(go_at_call 238;refine(pE _ _).mono ?_;rintro e w' ⟨rfl,rfl⟩)|(go_at_call 152;refine(fT _ _ _ _).mono ?_;rintro e w' ⟨rfl,rfl⟩));go_ret;exact⟨rfl,qBq⟩
 have hR:Hid (kX d=true):=by show _=_;simp[kX,h1,h2,h3]
 by_cases h6:60<d.cast.length
 ·
  rw[fIt hR.out h6];go_enter Tryz.func218,Tryz.ntmps218;go_wp2_with (first|(go_at_call 237;refine(kR _ _).mono ?_;rintro e w' ⟨rfl,rfl⟩)|(go_at_call 238;refine(pE _ _).mono ?_;rintro e w' ⟨rfl,rfl⟩)|(go_at_call 152;refine(fT _ _ _ _).mono ?_;rintro e w' ⟨rfl,rfl⟩));go_ret;exact⟨rfl,qBq⟩
 obtain⟨xs,hxs⟩:∃xs,xs=d.cast:=⟨_,rfl⟩
 have HXS:Hid (d.cast=xs):=hxs.symm;rw[←hxs] at h6 hcx hx ⊢;clear hxs;obtain⟨n,hn'⟩:∃n,n=xs.length:=⟨_,rfl⟩
 have HN:Hid (xs.length=n):=hn'.symm;rw[←hn'] at h6 hcx hx ⊢;clear hn';go_enter Tryz.func218,Tryz.ntmps218;go_wp2_with (first|(go_at_call 237;refine(kR _ _).mono ?_;rintro e w' ⟨rfl,rfl⟩)|(go_at_call 238;refine(pE _ _).mono ?_;rintro e w' ⟨rfl,rfl⟩)|(go_at_call 152;refine(fT _ _ _ _).mono ?_;rintro e w' ⟨rfl,rfl⟩)|fail);refine(fAv _).mono ?_;rintro e w1 ⟨rfl,hb1⟩;have hB1:Below w.heap.size w w1:=bS (qBq) hb1;have k2:w1.cell? ⟨w.heap.size,2,none⟩=some (.int .i64 d.pr):=cK hb1 (by simp[go_sem]);have k3:w1.cell? ⟨w.heap.size,3,none⟩=some (.int .i64 d.lb):=cK hb1 (by simp[go_sem]);have k4:w1.cell? ⟨w.heap.size,4,none⟩=some (.int .i64 d.lv):=cK hb1 (by simp[go_sem]);have k5:w1.cell? ⟨w.heap.size,5,none⟩=some (.slice ax n cx):=cK hb1 (by simp[go_sem]);clear hb1;have z1:w.heap.size<w1.heap.size:=wL w1 _ k2;go_wp2;go_loopw [30] (fun i w'=>∃k:Nat,k≤n∧i = .int .i64 k∧fC (xJ xs) k=0∧(w'.cell? ⟨w.heap.size,2,none⟩=some (.int .i64 d.pr)∧w'.cell? ⟨w.heap.size,3,none⟩=some (.int .i64 d.lb)∧w'.cell? ⟨w.heap.size,4,none⟩=some (.int .i64 d.lv))∧w'.cell? ⟨w1.heap.size,0,none⟩=some (.int .i64 (tX xs k).bal)∧w'.cell? ⟨w1.heap.size,1,none⟩=some (.int .i64 (tX xs k).val)∧(∀o,w'.frozen? ⟨w1.heap.size,o,none⟩=false)∧Below w.heap.size w w') (fun i _=>n-(intOf i).toNat)
 case atStart=>exact⟨0,Nat.zero_le _,rfl,rfl,⟨cK (bA (Below.refl _ _) _) k2,cK (bA (Below.refl _ _) _) k3,cK (bA (Below.refl _ _) _) k4⟩,by simp[go_sem,uT,noV],by simp[go_sem,uT,noV],by simp[go_sem],qBq⟩
 clear k2 k3 k4 k5 hB1;obtain⟨k,hk,rfl,hs,⟨c2,c3,c4⟩,e0,e1,ef,hbl⟩:=hrel;have HS:Hid (fC (xJ xs) k=0):=hs;clear hs;have z0:w.heap.size<wr.heap.size:=wL wr _ c2;have z2:w1.heap.size<wr.heap.size:=wL wr _ e0;obtain⟨q,hq⟩:∃q,q=tX xs k:=⟨_,rfl⟩
 have HQ:Hid (tX xs k=q):=hq.symm;rw[←hq] at e0 e1;clear hq;by_cases hlt:k<n
 ·
  obtain⟨bx,ox,rfl,g1⟩:=hx k hlt;obtain⟨l,hl⟩:∃l,l=xs.getD k default:=⟨_,rfl⟩
  rw[←hl] at g1;have HL:Hid (l=xs.getD k default):=hl;clear hl hx;obtain⟨a1,a2⟩:=kW hbl g1;clear g1;cases v1:votB l
  ·
   go_wp2_with (go_at_call 229;refine(qX l _).mono ?_;rintro e w' ⟨rfl,hb⟩)
   go_ret;refine⟨?_,qBq⟩;rw[vJ (k:=k) (c:=3) hR.out (by rw[HXS.out,HN.out];omega) (by rw[HXS.out,HN.out];exact hlt) (by rw[HXS.out];exact HS.out) (by rw[HXS.out];exact fDh (by rw[←HL.out];exact v1)) (by omega)];rfl
  have hok:Hid (votB (xs.getD k default)=true):=by show _=_;rw[←HL.out];exact v1
  go_wp2_with fail;refine(qX l _).mono ?_;rintro e w2 ⟨rfl,hb2⟩;have hB2:Below w.heap.size w w2:=bS (bA hbl _) hb2;have b0:w2.cell? ⟨wr.heap.size,0,none⟩=some (.int .i64 l.bal):=cK hb2 (by simp[go_sem]);have b1:w2.cell? ⟨wr.heap.size,1,none⟩=some (.int .i64 l.val):=cK hb2 (by simp[go_sem]);replace c2:=cK hb2 (cK (qBq) c2);replace c3:=cK hb2 (cK (qBq) c3);replace c4:=cK hb2 (cK (qBq) c4);replace e0:=cK hb2 (cK (qBq) e0);replace e1:=cK hb2 (cK (qBq) e1);replace ef:∀o,w2.frozen? ⟨w1.heap.size,o,none⟩=false:=fun o=>by rw[(bcell hb2).2 _ _ (by simp;omega)];simp[go_sem,ef,z2]
  clear hb2 hbl a1 a2;rw[v1];by_cases q1:l.bal<q.bal
  ·
   go_wp2;go_ret;refine⟨?_,hB2⟩;rw[vJ (k:=k) (c:=1) hR.out (by rw[HXS.out,HN.out];omega) (by rw[HXS.out,HN.out];exact hlt) (by rw[HXS.out];exact HS.out) (by rw[HXS.out];exact fDi hok.out (by rw[←HL.out,HQ.out,fF0];simp[q1])) (by omega)];rfl
  go_wp2_with fail;refine(fCr l q _).mono ?_;rintro e w3 ⟨rfl,hb3⟩;have hB3:Below w.heap.size w w3:=bS hB2 hb3;have z3:w1.heap.size<w2.heap.size:=wL w2 _ e0;replace b0:=cK hb3 b0;replace b1:=cK hb3 b1;replace c2:=cK hb3 c2;replace c3:=cK hb3 c3;replace c4:=cK hb3 c4;replace e0:=cK hb3 e0;replace e1:=cK hb3 e1;replace ef:∀o,w3.frozen? ⟨w1.heap.size,o,none⟩=false:=fun o=>by rw[(bcell hb3).2 _ _ z3];exact ef o
  clear hb3 hB2;cases q2:fMo l q
  ·
   go_wp2;refine⟨⟨k+1,by omega,by go_num,fD HS.out (fM1 hok.out (by rw[←HL.out,HQ.out,fF0,q2];simp[q1])),⟨by simp[go_sem,c2],by simp[go_sem,c3],by simp[go_sem,c4]⟩,?_,?_,by simp[go_sem,ef],by(repeat (first|refine bset ?_ (by simp;omega) _|refine bset ?_ (by simp) _|refine bA ?_ _|assumption))⟩,by simp[intOf];omega⟩
   ·
    rw[uR,←HL.out];simp[go_sem,e0]
   rw[uR,←HL.out];simp[go_sem,e1]
  go_wp2;go_ret;refine⟨?_,hB3⟩;rw[vJ (k:=k) (c:=1) hR.out (by rw[HXS.out,HN.out];omega) (by rw[HXS.out,HN.out];exact hlt) (by rw[HXS.out];exact HS.out) (by rw[HXS.out];exact fDi hok.out (by rw[←HL.out,HQ.out,fF0,q2];simp)) (by omega)];rfl
 have hkn:k=n:=by omega
 subst hkn;have HE:Hid (gX d=if (d.lb=q.bal∧d.lv=q.val)∧d.lb≤d.pr then 0 else 1):=by
  show _=_;rw[fMu hR.out (by rw[HXS.out,HN.out];omega) (by rw[HXS.out,HN.out];exact HS.out),HXS.out,HN.out,HQ.out]
 clear hx hlt;cases he:(decide (d.lb=q.bal)&&decide (d.lv=q.val))
 ·
  have heq:∀w,(binOp .neq 126 (.agg #[.int .i64 d.lb,.int .i64 d.lv]) (.agg #[.int .i64 q.bal,.int .i64 q.val])).run Tryz.prog w = .ok (.bool true) w:=fun w=>by rw[zR,he];rfl
  go_wp2;go_ret;refine⟨?_,hbl⟩;rw[HE.out,if_neg (by simp at he;rintro⟨⟨e1,e2⟩,_⟩;exact he e1 e2)];rfl
 have heq:∀w,(binOp .neq 126 (.agg #[.int .i64 d.lb,.int .i64 d.lv]) (.agg #[.int .i64 q.bal,.int .i64 q.val])).run Tryz.prog w = .ok (.bool false) w:=fun w=>by rw[zR,he];rfl
 simp at he;have HB:Hid (d.lb=q.bal∧d.lv=q.val):=he;clear he;go_wp2
 ·
  rename_i hle;go_ret;refine⟨?_,hbl⟩;rw[HE.out,if_neg (by rintro⟨_,h⟩;have:=HB.out.1;omega)];rfl
 rename_i hle;go_ret;refine⟨?_,hbl⟩;rw[HE.out,if_pos ⟨HB.out,by have:=HB.out.1;omega⟩];rfl
variable [DecidableEq SltR] [Inhabited SltR] [DecidableEq Acc] [Inhabited Acc] [DecidableEq AccR] [Inhabited AccR] [DecidableEq AccsR] [Inhabited AccsR] [DecidableEq SltsR] [Inhabited SltsR]
theorem fHu (x:Value) (d:Acc) (w:World) (hx:accR.V w x d) :
  Calls Tryz.prog 148 #[x] w fun e w'=>e = .returned (.int .i64 (accF d.slots))∧Below w.heap.size w w':=by
 obtain⟨u1,rfl,hx⟩:=hx;obtain⟨ax,cx,rfl,hcx,hmx,hx⟩:=hx;unfold maxLen at hmx;obtain⟨xs⟩:=d;dsimp only at hx hcx ⊢;obtain⟨n,hn'⟩:∃n,n=xs.length:=⟨_,rfl⟩
 have HN:Hid (xs.length=n):=hn'.symm;rw[←hn'] at hcx hx ⊢;clear hn';by_cases h6:60<n
 ·
  have HC:Hid (accF xs=2):=fGv (by rw[HN.out];exact h6);have h6':(60:Int)<n:=by omega
  clear hx;go_enter Tryz.func148,Tryz.ntmps148;go_wp2;go_ret;exact⟨by rw[HC.out];rfl,qBq⟩
 have h6':¬(60:Int)<n:=by omega
 have HH:Hid (∀k c,k<n→fC (rF xs) k=0→rF xs k=c→¬c=0→accF xs=c):=fun k c hk hs hc h0=>fLu (by rw[HN.out];exact h6) (by rw[HN.out];exact hk) hs hc h0
 have HE:Hid (fC (rF xs) n=0→accF xs=0):=fun hs=>fLt (by rw[HN.out];exact h6) (by rw[HN.out];exact hs)
 clear h6;go_enter Tryz.func148,Tryz.ntmps148;go_wp2;go_loopw [13] (fun i w'=>∃k:Nat,k≤n∧i = .int .i64 k∧fC (rF xs) k=0∧w'.cell? ⟨w.heap.size,0,none⟩=some (.slice ax n cx)∧Below w.heap.size w w') (fun i _=>n-(intOf i).toNat)
 case atStart=>exact⟨0,Nat.zero_le _,rfl,rfl,by simp[go_sem],qBq⟩
 obtain⟨k,hk,rfl,hs,hq,hbl⟩:=hrel;have HS:Hid (fC (rF xs) k=0):=hs;clear hs;by_cases hlt:k<n
 ·
  obtain⟨bxa,oxa,ua,rfl,_,pa,hva⟩:=hx k (by omega);obtain⟨l,hla⟩:∃l,l=xs.getD k default:=⟨_,rfl⟩
  rw[←hla] at hva;have HLa:Hid (l=xs.getD k default):=hla;clear hla;have hVa:=hva;obtain⟨sa,rfl,hca⟩:=hva;obtain⟨aua,cua,rfl⟩:=pJ hca;clear hca;have ga0:w.cell? ⟨bxa,oxa+k*6,none⟩=some (.int .i64 l.con):=pa 0 (by omega);have ga1:w.cell? ⟨bxa,oxa+k*6+1,none⟩=some (.int .i64 l.sh):=pa 1 (by omega);have ga2:w.cell? ⟨bxa,oxa+k*6+2,none⟩=some (.int .i64 l.pr):=pa 2 (by omega);have ga3:w.cell? ⟨bxa,oxa+k*6+3,none⟩=some (.int .i64 l.lb):=pa 3 (by omega);have ga4:w.cell? ⟨bxa,oxa+k*6+4,none⟩=some (.int .i64 l.lv):=pa 4 (by omega);have ga5:w.cell? ⟨bxa,oxa+k*6+5,none⟩=some (.slice aua l.cast.length cua):=pa 5 (by omega);clear pa;have HF:Hid (∀W,Below w.heap.size w W→Calls Tryz.prog 218 #[.agg #[.int .i64 l.con,.int .i64 l.sh,.int .i64 l.pr,.int .i64 l.lb,.int .i64 l.lv,.slice aua l.cast.length cua]] W fun e w'=>e = .returned (.int .i64 (gX l))∧Below W.heap.size W w'):=fun W h=>fFl _ l W (sltR.below hVa h)
  clear hVa;have hX:Hid (∀i,i<n→∃b o u,some (⟨bxa,oxa,none⟩:Addr)=some ⟨b,o,none⟩∧(fOn u).length=6∧(∀j,j<6→w.cell? ⟨b,o+i*6+j,none⟩=(fOn u)[j]?)∧sltR.V w u (xs.getD i default)):=hx;clear hx;replace ga0:=cK hbl ga0;replace ga1:=cK hbl ga1;replace ga2:=cK hbl ga2;replace ga3:=cK hbl ga3;replace ga4:=cK hbl ga4;replace ga5:=cK hbl ga5;have zb:bxa<wr.heap.size:=wL wr _ ga0;have zq:w.heap.size<wr.heap.size:=wL wr _ hq;go_wp2_with fail;refine(HF.out _ (qBq)).mono ?_;rintro e w1 ⟨rfl,hb1⟩;have hB1:Below w.heap.size w w1:=bS (qBq) hb1;have hq1:w1.cell? ⟨w.heap.size,0,none⟩=some (.slice (some ⟨bxa,oxa,none⟩) n cx):=cK hb1 (by simp[go_sem,hq,zq]);have s0:w1.cell? ⟨wr.heap.size,0,none⟩=some (.int .i64 l.con):=cK hb1 (by simp[go_sem]);have s1:w1.cell? ⟨wr.heap.size,1,none⟩=some (.int .i64 l.sh):=cK hb1 (by simp[go_sem]);have s2:w1.cell? ⟨wr.heap.size,2,none⟩=some (.int .i64 l.pr):=cK hb1 (by simp[go_sem]);have s3:w1.cell? ⟨wr.heap.size,3,none⟩=some (.int .i64 l.lb):=cK hb1 (by simp[go_sem]);have s4:w1.cell? ⟨wr.heap.size,4,none⟩=some (.int .i64 l.lv):=cK hb1 (by simp[go_sem]);have s5:w1.cell? ⟨wr.heap.size,5,none⟩=some (.slice aua l.cast.length cua):=cK hb1 (by simp[go_sem]);replace ga0:=cK hb1 (cK (qBq) ga0);replace ga1:=cK hb1 (cK (qBq) ga1);replace ga2:=cK hb1 (cK (qBq) ga2);replace ga3:=cK hb1 (cK (qBq) ga3);replace ga4:=cK hb1 (cK (qBq) ga4);replace ga5:=cK hb1 (cK (qBq) ga5);clear hb1 hq;have HX:Hid (rF xs k=if gX l=0 then (if k=0 then 0 else if mE (xs.getD (k-1) default) l=true then 0 else 1) else gX l):=by show _=_;unfold rF;rw[←HLa.out]
  by_cases hf:gX l=0
  ·
   rw[hf];have HX2:Hid (rF xs k=if k=0 then 0 else if mE (xs.getD (k-1) default) l=true then 0 else 1):=by show _=_;rw[HX.out,if_pos hf]
   clear hf HX;cases k with
   | zero=>
    have H0:Hid (rF xs 0=0):=by show _=_;rw[HX2.out,if_pos rfl]
    clear HX2;clear ga0 ga1 ga2 ga3 ga4 ga5 hX;go_wp2;go_quiet (fail);go_wp2;exact⟨⟨1,by omega,by go_num,fD HS.out H0.out,cK (gG (Below.refl _ _) _) hq1,gG hB1 _⟩,by simp[intOf];omega⟩
   | succ p=>
    have hx:=hX.out;clear hX;have hxz:=hx p (by omega);obtain⟨bxz,oxz,uz,hez,_,pz,hvz⟩:=hxz;simp only[Option.some.injEq,Addr.mk.injEq,and_true] at hez;obtain⟨rfl,rfl⟩:=hez;obtain⟨z,hlz⟩:∃l,l=xs.getD p default:=⟨_,rfl⟩
    rw[←hlz] at hvz;have HLz:Hid (z=xs.getD p default):=hlz;clear hlz;have hVz:=hvz;obtain⟨sz,rfl,hcz⟩:=hvz;obtain⟨auz,cuz,rfl⟩:=pJ hcz;clear hcz;have gz0:w.cell? ⟨bxa,oxa+p*6,none⟩=some (.int .i64 z.con):=pz 0 (by omega);have gz1:w.cell? ⟨bxa,oxa+p*6+1,none⟩=some (.int .i64 z.sh):=pz 1 (by omega);have gz2:w.cell? ⟨bxa,oxa+p*6+2,none⟩=some (.int .i64 z.pr):=pz 2 (by omega);have gz3:w.cell? ⟨bxa,oxa+p*6+3,none⟩=some (.int .i64 z.lb):=pz 3 (by omega);have gz4:w.cell? ⟨bxa,oxa+p*6+4,none⟩=some (.int .i64 z.lv):=pz 4 (by omega);have gz5:w.cell? ⟨bxa,oxa+p*6+5,none⟩=some (.slice auz z.cast.length cuz):=pz 5 (by omega);clear pz;clear hx hVz;replace gz0:=cK hB1 gz0;replace gz1:=cK hB1 gz1;replace gz2:=cK hB1 gz2;replace gz3:=cK hB1 gz3;replace gz4:=cK hB1 gz4;replace gz5:=cK hB1 gz5;have i1:(p:Int)<(n:Int):=by omega
    have i2:((p+1:Nat):Int)<(n:Int):=by omega
    have i3:(0:Int)<((p+1:Nat):Int):=by omega
    have i4:decide (0<p+1)=true:=decide_eq_true (by omega);have i5:IntKind.i64.wrap (((p+1:Nat):Int)-1)=(p:Int):=by rw[IntKind.wrap_i64];omega
    have i6:(0:Int)≤((p+1:Nat):Int):=by omega
    have i7:(0:Int)≤(p:Int):=by omega
    have i8:(p:Int)+1<(n:Int):=by omega
    have i9:(0:Int)≤(p:Int)+1:=by omega
    have i10:((p:Int)+1).toNat=p+1:=by omega
    have w1':IntKind.i64.wrap (p:Int)=p:=gM (by omega) (by omega);have HX3:Hid (rF xs (p+1)=if mE z l=true then 0 else 1):=by show _=_;rw[HX2.out,if_neg (by omega),Nat.add_sub_cancel,←HLz.out]
    clear HX2;obtain⟨u,hu⟩:∃u:Value,u = .slice aua l.cast.length cua:=⟨_,rfl⟩
    obtain⟨u',hu'⟩:∃u:Value,u = .slice auz z.cast.length cuz:=⟨_,rfl⟩
    have rA:w1.cell? ⟨wr.heap.size,0,none⟩=some (.int .i64 l.con)∧w1.cell? ⟨wr.heap.size,0+1,none⟩=some (.int .i64 l.sh)∧w1.cell? ⟨wr.heap.size,0+2,none⟩=some (.int .i64 l.pr)∧w1.cell? ⟨wr.heap.size,0+3,none⟩=some (.int .i64 l.lb)∧w1.cell? ⟨wr.heap.size,0+4,none⟩=some (.int .i64 l.lv)∧w1.cell? ⟨wr.heap.size,0+5,none⟩=some (.slice aua l.cast.length cua):=⟨s0,s1,s2,s3,s4,s5⟩;have rZ:w1.cell? ⟨bxa,oxa+p*6,none⟩=some (.int .i64 z.con)∧w1.cell? ⟨bxa,oxa+p*6+1,none⟩=some (.int .i64 z.sh)∧w1.cell? ⟨bxa,oxa+p*6+2,none⟩=some (.int .i64 z.pr)∧w1.cell? ⟨bxa,oxa+p*6+3,none⟩=some (.int .i64 z.lb)∧w1.cell? ⟨bxa,oxa+p*6+4,none⟩=some (.int .i64 z.lv)∧w1.cell? ⟨bxa,oxa+p*6+5,none⟩=some (.slice auz z.cast.length cuz):=⟨gz0,gz1,gz2,gz3,gz4,gz5⟩;clear ga0 gz0 s0 ga1 gz1 s1 ga2 gz2 s2 ga3 gz3 s3 ga4 gz4 s4 ga5 gz5 s5 hu hu';cases hah:mE z l
    ·
     have hah':mE z l=false:=hah;have hge:decide (0≤cmpS z l)=true:=by unfold mE at hah;have h':=of_decide_eq_false hah;exact decide_eq_true (by omega)
     have hg2:0≤cmpS z l:=of_decide_eq_true hge;have HAH:Hid (mE z l=false):=hah';clear hah';go_wp2;go_region_held3 (fun W=>Below w1.heap.size w1 W∧(W.cell? ⟨wr.heap.size,0,none⟩=some (.int .i64 l.con)∧W.cell? ⟨wr.heap.size,0+1,none⟩=some (.int .i64 l.sh)∧W.cell? ⟨wr.heap.size,0+2,none⟩=some (.int .i64 l.pr)∧W.cell? ⟨wr.heap.size,0+3,none⟩=some (.int .i64 l.lb)∧W.cell? ⟨wr.heap.size,0+4,none⟩=some (.int .i64 l.lv)∧W.cell? ⟨wr.heap.size,0+5,none⟩=some (.slice aua l.cast.length cua))∧(W.cell? ⟨bxa,oxa+p*6,none⟩=some (.int .i64 z.con)∧W.cell? ⟨bxa,oxa+p*6+1,none⟩=some (.int .i64 z.sh)∧W.cell? ⟨bxa,oxa+p*6+2,none⟩=some (.int .i64 z.pr)∧W.cell? ⟨bxa,oxa+p*6+3,none⟩=some (.int .i64 z.lb)∧W.cell? ⟨bxa,oxa+p*6+4,none⟩=some (.int .i64 z.lv)∧W.cell? ⟨bxa,oxa+p*6+5,none⟩=some (.slice auz z.cast.length cuz))∧W.cell? ⟨w.heap.size,0,none⟩=some (.slice (some ⟨bxa,oxa,none⟩) n cx)) ((refine fB0 ?_ rA rZ hq1;repeat (first|exact bR _ _|assumption|refine bD ?_|refine bA ?_ _|refine bS ?_ (by assumption)))) (first|(go_at_call 219;refine(vL z l _ _ _).mono ?_;rintro e wa ⟨rfl,hb2⟩));rename_i hH;have hB2:=bS hB1 hH.1;have hq2:=hH.2.2.2;clear hH;have HC:Hid (accF xs=1):=HH.out (p+1) 1 hlt HS.out (by rw[HX3.out,HAH.out];rfl) (by omega);go_wp2;go_ret;exact⟨by rw[HC.out];rfl,hB2⟩
    have hah':mE z l=true:=hah;have hge:decide (0≤cmpS z l)=false:=by unfold mE at hah;have h':=of_decide_eq_true hah;exact decide_eq_false (by omega)
    have hg2:¬0≤cmpS z l:=of_decide_eq_false hge;have HAH:Hid (mE z l=true):=hah';clear hah';go_wp2;go_region_held3 (fun W=>Below w1.heap.size w1 W∧(W.cell? ⟨wr.heap.size,0,none⟩=some (.int .i64 l.con)∧W.cell? ⟨wr.heap.size,0+1,none⟩=some (.int .i64 l.sh)∧W.cell? ⟨wr.heap.size,0+2,none⟩=some (.int .i64 l.pr)∧W.cell? ⟨wr.heap.size,0+3,none⟩=some (.int .i64 l.lb)∧W.cell? ⟨wr.heap.size,0+4,none⟩=some (.int .i64 l.lv)∧W.cell? ⟨wr.heap.size,0+5,none⟩=some (.slice aua l.cast.length cua))∧(W.cell? ⟨bxa,oxa+p*6,none⟩=some (.int .i64 z.con)∧W.cell? ⟨bxa,oxa+p*6+1,none⟩=some (.int .i64 z.sh)∧W.cell? ⟨bxa,oxa+p*6+2,none⟩=some (.int .i64 z.pr)∧W.cell? ⟨bxa,oxa+p*6+3,none⟩=some (.int .i64 z.lb)∧W.cell? ⟨bxa,oxa+p*6+4,none⟩=some (.int .i64 z.lv)∧W.cell? ⟨bxa,oxa+p*6+5,none⟩=some (.slice auz z.cast.length cuz))∧W.cell? ⟨w.heap.size,0,none⟩=some (.slice (some ⟨bxa,oxa,none⟩) n cx)) ((refine fB0 ?_ rA rZ hq1;repeat (first|exact bR _ _|assumption|refine bD ?_|refine bA ?_ _|refine bS ?_ (by assumption)))) (first|(go_at_call 219;refine(vL z l _ _ _).mono ?_;rintro e wa ⟨rfl,hb2⟩));rename_i hH;have hB2:=bS hB1 hH.1;have hq2:=hH.2.2.2;clear hH;have H0:Hid (rF xs (p+1)=0):=by show _=_;rw[HX3.out,HAH.out];rfl
    go_wp2;exact⟨⟨p+1+1,by omega,by go_num,fD HS.out H0.out,hq2,hB2⟩,by simp[intOf];omega⟩
  have HC:Hid (accF xs=gX l):=HH.out k _ hlt HS.out (by rw[HX.out,if_neg hf]) hf;clear HX hX;generalize gX l=c at *;go_wp2;go_ret;exact⟨by rw[HC.out];rfl,hB1⟩
 have hkn:k=n:=by omega
 subst hkn;have HC:Hid (accF xs=0):=HE.out HS.out;go_wp2;go_ret;exact⟨by rw[HC.out];rfl,qBq⟩
end Go.Proofs.YtbfnobcidnmohaaGreat
namespace Go.Proofs.YtbfnobcidnmohaaGreat
open Go.RowKit
variable [DecidableEq Leg] [Inhabited Leg]
attribute [local go_sem ↓] Go.wp_at_zero Go.wp_at_succ
theorem fCb:Tryz.prog.eqGuardType Tryz.prog.depth 131=false:=by kernel_rfl
theorem fUc (o l:Leg) (w:World):(binOp .neq 131 (.agg #[.int .i64 o.sh,.int .i64 o.ac,.int .i64 o.ast,.int .i64 o.am]) (.agg #[.int .i64 l.sh,.int .i64 l.ac,.int .i64 l.ast,.int .i64 l.am])).run Tryz.prog w = .ok (.bool (!decide (o=l))) w:=by
 rw[run_neq_struct,run_equalIn_struct w 9999 131 _ _ (by kernel_rfl) (by kernel_rfl)];have hf : (Tryz.prog.fieldsOf 131).toList = [{ name := "Shard", type := 2, offset := 0, embedded := false, tag := "", pkgPath := "", byteOffset := 0 }, { name := "Account", type := 2, offset := 1, embedded := false, tag := "", pkgPath := "", byteOffset := 8 }, { name := "Asset", type := 2, offset := 2, embedded := false, tag := "", pkgPath := "", byteOffset := 16 }, { name := "Amount", type := 2, offset := 3, embedded := false, tag := "", pkgPath := "", byteOffset := 24 }] := by kernel_rfl
 rw[hf];obtain⟨a,b,c,d⟩:=o;obtain⟨a',b',c',d'⟩:=l;simp[Op.eqFields,go_sem];by_cases e1:a=a' <;> by_cases e2:b=b' <;> by_cases e3:c=c' <;> by_cases e4:d=d' <;> simp[e1,e2,e3,e4]
theorem fC5 (x y:Value) (xs ys:List Leg) (w:World) (hx:mJ w x xs) (hy:mJ w y ys) :
  Calls Tryz.prog 275 #[x,y] w fun e w'=>e = .returned (.bool (decide (xs=ys)))∧Below w.heap.size w w':=by
 obtain⟨ax,cx,rfl,hcx,hmx,hx⟩:=hx;obtain⟨ay,cy,rfl,hcy,hmy,hy⟩:=hy;unfold maxLen at hmx hmy;by_cases hl:ys.length=xs.length
 ·
  rw[hl] at hcy hy ⊢;have HL:Hid (ys.length=xs.length):=hl;clear hl;generalize hn:xs.length=n at *;have HN:Hid (xs.length=n):=hn;clear hn;go_enter Tryz.func275,Tryz.ntmps275;go_wp2;go_loopw [13] (fun i w'=>∃k:Nat,k≤n∧i = .int .i64 k∧(∀j,j<k→xs.getD j default=ys.getD j default)∧Below w.heap.size w w') (fun i _=>n-(intOf i).toNat)
  case atStart=>exact⟨0,Nat.zero_le _,rfl,fun j h=>absurd h (Nat.not_lt_zero _),Below.refl _ _⟩
  obtain⟨k,hk,rfl,hpre,hbl⟩:=hrel;have HP:Hid (∀j,j<k→xs.getD j default=ys.getD j default):=hpre;clear hpre;by_cases hlt:k<n
  ·
   obtain⟨bx,ox,rfl,h1⟩:=hx k hlt;obtain⟨b2,oy,rfl,h2⟩:=hy k hlt;obtain⟨l1,hl1⟩:∃l,l=xs.getD k default:=⟨_,rfl⟩
   obtain⟨l2,hl2⟩:∃l,l=ys.getD k default:=⟨_,rfl⟩
   rw[←hl1] at h1;rw[←hl2] at h2;have H1:Hid (l1=xs.getD k default):=hl1;have H2:Hid (l2=ys.getD k default):=hl2;clear hl1 hl2 hx hy;have heq:=fUc l1 l2;have hgd:=fCb;go_wp2;go_region_held3 (fun w'=>Below w.heap.size w w'∧(w'.cell? ⟨bx,ox+k*4,none⟩=some (.int .i64 l1.sh)∧w'.cell? ⟨bx,ox+k*4+1,none⟩=some (.int .i64 l1.ac)∧w'.cell? ⟨bx,ox+k*4+2,none⟩=some (.int .i64 l1.ast)∧w'.cell? ⟨bx,ox+k*4+3,none⟩=some (.int .i64 l1.am))∧(w'.cell? ⟨b2,oy+k*4,none⟩=some (.int .i64 l2.sh)∧w'.cell? ⟨b2,oy+k*4+1,none⟩=some (.int .i64 l2.ac)∧w'.cell? ⟨b2,oy+k*4+2,none⟩=some (.int .i64 l2.ast)∧w'.cell? ⟨b2,oy+k*4+3,none⟩=some (.int .i64 l2.am))) ((refine keep2 ?_ h1 h2;repeat (first|exact bR _ _|assumption|refine bD ?_|refine bA ?_ _|refine bS ?_ (by assumption)))) (fail);rename_i hH;have hB:=hH.1;clear hH heq hgd;go_wp2
   ·
    rename_i hle;go_ret;refine⟨?_,hB⟩;have:¬xs=ys:=fun h=>by
     have:l1=l2:=by rw[H1.out,H2.out,h]
     simp[this] at hle
    simp[this]
   rename_i hle;refine⟨⟨k+1,by omega,by go_num,fun j hj=>?_,hB⟩,by simp[intOf];omega⟩;by_cases hjk:j<k
   ·
    exact HP.out j hjk
   have:j=k:=by omega
   subst this;rw[←H1.out,←H2.out];simpa using hle
  go_wp2;go_ret;have:k=n:=by omega
  subst this;refine⟨?_,hbl⟩;have:xs=ys:=fAq (by rw[HL.out,HN.out]) (by rw[HN.out];exact HP.out);simp[this]
 go_enter Tryz.func275,Tryz.ntmps275;have hl':((xs.length:Int)==(ys.length:Int))=false:=by simp;omega
 go_wp2;go_ret;have:¬xs=ys:=fun h=>hl (by rw[h])
 exact⟨by simp[this],Below.refl _ _⟩
theorem fHv (id id':Int) (x y:Value) (xs ys:List Leg) (w:World) (hx:mJ w x xs) (hy:mJ w y ys) :
  Calls Tryz.prog 217 #[.agg #[.int .i64 id,x],.agg #[.int .i64 id',y]] w fun e w'=>e = .returned (.bool (decide (id=id'∧xs=ys)))∧Below w.heap.size w w':=by
 by_cases hid:id=id'
 ·
  have hd:(id==id')=true:=by simp[hid]
  have HI:Hid (id=id'):=hid;clear hid;go_enter Tryz.func217,Tryz.ntmps217;go_wp2_with fail;refine(fC5 x y xs ys _ (kU hx (bA (bA (Below.refl _ _) _) _)) (kU hy (bA (bA (Below.refl _ _) _) _))).mono ?_;rintro e w1 ⟨rfl,hb⟩;go_wp2;go_ret;exact⟨by simp[HI.out],bS (bA (bA (Below.refl _ _) _) _) hb⟩
 have hd:(id==id')=false:=by simp[hid]
 go_enter Tryz.func217,Tryz.ntmps217;go_wp2;go_ret;exact⟨by simp[hid],bA (bA (Below.refl _ _) _) _⟩
theorem fIz (id id':Int) (x y:Value) (xs ys:List Leg) (w:World) (hx:mJ w x xs) (hy:mJ w y ys) :
  Calls Tryz.prog 121 #[.agg #[.int .i64 id,x],.agg #[.int .i64 id',y]] w fun e w'=>e = .returned (.bool (decide (id=id'∧xs=ys)))∧Below w.heap.size w w':=by
 obtain⟨ax,cx,rfl,hcx,hmx,hx⟩:=hx;obtain⟨ay,cy,rfl,hcy,hmy,hy⟩:=hy;unfold maxLen at hmx hmy;by_cases hid:id=id'
 ·
  have hd:(id==id')=true:=by simp[hid]
  have HI:Hid (id=id'):=hid;clear hid;by_cases hl:ys.length=xs.length
  ·
   rw[hl] at hcy hy ⊢;have HL:Hid (ys.length=xs.length):=hl;clear hl;generalize hn:xs.length=n at *;have HN:Hid (xs.length=n):=hn;clear hn;go_enter Tryz.func121,Tryz.ntmps121;go_wp2;go_loopw [5] (fun i w'=>∃k:Nat,k≤n∧i = .int .i64 k∧(∀j,j<k→xs.getD j default=ys.getD j default)∧w'.cell? ⟨w.heap.size,1,none⟩=some (.slice ax n cx)∧w'.cell? ⟨w.heap.size+1,1,none⟩=some (.slice ay n cy)∧Below w.heap.size w w') (fun i _=>n-(intOf i).toNat)
   case atStart=>exact⟨0,Nat.zero_le _,rfl,fun j h=>absurd h (Nat.not_lt_zero _),by simp[go_sem],by simp[go_sem],bA (bA (Below.refl _ _) _) _⟩
   obtain⟨k,hk,rfl,hpre,e1,e2,hbl⟩:=hrel;have HP:Hid (∀j,j<k→xs.getD j default=ys.getD j default):=hpre;clear hpre;by_cases hlt:k<n
   ·
    obtain⟨bx,ox,rfl,h1⟩:=hx k hlt;obtain⟨b2,oy,rfl,h2⟩:=hy k hlt;obtain⟨l1,hl1⟩:∃l,l=xs.getD k default:=⟨_,rfl⟩
    obtain⟨l2,hl2⟩:∃l,l=ys.getD k default:=⟨_,rfl⟩
    rw[←hl1] at h1;rw[←hl2] at h2;have H1:Hid (l1=xs.getD k default):=hl1;have H2:Hid (l2=ys.getD k default):=hl2;clear hl1 hl2 hx hy;have heq:=fUc l1 l2;have hgd:=fCb;have h1':=fF hbl h1;have h2':=fF hbl h2;go_wp2;go_region_held3 (fun w'=>(Below wr.heap.size wr w'∧(w'.cell? ⟨bx,ox+k*4,none⟩=some (.int .i64 l1.sh)∧w'.cell? ⟨bx,ox+k*4+1,none⟩=some (.int .i64 l1.ac)∧w'.cell? ⟨bx,ox+k*4+2,none⟩=some (.int .i64 l1.ast)∧w'.cell? ⟨bx,ox+k*4+3,none⟩=some (.int .i64 l1.am))∧(w'.cell? ⟨b2,oy+k*4,none⟩=some (.int .i64 l2.sh)∧w'.cell? ⟨b2,oy+k*4+1,none⟩=some (.int .i64 l2.ac)∧w'.cell? ⟨b2,oy+k*4+2,none⟩=some (.int .i64 l2.ast)∧w'.cell? ⟨b2,oy+k*4+3,none⟩=some (.int .i64 l2.am)))∧(Below wr.heap.size wr w'∧w'.cell? ⟨w.heap.size,1,none⟩=some (.slice (some ⟨bx,ox,none⟩) n cx)∧w'.cell? ⟨w.heap.size+1,1,none⟩=some (.slice (some ⟨b2,oy,none⟩) n cy))) ((refine⟨keep2 ?_ h1' h2',fT8 ?_ e1 e2⟩;all_goals (repeat (first|exact bR _ _|assumption|refine bD ?_|refine bA ?_ _|refine bS ?_ (by assumption))))) (fail);rename_i hH;have hB:=bS hbl hH.1.1;have e1':=hH.2.2.1;have e2':=hH.2.2.2;clear hH heq hgd;go_wp2
    ·
     rename_i hle;go_ret;refine⟨?_,hB⟩;have:¬xs=ys:=fun h=>by
      have:l1=l2:=by rw[H1.out,H2.out,h]
      simp[this] at hle
     simp[this]
    rename_i hle;refine⟨⟨k+1,by omega,by go_num,fun j hj=>?_,e1',e2',hB⟩,by simp[intOf];omega⟩;by_cases hjk:j<k
    ·
     exact HP.out j hjk
    have:j=k:=by omega
    subst this;rw[←H1.out,←H2.out];simpa using hle
   go_wp2;go_ret;have:k=n:=by omega
   subst this;refine⟨?_,hbl⟩;have:xs=ys:=fAq (by rw[HL.out,HN.out]) (by rw[HN.out];exact HP.out);simp[this,HI.out]
  have hl':((xs.length:Int)==(ys.length:Int))=false:=by simp;omega
  go_enter Tryz.func121,Tryz.ntmps121;go_wp2;go_ret;have:¬xs=ys:=fun h=>hl (by rw[h])
  exact⟨by simp[this],bA (bA (Below.refl _ _) _) _⟩
 have hd:(id==id')=false:=by simp[hid]
 go_enter Tryz.func121,Tryz.ntmps121;go_wp2;go_ret;exact⟨by simp[hid],bA (bA (Below.refl _ _) _) _⟩
variable [DecidableEq Cont] [Inhabited Cont] [DecidableEq Bal] [Inhabited Bal] [DecidableEq Mrk] [Inhabited Mrk] [DecidableEq Shd] [Inhabited Shd] [DecidableEq Vot] [Inhabited Vot] [DecidableEq Slt] [Inhabited Slt] [DecidableEq Acc] [Inhabited Acc] [DecidableEq Trr] [Inhabited Trr] [DecidableEq Hrd] [Inhabited Hrd] [DecidableEq Ldr] [Inhabited Ldr] [DecidableEq Msg] [Inhabited Msg] [DecidableEq Clu] [Inhabited Clu] [DecidableEq Ledg] [Inhabited Ledg] [DecidableEq SltR] [Inhabited SltR] [DecidableEq AccR] [Inhabited AccR] [DecidableEq AccsR] [Inhabited AccsR] [DecidableEq SltsR] [Inhabited SltsR] [DecidableEq Rw] [Inhabited Rw] [DecidableEq LedgR] [Inhabited LedgR] [DecidableEq OutcR] [Inhabited OutcR] [DecidableEq ShdR] [Inhabited ShdR]
theorem fI1 (x:Value) (c:Clu) (B C:Nat) (m:Mrk) (s:Int) (w:World) (a0 a1 a2 a3 a4:Option Addr) (n0 n1 n2 n3 n4 c0 c1 c2 c3 c4:Nat) (hx:cluR.V w (.agg #[.slice a0 n0 c0,.slice a1 n1 c1,.slice a2 n2 c2,.slice a3 n3 c3,.slice a4 n4 c4]) c) (y:w.cell? ⟨B,0,none⟩=some (.slice a0 n0 c0)∧w.cell? ⟨B,1,none⟩=some (.slice a1 n1 c1)∧w.cell? ⟨B,2,none⟩=some (.slice a2 n2 c2)∧w.cell? ⟨B,3,none⟩=some (.slice a3 n3 c3)∧w.cell? ⟨B,4,none⟩=some (.slice a4 n4 c4)) (z:w.cell? ⟨C,0,none⟩=some (.int .i64 s)) :
  Calls Tryz.prog 214 #[mrkV m,.pointer (some ⟨B,0,none⟩),.pointer (some ⟨C,0,none⟩)] w fun e w'=>e = .returned (.bool (!hasL c m.con s))∧Below w.heap.size w w':=by
 have HP:Hid (∀W,Below w.heap.size w W→Calls Tryz.prog 151 #[.agg #[.slice a0 n0 c0,.slice a1 n1 c1,.slice a2 n2 c2,.slice a3 n3 c3,.slice a4 n4 c4],.int .i64 m.con,.int .i64 s] W fun e w'=>e = .returned (.bool (hasL c m.con s))∧Below W.heap.size W w'):=fun W hW=>vD _ c _ _ W (cluR.below hx hW)
 clear hx;obtain⟨y0,y1,y2,y3,y4⟩:=y;have zB:B<w.heap.size:=wL w _ y0;have zC:C<w.heap.size:=wL w _ z;generalize hasL c m.con s=b at *;unfold mrkV;go_enter Tryz.func214,Tryz.ntmps214;go_wp2_with fail;refine(HP.out _ (qBq)).mono ?_;rintro e w1 ⟨rfl,hb1⟩;have hB1:Below w.heap.size w w1:=qBq;clear hb1 HP;cases b;all_goals
  go_wp2;go_ret;exact⟨rfl,hB1⟩
theorem fI2 (c:Clu) (B:Nat) (l:Cont) (item:Value) (w:World) (a0 a1 a2 a3 a4:Option Addr) (n0 n1 n2 n3 n4 c0 c1 c2 c3 c4:Nat) (hx:cluR.V w (.agg #[.slice a0 n0 c0,.slice a1 n1 c1,.slice a2 n2 c2,.slice a3 n3 c3,.slice a4 n4 c4]) c) (y:w.cell? ⟨B,0,none⟩=some (.slice a0 n0 c0)∧w.cell? ⟨B,1,none⟩=some (.slice a1 n1 c1)∧w.cell? ⟨B,2,none⟩=some (.slice a2 n2 c2)∧w.cell? ⟨B,3,none⟩=some (.slice a3 n3 c3)∧w.cell? ⟨B,4,none⟩=some (.slice a4 n4 c4)) (hi:contR.V w item l) :
  Calls Tryz.prog 216 #[item,.pointer (some ⟨B,0,none⟩)] w fun e w'=>e = .returned (.bool (!pG c l))∧Below w.heap.size w w':=by
 obtain⟨u,rfl,hl⟩:=hi;have HL:Hid (∀W,Below w.heap.size w W→legsR.V W u l.legs):=fun W hW=>legsR.below hl hW
 have HSu:Hid (∀W,Below w.heap.size w W→Calls Tryz.prog 104 #[.agg #[.slice a0 n0 c0,.slice a1 n1 c1,.slice a2 n2 c2,.slice a3 n3 c3,.slice a4 n4 c4],.int .i64 l.id] W (SubE c.cons l.id W)):=fun W hW=>fDb _ c l.id W (cluR.below hx hW)
 obtain⟨p,q,rfl⟩:=rH hl;clear hx hl;obtain⟨y0,y1,y2,y3,y4⟩:=y;have zB:B<w.heap.size:=wL w _ y0;have H1:Hid (fE c.cons l.id<c.cons.length→pG c l=decide ((c.cons.getD (fE c.cons l.id) default).id=l.id∧(c.cons.getD (fE c.cons l.id) default).legs=l.legs)):=fun h=>by unfold pG;rw[decide_eq_true h];rfl
 have H2:Hid (¬fE c.cons l.id<c.cons.length→pG c l=false):=fun h=>by unfold pG;rw[decide_eq_false h];rfl
 generalize pG c l=R at *;go_enter Tryz.func216,Tryz.ntmps216;go_wp2_with fail;refine(HSu.out _ (qBq)).mono ?_;rintro e w1 ⟨hb1,hr⟩;have hB1:Below w.heap.size w w1:=qBq;have x0:w1.cell? ⟨w.heap.size,0,none⟩=some (.int .i64 l.id):=cK hb1 (by simp[go_sem]);have x1:w1.cell? ⟨w.heap.size,1,none⟩=some (.slice p l.legs.length q):=cK hb1 (by simp[go_sem]);have zx:w.heap.size<w1.heap.size:=wL w1 _ x0;clear hb1 HSu y0 y1 y2 y3 y4;rcases hr with ⟨hlt,p1,q1,rfl,hlv⟩|⟨hlt,rfl⟩
 ·
  have HC:Hid _:=H1.out hlt;have HSa:Hid (∀W,Below w1.heap.size w1 W→Calls Tryz.prog 217 #[.agg #[.int .i64 (c.cons.getD (fE c.cons l.id) default).id,.slice p1 (c.cons.getD (fE c.cons l.id) default).legs.length q1],.agg #[.int .i64 l.id,.slice p l.legs.length q]] W fun e w'=>e = .returned (.bool (decide ((c.cons.getD (fE c.cons l.id) default).id=l.id∧(c.cons.getD (fE c.cons l.id) default).legs=l.legs)))∧Below W.heap.size W w'):=fun W hW=>fHv _ _ _ _ _ _ W (legsR.below hlv hW) (HL.out W (bS hB1 hW))
  clear H1 H2 hlt hlv HL;generalize c.cons.getD (fE c.cons l.id) default=k at *;generalize decide (k.id=l.id∧k.legs=l.legs)=b at *;generalize k.legs.length=m1 at *;generalize l.legs.length=m2 at *;generalize k.id=i1 at *;generalize l.id=i2 at *;go_wp2_with fail;refine(HSa.out _ (qBq)).mono ?_;rintro e w2 ⟨rfl,hb2⟩;have hB2:Below w.heap.size w w2:=bS (qBq) hb2;clear hb2 HSa;obtain rfl:R=b:=HC.out;cases R;all_goals
   go_wp2;go_ret;exact⟨rfl,hB2⟩
 obtain rfl:R=false:=H2.out hlt;clear H1 H2 hlt HL;go_wp2;go_ret;exact⟨rfl,qBq⟩
theorem fIs (c:Clu) (B:Nat) (s:Slt) (u:Value) (w:World) (a0 a1 a2 a3 a4:Option Addr) (n0 n1 n2 n3 n4 c0 c1 c2 c3 c4:Nat) (hx:cluR.V w (.agg #[.slice a0 n0 c0,.slice a1 n1 c1,.slice a2 n2 c2,.slice a3 n3 c3,.slice a4 n4 c4]) c) (y:w.cell? ⟨B,0,none⟩=some (.slice a0 n0 c0)∧w.cell? ⟨B,1,none⟩=some (.slice a1 n1 c1)∧w.cell? ⟨B,2,none⟩=some (.slice a2 n2 c2)∧w.cell? ⟨B,3,none⟩=some (.slice a3 n3 c3)∧w.cell? ⟨B,4,none⟩=some (.slice a4 n4 c4)) :
  Calls Tryz.prog 150 #[.agg #[.int .i64 s.con,.int .i64 s.sh,.int .i64 s.pr,.int .i64 s.lb,.int .i64 s.lv,u],.pointer (some ⟨B,0,none⟩)] w fun e w'=>e = .returned (.bool (!hasL c s.con s.sh))∧Below w.heap.size w w':=by
 have HP:Hid (∀W,Below w.heap.size w W→Calls Tryz.prog 151 #[.agg #[.slice a0 n0 c0,.slice a1 n1 c1,.slice a2 n2 c2,.slice a3 n3 c3,.slice a4 n4 c4],.int .i64 s.con,.int .i64 s.sh] W fun e w'=>e = .returned (.bool (hasL c s.con s.sh))∧Below W.heap.size W w'):=fun W hW=>vD _ c _ _ W (cluR.below hx hW)
 clear hx;obtain⟨y0,y1,y2,y3,y4⟩:=y;have zB:B<w.heap.size:=wL w _ y0;generalize hasL c s.con s.sh=b at *;go_enter Tryz.func150,Tryz.ntmps150;go_wp2_with fail;refine(HP.out _ (qBq)).mono ?_;rintro e w1 ⟨rfl,hb1⟩;have hB1:Below w.heap.size w w1:=qBq;clear hb1 HP;cases b;all_goals
  go_wp2;go_ret;exact⟨rfl,hB1⟩
theorem ykeep {w W:World} {B:Nat} {a0 a1 a2 a3 a4:Option Addr} {n0 n1 n2 n3 n4 c0 c1 c2 c3 c4:Nat} (h:Below w.heap.size w W) (y:w.cell? ⟨B,0,none⟩=some (.slice a0 n0 c0)∧w.cell? ⟨B,1,none⟩=some (.slice a1 n1 c1)∧w.cell? ⟨B,2,none⟩=some (.slice a2 n2 c2)∧w.cell? ⟨B,3,none⟩=some (.slice a3 n3 c3)∧w.cell? ⟨B,4,none⟩=some (.slice a4 n4 c4)):W.cell? ⟨B,0,none⟩=some (.slice a0 n0 c0)∧W.cell? ⟨B,1,none⟩=some (.slice a1 n1 c1)∧W.cell? ⟨B,2,none⟩=some (.slice a2 n2 c2)∧W.cell? ⟨B,3,none⟩=some (.slice a3 n3 c3)∧W.cell? ⟨B,4,none⟩=some (.slice a4 n4 c4):=⟨cK h y.1,cK h y.2.1,cK h y.2.2.1,cK h y.2.2.2.1,cK h y.2.2.2.2⟩
theorem fQn (x y:Value) (c:Clu) (s:Shd) (w:World) (hx:cluR.V w x c) (hy:shdR.V w y s) :
  Calls Tryz.prog 147 #[x,y] w fun e w'=>e = .returned (.bool (qP c s))∧Below w.heap.size w w':=by
 have HV:Hid (∀W,Below w.heap.size w W→cluR.V W x c):=fun W hW=>cluR.below hx hW
 obtain⟨a0,a1,a2,a3,a4,c0,c1,c2,c3,c4,n0,n1,n2,n3,n4,rfl,e0,e1,e2,e3,e4,L0,L1,L2,L3,L4⟩:=gL hx;clear e0 e1 e2 e3 e4 L0 L1 L2 L3 L4 hx;obtain⟨u1,u2,u3,u4,u5,rfl,g1,g2,g3,g4,g5⟩:=hy;obtain⟨p1,q1,rfl⟩:=fJ g1;obtain⟨p2,q2,rfl⟩:=fK g2;obtain⟨p3,q3,rfl⟩:=fZ g3;obtain⟨p4,q4,rfl⟩:=fK g4;obtain⟨p5,q5,rfl⟩:=gT g5;have eg1:=enters_of Tryz.func214 (by kernel_rfl) rfl;have eg2:=enters_of Tryz.func216 (by kernel_rfl) rfl;have HCM:Hid (∀(v:Value) (ms:List Mrk) (W:World),Below w.heap.size w W→mrksR.V W v ms→(W.cell? ⟨w.heap.size,0,none⟩=some (.slice a0 n0 c0)∧W.cell? ⟨w.heap.size,1,none⟩=some (.slice a1 n1 c1)∧W.cell? ⟨w.heap.size,2,none⟩=some (.slice a2 n2 c2)∧W.cell? ⟨w.heap.size,3,none⟩=some (.slice a3 n3 c3)∧W.cell? ⟨w.heap.size,4,none⟩=some (.slice a4 n4 c4))→W.cell? ⟨w.heap.size+1,0,none⟩=some (.int .i64 s.idx)→Calls Tryz.prog 215 #[v,.func (.func 214) #[] #[.pointer (some ⟨w.heap.size,0,none⟩),.pointer (some ⟨w.heap.size+1,0,none⟩)]] W fun e w'=>e = .returned (.bool (strange c s.idx ms))∧Below W.heap.size W w'):=fun v ms W hW hv hY hz=>fDq 214 _ _ (fun m=>!hasL c m.con s.idx) v ms W hv eg1 (fun k W' hk hW'=>fI1 (.int .i64 0) c _ _ _ _ W' a0 a1 a2 a3 a4 n0 n1 n2 n3 n4 c0 c1 c2 c3 c4 (HV.out W' (bS hW hW')) (ykeep hW' hY) (cK hW' hz))
 have HCC:Hid (∀(v:Value) (W:World),Below w.heap.size w W→contsR.V W v s.held→(W.cell? ⟨w.heap.size,0,none⟩=some (.slice a0 n0 c0)∧W.cell? ⟨w.heap.size,1,none⟩=some (.slice a1 n1 c1)∧W.cell? ⟨w.heap.size,2,none⟩=some (.slice a2 n2 c2)∧W.cell? ⟨w.heap.size,3,none⟩=some (.slice a3 n3 c3)∧W.cell? ⟨w.heap.size,4,none⟩=some (.slice a4 n4 c4))→Calls Tryz.prog 33 #[v,.func (.func 216) #[] #[.pointer (some ⟨w.heap.size,0,none⟩)]] W fun e w'=>e = .returned (.bool (vV c s.held))∧Below W.heap.size W w'):=fun v W hW hv hY=>fDp 216 _ (fun l=>!pG c l) v s.held W hv eg2 (fun k W' hk hW' item hi=>fI2 c _ _ item W' a0 a1 a2 a3 a4 n0 n1 n2 n3 n4 c0 c1 c2 c3 c4 (HV.out W' (bS hW hW')) (ykeep hW' hY) hi)
 have G2:Hid (∀W,Below w.heap.size w W→mrksR.V W (.slice p2 s.votes.length q2) s.votes):=fun W hW=>mrksR.below g2 hW
 have G3:Hid (∀W,Below w.heap.size w W→contsR.V W (.slice p3 s.held.length q3) s.held):=fun W hW=>contsR.below g3 hW
 have G4:Hid (∀W,Below w.heap.size w W→mrksR.V W (.slice p4 s.done.length q4) s.done):=fun W hW=>mrksR.below g4 hW
 clear g1 g2 g3 g4 g5 eg1 eg2;have HK:Hid (qP c s=(!strange c s.idx s.votes&&(!strange c s.idx s.done && !vV c s.held))):=rfl;generalize qP c s=R at *;go_enter Tryz.func147,Tryz.ntmps147;go_wp2_with fail;refine(HCM.out _ s.votes _ (qBq) (G2.out _ (qBq)) ⟨by simp[go_sem],by simp[go_sem],by simp[go_sem],by simp[go_sem],by simp[go_sem]⟩ (by simp[go_sem])).mono ?_;rintro e w1 ⟨rfl,hb1⟩;have hB1:Below w.heap.size w w1:=qBq;have Y1:w1.cell? ⟨w.heap.size,0,none⟩=some (.slice a0 n0 c0)∧w1.cell? ⟨w.heap.size,1,none⟩=some (.slice a1 n1 c1)∧w1.cell? ⟨w.heap.size,2,none⟩=some (.slice a2 n2 c2)∧w1.cell? ⟨w.heap.size,3,none⟩=some (.slice a3 n3 c3)∧w1.cell? ⟨w.heap.size,4,none⟩=some (.slice a4 n4 c4):=⟨cK hb1 (by simp[go_sem]),cK hb1 (by simp[go_sem]),cK hb1 (by simp[go_sem]),cK hb1 (by simp[go_sem]),cK hb1 (by simp[go_sem])⟩;have z0:w1.cell? ⟨w.heap.size+1,0,none⟩=some (.int .i64 s.idx):=cK hb1 (by simp[go_sem]);have z3:w1.cell? ⟨w.heap.size+1,3,none⟩=some (.slice p3 s.held.length q3):=cK hb1 (by simp[go_sem]);have z4:w1.cell? ⟨w.heap.size+1,4,none⟩=some (.slice p4 s.done.length q4):=cK hb1 (by simp[go_sem]);clear hb1;cases hv:strange c s.idx s.votes;rotate_left
 ·
  have HC:Hid (R=false):=by show _=_;rw[HK.out,hv];rfl
  go_wp2;go_ret;exact⟨by rw[HC.out];rfl,hB1⟩
 have HK1:Hid (R=(!strange c s.idx s.done && !vV c s.held)):=by show _=_;rw[HK.out,hv];rfl
 clear HK hv;go_wp2_with fail;refine(HCM.out _ s.done _ (qBq) (G4.out _ (qBq)) (by first|exact Y1|exact ykeep (qBq) Y1) (by first|exact z0|exact cK (qBq) z0)).mono ?_;rintro e w2 ⟨rfl,hb2⟩;have hB2:Below w.heap.size w w2:=bS (qBq) hb2;replace Y1:w2.cell? ⟨w.heap.size,0,none⟩=some (.slice a0 n0 c0)∧w2.cell? ⟨w.heap.size,1,none⟩=some (.slice a1 n1 c1)∧w2.cell? ⟨w.heap.size,2,none⟩=some (.slice a2 n2 c2)∧w2.cell? ⟨w.heap.size,3,none⟩=some (.slice a3 n3 c3)∧w2.cell? ⟨w.heap.size,4,none⟩=some (.slice a4 n4 c4):=ykeep hb2 (by first|exact Y1|exact ykeep (qBq) Y1);replace z3:=cK hb2 (by first|exact z3|exact cK (qBq) z3);clear hb2 z4 z0;cases hd:strange c s.idx s.done;rotate_left
 ·
  have HC:Hid (R=false):=by show _=_;rw[HK1.out,hd];rfl
  go_wp2;go_ret;exact⟨by rw[HC.out];rfl,hB2⟩
 have HK2:Hid (R = !vV c s.held):=by show _=_;rw[HK1.out,hd];rfl
 clear HK1 hd;go_wp2_with fail;refine(HCC.out _ _ (qBq) (G3.out _ (qBq)) (by first|exact Y1|exact ykeep (qBq) Y1)).mono ?_;rintro e w3 ⟨rfl,hb3⟩;have hB3:Below w.heap.size w w3:=bS (qBq) hb3;clear hb3;generalize vV c s.held=hq at *;cases hq;all_goals
  go_wp2;go_ret;exact⟨by rw[HK2.out];rfl,hB3⟩
theorem fK9 (x:Value) (c:Clu) (w:World) (hx:cluR.V w x c) :
  Calls Tryz.prog 78 #[x] w fun e w'=>e = .returned (.int .i64 (uL c))∧Below w.heap.size w w':=by
 have HV:Hid (∀W,Below w.heap.size w W→cluR.V W x c):=fun W hW=>cluR.below hx hW
 have hx':=hx;obtain⟨a0,a1,a2,a3,a4,c0,c1,c2,c3,c4,n0,n1,n2,n3,n4,rfl,e0,e1,e2,e3,e4,L0,L1,L2,L3,L4⟩:=gL hx;obtain⟨u1,u2,u3,u4,u5,eq,h1,h2,h3,h4,h5⟩:=hx';simp only[Value.agg.injEq,Array.mk.injEq,List.cons.injEq,and_true] at eq;obtain⟨rfl,rfl,rfl,rfl,rfl⟩:=eq;obtain⟨_,hnc,hmc,HA⟩:=fC4 h2;unfold maxLen at hmc;have HX:Hid _:=HA;clear HA h1 h2 h3 h4 h5 hx;have H1:Hid (∀k,k<n1→fC (qU c) k=0→¬qU c k=0→uL c=qU c k):=fun k hk hs h0=>by unfold uL;exact fH hs h0 _ (by rw[e1];exact hk)
 have H2:Hid (fC (qU c) n1=0→uL c=0):=fun h=>by unfold uL;rw[e1];exact h
 clear e0 e1 e2 e3 e4 L0 L2 L3 L4;generalize uL c=R at *;go_enter Tryz.func78,Tryz.ntmps78;go_wp2;go_loopw [9] (fun i w'=>∃k:Nat,k≤n1∧i = .int .i64 k∧Hid (fC (qU c) k=0)∧(w'.cell? ⟨w.heap.size,0,none⟩=some (.slice a0 n0 c0)∧w'.cell? ⟨w.heap.size,1,none⟩=some (.slice a1 n1 c1)∧w'.cell? ⟨w.heap.size,2,none⟩=some (.slice a2 n2 c2)∧w'.cell? ⟨w.heap.size,3,none⟩=some (.slice a3 n3 c3)∧w'.cell? ⟨w.heap.size,4,none⟩=some (.slice a4 n4 c4))∧Below w.heap.size w w') (fun i _=>n1-(intOf i).toNat)
 case atStart=>exact⟨0,Nat.zero_le _,rfl,rfl,⟨by simp[go_sem],by simp[go_sem],by simp[go_sem],by simp[go_sem],by simp[go_sem]⟩,qBq⟩
 obtain⟨k,hk,rfl,HS,⟨y0,y1,y2,y3,y4⟩,hbl⟩:=hrel;have zq:w.heap.size<wr.heap.size:=wL wr _ y0;by_cases hlt:k<n1
 ·
  have HA:=HX.out k hlt;have HH:Hid (¬qU c k=0→R=qU c k):=fun h=>H1.out k hlt HS.out h
  have HZ:Hid (qU c k=0→fC (qU c) (k+1)=0):=fun h=>fD HS.out h
  have HD:Hid (qU c k=orF (shdF (c.shards.getD k default)) (if (c.shards.getD k default).idx=(k:Int)∧qP c (c.shards.getD k default)=true then 0 else 1)):=rfl;obtain⟨s,hs0⟩:∃s,s=c.shards.getD k default:=⟨_,rfl⟩
  rw[←hs0] at HA HD;clear hs0;obtain⟨b,o,v1,v2,v3,v4,v5,rfl,g0,g1,g2,g3,g4,g5,hv⟩:=HA;have HF:Hid (∀W,Below w.heap.size w W→Calls Tryz.prog 146 #[.agg #[.int .i64 s.idx,v1,v2,v3,v4,v5]] W fun e w'=>e = .returned (.int .i64 (shdF s))∧Below W.heap.size W w'):=fun W hW=>fHw _ s W (shdR.below hv hW)
  have HKn:Hid (∀W,Below w.heap.size w W→Calls Tryz.prog 147 #[.agg #[.slice a0 n0 c0,.slice (some ⟨b,o,none⟩) n1 c1,.slice a2 n2 c2,.slice a3 n3 c3,.slice a4 n4 c4],.agg #[.int .i64 s.idx,v1,v2,v3,v4,v5]] W fun e w'=>e = .returned (.bool (qP c s))∧Below W.heap.size W w'):=fun W hW=>fQn _ _ c s W (HV.out W hW) (shdR.below hv hW)
  obtain⟨_,_,_,_,_,eq,f1,f2,f3,f4,f5⟩:=hv;simp only[Value.agg.injEq,Array.mk.injEq,List.cons.injEq,and_true,true_and] at eq;obtain⟨rfl,rfl,rfl,rfl,rfl⟩:=eq;obtain⟨p1,q1,rfl⟩:=fJ f1;obtain⟨p2,q2,rfl⟩:=fK f2;obtain⟨p3,q3,rfl⟩:=fZ f3;obtain⟨p4,q4,rfl⟩:=fK f4;obtain⟨p5,q5,rfl⟩:=gT f5;clear f1 f2 f3 f4 f5;replace g0:=cK hbl g0;replace g1:=cK hbl g1;replace g2:=cK hbl g2;replace g3:=cK hbl g3;replace g4:=cK hbl g4;replace g5:=cK hbl g5;have zb:b<wr.heap.size:=wL wr _ g0;have hti:(k:Int)<(n1:Int):=by omega
  generalize qU c k=z at *;generalize qP c s=kn at *;generalize shdF s=sf at *;generalize s.bals.length=l1 at *;generalize s.votes.length=l2 at *;generalize s.held.length=l3 at *;generalize s.done.length=l4 at *;generalize s.appl.length=l5 at *;generalize s.idx=ix at *;go_wp2_with fail;refine(HF.out _ (qBq)).mono ?_;rintro e w1 ⟨rfl,hb1⟩;have hB1:Below w.heap.size w w1:=bS (qBq) hb1;have t0:w1.cell? ⟨wr.heap.size,0,none⟩=some (.int .i64 ix):=cK hb1 (by simp[go_sem]);have t1:w1.cell? ⟨wr.heap.size,1,none⟩=some (.slice p1 l1 q1):=cK hb1 (by simp[go_sem]);have t2:w1.cell? ⟨wr.heap.size,2,none⟩=some (.slice p2 l2 q2):=cK hb1 (by simp[go_sem]);have t3:w1.cell? ⟨wr.heap.size,3,none⟩=some (.slice p3 l3 q3):=cK hb1 (by simp[go_sem]);have t4:w1.cell? ⟨wr.heap.size,4,none⟩=some (.slice p4 l4 q4):=cK hb1 (by simp[go_sem]);have t5:w1.cell? ⟨wr.heap.size,5,none⟩=some (.slice p5 l5 q5):=cK hb1 (by simp[go_sem]);replace y0:=cK hb1 (cK (qBq) y0);replace y1:=cK hb1 (cK (qBq) y1);replace y2:=cK hb1 (cK (qBq) y2);replace y3:=cK hb1 (cK (qBq) y3);replace y4:=cK hb1 (cK (qBq) y4);have zw1:wr.heap.size<w1.heap.size:=wL w1 _ t0;clear hb1 HF g0 g1 g2 g3 g4 g5;by_cases hsf:sf=0;rotate_left
  ·
   have hz:z=sf:=by rw[HD.out,xG hsf]
   have HC:Hid (R=sf):=by show _=_;rw[←hz];exact HH.out (by rw[hz];exact hsf)
   have hsf':(sf !=0)=true:=by simp[hsf]
   clear HH HZ HD hz;go_wp2;go_ret;exact⟨by rw[HC.out];rfl,hB1⟩
  subst hsf;have HD2:Hid (z=if ix=(k:Int)∧kn=true then 0 else 1):=by show _=_;rw[HD.out,vI rfl]
  clear HD;by_cases hix:ix=(k:Int);rotate_left
  ·
   have hz:z=1:=by rw[HD2.out,if_neg (fun h=>hix h.1)]
   have HC:Hid (R=1):=by show _=_;rw[←hz];exact HH.out (by rw[hz];omega)
   have hix':(ix !=(k:Int))=true:=by simp[hix]
   clear HH HZ HD2 hz;go_wp2;go_ret;exact⟨by rw[HC.out];rfl,hB1⟩
  have hix':(ix !=(k:Int))=false:=by simp[hix]
  have HIX:Hid (ix=(k:Int)):=hix;clear hix;go_wp2_with fail;refine(HKn.out _ (qBq)).mono ?_;rintro e w2 ⟨rfl,hb2⟩;have hB2:Below w.heap.size w w2:=bS (qBq) hb2;have Y2:w2.cell? ⟨w.heap.size,0,none⟩=some (.slice a0 n0 c0)∧w2.cell? ⟨w.heap.size,1,none⟩=some (.slice (some ⟨b,o,none⟩) n1 c1)∧w2.cell? ⟨w.heap.size,2,none⟩=some (.slice a2 n2 c2)∧w2.cell? ⟨w.heap.size,3,none⟩=some (.slice a3 n3 c3)∧w2.cell? ⟨w.heap.size,4,none⟩=some (.slice a4 n4 c4):=⟨cK hb2 (by first|exact y0|exact cK (qBq) y0),cK hb2 (by first|exact y1|exact cK (qBq) y1),cK hb2 (by first|exact y2|exact cK (qBq) y2),cK hb2 (by first|exact y3|exact cK (qBq) y3),cK hb2 (by first|exact y4|exact cK (qBq) y4)⟩;clear hb2 HKn;cases kn
  ·
   have hz:z=1:=by rw[HD2.out,if_neg (fun h=>by cases h.2)]
   have HC:Hid (R=1):=by show _=_;rw[←hz];exact HH.out (by rw[hz];omega)
   clear HH HZ HD2 hz;go_wp2;go_ret;exact⟨by rw[HC.out];rfl,hB2⟩
  have hz:z=0:=by rw[HD2.out,if_pos ⟨HIX.out,rfl⟩]
  have HQ:Hid _:=HZ.out hz;clear HH HZ HD2 hz;go_wp2;exact⟨⟨k+1,by omega,by go_num,HQ,Y2,hB2⟩,by simp[intOf];omega⟩
 obtain rfl:k=n1:=by omega
 have hti:¬(k:Int)<(k:Int):=by omega
 have HC:Hid (R=0):=H2.out HS.out;go_wp2;go_ret;exact⟨by rw[HC.out];rfl,hbl⟩
theorem fO1 (x:Value) (c:Clu) (w:World) (hx:cluR.V w x c) :
  Calls Tryz.prog 79 #[x] w fun e w'=>e = .returned (.int .i64 (vO c))∧Below w.heap.size w w':=by
 have HV:Hid (∀W,Below w.heap.size w W→cluR.V W x c):=fun W hW=>cluR.below hx hW
 have hx':=hx;obtain⟨a0,a1,a2,a3,a4,c0,c1,c2,c3,c4,n0,n1,n2,n3,n4,rfl,e0,e1,e2,e3,e4,L0,L1,L2,L3,L4⟩:=gL hx;obtain⟨u1,u2,u3,u4,u5,eq,h1,h2,h3,h4,h5⟩:=hx';simp only[Value.agg.injEq,Array.mk.injEq,List.cons.injEq,and_true] at eq;obtain⟨rfl,rfl,rfl,rfl,rfl⟩:=eq;obtain⟨_,hnc,hmc,HA⟩:=fLv h3;unfold maxLen at hmc;have HX:Hid _:=HA;clear HA h1 h2 h3 h4 h5 hx;have eg1:=enters_of Tryz.func150 (by kernel_rfl) rfl;have HCS:Hid (∀(v:Value) (ss:List Slt) (W:World),Below w.heap.size w W→sltsR.V W v ss→(W.cell? ⟨w.heap.size,0,none⟩=some (.slice a0 n0 c0)∧W.cell? ⟨w.heap.size,1,none⟩=some (.slice a1 n1 c1)∧W.cell? ⟨w.heap.size,2,none⟩=some (.slice a2 n2 c2)∧W.cell? ⟨w.heap.size,3,none⟩=some (.slice a3 n3 c3)∧W.cell? ⟨w.heap.size,4,none⟩=some (.slice a4 n4 c4))→Calls Tryz.prog 149 #[v,.func (.func 150) #[] #[.pointer (some ⟨w.heap.size,0,none⟩)]] W fun e w'=>e = .returned (.bool (uA c ss))∧Below W.heap.size W w'):=fun v ss W hW hv hY=>fDr 150 _ (fun s=>!hasL c s.con s.sh) v ss W hv eg1 (fun k W' hk hW' u=>fIs c _ _ u W' a0 a1 a2 a3 a4 n0 n1 n2 n3 n4 c0 c1 c2 c3 c4 (HV.out W' (bS hW hW')) (ykeep hW' hY))
 clear eg1;have H1:Hid (∀k,k<n2→fC (mW c) k=0→¬mW c k=0→vO c=mW c k):=fun k hk hs h0=>by unfold vO;exact fH hs h0 _ (by rw[e2];exact hk)
 have H2:Hid (fC (mW c) n2=0→vO c=0):=fun h=>by unfold vO;rw[e2];exact h
 clear e0 e1 e2 e3 e4 L0 L1 L3 L4;generalize vO c=R at *;go_enter Tryz.func79,Tryz.ntmps79;go_wp2;go_loopw [9] (fun i w'=>∃k:Nat,k≤n2∧i = .int .i64 k∧Hid (fC (mW c) k=0)∧(w'.cell? ⟨w.heap.size,0,none⟩=some (.slice a0 n0 c0)∧w'.cell? ⟨w.heap.size,1,none⟩=some (.slice a1 n1 c1)∧w'.cell? ⟨w.heap.size,2,none⟩=some (.slice a2 n2 c2)∧w'.cell? ⟨w.heap.size,3,none⟩=some (.slice a3 n3 c3)∧w'.cell? ⟨w.heap.size,4,none⟩=some (.slice a4 n4 c4))∧Below w.heap.size w w') (fun i _=>n2-(intOf i).toNat)
 case atStart=>exact⟨0,Nat.zero_le _,rfl,rfl,⟨by simp[go_sem],by simp[go_sem],by simp[go_sem],by simp[go_sem],by simp[go_sem]⟩,qBq⟩
 obtain⟨k,hk,rfl,HS,⟨y0,y1,y2,y3,y4⟩,hbl⟩:=hrel;have zq:w.heap.size<wr.heap.size:=wL wr _ y0;by_cases hlt:k<n2
 ·
  have HA:=HX.out k hlt;have HH:Hid (¬mW c k=0→R=mW c k):=fun h=>H1.out k hlt HS.out h
  have HZ:Hid (mW c k=0→fC (mW c) (k+1)=0):=fun h=>fD HS.out h
  have HD:Hid (mW c k=orF (accF (c.accs.getD k default).slots) (if uA c (c.accs.getD k default).slots=true then 4 else 0)):=rfl;obtain⟨s,hs0⟩:∃s,s=c.accs.getD k default:=⟨_,rfl⟩
  rw[←hs0] at HA HD;clear hs0;obtain⟨b,o,p,q,rfl,g0,hv⟩:=HA;have HF:Hid (∀W,Below w.heap.size w W→Calls Tryz.prog 148 #[.agg #[.slice p s.slots.length q]] W fun e w'=>e = .returned (.int .i64 (accF s.slots))∧Below W.heap.size W w'):=fun W hW=>fHu _ s W ⟨_,rfl,sltsR.below hv hW⟩
  have HKn:Hid (∀W,Below w.heap.size w W→(W.cell? ⟨w.heap.size,0,none⟩=some (.slice a0 n0 c0)∧W.cell? ⟨w.heap.size,1,none⟩=some (.slice a1 n1 c1)∧W.cell? ⟨w.heap.size,2,none⟩=some (.slice (some ⟨b,o,none⟩) n2 c2)∧W.cell? ⟨w.heap.size,3,none⟩=some (.slice a3 n3 c3)∧W.cell? ⟨w.heap.size,4,none⟩=some (.slice a4 n4 c4))→Calls Tryz.prog 149 #[.slice p s.slots.length q,.func (.func 150) #[] #[.pointer (some ⟨w.heap.size,0,none⟩)]] W fun e w'=>e = .returned (.bool (uA c s.slots))∧Below W.heap.size W w'):=fun W hW hY=>HCS.out _ _ W hW (sltsR.below hv hW) hY
  clear hv;replace g0:=cK hbl g0;have zb:b<wr.heap.size:=wL wr _ g0;have hti:(k:Int)<(n2:Int):=by omega
  generalize mW c k=z at *;generalize uA c s.slots=kn at *;generalize accF s.slots=sf at *;generalize s.slots.length=l1 at *;go_wp2_with fail;refine(HF.out _ (qBq)).mono ?_;rintro e w1 ⟨rfl,hb1⟩;have hB1:Below w.heap.size w w1:=bS (qBq) hb1;have t0:w1.cell? ⟨wr.heap.size,0,none⟩=some (.slice p l1 q):=cK hb1 (by simp[go_sem]);replace y0:=cK hb1 (cK (qBq) y0);replace y1:=cK hb1 (cK (qBq) y1);replace y2:=cK hb1 (cK (qBq) y2);replace y3:=cK hb1 (cK (qBq) y3);replace y4:=cK hb1 (cK (qBq) y4);have zw1:wr.heap.size<w1.heap.size:=wL w1 _ t0;clear hb1 HF g0;by_cases hsf:sf=0;rotate_left
  ·
   have hz:z=sf:=by rw[HD.out,xG hsf]
   have HC:Hid (R=sf):=by show _=_;rw[←hz];exact HH.out (by rw[hz];exact hsf)
   have hsf':(sf !=0)=true:=by simp[hsf]
   clear HH HZ HD hz;go_wp2;go_ret;exact⟨by rw[HC.out];rfl,hB1⟩
  subst hsf;have HD2:Hid (z=if kn=true then 4 else 0):=by show _=_;rw[HD.out,vI rfl]
  clear HD;go_wp2_with fail;refine(HKn.out _ (qBq) (by first|exact⟨y0,y1,y2,y3,y4⟩|exact ykeep (qBq) ⟨y0,y1,y2,y3,y4⟩)).mono ?_;rintro e w2 ⟨rfl,hb2⟩;have hB2:Below w.heap.size w w2:=bS (qBq) hb2;have Y2:w2.cell? ⟨w.heap.size,0,none⟩=some (.slice a0 n0 c0)∧w2.cell? ⟨w.heap.size,1,none⟩=some (.slice a1 n1 c1)∧w2.cell? ⟨w.heap.size,2,none⟩=some (.slice (some ⟨b,o,none⟩) n2 c2)∧w2.cell? ⟨w.heap.size,3,none⟩=some (.slice a3 n3 c3)∧w2.cell? ⟨w.heap.size,4,none⟩=some (.slice a4 n4 c4):=⟨cK hb2 (by first|exact y0|exact cK (qBq) y0),cK hb2 (by first|exact y1|exact cK (qBq) y1),cK hb2 (by first|exact y2|exact cK (qBq) y2),cK hb2 (by first|exact y3|exact cK (qBq) y3),cK hb2 (by first|exact y4|exact cK (qBq) y4)⟩;clear hb2 HKn;cases kn;rotate_left
  ·
   have hz:z=4:=by rw[HD2.out,if_pos rfl]
   have HC:Hid (R=4):=by show _=_;rw[←hz];exact HH.out (by rw[hz];omega)
   clear HH HZ HD2 hz;go_wp2;go_ret;exact⟨by rw[HC.out];rfl,hB2⟩
  have hz:z=0:=by rw[HD2.out];rfl
  have HQ:Hid _:=HZ.out hz;clear HH HZ HD2 hz;go_wp2;exact⟨⟨k+1,by omega,by go_num,HQ,Y2,hB2⟩,by simp[intOf];omega⟩
 obtain rfl:k=n2:=by omega
 have hti:¬(k:Int)<(k:Int):=by omega
 have HC:Hid (R=0):=H2.out HS.out;go_wp2;go_ret;exact⟨by rw[HC.out];rfl,hbl⟩
end Go.Proofs.YtbfnobcidnmohaaGreat
namespace Go.Proofs.YtbfnobcidnmohaaGreat
open Go.RowKit
def over (a:Act) (ds:List Nat) (y:Nat→Value):Act:={a with tmps:=ds.foldl (fun t s=>t.setIfInBounds s (y s)) a.tmps}
theorem fL4:∀(ds:List Nat) (T:Array Value) (y:Nat→Value) (d:Nat) (v:Value),d ∉ ds →
  (ds.foldl (fun t s=>t.setIfInBounds s (y s)) T).setIfInBounds d v=ds.foldl (fun t s=>t.setIfInBounds s (y s)) (T.setIfInBounds d v)
 | [],_,_,_,_,_=>rfl
 | e::ds,T,y,d,v,h=>by
  have h1:d≠e:=fun c=>h (by rw[c];exact List.mem_cons_self)
  have h2:d ∉ ds:=fun c=>h (List.mem_cons_of_mem _ c)
  simp only[List.foldl_cons];rw[fL4 ds _ y d v h2,Array.setIfInBounds_comm _ _ (Ne.symm h1)]
theorem fEo:∀(ds:List Nat) (T:Array Value) (y y':Nat→Value),(∀s ∈ ds,y s=y' s) →
  ds.foldl (fun t s=>t.setIfInBounds s (y s)) T=ds.foldl (fun t s=>t.setIfInBounds s (y' s)) T
 | [],_,_,_,_=>rfl
 | e::ds,T,y,y',h=>by
  simp only[List.foldl_cons];rw[h e List.mem_cons_self];exact fEo ds _ y y' (fun s hs=>h s (List.mem_cons_of_mem _ hs))
def updV (y:Nat→Value) (d:Nat) (v:Value):Nat→Value:=fun s=>if s=d then v else y s
theorem fL5:∀(ds:List Nat) (T:Array Value) (y:Nat→Value) (d:Nat) (v:Value),d ∈ ds→ds.Nodup →
  (ds.foldl (fun t s=>t.setIfInBounds s (y s)) T).setIfInBounds d v=ds.foldl (fun t s=>t.setIfInBounds s (updV y d v s)) T
 | [],_,_,_,_,h,_=>absurd h List.not_mem_nil
 | e::ds,T,y,d,v,h,hn=>by
  obtain⟨h1,h2⟩:=List.nodup_cons.1 hn;simp only[List.foldl_cons];by_cases hd:d=e
  ·
   subst hd;rw[fL4 ds _ y d v h1,Array.setIfInBounds_setIfInBounds];have e1:updV y d v d=v:=if_pos rfl;rw[e1];exact fEo ds _ _ _ (fun s hs=>(if_neg (fun c:s=d=>h1 (c▸hs))).symm)
  have hm:d ∈ ds:=(List.mem_cons.1 h).resolve_left hd;have e1:updV y d v e=y e:=if_neg (fun c=>hd c.symm);rw[e1];exact fL5 ds _ y d v hm h2
theorem fTi {a:Act} {ds:List Nat} {y:Nat→Value} {d:Nat} {v:Value} (h:d ∈ ds) (hn:ds.Nodup):(over a ds y).put (some d) v=over a ds (updV y d v):=by
 simp only[over,Act.put];rw[fL5 ds _ y d v h hn]
theorem over_self (a:Act):∀ds:List Nat,over a ds (fun s=>a.tmps.getD s undef)=a:=by
 intro ds;have H:∀ds:List Nat,ds.foldl (fun t s=>t.setIfInBounds s (a.tmps.getD s undef)) a.tmps=a.tmps:=by
  intro ds;induction ds with
  | nil=>rfl
  | cons d ds ih=>
   simp only[List.foldl_cons];have e:a.tmps.setIfInBounds d (a.tmps.getD d undef)=a.tmps:=by
    apply Array.ext_getElem?;intro i;rw[Array.getElem?_setIfInBounds];split
    ·
     rename_i h;subst h;split
     ·
      rename_i h;simp[h]
     rename_i h;simp[Array.getElem?_eq_none (Nat.le_of_not_lt h)]
    rfl
   rw[e];exact ih
 simp only[over];rw[H ds]
theorem fQe:∀(L:List (Nat × Nat)),(L.map Prod.fst).Nodup→∀p ∈ L,∀q ∈ L,p.1=q.1→p=q
 | [],_,p,hp,_,_,_=>absurd hp List.not_mem_nil
 | a::L,hn,p,hp,q,hq,h=>by
  obtain⟨h1,h2⟩:=List.nodup_cons.1 hn;rcases List.mem_cons.1 hp with hp1|hp1
  ·
   rcases List.mem_cons.1 hq with hq1|hq1
   ·
    rw[hp1,hq1]
   exact absurd (by rw[←hp1,h];exact List.mem_map_of_mem hq1) h1
  rcases List.mem_cons.1 hq with hq1|hq1
  ·
   exact absurd (by rw[←hq1,←h];exact List.mem_map_of_mem hp1) h1
  exact fQe L h2 p hp1 q hq1 h
theorem fQf:∀(L:List (Nat × Nat)),(L.map Prod.snd).Nodup→∀p ∈ L,∀q ∈ L,p.2=q.2→p=q
 | [],_,p,hp,_,_,_=>absurd hp List.not_mem_nil
 | a::L,hn,p,hp,q,hq,h=>by
  obtain⟨h1,h2⟩:=List.nodup_cons.1 hn;rcases List.mem_cons.1 hp with hp1|hp1
  ·
   rcases List.mem_cons.1 hq with hq1|hq1
   ·
    rw[hp1,hq1]
   exact absurd (by rw[←hp1,h];exact List.mem_map_of_mem hq1) h1
  rcases List.mem_cons.1 hq with hq1|hq1
  ·
   exact absurd (by rw[←hq1,←h];exact List.mem_map_of_mem hp1) h1
  exact fQf L h2 p hp1 q hq1 h
theorem fCc {F F':Nat × Nat→Bool}:∀{L:List (Nat × Nat)},(L.map Prod.fst).Nodup→∀{p:Nat × Nat},p ∈ L→F p=true→F' p=false→(∀q ∈ L,q≠p→F' q=F q)→(L.filter F).length=(L.filter F').length+1
 | [],_,_,hp,_,_,_=>absurd hp List.not_mem_nil
 | a::L,hn,p,hp,h1,h2,h3=>by
  obtain⟨g1,g2⟩:=List.nodup_cons.1 hn;by_cases e:a=p
  ·
   subst e;rw[List.filter_cons_of_pos h1,List.filter_cons_of_neg (by rw[h2];exact Bool.false_ne_true)];have h4:L.filter F=L.filter F':=List.filter_congr (fun q hq=>(h3 q (List.mem_cons_of_mem _ hq) (fun c=>g1 (c▸List.mem_map_of_mem hq))).symm);rw[h4,List.length_cons]
  have hm:p ∈ L:=(List.mem_cons.1 hp).resolve_left (fun c=>e c.symm);have ih:=fCc g2 hm h1 h2 (fun q hq hne=>h3 q (List.mem_cons_of_mem _ hq) hne);have ha:=h3 a List.mem_cons_self e;cases hF:F a with
  | true=>rw[List.filter_cons_of_pos hF,List.filter_cons_of_pos (by rw[ha,hF]),List.length_cons,List.length_cons,ih]
  | false=>rw[List.filter_cons_of_neg (by rw[hF];exact Bool.false_ne_true),List.filter_cons_of_neg (by rw[ha,hF];exact Bool.false_ne_true),ih]
section
variable {P : Program} {ops : Array Oper} {Q : Exit → Act → World → Prop} {md : Region.Mode} {S : World → Prop} {t : Nat}
def fQ5 (md:Region.Mode) (ops:Array Oper):Bool:=(List.range ops.size).all fun i=>match ops[i]? with|some o=>o.after.all fun e=>!Region.binds md e||decide (e.on<i)|none=>true
theorem fO0 {listed:Array Bool} (hr:fQ5 md ops=true) (hs:listed.size=ops.size):∀n i,i<n→i<ops.size→listed.getD i true=false→∃j,j ∈ Region.ready md ops listed:=by
 intro n;induction n with
 | zero=>intro i h;omega
 | succ n ih=>
  intro i hi hlt hun;by_cases hex:∃k,k<i∧listed.getD k true=false
  ·
   obtain⟨k,hk,hku⟩:=hex;exact ih k (by omega) (by omega) hku
  refine⟨i,mem_ready.2 ⟨hun,ops[i],by simp[hlt],fun e he hb=>?_⟩⟩;have h1:=List.all_eq_true.1 hr i (List.mem_range.2 hlt);simp only[Array.getElem?_eq_getElem hlt] at h1;have h2:=Array.all_eq_true'.1 h1 e he;simp only[hb,Bool.not_true,Bool.false_or,decide_eq_true_eq] at h2;have h3:¬listed.getD e.on true=false:=fun c=>hex ⟨e.on,h2,c⟩
  have h4:e.on<listed.size:=by omega
  simp[h4] at h3 ⊢;exact h3
def InB (w0 w:World) (lo hi:Nat):Prop:=w0.heap.size≤lo∧lo≤hi∧hi≤w.heap.size
def fGo (lo hi:Nat→Nat) (j k:Nat):Prop:=hi j≤lo k∨hi k≤lo j
structure Shut (p:Prop):Prop where
 out:p
def fVc (P:Program) (md:Region.Mode) (ops:Array Oper) (Q:Exit→Act→World→Prop) (S:World→Prop) (L:List (Nat × Nat)) (G:Nat→(Nat→Value)→Nat→Nat→World→Prop) (a0:Act) (w0:World) (p:Nat × Nat):Prop:=
 ∃o,ops[p.1]? = some o∧o.dst=some p.2∧∀(y:Nat→Value) (w:World) (lo hi:Nat→Nat),S w→Below w0.heap.size w0 w →
  (∀q ∈ L,waitsFor md ops p.1 q.1=true→InB w0 w (lo q.1) (hi q.1)∧G q.1 y (lo q.1) (hi q.1) w) →
  (∀q ∈ L,∀r ∈ L,q.1≠r.1→waitsFor md ops p.1 q.1=true→waitsFor md ops p.1 r.1=true→fGo lo hi q.1 r.1) →
  ∀K:Act→World→Prop,(∀v w',Below w.heap.size w w'→G p.1 (updV y p.2 v) w.heap.size w'.heap.size w'→K ((over a0 (L.map Prod.snd) y).put (some p.2) v) w') →
   Shut (if Region.wanted o (yielded ops (over a0 (L.map Prod.snd) y).tmps)=true then Oper.wp P o (over a0 (L.map Prod.snd) y) w K Q else K ((over a0 (L.map Prod.snd) y).put o.dst undef) w)
theorem fLo (L:List (Nat × Nat)) (G:Nat→(Nat→Value)→Nat→Nat→World→Prop) {f:Nat} {listed:Array Bool} {a0:Act} {w0:World}
  (hrise:fQ5 md ops=true) (hsz:listed.size=ops.size) (hot:∃ot,ops[t]? = some ot)
  (hall:∀i,i<ops.size→listed.getD i true=false→i=t∨∃p ∈ L,p.1=i)
  (hun:listed.getD t true=false∧∀p ∈ L,listed.getD p.1 true=false)
  (hno:(L.map Prod.fst).Nodup) (hnd:(L.map Prod.snd).Nodup) (htl:∀p ∈ L,p.1≠t∧waitsFor md ops t p.1=true) (hf:f=L.length+1)
  (hS:S w0) (hSst:∀w w',S w→Below w.heap.size w w'→S w')
  (hG:∀p ∈ L,∀(y y':Nat→Value) (lo hi:Nat) (w w':World),G p.1 y lo hi w→InB w0 w lo hi→Below w.heap.size w w'→y' p.2=y p.2→(∀q ∈ L,waitsFor md ops p.1 q.1=true→y' q.2=y q.2)→G p.1 y' lo hi w')
  (hstep:∀p ∈ L,fVc P md ops Q S L G a0 w0 p)
  (hlast:∃o,ops[t]? = some o∧∀(y:Nat→Value) (w:World) (lo hi:Nat→Nat),S w→Below w0.heap.size w0 w→(∀q ∈ L,InB w0 w (lo q.1) (hi q.1)∧G q.1 y (lo q.1) (hi q.1) w)→(∀q ∈ L,∀r ∈ L,q.1≠r.1→fGo lo hi q.1 r.1) →
   ∀K:Act→World→Prop,(∀a' w',Q .normal a' w'→K a' w')→Shut (if Region.wanted o (yielded ops (over a0 (L.map Prod.snd) y).tmps)=true then Oper.wp P o (over a0 (L.map Prod.snd) y) w K Q else K ((over a0 (L.map Prod.snd) y).put o.dst undef) w)) :
  kG P md ops Q S t f listed a0 w0:=by
 -- the same from any state on the way
 have H:∀(n f:Nat) (listed:Array Bool) (y:Nat→Value) (w:World) (lo hi:Nat→Nat),
   f=(L.filter fun p=>!listed.getD p.1 true).length+1→listed.size=ops.size→listed.getD t true=false →
   (∀i,i<ops.size→listed.getD i true=false→i=t∨∃p ∈ L,p.1=i) →
   (∀p ∈ L,listed.getD p.1 true=true→∀q ∈ L,waitsFor md ops p.1 q.1=true→listed.getD q.1 true=true) →
   S w→Below w0.heap.size w0 w→(∀q ∈ L,listed.getD q.1 true=true→InB w0 w (lo q.1) (hi q.1)∧G q.1 y (lo q.1) (hi q.1) w) →
   (∀q ∈ L,∀r ∈ L,q.1≠r.1→listed.getD q.1 true=true→listed.getD r.1 true=true→fGo lo hi q.1 r.1) →
   f≤n→kG P md ops Q S t f listed (over a0 (L.map Prod.snd) y) w:=by
  intro n;induction n with
  | zero=>intro f listed y w lo hi hf _ _ _ _ _ _ _ _ hn;omega
  | succ n ih=>
   intro f listed y w lo hi hf hsz htun hall hdown hS hB hGs hAp hn;obtain⟨ot,hot⟩:=hot;have htlt:t<ops.size:=by
    rcases Nat.lt_or_ge t ops.size with h|h
    ·
     exact h
    rw[Array.getElem?_eq_none h] at hot;cases hot
   obtain⟨g,rfl⟩:∃g,f=g+1:=⟨_,hf⟩
   have hg:g=(L.filter fun p=>!listed.getD p.1 true).length:=by omega
   refine⟨fun h=>?_,fun i hi'=>?_⟩
   ·
    obtain⟨j,hj⟩:=fO0 hrise hsz (t+1) t (by omega) htlt htun;rw[h] at hj;cases hj
   obtain⟨hiun,o,hio,hdeps⟩:=mem_ready.1 hi';have hilt:i<ops.size:=by
    rcases Nat.lt_or_ge i ops.size with h|h
    ·
     exact h
    rw[Array.getElem?_eq_none h] at hio;cases hio
   have hdep:∀k,k<ops.size→waitsFor md ops i k=true→listed.getD k true=true:=by
    intro k hk hw;unfold waitsFor at hw;rw[hio] at hw;obtain⟨e,he,hb⟩:=Array.any_eq_true'.1 hw;simp only[Bool.and_eq_true,beq_iff_eq] at hb;have h1:=hdeps e he hb.1;rw[hb.2] at h1;have hk':k<listed.size:=by omega
    simp[hk'] at h1 ⊢;exact h1
   have hLlt:∀p ∈ L,p.1<ops.size:=by
    intro p hp;obtain⟨o',ho',_⟩:=hstep p hp;rcases Nat.lt_or_ge p.1 ops.size with h|h
    ·
     exact h
    rw[Array.getElem?_eq_none h] at ho';cases ho'
   have key:∀K:Act→World→Prop,(if Region.wanted o (yielded ops (over a0 (L.map Prod.snd) y).tmps)=true then Oper.wp P o (over a0 (L.map Prod.snd) y) w K Q else K ((over a0 (L.map Prod.snd) y).put o.dst undef) w)→wpOp P ops Q i K (over a0 (L.map Prod.snd) y) w:=by
    intro K h1;unfold wpOp;simp only[hio];split
    ·
     rename_i hw;rw[if_pos hw] at h1;exact .inl h1
    rename_i hw;rw[if_neg hw] at h1;exact h1
   refine key _ ?_;by_cases hit:i=t
   ·
    subst hit;have hl:∀p ∈ L,listed.getD p.1 true=true:=fun p hp=>hdep p.1 (hLlt p hp) (htl p hp).2
    obtain⟨o2,ho2,hlst⟩:=hlast;rw[hio] at ho2;cases ho2;refine(hlst y w lo hi hS hB (fun q hq=>hGs q hq (hl q hq)) (fun q hq r hr hne=>hAp q hq r hr hne (hl q hq) (hl r hr)) _ (fun a' w' hq=>⟨fun h=>absurd rfl h,fDe ?_ hq⟩)).out;rw[List.eq_nil_iff_forall_not_mem];intro j hj;obtain⟨hjun,oj,hjo,_⟩:=mem_ready.1 hj;have hjl:j<ops.size:=by
     rcases Nat.lt_or_ge j ops.size with h|h
     ·
      exact h
     rw[Array.getElem?_eq_none h] at hjo;cases hjo
    by_cases hji:i=j
    ·
     subst hji;have hk':i<listed.size:=by omega
     simp[hk'] at hjun
    rw[getD_set_ne true hji] at hjun;rcases hall j hjl hjun with h|⟨p,hp,h⟩
    ·
     exact hji h.symm
    rw[←h,hl p hp] at hjun;cases hjun
   obtain⟨p,hp,hpi⟩:=(hall i hilt hiun).resolve_left hit;subst hpi;obtain⟨o',ho',hdst,hst⟩:=hstep p hp;rw[hio] at ho';cases ho';refine(hst y w lo hi hS hB (fun q hq hw=>hGs q hq (hdep q.1 (hLlt q hq) hw)) (fun q hq r hr hne h1 h2=>hAp q hq r hr hne (hdep q.1 (hLlt q hq) h1) (hdep r.1 (hLlt r hr) h2)) _ (fun v w' hb hGp=>⟨fun _=>hSst _ _ hS hb,?_⟩)).out;rw[fTi (List.mem_map_of_mem hp) hnd];have hlt:p.1<listed.size:=by omega
   have hself:(listed.setIfInBounds p.1 true).getD p.1 true=true:=by simp[hlt]
   have hoth:∀j,p.1≠j→(listed.setIfInBounds p.1 true).getD j true=listed.getD j true:=fun j h=>getD_set_ne true h
   have hinj:∀q ∈ L,q.1=p.1→q=p:=fun q hq h=>fQe L hno q hq p hp h
   have hinj2:∀q ∈ L,q.2=p.2→q=p:=fun q hq h=>fQf L hnd q hq p hp h
   refine ih g (listed.setIfInBounds p.1 true) (updV y p.2 v) w' (fun j=>if j=p.1 then w.heap.size else lo j) (fun j=>if j=p.1 then w'.heap.size else hi j) ?_ (by simpa using hsz) ?_ ?_ ?_ (hSst _ _ hS hb) (hB.trans (hb.mono hB.size)) ?_ ?_ (by omega)
   ·
    rw[hg];refine fCc hno hp (by rw[hiun];rfl) (by rw[hself];rfl) (fun q hq hne=>?_);rw[hoth _ (fun c=>hne (hinj q hq c.symm))]
   ·
    rw[hoth _ (fun h=>hit h)];exact htun
   ·
    intro j hj hju;by_cases e:p.1=j
    ·
     subst e;rw[hself] at hju;cases hju
    rw[hoth _ e] at hju;exact hall j hj hju
   ·
    intro q hq hql r hr hw;by_cases e:p.1=r.1
    ·
     rw[←e];exact hself
    rw[hoth _ e];by_cases e2:p.1=q.1
    ·
     rw[←e2] at hw;exact hdep r.1 (hLlt r hr) hw
    rw[hoth _ e2] at hql;exact hdown q hq hql r hr hw
   ·
    intro q hq hql;by_cases e:q.1=p.1
    ·
     have e2:=hinj q hq e;subst e2;simp only[if_true];exact⟨⟨hB.size,hb.size,Nat.le_refl _⟩,hGp⟩
    rw[hoth _ (Ne.symm e)] at hql;simp only[if_neg e];obtain⟨h1,h2⟩:=hGs q hq hql;refine⟨⟨h1.1,h1.2.1,Nat.le_trans h1.2.2 hb.size⟩,hG q hq y (updV y p.2 v) _ _ w w' h2 h1 hb ?_ ?_⟩
    ·
     exact if_neg (fun c=>e (by rw[hinj2 q hq c]))
    intro r hr hw;refine if_neg (fun c=>?_);have e3:=hinj2 r hr c;subst e3;rw[hdown q hq hql _ hr hw] at hiun;cases hiun
   intro q hq r hr hne hql hrl;unfold fGo;by_cases e:q.1=p.1
   ·
    have e':r.1≠p.1:=fun c=>hne (e.trans c.symm)
    rw[hoth _ (Ne.symm e')] at hrl;simp only[if_pos e,if_neg e'];exact .inr (hGs r hr hrl).1.2.2
   rw[hoth _ (Ne.symm e)] at hql;by_cases e':r.1=p.1
   ·
    simp only[if_neg e,if_pos e'];exact .inl (hGs q hq hql).1.2.2
   rw[hoth _ (Ne.symm e')] at hrl;simp only[if_neg e,if_neg e'];exact hAp q hq r hr hne hql hrl
 have h0:=H f f listed (fun s=>a0.tmps.getD s undef) w0 (fun _=>0) (fun _=>0) (by
  rw[hf,List.filter_eq_self.2 (fun p hp=>by rw[hun.2 p hp];rfl)]) hsz hun.1 hall (fun p hp h=>by rw[hun.2 p hp] at h;cases h) hS (Below.refl _ _) (fun q hq h=>by rw[hun.2 q hq] at h;cases h) (fun q hq r hr hne h=>by rw[hun.2 q hq] at h;cases h) (Nat.le_refl _)
 rw[over_self] at h0;exact h0
def fT4 (md:Region.Mode) (ops:Array Oper) (listed:Array Bool) (t f:Nat) (L:List (Nat × Nat)):Bool:=
 fQ5 md ops&&decide (listed.size=ops.size)&&(ops[t]?).isSome&&((List.range ops.size).all fun i=>listed.getD i true||decide (i=t)||L.any fun p=>decide (p.1=i)) &&
  !listed.getD t true&&(L.all fun p=>!listed.getD p.1 true)&&decide (L.map Prod.fst).Nodup&&decide (L.map Prod.snd).Nodup&&(L.all fun p=>decide (p.1≠t)&&waitsFor md ops t p.1)&&decide (f=L.length+1)
theorem fJm (L:List (Nat × Nat)) (G:Nat→(Nat→Value)→Nat→Nat→World→Prop) {f:Nat} {listed:Array Bool} {a0:Act} {w0:World} (hc:fT4 md ops listed t f L=true)
  (hS:S w0) (hSst:∀w w',S w→Below w.heap.size w w'→S w')
  (hG:∀p ∈ L,∀(y y':Nat→Value) (lo hi:Nat) (w w':World),G p.1 y lo hi w→InB w0 w lo hi→Below w.heap.size w w'→y' p.2=y p.2→(∀q ∈ L,waitsFor md ops p.1 q.1=true→y' q.2=y q.2)→G p.1 y' lo hi w')
  (hstep:∀p ∈ L,fVc P md ops Q S L G a0 w0 p)
  (hlast:∃o,ops[t]? = some o∧∀(y:Nat→Value) (w:World) (lo hi:Nat→Nat),S w→Below w0.heap.size w0 w→(∀q ∈ L,InB w0 w (lo q.1) (hi q.1)∧G q.1 y (lo q.1) (hi q.1) w)→(∀q ∈ L,∀r ∈ L,q.1≠r.1→fGo lo hi q.1 r.1) →
   ∀K:Act→World→Prop,(∀a' w',Q .normal a' w'→K a' w')→Shut (if Region.wanted o (yielded ops (over a0 (L.map Prod.snd) y).tmps)=true then Oper.wp P o (over a0 (L.map Prod.snd) y) w K Q else K ((over a0 (L.map Prod.snd) y).put o.dst undef) w)) :
  kG P md ops Q S t f listed a0 w0:=by
 unfold fT4 at hc;simp only[Bool.and_eq_true,decide_eq_true_eq,List.all_eq_true,List.any_eq_true,Bool.or_eq_true,Bool.not_eq_true',List.mem_range] at hc;obtain⟨⟨⟨⟨⟨⟨⟨⟨⟨h1,h2⟩,h3⟩,h4⟩,h5⟩,h6⟩,h7⟩,h8⟩,h9⟩,h10⟩:=hc;refine fLo L G h1 h2 (Option.isSome_iff_exists.1 h3) (fun i hi hu=>?_) ⟨h5,h6⟩ h7 h8 h9 h10 hS hSst hG hstep hlast;rcases h4 i hi with (h|h)|h
 ·
  rw[hu] at h;cases h
 ·
  exact .inl h
 exact .inr h
end
end Go.Proofs.YtbfnobcidnmohaaGreat

import Derived.Test.YtbfnobcidnmohaaGreatPrnSafeClusterLaw9
import Derived.Carry
import Derived.Maps.RangeWalk
import Derived.Sort.MapsRangeIn
set_option maxHeartbeats 4000000
set_option linter.unusedSectionVars false
set_option linter.unusedVariables false
set_option linter.unusedSimpArgs false
namespace Go.Proofs.YtbfnobcidnmohaaGreat
open Go.RowKit
attribute [local go_sem ↓] Go.wp_at_zero Go.wp_at_succ
section
variable [dQ Bal] [iH Bal] [dQ Ledg] [iH Ledg] [dQ Leg] [iH Leg]
theorem fIv (s a t:Int) (w:World):RI 103 #[.int .i64 s,.int .i64 a,.int .i64 t] w (kv s a t):=by
 go_enter Tryz.func103,Tryz.ntmps103;go_wp2;refine bodyPost_ret (v:=.agg #[.int .i64 s,.int .i64 a,.int .i64 t]) (by simp[results,Tryz.results103,go_sem]) rfl ⟨rfl,qBq⟩
structure BkC (W:World) (B n:Nat):Prop where
 res:W.heap[B+1]? = some (.cells #[.int .i64 0,.map none] 95)
 bk:W.heap[B+1+1+1]? = some (.cells #[.int .i64 n,.map (some (B+1+1))] 95)
theorem fAe {W:World} {b:Nat} {o:Obj} (h:W.heap[b]? = some o):b<W.heap.size:=by
 rcases Nat.lt_or_ge b W.heap.size with h'|h'
 ·exact h'
 rw[Array.getElem?_eq_none h'] at h;cases h
theorem fNd {w:World} {o:Obj} {b:Nat} (h:b=w.heap.size):(w.alloc o).heap[b]? = some o:=by rw[h];exact(MapKept.heap_alloc w o).1
theorem fNe {w:World} {o:Obj} {b:Nat} (h:b<w.heap.size):(w.alloc o).heap[b]? = w.heap[b]?:=(MapKept.heap_alloc w o).2 b h
theorem BkC.below {W W':World} {B n:Nat} (h:BkC W B n) (hb:Below W.heap.size W W'):BkC W' B n:=
 ⟨(hb.block _ (fAe h.res)).trans h.res,(hb.block _ (fAe h.bk)).trans h.bk⟩
theorem BkC.grown {W W':World} {B n:Nat} (h:BkC W B n) (hg:W.grownBy W' (some (B+1+1))):BkC W' B n:=
 ⟨(hg.block _ (fAe h.res) (by simp)).trans h.res,(hg.block _ (fAe h.bk) (by simp)).trans h.bk⟩
theorem cellOf {W:World} {b t:Nat} {cs:Array Value} (h:W.heap[b]? = some (.cells cs t)) (i:Nat):W.cell? ⟨b,i,none⟩=cs[i]?:=by
 simp[World.cell?,h]
theorem unfrozen {W:World} {b t:Nat} {cs:Array Value} (h:W.heap[b]? = some (.cells cs t)) (i:Nat):W.frozen? ⟨b,i,none⟩=false:=by
 simp[World.frozen?,h]
theorem fOo (x:Value) (g:Ledg) (w:World) (hx:ledgR.V w x g) (h0:vR g=0) :
  Calls Tryz.prog 49 #[x] w fun e w'=>∃b,e =.returned (.agg #[.int .i64 g.shards.length,.map (some b)])∧w.heap.size≤b∧Book w' b 54 (tJ g.shards)∧Below w.heap.size w w':=by
 obtain⟨hl1,hl3,hok⟩:=fNk h0;obtain⟨u,rfl,ax,cx,rfl,hcx,hmx,hxx⟩:=hx;unfold maxLen at hmx;have HOK:Hid (∀k,k<g.shards.length→BalsOk (g.shards.getD k default)):=hok;clear hok h0;generalize hn':g.shards.length=n at *;have HN:Hid (g.shards.length=n):=hn';clear hn';have hmm:=@run_makeMap Tryz.prog;go_enter Tryz.func49,Tryz.ntmps49;go_wp2;go_loopw [16] (fun i w'=>∃k:Nat,k≤n∧i =.int .i64 k∧Book w' (w.heap.size+1+1) (k*18) (fBt g.shards k 0)∧BkC w' w.heap.size n∧Below w.heap.size w w') (fun i _=>n-(intOf i).toNat)
 case atStart=>
  refine⟨0,oM,rfl,?_,⟨?_,?_⟩,qBq⟩
  ·have h1:=fQ4 ((w.alloc (Obj.cells #[Value.slice ax n cx] 48)).alloc (Obj.cells #[Value.int IntKind.i64 0,Value.map none] 95));simp only[World.size_alloc] at h1;exact(h1.below (bA (bR _ _) _)).cast (fun s a t _=>fKv _ _ _ _)
  ·exact(fNe (by simp)).trans ((fNe (by simp)).trans (fNd (by simp)))
  exact fNd (by simp)
 obtain⟨k,hk,rfl,hB,hC,hbl⟩:=hrel;by_cases hlt:k<n
 ·
  obtain⟨bx,ox,u,rfl,_,hc,hu⟩:=hxx k hlt;have c1:=cK hbl (fHt hc);have hb0:BalsOk (g.shards.getD k default):=HOK.out k hlt;have HB0:Hid (BalsOk (g.shards.getD k default)):=hb0;clear hc hxx hb0;obtain⟨l,hl⟩:∃l,l=g.shards.getD k default:=⟨_,rfl⟩
  rw[←hl] at hu;have HL:Hid (l=g.shards.getD k default):=hl;clear hl;obtain⟨a',c',rfl,hcc,hmc,hu⟩:=hu;unfold maxLen at hmc;have hl18:l.length≤18:=by rw[HL.out];exact HB0.out.len
  generalize hm':l.length=m at *;have HM:Hid (l.length=m):=hm';clear hm';go_wp2;go_loopw [23] (fun i w'=>∃j:Nat,j≤m∧i =.int .i64 j∧Book w' (w.heap.size+1+1) (k*18+j) (fBt g.shards k j)∧BkC w' w.heap.size n∧Below w.heap.size w w') (fun i _=>m-(intOf i).toNat)
  case atStart=>exact⟨0,oM,rfl,hB,hC,hbl⟩
  obtain⟨j,hj,rfl,hB3,hC3,hb3⟩:=hrel;by_cases hlt3:j<m
  ·
   obtain⟨b5,o5,rfl,g1⟩:=hu j hlt3;obtain⟨q,hq⟩:∃q,q=l.getD j default:=⟨_,rfl⟩
   rw[←hq] at g1;have HQ:Hid (q=l.getD j default):=hq;have hqok:uG q=true:=by rw[hq,HL.out];exact HB0.out.ok j (by rw[←HL.out,HM.out];exact hlt3)
   clear hq hu;obtain⟨⟨⟨p1,p2⟩,p3,p4⟩,p5,p6⟩:=balOk_iff.1 hqok;have hw:kwf k q.ac q.ast:=⟨fMq oM oM,fMq oM oM,fMq oM oM⟩;have hv:(Lit.int .i64 q.am).wf=true:=fMq oM oM;obtain⟨e1,e2,e3⟩:=kG hb3 g1;have hlx:w.heap.size+1+1<wr.heap.size:=hB3.lt;have h0:Below w.heap.size w (wr.alloc (.cells #[.int .i64 q.ac,.int .i64 q.ast,.int .i64 q.am] 180))∧(wr.alloc (.cells #[.int .i64 q.ac,.int .i64 q.ast,.int .i64 q.am] 180)).cell? ⟨w.heap.size+1+1+1,1,none⟩=some (.map (some (w.heap.size+1+1)))∧(wr.alloc (.cells #[.int .i64 q.ac,.int .i64 q.ast,.int .i64 q.am] 180)).cell? ⟨wr.heap.size,0,none⟩=some (.int .i64 q.ac)∧(wr.alloc (.cells #[.int .i64 q.ac,.int .i64 q.ast,.int .i64 q.am] 180)).cell? ⟨wr.heap.size,1,none⟩=some (.int .i64 q.ast)∧(wr.alloc (.cells #[.int .i64 q.ac,.int .i64 q.ast,.int .i64 q.am] 180)).cell? ⟨wr.heap.size,2,none⟩=some (.int .i64 q.am):=
    ⟨qBq,cK (bA (bR _ _) _) ((cellOf hC3.bk 1).trans rfl),sG,by simp[go_sem],sG⟩
   have hBW:=hB3.below (bA (bR _ _) (.cells #[.int .i64 q.ac,.int .i64 q.ast,.int .i64 q.am] 180));have hCW:=hC3.below (bA (bR _ _) (.cells #[.int .i64 q.ac,.int .i64 q.ast,.int .i64 q.am] 180));have hnm:k*18+j<maxLen:=by unfold maxLen;omega
   have y1:some (w.heap.size+1+1+1)≠some (w.heap.size+1+1):=by simp
   have y2:some wr.heap.size≠some (w.heap.size+1+1):=by simp;omega
   have y3:w.heap.size≤w.heap.size+1+1:=oM;go_wp2;generalize hW:wr.alloc (.cells #[.int .i64 q.ac,.int .i64 q.ast,.int .i64 q.am] 180)=W at *;clear hW e1 e2 e3 g1 hB3 hC3 hb3 c1;go_region_held3 (fun w'=>Below w.heap.size w w'∧w'.cell? ⟨w.heap.size+1+1+1,1,none⟩=some (.map (some (w.heap.size+1+1)))∧w'.cell? ⟨wr.heap.size,0,none⟩=some (.int .i64 q.ac)∧w'.cell? ⟨wr.heap.size,1,none⟩=some (.int .i64 q.ast)∧w'.cell? ⟨wr.heap.size,2,none⟩=some (.int .i64 q.am))
    ((first|exact fRz h0 (Below.drew (bR _ _))|exact hS3|exact hS4))
    (first|(go_at_call 103;refine(fIv _ _ _ _).mono ?_;rintro e w3 ⟨rfl,hb5⟩;have hS3:=fRz (fRz h0 (Below.drew (bR _ _))) hb5;obtain⟨w4,hrun,hB4,hg4⟩:=((hBW.below (Below.drew (bR _ _))).below hb5).put hw hv hnm;have hS4:=fWq hS3 hg4 y3 y1 y2 y2 y2))
   have hC4:=((hCW.below (Below.drew (bR _ _))).below hb5).grown hg4;have hbw:=hS4.1;clear hrun hS3 hS4;go_wp2;refine⟨⟨j+1,by omega,by go_num,?_,hC4,hbw⟩,mI⟩;refine hB4.cast (fun s a t _=>?_);rw[fOq HB0.out (by rw[←HL.out,HM.out];exact hlt3),←HL.out,←HQ.out]
  go_wp2;have hjm:j=m:=oM;subst hjm;refine⟨⟨k+1,by omega,by go_num,?_,hC3,hb3⟩,mI⟩;refine(hB3.mono oM).cast (fun s a t _=>?_);rw[fOp,←HL.out,HM.out]
 have hkn:k=n:=oM;subst hkn;have d0:=cellOf hC.bk 0;have d1:=cellOf hC.bk 1;have r0:=cellOf hC.res 0;have r1:=cellOf hC.res 1;have f0:=unfrozen hC.res 0;have f1:=unfrozen hC.res 1;simp at d0 d1 r0 r1;go_wp2;refine bodyPost_ret (v:=.agg #[.int .i64 k,.map (some (w.heap.size+1+1))]) ?_ rfl ⟨w.heap.size+1+1,rfl,by omega,?_,qBq⟩
 ·simp[results,Tryz.results49,go_sem,r0,r1]
 refine Book.cast (((hB.turned (Mod.of_set _ _ _) (by simp)).turned (Mod.of_set _ _ _) (by simp)).mono oM) (fun s a t _=>?_);rw[fQ3,HN.out]
theorem fAc (a s:Int) (w:World):Calls Tryz.prog 179 #[.int .i64 a,.int .i64 s] w fun e w'=>e =.returned (.bool (fC4 a s))∧w'=w:=by
 unfold fC4;cases h1:inB a 0 5;all_goals
  go_enter Tryz.func179,Tryz.ntmps179;go_wp2_with (go_at_call 123;refine(fM _ _ _ _).mono ?_;rintro e w' ⟨rfl,rfl⟩);go_ret;exact⟨by simp,rfl⟩
theorem vO (x:Bal) (w:World):RI 181 #[.agg #[.int .i64 x.ac,.int .i64 x.ast,.int .i64 x.am]] w (.bool (uG x)):=by
 unfold uG fC4;cases h1:inB x.ac 0 5
 ·go_enter Tryz.func181,Tryz.ntmps181;go_wp2_with (go_at_call 253;refine(vN _ _).mono ?_;rintro e w' ⟨rfl,rfl⟩);go_ret;exact⟨by simp,bA (bR _ _) _⟩
 cases h2:inB x.ast 0 2;all_goals
  go_enter Tryz.func181,Tryz.ntmps181;go_wp2_with (first|(go_at_call 253;refine(vN _ _).mono ?_;rintro e w' ⟨rfl,rfl⟩)|(go_at_call 254;refine(fC1 _ _).mono ?_;rintro e w' ⟨rfl,rfl⟩)|(go_at_call 152;refine(fO _ _ _ _).mono ?_;rintro e w' ⟨rfl,rfl⟩));go_ret;exact⟨by simp,bA (bR _ _) _⟩
theorem fB4 (x y:Bal) (w:World):RI 182 #[.agg #[.int .i64 x.ac,.int .i64 x.ast,.int .i64 x.am],.agg #[.int .i64 y.ac,.int .i64 y.ast,.int .i64 y.am]] w (.bool (behind x y)):=by
 unfold behind;go_enter Tryz.func182,Tryz.ntmps182;go_wp2;all_goals
  go_ret;exact⟨by simp_all,bA (bA (bR _ _) _) _⟩
theorem zJ {xs:List Bal} {k:Nat} (h:uG (xs.getD k default)=false):vW xs k=3:=by unfold vW;rw[h];rfl
theorem fCg {xs:List Bal} (h:uG (xs.getD 0 default)=true):vW xs 0=0:=by simp only[vW,h];simp
theorem xZ {xs:List Bal} {k:Nat} (h:uG (xs.getD (k+1) default)=true):vW xs (k+1)=if behind (xs.getD (k+1) default) (xs.getD k default)=false then 1 else 0:=by
 simp only[vW,h,if_true,Nat.add_sub_cancel];simp
theorem rQ {xs:List Bal} {k:Nat} {c:Int} (h18:xs.length≤18) (hk:k<xs.length) (h:fC (vW xs) k=0) (hc:vW xs k=c) (h0:c≠0):kH xs=c:=by
 rw[kH,if_neg oM,fK h (by rw[hc];exact h0) _ hk,hc]
theorem fTm {xs:List Bal} {k:Nat} (h:vW xs k=0):uG (xs.getD k default)=true:=by
 cases e:uG (xs.getD k default) with
 | true=>rfl
 | false=>rw[zJ e] at h;omega
theorem fB2 (x:Value) (xs:List Bal) (w:World) (hx:balsR.V w x xs) :
  RI 98 #[x] w (.int .i64 (kH xs)):=by
 obtain⟨ax,cx,rfl,hcx,hmx,hx⟩:=hx;unfold maxLen at hmx;by_cases h18:18<xs.length
 ·
  have e:kH xs=2:=by simp[kH,h18]
  rw[e];go_enter Tryz.func98,Tryz.ntmps98;go_wp2;go_ret;exact⟨rfl,bR _ _⟩
 generalize hn':xs.length=n at *;have HN:Hid (xs.length=n):=hn';clear hn';go_enter Tryz.func98,Tryz.ntmps98;go_wp2;go_loopw [3] (fun i w'=>∃k:Nat,k≤n∧i =.int .i64 k∧fC (vW xs) k=0∧Below w.heap.size w w') (fun i _=>n-(intOf i).toNat)
 case atStart=>exact⟨0,oM,rfl,rfl,bR _ _⟩
 obtain⟨k,hk,rfl,hs,hbl⟩:=hrel;have HS:Hid (fC (vW xs) k=0):=hs;clear hs;by_cases hlt:k<n
 ·
  obtain⟨bx,ox,rfl,g1⟩:=hx k hlt;obtain⟨l,hl⟩:∃l,l=xs.getD k default:=⟨_,rfl⟩
  rw[←hl] at g1;have HL:Hid (l=xs.getD k default):=hl;clear hl;obtain⟨a1,a2,a3⟩:=kG hbl g1;cases h1:fC4 l.ac l.ast
  ·clear hx;go_wp2_with (first|(go_at_call 179;refine(fAc _ _ _).mono ?_;rintro e w' ⟨rfl,rfl⟩)|(go_at_call 123;refine(fM _ _ _ _).mono ?_;rintro e w' ⟨rfl,rfl⟩));go_ret;refine⟨?_,bA hbl _⟩;rw[rQ (k:=k) (c:=3) (by rw[HN.out];omega) (by rw[HN.out];exact hlt) HS.out (zJ (by rw[←HL.out];simp[uG,h1])) oM];rfl
  cases h2:inB l.am 1 1000000000000
  ·clear hx;go_wp2_with (first|(go_at_call 179;refine(fAc _ _ _).mono ?_;rintro e w' ⟨rfl,rfl⟩)|(go_at_call 123;refine(fM _ _ _ _).mono ?_;rintro e w' ⟨rfl,rfl⟩));go_ret;refine⟨?_,bA hbl _⟩;rw[rQ (k:=k) (c:=3) (by rw[HN.out];omega) (by rw[HN.out];exact hlt) HS.out (zJ (by rw[←HL.out];simp[uG,h2])) oM];rfl
  have hok:uG (xs.getD k default)=true:=by rw[←HL.out];simp[uG,h1,h2]
  cases k with
  | zero=>
   clear hx;simp only[Nat.zero_mul,Nat.add_zero] at a1 a2 a3;go_wp2_with (first|(go_at_call 179;refine(fAc _ _ _).mono ?_;rintro e w' ⟨rfl,rfl⟩)|(go_at_call 123;refine(fM _ _ _ _).mono ?_;rintro e w' ⟨rfl,rfl⟩));go_quiet (fail);go_wp2;exact⟨⟨1,by omega,by go_num,fE HS.out (fCg hok),fJ (bA hbl _) _⟩,mI⟩
  | succ m=>
   obtain⟨b',o',he,g2⟩:=hx m oM;simp only[Option.some.injEq,Addr.mk.injEq,and_true] at he;obtain⟨rfl,rfl⟩:=he;have hok':uG (xs.getD m default)=true:=fTm (kI HS.out m oM);obtain⟨o,ho⟩:∃o,o=xs.getD m default:=⟨_,rfl⟩
   rw[←ho] at g2 hok';have HO:Hid (o=xs.getD m default):=ho;clear ho hx;obtain⟨d1,d2,d3⟩:=kG hbl g2;obtain⟨⟨⟨p1,p2⟩,p3,p4⟩,p5,p6⟩:=balOk_iff.1 hok';obtain⟨⟨q1,q2⟩,q3,q4⟩:=keyOk_iff.1 h1;have i1:(m:Int)<(n:Int):=oM;have z5:bx<wr.heap.size:=wL wr _ d1;have i2:m<n:=oM;have v1:IntKind.i64.wrap (m:Int)=m:=kD oM oM;have v2:IntKind.i64.wrap (l.ac*3)=l.ac*3:=kD oM oM;have v3:IntKind.i64.wrap (l.ac*3+l.ast)=l.ac*3+l.ast:=kD oM oM;have v4:IntKind.i64.wrap (o.ac*3)=o.ac*3:=kD oM oM;have v5:IntKind.i64.wrap (o.ac*3+o.ast)=o.ac*3+o.ast:=kD oM oM;have hbi:=fEr (b:=l) (a:=o) h1 (fCh hok');have HBI:Hid (behind l o=false↔l.ac*3+l.ast≤o.ac*3+o.ast):=hbi;clear hbi;go_wp2_with (first|(go_at_call 179;refine(fAc _ _ _).mono ?_;rintro e w' ⟨rfl,rfl⟩)|(go_at_call 123;refine(fM _ _ _ _).mono ?_;rintro e w' ⟨rfl,rfl⟩));go_quiet (fail);go_wp2
   ·
    rename_i hle;go_ret;refine⟨?_,fJ (bA hbl _) _⟩;have hb0:vW xs (m+1)=1:=by rw[xZ hok,←HL.out,←HO.out,if_pos (HBI.out.2 hle)]
    rw[rQ (k:=m+1) (c:=1) (by rw[HN.out];omega) (by rw[HN.out];exact hlt) HS.out hb0 oM];rfl
   rename_i hle;refine⟨⟨m+1+1,by omega,by go_num,fE HS.out ?_,fJ (bA hbl _) _⟩,mI⟩;rw[xZ hok,←HL.out,←HO.out,if_neg (fun e=>by have:=HBI.out.1 e;omega)]
 go_wp2;go_ret;have hkn:k=n:=oM;subst hkn;refine⟨?_,hbl⟩;rw[kH,if_neg (by rw[HN.out];omega),HN.out,HS.out];rfl
theorem fBx (x:Value) (xs:List Bal) (w:World) (hx:balsR.V w x xs) :
  RI 102 #[x] w (.int .i64 (kH xs)):=by
 obtain⟨ax,cx,rfl,hcx,hmx,hx⟩:=hx;unfold maxLen at hmx;by_cases h18:18<xs.length
 ·
  have e:kH xs=2:=by simp[kH,h18]
  rw[e];go_enter Tryz.func102,Tryz.ntmps102;go_wp2;go_ret;exact⟨rfl,bR _ _⟩
 generalize hn':xs.length=n at *;have HN:Hid (xs.length=n):=hn';clear hn';go_enter Tryz.func102,Tryz.ntmps102;go_wp2;go_loopw [10] (fun i w'=>∃k:Nat,k≤n∧i =.int .i64 k∧fC (vW xs) k=0∧Below w.heap.size w w') (fun i _=>n-(intOf i).toNat)
 case atStart=>exact⟨0,oM,rfl,rfl,bR _ _⟩
 obtain⟨k,hk,rfl,hs,hbl⟩:=hrel;have HS:Hid (fC (vW xs) k=0):=hs;clear hs;by_cases hlt:k<n
 ·
  obtain⟨bx,ox,rfl,g1⟩:=hx k hlt;obtain⟨l,hl⟩:∃l,l=xs.getD k default:=⟨_,rfl⟩
  rw[←hl] at g1;have HL:Hid (l=xs.getD k default):=hl;clear hl;obtain⟨a1,a2,a3⟩:=kG hbl g1;cases hok:uG l
  ·clear hx;go_wp2_with (go_at_call 181;refine(vO l _).mono ?_;rintro e w' ⟨rfl,hb⟩);go_ret;refine⟨?_,bS (bA hbl _) hb⟩;rw[rQ (k:=k) (c:=3) (by rw[HN.out];omega) (by rw[HN.out];exact hlt) HS.out (zJ (by rw[←HL.out];exact hok)) oM];rfl
  have hok2:uG (xs.getD k default)=true:=by rw[←HL.out];exact hok
  cases k with
  | zero=>
   clear hx;simp only[Nat.zero_mul,Nat.add_zero] at a1 a2 a3;go_wp2_with (go_at_call 181;refine(vO l _).mono ?_;rintro e w' ⟨rfl,hb⟩);go_quiet (fail);go_wp2;exact⟨⟨1,by omega,by go_num,fE HS.out (fCg hok2),fJ (bS (bA hbl _) hb) _⟩,mI⟩
  | succ m=>
   obtain⟨b',o',he,g2⟩:=hx m oM;simp only[Option.some.injEq,Addr.mk.injEq,and_true] at he;obtain⟨rfl,rfl⟩:=he;obtain⟨o,ho⟩:∃o,o=xs.getD m default:=⟨_,rfl⟩
   rw[←ho] at g2;have HO:Hid (o=xs.getD m default):=ho;clear ho hx;obtain⟨d1,d2,d3⟩:=kG hbl g2;have i1:(m:Int)<(n:Int):=oM;have v1:IntKind.i64.wrap (m:Int)=m:=kD oM oM;go_wp2_with (go_at_call 181;refine(vO l _).mono ?_;rintro e w' ⟨rfl,hb⟩);have hB:=bS (bA hbl _) hb;have g3:=kG hB g2;have g4:vF w' wr.heap.size 0 l:=⟨cK hb sG,cK hb sG,cK hb sG⟩;clear hb d1 d2 d3 a1 a2 a3 g1 g2;have z5:bx<w'.heap.size:=wL w' _ g3.1;have z6:wr.heap.size<w'.heap.size:=wL w' _ g4.1;go_region_held3 (fun w''=>Below w'.heap.size w' w''∧(w''.cell? ⟨wr.heap.size,0,none⟩=some (.int .i64 l.ac)∧w''.cell? ⟨wr.heap.size,1,none⟩=some (.int .i64 l.ast)∧w''.cell? ⟨wr.heap.size,2,none⟩=some (.int .i64 l.am))∧(w''.cell? ⟨bx,ox+m*3,none⟩=some (.int .i64 o.ac)∧w''.cell? ⟨bx,ox+m*3+1,none⟩=some (.int .i64 o.ast)∧w''.cell? ⟨bx,ox+m*3+2,none⟩=some (.int .i64 o.am)))
    ((refine fMy ?_ g4 g3;repeat (first|exact bR _ _|assumption|refine bD ?_|refine bA ?_ _|refine bS ?_ (by assumption))))
    (first|(go_at_call 182;refine(fB4 l o _).mono ?_;rintro e w3 ⟨rfl,hb3⟩))
   rename_i hH;have hB3:=bS hB hH.1;clear hH;cases hbe:behind l o
   ·
    go_wp2;go_ret;refine⟨?_,hB3⟩;have hb0:vW xs (m+1)=1:=by rw[xZ hok2,←HL.out,←HO.out,if_pos hbe]
    rw[rQ (k:=m+1) (c:=1) (by rw[HN.out];omega) (by rw[HN.out];exact hlt) HS.out hb0 oM];rfl
   go_wp2;refine⟨⟨m+1+1,by omega,by go_num,fE HS.out ?_,hB3⟩,mI⟩;rw[xZ hok2,←HL.out,←HO.out,if_neg (by rw[hbe];simp)]
 go_wp2;go_ret;have hkn:k=n:=oM;subst hkn;refine⟨?_,hbl⟩;rw[kH,if_neg (by rw[HN.out];omega),HN.out,HS.out];rfl
theorem fR5 (x:Value) (xs:List Bal) (a s:Int) (w:World) (hx:balsR.V w x xs) :
  Calls Tryz.prog 100 #[x,.int .i64 a,.int .i64 s] w fun e w'=>e =.returned (.int .i64 (hasB a s xs))∧w'=w:=by
 obtain⟨ax,cx,rfl,hcx,hmx,hx⟩:=hx;unfold maxLen at hmx;generalize hn':xs.length=n at *;have HN:Hid (xs.length=n):=hn';clear hn';go_enter Tryz.func100,Tryz.ntmps100;go_wp2;go_loopw [7] (fun i w'=>∃k:Nat,k≤n∧i =.int .i64 k∧hasB a s (xs.drop k)=hasB a s xs∧w'=w) (fun i _=>n-(intOf i).toNat)
 case atStart=>exact⟨0,oM,rfl,rfl,rfl⟩
 obtain⟨k,hk,rfl,hs,rfl⟩:=hrel;have HS:Hid (hasB a s (xs.drop k)=hasB a s xs):=hs;clear hs;by_cases hlt:k<n
 ·
  obtain⟨bx,ox,rfl,g1⟩:=hx k hlt;have HD:Hid (hasB a s (xs.drop k)=if (xs.getD k default).ac=a∧(xs.getD k default).ast=s then (xs.getD k default).am else hasB a s (xs.drop (k+1))):=fRs (by rw[HN.out];exact hlt);obtain⟨l,hl⟩:∃l,l=xs.getD k default:=⟨_,rfl⟩
  rw[←hl] at g1 HD;clear hl hx;obtain⟨a1,a2,a3⟩:=g1;go_wp2
  ·rename_i e1 e2;go_ret;refine⟨?_,rfl⟩;rw[←HS.out,HD.out,if_pos ⟨e1,by simpa using e2⟩];rfl
  ·rename_i e1 e2;refine⟨⟨k+1,by omega,by go_num,?_,trivial⟩,mI⟩;rw[←HS.out,HD.out,if_neg (fun h=>by simp_all)]
  rename_i e1;refine⟨⟨k+1,by omega,by go_num,?_,trivial⟩,mI⟩;rw[←HS.out,HD.out,if_neg (fun h=>by simp_all)]
 go_wp2;go_ret;refine⟨?_,rfl⟩;rw[←HS.out,List.drop_eq_nil_of_le (by rw[HN.out];omega)];rfl
variable [dQ Cont] [iH Cont]
def canV (v:Int):Int:=if v<0 then 6 else if 1000000000000<v then 3 else 0
def canB (xs:List Bal) (l:Leg):Int:=canV (hasB l.ac l.ast xs+l.am)
def canL (f:Int→Int→Int→Option Int) (l:Leg):Int:=canV ((f l.sh l.ac l.ast).getD 0+l.am)
def fN0 (xs:List Bal):Prop:=∀a t,0≤hasB a t xs∧hasB a t xs≤1000000000000
theorem fRt {a t:Int}:∀{xs:List Bal},(∀k,k<xs.length→uG (xs.getD k default)=true)→0≤hasB a t xs∧hasB a t xs≤1000000000000
 | [],_=>by simp[hasB]
 | x::r,h=>by
  simp only[hasB];split
  ·have:=(balOk_iff.1 (h 0 (by simp))).2;simp only[List.getD_cons_zero] at this;omega
  exact fRt (fun k hk=>by have:=h (k+1) (by simpa using hk);simpa only[List.getD_cons_succ] using this)
theorem fJl {xs:List Bal} (h:BalsOk xs):fN0 xs:=fun _ _=>fRt h.ok
theorem fGc {w w':World} {b o:Nat} {l:Leg} (hb:Below w.heap.size w w') (h:mE w b o l) :
  Below w.heap.size w w'∧w'.cell? ⟨b,o,none⟩=some (.int .i64 l.sh)∧w'.cell? ⟨b,o+1,none⟩=some (.int .i64 l.ac)∧w'.cell? ⟨b,o+2,none⟩=some (.int .i64 l.ast)∧w'.cell? ⟨b,o+3,none⟩=some (.int .i64 l.am):=
 ⟨hb,fG hb h⟩
theorem fPs (x y:Value) (xs:List Bal) (ls:List Leg) (w:World) (hx:balsR.V w x xs) (hy:legsR.V w y ls) (hs:fN0 xs) (ha:small ls) :
  RI 262 #[x,y] w (.int .i64 (fC (fun k=>canB xs (ls.getD k default)) ls.length)):=by
 have hX:=hx;obtain⟨ax,cx,rfl⟩:=gU hx;obtain⟨ay,cy,rfl,hcy,hmy,hy⟩:=hy;unfold maxLen at hmy;have HA:Hid (small ls):=ha;have HSM:Hid (fN0 xs):=hs;clear ha hs hx;generalize hn':ls.length=n at *;have HN:Hid (ls.length=n):=hn';clear hn';go_enter Tryz.func262,Tryz.ntmps262;go_wp2;go_loopw [5] (fun i w'=>∃k:Nat,k≤n∧i =.int .i64 k∧fC (fun k=>canB xs (ls.getD k default)) k=0∧Below w.heap.size w w') (fun i _=>n-(intOf i).toNat)
 case atStart=>exact⟨0,oM,rfl,rfl,bR _ _⟩
 obtain⟨k,hk,rfl,hs,hbl⟩:=hrel;have HS:Hid (fC (fun k=>canB xs (ls.getD k default)) k=0):=hs;clear hs;by_cases hlt:k<n
 ·
  obtain⟨bx,ox,rfl,g1⟩:=hy k hlt;have hsm:=HA.out k (by rw[HN.out];exact hlt);obtain⟨l,hl⟩:∃l,l=ls.getD k default:=⟨_,rfl⟩
  rw[←hl] at g1 hsm;have HL:Hid (l=ls.getD k default):=hl;clear hl hy;have hhs:=HSM.out l.ac l.ast;have g2:=fG hbl g1;obtain⟨a1,a2,a3,a4⟩:=g2;have hXr:=balsR.below hX hbl;obtain⟨v,hv⟩:∃v,v=hasB l.ac l.ast xs:=⟨_,rfl⟩
  rw[←hv] at hhs;have HV:Hid (v=hasB l.ac l.ast xs):=hv;have v1:IntKind.i64.wrap (v+l.am)=v+l.am:=kD oM oM;have i1:(k:Int)<(n:Int):=oM;have HAT:Hid (canB xs (ls.getD k default)=canV (v+l.am)):=by show _=_;rw[←HL.out,canB,HV.out]
  clear hsm hhs;have g3:mE wr bx (ox+k*4) l:=⟨a1,a2,a3,a4⟩;go_wp2;go_region_held3 (fun w'=>Below wr.heap.size wr w'∧w'.cell? ⟨bx,ox+k*4,none⟩=some (.int .i64 l.sh)∧w'.cell? ⟨bx,ox+k*4+1,none⟩=some (.int .i64 l.ac)∧w'.cell? ⟨bx,ox+k*4+2,none⟩=some (.int .i64 l.ast)∧w'.cell? ⟨bx,ox+k*4+3,none⟩=some (.int .i64 l.am))
   ((refine fGc ?_ g3;(repeat (first|exact bR _ _|assumption|refine bD ?_|refine bA ?_ _|refine bS ?_ (by assumption)))))
   (first|(go_at_call 100;refine(fR5 _ xs l.ac l.ast _ (balsR.below hXr (Below.drew (bR _ _)))).mono ?_;rw[←hv];rintro e w3 ⟨rfl,rfl⟩))
  rename_i hH;have hB:=bS hbl hH.1;clear hH;rw[←hv,v1];clear hv v1;generalize v+l.am=z at *;go_wp2
  ·rename_i c1;go_ret;refine⟨?_,hB⟩;rw[fK HS.out (by rw[HAT.out,canV,if_pos c1];omega) _ hlt,HAT.out,canV,if_pos c1];rfl
  ·rename_i c1 c2;go_ret;refine⟨?_,hB⟩;rw[fK HS.out (by rw[HAT.out,canV,if_neg oM,if_pos c2];omega) _ hlt,HAT.out,canV,if_neg oM,if_pos c2];rfl
  rename_i c1 c2;refine⟨⟨k+1,by omega,by go_num,fE HS.out ?_,hB⟩,mI⟩;rw[HAT.out,canV,if_neg oM,if_neg oM]
 go_wp2;go_ret;have hkn:k=n:=oM;subst hkn;refine⟨?_,hbl⟩;rw[HS.out];rfl
theorem fRr {g:Ledg} {l:Leg} (h0:0≤l.sh) (h:l.sh<g.shards.length):canB (g.shards.getD l.sh.toNat default) l=canL (tJ g.shards) l:=by
 rw[canB,canL,fFx,tJ,if_pos ⟨h0,h⟩]
theorem fOr {g:Ledg} (h:vR g=0):∀k,k<g.shards.length→fN0 (g.shards.getD k default):=fun k hk=>fJl ((fNk h).2.2 k hk)
theorem fIu (l:Leg) (w:World):RI 105 #[.agg #[.int .i64 l.sh,.int .i64 l.ac,.int .i64 l.ast,.int .i64 l.am]] w (kv l.sh l.ac l.ast):=by
 go_enter Tryz.func105,Tryz.ntmps105;go_wp2_with fail;refine(fIv _ _ _ _).mono ?_;rintro e w1 ⟨rfl,hb1⟩;have hB1:Below w.heap.size w w1:=qBq;have r0:w1.cell? ⟨w.heap.size+1,0,none⟩=some (.int .i64 0):=cK hb1 sG;have r1:w1.cell? ⟨w.heap.size+1,1,none⟩=some (.int .i64 0):=cK hb1 sG;have r2:w1.cell? ⟨w.heap.size+1,2,none⟩=some (.int .i64 0):=cK hb1 sG;have hrf:∀o,w1.frozen? ⟨w.heap.size+1,o,none⟩=false:=fun o=>by rw[(bcell hb1).2 _ _ (by simp)];simp[go_sem]
 clear hb1;unfold kv;go_wp2;refine bodyPost_ret (v:=.agg #[.int .i64 l.sh,.int .i64 l.ac,.int .i64 l.ast]) ?_ rfl ⟨rfl,qBq⟩;simp[results,Tryz.results105,go_sem,r0,r1,r2]
def fSt (f:Int→Int→Int→Option Int):Prop:=∀s a t,0≤(f s a t).getD 0∧(f s a t).getD 0≤1000000000000
theorem fSu {g:Ledg} (h:vR g=0):fSt (tJ g.shards):=fun s a t=>by
 unfold tJ;split
 ·rename_i hs;rw[←fFx];exact fOr h s.toNat oM a t
 simp
theorem fBs (n:Nat) (b m:Nat) (f:Int→Int→Int→Option Int) (y:Value) (ls:List Leg) (w:World) (hb:Book w b m f) (hy:legsR.V w y ls) (hs:fSt f) (hok:∀k,k<ls.length→gQ (ls.getD k default)=0) :
  RI 273 #[.agg #[.int .i64 n,.map (some b)],y] w (.int .i64 (fC (fun k=>canL f (ls.getD k default)) ls.length)):=by
 obtain⟨ay,cy,rfl,hcy,hmy,hy⟩:=hy;unfold maxLen at hmy;have HOK:Hid (∀k,k<ls.length→gQ (ls.getD k default)=0):=hok;have HSM:Hid (fSt f):=hs;clear hs hok;generalize hn':ls.length=q at *;have HN:Hid (ls.length=q):=hn';clear hn';go_enter Tryz.func273,Tryz.ntmps273;go_wp2;go_loopw [10] (fun i w'=>∃k:Nat,k≤q∧i =.int .i64 k∧fC (fun k=>canL f (ls.getD k default)) k=0∧w'.cell? ⟨w.heap.size,1,none⟩=some (.map (some b))∧Below w.heap.size w w') (fun i _=>q-(intOf i).toNat)
 case atStart=>exact⟨0,oM,rfl,rfl,by simp[go_sem],qBq⟩
 obtain⟨k,hk,rfl,hs,hc1,hbl⟩:=hrel;have HS:Hid (fC (fun k=>canL f (ls.getD k default)) k=0):=hs;clear hs;by_cases hlt:k<q
 ·
  obtain⟨bx,ox,rfl,g1⟩:=hy k hlt;have hlf:=HOK.out k hlt;obtain⟨l,hl⟩:∃l,l=ls.getD k default:=⟨_,rfl⟩
  rw[←hl] at g1 hlf;have HL:Hid (l=ls.getD k default):=hl;clear hl hy;obtain⟨⟨s0,s1⟩,⟨t0,t1⟩,⟨t2,t3⟩,⟨t4,t5⟩,t6⟩:=pK hlf;have hhs:=HSM.out l.sh l.ac l.ast;obtain⟨a1,a2,a3,a4⟩:=fG hbl g1;have hw:kwf l.sh l.ac l.ast:=⟨fMq oM oM,fMq oM oM,fMq oM oM⟩;obtain⟨v,hv⟩:∃v,v=(f l.sh l.ac l.ast).getD 0:=⟨_,rfl⟩
  rw[←hv] at hhs;have HAT:Hid (canL f (ls.getD k default)=canV (v+l.am)):=by show _=_;rw[←HL.out,canL,hv]
  have hlk:∀W,Below w.heap.size w W→(Instr.lookup 93 (.map (some b)) (kv l.sh l.ac l.ast) false).run Tryz.prog W =.ok (.int .i64 v) W:=fun W hW=>by rw[hv];exact((hb.below hW).look hw).1
  clear hv;have v1:IntKind.i64.wrap (v+l.am)=v+l.am:=kD oM oM;have hz:w.heap.size<wr.heap.size:=wL _ _ hc1;have h0:Below w.heap.size w (wr.alloc (.cells #[.int .i64 l.sh,.int .i64 l.ac,.int .i64 l.ast,.int .i64 l.am] 131))∧(wr.alloc (.cells #[.int .i64 l.sh,.int .i64 l.ac,.int .i64 l.ast,.int .i64 l.am] 131)).cell? ⟨w.heap.size,1,none⟩=some (.map (some b))∧(wr.alloc (.cells #[.int .i64 l.sh,.int .i64 l.ac,.int .i64 l.ast,.int .i64 l.am] 131)).cell? ⟨wr.heap.size,0,none⟩=some (.int .i64 l.sh)∧(wr.alloc (.cells #[.int .i64 l.sh,.int .i64 l.ac,.int .i64 l.ast,.int .i64 l.am] 131)).cell? ⟨wr.heap.size,1,none⟩=some (.int .i64 l.ac)∧(wr.alloc (.cells #[.int .i64 l.sh,.int .i64 l.ac,.int .i64 l.ast,.int .i64 l.am] 131)).cell? ⟨wr.heap.size,2,none⟩=some (.int .i64 l.ast)∧(wr.alloc (.cells #[.int .i64 l.sh,.int .i64 l.ac,.int .i64 l.ast,.int .i64 l.am] 131)).cell? ⟨wr.heap.size,3,none⟩=some (.int .i64 l.am):=
   ⟨qBq,cK (bA (bR _ _) _) hc1,by simp[go_sem],sG,by simp[go_sem],sG⟩
  go_wp2;generalize hW:wr.alloc (.cells #[.int .i64 l.sh,.int .i64 l.ac,.int .i64 l.ast,.int .i64 l.am] 131)=W at *;clear hW a1 a2 a3 a4 g1 hc1;go_region_held3 (fun w'=>Below w.heap.size w w'∧w'.cell? ⟨w.heap.size,1,none⟩=some (.map (some b))∧w'.cell? ⟨wr.heap.size,0,none⟩=some (.int .i64 l.sh)∧w'.cell? ⟨wr.heap.size,1,none⟩=some (.int .i64 l.ac)∧w'.cell? ⟨wr.heap.size,2,none⟩=some (.int .i64 l.ast)∧w'.cell? ⟨wr.heap.size,3,none⟩=some (.int .i64 l.am))
   ((first|exact fR0 h0 (Below.drew (bR _ _))|exact hS3))
   (first|(go_at_call 105;refine(fIu l _).mono ?_;rintro e w3 ⟨rfl,hb5⟩;have hS3:=fR0 (fR0 h0 (Below.drew (bR _ _))) hb5;have hl5:=hlk _ hS3.1))
  rename_i hH;have hB:=hH.1;have hc2:=hH.2.1;clear hH hS3 hl5 hlk;generalize v+l.am=z at *;go_wp2
  ·rename_i c1;go_ret;refine⟨?_,hB⟩;rw[fK HS.out (by rw[HAT.out,canV,if_pos c1];omega) _ hlt,HAT.out,canV,if_pos c1];rfl
  ·rename_i c1 c2;go_ret;refine⟨?_,hB⟩;rw[fK HS.out (by rw[HAT.out,canV,if_neg oM,if_pos c2];omega) _ hlt,HAT.out,canV,if_neg oM,if_pos c2];rfl
  rename_i c1 c2;refine⟨⟨k+1,by omega,by go_num,fE HS.out ?_,hc2,hB⟩,mI⟩;rw[HAT.out,canV,if_neg oM,if_neg oM]
 go_wp2;go_ret;have hkn:k=q:=oM;subst hkn;refine⟨?_,hbl⟩;rw[HS.out];rfl
end
section
open Go.Shelf Go.Maps
variable [dQ Bal] [iH Bal] [dQ Ledg] [iH Ledg] [dQ Leg] [iH Leg] [dQ Cont] [iH Cont]
attribute [local go_sem] Oper.semAt_some
def KOk (f:Int→Int→Int→Option Int) (ys:List K3):Prop:=ys.Nodup∧∀x ∈ ys,(f x.1 x.2.1 x.2.2).isSome=true
end
section
variable [dQ Bal] [iH Bal] [dQ Ledg] [iH Ledg]
structure LedgR where
 code:Int
 ledger:Ledg
variable [dQ LedgR] [iH LedgR]
end
section
theorem PO.append {α:Type} {R:Rep α} {e size:Nat} {lv:Value→List Value} {w Y w':World} {base:Nat} {v v':Value} {n:Nat} {d:Nat→α} {cs:List Value} {us:Nat→Value} {fs:Nat→Nat→Prop} {u:Value} {F':Nat→Prop}
  (h:PO R e size lv w base v n n d cs us fs) (hbs:base≤w.heap.size) (hb:Below w.heap.size w Y) (hu:R.O Y w.heap.size F' u (d n)) (hl:(lv u).length=size)
  (hr:w'.ownsRow base e size v' (n+1) (cs++lv u)) (hg:Y.grownBy w' v.ownBlock) (hloc:v'.ownBlock=v.ownBlock∨∃g,v'.ownBlock=some g∧Y.heap.size≤g) :
  PO R e size lv w' base v' (n+1) (n+1) d (cs++lv u) (upd us n u) (upd fs n F'):=by
 have hlt:∀b,v.ownBlock=some b→b<w.heap.size:=fun b hb=>(h.row.lt b hb).2
 have hF:∀b,F' b→w.heap.size≤b∧b<Y.heap.size:=fun b hb=>R.rng hu b hb
 have hfs:∀i,i<n→∀b,fs i b→b<w.heap.size:=fun i hi b hb=>(R.rng (h.el i hi) b hb).2
 have hcl:cs.length=n*size:=h.row.1;refine⟨hr,?_,?_,?_,?_,?_⟩
 ·
  intro i hi;by_cases hik:i=n
  ·subst hik;rw[mX,mX];exact R.base (R.mod hu (Mod.of_grown hg) (fun b hb he=>by have:=hlt b he;have:=(hF b hb).1;omega)) hbs
  rw[upd_ne _ _ hik,upd_ne _ _ hik];exact R.mod (R.keep (h.el i oM) hb) (Mod.of_grown hg) (fun b hb=>h.out i oM b hb)
 ·
  intro i hi;by_cases hik:i=n
  ·subst hik;rw[mX];exact hl
  rw[upd_ne _ _ hik];exact h.ln i oM
 ·
  intro i hi j hj;by_cases hik:i=n
  ·subst hik;rw[mX,List.getElem?_append_right oM,hcl];congr 1;omega
  rw[upd_ne _ _ hik,←h.cell i oM j hj,List.getElem?_append_left];rw[hcl];have:i*size+size≤n*size:=by rw[←Nat.succ_mul];exact Nat.mul_le_mul_right _ oM
  omega
 ·
  intro i hi b hb he;by_cases hik:i=n
  ·
   subst hik;rw[mX] at hb;rcases hloc with hloc|⟨g,hg',hge⟩
   ·rw[hloc] at he;have:=hlt b he;have:=(hF b hb).1;omega
   rw[hg'] at he;simp only[Option.some.injEq] at he;have:=(hF b hb).2;omega
  rw[upd_ne _ _ hik] at hb;rcases hloc with hloc|⟨g,hg',hge⟩
  ·rw[hloc] at he;exact h.out i oM b hb he
  rw[hg'] at he;simp only[Option.some.injEq] at he;have:=hfs i oM b hb;have:=hb;have:=h.row;have:=hlt;have hYw:w.heap.size≤Y.heap.size:=by
   have:=‹Below w.heap.size w Y›;exact this.size
  omega
 intro i j hi hj hij b h1 h2;by_cases hik:i=n
 ·subst hik;rw[mX] at h1;rw[upd_ne _ _ (Ne.symm hij)] at h2;have:=(hF b h1).1;have:=hfs j oM b h2;omega
 rw[upd_ne _ _ hik] at h1;by_cases hjk:j=n
 ·subst hjk;rw[mX] at h2;have:=(hF b h2).1;have:=hfs i oM b h1;omega
 rw[upd_ne _ _ hjk] at h2;exact h.sep i j oM oM hij b h1 h2
section
variable {P : Program} (w : World)
theorem fEe {ops:Array Oper} {o:Oper} {a:Act} {K:Act→World→Prop} {Q:Exit→Act→World→Prop} {E:Prop} (hgd:o.guard=none) (s x:Operand) (t:TypeId)
  (ho:o.op =.call {callee:=.builtin .append,args:=#[s,x],argTypes:=#[t,t]})
  (base:Nat) (e:TypeId) (i:TypeInfo) (z:Value) (size bytes:Nat) (ht:P.underlying t=some (.slice e)) (hi:P.info? e=some i) (hz:i.zero=some z)
  (hsize:i.size=size) (hby:i.bytes=bytes) (hzs:z.cells.size=size) (hsz:0<size)
  (v:Value) (n:Nat) (xs:List Value) (hs:a.eval s=v) (hown:w.ownsRow base e size v n xs)
  (ad:Addr) (m c:Nat) (news:List Value) (hx:a.eval x =.slice (some ad) m c) (hl:news.length=m*size) (hnews:∀j u,news[j]? = some u→w.cell? (ad.add j)=some u) (h1:∀u ∈ news,u.oneCell'=true)
  (h63:n+m≤maxLen) (hbytes:(n+m)*bytes≤140737488355328) (hbase:base≤w.heap.size)
  (h:∀v' w',w'.ownsRow base e size v' (n+m) (xs++news)→w.grownBy w' v.ownBlock→(v'.ownBlock=v.ownBlock∨v'.ownBlock=some w.heap.size)→K (a.put o.dst v') w') :
  if Region.wanted o (yielded ops a.tmps)=true then Oper.wp P o a w K Q else E:=by
 have hw:Region.wanted o (yielded ops a.tmps)=true:=by simp[Region.wanted,hgd]
 rw[if_pos hw];obtain⟨v',w',hr,h2,h3,_,h5⟩:=run_append_own_at (P:=P) w base t o.type e i z size bytes ht hi hz hsize hby hzs hsz v n xs hown ad m c news hl hnews h1 h63 hbytes hbase;unfold Oper.wp execOp;simp only[ho,resolve,invoke,builtin,Sem.run_bind,Sem.run_pure,Result.andThen_ok,List.map_toArray,List.map_cons,List.map_nil,hs,hx,hr];exact h v' w' h2 h3 h5
end
end
end Go.Proofs.YtbfnobcidnmohaaGreat

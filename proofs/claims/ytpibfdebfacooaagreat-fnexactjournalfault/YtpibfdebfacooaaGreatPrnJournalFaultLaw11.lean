import Derived.Test.YtpibfdebfacooaaGreatPrnJournalFaultLaw10
import Derived.Maps.RangeWalk
import Derived.Sort.MapsRangeIn
set_option maxHeartbeats 4000000
set_option maxRecDepth 100000
set_option linter.unusedSectionVars false
set_option linter.unusedVariables false
set_option linter.unusedSimpArgs false
namespace Go.Proofs.YtpibfdebfacooaaGreat
open Go.RowKit
attribute [local go_sem ↓] Go.wp_at_zero Go.wp_at_succ
section
variable [dQ Bal] [iH Bal] [dQ Ledg] [iH Ledg] [dQ Leg] [iH Leg]
theorem fHc (x:Value) (xs:List Bal) (a s:Int) (w:World) (hx:balsR.V w x xs) :
  Calls Tryz.prog 186 #[x,.int .i64 a,.int .i64 s] w fun e w'=>e =.returned (.int .i64 (hasB a s xs))∧w'=w:=by
 obtain⟨ax,cx,rfl,hcx,hmx,hx⟩:=hx;unfold maxLen at hmx;generalize hn':xs.length=n at *;have HN:Hid (xs.length=n):=hn';clear hn';go_enter Tryz.func186,Tryz.ntmps186;go_wp2;go_loopw [7] (fun i w'=>∃k:Nat,k≤n∧i =.int .i64 k∧hasB a s (xs.drop k)=hasB a s xs∧w'=w) (fun i _=>n-(intOf i).toNat)
 case atStart=>exact⟨0,oM,rfl,rfl,rfl⟩
 obtain⟨k,hk,rfl,hs,rfl⟩:=hrel;have HS:Hid (hasB a s (xs.drop k)=hasB a s xs):=hs;clear hs;by_cases hlt:k<n
 ·
  obtain⟨bx,ox,rfl,g1⟩:=hx k hlt;have HD:Hid (hasB a s (xs.drop k)=if (xs.getD k default).ac=a∧(xs.getD k default).ast=s then (xs.getD k default).am else hasB a s (xs.drop (k+1))):=fN1 (by rw[HN.out];exact hlt);obtain⟨l,hl⟩:∃l,l=xs.getD k default:=⟨_,rfl⟩
  rw[←hl] at g1 HD;clear hl hx;obtain⟨a1,a2,a3⟩:=g1;go_wp2
  ·rename_i e1 e2;go_ret;refine⟨?_,rfl⟩;rw[←HS.out,HD.out,if_pos ⟨e1,by simpa using e2⟩];rfl
  ·rename_i e1 e2;refine⟨⟨k+1,by omega,by go_num,?_,trivial⟩,mI⟩;rw[←HS.out,HD.out,if_neg (fun h=>by simp_all)]
  rename_i e1;refine⟨⟨k+1,by omega,by go_num,?_,trivial⟩,mI⟩;rw[←HS.out,HD.out,if_neg (fun h=>by simp_all)]
 go_wp2;go_ret;refine⟨?_,rfl⟩;rw[←HS.out,List.drop_eq_nil_of_le (by rw[HN.out];omega)];rfl
variable [dQ Cont] [iH Cont]
def canV (v:Int):Int:=if v<0 then 6 else if 1000000000000<v then 3 else 0
def canB (xs:List Bal) (l:Leg):Int:=canV (hasB l.ac l.ast xs+l.am)
def canL (f:Int→Int→Int→Option Int) (l:Leg):Int:=canV ((f l.sh l.ac l.ast).getD 0+l.am)
def fK7 (xs:List Bal):Prop:=∀a t,0≤hasB a t xs∧hasB a t xs≤1000000000000
theorem fIm {a t:Int}:∀{xs:List Bal},(∀k,k<xs.length→rZ (xs.getD k default)=true)→0≤hasB a t xs∧hasB a t xs≤1000000000000
 | [],_=>by simp[hasB]
 | x::r,h=>by
  simp only[hasB];split
  ·have:=(balOk_iff.1 (h 0 (by simp))).2;simp only[List.getD_cons_zero] at this;omega
  exact fIm (fun k hk=>by have:=h (k+1) (by simpa using hk);simpa only[List.getD_cons_succ] using this)
theorem fCp {xs:List Bal} (h:BalsOk xs):fK7 xs:=fun _ _=>fIm h.ok
theorem fCc {w w':World} {b o:Nat} {l:Leg} (hb:Below w.heap.size w w') (h:kW w b o l) :
  Below w.heap.size w w'∧w'.cell? ⟨b,o,none⟩=some (.int .i64 l.sh)∧w'.cell? ⟨b,o+1,none⟩=some (.int .i64 l.ac)∧w'.cell? ⟨b,o+2,none⟩=some (.int .i64 l.ast)∧w'.cell? ⟨b,o+3,none⟩=some (.int .i64 l.am):=
 ⟨hb,fK hb h⟩
theorem fEa (x y:Value) (xs:List Bal) (ls:List Leg) (w:World) (hx:balsR.V w x xs) (hy:legsR.V w y ls) (hs:fK7 xs) (ha:small ls) :
  RI 184 #[x,y] w (.int .i64 (fF (fun k=>canB xs (ls.getD k default)) ls.length)):=by
 have hX:=hx;obtain⟨ax,cx,rfl⟩:=fM hx;obtain⟨ay,cy,rfl,hcy,hmy,hy⟩:=hy;unfold maxLen at hmy;have HA:Hid (small ls):=ha;have HSM:Hid (fK7 xs):=hs;clear ha hs hx;generalize hn':ls.length=n at *;have HN:Hid (ls.length=n):=hn';clear hn';go_enter Tryz.func184,Tryz.ntmps184;go_wp2;go_loopw [5] (fun i w'=>∃k:Nat,k≤n∧i =.int .i64 k∧fF (fun k=>canB xs (ls.getD k default)) k=0∧Below w.heap.size w w') (fun i _=>n-(intOf i).toNat)
 case atStart=>exact⟨0,oM,rfl,rfl,bR _ _⟩
 obtain⟨k,hk,rfl,hs,hbl⟩:=hrel;have HS:Hid (fF (fun k=>canB xs (ls.getD k default)) k=0):=hs;clear hs;by_cases hlt:k<n
 ·
  obtain⟨bx,ox,rfl,g1⟩:=hy k hlt;have hsm:=HA.out k (by rw[HN.out];exact hlt);obtain⟨l,hl⟩:∃l,l=ls.getD k default:=⟨_,rfl⟩
  rw[←hl] at g1 hsm;have HL:Hid (l=ls.getD k default):=hl;clear hl hy;have hhs:=HSM.out l.ac l.ast;have g2:=fK hbl g1;obtain⟨a1,a2,a3,a4⟩:=g2;have hXr:=balsR.below hX hbl;obtain⟨v,hv⟩:∃v,v=hasB l.ac l.ast xs:=⟨_,rfl⟩
  rw[←hv] at hhs;have HV:Hid (v=hasB l.ac l.ast xs):=hv;have v1:IntKind.i64.wrap (v+l.am)=v+l.am:=qB oM oM;have i1:(k:Int)<(n:Int):=oM;have HAT:Hid (canB xs (ls.getD k default)=canV (v+l.am)):=by show _=_;rw[←HL.out,canB,HV.out]
  clear hsm hhs;have g3:kW wr bx (ox+k*4) l:=⟨a1,a2,a3,a4⟩;go_wp2;go_region_held3 (fun w'=>Below wr.heap.size wr w'∧w'.cell? ⟨bx,ox+k*4,none⟩=some (.int .i64 l.sh)∧w'.cell? ⟨bx,ox+k*4+1,none⟩=some (.int .i64 l.ac)∧w'.cell? ⟨bx,ox+k*4+2,none⟩=some (.int .i64 l.ast)∧w'.cell? ⟨bx,ox+k*4+3,none⟩=some (.int .i64 l.am))
   ((refine fCc ?_ g3;(repeat (first|exact bR _ _|assumption|refine bD ?_|refine bA ?_ _|refine bS ?_ (by assumption)))))
   (first|(go_at_call 186;refine(fHc _ xs l.ac l.ast _ (balsR.below hXr (Below.drew (bR _ _)))).mono ?_;rw[←hv];rintro e w3 ⟨rfl,rfl⟩))
  rename_i hH;have hB:=bS hbl hH.1;clear hH;rw[←hv,v1];clear hv v1;generalize v+l.am=z at *;go_wp2
  ·rename_i c1;go_ret;refine⟨?_,hB⟩;rw[mD HS.out (by rw[HAT.out,canV,if_pos c1];omega) _ hlt,HAT.out,canV,if_pos c1];rfl
  ·rename_i c1 c2;go_ret;refine⟨?_,hB⟩;rw[mD HS.out (by rw[HAT.out,canV,if_neg oM,if_pos c2];omega) _ hlt,HAT.out,canV,if_neg oM,if_pos c2];rfl
  rename_i c1 c2;refine⟨⟨k+1,by omega,by go_num,gH HS.out ?_,hB⟩,mI⟩;rw[HAT.out,canV,if_neg oM,if_neg oM]
 go_wp2;go_ret;have hkn:k=n:=oM;subst hkn;refine⟨?_,hbl⟩;rw[HS.out];rfl
theorem fN0 {g:Ledg} {l:Leg} (h0:0≤l.sh) (h:l.sh<g.shards.length):canB (g.shards.getD l.sh.toNat default) l=canL (kK g.shards) l:=by
 rw[canB,canL,zC,kK,if_pos ⟨h0,h⟩]
theorem fLr {g:Ledg} (h:qY g=0):∀k,k<g.shards.length→fK7 (g.shards.getD k default):=fun k hk=>fCp ((fBf h).2.2 k hk)
theorem fAx (l:Leg) (w:World):RI 226 #[.agg #[.int .i64 l.sh,.int .i64 l.ac,.int .i64 l.ast,.int .i64 l.am]] w (kv l.sh l.ac l.ast):=by
 go_enter Tryz.func226,Tryz.ntmps226;go_wp2_with fail;refine(fG7 _ _ _ _).mono ?_;rintro e w1 ⟨rfl,hb1⟩;have hB1:Below w.heap.size w w1:=qBq;have r0:w1.cell? ⟨w.heap.size+1,0,none⟩=some (.int .i64 0):=cK hb1 sG;have r1:w1.cell? ⟨w.heap.size+1,1,none⟩=some (.int .i64 0):=cK hb1 sG;have r2:w1.cell? ⟨w.heap.size+1,2,none⟩=some (.int .i64 0):=cK hb1 sG;have hrf:∀o,w1.frozen? ⟨w.heap.size+1,o,none⟩=false:=fun o=>by rw[(bcell hb1).2 _ _ (by simp)];simp[go_sem]
 clear hb1;unfold kv;go_wp2;refine bodyPost_ret (v:=.agg #[.int .i64 l.sh,.int .i64 l.ac,.int .i64 l.ast]) ?_ rfl ⟨rfl,qBq⟩;simp[results,Tryz.results226,go_sem,r0,r1,r2]
def fOx (f:Int→Int→Int→Option Int):Prop:=∀s a t,0≤(f s a t).getD 0∧(f s a t).getD 0≤1000000000000
theorem fOy {g:Ledg} (h:qY g=0):fOx (kK g.shards):=fun s a t=>by
 unfold kK;split
 ·rename_i hs;rw[←zC];exact fLr h s.toNat oM a t
 simp
theorem fA6 (n:Nat) (b m:Nat) (f:Int→Int→Int→Option Int) (y:Value) (ls:List Leg) (w:World) (hb:Book w b m f) (hy:legsR.V w y ls) (hs:fOx f) (hok:∀k,k<ls.length→gD (ls.getD k default)=0) :
  RI 212 #[.agg #[.int .i64 n,.map (some b)],y] w (.int .i64 (fF (fun k=>canL f (ls.getD k default)) ls.length)):=by
 obtain⟨ay,cy,rfl,hcy,hmy,hy⟩:=hy;unfold maxLen at hmy;have HOK:Hid (∀k,k<ls.length→gD (ls.getD k default)=0):=hok;have HSM:Hid (fOx f):=hs;clear hs hok;generalize hn':ls.length=q at *;have HN:Hid (ls.length=q):=hn';clear hn';go_enter Tryz.func212,Tryz.ntmps212;go_wp2;go_loopw [10] (fun i w'=>∃k:Nat,k≤q∧i =.int .i64 k∧fF (fun k=>canL f (ls.getD k default)) k=0∧w'.cell? ⟨w.heap.size,1,none⟩=some (.map (some b))∧Below w.heap.size w w') (fun i _=>q-(intOf i).toNat)
 case atStart=>exact⟨0,oM,rfl,rfl,by simp[go_sem],qBq⟩
 obtain⟨k,hk,rfl,hs,hc1,hbl⟩:=hrel;have HS:Hid (fF (fun k=>canL f (ls.getD k default)) k=0):=hs;clear hs;by_cases hlt:k<q
 ·
  obtain⟨bx,ox,rfl,g1⟩:=hy k hlt;have hlf:=HOK.out k hlt;obtain⟨l,hl⟩:∃l,l=ls.getD k default:=⟨_,rfl⟩
  rw[←hl] at g1 hlf;have HL:Hid (l=ls.getD k default):=hl;clear hl hy;obtain⟨⟨s0,s1⟩,⟨t0,t1⟩,⟨t2,t3⟩,⟨t4,t5⟩,t6⟩:=gQ hlf;have hhs:=HSM.out l.sh l.ac l.ast;obtain⟨a1,a2,a3,a4⟩:=fK hbl g1;have hw:kwf l.sh l.ac l.ast:=⟨xO oM oM,xO oM oM,xO oM oM⟩;obtain⟨v,hv⟩:∃v,v=(f l.sh l.ac l.ast).getD 0:=⟨_,rfl⟩
  rw[←hv] at hhs;have HAT:Hid (canL f (ls.getD k default)=canV (v+l.am)):=by show _=_;rw[←HL.out,canL,hv]
  have hlk:∀W,Below w.heap.size w W→(Instr.lookup 225 (.map (some b)) (kv l.sh l.ac l.ast) false).run Tryz.prog W =.ok (.int .i64 v) W:=fun W hW=>by rw[hv];exact((hb.below hW).look hw).1
  clear hv;have v1:IntKind.i64.wrap (v+l.am)=v+l.am:=qB oM oM;have hz:w.heap.size<wr.heap.size:=wL _ _ hc1;have h0:Below w.heap.size w (wr.alloc (.cells #[.int .i64 l.sh,.int .i64 l.ac,.int .i64 l.ast,.int .i64 l.am] 168))∧(wr.alloc (.cells #[.int .i64 l.sh,.int .i64 l.ac,.int .i64 l.ast,.int .i64 l.am] 168)).cell? ⟨w.heap.size,1,none⟩=some (.map (some b))∧(wr.alloc (.cells #[.int .i64 l.sh,.int .i64 l.ac,.int .i64 l.ast,.int .i64 l.am] 168)).cell? ⟨wr.heap.size,0,none⟩=some (.int .i64 l.sh)∧(wr.alloc (.cells #[.int .i64 l.sh,.int .i64 l.ac,.int .i64 l.ast,.int .i64 l.am] 168)).cell? ⟨wr.heap.size,1,none⟩=some (.int .i64 l.ac)∧(wr.alloc (.cells #[.int .i64 l.sh,.int .i64 l.ac,.int .i64 l.ast,.int .i64 l.am] 168)).cell? ⟨wr.heap.size,2,none⟩=some (.int .i64 l.ast)∧(wr.alloc (.cells #[.int .i64 l.sh,.int .i64 l.ac,.int .i64 l.ast,.int .i64 l.am] 168)).cell? ⟨wr.heap.size,3,none⟩=some (.int .i64 l.am):=
   ⟨qBq,cK (bA (bR _ _) _) hc1,by simp[go_sem],sG,by simp[go_sem],sG⟩
  go_wp2;generalize hW:wr.alloc (.cells #[.int .i64 l.sh,.int .i64 l.ac,.int .i64 l.ast,.int .i64 l.am] 168)=W at *;clear hW a1 a2 a3 a4 g1 hc1;go_region_held3 (fun w'=>Below w.heap.size w w'∧w'.cell? ⟨w.heap.size,1,none⟩=some (.map (some b))∧w'.cell? ⟨wr.heap.size,0,none⟩=some (.int .i64 l.sh)∧w'.cell? ⟨wr.heap.size,1,none⟩=some (.int .i64 l.ac)∧w'.cell? ⟨wr.heap.size,2,none⟩=some (.int .i64 l.ast)∧w'.cell? ⟨wr.heap.size,3,none⟩=some (.int .i64 l.am))
   ((first|exact fOc h0 (Below.drew (bR _ _))|exact hS3))
   (first|(go_at_call 226;refine(fAx l _).mono ?_;rintro e w3 ⟨rfl,hb5⟩;have hS3:=fOc (fOc h0 (Below.drew (bR _ _))) hb5;have hl5:=hlk _ hS3.1))
  rename_i hH;have hB:=hH.1;have hc2:=hH.2.1;clear hH hS3 hl5 hlk;generalize v+l.am=z at *;go_wp2
  ·rename_i c1;go_ret;refine⟨?_,hB⟩;rw[mD HS.out (by rw[HAT.out,canV,if_pos c1];omega) _ hlt,HAT.out,canV,if_pos c1];rfl
  ·rename_i c1 c2;go_ret;refine⟨?_,hB⟩;rw[mD HS.out (by rw[HAT.out,canV,if_neg oM,if_pos c2];omega) _ hlt,HAT.out,canV,if_neg oM,if_pos c2];rfl
  rename_i c1 c2;refine⟨⟨k+1,by omega,by go_num,gH HS.out ?_,hc2,hB⟩,mI⟩;rw[HAT.out,canV,if_neg oM,if_neg oM]
 go_wp2;go_ret;have hkn:k=q:=oM;subst hkn;refine⟨?_,hbl⟩;rw[HS.out];rfl
end
section
open Go.Maps
variable [dQ Bal] [iH Bal] [dQ Ledg] [iH Ledg] [dQ Leg] [iH Leg] [dQ Cont] [iH Cont]
theorem fR7 (v:Value) (y:DataW Unit × List MemPlace) (h:plainElem Tryz.prog 2 v=some y):∃c:Int,v=(fun c=>Value.int .i64 c) c:=by
 obtain⟨c,rfl,_⟩:=plainElem_int_inv Tryz.underlying2 h;exact⟨c,rfl⟩
theorem fSo (key:Value) (kl:Lit) (h:keyOf Tryz.prog 254 key=some kl):∃x:Int × Int × Int,key=(fun x:Int × Int × Int=>Value.agg #[.int .i64 x.1,.int .i64 x.2.1,.int .i64 x.2.2]) x:=by
 obtain⟨s,a,t,rfl,_⟩:=fG8 h;exact⟨(s,a,t),rfl⟩
end
section
open Go.Shelf Go.Maps
variable [dQ Bal] [iH Bal] [dQ Ledg] [iH Ledg] [dQ Leg] [iH Leg] [dQ Cont] [iH Cont]
attribute [local go_sem] Oper.semAt_some
def KOk (f:Int→Int→Int→Option Int) (ys:List K3):Prop:=ys.Nodup∧∀x ∈ ys,(f x.1 x.2.1 x.2.2).isSome=true
def KDn (f:Int→Int→Int→Option Int) (ys:List K3):Prop:=KOk f ys∧∀s a t,kwf s a t→(f s a t).isSome=true→(s,a,t) ∈ ys
def KLeft (f:Int→Int→Int→Option Int) (pre:List K3) (left:Lit→Bool):Prop:=KOk f pre∧∀s a t kl,keyOf Tryz.prog 254 (kv s a t)=some kl→(left kl=true↔((f s a t).isSome=true∧(s,a,t) ∉ pre))
theorem KLeft.step {f:Int→Int→Int→Option Int} {pre:List K3} {left:Lit→Bool} (h:KLeft f pre left) {s a t:Int} {kl:Lit} (hk:keyOf Tryz.prog 254 (kv s a t)=some kl) (hl:left kl=true) :
  KOk f (pre++[(s,a,t)])∧KLeft f (pre++[(s,a,t)]) (fun z=>left z && !z.sameKey kl):=by
 obtain⟨hsome,hnot⟩:=(h.2 s a t kl hk).1 hl;have hok:KOk f (pre++[(s,a,t)]):=by
  refine⟨List.nodup_append.2 ⟨h.1.1,by simp,fun x hx y hy e=>?_⟩,fun x hx=>?_⟩
  ·rw[List.mem_singleton] at hy;rw[hy] at e;rw[e] at hx;exact hnot hx
  rcases List.mem_append.1 hx with hx|hx
  ·exact h.1.2 x hx
  rw[List.mem_singleton.1 hx];exact hsome
 refine⟨hok,hok,fun s' a' t' kl' hk'=>?_⟩;have h0:=h.2 s' a' t' kl' hk';by_cases e:kl'=kl
 ·subst e;obtain⟨rfl,rfl,rfl⟩:=fKs (holdLaw.inj hk' hk);simp[WideAt.sameKey_self (holdLaw.key hk)]
 have hne:¬((s',a',t')=(s,a,t)):=fun e'=>by
  simp only[Prod.mk.injEq] at e';obtain⟨rfl,rfl,rfl⟩:=e';rw[hk] at hk';exact e (by simpa using hk'.symm)
 simp only[sameKey_ne e,Bool.not_false,Bool.and_true,List.mem_append,List.mem_singleton];rw[h0];constructor
 ·rintro⟨h1,h2⟩;exact⟨h1,fun h3=>h3.elim h2 hne⟩
 rintro⟨h1,h2⟩;exact⟨h1,fun h3=>h2 (.inl h3)⟩
theorem fMr {w w':World} {b r n:Nat} {D:DataW Unit} {left:Lit→Bool} {cnt:Nat} {F:Nat→Prop} (h:w.ranges Tryz.prog 254 (plainElem Tryz.prog 2) b r n D left cnt) (hm:Mod F w w') (hb:¬F b) (hr:¬F r):w'.ranges Tryz.prog 254 (plainElem Tryz.prog 2) b r n D left cnt:=by
 have hlb:=h.owns.lt;have hlr:=h.lt;obtain⟨es,clock,since,seen,c0,h1,h2,h3,h4,h5,h6⟩:=h;exact⟨es,clock,since,seen,c0,(hm.block b hlb hb).trans h1,h2,h3,h4,(hm.block r hlr hr).trans h5,h6⟩
theorem fOd (Bs b m:Nat) (f:Int→Int→Int→Option Int) (R:Nat→Prop) (w:World) (hB:w.cell? ⟨Bs,0,none⟩=some (.map (some b))) (hRB:R Bs) (hRb:R b) (hRw:∀i,R i→i<w.heap.size) (hbk:Book w b m f) :
  Seqy Tryz.prog 243 #[.pointer (some ⟨Bs,0,none⟩)] encK (KOk f) (KDn f) R w:=by
 intro l J Jx W X hm hXa hJ hJx hY h0;have hBW:=hm.cell hB (fun h=>h hRB);have hbW:Book W b m f:=hbk.turned hm (fun h=>h hRb);have hWz:=hm.size;clear hbk hB;obtain⟨D,hD,h1⟩:=hbW;have H1:Hid (∀s a t kl,keyOf Tryz.prog 254 (kv s a t)=some kl→Maps.has D kl=(f s a t).isSome∧D.atKey kl (.lit (.int .i64 0)) =.lit (.int .i64 ((f s a t).getD 0))):=h1;clear h1;have HRW:Hid (∀i,R i→i<w.heap.size):=hRw;clear hRw;refine callsIn_of_wp Tryz.func243 rfl trivial ?_ rfl;simp only[Tryz.ntmps243,List.size_toArray,List.length_cons,List.length_nil,Nat.reduceAdd,Nat.reduceSub,Array.replicate_succ,Array.replicate_zero,List.push_toArray,List.append_toArray,List.nil_append,List.cons_append];gi_wp2_with (gi_at_range;refine wpListIn_range_own _ rfl _ 225 rfl 254 2 holdLaw Tryz.underlying225 _ b m D rfl hD ?_;intro w0 hrg0 hg0 hs0);go_frame;have HLT:Hid (b<w.heap.size):=HRW.out b hRb;obtain⟨r,hr⟩:∃r,W.heap.size=r:=⟨_,rfl⟩
 have HWR:Hid (W.heap.size=r):=hr;have hwr:w.heap.size≤r:=oM;have hJ0:J [] w0 (fun i=>X i∨i=r):=hJ _ _ _ X _ h0 ((Mod.of_grown hg0).mono (fun i e=>by cases e)) (fun i h=>.inl h) (fun i h=>by
  rcases h with h|h
  ·exact⟨.inl h,by have:=hXa i h;omega⟩
  exact⟨.inr oM,by omega⟩)
 have hX0:∀i,(X i∨i=r)→i<w0.heap.size:=fun i h=>by
  rcases h with h|h
  ·have:=hXa i h;omega
  omega
 rw[hr] at hrg0 ⊢;clear hr h0 hg0 hs0 hBW hD hXa;have hk0:KLeft f [] (Maps.has D):=⟨⟨List.nodup_nil,fun x h=>by cases h⟩,fun s a t kl hk=>by rw[(H1.out s a t kl hk).1];simp⟩;gi_loopw [6] (fun _ wr=>∃(pre:List K3) (left:Lit→Bool) (cnt:Nat),Hid (J pre wr (fun i=>X i∨i=r))∧wr.ranges (H:=Unit) Tryz.prog 254 (plainElem Tryz.prog 2) b r m D left cnt∧Hid (KLeft f pre left)∧Hid (∀i,(X i∨i=r)→i<wr.heap.size)) (fun _ wr=>wr.rangeLeft b r)
 case atStart=>exact⟨[],_,_,hJ0,hrg0,hk0,hX0⟩
 obtain⟨pre,left,cnt,HJ,hrg,HK,HXa⟩:=hrel;clear hJ0 hX0 hrg0 hk0;gi_wp2_with (gi_at_next;refine wpListIn_next_ranges _ rfl _ rfl 254 holdLaw _ (fun x:Int × Int × Int=>Value.agg #[.int .i64 x.1,.int .i64 x.2.1,.int .i64 x.2.2]) (fun c:Int=>Value.int .i64 c) fSo fR7 b r m D left cnt rfl hrg ?_ ?_)
 ·intro _ hl0;gi_wp2;go_end0;refine⟨⟨_,rfl⟩,_,fun i h=>.inl h,.inl ⟨pre,⟨HK.out.1,fun s a t hw hs=>?_⟩,HJ.out⟩⟩;obtain⟨kl,hk⟩:=xX hw;apply Classical.byContradiction;intro hn;have:=(HK.out.2 s a t kl hk).2 ⟨hs,hn⟩;rw[hl0 kl] at this;cases this
 intro s a t c kl y1 y2 w1 cnt1 hk hlk hv hat hrg1 hlt hg1 hs1 hen;obtain⟨hok,hleft⟩:=HK.out.step (s:=s) (a:=a) (t:=t) hk hlk;have hm1:Mod (fun i=>X i∨i=r) _ w1:=(Mod.of_grown hg1).mono (fun i e=>.inr (by simpa using e.symm));have hJ1:J pre w1 (fun i=>X i∨i=r):=hJ _ _ _ _ _ HJ.out hm1 (fun _ h=>h) (fun i h=>⟨.inl h,by have:=HXa.out i h;omega⟩);have hJ2:J pre (w1.alloc (.cells #[.int .i64 s,.int .i64 a,.int .i64 t] 254)) (fun i=>X i∨i=r):=hJ _ _ _ _ _ hJ1 (tJ _ _ _) (fun _ h=>h) (fun i h=>⟨.inl h,by have:=HXa.out i h;simp;omega⟩);obtain⟨fn,tmps,assign,body,hy,hR2⟩:=hY _ (s,a,t) _ _ hJ2 (fun i h=>.inl h) (fun i h=>by have:=HXa.out i h;simp;omega) hok;unfold encK kv at hy;dsimp only at hy;have HLF:Hid (KLeft f (pre++[(s,a,t)]) (fun z=>left z && !z.sameKey kl)):=hleft;have HM:Hid (w1.rangeLeft b r<0+cnt∨True):=.inr trivial;have HRG1:Hid (w1.ranges (H:=Unit) Tryz.prog 254 (plainElem Tryz.prog 2) b r m D (fun z=>left z && !z.sameKey kl) cnt1):=hrg1;have HCN:Hid (cnt1<cnt):=hlt;have hcnt:=hrg.left_eq;clear hleft hok hk hlk hv hat hrg1 hlt hg1 hm1 hJ1;have hrltb:r<w1.heap.size:=HRG1.out.lt;have hbltb:b<w1.heap.size:=HRG1.out.owns.lt;have hnR:¬R r:=fun h=>by have:=HRW.out r h;omega
 gi_wp2
 refine⟨rfl,hR2.mono ?_⟩;rintro e W3 (⟨rfl,hJ3,hk3⟩|⟨rfl,hJx3,hk3⟩)
 ·
  have hrg3:W3.ranges (H:=Unit) Tryz.prog 254 (plainElem Tryz.prog 2) b r m D (fun z=>left z && !z.sameKey kl) cnt1:=fMr (HRG1.out.alloc _) hk3 (fun h=>h (.inl hRb)) (fun h=>h (.inr (.inr rfl)));have hs3:=hk3.size;simp only[World.size_alloc] at hs3;have HX3:Hid (∀i,(X i∨i=r)→i<W3.heap.size):=fun i h=>by have:=HXa.out i h;omega
  have HJ3:Hid (J (pre++[(s,a,t)]) W3 (fun i=>X i∨i=r)):=hJ3;have hl3:=hrg3.left_eq;clear hJ3 hk3;gi_wp2;go_roundw
  case rel=>exact⟨pre++[(s,a,t)],_,cnt1,HJ3,hrg3,HLF,HX3⟩
  case measure=>
   rw[hl3,hcnt];exact HCN.out
 have HJx3:Hid (Jx (pre++[(s,a,t)]) W3 (fun i=>X i∨i=r)):=hJx3;clear hJx3 hk3;gi_wp2;refine bodyPost_ret (results_none rfl _ _ _) rfl ?_;exact⟨⟨_,rfl⟩,_,fun i h=>.inl h,.inr ⟨_,HLF.out.1,HJx3.out⟩⟩
end
section
open Go.Sort Go.Shelf
variable [dQ Rw] [iH Rw] [dQ Bal] [iH Bal] [dQ Ledg] [iH Ledg] [dQ Leg] [iH Leg] [dQ Cont] [iH Cont]
structure SortsK:Prop where
 some_:∀(xs:List K3) (g cap base:Nat) (W:World),W.ownsRow base 254 3 (.slice (some ⟨g,0,none⟩) xs.length cap) xs.length (xG xs)→base≤W.heap.size→xs.length≤200 →
  Calls Tryz.prog 242 #[.slice (some ⟨g,0,none⟩) xs.length cap,.func (.func 229) #[] #[]] W fun e w'=>e =.returned (.tuple #[])∧∃ys:List K3,ys.Perm xs∧ys.Pairwise (fun p q=>ltOf cfK q p=false)∧(∀i,i<ys.length→vI w' g (i*3) (ys.getD i default))∧Go.RowKit.Below base W w'
 none_:∀W:World,Calls Tryz.prog 242 #[.slice none 0 0,.func (.func 229) #[] #[]] W fun e w'=>e =.returned (.tuple #[])∧w'=W
def fRs (w:World) (v:Value) (ys:List K3):Prop:=∃a c,v =.slice a ys.length c∧∀i,i<ys.length→∃g,a=some ⟨g,0,none⟩∧vI w g (i*3) (ys.getD i default)
theorem fDi (hS:SortsK) (gf:Nat) (lb:Array Value) (Ok Dn:List K3→Prop) (R:Nat→Prop) (w:World) (eg:∀args w,(callFunc gf args).run Tryz.prog w =.ok (.enter gf args) w) (hseq:Seqy Tryz.prog gf lb encK Ok Dn R w) (hR:∀b,R b→b<w.heap.size) (hlen:∀ys,Ok ys→ys.length≤200) (hdl:∀ys,Dn ys→ys.length≤200) :
  Calls Tryz.prog 227 #[.func (.func gf) #[] lb,.func (.func 229) #[] #[]] w fun e w'=>∃v xs ys,e =.returned v∧Dn xs∧ys.Perm xs∧ys.Pairwise (fun p q=>ltOf cfK q p=false)∧fRs w' v ys∧Go.RowKit.Below w.heap.size w w':=by
 have hc:=fGm gf lb Ok Dn R w eg hseq hR hlen;have HS:Hid SortsK:=hS;have HDL:Hid (∀ys,Dn ys→ys.length≤200):=hdl;clear eg hseq hS hdl hlen;go_enter Tryz.func227,Tryz.ntmps227;go_wp2_with fail;refine hc.mono ?_;rintro e w1 ⟨v,xs,rfl,hDn,ho,hb⟩;clear hc;have hl:=HDL.out xs hDn;rcases ho.2 with ⟨rfl,hn⟩|⟨g,cap,_,rfl,_⟩
 ·have hx:xs=[]:=List.eq_nil_of_length_eq_zero hn;subst hx;go_wp2_with fail;refine(HS.out.none_ w1).mono ?_;rintro e w2 ⟨rfl,hw2⟩;obtain rfl:=hw2.symm;go_wp2;go_ret;exact⟨_,[],[],rfl,hDn,List.Perm.refl _,List.Pairwise.nil,⟨none,0,rfl,fun i h=>absurd h (Nat.not_lt_zero _)⟩,hb⟩
 have hcon:=HS.out.some_ xs g cap w.heap.size w1 ho hb.size hl;obtain⟨n,hn⟩:∃n,n=xs.length:=⟨_,rfl⟩
 rw[←hn] at hcon ⊢;have HN:Hid (xs.length=n):=hn.symm;clear hn ho hl;go_wp2_with fail;refine hcon.mono ?_;rintro e w2 ⟨rfl,ys,hp,hs,hk,hb2⟩;clear hcon;have HK:Hid (fRs w2 (.slice (some ⟨g,0,none⟩) n cap) ys):=⟨_,_,by rw[hp.length_eq,HN.out],fun i hi=>⟨g,rfl,hk i hi⟩⟩;have hB2:Go.RowKit.Below w.heap.size w w2:=hb.trans hb2;clear hk;go_wp2;go_ret;exact⟨_,xs,ys,rfl,hDn,hp,hs,HK.out,hB2⟩
theorem fMi (w:World) (b:Nat) :
  Calls Tryz.prog 228 #[.map (some b)] w fun e w'=>e =.returned (.func (.func 243) #[] #[.pointer (some ⟨w.heap.size,0,none⟩)])∧Go.RowKit.Below w.heap.size w w'∧w'.cell? ⟨w.heap.size,0,none⟩=some (.map (some b)):=by
 go_enter Tryz.func228,Tryz.ntmps228;go_wp2;go_ret;exact⟨rfl,bA (bR _ _) _,by simp[go_sem]⟩
end
section
variable [dQ Leg] [iH Leg]
def onSh (s:Int) (xs:List Leg):List Leg:=xs.filter (fun l=>l.sh==s)
theorem fKx (s:Int) (xs:List Leg) (k:Nat) (h:k<xs.length) (hs:(xs.getD k default).sh=s):onSh s (xs.take (k+1))=onSh s (xs.take k)++[xs.getD k default]:=by
 rw[qM xs k h];simp only[onSh,List.filter_append];simp only[List.filter_cons,List.filter_nil,hs,beq_self_eq_true,if_true]
theorem fHf (s:Int) (xs:List Leg) (k:Nat) (h:k<xs.length) (hs:¬(xs.getD k default).sh=s):onSh s (xs.take (k+1))=onSh s (xs.take k):=by
 rw[qM xs k h];simp only[onSh,List.filter_append,List.filter_cons,List.filter_nil,beq_eq_false_iff_ne.2 hs];simp
theorem fOl (s:Int) (xs:List Leg) (k:Nat):(onSh s (xs.take k)).length≤k:=by
 have:=List.length_filter_le (fun l:Leg=>l.sh==s) (xs.take k);have h2:=List.length_take_le k xs;simp only[onSh];omega
theorem fEd (xs:List Leg) (l:Leg):gM (xs++[l])=gM xs++legC l:=by simp[gM]
theorem fKu (l:Leg):∀u ∈ legC l,u.oneCell'=true:=by
 intro u hu;simp only[legC,List.mem_cons,List.not_mem_nil,or_false] at hu;rcases hu with rfl|rfl|rfl|rfl <;> rfl
theorem fEc {w:World} {b o:Nat} {l:Leg} (h:kW w b o l):∀j u,(legC l)[j]? = some u→w.cell? ((⟨b,o,none⟩:Addr).add j)=some u:=by
 obtain⟨h0,h1,h2,h3⟩:=h;intro j u hj;match j,hj with
 | 0,hj=>simp[legC] at hj;subst hj;simpa [Addr.add] using h0
 | 1,hj=>simp[legC] at hj;subst hj;simpa [Addr.add] using h1
 | 2,hj=>simp[legC] at hj;subst hj;simpa [Addr.add] using h2
 | 3,hj=>simp[legC] at hj;subst hj;simpa [Addr.add] using h3
 | j+4,hj=>simp[legC] at hj
theorem qU {w w':World} {B:Nat} {base e size:Nat} {v:Value} {n:Nat} {xs:List Value} (h:w.ownsRow base e size v n xs) {W:World} (hb:Below B W w) (hB:B≤w.heap.size) (hbase:B≤base) (hg:w.grownBy w' v.ownBlock):Below B W w':=
 hb.grown hg hB (fun k hk=>Nat.le_trans hbase (h.lt k hk).1)
theorem uO (x:Value) (xs:List Leg) (s:Int) (w:World) (hx:uX w x xs) (hn:xs.length≤1048576) :
  Calls Tryz.prog 192 #[x,.int .i64 s] w fun e w'=>∃v,e =.returned v∧w'.ownsRow w.heap.size 168 4 v (onSh s xs).length (gM (onSh s xs))∧Below w.heap.size w w':=by
 obtain⟨ax,cx,rfl,hcx,hmx,hx⟩:=hx;unfold maxLen at hmx;obtain⟨i0,hi,hz0,hz1,hz2⟩:=info_parts fB8;generalize hn':xs.length=n at *;have HN:Hid (xs.length=n):=hn';clear hn';go_enter Tryz.func192,Tryz.ntmps192;go_wp2;go_loopw [5,10] (fun v i w'=>∃k:Nat,k≤n∧i =.int .i64 k∧w'.ownsRow w.heap.size 168 4 v (onSh s (xs.take k)).length (gM (onSh s (xs.take k)))∧Below w.heap.size w w') (fun _ i _=>n-(intOf i).toNat)
 case atStart=>exact⟨0,oM,rfl,by simpa [onSh,gM] using World.ownsRow_nil _ _ _ _,bR _ _⟩
 obtain⟨k,hk,rfl,ho,hbl⟩:=hrel;by_cases hlt:k<n
 ·
  obtain⟨bx,ox,rfl,g1⟩:=hx k hlt;obtain⟨l,hl⟩:∃l,l=xs.getD k default:=⟨_,rfl⟩
  rw[←hl] at g1;have HL:Hid (l=xs.getD k default):=hl;clear hl hx;obtain⟨a1,a2,a3,a4⟩:=fK hbl g1;have hkx:k<xs.length:=by have:=HN.out;omega
  have hle:=fOl s xs k;have hsz:=hbl.size;by_cases hs:l.sh=s
  ·
   have e1:=fKx s xs k hkx (by rw[←HL.out];exact hs);rw[←HL.out] at e1;have HE:Hid (onSh s (xs.take (k+1))=onSh s (xs.take k)++[l]):=e1;have HS:Hid (l.sh=s):=hs;have hd:(l.sh==s)=true:=by simpa using hs
   generalize onSh s (xs.take k)=ys at *;clear e1 hs;go_wp2_with (at_builtin;refine wpList_append_own _ rfl _ _ 55 rfl w.heap.size 168 i0 _ 4 32 Tryz.underlying55 hi hz0 hz1 hz2 rfl (by decide) _ _ _ rfl ((ho.alloc _).alloc _) ⟨wr.heap.size+1,0,none⟩ 1 1 (legC l) rfl rfl ?c1 (fKu l) ?c3 ?c4 ?c5 ?_)
   case c1=>exact fEc (b:=wr.heap.size+1) (o:=0) ⟨sG,by simp[go_sem],sG,by simp[go_sem]⟩
   case c3=>unfold maxLen;omega
   case c4=>omega
   case c5=>simp;omega
   intro v' w1 hown' hgrow _;have hB1:Below w.heap.size w w1:=qU ((ho.alloc _).alloc _) (bA (bA hbl _) _) (by simp;omega) (Nat.le_refl _) hgrow;clear hgrow ho a1 a2 a3 a4;go_wp2;refine⟨⟨k+1,by omega,by go_num,?_,hB1⟩,mI⟩;rw[HE.out,fEd,List.length_append];exact hown'
  have e1:=fHf s xs k hkx (by rw[←HL.out];exact hs);have HE:Hid (onSh s (xs.take (k+1))=onSh s (xs.take k)):=e1;have hd:(l.sh==s)=false:=by simpa using hs
  clear e1 hs;go_wp2;refine⟨⟨k+1,by omega,by go_num,?_,bA hbl _⟩,mI⟩;rw[HE.out];exact ho.alloc _
 go_wp2;go_ret;have hkn:k=n:=oM;subst hkn;have t0:xs.take k=xs:=by rw[←HN.out];exact List.take_length
 rw[t0] at ho;exact⟨_,rfl,ho,hbl⟩
theorem uN (id:Int) (x:Value) (xs:List Leg) (s:Int) (w:World) (hx:uX w x xs) (hn:xs.length≤1048576) :
  Calls Tryz.prog 127 #[.agg #[.int .i64 id,x],.int .i64 s] w fun e w'=>∃v,e =.returned v∧w'.ownsRow w.heap.size 168 4 v (onSh s xs).length (gM (onSh s xs))∧Below w.heap.size w w':=by
 obtain⟨ax,cx,rfl,hcx,hmx,hx⟩:=hx;unfold maxLen at hmx;obtain⟨i0,hi,hz0,hz1,hz2⟩:=info_parts fB8;generalize hn':xs.length=n at *;have HN:Hid (xs.length=n):=hn';clear hn';go_enter Tryz.func127,Tryz.ntmps127;go_wp2;go_loopw [5,6] (fun v i w'=>∃k:Nat,k≤n∧i =.int .i64 k∧w'.ownsRow (w.heap.size+1) 168 4 v (onSh s (xs.take k)).length (gM (onSh s (xs.take k)))∧w'.cell? ⟨w.heap.size,1,none⟩=some (.slice ax n cx)∧w.heap.size+1≤w'.heap.size∧Below w.heap.size w w') (fun _ i _=>n-(intOf i).toNat)
 case atStart=>
  refine⟨0,oM,rfl,?_,by simp[go_sem],by simp,bA (bA (bR _ _) _) _⟩;have:=World.ownsRow_lit (base:=w.heap.size+1) (e:=168) (size:=4) (w.alloc (.cells #[.int .i64 id,.slice ax n cx] 57)) #[] 0 (by simp) (by unfold maxLen;omega) rfl;simpa [onSh,gM] using this
 obtain⟨k,hk,rfl,ho,hbx,hsz,hbl⟩:=hrel;by_cases hlt:k<n
 ·
  obtain⟨bx,ox,rfl,g1⟩:=hx k hlt;obtain⟨l,hl⟩:∃l,l=xs.getD k default:=⟨_,rfl⟩
  rw[←hl] at g1;have HL:Hid (l=xs.getD k default):=hl;clear hl hx;obtain⟨a1,a2,a3,a4⟩:=fK hbl g1;have hkx:k<xs.length:=by have:=HN.out;omega
  have hle:=fOl s xs k;by_cases hs:l.sh=s
  ·
   have e1:=fKx s xs k hkx (by rw[←HL.out];exact hs);rw[←HL.out] at e1;have HE:Hid (onSh s (xs.take (k+1))=onSh s (xs.take k)++[l]):=e1;have hd:(l.sh==s)=true:=by simpa using hs
   generalize onSh s (xs.take k)=ys at *;clear e1 hs;go_wp2_with (at_builtin;refine wpList_append_own _ rfl _ _ 55 rfl (w.heap.size+1) 168 i0 _ 4 32 Tryz.underlying55 hi hz0 hz1 hz2 rfl (by decide) _ _ _ rfl (ho.alloc _) ⟨wr.heap.size,0,none⟩ 1 1 (legC l) rfl rfl ?c1 (fKu l) ?c3 ?c4 ?c5 ?_)
   case c1=>exact fEc (b:=wr.heap.size) (o:=0) ⟨sG,by simp[go_sem],sG,by simp[go_sem]⟩
   case c3=>unfold maxLen;omega
   case c4=>omega
   case c5=>simp;omega
   intro v' w1 hown' hgrow _;have hz:w.heap.size<wr.heap.size:=wL _ _ hbx;have hB1:Below w.heap.size w w1:=qU (ho.alloc _) (bA hbl _) (by simp;omega) oM hgrow;have hbx1:w1.cell? ⟨w.heap.size,1,none⟩=some (.slice (some ⟨bx,ox,none⟩) n cx):=by
    refine hgrow.cell (cK (bA (bR _ _) _) hbx) ?_;intro h;have:=(ho.alloc (.cells #[.int .i64 l.sh,.int .i64 l.ac,.int .i64 l.ast,.int .i64 l.am] 168)).lt _ h.symm;simp at this;omega
   have hz1:w.heap.size+1≤w1.heap.size:=wL _ _ hbx1;clear hgrow ho a1 a2 a3 a4;go_wp2;refine⟨⟨k+1,by omega,by go_num,?_,hbx1,hz1,hB1⟩,mI⟩;rw[HE.out,fEd,List.length_append];exact hown'
  have e1:=fHf s xs k hkx (by rw[←HL.out];exact hs);have HE:Hid (onSh s (xs.take (k+1))=onSh s (xs.take k)):=e1;have hd:(l.sh==s)=false:=by simpa using hs
  clear e1 hs;go_wp2;refine⟨⟨k+1,by omega,by go_num,?_,hbx,hsz,hbl⟩,mI⟩;rw[HE.out];exact ho
 go_wp2;go_ret;have hkn:k=n:=oM;subst hkn;have t0:xs.take k=xs:=by rw[←HN.out];exact List.take_length
 rw[t0] at ho;exact⟨_,rfl,mV ho oM,hbl⟩
end
end Go.Proofs.YtpibfdebfacooaaGreat

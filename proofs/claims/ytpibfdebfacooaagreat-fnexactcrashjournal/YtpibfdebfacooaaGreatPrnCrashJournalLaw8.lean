import Derived.Test.YtpibfdebfacooaaGreatPrnCrashJournalLaw7
set_option maxHeartbeats 4000000
set_option maxRecDepth 20000
set_option linter.unusedSectionVars false
set_option linter.unusedSimpArgs false
set_option linter.unusedVariables false
namespace Go.Proofs.YtpibfdebfacooaaGreat
open Go.RowKit
attribute [local go_sem ↓] Go.wp_at_zero Go.wp_at_succ
section
variable [dQ Logg] [iH Logg] [dQ LoggR] [iH LoggR] [dQ BytesR] [iH BytesR] [dQ RecsR] [iH RecsR] [dQ Leg] [iH Leg]
theorem fB1 (Y:World) {ops:Array Oper} {o:Oper} {a:Act} {K:Act→World→Prop} {Q:Exit→Act→World→Prop} {E:Prop} (hgd:o.guard=none) (s x:Operand)
  (ho:o.op =.call {callee:=.builtin .append,args:=#[s,x],argTypes:=#[23,23]})
  (base:Nat) (v:Value) (xs:List Byte) (hs:a.eval s=v) (u:Value) (ys:List Byte) (hx:a.eval x=u)
  (hown:Y.ownsRow base 5 1 v xs.length (gX xs)) (hsrc:gU Y u ys.length (gX ys)) (hlen:xs.length+ys.length≤1073741824) (hbase:base≤Y.heap.size)
  (h:∀v' w',w'.ownsRow base 5 1 v' (xs++ys).length (gX (xs++ys))→Y.grownBy w' v.ownBlock→(∀W:World,Below base W Y→Below base W w')→K (a.put o.dst v') w') :
  if Region.wanted o (yielded ops a.tmps)=true then Oper.wp Tryz.prog o a Y K Q else E:=by
 obtain⟨i0,hi,hz0,hz1,hz2⟩:=info_parts infoByte;refine rZ Y hgd s x 23 ho base 5 i0 _ 1 1 Tryz.underlying23 hi hz0 hz1 hz2 rfl (by decide) v xs.length (gX xs) hs u ys.length (gX ys) hx hown hsrc (by rw[uH];omega) (fCc ys) (by unfold maxLen;omega) oM hbase ?_;intro v' w' h1 h2 h3;refine h v' w' ?_ h2 h3;rw[List.length_append,fA8];exact h1
theorem fBt {W Y:World} {base:Nat} (hb:Below (W.alloc (.cells #[] 5)).heap.size (W.alloc (.cells #[] 5)) Y) (g:Nat) (hg:g=W.heap.size) (h:base≤g):Y.ownsRow base 5 1 (.slice (some ⟨g,0,none⟩) 0 0) ([]:List Byte).length (gX []):=by
 subst hg;exact fV (World.ownsRow_lit (base:=base) (e:=5) (size:=1) W #[] 0 h (by unfold maxLen;omega) rfl) hb
theorem fA9 (w:World) (base:Nat):bytesR.O w base none_ (.slice none 0 0) []:=
 ⟨by simpa [gX] using World.ownsRow_nil w base 5 1,by funext b;simp[none_,Value.ownBlock]⟩
theorem yI {w:World} {base:Nat} {F:Nat→Prop} {v:Value} {xs:List Byte} (h:bytesR.O w base F v xs):loggR.O w base F (.agg #[v,.slice none 0 0]) ⟨xs,[]⟩:=
 ⟨_,_,F,none_,rfl,h,fA9 w base,fun _ _ h=>h.elim,fun b=>by simp[none_]⟩
theorem fIy {w:World} {base:Nat} {F:Nat→Prop} {u1 u2:Value} {x:Logg} (h:loggR.O w base F (.agg #[u1,u2]) x):loggRR.O w base F (.agg #[.int .i64 0,u1,u2]) ⟨0,x⟩:=
 ⟨_,_,F,rfl,h,fun _=>Iff.rfl⟩
theorem xL (w:World) (base:Nat) (c:Int):loggRR.O w base none_ (.agg #[.int .i64 c,.slice none 0 0,.slice none 0 0]) ⟨c,⟨[],[]⟩⟩:=
 ⟨_,_,none_,rfl,yI (fA9 w base),fun _=>Iff.rfl⟩
theorem fI6 (xs:List Byte):recU xs≤xs.length:=by
 have H:∀n (xs:List Byte),xs.length≤n→recU xs≤xs.length:=by
  intro n;induction n with
  | zero=>intro xs h;rw[fI5 (yB oM)];omega
  | succ n ih=>
   intro xs h;by_cases hz:fT xs=0
   ·rw[fI5 hz];omega
   have hp:=qR hz;have:=ih (xs.drop (fT xs)) (by rw[List.length_drop];omega);rw[fK6 hz];rw[List.length_drop] at this;omega
 exact H _ xs (Nat.le_refl _)
def logF (d:Logg):Int:=if 6000<d.synced.length+d.loose.length then 2 else 0
theorem fDa (x:Value) (d:Logg) (w:World) (hx:loggR.V w x d) (hn:gM d≤1048576) :
  RI 91 #[x] w (.int .i64 (logF d)):=by
 obtain⟨a1,a2,c1,c2,rfl⟩:=mU hx;unfold gM kK at hn;unfold logF;clear hx;generalize d.synced.length=n1 at *;generalize d.loose.length=n2 at *;have v1:IntKind.i64.wrap ((n1:Int)+n2)=n1+n2:=by rw[IntKind.wrap_i64];omega
 by_cases h:6000<n1+n2
 ·have HV:=h;have v2:(6000:Int)<(n1:Int)+n2:=oM;go_enter Tryz.func91,Tryz.ntmps91;go_wp2;go_ret;exact⟨by simp[HV],qBq⟩
 have HV:=h;have v2:¬(6000:Int)<(n1:Int)+n2:=oM;go_enter Tryz.func91,Tryz.ntmps91;go_wp2;go_ret;exact⟨by simp[HV],qBq⟩
theorem zD (x:Value) (d:Logg) (w:World) (hx:loggR.V w x d) (hn:gM d≤1048576) :
  RI 105 #[x] w (.int .i64 (logF d)):=by
 obtain⟨a1,a2,c1,c2,rfl⟩:=mU hx;unfold gM kK at hn;unfold logF;clear hx;generalize d.synced.length=n1 at *;generalize d.loose.length=n2 at *;have v1:IntKind.i64.wrap ((n1:Int)+n2)=n1+n2:=by rw[IntKind.wrap_i64];omega
 by_cases h:6000<n1+n2
 ·have HV:=h;have v2:(6000:Int)<(n1:Int)+n2:=oM;go_enter Tryz.func105,Tryz.ntmps105;go_wp2;go_ret;exact⟨by simp[HV],qBq⟩
 have HV:=h;have v2:¬(6000:Int)<(n1:Int)+n2:=oM;go_enter Tryz.func105,Tryz.ntmps105;go_wp2;go_ret;exact⟨by simp[HV],qBq⟩
theorem fQv (x:Value) (d:Logg) (w:World) (hx:loggR.V w x d) (hn:gM d≤1048576) :
  Calls Tryz.prog 50 #[x] w fun e w'=>∃v F,e =.returned v∧loggR.O w' w.heap.size F v ⟨d.synced++d.loose,[]⟩∧Below w.heap.size w w':=by
 have hX:=hx;obtain⟨u1,u2,rfl,h1,h2⟩:=hx;obtain⟨a1,c1,rfl⟩:=fZ h1;obtain⟨a2,c2,rfl⟩:=fZ h2;unfold gM kK at hn;go_enter Tryz.func50,Tryz.ntmps50;go_wp2;refine wp_region_noPanic ?_;refine fB (fun w'=>Below w.heap.size w w'∧w'.cell? ⟨w.heap.size,0,none⟩=some (.slice a1 d.synced.length c1)∧w'.cell? ⟨w.heap.size,1,none⟩=some (.slice a2 d.loose.length c2)) 8 kF ⟨qBq,by simp[go_sem],sG⟩ (fun hS=>?_);refine tY 1 ?_;refine tY 2 ?_;refine tY 4 ?_;refine tY 5 ?_;refine uS 0 rfl (fun K hK=>?_);go_simp;refine hK _ _ (fun _=>⟨qBq,by simp[go_sem],sG⟩) ?_;clear hK K;try simp only[jX]
 refine uS 3 rfl (fun K hK=>?_);refine fB1 _ rfl _ _ rfl (w.heap.size+2) (.slice (some ⟨w.heap.size+2,0,none⟩) 0 0) [] rfl _ d.synced rfl (fBt (W:=(w.alloc _).alloc _) (Below.drew (bR _ _)) _ (by simp) oM) (mZ (bytesR.below h1 qBq)) (by simp;omega) (by simp) ?_;intro v6 w6 o6 hg6 hB6;have hw6:=hB6 ((w.alloc _).alloc _) (Below.drew (Below.alloc (bR _ _) (by simp) _));have hb6:Below w.heap.size w w6:=Below.trans qBq (hw6.mono oM);clear hB6 hg6;obtain⟨p6,q6,rfl⟩:=fD o6;have g6:=hw6.size;simp at g6;refine hK _ _ (fun _=>⟨hb6,(hw6.cell (p:=⟨w.heap.size,0,none⟩) (by simp)).trans sG,(hw6.cell (p:=⟨w.heap.size,1,none⟩) (by simp)).trans sG⟩) ?_;clear hK K;try simp only[jX]
 refine uS 6 rfl (fun K hK=>?_);have k2:gU w6 _ (d.loose).length (gX (d.loose)):=mZ (bytesR.below h2 hb6);refine fB1 _ rfl _ _ rfl (w.heap.size+2) _ ([]++d.synced) rfl _ (d.loose) rfl o6 k2 (by simp;omega) g6 ?_;intro v9 w9 o9 hg9 hB9;have hw9:=hB9 _ hw6;have hb9:Below w.heap.size w w9:=Below.trans qBq (hw9.mono oM);clear hB9 hg9 k2 hw6 hb6 o6 g6;obtain⟨p9,q9,rfl⟩:=fD o9;have g9:=hw9.size;simp at g9;refine hK _ _ (fun _=>⟨hb9,(hw9.cell (p:=⟨w.heap.size,0,none⟩) (by simp)).trans sG,(hw9.cell (p:=⟨w.heap.size,1,none⟩) (by simp)).trans sG⟩) ?_;clear hK K;try simp only[jX]
 have hS9:(fun w'=>Below w.heap.size w w'∧w'.cell? ⟨w.heap.size,0,none⟩=some (.slice a1 d.synced.length c1)∧w'.cell? ⟨w.heap.size,1,none⟩=some (.slice a2 d.loose.length c2)) w9:=⟨hb9,(hw9.cell (p:=⟨w.heap.size,0,none⟩) (by simp)).trans sG,(hw9.cell (p:=⟨w.heap.size,1,none⟩) (by simp)).trans sG⟩;have r0:w9.cell? ⟨w.heap.size+1,0,none⟩=some (.slice none 0 0):=(hw9.cell (p:=⟨w.heap.size+1,0,none⟩) (by simp)).trans sG;have r1:w9.cell? ⟨w.heap.size+1,1,none⟩=some (.slice none 0 0):=(hw9.cell (p:=⟨w.heap.size+1,1,none⟩) (by simp)).trans sG;have rf:∀o,w9.frozen? ⟨w.heap.size+1,o,none⟩=false:=fun o=>(hw9.frozen (p:=⟨w.heap.size+1,o,none⟩) (by simp)).trans sG
 have HO:Hid (World.ownsRow w9 (w.heap.size+2) 5 1 _ _ _):=o9;clear o9 hw9;refine tY 7 ?_;refine uS 8 rfl (fun K hK=>?_);go_simp;refine hK _ _ (fun h=>absurd rfl h) ?_;clear hK K;refine dP ?_;clear hS hS9;go_wp2;have ho:bytesR.O w9 (w.heap.size+2) _ (.slice p9 (d.synced.length+d.loose.length) q9) (d.synced++d.loose):=⟨by have h:=HO.out;simpa using h,rfl⟩;refine bodyPost_ret (v:=.agg #[.slice p9 (d.synced.length+d.loose.length) q9,.slice none 0 0]) ?_ rfl ⟨_,_,rfl,yI (bytesR.base (bytesR.set (bytesR.set ho _ (by simp)) _ (by simp)) oM),qBq⟩;simp[results,Tryz.results50,go_sem,r0,r1]
theorem fMy (x:Value) (d:Logg) (k:Nat) (w:World) (hx:loggR.V w x d) (hn:gM d≤1048576) (hk:k≤d.loose.length) :
  Calls Tryz.prog 103 #[x,.int .i64 k] w fun e w'=>∃v F,e =.returned v∧loggR.O w' w.heap.size F v ⟨d.synced++d.loose.take k,[]⟩∧Below w.heap.size w w':=by
 have hX:=hx;obtain⟨u1,u2,rfl,h1,h2⟩:=hx;obtain⟨a1,c1,rfl⟩:=fZ h1;obtain⟨a2,c2,rfl⟩:=fZ h2;unfold gM kK at hn;obtain⟨a3,c3,run3,V3⟩:=cutH (a:=a2) (n:=d.loose.length) (cap:=c2) (k:Int) oM oM (by obtain⟨_,_,e,h,_⟩:=h2;simp only[Value.slice.injEq,true_and] at e;omega);have ek:(k:Int).toNat=k:=oM;have V1:bytesR.V w (.slice a3 k c3) (d.loose.take k):=by have h:=V3 _ d.loose rfl h2;rw[ek] at h;exact h
 rw[ek] at run3;have hl:(d.loose.take k).length=k:=by rw[List.length_take];omega
 generalize d.loose.take k=ys at *;clear V3 ek;go_enter Tryz.func103,Tryz.ntmps103;go_wp2;refine wp_region_noPanic ?_;refine fB (fun w'=>Below w.heap.size w w'∧w'.cell? ⟨w.heap.size,0,none⟩=some (.slice a1 d.synced.length c1)∧w'.cell? ⟨w.heap.size,1,none⟩=some (.slice a2 d.loose.length c2)) 10 kF ⟨qBq,by simp[go_sem],sG⟩ (fun hS=>?_);refine tY 1 ?_;refine tY 2 ?_;refine tY 4 ?_;refine tY 5 ?_;refine tY 6 ?_;refine tY 7 ?_;refine uS 0 rfl (fun K hK=>?_);go_simp;refine hK _ _ (fun _=>⟨qBq,by simp[go_sem],sG⟩) ?_;clear hK K;try simp only[jX]
 refine uS 3 rfl (fun K hK=>?_);refine fB1 _ rfl _ _ rfl (w.heap.size+2) (.slice (some ⟨w.heap.size+2,0,none⟩) 0 0) [] rfl _ d.synced rfl (fBt (W:=(w.alloc _).alloc _) (Below.drew (bR _ _)) _ (by simp) oM) (mZ (bytesR.below h1 qBq)) (by simp;omega) (by simp) ?_;intro v6 w6 o6 hg6 hB6;have hw6:=hB6 ((w.alloc _).alloc _) (Below.drew (Below.alloc (bR _ _) (by simp) _));have hb6:Below w.heap.size w w6:=Below.trans qBq (hw6.mono oM);clear hB6 hg6;obtain⟨p6,q6,rfl⟩:=fD o6;have g6:=hw6.size;simp at g6;refine hK _ _ (fun _=>⟨hb6,(hw6.cell (p:=⟨w.heap.size,0,none⟩) (by simp)).trans sG,(hw6.cell (p:=⟨w.heap.size,1,none⟩) (by simp)).trans sG⟩) ?_;clear hK K;try simp only[jX]
 refine uS 8 rfl (fun K hK=>?_);have k2:gU w6 _ (ys).length (gX (ys)):=mZ (bytesR.below V1 hb6);refine fB1 _ rfl _ _ rfl (w.heap.size+2) _ ([]++d.synced) rfl _ (ys) rfl o6 k2 (by simp;omega) g6 ?_;intro v9 w9 o9 hg9 hB9;have hw9:=hB9 _ hw6;have hb9:Below w.heap.size w w9:=Below.trans qBq (hw9.mono oM);clear hB9 hg9 k2 hw6 hb6 o6 g6;obtain⟨p9,q9,rfl⟩:=fD o9;have g9:=hw9.size;simp at g9;refine hK _ _ (fun _=>⟨hb9,(hw9.cell (p:=⟨w.heap.size,0,none⟩) (by simp)).trans sG,(hw9.cell (p:=⟨w.heap.size,1,none⟩) (by simp)).trans sG⟩) ?_;clear hK K;try simp only[jX]
 have hS9:(fun w'=>Below w.heap.size w w'∧w'.cell? ⟨w.heap.size,0,none⟩=some (.slice a1 d.synced.length c1)∧w'.cell? ⟨w.heap.size,1,none⟩=some (.slice a2 d.loose.length c2)) w9:=⟨hb9,(hw9.cell (p:=⟨w.heap.size,0,none⟩) (by simp)).trans sG,(hw9.cell (p:=⟨w.heap.size,1,none⟩) (by simp)).trans sG⟩;have r0:w9.cell? ⟨w.heap.size+1,0,none⟩=some (.slice none 0 0):=(hw9.cell (p:=⟨w.heap.size+1,0,none⟩) (by simp)).trans sG;have r1:w9.cell? ⟨w.heap.size+1,1,none⟩=some (.slice none 0 0):=(hw9.cell (p:=⟨w.heap.size+1,1,none⟩) (by simp)).trans sG;have rf:∀o,w9.frozen? ⟨w.heap.size+1,o,none⟩=false:=fun o=>(hw9.frozen (p:=⟨w.heap.size+1,o,none⟩) (by simp)).trans sG
 have HO:Hid (World.ownsRow w9 (w.heap.size+2) 5 1 _ _ _):=o9;clear o9 hw9;refine tY 9 ?_;refine uS 10 rfl (fun K hK=>?_);go_simp;refine hK _ _ (fun h=>absurd rfl h) ?_;clear hK K;refine dP ?_;clear hS hS9;go_wp2;have ho:bytesR.O w9 (w.heap.size+2) _ (.slice p9 (d.synced.length+k) q9) (d.synced++ys):=⟨by have h:=HO.out;simpa [hl] using h,rfl⟩;refine bodyPost_ret (v:=.agg #[.slice p9 (d.synced.length+k) q9,.slice none 0 0]) ?_ rfl ⟨_,_,rfl,yI (bytesR.base (bytesR.set (bytesR.set ho _ (by simp)) _ (by simp)) oM),qBq⟩;simp[results,Tryz.results103,go_sem,r0,r1]
theorem fQw (x:Value) (d:Logg) (w:World) (hx:loggR.V w x d) (hn:d.synced.length≤6000) :
  Calls Tryz.prog 57 #[x] w fun e w'=>∃v F,e =.returned v∧loggR.O w' w.heap.size F v ⟨d.synced.take (recU d.synced),[]⟩∧Below w.heap.size w w':=by
 have hX:=hx;obtain⟨u1,u2,rfl,h1,h2⟩:=hx;obtain⟨a1,c1,rfl⟩:=fZ h1;obtain⟨a2,c2,rfl⟩:=fZ h2;have hu:=fI6 d.synced;have hcap:d.synced.length≤c1:=by
  obtain⟨_,_,e,h,_⟩:=h1;simp only[Value.slice.injEq,true_and] at e;omega
 obtain⟨k,hk⟩:∃k,recU d.synced=k:=⟨_,rfl⟩
 have HK:Hid (recU d.synced=k):=hk;rw[hk] at hu ⊢;obtain⟨a3,c3,run3,V3⟩:=cutH (a:=a1) (n:=d.synced.length) (cap:=c1) (k:Int) oM oM hcap;have ek:(k:Int).toNat=k:=oM;have V1:bytesR.V w (.slice a3 k c3) (d.synced.take k):=by have h:=V3 _ d.synced rfl h1;rw[ek] at h;exact h
 rw[ek] at run3;have hl:(d.synced.take k).length=k:=by rw[List.length_take];omega
 generalize d.synced.take k=ys at *;clear V3 ek hk hcap;go_enter Tryz.func57,Tryz.ntmps57;go_wp2_with fail;refine(fBl _ d.synced _ (bytesR.below h1 qBq) hn).mono ?_;rintro e w1 ⟨v,F,rfl,ho,hb⟩;rw[HK.out];obtain⟨av,cv,rfl⟩:=fD5 (bytessR.ofO ho);generalize recL d.synced=rl at *;have hB1:Below w.heap.size w w1:=qBq;have x0:w1.cell? ⟨w.heap.size,0,none⟩=some (.slice a1 d.synced.length c1):=cK hb sG;have r0:w1.cell? ⟨w.heap.size+1,0,none⟩=some (.slice none 0 0):=cK hb sG;have r1:w1.cell? ⟨w.heap.size+1,1,none⟩=some (.slice none 0 0):=cK hb sG;have rf:∀o,w1.frozen? ⟨w.heap.size+1,o,none⟩=false:=fun o=>by rw[(bcell hb).2 _ _ (by simp)];simp[go_sem]
 have s1:=hb.size;simp only[World.size_alloc] at s1;have z0:w.heap.size<w1.heap.size:=oM;have z1:w.heap.size+1<w1.heap.size:=oM;have V2:=bytesR.below V1 hB1;have o0:World.ownsRow (w1.alloc (.cells #[] 5)) (w.heap.size+2) 5 1 (.slice (some ⟨w1.heap.size,0,none⟩) 0 0) ([]:List Byte).length (gX []):=fBt (bR _ _) _ rfl oM;have t1:=mZ (bytesR.below V2 (bA (bR _ _) (.cells #[] 5)));clear ho hX h1 h2 hb V1 V2;go_wp2_with (at_builtin;refine fA3 _ rfl _ _ rfl (w.heap.size+2) _ [] rfl _ ys rfl o0 t1 (by simp;omega) (by simp;omega) ?_);intro v3 w4 o3 hg hB;have hw4:=hB w1 ((bR _ _).alloc oM _);have hB4:Below w.heap.size w w4:=Below.trans hB1 (hw4.mono oM);have q0:=(hw4.cell (p:=⟨w.heap.size+1,0,none⟩) (by simp)).trans r0;have q1:=(hw4.cell (p:=⟨w.heap.size+1,1,none⟩) (by simp)).trans r1;have qf:∀o,w4.frozen? ⟨w.heap.size+1,o,none⟩=false:=fun o=>(hw4.frozen (p:=⟨w.heap.size+1,o,none⟩) (by simp)).trans (rf o)
 obtain⟨p3,q3,rfl⟩:=fD o3;have HO:Hid (World.ownsRow w4 (w.heap.size+2) 5 1 _ _ _):=o3;have s4:=hw4.size;clear o3 hg hB hw4 r0 r1 rf x0 o0 t1 run3 HK;go_wp2;have ho:bytesR.O w4 (w.heap.size+2) _ (.slice p3 k q3) ys:=⟨by have h:=HO.out;simpa [hl] using h,rfl⟩;first
  | exact bodyPost_ret (v:=.agg #[.slice p3 k q3,.slice none 0 0]) (by simp[results,Tryz.results57,go_sem,q0,q1]) rfl ⟨_,_,rfl,yI (bytesR.base (bytesR.set (bytesR.set ho _ (by simp)) _ (by simp)) oM),qBq⟩
  | exact bodyPost_ret (v:=.agg #[.slice p3 k q3,.slice none 0 0]) (by simp[hl,results,Tryz.results57,go_sem,q0,q1];omega) rfl ⟨_,_,rfl,yI (bytesR.base (bytesR.set (bytesR.set ho _ (by simp)) _ (by simp)) oM),qBq⟩
variable [dQ Cont] [iH Cont] [dQ Evt] [iH Evt] [dQ EvtR] [iH EvtR] [dQ ContR] [iH ContR]
theorem tH {w:World} {x:Value} {d:Evt} (hx:evtR.V w x d):∃a c,x =.agg #[.bool d.vote,.int .i64 d.con.id,.slice a d.con.legs.length c,.int .i64 d.out]∧vB w (.slice a d.con.legs.length c) d.con.legs:=by
 obtain⟨u,rfl,h1⟩:=evtf_V.2 hx;obtain⟨a,c,rfl⟩:=kP h1;exact⟨a,c,rfl,h1⟩
theorem fNh (x:Value) (d:Evt) (w:World) (hx:evtR.V w x d) :
  RI 45 #[x] w (.int .i64 (evtF d)):=by
 obtain⟨a,c,rfl,hl⟩:=tH hx;obtain⟨b,⟨id,ls⟩,o⟩:=d;dsimp only at hl ⊢;clear hx;cases b
 ·
  have HD:Hid (evtF ⟨false,⟨id,ls⟩,o⟩=if (inB id 1 1000000000&&inB o 1 2)=true then (if ls.length=0 then 0 else 1) else 3):=rfl;generalize evtF ⟨false,⟨id,ls⟩,o⟩=R at *;generalize ls.length=n at *;clear hl;cases hk:inB id 1 1000000000
  ·rw[hk] at HD;go_enter Tryz.func45,Tryz.ntmps45;go_wp2_with (first|(go_at_call 87;refine(pG _ _).mono ?_;rintro e w' ⟨rfl,hw⟩;obtain rfl:=hw.symm;rw[hk]));go_ret;exact⟨by rw[HD.out];rfl,qBq⟩
  cases ho:inB o 1 2
  ·rw[hk,ho] at HD;go_enter Tryz.func45,Tryz.ntmps45;go_wp2_with (first|(go_at_call 87;refine(pG _ _).mono ?_;rintro e w' ⟨rfl,hw⟩;obtain rfl:=hw.symm;rw[hk])|(go_at_call 88;refine(kV _ _ _ _).mono ?_;rintro e w' ⟨rfl,hw⟩;obtain rfl:=hw.symm;rw[ho]));go_ret;exact⟨by rw[HD.out];rfl,qBq⟩
  rw[hk,ho] at HD;by_cases hn:n=0
  ·
   have HE:Hid (R=0):=by show _=_;rw[HD.out,hn];rfl
   have hn':¬(0:Int)<(n:Int):=oM;clear HD hn;go_enter Tryz.func45,Tryz.ntmps45;go_wp2_with (first|(go_at_call 87;refine(pG _ _).mono ?_;rintro e w' ⟨rfl,hw⟩;obtain rfl:=hw.symm;rw[hk])|(go_at_call 88;refine(kV _ _ _ _).mono ?_;rintro e w' ⟨rfl,hw⟩;obtain rfl:=hw.symm;rw[ho]));go_ret;exact⟨by rw[HE.out];rfl,qBq⟩
  have HE:Hid (R=1):=by show _=_;rw[HD.out,if_neg hn];rfl
  have hn':(0:Int)<(n:Int):=oM;clear HD hn;go_enter Tryz.func45,Tryz.ntmps45;go_wp2_with (first|(go_at_call 87;refine(pG _ _).mono ?_;rintro e w' ⟨rfl,hw⟩;obtain rfl:=hw.symm;rw[hk])|(go_at_call 88;refine(kV _ _ _ _).mono ?_;rintro e w' ⟨rfl,hw⟩;obtain rfl:=hw.symm;rw[ho]));go_ret;exact⟨by rw[HE.out];rfl,qBq⟩
 have HD:Hid (evtF ⟨true,⟨id,ls⟩,o⟩=if fA id ls=0 then (if o=0 then 0 else 1) else fA id ls):=rfl;have HC:Hid (bW w fun W=>RI 86 #[.agg #[.int .i64 id,.slice a ls.length c]] W (.int .i64 (fA id ls))):=fun W hW=>uJ id _ ls W (kS hl hW)
 generalize evtF ⟨true,⟨id,ls⟩,o⟩=R at *;clear hl;generalize fA id ls=cf at *;generalize ls.length=n at *;go_enter Tryz.func45,Tryz.ntmps45;go_wp2_with fail;refine(HC.out _ qBq).mono ?_;rintro e w1 ⟨rfl,hb1⟩;have hB1:Below w.heap.size w w1:=qBq;have y3:w1.cell? ⟨w.heap.size,3,none⟩=some (.int .i64 o):=cK hb1 sG;clear hb1 HC;by_cases hc:cf=0
 ·
  rw[hc] at HD ⊢;by_cases ho:o=0
  ·
   have HE:Hid (R=0):=by show _=_;rw[HD.out,ho];rfl
   have ho':(o !=0)=false:=by simp[ho]
   clear HD ho hc;go_wp2;go_ret;exact⟨by rw[HE.out];rfl,qBq⟩
  have HE:Hid (R=1):=by show _=_;rw[HD.out,if_neg ho];rfl
  have ho':(o !=0)=true:=by simp[ho]
  clear HD ho hc;go_wp2;go_ret;exact⟨by rw[HE.out];rfl,qBq⟩
 have HE:Hid (R=cf):=by show _=_;rw[HD.out,if_neg hc]
 have hc':(cf !=0)=true:=by simp[hc]
 clear HD hc;go_wp2;go_ret;exact⟨by rw[HE.out];rfl,qBq⟩
end
section
def over (a:Act) (ds:List Nat) (y:Nat→Value):Act:={a with tmps:=ds.foldl (fun t s=>t.setIfInBounds s (y s)) a.tmps}
theorem fOe:∀(ds:List Nat) (T:Array Value) (y:Nat→Value) (d:Nat) (v:Value),d ∉ ds →
  (ds.foldl (fun t s=>t.setIfInBounds s (y s)) T).setIfInBounds d v=ds.foldl (fun t s=>t.setIfInBounds s (y s)) (T.setIfInBounds d v)
 | [],_,_,_,_,_=>rfl
 | e::ds,T,y,d,v,h=>by
  have h1:d≠e:=fun c=>h (by rw[c];exact List.mem_cons_self)
  have h2:d ∉ ds:=fun c=>h (List.mem_cons_of_mem _ c)
  simp only[List.foldl_cons];rw[fOe ds _ y d v h2,Array.setIfInBounds_comm _ _ (Ne.symm h1)]
theorem fG1:∀(ds:List Nat) (T:Array Value) (y y':Nat→Value),(∀s ∈ ds,y s=y' s) →
  ds.foldl (fun t s=>t.setIfInBounds s (y s)) T=ds.foldl (fun t s=>t.setIfInBounds s (y' s)) T
 | [],_,_,_,_=>rfl
 | e::ds,T,y,y',h=>by
  simp only[List.foldl_cons];rw[h e List.mem_cons_self];exact fG1 ds _ y y' (fun s hs=>h s (List.mem_cons_of_mem _ hs))
def updV (y:Nat→Value) (d:Nat) (v:Value):Nat→Value:=fun s=>if s=d then v else y s
theorem fOf:∀(ds:List Nat) (T:Array Value) (y:Nat→Value) (d:Nat) (v:Value),d ∈ ds→ds.Nodup →
  (ds.foldl (fun t s=>t.setIfInBounds s (y s)) T).setIfInBounds d v=ds.foldl (fun t s=>t.setIfInBounds s (updV y d v s)) T
 | [],_,_,_,_,h,_=>absurd h List.not_mem_nil
 | e::ds,T,y,d,v,h,hn=>by
  obtain⟨h1,h2⟩:=List.nodup_cons.1 hn;simp only[List.foldl_cons];by_cases hd:d=e
  ·subst hd;rw[fOe ds _ y d v h1,Array.setIfInBounds_setIfInBounds];have e1:updV y d v d=v:=if_pos rfl;rw[e1];exact fG1 ds _ _ _ (fun s hs=>(if_neg (fun c:s=d=>h1 (c▸hs))).symm)
  have hm:d ∈ ds:=(List.mem_cons.1 h).resolve_left hd;have e1:updV y d v e=y e:=if_neg (fun c=>hd c.symm);rw[e1];exact fOf ds _ y d v hm h2
theorem fOy {a:Act} {ds:List Nat} {y:Nat→Value} {d:Nat} {v:Value} (h:d ∈ ds) (hn:ds.Nodup):(over a ds y).put (some d) v=over a ds (updV y d v):=by
 simp only[over,Act.put];rw[fOf ds _ y d v h hn]
theorem over_self (a:Act):∀ds:List Nat,over a ds (fun s=>a.tmps.getD s undef)=a:=by
 intro ds;have H:∀ds:List Nat,ds.foldl (fun t s=>t.setIfInBounds s (a.tmps.getD s undef)) a.tmps=a.tmps:=by
  intro ds;induction ds with
  | nil=>rfl
  | cons d ds ih=>
   simp only[List.foldl_cons];have e:a.tmps.setIfInBounds d (a.tmps.getD d undef)=a.tmps:=by
    apply Array.ext_getElem?;intro i;rw[Array.getElem?_setIfInBounds];split
    ·
     rename_i h;subst h;split
     ·rename_i h;simp[h]
     rename_i h;simp[Array.getElem?_eq_none (Nat.le_of_not_lt h)]
    rfl
   rw[e];exact ih
 simp only[over];rw[H ds]
theorem fMg:∀(L:List (Nat × Nat)),(L.map Prod.fst).Nodup→∀p ∈ L,∀q ∈ L,p.1=q.1→p=q
 | [],_,p,hp,_,_,_=>absurd hp List.not_mem_nil
 | a::L,hn,p,hp,q,hq,h=>by
  obtain⟨h1,h2⟩:=List.nodup_cons.1 hn;rcases List.mem_cons.1 hp with hp1|hp1
  ·
   rcases List.mem_cons.1 hq with hq1|hq1
   ·rw[hp1,hq1]
   exact absurd (by rw[←hp1,h];exact List.mem_map_of_mem hq1) h1
  rcases List.mem_cons.1 hq with hq1|hq1
  ·exact absurd (by rw[←hq1,←h];exact List.mem_map_of_mem hp1) h1
  exact fMg L h2 p hp1 q hq1 h
theorem fMh:∀(L:List (Nat × Nat)),(L.map Prod.snd).Nodup→∀p ∈ L,∀q ∈ L,p.2=q.2→p=q
 | [],_,p,hp,_,_,_=>absurd hp List.not_mem_nil
 | a::L,hn,p,hp,q,hq,h=>by
  obtain⟨h1,h2⟩:=List.nodup_cons.1 hn;rcases List.mem_cons.1 hp with hp1|hp1
  ·
   rcases List.mem_cons.1 hq with hq1|hq1
   ·rw[hp1,hq1]
   exact absurd (by rw[←hp1,h];exact List.mem_map_of_mem hq1) h1
  rcases List.mem_cons.1 hq with hq1|hq1
  ·exact absurd (by rw[←hq1,←h];exact List.mem_map_of_mem hp1) h1
  exact fMh L h2 p hp1 q hq1 h
theorem fAu {F F':Nat × Nat→Bool}:∀{L:List (Nat × Nat)},(L.map Prod.fst).Nodup→∀{p:Nat × Nat},p ∈ L→F p=true→F' p=false→(∀q ∈ L,q≠p→F' q=F q)→(L.filter F).length=(L.filter F').length+1
 | [],_,_,hp,_,_,_=>absurd hp List.not_mem_nil
 | a::L,hn,p,hp,h1,h2,h3=>by
  obtain⟨g1,g2⟩:=List.nodup_cons.1 hn;by_cases e:a=p
  ·subst e;rw[List.filter_cons_of_pos h1,List.filter_cons_of_neg (by rw[h2];exact Bool.false_ne_true)];have h4:L.filter F=L.filter F':=List.filter_congr (fun q hq=>(h3 q (List.mem_cons_of_mem _ hq) (fun c=>g1 (c▸List.mem_map_of_mem hq))).symm);rw[h4,List.length_cons]
  have hm:p ∈ L:=(List.mem_cons.1 hp).resolve_left (fun c=>e c.symm);have ih:=fAu g2 hm h1 h2 (fun q hq hne=>h3 q (List.mem_cons_of_mem _ hq) hne);have ha:=h3 a List.mem_cons_self e;cases hF:F a with
  | true=>rw[List.filter_cons_of_pos hF,List.filter_cons_of_pos (by rw[ha,hF]),List.length_cons,List.length_cons,ih]
  | false=>rw[List.filter_cons_of_neg (by rw[hF];exact Bool.false_ne_true),List.filter_cons_of_neg (by rw[ha,hF];exact Bool.false_ne_true),ih]
section
variable {P : Program} {ops : Array Oper} {Q : Exit → Act → World → Prop} {md : Region.Mode} {S : World → Prop} {t : Nat}
def fO3 (md:Region.Mode) (ops:Array Oper):Bool:=(List.range ops.size).all fun i=>match ops[i]? with|some o=>o.after.all fun e=>!Region.binds md e||decide (e.on<i)|none=>true
theorem fHr {listed:Array Bool} (hr:fO3 md ops=true) (hs:listed.size=ops.size):∀n i,i<n→i<ops.size→listed.getD i true=false→∃j,j ∈ Region.ready md ops listed:=by
 intro n;induction n with
 | zero=>intro i h;omega
 | succ n ih=>
  intro i hi hlt hun;by_cases hex:∃k,k<i∧listed.getD k true=false
  ·obtain⟨k,hk,hku⟩:=hex;exact ih k oM oM hku
  refine⟨i,mem_ready.2 ⟨hun,ops[i],by simp[hlt],fun e he hb=>?_⟩⟩;have h1:=List.all_eq_true.1 hr i (List.mem_range.2 hlt);simp only[Array.getElem?_eq_getElem hlt] at h1;have h2:=Array.all_eq_true'.1 h1 e he;simp only[hb,Bool.not_true,Bool.false_or,decide_eq_true_eq] at h2;have h3:¬listed.getD e.on true=false:=fun c=>hex ⟨e.on,h2,c⟩
  have h4:e.on<listed.size:=oM;simp[h4] at h3 ⊢;exact h3
def InB (w0 w:World) (lo hi:Nat):Prop:=w0.heap.size≤lo∧lo≤hi∧hi≤w.heap.size
def fCz (lo hi:Nat→Nat) (j k:Nat):Prop:=hi j≤lo k∨hi k≤lo j
structure Shut (p:Prop):Prop where
 out:p
def fXi (P:Program) (md:Region.Mode) (ops:Array Oper) (Q:Exit→Act→World→Prop) (S:World→Prop) (L:List (Nat × Nat)) (G:Nat→(Nat→Value)→Nat→Nat→World→Prop) (a0:Act) (w0:World) (p:Nat × Nat):Prop:=
 ∃o,ops[p.1]? = some o∧o.dst=some p.2∧∀(y:Nat→Value) (w:World) (lo hi:Nat→Nat),S w→Below w0.heap.size w0 w →
  (∀q ∈ L,waitsFor md ops p.1 q.1=true→InB w0 w (lo q.1) (hi q.1)∧G q.1 y (lo q.1) (hi q.1) w) →
  (∀q ∈ L,∀r ∈ L,q.1≠r.1→waitsFor md ops p.1 q.1=true→waitsFor md ops p.1 r.1=true→fCz lo hi q.1 r.1) →
  ∀K:Act→World→Prop,(∀v w',Below w.heap.size w w'→G p.1 (updV y p.2 v) w.heap.size w'.heap.size w'→K ((over a0 (L.map Prod.snd) y).put (some p.2) v) w') →
   Shut (if Region.wanted o (yielded ops (over a0 (L.map Prod.snd) y).tmps)=true then Oper.wp P o (over a0 (L.map Prod.snd) y) w K Q else K ((over a0 (L.map Prod.snd) y).put o.dst undef) w)
theorem fNr (L:List (Nat × Nat)) (G:Nat→(Nat→Value)→Nat→Nat→World→Prop) {f:Nat} {listed:Array Bool} {a0:Act} {w0:World}
  (hrise:fO3 md ops=true) (hsz:listed.size=ops.size) (hot:∃ot,ops[t]? = some ot)
  (hall:∀i,i<ops.size→listed.getD i true=false→i=t∨∃p ∈ L,p.1=i)
  (hun:listed.getD t true=false∧∀p ∈ L,listed.getD p.1 true=false)
  (hno:(L.map Prod.fst).Nodup) (hnd:(L.map Prod.snd).Nodup) (htl:∀p ∈ L,p.1≠t∧waitsFor md ops t p.1=true) (hf:f=L.length+1)
  (hS:S w0) (hSst:∀w w',S w→Below w.heap.size w w'→S w')
  (hG:∀p ∈ L,∀(y y':Nat→Value) (lo hi:Nat) (w w':World),G p.1 y lo hi w→InB w0 w lo hi→Below w.heap.size w w'→y' p.2=y p.2→(∀q ∈ L,waitsFor md ops p.1 q.1=true→y' q.2=y q.2)→G p.1 y' lo hi w')
  (hstep:∀p ∈ L,fXi P md ops Q S L G a0 w0 p)
  (hlast:∃o,ops[t]? = some o∧∀(y:Nat→Value) (w:World) (lo hi:Nat→Nat),S w→Below w0.heap.size w0 w→(∀q ∈ L,InB w0 w (lo q.1) (hi q.1)∧G q.1 y (lo q.1) (hi q.1) w)→(∀q ∈ L,∀r ∈ L,q.1≠r.1→fCz lo hi q.1 r.1) →
   ∀K:Act→World→Prop,(∀a' w',Q .normal a' w'→K a' w')→Shut (if Region.wanted o (yielded ops (over a0 (L.map Prod.snd) y).tmps)=true then Oper.wp P o (over a0 (L.map Prod.snd) y) w K Q else K ((over a0 (L.map Prod.snd) y).put o.dst undef) w)) :
  gW P md ops Q S t f listed a0 w0:=by
 have H:∀(n f:Nat) (listed:Array Bool) (y:Nat→Value) (w:World) (lo hi:Nat→Nat),
   f=(L.filter fun p=>!listed.getD p.1 true).length+1→listed.size=ops.size→listed.getD t true=false →
   (∀i,i<ops.size→listed.getD i true=false→i=t∨∃p ∈ L,p.1=i) →
   (∀p ∈ L,listed.getD p.1 true=true→∀q ∈ L,waitsFor md ops p.1 q.1=true→listed.getD q.1 true=true) →
   S w→Below w0.heap.size w0 w→(∀q ∈ L,listed.getD q.1 true=true→InB w0 w (lo q.1) (hi q.1)∧G q.1 y (lo q.1) (hi q.1) w) →
   (∀q ∈ L,∀r ∈ L,q.1≠r.1→listed.getD q.1 true=true→listed.getD r.1 true=true→fCz lo hi q.1 r.1) →
   f≤n→gW P md ops Q S t f listed (over a0 (L.map Prod.snd) y) w:=by
  intro n;induction n with
  | zero=>intro f listed y w lo hi hf _ _ _ _ _ _ _ _ hn;omega
  | succ n ih=>
   intro f listed y w lo hi hf hsz htun hall hdown hS hB hGs hAp hn;obtain⟨ot,hot⟩:=hot;have htlt:t<ops.size:=by
    rcases Nat.lt_or_ge t ops.size with h|h
    ·exact h
    rw[Array.getElem?_eq_none h] at hot;cases hot
   obtain⟨g,rfl⟩:∃g,f=g+1:=⟨_,hf⟩
   have hg:g=(L.filter fun p=>!listed.getD p.1 true).length:=oM;refine⟨fun h=>?_,fun i hi'=>?_⟩
   ·obtain⟨j,hj⟩:=fHr hrise hsz (t+1) t oM htlt htun;rw[h] at hj;cases hj
   obtain⟨hiun,o,hio,hdeps⟩:=mem_ready.1 hi';have hilt:i<ops.size:=by
    rcases Nat.lt_or_ge i ops.size with h|h
    ·exact h
    rw[Array.getElem?_eq_none h] at hio;cases hio
   have hdep:∀k,k<ops.size→waitsFor md ops i k=true→listed.getD k true=true:=by
    intro k hk hw;unfold waitsFor at hw;rw[hio] at hw;obtain⟨e,he,hb⟩:=Array.any_eq_true'.1 hw;simp only[Bool.and_eq_true,beq_iff_eq] at hb;have h1:=hdeps e he hb.1;rw[hb.2] at h1;have hk':k<listed.size:=oM;simp[hk'] at h1 ⊢;exact h1
   have hLlt:∀p ∈ L,p.1<ops.size:=by
    intro p hp;obtain⟨o',ho',_⟩:=hstep p hp;rcases Nat.lt_or_ge p.1 ops.size with h|h
    ·exact h
    rw[Array.getElem?_eq_none h] at ho';cases ho'
   have key:∀K:Act→World→Prop,(if Region.wanted o (yielded ops (over a0 (L.map Prod.snd) y).tmps)=true then Oper.wp P o (over a0 (L.map Prod.snd) y) w K Q else K ((over a0 (L.map Prod.snd) y).put o.dst undef) w)→wpOp P ops Q i K (over a0 (L.map Prod.snd) y) w:=by
    intro K h1;unfold wpOp;simp only[hio];split
    ·rename_i hw;rw[if_pos hw] at h1;exact .inl h1
    rename_i hw;rw[if_neg hw] at h1;exact h1
   refine key _ ?_;by_cases hit:i=t
   ·
    subst hit;have hl:∀p ∈ L,listed.getD p.1 true=true:=fun p hp=>hdep p.1 (hLlt p hp) (htl p hp).2
    obtain⟨o2,ho2,hlst⟩:=hlast;rw[hio] at ho2;cases ho2;refine(hlst y w lo hi hS hB (fun q hq=>hGs q hq (hl q hq)) (fun q hq r hr hne=>hAp q hq r hr hne (hl q hq) (hl r hr)) _ (fun a' w' hq=>⟨fun h=>absurd rfl h,xQ ?_ hq⟩)).out;rw[List.eq_nil_iff_forall_not_mem];intro j hj;obtain⟨hjun,oj,hjo,_⟩:=mem_ready.1 hj;have hjl:j<ops.size:=by
     rcases Nat.lt_or_ge j ops.size with h|h
     ·exact h
     rw[Array.getElem?_eq_none h] at hjo;cases hjo
    by_cases hji:i=j
    ·subst hji;have hk':i<listed.size:=oM;simp[hk'] at hjun
    rw[getD_set_ne true hji] at hjun;rcases hall j hjl hjun with h|⟨p,hp,h⟩
    ·exact hji h.symm
    rw[←h,hl p hp] at hjun;cases hjun
   obtain⟨p,hp,hpi⟩:=(hall i hilt hiun).resolve_left hit;subst hpi;obtain⟨o',ho',hdst,hst⟩:=hstep p hp;rw[hio] at ho';cases ho';refine(hst y w lo hi hS hB (fun q hq hw=>hGs q hq (hdep q.1 (hLlt q hq) hw)) (fun q hq r hr hne h1 h2=>hAp q hq r hr hne (hdep q.1 (hLlt q hq) h1) (hdep r.1 (hLlt r hr) h2)) _ (fun v w' hb hGp=>⟨fun _=>hSst _ _ hS hb,?_⟩)).out;rw[fOy (List.mem_map_of_mem hp) hnd];have hlt:p.1<listed.size:=oM;have hself:(listed.setIfInBounds p.1 true).getD p.1 true=true:=by simp[hlt]
   have hoth:∀j,p.1≠j→(listed.setIfInBounds p.1 true).getD j true=listed.getD j true:=fun j h=>getD_set_ne true h
   have hinj:∀q ∈ L,q.1=p.1→q=p:=fun q hq h=>fMg L hno q hq p hp h
   have hinj2:∀q ∈ L,q.2=p.2→q=p:=fun q hq h=>fMh L hnd q hq p hp h
   refine ih g (listed.setIfInBounds p.1 true) (updV y p.2 v) w' (fun j=>if j=p.1 then w.heap.size else lo j) (fun j=>if j=p.1 then w'.heap.size else hi j) ?_ (by simpa using hsz) ?_ ?_ ?_ (hSst _ _ hS hb) (hB.trans (hb.mono hB.size)) ?_ ?_ oM
   ·rw[hg];refine fAu hno hp (by rw[hiun];rfl) (by rw[hself];rfl) (fun q hq hne=>?_);rw[hoth _ (fun c=>hne (hinj q hq c.symm))]
   ·rw[hoth _ (fun h=>hit h)];exact htun
   ·
    intro j hj hju;by_cases e:p.1=j
    ·subst e;rw[hself] at hju;cases hju
    rw[hoth _ e] at hju;exact hall j hj hju
   ·
    intro q hq hql r hr hw;by_cases e:p.1=r.1
    ·rw[←e];exact hself
    rw[hoth _ e];by_cases e2:p.1=q.1
    ·rw[←e2] at hw;exact hdep r.1 (hLlt r hr) hw
    rw[hoth _ e2] at hql;exact hdown q hq hql r hr hw
   ·
    intro q hq hql;by_cases e:q.1=p.1
    ·have e2:=hinj q hq e;subst e2;simp only[if_true];exact⟨⟨hB.size,hb.size,Nat.le_refl _⟩,hGp⟩
    rw[hoth _ (Ne.symm e)] at hql;simp only[if_neg e];obtain⟨h1,h2⟩:=hGs q hq hql;refine⟨⟨h1.1,h1.2.1,Nat.le_trans h1.2.2 hb.size⟩,hG q hq y (updV y p.2 v) _ _ w w' h2 h1 hb ?_ ?_⟩
    ·exact if_neg (fun c=>e (by rw[hinj2 q hq c]))
    intro r hr hw;refine if_neg (fun c=>?_);have e3:=hinj2 r hr c;subst e3;rw[hdown q hq hql _ hr hw] at hiun;cases hiun
   intro q hq r hr hne hql hrl;unfold fCz;by_cases e:q.1=p.1
   ·
    have e':r.1≠p.1:=fun c=>hne (e.trans c.symm)
    rw[hoth _ (Ne.symm e')] at hrl;simp only[if_pos e,if_neg e'];exact .inr (hGs r hr hrl).1.2.2
   rw[hoth _ (Ne.symm e)] at hql;by_cases e':r.1=p.1
   ·simp only[if_neg e,if_pos e'];exact .inl (hGs q hq hql).1.2.2
   rw[hoth _ (Ne.symm e')] at hrl;simp only[if_neg e,if_neg e'];exact hAp q hq r hr hne hql hrl
 have h0:=H f f listed (fun s=>a0.tmps.getD s undef) w0 (fun _=>0) (fun _=>0) (by
  rw[hf,List.filter_eq_self.2 (fun p hp=>by rw[hun.2 p hp];rfl)]) hsz hun.1 hall (fun p hp h=>by rw[hun.2 p hp] at h;cases h) hS (bR _ _) (fun q hq h=>by rw[hun.2 q hq] at h;cases h) (fun q hq r hr hne h=>by rw[hun.2 q hq] at h;cases h) (Nat.le_refl _)
 rw[over_self] at h0;exact h0
def fN2 (md:Region.Mode) (ops:Array Oper) (listed:Array Bool) (t f:Nat) (L:List (Nat × Nat)):Bool:=
 fO3 md ops&&decide (listed.size=ops.size)&&(ops[t]?).isSome&&((List.range ops.size).all fun i=>listed.getD i true||decide (i=t)||L.any fun p=>decide (p.1=i)) &&
  !listed.getD t true&&(L.all fun p=>!listed.getD p.1 true)&&decide (L.map Prod.fst).Nodup&&decide (L.map Prod.snd).Nodup&&(L.all fun p=>decide (p.1≠t)&&waitsFor md ops t p.1)&&decide (f=L.length+1)
theorem zO (L:List (Nat × Nat)) (G:Nat→(Nat→Value)→Nat→Nat→World→Prop) {f:Nat} {listed:Array Bool} {a0:Act} {w0:World} (hc:fN2 md ops listed t f L=true)
  (hS:S w0) (hSst:∀w w',S w→Below w.heap.size w w'→S w')
  (hG:∀p ∈ L,∀(y y':Nat→Value) (lo hi:Nat) (w w':World),G p.1 y lo hi w→InB w0 w lo hi→Below w.heap.size w w'→y' p.2=y p.2→(∀q ∈ L,waitsFor md ops p.1 q.1=true→y' q.2=y q.2)→G p.1 y' lo hi w')
  (hstep:∀p ∈ L,fXi P md ops Q S L G a0 w0 p)
  (hlast:∃o,ops[t]? = some o∧∀(y:Nat→Value) (w:World) (lo hi:Nat→Nat),S w→Below w0.heap.size w0 w→(∀q ∈ L,InB w0 w (lo q.1) (hi q.1)∧G q.1 y (lo q.1) (hi q.1) w)→(∀q ∈ L,∀r ∈ L,q.1≠r.1→fCz lo hi q.1 r.1) →
   ∀K:Act→World→Prop,(∀a' w',Q .normal a' w'→K a' w')→Shut (if Region.wanted o (yielded ops (over a0 (L.map Prod.snd) y).tmps)=true then Oper.wp P o (over a0 (L.map Prod.snd) y) w K Q else K ((over a0 (L.map Prod.snd) y).put o.dst undef) w)) :
  gW P md ops Q S t f listed a0 w0:=by
 unfold fN2 at hc;simp only[Bool.and_eq_true,decide_eq_true_eq,List.all_eq_true,List.any_eq_true,Bool.or_eq_true,Bool.not_eq_true',List.mem_range] at hc;obtain⟨⟨⟨⟨⟨⟨⟨⟨⟨h1,h2⟩,h3⟩,h4⟩,h5⟩,h6⟩,h7⟩,h8⟩,h9⟩,h10⟩:=hc;refine fNr L G h1 h2 (Option.isSome_iff_exists.1 h3) (fun i hi hu=>?_) ⟨h5,h6⟩ h7 h8 h9 h10 hS hSst hG hstep hlast;rcases h4 i hi with (h|h)|h
 ·rw[hu] at h;cases h
 ·exact .inl h
 exact .inr h
end
end
section
variable [dQ Leg] [iH Leg] [dQ Cont] [iH Cont] [dQ Evt] [iH Evt] [dQ EvtR] [iH EvtR] [dQ BytesR] [iH BytesR] [dQ ContR] [iH ContR] [dQ Logg] [iH Logg] [dQ LoggR] [iH LoggR] [dQ RecsR] [iH RecsR]
theorem fHh (w:World) (base:Nat):legsR.O w base none_ (.slice none 0 0) []:=⟨by simpa [gN] using World.ownsRow_nil w base 168 4,by funext b;simp[none_,Value.ownBlock]⟩
theorem xI (w:World) (base:Nat) (b:Bool) (i o:Int):evtR.O w base none_ (.agg #[.bool b,.int .i64 i,.slice none 0 0,.int .i64 o]) ⟨b,⟨i,[]⟩,o⟩:=
 evtf_O.1 ⟨.slice none 0 0,none_,rfl,fHh w base,fun _=>Iff.rfl⟩
theorem fEf {w:World} {base:Nat} {F:Nat→Prop} {i:Int} {u:Value} {y:Cont} (h:contR.O w base F (.agg #[.int .i64 i,u]) y) (b:Bool) (o:Int):evtR.O w base F (.agg #[.bool b,.int .i64 i,u,.int .i64 o]) ⟨b,y,o⟩:=by
 obtain⟨u1,F1,he,h1,h2⟩:=h;simp only[Value.agg.injEq,Array.mk.injEq,List.cons.injEq,and_true,Value.int.injEq,true_and] at he;obtain⟨rfl,rfl⟩:=he;exact evtf_O.1 ⟨u,F1,rfl,h1,h2⟩
theorem fGw {w:World} {base:Nat} {F:Nat→Prop} {v:Value} {y:Cont} (h:contR.O w base F v y):∃a c,v =.agg #[.int .i64 y.id,.slice a y.legs.length c]:=by
 obtain⟨u1,F1,rfl,h1,_⟩:=h;obtain⟨a,c,rfl⟩:=kP (legsR.ofO h1);exact⟨a,c,rfl⟩
theorem fJ8 {w:World} {base:Nat} {F:Nat→Prop} {c:Int} {b:Bool} {i o:Int} {u:Value} {y:Evt} (h:evtR.O w base F (.agg #[.bool b,.int .i64 i,u,.int .i64 o]) y):evtRR.O w base F (.agg #[.int .i64 c,.bool b,.int .i64 i,u,.int .i64 o]) ⟨c,y⟩:=by
 obtain⟨u1,F1,he,h1,h2⟩:=evtf_O.2 h;simp only[Value.agg.injEq,Array.mk.injEq,List.cons.injEq,and_true,Value.int.injEq,Value.bool.injEq,true_and] at he;obtain⟨rfl,rfl,rfl,rfl⟩:=he;exact⟨u,F,rfl,h,fun _=>Iff.rfl⟩
theorem fEe {w:World} {base:Nat} {F:Nat→Prop} {v:Value} {y:Evt} (h:evtR.O w base F v y):∃a c,v =.agg #[.bool y.vote,.int .i64 y.con.id,.slice a y.con.legs.length c,.int .i64 y.out]:=by
 obtain⟨u1,F1,rfl,h1,_⟩:=evtf_O.2 h;obtain⟨a,c,rfl⟩:=kP (legsR.ofO h1);exact⟨a,c,rfl⟩
theorem fH3 {w W:World} {a1 a2 a3 a4:Value} (h:Below w.heap.size w W∧W.cell? ⟨w.heap.size+1,0,none⟩=some a1∧W.cell? ⟨w.heap.size+1,1,none⟩=some a2∧W.cell? ⟨w.heap.size+1,2,none⟩=some a3∧W.cell? ⟨w.heap.size+1,3,none⟩=some a4) (u0 u1 u2 u3:Value) :
  Below w.heap.size w ((((W.setCell ⟨w.heap.size,0,none⟩ u0).setCell ⟨w.heap.size,1,none⟩ u1).setCell ⟨w.heap.size,2,none⟩ u2).setCell ⟨w.heap.size,3,none⟩ u3)∧((((W.setCell ⟨w.heap.size,0,none⟩ u0).setCell ⟨w.heap.size,1,none⟩ u1).setCell ⟨w.heap.size,2,none⟩ u2).setCell ⟨w.heap.size,3,none⟩ u3).cell? ⟨w.heap.size+1,0,none⟩=some a1∧((((W.setCell ⟨w.heap.size,0,none⟩ u0).setCell ⟨w.heap.size,1,none⟩ u1).setCell ⟨w.heap.size,2,none⟩ u2).setCell ⟨w.heap.size,3,none⟩ u3).cell? ⟨w.heap.size+1,1,none⟩=some a2∧((((W.setCell ⟨w.heap.size,0,none⟩ u0).setCell ⟨w.heap.size,1,none⟩ u1).setCell ⟨w.heap.size,2,none⟩ u2).setCell ⟨w.heap.size,3,none⟩ u3).cell? ⟨w.heap.size+1,2,none⟩=some a3∧((((W.setCell ⟨w.heap.size,0,none⟩ u0).setCell ⟨w.heap.size,1,none⟩ u1).setCell ⟨w.heap.size,2,none⟩ u2).setCell ⟨w.heap.size,3,none⟩ u3).cell? ⟨w.heap.size+1,3,none⟩=some a4:=by
 obtain⟨hb,h0,h1,h2,h3⟩:=h;refine⟨?_,?_,?_,?_,?_⟩
 ·
  iterate 4 (refine bset ?_ (by simp) _)
  exact hb
 ·simp[go_sem,h0]
 ·simp[go_sem,h1]
 ·simp[go_sem,h2]
 simp[go_sem,h3]
theorem fH4 {xs:List Byte} (h:¬(unpE xs).code=0):unpE xs=errE:=by
 unfold unpE at h ⊢;by_cases h0:xs.length=0
 ·rw[if_pos h0]
 rw[if_neg h0] at h ⊢;by_cases h1:(xs.getD 0 0).val=1
 ·
  rw[if_pos h1] at h ⊢;by_cases h2:(unpD (xs.drop 1)).code=0
  ·rw[if_pos h2] at h;exact absurd rfl h
  rw[if_neg h2]
 rw[if_neg h1] at h ⊢;by_cases h2:(xs.getD 0 0).val=2∧xs.length=10
 ·
  rw[if_pos h2] at h ⊢;by_cases h3:evtF (outE xs)=0
  ·rw[if_pos h3] at h;exact absurd rfl h
  rw[if_neg h3]
 rw[if_neg h2]
def fJp (w:World) (xs:List Byte) (e:Ending) (w':World):Prop:=∃v F y,e =.returned (.tuple #[v,.bool (decide ((unpE xs).code=0))])∧evtR.O w' w.heap.size F v y∧((unpE xs).code=0→unpE xs=⟨0,y⟩)∧Below w.heap.size w w'
theorem xP {w W:World} {xs:List Byte} {b:Bool} {i o:Int} (h:unpE xs=errE) (hb:Below w.heap.size w W):fJp w xs (.returned (.tuple #[.agg #[.bool b,.int .i64 i,.slice none 0 0,.int .i64 o],.bool false])) W:=
 ⟨_,none_,⟨b,⟨i,[]⟩,o⟩,by rw[h];rfl,xI _ _ _ _ _,fun h0=>(by rw[h] at h0;cases h0),hb⟩
theorem fH5 {xs:List Byte} (h:xs.length=0):unpE xs=errE:=if_pos h
theorem fF1 {xs:List Byte} (h0:¬xs.length=0) (h:(xs.getD 0 0).val=1):unpE xs=if (unpD (xs.drop 1)).code=0 then ⟨0,⟨true,(unpD (xs.drop 1)).contract,0⟩⟩ else errE:=by unfold unpE;rw[if_neg h0,if_pos h]
theorem fH6 {xs:List Byte} (h0:¬xs.length=0) (h1:¬(xs.getD 0 0).val=1) (h:(xs.getD 0 0).val=2∧xs.length=10):unpE xs=if evtF (outE xs)=0 then ⟨0,outE xs⟩ else errE:=by unfold unpE;rw[if_neg h0,if_neg h1,if_pos h]
theorem fF0 {xs:List Byte} (h0:¬xs.length=0) (h1:¬(xs.getD 0 0).val=1) (h:¬((xs.getD 0 0).val=2∧xs.length=10)):unpE xs=errE:=by unfold unpE;rw[if_neg h0,if_neg h1,if_neg h]
theorem fWx (x:Value) (xs:List Byte) (w:World) (hx:bytesR.V w x xs) :
  Calls Tryz.prog 159 #[x] w fun e w'=>∃v F y,e =.returned (.tuple #[v,.bool (decide ((unpD xs).code=0))])∧contR.O w' w.heap.size F v y∧((unpD xs).code=0→(unpD xs).contract=y)∧Below w.heap.size w w':=by
 by_cases h:8≤xs.length∧(xs.length-8) % 11=0∧xs.length≤96
 ·
  refine(fE2 x xs w hx h.1 h.2.1 h.2.2).mono ?_;rintro e w' ⟨v,F,rfl,ho,hb⟩;refine⟨_,F,mG xs,?_,⟨v,F,rfl,ho,fun _=>Iff.rfl⟩,?_,hb⟩
  ·
   by_cases hc:fA (mG xs).id (mG xs).legs=0
   ·have e1:unpD xs=⟨0,mG xs⟩:=if_pos ⟨h,hc⟩;rw[e1,hc]
   have e1:unpD xs=⟨5,⟨0,[]⟩⟩:=if_neg (fun k=>hc k.2);rw[e1,decide_eq_false hc];rfl
  intro h0;by_cases hc:fA (mG xs).id (mG xs).legs=0
  ·have e1:unpD xs=⟨0,mG xs⟩:=if_pos ⟨h,hc⟩;rw[e1]
  have e1:unpD xs=⟨5,⟨0,[]⟩⟩:=if_neg (fun k=>hc k.2);rw[e1] at h0;cases h0
 refine(fDk x xs w hx h).mono ?_;rintro e w' ⟨rfl,hb⟩;have e1:unpD xs=⟨5,⟨0,[]⟩⟩:=if_neg (fun k=>h k.1);refine⟨_,none_,⟨0,[]⟩,by rw[e1];rfl,⟨.slice none 0 0,none_,rfl,fHh _ _,fun _=>Iff.rfl⟩,fun h0=>(by rw[e1] at h0;cases h0),hb⟩
theorem fMx (x:Value) (xs:List Byte) (w:World) (hx:bytesR.V w x xs) :
  Calls Tryz.prog 130 #[x] w (fJp w xs):=by
 have hX:=hx;obtain⟨ax,cx,rfl,hcx,hmx,hx⟩:=hx;unfold maxLen at hmx;by_cases h0:xs.length=0
 ·have HD:Hid (unpE xs=errE):=fH5 h0;clear hx hX;rw[h0] at hcx ⊢;go_enter Tryz.func130,Tryz.ntmps130;go_wp2;exact bodyPost_ret (v:=.tuple #[.agg #[.bool false,.int .i64 0,.slice none 0 0,.int .i64 0],.bool false]) (by simp[results,Tryz.results130,go_sem]) rfl (xP HD.out qBq)
 have hl1:1≤xs.length:=Nat.pos_of_ne_zero h0;obtain⟨bb,oo',rfl,hc0⟩:=hx 0 oM;have hd0:((xs.length:Int)==0)=false:=beq_eq_false_iff_ne.2 oM;by_cases h1:(xs.getD 0 0).val=1
 ·
  have HD:Hid (unpE xs=if (unpD (xs.drop 1)).code=0 then ⟨0,⟨true,(unpD (xs.drop 1)).contract,0⟩⟩ else errE):=fF1 h0 h1;obtain⟨a',c',run,hv⟩:=cutL (a:=some ⟨bb,oo',none⟩) (n:=xs.length) (cap:=cx) 1 oM oM hcx;have HC:Hid (bW w fun W=>Calls Tryz.prog 159 #[.slice a' (xs.length-(1:Int).toNat) c'] W fun e w'=>∃v F y,e =.returned (.tuple #[v,.bool (decide ((unpD (xs.drop 1)).code=0))])∧contR.O w' W.heap.size F v y∧((unpD (xs.drop 1)).code=0→(unpD (xs.drop 1)).contract=y)∧Below W.heap.size W w'):=fun W hW=>fWx _ (xs.drop 1) W (hv W xs rfl (bytesR.below hX hW))
  have g0:w.cell? ⟨bb,oo',none⟩=some (.int .u8 1):=by have h:=hc0;rw[h1,Nat.add_zero] at h;exact h
  have hlt:(0:Int)<(xs.length:Int):=oM;clear hx hX hv hc0 h1;obtain⟨D,hD⟩:∃D,unpD (xs.drop 1)=D:=⟨_,rfl⟩
  rw[hD] at HC HD;clear hD;obtain⟨cd,ct⟩:=D;dsimp only at HC HD;have zb:bb<w.heap.size:=wL w _ g0;go_enter Tryz.func130,Tryz.ntmps130;go_wp2_with fail;refine(HC.out _ qBq).mono ?_;rintro e w1 ⟨v1,F1,y1,rfl,o1,hy,hb1⟩;obtain⟨p,q,rfl⟩:=fGw o1;have hB1:=bT w hb1;have r0:w1.cell? ⟨w.heap.size,0,none⟩=some (.bool false):=cK hb1 sG;have r1:w1.cell? ⟨w.heap.size,1,none⟩=some (.int .i64 0):=cK hb1 sG;have r2:w1.cell? ⟨w.heap.size,2,none⟩=some (.slice none 0 0):=cK hb1 sG;have r3:w1.cell? ⟨w.heap.size,3,none⟩=some (.int .i64 0):=cK hb1 sG;have rf:∀o,w1.frozen? ⟨w.heap.size,o,none⟩=false:=fun o=>by rw[(bcell hb1).2 _ _ (by simp;omega)];simp[go_sem]
  have s0:w1.cell? ⟨w.heap.size+1,0,none⟩=some (.bool false):=cK hb1 sG;have s1:w1.cell? ⟨w.heap.size+1,1,none⟩=some (.int .i64 0):=cK hb1 sG;have s2:w1.cell? ⟨w.heap.size+1,2,none⟩=some (.slice none 0 0):=cK hb1 sG;have s3:w1.cell? ⟨w.heap.size+1,3,none⟩=some (.int .i64 0):=cK hb1 sG;have sf:∀o,w1.frozen? ⟨w.heap.size+1,o,none⟩=false:=fun o=>by rw[(bcell hb1).2 _ _ (by simp)];simp[go_sem]
  have hz:w.heap.size+2≤w1.heap.size:=by have:=hb1.size;simp at this;omega
  have HO:Hid (contR.O w1 (w.heap.size+2) F1 (.agg #[.int .i64 y1.id,.slice p y1.legs.length q]) y1):=contR.base o1 (by simp);clear o1 hb1 HC run;have z1:w.heap.size<w1.heap.size:=oM;have z2:w.heap.size+1<w1.heap.size:=oM;generalize hm:y1.legs.length=m at *;have HY:Hid (cd=0→ct=y1):=hy;clear hm hy;go_wp2;refine bodyPost_ret (v:=.tuple #[.agg #[.bool true,.int .i64 y1.id,.slice p m q,.int .i64 0],.bool (decide (cd=0))]) (by simp[results,Tryz.results130,go_sem,r0,r1,r2,r3,rf,s0,s1,s2,s3,sf,z1]) rfl ?_;have hbe:∀W W':World,Below W.heap.size W W'→Below W.heap.size W W':=fun _ _ h=>h
  refine⟨.agg #[.bool true,.int .i64 y1.id,.slice p m q,.int .i64 0],F1,⟨true,y1,0⟩,?_,fEf (i:=y1.id) (u:=.slice p m q) (contR.base (base:=w.heap.size+2) ?_ oM) true 0,?_,?_⟩
  ·
   rw[HD.out];by_cases hc:cd=0
   ·rw[if_pos hc,decide_eq_true hc];rfl
   rw[if_neg hc,decide_eq_false hc];rfl
  ·
   refine contR.alloc ?_ _;iterate 7 (refine contR.set ?_ _ (by simp))
   exact HO.out
  ·
   intro h;rw[HD.out] at h ⊢;by_cases hc:cd=0
   ·rw[if_pos hc,HY.out hc]
   rw[if_neg hc] at h;cases h
  refine bA ?_ _;iterate 7 (refine bset ?_ (by simp) _)
  exact hB1
 by_cases h2:(xs.getD 0 0).val=2∧xs.length=10
 ·
  obtain⟨h2,h10⟩:=h2;have HD:Hid (unpE xs=if evtF (outE xs)=0 then ⟨0,outE xs⟩ else errE):=fH6 h0 h1 ⟨h2,h10⟩;obtain⟨a',c',run,hv⟩:=cutB (a:=some ⟨bb,oo',none⟩) (n:=xs.length) (cap:=cx) 1 9 oM oM oM hcx;have hV9:=hv w xs rfl hX;rw[show((9:Int)-1).toNat=8 by omega,show(1:Int).toNat=1 by omega] at hV9;rw[show((9:Int)-1).toNat=8 by omega] at run;have hl8:((xs.drop 1).take 8).length=8:=by rw[List.length_take,List.length_drop];omega
  have ht8:((xs.drop 1).take 8).take 8=(xs.drop 1).take 8:=List.take_of_length_le oM;obtain⟨_,_,e9,hc9⟩:=hx 9 oM;simp only[Option.some.injEq,Addr.mk.injEq,and_true] at e9;obtain⟨rfl,rfl⟩:=e9;have g0:w.cell? ⟨bb,oo',none⟩=some (.int .u8 2):=by have h:=hc0;rw[h2,Nat.add_zero] at h;exact h
  have hw9:IntKind.i64.wrap ((xs.getD 9 0).val:Int)=((xs.getD 9 0).val:Int):=by rw[IntKind.wrap_i64];have:=(xs.getD 9 0).isLt;omega
  have HX:Hid (outE xs=⟨false,⟨IntKind.i64.wrap (hiN ((xs.drop 1).take 8)),[]⟩,((xs.getD 9 0).val:Int)⟩):=rfl;have HN:Hid (bW w fun W=>Calls Tryz.prog 160 #[.slice a' 8 c'] W fun e w'=>e =.returned (.int .i64 (IntKind.i64.wrap (hiN ((xs.drop 1).take 8))))∧w'=W):=fun W hW=>by
   have:=zJ _ _ W (gG hV9 hW) oM;rw[ht8] at this;exact this
  generalize IntKind.i64.wrap (hiN ((xs.drop 1).take 8))=id at *;generalize ((xs.getD 9 0).val:Int)=oo at *;have zb:bb<w.heap.size:=wL w _ g0;have HF:Hid (∀W,RI 45 #[.agg #[.bool false,.int .i64 id,.slice none 0 0,.int .i64 oo]] W (.int .i64 (evtF ⟨false,⟨id,[]⟩,oo⟩))):=fun W=>fNh _ ⟨false,⟨id,[]⟩,oo⟩ W (evtR.ofO (xI W 0 false id oo))
  rw[HX.out] at HD;clear hx hX hv hV9 hc0 h1 h2 hl8 ht8 HX;rw[h10] at hcx run hd0 ⊢;generalize evtF ⟨false,⟨id,[]⟩,oo⟩=ef at *;go_enter Tryz.func130,Tryz.ntmps130;go_wp2_with fail;refine(HN.out _ qBq).mono ?_;rintro e w1 ⟨rfl,hw⟩;obtain rfl:=hw.symm;clear HN;go_wp2;obtain⟨wq,hwq⟩:∃wq,wq=(w.alloc (.cells #[.bool false,.int .i64 0,.slice none 0 0,.int .i64 0] 59)).alloc (.cells #[.bool false,.int .i64 id,.slice none 0 0,.int .i64 oo] 59):=⟨_,rfl⟩
  have h0:Below w.heap.size w wq∧wq.cell? ⟨w.heap.size+1,0,none⟩=some (.bool false)∧wq.cell? ⟨w.heap.size+1,1,none⟩=some (.int .i64 id)∧wq.cell? ⟨w.heap.size+1,2,none⟩=some (.slice none 0 0)∧wq.cell? ⟨w.heap.size+1,3,none⟩=some (.int .i64 oo):=by
   rw[hwq];exact⟨qBq,by simp[go_sem],sG,by simp[go_sem],sG⟩
  have r0:wq.cell? ⟨w.heap.size,0,none⟩=some (.bool false):=by rw[hwq];simp[go_sem]
  have r1:wq.cell? ⟨w.heap.size,1,none⟩=some (.int .i64 0):=by rw[hwq];simp[go_sem]
  have r2:wq.cell? ⟨w.heap.size,2,none⟩=some (.slice none 0 0):=by rw[hwq];simp[go_sem]
  have r3:wq.cell? ⟨w.heap.size,3,none⟩=some (.int .i64 0):=by rw[hwq];simp[go_sem]
  have rf:∀o,wq.frozen? ⟨w.heap.size,o,none⟩=false:=fun o=>by rw[hwq];simp[go_sem]
  have hz0:w.heap.size<wq.drew.heap.size:=by show w.heap.size<wq.heap.size;rw[hwq];simp;omega
  rw[←hwq];clear hwq g0 zb run;go_region_held3 (fun W=>Below w.heap.size w W∧W.cell? ⟨w.heap.size+1,0,none⟩=some (.bool false)∧W.cell? ⟨w.heap.size+1,1,none⟩=some (.int .i64 id)∧W.cell? ⟨w.heap.size+1,2,none⟩=some (.slice none 0 0)∧W.cell? ⟨w.heap.size+1,3,none⟩=some (.int .i64 oo))
   ((first|exact fBi h0 (Below.drew (bR _ _))|exact hS3|exact fH3 hS3 _ _ _ _))
   (first|(go_at_call 45;refine(HF.out _).mono ?_;rintro e w3 ⟨rfl,hb3⟩;have hS3:=fBi (fBi h0 (Below.drew (bR _ _))) hb3;have e0:=cK hb3 (cK (Below.drew (bR _ _)) r0);have e1:=cK hb3 (cK (Below.drew (bR _ _)) r1);have e2:=cK hb3 (cK (Below.drew (bR _ _)) r2);have e3:=cK hb3 (cK (Below.drew (bR _ _)) r3);have ef':=fun o=>((bcell hb3).2 w.heap.size o hz0).trans (rf o)))
  have hB3:Below w.heap.size w w3:=hS3.1;clear hS3 hb3 h0 HF;go_wp2;refine bodyPost_ret (v:=.tuple #[.agg #[.bool false,.int .i64 id,.slice none 0 0,.int .i64 oo],.bool (ef==0)]) (by simp[results,Tryz.results130,go_sem,e0,e1,e2,e3,ef']) rfl ?_;refine⟨_,none_,⟨false,⟨id,[]⟩,oo⟩,?_,xI _ _ _ _ _,?_,?_⟩
  ·
   rw[HD.out];by_cases hc:ef=0
   ·rw[if_pos hc,hc];rfl
   rw[if_neg hc];have:(ef==0)=false:=by simpa using hc
   rw[this];rfl
  ·
   intro h;rw[HD.out] at h ⊢;by_cases hc:ef=0
   ·rw[if_pos hc]
   rw[if_neg hc] at h;cases h
  iterate 4 (refine bset ?_ (by simp) _)
  exact hB3
 have HD:Hid (unpE xs=errE):=fF0 h0 h1 h2;have hlt:(0:Int)<(xs.length:Int):=oM;have hd1:(((xs.getD 0 0).val:Int)==1)=false:=beq_eq_false_iff_ne.2 oM;rw[Nat.add_zero] at hc0;have zb:bb<w.heap.size:=wL w _ hc0;clear hx hX;by_cases h3:(xs.getD 0 0).val=2
 ·
  have hd2:(((xs.getD 0 0).val:Int) !=2)=false:=by rw[h3];rfl
  have hd3:((xs.length:Int) !=10)=true:=by simp only[bne_iff_ne,ne_eq];exact fun h=>h2 ⟨h3,by omega⟩
  clear h0 h1 h2 h3 hl1;generalize ((xs.getD 0 0).val:Int)=q at *;generalize xs.length=n at *;go_enter Tryz.func130,Tryz.ntmps130;go_wp2;exact bodyPost_ret (v:=.tuple #[.agg #[.bool false,.int .i64 0,.slice none 0 0,.int .i64 0],.bool false]) (by simp[results,Tryz.results130,go_sem]) rfl (xP HD.out qBq)
 have hd2:(((xs.getD 0 0).val:Int) !=2)=true:=by simp only[bne_iff_ne,ne_eq];omega
 clear h0 h1 h2 h3 hl1;generalize ((xs.getD 0 0).val:Int)=q at *;generalize xs.length=n at *;go_enter Tryz.func130,Tryz.ntmps130;go_wp2;exact bodyPost_ret (v:=.tuple #[.agg #[.bool false,.int .i64 0,.slice none 0 0,.int .i64 0],.bool false]) (by simp[results,Tryz.results130,go_sem]) rfl (xP HD.out qBq)
theorem fU8 (w:World) (base:Nat):evtRR.O w base none_ (.agg #[.int .i64 5,.bool false,.int .i64 0,.slice none 0 0,.int .i64 0]) errE:=fJ8 (xI w base false 0 0)
end
section
variable [dQ Logg] [iH Logg] [dQ LoggR] [iH LoggR] [dQ BytesR] [iH BytesR] [dQ RecsR] [iH RecsR] [dQ Leg] [iH Leg]
theorem fX6 {a:Option Addr} {n cap:Nat} (h:Int) (h0:0≤h) (h2:h≤n) (hn:n≤cap) :
  ∃a' c',(∀w:World,(Instr.sliceAt 150 (.slice a n cap) none (some (.int .i64 h)) none).run Tryz.prog w =.ok (.slice a' h.toNat c') w) ∧
   ∀(w:World) (xs:List Byte),xs.length=n→mQ w (.slice a n cap) xs→mQ w (.slice a' h.toNat c') (xs.take h.toNat):=by
 have und:Tryz.prog.underlying 150=some (.slice (Tryz.prog.elem 150)):=kF;have cel:(sizeOf (Tryz.prog.elem 150)).run Tryz.prog=fun w=>.ok 1 w:=by
  have he:Tryz.prog.elem 150=5:=kF;obtain⟨i0,hi,hz0,hz1,hz2⟩:=info_parts infoByte;funext w;simp[sizeOf,typeInfo,he,hi,hz1]
 refine⟨if cap=0 then a else a.map (·.add (0*1)),cap-0,fun w=>?_,fun w xs e hx=>?_⟩
 ·rw[run_sliceAt_slice (h:=und),run_slice_h (ht:=und) (h0:=h0) (h2:=by omega),cel];simp only[Result.andThen,sliced];rw[Nat.sub_zero]
 subst e;have:=pJ hx 0 h.toNat oM oM;rw[Nat.sub_zero,List.drop_zero] at this;exact this
theorem zM (x:Value) (d:Logg) (w:World) (hx:loggR.V w x d) (hn:gM d≤1048576) :
  Calls Tryz.prog 107 #[x] w fun e w'=>∃v F,e =.returned (.agg #[v,.int .i64 d.synced.length])∧bytesR.O w' w.heap.size F v (d.synced++d.loose)∧Below w.heap.size w w':=by
 have hX:=hx;obtain⟨u1,u2,rfl,h1,h2⟩:=hx;obtain⟨a1,c1,rfl⟩:=fZ h1;obtain⟨a2,c2,rfl⟩:=fZ h2;unfold gM kK at hn;have u1:IntKind.i64.wrap (d.synced.length:Int)=d.synced.length:=by rw[IntKind.wrap_i64];omega
 have HL:Hid ([d.synced,d.loose].flatten=d.synced++d.loose):=by simp[Hid]
 go_enter Tryz.func107,Tryz.ntmps107;go_wp2;refine wp_region_noPanic ?_;refine fB (fun w'=>Below w.heap.size w w'∧w'.cell? ⟨w.heap.size,0,none⟩=some (.slice a1 d.synced.length c1)∧w'.cell? ⟨w.heap.size,1,none⟩=some (.slice a2 d.loose.length c2)) 10 kF ⟨qBq,by simp[go_sem],sG⟩ (fun hS=>?_);refine tY 0 ?_;refine tY 1 ?_;refine tY 2 ?_;refine tY 3 ?_;refine tY 6 ?_;refine tY 7 ?_;refine tY 8 ?_;refine uS 4 rfl (fun K hK=>?_);go_simp;refine hK _ _ (fun _=>⟨qBq,by simp[go_sem],sG⟩) ?_;clear hK K;try simp only[jX]
 refine uS 5 rfl (fun K hK=>?_);go_simp;refine(zZ _ [d.synced,d.loose] _ (fWk (g:=w.heap.size+1+1) (by simp[go_sem];done) (by simp[go_sem];done) (bytesR.below h1 qBq) (bytesR.below h2 qBq)) (by rw[HL.out];simp;omega)).mono ?_;rintro e w3 ⟨v,F,rfl,o3,hb3⟩;rw[HL.out] at o3;obtain⟨a3,c3,rfl⟩:=fZ (bytesR.ofO o3);have hS3:(fun w'=>Below w.heap.size w w'∧w'.cell? ⟨w.heap.size,0,none⟩=some (.slice a1 d.synced.length c1)∧w'.cell? ⟨w.heap.size,1,none⟩=some (.slice a2 d.loose.length c2)) w3:=⟨qBq,cK hb3 sG,cK hb3 sG⟩;have r0:w3.cell? ⟨w.heap.size+1,0,none⟩=some (.slice none 0 0):=cK hb3 sG;have r1:w3.cell? ⟨w.heap.size+1,1,none⟩=some (.int .i64 0):=cK hb3 sG;have rf:∀o,w3.frozen? ⟨w.heap.size+1,o,none⟩=false:=fun o=>by rw[(bcell hb3).2 _ _ (by simp)];simp[go_sem]
 have hB3:Below w.heap.size w w3:=hS3.1;have HO:Hid (bytesR.O w3 (w.heap.size+2) F (.slice a3 (d.synced++d.loose).length c3) (d.synced++d.loose)):=bytesR.base o3 (by simp);refine hK _ _ (fun _=>hS3) ?_;clear hK K o3 hb3;try simp only[jX]
 refine tY 9 ?_;refine uS 10 rfl (fun K hK=>?_);go_simp;refine hK _ _ (fun h=>absurd rfl h) ?_;clear hK K;refine dP ?_;clear hS hS3;go_wp2;have ho:bytesR.O w3 (w.heap.size+2) F (.slice a3 (d.synced.length+d.loose.length) c3) (d.synced++d.loose):=by have h:=HO.out;simpa using h
 refine bodyPost_ret (v:=.agg #[.slice a3 (d.synced.length+d.loose.length) c3,.int .i64 d.synced.length]) ?_ rfl ⟨_,F,rfl,bytesR.base (bytesR.set (bytesR.set ho _ (by simp)) _ (by simp)) oM,qBq⟩;simp[results,Tryz.results107,go_sem,r0,r1]
theorem fFi (x:Value) (xs:List Byte) (w:World) (hx:bytesR.V w x xs) :
  Calls Tryz.prog 109 #[x] w fun e w'=>∃v F,e =.returned v∧recsRR.O w' w.heap.size F v (fDn xs)∧Below w.heap.size w w':=by
 have hX:=hx;obtain⟨ax,cx,rfl⟩:=fZ hx;go_enter Tryz.func109,Tryz.ntmps109;go_wp2_with fail;refine(fIt _ xs _ (bytesR.below hX qBq)).mono ?_;rintro e w1 ⟨v,F,rfl,ho,hb⟩;have fv:=recsRR.ofO ho;obtain⟨a1,c1,rfl⟩:=fCu fv;obtain⟨c2,f2⟩:=bcell hb;have ho':=recsRR.base (base':=w.heap.size+1) ho (by simp);go_wp2;refine bodyPost_ret (v:=.agg #[.int .i64 (fDn xs).code,.int .i64 (fDn xs).used,.slice a1 (fDn xs).records.length c1]) ?_ rfl ⟨_,F,rfl,recsRR.base (recsRR.set (recsRR.set (recsRR.set ho' _ (by simp)) _ (by simp)) _ (by simp)) oM,qBq⟩;simp[results,Tryz.results109,go_sem,c2]
theorem fAn (x:Value) (xs:List Byte) (k:Nat) (w:World) (hx:bytesR.V w x xs) (hk:k≤xs.length) (hn:xs.length≤1048576) :
  Calls Tryz.prog 108 #[x,.int .i64 k] w fun e w'=>∃v F,e =.returned v∧loggR.O w' w.heap.size F v ⟨xs.take k,[]⟩∧Below w.heap.size w w':=by
 have hX:=hx;obtain⟨ax,cx,rfl⟩:=fZ hx;have hcap:xs.length≤cx:=by
  obtain⟨_,_,e,h,_⟩:=hx;simp only[Value.slice.injEq,true_and] at e;omega
 obtain⟨a3,c3,run3,V3⟩:=fX6 (a:=ax) (n:=xs.length) (cap:=cx) (k:Int) oM oM hcap;have ek:(k:Int).toNat=k:=oM;have V1:bytesR.V w (.slice a3 k c3) (xs.take k):=by have h:=V3 _ xs rfl hX;rw[ek] at h;exact h
 rw[ek] at run3;have hl:(xs.take k).length=k:=by rw[List.length_take];omega
 generalize xs.take k=ys at *;clear V3 ek hcap;have HL:Hid ([ys].flatten=ys):=by simp[Hid]
 go_enter Tryz.func108,Tryz.ntmps108;go_wp2_with fail;refine(zZ _ [ys] _ (fR4 (g:=w.heap.size+1) (by simp[go_sem];done) (bytesR.below V1 qBq)) (by rw[HL.out];omega)).mono ?_;rintro e w3 ⟨v,F,rfl,o3,hb3⟩;rw[HL.out] at o3;obtain⟨a4,c4,rfl⟩:=fZ (bytesR.ofO o3);have r0:w3.cell? ⟨w.heap.size,0,none⟩=some (.slice none 0 0):=cK hb3 sG;have r1:w3.cell? ⟨w.heap.size,1,none⟩=some (.slice none 0 0):=cK hb3 sG;have rf:∀o,w3.frozen? ⟨w.heap.size,o,none⟩=false:=fun o=>by rw[(bcell hb3).2 _ _ (by simp;omega)];simp[go_sem]
 have hB3:Below w.heap.size w w3:=qBq;have HO:Hid (bytesR.O w3 (w.heap.size+1) F (.slice a4 ys.length c4) ys):=bytesR.base o3 (by simp);clear o3 hb3 V1 run3 hX hx;go_wp2;have ho:=HO.out;rw[hl] at ho;refine bodyPost_ret (v:=.agg #[.slice a4 k c4,.slice none 0 0]) ?_ rfl ⟨_,F,rfl,yI (bytesR.base (bytesR.set (bytesR.set ho _ (by simp)) _ (by simp)) oM),qBq⟩;simp[results,Tryz.results108,go_sem,r0,r1,hl]
def fJx (c:Int):LoggR:=⟨c,⟨[],[]⟩⟩
def gD (d:Logg) (k:Int):LoggR:=if logF d=0 then (if 0≤k∧k≤d.loose.length then ⟨0,⟨d.synced++d.loose.take k.toNat,[]⟩⟩ else fJx 3) else fJx 2
def fA1 (d:Logg):LoggR:=if logF d=0 then ⟨0,⟨d.synced.take (recU d.synced),[]⟩⟩ else fJx 2
def zL (d:Logg):RecsR:=if logF d=0 then fDn (d.synced++d.loose) else ⟨2,0,[]⟩
theorem rX (d:Logg):(logF d=0∧d.synced.length+d.loose.length≤6000)∨logF d=2:=by
 unfold logF;split
 ·exact .inr rfl
 exact .inl ⟨rfl,by omega⟩
theorem fNg (x:Value) (d:Logg) (k:Int) (w:World) (hx:loggR.V w x d) (hn:gM d≤1048576) :
  Calls Tryz.prog 56 #[x,.int .i64 k] w fun e w'=>∃v F,e =.returned v∧loggRR.O w' w.heap.size F v (gD d k)∧Below w.heap.size w w':=by
 have hX:=hx;obtain⟨a1,a2,c1,c2,rfl⟩:=mU hx;have u1:IntKind.i64.wrap (d.loose.length:Int)=d.loose.length:=by unfold gM kK at hn;rw[IntKind.wrap_i64];omega
 go_enter Tryz.func56,Tryz.ntmps56;go_wp2_with fail;refine(fDa _ d _ (loggR.below hX qBq) hn).mono ?_;rintro e w1 ⟨rfl,hb1⟩;have x0:w1.cell? ⟨w.heap.size,0,none⟩=some (.slice a1 d.synced.length c1):=cK hb1 sG;have x1:w1.cell? ⟨w.heap.size,1,none⟩=some (.slice a2 d.loose.length c2):=cK hb1 sG;have r0:w1.cell? ⟨w.heap.size+1,0,none⟩=some (.int .i64 0):=cK hb1 sG;have r1:w1.cell? ⟨w.heap.size+1,1,none⟩=some (.slice none 0 0):=cK hb1 sG;have r2:w1.cell? ⟨w.heap.size+1,2,none⟩=some (.slice none 0 0):=cK hb1 sG;have rf:∀o,w1.frozen? ⟨w.heap.size+1,o,none⟩=false:=fun o=>by rw[(bcell hb1).2 _ _ (by simp)];simp[go_sem]
 have s1:=hb1.size;simp only[World.size_alloc] at s1;have hB1:Below w.heap.size w w1:=qBq;clear hb1;have z0:w.heap.size<w1.heap.size:=oM;have z1:w.heap.size+1<w1.heap.size:=oM;rcases rX d with ⟨h0,hl⟩|h0
 rotate_left
 ·
  have HD:Hid (gD d k=fJx 2):=by unfold Hid gD;rw[if_neg oM]
  rw[h0];go_wp2;refine bodyPost_ret (v:=.agg #[.int .i64 2,.slice none 0 0,.slice none 0 0]) ?_ rfl ?_
  ·simp[results,Tryz.results56,go_sem,r0,r1,r2]
  rw[HD.out];exact⟨_,none_,rfl,xL _ _ _,qBq⟩
 rw[h0];have hXw:=loggR.below hX hB1;clear hX hx;go_wp2_with fail;refine(kV _ _ _ _).mono ?_;rintro e w2 ⟨rfl,rfl⟩;by_cases hk:0≤k∧k≤d.loose.length;rotate_left
 ·
  have HD:Hid (gD d k=fJx 3):=by unfold Hid gD;rw[if_pos h0,if_neg hk]
  have hin:inB k 0 d.loose.length=false:=by unfold inB;simp;omega
  rw[hin];go_wp2;refine bodyPost_ret (v:=.agg #[.int .i64 3,.slice none 0 0,.slice none 0 0]) ?_ rfl ?_
  ·simp[results,Tryz.results56,go_sem,r0,r1,r2]
  rw[HD.out];exact⟨_,none_,rfl,xL _ _ _,qBq⟩
 obtain⟨k0,k1⟩:=hk;have hin:inB k 0 d.loose.length=true:=by unfold inB;simp[k0,k1]
 rw[hin];obtain⟨n,rfl⟩:∃n:Nat,k=n:=⟨k.toNat,by omega⟩
 have HD:Hid (gD d n=⟨0,⟨d.synced++d.loose.take n,[]⟩⟩):=by unfold Hid gD;rw[if_pos h0,if_pos ⟨k0,k1⟩];rfl
 go_wp2_with fail;refine(fMy _ d n _ hXw hn oM).mono ?_;rintro e w3 ⟨v,F,rfl,ho,hb⟩;have hB2:Below w.heap.size w w3:=bS hB1 hb;have ofm:=loggR.ofO ho;obtain⟨a3,a4,c3,c4,rfl⟩:=mU ofm;have qx0:=cK hb x0;have qx1:=cK hb x1;have qr0:=cK hb r0;have qr1:=cK hb r1;have qr2:=cK hb r2;have qrf:=(qY ⟨rf,z1⟩ hb).1;have qz0:=Nat.lt_of_lt_of_le z0 hb.size;have qz1:=Nat.lt_of_lt_of_le z1 hb.size;clear x0 x1 r0 r1 r2 rf z0 z1;have ho2:=loggR.base (base':=w.heap.size+2) ho oM;clear ho hb hB1 hXw;go_wp2;have HO2:=fIy ho2;refine bodyPost_ret (v:=.agg #[.int .i64 0,.slice a3 (d.synced++d.loose.take n).length c3,.slice a4 0 c4]) ?_ rfl ?_
 ·simp[results,Tryz.results56,go_sem,qr0,qr1,qr2];try omega
 first|refine⟨_,F,rfl,?_,qBq⟩|refine⟨_,rfl,⟨F,?_⟩,qBq⟩
 rw[HD.out];exact loggRR.base (base:=w.heap.size+2) (by(repeat (first|assumption|refine Rep.set _ ?_ _ (by simp;omega)|refine Rep.set _ ?_ _ (by simp)|refine Rep.alloc _ ?_ _|refine Rep.keep _ ?_ (by assumption)))) oM
theorem fMd (x:Value) (d:Logg) (k:Int) (w:World) (hx:loggR.V w x d) (hn:gM d≤1048576) :
  Calls Tryz.prog 58 #[x,.int .i64 k] w fun e w'=>∃v F,e =.returned v∧loggRR.O w' w.heap.size F v (gD d k)∧Below w.heap.size w w':=by
 have hX:=hx;obtain⟨a1,a2,c1,c2,rfl⟩:=mU hx;have u1:IntKind.i64.wrap (d.loose.length:Int)=d.loose.length:=by unfold gM kK at hn;rw[IntKind.wrap_i64];omega
 go_enter Tryz.func58,Tryz.ntmps58;go_wp2_with fail;refine(zD _ d _ (loggR.below hX qBq) hn).mono ?_;rintro e w1 ⟨rfl,hb1⟩;have x0:w1.cell? ⟨w.heap.size,0,none⟩=some (.slice a1 d.synced.length c1):=cK hb1 sG;have x1:w1.cell? ⟨w.heap.size,1,none⟩=some (.slice a2 d.loose.length c2):=cK hb1 sG;have r0:w1.cell? ⟨w.heap.size+1,0,none⟩=some (.int .i64 0):=cK hb1 sG;have r1:w1.cell? ⟨w.heap.size+1,1,none⟩=some (.slice none 0 0):=cK hb1 sG;have r2:w1.cell? ⟨w.heap.size+1,2,none⟩=some (.slice none 0 0):=cK hb1 sG;have rf:∀o,w1.frozen? ⟨w.heap.size+1,o,none⟩=false:=fun o=>by rw[(bcell hb1).2 _ _ (by simp)];simp[go_sem]
 have s1:=hb1.size;simp only[World.size_alloc] at s1;have hB1:Below w.heap.size w w1:=qBq;clear hb1;have z0:w.heap.size<w1.heap.size:=oM;have z1:w.heap.size+1<w1.heap.size:=oM;rcases rX d with ⟨h0,hl⟩|h0
 rotate_left
 ·
  have HD:Hid (gD d k=fJx 2):=by unfold Hid gD;rw[if_neg oM]
  rw[h0];go_wp2;refine bodyPost_ret (v:=.agg #[.int .i64 2,.slice none 0 0,.slice none 0 0]) ?_ rfl ?_
  ·simp[results,Tryz.results58,go_sem,r0,r1,r2]
  rw[HD.out];exact⟨_,none_,rfl,xL _ _ _,qBq⟩
 rw[h0];have hXw:=loggR.below hX hB1;clear hX hx;go_wp2_with fail;refine(qL _ _ _ _).mono ?_;rintro e w2 ⟨rfl,rfl⟩;by_cases hk:0≤k∧k≤d.loose.length;rotate_left
 ·
  have HD:Hid (gD d k=fJx 3):=by unfold Hid gD;rw[if_pos h0,if_neg hk]
  have hin:inB k 0 d.loose.length=false:=by unfold inB;simp;omega
  rw[hin];go_wp2;refine bodyPost_ret (v:=.agg #[.int .i64 3,.slice none 0 0,.slice none 0 0]) ?_ rfl ?_
  ·simp[results,Tryz.results58,go_sem,r0,r1,r2]
  rw[HD.out];exact⟨_,none_,rfl,xL _ _ _,qBq⟩
 obtain⟨k0,k1⟩:=hk;have hin:inB k 0 d.loose.length=true:=by unfold inB;simp[k0,k1]
 rw[hin];obtain⟨n,rfl⟩:∃n:Nat,k=n:=⟨k.toNat,by omega⟩
 have HD:Hid (gD d n=⟨0,⟨(d.synced++d.loose).take (d.synced.length+n),[]⟩⟩):=by
  unfold Hid gD;rw[if_pos h0,if_pos ⟨k0,k1⟩,List.take_length_add_append];rfl
 go_wp2_with fail;refine(zM _ d _ hXw hn).mono ?_;rintro e w3 ⟨v,F,rfl,ho,hb⟩;have hB2:Below w.heap.size w w3:=bS hB1 hb;have V3:=bytesR.ofO ho;obtain⟨a3,c3,rfl⟩:=fZ V3;have hbl:(d.synced++d.loose).length≤6000:=by rw[List.length_append];exact hl
 have hbn:d.synced.length+n≤(d.synced++d.loose).length:=by rw[List.length_append];omega
 have u2:IntKind.i64.wrap ((d.synced.length:Int)+n)=((d.synced.length+n:Nat):Int):=by rw[IntKind.wrap_i64];omega
 have HLN:Hid ((d.synced++d.loose).length=d.synced.length+d.loose.length):=List.length_append;generalize d.synced++d.loose=bs at *;have qx0:=cK hb x0;have qx1:=cK hb x1;have qr0:=cK hb r0;have qr1:=cK hb r1;have qr2:=cK hb r2;have qrf:=(qY ⟨rf,z1⟩ hb).1;have qz0:=Nat.lt_of_lt_of_le z0 hb.size;have qz1:=Nat.lt_of_lt_of_le z1 hb.size;clear x0 x1 r0 r1 r2 rf z0 z1;clear ho hb hB1 hXw;go_wp2_with fail;refine(fAn _ bs (d.synced.length+n) _ (bytesR.below V3 qBq) hbn oM).mono ?_;rintro e w4 ⟨v,F4,rfl,ho,hb⟩;have hB3:=bT w hb;have ofm:=loggR.ofO ho;obtain⟨a4,a5,c4,c5,rfl⟩:=mU ofm;have hc:=hb;replace hb:Below w3.heap.size w3 w4:=bS qBq hc;have hz3:w.heap.size+2≤w3.heap.size:=qz1;have px0:=cK hb qx0;have px1:=cK hb qx1;have pr0:=cK hb qr0;have pr1:=cK hb qr1;have pr2:=cK hb qr2;have prf:=(qY ⟨qrf,qz1⟩ hb).1;have pz0:=Nat.lt_of_lt_of_le qz0 hb.size;have pz1:=Nat.lt_of_lt_of_le qz1 hb.size;clear qx0 qx1 qr0 qr1 qr2 qrf qz0 qz1;have ho2:=loggR.base (base':=w.heap.size+2) ho (by simp;omega);clear ho hb hB2 hc V3;go_wp2;have HO2:=fIy ho2;refine bodyPost_ret (v:=.agg #[.int .i64 0,.slice a4 (List.take (d.synced.length+n) bs).length c4,.slice a5 0 c5]) ?_ rfl ?_
 ·simp[results,Tryz.results58,go_sem,pr0,pr1,pr2];try omega
 first|refine⟨_,F4,rfl,?_,qBq⟩|refine⟨_,rfl,⟨F4,?_⟩,qBq⟩
 rw[HD.out];exact loggRR.base (base:=w.heap.size+2) (by(repeat (first|assumption|refine Rep.set _ ?_ _ (by simp;omega)|refine Rep.set _ ?_ _ (by simp)|refine Rep.alloc _ ?_ _|refine Rep.keep _ ?_ (by assumption)))) oM
theorem fQf (x:Value) (d:Logg) (w:World) (hx:loggR.V w x d) (hn:gM d≤1048576) :
  Calls Tryz.prog 69 #[x] w fun e w'=>∃v F,e =.returned v∧recsRR.O w' w.heap.size F v (zL d)∧Below w.heap.size w w':=by
 have hX:=hx;obtain⟨a1,a2,c1,c2,rfl⟩:=mU hx;go_enter Tryz.func69,Tryz.ntmps69;go_wp2_with fail;refine(zD _ d _ (loggR.below hX qBq) hn).mono ?_;rintro e w1 ⟨rfl,hb1⟩;have x0:w1.cell? ⟨w.heap.size,0,none⟩=some (.slice a1 d.synced.length c1):=cK hb1 sG;have x1:w1.cell? ⟨w.heap.size,1,none⟩=some (.slice a2 d.loose.length c2):=cK hb1 sG;have r0:w1.cell? ⟨w.heap.size+1,0,none⟩=some (.int .i64 0):=cK hb1 sG;have r1:w1.cell? ⟨w.heap.size+1,1,none⟩=some (.int .i64 0):=cK hb1 sG;have r2:w1.cell? ⟨w.heap.size+1,2,none⟩=some (.slice none 0 0):=cK hb1 sG;have rf:∀o,w1.frozen? ⟨w.heap.size+1,o,none⟩=false:=fun o=>by rw[(bcell hb1).2 _ _ (by simp)];simp[go_sem]
 have s1:=hb1.size;simp only[World.size_alloc] at s1;have hB1:Below w.heap.size w w1:=qBq;clear hb1;have z0:w.heap.size<w1.heap.size:=oM;have z1:w.heap.size+1<w1.heap.size:=oM;rcases rX d with ⟨h0,hl⟩|h0
 rotate_left
 ·
  have HD:Hid (zL d=⟨2,0,[]⟩):=by unfold Hid zL;rw[if_neg oM]
  rw[h0];go_wp2;refine bodyPost_ret (v:=.agg #[.int .i64 2,.int .i64 0,.slice none 0 0]) ?_ rfl ?_
  ·simp[results,Tryz.results69,go_sem,r0,r1,r2]
  rw[HD.out];exact⟨_,none_,rfl,fFj _ _ _ _,qBq⟩
 rw[h0];have hXw:=loggR.below hX hB1;clear hX hx;have HD:Hid (zL d=fDn (d.synced++d.loose)):=by unfold Hid zL;rw[if_pos h0]
 go_wp2_with fail;refine(zM _ d _ hXw hn).mono ?_;rintro e w2 ⟨v,F,rfl,ho,hb⟩;have hB2:Below w.heap.size w w2:=bS hB1 hb;have V3:=bytesR.ofO ho;generalize d.synced++d.loose=bs at *;obtain⟨a3,c3,rfl⟩:=fZ V3;have hfd:∀w:World,(Instr.field 152 (.agg #[.slice a3 bs.length c3,.int .i64 (d.synced.length:Int)]) 0).run Tryz.prog w =.ok (.slice a3 bs.length c3) w:=fun _=>kF
 have qx0:=cK hb x0;have qx1:=cK hb x1;have qr0:=cK hb r0;have qr1:=cK hb r1;have qr2:=cK hb r2;have qrf:=(qY ⟨rf,z1⟩ hb).1;have qz0:=Nat.lt_of_lt_of_le z0 hb.size;have qz1:=Nat.lt_of_lt_of_le z1 hb.size;clear x0 x1 r0 r1 r2 rf z0 z1;clear ho hb hB1 hXw;go_wp2_with fail;refine(fFi _ bs _ V3).mono ?_;rintro e w4 ⟨v,F4,rfl,ho,hb⟩;have hB3:Below w.heap.size w w4:=bS hB2 hb;have fv:=recsRR.ofO ho;obtain⟨a5,c5,rfl⟩:=fCu fv;have hz3:w.heap.size+2≤w2.heap.size:=qz1;have px0:=cK hb qx0;have px1:=cK hb qx1;have pr0:=cK hb qr0;have pr1:=cK hb qr1;have pr2:=cK hb qr2;have prf:=(qY ⟨qrf,qz1⟩ hb).1;have pz0:=Nat.lt_of_lt_of_le qz0 hb.size;have pz1:=Nat.lt_of_lt_of_le qz1 hb.size;clear qx0 qx1 qr0 qr1 qr2 qrf qz0 qz1;have ho2:=recsRR.base (base':=w.heap.size+2) ho hz3;rw[←HD.out] at ho2 ⊢;obtain⟨D,hD⟩:∃D,zL d=D:=⟨_,rfl⟩
 have ED:Hid (zL d=D):=hD;rw[hD] at ho2 ⊢;clear hD;clear ho hb hB2 fv HD V3;go_wp2;refine bodyPost_ret (v:=.agg #[.int .i64 D.code,.int .i64 D.used,.slice a5 D.records.length c5]) ?_ rfl ⟨_,F4,rfl,?_,qBq⟩
 ·simp[results,Tryz.results69,go_sem,pr0,pr1,pr2]
 rw[ED.out];exact recsRR.base (base:=w.heap.size+2) (recsRR.set (recsRR.set (recsRR.set ho2 _ (by simp)) _ (by simp)) _ (by simp)) oM
theorem fQg (x:Value) (d:Logg) (w:World) (hx:loggR.V w x d) (hn:gM d≤1048576) :
  Calls Tryz.prog 59 #[x] w fun e w'=>∃v F,e =.returned v∧loggRR.O w' w.heap.size F v (fA1 d)∧Below w.heap.size w w':=by
 have hX:=hx;obtain⟨a1,a2,c1,c2,rfl⟩:=mU hx;go_enter Tryz.func59,Tryz.ntmps59;go_wp2_with fail;refine(zD _ d _ (loggR.below hX qBq) hn).mono ?_;rintro e w1 ⟨rfl,hb1⟩;have x0:w1.cell? ⟨w.heap.size,0,none⟩=some (.slice a1 d.synced.length c1):=cK hb1 sG;have x1:w1.cell? ⟨w.heap.size,1,none⟩=some (.slice a2 d.loose.length c2):=cK hb1 sG;have r0:w1.cell? ⟨w.heap.size+1,0,none⟩=some (.int .i64 0):=cK hb1 sG;have r1:w1.cell? ⟨w.heap.size+1,1,none⟩=some (.slice none 0 0):=cK hb1 sG;have r2:w1.cell? ⟨w.heap.size+1,2,none⟩=some (.slice none 0 0):=cK hb1 sG;have rf:∀o,w1.frozen? ⟨w.heap.size+1,o,none⟩=false:=fun o=>by rw[(bcell hb1).2 _ _ (by simp)];simp[go_sem]
 have s1:=hb1.size;simp only[World.size_alloc] at s1;have hB1:Below w.heap.size w w1:=qBq;clear hb1;have z0:w.heap.size<w1.heap.size:=oM;have z1:w.heap.size+1<w1.heap.size:=oM;rcases rX d with ⟨h0,hl⟩|h0
 rotate_left
 ·
  have HD:Hid (fA1 d=fJx 2):=by unfold Hid fA1;rw[if_neg oM]
  rw[h0];go_wp2;refine bodyPost_ret (v:=.agg #[.int .i64 2,.slice none 0 0,.slice none 0 0]) ?_ rfl ?_
  ·simp[results,Tryz.results59,go_sem,r0,r1,r2]
  rw[HD.out];exact⟨_,none_,rfl,xL _ _ _,qBq⟩
 rw[h0];have hXw:=loggR.below hX hB1;clear hX hx;have HD:Hid (fA1 d=⟨0,⟨d.synced.take (recU d.synced),[]⟩⟩):=by unfold Hid fA1;rw[if_pos h0]
 have hu:=fI6 d.synced;have hrd:fDn d.synced=⟨0,recU d.synced,recL d.synced⟩:=by unfold fDn;rw[if_pos oM]
 obtain⟨u1,u2,e,V1,V2⟩:=hXw;simp only[Value.agg.injEq,Array.mk.injEq,List.cons.injEq,and_true] at e;obtain⟨rfl,rfl⟩:=e;have hXn:∀W:World,Below w1.heap.size w1 W→loggR.V W (.agg #[.slice a1 d.synced.length c1,.slice none 0 0]) ⟨d.synced,[]⟩:=fun W hW=>
  ⟨_,_,rfl,bytesR.below V1 hW,bytesR.ofO (fA9 W 0)⟩
 have hbs:d.synced.length≤6000:=oM;clear V1 V2;go_wp2_with fail;refine(zM _ ⟨d.synced,[]⟩ _ (hXn _ qBq) (by unfold gM kK;simp;omega)).mono ?_;rintro e w3 ⟨v,F,rfl,ho,hb⟩;simp only[List.append_nil] at ho;have hB2:Below w.heap.size w w3:=bS hB1 hb;have V3:=bytesR.ofO ho;obtain⟨a3,c3,rfl⟩:=fZ V3;have qr0:=cK hb r0;have qr1:=cK hb r1;have qr2:=cK hb r2;have qrf:=(qY ⟨rf,z1⟩ hb).1;have qz0:=Nat.lt_of_lt_of_le z0 hb.size;have qz1:=Nat.lt_of_lt_of_le z1 hb.size;clear r0 r1 r2 rf z0 z1;clear ho hb hB1 hXn x0 x1;go_wp2;refine wp_region_noPanic ?_;refine fB (fun w'=>Below w.heap.size w w'∧w'.cell? ⟨w3.heap.size,0,none⟩=some (.slice a3 d.synced.length c3)) 8 kF ⟨qBq,by simp[go_sem]⟩ (fun hS=>?_);refine tY 0 ?_;refine tY 1 ?_;refine tY 2 ?_;refine tY 3 ?_;refine uS 4 rfl (fun K hK=>?_);go_simp;refine(fFi _ d.synced _ (bytesR.below V3 qBq)).mono ?_;rintro e w4 ⟨v,F4,rfl,ho4,hb4⟩;rw[hrd] at ho4;have fv:=recsRR.ofO ho4;obtain⟨a5,c5,rfl⟩:=fCu fv;have hfd:∀w:World,(Instr.field 113 (.agg #[.int .i64 0,.int .i64 (recU d.synced:Int),.slice a5 (recL d.synced).length c5]) 1).run Tryz.prog w =.ok (.int .i64 (recU d.synced:Int)) w:=fun _=>kF
 have hS4:(fun w'=>Below w.heap.size w w'∧w'.cell? ⟨w3.heap.size,0,none⟩=some (.slice a3 d.synced.length c3)) w4:=⟨bS qBq hb4,cK hb4 sG⟩;have hb34:=bT w3 hb4;refine hK _ _ (fun _=>hS4) ?_;clear hK K ho4 fv hb4;try simp only[jX]
 refine tY 5 ?_;refine uS 6 rfl (fun K hK=>?_);go_simp;refine(fAn _ d.synced (recU d.synced) _ (bytesR.below V3 hb34) hu oM).mono ?_;rintro e w5 ⟨v,F5,rfl,ho5,hb5⟩;have ofm:=loggR.ofO ho5;obtain⟨a6,a7,c6,c7,rfl⟩:=mU ofm;have hS5:(fun w'=>Below w.heap.size w w'∧w'.cell? ⟨w3.heap.size,0,none⟩=some (.slice a3 d.synced.length c3)) w5:=⟨bS hS4.1 hb5,cK hb5 hS4.2⟩;have hb:Below w3.heap.size w3 w5:=bS hb34 hb5;have hB5:=hS5.1;have hz4:w.heap.size+2≤w4.heap.size:=Nat.le_trans qz1 hb34.size;refine hK _ _ (fun _=>hS5) ?_;clear hK K;try simp only[jX]
 have ho2:=loggR.base (base':=w.heap.size+2) ho5 hz4;clear ho5 hb5 hb34;have pr0:=cK hb qr0;have pr1:=cK hb qr1;have pr2:=cK hb qr2;have prf:=(qY ⟨qrf,qz1⟩ hb).1;have pz0:=Nat.lt_of_lt_of_le qz0 hb.size;have pz1:=Nat.lt_of_lt_of_le qz1 hb.size;clear qr0 qr1 qr2 qrf qz0 qz1;refine tY 7 ?_;refine uS 8 rfl (fun K hK=>?_);go_simp;refine hK _ _ (fun h=>absurd rfl h) ?_;clear hK K;refine dP ?_;clear hS hS4 hS5 hb hz4;go_wp2;have HO2:=fIy ho2;refine bodyPost_ret (v:=.agg #[.int .i64 0,.slice a6 (List.take (recU d.synced) d.synced).length c6,.slice a7 0 c7]) ?_ rfl ?_
 ·simp[results,Tryz.results59,go_sem,pr0,pr1,pr2];try omega
 first|refine⟨_,F5,rfl,?_,qBq⟩|refine⟨_,rfl,⟨F5,?_⟩,qBq⟩
 rw[HD.out];exact loggRR.base (base:=w.heap.size+2) (by(repeat (first|assumption|refine Rep.set _ ?_ _ (by simp;omega)|refine Rep.set _ ?_ _ (by simp)|refine Rep.alloc _ ?_ _|refine Rep.keep _ ?_ (by assumption)))) oM
end
section
def insF {β:Type} (f:Nat→β) (i:Nat) (x:β):Nat→β:=fun k=>if k<i then f k else if k=i then x else f (k-1)
theorem qB {β:Type} (f:Nat→β) {i k:Nat} (x:β) (h:k<i):insF f i x k=f k:=by simp[insF,h]
theorem pY {β:Type} (f:Nat→β) (i:Nat) (x:β):insF f i x i=x:=by simp[insF]
theorem qA {β:Type} (f:Nat→β) {i k:Nat} (x:β) (h:i<k):insF f i x k=f (k-1):=by
 unfold insF;rw[if_neg oM,if_neg oM]
theorem fIl {α:Type} [Inhabited α] (xs:List α) (x:α) (i k:Nat) (hi:i≤xs.length):(xs.take i++[x]++xs.drop i).getD k default=insF (fun k=>xs.getD k default) i x k:=by
 have hl:(xs.take i).length=i:=by rw[List.length_take];omega
 simp only[List.getD_eq_getElem?_getD];rw[List.append_assoc];rcases Nat.lt_trichotomy k i with h|h|h
 ·rw[qB _ _ h,List.getElem?_append_left oM,List.getElem?_take,if_pos h]
 ·subst h;rw[pY,List.getElem?_append_right oM,hl];simp
 rw[qA _ _ h,List.getElem?_append_right oM,hl,List.getElem?_append_right (by simp;omega),List.getElem?_drop];congr 2;simp;omega
theorem PO.ins {α:Type} {R:Rep α} {e size:Nat} {lv:Value→List Value} {W W':World} {base:Nat} {v v':Value} {n i:Nat} {d:Nat→α} {cs:List Value} {us:Nat→Value} {fs:Nat→Nat→Prop} {u:Value} {x:α} {Fu:Nat→Prop}
  (h:PO R e size lv W base v n n d cs us fs) (hi:i≤n) (hu:R.O W base Fu u x) (hl:(lv u).length=size) (hd:∀j,j<n→∀b,fs j b→¬Fu b) (hvu:∀b,Fu b→v.ownBlock≠some b)
  (hr:W'.ownsRow base e size v' (n+1) (cs.take (i*size)++lv u++cs.drop (i*size))) (hm:Mod (fun b=>v.ownBlock=some b) W W') (hv:∀b,v'.ownBlock=some b→v.ownBlock=some b∨W.heap.size≤b) :
  PO R e size lv W' base v' (n+1) (n+1) (insF d i x) (cs.take (i*size)++lv u++cs.drop (i*size)) (insF us i u) (insF fs i Fu):=by
 have hcl:cs.length=n*size:=h.row.1;have him:i*size≤n*size:=Nat.mul_le_mul_right _ hi;have hold:∀b,b<W.heap.size→v.ownBlock≠some b→v'.ownBlock≠some b:=fun b hb hn e=>by
  rcases hv b e with h1|h1
  ·exact hn h1
  omega
 have hel:∀j,j<n→R.O W' base (fs j) (us j) (d j):=fun j hj=>R.mod (h.el j hj) hm (fun b hb=>h.out j hj b hb)
 refine⟨hr,fun j hj=>?_,fun j hj=>?_,fun j hj o ho=>?_,fun j hj b hb=>?_,fun j k hj hk hjk b h1 h2=>?_⟩
 ·
  rcases Nat.lt_trichotomy j i with h1|h1|h1
  ·rw[qB _ _ h1,qB _ _ h1,qB _ _ h1];exact hel j oM
  ·subst h1;rw[pY,pY,pY];exact R.mod hu hm (fun b hb=>hvu b hb)
  rw[qA _ _ h1,qA _ _ h1,qA _ _ h1];exact hel (j-1) oM
 ·
  rcases Nat.lt_trichotomy j i with h1|h1|h1
  ·rw[qB _ _ h1];exact h.ln j oM
  ·subst h1;rw[pY];exact hl
  rw[qA _ _ h1];exact h.ln (j-1) oM
 ·
  have ht:(cs.take (i*size)).length=i*size:=by rw[List.length_take];omega
  rw[List.append_assoc];rcases Nat.lt_trichotomy j i with h1|h1|h1
  ·
   have hlt:j*size+o<i*size:=by
    have:(j+1)*size≤i*size:=Nat.mul_le_mul_right _ h1;rw[Nat.succ_mul] at this;omega
   rw[qB _ _ h1,List.getElem?_append_left oM,List.getElem?_take,if_pos hlt];exact h.cell j oM o ho
  ·subst h1;rw[pY,List.getElem?_append_right oM,ht,show j*size+o-j*size=o by omega,List.getElem?_append_left oM]
  obtain⟨q,rfl⟩:∃q,j=q+1:=⟨j-1,by omega⟩
  have hge:i*size≤q*size:=Nat.mul_le_mul_right _ oM;have e1:(q+1)*size=q*size+size:=Nat.succ_mul _ _;rw[qA _ _ h1,Nat.add_sub_cancel,List.getElem?_append_right oM,ht,List.getElem?_append_right oM,hl,List.getElem?_drop,e1,show i*size+(q*size+size+o-i*size-size)=q*size+o by omega];exact h.cell q oM o ho
 ·
  rcases Nat.lt_trichotomy j i with h1|h1|h1
  ·rw[qB _ _ h1] at hb;exact hold b (R.rng (h.el j oM) b hb).2 (h.out j oM b hb)
  ·subst h1;rw[pY] at hb;exact hold b (R.rng hu b hb).2 (hvu b hb)
  rw[qA _ _ h1] at hb;exact hold b (R.rng (h.el (j-1) oM) b hb).2 (h.out (j-1) oM b hb)
 have key:∀j,j<n+1→insF fs i Fu j b→(j=i∧Fu b)∨∃q,q<n∧fs q b∧((j<i∧q=j)∨(i<j∧q+1=j)):=fun j hj hb=>by
  rcases Nat.lt_trichotomy j i with h1|h1|h1
  ·rw[qB _ _ h1] at hb;exact .inr ⟨j,by omega,hb,.inl ⟨h1,rfl⟩⟩
  ·subst h1;rw[pY] at hb;exact .inl ⟨rfl,hb⟩
  rw[qA _ _ h1] at hb;exact .inr ⟨j-1,by omega,hb,.inr ⟨h1,by omega⟩⟩
 rcases key j hj h1 with ⟨e1,f1⟩|⟨q,hq,f1,g1⟩
 ·
  rcases key k hk h2 with ⟨e2,f2⟩|⟨q2,hq2,f2,g2⟩
  ·omega
  exact hd q2 hq2 b f2 f1
 rcases key k hk h2 with ⟨e2,f2⟩|⟨q2,hq2,f2,g2⟩
 ·exact hd q hq b f1 f2
 exact h.sep q q2 hq hq2 oM b f1 f2
theorem NO.ins {α:Type} [Inhabited α] {R:Rep α} {e size:Nat} {lv:Value→List Value} {W W':World} {base:Nat} {v v':Value} {i:Nat} {xs:List α} {cs:List Value} {us:Nat→Value} {fs:Nat→Nat→Prop} {u:Value} {x:α} {F Fu:Nat→Prop}
  (h:PO R e size lv W base v xs.length xs.length (fun i=>xs.getD i default) cs us fs) (hF:∀b,F b↔(v.ownBlock=some b∨∃i,i<xs.length∧fs i b)) (hi:i≤xs.length) (hu:R.O W base Fu u x) (hl:(lv u).length=size) (hd:∀b,F b→¬Fu b)
  (hr:W'.ownsRow base e size v' (xs.length+1) (cs.take (i*size)++lv u++cs.drop (i*size))) (hm:Mod (fun b=>v.ownBlock=some b) W W') (hv:∀b,v'.ownBlock=some b→v.ownBlock=some b∨W.heap.size≤b) :
  ∃F',NO R e size lv W' base F' v' (xs.take i++[x]++xs.drop i)∧∀b,F' b→F b∨Fu b∨W.heap.size≤b:=by
 have hp:=h.ins hi hu hl (fun j hj b hb=>hd b ((hF b).2 (.inr ⟨j,hj,hb⟩))) (fun b hb e=>hd b ((hF b).2 (.inl e)) hb) hr hm hv;have hlen:(xs.take i++[x]++xs.drop i).length=xs.length+1:=by simp only[List.length_append,List.length_take,List.length_drop,List.length_cons,List.length_nil];omega
 refine⟨fun b=>v'.ownBlock=some b∨∃k,k<xs.length+1∧insF fs i Fu k b,⟨cs.take (i*size)++lv u++cs.drop (i*size),insF us i u,insF fs i Fu,?_,fun b=>by rw[hlen]⟩,fun b hb=>?_⟩
 ·rw[hlen];exact hp.cast (fun k hk=>fIl xs x i k hi)
 rcases hb with hb|⟨k,hk,hb⟩
 ·
  rcases hv b hb with h1|h1
  ·exact .inl ((hF b).2 (.inl h1))
  exact .inr (.inr h1)
 rcases Nat.lt_trichotomy k i with h1|h1|h1
 ·rw[qB _ _ h1] at hb;exact .inl ((hF b).2 (.inr ⟨k,by omega,hb⟩))
 ·subst h1;rw[pY] at hb;exact .inr (.inl hb)
 rw[qA _ _ h1] at hb;exact .inl ((hF b).2 (.inr ⟨k-1,by omega,hb⟩))
theorem PO.putN {α:Type} {R:Rep α} {e size:Nat} {lv:Value→List Value} {W W':World} {base:Nat} {v:Value} {n i:Nat} {d:Nat→α} {cs cs':List Value} {us:Nat→Value} {fs:Nat→Nat→Prop} {u:Value} {x:α} {Fu:Nat→Prop}
  (h:PO R e size lv W base v n n d cs us fs) (hi:i<n) (hu:R.O W base Fu u x) (hl:(lv u).length=size) (hd:∀j,j<n→∀b,fs j b→¬Fu b) (hvu:∀b,Fu b→v.ownBlock≠some b)
  (hr:W'.ownsRow base e size v n cs') (hm:Mod (fun b=>v.ownBlock=some b) W W') (hold:∀j,j<n→j≠i→∀o,o<size→cs'[j*size+o]? = cs[j*size+o]?) (hnew:∀o,o<size→cs'[i*size+o]? = (lv u)[o]?) :
  PO R e size lv W' base v n n (upd d i x) cs' (upd us i u) (upd fs i Fu):=by
 refine⟨hr,fun j hj=>?_,fun j hj=>?_,fun j hj o ho=>?_,fun j hj b hb=>?_,fun j k hj hk hjk b h1 h2=>?_⟩
 ·
  by_cases e1:j=i
  ·subst e1;rw[kJ,kJ,kJ];exact R.mod hu hm (fun b hb=>hvu b hb)
  rw[upd_ne _ _ e1,upd_ne _ _ e1,upd_ne _ _ e1];exact R.mod (h.el j hj) hm (fun b hb=>h.out j hj b hb)
 ·
  by_cases e1:j=i
  ·subst e1;rw[kJ];exact hl
  rw[upd_ne _ _ e1];exact h.ln j hj
 ·
  by_cases e1:j=i
  ·subst e1;rw[kJ];exact hnew o ho
  rw[upd_ne _ _ e1,hold j hj e1 o ho];exact h.cell j hj o ho
 ·
  by_cases e1:j=i
  ·subst e1;rw[kJ] at hb;exact hvu b hb
  rw[upd_ne _ _ e1] at hb;exact h.out j hj b hb
 by_cases e1:j=i
 ·subst e1;rw[kJ] at h1;rw[upd_ne _ _ (Ne.symm hjk)] at h2;exact hd k hk b h2 h1
 rw[upd_ne _ _ e1] at h1;by_cases e2:k=i
 ·subst e2;rw[kJ] at h2;exact hd j hj b h1 h2
 rw[upd_ne _ _ e2] at h2;exact h.sep j k hj hk hjk b h1 h2
theorem fVb {α:Type} [Inhabited α] (xs:List α) (x:α) (i k:Nat) (hi:i<xs.length):(xs.set i x).getD k default=upd (fun k=>xs.getD k default) i x k:=by
 simp only[List.getD_eq_getElem?_getD,List.getElem?_set];by_cases e:i=k
 ·subst e;rw[if_pos rfl,if_pos hi,kJ];rfl
 rw[if_neg e,upd_ne _ _ (Ne.symm e)]
theorem NO.put {α:Type} [Inhabited α] {R:Rep α} {e size:Nat} {lv:Value→List Value} {W W':World} {base:Nat} {v:Value} {i:Nat} {xs:List α} {cs cs':List Value} {us:Nat→Value} {fs:Nat→Nat→Prop} {u:Value} {x:α} {F Fu:Nat→Prop}
  (h:PO R e size lv W base v xs.length xs.length (fun i=>xs.getD i default) cs us fs) (hF:∀b,F b↔(v.ownBlock=some b∨∃i,i<xs.length∧fs i b)) (hi:i<xs.length) (hu:R.O W base Fu u x) (hl:(lv u).length=size) (hd:∀b,F b→¬Fu b)
  (hr:W'.ownsRow base e size v xs.length cs') (hm:Mod (fun b=>v.ownBlock=some b) W W') (hold:∀j,j<xs.length→j≠i→∀o,o<size→cs'[j*size+o]? = cs[j*size+o]?) (hnew:∀o,o<size→cs'[i*size+o]? = (lv u)[o]?) :
  ∃F',NO R e size lv W' base F' v (xs.set i x)∧∀b,F' b→F b∨Fu b:=by
 have hp:=h.putN hi hu hl (fun j hj b hb=>hd b ((hF b).2 (.inr ⟨j,hj,hb⟩))) (fun b hb e=>hd b ((hF b).2 (.inl e)) hb) hr hm hold hnew;have hlen:(xs.set i x).length=xs.length:=by simp
 refine⟨fun b=>v.ownBlock=some b∨∃k,k<xs.length∧upd fs i Fu k b,⟨cs',upd us i u,upd fs i Fu,?_,fun b=>by rw[hlen]⟩,fun b hb=>?_⟩
 ·rw[hlen];exact hp.cast (fun k hk=>fVb xs x i k hi)
 rcases hb with hb|⟨k,hk,hb⟩
 ·exact .inl ((hF b).2 (.inl hb))
 by_cases e1:k=i
 ·subst e1;rw[kJ] at hb;exact .inr hb
 rw[upd_ne _ _ e1] at hb;exact .inl ((hF b).2 (.inr ⟨k,hk,hb⟩))
theorem fI8 (w:World) {α:Type} [Inhabited α] {R:Rep α} {lv:Value→List Value} (t ty e:TypeId) (i:TypeInfo) (z:Value) (size bytes:Nat) (ht:Tryz.prog.underlying t=some (.slice e)) (hi:Tryz.prog.info? e=some i) (hz:i.zero=some z)
  (hsize:i.size=size) (hby:i.bytes=bytes) (hzs:z.cells.size=size) (hsz:0<size) (hb1:bytes≤1000)
  (base:Nat) {F Fu:Nat→Prop} (v u:Value) (xs:List α) (x:α) (hown:NO R e size lv w base F v xs) (hu:R.O w base Fu u x) (hl:(lv u).length=size) (h1:∀y ∈ lv u,y.oneCell'=true) (hd:∀b,F b→¬Fu b)
  (ad:Addr) (c:Nat) (hc:∀j y,(lv u)[j]? = some y→w.cell? (ad.add j)=some y) (hn:xs.length≤2000000) (hbase:base≤w.heap.size) :
  ∃v' w' F',(Builtin.append_ #[t,t] ty #[v,.slice (some ad) 1 c]).run Tryz.prog w =.ok v' w'∧NO R e size lv w' base F' v' (xs++[x])∧w.grownBy w' v.ownBlock∧(∀b,F' b→F b∨Fu b∨w.heap.size≤b):=by
 obtain⟨cs,us,fs,hp,hF⟩:=hown;obtain⟨v',w',hr,h2,h3,h4,h5⟩:=run_append_own_at (P:=Tryz.prog) w base t ty e i z size bytes ht hi hz hsize hby hzs hsz v xs.length cs hp.row ad 1 c (lv u) oM hc h1 (by unfold maxLen;omega) (Nat.le_trans (Nat.mul_le_mul_left _ hb1) oM) hbase;have hcl:cs.length=xs.length*size:=hp.row.1;have e1:cs.take (xs.length*size)++lv u++cs.drop (xs.length*size)=cs++lv u:=by
  rw[List.take_of_length_le oM,List.drop_of_length_le oM,List.append_nil]
 obtain⟨F',h6,h7⟩:=NO.ins hp hF (Nat.le_refl _) hu hl hd (by rw[e1];exact h2) (Mod.of_grown h3) (fun b hb=>by
  rcases h5 with h5|h5
  ·exact .inl (h5▸hb)
  rw[h5] at hb;simp only[Option.some.injEq] at hb;exact .inr oM)
 rw[List.take_of_length_le (Nat.le_refl _),List.drop_of_length_le (Nat.le_refl _),List.append_nil] at h6;exact⟨v',w',F',hr,h6,h3,h7⟩
theorem fPh {w:World} {ops:Array Oper} {rest:List Oper} {o:Oper} {a:Act} {Q:Exit→Act→World→Prop} (hgd:o.guard=none) (s x:Operand) (t t':TypeId)
  (ho:o.op =.call {callee:=.builtin .append,args:=#[s,x],argTypes:=#[t,t']}) (v u:Value) (hs:a.eval s=v) (hx:a.eval x=u) {v':Value} {w':World}
  (hr:(Builtin.append_ #[t,t'] o.type #[v,u]).run Tryz.prog w =.ok v' w') (h:wpList Tryz.prog ops Q rest (a.put o.dst v') w'):wpList Tryz.prog ops Q (o::rest) a w:=by
 refine wpList_plain hgd fun K hK=>?_
 unfold Oper.wp execOp;simp only[ho,resolve,invoke,builtin,Sem.run_bind,Sem.run_pure,Result.andThen_ok,List.map_toArray,List.map_cons,List.map_nil,hs,hx,hr];exact hK _ _ h
theorem fT5 {ops:Array Oper} {o:Oper} {a:Act} {w:World} {K:Act→World→Prop} {Q:Exit→Act→World→Prop} {E:Prop} (hgd:o.guard=none) (s x:Operand) (t t':TypeId)
  (ho:o.op =.call {callee:=.builtin .append,args:=#[s,x],argTypes:=#[t,t']}) (v u:Value) (hs:a.eval s=v) (hx:a.eval x=u) {v':Value} {w':World}
  (hr:(Builtin.append_ #[t,t'] o.type #[v,u]).run Tryz.prog w =.ok v' w') (hK:K (a.put o.dst v') w') :
  if Region.wanted o (yielded ops a.tmps)=true then Oper.wp Tryz.prog o a w K Q else E:=by
 have hw:Region.wanted o (yielded ops a.tmps)=true:=by simp[Region.wanted,hgd]
 rw[if_pos hw];unfold Oper.wp execOp;simp only[ho,resolve,invoke,builtin,Sem.run_bind,Sem.run_pure,Result.andThen_ok,List.map_toArray,List.map_cons,List.map_nil,hs,hx,hr];exact hK
theorem fPg (w:World) {α:Type} [Inhabited α] {R:Rep α} {lv:Value→List Value} {ops:Array Oper} {rest:List Oper} {o:Oper} {a:Act} {Q:Exit→Act→World→Prop} (hgd:o.guard=none) (s x:Operand) (t:TypeId)
  (ho:o.op =.call {callee:=.builtin .append,args:=#[s,x],argTypes:=#[t,t]}) (e:TypeId) (i:TypeInfo) (z:Value) (size bytes:Nat) (ht:Tryz.prog.underlying t=some (.slice e)) (hi:Tryz.prog.info? e=some i) (hz:i.zero=some z)
  (hsize:i.size=size) (hby:i.bytes=bytes) (hzs:z.cells.size=size) (hsz:0<size) (hb1:bytes≤1000)
  (base:Nat) (F Fu:Nat→Prop) (v u:Value) (xs:List α) (y:α) (ad:Addr) (c:Nat) (hs:a.eval s=v) (hx:a.eval x =.slice (some ad) 1 c) (hown:NO R e size lv w base F v xs) (hu:R.O w base Fu u y) (hl:(lv u).length=size) (h1:∀y ∈ lv u,y.oneCell'=true) (hd:∀b,F b→¬Fu b)
  (hc:∀j y,(lv u)[j]? = some y→w.cell? (ad.add j)=some y) (hn:xs.length≤2000000) (hbase:base≤w.heap.size)
  (h:∀v' w' F',NO R e size lv w' base F' v' (xs++[y])→Below base w w'→(∀b,F' b→F b∨Fu b∨w.heap.size≤b)→wpList Tryz.prog ops Q rest (a.put o.dst v') w'):wpList Tryz.prog ops Q (o::rest) a w:=by
 obtain⟨v',w',F',hr,h2,h3,h4⟩:=fI8 w t o.type e i z size bytes ht hi hz hsize hby hzs hsz hb1 base v u xs y hown hu hl h1 hd ad c hc hn hbase;obtain⟨cs,us,fs,hp,hF⟩:=hown;exact fPh hgd s x t t ho v _ hs hx hr (h v' w' F' h2 ((Below.refl base w).grown h3 hbase (fun b e=>(hp.row.lt b e).1)) h4)
theorem fT4 (w:World) {α:Type} [Inhabited α] {R:Rep α} {lv:Value→List Value} {ops:Array Oper} {o:Oper} {a:Act} {K:Act→World→Prop} {Q:Exit→Act→World→Prop} {E:Prop} (hgd:o.guard=none) (s x:Operand) (t:TypeId)
  (ho:o.op =.call {callee:=.builtin .append,args:=#[s,x],argTypes:=#[t,t]}) (e:TypeId) (i:TypeInfo) (z:Value) (size bytes:Nat) (ht:Tryz.prog.underlying t=some (.slice e)) (hi:Tryz.prog.info? e=some i) (hz:i.zero=some z)
  (hsize:i.size=size) (hby:i.bytes=bytes) (hzs:z.cells.size=size) (hsz:0<size) (hb1:bytes≤1000)
  (base:Nat) (F Fu:Nat→Prop) (v u:Value) (xs:List α) (y:α) (ad:Addr) (c:Nat) (hs:a.eval s=v) (hx:a.eval x =.slice (some ad) 1 c) (hown:NO R e size lv w base F v xs) (hu:R.O w base Fu u y) (hl:(lv u).length=size) (h1:∀y ∈ lv u,y.oneCell'=true) (hd:∀b,F b→¬Fu b)
  (hc:∀j y,(lv u)[j]? = some y→w.cell? (ad.add j)=some y) (hn:xs.length≤2000000) (hbase:base≤w.heap.size)
  (h:∀v' w' F',NO R e size lv w' base F' v' (xs++[y])→Below base w w'→(∀b,F' b→F b∨Fu b∨w.heap.size≤b)→K (a.put o.dst v') w') :
  if Region.wanted o (yielded ops a.tmps)=true then Oper.wp Tryz.prog o a w K Q else E:=by
 obtain⟨v',w',F',hr,h2,h3,h4⟩:=fI8 w t o.type e i z size bytes ht hi hz hsize hby hzs hsz hb1 base v u xs y hown hu hl h1 hd ad c hc hn hbase;obtain⟨cs,us,fs,hp,hF⟩:=hown;exact fT5 hgd s x t t ho v _ hs hx hr (h v' w' F' h2 ((Below.refl base w).grown h3 hbase (fun b e=>(hp.row.lt b e).1)) h4)
end
section
variable [dQ Leg] [iH Leg] [dQ Cont] [iH Cont] [dQ Evt] [iH Evt] [dQ EvtsR] [iH EvtsR] [dQ EvtR] [iH EvtR] [dQ BytesR] [iH BytesR] [dQ ContR] [iH ContR] [dQ Logg] [iH Logg] [dQ LoggR] [iH LoggR] [dQ RecsR] [iH RecsR]
def evL (rs:List (List Byte)):List Evt:=rs.map (fun r=>(unpE r).evt)
def allE (rs:List (List Byte)):Bool:=rs.all (fun r=>decide ((unpE r).code=0))
def evsR (xs:List Byte):EvtsR:=
 if allE (recL xs)=true∧recU xs=xs.length then (if (recL xs).length≤60 then ⟨0,evL (recL xs)⟩ else ⟨2,[]⟩) else ⟨5,[]⟩
def evsD (d:Logg):EvtsR:=if logF d=0 then evsR (d.synced++d.loose) else ⟨2,[]⟩
theorem fRv {rs:List (List Byte)} (h:∀j,j<rs.length→(unpE (rs.getD j default)).code=0):allE rs=true:=by
 unfold allE;rw[List.all_eq_true];intro r hr;obtain⟨i,hi,rfl⟩:=List.getElem_of_mem hr;have:=h i hi;simp only[List.getD,List.getElem?_eq_getElem hi,Option.getD_some] at this;exact decide_eq_true this
theorem fRu {rs:List (List Byte)} {k:Nat} (hk:k<rs.length) (h:¬(unpE (rs.getD k default)).code=0):allE rs=false:=by
 cases ha:allE rs
 ·rfl
 exfalso
 unfold allE at ha;rw[List.all_eq_true] at ha;have:=ha (rs.getD k default) (by simp[List.getD,hk]);exact h (of_decide_eq_true this)
theorem fOb {rs:List (List Byte)} {k:Nat} (hk:k<rs.length):evL (rs.take (k+1))=evL (rs.take k)++[(unpE (rs.getD k default)).evt]:=by
 unfold evL;rw[List.take_add_one,List.map_append];congr 1;simp[List.getD,hk]
theorem fSh (rs:List (List Byte)):(evL rs).length=rs.length:=by unfold evL;rw[List.length_map]
theorem fOd {xs:List Byte} (h:allE (recL xs)=false∨¬recU xs=xs.length):evsR xs=⟨5,[]⟩:=by
 unfold evsR;rw[if_neg];rintro⟨h1,h2⟩;rcases h with h|h
 ·rw[h1] at h;cases h
 exact h h2
theorem fJ7 {xs:List Byte} (h:allE (recL xs)=true) (h1:recU xs=xs.length) (h2:¬(recL xs).length≤60):evsR xs=⟨2,[]⟩:=by unfold evsR;rw[if_pos ⟨h,h1⟩,if_neg h2]
theorem fSk {xs:List Byte} (h:allE (recL xs)=true) (h1:recU xs=xs.length) (h2:(recL xs).length≤60):evsR xs=⟨0,evL (recL xs)⟩:=by unfold evsR;rw[if_pos ⟨h,h1⟩,if_pos h2]
theorem fHs (xs:List Byte):(recL xs).length≤xs.length:=by
 have H:∀n (xs:List Byte),xs.length≤n→(recL xs).length≤xs.length:=by
  intro n;induction n with
  | zero=>intro xs h;rw[fI4 (yB oM)];simp
  | succ n ih=>
   intro xs h;by_cases hz:fT xs=0
   ·rw[fI4 hz];simp
   have hp:=qR hz;have:=ih (xs.drop (fT xs)) (by rw[List.length_drop];omega);rw[fK5 hz];rw[List.length_drop] at this;simp only[List.length_cons];omega
 exact H _ xs (Nat.le_refl _)
theorem fLq (w:World) {ops:Array Oper} {rest:List Oper} {o:Oper} {a:Act} {Q:Exit→Act→World→Prop} (hgd:o.guard=none) (s x:Operand)
  (ho:o.op =.call {callee:=.builtin .append,args:=#[s,x],argTypes:=#[78,78]})
  (base:Nat) (F Fu:Nat→Prop) (v:Value) (xs:List Evt) (y:Evt) (g:Nat) (p:Option Addr) (q:Nat) (hs:a.eval s=v) (hx:a.eval x =.slice (some ⟨g,0,none⟩) 1 1) (hown:evtsR.O w base F v xs) (hu:evtR.O w base Fu (.agg #[.bool y.vote,.int .i64 y.con.id,.slice p y.con.legs.length q,.int .i64 y.out]) y) (hd:∀b,F b→¬Fu b)
  (hc:w.cell? ⟨g,0,none⟩=some (.bool y.vote)∧w.cell? ⟨g,1,none⟩=some (.int .i64 y.con.id)∧w.cell? ⟨g,2,none⟩=some (.slice p y.con.legs.length q)∧w.cell? ⟨g,3,none⟩=some (.int .i64 y.out)) (hn:xs.length≤2000000) (hbase:base≤w.heap.size)
  (h:∀v' w' F',evtsR.O w' base F' v' (xs++[y])→Below base w w'→(∀b,F' b→F b∨Fu b∨w.heap.size≤b)→wpList Tryz.prog ops Q rest (a.put o.dst v') w'):wpList Tryz.prog ops Q (o::rest) a w:=by
 obtain⟨i0,hi,hz0,hz1,hz2⟩:=info_parts fVe;exact fPg w hgd s x 78 ho 59 i0 _ 4 48 Tryz.underlying78 hi hz0 hz1 hz2 rfl (by decide) (by decide) base F Fu v _ xs y ⟨g,0,none⟩ 1 hs hx hown (evtf_O.2 hu) rfl (fun z hz=>by
  simp[fM2,one] at hz;rcases hz with rfl|rfl|rfl|rfl <;> rfl) hd (fun j y' hj=>by
  match j,hj with
  | 0,hj=>simp[fM2,one] at hj;subst hj;simpa [Addr.add] using hc.1
  | 1,hj=>simp[fM2,one] at hj;subst hj;simpa [Addr.add] using hc.2.1
  | 2,hj=>simp[fM2,one] at hj;subst hj;simpa [Addr.add] using hc.2.2.1
  | 3,hj=>simp[fM2,one] at hj;subst hj;simpa [Addr.add] using hc.2.2.2
  | j+4,hj=>simp[fM2,one] at hj) hn hbase h
theorem vK (w:World) (base:Nat):evtsR.O w base (fun _=>False) (.slice none 0 0) []:=
 ⟨[],fun _=>default,fun _ _=>False,⟨World.ownsRow_nil _ _ _ _,fun i hi=>absurd hi (Nat.not_lt_zero _),fun i hi=>absurd hi (Nat.not_lt_zero _),fun i hi=>absurd hi (Nat.not_lt_zero _),fun i hi=>absurd hi (Nat.not_lt_zero _),fun i j hi=>absurd hi (Nat.not_lt_zero _)⟩,fun b=>⟨fun h=>h.elim,fun h=>h.elim (fun h=>by simp[Value.ownBlock] at h) (fun ⟨i,hi,_⟩=>absurd hi (Nat.not_lt_zero _))⟩⟩
theorem fVa (Y:World) (base:Nat) (hb:base≤Y.heap.size):evtsR.O (Y.alloc (.cells #[] 59)) base (fun b=>b=Y.heap.size) (.slice (some ⟨Y.heap.size,0,none⟩) 0 0) []:=
 ⟨[],fun _=>default,fun _ _=>False,⟨World.ownsRow_lit (base:=base) (e:=59) (size:=4) Y #[] 0 hb (by decide) rfl,fun i hi=>absurd hi (Nat.not_lt_zero _),fun i hi=>absurd hi (Nat.not_lt_zero _),fun i hi=>absurd hi (Nat.not_lt_zero _),fun i hi=>absurd hi (Nat.not_lt_zero _),fun i j hi=>absurd hi (Nat.not_lt_zero _)⟩,fun b=>⟨fun h=>.inl (by simp[Value.ownBlock,h]),fun h=>h.elim (fun h=>by simpa [Value.ownBlock,eq_comm] using h) (fun ⟨i,hi,_⟩=>absurd hi (Nat.not_lt_zero _))⟩⟩
theorem fTm {w:World} {v:Value} {rs:List (List Byte)} (h:bytessR.V w v rs):∃a c,v =.slice a rs.length c∧rs.length≤c∧c≤maxLen∧∀k,k<rs.length→∃b o u,a=some ⟨b,o,none⟩∧w.cell? ⟨b,o+k,none⟩=some u∧bytesR.V w u (rs.getD k default):=by
 obtain⟨a,c,rfl,h1,h2,h3⟩:=h;refine⟨a,c,rfl,h1,h2,fun k hk=>?_⟩;obtain⟨b,o,u,e,_,p,hv⟩:=h3 k hk;exact⟨b,o,u,e,fR5 p,hv⟩
end
end Go.Proofs.YtpibfdebfacooaaGreat

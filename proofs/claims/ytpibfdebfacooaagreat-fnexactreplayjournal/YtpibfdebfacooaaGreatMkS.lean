import Derived.Test.YtpibfdebfacooaaGreatPrnReplayJournalLaw19
set_option maxHeartbeats 8000000
set_option maxRecDepth 20000
set_option linter.unusedSimpArgs false
set_option linter.unusedVariables false
set_option linter.unusedSectionVars false
namespace Go.Proofs.YtpibfdebfacooaaGreat
open Go.RowKit
variable [dQ Mrk] [iH Mrk] [dQ Leg] [iH Leg] [dQ Cont] [iH Cont] [dQ Bal] [iH Bal] [dQ Ledg] [iH Ledg]
attribute [local go_sem ↓] Go.wp_at_zero Go.wp_at_succ
theorem zN (g o j:Nat):(Addr.mk g o none).add j=⟨g,o+j,none⟩:=by
 by_cases h:j=0
 ·subst h;simp[Addr.add]
 simp[Addr.add,h]
theorem fU2 {w:World} {base:Nat} {F:Nat→Prop} {x:Value} {xs:List Mrk} (h:mrksR.O w base F x xs):(x =.slice none 0 0∧xs=[])∨∃g cap,x =.slice (some ⟨g,0,none⟩) xs.length cap∧xs.length≤cap∧cap≤maxLen∧∀k,k<xs.length→qJ w g (0+k*2) (xs.getD k default):=by
 have hv:=mrksR.ofO h;rcases h.1.2 with ⟨rfl,h0⟩|⟨g,cap,cur,rfl,hbg,hg,hnc,hcm,_⟩
 ·exact .inl ⟨rfl,List.eq_nil_of_length_eq_zero h0⟩
 refine .inr ⟨g,cap,rfl,hnc,hcm,fun k hk=>?_⟩;obtain⟨a,c,e,_,_,hx⟩:=hv;obtain⟨b,o,ea,hc⟩:=hx k hk;simp only[Value.slice.injEq,true_and] at e;obtain⟨e1,_⟩:=e;rw[←e1] at ea;simp only[Option.some.injEq,Addr.mk.injEq,and_true] at ea;obtain⟨rfl,rfl⟩:=ea;exact hc
theorem xP {w:World} {base g cap:Nat} {xs:List Mrk} (h:w.ownsRow base 166 2 (.slice (some ⟨g,0,none⟩) xs.length cap) xs.length (gG xs)) (i m c:Nat) (hi:i+m≤xs.length) :
  gI w (.slice (some ⟨g,i*2,none⟩) m c) m (gG ((xs.drop i).take m)):=by
 refine .inr ⟨_,_,rfl,fun j x hj=>?_⟩;rw[fG2,fG0] at hj;have hcl:(gG xs).length=xs.length*2:=h.1;rw[List.getElem?_take] at hj;split at hj
 ·rw[List.getElem?_drop] at hj;have:=h.cellAt (i*2+j) oM;rw[hj] at this;rw[zN];exact this
 cases hj
theorem uJ (W:World) (p:Option Addr) (c:Nat):gI W (.slice p 0 c) 0 []:=by
 cases p with
 | none=>exact .inl ⟨c,rfl,rfl,rfl⟩
 | some a=>exact .inr ⟨a,c,rfl,fun j x hj=>by simp at hj⟩
theorem fIh (Y:World) (base:Nat) (m:Mrk) (hb:base≤Y.heap.size):mrksR.O (Y.alloc (.cells #[.int .i64 m.con,.int .i64 m.val] 166)) base (fun b=>b=Y.heap.size) (.slice (some ⟨Y.heap.size,0,none⟩) 1 1) [m]:=
 ⟨World.ownsRow_lit (base:=base) (e:=166) (size:=2) Y #[.int .i64 m.con,.int .i64 m.val] 1 hb (by decide) rfl,by funext b;simp[Value.ownBlock,eq_comm]⟩
def pG:Nat→List Nat
 | 4=>[0]
 | 9=>[4]
 | 13=>[9]
 | _=>[]
def mZ (base:Nat) (xs:List Mrk) (m:Mrk) (k:Nat):Nat→(Nat→Value)→(Nat→Prop)→World→Prop
 | 0,y,F,w=>mrksR.O w base F (y 23) []
 | 4,y,F,w=>mrksR.O w base F (y 27) (xs.take k)
 | 8,y,F,w=>mrksR.O w base F (y 31) [m]
 | 9,y,F,w=>mrksR.O w base F (y 32) (xs.take k++[m])
 | 13,y,F,w=>mrksR.O w base F (y 36) (xs.take k++[m]++xs.drop k)
 | _,_,_,_=>True
theorem fKa (x:Value) (xs:List Mrk) (m:Mrk) (base:Nat) (F:Nat→Prop) (w:World) (hx:mrksR.O w base F x xs) (hn:xs.length≤1048576) :
  Calls Tryz.prog 156 #[x,.int .i64 m.con,.int .i64 m.val] w fun e w'=>∃v F',e =.returned v∧mrksR.O w' w.heap.size F' v (putM xs m)∧Below w.heap.size w w':=by
 have hown:=hx.1;rcases fU2 hx with ⟨rfl,h0⟩|⟨g,cap,rfl,hnc,hcm,hcl⟩
 ·
  have HNil:Hid (xs=[]):=h0;have HN:Hid (xs.length=0):=by show _=_;rw[h0];rfl
  have HP:Hid (putM xs m=xs.take 0++[m]++xs.drop 0):=by show _=_;rw[h0];rfl
  clear hown hx h0 hn;go_enter Tryz.func156,Tryz.ntmps156;go_wp2;go_loopw [7] (fun i w'=>i =.int .i64 0∧Below w.heap.size w w') (fun i _=>0)
  case atStart=>exact⟨rfl,bR _ _⟩
  obtain⟨rfl,hbl⟩:=hrel;have HS1:Hid (bW wr fun W=>gI W (.slice none 0 0) (xs.take 0).length (gG (xs.take 0))):=fun W hW=>by
   rw[show xs.take 0=[] by simp];exact uJ _ _ _
  have HS2:Hid (bW wr fun W=>gI W (.slice none 0 0) (xs.drop 0).length (gG (xs.drop 0))):=fun W hW=>by
   rw[show xs.drop 0=[] by rw[HNil.out];rfl];exact uJ _ _ _
  have HT1:Hid ((xs.take 0).length≤1048576∧(xs.drop 0).length≤1048576):=⟨by rw[List.length_take,HN.out];omega,by rw[List.length_drop,HN.out];omega⟩;go_wp2;refine wp_region_noPanic ?_;refine fB (fun W=>Below wr.heap.size wr W) 14 kF qBq (fun hS=>?_);refine tY 1 ?_;refine tY 2 ?_;refine tY 3 ?_;refine tY 5 ?_;refine tY 6 ?_;refine tY 7 ?_;refine tY 10 ?_;refine tY 11 ?_;refine tY 12 ?_;have hb0:Below wr.heap.size wr wr.drew:=Below.drew (bR _ _);generalize wr.drew=W0 at *;refine rX [(0,23),(4,27),(8,31),(9,32),(13,36)] pG (mZ W0.heap.size xs m 0) kF hS ?_ ?_ ?_ ?_
  ·intro F' W W' h hm hF;exact hm.below h h.size (fun b hb=>by have:=hF b hb;have:=hb0.size;omega)
  ·
   intro p hp;simp only[List.mem_cons,List.not_mem_nil,or_false] at hp;rcases hp with rfl|rfl|rfl|rfl|rfl
   all_goals
    intro y y' F1 F' W W' h hF hm hap hF' e he;simp only[mZ] at h ⊢;rw[e];exact mrksR.mod h hm (fun b hb hf=>hap b hf hb)
  ·
   intro p hp;simp only[List.mem_cons,List.not_mem_nil,or_false] at hp;rcases hp with rfl|rfl|rfl|rfl|rfl
   all_goals
    refine⟨_,rfl,rfl,?_⟩;intro y W Φ hSW hBW hd K hK
   ·clear hd;refine⟨?_⟩;simp only[over,Act.put,jA,jB,jC,List.map_cons,List.map_nil,List.foldl_cons,List.foldl_nil,jD,jE,jF] at hK ⊢;go_simp;refine hK _ _ (fun b=>b=W.heap.size) (Mod.of_below qBq) (fun b hb=>.inr (by rw[hb];simp)) ?_;simp only[mZ,updV];exact fGz W _ hBW.size
   ·
    have g0:=(hd (0,23) (by simp) kF (.inl (by simp[pG]))).2;clear hd;simp only[mZ] at g0;refine⟨?_⟩;simp only[over,Act.put,jA,jB,jC,List.map_cons,List.map_nil,List.foldl_cons,List.foldl_nil,jD,jE,jF] at hK ⊢;refine gJ rfl ?_;refine pE W ?hg1 (.tmp 23) (.tmp 26) ?ho1 W0.heap.size (y 23) (Φ 0) ([]) ?hs1 (.slice none 0 0) (xs.take 0) ?hx1 g0 (HS1.out W hSW) (by have:=HT1.out;simp only[List.length_append,List.length_cons,List.length_nil];omega) hBW.size ?_
    case hg1=>rfl
    case ho1=>rfl
    case hs1=>rfl
    case hx1=>rfl
    intro v' w' F' hO hm hl;rw[List.nil_append] at hO;refine hK _ _ F' (hm.mono (fun b hb=>⟨0,by simp[pG],hb⟩)) (fun b hb=>(hl b hb).imp (fun h=>⟨0,by simp[pG],h⟩) (fun h=>h)) ?_;simp only[mZ,updV];simpa using hO
   ·clear hd;refine⟨?_⟩;simp only[over,Act.put,jA,jB,jC,List.map_cons,List.map_nil,List.foldl_cons,List.foldl_nil,jD,jE,jF] at hK ⊢;go_simp;refine hK _ _ (fun b=>b=W.heap.size) (Mod.of_below qBq) (fun b hb=>.inr (by rw[hb];simp)) ?_;simp only[mZ,updV];exact fIh W _ m hBW.size
   ·
    have g0:=(hd (4,27) (by simp) kF (.inl (by simp[pG]))).2;have g1:=(hd (8,31) (by simp) kF (.inr (by decide))).2;clear hd;simp only[mZ] at g0 g1;have hsrc:=mW (mrksR.ofO g1);refine⟨?_⟩;simp only[over,Act.put,jA,jB,jC,List.map_cons,List.map_nil,List.foldl_cons,List.foldl_nil,jD,jE,jF] at hK ⊢;refine gJ rfl ?_;refine pE W ?hg1 (.tmp 27) (.tmp 31) ?ho1 W0.heap.size (y 27) (Φ 4) (xs.take 0) ?hs1 (y 31) [m] ?hx1 g0 hsrc (by have:=HT1.out.1;simp only[List.length_cons,List.length_nil];omega) hBW.size ?_
    case hg1=>rfl
    case ho1=>rfl
    case hs1=>rfl
    case hx1=>rfl
    intro v' w' F' hO hm hl;refine hK _ _ F' (hm.mono (fun b hb=>⟨4,by simp[pG],hb⟩)) (fun b hb=>(hl b hb).imp (fun h=>⟨4,by simp[pG],h⟩) (fun h=>h)) ?_;simp only[mZ,updV];simpa using hO
   have g0:=(hd (9,32) (by simp) kF (.inl (by simp[pG]))).2;clear hd;simp only[mZ] at g0;refine⟨?_⟩;simp only[over,Act.put,jA,jB,jC,List.map_cons,List.map_nil,List.foldl_cons,List.foldl_nil,jD,jE,jF] at hK ⊢;refine gJ rfl ?_;refine pE W ?hg1 (.tmp 32) (.tmp 35) ?ho1 W0.heap.size (y 32) (Φ 9) (xs.take 0++[m]) ?hs1 (.slice none 0 0) (xs.drop 0) ?hx1 g0 (HS2.out W hSW) (by have:=HT1.out;simp only[List.length_append,List.length_cons,List.length_nil];omega) hBW.size ?_
   case hg1=>rfl
   case ho1=>rfl
   case hs1=>rfl
   case hx1=>rfl
   intro v' w' F' hO hm hl;skip;refine hK _ _ F' (hm.mono (fun b hb=>⟨9,by simp[pG],hb⟩)) (fun b hb=>(hl b hb).imp (fun h=>⟨9,by simp[pG],h⟩) (fun h=>h)) ?_;simp only[mZ,updV];simpa using hO
  refine⟨_,rfl,?_⟩;intro y W Φ hSW hBW hd hap K hK;have g13:=(hd (13,36) (by simp) (by decide)).2;clear hd hap;simp only[mZ] at g13;have hz:=hBW.size;have hz0:=hb0.size;have HOf:Hid (mrksR.O W W0.heap.size (Φ 13) (y 36) (xs.take 0++[m]++xs.drop 0)):=g13;have hz1:=hbl.size;have hBE:Below w.heap.size w W:=bS hbl (bS hb0 hBW);refine⟨?_⟩;simp only[over,Act.put,jA,jB,jC,List.map_cons,List.map_nil,List.foldl_cons,List.foldl_nil,jD,jE,jF];clear g13 hS hSW;go_simp;refine hK _ _ ?_;clear hK K;refine NoPanic.normal ?_;go_wp2;refine bodyPost_ret (v:=y 36) (by simp[results,Tryz.results156,go_sem]) rfl ⟨_,Φ 13,rfl,?_,hBE⟩;rw[HP.out];exact mrksR.base HOf.out oM
 obtain⟨n,hn'⟩:∃n,n=xs.length:=⟨_,rfl⟩
 have HN:Hid (xs.length=n):=hn'.symm;have HO:Hid (w.ownsRow base 166 2 (.slice (some ⟨g,0,none⟩) xs.length cap) xs.length (gG xs)):=hown;have HC:Hid (∀k,k<n→qJ w g (0+k*2) (xs.getD k default)):=fun k hk=>hcl k oM
 have HPo:Hid (∀k,k≤n→(∀j,j<k→(xs.getD j default).con<m.con)→(k<n→¬(xs.getD k default).con<m.con)→putM xs m=xs.take k++[m]++xs.drop k):=fun k hk h1 h2=>by
  unfold putM;rw[fMs oM h1 (fun h=>h2 oM)]
 unfold maxLen at hcm;rw[←hn'] at hnc hn ⊢;clear hn' hown hx hcl;go_enter Tryz.func156,Tryz.ntmps156;go_wp2;go_loopw [7] (fun i w'=>∃k:Nat,k≤n∧i =.int .i64 k∧Hid (∀j,j<k→(xs.getD j default).con<m.con)∧Below w.heap.size w w') (fun i _=>n-(intOf i).toNat)
 case atStart=>exact⟨0,oM,rfl,fun j hj=>absurd hj oM,bR _ _⟩
 obtain⟨k,hk,rfl,HJ,hbl⟩:=hrel;by_cases hgo:k<n∧(xs.getD k default).con<m.con
 ·
  obtain⟨hlt,hco⟩:=hgo;obtain⟨z0,z1⟩:=HC.out k hlt;replace z0:=cK hbl z0;rw[Nat.zero_add] at z0;have HJ2:Hid (∀j,j<k+1→(xs.getD j default).con<m.con):=fun j hj=>by
   by_cases e:j=k
   ·rw[e];exact hco
   exact HJ.out j oM
  have k1:(k:Int)<n:=oM;have k2:(0:Int)≤k:=oM;generalize (xs.getD k default).con=kc at *;clear z1 HJ;go_wp2;exact⟨⟨k+1,by omega,by go_num,HJ2,qBq⟩,mI⟩
 have HP:Hid (putM xs m=xs.take k++[m]++xs.drop k):=HPo.out k hk HJ.out (fun h1=>by
  by_cases h2:(xs.getD k default).con<m.con
  ·exact absurd ⟨h1,h2⟩ hgo
  first|exact h2|omega)
 have HOw:Hid (wr.ownsRow base 166 2 (.slice (some ⟨g,0,none⟩) xs.length cap) xs.length (gG xs)):=fQ HO.out hbl;clear HPo HJ;by_cases hlt:k<n
 ·
  have hco:¬(xs.getD k default).con<m.con:=fun h=>hgo ⟨hlt,h⟩
  obtain⟨z0,z1⟩:=HC.out k hlt;replace z0:=cK hbl z0;rw[Nat.zero_add] at z0;have k1:(k:Int)<n:=oM;have k2:(0:Int)≤k:=oM;generalize (xs.getD k default).con=kc at *;clear z1 hgo;have c2:¬cap=k:=oM;have c3:(k:Int)≤cap:=oM;have c1:k≤cap:=oM;have c4:(k:Int)≤n:=oM;have c5:k≤n:=oM;have HS1:Hid (bW wr fun W=>gI W (.slice (some ⟨g,0,none⟩) k cap) (xs.take k).length (gG (xs.take k))):=fun W hW=>by
   have h:=xP (fQ HOw.out hW) 0 k cap (by rw[HN.out];omega);rw[List.drop_zero] at h;rw[show(xs.take k).length=k by rw[List.length_take,HN.out];omega];simpa using h
  have HS2:Hid (bW wr fun W=>gI W (.slice (some ⟨g,k*2,none⟩) (n-k) (cap-k)) (xs.drop k).length (gG (xs.drop k))):=fun W hW=>by
   have h:=xP (fQ HOw.out hW) k (n-k) (cap-k) (by rw[HN.out];omega);rw[List.take_of_length_le (by rw[List.length_drop,HN.out];omega)] at h;rw[show(xs.drop k).length=n-k by rw[List.length_drop,HN.out] <;> omega]
   exact h
  have HT1:Hid ((xs.take k).length≤1048576∧(xs.drop k).length≤1048576):=⟨by rw[List.length_take,HN.out];omega,by rw[List.length_drop,HN.out];omega⟩;go_wp2;refine wp_region_noPanic ?_;refine fB (fun W=>Below wr.heap.size wr W) 14 kF qBq (fun hS=>?_);refine tY 1 ?_;refine tY 2 ?_;refine tY 3 ?_;refine tY 5 ?_;refine tY 6 ?_;refine tY 7 ?_;refine tY 10 ?_;refine tY 11 ?_;refine tY 12 ?_;have hb0:Below wr.heap.size wr wr.drew:=Below.drew (bR _ _);generalize wr.drew=W0 at *;refine rX [(0,23),(4,27),(8,31),(9,32),(13,36)] pG (mZ W0.heap.size xs m k) kF hS ?_ ?_ ?_ ?_
  ·intro F' W W' h hm hF;exact hm.below h h.size (fun b hb=>by have:=hF b hb;have:=hb0.size;omega)
  ·
   intro p hp;simp only[List.mem_cons,List.not_mem_nil,or_false] at hp;rcases hp with rfl|rfl|rfl|rfl|rfl
   all_goals
    intro y y' F1 F' W W' h hF hm hap hF' e he;simp only[mZ] at h ⊢;rw[e];exact mrksR.mod h hm (fun b hb hf=>hap b hf hb)
  ·
   intro p hp;simp only[List.mem_cons,List.not_mem_nil,or_false] at hp;rcases hp with rfl|rfl|rfl|rfl|rfl
   all_goals
    refine⟨_,rfl,rfl,?_⟩;intro y W Φ hSW hBW hd K hK
   ·clear hd;refine⟨?_⟩;simp only[over,Act.put,jA,jB,jC,List.map_cons,List.map_nil,List.foldl_cons,List.foldl_nil,jD,jE,jF] at hK ⊢;go_simp;refine hK _ _ (fun b=>b=W.heap.size) (Mod.of_below qBq) (fun b hb=>.inr (by rw[hb];simp)) ?_;simp only[mZ,updV];exact fGz W _ hBW.size
   ·
    have g0:=(hd (0,23) (by simp) kF (.inl (by simp[pG]))).2;clear hd;simp only[mZ] at g0;refine⟨?_⟩;simp only[over,Act.put,jA,jB,jC,List.map_cons,List.map_nil,List.foldl_cons,List.foldl_nil,jD,jE,jF] at hK ⊢;refine gJ rfl ?_;refine pE W ?hg1 (.tmp 23) (.tmp 26) ?ho1 W0.heap.size (y 23) (Φ 0) ([]) ?hs1 (.slice (some ⟨g,0,none⟩) k cap) (xs.take k) ?hx1 g0 (HS1.out W hSW) (by have:=HT1.out;simp only[List.length_append,List.length_cons,List.length_nil];omega) hBW.size ?_
    case hg1=>rfl
    case ho1=>rfl
    case hs1=>rfl
    case hx1=>rfl
    intro v' w' F' hO hm hl;rw[List.nil_append] at hO;refine hK _ _ F' (hm.mono (fun b hb=>⟨0,by simp[pG],hb⟩)) (fun b hb=>(hl b hb).imp (fun h=>⟨0,by simp[pG],h⟩) (fun h=>h)) ?_;simp only[mZ,updV];simpa using hO
   ·clear hd;refine⟨?_⟩;simp only[over,Act.put,jA,jB,jC,List.map_cons,List.map_nil,List.foldl_cons,List.foldl_nil,jD,jE,jF] at hK ⊢;go_simp;refine hK _ _ (fun b=>b=W.heap.size) (Mod.of_below qBq) (fun b hb=>.inr (by rw[hb];simp)) ?_;simp only[mZ,updV];exact fIh W _ m hBW.size
   ·
    have g0:=(hd (4,27) (by simp) kF (.inl (by simp[pG]))).2;have g1:=(hd (8,31) (by simp) kF (.inr (by decide))).2;clear hd;simp only[mZ] at g0 g1;have hsrc:=mW (mrksR.ofO g1);refine⟨?_⟩;simp only[over,Act.put,jA,jB,jC,List.map_cons,List.map_nil,List.foldl_cons,List.foldl_nil,jD,jE,jF] at hK ⊢;refine gJ rfl ?_;refine pE W ?hg1 (.tmp 27) (.tmp 31) ?ho1 W0.heap.size (y 27) (Φ 4) (xs.take k) ?hs1 (y 31) [m] ?hx1 g0 hsrc (by have:=HT1.out.1;simp only[List.length_cons,List.length_nil];omega) hBW.size ?_
    case hg1=>rfl
    case ho1=>rfl
    case hs1=>rfl
    case hx1=>rfl
    intro v' w' F' hO hm hl;refine hK _ _ F' (hm.mono (fun b hb=>⟨4,by simp[pG],hb⟩)) (fun b hb=>(hl b hb).imp (fun h=>⟨4,by simp[pG],h⟩) (fun h=>h)) ?_;simp only[mZ,updV];simpa using hO
   have g0:=(hd (9,32) (by simp) kF (.inl (by simp[pG]))).2;clear hd;simp only[mZ] at g0;refine⟨?_⟩;simp only[over,Act.put,jA,jB,jC,List.map_cons,List.map_nil,List.foldl_cons,List.foldl_nil,jD,jE,jF] at hK ⊢;refine gJ rfl ?_;refine pE W ?hg1 (.tmp 32) (.tmp 35) ?ho1 W0.heap.size (y 32) (Φ 9) (xs.take k++[m]) ?hs1 (.slice (some ⟨g,k*2,none⟩) (n-k) (cap-k)) (xs.drop k) ?hx1 g0 (HS2.out W hSW) (by have:=HT1.out;simp only[List.length_append,List.length_cons,List.length_nil];omega) hBW.size ?_
   case hg1=>rfl
   case ho1=>rfl
   case hs1=>rfl
   case hx1=>rfl
   intro v' w' F' hO hm hl;skip;refine hK _ _ F' (hm.mono (fun b hb=>⟨9,by simp[pG],hb⟩)) (fun b hb=>(hl b hb).imp (fun h=>⟨9,by simp[pG],h⟩) (fun h=>h)) ?_;simp only[mZ,updV];simpa using hO
  refine⟨_,rfl,?_⟩;intro y W Φ hSW hBW hd hap K hK;have g13:=(hd (13,36) (by simp) (by decide)).2;clear hd hap;simp only[mZ] at g13;have hz:=hBW.size;have hz0:=hb0.size;have HOf:Hid (mrksR.O W W0.heap.size (Φ 13) (y 36) (xs.take k++[m]++xs.drop k)):=g13;have hz1:=hbl.size;have hBE:Below w.heap.size w W:=bS hbl (bS hb0 hBW);refine⟨?_⟩;simp only[over,Act.put,jA,jB,jC,List.map_cons,List.map_nil,List.foldl_cons,List.foldl_nil,jD,jE,jF];clear g13 hS hSW;go_simp;refine hK _ _ ?_;clear hK K;refine NoPanic.normal ?_;go_wp2;refine bodyPost_ret (v:=y 36) (by simp[results,Tryz.results156,go_sem]) rfl ⟨_,Φ 13,rfl,?_,hBE⟩;rw[HP.out];exact mrksR.base HOf.out oM
 have hkn:k=n:=oM;subst hkn;clear hgo hlt;by_cases hck:cap=k
 ·
  subst hck;have c3:(cap:Int)≤cap:=oM;have HS1:Hid (bW wr fun W=>gI W (.slice (some ⟨g,0,none⟩) cap cap) (xs.take cap).length (gG (xs.take cap))):=fun W hW=>by
   have h:=xP (fQ HOw.out hW) 0 cap cap (by rw[HN.out];omega);rw[List.drop_zero] at h;rw[show(xs.take cap).length=cap by rw[List.length_take,HN.out];omega];simpa using h
  have HS2:Hid (bW wr fun W=>gI W (.slice (some ⟨g,0,none⟩) 0 0) (xs.drop cap).length (gG (xs.drop cap))):=fun W hW=>by
   rw[show xs.drop cap=[] from List.drop_eq_nil_of_le (by rw[HN.out];exact Nat.le_refl _)];exact uJ _ _ _
  have HT1:Hid ((xs.take cap).length≤1048576∧(xs.drop cap).length≤1048576):=⟨by rw[List.length_take,HN.out];omega,by rw[List.length_drop,HN.out];omega⟩;go_wp2;refine wp_region_noPanic ?_;refine fB (fun W=>Below wr.heap.size wr W) 14 kF qBq (fun hS=>?_);refine tY 1 ?_;refine tY 2 ?_;refine tY 3 ?_;refine tY 5 ?_;refine tY 6 ?_;refine tY 7 ?_;refine tY 10 ?_;refine tY 11 ?_;refine tY 12 ?_;have hb0:Below wr.heap.size wr wr.drew:=Below.drew (bR _ _);generalize wr.drew=W0 at *;refine rX [(0,23),(4,27),(8,31),(9,32),(13,36)] pG (mZ W0.heap.size xs m cap) kF hS ?_ ?_ ?_ ?_
  ·intro F' W W' h hm hF;exact hm.below h h.size (fun b hb=>by have:=hF b hb;have:=hb0.size;omega)
  ·
   intro p hp;simp only[List.mem_cons,List.not_mem_nil,or_false] at hp;rcases hp with rfl|rfl|rfl|rfl|rfl
   all_goals
    intro y y' F1 F' W W' h hF hm hap hF' e he;simp only[mZ] at h ⊢;rw[e];exact mrksR.mod h hm (fun b hb hf=>hap b hf hb)
  ·
   intro p hp;simp only[List.mem_cons,List.not_mem_nil,or_false] at hp;rcases hp with rfl|rfl|rfl|rfl|rfl
   all_goals
    refine⟨_,rfl,rfl,?_⟩;intro y W Φ hSW hBW hd K hK
   ·clear hd;refine⟨?_⟩;simp only[over,Act.put,jA,jB,jC,List.map_cons,List.map_nil,List.foldl_cons,List.foldl_nil,jD,jE,jF] at hK ⊢;go_simp;refine hK _ _ (fun b=>b=W.heap.size) (Mod.of_below qBq) (fun b hb=>.inr (by rw[hb];simp)) ?_;simp only[mZ,updV];exact fGz W _ hBW.size
   ·
    have g0:=(hd (0,23) (by simp) kF (.inl (by simp[pG]))).2;clear hd;simp only[mZ] at g0;refine⟨?_⟩;simp only[over,Act.put,jA,jB,jC,List.map_cons,List.map_nil,List.foldl_cons,List.foldl_nil,jD,jE,jF] at hK ⊢;refine gJ rfl ?_;refine pE W ?hg1 (.tmp 23) (.tmp 26) ?ho1 W0.heap.size (y 23) (Φ 0) ([]) ?hs1 (.slice (some ⟨g,0,none⟩) cap cap) (xs.take cap) ?hx1 g0 (HS1.out W hSW) (by have:=HT1.out;simp only[List.length_append,List.length_cons,List.length_nil];omega) hBW.size ?_
    case hg1=>rfl
    case ho1=>rfl
    case hs1=>rfl
    case hx1=>rfl
    intro v' w' F' hO hm hl;rw[List.nil_append] at hO;refine hK _ _ F' (hm.mono (fun b hb=>⟨0,by simp[pG],hb⟩)) (fun b hb=>(hl b hb).imp (fun h=>⟨0,by simp[pG],h⟩) (fun h=>h)) ?_;simp only[mZ,updV];simpa using hO
   ·clear hd;refine⟨?_⟩;simp only[over,Act.put,jA,jB,jC,List.map_cons,List.map_nil,List.foldl_cons,List.foldl_nil,jD,jE,jF] at hK ⊢;go_simp;refine hK _ _ (fun b=>b=W.heap.size) (Mod.of_below qBq) (fun b hb=>.inr (by rw[hb];simp)) ?_;simp only[mZ,updV];exact fIh W _ m hBW.size
   ·
    have g0:=(hd (4,27) (by simp) kF (.inl (by simp[pG]))).2;have g1:=(hd (8,31) (by simp) kF (.inr (by decide))).2;clear hd;simp only[mZ] at g0 g1;have hsrc:=mW (mrksR.ofO g1);refine⟨?_⟩;simp only[over,Act.put,jA,jB,jC,List.map_cons,List.map_nil,List.foldl_cons,List.foldl_nil,jD,jE,jF] at hK ⊢;refine gJ rfl ?_;refine pE W ?hg1 (.tmp 27) (.tmp 31) ?ho1 W0.heap.size (y 27) (Φ 4) (xs.take cap) ?hs1 (y 31) [m] ?hx1 g0 hsrc (by have:=HT1.out.1;simp only[List.length_cons,List.length_nil];omega) hBW.size ?_
    case hg1=>rfl
    case ho1=>rfl
    case hs1=>rfl
    case hx1=>rfl
    intro v' w' F' hO hm hl;refine hK _ _ F' (hm.mono (fun b hb=>⟨4,by simp[pG],hb⟩)) (fun b hb=>(hl b hb).imp (fun h=>⟨4,by simp[pG],h⟩) (fun h=>h)) ?_;simp only[mZ,updV];simpa using hO
   have g0:=(hd (9,32) (by simp) kF (.inl (by simp[pG]))).2;clear hd;simp only[mZ] at g0;refine⟨?_⟩;simp only[over,Act.put,jA,jB,jC,List.map_cons,List.map_nil,List.foldl_cons,List.foldl_nil,jD,jE,jF] at hK ⊢;refine gJ rfl ?_;refine pE W ?hg1 (.tmp 32) (.tmp 35) ?ho1 W0.heap.size (y 32) (Φ 9) (xs.take cap++[m]) ?hs1 (.slice (some ⟨g,0,none⟩) 0 0) (xs.drop cap) ?hx1 g0 (HS2.out W hSW) (by have:=HT1.out;simp only[List.length_append,List.length_cons,List.length_nil];omega) hBW.size ?_
   case hg1=>rfl
   case ho1=>rfl
   case hs1=>rfl
   case hx1=>rfl
   intro v' w' F' hO hm hl;skip;refine hK _ _ F' (hm.mono (fun b hb=>⟨9,by simp[pG],hb⟩)) (fun b hb=>(hl b hb).imp (fun h=>⟨9,by simp[pG],h⟩) (fun h=>h)) ?_;simp only[mZ,updV];simpa using hO
  refine⟨_,rfl,?_⟩;intro y W Φ hSW hBW hd hap K hK;have g13:=(hd (13,36) (by simp) (by decide)).2;clear hd hap;simp only[mZ] at g13;have hz:=hBW.size;have hz0:=hb0.size;have HOf:Hid (mrksR.O W W0.heap.size (Φ 13) (y 36) (xs.take cap++[m]++xs.drop cap)):=g13;have hz1:=hbl.size;have hBE:Below w.heap.size w W:=bS hbl (bS hb0 hBW);refine⟨?_⟩;simp only[over,Act.put,jA,jB,jC,List.map_cons,List.map_nil,List.foldl_cons,List.foldl_nil,jD,jE,jF];clear g13 hS hSW;go_simp;refine hK _ _ ?_;clear hK K;refine NoPanic.normal ?_;go_wp2;refine bodyPost_ret (v:=y 36) (by simp[results,Tryz.results156,go_sem]) rfl ⟨_,Φ 13,rfl,?_,hBE⟩;rw[HP.out];exact mrksR.base HOf.out oM
 have hdm:True:=trivial;have c2:¬cap=k:=oM;have c3:(k:Int)≤cap:=oM;have c1:k≤cap:=oM;have c4:(k:Int)≤k:=oM;have HS1:Hid (bW wr fun W=>gI W (.slice (some ⟨g,0,none⟩) k cap) (xs.take k).length (gG (xs.take k))):=fun W hW=>by
  have h:=xP (fQ HOw.out hW) 0 k cap (by rw[HN.out];omega);rw[List.drop_zero] at h;rw[show(xs.take k).length=k by rw[List.length_take,HN.out];omega];simpa using h
 have HS2:Hid (bW wr fun W=>gI W (.slice (some ⟨g,k*2,none⟩) (0) (cap-k)) (xs.drop k).length (gG (xs.drop k))):=fun W hW=>by
  have h:=xP (fQ HOw.out hW) k (0) (cap-k) (by rw[HN.out];omega);rw[List.take_of_length_le (by rw[List.length_drop,HN.out];omega)] at h;rw[show(xs.drop k).length=0 by rw[List.length_drop,HN.out] <;> omega]
  exact h
 have HT1:Hid ((xs.take k).length≤1048576∧(xs.drop k).length≤1048576):=⟨by rw[List.length_take,HN.out];omega,by rw[List.length_drop,HN.out];omega⟩;go_wp2;refine wp_region_noPanic ?_;refine fB (fun W=>Below wr.heap.size wr W) 14 kF qBq (fun hS=>?_);refine tY 1 ?_;refine tY 2 ?_;refine tY 3 ?_;refine tY 5 ?_;refine tY 6 ?_;refine tY 7 ?_;refine tY 10 ?_;refine tY 11 ?_;refine tY 12 ?_;have hb0:Below wr.heap.size wr wr.drew:=Below.drew (bR _ _);generalize wr.drew=W0 at *;refine rX [(0,23),(4,27),(8,31),(9,32),(13,36)] pG (mZ W0.heap.size xs m k) kF hS ?_ ?_ ?_ ?_
 ·intro F' W W' h hm hF;exact hm.below h h.size (fun b hb=>by have:=hF b hb;have:=hb0.size;omega)
 ·
  intro p hp;simp only[List.mem_cons,List.not_mem_nil,or_false] at hp;rcases hp with rfl|rfl|rfl|rfl|rfl
  all_goals
   intro y y' F1 F' W W' h hF hm hap hF' e he;simp only[mZ] at h ⊢;rw[e];exact mrksR.mod h hm (fun b hb hf=>hap b hf hb)
 ·
  intro p hp;simp only[List.mem_cons,List.not_mem_nil,or_false] at hp;rcases hp with rfl|rfl|rfl|rfl|rfl
  all_goals
   refine⟨_,rfl,rfl,?_⟩;intro y W Φ hSW hBW hd K hK
  ·clear hd;refine⟨?_⟩;simp only[over,Act.put,jA,jB,jC,List.map_cons,List.map_nil,List.foldl_cons,List.foldl_nil,jD,jE,jF] at hK ⊢;go_simp;refine hK _ _ (fun b=>b=W.heap.size) (Mod.of_below qBq) (fun b hb=>.inr (by rw[hb];simp)) ?_;simp only[mZ,updV];exact fGz W _ hBW.size
  ·
   have g0:=(hd (0,23) (by simp) kF (.inl (by simp[pG]))).2;clear hd;simp only[mZ] at g0;refine⟨?_⟩;simp only[over,Act.put,jA,jB,jC,List.map_cons,List.map_nil,List.foldl_cons,List.foldl_nil,jD,jE,jF] at hK ⊢;refine gJ rfl ?_;refine pE W ?hg1 (.tmp 23) (.tmp 26) ?ho1 W0.heap.size (y 23) (Φ 0) ([]) ?hs1 (.slice (some ⟨g,0,none⟩) k cap) (xs.take k) ?hx1 g0 (HS1.out W hSW) (by have:=HT1.out;simp only[List.length_append,List.length_cons,List.length_nil];omega) hBW.size ?_
   case hg1=>rfl
   case ho1=>rfl
   case hs1=>rfl
   case hx1=>rfl
   intro v' w' F' hO hm hl;rw[List.nil_append] at hO;refine hK _ _ F' (hm.mono (fun b hb=>⟨0,by simp[pG],hb⟩)) (fun b hb=>(hl b hb).imp (fun h=>⟨0,by simp[pG],h⟩) (fun h=>h)) ?_;simp only[mZ,updV];simpa using hO
  ·clear hd;refine⟨?_⟩;simp only[over,Act.put,jA,jB,jC,List.map_cons,List.map_nil,List.foldl_cons,List.foldl_nil,jD,jE,jF] at hK ⊢;go_simp;refine hK _ _ (fun b=>b=W.heap.size) (Mod.of_below qBq) (fun b hb=>.inr (by rw[hb];simp)) ?_;simp only[mZ,updV];exact fIh W _ m hBW.size
  ·
   have g0:=(hd (4,27) (by simp) kF (.inl (by simp[pG]))).2;have g1:=(hd (8,31) (by simp) kF (.inr (by decide))).2;clear hd;simp only[mZ] at g0 g1;have hsrc:=mW (mrksR.ofO g1);refine⟨?_⟩;simp only[over,Act.put,jA,jB,jC,List.map_cons,List.map_nil,List.foldl_cons,List.foldl_nil,jD,jE,jF] at hK ⊢;refine gJ rfl ?_;refine pE W ?hg1 (.tmp 27) (.tmp 31) ?ho1 W0.heap.size (y 27) (Φ 4) (xs.take k) ?hs1 (y 31) [m] ?hx1 g0 hsrc (by have:=HT1.out.1;simp only[List.length_cons,List.length_nil];omega) hBW.size ?_
   case hg1=>rfl
   case ho1=>rfl
   case hs1=>rfl
   case hx1=>rfl
   intro v' w' F' hO hm hl;refine hK _ _ F' (hm.mono (fun b hb=>⟨4,by simp[pG],hb⟩)) (fun b hb=>(hl b hb).imp (fun h=>⟨4,by simp[pG],h⟩) (fun h=>h)) ?_;simp only[mZ,updV];simpa using hO
  have g0:=(hd (9,32) (by simp) kF (.inl (by simp[pG]))).2;clear hd;simp only[mZ] at g0;refine⟨?_⟩;simp only[over,Act.put,jA,jB,jC,List.map_cons,List.map_nil,List.foldl_cons,List.foldl_nil,jD,jE,jF] at hK ⊢;refine gJ rfl ?_;refine pE W ?hg1 (.tmp 32) (.tmp 35) ?ho1 W0.heap.size (y 32) (Φ 9) (xs.take k++[m]) ?hs1 (.slice (some ⟨g,k*2,none⟩) (0) (cap-k)) (xs.drop k) ?hx1 g0 (HS2.out W hSW) (by have:=HT1.out;simp only[List.length_append,List.length_cons,List.length_nil];omega) hBW.size ?_
  case hg1=>rfl
  case ho1=>rfl
  case hs1=>rfl
  case hx1=>rfl
  intro v' w' F' hO hm hl;skip;refine hK _ _ F' (hm.mono (fun b hb=>⟨9,by simp[pG],hb⟩)) (fun b hb=>(hl b hb).imp (fun h=>⟨9,by simp[pG],h⟩) (fun h=>h)) ?_;simp only[mZ,updV];simpa using hO
 refine⟨_,rfl,?_⟩;intro y W Φ hSW hBW hd hap K hK;have g13:=(hd (13,36) (by simp) (by decide)).2;clear hd hap;simp only[mZ] at g13;have hz:=hBW.size;have hz0:=hb0.size;have HOf:Hid (mrksR.O W W0.heap.size (Φ 13) (y 36) (xs.take k++[m]++xs.drop k)):=g13;have hz1:=hbl.size;have hBE:Below w.heap.size w W:=bS hbl (bS hb0 hBW);refine⟨?_⟩;simp only[over,Act.put,jA,jB,jC,List.map_cons,List.map_nil,List.foldl_cons,List.foldl_nil,jD,jE,jF];clear g13 hS hSW;go_simp;refine hK _ _ ?_;clear hK K;refine NoPanic.normal ?_;go_wp2;refine bodyPost_ret (v:=y 36) (by simp[results,Tryz.results156,go_sem]) rfl ⟨_,Φ 13,rfl,?_,hBE⟩;rw[HP.out];exact mrksR.base HOf.out oM
end Go.Proofs.YtpibfdebfacooaaGreat

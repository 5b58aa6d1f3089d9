import Derived.Test.YtbfnobcidnmohaaGreatPrnBooksBalanceLaw18
import Derived.BigQuiet
import Derived.Deep.QuietTactic
import Derived.Deep.RegionHeld3
set_option maxHeartbeats 8000000
set_option maxRecDepth 20000
set_option linter.unusedSimpArgs false
set_option linter.unusedVariables false
set_option linter.unusedSectionVars false
namespace Go.Proofs.YtbfnobcidnmohaaGreat
open Go.RowKit
variable [DecidableEq Leg] [Inhabited Leg] [DecidableEq Cont] [Inhabited Cont] [DecidableEq Bal] [Inhabited Bal] [DecidableEq Mrk] [Inhabited Mrk] [DecidableEq Shd] [Inhabited Shd] [DecidableEq Vot] [Inhabited Vot] [DecidableEq Slt] [Inhabited Slt] [DecidableEq Acc] [Inhabited Acc] [DecidableEq Trr] [Inhabited Trr] [DecidableEq Hrd] [Inhabited Hrd] [DecidableEq Ldr] [Inhabited Ldr] [DecidableEq Msg] [Inhabited Msg] [DecidableEq Clu] [Inhabited Clu] [DecidableEq Ledg] [Inhabited Ledg] [DecidableEq SltR] [Inhabited SltR] [DecidableEq AccR] [Inhabited AccR] [DecidableEq AccsR] [Inhabited AccsR] [DecidableEq SltsR] [Inhabited SltsR] [DecidableEq Rw] [Inhabited Rw] [DecidableEq LedgR] [Inhabited LedgR] [DecidableEq OutcR] [Inhabited OutcR] [DecidableEq ShdR] [Inhabited ShdR]
attribute [local go_sem ↓] Go.wp_at_zero Go.wp_at_succ
def orL:List Int→Int
 | []=>0
 | x::xs=>if x=0 then orL xs else x
theorem fU3 {xs:List Int}:∀{k:Nat},k<xs.length→(∀j,j<k→xs.getD j 0=0)→¬xs.getD k 0=0→orL xs=xs.getD k 0:=by
 induction xs with
 | nil=>intro k hk;simp at hk
 | cons x xs ih=>
  intro k hk h0 h1;cases k with
  | zero=>simp at h1;simp[orL,h1]
  | succ k=>
   have hx:x=0:=by have:=h0 0 (by omega);simpa using this
   have:=ih (k:=k) (by simpa using hk) (fun j hj=>by have:=h0 (j+1) (by omega);simpa using this) (by simpa using h1);simp[orL,hx];simpa using this
theorem fTh {xs:List Int} (h:∀j,j<xs.length→xs.getD j 0=0):orL xs=0:=by
 induction xs with
 | nil=>rfl
 | cons x xs ih=>
  have hx:x=0:=by have:=h 0 (by simp);simpa using this
  simp[orL,hx];exact ih (fun j hj=>by have:=h (j+1) (by simpa using hj);simpa using this)
theorem fU4 (b n:Nat) (xs:List Int) (w:World) (hn:xs.length=n) (hs:n≤100) (h:∀k,k<n→w.cell? ⟨b,k,none⟩=some (.int .i64 (xs.getD k 0))) :
  Calls Tryz.prog 277 #[.slice (some ⟨b,0,none⟩) n n] w fun e w'=>e = .returned (.int .i64 (orL xs))∧w'=w:=by
 have H1:Hid (∀k,k<n→(∀j,j<k→xs.getD j 0=0)→¬xs.getD k 0=0→orL xs=xs.getD k 0):=fun k hk h0 h1=>fU3 (by rw[hn];exact hk) h0 h1
 have H2:Hid ((∀j,j<n→xs.getD j 0=0)→orL xs=0):=fun h=>fTh (by rw[hn];exact h)
 have HX:Hid (∀k,k<n→w.cell? ⟨b,k,none⟩=some (.int .i64 (xs.getD k 0))):=h;clear h hn;generalize orL xs=R at *;go_enter Tryz.func277,Tryz.ntmps277;go_wp2;go_loopw [8] (fun i w'=>∃k:Nat,k≤n∧i = .int .i64 k∧w'=w∧Hid (∀j,j<k→xs.getD j 0=0)) (fun i _=>n-(intOf i).toNat)
 case atStart=>exact⟨0,by omega,rfl,rfl,fun j hj=>absurd hj (Nat.not_lt_zero _)⟩
 obtain⟨k,hk,rfl,rfl,HS⟩:=hrel;by_cases hlt:k<n
 ·
  have hc:=HX.out k hlt;have HH:Hid (¬xs.getD k 0=0→R=xs.getD k 0):=fun h=>H1.out k hlt HS.out h
  have HZ:Hid (xs.getD k 0=0→∀j,j<k+1→xs.getD j 0=0):=fun h j hj=>by
   by_cases e:j=k
   ·
    rw[e];exact h
   exact HS.out j (by omega)
  generalize xs.getD k 0=v at *;by_cases hv:v=0
  ·
   subst hv;have HQ:Hid _:=HZ.out rfl;clear HZ HH;go_wp2;exact⟨⟨k+1,by omega,by go_num,by first|trivial|rfl,HQ⟩,by simp[intOf];omega⟩
  have HC:Hid _:=HH.out hv;have hv':(v !=0)=true:=by simp[hv]
  clear HZ HH;go_wp2;go_ret;exact⟨by rw[HC.out];rfl,rfl⟩
 obtain rfl:k=n:=by omega
 have HC:Hid (R=0):=H2.out HS.out;go_wp2;go_ret;exact⟨by rw[HC.out];rfl,rfl⟩
theorem fTg (a b c d e:Int):orL [a,b,c,d,e]=orZ a (orZ b (orZ c (orZ d e))):=by by_cases h1:a=0 <;> by_cases h2:b=0 <;> by_cases h3:c=0 <;> by_cases h4:d=0 <;> by_cases h5:e=0 <;> simp[orL,orZ,h1,h2,h3,h4,h5]
theorem fDo (i j:Int) (u v:Value) (w:World) :
  Calls Tryz.prog 207 #[.agg #[.int .i64 i,u],.agg #[.int .i64 j,v]] w fun e w'=>e = .returned (.int .i64 (cmpZ i j))∧Below w.heap.size w w':=by
 go_enter Tryz.func207,Tryz.ntmps207;go_wp2_with (first|(go_at_call 247;refine(fBu _ _ _).mono ?_;rintro e w' ⟨rfl,hw⟩;obtain rfl:=hw.symm));go_ret;exact⟨rfl,qBq⟩
theorem fBi (x y:Trr) (u v u' v':Value) (w:World) :
  Calls Tryz.prog 223 #[.agg #[.int .i64 x.con,.int .i64 x.sh,.int .i64 x.bal,.int .i64 x.val,u,v],.agg #[.int .i64 y.con,.int .i64 y.sh,.int .i64 y.bal,.int .i64 y.val,u',v']] w fun e w'=>e = .returned (.int .i64 (cmpT x y))∧Below w.heap.size w w':=by
 go_enter Tryz.func223,Tryz.ntmps223;go_wp2;go_region_held3 (fun w'=>Below w.heap.size w w'∧w'.cell? ⟨w.heap.size,0,none⟩=some (.int .i64 x.con)∧w'.cell? ⟨w.heap.size,1,none⟩=some (.int .i64 x.sh)∧w'.cell? ⟨w.heap.size+1,0,none⟩=some (.int .i64 y.con)∧w'.cell? ⟨w.heap.size+1,1,none⟩=some (.int .i64 y.sh))
  ((refine⟨?_,?_,?_,?_,?_⟩;(repeat (first|exact bR _ _|assumption|refine bD ?_|refine bA ?_ _));all_goals simp[go_sem]))
  (first|(go_at_call 247;refine(fBu _ _ _).mono ?_;rintro e w' ⟨rfl,rfl⟩)|(go_at_call 277;refine(fQ1 _ (cmpZ x.con y.con) (cmpZ x.sh y.sh) _ ?_ ?_).mono ?_;simp[go_sem];simp[go_sem];rintro e w' ⟨rfl,rfl⟩))
 all_goals
  rename_i hH;have hB:=hH.1;clear hH;go_wp2;go_ret;exact⟨rfl,qBq⟩
def hrdG (x y:Hrd):Nat→(Nat→Value)→Nat→Nat→World→Prop
 | 4,z,_,_,_=>z 9 = .int .i64 (cmpZ x.con y.con)
 | 9,z,_,_,_=>z 14 = .int .i64 (cmpZ x.sh y.sh)
 | 14,z,_,_,_=>z 19 = .int .i64 (cmpZ x.bal y.bal)
 | 19,z,_,_,_=>z 24 = .int .i64 (cmpZ x.val y.val)
 | 24,z,_,_,_=>z 29 = .int .i64 (cmpZ x.frm y.frm)
 | 25,z,_,_,w=>∃b,z 30 = .slice (some ⟨b,0,none⟩) 5 5∧w.cell? ⟨b,0,none⟩=some (.int .i64 (cmpZ x.con y.con))∧w.cell? ⟨b,1,none⟩=some (.int .i64 (cmpZ x.sh y.sh))∧w.cell? ⟨b,2,none⟩=some (.int .i64 (cmpZ x.bal y.bal))∧w.cell? ⟨b,3,none⟩=some (.int .i64 (cmpZ x.val y.val))∧w.cell? ⟨b,4,none⟩=some (.int .i64 (cmpZ x.frm y.frm))
 | 26,z,_,_,_=>z 31 = .int .i64 (cmpH x y)
 | _,_,_,_,_=>True
theorem fBh (x y:Hrd) (w:World) :
  Calls Tryz.prog 231 #[hrdV x,hrdV y] w fun e w'=>e = .returned (.int .i64 (cmpH x y))∧Below w.heap.size w w':=by
 unfold hrdV;have HF:Hid (orL [cmpZ x.con y.con,cmpZ x.sh y.sh,cmpZ x.bal y.bal,cmpZ x.val y.val,cmpZ x.frm y.frm]=cmpH x y):=fTg _ _ _ _ _;go_enter Tryz.func231,Tryz.ntmps231;go_wp2;obtain⟨wq,hwq⟩:∃wq,wq=(w.alloc (.cells #[.int .i64 x.con,.int .i64 x.sh,.int .i64 x.bal,.int .i64 x.val,.int .i64 x.frm] 209)).alloc (.cells #[.int .i64 y.con,.int .i64 y.sh,.int .i64 y.bal,.int .i64 y.val,.int .i64 y.frm] 209):=⟨_,rfl⟩
 have x0:wq.cell? ⟨w.heap.size,0,none⟩=some (.int .i64 x.con):=by rw[hwq];simp[go_sem]
 have x1:wq.cell? ⟨w.heap.size,1,none⟩=some (.int .i64 x.sh):=by rw[hwq];simp[go_sem]
 have x2:wq.cell? ⟨w.heap.size,2,none⟩=some (.int .i64 x.bal):=by rw[hwq];simp[go_sem]
 have x3:wq.cell? ⟨w.heap.size,3,none⟩=some (.int .i64 x.val):=by rw[hwq];simp[go_sem]
 have x4:wq.cell? ⟨w.heap.size,4,none⟩=some (.int .i64 x.frm):=by rw[hwq];simp[go_sem]
 have y0:wq.cell? ⟨w.heap.size+1,0,none⟩=some (.int .i64 y.con):=by rw[hwq];simp[go_sem]
 have y1:wq.cell? ⟨w.heap.size+1,1,none⟩=some (.int .i64 y.sh):=by rw[hwq];simp[go_sem]
 have y2:wq.cell? ⟨w.heap.size+1,2,none⟩=some (.int .i64 y.bal):=by rw[hwq];simp[go_sem]
 have y3:wq.cell? ⟨w.heap.size+1,3,none⟩=some (.int .i64 y.val):=by rw[hwq];simp[go_sem]
 have y4:wq.cell? ⟨w.heap.size+1,4,none⟩=some (.int .i64 y.frm):=by rw[hwq];simp[go_sem]
 have hBq:Below w.heap.size w wq:=by rw[hwq];(repeat (first|exact bR _ _|assumption|refine bD ?_|refine bA ?_ _|refine bset ?_ (by simp;omega) _|refine bset ?_ (by simp) _|refine bS ?_ (by assumption)))
 rw[←hwq];clear hwq;refine wp_region_noPanic ?_;refine fA (fun W=>W.cell? ⟨w.heap.size,0,none⟩=some (.int .i64 x.con)∧W.cell? ⟨w.heap.size,1,none⟩=some (.int .i64 x.sh)∧W.cell? ⟨w.heap.size,2,none⟩=some (.int .i64 x.bal)∧W.cell? ⟨w.heap.size,3,none⟩=some (.int .i64 x.val)∧W.cell? ⟨w.heap.size,4,none⟩=some (.int .i64 x.frm)∧W.cell? ⟨w.heap.size+1,0,none⟩=some (.int .i64 y.con)∧W.cell? ⟨w.heap.size+1,1,none⟩=some (.int .i64 y.sh)∧W.cell? ⟨w.heap.size+1,2,none⟩=some (.int .i64 y.bal)∧W.cell? ⟨w.heap.size+1,3,none⟩=some (.int .i64 y.val)∧W.cell? ⟨w.heap.size+1,4,none⟩=some (.int .i64 y.frm)) 27 (by kernel_rfl) ⟨cK (qBq) x0,cK (qBq) x1,cK (qBq) x2,cK (qBq) x3,cK (qBq) x4,cK (qBq) y0,cK (qBq) y1,cK (qBq) y2,cK (qBq) y3,cK (qBq) y4⟩ (fun hS=>?_);refine tL 0 rfl hS ?_;try simp only[jX]
 refine tL 1 rfl hS ?_;try simp only[jX]
 refine tL 2 rfl hS ?_;try simp only[jX]
 refine tL 3 rfl hS ?_;try simp only[jX]
 refine tL 5 rfl hS ?_;try simp only[jX]
 refine tL 6 rfl hS ?_;try simp only[jX]
 refine tL 7 rfl hS ?_;try simp only[jX]
 refine tL 8 rfl hS ?_;try simp only[jX]
 refine tL 10 rfl hS ?_;try simp only[jX]
 refine tL 11 rfl hS ?_;try simp only[jX]
 refine tL 12 rfl hS ?_;try simp only[jX]
 refine tL 13 rfl hS ?_;try simp only[jX]
 refine tL 15 rfl hS ?_;try simp only[jX]
 refine tL 16 rfl hS ?_;try simp only[jX]
 refine tL 17 rfl hS ?_;try simp only[jX]
 refine tL 18 rfl hS ?_;try simp only[jX]
 refine tL 20 rfl hS ?_;try simp only[jX]
 refine tL 21 rfl hS ?_;try simp only[jX]
 refine tL 22 rfl hS ?_;try simp only[jX]
 refine tL 23 rfl hS ?_;try simp only[jX]
 have hBd:Below w.heap.size w wq.drew:=qBq;generalize wq.drew=W0 at *;clear hBq x0 y0 x1 y1 x2 y2 x3 y3 x4 y4;refine fJm [(4,9),(9,14),(14,19),(19,24),(24,29),(25,30),(26,31)] (hrdG x y) (by kernel_rfl) hS (fun W W' h hb=>⟨cK hb h.1,cK hb h.2.1,cK hb h.2.2.1,cK hb h.2.2.2.1,cK hb h.2.2.2.2.1,cK hb h.2.2.2.2.2.1,cK hb h.2.2.2.2.2.2.1,cK hb h.2.2.2.2.2.2.2.1,cK hb h.2.2.2.2.2.2.2.2.1,cK hb h.2.2.2.2.2.2.2.2.2⟩) ?_ ?_ ?_
 ·
  intro p hp;simp only[List.mem_cons,List.not_mem_nil,or_false] at hp;rcases hp with rfl|rfl|rfl|rfl|rfl|rfl|rfl
  all_goals intro z z' lo hi W W' h hi' hb e he
  all_goals simp only[hrdG] at h ⊢
  all_goals rw[e]
  all_goals first
   | exact h
   | (obtain⟨b,h1,h2,h3,h4,h5,h6⟩:=h;exact⟨b,h1,cK hb h2,cK hb h3,cK hb h4,cK hb h5,cK hb h6⟩)
 ·
  intro p hp;simp only[List.mem_cons,List.not_mem_nil,or_false] at hp;rcases hp with rfl|rfl|rfl|rfl|rfl|rfl|rfl
  all_goals
   refine⟨_,rfl,rfl,?_⟩;intro z W lo hi hSW hBW hd hap K hK;clear hap
  iterate 5
   clear hd;refine⟨?_⟩;simp only[over,Act.put,jA,jB,jC,List.map_cons,List.map_nil,List.foldl_cons,List.foldl_nil,jD,jE,jF] at hK ⊢;go_simp;refine(fBu _ _ _).mono ?_;rintro e w' ⟨rfl,hw⟩;obtain rfl:=hw.symm;refine hK _ _ (Below.refl _ _) ?_;simp[hrdG,updV]
  ·
   have e1:=(hd (4,9) (by simp) (by kernel_rfl)).2;have e2:=(hd (9,14) (by simp) (by kernel_rfl)).2;have e3:=(hd (14,19) (by simp) (by kernel_rfl)).2;have e4:=(hd (19,24) (by simp) (by kernel_rfl)).2;have e5:=(hd (24,29) (by simp) (by kernel_rfl)).2;clear hd;simp only[hrdG] at e1 e2 e3 e4 e5;refine⟨?_⟩;simp only[over,Act.put,jA,jB,jC,List.map_cons,List.map_nil,List.foldl_cons,List.foldl_nil,jD,jE,jF] at hK ⊢;simp only[e1,e2,e3,e4,e5] at hK ⊢;go_simp;refine hK _ _ (qBq) ?_;simp only[hrdG,updV];exact⟨W.heap.size,by simp,by simp[go_sem],by simp[go_sem],by simp[go_sem],by simp[go_sem],by simp[go_sem]⟩
  have e1:=(hd (25,30) (by simp) (by kernel_rfl)).2;clear hd;simp only[hrdG] at e1;obtain⟨b,e1,h1,h2,h3,h4,h5⟩:=e1;refine⟨?_⟩;simp only[over,Act.put,jA,jB,jC,List.map_cons,List.map_nil,List.foldl_cons,List.foldl_nil,jD,jE,jF] at hK ⊢;simp only[e1] at hK ⊢;go_simp;refine(fU4 b 5 [cmpZ x.con y.con,cmpZ x.sh y.sh,cmpZ x.bal y.bal,cmpZ x.val y.val,cmpZ x.frm y.frm] _ rfl (by omega) (fun k hk=>?_)).mono ?_
  ·
   obtain rfl|rfl|rfl|rfl|rfl:k=0∨k=1∨k=2∨k=3∨k=4:=by omega
   ·
    exact h1
   ·
    exact h2
   ·
    exact h3
   ·
    exact h4
   exact h5
  rintro e w' ⟨rfl,hw⟩;obtain rfl:=hw.symm;rw[HF.out] at *;refine hK _ _ (Below.refl _ _) ?_;simp[hrdG,updV]
 refine⟨_,rfl,?_⟩;intro z W lo hi hSW hBW hd hap K hK;have h7:=(hd (26,31) (by simp)).2;clear hd hap;simp only[hrdG] at h7;have hB:Below w.heap.size w W:=bS hBd hBW;refine⟨?_⟩;simp only[over,Act.put,jA,jB,jC,List.map_cons,List.map_nil,List.foldl_cons,List.foldl_nil,jD,jE,jF] at hK ⊢;simp only[h7] at hK ⊢;go_simp;refine hK _ _ ?_;refine NoPanic.normal ?_;go_wp2;go_ret;exact⟨rfl,hB⟩
theorem fJ0 (i j:Int) (u v:Value) (a:Option Addr) (n c:Nat) (w:World) (hn:n≤9223372036854775807) (h:∀p,n=p+1→∃b o,a=some ⟨b,o,none⟩∧w.cell? ⟨b,o+p*2,none⟩=some (.int .i64 j)∧w.cell? ⟨b,o+p*2+1,none⟩=some (v)) :
  Calls Tryz.prog 206 #[.agg #[.int .i64 i,u],.slice a n c,.func (.func 207) #[] #[]] w fun e w'=>e = .returned (.bool (decide (n=0)||decide (cmpZ j i<0)))∧Below w.heap.size w w':=by
 have eg:=enters_of Tryz.func207 (by kernel_rfl) rfl;cases n with
 | zero=>
  clear h;go_enter Tryz.func206,Tryz.ntmps206;go_wp2;refine wp_region_noPanic ?_;refine fA (fun W=>W.cell? ⟨w.heap.size,0,none⟩=some (.int .i64 i)∧W.cell? ⟨w.heap.size,1,none⟩=some (u)) 16 (by kernel_rfl) ⟨by simp[go_sem],by simp[go_sem]⟩ (fun hS=>?_);refine tM 0 rfl hS ?_;try simp only[jX]
  refine tM 1 rfl hS ?_;try simp only[jX]
  refine tM 2 (v:=(.bool true)) rfl hS ?_;try simp only[jX]
  refine tM 3 rfl hS ?_;try simp only[jX]
  refine sN 4 rfl hS (fun _=>?_);try simp only[jX]
  refine sN 5 rfl hS (fun _=>?_);try simp only[jX]
  refine sN 6 rfl hS (fun _=>?_);try simp only[jX]
  refine sN 7 rfl hS (fun _=>?_);try simp only[jX]
  refine sN 8 rfl hS (fun _=>?_);try simp only[jX]
  refine sN 9 rfl hS (fun _=>?_);try simp only[jX]
  refine sN 10 rfl hS (fun _=>?_);try simp only[jX]
  refine sN 11 rfl hS (fun _=>?_);try simp only[jX]
  refine sN 12 rfl hS (fun _=>?_);try simp only[jX]
  refine sN 13 rfl hS (fun _=>?_);try simp only[jX]
  refine tM 14 rfl hS ?_;try simp only[jX]
  refine tM 15 rfl hS ?_;try simp only[jX]
  refine dN (NoPanic.normal ?_);go_wp2;go_ret;exact⟨rfl,qBq⟩
 | succ p=>
  obtain⟨b,o,rfl,g0,g1⟩:=h p rfl;clear h;have zb:b<w.heap.size:=wL w _ g0;have i1:(0:Int)≤(p:Int):=by omega
  have i2:(p:Int)<((p+1:Nat):Int):=by omega
  have i3:(((p+1:Nat):Int)==0)=false:=by rw[beq_eq_false_iff_ne];omega
  have i4:((p:Int)+1==0)=false:=by rw[beq_eq_false_iff_ne];omega
  have i5:IntKind.i64.wrap (((p+1:Nat):Int)-1)=(p:Int):=by rw[IntKind.wrap_i64];omega
  have i6:IntKind.i64.wrap ((p:Int)+1-1)=(p:Int):=by rw[IntKind.wrap_i64];omega
  have i7:¬((p:Int)+1=0):=by omega
  have i8:(p:Int)<(p:Int)+1:=by omega
  have w1':IntKind.i64.wrap (p:Int)=p:=gM (by omega) (by omega);rw[show(decide (p+1=0)||decide (cmpZ j i<0))=decide (cmpZ j i<0) by simp];go_enter Tryz.func206,Tryz.ntmps206;go_wp2;refine wp_region_noPanic ?_;refine fA (fun W=>W.cell? ⟨w.heap.size,0,none⟩=some (.int .i64 i)∧W.cell? ⟨w.heap.size,1,none⟩=some (u)∧W.cell? ⟨b,o+p*2,none⟩=some (.int .i64 j)∧W.cell? ⟨b,o+p*2+1,none⟩=some (v)) 16 (by kernel_rfl) ⟨by simp[go_sem],by simp[go_sem],cK (qBq) g0,cK (qBq) g1⟩ (fun hS=>?_);refine tM 0 rfl hS ?_;try simp only[jX]
  refine tM 1 rfl hS ?_;try simp only[jX]
  refine tM 2 (v:=(.bool false)) rfl hS ?_;try simp only[jX]
  refine tM 3 rfl hS ?_;try simp only[jX]
  refine tM 4 rfl hS ?_;try simp only[jX]
  refine tM 5 rfl hS ?_;try simp only[jX]
  refine tM 6 rfl hS ?_;try simp only[jX]
  refine tM 7 rfl hS ?_;try simp only[jX]
  refine tM 8 rfl hS ?_;try simp only[jX]
  refine tM 9 rfl hS ?_;try simp only[jX]
  refine tM 10 rfl hS ?_;try simp only[jX]
  refine tM 11 rfl hS ?_;try simp only[jX]
  refine uS 12 rfl (fun K hK=>?_);go_simp;refine(fDo _ _ _ _ _).mono ?_;rintro e w1 ⟨rfl,hb1⟩;have hB1:Below w.heap.size w w1:=bS (qBq) hb1;have hS1:=And.intro (cK hb1 hS.1) (And.intro (cK hb1 hS.2.1) (And.intro (cK hb1 hS.2.2.1) (cK hb1 hS.2.2.2)));refine hK _ _ (fun _=>hS1) ?_;clear hK K;try simp only[jX]
  refine tM 13 rfl hS1 ?_;try simp only[jX]
  refine tM 14 rfl hS1 ?_;try simp only[jX]
  refine tM 15 rfl hS1 ?_;try simp only[jX]
  refine dN (NoPanic.normal ?_);go_wp2;go_ret;exact⟨rfl,hB1⟩
theorem fJ2 (x y:Trr) (u v u' v':Value) (a:Option Addr) (n c:Nat) (w:World) (hn:n≤9223372036854775807) (h:∀p,n=p+1→∃b o,a=some ⟨b,o,none⟩∧w.cell? ⟨b,o+p*6,none⟩=some (.int .i64 y.con)∧w.cell? ⟨b,o+p*6+1,none⟩=some (.int .i64 y.sh)∧w.cell? ⟨b,o+p*6+2,none⟩=some (.int .i64 y.bal)∧w.cell? ⟨b,o+p*6+3,none⟩=some (.int .i64 y.val)∧w.cell? ⟨b,o+p*6+4,none⟩=some (u')∧w.cell? ⟨b,o+p*6+5,none⟩=some (v')) :
  Calls Tryz.prog 222 #[.agg #[.int .i64 x.con,.int .i64 x.sh,.int .i64 x.bal,.int .i64 x.val,u,v],.slice a n c,.func (.func 223) #[] #[]] w fun e w'=>e = .returned (.bool (decide (n=0)||decide (cmpT y x<0)))∧Below w.heap.size w w':=by
 have eg:=enters_of Tryz.func223 (by kernel_rfl) rfl;cases n with
 | zero=>
  clear h;go_enter Tryz.func222,Tryz.ntmps222;go_wp2;refine wp_region_noPanic ?_;refine fA (fun W=>W.cell? ⟨w.heap.size,0,none⟩=some (.int .i64 x.con)∧W.cell? ⟨w.heap.size,1,none⟩=some (.int .i64 x.sh)∧W.cell? ⟨w.heap.size,2,none⟩=some (.int .i64 x.bal)∧W.cell? ⟨w.heap.size,3,none⟩=some (.int .i64 x.val)∧W.cell? ⟨w.heap.size,4,none⟩=some (u)∧W.cell? ⟨w.heap.size,5,none⟩=some (v)) 16 (by kernel_rfl) ⟨by simp[go_sem],by simp[go_sem],by simp[go_sem],by simp[go_sem],by simp[go_sem],by simp[go_sem]⟩ (fun hS=>?_);refine tM 0 rfl hS ?_;try simp only[jX]
  refine tM 1 rfl hS ?_;try simp only[jX]
  refine tM 2 (v:=(.bool true)) rfl hS ?_;try simp only[jX]
  refine tM 3 rfl hS ?_;try simp only[jX]
  refine sN 4 rfl hS (fun _=>?_);try simp only[jX]
  refine sN 5 rfl hS (fun _=>?_);try simp only[jX]
  refine sN 6 rfl hS (fun _=>?_);try simp only[jX]
  refine sN 7 rfl hS (fun _=>?_);try simp only[jX]
  refine sN 8 rfl hS (fun _=>?_);try simp only[jX]
  refine sN 9 rfl hS (fun _=>?_);try simp only[jX]
  refine sN 10 rfl hS (fun _=>?_);try simp only[jX]
  refine sN 11 rfl hS (fun _=>?_);try simp only[jX]
  refine sN 12 rfl hS (fun _=>?_);try simp only[jX]
  refine sN 13 rfl hS (fun _=>?_);try simp only[jX]
  refine tM 14 rfl hS ?_;try simp only[jX]
  refine tM 15 rfl hS ?_;try simp only[jX]
  refine dN (NoPanic.normal ?_);go_wp2;go_ret;exact⟨rfl,qBq⟩
 | succ p=>
  obtain⟨b,o,rfl,g0,g1,g2,g3,g4,g5⟩:=h p rfl;clear h;have zb:b<w.heap.size:=wL w _ g0;have i1:(0:Int)≤(p:Int):=by omega
  have i2:(p:Int)<((p+1:Nat):Int):=by omega
  have i3:(((p+1:Nat):Int)==0)=false:=by rw[beq_eq_false_iff_ne];omega
  have i4:((p:Int)+1==0)=false:=by rw[beq_eq_false_iff_ne];omega
  have i5:IntKind.i64.wrap (((p+1:Nat):Int)-1)=(p:Int):=by rw[IntKind.wrap_i64];omega
  have i6:IntKind.i64.wrap ((p:Int)+1-1)=(p:Int):=by rw[IntKind.wrap_i64];omega
  have i7:¬((p:Int)+1=0):=by omega
  have i8:(p:Int)<(p:Int)+1:=by omega
  have w1':IntKind.i64.wrap (p:Int)=p:=gM (by omega) (by omega);rw[show(decide (p+1=0)||decide (cmpT y x<0))=decide (cmpT y x<0) by simp];go_enter Tryz.func222,Tryz.ntmps222;go_wp2;refine wp_region_noPanic ?_;refine fA (fun W=>W.cell? ⟨w.heap.size,0,none⟩=some (.int .i64 x.con)∧W.cell? ⟨w.heap.size,1,none⟩=some (.int .i64 x.sh)∧W.cell? ⟨w.heap.size,2,none⟩=some (.int .i64 x.bal)∧W.cell? ⟨w.heap.size,3,none⟩=some (.int .i64 x.val)∧W.cell? ⟨w.heap.size,4,none⟩=some (u)∧W.cell? ⟨w.heap.size,5,none⟩=some (v)∧W.cell? ⟨b,o+p*6,none⟩=some (.int .i64 y.con)∧W.cell? ⟨b,o+p*6+1,none⟩=some (.int .i64 y.sh)∧W.cell? ⟨b,o+p*6+2,none⟩=some (.int .i64 y.bal)∧W.cell? ⟨b,o+p*6+3,none⟩=some (.int .i64 y.val)∧W.cell? ⟨b,o+p*6+4,none⟩=some (u')∧W.cell? ⟨b,o+p*6+5,none⟩=some (v')) 16 (by kernel_rfl) ⟨by simp[go_sem],by simp[go_sem],by simp[go_sem],by simp[go_sem],by simp[go_sem],by simp[go_sem],cK (qBq) g0,cK (qBq) g1,cK (qBq) g2,cK (qBq) g3,cK (qBq) g4,cK (qBq) g5⟩ (fun hS=>?_);refine tM 0 rfl hS ?_;try simp only[jX]
  refine tM 1 rfl hS ?_;try simp only[jX]
  refine tM 2 (v:=(.bool false)) rfl hS ?_;try simp only[jX]
  refine tM 3 rfl hS ?_;try simp only[jX]
  refine tM 4 rfl hS ?_;try simp only[jX]
  refine tM 5 rfl hS ?_;try simp only[jX]
  refine tM 6 rfl hS ?_;try simp only[jX]
  refine tM 7 rfl hS ?_;try simp only[jX]
  refine tM 8 rfl hS ?_;try simp only[jX]
  refine tM 9 rfl hS ?_;try simp only[jX]
  refine tM 10 rfl hS ?_;try simp only[jX]
  refine tM 11 rfl hS ?_;try simp only[jX]
  refine uS 12 rfl (fun K hK=>?_);go_simp;refine(fBi y x _ _ _ _ _).mono ?_;rintro e w1 ⟨rfl,hb1⟩;have hB1:Below w.heap.size w w1:=bS (qBq) hb1;have hS1:=And.intro (cK hb1 hS.1) (And.intro (cK hb1 hS.2.1) (And.intro (cK hb1 hS.2.2.1) (And.intro (cK hb1 hS.2.2.2.1) (And.intro (cK hb1 hS.2.2.2.2.1) (And.intro (cK hb1 hS.2.2.2.2.2.1) (And.intro (cK hb1 hS.2.2.2.2.2.2.1) (And.intro (cK hb1 hS.2.2.2.2.2.2.2.1) (And.intro (cK hb1 hS.2.2.2.2.2.2.2.2.1) (And.intro (cK hb1 hS.2.2.2.2.2.2.2.2.2.1) (And.intro (cK hb1 hS.2.2.2.2.2.2.2.2.2.2.1) (cK hb1 hS.2.2.2.2.2.2.2.2.2.2.2)))))))))));refine hK _ _ (fun _=>hS1) ?_;clear hK K;try simp only[jX]
  refine tM 13 rfl hS1 ?_;try simp only[jX]
  refine tM 14 rfl hS1 ?_;try simp only[jX]
  refine tM 15 rfl hS1 ?_;try simp only[jX]
  refine dN (NoPanic.normal ?_);go_wp2;go_ret;exact⟨rfl,hB1⟩
theorem fJ1 (x y:Hrd) (a:Option Addr) (n c:Nat) (w:World) (hn:n≤9223372036854775807) (h:∀p,n=p+1→∃b o,a=some ⟨b,o,none⟩∧w.cell? ⟨b,o+p*5,none⟩=some (.int .i64 y.con)∧w.cell? ⟨b,o+p*5+1,none⟩=some (.int .i64 y.sh)∧w.cell? ⟨b,o+p*5+2,none⟩=some (.int .i64 y.bal)∧w.cell? ⟨b,o+p*5+3,none⟩=some (.int .i64 y.val)∧w.cell? ⟨b,o+p*5+4,none⟩=some (.int .i64 y.frm)) :
  Calls Tryz.prog 230 #[.agg #[.int .i64 x.con,.int .i64 x.sh,.int .i64 x.bal,.int .i64 x.val,.int .i64 x.frm],.slice a n c,.func (.func 231) #[] #[]] w fun e w'=>e = .returned (.bool (decide (n=0)||decide (cmpH y x<0)))∧Below w.heap.size w w':=by
 have eg:=enters_of Tryz.func231 (by kernel_rfl) rfl;cases n with
 | zero=>
  clear h;go_enter Tryz.func230,Tryz.ntmps230;go_wp2;refine wp_region_noPanic ?_;refine fA (fun W=>W.cell? ⟨w.heap.size,0,none⟩=some (.int .i64 x.con)∧W.cell? ⟨w.heap.size,1,none⟩=some (.int .i64 x.sh)∧W.cell? ⟨w.heap.size,2,none⟩=some (.int .i64 x.bal)∧W.cell? ⟨w.heap.size,3,none⟩=some (.int .i64 x.val)∧W.cell? ⟨w.heap.size,4,none⟩=some (.int .i64 x.frm)) 16 (by kernel_rfl) ⟨by simp[go_sem],by simp[go_sem],by simp[go_sem],by simp[go_sem],by simp[go_sem]⟩ (fun hS=>?_);refine tM 0 rfl hS ?_;try simp only[jX]
  refine tM 1 rfl hS ?_;try simp only[jX]
  refine tM 2 (v:=(.bool true)) rfl hS ?_;try simp only[jX]
  refine tM 3 rfl hS ?_;try simp only[jX]
  refine sN 4 rfl hS (fun _=>?_);try simp only[jX]
  refine sN 5 rfl hS (fun _=>?_);try simp only[jX]
  refine sN 6 rfl hS (fun _=>?_);try simp only[jX]
  refine sN 7 rfl hS (fun _=>?_);try simp only[jX]
  refine sN 8 rfl hS (fun _=>?_);try simp only[jX]
  refine sN 9 rfl hS (fun _=>?_);try simp only[jX]
  refine sN 10 rfl hS (fun _=>?_);try simp only[jX]
  refine sN 11 rfl hS (fun _=>?_);try simp only[jX]
  refine sN 12 rfl hS (fun _=>?_);try simp only[jX]
  refine sN 13 rfl hS (fun _=>?_);try simp only[jX]
  refine tM 14 rfl hS ?_;try simp only[jX]
  refine tM 15 rfl hS ?_;try simp only[jX]
  refine dN (NoPanic.normal ?_);go_wp2;go_ret;exact⟨rfl,qBq⟩
 | succ p=>
  obtain⟨b,o,rfl,g0,g1,g2,g3,g4⟩:=h p rfl;clear h;have zb:b<w.heap.size:=wL w _ g0;have i1:(0:Int)≤(p:Int):=by omega
  have i2:(p:Int)<((p+1:Nat):Int):=by omega
  have i3:(((p+1:Nat):Int)==0)=false:=by rw[beq_eq_false_iff_ne];omega
  have i4:((p:Int)+1==0)=false:=by rw[beq_eq_false_iff_ne];omega
  have i5:IntKind.i64.wrap (((p+1:Nat):Int)-1)=(p:Int):=by rw[IntKind.wrap_i64];omega
  have i6:IntKind.i64.wrap ((p:Int)+1-1)=(p:Int):=by rw[IntKind.wrap_i64];omega
  have i7:¬((p:Int)+1=0):=by omega
  have i8:(p:Int)<(p:Int)+1:=by omega
  have w1':IntKind.i64.wrap (p:Int)=p:=gM (by omega) (by omega);rw[show(decide (p+1=0)||decide (cmpH y x<0))=decide (cmpH y x<0) by simp];go_enter Tryz.func230,Tryz.ntmps230;go_wp2;refine wp_region_noPanic ?_;refine fA (fun W=>W.cell? ⟨w.heap.size,0,none⟩=some (.int .i64 x.con)∧W.cell? ⟨w.heap.size,1,none⟩=some (.int .i64 x.sh)∧W.cell? ⟨w.heap.size,2,none⟩=some (.int .i64 x.bal)∧W.cell? ⟨w.heap.size,3,none⟩=some (.int .i64 x.val)∧W.cell? ⟨w.heap.size,4,none⟩=some (.int .i64 x.frm)∧W.cell? ⟨b,o+p*5,none⟩=some (.int .i64 y.con)∧W.cell? ⟨b,o+p*5+1,none⟩=some (.int .i64 y.sh)∧W.cell? ⟨b,o+p*5+2,none⟩=some (.int .i64 y.bal)∧W.cell? ⟨b,o+p*5+3,none⟩=some (.int .i64 y.val)∧W.cell? ⟨b,o+p*5+4,none⟩=some (.int .i64 y.frm)) 16 (by kernel_rfl) ⟨by simp[go_sem],by simp[go_sem],by simp[go_sem],by simp[go_sem],by simp[go_sem],cK (qBq) g0,cK (qBq) g1,cK (qBq) g2,cK (qBq) g3,cK (qBq) g4⟩ (fun hS=>?_);refine tM 0 rfl hS ?_;try simp only[jX]
  refine tM 1 rfl hS ?_;try simp only[jX]
  refine tM 2 (v:=(.bool false)) rfl hS ?_;try simp only[jX]
  refine tM 3 rfl hS ?_;try simp only[jX]
  refine tM 4 rfl hS ?_;try simp only[jX]
  refine tM 5 rfl hS ?_;try simp only[jX]
  refine tM 6 rfl hS ?_;try simp only[jX]
  refine tM 7 rfl hS ?_;try simp only[jX]
  refine tM 8 rfl hS ?_;try simp only[jX]
  refine tM 9 rfl hS ?_;try simp only[jX]
  refine tM 10 rfl hS ?_;try simp only[jX]
  refine tM 11 rfl hS ?_;try simp only[jX]
  refine uS 12 rfl (fun K hK=>?_);go_simp;refine(fBh y x _).mono ?_;rintro e w1 ⟨rfl,hb1⟩;have hB1:Below w.heap.size w w1:=bS (qBq) hb1;have hS1:=And.intro (cK hb1 hS.1) (And.intro (cK hb1 hS.2.1) (And.intro (cK hb1 hS.2.2.1) (And.intro (cK hb1 hS.2.2.2.1) (And.intro (cK hb1 hS.2.2.2.2.1) (And.intro (cK hb1 hS.2.2.2.2.2.1) (And.intro (cK hb1 hS.2.2.2.2.2.2.1) (And.intro (cK hb1 hS.2.2.2.2.2.2.2.1) (And.intro (cK hb1 hS.2.2.2.2.2.2.2.2.1) (cK hb1 hS.2.2.2.2.2.2.2.2.2)))))))));refine hK _ _ (fun _=>hS1) ?_;clear hK K;try simp only[jX]
  refine tM 13 rfl hS1 ?_;try simp only[jX]
  refine tM 14 rfl hS1 ?_;try simp only[jX]
  refine tM 15 rfl hS1 ?_;try simp only[jX]
  refine dN (NoPanic.normal ?_);go_wp2;go_ret;exact⟨rfl,hB1⟩
theorem zN {w:World} {a:Option Addr} {n c:Nat} {xs:List Hrd} (hx:hrdsR.V w (.slice a n c) xs):xs.length=n∧n≤c∧c≤maxLen∧∀k,k<n→∃b o,a=some ⟨b,o,none⟩∧w.cell? ⟨b,o+k*5,none⟩=some (.int .i64 (xs.getD k default).con)∧w.cell? ⟨b,o+k*5+1,none⟩=some (.int .i64 (xs.getD k default).sh)∧w.cell? ⟨b,o+k*5+2,none⟩=some (.int .i64 (xs.getD k default).bal)∧w.cell? ⟨b,o+k*5+3,none⟩=some (.int .i64 (xs.getD k default).val)∧w.cell? ⟨b,o+k*5+4,none⟩=some (.int .i64 (xs.getD k default).frm):=by
 obtain⟨a',c',e,h1,h2,h3⟩:=hx;simp only[Value.slice.injEq] at e;obtain⟨rfl,rfl,rfl⟩:=e;exact⟨rfl,h1,h2,fun k hk=>h3 k hk⟩
theorem fNx (x:Value) (c:Clu) (gf:Nat) (ff:Nat→Int) (a:Option Addr) (n cc:Nat) (xs:List Cont) (w:World) (hx:cluR.V w x c) (eg:∀args w,(callFunc gf args).run Tryz.prog w = .ok (.enter gf args) w) (hx0:contsR.V w (.slice a n cc) xs) (hlen:xs.length=n)
  (hf:∀k,k<n→(∀W item,Below w.heap.size w W→contR.V W item (xs.getD k default)→Calls Tryz.prog gf #[x,.slice a k cc,item] W fun e w'=>e = .returned (.int .i64 (ff k))∧Below W.heap.size W w')) :
  Calls Tryz.prog 144 #[x,.slice a n cc,.func (.func gf) #[] #[]] w fun e w'=>e = .returned (.int .i64 (fC ff n))∧Below w.heap.size w w':=by
 obtain⟨a0,a1,a2,a3,a4,c0,c1,c2,c3,c4,n0,n1,n2,n3,n4,rfl,e0,e1,e2,e3,e4,L0,L1,L2,L3,L4⟩:=gL hx;clear e0 e1 e2 e3 e4 L0 L1 L2 L3 L4 hx;subst hlen;have HA:=mY hx0;clear hx0;obtain⟨hnc,hmc,HA⟩:=HA;have HX:Hid _:=HA;clear HA;unfold maxLen at hmc;have HF:Hid _:=hf;clear hf;have H1:Hid (∀k,k<xs.length→fC ff k=0→¬ff k=0→fC ff xs.length=ff k):=fun k hk hs h0=>fH hs h0 _ hk
 have H2:Hid (fC ff xs.length=fC ff xs.length):=rfl;obtain⟨R,hR⟩:∃R,R=fC ff xs.length:=⟨_,rfl⟩
 rw[←hR] at H1 H2 ⊢;have HR:Hid (fC ff xs.length=R):=hR.symm;clear hR H2;obtain⟨n,hn⟩:∃n,n=xs.length:=⟨_,rfl⟩
 rw[←hn] at HX HF H1 HR hnc ⊢;clear hn;go_enter Tryz.func144,Tryz.ntmps144;go_wp2;go_loopw [12] (fun i w'=>∃k:Nat,k≤n∧i = .int .i64 k∧Hid (fC ff k=0)∧(w'.cell? ⟨w.heap.size,0,none⟩=some (.slice a0 n0 c0)∧w'.cell? ⟨w.heap.size,1,none⟩=some (.slice a1 n1 c1)∧w'.cell? ⟨w.heap.size,2,none⟩=some (.slice a2 n2 c2)∧w'.cell? ⟨w.heap.size,3,none⟩=some (.slice a3 n3 c3)∧w'.cell? ⟨w.heap.size,4,none⟩=some (.slice a4 n4 c4))∧Below w.heap.size w w') (fun i _=>n-(intOf i).toNat)
 case atStart=>exact⟨0,Nat.zero_le _,rfl,rfl,⟨by simp[go_sem],by simp[go_sem],by simp[go_sem],by simp[go_sem],by simp[go_sem]⟩,qBq⟩
 obtain⟨k,hk,rfl,HS,⟨y0,y1,y2,y3,y4⟩,hbl⟩:=hrel;have zq:w.heap.size<wr.heap.size:=wL wr _ y0;by_cases hlt:k<n
 ·
  have HA:=HX.out k hlt;have hF:=HF.out k hlt;have HH:Hid (¬ff k=0→R=ff k):=fun h=>H1.out k hlt HS.out h
  have HZ:Hid (ff k=0→fC ff (k+1)=0):=fun h=>fD HS.out h
  obtain⟨l,hl0⟩:∃l,l=xs.getD k default:=⟨_,rfl⟩
  rw[←hl0] at HA hF;clear hl0;obtain⟨b,o,p,q,rfl,g0,g1,hl⟩:=HA;have HC:Hid (∀W,Below w.heap.size w W→Calls Tryz.prog gf #[.agg #[.slice a0 n0 c0,.slice a1 n1 c1,.slice a2 n2 c2,.slice a3 n3 c3,.slice a4 n4 c4],.slice (some ⟨b,o,none⟩) k cc,.agg #[.int .i64 l.id,.slice p l.legs.length q]] W fun e w'=>e = .returned (.int .i64 (ff k))∧Below W.heap.size W w'):=fun W hW=>hF W _ hW (contR.below ⟨_,rfl,hl⟩ hW)
  clear hF;replace g0:=cK hbl g0;replace g1:=cK hbl g1;have zb:b<wr.heap.size:=wL wr _ g0;have hti:(k:Int)<(n:Int):=by omega
  have hi0:(0:Int)≤(k:Int):=by omega
  have hi1:(k:Int)≤(cc:Int):=by omega
  have w1':IntKind.i64.wrap (k:Int)=k:=gM (by omega) (by omega);clear hl;generalize ff k=z at *;go_wp2;refine wp_region_noPanic ?_;refine fA (fun W=>W.cell? ⟨w.heap.size,0,none⟩=some (.slice a0 n0 c0)∧W.cell? ⟨w.heap.size,1,none⟩=some (.slice a1 n1 c1)∧W.cell? ⟨w.heap.size,2,none⟩=some (.slice a2 n2 c2)∧W.cell? ⟨w.heap.size,3,none⟩=some (.slice a3 n3 c3)∧W.cell? ⟨w.heap.size,4,none⟩=some (.slice a4 n4 c4)∧W.cell? ⟨wr.heap.size,0,none⟩=some (.int .i64 l.id)∧W.cell? ⟨wr.heap.size,1,none⟩=some (.slice p l.legs.length q)) 8 (by kernel_rfl) ⟨cK (qBq) y0,cK (qBq) y1,cK (qBq) y2,cK (qBq) y3,cK (qBq) y4,by simp[go_sem],by simp[go_sem]⟩ (fun hS=>?_);refine tM 0 rfl hS ?_;try simp only[jX]
  refine tM 1 rfl hS ?_;try simp only[jX]
  refine tM 2 rfl hS ?_;try simp only[jX]
  refine tM 3 rfl hS ?_;try simp only[jX]
  refine tM 4 rfl hS ?_;try simp only[jX]
  refine tM 5 rfl hS ?_;try simp only[jX]
  refine uS 6 rfl (fun K hK=>?_);go_simp;refine(HC.out _ (qBq)).mono ?_;rintro e w1 ⟨rfl,hb1⟩;have hB1:Below w.heap.size w w1:=bS (qBq) hb1;have hS1:=And.intro (cK hb1 hS.1) (And.intro (cK hb1 hS.2.1) (And.intro (cK hb1 hS.2.2.1) (And.intro (cK hb1 hS.2.2.2.1) (And.intro (cK hb1 hS.2.2.2.2.1) (And.intro (cK hb1 hS.2.2.2.2.2.1) (cK hb1 hS.2.2.2.2.2.2))))));refine hK _ _ (fun _=>hS1) ?_;clear hK K;try simp only[jX]
  refine tM 7 rfl hS1 ?_;try simp only[jX]
  refine dN (NoPanic.normal ?_);have Y:w1.cell? ⟨w.heap.size,0,none⟩=some (.slice a0 n0 c0)∧w1.cell? ⟨w.heap.size,1,none⟩=some (.slice a1 n1 c1)∧w1.cell? ⟨w.heap.size,2,none⟩=some (.slice a2 n2 c2)∧w1.cell? ⟨w.heap.size,3,none⟩=some (.slice a3 n3 c3)∧w1.cell? ⟨w.heap.size,4,none⟩=some (.slice a4 n4 c4):=⟨hS1.1,hS1.2.1,hS1.2.2.1,hS1.2.2.2.1,hS1.2.2.2.2.1⟩;clear hS hS1 hb1;by_cases hz:z=0
  ·
   subst hz;have HQ:Hid _:=HZ.out rfl;clear HZ HH;go_wp2;exact⟨⟨k+1,by omega,by go_num,HQ,Y,hB1⟩,by simp[intOf];omega⟩
  have HC:Hid _:=HH.out hz;have hz':(z !=0)=true:=by simp[hz]
  clear HZ HH;go_wp2;go_ret;exact⟨by rw[HC.out];rfl,hB1⟩
 obtain rfl:k=n:=by omega
 have hti:¬(k:Int)<(k:Int):=by omega
 have HC:Hid (R=0):=by show _=_;rw[←HR.out];exact HS.out
 go_wp2;go_ret;exact⟨by rw[HC.out];rfl,hbl⟩
theorem fNz (x:Value) (c:Clu) (gf:Nat) (ff:Nat→Int) (a:Option Addr) (n cc:Nat) (xs:List Trr) (w:World) (hx:cluR.V w x c) (eg:∀args w,(callFunc gf args).run Tryz.prog w = .ok (.enter gf args) w) (hx0:trysR.V w (.slice a n cc) xs) (hlen:xs.length=n)
  (hf:∀k,k<n→(∀W item,Below w.heap.size w W→trrR.V W item (xs.getD k default)→Calls Tryz.prog gf #[x,.slice a k cc,item] W fun e w'=>e = .returned (.int .i64 (ff k))∧Below W.heap.size W w')) :
  Calls Tryz.prog 153 #[x,.slice a n cc,.func (.func gf) #[] #[]] w fun e w'=>e = .returned (.int .i64 (fC ff n))∧Below w.heap.size w w':=by
 obtain⟨a0,a1,a2,a3,a4,c0,c1,c2,c3,c4,n0,n1,n2,n3,n4,rfl,e0,e1,e2,e3,e4,L0,L1,L2,L3,L4⟩:=gL hx;clear e0 e1 e2 e3 e4 L0 L1 L2 L3 L4 hx;subst hlen;have HA:=fDd hx0;clear hx0;obtain⟨_,hnc,hmc,HA⟩:=HA;have HX:Hid _:=HA;clear HA;unfold maxLen at hmc;have HF:Hid _:=hf;clear hf;have H1:Hid (∀k,k<xs.length→fC ff k=0→¬ff k=0→fC ff xs.length=ff k):=fun k hk hs h0=>fH hs h0 _ hk
 have H2:Hid (fC ff xs.length=fC ff xs.length):=rfl;obtain⟨R,hR⟩:∃R,R=fC ff xs.length:=⟨_,rfl⟩
 rw[←hR] at H1 H2 ⊢;have HR:Hid (fC ff xs.length=R):=hR.symm;clear hR H2;obtain⟨n,hn⟩:∃n,n=xs.length:=⟨_,rfl⟩
 rw[←hn] at HX HF H1 HR hnc ⊢;clear hn;go_enter Tryz.func153,Tryz.ntmps153;go_wp2;go_loopw [12] (fun i w'=>∃k:Nat,k≤n∧i = .int .i64 k∧Hid (fC ff k=0)∧(w'.cell? ⟨w.heap.size,0,none⟩=some (.slice a0 n0 c0)∧w'.cell? ⟨w.heap.size,1,none⟩=some (.slice a1 n1 c1)∧w'.cell? ⟨w.heap.size,2,none⟩=some (.slice a2 n2 c2)∧w'.cell? ⟨w.heap.size,3,none⟩=some (.slice a3 n3 c3)∧w'.cell? ⟨w.heap.size,4,none⟩=some (.slice a4 n4 c4))∧Below w.heap.size w w') (fun i _=>n-(intOf i).toNat)
 case atStart=>exact⟨0,Nat.zero_le _,rfl,rfl,⟨by simp[go_sem],by simp[go_sem],by simp[go_sem],by simp[go_sem],by simp[go_sem]⟩,qBq⟩
 obtain⟨k,hk,rfl,HS,⟨y0,y1,y2,y3,y4⟩,hbl⟩:=hrel;have zq:w.heap.size<wr.heap.size:=wL wr _ y0;by_cases hlt:k<n
 ·
  have HA:=HX.out k hlt;have hF:=HF.out k hlt;have HH:Hid (¬ff k=0→R=ff k):=fun h=>H1.out k hlt HS.out h
  have HZ:Hid (ff k=0→fC ff (k+1)=0):=fun h=>fD HS.out h
  obtain⟨l,hl0⟩:∃l,l=xs.getD k default:=⟨_,rfl⟩
  rw[←hl0] at HA hF;clear hl0;obtain⟨b,o,p,q,p',q',rfl,g0,g1,g2,g3,g4,g5,hi,hv⟩:=HA;have HC:Hid (∀W,Below w.heap.size w W→Calls Tryz.prog gf #[.agg #[.slice a0 n0 c0,.slice a1 n1 c1,.slice a2 n2 c2,.slice a3 n3 c3,.slice a4 n4 c4],.slice (some ⟨b,o,none⟩) k cc,.agg #[.int .i64 l.con,.int .i64 l.sh,.int .i64 l.bal,.int .i64 l.val,.slice p l.frm.length q,.slice p' l.olds.length q']] W fun e w'=>e = .returned (.int .i64 (ff k))∧Below W.heap.size W w'):=fun W hW=>hF W _ hW (trrR.below ⟨_,_,rfl,hi,hv⟩ hW)
  clear hF;replace g0:=cK hbl g0;replace g1:=cK hbl g1;replace g2:=cK hbl g2;replace g3:=cK hbl g3;replace g4:=cK hbl g4;replace g5:=cK hbl g5;have zb:b<wr.heap.size:=wL wr _ g0;have hti:(k:Int)<(n:Int):=by omega
  have hi0:(0:Int)≤(k:Int):=by omega
  have hi1:(k:Int)≤(cc:Int):=by omega
  have w1':IntKind.i64.wrap (k:Int)=k:=gM (by omega) (by omega);clear hi hv;generalize ff k=z at *;go_wp2;refine wp_region_noPanic ?_;refine fA (fun W=>W.cell? ⟨w.heap.size,0,none⟩=some (.slice a0 n0 c0)∧W.cell? ⟨w.heap.size,1,none⟩=some (.slice a1 n1 c1)∧W.cell? ⟨w.heap.size,2,none⟩=some (.slice a2 n2 c2)∧W.cell? ⟨w.heap.size,3,none⟩=some (.slice a3 n3 c3)∧W.cell? ⟨w.heap.size,4,none⟩=some (.slice a4 n4 c4)∧W.cell? ⟨wr.heap.size,0,none⟩=some (.int .i64 l.con)∧W.cell? ⟨wr.heap.size,1,none⟩=some (.int .i64 l.sh)∧W.cell? ⟨wr.heap.size,2,none⟩=some (.int .i64 l.bal)∧W.cell? ⟨wr.heap.size,3,none⟩=some (.int .i64 l.val)∧W.cell? ⟨wr.heap.size,4,none⟩=some (.slice p l.frm.length q)∧W.cell? ⟨wr.heap.size,5,none⟩=some (.slice p' l.olds.length q')) 8 (by kernel_rfl) ⟨cK (qBq) y0,cK (qBq) y1,cK (qBq) y2,cK (qBq) y3,cK (qBq) y4,by simp[go_sem],by simp[go_sem],by simp[go_sem],by simp[go_sem],by simp[go_sem],by simp[go_sem]⟩ (fun hS=>?_);refine tM 0 rfl hS ?_;try simp only[jX]
  refine tM 1 rfl hS ?_;try simp only[jX]
  refine tM 2 rfl hS ?_;try simp only[jX]
  refine tM 3 rfl hS ?_;try simp only[jX]
  refine tM 4 rfl hS ?_;try simp only[jX]
  refine tM 5 rfl hS ?_;try simp only[jX]
  refine uS 6 rfl (fun K hK=>?_);go_simp;refine(HC.out _ (qBq)).mono ?_;rintro e w1 ⟨rfl,hb1⟩;have hB1:Below w.heap.size w w1:=bS (qBq) hb1;have hS1:=And.intro (cK hb1 hS.1) (And.intro (cK hb1 hS.2.1) (And.intro (cK hb1 hS.2.2.1) (And.intro (cK hb1 hS.2.2.2.1) (And.intro (cK hb1 hS.2.2.2.2.1) (And.intro (cK hb1 hS.2.2.2.2.2.1) (And.intro (cK hb1 hS.2.2.2.2.2.2.1) (And.intro (cK hb1 hS.2.2.2.2.2.2.2.1) (And.intro (cK hb1 hS.2.2.2.2.2.2.2.2.1) (And.intro (cK hb1 hS.2.2.2.2.2.2.2.2.2.1) (cK hb1 hS.2.2.2.2.2.2.2.2.2.2))))))))));refine hK _ _ (fun _=>hS1) ?_;clear hK K;try simp only[jX]
  refine tM 7 rfl hS1 ?_;try simp only[jX]
  refine dN (NoPanic.normal ?_);have Y:w1.cell? ⟨w.heap.size,0,none⟩=some (.slice a0 n0 c0)∧w1.cell? ⟨w.heap.size,1,none⟩=some (.slice a1 n1 c1)∧w1.cell? ⟨w.heap.size,2,none⟩=some (.slice a2 n2 c2)∧w1.cell? ⟨w.heap.size,3,none⟩=some (.slice a3 n3 c3)∧w1.cell? ⟨w.heap.size,4,none⟩=some (.slice a4 n4 c4):=⟨hS1.1,hS1.2.1,hS1.2.2.1,hS1.2.2.2.1,hS1.2.2.2.2.1⟩;clear hS hS1 hb1;by_cases hz:z=0
  ·
   subst hz;have HQ:Hid _:=HZ.out rfl;clear HZ HH;go_wp2;exact⟨⟨k+1,by omega,by go_num,HQ,Y,hB1⟩,by simp[intOf];omega⟩
  have HC:Hid _:=HH.out hz;have hz':(z !=0)=true:=by simp[hz]
  clear HZ HH;go_wp2;go_ret;exact⟨by rw[HC.out];rfl,hB1⟩
 obtain rfl:k=n:=by omega
 have hti:¬(k:Int)<(k:Int):=by omega
 have HC:Hid (R=0):=by show _=_;rw[←HR.out];exact HS.out
 go_wp2;go_ret;exact⟨by rw[HC.out];rfl,hbl⟩
theorem fNy (x:Value) (c:Clu) (gf:Nat) (ff:Nat→Int) (a:Option Addr) (n cc:Nat) (xs:List Hrd) (w:World) (hx:cluR.V w x c) (eg:∀args w,(callFunc gf args).run Tryz.prog w = .ok (.enter gf args) w) (hx0:hrdsR.V w (.slice a n cc) xs) (hlen:xs.length=n)
  (hf:∀k,k<n→(∀W item,Below w.heap.size w W→item=hrdV (xs.getD k default)→Calls Tryz.prog gf #[x,.slice a k cc,item] W fun e w'=>e = .returned (.int .i64 (ff k))∧Below W.heap.size W w')) :
  Calls Tryz.prog 155 #[x,.slice a n cc,.func (.func gf) #[] #[]] w fun e w'=>e = .returned (.int .i64 (fC ff n))∧Below w.heap.size w w':=by
 obtain⟨a0,a1,a2,a3,a4,c0,c1,c2,c3,c4,n0,n1,n2,n3,n4,rfl,e0,e1,e2,e3,e4,L0,L1,L2,L3,L4⟩:=gL hx;clear e0 e1 e2 e3 e4 L0 L1 L2 L3 L4 hx;subst hlen;have HA:=zN hx0;clear hx0;obtain⟨_,hnc,hmc,HA⟩:=HA;have HX:Hid _:=HA;clear HA;unfold maxLen at hmc;have HF:Hid _:=hf;clear hf;have H1:Hid (∀k,k<xs.length→fC ff k=0→¬ff k=0→fC ff xs.length=ff k):=fun k hk hs h0=>fH hs h0 _ hk
 have H2:Hid (fC ff xs.length=fC ff xs.length):=rfl;obtain⟨R,hR⟩:∃R,R=fC ff xs.length:=⟨_,rfl⟩
 rw[←hR] at H1 H2 ⊢;have HR:Hid (fC ff xs.length=R):=hR.symm;clear hR H2;obtain⟨n,hn⟩:∃n,n=xs.length:=⟨_,rfl⟩
 rw[←hn] at HX HF H1 HR hnc ⊢;clear hn;go_enter Tryz.func155,Tryz.ntmps155;go_wp2;go_loopw [12] (fun i w'=>∃k:Nat,k≤n∧i = .int .i64 k∧Hid (fC ff k=0)∧(w'.cell? ⟨w.heap.size,0,none⟩=some (.slice a0 n0 c0)∧w'.cell? ⟨w.heap.size,1,none⟩=some (.slice a1 n1 c1)∧w'.cell? ⟨w.heap.size,2,none⟩=some (.slice a2 n2 c2)∧w'.cell? ⟨w.heap.size,3,none⟩=some (.slice a3 n3 c3)∧w'.cell? ⟨w.heap.size,4,none⟩=some (.slice a4 n4 c4))∧Below w.heap.size w w') (fun i _=>n-(intOf i).toNat)
 case atStart=>exact⟨0,Nat.zero_le _,rfl,rfl,⟨by simp[go_sem],by simp[go_sem],by simp[go_sem],by simp[go_sem],by simp[go_sem]⟩,qBq⟩
 obtain⟨k,hk,rfl,HS,⟨y0,y1,y2,y3,y4⟩,hbl⟩:=hrel;have zq:w.heap.size<wr.heap.size:=wL wr _ y0;by_cases hlt:k<n
 ·
  have HA:=HX.out k hlt;have hF:=HF.out k hlt;have HH:Hid (¬ff k=0→R=ff k):=fun h=>H1.out k hlt HS.out h
  have HZ:Hid (ff k=0→fC ff (k+1)=0):=fun h=>fD HS.out h
  obtain⟨l,hl0⟩:∃l,l=xs.getD k default:=⟨_,rfl⟩
  rw[←hl0] at HA hF;clear hl0;obtain⟨b,o,rfl,g0,g1,g2,g3,g4⟩:=HA;have HC:Hid (∀W,Below w.heap.size w W→Calls Tryz.prog gf #[.agg #[.slice a0 n0 c0,.slice a1 n1 c1,.slice a2 n2 c2,.slice a3 n3 c3,.slice a4 n4 c4],.slice (some ⟨b,o,none⟩) k cc,.agg #[.int .i64 l.con,.int .i64 l.sh,.int .i64 l.bal,.int .i64 l.val,.int .i64 l.frm]] W fun e w'=>e = .returned (.int .i64 (ff k))∧Below W.heap.size W w'):=fun W hW=>hF W _ hW rfl
  clear hF;replace g0:=cK hbl g0;replace g1:=cK hbl g1;replace g2:=cK hbl g2;replace g3:=cK hbl g3;replace g4:=cK hbl g4;have zb:b<wr.heap.size:=wL wr _ g0;have hti:(k:Int)<(n:Int):=by omega
  have hi0:(0:Int)≤(k:Int):=by omega
  have hi1:(k:Int)≤(cc:Int):=by omega
  have w1':IntKind.i64.wrap (k:Int)=k:=gM (by omega) (by omega);skip;generalize ff k=z at *;go_wp2;refine wp_region_noPanic ?_;refine fA (fun W=>W.cell? ⟨w.heap.size,0,none⟩=some (.slice a0 n0 c0)∧W.cell? ⟨w.heap.size,1,none⟩=some (.slice a1 n1 c1)∧W.cell? ⟨w.heap.size,2,none⟩=some (.slice a2 n2 c2)∧W.cell? ⟨w.heap.size,3,none⟩=some (.slice a3 n3 c3)∧W.cell? ⟨w.heap.size,4,none⟩=some (.slice a4 n4 c4)∧W.cell? ⟨wr.heap.size,0,none⟩=some (.int .i64 l.con)∧W.cell? ⟨wr.heap.size,1,none⟩=some (.int .i64 l.sh)∧W.cell? ⟨wr.heap.size,2,none⟩=some (.int .i64 l.bal)∧W.cell? ⟨wr.heap.size,3,none⟩=some (.int .i64 l.val)∧W.cell? ⟨wr.heap.size,4,none⟩=some (.int .i64 l.frm)) 8 (by kernel_rfl) ⟨cK (qBq) y0,cK (qBq) y1,cK (qBq) y2,cK (qBq) y3,cK (qBq) y4,by simp[go_sem],by simp[go_sem],by simp[go_sem],by simp[go_sem],by simp[go_sem]⟩ (fun hS=>?_);refine tM 0 rfl hS ?_;try simp only[jX]
  refine tM 1 rfl hS ?_;try simp only[jX]
  refine tM 2 rfl hS ?_;try simp only[jX]
  refine tM 3 rfl hS ?_;try simp only[jX]
  refine tM 4 rfl hS ?_;try simp only[jX]
  refine tM 5 rfl hS ?_;try simp only[jX]
  refine uS 6 rfl (fun K hK=>?_);go_simp;refine(HC.out _ (qBq)).mono ?_;rintro e w1 ⟨rfl,hb1⟩;have hB1:Below w.heap.size w w1:=bS (qBq) hb1;have hS1:=And.intro (cK hb1 hS.1) (And.intro (cK hb1 hS.2.1) (And.intro (cK hb1 hS.2.2.1) (And.intro (cK hb1 hS.2.2.2.1) (And.intro (cK hb1 hS.2.2.2.2.1) (And.intro (cK hb1 hS.2.2.2.2.2.1) (And.intro (cK hb1 hS.2.2.2.2.2.2.1) (And.intro (cK hb1 hS.2.2.2.2.2.2.2.1) (And.intro (cK hb1 hS.2.2.2.2.2.2.2.2.1) (cK hb1 hS.2.2.2.2.2.2.2.2.2)))))))));refine hK _ _ (fun _=>hS1) ?_;clear hK K;try simp only[jX]
  refine tM 7 rfl hS1 ?_;try simp only[jX]
  refine dN (NoPanic.normal ?_);have Y:w1.cell? ⟨w.heap.size,0,none⟩=some (.slice a0 n0 c0)∧w1.cell? ⟨w.heap.size,1,none⟩=some (.slice a1 n1 c1)∧w1.cell? ⟨w.heap.size,2,none⟩=some (.slice a2 n2 c2)∧w1.cell? ⟨w.heap.size,3,none⟩=some (.slice a3 n3 c3)∧w1.cell? ⟨w.heap.size,4,none⟩=some (.slice a4 n4 c4):=⟨hS1.1,hS1.2.1,hS1.2.2.1,hS1.2.2.2.1,hS1.2.2.2.2.1⟩;clear hS hS1 hb1;by_cases hz:z=0
  ·
   subst hz;have HQ:Hid _:=HZ.out rfl;clear HZ HH;go_wp2;exact⟨⟨k+1,by omega,by go_num,HQ,Y,hB1⟩,by simp[intOf];omega⟩
  have HC:Hid _:=HH.out hz;have hz':(z !=0)=true:=by simp[hz]
  clear HZ HH;go_wp2;go_ret;exact⟨by rw[HC.out];rfl,hB1⟩
 obtain rfl:k=n:=by omega
 have hti:¬(k:Int)<(k:Int):=by omega
 have HC:Hid (R=0):=by show _=_;rw[←HR.out];exact HS.out
 go_wp2;go_ret;exact⟨by rw[HC.out];rfl,hbl⟩
theorem fI3 (x:Value) (c:Clu) (l:Cont) (item:Value) (j:Int) (v:Value) (a:Option Addr) (k cc:Nat) (w:World) (hx:cluR.V w x c) (hi:contR.V w item l) (hk:k≤9223372036854775807) (h:∀p,k=p+1→∃b o,a=some ⟨b,o,none⟩∧w.cell? ⟨b,o+p*2,none⟩=some (.int .i64 j)∧w.cell? ⟨b,o+p*2+1,none⟩=some v) :
  Calls Tryz.prog 145 #[x,.slice a k cc,item] w fun e w'=>e = .returned (.int .i64 (orF (subF c.shards.length l) (if (decide (k=0)||decide (cmpZ j l.id<0))=true then 0 else 1)))∧Below w.heap.size w w':=by
 obtain⟨u,rfl,hl⟩:=hi;have HS:Hid (∀W,Below w.heap.size w W→Calls Tryz.prog 205 #[x,.agg #[.int .i64 l.id,u]] W fun e w'=>e = .returned (.int .i64 (subF c.shards.length l))∧Below W.heap.size W w'):=fun W hW=>fD7 x c l.id u l.legs W (cluR.below hx hW) (legsR.below hl hW)
 have HB:Hid (∀W,Below w.heap.size w W→Calls Tryz.prog 206 #[.agg #[.int .i64 l.id,u],.slice a k cc,.func (.func 207) #[] #[]] W fun e w'=>e = .returned (.bool (decide (k=0)||decide (cmpZ j l.id<0)))∧Below W.heap.size W w'):=fun W hW=>fJ0 l.id j u v a k cc W hk (fun p hp=>by
  obtain⟨b,o,h0,h1,h2⟩:=h p hp;exact⟨b,o,h0,cK hW h1,cK hW h2⟩)
 obtain⟨p,q,rfl⟩:=rH hl;clear hl h;obtain⟨a0,a1,a2,a3,a4,c0,c1,c2,c3,c4,n0,n1,n2,n3,n4,rfl,e0,e1,e2,e3,e4,L0,L1,L2,L3,L4⟩:=gL hx;clear hx e0 e1 e2 e3 e4 L0 L1 L2 L3 L4;generalize subF c.shards.length l=f at *;generalize (decide (k=0)||decide (cmpZ j l.id<0))=bh at *;generalize l.legs.length=m at *;generalize l.id=i at *;have HC1:Hid (¬f=0→orF f (if bh=true then 0 else 1)=f):=fun h=>xG h
 have HC2:Hid (f=0→orF f (if bh=true then 0 else 1)=if bh=true then 0 else 1):=fun h=>vI h
 generalize orF f (if bh=true then 0 else 1)=R at *;go_enter Tryz.func145,Tryz.ntmps145;go_wp2_with fail;refine(HS.out _ (qBq)).mono ?_;rintro e w1 ⟨rfl,hb1⟩;have hB1:Below w.heap.size w w1:=qBq;have t0:w1.cell? ⟨w.heap.size+1,0,none⟩=some (.int .i64 i):=cK hb1 (by simp[go_sem]);have t1:w1.cell? ⟨w.heap.size+1,1,none⟩=some (.slice p m q):=cK hb1 (by simp[go_sem]);clear hb1 HS;by_cases hf:f=0;rotate_left
 ·
  have hf':(f !=0)=true:=by simp[hf]
  have HC:Hid _:=HC1.out hf;clear HC1 HC2;go_wp2;go_ret;exact⟨by rw[HC.out];rfl,hB1⟩
 have HC:Hid _:=HC2.out hf;clear HC1 HC2;subst hf;go_wp2_with fail;refine(HB.out _ (qBq)).mono ?_;rintro e w2 ⟨rfl,hb2⟩;have hB2:Below w.heap.size w w2:=bS (qBq) hb2;clear hb2 HB;cases bh;all_goals
  go_wp2;go_ret;exact⟨by rw[HC.out];rfl,hB2⟩
theorem fSb (n:Nat) (cs:List Cont) (k:Nat):vC n cs k=orF (subF n (cs.getD k default)) (if (decide (k=0)||decide (cmpZ (cs.getD (k-1) default).id (cs.getD k default).id<0))=true then 0 else 1):=by
 unfold vC fIo;rw[show decide (cmpZ (cs.getD (k-1) default).id (cs.getD k default).id<0)=decide ((cs.getD (k-1) default).id<(cs.getD k default).id) by rw[decide_eq_decide];exact vB]
theorem fDs (x:Value) (c:Clu) (w:World) (hx:cluR.V w x c) :
  Calls Tryz.prog 77 #[x] w fun e w'=>e = .returned (.int .i64 (vT c))∧Below w.heap.size w w':=by
 have HV:Hid (∀W,Below w.heap.size w W→cluR.V W x c):=fun W hW=>cluR.below hx hW
 have hx':=hx;obtain⟨a0,a1,a2,a3,a4,c0,c1,c2,c3,c4,n0,n1,n2,n3,n4,rfl,e0,e1,e2,e3,e4,L0,L1,L2,L3,L4⟩:=gL hx;obtain⟨u1,u2,u3,u4,u5,eq,h1,h2,h3,h4,h5⟩:=hx';simp only[Value.agg.injEq,Array.mk.injEq,List.cons.injEq,and_true] at eq;obtain⟨rfl,rfl,rfl,rfl,rfl⟩:=eq;have eg:=enters_of Tryz.func145 (by kernel_rfl) rfl;have HA:=mY (by rw[e0];exact h1);obtain⟨hnc,hmc,HA⟩:=HA;unfold maxLen at hmc;rw[e0] at HA;have HX:Hid _:=HA;clear HA;have HF:Hid (∀W,Below w.heap.size w W→Calls Tryz.prog 144 #[.agg #[.slice a0 n0 c0,.slice a1 n1 c1,.slice a2 n2 c2,.slice a3 n3 c3,.slice a4 n4 c4],.slice a0 n0 c0,.func (.func 145) #[] #[]] W fun e w'=>e = .returned (.int .i64 (fC (vC c.shards.length c.cons) n0))∧Below W.heap.size W w'):=fun W hW=>fNx _ c 145 (vC c.shards.length c.cons) a0 n0 c0 c.cons W (HV.out W hW) eg (contsR.below h1 hW) e0 (fun k hk W' item hW' hi=>by
  rw[fSb];by_cases hk0:k=0
  ·
   exact fI3 _ c _ item _ (.int .i64 0) a0 k c0 W' (HV.out W' (bS hW hW')) hi (by omega) (fun p hp=>by omega)
  obtain⟨b,o,p',q',ha,g0,g1,_⟩:=HX.out (k-1) (by omega);exact fI3 _ c _ item _ _ a0 k c0 W' (HV.out W' (bS hW hW')) hi (by omega) (fun p hp=>⟨b,o,ha,cK (bS hW hW') (by rw[show p=k-1 by omega];exact g0),cK (bS hW hW') (by rw[show p=k-1 by omega];exact g1)⟩))
 have HR:Hid (vT c=fC (vC c.shards.length c.cons) n0):=by show _=_;unfold vT;rw[e0]
 clear h1 h2 h3 h4 h5 e0 e1 e2 e3 e4 L0 L1 L2 L3 L4 eg;generalize vT c=R at *;generalize fC (vC c.shards.length c.cons) n0=S at *;go_enter Tryz.func77,Tryz.ntmps77;go_wp2_with fail;refine(HF.out _ (qBq)).mono ?_;rintro e w1 ⟨rfl,hb1⟩;have hB1:Below w.heap.size w w1:=qBq;clear hb1;go_wp2;go_ret;exact⟨by rw[HR.out];rfl,hB1⟩
theorem fH9 (x:Value) (c:Clu) (w:World) (hx:cluR.V w x c) :
  Calls Tryz.prog 80 #[x] w fun e w'=>e = .returned (.int .i64 (fDz c))∧Below w.heap.size w w':=by
 have HV:Hid (∀W,Below w.heap.size w W→cluR.V W x c):=fun W hW=>cluR.below hx hW
 have hx':=hx;obtain⟨a0,a1,a2,a3,a4,c0,c1,c2,c3,c4,n0,n1,n2,n3,n4,rfl,e0,e1,e2,e3,e4,L0,L1,L2,L3,L4⟩:=gL hx;obtain⟨u1,u2,u3,u4,u5,eq,h1,h2,h3,h4,h5⟩:=hx';simp only[Value.agg.injEq,Array.mk.injEq,List.cons.injEq,and_true] at eq;obtain⟨rfl,rfl,rfl,rfl,rfl⟩:=eq;obtain⟨_,hnc,hmc,HA⟩:=fFu h4;unfold maxLen at hmc;have HX:Hid _:=HA;clear HA h1 h2 h3 h4 h5 hx;have H1:Hid (∀k,k<n3→fC (fun k=>ldrF (c.ldrs.getD k default)) k=0→¬ldrF (c.ldrs.getD k default)=0→fDz c=ldrF (c.ldrs.getD k default)):=fun k hk hs h0=>by unfold fDz;exact fH (f:=fun k=>ldrF (c.ldrs.getD k default)) hs h0 _ (by rw[e3];exact hk)
 have H2:Hid (fC (fun k=>ldrF (c.ldrs.getD k default)) n3=0→fDz c=0):=fun h=>by unfold fDz;rw[e3];exact h
 clear e0 e1 e2 e3 e4 L0 L1 L2 L4 HV;generalize fDz c=R at *;go_enter Tryz.func80,Tryz.ntmps80;go_wp2;go_loopw [8] (fun i w'=>∃k:Nat,k≤n3∧i = .int .i64 k∧Hid (fC (fun k=>ldrF (c.ldrs.getD k default)) k=0)∧Below w.heap.size w w') (fun i _=>n3-(intOf i).toNat)
 case atStart=>exact⟨0,Nat.zero_le _,rfl,rfl,qBq⟩
 obtain⟨k,hk,rfl,HS,hbl⟩:=hrel;by_cases hlt:k<n3
 ·
  have HA:=HX.out k hlt;have HH:Hid (¬ldrF (c.ldrs.getD k default)=0→R=ldrF (c.ldrs.getD k default)):=fun h=>H1.out k hlt HS.out h
  have HZ:Hid (ldrF (c.ldrs.getD k default)=0→fC (fun k=>ldrF (c.ldrs.getD k default)) (k+1)=0):=fun h=>fD (f:=fun k=>ldrF (c.ldrs.getD k default)) HS.out h
  obtain⟨l,hl0⟩:∃l,l=c.ldrs.getD k default:=⟨_,rfl⟩
  rw[←hl0] at HA HH HZ;clear hl0;obtain⟨b,o,p,q,p',q',rfl,g0,g1,g2,ht,hh⟩:=HA;have lt:=xA ht;obtain⟨_,_,lh,lh2,lh3,_⟩:=hh;simp only[Value.slice.injEq] at lh;unfold maxLen at lh3;have HD:Hid (ldrF l=if inB l.count 0 400=true then (if 60<l.tries.length∨300<l.known.length then 2 else 0) else 3):=rfl;clear ht;replace g0:=cK hbl g0;replace g1:=cK hbl g1;replace g2:=cK hbl g2;have zb:b<wr.heap.size:=wL wr _ g0;have hti:(k:Int)<(n3:Int):=by omega
  generalize ldrF l=z at *;generalize l.count=ct at *;generalize hmt:l.tries.length=mt at *;generalize hmk:l.known.length=mk at *;clear hmt hmk;cases hc:inB ct 0 400
  ·
   have hz:z=3:=by rw[HD.out,hc];rfl
   have HC:Hid (R=3):=by show _=_;rw[←hz];exact HH.out (by rw[hz];omega)
   clear HH HZ HD hz;go_wp2_with (first|(go_at_call 152;refine(fT _ _ _ _).mono ?_;rintro e w' ⟨rfl,hw⟩;obtain rfl:=hw.symm;rw[hc]));go_ret;exact⟨by rw[HC.out];rfl,qBq⟩
  by_cases ht6:60<mt
  ·
   have hz:z=2:=by rw[HD.out,if_pos hc,if_pos (.inl ht6)]
   have HC:Hid (R=2):=by show _=_;rw[←hz];exact HH.out (by rw[hz];omega)
   have ht6':(60:Int)<(mt:Int):=by omega
   clear HH HZ HD hz;go_wp2_with (first|(go_at_call 152;refine(fT _ _ _ _).mono ?_;rintro e w' ⟨rfl,hw⟩;obtain rfl:=hw.symm;rw[hc]));go_ret;exact⟨by rw[HC.out];rfl,qBq⟩
  have ht6':¬(60:Int)<(mt:Int):=by omega
  by_cases hk3:300<mk
  ·
   have hz:z=2:=by rw[HD.out,if_pos hc,if_pos (.inr hk3)]
   have HC:Hid (R=2):=by show _=_;rw[←hz];exact HH.out (by rw[hz];omega)
   have hk3':(300:Int)<(mk:Int):=by omega
   clear HH HZ HD hz;go_wp2_with (first|(go_at_call 152;refine(fT _ _ _ _).mono ?_;rintro e w' ⟨rfl,hw⟩;obtain rfl:=hw.symm;rw[hc]));go_ret;exact⟨by rw[HC.out];rfl,qBq⟩
  have hz:z=0:=by rw[HD.out,if_pos hc,if_neg (fun h=>h.elim ht6 hk3)]
  have hk3':¬(300:Int)<(mk:Int):=by omega
  have HQ:Hid _:=HZ.out hz;clear HH HZ HD hz;go_wp2_with (first|(go_at_call 152;refine(fT _ _ _ _).mono ?_;rintro e w' ⟨rfl,hw⟩;obtain rfl:=hw.symm;rw[hc]));exact⟨⟨k+1,by omega,by go_num,HQ,qBq⟩,by simp[intOf];omega⟩
 obtain rfl:k=n3:=by omega
 have hti:¬(k:Int)<(k:Int):=by omega
 have HC:Hid (R=0):=H2.out HS.out;go_wp2;go_ret;exact⟨by rw[HC.out];rfl,hbl⟩
def hrdD (c:Clu) (t:Hrd) (bh:Bool):Int:=if hasL c t.con t.sh=true then (if (inB t.bal 0 1000=true∧inB t.val 1 2=true)∧inB t.frm 0 ((c.accs.length:Int)-1)=true then (if bh=true then 0 else 1) else 3) else 4
theorem fMb (c:Clu) (hs:List Hrd) (k:Nat):vW c hs k=hrdD c (hs.getD k default) (decide (k=0)||decide (cmpH (hs.getD (k-1) default) (hs.getD k default)<0)):=by
 unfold vW hrdD;simp only[Bool.or_eq_true,decide_eq_true_eq]
theorem fEp (x:Value) (c:Clu) (t y:Hrd) (a:Option Addr) (k cc:Nat) (w:World) (hx:cluR.V w x c) (hk:k≤9223372036854775807) (h:∀p,k=p+1→∃b o,a=some ⟨b,o,none⟩∧w.cell? ⟨b,o+p*5,none⟩=some (.int .i64 y.con)∧w.cell? ⟨b,o+p*5+1,none⟩=some (.int .i64 y.sh)∧w.cell? ⟨b,o+p*5+2,none⟩=some (.int .i64 y.bal)∧w.cell? ⟨b,o+p*5+3,none⟩=some (.int .i64 y.val)∧w.cell? ⟨b,o+p*5+4,none⟩=some (.int .i64 y.frm)) :
  Calls Tryz.prog 156 #[x,.slice a k cc,hrdV t] w fun e w'=>e = .returned (.int .i64 (hrdD c t (decide (k=0)||decide (cmpH y t<0))))∧Below w.heap.size w w':=by
 have HP:Hid (∀W,Below w.heap.size w W→Calls Tryz.prog 151 #[x,.int .i64 t.con,.int .i64 t.sh] W fun e w'=>e = .returned (.bool (hasL c t.con t.sh))∧Below W.heap.size W w'):=fun W hW=>vD x c _ _ W (cluR.below hx hW)
 have HB:Hid (∀W,Below w.heap.size w W→Calls Tryz.prog 230 #[.agg #[.int .i64 t.con,.int .i64 t.sh,.int .i64 t.bal,.int .i64 t.val,.int .i64 t.frm],.slice a k cc,.func (.func 231) #[] #[]] W fun e w'=>e = .returned (.bool (decide (k=0)||decide (cmpH y t<0)))∧Below W.heap.size W w'):=fun W hW=>fJ1 t y a k cc W hk (fun p hp=>by
  obtain⟨b,o,h0,h1,h2,h3,h4,h5⟩:=h p hp;exact⟨b,o,h0,cK hW h1,cK hW h2,cK hW h3,cK hW h4,cK hW h5⟩)
 clear h;obtain⟨a0,a1,a2,a3,a4,c0,c1,c2,c3,c4,n0,n1,n2,n3,n4,rfl,e0,e1,e2,e3,e4,L0,L1,L2,L3,L4⟩:=gL hx;clear hx;have HD:Hid (hrdD c t (decide (k=0)||decide (cmpH y t<0))=if hasL c t.con t.sh=true then (if (inB t.bal 0 1000=true∧inB t.val 1 2=true)∧inB t.frm 0 ((n2:Int)-1)=true then (if (decide (k=0)||decide (cmpH y t<0))=true then 0 else 1) else 3) else 4):=by show _=_;unfold hrdD;rw[e2]
 clear e0 e1 e2 e3 e4 L0 L1 L3 L4;generalize hrdD c t (decide (k=0)||decide (cmpH y t<0))=R at *;generalize (decide (k=0)||decide (cmpH y t<0))=bh at *;generalize hasL c t.con t.sh=hl at *;unfold hrdV;go_enter Tryz.func156,Tryz.ntmps156;go_wp2_with fail;refine(HP.out _ (qBq)).mono ?_;rintro e w1 ⟨rfl,hb1⟩;have hB1:Below w.heap.size w w1:=qBq;have y2:w1.cell? ⟨w.heap.size,2,none⟩=some (.slice a2 n2 c2):=cK hb1 (by simp[go_sem]);have t0:w1.cell? ⟨w.heap.size+1,0,none⟩=some (.int .i64 t.con):=cK hb1 (by simp[go_sem]);have t1:w1.cell? ⟨w.heap.size+1,1,none⟩=some (.int .i64 t.sh):=cK hb1 (by simp[go_sem]);have t2:w1.cell? ⟨w.heap.size+1,2,none⟩=some (.int .i64 t.bal):=cK hb1 (by simp[go_sem]);have t3:w1.cell? ⟨w.heap.size+1,3,none⟩=some (.int .i64 t.val):=cK hb1 (by simp[go_sem]);have t4:w1.cell? ⟨w.heap.size+1,4,none⟩=some (.int .i64 t.frm):=cK hb1 (by simp[go_sem]);have zt:w.heap.size+1<w1.heap.size:=wL w1 _ t0;clear hb1 HP;cases hl
 ·
  have HC:Hid (R=4):=by show _=_;rw[HD.out];rfl
  clear HD;go_wp2;go_ret;exact⟨by rw[HC.out];rfl,hB1⟩
 have HD2:Hid (R=if (inB t.bal 0 1000=true∧inB t.val 1 2=true)∧inB t.frm 0 ((n2:Int)-1)=true then (if bh=true then 0 else 1) else 3):=by show _=_;rw[HD.out,if_pos rfl]
 clear HD;by_cases hv:(inB t.bal 0 1000&&inB t.val 1 2)=true;rotate_left
 ·
  have hv':(inB t.bal 0 1000&&inB t.val 1 2)=false:=by simpa using hv
  have HC:Hid (R=3):=by show _=_;rw[HD2.out,if_neg (fun h=>hv (by simp[h.1.1,h.1.2]))]
  clear HD2 hv;go_wp2_with (first|(go_at_call 229;refine(qX ⟨t.bal,t.val⟩ _).mono ?_;rintro e w' ⟨rfl,hb8⟩;rw[show votB ⟨t.bal,t.val⟩=(inB t.bal 0 1000&&inB t.val 1 2) from rfl,hv']));go_ret;exact⟨by rw[HC.out];rfl,qBq⟩
 have HVt:Hid (inB t.bal 0 1000=true∧inB t.val 1 2=true):=by show _∧_;simpa using hv
 go_wp2_with fail;refine(qX ⟨t.bal,t.val⟩ _).mono ?_;rintro e w2 ⟨rfl,hb2⟩;rw[show votB ⟨t.bal,t.val⟩=(inB t.bal 0 1000&&inB t.val 1 2) from rfl,hv];have hB2:Below w.heap.size w w2:=bS (qBq) hb2;replace y2:=cK hb2 (cK (qBq) y2);replace t0:=cK hb2 (cK (qBq) t0);replace t1:=cK hb2 (cK (qBq) t1);replace t2:=cK hb2 (cK (qBq) t2);replace t3:=cK hb2 (cK (qBq) t3);replace t4:=cK hb2 (cK (qBq) t4);replace zt:w.heap.size+1<w2.heap.size:=wL w2 _ t0;clear hb2 hv hB1;cases hp:inB t.frm 0 ((n2:Int)-1)
 ·
  have HC:Hid (R=3):=by show _=_;rw[HD2.out,if_neg (fun h=>by rw[hp] at h;cases h.2)]
  clear HD2;go_wp2_with (first|(go_at_call 224;refine(qH _ _ _ _ _ L2).mono ?_;rintro e w' ⟨rfl,hw⟩;obtain rfl:=hw.symm;rw[hp]));go_ret;exact⟨by rw[HC.out];rfl,qBq⟩
 have HD3:Hid (R=if bh=true then 0 else 1):=by show _=_;rw[HD2.out,if_pos ⟨HVt.out,hp⟩]
 clear HD2 HVt;go_wp2_with (first|(go_at_call 224;refine(qH _ _ _ _ _ L2).mono ?_;rintro e w' ⟨rfl,hw⟩;obtain rfl:=hw.symm;rw[hp]));refine(HB.out _ (qBq)).mono ?_;rintro e w3 ⟨rfl,hb3⟩;have hB3:Below w.heap.size w w3:=bS (qBq) hb3;clear hb3 HB;cases bh;all_goals
  go_wp2;go_ret;exact⟨by rw[HD3.out];rfl,hB3⟩
theorem fOd (x:Value) (c:Clu) (w:World) (hx:cluR.V w x c) :
  Calls Tryz.prog 82 #[x] w fun e w'=>e = .returned (.int .i64 (yH c))∧Below w.heap.size w w':=by
 have HV:Hid (∀W,Below w.heap.size w W→cluR.V W x c):=fun W hW=>cluR.below hx hW
 have hx':=hx;obtain⟨a0,a1,a2,a3,a4,c0,c1,c2,c3,c4,n0,n1,n2,n3,n4,rfl,e0,e1,e2,e3,e4,L0,L1,L2,L3,L4⟩:=gL hx;obtain⟨u1,u2,u3,u4,u5,eq,h1,h2,h3,h4,h5⟩:=hx';simp only[Value.agg.injEq,Array.mk.injEq,List.cons.injEq,and_true] at eq;obtain⟨rfl,rfl,rfl,rfl,rfl⟩:=eq;obtain⟨_,hnc,hmc,HA⟩:=fFu h4;unfold maxLen at hmc;have HX:Hid _:=HA;clear HA h1 h2 h3 h4 h5 hx;have H1:Hid (∀k,k<n3→fC (fun k=>qO c (c.ldrs.getD k default)) k=0→¬qO c (c.ldrs.getD k default)=0→yH c=qO c (c.ldrs.getD k default)):=fun k hk hs h0=>by unfold yH;exact fH (f:=fun k=>qO c (c.ldrs.getD k default)) hs h0 _ (by rw[e3];exact hk)
 have H2:Hid (fC (fun k=>qO c (c.ldrs.getD k default)) n3=0→yH c=0):=fun h=>by unfold yH;rw[e3];exact h
 skip
 skip
 skip
 clear e0 e1 e2 e3 e4 L0 L1 L2 L4;generalize yH c=R at *;go_enter Tryz.func82,Tryz.ntmps82;go_wp2;go_loopw [9] (fun i w'=>∃k:Nat,k≤n3∧i = .int .i64 k∧Hid (fC (fun k=>qO c (c.ldrs.getD k default)) k=0)∧(w'.cell? ⟨w.heap.size,0,none⟩=some (.slice a0 n0 c0)∧w'.cell? ⟨w.heap.size,1,none⟩=some (.slice a1 n1 c1)∧w'.cell? ⟨w.heap.size,2,none⟩=some (.slice a2 n2 c2)∧w'.cell? ⟨w.heap.size,3,none⟩=some (.slice a3 n3 c3)∧w'.cell? ⟨w.heap.size,4,none⟩=some (.slice a4 n4 c4))∧Below w.heap.size w w') (fun i _=>n3-(intOf i).toNat)
 case atStart=>exact⟨0,Nat.zero_le _,rfl,rfl,⟨by simp[go_sem],by simp[go_sem],by simp[go_sem],by simp[go_sem],by simp[go_sem]⟩,qBq⟩
 obtain⟨k,hk,rfl,HS,⟨y0,y1,y2,y3,y4⟩,hbl⟩:=hrel;have zq:w.heap.size<wr.heap.size:=wL wr _ y0;by_cases hlt:k<n3
 ·
  have HA:=HX.out k hlt;skip;have HH:Hid (¬qO c (c.ldrs.getD k default)=0→R=qO c (c.ldrs.getD k default)):=fun h=>H1.out k hlt HS.out h
  have HZ:Hid (qO c (c.ldrs.getD k default)=0→fC (fun k=>qO c (c.ldrs.getD k default)) (k+1)=0):=fun h=>fD (f:=fun k=>qO c (c.ldrs.getD k default)) HS.out h
  obtain⟨l,hl0⟩:∃l,l=c.ldrs.getD k default:=⟨_,rfl⟩
  rw[←hl0] at HA HH HZ;clear hl0;obtain⟨b,o,p,q,p',q',rfl,g0,g1,g2,ht,hh⟩:=HA;have HF:Hid (∀W,Below w.heap.size w W→Calls Tryz.prog 155 #[.agg #[.slice a0 n0 c0,.slice a1 n1 c1,.slice a2 n2 c2,.slice (some ⟨b,o,none⟩) n3 c3,.slice a4 n4 c4],.slice p' l.known.length q',.func (.func 156) #[] #[]] W fun e w'=>e = .returned (.int .i64 (qO c l))∧Below W.heap.size W w'):=fun W hW=>by
   have HX2:Hid _:=(zN hh).2.2.2;have hmx:=(zN hh).2.2.1;have hnx:=(zN hh).2.1;unfold maxLen at hmx;exact fNy _ c 156 (vW c l.known) p' _ q' l.known W (HV.out W hW) (enters_of Tryz.func156 (by kernel_rfl) rfl) (hrdsR.below hh hW) rfl (fun k hk W' item hW' hi=>by
    subst hi;rw[fMb];by_cases hk0:k=0
    ·
     exact fEp _ c _ _ p' k q' W' (HV.out W' (bS hW hW')) (by omega) (fun p hp=>by omega)
    obtain⟨b,o,ha,k0,k1,k2,k3,k4⟩:=HX2.out (k-1) (by omega);exact fEp _ c _ _ p' k q' W' (HV.out W' (bS hW hW')) (by omega) (fun p hp=>⟨b,o,ha,cK (bS hW hW') (by rw[show p=k-1 by omega];exact k0),cK (bS hW hW') (by rw[show p=k-1 by omega];exact k1),cK (bS hW hW') (by rw[show p=k-1 by omega];exact k2),cK (bS hW hW') (by rw[show p=k-1 by omega];exact k3),cK (bS hW hW') (by rw[show p=k-1 by omega];exact k4)⟩))
  clear ht hh;replace g0:=cK hbl g0;replace g1:=cK hbl g1;replace g2:=cK hbl g2;have zb:b<wr.heap.size:=wL wr _ g0;have hti:(k:Int)<(n3:Int):=by omega
  generalize qO c l=z at *;generalize l.count=ct at *;generalize l.tries.length=mt at *;generalize l.known.length=mk at *;go_wp2_with fail;refine(HF.out _ (qBq)).mono ?_;rintro e w1 ⟨rfl,hb1⟩;have hB1:Below w.heap.size w w1:=bS (qBq) hb1;have Y1:=And.intro (cK hb1 (cK (qBq) y0)) (And.intro (cK hb1 (cK (qBq) y1)) (And.intro (cK hb1 (cK (qBq) y2)) (And.intro (cK hb1 (cK (qBq) y3)) (cK hb1 (cK (qBq) y4)))));clear hb1 HF g0 g1 g2;by_cases hz:z=0
  ·
   have HQ:Hid _:=HZ.out hz;subst hz;clear HH HZ;go_wp2;exact⟨⟨k+1,by omega,by go_num,HQ,Y1,hB1⟩,by simp[intOf];omega⟩
  have HC:Hid _:=HH.out hz;have hz':(z !=0)=true:=by simp[hz]
  clear HH HZ;go_wp2;go_ret;exact⟨by rw[HC.out];rfl,hB1⟩
 obtain rfl:k=n3:=by omega
 have hti:¬(k:Int)<(k:Int):=by omega
 have HC:Hid (R=0):=H2.out HS.out;go_wp2;go_ret;exact⟨by rw[HC.out];rfl,hbl⟩
end Go.Proofs.YtbfnobcidnmohaaGreat

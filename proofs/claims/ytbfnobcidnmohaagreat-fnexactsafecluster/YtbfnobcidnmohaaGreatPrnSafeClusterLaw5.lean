import Derived.Test.YtbfnobcidnmohaaGreatPrnSafeClusterLaw3
import Derived.Deep.AppendLies
set_option maxHeartbeats 1000000
set_option linter.unusedSectionVars false
namespace Go.Proofs.YtbfnobcidnmohaaGreat
open Go.RowKit
attribute [local go_sem ↓] Go.wp_at_zero Go.wp_at_succ
section
variable [dQ Bal] [iH Bal]
def balssR:Rep (List (List Bal)):=nRep balsR 68 1 one
structure Ledg where
 shards:List (List Bal)
variable [dQ Ledg] [iH Ledg]
def ledgR:Rep Ledg where
 V:=fun w v x=>∃u1,v =.agg #[u1]∧balssR.V w u1 x.shards
 O:=fun w base F v x=>∃u1 F1,v =.agg #[u1]∧balssR.O w base F1 u1 x.shards∧(∀b,F b↔(F1 b))
 below:=fun h hb=>by
  obtain⟨u1,rfl,h1⟩:=h;exact⟨u1,rfl,balssR.below h1 hb⟩
 ofO:=fun h=>by
  obtain⟨u1,F1,rfl,h1,_⟩:=h;exact⟨u1,rfl,balssR.ofO h1⟩
 mod:=fun h hm hd=>by
  obtain⟨u1,F1,rfl,h1,hF⟩:=h;exact⟨u1,F1,rfl,balssR.mod h1 hm (fun b hb=>hd b ((hF b).2 hb)),hF⟩
 rng:=fun h b hb=>by
  obtain⟨u1,F1,rfl,h1,hF⟩:=h;rcases(hF b).1 hb with hb
  exact balssR.rng h1 b hb
 base:=fun h hb=>by
  obtain⟨u1,F1,rfl,h1,hF⟩:=h;exact⟨u1,F1,rfl,balssR.base h1 hb,hF⟩
end
section
variable [dQ Leg] [iH Leg]
def inB (n lo hi:Int):Bool:=decide (lo≤n)&&decide (n≤hi)
theorem fM (n lo hi:Int) (w:World) :
  Calls Tryz.prog 123 #[.int .i64 n,.int .i64 lo,.int .i64 hi] w fun e w'=>e =.returned (.bool (inB n lo hi))∧w'=w:=by
 by_cases h1:lo≤n
 all_goals
  go_enter Tryz.func123,Tryz.ntmps123;go_wp2;go_ret;exact⟨by first|(simp[inB,h1];done)|(simp[inB];omega),rfl⟩
theorem fO (n lo hi:Int) (w:World) :
  Calls Tryz.prog 152 #[.int .i64 n,.int .i64 lo,.int .i64 hi] w fun e w'=>e =.returned (.bool (inB n lo hi))∧w'=w:=by
 by_cases h1:lo≤n
 all_goals
  go_enter Tryz.func152,Tryz.ntmps152;go_wp2;go_ret;exact⟨by first|(simp[inB,h1];done)|(simp[inB];omega),rfl⟩
theorem mD (n:Int) (w:World) :
  Calls Tryz.prog 192 #[.int .i64 n] w fun e w'=>e =.returned (.bool (inB n 1 1000000000))∧w'=w:=by
 go_enter Tryz.func192,Tryz.ntmps192;go_wp2_with (go_at_call 123;refine(fM _ _ _ _).mono ?_;rintro e w' ⟨rfl,rfl⟩);go_ret;exact⟨rfl,rfl⟩
theorem kE (n:Int) (w:World) :
  Calls Tryz.prog 237 #[.int .i64 n] w fun e w'=>e =.returned (.bool (inB n 1 1000000000))∧w'=w:=by
 go_enter Tryz.func237,Tryz.ntmps237;go_wp2_with (go_at_call 152;refine(fO _ _ _ _).mono ?_;rintro e w' ⟨rfl,rfl⟩);go_ret;exact⟨rfl,rfl⟩
theorem kL (n:Int) (w:World) :
  Calls Tryz.prog 238 #[.int .i64 n] w fun e w'=>e =.returned (.bool (inB n 0 2))∧w'=w:=by
 go_enter Tryz.func238,Tryz.ntmps238;go_wp2_with (go_at_call 152;refine(fO _ _ _ _).mono ?_;rintro e w' ⟨rfl,rfl⟩);go_ret;exact⟨rfl,rfl⟩
theorem vN (n:Int) (w:World) :
  Calls Tryz.prog 253 #[.int .i64 n] w fun e w'=>e =.returned (.bool (inB n 0 5))∧w'=w:=by
 go_enter Tryz.func253,Tryz.ntmps253;go_wp2_with (go_at_call 152;refine(fO _ _ _ _).mono ?_;rintro e w' ⟨rfl,rfl⟩);go_ret;exact⟨rfl,rfl⟩
theorem fC1 (n:Int) (w:World) :
  Calls Tryz.prog 254 #[.int .i64 n] w fun e w'=>e =.returned (.bool (inB n 0 2))∧w'=w:=by
 go_enter Tryz.func254,Tryz.ntmps254;go_wp2_with (go_at_call 152;refine(fO _ _ _ _).mono ?_;rintro e w' ⟨rfl,rfl⟩);go_ret;exact⟨rfl,rfl⟩
def fJf (l:Leg):Bool:=inB l.sh 0 2&&inB l.ac 0 5&&inB l.ast 0 2
def gQ (l:Leg):Int:=if fJf l&&inB l.am (-1000000000000) 1000000000000 then (if l.am=0 then 1 else 0) else 3
theorem fLn (l:Leg) (w:World) :
  RI 288 #[legV l] w (.bool (fJf l)):=by
 obtain⟨a,b,c,d⟩:=l;unfold legV fJf;go_enter Tryz.func288,Tryz.ntmps288;go_wp2_with (first|(go_at_call 238;refine(kL _ _).mono ?_;rintro e w' ⟨rfl,rfl⟩)|(go_at_call 253;refine(vN _ _).mono ?_;rintro e w' ⟨rfl,rfl⟩)|(go_at_call 254;refine(fC1 _ _).mono ?_;rintro e w' ⟨rfl,rfl⟩));all_goals
  go_ret;exact⟨by simp[*],(by repeat (first|exact bR _ _|(refine Below.drew ?_)|(refine Below.alloc ?_ (by first|(simp;done)|(simp;omega)) _)))⟩
theorem fB3 (l:Leg) (w:World) :
  RI 193 #[legV l] w (.int .i64 (gQ l)):=by
 obtain⟨a,b,c,d⟩:=l;unfold legV;go_enter Tryz.func193,Tryz.ntmps193;go_wp2_with (go_at_call 123;refine(fM _ _ _ _).mono ?_;rintro e w' ⟨rfl,rfl⟩);all_goals
  go_ret;exact⟨by simp_all [gQ,fJf],(by repeat (first|exact bR _ _|(refine Below.drew ?_)|(refine Below.alloc ?_ (by first|(simp;done)|(simp;omega)) _)))⟩
theorem fBy (l:Leg) (w:World) :
  RI 240 #[legV l] w (.int .i64 (gQ l)):=by
 obtain⟨a,b,c,d⟩:=l;unfold legV;go_enter Tryz.func240,Tryz.ntmps240;go_wp2_with (first|(go_at_call 288;refine(fLn ⟨a,b,c,d⟩ _).mono ?_;rintro e w' ⟨rfl,hb⟩;obtain⟨hc,hf⟩:=bcell hb)|(go_at_call 152;refine(fO _ _ _ _).mono ?_;rintro e w' ⟨rfl,rfl⟩));all_goals
  go_ret;exact⟨by simp_all [gQ],((bR _ _).alloc (Nat.le_refl _) _).trans (hb.mono (by simp))⟩
theorem fDc (l:Leg) (w:World) :
  RI 289 #[legV l] w (legV ⟨l.sh,l.ac,l.ast,0⟩):=by
 obtain⟨a,b,c,d⟩:=l;unfold legV;go_enter Tryz.func289,Tryz.ntmps289;go_wp2;exact bodyPost_ret (v:=.agg #[.int .i64 a,.int .i64 b,.int .i64 c,.int .i64 0]) (by simp[results,Tryz.results289,go_sem]) rfl ⟨rfl,(by repeat (first|exact bR _ _|(refine Below.drew ?_)|(refine Below.alloc ?_ (by first|(simp;done)|(simp;omega)) _)))⟩
variable [dQ Bal] [iH Bal] [dQ Ledg] [iH Ledg]
theorem kD {n:Int} (h0 : -9223372036854775808≤n) (h1:n≤9223372036854775807):IntKind.i64.wrap n=n:=by
 rw[IntKind.wrap_i64];omega
theorem fJ {B:Nat} {w Y:World} (h:Below B w Y) (n:Nat):Below B w (Y.drewN n):=h.trans ⟨rfl,rfl,rfl,Nat.le_refl _,fun _ _=>rfl⟩
def fC (f:Nat→Int):Nat→Int
 | 0=>0
 | n+1=>if fC f n=0 then f n else fC f n
theorem fE {f:Nat→Int} {k:Nat} (h:fC f k=0) (h':f k=0):fC f (k+1)=0:=by simp[fC,h,h']
theorem fK {f:Nat→Int} {k:Nat} (h:fC f k=0) (h':f k≠0):∀n,k<n→fC f n=f k
 | 0,hn=>oM
 | n+1,hn=>by
  by_cases e:k=n
  ·subst e;simp[fC,h]
  have:=fK h h' n oM;simp[fC,this,h']
theorem kI {f:Nat→Int}:∀{n:Nat},fC f n=0→∀k,k<n→f k=0
 | 0,_,k,hk=>oM
 | n+1,h,k,hk=>by
  unfold fC at h;split at h
  ·
   rename_i h1;by_cases e:k=n
   ·subst e;exact h
   exact kI h1 k oM
  exact absurd h (by assumption)
theorem yF {f:Nat→Int}:∀{n:Nat},(∀k,k<n→f k=0)→fC f n=0
 | 0,_=>rfl
 | n+1,h=>fE (yF (fun k hk=>h k oM)) (h n oM)
def fC4 (ac ast:Int):Bool:=inB ac 0 5&&inB ast 0 2
def uG (x:Bal):Bool:=fC4 x.ac x.ast&&inB x.am 1 1000000000000
def behind (b a:Bal):Bool:=if b.ac=a.ac then decide (a.ast<b.ast) else decide (a.ac<b.ac)
def vW (xs:List Bal) (k:Nat):Int:=if uG (xs.getD k default) then (if 0<k∧behind (xs.getD k default) (xs.getD (k-1) default)=false then 1 else 0) else 3
def kH (xs:List Bal):Int:=if 18<xs.length then 2 else fC (vW xs) xs.length
def fXr (g:Ledg) (k:Nat):Int:=kH (g.shards.getD k default)
def vR (g:Ledg):Int:=if g.shards.length<1∨3<g.shards.length then 2 else fC (fXr g) g.shards.length
theorem inBi {n lo hi:Int}:inB n lo hi=true↔lo≤n∧n≤hi:=by simp[inB]
theorem keyOk_iff {a s:Int}:fC4 a s=true↔(0≤a∧a≤5)∧(0≤s∧s≤2):=by simp[fC4,inBi]
theorem balOk_iff {x:Bal}:uG x=true↔((0≤x.ac∧x.ac≤5)∧(0≤x.ast∧x.ast≤2))∧(1≤x.am∧x.am≤1000000000000):=by simp[uG,keyOk_iff,inBi]
theorem fEr {b a:Bal} (hb:fC4 b.ac b.ast=true) (ha:fC4 a.ac a.ast=true):behind b a=false↔b.ac*3+b.ast≤a.ac*3+a.ast:=by
 obtain⟨⟨_,_⟩,_,_⟩:=keyOk_iff.1 hb;obtain⟨⟨_,_⟩,_,_⟩:=keyOk_iff.1 ha;unfold behind;split <;> simp <;> omega
theorem fCh {x:Bal} (h:uG x=true):fC4 x.ac x.ast=true:=by
 rw[uG,Bool.and_eq_true] at h;exact h.1
structure BalsOk (xs:List Bal):Prop where
 len:xs.length≤18
 ok:∀k,k<xs.length→uG (xs.getD k default)=true
 ord:∀k,k+1<xs.length→behind (xs.getD (k+1) default) (xs.getD k default)=true
theorem fHp {xs:List Bal} (h:kH xs=0):BalsOk xs:=by
 unfold kH at h;split at h
 ·omega
 have hz:=kI h;refine⟨oM,fun k hk=>?_,fun k hk=>?_⟩
 ·
  have:=hz k hk;unfold vW at this;split at this
  ·assumption
  omega
 have:=hz (k+1) hk;unfold vW at this;split at this
 ·
  split at this
  ·omega
  rename_i h1 h2;simp at h2;simpa using h2
 omega
theorem fNk {g:Ledg} (h:vR g=0):1≤g.shards.length∧g.shards.length≤3∧∀k,k<g.shards.length→BalsOk (g.shards.getD k default):=by
 unfold vR at h;split at h
 ·omega
 exact⟨oM,by omega,fun k hk=>fHp (kI h k hk)⟩
def hasB (a s:Int):List Bal→Int
 | []=>0
 | x::r=>if x.ac=a∧x.ast=s then x.am else hasB a s r
theorem fTv (xs:List Bal) (k:Nat) (h:k<xs.length):xs.drop k=xs.getD k default::xs.drop (k+1):=by
 rw[List.drop_eq_getElem_cons h];simp[List.getD,h]
theorem fRs {a s:Int} {xs:List Bal} {k:Nat} (h:k<xs.length):hasB a s (xs.drop k)=if (xs.getD k default).ac=a∧(xs.getD k default).ast=s then (xs.getD k default).am else hasB a s (xs.drop (k+1)):=by
 rw[fTv xs k h];rfl
variable [dQ Vot] [iH Vot] [dQ Slt] [iH Slt]
def votB (x:Vot):Bool:=inB x.bal 0 1000&&inB x.val 1 2
def noV:Vot:=⟨-1,0⟩
def other (v p:Vot):Bool:=decide (v.bal<p.bal)||(decide (v.bal=p.bal) && !decide (v.val=p.val))
def rT (xs:List Vot) (n:Nat):Vot:=if n=0 then noV else xs.getD (n-1) default
def uY (xs:List Vot) (k:Nat):Int:=if votB (xs.getD k default) then (if other (xs.getD k default) (rT xs k)=true then 1 else 0) else 3
def kW (s:Slt):Bool:=inB s.con 1 1000000000&&inB s.sh 0 2&&inB s.pr (-1) 1000
def fI (s:Slt):Int:=
 if kW s then (if 60<s.cast.length then 2 else if fC (uY s.cast) s.cast.length=0 then (if (s.lb=(rT s.cast s.cast.length).bal∧s.lv=(rT s.cast s.cast.length).val)∧s.lb≤s.pr then 0 else 1) else fC (uY s.cast) s.cast.length) else 3
theorem votB_iff {x:Vot}:votB x=true↔(0≤x.bal∧x.bal≤1000)∧(1≤x.val∧x.val≤2):=by simp[votB,inBi]
theorem fP8 {x:Vot} (h:votB x=true):other x noV=false:=by
 have h':=votB_iff.1 h;unfold other noV;dsimp only;rw[decide_eq_false oM,decide_eq_false oM];rfl
theorem uT (xs:List Vot):rT xs 0=noV:=rfl
theorem tZ (xs:List Vot) (k:Nat):rT xs (k+1)=xs.getD k default:=by simp[rT]
theorem fDs {xs:List Vot} {k:Nat} (h:votB (xs.getD k default)=false):uY xs k=3:=by unfold uY;rw[h];rfl
theorem fN6 {xs:List Vot} {k:Nat} (h:votB (xs.getD k default)=true) (h':other (xs.getD k default) (rT xs k)=false):uY xs k=0:=by simp only[uY,h,h'];simp
theorem fDt {xs:List Vot} {k:Nat} (h:votB (xs.getD k default)=true) (h':other (xs.getD k default) (rT xs k)=true):uY xs k=1:=by simp only[uY,h,h'];simp
theorem fTa {xs:List Vot} {k:Nat} (h:uY xs k=0):votB (xs.getD k default)=true∧other (xs.getD k default) (rT xs k)=false:=by
 unfold uY at h;cases e:votB (xs.getD k default) with
 | false=>rw[e] at h;simp at h
 | true=>
  cases e':other (xs.getD k default) (rT xs k) with
  | false=>exact⟨rfl,rfl⟩
  | true=>rw[e,e'] at h;simp at h
theorem rF {s:Slt} (h:kW s=false):fI s=3:=by unfold fI;rw[h];rfl
theorem fDj {s:Slt} (h:kW s=true) (h':60<s.cast.length):fI s=2:=by unfold fI;rw[h,if_pos rfl,if_pos h']
theorem vT {s:Slt} {k:Nat} {c:Int} (h:kW s=true) (h':s.cast.length≤60) (hk:k<s.cast.length) (hs:fC (uY s.cast) k=0) (hc:uY s.cast k=c) (h0:c≠0):fI s=c:=by
 have e:=fK hs (by rw[hc];exact h0) _ hk;unfold fI;rw[h,if_pos rfl,if_neg oM,e,hc,if_neg h0]
theorem fB9 {s:Slt} (h:kW s=true) (h':s.cast.length≤60) (hs:fC (uY s.cast) s.cast.length=0) :
  fI s=if (s.lb=(rT s.cast s.cast.length).bal∧s.lv=(rT s.cast s.cast.length).val)∧s.lb≤s.pr then 0 else 1:=by
 unfold fI;rw[h,if_pos rfl,if_neg oM,if_pos hs]
structure SltOk (s:Slt):Prop where
 range:kW s=true
 len:s.cast.length≤60
 at_:∀k,k<s.cast.length→votB (s.cast.getD k default)=true∧other (s.cast.getD k default) (rT s.cast k)=false
 last:s.lb=(rT s.cast s.cast.length).bal∧s.lv=(rT s.cast s.cast.length).val
 pr:s.lb≤s.pr
theorem fGw {s:Slt} (h:fI s=0):SltOk s:=by
 cases e:kW s with
 | false=>rw[rF e] at h;omega
 | true=>
  by_cases h6:60<s.cast.length
  ·rw[fDj e h6] at h;omega
  by_cases hs:fC (uY s.cast) s.cast.length=0
  ·
   rw[fB9 e oM hs] at h;split at h
   ·rename_i hh;exact⟨e,by omega,fun k hk=>fTa (kI hs k hk),hh.1,hh.2⟩
   omega
  unfold fI at h;rw[e,if_pos rfl,if_neg h6,if_neg hs] at h;exact absurd h hs
theorem SltOk.bal {s:Slt} (h:SltOk s) : -1≤s.lb∧s.lb≤1000:=by
 obtain⟨h1,_⟩:=h.last;have hl:=h.len;cases e:s.cast.length with
 | zero=>rw[e,uT] at h1;rw[h1];simp[noV]
 | succ n=>
  rw[e,tZ] at h1;have:=votB_iff.1 (h.at_ n oM).1;rw[h1];omega
end
section
variable [dQ Vot] [iH Vot] [dQ Slt] [iH Slt] [dQ Bal] [iH Bal] [dQ Ledg] [iH Ledg] [dQ Leg] [iH Leg]
theorem fRm (a b c d:Int) (w:World):(Op.equalIn 10000 126 (.agg #[.int .i64 a,.int .i64 b]) (.agg #[.int .i64 c,.int .i64 d])).run Tryz.prog w =.ok (decide (a=c)&&decide (b=d)) w:=by
 rw[run_equalIn_struct w 9999 126 _ _ kF kF];have hf : (Tryz.prog.fieldsOf 126).toList = [{ name := "Ballot", type := 2, offset := 0, embedded := false, tag := "", pkgPath := "", byteOffset := 0 }, { name := "Value", type := 2, offset := 1, embedded := false, tag := "", pkgPath := "", byteOffset := 8 }] := kF
 rw[hf];simp[Op.eqFields,go_sem];by_cases e1:a=c <;> by_cases e2:b=d <;> simp[e1,e2]
theorem fM9 (a b c d:Int) (w:World):(binOp .eql 126 (.agg #[.int .i64 a,.int .i64 b]) (.agg #[.int .i64 c,.int .i64 d])).run Tryz.prog w =.ok (.bool (decide (a=c)&&decide (b=d))) w:=by
 rw[run_eql_struct,fRm];rfl
theorem uW (a b c d:Int) (w:World):(binOp .neq 126 (.agg #[.int .i64 a,.int .i64 b]) (.agg #[.int .i64 c,.int .i64 d])).run Tryz.prog w =.ok (.bool (!(decide (a=c)&&decide (b=d)))) w:=by
 rw[run_neq_struct,fRm];rfl
theorem rC (w:World):RI 129 #[] w (.agg #[.int .i64 (-1),.int .i64 0]):=by
 go_enter Tryz.func129,Tryz.ntmps129;go_wp2;refine bodyPost_ret (v:=.agg #[.int .i64 (-1),.int .i64 0]) ?_ rfl ⟨rfl,qBq⟩;simp[results,Tryz.results129,go_sem]
theorem yD (w:World):RI 239 #[] w (.agg #[.int .i64 (-1),.int .i64 0]):=by
 go_enter Tryz.func239,Tryz.ntmps239;go_wp2;refine bodyPost_ret (v:=.agg #[.int .i64 (-1),.int .i64 0]) ?_ rfl ⟨rfl,qBq⟩;simp[results,Tryz.results239,go_sem]
theorem fZ (n:Int) (w:World):Calls Tryz.prog 125 #[.int .i64 n] w fun e w'=>e =.returned (.bool (inB n 0 1000))∧w'=w:=by
 go_enter Tryz.func125,Tryz.ntmps125;go_wp2_with (go_at_call 123;refine(fM _ _ _ _).mono ?_;rintro e w' ⟨rfl,rfl⟩);go_ret;exact⟨rfl,rfl⟩
theorem kC (n:Int) (w:World):Calls Tryz.prog 126 #[.int .i64 n] w fun e w'=>e =.returned (.bool (inB n 1 2))∧w'=w:=by
 have e:inB n 1 2=(decide (n=1)||decide (n=2)):=by rw[Bool.eq_iff_iff,inBi];simp;omega
 rw[e];clear e;by_cases h1:n=1
 ·subst h1;go_enter Tryz.func126,Tryz.ntmps126;go_wp2;go_ret;exact⟨rfl,rfl⟩
 go_enter Tryz.func126,Tryz.ntmps126;go_wp2;all_goals
  go_ret;exact⟨by first|(simp_all;done)|(simp_all;rw[Bool.eq_iff_iff];simp;done)|(simp_all;rw[Bool.eq_iff_iff];simp;omega),rfl⟩
theorem xH (n:Int) (w:World):Calls Tryz.prog 283 #[.int .i64 n] w fun e w'=>e =.returned (.bool (inB n 0 1000))∧w'=w:=by
 go_enter Tryz.func283,Tryz.ntmps283;go_wp2_with (go_at_call 152;refine(fO _ _ _ _).mono ?_;rintro e w' ⟨rfl,rfl⟩);go_ret;exact⟨rfl,rfl⟩
theorem fLo (n:Int) (w:World):Calls Tryz.prog 267 #[.int .i64 n] w fun e w'=>e =.returned (.bool (inB n 1 2))∧w'=w:=by
 go_enter Tryz.func267,Tryz.ntmps267;go_wp2_with (go_at_call 152;refine(fO _ _ _ _).mono ?_;rintro e w' ⟨rfl,rfl⟩);go_ret;exact⟨rfl,rfl⟩
theorem qZ (x:Vot) (w:World):RI 229 #[.agg #[.int .i64 x.bal,.int .i64 x.val]] w (.bool (votB x)):=by
 unfold votB;cases h1:inB x.bal 0 1000;all_goals
  go_enter Tryz.func229,Tryz.ntmps229;go_wp2_with (first|(go_at_call 283;refine(xH _ _).mono ?_;rintro e w' ⟨rfl,rfl⟩)|(go_at_call 267;refine(fLo _ _).mono ?_;rintro e w' ⟨rfl,rfl⟩));go_ret;exact⟨by simp,qBq⟩
def fNs (x y:Vot):Bool:=decide (x.bal=y.bal) && !decide (x.val=y.val)
theorem fC2 (x y:Vot) (w:World):RI 276 #[.agg #[.int .i64 x.bal,.int .i64 x.val],.agg #[.int .i64 y.bal,.int .i64 y.val]] w (.bool (fNs x y)):=by
 unfold fNs;by_cases h1:x.bal=y.bal;all_goals
  go_enter Tryz.func276,Tryz.ntmps276;go_wp2;all_goals
   go_ret;exact⟨by first|(simp_all;done)|(simp_all;rw[Bool.eq_iff_iff];simp;done)|(simp_all;rw[Bool.eq_iff_iff];simp;omega),qBq⟩
end
section
variable [dQ Leg] [iH Leg]
def qY (ys:List Int) (v:Int):Nat:=(ys.takeWhile (· < v)).length
def putI (ys:List Int) (v:Int):List Int:=if ys.getD (qY ys v) (v+1)=v then ys else ys.take (qY ys v)++[v]++ys.drop (qY ys v)
theorem fHi (ys:List Int) (v:Int):qY ys v≤ys.length:=List.Sublist.length_le (List.takeWhile_sublist _)
theorem fHj:∀(ys:List Int) (v:Int) (j:Nat),j<qY ys v→ys.getD j 0<v
 | [],v,j,h=>by simp[qY] at h
 | y::r,v,j,h=>by
  unfold qY at h;rw[List.takeWhile_cons] at h;split at h
  ·
   rename_i hy;cases j with
   | zero=>simpa using hy
   | succ j=>simpa using fHj r v j (by simpa [qY] using h)
  simp at h
theorem fCd:∀(ys:List Int) (v:Int),qY ys v<ys.length→¬ys.getD (qY ys v) 0<v
 | [],v,h=>by simp at h
 | y::r,v,h=>by
  unfold qY at h ⊢;rw[List.takeWhile_cons] at h ⊢;split
  ·rename_i hy;rw[if_pos hy] at h;simpa [qY] using fCd r v (by simpa [qY] using h)
  rename_i hy;simpa using hy
theorem zH (ys:List Int) (v:Int) (k:Nat) (hk:k≤ys.length) (h1:∀j,j<k→ys.getD j 0<v) (h2:k<ys.length→¬ys.getD k 0<v):qY ys v=k:=by
 rcases Nat.lt_trichotomy (qY ys v) k with h|h|h
 ·exact absurd (h1 _ h) (fCd ys v oM)
 ·exact h
 exact absurd (fHj ys v k h) (h2 (by have:=fHi ys v;omega))
section
variable {P : Program} (w : World)
theorem fGy {ops:Array Oper} {o:Oper} {a:Act} {K:Act→World→Prop} {Q:Exit→Act→World→Prop} {E:Prop} (hgd:o.guard=none) (s x:Operand) (t:TypeId)
  (ho:o.op =.call {callee:=.builtin .append,args:=#[s,x],argTypes:=#[t,t]})
  (base:Nat) (e:TypeId) (i:TypeInfo) (z:Value) (size bytes:Nat) (ht:P.underlying t=some (.slice e)) (hi:P.info? e=some i) (hz:i.zero=some z)
  (hsize:i.size=size) (hby:i.bytes=bytes) (hzs:z.cells.size=size) (hsz:0<size)
  (v:Value) (n:Nat) (xs:List Value) (hs:a.eval s=v) (ad:Addr) (m c:Nat) (news:List Value) (hx:a.eval x =.slice (some ad) m c)
  (hown:w.ownsRow base e size v n xs) (hnews:∀j u,news[j]? = some u→w.cell? (ad.add j)=some u) (hl:news.length=m*size) (h1:∀u ∈ news,u.oneCell'=true)
  (h63:n+m≤maxLen) (hbytes:(n+m)*bytes≤140737488355328) (hbase:base≤w.heap.size)
  (h:∀v' w',w'.ownsRow base e size v' (n+m) (xs++news)→w.grownBy w' v.ownBlock→(v' =.slice none 0 0↔v =.slice none 0 0∧m=0)→(∀W:World,Below base W w→Below base W w')→K (a.put o.dst v') w') :
  if Region.wanted o (yielded ops a.tmps)=true then Oper.wp P o a w K Q else E:=by
 have hw:Region.wanted o (yielded ops a.tmps)=true:=by simp[Region.wanted,hgd]
 rw[if_pos hw];exact wp_append_own w s x t ho base e i z size bytes ht hi hz hsize hby hzs hsz v n xs hs hown ad m c news hx hl hnews h1 h63 hbytes hbase (fun v' w' q1 q2 q3=>h v' w' q1 q2 q3 (fun W hW=>hW.grown q2 hbase (fun k hk=>(hown.lt k hk).1)))
end
theorem fAa (ys:List Int):∀u ∈ gN ys,u.oneCell'=true:=by
 intro u hu;simp only[gN,List.mem_map] at hu;obtain⟨y,_,rfl⟩:=hu;rfl
theorem fNj {w:World} {b o k m:Nat} {ys:List Int} (h:∀i,i<ys.length→w.cell? ⟨b,o+i,none⟩=some (.int .i64 (ys.getD i 0))) (hkm:k+m≤ys.length) {zs:List Int} (hz:zs=(ys.drop k).take m) :
  ∀j u,(gN zs)[j]? = some u→w.cell? ((⟨b,o+k,none⟩:Addr).add j)=some u:=by
 intro j u hj;subst hz;simp only[gN,List.getElem?_map,List.getElem?_take,List.getElem?_drop] at hj;split at hj
 ·
  rename_i hjm;have:=h (k+j) oM;have e:ys[k+j]? = some (ys.getD (k+j) 0):=by simp[List.getD,show k+j<ys.length by omega]
  rw[e] at hj;simp at hj;subst hj;have ea:((⟨b,o+k,none⟩:Addr).add j)=⟨b,o+(k+j),none⟩:=by
   unfold Addr.add;split
   ·rename_i h0;subst h0;simp
   simp[Nat.add_assoc]
  rw[ea,this];simp[List.getD]
 simp at hj
theorem fFy (w:World) (A B:Obj):((w.alloc A).alloc B).heap[w.heap.size]? = some A:=by
 have h:((w.alloc A).alloc B).heap[w.heap.size]? = (w.alloc A).heap[w.heap.size]?:=Below.heap_alloc _ _ _ (by simp);rw[h];exact Go.heap_alloc_new w A
theorem fCt (w:World) (A B:Obj):((w.alloc B).alloc A).heap[w.heap.size+1]? = some A:=by
 have h:=Go.heap_alloc_new (w.alloc B) A;rwa [World.size_alloc] at h
theorem fGn {w':World} {base g:Nat} (hg:w'.heap[g]? = some (.cells #[] 2 (0,0))) (hb:base≤g):w'.ownsRow base 2 1 (.slice (some ⟨g,0,none⟩) 0 0) 0 []:=
 ⟨rfl,.inr ⟨g,0,#[],rfl,hb,hg,Nat.le_refl _,by unfold maxLen;omega,rfl,rfl⟩⟩
theorem mJ {ys:List Int} {n k:Nat} (h:ys.length=n) (hk:k≤n):(gN (ys.take k)).length=k*1:=by simp[gN];omega
theorem mH {ys:List Int} {n k:Nat} (h:ys.length=n):(gN (ys.drop k)).length=(n-k)*1:=by simp[gN];omega
theorem qF {ys:List Int} {n k:Nat} (h:ys.length=n) (hk:n≤k):(gN (ys.drop k)).length=0*1:=by simp[gN];omega
theorem qG (v:Int):(gN [v]).length=1*1:=rfl
theorem fMb {w':World} {ad:Addr} {k n:Nat} {ys:List Int} (hn:ys.length=n) (hk:n≤k):∀j u,(gN (ys.drop k))[j]? = some u→w'.cell? (ad.add j)=some u:=by
 intro j u hj;rw[List.drop_eq_nil_of_le oM] at hj;simp[gN] at hj
theorem yY {w':World} {g:Nat} {v:Int} (h:w'.cell? ⟨g,0,none⟩=some (.int .i64 v)):∀j u,(gN [v])[j]? = some u→w'.cell? ((⟨g,0,none⟩:Addr).add j)=some u:=by
 intro j u hj;match j,hj with
 | 0,hj=>simp[gN] at hj;subst hj;simpa [Addr.add] using h
 | j+1,hj=>simp[gN] at hj
theorem fSy {w w':World} {b o k n:Nat} {ys:List Int} (h:ys.length=n∧∀i,i<n→w.cell? ⟨b,o+i,none⟩=some (.int .i64 (ys.getD i 0))) (hk:k≤n) (hb:Below w.heap.size w w') :
  ∀j u,(gN (ys.take k))[j]? = some u→w'.cell? ((⟨b,o,none⟩:Addr).add j)=some u:=by
 obtain⟨hn,h⟩:=h;have:=fNj (w:=w) (b:=b) (o:=o) (k:=0) (m:=k) (ys:=ys) (by rw[hn];exact h) oM (zs:=ys.take k) (by simp);intro j u hj;exact cK hb (this j u hj)
theorem fSx {w w':World} {b o k n:Nat} {ys:List Int} (h:ys.length=n∧∀i,i<n→w.cell? ⟨b,o+i,none⟩=some (.int .i64 (ys.getD i 0))) (hk:k≤n) (hb:Below w.heap.size w w') :
  ∀j u,(gN (ys.drop k))[j]? = some u→w'.cell? ((⟨b,o+k,none⟩:Addr).add j)=some u:=by
 obtain⟨hn,h⟩:=h;have:=fNj (w:=w) (b:=b) (o:=o) (k:=k) (m:=n-k) (ys:=ys) (by rw[hn];exact h) oM (zs:=ys.drop k) (by rw[List.take_of_length_le (by simp;omega)]);intro j u hj;exact cK hb (this j u hj)
theorem fIy (b o cap base:Nat) (ys:List Int) (v:Int) (w:World) (hn:ys.length≤1048576) (hbase:base≤w.heap.size) (ho:w.ownsRow base 2 1 (.slice (some ⟨b,o,none⟩) ys.length cap) ys.length (gN ys)) :
  Calls Tryz.prog 66 #[.slice (some ⟨b,o,none⟩) ys.length cap,.int .i64 v] w fun r w'=>∃u,r =.returned u∧w'.ownsRow base 2 1 u (putI ys v).length (gN (putI ys v))∧¬u =.slice none 0 0∧Below w.heap.size w w':=by
 have hv:=kR ho;obtain⟨a',cap',he,hcc,hmm,hcell⟩:=hv;simp only[Value.slice.injEq,true_and] at he;obtain⟨rfl,rfl⟩:=he;unfold maxLen at hmm;obtain⟨i0,hi,hz0,hz1,hz2⟩:=info_parts fC0;have HC:Hid (ys.length=ys.length∧∀i,i<ys.length→w.cell? ⟨b,o+i,none⟩=some (.int .i64 (ys.getD i 0))):=⟨rfl,fun i hi=>by
  obtain⟨b',o',hh,hc⟩:=hcell i hi;simp only[Option.some.injEq,Addr.mk.injEq,and_true] at hh;obtain⟨rfl,rfl⟩:=hh;exact hc⟩
 clear hcell;obtain⟨n,hn'⟩:∃n,n=ys.length:=⟨_,rfl⟩
 rw[←hn'] at hn hcc ho ⊢;replace HC:Hid (ys.length=n∧∀i,i<n→w.cell? ⟨b,o+i,none⟩=some (.int .i64 (ys.getD i 0))):=by rw[hn'];exact HC.out
 have HN:Hid (ys.length=n):=hn'.symm;clear hn';have HOW:Hid (w.ownsRow base 2 1 (.slice (some ⟨b,o,none⟩) n cap) n (gN ys)):=ho;clear ho;go_enter Tryz.func66,Tryz.ntmps66;go_wp2;go_loopw [5] (fun i w'=>∃k:Nat,k≤n∧i =.int .i64 k∧(∀j,j<k→ys.getD j 0<v)∧w'=w) (fun i _=>n-(intOf i).toNat)
 case atStart=>exact⟨0,oM,rfl,fun j h=>oM,rfl⟩
 obtain⟨k,hkn,rfl,hp,hwr⟩:=hrel;replace hwr:=hwr.symm;subst hwr;have HP:Hid (∀j,j<k→ys.getD j 0<v):=hp;clear hp;have hk0:(0:Int)≤(k:Int):=oM;have hk1:(k:Int)≤(cap:Int):=oM;have hk2:(k:Int)≤(n:Int):=oM;by_cases hlt:k<n
 ·
  have h1:=HC.out.2 k hlt;obtain⟨y,hy⟩:∃y,y=ys.getD k 0:=⟨_,rfl⟩
  rw[←hy] at h1;have HY:Hid (y=ys.getD k 0):=hy;clear hy;have hlt':(k:Int)<(n:Int):=oM;by_cases hyv:y<v
  ·
   go_wp2;refine⟨⟨k+1,by omega,by go_num,fun j hj=>?_,trivial⟩,mI⟩;by_cases hjk:j<k
   ·exact HP.out j hjk
   have:j=k:=oM;subst this;rw[←HY.out];exact hyv
  by_cases hye:y=v
  ·
   have hd:(y==v)=true:=by simpa using hye
   have HE:Hid (y=v):=hye;clear hye;go_wp2;go_ret;have e:putI ys v=ys:=by
    unfold putI;rw[zH ys v k (by have:=HN.out;omega) HP.out (fun _=>by rw[←HY.out];omega),if_pos];have e:k<ys.length:=by have:=HN.out;omega
    rw[←HE.out,HY.out];simp[List.getD,e]
   refine⟨_,rfl,?_,by simp,bR _ _⟩;rw[e,HN.out];exact HOW.out
  have hd:(y==v)=false:=by simpa using hye
  have hck:¬cap=k:=oM;have HSTOP:Hid (k<ys.length→¬ys.getD k 0<v):=fun _=>by rw[←HY.out];omega
  have HNE:Hid (¬ys.getD k (v+1)=v):=fun h=>hye (by rw[HY.out];have e:k<ys.length:=(by have:=HN.out;omega);simpa [List.getD,e] using h)
  go_wp2;go_region_held3 (fun w'=>Below w.heap.size w w') (repeat (first|exact bR _ _|assumption|refine bD ?_|refine bA ?_ _|refine bS ?_ (by assumption))) ((apply fGy (t:=61) (base:=w.heap.size) (e:=2) (i:=i0) (size:=1) (bytes:=8) (ht:=Tryz.underlying61) (hi:=hi) (hz:=hz0) (hsize:=hz1) (hby:=hz2) (hzs:=rfl) (hsz:=Nat.one_pos);rfl;rfl;rfl;rfl;(first|exact hown|exact hown.alloc _|(focus (refine fGn ?_ ?_;(focus (first|exact heap_alloc_new _ _|exact fFy _ _ _|exact fCt _ _ _));(focus (first|exact Nat.le_refl _|exact Nat.le_add_right _ _)))));(first|(exact fSy HC.out hkn (by repeat (first|exact bR _ _|assumption|refine bD ?_|refine bA ?_ _|refine bS ?_ (by assumption)));(first|exact mJ HC.out.1 hkn|exact mH HC.out.1|exact qG _|exact qF HC.out.1 hkm))|(exact fSx HC.out hkn (by repeat (first|exact bR _ _|assumption|refine bD ?_|refine bA ?_ _|refine bS ?_ (by assumption)));(first|exact mJ HC.out.1 hkn|exact mH HC.out.1|exact qG _|exact qF HC.out.1 hkm))|((focus (refine yY (v:=v) ?_;simp[go_sem];done));(first|exact mJ HC.out.1 hkn|exact mH HC.out.1|exact qG _|exact qF HC.out.1 hkm))|((focus (refine yY (v:=v) ?_;refine hgrow.cell (v:=.int .i64 v) ?_ ?_;(focus (simp[go_sem];done));(first|(focus (show some (w.heap.size+1)≠some w.heap.size;simp;done))|(focus (show some w.heap.size≠some (w.heap.size+1);simp;done)))));(first|exact mJ HC.out.1 hkn|exact mH HC.out.1|exact qG _|exact qF HC.out.1 hkm))|(exact fMb HC.out.1 hkm;(first|exact mJ HC.out.1 hkn|exact mH HC.out.1|exact qG _|exact qF HC.out.1 hkm)));(exact fAa _);(focus (unfold maxLen;omega));(focus omega);(exact Below.size (by repeat (first|exact bR _ _|assumption|refine bD ?_|refine bA ?_ _|refine bS ?_ (by assumption))));intro va wa hown hgrow hnil hbel;have hba:=hbel w (by repeat (first|exact bR _ _|assumption|refine bD ?_|refine bA ?_ _|refine bS ?_ (by assumption)))))
  all_goals
   go_wp2;go_ret;refine⟨va,rfl,?_,?_,hba⟩
   ·
    have e:putI ys v=ys.take k++[v]++ys.drop k:=by
     unfold putI;rw[zH ys v k (by have:=HN.out;omega) HP.out (fun h=>by have:=HSTOP.out h;omega),if_neg HNE.out]
    have l:(putI ys v).length=0+k+1+(n-k):=by
     rw[e];have:=HN.out;simp only[List.length_append,List.length_take,List.length_drop,List.length_cons,List.length_nil];omega
    rw[l,e];refine mF (base:=w.heap.size) ?_ hbase;simpa [gN] using hown
   intro h;have q:=hown.2;rw[h] at q;rcases q with ⟨_,q⟩|⟨g,c,cu,q,_⟩
   ·omega
   simp at q
 have hlt':¬(k:Int)<(n:Int):=oM;have hkm:n≤k:=oM;have HSTOP:Hid (k<ys.length→¬ys.getD k 0<v):=fun h=>by have:=HN.out;omega
 have HNE:Hid (¬ys.getD k (v+1)=v):=fun h=>by
  have e:ys[k]? = none:=List.getElem?_eq_none (by have:=HN.out;omega);simp[List.getD,e] at h;omega
 by_cases hck:cap=k
 ·
  go_wp2;go_region_held3 (fun w'=>Below w.heap.size w w') (repeat (first|exact bR _ _|assumption|refine bD ?_|refine bA ?_ _|refine bS ?_ (by assumption))) ((apply fGy (t:=61) (base:=w.heap.size) (e:=2) (i:=i0) (size:=1) (bytes:=8) (ht:=Tryz.underlying61) (hi:=hi) (hz:=hz0) (hsize:=hz1) (hby:=hz2) (hzs:=rfl) (hsz:=Nat.one_pos);rfl;rfl;rfl;rfl;(first|exact hown|exact hown.alloc _|(focus (refine fGn ?_ ?_;(focus (first|exact heap_alloc_new _ _|exact fFy _ _ _|exact fCt _ _ _));(focus (first|exact Nat.le_refl _|exact Nat.le_add_right _ _)))));(first|(exact fSy HC.out hkn (by repeat (first|exact bR _ _|assumption|refine bD ?_|refine bA ?_ _|refine bS ?_ (by assumption)));(first|exact mJ HC.out.1 hkn|exact mH HC.out.1|exact qG _|exact qF HC.out.1 hkm))|(exact fSx HC.out hkn (by repeat (first|exact bR _ _|assumption|refine bD ?_|refine bA ?_ _|refine bS ?_ (by assumption)));(first|exact mJ HC.out.1 hkn|exact mH HC.out.1|exact qG _|exact qF HC.out.1 hkm))|((focus (refine yY (v:=v) ?_;simp[go_sem];done));(first|exact mJ HC.out.1 hkn|exact mH HC.out.1|exact qG _|exact qF HC.out.1 hkm))|((focus (refine yY (v:=v) ?_;refine hgrow.cell (v:=.int .i64 v) ?_ ?_;(focus (simp[go_sem];done));(first|(focus (show some (w.heap.size+1)≠some w.heap.size;simp;done))|(focus (show some w.heap.size≠some (w.heap.size+1);simp;done)))));(first|exact mJ HC.out.1 hkn|exact mH HC.out.1|exact qG _|exact qF HC.out.1 hkm))|(exact fMb HC.out.1 hkm;(first|exact mJ HC.out.1 hkn|exact mH HC.out.1|exact qG _|exact qF HC.out.1 hkm)));(exact fAa _);(focus (unfold maxLen;omega));(focus omega);(exact Below.size (by repeat (first|exact bR _ _|assumption|refine bD ?_|refine bA ?_ _|refine bS ?_ (by assumption))));intro va wa hown hgrow hnil hbel;have hba:=hbel w (by repeat (first|exact bR _ _|assumption|refine bD ?_|refine bA ?_ _|refine bS ?_ (by assumption)))))
  all_goals
    go_wp2;go_ret;refine⟨va,rfl,?_,?_,hba⟩
    ·
     have e:putI ys v=ys.take k++[v]++ys.drop k:=by
      unfold putI;rw[zH ys v k (by have:=HN.out;omega) HP.out (fun h=>by have:=HSTOP.out h;omega),if_neg HNE.out]
     have l:(putI ys v).length=0+k+1:=by
      rw[e];have:=HN.out;simp only[List.length_append,List.length_take,List.length_drop,List.length_cons,List.length_nil];omega
     rw[l,e];refine mF (base:=w.heap.size) ?_ hbase;simpa [gN] using hown
    intro h;have q:=hown.2;rw[h] at q;rcases q with ⟨_,q⟩|⟨g,c,cu,q,_⟩
    ·omega
    simp at q
 go_wp2;go_region_held3 (fun w'=>Below w.heap.size w w') (repeat (first|exact bR _ _|assumption|refine bD ?_|refine bA ?_ _|refine bS ?_ (by assumption))) ((apply fGy (t:=61) (base:=w.heap.size) (e:=2) (i:=i0) (size:=1) (bytes:=8) (ht:=Tryz.underlying61) (hi:=hi) (hz:=hz0) (hsize:=hz1) (hby:=hz2) (hzs:=rfl) (hsz:=Nat.one_pos);rfl;rfl;rfl;rfl;(first|exact hown|exact hown.alloc _|(focus (refine fGn ?_ ?_;(focus (first|exact heap_alloc_new _ _|exact fFy _ _ _|exact fCt _ _ _));(focus (first|exact Nat.le_refl _|exact Nat.le_add_right _ _)))));(first|(exact fSy HC.out hkn (by repeat (first|exact bR _ _|assumption|refine bD ?_|refine bA ?_ _|refine bS ?_ (by assumption)));(first|exact mJ HC.out.1 hkn|exact mH HC.out.1|exact qG _|exact qF HC.out.1 hkm))|(exact fSx HC.out hkn (by repeat (first|exact bR _ _|assumption|refine bD ?_|refine bA ?_ _|refine bS ?_ (by assumption)));(first|exact mJ HC.out.1 hkn|exact mH HC.out.1|exact qG _|exact qF HC.out.1 hkm))|((focus (refine yY (v:=v) ?_;simp[go_sem];done));(first|exact mJ HC.out.1 hkn|exact mH HC.out.1|exact qG _|exact qF HC.out.1 hkm))|((focus (refine yY (v:=v) ?_;refine hgrow.cell (v:=.int .i64 v) ?_ ?_;(focus (simp[go_sem];done));(first|(focus (show some (w.heap.size+1)≠some w.heap.size;simp;done))|(focus (show some w.heap.size≠some (w.heap.size+1);simp;done)))));(first|exact mJ HC.out.1 hkn|exact mH HC.out.1|exact qG _|exact qF HC.out.1 hkm))|(exact fMb HC.out.1 hkm;(first|exact mJ HC.out.1 hkn|exact mH HC.out.1|exact qG _|exact qF HC.out.1 hkm)));(exact fAa _);(focus (unfold maxLen;omega));(focus omega);(exact Below.size (by repeat (first|exact bR _ _|assumption|refine bD ?_|refine bA ?_ _|refine bS ?_ (by assumption))));intro va wa hown hgrow hnil hbel;have hba:=hbel w (by repeat (first|exact bR _ _|assumption|refine bD ?_|refine bA ?_ _|refine bS ?_ (by assumption)))))
 all_goals
   go_wp2;go_ret;refine⟨va,rfl,?_,?_,hba⟩
   ·
    have e:putI ys v=ys.take k++[v]++ys.drop k:=by
     unfold putI;rw[zH ys v k (by have:=HN.out;omega) HP.out (fun h=>by have:=HSTOP.out h;omega),if_neg HNE.out]
    have l:(putI ys v).length=0+k+1:=by
     rw[e];have:=HN.out;simp only[List.length_append,List.length_take,List.length_drop,List.length_cons,List.length_nil];omega
    rw[l,e];refine mF (base:=w.heap.size) ?_ hbase;simpa [gN] using hown
   intro h;have q:=hown.2;rw[h] at q;rcases q with ⟨_,q⟩|⟨g,c,cu,q,_⟩
   ·omega
   simp at q
end
section
variable [dQ Leg] [iH Leg]
def rX (a b:Leg):Bool:=a.sh==b.sh&&(a.ac==b.ac&&a.ast==b.ast)
def fP (pre:List Leg) (l:Leg):Bool:=pre.any (fun o=>rX o l)
def scan (pre:List Leg):List Leg→Int
 | []=>0
 | l::r=>if gQ l=0 then (if fP pre l then 7 else scan (pre++[l]) r) else gQ l
def sumA (a:Int):List Leg→Int
 | []=>0
 | l::r=>(if l.ast=a then l.am else 0)+sumA a r
def fA (id:Int) (xs:List Leg):Int:=
 if inB id 1 1000000000 then
  (if xs.length<2∨8<xs.length then 2
  else if scan [] xs=0 then (if sumA 0 xs=0∧sumA 1 xs=0∧sumA 2 xs=0 then 0 else 1) else scan [] xs)
 else 3
def okTo (xs:List Leg) (k:Nat):Prop:=∀j,j<k→gQ (xs.getD j default)=0∧fP (xs.take j) (xs.getD j default)=false
theorem fCm (xs:List Leg) (k:Nat) (h:k<xs.length):xs.drop k=xs.getD k default::xs.drop (k+1):=by
 rw[List.drop_eq_getElem_cons h];simp[List.getD,h]
theorem rY (xs:List Leg) (k:Nat) (h:k<xs.length):xs.take (k+1)=xs.take k++[xs.getD k default]:=by
 rw[List.take_succ_eq_append_getElem h];simp[List.getD,h]
theorem fGt (xs:List Leg):∀k,k≤xs.length→okTo xs k→scan [] xs=scan (xs.take k) (xs.drop k)
 | 0,_,_=>by simp
 | k+1,hk,h=>by
  have ih:=fGt xs k oM (fun j hj=>h j oM);obtain⟨h1,h2⟩:=h k oM;rw[ih,fCm xs k oM,scan,if_pos h1,if_neg (by rw[h2];decide),rY xs k oM]
theorem fNw {xs:List Leg} {k:Nat} (hk:k<xs.length) (h:okTo xs k) (hb:¬gQ (xs.getD k default)=0):scan [] xs=gQ (xs.getD k default):=by
 rw[fGt xs k oM h,fCm xs k hk,scan,if_neg hb]
theorem fE9 {xs:List Leg} {k:Nat} (hk:k<xs.length) (h:okTo xs k) (h0:gQ (xs.getD k default)=0) (hb:fP (xs.take k) (xs.getD k default)=true):scan [] xs=7:=by
 rw[fGt xs k oM h,fCm xs k hk,scan,if_pos h0,if_pos hb]
theorem fL3 {xs:List Leg} (h:okTo xs xs.length):scan [] xs=0:=by
 rw[fGt xs xs.length (Nat.le_refl _) h];simp[scan]
theorem fDa {xs:List Leg} {k:Nat} (h:okTo xs k) (h0:gQ (xs.getD k default)=0) (h1:fP (xs.take k) (xs.getD k default)=false):okTo xs (k+1):=by
 intro j hj;by_cases e:j<k
 ·exact h j e
 have:j=k:=oM;subst this;exact⟨h0,h1⟩
theorem fWj (n lo hi:Int):inB n lo hi=true↔lo≤n∧n≤hi:=by simp[inB]
theorem pK {l:Leg} (h:gQ l=0):(0≤l.sh∧l.sh≤2)∧(0≤l.ac∧l.ac≤5)∧(0≤l.ast∧l.ast≤2)∧(-1000000000000≤l.am∧l.am≤1000000000000)∧l.am≠0:=by
 unfold gQ at h;split at h
 ·
  rename_i hp;simp[fJf,fWj] at hp;split at h
  ·omega
  exact⟨oM,by omega,by omega,by omega,by assumption⟩
 omega
theorem fMd (a:Int) (l r:List Leg):sumA a (l++r)=sumA a l+sumA a r:=by
 induction l with
 | nil=>simp[sumA]
 | cons x l ih=>simp only[List.cons_append,sumA,ih];omega
theorem fJv (a:Int) (xs:List Leg) (k:Nat) (h:k<xs.length):sumA a (xs.take (k+1))=sumA a (xs.take k)+if (xs.getD k default).ast=a then (xs.getD k default).am else 0:=by
 rw[rY xs k h,fMd];simp[sumA]
theorem fFd (a:Int) (xs:List Leg):∀k,k≤xs.length→okTo xs k → -(k*1000000000000:Int)≤sumA a (xs.take k)∧sumA a (xs.take k)≤k*1000000000000
 | 0,_,_=>by simp[sumA]
 | k+1,hk,h=>by
  have ih:=fFd a xs k oM (fun j hj=>h j oM);have hb:=(pK (h k oM).1).2.2.2.1;rw[fJv a xs k oM];split <;> omega
theorem tQ (xs:List Leg) (k:Nat) (h:k<xs.length) (l:Leg):fP (xs.take (k+1)) l=(fP (xs.take k) l||rX (xs.getD k default) l):=by
 rw[rY xs k h];simp[fP]
theorem zT {xs:List Leg} {k m:Nat} {l:Leg} (hkm:k≤m) (h:fP (xs.take k) l=true):fP (xs.take m) l=true:=by
 simp only[fP,List.any_eq_true] at h ⊢;obtain⟨o,ho,hs⟩:=h;exact⟨o,(List.take_subset_take_left xs hkm) ho,hs⟩
theorem fHu {id:Int} {xs:List Leg} (hid:inB id 1 1000000000=true) (h2:2≤xs.length) (h8:xs.length≤8):fA id xs=if scan [] xs=0 then (if sumA 0 xs=0∧sumA 1 xs=0∧sumA 2 xs=0 then 0 else 1) else scan [] xs:=by
 rw[fA,if_pos hid,if_neg oM]
theorem fVx {id:Int} {xs:List Leg} (hid:inB id 1 1000000000=true) (h2:2≤xs.length) (h8:xs.length≤8) {k:Nat} (hk:k<xs.length) (h:okTo xs k) (hb:¬gQ (xs.getD k default)=0):fA id xs=gQ (xs.getD k default):=by
 rw[fHu hid h2 h8,fNw hk h hb,if_neg hb]
theorem fM3 {id:Int} {xs:List Leg} (hid:inB id 1 1000000000=true) (h2:2≤xs.length) (h8:xs.length≤8) {k:Nat} (hk:k<xs.length) (h:okTo xs k) (h0:gQ (xs.getD k default)=0) (hb:fP (xs.take k) (xs.getD k default)=true):fA id xs=7:=by
 rw[fHu hid h2 h8,fE9 hk h h0 hb,if_neg (by decide)]
theorem fXm {id:Int} {xs:List Leg} (hid:inB id 1 1000000000=true) (h2:2≤xs.length) (h8:xs.length≤8) (h:okTo xs xs.length) (hs:¬(sumA 0 xs=0∧sumA 1 xs=0∧sumA 2 xs=0)):fA id xs=1:=by
 rw[fHu hid h2 h8,fL3 h,if_pos rfl,if_neg hs]
theorem fWe {id:Int} {xs:List Leg} (hid:inB id 1 1000000000=true) (h2:2≤xs.length) (h8:xs.length≤8) (h:okTo xs xs.length) (hs:sumA 0 xs=0∧sumA 1 xs=0∧sumA 2 xs=0):fA id xs=0:=by
 rw[fHu hid h2 h8,fL3 h,if_pos rfl,if_pos hs]
end
end Go.Proofs.YtbfnobcidnmohaaGreat

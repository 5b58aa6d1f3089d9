import Derived.Deep.RegionHeld3
import Derived.Deep.DrawnRows
import Derived.BigQuiet
import Derived.Deep.QuietTactic
import Derived.Test.YtbfnobcidnmohaaGreatPrnBooksBalanceLaw3
import Derived.Deep.AppendLies
set_option maxHeartbeats 1000000
set_option linter.unusedSectionVars false
namespace Go.Proofs.YtbfnobcidnmohaaGreat
open Go.RowKit
variable [DecidableEq Bal] [Inhabited Bal]
attribute [local go_sem ↓] Go.wp_at_zero Go.wp_at_succ
def balssR:Rep (List (List Bal)):=nRep balsR 68 1 one
def fA3 (xs:List (List Bal)):Nat:=wtL kN xs
theorem qW {w:World} {v:Value} {xs:List (List Bal)} (h:balssR.V w v xs):∃a c,v = .slice a xs.length c:=by
 obtain⟨a,c,rfl,_⟩:=h;exact⟨_,_,rfl⟩
theorem fCo:(Tryz.prog.info? 68).map (fun i=>(i.zero,i.size,i.bytes))=some (some (.slice none 0 0),1,24):=by kernel_rfl
theorem fQh {w w':World} {a0 a1:Addr} {x0 x1:Value} (hb:Below w.heap.size w w') (g0:w.cell? a0=some x0) (g1:w.cell? a1=some x1):Below w.heap.size w w'∧w'.cell? a0=some x0∧w'.cell? a1=some x1:=
 ⟨hb,cK hb g0,cK hb g1⟩
theorem fFb (x y:Value) (xs ys:List (List Bal)) (w:World) (hx:balssR.V w x xs) (hy:balssR.V w y ys) :
  Calls Tryz.prog 56 #[x,y] w fun e w'=>e = .returned (.bool (decide (xs=ys)))∧Below w.heap.size w w':=by
 obtain⟨ax,cx,rfl,hcx,hmx,hx⟩:=hx;obtain⟨ay,cy,rfl,hcy,hmy,hy⟩:=hy;unfold maxLen at hmx hmy;by_cases hl:ys.length=xs.length
 ·
  rw[hl] at hcy hy ⊢;have HL:Hid (ys.length=xs.length):=hl;clear hl;generalize hn:xs.length=n at *;have HN:Hid (xs.length=n):=hn;clear hn;go_enter Tryz.func56,Tryz.ntmps56;go_wp2;go_loopw [5] (fun i w'=>∃k:Nat,k≤n∧i = .int .i64 k∧(∀j,j<k→xs.getD j default=ys.getD j default)∧Below w.heap.size w w') (fun i _=>n-(intOf i).toNat)
  case atStart=>exact⟨0,Nat.zero_le _,rfl,fun j h=>absurd h (Nat.not_lt_zero _),Below.refl _ _⟩
  obtain⟨k,hk,rfl,hpre,hbl⟩:=hrel;have HP:Hid (∀j,j<k→xs.getD j default=ys.getD j default):=hpre;clear hpre;by_cases hlt:k<n
  ·
   obtain⟨bx,ox,ux,rfl,_,p1,hvx⟩:=hx k hlt;obtain⟨b2,oy,uy,rfl,_,p2,hvy⟩:=hy k hlt;obtain⟨l1,hl1⟩:∃l,l=xs.getD k default:=⟨_,rfl⟩
   obtain⟨l2,hl2⟩:∃l,l=ys.getD k default:=⟨_,rfl⟩
   rw[←hl1] at hvx;rw[←hl2] at hvy;have H1:Hid (l1=xs.getD k default):=hl1;have H2:Hid (l2=ys.getD k default):=hl2;have g0:w.cell? ⟨bx,ox+k,none⟩=some (ux):=rX p1;have g1:w.cell? ⟨b2,oy+k,none⟩=some (uy):=rX p2;clear hl1 hl2 hx hy p1 p2;go_wp2;go_region_held3 (fun w'=>Below w.heap.size w w'∧w'.cell? ⟨bx,ox+k,none⟩=some (ux)∧w'.cell? ⟨b2,oy+k,none⟩=some (uy)) ((refine fQh ?_ g0 g1;(repeat (first|exact bR _ _|assumption|refine bD ?_|refine bA ?_ _|refine bS ?_ (by assumption))))) (first|(go_at_call 111;refine(fA5 (ux) (uy) l1 l2 _ (balsR.below hvx (by(repeat (first|exact bR _ _|assumption|refine bD ?_|refine bA ?_ _|refine bS ?_ (by assumption))))) (balsR.below hvy (by(repeat (first|exact bR _ _|assumption|refine bD ?_|refine bA ?_ _|refine bS ?_ (by assumption)))))).mono ?_;rintro e w' ⟨rfl,hb1⟩));rename_i hH;have hB:=hH.1;clear hH;go_wp2
   ·
    rename_i hle;go_ret;refine⟨?_,hB⟩;have:¬xs=ys:=fun h=>by
     have:l1=l2:=by rw[H1.out,H2.out,h]
     simp[this] at hle
    simp[this]
   rename_i hle;refine⟨⟨k+1,by omega,by go_num,fun j hj=>?_,hB⟩,by simp[intOf];omega⟩;by_cases hjk:j<k
   ·
    exact HP.out j hjk
   have:j=k:=by omega
   subst this;rw[←H1.out,←H2.out];simpa using hle
  go_wp2;go_ret;have:k=n:=by omega
  subst this;refine⟨?_,hbl⟩;have:xs=ys:=kY (by rw[HL.out,HN.out]) (by rw[HN.out];exact HP.out);simp[this]
 go_enter Tryz.func56,Tryz.ntmps56;have hl':((xs.length:Int)==(ys.length:Int))=false:=by simp;omega
 go_wp2;go_ret;have:¬xs=ys:=fun h=>hl (by rw[h])
 exact⟨by simp[this],Below.refl _ _⟩
theorem fGi (x:Value) (xs:List (List Bal)) (w:World) (hx:balssR.V w x xs) (hn:fA3 xs≤1048576) :
  Calls Tryz.prog 47 #[x] w fun e w'=>∃v F,e = .returned v∧balssR.O w' w.heap.size F v xs∧Below w.heap.size w w':=by
 obtain⟨ax,cx,rfl,hcx,hmx,hx⟩:=hx;unfold maxLen at hmx;unfold fA3 at hn;have hlen:xs.length≤1048576:=by unfold wtL at hn;omega
 have hW:∀k,k<xs.length→kN (xs.getD k default)≤1048576:=fun k hk=>(fDk hn hk).1
 obtain⟨i0,hi,hz0,hz1,hz2⟩:=info_parts fCo;obtain⟨w1,hmk,hown,hgr⟩:=run_make_full (P:=Tryz.prog) w w.heap.size 46 68 i0 _ 1 Tryz.underlying46 hi hz0 hz1 .i64 .i64 xs.length (by rw[hz2];omega) (by unfold maxLen;omega) (Nat.le_refl _);have hbl0:Below w.heap.size w w1:=(Below.refl _ _).grown hgr (Nat.le_refl _) (fun k h=>by cases h);clear hn;generalize hn':xs.length=n at *;have HN:Hid (xs.length=n):=hn';clear hn';go_enter Tryz.func47,Tryz.ntmps47;go_wp2;go_loopw [4] (fun i w'=>∃(k:Nat) (cs:List Value) (us:Nat→Value) (fs:Nat→Nat→Prop),k≤n∧i = .int .i64 k∧PO balsR 68 1 one w' w.heap.size (.slice (some ⟨w.heap.size,0,none⟩) n n) n k (fun i=>xs.getD i default) cs us fs∧Below w.heap.size w w') (fun i _=>n-(intOf i).toNat)
 case atStart=>exact⟨0,_,fun _=>.int .i64 0,fun _ _=>False,Nat.zero_le _,rfl,⟨hown,fun i h=>by omega,fun i h=>by omega,fun i h=>by omega,fun i h=>by omega,fun i j h=>by omega⟩,hbl0⟩
 obtain⟨k,cs,us,fs,hk,rfl,hp,hbl⟩:=hrel;clear hown hmk hgr hbl0;by_cases hlt:k<n
 ·
  obtain⟨bx,ox,ux,rfl,_,p1,hvx⟩:=hx k hlt;have hw:=hW k hlt;obtain⟨l,hl⟩:∃l,l=xs.getD k default:=⟨_,rfl⟩
  rw[←hl] at hvx hw;have HL:Hid (l=xs.getD k default):=hl;have g0:w.cell? ⟨bx,ox+k,none⟩=some (ux):=rX p1;replace g0:=cK hbl g0;clear hx p1 hW hl;go_wp2_with fail;refine(fBd (ux) l _ (balsR.below hvx (by(repeat (first|exact bR _ _|assumption|refine bD ?_|refine bA ?_ _|refine bS ?_ (by assumption))))) hw).mono ?_;rintro e wa ⟨v1,F1,rfl,o1,b1⟩;obtain⟨a1,n1,rfl⟩:=fJ (balsR.ofO o1);have ho1:=(hp.keep b1).row;obtain⟨y0,q0⟩:=fG ho1 (k) (by omega);have hf:=fun j=>ho1.frozenAt j
  go_wp2;have s0:=ho1.stored (k) (.slice a1 l.length n1);have hcs:cs.set k (.slice a1 l.length n1)=setRow cs (k*1) [.slice a1 l.length n1]:=by rw[Nat.mul_one];rfl
  have hrow:=s0.1;rw[hcs] at hrow;have hcl:=hp.row.1;refine⟨⟨k+1,_,_,_,by omega,by go_num,hp.push (u:=(.slice a1 l.length n1)) (F:=F1) hbl.size b1 (by rw[←HL.out];exact o1) rfl hrow (Mod.of_grown s0.2) ?_ ?_,?_⟩,by simp[intOf];omega⟩
  ·
   intro i hi j hj;exact pQ _ _ _ _ (.inl (by omega))
  ·
   intro j hj;exact qI _ _ _ _ (by simp only[List.length_cons,List.length_nil];omega) hj
  exact((bS hbl b1).setCell (Nat.le_refl _) _)
 go_wp2;go_ret;have hkn:k=n:=by omega
 subst hkn;have e:=HN.out;subst e;exact⟨_,_,rfl,⟨cs,us,fs,hp,fun b=>Iff.rfl⟩,hbl⟩
theorem fGf (x:Value) (xs:List (List Bal)) (left:Int) (w:World) (hx:balssR.V w x xs) (h0:0≤left) (h1:left≤1048576) :
  Calls Tryz.prog 41 #[x,.int .i64 left] w fun e w'=>e = .returned (.int .i64 (fI left (fA3 xs)))∧Below w.heap.size w w':=by
 obtain⟨ax,cx,rfl,hcx,hmx,hx⟩:=hx;unfold maxLen at hmx;unfold fA3 wtL;have HT:Hid (∀k,k<xs.length→fV kN (k+1) xs=fV kN k xs+kN (xs.getD k default)∧fV kN (k+1) xs≤fV kN xs.length xs):=
  fun k hk=>⟨pO _ k xs hk,tC _ _ _ _ hk⟩
 generalize xs.length=n at *;by_cases h:left<n
 ·
  have h':left-(n:Int)<0:=by omega
  clear hx;go_enter Tryz.func41,Tryz.ntmps41;go_wp2;go_ret;exact⟨by simp only[fI];rw[if_pos (by omega)];rfl,Below.refl _ _⟩
 have h':¬left-(n:Int)<0:=by omega
 go_enter Tryz.func41,Tryz.ntmps41;go_wp2;go_loopw [1,5] (fun l i w'=>∃k:Nat,k≤n∧i = .int .i64 k∧l = .int .i64 (left-n-fV kN k xs)∧0≤left-n-fV kN k xs∧Below w.heap.size w w') (fun _ i _=>n-(intOf i).toNat)
 case atStart=>exact⟨0,Nat.zero_le _,rfl,by simp[fV],by simp[fV];omega,Below.refl _ _⟩
 obtain⟨k,hk,rfl,rfl,hpos,hbl⟩:=hrel;by_cases hlt:k<n
 ·
  obtain⟨bx,ox,ux,rfl,_,p1,hvx⟩:=hx k hlt;obtain⟨t2,t3⟩:=HT.out k hlt;generalize xs.getD k default=l at *;have g0:w.cell? ⟨bx,ox+k,none⟩=some (ux):=rX p1;replace g0:=cK hbl g0;generalize hm:kN l=m at *;have HM:Hid (kN l=m):=hm;clear hx p1 hm;generalize fV kN k xs=c at *;go_wp2_with fail;refine(fBc (ux) l (left-n-c) _ (balsR.below hvx (by(repeat (first|exact bR _ _|assumption|refine bD ?_|refine bA ?_ _|refine bS ?_ (by assumption))))) hpos (by omega)).mono ?_;rintro e wa ⟨rfl,b1⟩;rw[HM.out];go_wp2
  ·
   rename_i hneg;go_ret;refine⟨?_,by(repeat (first|exact bR _ _|assumption|refine bD ?_|refine bA ?_ _|refine bS ?_ (by assumption)))⟩;have:fI left ↑(n+fV kN n xs) = -1:=by
    unfold fI at hneg ⊢;rw[if_pos (by split at hneg <;> omega)]
   rw[this];rfl
  rename_i hneg;refine⟨⟨k+1,by omega,by go_num,?_,?_,by(repeat (first|exact bR _ _|assumption|refine bD ?_|refine bA ?_ _|refine bS ?_ (by assumption)))⟩,by simp[intOf];omega⟩
  ·
   congr 1
   unfold fI at hneg ⊢;split at hneg <;> omega
  unfold fI at hneg;split at hneg <;> omega
 go_wp2;go_ret;have hkn:k=n:=by omega
 subst hkn;refine⟨?_,hbl⟩;have:fI left ↑(k+fV kN k xs)=left-k-fV kN k xs:=by
  unfold fI;rw[if_neg (by omega)];omega
 rw[this];rfl
structure Ledg where
 shards:List (List Bal)
variable [DecidableEq Ledg] [Inhabited Ledg]
def ledgR:Rep Ledg where
 V:=fun w v x=>∃u1,v = .agg #[u1]∧balssR.V w u1 x.shards
 O:=fun w base F v x=>∃u1 F1,v = .agg #[u1]∧balssR.O w base F1 u1 x.shards∧(∀b,F b↔(F1 b))
 below:=fun h hb=>by
  obtain⟨u1,rfl,h1⟩:=h;exact⟨u1,rfl,balssR.below h1 hb⟩
 ofO:=fun h=>by
  obtain⟨u1,F1,rfl,h1,_⟩:=h;exact⟨u1,rfl,balssR.ofO h1⟩
 mod:=fun h hm hd=>by
  obtain⟨u1,F1,rfl,h1,hF⟩:=h;exact⟨u1,F1,rfl,balssR.mod h1 hm (fun b hb=>hd b ((hF b).2 hb)),hF⟩
 rng:=fun h b hb=>by
  obtain⟨u1,F1,rfl,h1,hF⟩:=h;rcases(hF b).1 hb with hb
  exact balssR.rng h1 b hb
 base:=fun h hb=>by
  obtain⟨u1,F1,rfl,h1,hF⟩:=h;exact⟨u1,F1,rfl,balssR.base h1 hb,hF⟩
def xN (x:Ledg):Nat:=fA3 x.shards
theorem vZ {w:World} {v:Value} {x:Ledg} (h:ledgR.V w v x):∃a1 c1,v = .agg #[.slice a1 x.shards.length c1]:=by
 obtain⟨u1,rfl,h1⟩:=h;obtain⟨a1,c1,rfl⟩:=qW h1;exact⟨_,_,rfl⟩
theorem fPe (x:Value) (d:Ledg) (w:World) (hx:ledgR.V w x d) (hn:xN d≤1048576) :
  Calls Tryz.prog 12 #[x] w fun e w'=>∃v F,e = .returned v∧ledgR.O w' w.heap.size F v d∧Below w.heap.size w w':=by
 obtain⟨u1,rfl,h1⟩:=hx;unfold xN at hn;go_enter Tryz.func12,Tryz.ntmps12;go_wp2_with fail;refine(fGi _ d.shards _ (balssR.below h1 (qBq)) (by omega)).mono ?_;rintro e w1 ⟨v1,F1,rfl,o1,b1⟩;obtain⟨a1,n1,rfl⟩:=qW (balssR.ofO o1);obtain⟨c1,f1⟩:=bcell b1;have z1:=b1.size;simp at z1;replace o1:=balssR.base (base':=w.heap.size+3) o1 (by simp;try omega);go_wp2;refine bodyPost_ret (v:=.agg #[.slice a1 d.shards.length n1]) ?_ rfl ⟨_,fun b=>F1 b,rfl,⟨_,F1,rfl,balssR.base (base:=w.heap.size+3) (by(repeat (first|assumption|refine Rep.set _ ?_ _ (by simp;omega)|refine Rep.set _ ?_ _ (by simp)|refine Rep.alloc _ ?_ _|refine Rep.keep _ ?_ (by assumption)))) (by omega),fun b=>Iff.rfl⟩,qBq⟩;simp[results,Tryz.results12,go_sem,c1]
theorem fO5 (x:Value) (d:Ledg) (left:Int) (w:World) (hx:ledgR.V w x d) (h0:0≤left) (h1:left≤1048576) :
  Calls Tryz.prog 10 #[x,.int .i64 left] w fun e w'=>e = .returned (.int .i64 (fI left (xN d)))∧Below w.heap.size w w':=by
 obtain⟨u1,rfl,k1⟩:=hx;go_enter Tryz.func10,Tryz.ntmps10;go_wp2_with fail;refine(fGf _ d.shards left _ (balssR.below k1 (qBq)) h0 h1).mono ?_;rintro e w1 ⟨rfl,b1⟩;go_wp2
 ·
  rename_i h;go_ret;refine⟨?_,qBq⟩;rw[kF (n:=fA3 d.shards) (by omega) (xN d) (by unfold xN;omega)];rfl
 rename_i h;go_ret;exact⟨rfl,qBq⟩
theorem fNs (x y:Value) (d d':Ledg) (w:World) (hx:ledgR.V w x d) (hy:ledgR.V w y d') :
  Calls Tryz.prog 14 #[x,y] w fun e w'=>e = .returned (.bool (decide (d=d')))∧Below w.heap.size w w':=by
 obtain⟨u1,rfl,h1⟩:=hx;obtain⟨v1,rfl,k1⟩:=hy;obtain⟨shards⟩:=d;obtain⟨shards'⟩:=d';dsimp only at h1 k1;go_enter Tryz.func14,Tryz.ntmps14;go_wp2_with fail;all_goals try (go_ret;exact⟨by simp_all,qBq⟩)
 refine(fFb _ _ shards shards' _ (balssR.below h1 (qBq)) (balssR.below k1 (qBq))).mono ?_;rintro e w1 ⟨rfl,b1⟩;go_wp2;all_goals
  go_ret;exact⟨by simp_all,qBq⟩
end Go.Proofs.YtbfnobcidnmohaaGreat
namespace Go.Proofs.YtbfnobcidnmohaaGreat
open Go.RowKit
variable [DecidableEq Leg] [Inhabited Leg]
def inB (n lo hi:Int):Bool:=decide (lo≤n)&&decide (n≤hi)
theorem fO (n lo hi:Int) (w:World) :
  Calls Tryz.prog 123 #[.int .i64 n,.int .i64 lo,.int .i64 hi] w fun e w'=>e = .returned (.bool (inB n lo hi))∧w'=w:=by
 by_cases h1:lo≤n
 all_goals
  go_enter Tryz.func123,Tryz.ntmps123;go_wp2;go_ret;exact⟨by first|(simp[inB,h1];done)|(simp[inB];omega),rfl⟩
theorem fT (n lo hi:Int) (w:World) :
  Calls Tryz.prog 152 #[.int .i64 n,.int .i64 lo,.int .i64 hi] w fun e w'=>e = .returned (.bool (inB n lo hi))∧w'=w:=by
 by_cases h1:lo≤n
 all_goals
  go_enter Tryz.func152,Tryz.ntmps152;go_wp2;go_ret;exact⟨by first|(simp[inB,h1];done)|(simp[inB];omega),rfl⟩
theorem mO (n:Int) (w:World) :
  Calls Tryz.prog 192 #[.int .i64 n] w fun e w'=>e = .returned (.bool (inB n 1 1000000000))∧w'=w:=by
 go_enter Tryz.func192,Tryz.ntmps192;go_wp2_with (go_at_call 123;refine(fO _ _ _ _).mono ?_;rintro e w' ⟨rfl,rfl⟩);go_ret;exact⟨rfl,rfl⟩
theorem kR (n:Int) (w:World) :
  Calls Tryz.prog 237 #[.int .i64 n] w fun e w'=>e = .returned (.bool (inB n 1 1000000000))∧w'=w:=by
 go_enter Tryz.func237,Tryz.ntmps237;go_wp2_with (go_at_call 152;refine(fT _ _ _ _).mono ?_;rintro e w' ⟨rfl,rfl⟩);go_ret;exact⟨rfl,rfl⟩
theorem pE (n:Int) (w:World) :
  Calls Tryz.prog 238 #[.int .i64 n] w fun e w'=>e = .returned (.bool (inB n 0 2))∧w'=w:=by
 go_enter Tryz.func238,Tryz.ntmps238;go_wp2_with (go_at_call 152;refine(fT _ _ _ _).mono ?_;rintro e w' ⟨rfl,rfl⟩);go_ret;exact⟨rfl,rfl⟩
theorem vE (n:Int) (w:World) :
  Calls Tryz.prog 253 #[.int .i64 n] w fun e w'=>e = .returned (.bool (inB n 0 5))∧w'=w:=by
 go_enter Tryz.func253,Tryz.ntmps253;go_wp2_with (go_at_call 152;refine(fT _ _ _ _).mono ?_;rintro e w' ⟨rfl,rfl⟩);go_ret;exact⟨rfl,rfl⟩
theorem fCq (n:Int) (w:World) :
  Calls Tryz.prog 254 #[.int .i64 n] w fun e w'=>e = .returned (.bool (inB n 0 2))∧w'=w:=by
 go_enter Tryz.func254,Tryz.ntmps254;go_wp2_with (go_at_call 152;refine(fT _ _ _ _).mono ?_;rintro e w' ⟨rfl,rfl⟩);go_ret;exact⟨rfl,rfl⟩
def fIn (l:Leg):Bool:=inB l.sh 0 2&&inB l.ac 0 5&&inB l.ast 0 2
def gF (l:Leg):Int:=if fIn l&&inB l.am (-1000000000000) 1000000000000 then (if l.am=0 then 1 else 0) else 3
theorem fKq (l:Leg) (w:World) :
  Calls Tryz.prog 288 #[legV l] w fun e w'=>e = .returned (.bool (fIn l))∧Below w.heap.size w w':=by
 obtain⟨a,b,c,d⟩:=l;unfold legV fIn;go_enter Tryz.func288,Tryz.ntmps288;go_wp2_with (first|(go_at_call 238;refine(pE _ _).mono ?_;rintro e w' ⟨rfl,rfl⟩)|(go_at_call 253;refine(vE _ _).mono ?_;rintro e w' ⟨rfl,rfl⟩)|(go_at_call 254;refine(fCq _ _).mono ?_;rintro e w' ⟨rfl,rfl⟩));all_goals
  go_ret;exact⟨by simp[*],(by repeat (first|exact Below.refl _ _|(refine Below.drew ?_)|(refine Below.alloc ?_ (by first|(simp;done)|(simp;omega)) _)))⟩
theorem fBq (l:Leg) (w:World) :
  Calls Tryz.prog 193 #[legV l] w fun e w'=>e = .returned (.int .i64 (gF l))∧Below w.heap.size w w':=by
 obtain⟨a,b,c,d⟩:=l;unfold legV;go_enter Tryz.func193,Tryz.ntmps193;go_wp2_with (go_at_call 123;refine(fO _ _ _ _).mono ?_;rintro e w' ⟨rfl,rfl⟩);all_goals
  go_ret;exact⟨by simp_all [gF,fIn],(by repeat (first|exact Below.refl _ _|(refine Below.drew ?_)|(refine Below.alloc ?_ (by first|(simp;done)|(simp;omega)) _)))⟩
theorem fBk (l:Leg) (w:World) :
  Calls Tryz.prog 240 #[legV l] w fun e w'=>e = .returned (.int .i64 (gF l))∧Below w.heap.size w w':=by
 obtain⟨a,b,c,d⟩:=l;unfold legV;go_enter Tryz.func240,Tryz.ntmps240;go_wp2_with (first|(go_at_call 288;refine(fKq ⟨a,b,c,d⟩ _).mono ?_;rintro e w' ⟨rfl,hb⟩;obtain⟨hc,hf⟩:=bcell hb)|(go_at_call 152;refine(fT _ _ _ _).mono ?_;rintro e w' ⟨rfl,rfl⟩));all_goals
  go_ret;exact⟨by simp_all [gF],((Below.refl _ _).alloc (Nat.le_refl _) _).trans (hb.mono (by simp))⟩
theorem fC1 (l:Leg) (w:World) :
  Calls Tryz.prog 289 #[legV l] w fun e w'=>e = .returned (legV ⟨l.sh,l.ac,l.ast,0⟩)∧Below w.heap.size w w':=by
 obtain⟨a,b,c,d⟩:=l;unfold legV;go_enter Tryz.func289,Tryz.ntmps289;go_wp2;exact bodyPost_ret (v:=.agg #[.int .i64 a,.int .i64 b,.int .i64 c,.int .i64 0]) (by simp[results,Tryz.results289,go_sem]) rfl ⟨rfl,(by repeat (first|exact Below.refl _ _|(refine Below.drew ?_)|(refine Below.alloc ?_ (by first|(simp;done)|(simp;omega)) _)))⟩
variable [DecidableEq Bal] [Inhabited Bal] [DecidableEq Ledg] [Inhabited Ledg]
theorem gM {n:Int} (h0 : -9223372036854775808≤n) (h1:n≤9223372036854775807):IntKind.i64.wrap n=n:=by
 rw[IntKind.wrap_i64];omega
theorem gG {B:Nat} {w Y:World} (h:Below B w Y) (n:Nat):Below B w (Y.drewN n):=h.trans ⟨rfl,rfl,rfl,Nat.le_refl _,fun _ _=>rfl⟩
def fC (f:Nat→Int):Nat→Int
 | 0=>0
 | n+1=>if fC f n=0 then f n else fC f n
theorem fD {f:Nat→Int} {k:Nat} (h:fC f k=0) (h':f k=0):fC f (k+1)=0:=by simp[fC,h,h']
theorem fH {f:Nat→Int} {k:Nat} (h:fC f k=0) (h':f k≠0):∀n,k<n→fC f n=f k
 | 0,hn=>by omega
 | n+1,hn=>by
  by_cases e:k=n
  ·
   subst e;simp[fC,h]
  have:=fH h h' n (by omega);simp[fC,this,h']
theorem mD {f:Nat→Int}:∀{n:Nat},fC f n=0→∀k,k<n→f k=0
 | 0,_,k,hk=>by omega
 | n+1,h,k,hk=>by
  unfold fC at h;split at h
  ·
   rename_i h1;by_cases e:k=n
   ·
    subst e;exact h
   exact mD h1 k (by omega)
  exact absurd h (by assumption)
theorem fF5 {f:Nat→Int}:∀{n:Nat},(∀k,k<n→f k=0)→fC f n=0
 | 0,_=>rfl
 | n+1,h=>fD (fF5 (fun k hk=>h k (by omega))) (h n (by omega))
def qN (ac ast:Int):Bool:=inB ac 0 5&&inB ast 0 2
def uB (x:Bal):Bool:=qN x.ac x.ast&&inB x.am 1 1000000000000
def behind (b a:Bal):Bool:=if b.ac=a.ac then decide (a.ast<b.ast) else decide (a.ac<b.ac)
def vP (xs:List Bal) (k:Nat):Int:=if uB (xs.getD k default) then (if 0<k∧behind (xs.getD k default) (xs.getD (k-1) default)=false then 1 else 0) else 3
def gN (xs:List Bal):Int:=if 18<xs.length then 2 else fC (vP xs) xs.length
def fD0 (g:Ledg) (k:Nat):Int:=gN (g.shards.getD k default)
def fP (g:Ledg):Int:=if g.shards.length<1∨3<g.shards.length then 2 else fC (fD0 g) g.shards.length
theorem inBi {n lo hi:Int}:inB n lo hi=true↔lo≤n∧n≤hi:=by simp[inB]
theorem keyOk_iff {a s:Int}:qN a s=true↔(0≤a∧a≤5)∧(0≤s∧s≤2):=by simp[qN,inBi]
theorem balOk_iff {x:Bal}:uB x=true↔((0≤x.ac∧x.ac≤5)∧(0≤x.ast∧x.ast≤2))∧(1≤x.am∧x.am≤1000000000000):=by simp[uB,keyOk_iff,inBi]
theorem fEh {b a:Bal} (hb:qN b.ac b.ast=true) (ha:qN a.ac a.ast=true):behind b a=false↔b.ac*3+b.ast≤a.ac*3+a.ast:=by
 obtain⟨⟨_,_⟩,_,_⟩:=keyOk_iff.1 hb;obtain⟨⟨_,_⟩,_,_⟩:=keyOk_iff.1 ha;unfold behind;split <;> simp <;> omega
theorem zH {x:Bal} (h:uB x=true):qN x.ac x.ast=true:=by
 rw[uB,Bool.and_eq_true] at h;exact h.1
structure BalsOk (xs:List Bal):Prop where
 len:xs.length≤18
 ok:∀k,k<xs.length→uB (xs.getD k default)=true
 ord:∀k,k+1<xs.length→behind (xs.getD (k+1) default) (xs.getD k default)=true
theorem fB4 {xs:List Bal} (h:gN xs=0):BalsOk xs:=by
 unfold gN at h;split at h
 ·
  omega
 have hz:=mD h;refine⟨by omega,fun k hk=>?_,fun k hk=>?_⟩
 ·
  have:=hz k hk;unfold vP at this;split at this
  ·
   assumption
  omega
 have:=hz (k+1) hk;unfold vP at this;split at this
 ·
  split at this
  ·
   omega
  rename_i h1 h2;simp at h2;simpa using h2
 omega
theorem xW {g:Ledg} (h:fP g=0):1≤g.shards.length∧g.shards.length≤3∧∀k,k<g.shards.length→BalsOk (g.shards.getD k default):=by
 unfold fP at h;split at h
 ·
  omega
 exact⟨by omega,by omega,fun k hk=>fB4 (mD h k hk)⟩
def hasB (a s:Int):List Bal→Int
 | []=>0
 | x::r=>if x.ac=a∧x.ast=s then x.am else hasB a s r
theorem fSc (xs:List Bal) (k:Nat) (h:k<xs.length):xs.drop k=xs.getD k default::xs.drop (k+1):=by
 rw[List.drop_eq_getElem_cons h];simp[List.getD,h]
theorem fQb {a s:Int} {xs:List Bal} {k:Nat} (h:k<xs.length):hasB a s (xs.drop k)=if (xs.getD k default).ac=a∧(xs.getD k default).ast=s then (xs.getD k default).am else hasB a s (xs.drop (k+1)):=by
 rw[fSc xs k h];rfl
variable [DecidableEq Vot] [Inhabited Vot] [DecidableEq Slt] [Inhabited Slt]
def votB (x:Vot):Bool:=inB x.bal 0 1000&&inB x.val 1 2
def noV:Vot:=⟨-1,0⟩
def other (v p:Vot):Bool:=decide (v.bal<p.bal)||(decide (v.bal=p.bal) && !decide (v.val=p.val))
def tX (xs:List Vot) (n:Nat):Vot:=if n=0 then noV else xs.getD (n-1) default
def xJ (xs:List Vot) (k:Nat):Int:=if votB (xs.getD k default) then (if other (xs.getD k default) (tX xs k)=true then 1 else 0) else 3
def kX (s:Slt):Bool:=inB s.con 1 1000000000&&inB s.sh 0 2&&inB s.pr (-1) 1000
def gX (s:Slt):Int:=
 if kX s then (if 60<s.cast.length then 2 else if fC (xJ s.cast) s.cast.length=0 then (if (s.lb=(tX s.cast s.cast.length).bal∧s.lv=(tX s.cast s.cast.length).val)∧s.lb≤s.pr then 0 else 1) else fC (xJ s.cast) s.cast.length) else 3
theorem votB_iff {x:Vot}:votB x=true↔(0≤x.bal∧x.bal≤1000)∧(1≤x.val∧x.val≤2):=by simp[votB,inBi]
theorem fOw {x:Vot} (h:votB x=true):other x noV=false:=by
 have h':=votB_iff.1 h;unfold other noV;dsimp only;rw[decide_eq_false (by omega),decide_eq_false (by omega)];rfl
theorem uT (xs:List Vot):tX xs 0=noV:=rfl
theorem uR (xs:List Vot) (k:Nat):tX xs (k+1)=xs.getD k default:=by simp[tX]
theorem fDh {xs:List Vot} {k:Nat} (h:votB (xs.getD k default)=false):xJ xs k=3:=by unfold xJ;rw[h];rfl
theorem fM1 {xs:List Vot} {k:Nat} (h:votB (xs.getD k default)=true) (h':other (xs.getD k default) (tX xs k)=false):xJ xs k=0:=by simp only[xJ,h,h'];simp
theorem fDi {xs:List Vot} {k:Nat} (h:votB (xs.getD k default)=true) (h':other (xs.getD k default) (tX xs k)=true):xJ xs k=1:=by simp only[xJ,h,h'];simp
theorem tV {s:Slt} (h:kX s=false):gX s=3:=by unfold gX;rw[h];rfl
theorem fIt {s:Slt} (h:kX s=true) (h':60<s.cast.length):gX s=2:=by unfold gX;rw[h,if_pos rfl,if_pos h']
theorem vJ {s:Slt} {k:Nat} {c:Int} (h:kX s=true) (h':s.cast.length≤60) (hk:k<s.cast.length) (hs:fC (xJ s.cast) k=0) (hc:xJ s.cast k=c) (h0:c≠0):gX s=c:=by
 have e:=fH hs (by rw[hc];exact h0) _ hk;unfold gX;rw[h,if_pos rfl,if_neg (by omega),e,hc,if_neg h0]
theorem fMu {s:Slt} (h:kX s=true) (h':s.cast.length≤60) (hs:fC (xJ s.cast) s.cast.length=0) :
  gX s=if (s.lb=(tX s.cast s.cast.length).bal∧s.lv=(tX s.cast s.cast.length).val)∧s.lb≤s.pr then 0 else 1:=by
 unfold gX;rw[h,if_pos rfl,if_neg (by omega),if_pos hs]
structure SltOk (s:Slt):Prop where
 range:kX s=true
 len:s.cast.length≤60
 at_:∀k,k<s.cast.length→votB (s.cast.getD k default)=true∧other (s.cast.getD k default) (tX s.cast k)=false
 last:s.lb=(tX s.cast s.cast.length).bal∧s.lv=(tX s.cast s.cast.length).val
 pr:s.lb≤s.pr
theorem SltOk.bal {s:Slt} (h:SltOk s) : -1≤s.lb∧s.lb≤1000:=by
 obtain⟨h1,_⟩:=h.last;have hl:=h.len;cases e:s.cast.length with
 | zero=>rw[e,uT] at h1;rw[h1];simp[noV]
 | succ n=>
  rw[e,uR] at h1;have:=votB_iff.1 (h.at_ n (by omega)).1;rw[h1];omega
end Go.Proofs.YtbfnobcidnmohaaGreat
namespace Go.Proofs.YtbfnobcidnmohaaGreat
open Go.RowKit
variable [DecidableEq Vot] [Inhabited Vot] [DecidableEq Slt] [Inhabited Slt] [DecidableEq Bal] [Inhabited Bal] [DecidableEq Ledg] [Inhabited Ledg] [DecidableEq Leg] [Inhabited Leg]
attribute [local go_sem ↓] Go.wp_at_zero Go.wp_at_succ
theorem fP5 (a b c d:Int) (w:World):(Op.equalIn 10000 126 (.agg #[.int .i64 a,.int .i64 b]) (.agg #[.int .i64 c,.int .i64 d])).run Tryz.prog w = .ok (decide (a=c)&&decide (b=d)) w:=by
 rw[run_equalIn_struct w 9999 126 _ _ (by kernel_rfl) (by kernel_rfl)];have hf : (Tryz.prog.fieldsOf 126).toList = [{ name := "Ballot", type := 2, offset := 0, embedded := false, tag := "", pkgPath := "", byteOffset := 0 }, { name := "Value", type := 2, offset := 1, embedded := false, tag := "", pkgPath := "", byteOffset := 8 }] := by kernel_rfl
 rw[hf];simp[Op.eqFields,go_sem];by_cases e1:a=c <;> by_cases e2:b=d <;> simp[e1,e2]
theorem fT5 (a b c d:Int) (w:World):(binOp .eql 126 (.agg #[.int .i64 a,.int .i64 b]) (.agg #[.int .i64 c,.int .i64 d])).run Tryz.prog w = .ok (.bool (decide (a=c)&&decide (b=d))) w:=by
 rw[run_eql_struct,fP5];rfl
theorem zR (a b c d:Int) (w:World):(binOp .neq 126 (.agg #[.int .i64 a,.int .i64 b]) (.agg #[.int .i64 c,.int .i64 d])).run Tryz.prog w = .ok (.bool (!(decide (a=c)&&decide (b=d)))) w:=by
 rw[run_neq_struct,fP5];rfl
theorem tQ (w:World):Calls Tryz.prog 129 #[] w fun e w'=>e = .returned (.agg #[.int .i64 (-1),.int .i64 0])∧Below w.heap.size w w':=by
 go_enter Tryz.func129,Tryz.ntmps129;go_wp2;refine bodyPost_ret (v:=.agg #[.int .i64 (-1),.int .i64 0]) ?_ rfl ⟨rfl,qBq⟩;simp[results,Tryz.results129,go_sem]
theorem fAv (w:World):Calls Tryz.prog 239 #[] w fun e w'=>e = .returned (.agg #[.int .i64 (-1),.int .i64 0])∧Below w.heap.size w w':=by
 go_enter Tryz.func239,Tryz.ntmps239;go_wp2;refine bodyPost_ret (v:=.agg #[.int .i64 (-1),.int .i64 0]) ?_ rfl ⟨rfl,qBq⟩;simp[results,Tryz.results239,go_sem]
theorem fU (n:Int) (w:World):Calls Tryz.prog 125 #[.int .i64 n] w fun e w'=>e = .returned (.bool (inB n 0 1000))∧w'=w:=by
 go_enter Tryz.func125,Tryz.ntmps125;go_wp2_with (go_at_call 123;refine(fO _ _ _ _).mono ?_;rintro e w' ⟨rfl,rfl⟩);go_ret;exact⟨rfl,rfl⟩
theorem gZ (n:Int) (w:World):Calls Tryz.prog 126 #[.int .i64 n] w fun e w'=>e = .returned (.bool (inB n 1 2))∧w'=w:=by
 have e:inB n 1 2=(decide (n=1)||decide (n=2)):=by rw[Bool.eq_iff_iff,inBi];simp;omega
 rw[e];clear e;by_cases h1:n=1
 ·
  subst h1;go_enter Tryz.func126,Tryz.ntmps126;go_wp2;go_ret;exact⟨rfl,rfl⟩
 go_enter Tryz.func126,Tryz.ntmps126;go_wp2;all_goals
  go_ret;exact⟨by first|(simp_all;done)|(simp_all;rw[Bool.eq_iff_iff];simp;done)|(simp_all;rw[Bool.eq_iff_iff];simp;omega),rfl⟩
theorem vX (n:Int) (w:World):Calls Tryz.prog 283 #[.int .i64 n] w fun e w'=>e = .returned (.bool (inB n 0 1000))∧w'=w:=by
 go_enter Tryz.func283,Tryz.ntmps283;go_wp2_with (go_at_call 152;refine(fT _ _ _ _).mono ?_;rintro e w' ⟨rfl,rfl⟩);go_ret;exact⟨rfl,rfl⟩
theorem fKr (n:Int) (w:World):Calls Tryz.prog 267 #[.int .i64 n] w fun e w'=>e = .returned (.bool (inB n 1 2))∧w'=w:=by
 go_enter Tryz.func267,Tryz.ntmps267;go_wp2_with (go_at_call 152;refine(fT _ _ _ _).mono ?_;rintro e w' ⟨rfl,rfl⟩);go_ret;exact⟨rfl,rfl⟩
theorem qX (x:Vot) (w:World):Calls Tryz.prog 229 #[.agg #[.int .i64 x.bal,.int .i64 x.val]] w fun e w'=>e = .returned (.bool (votB x))∧Below w.heap.size w w':=by
 unfold votB;cases h1:inB x.bal 0 1000;all_goals
  go_enter Tryz.func229,Tryz.ntmps229;go_wp2_with (first|(go_at_call 283;refine(vX _ _).mono ?_;rintro e w' ⟨rfl,rfl⟩)|(go_at_call 267;refine(fKr _ _).mono ?_;rintro e w' ⟨rfl,rfl⟩));go_ret;exact⟨by simp,qBq⟩
def fMo (x y:Vot):Bool:=decide (x.bal=y.bal) && !decide (x.val=y.val)
theorem fCr (x y:Vot) (w:World):Calls Tryz.prog 276 #[.agg #[.int .i64 x.bal,.int .i64 x.val],.agg #[.int .i64 y.bal,.int .i64 y.val]] w fun e w'=>e = .returned (.bool (fMo x y))∧Below w.heap.size w w':=by
 unfold fMo;by_cases h1:x.bal=y.bal;all_goals
  go_enter Tryz.func276,Tryz.ntmps276;go_wp2;all_goals
   go_ret;exact⟨by first|(simp_all;done)|(simp_all;rw[Bool.eq_iff_iff];simp;done)|(simp_all;rw[Bool.eq_iff_iff];simp;omega),qBq⟩
end Go.Proofs.YtbfnobcidnmohaaGreat
namespace Go.Proofs.YtbfnobcidnmohaaGreat
open Go.RowKit
variable [DecidableEq Leg] [Inhabited Leg]
attribute [local go_sem ↓] Go.wp_at_zero Go.wp_at_succ
def qV (ys:List Int) (v:Int):Nat:=(ys.takeWhile (· < v)).length
def putI (ys:List Int) (v:Int):List Int:=if ys.getD (qV ys v) (v+1)=v then ys else ys.take (qV ys v)++[v]++ys.drop (qV ys v)
theorem fGx (ys:List Int) (v:Int):qV ys v≤ys.length:=List.Sublist.length_le (List.takeWhile_sublist _)
theorem fGy:∀(ys:List Int) (v:Int) (j:Nat),j<qV ys v→ys.getD j 0<v
 | [],v,j,h=>by simp[qV] at h
 | y::r,v,j,h=>by
  unfold qV at h;rw[List.takeWhile_cons] at h;split at h
  ·
   rename_i hy;cases j with
   | zero=>simpa using hy
   | succ j=>simpa using fGy r v j (by simpa [qV] using h)
  simp at h
theorem fB1:∀(ys:List Int) (v:Int),qV ys v<ys.length→¬ys.getD (qV ys v) 0<v
 | [],v,h=>by simp at h
 | y::r,v,h=>by
  unfold qV at h ⊢;rw[List.takeWhile_cons] at h ⊢;split
  ·
   rename_i hy;rw[if_pos hy] at h;simpa [qV] using fB1 r v (by simpa [qV] using h)
  rename_i hy;simpa using hy
theorem zD (ys:List Int) (v:Int) (k:Nat) (hk:k≤ys.length) (h1:∀j,j<k→ys.getD j 0<v) (h2:k<ys.length→¬ys.getD k 0<v):qV ys v=k:=by
 rcases Nat.lt_trichotomy (qV ys v) k with h|h|h
 ·
  exact absurd (h1 _ h) (fB1 ys v (by omega))
 ·
  exact h
 exact absurd (fGy ys v k h) (h2 (by have:=fGx ys v;omega))
section
variable {P : Program} (w : World)
theorem fGc {ops:Array Oper} {o:Oper} {a:Act} {K:Act→World→Prop} {Q:Exit→Act→World→Prop} {E:Prop} (hgd:o.guard=none) (s x:Operand) (t:TypeId)
  (ho:o.op = .call {callee:=.builtin .append,args:=#[s,x],argTypes:=#[t,t]})
  (base:Nat) (e:TypeId) (i:TypeInfo) (z:Value) (size bytes:Nat) (ht:P.underlying t=some (.slice e)) (hi:P.info? e=some i) (hz:i.zero=some z)
  (hsize:i.size=size) (hby:i.bytes=bytes) (hzs:z.cells.size=size) (hsz:0<size)
  (v:Value) (n:Nat) (xs:List Value) (hs:a.eval s=v) (ad:Addr) (m c:Nat) (news:List Value) (hx:a.eval x = .slice (some ad) m c)
  (hown:w.ownsRow base e size v n xs) (hnews:∀j u,news[j]? = some u→w.cell? (ad.add j)=some u) (hl:news.length=m*size) (h1:∀u ∈ news,u.oneCell'=true)
  (h63:n+m≤maxLen) (hbytes:(n+m)*bytes≤140737488355328) (hbase:base≤w.heap.size)
  (h:∀v' w',w'.ownsRow base e size v' (n+m) (xs++news)→w.grownBy w' v.ownBlock→(v' = .slice none 0 0↔v = .slice none 0 0∧m=0)→(∀W:World,Below base W w→Below base W w')→K (a.put o.dst v') w') :
  if Region.wanted o (yielded ops a.tmps)=true then Oper.wp P o a w K Q else E:=by
 have hw:Region.wanted o (yielded ops a.tmps)=true:=by simp[Region.wanted,hgd]
 rw[if_pos hw];exact wp_append_own w s x t ho base e i z size bytes ht hi hz hsize hby hzs hsz v n xs hs hown ad m c news hx hl hnews h1 h63 hbytes hbase (fun v' w' q1 q2 q3=>h v' w' q1 q2 q3 (fun W hW=>hW.grown q2 hbase (fun k hk=>(hown.lt k hk).1)))
end
theorem fCp (ys:List Int):∀u ∈ gY ys,u.oneCell'=true:=by
 intro u hu;simp only[gY,List.mem_map] at hu;obtain⟨y,_,rfl⟩:=hu;rfl
theorem fMd {w:World} {b o k m:Nat} {ys:List Int} (h:∀i,i<ys.length→w.cell? ⟨b,o+i,none⟩=some (.int .i64 (ys.getD i 0))) (hkm:k+m≤ys.length) {zs:List Int} (hz:zs=(ys.drop k).take m) :
  ∀j u,(gY zs)[j]? = some u→w.cell? ((⟨b,o+k,none⟩:Addr).add j)=some u:=by
 intro j u hj;subst hz;simp only[gY,List.getElem?_map,List.getElem?_take,List.getElem?_drop] at hj;split at hj
 ·
  rename_i hjm;have:=h (k+j) (by omega);have e:ys[k+j]? = some (ys.getD (k+j) 0):=by simp[List.getD,show k+j<ys.length by omega]
  rw[e] at hj;simp at hj;subst hj;have ea:((⟨b,o+k,none⟩:Addr).add j)=⟨b,o+(k+j),none⟩:=by
   unfold Addr.add;split
   ·
    rename_i h0;subst h0;simp
   simp[Nat.add_assoc]
  rw[ea,this];simp[List.getD]
 simp at hj
theorem fFh (w:World) (A B:Obj):((w.alloc A).alloc B).heap[w.heap.size]? = some A:=by
 have h:((w.alloc A).alloc B).heap[w.heap.size]? = (w.alloc A).heap[w.heap.size]?:=Below.heap_alloc _ _ _ (by simp);rw[h];exact Go.heap_alloc_new w A
theorem fCi (w:World) (A B:Obj):((w.alloc B).alloc A).heap[w.heap.size+1]? = some A:=by
 have h:=Go.heap_alloc_new (w.alloc B) A;rwa [World.size_alloc] at h
theorem fF1 {w':World} {base g:Nat} (hg:w'.heap[g]? = some (.cells #[] 2 (0,0))) (hb:base≤g):w'.ownsRow base 2 1 (.slice (some ⟨g,0,none⟩) 0 0) 0 []:=
 ⟨rfl,.inr ⟨g,0,#[],rfl,hb,hg,Nat.le_refl _,by unfold maxLen;omega,rfl,rfl⟩⟩
theorem mG {ys:List Int} {n k:Nat} (h:ys.length=n) (hk:k≤n):(gY (ys.take k)).length=k*1:=by simp[gY];omega
theorem mF {ys:List Int} {n k:Nat} (h:ys.length=n):(gY (ys.drop k)).length=(n-k)*1:=by simp[gY];omega
theorem qF {ys:List Int} {n k:Nat} (h:ys.length=n) (hk:n≤k):(gY (ys.drop k)).length=0*1:=by simp[gY];omega
theorem qG (v:Int):(gY [v]).length=1*1:=rfl
theorem fLb {w':World} {ad:Addr} {k n:Nat} {ys:List Int} (hn:ys.length=n) (hk:n≤k):∀j u,(gY (ys.drop k))[j]? = some u→w'.cell? (ad.add j)=some u:=by
 intro j u hj;rw[List.drop_eq_nil_of_le (by omega)] at hj;simp[gY] at hj
theorem fA0 {w':World} {g:Nat} {v:Int} (h:w'.cell? ⟨g,0,none⟩=some (.int .i64 v)):∀j u,(gY [v])[j]? = some u→w'.cell? ((⟨g,0,none⟩:Addr).add j)=some u:=by
 intro j u hj;match j,hj with
 | 0,hj=>simp[gY] at hj;subst hj;simpa [Addr.add] using h
 | j+1,hj=>simp[gY] at hj
theorem fRd {w w':World} {b o k n:Nat} {ys:List Int} (h:ys.length=n∧∀i,i<n→w.cell? ⟨b,o+i,none⟩=some (.int .i64 (ys.getD i 0))) (hk:k≤n) (hb:Below w.heap.size w w') :
  ∀j u,(gY (ys.take k))[j]? = some u→w'.cell? ((⟨b,o,none⟩:Addr).add j)=some u:=by
 obtain⟨hn,h⟩:=h;have:=fMd (w:=w) (b:=b) (o:=o) (k:=0) (m:=k) (ys:=ys) (by rw[hn];exact h) (by omega) (zs:=ys.take k) (by simp);intro j u hj;exact cK hb (this j u hj)
theorem fRc {w w':World} {b o k n:Nat} {ys:List Int} (h:ys.length=n∧∀i,i<n→w.cell? ⟨b,o+i,none⟩=some (.int .i64 (ys.getD i 0))) (hk:k≤n) (hb:Below w.heap.size w w') :
  ∀j u,(gY (ys.drop k))[j]? = some u→w'.cell? ((⟨b,o+k,none⟩:Addr).add j)=some u:=by
 obtain⟨hn,h⟩:=h;have:=fMd (w:=w) (b:=b) (o:=o) (k:=k) (m:=n-k) (ys:=ys) (by rw[hn];exact h) (by omega) (zs:=ys.drop k) (by rw[List.take_of_length_le (by simp;omega)]);intro j u hj;exact cK hb (this j u hj)
theorem fH6 (b o cap base:Nat) (ys:List Int) (v:Int) (w:World) (hn:ys.length≤1048576) (hbase:base≤w.heap.size) (ho:w.ownsRow base 2 1 (.slice (some ⟨b,o,none⟩) ys.length cap) ys.length (gY ys)) :
  Calls Tryz.prog 66 #[.slice (some ⟨b,o,none⟩) ys.length cap,.int .i64 v] w fun r w'=>∃u,r = .returned u∧w'.ownsRow base 2 1 u (putI ys v).length (gY (putI ys v))∧¬u = .slice none 0 0∧Below w.heap.size w w':=by
 have hv:=pM ho;obtain⟨a',cap',he,hcc,hmm,hcell⟩:=hv;simp only[Value.slice.injEq,true_and] at he;obtain⟨rfl,rfl⟩:=he;unfold maxLen at hmm;obtain⟨i0,hi,hz0,hz1,hz2⟩:=info_parts fFn;have HC:Hid (ys.length=ys.length∧∀i,i<ys.length→w.cell? ⟨b,o+i,none⟩=some (.int .i64 (ys.getD i 0))):=⟨rfl,fun i hi=>by
  obtain⟨b',o',hh,hc⟩:=hcell i hi;simp only[Option.some.injEq,Addr.mk.injEq,and_true] at hh;obtain⟨rfl,rfl⟩:=hh;exact hc⟩
 clear hcell;obtain⟨n,hn'⟩:∃n,n=ys.length:=⟨_,rfl⟩
 rw[←hn'] at hn hcc ho ⊢;replace HC:Hid (ys.length=n∧∀i,i<n→w.cell? ⟨b,o+i,none⟩=some (.int .i64 (ys.getD i 0))):=by rw[hn'];exact HC.out
 have HN:Hid (ys.length=n):=hn'.symm;clear hn';have HOW:Hid (w.ownsRow base 2 1 (.slice (some ⟨b,o,none⟩) n cap) n (gY ys)):=ho;clear ho;go_enter Tryz.func66,Tryz.ntmps66;go_wp2;go_loopw [5] (fun i w'=>∃k:Nat,k≤n∧i = .int .i64 k∧(∀j,j<k→ys.getD j 0<v)∧w'=w) (fun i _=>n-(intOf i).toNat)
 case atStart=>exact⟨0,Nat.zero_le _,rfl,fun j h=>by omega,rfl⟩
 obtain⟨k,hkn,rfl,hp,hwr⟩:=hrel;replace hwr:=hwr.symm;subst hwr;have HP:Hid (∀j,j<k→ys.getD j 0<v):=hp;clear hp;have hk0:(0:Int)≤(k:Int):=by omega
 have hk1:(k:Int)≤(cap:Int):=by omega
 have hk2:(k:Int)≤(n:Int):=by omega
 by_cases hlt:k<n
 ·
  have h1:=HC.out.2 k hlt;obtain⟨y,hy⟩:∃y,y=ys.getD k 0:=⟨_,rfl⟩
  rw[←hy] at h1;have HY:Hid (y=ys.getD k 0):=hy;clear hy;have hlt':(k:Int)<(n:Int):=by omega
  by_cases hyv:y<v
  ·
   go_wp2;refine⟨⟨k+1,by omega,by go_num,fun j hj=>?_,trivial⟩,by simp[intOf];omega⟩;by_cases hjk:j<k
   ·
    exact HP.out j hjk
   have:j=k:=by omega
   subst this;rw[←HY.out];exact hyv
  by_cases hye:y=v
  ·
   have hd:(y==v)=true:=by simpa using hye
   have HE:Hid (y=v):=hye;clear hye;go_wp2;go_ret;have e:putI ys v=ys:=by
    unfold putI;rw[zD ys v k (by have:=HN.out;omega) HP.out (fun _=>by rw[←HY.out];omega),if_pos];have e:k<ys.length:=by have:=HN.out;omega
    rw[←HE.out,HY.out];simp[List.getD,e]
   refine⟨_,rfl,?_,by simp,Below.refl _ _⟩;rw[e,HN.out];exact HOW.out
  have hd:(y==v)=false:=by simpa using hye
  have hck:¬cap=k:=by omega
  have HSTOP:Hid (k<ys.length→¬ys.getD k 0<v):=fun _=>by rw[←HY.out];omega
  have HNE:Hid (¬ys.getD k (v+1)=v):=fun h=>hye (by rw[HY.out];have e:k<ys.length:=(by have:=HN.out;omega);simpa [List.getD,e] using h)
  go_wp2;go_region_held3 (fun w'=>Below w.heap.size w w') (repeat (first|exact bR _ _|assumption|refine bD ?_|refine bA ?_ _|refine bS ?_ (by assumption))) ((apply fGc (t:=61) (base:=w.heap.size) (e:=2) (i:=i0) (size:=1) (bytes:=8) (ht:=Tryz.underlying61) (hi:=hi) (hz:=hz0) (hsize:=hz1) (hby:=hz2) (hzs:=rfl) (hsz:=Nat.one_pos);rfl;rfl;rfl;rfl;(first|exact hown|exact hown.alloc _|(focus (refine fF1 ?_ ?_;(focus (first|exact heap_alloc_new _ _|exact fFh _ _ _|exact fCi _ _ _));(focus (first|exact Nat.le_refl _|exact Nat.le_add_right _ _)))));(first|(exact fRd HC.out hkn (by repeat (first|exact bR _ _|assumption|refine bD ?_|refine bA ?_ _|refine bS ?_ (by assumption)));(first|exact mG HC.out.1 hkn|exact mF HC.out.1|exact qG _|exact qF HC.out.1 hkm))|(exact fRc HC.out hkn (by repeat (first|exact bR _ _|assumption|refine bD ?_|refine bA ?_ _|refine bS ?_ (by assumption)));(first|exact mG HC.out.1 hkn|exact mF HC.out.1|exact qG _|exact qF HC.out.1 hkm))|((focus (refine fA0 (v:=v) ?_;simp[go_sem];done));(first|exact mG HC.out.1 hkn|exact mF HC.out.1|exact qG _|exact qF HC.out.1 hkm))|((focus (refine fA0 (v:=v) ?_;refine hgrow.cell (v:=.int .i64 v) ?_ ?_;(focus (simp[go_sem];done));(first|(focus (show some (w.heap.size+1)≠some w.heap.size;simp;done))|(focus (show some w.heap.size≠some (w.heap.size+1);simp;done)))));(first|exact mG HC.out.1 hkn|exact mF HC.out.1|exact qG _|exact qF HC.out.1 hkm))|(exact fLb HC.out.1 hkm;(first|exact mG HC.out.1 hkn|exact mF HC.out.1|exact qG _|exact qF HC.out.1 hkm)));(exact fCp _);(focus (unfold maxLen;omega));(focus omega);(exact Below.size (by repeat (first|exact bR _ _|assumption|refine bD ?_|refine bA ?_ _|refine bS ?_ (by assumption))));intro va wa hown hgrow hnil hbel;have hba:=hbel w (by repeat (first|exact bR _ _|assumption|refine bD ?_|refine bA ?_ _|refine bS ?_ (by assumption)))))
  all_goals
   go_wp2;go_ret;refine⟨va,rfl,?_,?_,hba⟩
   ·
    have e:putI ys v=ys.take k++[v]++ys.drop k:=by
     unfold putI;rw[zD ys v k (by have:=HN.out;omega) HP.out (fun h=>by have:=HSTOP.out h;omega),if_neg HNE.out]
    have l:(putI ys v).length=0+k+1+(n-k):=by
     rw[e];have:=HN.out;simp only[List.length_append,List.length_take,List.length_drop,List.length_cons,List.length_nil];omega
    rw[l,e];refine pY (base:=w.heap.size) ?_ hbase;simpa [gY] using hown
   intro h;have q:=hown.2;rw[h] at q;rcases q with ⟨_,q⟩|⟨g,c,cu,q,_⟩
   ·
    omega
   simp at q
 have hlt':¬(k:Int)<(n:Int):=by omega
 have hkm:n≤k:=by omega
 have HSTOP:Hid (k<ys.length→¬ys.getD k 0<v):=fun h=>by have:=HN.out;omega
 have HNE:Hid (¬ys.getD k (v+1)=v):=fun h=>by
  have e:ys[k]? = none:=List.getElem?_eq_none (by have:=HN.out;omega);simp[List.getD,e] at h;omega
 by_cases hck:cap=k
 ·
  go_wp2;go_region_held3 (fun w'=>Below w.heap.size w w') (repeat (first|exact bR _ _|assumption|refine bD ?_|refine bA ?_ _|refine bS ?_ (by assumption))) ((apply fGc (t:=61) (base:=w.heap.size) (e:=2) (i:=i0) (size:=1) (bytes:=8) (ht:=Tryz.underlying61) (hi:=hi) (hz:=hz0) (hsize:=hz1) (hby:=hz2) (hzs:=rfl) (hsz:=Nat.one_pos);rfl;rfl;rfl;rfl;(first|exact hown|exact hown.alloc _|(focus (refine fF1 ?_ ?_;(focus (first|exact heap_alloc_new _ _|exact fFh _ _ _|exact fCi _ _ _));(focus (first|exact Nat.le_refl _|exact Nat.le_add_right _ _)))));(first|(exact fRd HC.out hkn (by repeat (first|exact bR _ _|assumption|refine bD ?_|refine bA ?_ _|refine bS ?_ (by assumption)));(first|exact mG HC.out.1 hkn|exact mF HC.out.1|exact qG _|exact qF HC.out.1 hkm))|(exact fRc HC.out hkn (by repeat (first|exact bR _ _|assumption|refine bD ?_|refine bA ?_ _|refine bS ?_ (by assumption)));(first|exact mG HC.out.1 hkn|exact mF HC.out.1|exact qG _|exact qF HC.out.1 hkm))|((focus (refine fA0 (v:=v) ?_;simp[go_sem];done));(first|exact mG HC.out.1 hkn|exact mF HC.out.1|exact qG _|exact qF HC.out.1 hkm))|((focus (refine fA0 (v:=v) ?_;refine hgrow.cell (v:=.int .i64 v) ?_ ?_;(focus (simp[go_sem];done));(first|(focus (show some (w.heap.size+1)≠some w.heap.size;simp;done))|(focus (show some w.heap.size≠some (w.heap.size+1);simp;done)))));(first|exact mG HC.out.1 hkn|exact mF HC.out.1|exact qG _|exact qF HC.out.1 hkm))|(exact fLb HC.out.1 hkm;(first|exact mG HC.out.1 hkn|exact mF HC.out.1|exact qG _|exact qF HC.out.1 hkm)));(exact fCp _);(focus (unfold maxLen;omega));(focus omega);(exact Below.size (by repeat (first|exact bR _ _|assumption|refine bD ?_|refine bA ?_ _|refine bS ?_ (by assumption))));intro va wa hown hgrow hnil hbel;have hba:=hbel w (by repeat (first|exact bR _ _|assumption|refine bD ?_|refine bA ?_ _|refine bS ?_ (by assumption)))))
  all_goals
    go_wp2;go_ret;refine⟨va,rfl,?_,?_,hba⟩
    ·
     have e:putI ys v=ys.take k++[v]++ys.drop k:=by
      unfold putI;rw[zD ys v k (by have:=HN.out;omega) HP.out (fun h=>by have:=HSTOP.out h;omega),if_neg HNE.out]
     have l:(putI ys v).length=0+k+1:=by
      rw[e];have:=HN.out;simp only[List.length_append,List.length_take,List.length_drop,List.length_cons,List.length_nil];omega
     rw[l,e];refine pY (base:=w.heap.size) ?_ hbase;simpa [gY] using hown
    intro h;have q:=hown.2;rw[h] at q;rcases q with ⟨_,q⟩|⟨g,c,cu,q,_⟩
    ·
     omega
    simp at q
 go_wp2;go_region_held3 (fun w'=>Below w.heap.size w w') (repeat (first|exact bR _ _|assumption|refine bD ?_|refine bA ?_ _|refine bS ?_ (by assumption))) ((apply fGc (t:=61) (base:=w.heap.size) (e:=2) (i:=i0) (size:=1) (bytes:=8) (ht:=Tryz.underlying61) (hi:=hi) (hz:=hz0) (hsize:=hz1) (hby:=hz2) (hzs:=rfl) (hsz:=Nat.one_pos);rfl;rfl;rfl;rfl;(first|exact hown|exact hown.alloc _|(focus (refine fF1 ?_ ?_;(focus (first|exact heap_alloc_new _ _|exact fFh _ _ _|exact fCi _ _ _));(focus (first|exact Nat.le_refl _|exact Nat.le_add_right _ _)))));(first|(exact fRd HC.out hkn (by repeat (first|exact bR _ _|assumption|refine bD ?_|refine bA ?_ _|refine bS ?_ (by assumption)));(first|exact mG HC.out.1 hkn|exact mF HC.out.1|exact qG _|exact qF HC.out.1 hkm))|(exact fRc HC.out hkn (by repeat (first|exact bR _ _|assumption|refine bD ?_|refine bA ?_ _|refine bS ?_ (by assumption)));(first|exact mG HC.out.1 hkn|exact mF HC.out.1|exact qG _|exact qF HC.out.1 hkm))|((focus (refine fA0 (v:=v) ?_;simp[go_sem];done));(first|exact mG HC.out.1 hkn|exact mF HC.out.1|exact qG _|exact qF HC.out.1 hkm))|((focus (refine fA0 (v:=v) ?_;refine hgrow.cell (v:=.int .i64 v) ?_ ?_;(focus (simp[go_sem];done));(first|(focus (show some (w.heap.size+1)≠some w.heap.size;simp;done))|(focus (show some w.heap.size≠some (w.heap.size+1);simp;done)))));(first|exact mG HC.out.1 hkn|exact mF HC.out.1|exact qG _|exact qF HC.out.1 hkm))|(exact fLb HC.out.1 hkm;(first|exact mG HC.out.1 hkn|exact mF HC.out.1|exact qG _|exact qF HC.out.1 hkm)));(exact fCp _);(focus (unfold maxLen;omega));(focus omega);(exact Below.size (by repeat (first|exact bR _ _|assumption|refine bD ?_|refine bA ?_ _|refine bS ?_ (by assumption))));intro va wa hown hgrow hnil hbel;have hba:=hbel w (by repeat (first|exact bR _ _|assumption|refine bD ?_|refine bA ?_ _|refine bS ?_ (by assumption)))))
 all_goals
   go_wp2;go_ret;refine⟨va,rfl,?_,?_,hba⟩
   ·
    have e:putI ys v=ys.take k++[v]++ys.drop k:=by
     unfold putI;rw[zD ys v k (by have:=HN.out;omega) HP.out (fun h=>by have:=HSTOP.out h;omega),if_neg HNE.out]
    have l:(putI ys v).length=0+k+1:=by
     rw[e];have:=HN.out;simp only[List.length_append,List.length_take,List.length_drop,List.length_cons,List.length_nil];omega
    rw[l,e];refine pY (base:=w.heap.size) ?_ hbase;simpa [gY] using hown
   intro h;have q:=hown.2;rw[h] at q;rcases q with ⟨_,q⟩|⟨g,c,cu,q,_⟩
   ·
    omega
   simp at q
end Go.Proofs.YtbfnobcidnmohaaGreat
namespace Go.Proofs.YtbfnobcidnmohaaGreat
open Go.RowKit
variable [DecidableEq Leg] [Inhabited Leg]
def rP (a b:Leg):Bool:=a.sh==b.sh&&(a.ac==b.ac&&a.ast==b.ast)
def fM (pre:List Leg) (l:Leg):Bool:=pre.any (fun o=>rP o l)
def scan (pre:List Leg):List Leg→Int
 | []=>0
 | l::r=>if gF l=0 then (if fM pre l then 7 else scan (pre++[l]) r) else gF l
def sumA (a:Int):List Leg→Int
 | []=>0
 | l::r=>(if l.ast=a then l.am else 0)+sumA a r
def fB (id:Int) (xs:List Leg):Int:=
 if inB id 1 1000000000 then
  (if xs.length<2∨8<xs.length then 2
  else if scan [] xs=0 then (if sumA 0 xs=0∧sumA 1 xs=0∧sumA 2 xs=0 then 0 else 1) else scan [] xs)
 else 3
def okTo (xs:List Leg) (k:Nat):Prop:=∀j,j<k→gF (xs.getD j default)=0∧fM (xs.take j) (xs.getD j default)=false
theorem fCa (xs:List Leg) (k:Nat) (h:k<xs.length):xs.drop k=xs.getD k default::xs.drop (k+1):=by
 rw[List.drop_eq_getElem_cons h];simp[List.getD,h]
theorem qC (xs:List Leg) (k:Nat) (h:k<xs.length):xs.take (k+1)=xs.take k++[xs.getD k default]:=by
 rw[List.take_succ_eq_append_getElem h];simp[List.getD,h]
theorem fF6 (xs:List Leg):∀k,k≤xs.length→okTo xs k→scan [] xs=scan (xs.take k) (xs.drop k)
 | 0,_,_=>by simp
 | k+1,hk,h=>by
  have ih:=fF6 xs k (by omega) (fun j hj=>h j (by omega));obtain⟨h1,h2⟩:=h k (by omega);rw[ih,fCa xs k (by omega),scan,if_pos h1,if_neg (by rw[h2];decide),qC xs k (by omega)]
theorem fMr {xs:List Leg} {k:Nat} (hk:k<xs.length) (h:okTo xs k) (hb:¬gF (xs.getD k default)=0):scan [] xs=gF (xs.getD k default):=by
 rw[fF6 xs k (by omega) h,fCa xs k hk,scan,if_neg hb]
theorem fEw {xs:List Leg} {k:Nat} (hk:k<xs.length) (h:okTo xs k) (h0:gF (xs.getD k default)=0) (hb:fM (xs.take k) (xs.getD k default)=true):scan [] xs=7:=by
 rw[fF6 xs k (by omega) h,fCa xs k hk,scan,if_pos h0,if_pos hb]
theorem fK7 {xs:List Leg} (h:okTo xs xs.length):scan [] xs=0:=by
 rw[fF6 xs xs.length (Nat.le_refl _) h];simp[scan]
theorem fCz {xs:List Leg} {k:Nat} (h:okTo xs k) (h0:gF (xs.getD k default)=0) (h1:fM (xs.take k) (xs.getD k default)=false):okTo xs (k+1):=by
 intro j hj;by_cases e:j<k
 ·
  exact h j e
 have:j=k:=by omega
 subst this;exact⟨h0,h1⟩
theorem fUo (n lo hi:Int):inB n lo hi=true↔lo≤n∧n≤hi:=by simp[inB]
theorem gP {l:Leg} (h:gF l=0):(0≤l.sh∧l.sh≤2)∧(0≤l.ac∧l.ac≤5)∧(0≤l.ast∧l.ast≤2)∧(-1000000000000≤l.am∧l.am≤1000000000000)∧l.am≠0:=by
 unfold gF at h;split at h
 ·
  rename_i hp;simp[fIn,fUo] at hp;split at h
  ·
   omega
  exact⟨by omega,by omega,by omega,by omega,by assumption⟩
 omega
theorem fLd (a:Int) (l r:List Leg):sumA a (l++r)=sumA a l+sumA a r:=by
 induction l with
 | nil=>simp[sumA]
 | cons x l ih=>simp only[List.cons_append,sumA,ih];omega
theorem fI4 (a:Int) (xs:List Leg) (k:Nat) (h:k<xs.length):sumA a (xs.take (k+1))=sumA a (xs.take k)+if (xs.getD k default).ast=a then (xs.getD k default).am else 0:=by
 rw[qC xs k h,fLd];simp[sumA]
theorem fEy (a:Int) (xs:List Leg):∀k,k≤xs.length→okTo xs k → -(k*1000000000000:Int)≤sumA a (xs.take k)∧sumA a (xs.take k)≤k*1000000000000
 | 0,_,_=>by simp[sumA]
 | k+1,hk,h=>by
  have ih:=fEy a xs k (by omega) (fun j hj=>h j (by omega));have hb:=(gP (h k (by omega)).1).2.2.2.1;rw[fI4 a xs k (by omega)];split <;> omega
theorem tH (xs:List Leg) (k:Nat) (h:k<xs.length) (l:Leg):fM (xs.take (k+1)) l=(fM (xs.take k) l||rP (xs.getD k default) l):=by
 rw[qC xs k h];simp[fM]
theorem zL {xs:List Leg} {k m:Nat} {l:Leg} (hkm:k≤m) (h:fM (xs.take k) l=true):fM (xs.take m) l=true:=by
 simp only[fM,List.any_eq_true] at h ⊢;obtain⟨o,ho,hs⟩:=h;exact⟨o,(List.take_subset_take_left xs hkm) ho,hs⟩
theorem fG7 {id:Int} {xs:List Leg} (hid:inB id 1 1000000000=true) (h2:2≤xs.length) (h8:xs.length≤8):fB id xs=if scan [] xs=0 then (if sumA 0 xs=0∧sumA 1 xs=0∧sumA 2 xs=0 then 0 else 1) else scan [] xs:=by
 rw[fB,if_pos hid,if_neg (by omega)]
theorem fT3 {id:Int} {xs:List Leg} (hid:inB id 1 1000000000=true) (h2:2≤xs.length) (h8:xs.length≤8) {k:Nat} (hk:k<xs.length) (h:okTo xs k) (hb:¬gF (xs.getD k default)=0):fB id xs=gF (xs.getD k default):=by
 rw[fG7 hid h2 h8,fMr hk h hb,if_neg hb]
theorem fLy {id:Int} {xs:List Leg} (hid:inB id 1 1000000000=true) (h2:2≤xs.length) (h8:xs.length≤8) {k:Nat} (hk:k<xs.length) (h:okTo xs k) (h0:gF (xs.getD k default)=0) (hb:fM (xs.take k) (xs.getD k default)=true):fB id xs=7:=by
 rw[fG7 hid h2 h8,fEw hk h h0 hb,if_neg (by decide)]
theorem fVd {id:Int} {xs:List Leg} (hid:inB id 1 1000000000=true) (h2:2≤xs.length) (h8:xs.length≤8) (h:okTo xs xs.length) (hs:¬(sumA 0 xs=0∧sumA 1 xs=0∧sumA 2 xs=0)):fB id xs=1:=by
 rw[fG7 hid h2 h8,fK7 h,if_pos rfl,if_neg hs]
theorem fUi {id:Int} {xs:List Leg} (hid:inB id 1 1000000000=true) (h2:2≤xs.length) (h8:xs.length≤8) (h:okTo xs xs.length) (hs:sumA 0 xs=0∧sumA 1 xs=0∧sumA 2 xs=0):fB id xs=0:=by
 rw[fG7 hid h2 h8,fK7 h,if_pos rfl,if_pos hs]
end Go.Proofs.YtbfnobcidnmohaaGreat

import Derived.Test.YtpibfdebfacooaaGreatPrnWriteEventLaw6
set_option maxHeartbeats 4000000
set_option linter.all false
namespace Go.Proofs.YtpibfdebfacooaaGreat
open Go.RowKit
attribute [local go_sem ↓] Go.wp_at_zero Go.wp_at_succ
attribute [local go_sem] cW cI ah cN iV aj
section
section
variable {P : Program} {ops : Array Oper} {Q : Exit → Act → World → Prop} {md : Region.Mode} {S : World → Prop} {t : Nat}
def gQ (P:Program) (md:Region.Mode) (ops:Array Oper) (Q:Exit→Act→World→Prop) (S:World→Prop) (t:Nat):Nat→Array Bool→Act→World→Prop
 | 0,listed,a,w=>Region.ready md ops listed=[]∧Q .normal a w
 | f+1,listed,a,w=>(Region.ready md ops listed=[]→Q .normal a w)∧∀i ∈ Region.ready md ops listed,wpOp P ops Q i (fun a' w'=>(i≠t→S w')∧gQ P md ops Q S t f (listed.setIfInBounds i true) a' w') a w
theorem fQ2:∀(f:Nat) (listed:Array Bool) (a:Act) (w:World),gQ P md ops Q S t f listed a w→wpAny P md ops Q f listed a w
 | 0,_,_,_,h=>h
 | f+1,_,_,_,h=>⟨h.1,fun i hi=>wpOp_mono (fun _ _ h'=>fQ2 f _ _ _ h'.2) (h.2 i hi)⟩
def waitsFor (md:Region.Mode) (ops:Array Oper) (t i:Nat):Bool:=
 match ops[t]? with
 | some o=>o.after.any (fun e=>Region.binds md e&&e.on==i)
 | none=>false
theorem fTj {i:Nat} {oi:Oper} {v:Value} (hi:ops[i]? = some oi) (hsel:Region.noSelect ops=true) (hw:waitsFor md ops t i=true)
  (hQ:∀c a w,Q (.panic c) (a.put oi.dst v) w→Q (.panic c) a w) :
  ∀(f:Nat) (listed:Array Bool) (a:Act) (w:World),
   (∀j oj,ops[j]? = some oj→j≠i→listed.getD j true=false→(∀e ∈ oj.after,Region.binds md e=true→e.on≠i)→oi.apart ops oj=true) →
   i ∈ Region.ready md ops listed→YieldsIf P ops S oi v a→S w →
   gQ P md ops Q S t f (listed.setIfInBounds i true) (a.put oi.dst v) w→gQ P md ops Q S t (f+1) listed a w:=by
 intro f;induction f with
 | zero=>
  intro listed a w _ q hy hS H;refine⟨fun h=>(by rw[h] at q;cases q),fun j y=>?_⟩;by_cases d:j=i
  ·subst d;exact hy.wpOp hi hS ⟨fun _=>hS,H⟩
  have G:=ready_mono y d;rw[H.1] at G;cases G
 | succ f ih=>
  intro listed a w g q hy hS H;refine⟨fun h=>(by rw[h] at q;cases q),fun j y=>?_⟩;by_cases d:j=i
  ·subst d;exact hy.wpOp hi hS ⟨fun _=>hS,H⟩
  obtain⟨m,oj,l,r⟩:=mem_ready.1 y;have s:=(mem_ready.1 q).1;have A:¬listed.getD i false=true:=by
   intro h1;rcases Nat.lt_or_ge i listed.size with B|B
   ·simp[B] at s h1;rw[s] at h1;cases h1
   simp[Array.getElem?_eq_none B] at h1
  have n:∀e ∈ oj.after,Region.binds md e=true→e.on≠i:=fun e he hb C=>A (by rw[←C];exact r e he hb)
  have D:j≠t:=by
   rintro rfl;unfold waitsFor at hw;rw[l] at hw;obtain⟨e,he,hb⟩:=Array.any_eq_true'.1 hw;simp only[Bool.and_eq_true,beq_iff_eq] at hb;exact n e he hb.1 hb.2
  have h1:=H.2 j (ready_mono y d);have h2:=wpOp_putIf l (g j oj l d m n) (fun cs b=>Region.noSelect_spec hsel i oi cs b hi) (fun cs b=>Region.noSelect_spec hsel j oj cs b l) hQ hy h1;refine wpOp_mono (fun a' w' z=>⟨z.2.1,ih (listed.setIfInBounds j true) a' w' ?_ (ready_mono q (Ne.symm d)) z.1 (z.2.1 D) ?_⟩) h2
  ·
   intro k I J E p F;refine g k I J E ?_ F;by_cases x:j=k
   ·subst x;exact m
   rw[getD_set_ne true x] at p;exact p
  rw[Array.setIfInBounds_comm _ _ d];exact z.2.2
theorem yG {i:Nat} {oi:Oper} {v:Value} {f:Nat} {listed:Array Bool} {a:Act} {w:World} (hi:ops[i]? = some oi) (hsel:Region.noSelect ops=true) (hw:waitsFor md ops t i=true)
  (hf:Region.free md ops listed i=true) (hr:(Region.ready md ops listed).contains i=true) (hQ:∀c a w,Q (.panic c) (a.put oi.dst v) w→Q (.panic c) a w)
  (hwd:Region.wanted oi (yielded ops a.tmps)=true) (hS:S w) (hy:∀w,S w→(execOp a.eval oi).run P w =.ok (.value v) w)
  (h:gQ P md ops Q S t f (listed.setIfInBounds i true) (a.put oi.dst v) w):gQ P md ops Q S t (f+1) listed a w:=
 fTj hi hsel hw hQ f listed a w (Region.free_spec hi hf) (by simpa using hr) (Or.inl ⟨hwd,hy⟩) hS h
theorem tK {i:Nat} {oi:Oper} {v:Value} {f:Nat} {listed:Array Bool} {a:Act} {w:World} (hi:ops[i]? = some oi) (hb:(Region.noSelect ops&&waitsFor md ops t i&&Region.free md ops listed i&&(Region.ready md ops listed).contains i)=true)
  (hS:S w) (hy:∀w,S w→(execOp a.eval oi).run P w =.ok (.value v) w)
  (h:gQ P md ops Q S t f (listed.setIfInBounds i true) (a.put oi.dst v) w) (hQ:∀c a w,Q (.panic c) (a.put oi.dst v) w→Q (.panic c) a w:=by exact fun _ _ _ h=>h) (hwd:Region.wanted oi (yielded ops a.tmps)=true:=by rfl):gQ P md ops Q S t (f+1) listed a w:=by
 simp only[Bool.and_eq_true] at hb;exact yG hi hb.1.1.1 hb.1.1.2 hb.1.2 hb.2 hQ hwd hS hy h
theorem tL (i:Nat) {oi:Oper} {v:Value} {f:Nat} {listed:Array Bool} {a:Act} {w:World} (hi:ops[i]? = some oi) (hS:S w) (h:gQ P md ops Q S t f (listed.setIfInBounds i true) (a.put oi.dst v) w) (hb:(Region.noSelect ops&&waitsFor md ops t i&&Region.free md ops listed i&&(Region.ready md ops listed).contains i)=true:=by kernel_rfl) (hQ:∀c a w,Q (.panic c) (a.put oi.dst v) w→Q (.panic c) a w:=by exact fun _ _ _ h=>h) (hwd:Region.wanted oi (yielded ops a.tmps)=true:=by rfl) (hy:∀w,S w→(execOp a.eval oi).run P w =.ok (.value v) w:=by intro wS hSw;(try dsimp only at hSw);go_simp;try with_reducible rfl):gQ P md ops Q S t (f+1) listed a w:=by
 simp only[Bool.and_eq_true] at hb;exact yG hi hb.1.1.1 hb.1.1.2 hb.1.2 hb.2 hQ hwd hS hy h
theorem tY (i:Nat) {oi:Oper} {v:Value} {f:Nat} {listed:Array Bool} {a a':Act} {w:World} (h:gQ P md ops Q S t f (listed.setIfInBounds i true) a' w) (hi:ops[i]? = some oi:=by rfl) (hS:S w:=by assumption) (hb:(Region.noSelect ops&&waitsFor md ops t i&&Region.free md ops listed i&&(Region.ready md ops listed).contains i)=true:=by kernel_rfl) (hQ:∀c a w,Q (.panic c) (a.put oi.dst v) w→Q (.panic c) a w:=by exact fun _ _ _ h=>h) (hwd:Region.wanted oi (yielded ops a.tmps)=true:=by rfl) (hy:∀w,S w→(execOp a.eval oi).run P w =.ok (.value v) w:=by intro wS hSw;(try dsimp only at hSw);go_simp;try with_reducible rfl) (ha:a.put oi.dst v=a':=by first|(simp only[jX];done)|(simp only[jX];rfl)|rfl):gQ P md ops Q S t (f+1) listed a w:=by
 subst ha;exact tL i hi hS h hb hQ hwd hy
theorem fWk {i:Nat} {o:Oper} {f:Nat} {listed:Array Bool} {a:Act} {w:World} (hr:Region.ready md ops listed=[i]) (hi:ops[i]? = some o)
  (h:∀K:Act→World→Prop,(∀a' w',(i≠t→S w')→gQ P md ops Q S t f (listed.setIfInBounds i true) a' w'→K a' w')→if Region.wanted o (yielded ops a.tmps)=true then Oper.wp P o a w K Q else K (a.put o.dst undef) w) :
  gQ P md ops Q S t (f+1) listed a w:=by
 refine⟨fun h0=>(by rw[hr] at h0;cases h0),fun j g=>?_⟩;rw[hr] at g;have e:j=i:=by simpa using g
 subst e;have h1:=h (fun a' w'=>(j≠t→S w')∧gQ P md ops Q S t f (listed.setIfInBounds j true) a' w') (fun _ _ p q=>⟨p,q⟩);unfold wpOp;simp only[hi];split
 ·rename_i d;rw[if_pos d] at h1;exact .inl h1
 rename_i d;rw[if_neg d] at h1;exact h1
theorem uS (i:Nat) {o:Oper} {f:Nat} {listed:Array Bool} {a:Act} {w:World} (hi:ops[i]? = some o)
  (h:∀K:Act→World→Prop,(∀a' w',(i≠t→S w')→gQ P md ops Q S t f (listed.setIfInBounds i true) a' w'→K a' w')→if Region.wanted o (yielded ops a.tmps)=true then Oper.wp P o a w K Q else K (a.put o.dst undef) w) (hr:Region.ready md ops listed=[i]:=by kernel_rfl) :
  gQ P md ops Q S t (f+1) listed a w:=fWk hr hi h
theorem vY {listed:Array Bool} {a:Act} {w:World} {f:Nat} (hr:Region.ready md ops listed=[]) (h:Q .normal a w):gQ P md ops Q S t f listed a w:=by
 cases f with
 | zero=>exact⟨hr,h⟩
 | succ f=>exact⟨fun _=>h,by rw[hr];simp⟩
theorem dN {listed:Array Bool} {a:Act} {w:World} {f:Nat} (h:Q .normal a w) (hr:Region.ready md ops listed=[]:=by kernel_rfl):gQ P md ops Q S t f listed a w:=vY hr h
theorem dP {listed:Array Bool} {a:Act} {w:World} {f:Nat} {Q:Exit→Act→World→Prop} (h:Q .normal a w) (hr:Region.ready md ops listed=[]:=by kernel_rfl):gQ P md ops (NoPanic Q) S t f listed a w:=dN (NoPanic.normal h) hr
theorem fB {id:Nat} {a:Act} {w:World} (S:World→Prop) (t:Nat) (hm:P.follows .mixedOrders=true) (hS:S w.drew) (h:S w.drew→gQ P .any ops Q S t ops.size (Array.replicate ops.size false) a w.drew):(Code.region id ops true).wp P Q a w:=
 wp_region_any hm (fQ2 _ _ _ _ (h hS))
end
end
section
variable [dQ Leg] [iH Leg] [dQ Cont] [iH Cont] [dQ ContR] [iH ContR]
theorem fFn (x:Value) (xs:List Byte) (w:World) (hx:bytesR.V w x xs) (h8:8≤xs.length) (h11:(xs.length-8) % 11=0) (h96:xs.length≤96) :
  cL 159 #[x] w fun e w'=>∃v F,e =.returned (.tuple #[.agg #[iV (mK xs).id,v],.bool (decide (fA (mK xs).id (mK xs).legs=0))])∧legsR.O w' w.heap.size F v (mK xs).legs∧aa w w':=by
 have hX:=hx;obtain⟨ax,cx,rfl,ao,a4,hx⟩:=hx;unfold maxLen at a4;obtain⟨b,o,rfl,_⟩:=hx 0 oM;obtain⟨id,L⟩:∃id,IntKind.i64.wrap (hiN (xs.take 8))=id:=⟨_,rfl⟩
 have Y:Hid (mK xs=⟨id,mQ xs ((xs.length-8) / 11)⟩):=by unfold Hid mK;rw[L]
 obtain⟨n,hn⟩:∃n,(xs.length-8) / 11=n:=⟨_,rfl⟩
 have J:xs.length=8+11*n:=oM;have m:Hid (xs.length=8+11*n):=J;have ar:n≤8:=oM;have HN:Hid ((xs.length-8) / 11=n):=hn;have c1:¬(xs.length:Int)<8:=oM;have c2:((xs.length:Int)-8).tmod 11=0:=by rw[Int.tmod_eq_emod_of_nonneg oM];omega
 have a5:((xs.length:Int)-8) % 11=0:=oM;have Z:((((xs.length:Int)-8).tmod 11)==0)=true:=by rw[c2];rfl
 have c3:¬(96:Int)<(xs.length:Int):=oM;have c4:IntKind.i64.wrap ((xs.length:Int)-8)=xs.length-8:=by rw[IntKind.wrap_i64];omega
 have M:=pO hX 0 8 oM oM;simp only[Option.map_some,Nat.mul_one,addP,Nat.zero_mul,Nat.sub_zero,List.drop_zero,Nat.add_zero,ite_self] at M;have a0:8≤(xs.take 8).length:=by rw[List.length_take];omega
 have e8:(xs.take 8).take 8=xs.take 8:=by rw[List.take_take];rfl
 clear hn J;go_enter Tryz.func159,Tryz.ntmps159;go_wp2_with fail;refine(zW _ (xs.take 8) _ (gF M hE) a0).mono ?_;rintro e w1 ⟨rfl,rfl⟩;rw[e8,L];clear e8 a0 M L c2 a5 Z c4;go_wp2;go_loopw [5] (fun i w'=>∃(k t:Nat) (v:Value),k≤n∧t=8+11*k∧i =.int .i64 t∧UnSt w w' id v (mQ xs k)) (fun i _=>xs.length-(intOf i).toNat)
 case atStart=>
  refine⟨0,8,aj,by omega,by omega,rfl,⟨sG,by simp[go_sem]⟩,⟨sG,by simp[go_sem]⟩,⟨fun o=>sG,fun o=>sG⟩,by simp,?_,hE⟩;have:mQ xs 0=[]:=rfl;rw[this];exact World.ownsRow_nil _ _ _ _
 obtain⟨k,t,v,hk,ht,rfl,⟨d0,d1⟩,⟨r0,r1⟩,⟨fr,fd⟩,hz,ho,j⟩:=hrel;have HT:Hid (k≤n∧t=8+11*k):=⟨hk,ht⟩;obtain⟨y,z,rfl⟩:=fD ho;have a6:=wL _ _ d0;dsimp only at a6;by_cases au:t<xs.length
 ·
  have a7:t+11≤xs.length:=by have:=m.out;omega
  obtain⟨b',o',e,g0⟩:=hx t oM;simp only[Option.some.injEq,Addr.mk.injEq,and_true] at e;obtain⟨rfl,rfl⟩:=e;obtain⟨b',o',e,g1⟩:=hx (t+1) oM;simp only[Option.some.injEq,Addr.mk.injEq,and_true] at e;obtain⟨rfl,rfl⟩:=e;obtain⟨b',o',e,g2⟩:=hx (t+2) oM;simp only[Option.some.injEq,Addr.mk.injEq,and_true] at e;obtain⟨rfl,rfl⟩:=e;obtain⟨A,N⟩:∃p:Int,((xs.getD t 0).val:Int)=p:=⟨_,rfl⟩
  obtain⟨B,R⟩:∃p:Int,((xs.getD (t+1) 0).val:Int)=p:=⟨_,rfl⟩
  obtain⟨C,T⟩:∃p:Int,((xs.getD (t+2) 0).val:Int)=p:=⟨_,rfl⟩
  have l0:=xK (xs.getD t 0);have l1:=xK (xs.getD (t+1) 0);have l2:=xK (xs.getD (t+2) 0);rw[N] at g0 l0;rw[R] at g1 l1;rw[T] at g2 l2;have D:=pO hX (t+3) (t+11) oM oM;rw[if_neg oM] at D;simp only[Option.map_some,Nat.mul_one,addP] at D;rw[show t+11-(t+3)=8 by omega] at D;have a8:8≤((xs.drop (t+3)).take 8).length:=by rw[List.length_take,List.length_drop];omega
  obtain⟨E,U⟩:∃E,IntKind.i64.wrap (hiN ((xs.drop (t+3)).take 8))=E:=⟨_,rfl⟩
  have e3:IntKind.i64.wrap (hiN (((xs.drop (t+3)).take 8).take 8))=E:=by rw[List.take_take];exact U
  have HL:Hid (mQ xs (k+1)=mQ xs k++[⟨A,B,C,E⟩]):=by
   unfold Hid;rw[fGl,←ht,fYi,N,R,T,U]
  have a9:(mQ xs k).length≤1048576:=by rw[fB0];omega
  have w0:IntKind.i64.wrap A=A:=by rw[IntKind.wrap_i64];omega
  have w1:IntKind.i64.wrap B=B:=by rw[IntKind.wrap_i64];omega
  have w2:IntKind.i64.wrap C=C:=by rw[IntKind.wrap_i64];omega
  have y1:IntKind.i64.wrap ((t:Int)+1)=t+1:=by rw[IntKind.wrap_i64];omega
  have y2:IntKind.i64.wrap ((t:Int)+2)=t+2:=by rw[IntKind.wrap_i64];omega
  have y3:IntKind.i64.wrap ((t:Int)+3)=t+3:=by rw[IntKind.wrap_i64];omega
  have y4:IntKind.i64.wrap ((t:Int)+11)=t+11:=by rw[IntKind.wrap_i64];omega
  have i1:((t:Int)+1).toNat=t+1:=oM;have i2:((t:Int)+2).toNat=t+2:=oM;have i3:((t:Int)+3).toNat=t+3:=oM;have i4:((t:Int)+11).toNat=t+11:=oM;have j0:(0:Int)≤(t:Int):=oM;have j1:(t:Int)<(xs.length:Int):=oM;have j2:(t:Int)+1<(xs.length:Int):=oM;have j3:(t:Int)+2<(xs.length:Int):=oM;have j4:(t:Int)+11≤(cx:Int):=oM;have j5:¬cx=t+3:=oM;have j6:(0:Int)≤(t:Int)+1:=oM;have j7:(0:Int)≤(t:Int)+2:=oM;have j8:(0:Int)≤(t:Int)+3:=oM;have j9:(t:Int)+3≤(t:Int)+11:=oM;have ab:w.heap.size≤w.heap.size+2:=oM;have q:(⟨w.heap.size,0,none⟩:Addr).block<w.heap.size+2:=by simp
  have r:(⟨w.heap.size+1,0,none⟩:Addr).block<w.heap.size+2:=by simp
  generalize mQ xs k=ys at *;clear N R T U ht hk hx;go_wp2;refine wp_region_noPanic ?_;refine fB (fun w'=>aa w w'∧cW w' b (o+t) (.int .u8 A)∧cW w' b (o+(t+1)) (.int .u8 B)∧cW w' b (o+(t+2)) (.int .u8 C)∧ah w' (w.heap.size+1) 1 y ys.length z) 30 kF ⟨Below.drew j,cK (Below.drew j) g0,cK (Below.drew j) g1,cK (Below.drew j) g2,cK (Below.drew (bR _ _)) d1⟩ (fun hS=>?_);refine tL 0 rfl hS ?_;try simp only[jX]
  refine tL 1 rfl hS ?_;try simp only[jX]
  refine tL 2 rfl hS ?_;try simp only[jX]
  refine tL 3 rfl hS ?_;try simp only[jX]
  refine tL 4 rfl hS ?_;try simp only[jX]
  refine tL 5 rfl hS ?_;try simp only[jX]
  refine tL 6 rfl hS ?_;try simp only[jX]
  refine tL 7 rfl hS ?_;try simp only[jX]
  refine tL 8 rfl hS ?_;try simp only[jX]
  refine tL 9 rfl hS ?_;try simp only[jX]
  refine tL 10 rfl hS ?_;try simp only[jX]
  refine tL 11 rfl hS ?_;try simp only[jX]
  refine tL 12 rfl hS ?_;try simp only[jX]
  refine tL 13 rfl hS ?_;try simp only[jX]
  refine tL 14 rfl hS ?_;try simp only[jX]
  refine tL 15 rfl hS ?_;try simp only[jX]
  refine tL 16 rfl hS ?_;try simp only[jX]
  refine tL 17 rfl hS ?_;try simp only[jX]
  refine tL 18 rfl hS ?_;try simp only[jX]
  refine tL 19 rfl hS ?_;try simp only[jX]
  refine tL 20 rfl hS ?_;try simp only[jX]
  refine tL 21 rfl hS ?_;try simp only[jX]
  refine tL 22 rfl hS ?_;try simp only[jX]
  refine tL 23 rfl hS ?_;try simp only[jX]
  refine tL 24 rfl hS ?_;try simp only[jX]
  refine uS 25 rfl (fun K s=>?_);go_simp;refine(zW _ ((xs.drop (t+3)).take 8) _ (gF D (Below.drew j)) a8).mono ?_;rintro e w3 ⟨rfl,rfl⟩;rw[e3];refine s _ _ (fun _=>hS) ?_;clear s K;try simp only[jX]
  refine tL 26 rfl hS ?_;try simp only[jX]
  refine uS 27 rfl (fun K s=>?_);go_simp;refine s _ _ (fun _=>⟨bA hS.1 _,cK (bA (bR _ _) _) hS.2.1,cK (bA (bR _ _) _) hS.2.2.1,cK (bA (bR _ _) _) hS.2.2.2.1,cK (bA (bR _ _) _) hS.2.2.2.2⟩) ?_;clear s K;try simp only[jX]
  refine uS 28 rfl (fun K s=>?_);refine fDx _ rfl _ _ rfl (w.heap.size+2) _ ys rfl ⟨A,B,C,E⟩ _ rfl (fO ho (bA (Below.drew (bR _ _)) _)) ?_ a9 ?_ ?_
  ·exact fHn (g:=wr.heap.size) sG sG sG sG
  ·simp;omega
  intro v5 w5 o5 ac a1;obtain⟨p5,c5,rfl⟩:=fD o5;have d:=a1 wr ((bA (Below.drew (Below.refl wr.heap.size wr)) _).mono hz);have G:=j.trans (d.mono ab);have q0:=(d.cell (p:=⟨w.heap.size+1,0,none⟩) r).trans d0;have q1:=(d.cell (p:=⟨w.heap.size+1,1,none⟩) r).trans d1;have q2:=(d.cell (p:=⟨w.heap.size,0,none⟩) q).trans r0;have q3:=(d.cell (p:=⟨w.heap.size,1,none⟩) q).trans r1;have q4:=fun o=>(d.frozen (p:=⟨w.heap.size,o,none⟩) q).trans (fr o)
  have q5:=fun o=>(d.frozen (p:=⟨w.heap.size+1,o,none⟩) r).trans (fd o)
  have H:=gAl G g0 g1 g2 g2;have X:=And.intro G (And.intro H.2.1 (And.intro H.2.2.1 (And.intro H.2.2.2.1 q1)));refine s _ _ (fun _=>X) ?_;clear s K;try simp only[jX]
  refine tL 29 rfl X ?_;try simp only[jX]
  refine uS 30 rfl (fun K s=>?_);go_simp;refine s _ _ (fun h=>absurd rfl h) ?_;clear s K;refine dP ?_;have av:w.heap.size+2≤w5.heap.size:=Nat.le_trans hz d.size;have ad:Hid (World.ownsRow w5 (w.heap.size+2) 168 4 (.slice p5 (ys++[(⟨A,B,C,E⟩:Leg)]).length c5) (ys++[(⟨A,B,C,E⟩:Leg)]).length (gT (ys++[⟨A,B,C,E⟩]))):=o5;have ae:Hid (aa w w5):=G;clear hS H X o5 ac a1 d G;go_wp2;refine⟨⟨k+1,t+11,.slice p5 (ys++[(⟨A,B,C,E⟩:Leg)]).length c5,?_,?_,by go_num,?_⟩,mI⟩
  ·have:=HT.out;have:=m.out;omega
  ·have:=HT.out;omega
  rw[HL.out];refine⟨⟨?_,?_⟩,⟨?_,?_⟩,⟨fun o=>?_,fun o=>?_⟩,by simp;omega,?_,ae.out.setCell (by simp) _⟩
  ·rw[fU (by simp)];exact q0
  ·exact(by simpa using mY q1)
  ·rw[fU (by simp)];exact q2
  ·rw[fU (by simp)];exact q3
  ·simp[q4]
  ·simp[q5]
  exact pK ad.out (by simp) _
 have af:k=n:=by have:=HT.out;have:=m.out;omega
 subst af;have HC:Hid (mK xs=⟨id,mQ xs k⟩):=by unfold Hid;rw[Y.out,HN.out]
 have a2:uU wr (.slice y (mQ xs k).length z) (mQ xs k):=gX ho;have HO:Hid (World.ownsRow wr (w.heap.size+2) 168 4 (.slice y (mQ xs k).length z) (mQ xs k).length (gT (mQ xs k))):=ho;have h0:=And.intro j (And.intro d0 d1);have ag:w.heap.size<wr.drew.heap.size:=by show w.heap.size<wr.heap.size;omega
 clear Y HN ht hk hx ho;generalize mQ xs k=ys at *;go_wp2;go_region_held3 (fun w'=>aa w w'∧cI w' (w.heap.size+1) 0 id∧ah w' (w.heap.size+1) 1 y ys.length z) ((first|exact fU0 h0 (Below.drew (bR _ _))|exact I|exact fYx I _ _)) (first|(go_at_call 86;refine(vF id _ ys _ ?_).mono ?_;(focus (exact kE a2 (Below.drew (bR _ _))));rintro e w3 ⟨rfl,l⟩;have I:=fU0 (fU0 h0 (Below.drew (bR _ _))) l;have e0:=cK l (cK (Below.drew (bR _ _)) r0);have e1:=cK l (cK (Below.drew (bR _ _)) r1);have e2:=fun o=>((bcell l).2 w.heap.size o ag).trans (fr o)));have a3:=(fYx I (iV id) (.slice y ys.length z)).1;have ak:Hid (aa w ((w3.setCell ⟨w.heap.size,0,none⟩ (iV id)).setCell ⟨w.heap.size,1,none⟩ (.slice y ys.length z))):=a3;have al:Hid (World.ownsRow w3 (w.heap.size+2) 168 4 (.slice y ys.length z) ys.length (gT ys)):=fO (fO HO.out (Below.drew (bR _ _))) l;clear a3 I l h0 a2;go_wp2;refine bodyPost_ret (v:=.tuple #[.agg #[iV id,.slice y ys.length z],.bool (fA id ys==0)]) (by simp[results,Tryz.results159,go_sem,e0,e1]) rfl ?_;rw[HC.out];exact⟨_,fun b=>(Value.slice y ys.length z).ownBlock=some b,rfl,⟨qI (pK (pK al.out (by simp) _) (by simp) _) oM,rfl⟩,ak.out⟩
theorem fD4 (x:Value) (xs:List Byte) (w:World) (hx:bytesR.V w x xs) (h:¬(8≤xs.length∧(xs.length-8) % 11=0∧xs.length≤96)) :
  RI 159 #[x] w (.tuple #[.agg #[iV 0,aj],.bool false]):=by
 obtain⟨m,p,rfl,g,e,_⟩:=hx;unfold maxLen at e;generalize xs.length=n at *;have r:IntKind.i64.wrap ((n:Int)-8)=n-8:=by rw[IntKind.wrap_i64];omega
 by_cases h1:n<8
 ·go_enter Tryz.func159,Tryz.ntmps159;go_wp2;exact bodyPost_ret (v:=.tuple #[.agg #[iV 0,aj],.bool false]) (by simp[results,Tryz.results159,go_sem]) rfl ⟨rfl,hE⟩
 obtain⟨q,j⟩:∃q,((n:Int)-8).tmod 11=q:=⟨_,rfl⟩
 have d:q=((n:Int)-8) % 11:=by rw[←j,Int.tmod_eq_emod_of_nonneg oM]
 have k:Hid (q=((n:Int)-8) % 11):=d;have l:((n:Int)-8) % 11=q:=d.symm;clear d;by_cases h2:q=0
 ·
  have s:96<n:=by have:=k.out;omega
  subst h2;go_enter Tryz.func159,Tryz.ntmps159;go_wp2;exact bodyPost_ret (v:=.tuple #[.agg #[iV 0,aj],.bool false]) (by simp[results,Tryz.results159,go_sem]) rfl ⟨rfl,hE⟩
 have y:(q==0)=false:=by simpa using h2
 go_enter Tryz.func159,Tryz.ntmps159;go_wp2;all_goals exact bodyPost_ret (v:=.tuple #[.agg #[iV 0,aj],.bool false]) (by simp[results,Tryz.results159,go_sem]) rfl ⟨rfl,hE⟩
theorem fVd (x:Value) (ys:List Byte) (w:World) (hx:mP w x ys) (hn:ys.length=11) :
  RI 188 #[x] w (.agg #[iV ((ys.getD 0 0).val:Int),iV ((ys.getD 1 0).val:Int),iV ((ys.getD 2 0).val:Int),iV (IntKind.i64.wrap (hiN (ys.drop 3)))]):=by
 have m:=hx;obtain⟨E,s,rfl,n,p,hx⟩:=hx;unfold maxLen at p;obtain⟨b,o,rfl,y⟩:=hx 0 oM;obtain⟨z,A,e,B⟩:=hx 1 oM;simp only[Option.some.injEq,Addr.mk.injEq,and_true] at e;obtain⟨rfl,rfl⟩:=e;obtain⟨z,A,e,C⟩:=hx 2 oM;simp only[Option.some.injEq,Addr.mk.injEq,and_true] at e;obtain⟨rfl,rfl⟩:=e;have F:=xK (ys.getD 0 0);have G:=xK (ys.getD 1 0);have H:=xK (ys.getD 2 0);have d:=pO m 3 11 oM oM;rw[if_neg oM] at d;simp only[Option.map_some,Nat.mul_one,addP] at d;rw[show(ys.drop 3).take (11-3)=ys.drop 3 from List.take_of_length_le (by rw[List.length_drop];omega)] at d;rw[hn] at m n ⊢;generalize ((ys.getD 0 0).val:Int)=j at *;generalize ((ys.getD 1 0).val:Int)=k at *;generalize ((ys.getD 2 0).val:Int)=l at *;obtain⟨q,g⟩:∃q,IntKind.i64.wrap (hiN (ys.drop 3))=q:=⟨_,rfl⟩
 rw[g];have I:IntKind.i64.wrap j=j:=by rw[IntKind.wrap_i64];omega
 have J:IntKind.i64.wrap k=k:=by rw[IntKind.wrap_i64];omega
 have K:IntKind.i64.wrap l=l:=by rw[IntKind.wrap_i64];omega
 have L:¬s=3:=oM;clear hx m hn;go_enter Tryz.func188,Tryz.ntmps188;go_wp2;go_region_held3 (fun w'=>aa w w'∧cW w' b o (.int .u8 j)∧cW w' b (o+1) (.int .u8 k)∧cW w' b (o+2) (.int .u8 l)) ((refine gAk ?_ y B C;exact hE)) (first|(go_at_call 169;refine(uO _ (ys.drop 3) _ ?_).mono ?_;(focus (exact gF d hE));rintro e M ⟨rfl,rfl⟩;rw[g]));all_goals
  rename_i r;have D:=r.1;clear r;go_wp2;exact bodyPost_ret (v:=.agg #[iV j,iV k,iV l,iV q]) (by simp[results,Tryz.results188,go_sem]) rfl ⟨rfl,D⟩
theorem fGz (x:Value) (xs:List Byte) (w:World) (hx:bytesR.V w x xs) (h8:8≤xs.length) (h11:(xs.length-8) % 11=0) (h96:xs.length≤96) :
  cL 168 #[x] w fun e w'=>∃v F,e =.returned (.agg #[iV (mK xs).id,v])∧legsR.O w' w.heap.size F v (mK xs).legs∧aa w w':=by
 have hX:=hx;obtain⟨ax,X,rfl,a9,Y,hx⟩:=hx;unfold maxLen at Y;obtain⟨b,o,rfl,_⟩:=hx 0 oM;obtain⟨id,E⟩:∃id,IntKind.i64.wrap (hiN (xs.take 8))=id:=⟨_,rfl⟩
 have L:Hid (mK xs=⟨id,mQ xs ((xs.length-8) / 11)⟩):=by unfold Hid mK;rw[E]
 obtain⟨n,hn⟩:∃n,(xs.length-8) / 11=n:=⟨_,rfl⟩
 have C:xs.length=8+11*n:=oM;have j:Hid (xs.length=8+11*n):=C;have HN:Hid ((xs.length-8) / 11=n):=hn;have G:=pO hX 0 8 oM oM;simp only[Option.map_some,Nat.mul_one,addP,Nat.zero_mul,Nat.sub_zero,List.drop_zero,Nat.add_zero,ite_self] at G;clear hn C;go_enter Tryz.func168,Tryz.ntmps168;go_wp2_with fail;refine(uO _ (xs.take 8) _ (gF G hE)).mono ?_;rintro e w1 ⟨rfl,rfl⟩;rw[E];clear G E;go_wp2;go_loopw [4] (fun i w'=>∃(k t:Nat) (v:Value),k≤n∧t=8+11*k∧i =.int .i64 t∧UnSt w w' id v (mQ xs k)) (fun i _=>xs.length-(intOf i).toNat)
 case atStart=>
  refine⟨0,8,aj,by omega,by omega,rfl,⟨sG,by simp[go_sem]⟩,⟨sG,by simp[go_sem]⟩,⟨fun o=>sG,fun o=>sG⟩,by simp,?_,hE⟩;have:mQ xs 0=[]:=rfl;rw[this];exact World.ownsRow_nil _ _ _ _
 obtain⟨k,t,v,Z,ht,rfl,⟨d0,d1⟩,⟨r0,r1⟩,⟨fr,fd⟩,hz,R,H⟩:=hrel;have HT:Hid (k≤n∧t=8+11*k):=⟨Z,ht⟩;obtain⟨T,U,rfl⟩:=fD R;have a0:=wL _ _ d0;dsimp only at a0;by_cases ab:t<xs.length
 ·
  have a1:t+11≤xs.length:=by have:=j.out;omega
  have m:=pO hX t (t+11) oM oM;rw[if_neg oM] at m;simp only[Option.map_some,Nat.mul_one,addP] at m;rw[show t+11-t=11 by omega] at m;obtain⟨D,y⟩:∃D,(xs.drop t).take 11=D:=⟨_,rfl⟩
  rw[y] at m;have a2:D.length=11:=by rw[←y,List.length_take,List.length_drop];omega
  obtain⟨l,hl⟩:∃l:Leg,l=⟨((D.getD 0 0).val:Int),((D.getD 1 0).val:Int),((D.getD 2 0).val:Int),IntKind.i64.wrap (hiN (D.drop 3))⟩:=⟨_,rfl⟩
  have HL:Hid (mQ xs (k+1)=mQ xs k++[l]):=by
   unfold Hid;rw[fGl,←ht,hl,←y];congr 2;unfold fYi;congr 1
   ·simp[List.getD]
   ·simp[List.getD]
   ·simp[List.getD]
   rw[List.drop_take,List.drop_drop]
  have M:∀W:World,aa w W→RI 188 #[.slice (some ⟨b,o+t,none⟩) 11 (X-t)] W (.agg #[iV l.sh,iV l.ac,iV l.ast,iV l.am]):=fun W hW=>by
   rw[hl];exact fVd _ D W (gF m hW) a2
  have a3:(mQ xs k).length≤1048576:=by rw[fB0];have:=j.out;omega
  have y4:IntKind.i64.wrap ((t:Int)+11)=t+11:=by rw[IntKind.wrap_i64];omega
  have i4:((t:Int)+11).toNat=t+11:=oM;have j0:(0:Int)≤(t:Int):=oM;have j1:(t:Int)<(xs.length:Int):=oM;have j4:(t:Int)+11≤(X:Int):=oM;have j5:¬X=t:=oM;have j9:(t:Int)≤(t:Int)+11:=oM;have a4:w.heap.size≤w.heap.size+2:=oM;have q:(⟨w.heap.size,0,none⟩:Addr).block<w.heap.size+2:=by simp
  have r:(⟨w.heap.size+1,0,none⟩:Addr).block<w.heap.size+2:=by simp
  generalize mQ xs k=ys at *;clear hl y m ht Z hx;go_wp2;refine wp_region_noPanic ?_;refine fB (fun w'=>aa w w'∧ah w' (w.heap.size+1) 1 T ys.length U) 11 kF ⟨Below.drew H,cK (Below.drew (bR _ _)) d1⟩ (fun hS=>?_);refine tL 0 rfl hS ?_;try simp only[jX]
  refine tL 1 rfl hS ?_;try simp only[jX]
  refine tL 2 rfl hS ?_;try simp only[jX]
  refine tL 3 rfl hS ?_;try simp only[jX]
  refine tL 4 rfl hS ?_;try simp only[jX]
  refine tL 5 rfl hS ?_;try simp only[jX]
  refine tL 6 rfl hS ?_;try simp only[jX]
  refine uS 7 rfl (fun K s=>?_);go_simp;refine(M _ (Below.drew H)).mono ?_;rintro e w3 ⟨rfl,z⟩;have A:=And.intro (bS hS.1 z) (cK z hS.2);have B:aa wr w3:=bS (Below.drew (bR _ _)) z;have ad:=B.size;refine s _ _ (fun _=>A) ?_;clear s K;try simp only[jX]
  refine uS 8 rfl (fun K s=>?_);go_simp;refine s _ _ (fun _=>⟨bA A.1 _,cK (bA (bR _ _) _) A.2⟩) ?_;clear s K;try simp only[jX]
  refine uS 9 rfl (fun K s=>?_);refine fDx _ rfl _ _ rfl (w.heap.size+2) _ ys rfl l _ rfl (fO R (bA B _)) ?_ a3 ?_ ?_
  ·exact fHn (g:=w3.heap.size) sG sG sG sG
  ·simp;omega
  intro v5 w5 o5 a5 N;obtain⟨p5,c5,rfl⟩:=fD o5;have d:=N wr ((bA B _).mono hz);have I:=H.trans (d.mono a4);have q0:=(d.cell (p:=⟨w.heap.size+1,0,none⟩) r).trans d0;have q1:=(d.cell (p:=⟨w.heap.size+1,1,none⟩) r).trans d1;have q2:=(d.cell (p:=⟨w.heap.size,0,none⟩) q).trans r0;have q3:=(d.cell (p:=⟨w.heap.size,1,none⟩) q).trans r1;have q4:=fun o=>(d.frozen (p:=⟨w.heap.size,o,none⟩) q).trans (fr o)
  have q5:=fun o=>(d.frozen (p:=⟨w.heap.size+1,o,none⟩) r).trans (fd o)
  have J:=And.intro I q1;refine s _ _ (fun _=>J) ?_;clear s K;try simp only[jX]
  refine tL 10 rfl J ?_;try simp only[jX]
  refine uS 11 rfl (fun K s=>?_);go_simp;refine s _ _ (fun h=>absurd rfl h) ?_;clear s K;refine dP ?_;have ae:w.heap.size+2≤w5.heap.size:=Nat.le_trans hz d.size;have a6:Hid (World.ownsRow w5 (w.heap.size+2) 168 4 (.slice p5 (ys++[l]).length c5) (ys++[l]).length (gT (ys++[l]))):=o5;have a7:Hid (aa w w5):=I;clear hS A J o5 a5 N d I z B M;go_wp2;refine⟨⟨k+1,t+11,.slice p5 (ys++[l]).length c5,?_,?_,by go_num,?_⟩,mI⟩
  ·have:=HT.out;have:=j.out;omega
  ·have:=HT.out;omega
  rw[HL.out];refine⟨⟨?_,?_⟩,⟨?_,?_⟩,⟨fun o=>?_,fun o=>?_⟩,by simp;omega,?_,a7.out.setCell (by simp) _⟩
  ·rw[fU (by simp)];exact q0
  ·exact(by simpa using mY q1)
  ·rw[fU (by simp)];exact q2
  ·rw[fU (by simp)];exact q3
  ·simp[q4]
  ·simp[q5]
  exact pK a6.out (by simp) _
 have a8:k=n:=by have:=HT.out;have:=j.out;omega
 subst a8;have HC:Hid (mK xs=⟨id,mQ xs k⟩):=by unfold Hid;rw[L.out,HN.out]
 have HO:Hid (World.ownsRow wr (w.heap.size+2) 168 4 (.slice T (mQ xs k).length U) (mQ xs k).length (gT (mQ xs k))):=R;clear L HN ht Z hx R;generalize mQ xs k=ys at *;go_wp2;refine bodyPost_ret (v:=.agg #[iV id,.slice T ys.length U]) (by simp[results,Tryz.results168,go_sem,r0,r1]) rfl ?_;rw[HC.out];exact⟨_,fun b=>(Value.slice T ys.length U).ownBlock=some b,rfl,⟨qI (pK (pK HO.out (by simp) _) (by simp) _) oM,rfl⟩,hE⟩
def unpD (xs:List Byte):ContR:=if (8≤xs.length∧(xs.length-8) % 11=0∧xs.length≤96)∧fA (mK xs).id (mK xs).legs=0 then ⟨0,mK xs⟩ else ⟨5,⟨0,[]⟩⟩
theorem fBn (w:World) (base:Nat):contRR.O w base none_ (.agg #[iV 5,iV 0,aj]) ⟨5,⟨0,[]⟩⟩:=
 ⟨aj,none_,rfl,⟨aj,none_,rfl,⟨by simpa [gT] using World.ownsRow_nil w base 168 4,by funext b;simp[none_,Value.ownBlock]⟩,fun b=>Iff.rfl⟩,fun b=>Iff.rfl⟩
theorem fSd (n:Nat) (w:World) (hn:n≤9223372036854775807) :
  cL 167 #[iV n] w fun e w'=>e =.returned (.bool (decide (8≤n∧(n-8) % 11=0∧n≤96)))∧w'=w:=by
 have s:IntKind.i64.wrap ((n:Int)-8)=n-8:=by rw[IntKind.wrap_i64];omega
 by_cases h1:n<8
 ·
  have d:Hid (decide (8≤n∧(n-8) % 11=0∧n≤96)=false):=by unfold Hid;simp;omega
  have k:decide ((0:Int)≤(n:Int)-8)=false:=by simp;omega
  rw[d.out];go_enter Tryz.func167,Tryz.ntmps167;go_wp2;go_ret;exact⟨rfl,rfl⟩
 by_cases h2:n≤96
 ·
  obtain⟨q,m⟩:∃q,((n:Int)-8).tmod 11=q:=⟨_,rfl⟩
  have g:q=((n:Int)-8) % 11:=by rw[←m,Int.tmod_eq_emod_of_nonneg oM]
  have p:=g.symm;have d:Hid (decide (8≤n∧(n-8) % 11=0∧n≤96)=(q==0)):=by
   unfold Hid;by_cases l:q=0
   ·have j:8≤n∧(n-8) % 11=0∧n≤96:=oM;rw[decide_eq_true j,l];rfl
   have j:¬(8≤n∧(n-8) % 11=0∧n≤96):=oM;rw[decide_eq_false j];simp[l]
  have k:decide ((0:Int)≤(n:Int)-8)=true:=by simp;omega
  have r:decide ((n:Int)-8≤88)=true:=by simp;omega
  rw[d.out];clear g;go_enter Tryz.func167,Tryz.ntmps167;go_wp2;go_ret;exact⟨rfl,rfl⟩
 have d:Hid (decide (8≤n∧(n-8) % 11=0∧n≤96)=false):=by unfold Hid;simp;omega
 have k:decide ((0:Int)≤(n:Int)-8)=true:=by simp;omega
 have r:decide ((n:Int)-8≤88)=false:=by simp;omega
 rw[d.out];go_enter Tryz.func167,Tryz.ntmps167;go_wp2;go_ret;exact⟨rfl,rfl⟩
theorem fZv {w:World} {base:Nat} {F:Nat→Prop} {v:Value} {ys:List Leg} (h:legsR.O w base F v ys) {g:Nat} (hg:g<base) (a b c:Value) :
  legsR.O (((w.setCell ⟨g,0,none⟩ a).setCell ⟨g,1,none⟩ b).setCell ⟨g,2,none⟩ c) base F v ys:=legsR.set (legsR.set (legsR.set h _ hg) _ hg) _ hg
theorem fR8 (x:Value) (xs:List Byte) (w:World) (hx:bytesR.V w x xs) :
  cL 140 #[x] w fun e w'=>∃v F,e =.returned v∧contRR.O w' w.heap.size F v (unpD xs)∧aa w w':=by
 have D:=hx;obtain⟨I,J,rfl,E,z,_⟩:=hx;unfold maxLen at z;go_enter Tryz.func140,Tryz.ntmps140;go_wp2_with fail;refine(fSd xs.length _ oM).mono ?_;rintro e K ⟨rfl,rfl⟩;by_cases h:8≤xs.length∧(xs.length-8) % 11=0∧xs.length≤96
 ·
  have n:decide (8≤xs.length∧(xs.length-8) % 11=0∧xs.length≤96)=true:=by simpa using h
  rw[n];clear n;go_wp2_with fail;refine(fGz _ xs _ (bytesR.below D hE) h.1 h.2.1 h.2.2).mono ?_;rintro e m ⟨v,F,rfl,A,hb⟩;obtain⟨p,q,rfl⟩:=kK (legsR.ofO A);have g:cI m w.heap.size 0 0:=cK hb sG;have j:cI m w.heap.size 1 0:=cK hb sG;have k:cN m w.heap.size 2:=cK hb sG;have r:=(fTx hb rfl).2.2.2;have L:aa w m:=hE;have l:=legsR.base (base':=w.heap.size+1) A (by simp);clear A hb;go_wp2_with fail;refine(rP (mK xs).id _ (mK xs).legs _ (kE (legsR.ofO l) hE)).mono ?_;rintro e B ⟨rfl,d⟩;have M:cI B m.heap.size 0 ((mK xs).id):=cK d sG;have N:ah B m.heap.size 1 p (mK xs).legs.length q:=cK d sG;refine kR3 (bS hE d) ?_ g j k;clear g j k;intro g j k;obtain⟨r,G⟩:=pJ (pJ r hE) d;have H:aa w B:=hE;replace l:=legsR.keep (legsR.alloc l _) d;clear d;by_cases s:fA (mK xs).id (mK xs).legs=0
  ·have y:Hid (unpD xs=⟨0,mK xs⟩):=if_pos ⟨h,s⟩;rw[s];clear s;go_wp2;refine bodyPost_ret (v:=.agg #[iV 0,iV (mK xs).id,.slice p (mK xs).legs.length q]) (by simp[results,Tryz.results140,go_sem,g,j,k]) rfl ?_;rw[y.out];exact⟨_,F,rfl,⟨_,F,rfl,⟨_,F,rfl,legsR.base (fZv l oM _ _ _) oM,fun b=>Iff.rfl⟩,fun b=>Iff.rfl⟩,hE⟩
  have y:Hid (unpD xs=⟨5,⟨0,[]⟩⟩):=if_neg (fun C=>s C.2);have R:(fA (mK xs).id (mK xs).legs==0)=false:=by simpa using s
  go_wp2;refine bodyPost_ret (v:=.agg #[iV 5,iV 0,aj]) (by simp[results,Tryz.results140,go_sem,g,j,k]) rfl ?_;rw[y.out];first|exact⟨_,none_,rfl,fBn _ _,hE⟩|exact⟨_,rfl,⟨none_,fBn _ _⟩,hE⟩
 have y:Hid (unpD xs=⟨5,⟨0,[]⟩⟩):=if_neg (fun C=>h C.1);have n:decide (8≤xs.length∧(xs.length-8) % 11=0∧xs.length≤96)=false:=by simpa using h
 rw[n];clear n;go_wp2;refine bodyPost_ret (v:=.agg #[iV 5,iV 0,aj]) (by simp[results,Tryz.results140,go_sem]) rfl ?_;rw[y.out];first|exact⟨_,none_,rfl,fBn _ _,hE⟩|exact⟨_,rfl,⟨none_,fBn _ _⟩,hE⟩
end
section
variable [dQ Leg] [iH Leg] [dQ Cont] [iH Cont] [dQ Evt] [iH Evt] [dQ EvtR] [iH EvtR] [dQ BytesR] [iH BytesR] [dQ ContR] [iH ContR]
def evtF (e:Evt):Int:=
 if e.vote=true then (if fA e.con.id e.con.legs=0 then (if e.out=0 then 0 else 1) else fA e.con.id e.con.legs)
 else (if (inB e.con.id 1 1000000000&&inB e.out 1 2)=true then (if e.con.legs.length=0 then 0 else 1) else 3)
def evtB (e:Evt):List Byte:=if e.vote=true then [toB 1]++kP e.con.id e.con.legs else [toB 2]++hiB e.con.id 8++[toB e.out]
def nilE:Evt:=⟨false,⟨0,[]⟩,0⟩
def errE:EvtR:=⟨5,nilE⟩
def outE (xs:List Byte):Evt:=⟨false,⟨IntKind.i64.wrap (hiN ((xs.drop 1).take 8)),[]⟩,((xs.getD 9 0).val:Int)⟩
def unpE (xs:List Byte):EvtR:=
 if xs.length=0 then errE
 else if (xs.getD 0 0).val=1 then (if (unpD (xs.drop 1)).code=0 then ⟨0,⟨true,(unpD (xs.drop 1)).contract,0⟩⟩ else errE)
 else if (xs.getD 0 0).val=2∧xs.length=10 then (if evtF (outE xs)=0 then ⟨0,outE xs⟩ else errE)
 else errE
theorem fUh {c:Cont} {o:Int}:evtF ⟨true,c,o⟩=if fA c.id c.legs=0 then (if o=0 then 0 else 1) else fA c.id c.legs:=rfl
theorem fXk {c:Cont} {o:Int}:evtF ⟨false,c,o⟩=if (inB c.id 1 1000000000&&inB o 1 2)=true then (if c.legs.length=0 then 0 else 1) else 3:=rfl
theorem zR {c:Cont} {o:Int} (h:evtF ⟨true,c,o⟩=0):fA c.id c.legs=0∧o=0:=by
 rw[fUh] at h;split at h
 ·
  rename_i h1;refine⟨h1,?_⟩;split at h
  ·assumption
  cases h
 rename_i h1;exact absurd h h1
theorem fNu {c:Cont} {o:Int} (h:evtF ⟨false,c,o⟩=0):inB c.id 1 1000000000=true∧inB o 1 2=true∧c.legs=[]:=by
 rw[fXk] at h;split at h
 ·
  rename_i h1;simp only[Bool.and_eq_true] at h1;refine⟨h1.1,h1.2,?_⟩;split at h
  ·rename_i h2;exact List.length_eq_zero_iff.1 h2
  cases h
 cases h
theorem fJl {e:Evt} (h:evtF e=0):1≤(evtB e).length∧(evtB e).length≤97:=by
 obtain⟨b,c,o⟩:=e;cases b
 ·have:(evtB ⟨false,c,o⟩)=[toB 2]++hiB c.id 8++[toB o]:=rfl;rw[this];simp only[List.length_append,gH,List.length_cons,List.length_nil];omega
 have d:=(fAu (zR h).1).2.2.1;have:(evtB ⟨true,c,o⟩)=[toB 1]++kP c.id c.legs:=rfl;rw[this,List.length_append,rT,List.length_singleton];omega
theorem fXl {e:Evt} (h:evtF e=0):e.con.legs.length≤8:=by
 obtain⟨b,c,o⟩:=e;cases b
 ·have:=(fNu h).2.2;show c.legs.length≤8;rw[this];exact Nat.zero_le _
 exact(fAu (zR h).1).2.2.1
end
section
variable [dQ Logg] [iH Logg]
structure LoggR where
 code:Int
 log:Logg
variable [dQ LoggR] [iH LoggR]
def loggRR:Rep LoggR where
 V:=fun w v x=>∃u1_1 u1_2,v =.agg #[.int .i64 x.code,u1_1,u1_2]∧loggR.V w (.agg #[u1_1,u1_2]) x.log
 O:=fun w base F v x=>∃u1_1 u1_2 F1,v =.agg #[.int .i64 x.code,u1_1,u1_2]∧loggR.O w base F1 (.agg #[u1_1,u1_2]) x.log∧(∀b,F b↔(F1 b))
 below:=fun h hb=>by
  obtain⟨u1_1,u1_2,rfl,h1⟩:=h;exact⟨u1_1,u1_2,rfl,loggR.below h1 hb⟩
 ofO:=fun h=>by
  obtain⟨u1_1,u1_2,F1,rfl,h1,_⟩:=h;exact⟨u1_1,u1_2,rfl,loggR.ofO h1⟩
 mod:=fun h hm hd=>by
  obtain⟨u1_1,u1_2,F1,rfl,h1,hF⟩:=h;exact⟨u1_1,u1_2,F1,rfl,loggR.mod h1 hm (fun b hb=>hd b ((hF b).2 hb)),hF⟩
 rng:=fun h b hb=>by
  obtain⟨u1_1,u1_2,F1,rfl,h1,hF⟩:=h;rcases(hF b).1 hb with hb
  exact loggR.rng h1 b hb
 base:=fun h hb=>by
  obtain⟨u1_1,u1_2,F1,rfl,h1,hF⟩:=h;exact⟨u1_1,u1_2,F1,rfl,loggR.base h1 hb,hF⟩
def fKx (x:LoggR):Nat:=gJ x.log
theorem fAo {w:World} {v:Value} {x:LoggR} (h:loggRR.V w v x):∃a1_1 a1_2 c1_1 c1_2,v =.agg #[iV x.code,.slice a1_1 x.log.synced.length c1_1,.slice a1_2 x.log.loose.length c1_2]:=by
 obtain⟨d,e,rfl,h1⟩:=h;obtain⟨a1_1,a1_2,c1_1,c1_2,g⟩:=mJ h1;simp only[Value.agg.injEq,Array.mk.injEq,List.cons.injEq,and_true] at g;obtain⟨rfl,rfl⟩:=g;exact⟨_,_,_,_,rfl⟩
end
section
def chk (xs:List Byte):Int:=xs.foldl (fun h b=>(h*257+(b.val:Int)+1) % 65521) 1
theorem fW5 (xs:List Byte) (b:Byte):chk (xs++[b])=(chk xs*257+(b.val:Int)+1) % 65521:=by simp[chk]
theorem fJh (xs:List Byte):0≤chk xs∧chk xs<65521:=by
 suffices h:∀(xs:List Byte) (n:Int),(0≤n∧n<65521)→0≤xs.foldl (fun h b=>(h*257+(b.val:Int)+1) % 65521) n∧xs.foldl (fun h b=>(h*257+(b.val:Int)+1) % 65521) n<65521 from h xs 1 oM
 intro xs;induction xs with
 | nil=>intro n h;exact h
 | cons b r ih=>intro n h;exact ih ((n*257+(b.val:Int)+1) % 65521) oM
theorem fPs (xs:List Byte) (k:Nat) (h:k<xs.length):chk (xs.take (k+1))=(chk (xs.take k)*257+((xs.getD k 0).val:Int)+1) % 65521:=by
 rw[fI1 xs k h,fW5]
theorem fGc (x:Value) (xs:List Byte) (w:World) (hx:mP w x xs) :
  cL 132 #[x] w fun e w'=>e =.returned (iV (chk xs))∧w'=w:=by
 obtain⟨J,K,rfl,B,g,hx⟩:=hx;unfold maxLen at g;have r:=fPs xs;generalize d:xs.length=n at *;have C:Hid (xs.length=n):=d;have D:Hid (∀k,k<n→chk (xs.take (k+1))=(chk (xs.take k)*257+((xs.getD k 0).val:Int)+1) % 65521):=r;clear d r;go_enter Tryz.func132,Tryz.ntmps132;go_wp2;go_loopw [3,4] (fun q i w'=>∃(k:Nat) (y:Int),k≤n∧i =.int .i64 k∧y=chk (xs.take k)∧q =.int .i64 y∧w'=w) (fun _ i _=>n-(intOf i).toNat)
 case atStart=>exact⟨0,1,by omega,rfl,by simp[chk],rfl,rfl⟩
 obtain⟨k,y,L,rfl,hy,rfl,rfl⟩:=hrel;have s:=fJh (xs.take k);rw[←hy] at s;obtain⟨M,N⟩:=s;have z:Hid (y=chk (xs.take k)):=hy;clear hy;by_cases E:k<n
 ·
  obtain⟨O,R,rfl,h1⟩:=hx k oM;have j:=D.out k oM;obtain⟨F,G⟩:=xK (xs.getD k 0);obtain⟨l,A⟩:∃l:Int,l=((xs.getD k 0).val:Int):=⟨_,rfl⟩
  rw[←A] at h1 j F G;have H:Hid (chk (xs.take (k+1))=(chk (xs.take k)*257+l+1) % 65521):=j;have T:IntKind.i64.wrap l=l:=by rw[IntKind.wrap_i64];omega
  have U:IntKind.i64.wrap (y*257)=y*257:=by rw[IntKind.wrap_i64];omega
  have V:IntKind.i64.wrap (y*257+l)=y*257+l:=by rw[IntKind.wrap_i64];omega
  have X:IntKind.i64.wrap (y*257+l+1)=y*257+l+1:=by rw[IntKind.wrap_i64];omega
  obtain⟨q,m⟩:∃q,q=(y*257+l+1) % 65521:=⟨_,rfl⟩
  have Y:IntKind.i64.wrap ((y*257+l+1).tmod 65521)=q:=by rw[IntKind.wrap_i64,Int.tmod_eq_emod_of_nonneg oM];omega
  have Z:(y*257+l+1).tmod 65521=q:=by rw[Int.tmod_eq_emod_of_nonneg oM];omega
  have v7:=m.symm;have I:Hid (q=(y*257+l+1) % 65521):=m;clear A hx j m;go_wp2;refine⟨⟨k+1,q,by omega,by go_num,?_,rfl,trivial⟩,mI⟩;rw[H.out,I.out,z.out]
 go_wp2;go_ret;have p:k=n:=oM;subst p;refine⟨?_,rfl⟩;rw[z.out,List.take_of_length_le (by have:=C.out;omega)];rfl
theorem fBb (x:Value) (xs:List Byte) (w:World) (hx:mP w x xs) :
  cL 162 #[x] w fun e w'=>e =.returned (iV (chk xs))∧w'=w:=by
 obtain⟨J,K,rfl,B,g,hx⟩:=hx;unfold maxLen at g;have r:=fPs xs;generalize d:xs.length=n at *;have C:Hid (xs.length=n):=d;have D:Hid (∀k,k<n→chk (xs.take (k+1))=(chk (xs.take k)*257+((xs.getD k 0).val:Int)+1) % 65521):=r;clear d r;go_enter Tryz.func162,Tryz.ntmps162;go_wp2;go_loopw [3,8] (fun q i w'=>∃(k:Nat) (y:Int),k≤n∧i =.int .i64 k∧y=chk (xs.take k)∧q =.int .i64 y∧w'=w) (fun _ i _=>n-(intOf i).toNat)
 case atStart=>exact⟨0,1,by omega,rfl,by simp[chk],rfl,rfl⟩
 obtain⟨k,y,L,rfl,hy,rfl,rfl⟩:=hrel;have s:=fJh (xs.take k);rw[←hy] at s;obtain⟨M,N⟩:=s;have z:Hid (y=chk (xs.take k)):=hy;clear hy;by_cases E:k<n
 ·
  obtain⟨O,R,rfl,h1⟩:=hx k oM;have j:=D.out k oM;obtain⟨F,G⟩:=xK (xs.getD k 0);obtain⟨l,A⟩:∃l:Int,l=((xs.getD k 0).val:Int):=⟨_,rfl⟩
  rw[←A] at h1 j F G;have H:Hid (chk (xs.take (k+1))=(chk (xs.take k)*257+l+1) % 65521):=j;have T:IntKind.i64.wrap l=l:=by rw[IntKind.wrap_i64];omega
  have U:IntKind.i64.wrap (y*257)=y*257:=by rw[IntKind.wrap_i64];omega
  have V:IntKind.i64.wrap (y*257+l)=y*257+l:=by rw[IntKind.wrap_i64];omega
  have X:IntKind.i64.wrap (y*257+l+1)=y*257+l+1:=by rw[IntKind.wrap_i64];omega
  obtain⟨q,m⟩:∃q,q=(y*257+l+1) % 65521:=⟨_,rfl⟩
  have Y:IntKind.i64.wrap ((y*257+l+1).tmod 65521)=q:=by rw[IntKind.wrap_i64,Int.tmod_eq_emod_of_nonneg oM];omega
  have Z:(y*257+l+1).tmod 65521=q:=by rw[Int.tmod_eq_emod_of_nonneg oM];omega
  have v7:=m.symm;have I:Hid (q=(y*257+l+1) % 65521):=m;clear A hx j m;go_wp2;refine⟨⟨k+1,q,by omega,by go_num,?_,rfl,trivial⟩,mI⟩;rw[H.out,I.out,z.out]
 go_wp2;go_ret;have p:k=n:=oM;subst p;refine⟨?_,rfl⟩;rw[z.out,List.take_of_length_le (by have:=C.out;omega)];rfl
variable [dQ BytesR] [iH BytesR]
theorem fZg (n:Int):hiB n 2=[toB (n / 256),toB n]:=by
 have h:List.range 2=[0,1]:=rfl;simp[hiB,h]
theorem gAv {n:Int} (h0:0≤n) (h1:n≤18446744073709551615):IntKind.u64.wrap n=n:=by rw[IntKind.wrap_u64];omega
theorem fFm (n:Int) (w:World) (h0:0≤n) (h1:n<65536) :
  cL 131 #[iV n] w fun e w'=>∃v F,e =.returned v∧bytesR.O w' w.heap.size F v (hiB n 2)∧aa w w':=by
 have m:n.tdiv 256=n / 256:=Int.tdiv_eq_ediv_of_nonneg h0;have r:n.tmod 256=n % 256:=Int.tmod_eq_emod_of_nonneg h0;have s:IntKind.i64.wrap (n / 256)=n / 256:=by rw[IntKind.wrap_i64];omega
 have x:IntKind.i64.wrap (n % 256)=n % 256:=by rw[IntKind.wrap_i64];omega
 obtain⟨p,d⟩:∃p,IntKind.u8.wrap (n / 256)=p:=⟨_,rfl⟩
 obtain⟨q,g⟩:∃q,IntKind.u8.wrap (n % 256)=q:=⟨_,rfl⟩
 go_enter Tryz.func131,Tryz.ntmps131;go_wp2;go_ret;refine⟨_,_,rfl,⟨?_,rfl⟩,hE⟩;have j:=World.ownsRow_lit (base:=w.heap.size) (e:=5) (size:=1) w #[.int .u8 p,.int .u8 q] 2 (by simp) (by unfold maxLen;omega) rfl;have k:q=((toB n).val:Int):=by rw[←g,fGt,fDf,fDf];omega
 have l:p=((toB (n / 256)).val:Int):=by rw[←d,fGt]
 rw[fZg];simpa [fT,←k,←l] using j
def gK (xs:List Byte):List Byte:=hiB xs.length 2++hiB (chk xs) 2++xs
theorem yX (xs:List Byte):(gK xs).length=xs.length+4:=by
 simp only[gK,List.length_append,gH];omega
theorem fOm (x:Value) (xs:List Byte) (w:World) (hx:bytesR.V w x xs) (hn:xs.length≤500) :
  cL 93 #[x] w fun e w'=>∃v F,e =.returned v∧bytesR.O w' w.heap.size F v (gK xs)∧aa w w':=by
 have E:=hx;obtain⟨ax,cx,rfl,R,T,_⟩:=hx;obtain⟨U,c1⟩:=fJh xs;have X:Hid (gK xs=hiB xs.length 2++hiB (chk xs) 2++xs):=rfl;have n:Hid ((hiB xs.length 2).length=2):=gH _ _;have p:Hid ((hiB (chk xs) 2).length=2):=gH _ _;go_enter Tryz.func93,Tryz.ntmps93;go_wp2_with fail;refine(fFm (xs.length:Int) _ oM oM).mono ?_;rintro e w1 ⟨v1,F1,rfl,A,q⟩;obtain⟨a1,n1,rfl⟩:=fF (bytesR.ofO A);go_wp2_with fail;refine(fGc _ xs _ (bytesR.below E hE)).mono ?_;rintro e w2 ⟨rfl,rfl⟩;generalize hiB xs.length 2=l at *;go_wp2_with fail;refine(fFm (chk xs) _ U oM).mono ?_;rintro e Y ⟨v2,F2,rfl,B,d⟩;obtain⟨a2,n2,rfl⟩:=fF (bytesR.ofO B);generalize hiB (chk xs) 2=m at *;have r:=bytesR.keep A d;have Z:=q.size;have s2:=d.size;have s:aa w Y:=hE;have G:=kN (bytesR.ofO B);have H:l.length+m.length≤1073741824:=by have:=n.out;have:=p.out;omega
 have I:(l++m).length+xs.length≤1073741824:=by rw[List.length_append];have:=n.out;have:=p.out;omega
 go_wp2_with (at_builtin;refine qL _ rfl _ _ rfl w.heap.size _ l rfl _ m rfl r.1 G H (Nat.le_trans Z s2) ?_)
 intro v3 w4 J C y;have g:=y w s;clear A r B q d C y s G H;have s4:=g.size;have K:=kN (bytesR.below E g);have j:World.ownsRow w4 w.heap.size 5 1 v3 (l++m).length (fT (l++m)):=by simpa using J
 clear J;generalize l++m=z at *;obtain⟨a3,n3,rfl⟩:=fD j;go_wp2_with (at_builtin;refine qL _ rfl _ _ rfl w.heap.size _ z rfl _ xs rfl j K I s4 ?_);intro L M N C y;have D:=y w g;have k:World.ownsRow M w.heap.size 5 1 L (z++xs).length (fT (z++xs)):=by simpa using N
 have HO:Hid (World.ownsRow M w.heap.size 5 1 L (z++xs).length (fT (z++xs))):=k;obtain⟨a4,n4,rfl⟩:=fD k;clear N k C y j K I;go_wp2;go_ret;refine⟨_,_,rfl,⟨?_,rfl⟩,D⟩;rw[X.out];exact HO.out
def fLk (xs:List Byte):BytesR:=if 1≤xs.length∧xs.length≤500 then ⟨0,gK xs⟩ else ⟨2,[]⟩
theorem fHr (w:World) (base:Nat) (c:Int):bytesRR.O w base none_ (.agg #[iV c,aj]) ⟨c,[]⟩:=
 ⟨aj,none_,rfl,⟨by simpa [fT] using World.ownsRow_nil w base 5 1,by funext b;simp[none_,Value.ownBlock]⟩,fun b=>Iff.rfl⟩
theorem fN3 (x:Value) (xs:List Byte) (w:World) (hx:bytesR.V w x xs) :
  cL 134 #[x] w fun e w'=>∃v F,e =.returned v∧bytesRR.O w' w.heap.size F v (fLk xs)∧aa w w':=by
 have E:=hx;obtain⟨ax,cx,rfl,K,z,_⟩:=hx;unfold maxLen at z;by_cases h:1≤xs.length∧xs.length≤500
 ·
  have A:Hid (fLk xs=⟨0,gK xs⟩):=if_pos h;obtain⟨h1,h2⟩:=h;obtain⟨c0,c1⟩:=fJh xs;have L:Hid (gK xs=[hiB xs.length 2,hiB (chk xs) 2,xs].flatten):=by simp[Hid,gK]
  have M:Hid ([hiB xs.length 2,hiB (chk xs) 2,xs].flatten.length≤1073741824):=by
   simp only[Hid,List.flatten_cons,List.flatten_nil,List.length_append,gH,List.length_nil];omega
  have u1:IntKind.u64.wrap (xs.length:Int)=xs.length:=gAv oM oM;have u2:IntKind.u64.wrap (chk xs)=chk xs:=gAv oM oM;go_enter Tryz.func134,Tryz.ntmps134;go_wp2_with fail;refine(fBa _ 2 2 _ rfl oM).mono ?_;rintro e r ⟨N,rfl,G,m⟩;have s:bytesR.V r N (hiB xs.length 2):=uG (by rw[gH];exact G);clear G;obtain⟨a1,n1,rfl⟩:=fF s;generalize hiB xs.length 2=R at *;have j:cI r w.heap.size 0 0:=cK m sG;have k:cN r w.heap.size 1:=cK m sG;have d:(∀o,r.frozen? ⟨w.heap.size,o,none⟩=false)∧w.heap.size<r.heap.size:=(fJg m rfl).2.2;have B:aa w r:=hE;go_wp2_with fail;refine(fBb _ xs _ (bytesR.below E hE)).mono ?_;rintro e w2 ⟨rfl,rfl⟩;go_wp2_with fail;refine(fBa _ 2 2 _ rfl oM).mono ?_;rintro e C ⟨T,rfl,H,l⟩;have D:bytesR.V C T (hiB (chk xs) 2):=uG (by rw[gH];exact H);clear H;obtain⟨a2,n2,rfl⟩:=fF D;generalize hiB (chk xs) 2=U at *;replace s:=bytesR.below s l;replace j:=cK l j;replace k:=cK l k;replace d:=pJ d l;have y:aa w C:=hE;clear m l B;go_wp2_with fail;refine(pR _ [R,U,xs] _ (fTz (g:=C.heap.size) sG sG sG (bytesR.below s hE) (bytesR.below D hE) (bytesR.below E hE)) M.out).mono ?_;rintro e X ⟨v3,I,rfl,J,p⟩;replace j:=cK p (cK hE j);replace k:=cK p (cK hE k);replace d:=pJ (pJ d hE) p;obtain⟨d,Y⟩:=d;have Z:aa w X:=hE;have a0:=y.size;have q:=bytesR.base (base':=w.heap.size+1) J (by simp;omega)
  rw[←L.out] at q;obtain⟨a3,n3,rfl⟩:=fF (bytesR.ofO q);clear J s D p y;go_wp2;refine bodyPost_ret (v:=.agg #[iV 0,.slice a3 (gK xs).length n3]) ?_ rfl ⟨_,I,rfl,?_,hE⟩
  ·simp[results,Tryz.results134,go_sem,j,k]
  rw[A.out];exact⟨_,I,rfl,bytesR.base (base:=w.heap.size+1) (bytesR.set (bytesR.set q _ (by simp)) _ (by simp)) oM,fun b=>Iff.rfl⟩
 have A:Hid (fLk xs=⟨2,[]⟩):=if_neg h;have h':xs.length<1∨500<xs.length:=oM;generalize xs.length=n at *;go_enter Tryz.func134,Tryz.ntmps134;rcases h' with h1|h1
 all_goals
  clear h;go_wp2;refine bodyPost_ret (v:=.agg #[iV 2,aj]) ?_ rfl ?_
  ·simp[results,Tryz.results134,go_sem]
  rw[A.out];first|exact⟨_,none_,rfl,fHr _ _ _,hE⟩|exact⟨_,rfl,⟨none_,fHr _ _ _⟩,hE⟩
end
end Go.Proofs.YtpibfdebfacooaaGreat

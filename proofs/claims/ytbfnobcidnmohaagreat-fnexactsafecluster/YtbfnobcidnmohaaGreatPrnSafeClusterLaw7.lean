import Derived.Test.YtbfnobcidnmohaaGreatPrnSafeClusterLaw6
import Derived.Test.YtbfnobcidnmohaaGreatPrnSafeClusterLaw4
import Derived.Shelf.Abstract
set_option maxHeartbeats 2000000
set_option maxRecDepth 20000
set_option linter.unusedSimpArgs false
set_option linter.unusedVariables false
set_option linter.unusedSectionVars false
namespace Go.Proofs.YtbfnobcidnmohaaGreat
open Go.RowKit
attribute [local go_sem ↓] Go.wp_at_zero Go.wp_at_succ
section
variable [dQ Vot] [iH Vot] [dQ Slt] [iH Slt] [dQ Bal] [iH Bal] [dQ Ledg] [iH Ledg] [dQ Leg] [iH Leg]
def oldB (ob ov:Int):Bool:=(decide (ob = -1)&&decide (ov=0))||(inB ob 0 1000&&inB ov 1 2)
theorem fIs (ob ov:Int) (w:World):RI 225 #[.agg #[.int .i64 ob,.int .i64 ov]] w (.bool (oldB ob ov)):=by
 unfold oldB;cases h:(decide (ob = -1)&&decide (ov=0))
 ·
  rw[Bool.false_or];have HV:Hid (∀W,RI 229 #[.agg #[.int .i64 ob,.int .i64 ov]] W (.bool (inB ob 0 1000&&inB ov 1 2))):=fun W=>qZ ⟨ob,ov⟩ W
  generalize (inB ob 0 1000&&inB ov 1 2)=bb at *;have hv:=fM9 ob ov (-1) 0;rw[show(decide (ob = -1)&&decide (ov=0))=false from h] at hv;go_enter Tryz.func225,Tryz.ntmps225;go_wp2;refine wp_region_noPanic ?_;refine fB (fun W=>W.cell? ⟨w.heap.size,0,none⟩=some (.int .i64 ob)∧W.cell? ⟨w.heap.size,1,none⟩=some (.int .i64 ov)) 8 kF ⟨sG,by simp[go_sem]⟩ (fun hS=>?_);refine tX 0 ?_;refine uS 1 rfl (fun K hK=>?_);go_simp;refine(yD _).mono ?_;rintro e w1 ⟨rfl,hb1⟩;have hB1:=bT w hb1;have hS1:(fun W=>W.cell? ⟨w.heap.size,0,none⟩=some (.int .i64 ob)∧W.cell? ⟨w.heap.size,1,none⟩=some (.int .i64 ov)) w1:=⟨cK hb1 sG,cK hb1 sG⟩;refine hK _ _ (fun _=>hS1) ?_;clear hK K;try simp only[jX]
  refine tX 2 (v:=(.bool false)) ?_;refine tX 3 ?_;refine tX 4 ?_;refine uS 5 rfl (fun K hK=>?_);go_simp;refine(HV.out _).mono ?_;rintro e w2 ⟨rfl,hb2⟩;have hB2:Below w.heap.size w w2:=bS hB1 hb2;have hS2:=kS2 hb2 hS1;refine hK _ _ (fun _=>hS2) ?_;clear hK K;try simp only[jX]
  refine tX 6 ?_;refine tX 7 ?_;refine dP ?_;go_wp2;go_ret;exact⟨rfl,hB2⟩
 rw[Bool.true_or];have hv:=fM9 ob ov (-1) 0;rw[show(decide (ob = -1)&&decide (ov=0))=true from h] at hv;go_enter Tryz.func225,Tryz.ntmps225;go_wp2;refine wp_region_noPanic ?_;refine fB (fun W=>W.cell? ⟨w.heap.size,0,none⟩=some (.int .i64 ob)∧W.cell? ⟨w.heap.size,1,none⟩=some (.int .i64 ov)) 8 kF ⟨sG,by simp[go_sem]⟩ (fun hS=>?_);refine tX 0 ?_;refine uS 1 rfl (fun K hK=>?_);go_simp;refine(yD _).mono ?_;rintro e w1 ⟨rfl,hb1⟩;have hB1:=bT w hb1;have hS1:(fun W=>W.cell? ⟨w.heap.size,0,none⟩=some (.int .i64 ob)∧W.cell? ⟨w.heap.size,1,none⟩=some (.int .i64 ov)) w1:=⟨cK hb1 sG,cK hb1 sG⟩;refine hK _ _ (fun _=>hS1) ?_;clear hK K;try simp only[jX]
 refine tX 2 (v:=(.bool true)) ?_;refine tX 3 ?_;refine sX 4 fun _=>?_
 refine sX 5 fun _=>?_
 refine tX 6 ?_;refine tX 7 ?_;refine dP ?_;go_wp2;go_ret;exact⟨rfl,hB1⟩
variable [dQ Cont] [iH Cont] [dQ Mrk] [iH Mrk] [dQ Shd] [iH Shd] [dQ Acc] [iH Acc] [dQ Trr] [iH Trr] [dQ Hrd] [iH Hrd] [dQ Ldr] [iH Ldr] [dQ Msg] [iH Msg] [dQ Clu] [iH Clu]
def fF (cs:List Cont) (id:Int):Nat:=cs.findIdx (fun x=>x.id==id)
theorem fA2 {cs:List Cont} {id:Int} {k:Nat} (hk:k<cs.length) (h:(cs.getD k default).id=id) (hb:∀j,j<k→¬(cs.getD j default).id=id):fF cs id=k:=by
 unfold fF;rw[List.findIdx_eq hk];refine⟨?_,fun j hj=>?_⟩
 ·simp only[List.getD,List.getElem?_eq_getElem hk,Option.getD_some] at h;simp[h]
 have:=hb j hj;simp only[List.getD,List.getElem?_eq_getElem (Nat.lt_trans hj hk),Option.getD_some] at this;simp[this]
theorem fCo {cs:List Cont} {id:Int} (hb:∀j,j<cs.length→¬(cs.getD j default).id=id):fF cs id=cs.length:=by
 unfold fF;rw[List.findIdx_eq_length];intro x hx;obtain⟨i,hi,rfl⟩:=List.getElem_of_mem hx;have:=hb i hi;simp only[List.getD,List.getElem?_eq_getElem hi,Option.getD_some] at this;simp[this]
def xOf (c:Clu) (m:Msg):Cont:=c.cons.getD (fF c.cons m.con) default
def fAy (c:Clu) (k:Int):Nat:=if k=1∨k=6 then c.shards.length else if k=3∨k=5 then c.ldrs.length else c.accs.length
def kT (c:Clu) (m:Msg):Bool:=inB m.to 0 ((fAy c m.kind:Int)-1)&&(if m.kind=3∨m.kind=5 then inB m.frm 0 ((c.accs.length:Int)-1) else if m.kind=4 then inB m.frm 0 ((c.ldrs.length:Int)-1) else true)
def mG (x:Cont) (m:Msg):Bool:=hasS x.legs (if m.kind=1∨m.kind=6 then m.to else m.sh)&&((if m.kind=2∨m.kind=3∨m.kind=4∨m.kind=5 then inB m.bal 0 1000 else true)&&((if m.kind=2∨m.kind=3∨m.kind=6 then inB m.val 1 2 else true)&&(if m.kind=5 then oldB m.ob m.ov else true)))
def mQ (m:Msg):Msg:=⟨m.kind,m.to,if m.kind=3∨m.kind=4∨m.kind=5 then m.frm else 0,m.con,if m.kind=2∨m.kind=3∨m.kind=4∨m.kind=5 then m.sh else 0,if m.kind=2∨m.kind=3∨m.kind=4∨m.kind=5 then m.bal else 0,if m.kind=2∨m.kind=3∨m.kind=6 then m.val else 0,if m.kind=5 then m.ob else 0,if m.kind=5 then m.ov else 0⟩
def msgF (c:Clu) (m:Msg):Int:=if inB m.kind 1 6=true then (if kT c m=true then (if fF c.cons m.con<c.cons.length then (if mG (xOf c m) m=true then (if m=mQ m then 0 else 1) else 3) else 4) else 3) else 5
theorem kinds {k:Int} (h:inB k 1 6=true):k=1∨k=2∨k=3∨k=4∨k=5∨k=6:=by have:=inBi.1 h;omega
theorem fI9 {c:Clu} {m:Msg} (h:inB m.kind 1 6=false):msgF c m=5:=by unfold msgF;rw[h];rfl
theorem fI7 {c:Clu} {m:Msg} (h:inB m.kind 1 6=true) (h1:kT c m=false):msgF c m=3:=by unfold msgF;rw[h,h1];rfl
theorem fJa {c:Clu} {m:Msg} (h:inB m.kind 1 6=true) (h1:kT c m=true) (h2:¬fF c.cons m.con<c.cons.length):msgF c m=4:=by unfold msgF;rw[if_pos h,if_pos h1,if_neg h2]
theorem fJb {c:Clu} {m:Msg} (h:inB m.kind 1 6=true) (h1:kT c m=true) (h2:fF c.cons m.con<c.cons.length) (h3:mG (xOf c m) m=false):msgF c m=3:=by unfold msgF;rw[if_pos h,if_pos h1,if_pos h2,h3];rfl
theorem fI8 {c:Clu} {m:Msg} (h:inB m.kind 1 6=true) (h1:kT c m=true) (h2:fF c.cons m.con<c.cons.length) (h3:mG (xOf c m) m=true):msgF c m=if m=mQ m then 0 else 1:=by unfold msgF;rw[if_pos h,if_pos h1,if_pos h2,if_pos h3]
def CluP (w:World) (B:Nat) (c:Clu):Prop:=∃a0 c0 a1 c1 a2 c2 a3 c3 v4,w.cell? ⟨B,0,none⟩=some (.slice a0 c.cons.length c0)∧w.cell? ⟨B,1,none⟩=some (.slice a1 c.shards.length c1)∧w.cell? ⟨B,2,none⟩=some (.slice a2 c.accs.length c2)∧w.cell? ⟨B,3,none⟩=some (.slice a3 c.ldrs.length c3)∧w.cell? ⟨B,4,none⟩=some v4∧contsR.V w (.slice a0 c.cons.length c0) c.cons∧c.shards.length≤9223372036854775807∧c.accs.length≤9223372036854775807∧c.ldrs.length≤9223372036854775807
theorem CluP.below {w w':World} {B:Nat} {c:Clu} (h:CluP w B c) (hb:Below w.heap.size w w'):CluP w' B c:=by
 obtain⟨a0,c0,a1,c1,a2,c2,a3,c3,v4,h0,h1,h2,h3,h4,hv,hs⟩:=h;exact⟨a0,c0,a1,c1,a2,c2,a3,c3,v4,cK hb h0,cK hb h1,cK hb h2,cK hb h3,cK hb h4,contsR.below hv hb,hs⟩
theorem pE {w:World} {a:Option Addr} {c:Nat} {xs:List Cont} (hx:contsR.V w (.slice a xs.length c) xs):xs.length≤c∧c≤maxLen∧∀k,k<xs.length→∃b o p q,a=some ⟨b,o,none⟩∧w.cell? ⟨b,o+k*2,none⟩=some (.int .i64 (xs.getD k default).id)∧w.cell? ⟨b,o+k*2+1,none⟩=some (.slice p (xs.getD k default).legs.length q)∧legsR.V w (.slice p (xs.getD k default).legs.length q) (xs.getD k default).legs:=by
 obtain⟨a',c',e,h1,h2,h3⟩:=hx;simp only[Value.slice.injEq,true_and] at e;obtain⟨rfl,rfl⟩:=e;refine⟨h1,h2,fun k hk=>?_⟩;obtain⟨b,o,u,e,_,p,hv⟩:=h3 k hk;obtain⟨s,rfl,hc⟩:=hv;obtain⟨au,cu,rfl⟩:=mM hc;exact⟨b,o,au,cu,e,p 0 oM,p 1 oM,hc⟩
theorem fTx (a b c d:Int) (w:World):(Op.equalIn 9999 126 (.agg #[.int .i64 a,.int .i64 b]) (.agg #[.int .i64 c,.int .i64 d])).run Tryz.prog w =.ok (decide (a=c)&&decide (b=d)) w:=by
 rw[run_equalIn_struct w 9998 126 _ _ kF kF];have hf : (Tryz.prog.fieldsOf 126).toList = [{ name := "Ballot", type := 2, offset := 0, embedded := false, tag := "", pkgPath := "", byteOffset := 0 }, { name := "Value", type := 2, offset := 1, embedded := false, tag := "", pkgPath := "", byteOffset := 8 }] := kF
 rw[hf];simp[Op.eqFields,go_sem];by_cases e1:a=c <;> by_cases e2:b=d <;> simp[e1,e2]
theorem fWf (x0 x1 x2 x3 x4 x5 x6 x7 x8 y0 y1 y2 y3 y4 y5 y6 y7 y8:Int) (w:World):(Op.equalIn 10000 128 (.agg #[.int .i64 x0,.int .i64 x1,.int .i64 x2,.int .i64 x3,.int .i64 x4,.int .i64 x5,.int .i64 x6,.int .i64 x7,.int .i64 x8]) (.agg #[.int .i64 y0,.int .i64 y1,.int .i64 y2,.int .i64 y3,.int .i64 y4,.int .i64 y5,.int .i64 y6,.int .i64 y7,.int .i64 y8])).run Tryz.prog w =.ok (decide ((⟨x0,x1,x2,x3,x4,x5,x6,x7,x8⟩:Msg)=⟨y0,y1,y2,y3,y4,y5,y6,y7,y8⟩)) w:=by
 rw[run_equalIn_struct w 9999 128 _ _ kF kF];have hf : (Tryz.prog.fieldsOf 128).toList = [{ name := "Kind", type := 2, offset := 0, embedded := false, tag := "", pkgPath := "", byteOffset := 0 }, { name := "To", type := 2, offset := 1, embedded := false, tag := "", pkgPath := "", byteOffset := 8 }, { name := "From", type := 2, offset := 2, embedded := false, tag := "", pkgPath := "", byteOffset := 16 }, { name := "Contract", type := 2, offset := 3, embedded := false, tag := "", pkgPath := "", byteOffset := 24 }, { name := "Shard", type := 2, offset := 4, embedded := false, tag := "", pkgPath := "", byteOffset := 32 }, { name := "Ballot", type := 2, offset := 5, embedded := false, tag := "", pkgPath := "", byteOffset := 40 }, { name := "Value", type := 2, offset := 6, embedded := false, tag := "", pkgPath := "", byteOffset := 48 }, { name := "Old", type := 126, offset := 7, embedded := false, tag := "", pkgPath := "", byteOffset := 56 }] := kF
 rw[hf];have hv:=fTx x7 x8 y7 y8 w;simp only[Msg.mk.injEq];by_cases e0:x0=y0;rotate_left
 ·simp[Op.eqFields,go_sem,e0]
 by_cases e1:x1=y1
 rotate_left
 ·simp[Op.eqFields,go_sem,e0,e1]
 by_cases e2:x2=y2
 rotate_left
 ·simp[Op.eqFields,go_sem,e0,e1,e2]
 by_cases e3:x3=y3
 rotate_left
 ·simp[Op.eqFields,go_sem,e0,e1,e2,e3]
 by_cases e4:x4=y4
 rotate_left
 ·simp[Op.eqFields,go_sem,e0,e1,e2,e3,e4]
 by_cases e5:x5=y5
 rotate_left
 ·simp[Op.eqFields,go_sem,e0,e1,e2,e3,e4,e5]
 by_cases e6:x6=y6
 rotate_left
 ·simp[Op.eqFields,go_sem,e0,e1,e2,e3,e4,e5,e6]
 simp[Op.eqFields,go_sem,e0,e1,e2,e3,e4,e5,e6,hv];by_cases e7:x7=y7 <;> by_cases e8:x8=y8 <;> simp[e7,e8]
theorem fC8 (x0 x1 x2 x3 x4 x5 x6 x7 x8 y0 y1 y2 y3 y4 y5 y6 y7 y8:Int) (w:World):(binOp .neq 128 (.agg #[.int .i64 x0,.int .i64 x1,.int .i64 x2,.int .i64 x3,.int .i64 x4,.int .i64 x5,.int .i64 x6,.int .i64 x7,.int .i64 x8]) (.agg #[.int .i64 y0,.int .i64 y1,.int .i64 y2,.int .i64 y3,.int .i64 y4,.int .i64 y5,.int .i64 y6,.int .i64 y7,.int .i64 y8])).run Tryz.prog w =.ok (.bool (!decide ((⟨x0,x1,x2,x3,x4,x5,x6,x7,x8⟩:Msg)=⟨y0,y1,y2,y3,y4,y5,y6,y7,y8⟩))) w:=by
 rw[run_neq_struct,fWf];rfl
theorem fUo (s v:Int) (L:List Int):s ∈ putI L v↔s=v∨s ∈ L:=by
 unfold putI;split
 ·
  rename_i h;have hv:v ∈ L:=by
   by_cases hl:qY L v<L.length
   ·rw[List.getD,List.getElem?_eq_getElem hl,Option.getD_some] at h;rw[←h];exact List.getElem_mem hl
   rw[List.getD,List.getElem?_eq_none oM,Option.getD_none] at h;omega
  exact⟨fun h=>.inr h,fun h=>h.elim (fun e=>by rw[e];exact hv) id⟩
 have e:L=L.take (qY L v)++L.drop (qY L v):=(List.take_append_drop _ _).symm;constructor
 ·
  intro h;rw[List.mem_append,List.mem_append,List.mem_singleton] at h;rcases h with (h|h)|h
  ·exact .inr (List.mem_of_mem_take h)
  ·exact .inl h
  exact .inr (List.mem_of_mem_drop h)
 intro h;rw[List.mem_append,List.mem_append,List.mem_singleton];rcases h with h|h
 ·exact .inl (.inr h)
 rw[e,List.mem_append] at h;exact h.elim (fun h=>.inl (.inl h)) .inr
theorem fU8 (L:List Int) (v:Int):(putI L v).length≤L.length+1:=by
 unfold putI;split
 ·omega
 simp only[List.length_append,List.length_take,List.length_drop,List.length_singleton];have:=fHi L v;omega
def rV (xs:List Leg):List Int:=xs.foldl (fun L l=>putI L l.sh) []
theorem fQa (xs:List Leg) (l:Leg):rV (xs++[l])=putI (rV xs) l.sh:=by unfold rV;rw[List.foldl_append];rfl
theorem fBb (xs:List Leg) (k:Nat) (h:k<xs.length):putI (rV (xs.take k)) (xs.getD k default).sh=rV (xs.take (k+1)):=by
 have e:xs.take (k+1)=xs.take k++[xs.getD k default]:=by rw[List.take_add_one];simp[List.getD,h]
 rw[e,fQa]
theorem fSh:∀xs:List Leg,(rV xs).length≤xs.length:=fun xs=>by
 have h:∀k,k≤xs.length→(rV (xs.take k)).length≤k:=fun k=>by
  induction k with
  | zero=>intro _;simp[rV]
  | succ k ih=>
   intro hk;rw[←fBb xs k oM];have:=fU8 (rV (xs.take k)) (xs.getD k default).sh;have:=ih oM;omega
 have:=h xs.length (Nat.le_refl _);rwa [List.take_length] at this
theorem fR9 (xs:List Leg) (s:Int):decide (s ∈ rV xs)=hasS xs s:=by
 have h:∀k,k≤xs.length→(s ∈ rV (xs.take k)↔hasS (xs.take k) s=true):=fun k=>by
  induction k with
  | zero=>intro _;simp[rV,hasS]
  | succ k ih=>
   intro hk;rw[←fBb xs k oM,fUo,ih oM,zU xs k oM,Bool.or_eq_true,beq_iff_eq];exact⟨fun h=>h.elim (fun h=>.inr h.symm) .inl,fun h=>h.elim .inr (fun h=>.inl h.symm)⟩
 have:=h xs.length (Nat.le_refl _);rw[List.take_length] at this;rw[Bool.eq_iff_iff,decide_eq_true_eq];exact this
theorem fF9 (id:Int) (x:Value) (xs:List Leg) (w:World) (hx:mK w x xs) (hn:xs.length≤1048576) :
  Calls Tryz.prog 21 #[.agg #[.int .i64 id,x]] w fun e w'=>∃v,e =.returned v∧w'.ownsRow w.heap.size 2 1 v (rV xs).length (gN (rV xs))∧Below w.heap.size w w':=by
 obtain⟨ax,cx,rfl,hcx,hmx,hx⟩:=hx;unfold maxLen at hmx;generalize hn':xs.length=n at *;have HN:Hid (xs.length=n):=hn';clear hn';go_enter Tryz.func21,Tryz.ntmps21;go_wp2;go_loopw [3,4] (fun v i w'=>∃k:Nat,k≤n∧i =.int .i64 k∧w'.ownsRow (w.heap.size+1) 2 1 v (rV (xs.take k)).length (gN (rV (xs.take k)))∧¬v =.slice none 0 0∧w'.cell? ⟨w.heap.size,1,none⟩=some (.slice ax n cx)∧Below w.heap.size w w') (fun _ i _=>n-(intOf i).toNat)
 case atStart=>
  refine⟨0,oM,rfl,?_,by simp,by simp[go_sem],bA (bA (bR _ _) _) _⟩;have:=World.ownsRow_lit (base:=w.heap.size+1) (e:=2) (size:=1) (w.alloc (.cells #[.int .i64 id,.slice ax n cx] 60)) #[] 0 (by simp) (by unfold maxLen;omega) rfl;simpa [rV,gN] using this
 obtain⟨k,hk,rfl,ho,hnn,hbx,hbl⟩:=hrel;by_cases hlt:k<n
 ·
  obtain⟨bx,ox,rfl,g1⟩:=hx k hlt;obtain⟨l,hl⟩:∃l,l=xs.getD k default:=⟨_,rfl⟩
  rw[←hl] at g1;have HL:Hid (l=xs.getD k default):=hl;clear hl hx;obtain⟨a1,a2,a3,a4⟩:=fG hbl g1;have hkx:k<xs.length:=by have:=HN.out;omega
  have HE:=fBb xs k hkx;rw[←HL.out] at HE;have HE':Hid (putI (rV (xs.take k)) l.sh=rV (xs.take (k+1))):=HE;have hle:(rV (xs.take k)).length≤1048576:=by have:=fSh (xs.take k);rw[List.length_take] at this;omega
  have hz:w.heap.size<wr.heap.size:=wL _ _ hbx;obtain⟨g,cap,hv⟩:∃g cap,u3 =.slice (some ⟨g,0,none⟩) (rV (xs.take k)).length cap:=by
   rcases ho.2 with ⟨h,_⟩|⟨g,cap,cur,h,_⟩
   ·exact absurd h hnn
   exact⟨g,cap,h⟩
  subst hv;clear HE hnn;go_wp2_with fail;refine(fIy g 0 cap (w.heap.size+1) (rV (xs.take k)) l.sh _ oM oM ho).mono ?_;rintro r w1 ⟨u,rfl,ho1,hnn1,hb1⟩;rw[HE'.out] at ho1;have hbx1:=cK hb1 hbx;have hbl1:=bS hbl hb1;clear ho hb1 a1 a2 a3 a4 hbl hbx;go_wp2;exact⟨⟨k+1,by omega,by go_num,ho1,hnn1,hbx1,hbl1⟩,mI⟩
 go_wp2;go_ret;have hkn:k=n:=oM;subst hkn;have t0:xs.take k=xs:=by rw[←HN.out];exact List.take_length
 rw[t0] at ho;exact⟨_,rfl,mF ho oM,hbl⟩
theorem fA3 (x:Value) (xs:List Int) (c:Int) (w:World) (hx:qN w x xs) :
  Calls Tryz.prog 197 #[x,.int .i64 c] w fun e w'=>e =.returned (.bool (decide (c ∈ xs)))∧w'=w:=by
 obtain⟨ax,cx,rfl,hcx,hmx,hx⟩:=hx;unfold maxLen at hmx;have HT:Hid (∀k,k<xs.length→xs.getD k 0=c→decide (c ∈ xs)=true):=fun k hk h=>decide_eq_true (by rw[←h];simp[List.getD,hk])
 have HS0:Hid (∀k,k<xs.length→¬c ∈ xs.take k→¬xs.getD k 0=c→¬c ∈ xs.take (k+1)):=fun k hk h1 h2=>by
  rw[List.take_add_one];intro h;rw[List.mem_append] at h;rcases h with h|h
  ·exact h1 h
  simp[hk] at h;exact h2 (by simp[List.getD,hk,h])
 have HE:Hid (¬c ∈ xs.take xs.length→decide (c ∈ xs)=false):=fun h=>decide_eq_false (by rw[List.take_length] at h;exact h)
 generalize hn':xs.length=n at *;clear hn';go_enter Tryz.func197,Tryz.ntmps197;go_wp2;go_loopw [5] (fun i w'=>∃k:Nat,k≤n∧i =.int .i64 k∧Hid (¬c ∈ xs.take k)∧Hid (w'=w)) (fun i _=>n-(intOf i).toNat)
 case atStart=>exact⟨0,oM,rfl,by show ¬c ∈ xs.take 0;simp,rfl⟩
 obtain⟨k,hk,rfl,HS,HW⟩:=hrel;by_cases hlt:k<n
 ·
  obtain⟨bx,ox,rfl,g1⟩:=hx k hlt;have h1:=HT.out k hlt;have h2:=HS0.out k hlt HS.out;generalize xs.getD k 0=q at *;have H1:Hid (q=c→decide (c ∈ xs)=true):=h1;have H2:Hid (¬q=c→¬c ∈ xs.take (k+1)):=h2;clear hx h1 h2;rw[←HW.out] at g1;by_cases he:q=c
  ·
   have HC:=H1.out he;have he':(q==c)=true:=by simp[he]
   clear H1 HS H2;go_wp2;go_ret;exact⟨by rw[HC];rfl,HW.out⟩
  have HC:Hid _:=H2.out he;have he':(q==c)=false:=by simp[he]
  clear H1 HS H2;go_wp2;exact⟨⟨k+1,by omega,by go_num,HC,HW⟩,mI⟩
 have hkn:k=n:=oM;subst hkn;have HC:=HE.out HS.out;go_wp2;go_ret;exact⟨by rw[HC];rfl,HW.out⟩
def tC (cs:List Cont) (id:Int):Int:=if fF cs id<cs.length then (fF cs id:Int) else -1
theorem vQ (B:Nat) (c:Clu) (id:Int) (w:World) (h:CluP w B c) :
  RI 45 #[.pointer (some ⟨B,0,none⟩),.int .i64 id] w (.int .i64 (tC c.cons id)):=by
 obtain⟨a0,c0,a1,c1,a2,c2,a3,c3,v4,y0,y1,y2,y3,y4,hv,_⟩:=h;obtain⟨hcx,hmx,hx⟩:=pE hv;unfold maxLen at hmx;have HHit:Hid (∀j,j<c.cons.length→(c.cons.getD j default).id=id→(∀i,i<j→¬(c.cons.getD i default).id=id)→tC c.cons id=j):=fun j hj h hb=>by unfold tC;rw[fA2 hj h hb,if_pos hj]
 have HNo:Hid ((∀j,j<c.cons.length→¬(c.cons.getD j default).id=id)→tC c.cons id = -1):=fun h=>by unfold tC;rw[fCo h,if_neg oM]
 clear hv y1 y2 y3 y4;generalize tC c.cons id=Z at *;generalize c.cons=xs at *;generalize hn':xs.length=n at *;clear hn';have zB:B<w.heap.size:=wL w _ y0;go_enter Tryz.func45,Tryz.ntmps45;go_wp2;go_loopw [5] (fun i w'=>∃k:Nat,k≤n∧i =.int .i64 k∧Hid (∀j,j<k→¬(xs.getD j default).id=id)∧Below w.heap.size w w') (fun i _=>n-(intOf i).toNat)
 case atStart=>exact⟨0,oM,rfl,fun j hj=>absurd hj oM,bR _ _⟩
 obtain⟨j,hk,rfl,HP,hbl⟩:=hrel;replace y0:=cK hbl y0;by_cases hlt:j<n
 ·
  obtain⟨bx,ox,p,q,rfl,g0,g1,_⟩:=hx j hlt;obtain⟨l,hl⟩:∃l,l=xs.getD j default:=⟨_,rfl⟩
  rw[←hl] at g0;have HLE:Hid (l=xs.getD j default):=hl;clear hl hx g1;replace g0:=cK hbl g0;have hti:(j:Int)<(n:Int):=oM;have hti0:(0:Int)≤(j:Int):=oM;by_cases hq:l.id=id
  ·
   have HQ:Hid (Z=j):=HHit.out j hlt (by rw[←HLE.out];exact hq) HP.out;have hq':(l.id==id)=true:=by simp[hq]
   go_wp2;go_ret;exact⟨by rw[HQ.out];rfl,qBq⟩
  have HQ:Hid (∀i,i<j+1→¬(xs.getD i default).id=id):=fun i hi=>by
   by_cases e:i=j
   ·rw[e,←HLE.out];exact hq
   exact HP.out i oM
  have hq':(l.id==id)=false:=by simp[hq]
  go_wp2;exact⟨⟨j+1,by omega,by go_num,HQ,qBq⟩,mI⟩
 obtain rfl:j=n:=oM;have hti:¬(j:Int)<(j:Int):=oM;go_wp2;go_ret;exact⟨by rw[HNo.out HP.out];rfl,qBq⟩
def hasL (c:Clu) (id s:Int):Bool:=decide (fF c.cons id<c.cons.length)&&hasS (c.cons.getD (fF c.cons id) default).legs s
theorem uR (B:Nat) (c:Clu) (id s:Int) (w:World) (h:CluP w B c) (hlen:∀k,k<c.cons.length→(c.cons.getD k default).legs.length≤1048576) :
  RI 120 #[.pointer (some ⟨B,0,none⟩),.int .i64 id,.int .i64 s] w (.bool (hasL c id s)):=by
 have HFi:Hid (RI 45 #[.pointer (some ⟨B,0,none⟩),.int .i64 id] w (.int .i64 (tC c.cons id))):=vQ B c id w h;obtain⟨a0,c0,a1,c1,a2,c2,a3,c3,v4,y0,y1,y2,y3,y4,hv,_⟩:=h;obtain⟨hcx,hmx,hx⟩:=pE hv;unfold maxLen at hmx;have zB:B<w.heap.size:=wL w _ y0;clear y1 y2 y3 y4 hv;by_cases hlt:fF c.cons id<c.cons.length
 ·
  obtain⟨bx,ox,p,q,rfl,g0,g1,hl⟩:=hx _ hlt;have hll:=hlen _ hlt;have HE:Hid (hasL c id s=decide (s ∈ rV (c.cons.getD (fF c.cons id) default).legs)):=by show _=_;unfold hasL;rw[decide_eq_true hlt,Bool.true_and,fR9]
  have HF:Hid (tC c.cons id=(fF c.cons id:Int)):=by show _=_;unfold tC;rw[if_pos hlt]
  rw[HE.out];rw[HF.out] at HFi;clear HE HF hx hlen;have HS:Hid (bW w fun W=>Calls Tryz.prog 21 #[.agg #[.int .i64 (c.cons.getD (fF c.cons id) default).id,.slice p (c.cons.getD (fF c.cons id) default).legs.length q]] W fun e w'=>∃v,e =.returned v∧w'.ownsRow W.heap.size 2 1 v (rV (c.cons.getD (fF c.cons id) default).legs).length (gN (rV (c.cons.getD (fF c.cons id) default).legs))∧Below W.heap.size W w'):=fun W hW=>fF9 _ _ _ W (legsR.below hl hW) hll
  clear hl hll;generalize rV (c.cons.getD (fF c.cons id) default).legs=PL at *;generalize c.cons.getD (fF c.cons id) default=x at *;have hi1:((fF c.cons id:Nat):Int)<(c.cons.length:Int):=oM;have hi0:(0:Int)≤((fF c.cons id:Nat):Int):=oM;generalize fF c.cons id=i at *;generalize c.cons.length=n at *;go_enter Tryz.func120,Tryz.ntmps120;go_wp2_with fail;refine HFi.out.mono ?_;rintro e w1 ⟨rfl,hb1⟩;replace y0:=cK hb1 y0;replace g0:=cK hb1 g0;replace g1:=cK hb1 g1;go_wp2_with fail;refine(HS.out _ hb1).mono ?_;rintro e w2 ⟨v2,rfl,o2,hb2⟩;have hB2:Below w.heap.size w w2:=bS hb1 hb2;have HI:Hid (qN w2 v2 PL):=kR o2;obtain⟨a5,c5,rfl⟩:=gF o2;clear o2 hb2;go_wp2_with (first|(go_at_call 197;refine(fA3 _ PL s _ HI.out).mono ?_;rintro e w' ⟨rfl,hw⟩;obtain rfl:=hw.symm));go_ret;exact⟨rfl,hB2⟩
 have HE:Hid (hasL c id s=false):=by show _=_;unfold hasL;rw[decide_eq_false hlt];rfl
 have HF:Hid (tC c.cons id = -1):=by show _=_;unfold tC;rw[if_neg hlt]
 rw[HE.out];rw[HF.out] at HFi;clear HE HF hx hlen;go_enter Tryz.func120,Tryz.ntmps120;go_wp2_with fail;refine HFi.out.mono ?_;rintro e w1 ⟨rfl,hb1⟩;go_wp2;go_ret;exact⟨rfl,hb1⟩
theorem uM (ob ov:Int) (w:World):RI 130 #[.agg #[.int .i64 ob,.int .i64 ov]] w (.bool (inB ob 0 1000&&inB ov 1 2)):=by
 cases h1:inB ob 0 1000;all_goals
  go_enter Tryz.func130,Tryz.ntmps130;go_wp2_with (first|(go_at_call 125;refine(fZ _ _).mono ?_;rintro e w' ⟨rfl,hw⟩;obtain rfl:=hw.symm;rw[h1])|(go_at_call 126;refine(kC _ _).mono ?_;rintro e w' ⟨rfl,hw⟩;obtain rfl:=hw.symm));go_ret;exact⟨by simp,qBq⟩
end
section
variable [dQ Vot] [iH Vot] [dQ Slt] [iH Slt]
structure SltR where
 code:Int
 ob:Int
 ov:Int
 slot:Slt
variable [dQ SltR] [iH SltR]
def sltRR:Rep SltR where
 V:=fun w v x=>∃u1_1,v =.agg #[.int .i64 x.code,.int .i64 x.ob,.int .i64 x.ov,.int .i64 x.slot.con,.int .i64 x.slot.sh,.int .i64 x.slot.pr,.int .i64 x.slot.lb,.int .i64 x.slot.lv,u1_1]∧sltR.V w (.agg #[.int .i64 x.slot.con,.int .i64 x.slot.sh,.int .i64 x.slot.pr,.int .i64 x.slot.lb,.int .i64 x.slot.lv,u1_1]) x.slot
 O:=fun w base F v x=>∃u1_1 F1,v =.agg #[.int .i64 x.code,.int .i64 x.ob,.int .i64 x.ov,.int .i64 x.slot.con,.int .i64 x.slot.sh,.int .i64 x.slot.pr,.int .i64 x.slot.lb,.int .i64 x.slot.lv,u1_1]∧sltR.O w base F1 (.agg #[.int .i64 x.slot.con,.int .i64 x.slot.sh,.int .i64 x.slot.pr,.int .i64 x.slot.lb,.int .i64 x.slot.lv,u1_1]) x.slot∧(∀b,F b↔(F1 b))
 below:=fun h hb=>by
  obtain⟨u1_1,rfl,h1⟩:=h;exact⟨u1_1,rfl,sltR.below h1 hb⟩
 ofO:=fun h=>by
  obtain⟨u1_1,F1,rfl,h1,_⟩:=h;exact⟨u1_1,rfl,sltR.ofO h1⟩
 mod:=fun h hm hd=>by
  obtain⟨u1_1,F1,rfl,h1,hF⟩:=h;exact⟨u1_1,F1,rfl,sltR.mod h1 hm (fun b hb=>hd b ((hF b).2 hb)),hF⟩
 rng:=fun h b hb=>by
  obtain⟨u1_1,F1,rfl,h1,hF⟩:=h;rcases(hF b).1 hb with hb
  exact sltR.rng h1 b hb
 base:=fun h hb=>by
  obtain⟨u1_1,F1,rfl,h1,hF⟩:=h;exact⟨u1_1,F1,rfl,sltR.base h1 hb,hF⟩
variable [dQ SltR] [iH SltR] [dQ Bal] [iH Bal] [dQ Ledg] [iH Ledg] [dQ Leg] [iH Leg]
theorem fXv {b:Nat} (h:(Value.slice none 0 0).ownBlock=some b):False:=by simp[Value.ownBlock] at h
theorem fG7 (w:World) (base:Nat):votsR.O w base (fun _=>False) (.slice none 0 0) []:=
 ⟨World.ownsRow_nil _ _ _ _,by funext b;exact propext ⟨fun h=>h.elim,fXv⟩⟩
theorem fW9 (w:World) (base:Nat) (a b c d e:Int):sltR.O w base (fun _=>False) (.agg #[.int .i64 a,.int .i64 b,.int .i64 c,.int .i64 d,.int .i64 e,.slice none 0 0]) ⟨a,b,c,d,e,[]⟩:=
 ⟨_,_,rfl,fG7 w base,fun _=>Iff.rfl⟩
theorem qD (w:World) (base:Nat) (q x y a b c d e:Int):sltRR.O w base (fun _=>False) (.agg #[.int .i64 q,.int .i64 x,.int .i64 y,.int .i64 a,.int .i64 b,.int .i64 c,.int .i64 d,.int .i64 e,.slice none 0 0]) ⟨q,x,y,⟨a,b,c,d,e,[]⟩⟩:=
 ⟨_,_,rfl,fW9 w base a b c d e,fun _=>Iff.rfl⟩
def fE6 (c s:Int):SltR:=if inB c 1 1000000000&&inB s 0 2 then ⟨0,0,0,⟨c,s,-1,-1,0,[]⟩⟩ else ⟨3,0,0,⟨0,0,0,0,0,[]⟩⟩
theorem fQe (c s:Int) (w:World) :
  Calls Tryz.prog 136 #[.int .i64 c,.int .i64 s] w fun e w'=>∃v F,e =.returned v∧sltRR.O w' w.heap.size F v (fE6 c s)∧Below w.heap.size w w':=by
 unfold fE6;cases h1:inB c 1 1000000000
 ·go_enter Tryz.func136,Tryz.ntmps136;go_wp2_with (first|(go_at_call 192;refine(mD _ _).mono ?_;rintro e w' ⟨rfl,rfl⟩;rw[h1])|(go_at_call 123;refine(fM _ _ _ _).mono ?_;rintro e w' ⟨rfl,rfl⟩));refine bodyPost_ret (v:=.agg #[.int .i64 3,.int .i64 0,.int .i64 0,.int .i64 0,.int .i64 0,.int .i64 0,.int .i64 0,.int .i64 0,.slice none 0 0]) (by simp[results,Tryz.results136,go_sem]) rfl ?_;first|exact⟨_,rfl,⟨_,qD _ _ 3 0 0 0 0 0 0 0⟩,qBq⟩|exact⟨_,_,rfl,qD _ _ 3 0 0 0 0 0 0 0,qBq⟩
 cases h2:inB s 0 2
 ·go_enter Tryz.func136,Tryz.ntmps136;go_wp2_with (first|(go_at_call 192;refine(mD _ _).mono ?_;rintro e w' ⟨rfl,rfl⟩;rw[h1])|(go_at_call 123;refine(fM _ _ _ _).mono ?_;rintro e w' ⟨rfl,rfl⟩;rw[h2]));refine bodyPost_ret (v:=.agg #[.int .i64 3,.int .i64 0,.int .i64 0,.int .i64 0,.int .i64 0,.int .i64 0,.int .i64 0,.int .i64 0,.slice none 0 0]) (by simp[results,Tryz.results136,go_sem]) rfl ?_;first|exact⟨_,rfl,⟨_,qD _ _ 3 0 0 0 0 0 0 0⟩,qBq⟩|exact⟨_,_,rfl,qD _ _ 3 0 0 0 0 0 0 0,qBq⟩
 go_enter Tryz.func136,Tryz.ntmps136;go_wp2_with (first|(go_at_call 192;refine(mD _ _).mono ?_;rintro e w' ⟨rfl,rfl⟩;rw[h1])|(go_at_call 123;refine(fM _ _ _ _).mono ?_;rintro e w' ⟨rfl,rfl⟩;rw[h2])|fail);refine(rC _).mono ?_;rintro e w1 ⟨rfl,hb1⟩;have hB1:=bT w hb1;obtain⟨c1,f1⟩:=bcell hb1;clear hb1;go_wp2;refine bodyPost_ret (v:=.agg #[.int .i64 0,.int .i64 0,.int .i64 0,.int .i64 c,.int .i64 s,.int .i64 (-1),.int .i64 (-1),.int .i64 0,.slice none 0 0]) (by simp[results,Tryz.results136,go_sem,c1]) rfl ?_;first|exact⟨_,rfl,⟨_,qD _ _ 0 0 0 c s (-1) (-1) 0⟩,qS⟩|exact⟨_,_,rfl,qD _ _ 0 0 0 c s (-1) (-1) 0,qS⟩
theorem fPh (c s:Int) (w:World) :
  Calls Tryz.prog 162 #[.int .i64 c,.int .i64 s] w fun e w'=>∃v F,e =.returned v∧sltRR.O w' w.heap.size F v (fE6 c s)∧Below w.heap.size w w':=by
 unfold fE6;cases h1:inB c 1 1000000000
 ·go_enter Tryz.func162,Tryz.ntmps162;go_wp2_with (first|(go_at_call 237;refine(kE _ _).mono ?_;rintro e w' ⟨rfl,rfl⟩;rw[h1])|(go_at_call 238;refine(kL _ _).mono ?_;rintro e w' ⟨rfl,rfl⟩));refine bodyPost_ret (v:=.agg #[.int .i64 3,.int .i64 0,.int .i64 0,.int .i64 0,.int .i64 0,.int .i64 0,.int .i64 0,.int .i64 0,.slice none 0 0]) (by simp[results,Tryz.results162,go_sem]) rfl ?_;first|exact⟨_,rfl,⟨_,qD _ _ 3 0 0 0 0 0 0 0⟩,qBq⟩|exact⟨_,_,rfl,qD _ _ 3 0 0 0 0 0 0 0,qBq⟩
 cases h2:inB s 0 2
 ·go_enter Tryz.func162,Tryz.ntmps162;go_wp2_with (first|(go_at_call 237;refine(kE _ _).mono ?_;rintro e w' ⟨rfl,rfl⟩;rw[h1])|(go_at_call 238;refine(kL _ _).mono ?_;rintro e w' ⟨rfl,rfl⟩;rw[h2]));refine bodyPost_ret (v:=.agg #[.int .i64 3,.int .i64 0,.int .i64 0,.int .i64 0,.int .i64 0,.int .i64 0,.int .i64 0,.int .i64 0,.slice none 0 0]) (by simp[results,Tryz.results162,go_sem]) rfl ?_;first|exact⟨_,rfl,⟨_,qD _ _ 3 0 0 0 0 0 0 0⟩,qBq⟩|exact⟨_,_,rfl,qD _ _ 3 0 0 0 0 0 0 0,qBq⟩
 go_enter Tryz.func162,Tryz.ntmps162;go_wp2_with (first|(go_at_call 237;refine(kE _ _).mono ?_;rintro e w' ⟨rfl,rfl⟩;rw[h1])|(go_at_call 238;refine(kL _ _).mono ?_;rintro e w' ⟨rfl,rfl⟩;rw[h2])|fail);refine(yD _).mono ?_;rintro e w1 ⟨rfl,hb1⟩;have hB1:=bT w hb1;obtain⟨c1,f1⟩:=bcell hb1;clear hb1;go_wp2;refine bodyPost_ret (v:=.agg #[.int .i64 0,.int .i64 0,.int .i64 0,.int .i64 c,.int .i64 s,.int .i64 (-1),.int .i64 (-1),.int .i64 0,.slice none 0 0]) (by simp[results,Tryz.results162,go_sem,c1]) rfl ?_;first|exact⟨_,rfl,⟨_,qD _ _ 0 0 0 c s (-1) (-1) 0⟩,qS⟩|exact⟨_,_,rfl,qD _ _ 0 0 0 c s (-1) (-1) 0,qS⟩
def quoV (n:Int):Int:=n / 2+1
def quoC (n:Int):Int:=if inB n 1 9 then 0 else 3
def quoR (n:Int):Int:=if inB n 1 9 then quoV n else 0
theorem nine {n:Int} (h:inB n 1 9=true):n=1∨n=2∨n=3∨n=4∨n=5∨n=6∨n=7∨n=8∨n=9:=by
 rw[inBi] at h;omega
theorem rR (n:Int) (h:inB n 1 9=true) (w:World):Calls Tryz.prog 134 #[.int .i64 n] w fun e w'=>e =.returned (.int .i64 (quoV n))∧w'=w:=by
 rcases nine h with rfl|rfl|rfl|rfl|rfl|rfl|rfl|rfl|rfl
 all_goals
  go_enter Tryz.func134,Tryz.ntmps134;go_wp2;go_ret;exact⟨by first|rfl|decide,rfl⟩
theorem fD4 (n:Int) (w:World):RI 285 #[.int .i64 n] w (.agg #[.int .i64 (quoC n),.int .i64 (quoR n)]):=by
 unfold quoC quoR;cases h:inB n 1 9
 ·go_enter Tryz.func285,Tryz.ntmps285;go_wp2_with (go_at_call 152;refine(fO _ _ _ _).mono ?_;rintro e w' ⟨rfl,rfl⟩;rw[h]);exact bodyPost_ret (v:=.agg #[.int .i64 3,.int .i64 0]) (by simp[results,Tryz.results285,go_sem]) rfl ⟨rfl,qBq⟩
 have hh:=h;rcases nine hh with rfl|rfl|rfl|rfl|rfl|rfl|rfl|rfl|rfl
 all_goals
  clear hh;go_enter Tryz.func285,Tryz.ntmps285;go_wp2_with (go_at_call 152;refine(fO _ _ _ _).mono ?_;rintro e w' ⟨rfl,rfl⟩;rw[h]);exact bodyPost_ret (v:=.agg #[.int .i64 0,.int .i64 (quoV _)]) (by simp[results,Tryz.results285,go_sem];try decide) rfl ⟨rfl,qBq⟩
end
section
variable [dQ Vot] [iH Vot] [dQ Slt] [iH Slt] [dQ SltR] [iH SltR] [dQ Bal] [iH Bal] [dQ Ledg] [iH Ledg] [dQ Leg] [iH Leg]
def cntP (p:Nat→Bool):Nat→Nat
 | 0=>0
 | n+1=>cntP p n+if p n then 1 else 0
theorem fFq (p:Nat→Bool):∀n,cntP p n≤n
 | 0=>Nat.le_refl _
 | n+1=>by
  have:=fFq p n;unfold cntP;split <;> omega
theorem fFr (p:Nat→Bool):∀n,0<cntP p n→∃k,k<n∧p k=true
 | 0,h=>by simp[cntP] at h
 | n+1,h=>by
  by_cases e:p n=true
  ·exact⟨n,by omega,e⟩
  unfold cntP at h;rw[if_neg e] at h;obtain⟨k,hk,hp⟩:=fFr p n oM;exact⟨k,by omega,hp⟩
theorem fM6 (p q:Nat→Bool):∀n,n<cntP p n+cntP q n→∃k,k<n∧p k=true∧q k=true
 | 0,h=>by simp[cntP] at h
 | n+1,h=>by
  by_cases e:p n=true∧q n=true
  ·exact⟨n,by omega,e⟩
  unfold cntP at h;have:(if p n=true then 1 else 0)+(if q n=true then 1 else 0)≤1:=by
   by_cases e1:p n=true
   ·
    by_cases e2:q n=true
    ·exact absurd ⟨e1,e2⟩ e
    rw[if_pos e1,if_neg e2];omega
   rw[if_neg e1];split <;> omega
  obtain⟨k,hk,hp⟩:=fM6 p q n oM;exact⟨k,by omega,hp⟩
def hasV (s:Slt) (v:Vot):Bool:=s.cast.any (fun u=>decide (u.bal=v.bal)&&decide (u.val=v.val))
theorem vot_eq {u v:Vot}:(decide (u.bal=v.bal)&&decide (u.val=v.val))=true↔u=v:=by
 obtain⟨a,b⟩:=u;obtain⟨c,d⟩:=v;simp
theorem hasV_iff {s:Slt} {v:Vot}:hasV s v=true↔v ∈ s.cast:=by
 unfold hasV;rw[List.any_eq_true];constructor
 ·rintro⟨u,hu,e⟩;rw[vot_eq] at e;exact e▸hu
 intro h;exact⟨v,h,vot_eq.2 rfl⟩
def cntV (D:List Slt) (v:Vot):Nat:=cntP (fun k=>hasV (D.getD k default) v) D.length
def isCh (D:List Slt) (v:Vot):Prop:=quoV (D.length:Int)≤(cntV D v:Int)
def Rise (ys:List Vot):Prop:=ys.Pairwise (fun a b=>a.bal<b.bal)
structure Chs (D:List Slt) (ys:List Vot):Prop where
 rise:Rise ys
 mem:∀v,v ∈ ys↔isCh D v
def fCc (D:List Slt):Prop:=∀k,k<D.length→SltOk (D.getD k default)
theorem xR {s:Slt} (h:SltOk s) (i:Nat):∀j,i+j<s.cast.length→(s.cast.getD i default).bal≤(s.cast.getD (i+j) default).bal∧((s.cast.getD i default).bal=(s.cast.getD (i+j) default).bal→(s.cast.getD i default).val=(s.cast.getD (i+j) default).val)
 | 0,hj=>⟨Int.le_refl _,fun _=>rfl⟩
 | j+1,hj=>by
  obtain⟨h1,h2⟩:=xR h i j oM;have h3:=(h.at_ (i+j+1) oM).2;rw[tZ] at h3;have e:i+(j+1)=i+j+1:=oM;rw[e];generalize s.cast.getD (i+j+1) default=c at *;generalize s.cast.getD (i+j) default=b at *;generalize s.cast.getD i default=a at *;unfold other at h3;simp at h3;refine⟨oM,fun hab=>?_⟩;have hbc:b.bal=c.bal:=oM;have:=h3.2 hbc.symm;rw[h2 oM,this]
theorem qE {xs:List Vot} {v:Vot} (h:v ∈ xs):∃i,i<xs.length∧xs.getD i default=v:=by
 obtain⟨i,hi,e⟩:=List.getElem_of_mem h;exact⟨i,hi,by simp[List.getD,hi,e]⟩
theorem fB8 {xs:List Vot} {i:Nat} (h:i<xs.length):xs.getD i default ∈ xs:=by
 simp[List.getD,h]
theorem fXa {s:Slt} (h:SltOk s) {u v:Vot} (hu:u ∈ s.cast) (hv:v ∈ s.cast) (e:u.bal=v.bal):u=v:=by
 obtain⟨i,hi,rfl⟩:=qE hu;obtain⟨j,hj,rfl⟩:=qE hv;have hval:(s.cast.getD i default).val=(s.cast.getD j default).val:=by
  by_cases hij:i≤j
  ·have:=xR h i (j-i) oM;rw[show i+(j-i)=j by omega] at this;exact this.2 e
  have:=xR h j (i-j) oM;rw[show j+(i-j)=i by omega] at this;exact(this.2 e.symm).symm
 exact vot_eq.1 (by simp only[e,hval];simp)
theorem fW5 (n:Nat):(n:Int)<quoV n+quoV n:=by unfold quoV;omega
theorem fRc {D:List Slt} (hok:fCc D) {u v:Vot} (hu:isCh D u) (hv:isCh D v) (e:u.bal=v.bal):u=v:=by
 have:=fW5 D.length;unfold isCh at hu hv;obtain⟨k,hk,h1,h2⟩:=fM6 _ _ D.length (show D.length<cntV D u+cntV D v by omega);exact fXa (hok k hk) (hasV_iff.1 h1) (hasV_iff.1 h2) e
theorem fRb {D:List Slt} {v:Vot} (h:isCh D v):∃k,k<D.length∧v ∈ (D.getD k default).cast:=by
 unfold isCh quoV at h;obtain⟨k,hk,hp⟩:=fFr _ _ (show 0<cntV D v by omega);exact⟨k,hk,hasV_iff.1 hp⟩
theorem fDd:∀{xs ys:List Vot},Rise xs→Rise ys→(∀v,v ∈ xs↔v ∈ ys)→xs=ys
 | [],[],_,_,_=>rfl
 | [],y::ys,_,_,h=>absurd ((h y).2 (by simp)) (by simp)
 | x::xs,[],_,_,h=>absurd ((h x).1 (by simp)) (by simp)
 | x::xs,y::ys,hx,hy,h=>by
  have hx':=List.pairwise_cons.1 hx;have hy':=List.pairwise_cons.1 hy;have e:x=y:=by
   have h1:=(h x).1 (by simp);have h2:=(h y).2 (by simp);rcases List.mem_cons.1 h1 with h1|h1
   ·exact h1
   rcases List.mem_cons.1 h2 with h2|h2
   ·exact h2.symm
   have:=hx'.1 _ h2;have:=hy'.1 _ h1;omega
  subst e;have:xs=ys:=fDd hx'.2 hy'.2 fun v=>by
   constructor
   ·
    intro hv;rcases List.mem_cons.1 ((h v).1 (by simp[hv])) with e|e
    ·subst e;have:=hx'.1 _ hv;omega
    exact e
   intro hv;rcases List.mem_cons.1 ((h v).2 (by simp[hv])) with e|e
   ·subst e;have:=hy'.1 _ hv;omega
   exact e
  rw[this]
theorem uP {D:List Slt} {xs ys:List Vot} (hx:Chs D xs) (hy:Chs D ys):xs=ys:=
 fDd hx.rise hy.rise fun v=>(hx.mem v).trans (hy.mem v).symm
theorem fV2 (v:Vot):∀ys:List Vot,Rise ys→(∀u ∈ ys,¬u.bal=v.bal)→∃zs,Rise zs∧∀u,u ∈ zs↔u=v∨u ∈ ys
 | [],_,_=>⟨[v],by simp[Rise],fun u=>by simp⟩
 | y::ys,h,hn=>by
  have h':=List.pairwise_cons.1 h;by_cases hlt:v.bal<y.bal
  ·
   refine⟨v::y::ys,List.pairwise_cons.2 ⟨fun u hu=>?_,h⟩,fun u=>by simp⟩;rcases List.mem_cons.1 hu with e|e
   ·subst e;exact hlt
   have:=h'.1 _ e;omega
  obtain⟨zs,hz,hm⟩:=fV2 v ys h'.2 (fun u hu=>hn u (by simp[hu]));refine⟨y::zs,List.pairwise_cons.2 ⟨fun u hu=>?_,hz⟩,fun u=>?_⟩
  ·
   rcases(hm u).1 hu with e|e
   ·subst e;have:=hn y (by simp);omega
   exact h'.1 _ e
  simp only[List.mem_cons,hm];constructor
  ·
   rintro(h|h|h)
   ·exact .inr (.inl h)
   ·exact .inl h
   exact .inr (.inr h)
  rintro(h|h|h)
  ·exact .inr (.inl h)
  ·exact .inl h
  exact .inr (.inr h)
theorem fSi (P:Vot→Prop) (hone:∀u v,P u→P v→u.bal=v.bal→u=v):∀L:List Vot,∃ys,Rise ys∧∀v,v ∈ ys↔v ∈ L∧P v
 | []=>⟨[],by simp[Rise],fun v=>by simp⟩
 | x::L=>by
  obtain⟨ys,hr,hm⟩:=fSi P hone L;by_cases hp:P x∧¬x ∈ ys
  ·
   obtain⟨zs,hz,hmz⟩:=fV2 x ys hr (fun u hu e=>hp.2 ((hone u x ((hm u).1 hu).2 hp.1 e)▸hu));refine⟨zs,hz,fun v=>?_⟩;rw[hmz,hm,List.mem_cons];constructor
   ·
    rintro(h|h)
    ·subst h;exact⟨.inl rfl,hp.1⟩
    exact⟨.inr h.1,h.2⟩
   rintro⟨h|h,h2⟩
   ·exact .inl h
   exact .inr ⟨h,h2⟩
  refine⟨ys,hr,fun v=>?_⟩;rw[List.mem_cons];constructor
  ·intro h;have:=(hm v).1 h;exact⟨.inr this.1,this.2⟩
  rintro⟨h|h,h2⟩
  ·
   subst h;by_cases hy:v ∈ ys
   ·exact hy
   exact absurd ⟨h2,hy⟩ hp
  exact(hm v).2 ⟨h,h2⟩
theorem fXn {D:List Slt} (hok:fCc D):∃ys,Chs D ys:=by
 obtain⟨ys,hr,hm⟩:=fSi (isCh D) (fun u v hu hv e=>fRc hok hu hv e) (D.flatMap (fun s=>s.cast));refine⟨ys,hr,fun v=>?_⟩;rw[hm];constructor
 ·exact fun h=>h.2
 intro h;refine⟨?_,h⟩;obtain⟨k,hk,hv⟩:=fRb h;rw[List.mem_flatMap];exact⟨D.getD k default,by simp[List.getD,hk],hv⟩
/-! what is asked of the slots -/
def vE (D:List Slt) (k:Nat):Int:=fI (D.getD k default)
def sameAt (D:List Slt) (k:Nat):Int:=if (D.getD k default).con=(D.getD 0 default).con∧(D.getD k default).sh=(D.getD 0 default).sh then 0 else 1
def askF (D:List Slt):Int:=if fC (vE D) D.length=0 then (if inB D.length 1 9 then fC (sameAt D) D.length else 2) else fC (vE D) D.length
theorem fMx {D:List Slt} {k:Nat} (hk:k<D.length) (hs:fC (vE D) k=0) (h0:¬fI (D.getD k default)=0):askF D=fI (D.getD k default):=by
 have e:=fK hs (show vE D k≠0 from h0) _ hk;unfold askF;rw[e,if_neg (show ¬vE D k=0 from h0)];rfl
theorem fHn {D:List Slt} (hs:fC (vE D) D.length=0) (h:inB D.length 1 9=false):askF D=2:=by
 unfold askF;rw[if_pos hs,h];rfl
theorem xB {D:List Slt} (hs:fC (vE D) D.length=0) (h:inB D.length 1 9=true) {c:Int} (h1:fC (sameAt D) D.length=c):askF D=c:=by
 unfold askF;rw[if_pos hs,h,if_pos rfl,h1]
theorem fKq {D:List Slt} (h:askF D=0):fCc D∧inB D.length 1 9=true:=by
 unfold askF at h;by_cases hs:fC (vE D) D.length=0
 ·
  rw[if_pos hs] at h;refine⟨fun k hk=>fGw (kI hs k hk),?_⟩;cases e:inB (D.length:Int) 1 9 with
  | true=>rfl
  | false=>rw[e] at h;simp at h
 rw[if_neg hs] at h;exact absurd h hs
def fCk (D:List Slt) (ys:List Vot):Int:=if askF D=0 then (if ys.length=0 then 4 else 0) else askF D
def fKx (D:List Slt) (ys:List Vot):Int:=if askF D=0∧¬ys.length=0 then (ys.getD 0 default).bal else 0
def fFp (D:List Slt) (ys:List Vot):Int:=if askF D=0∧¬ys.length=0 then (ys.getD 0 default).val else 0
def agB (D:List Slt) (ys:List Vot):Bool:=decide (askF D=0)&&ys.all (fun v=>decide (v.val=(ys.getD 0 default).val))
end
end Go.Proofs.YtbfnobcidnmohaaGreat

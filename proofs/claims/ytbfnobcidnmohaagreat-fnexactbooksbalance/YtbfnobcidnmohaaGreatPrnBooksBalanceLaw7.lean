import Derived.Test.YtbfnobcidnmohaaGreatPrnBooksBalanceLaw6
import Derived.BigQuiet
import Derived.Deep.QuietTactic
import Derived.Deep.RegionHeld3
import Derived.Test.YtbfnobcidnmohaaGreatPrnBooksBalanceLaw4
import Derived.Shelf.Abstract
import Derived.Deep.DeepAppendRoom
set_option maxHeartbeats 2000000
set_option maxRecDepth 20000
set_option linter.unusedSimpArgs false
set_option linter.unusedVariables false
set_option linter.unusedSectionVars false
namespace Go.Proofs.YtbfnobcidnmohaaGreat
open Go.RowKit
variable [DecidableEq Vot] [Inhabited Vot] [DecidableEq Slt] [Inhabited Slt] [DecidableEq Bal] [Inhabited Bal] [DecidableEq Ledg] [Inhabited Ledg] [DecidableEq Leg] [Inhabited Leg]
attribute [local go_sem ↓] Go.wp_at_zero Go.wp_at_succ
def oldB (ob ov:Int):Bool:=(decide (ob = -1)&&decide (ov=0))||(inB ob 0 1000&&inB ov 1 2)
theorem fH1 (ob ov:Int) (w:World):Calls Tryz.prog 225 #[.agg #[.int .i64 ob,.int .i64 ov]] w fun e w'=>e = .returned (.bool (oldB ob ov))∧Below w.heap.size w w':=by
 unfold oldB;cases h:(decide (ob = -1)&&decide (ov=0))
 ·
  rw[Bool.false_or];have HV:Hid (∀W,Calls Tryz.prog 229 #[.agg #[.int .i64 ob,.int .i64 ov]] W fun e w'=>e = .returned (.bool (inB ob 0 1000&&inB ov 1 2))∧Below W.heap.size W w'):=fun W=>qX ⟨ob,ov⟩ W
  generalize (inB ob 0 1000&&inB ov 1 2)=bb at *;have hv:=fT5 ob ov (-1) 0;rw[show(decide (ob = -1)&&decide (ov=0))=false from h] at hv;go_enter Tryz.func225,Tryz.ntmps225;go_wp2;refine wp_region_noPanic ?_;refine fA (fun W=>W.cell? ⟨w.heap.size,0,none⟩=some (.int .i64 ob)∧W.cell? ⟨w.heap.size,1,none⟩=some (.int .i64 ov)) 8 (by kernel_rfl) ⟨by simp[go_sem],by simp[go_sem]⟩ (fun hS=>?_);refine tM 0 rfl hS ?_;try simp only[jX]
  refine uS 1 rfl (fun K hK=>?_);go_simp;refine(fAv _).mono ?_;rintro e w1 ⟨rfl,hb1⟩;have hB1:Below w.heap.size w w1:=bS (qBq) hb1;have hS1:(fun W=>W.cell? ⟨w.heap.size,0,none⟩=some (.int .i64 ob)∧W.cell? ⟨w.heap.size,1,none⟩=some (.int .i64 ov)) w1:=⟨cK hb1 (by simp[go_sem]),cK hb1 (by simp[go_sem])⟩;refine hK _ _ (fun _=>hS1) ?_;clear hK K;try simp only[jX]
  refine tM 2 (v:=(.bool false)) rfl hS1 ?_;try simp only[jX]
  refine tM 3 rfl hS1 ?_;try simp only[jX]
  refine tM 4 rfl hS1 ?_;try simp only[jX]
  refine uS 5 rfl (fun K hK=>?_);go_simp;refine(HV.out _).mono ?_;rintro e w2 ⟨rfl,hb2⟩;have hB2:Below w.heap.size w w2:=bS hB1 hb2;have hS2:=And.intro (cK hb2 hS1.1) (cK hb2 hS1.2);refine hK _ _ (fun _=>hS2) ?_;clear hK K;try simp only[jX]
  refine tM 6 rfl hS2 ?_;try simp only[jX]
  refine tM 7 rfl hS2 ?_;try simp only[jX]
  refine dN (NoPanic.normal ?_);go_wp2;go_ret;exact⟨rfl,hB2⟩
 rw[Bool.true_or];have hv:=fT5 ob ov (-1) 0;rw[show(decide (ob = -1)&&decide (ov=0))=true from h] at hv;go_enter Tryz.func225,Tryz.ntmps225;go_wp2;refine wp_region_noPanic ?_;refine fA (fun W=>W.cell? ⟨w.heap.size,0,none⟩=some (.int .i64 ob)∧W.cell? ⟨w.heap.size,1,none⟩=some (.int .i64 ov)) 8 (by kernel_rfl) ⟨by simp[go_sem],by simp[go_sem]⟩ (fun hS=>?_);refine tM 0 rfl hS ?_;try simp only[jX]
 refine uS 1 rfl (fun K hK=>?_);go_simp;refine(fAv _).mono ?_;rintro e w1 ⟨rfl,hb1⟩;have hB1:Below w.heap.size w w1:=bS (qBq) hb1;have hS1:(fun W=>W.cell? ⟨w.heap.size,0,none⟩=some (.int .i64 ob)∧W.cell? ⟨w.heap.size,1,none⟩=some (.int .i64 ov)) w1:=⟨cK hb1 (by simp[go_sem]),cK hb1 (by simp[go_sem])⟩;refine hK _ _ (fun _=>hS1) ?_;clear hK K;try simp only[jX]
 refine tM 2 (v:=(.bool true)) rfl hS1 ?_;try simp only[jX]
 refine tM 3 rfl hS1 ?_;try simp only[jX]
 refine sN 4 rfl hS1 (fun _=>?_);try simp only[jX]
 refine sN 5 rfl hS1 (fun _=>?_);try simp only[jX]
 refine tM 6 rfl hS1 ?_;try simp only[jX]
 refine tM 7 rfl hS1 ?_;try simp only[jX]
 refine dN (NoPanic.normal ?_);go_wp2;go_ret;exact⟨rfl,hB1⟩
variable [DecidableEq Cont] [Inhabited Cont] [DecidableEq Mrk] [Inhabited Mrk] [DecidableEq Shd] [Inhabited Shd] [DecidableEq Acc] [Inhabited Acc] [DecidableEq Trr] [Inhabited Trr] [DecidableEq Hrd] [Inhabited Hrd] [DecidableEq Ldr] [Inhabited Ldr] [DecidableEq Msg] [Inhabited Msg] [DecidableEq Clu] [Inhabited Clu]
def fE (cs:List Cont) (id:Int):Nat:=cs.findIdx (fun x=>x.id==id)
theorem fEn {cs:List Cont} {id:Int} {k:Nat} (hk:k<cs.length) (h:(cs.getD k default).id=id) (hb:∀j,j<k→¬(cs.getD j default).id=id):fE cs id=k:=by
 unfold fE;rw[List.findIdx_eq hk];refine⟨?_,fun j hj=>?_⟩
 ·
  simp only[List.getD,List.getElem?_eq_getElem hk,Option.getD_some] at h;simp[h]
 have:=hb j hj;simp only[List.getD,List.getElem?_eq_getElem (Nat.lt_trans hj hk),Option.getD_some] at this;simp[this]
theorem fCd {cs:List Cont} {id:Int} (hb:∀j,j<cs.length→¬(cs.getD j default).id=id):fE cs id=cs.length:=by
 unfold fE;rw[List.findIdx_eq_length];intro x hx;obtain⟨i,hi,rfl⟩:=List.getElem_of_mem hx;have:=hb i hi;simp only[List.getD,List.getElem?_eq_getElem hi,Option.getD_some] at this;simp[this]
def xOf (c:Clu) (m:Msg):Cont:=c.cons.getD (fE c.cons m.con) default
def fAi (c:Clu) (k:Int):Nat:=if k=1∨k=6 then c.shards.length else if k=3∨k=5 then c.ldrs.length else c.accs.length
def kP (c:Clu) (m:Msg):Bool:=inB m.to 0 ((fAi c m.kind:Int)-1)&&(if m.kind=3∨m.kind=5 then inB m.frm 0 ((c.accs.length:Int)-1) else if m.kind=4 then inB m.frm 0 ((c.ldrs.length:Int)-1) else true)
def kZ (x:Cont) (m:Msg):Bool:=hasS x.legs (if m.kind=1∨m.kind=6 then m.to else m.sh)&&((if m.kind=2∨m.kind=3∨m.kind=4∨m.kind=5 then inB m.bal 0 1000 else true)&&((if m.kind=2∨m.kind=3∨m.kind=6 then inB m.val 1 2 else true)&&(if m.kind=5 then oldB m.ob m.ov else true)))
def mK (m:Msg):Msg:=⟨m.kind,m.to,if m.kind=3∨m.kind=4∨m.kind=5 then m.frm else 0,m.con,if m.kind=2∨m.kind=3∨m.kind=4∨m.kind=5 then m.sh else 0,if m.kind=2∨m.kind=3∨m.kind=4∨m.kind=5 then m.bal else 0,if m.kind=2∨m.kind=3∨m.kind=6 then m.val else 0,if m.kind=5 then m.ob else 0,if m.kind=5 then m.ov else 0⟩
def msgF (c:Clu) (m:Msg):Int:=if inB m.kind 1 6=true then (if kP c m=true then (if fE c.cons m.con<c.cons.length then (if kZ (xOf c m) m=true then (if m=mK m then 0 else 1) else 3) else 4) else 3) else 5
theorem kinds {k:Int} (h:inB k 1 6=true):k=1∨k=2∨k=3∨k=4∨k=5∨k=6:=by have:=inBi.1 h;omega
theorem fIi {c:Clu} {m:Msg} (h:inB m.kind 1 6=false):msgF c m=5:=by unfold msgF;rw[h];rfl
theorem fIg {c:Clu} {m:Msg} (h:inB m.kind 1 6=true) (h1:kP c m=false):msgF c m=3:=by unfold msgF;rw[h,h1];rfl
theorem fIj {c:Clu} {m:Msg} (h:inB m.kind 1 6=true) (h1:kP c m=true) (h2:¬fE c.cons m.con<c.cons.length):msgF c m=4:=by unfold msgF;rw[if_pos h,if_pos h1,if_neg h2]
theorem fIk {c:Clu} {m:Msg} (h:inB m.kind 1 6=true) (h1:kP c m=true) (h2:fE c.cons m.con<c.cons.length) (h3:kZ (xOf c m) m=false):msgF c m=3:=by unfold msgF;rw[if_pos h,if_pos h1,if_pos h2,h3];rfl
theorem fIh {c:Clu} {m:Msg} (h:inB m.kind 1 6=true) (h1:kP c m=true) (h2:fE c.cons m.con<c.cons.length) (h3:kZ (xOf c m) m=true):msgF c m=if m=mK m then 0 else 1:=by unfold msgF;rw[if_pos h,if_pos h1,if_pos h2,if_pos h3]
def CluP (w:World) (B:Nat) (c:Clu):Prop:=∃a0 c0 a1 c1 a2 c2 a3 c3 v4,w.cell? ⟨B,0,none⟩=some (.slice a0 c.cons.length c0)∧w.cell? ⟨B,1,none⟩=some (.slice a1 c.shards.length c1)∧w.cell? ⟨B,2,none⟩=some (.slice a2 c.accs.length c2)∧w.cell? ⟨B,3,none⟩=some (.slice a3 c.ldrs.length c3)∧w.cell? ⟨B,4,none⟩=some v4∧contsR.V w (.slice a0 c.cons.length c0) c.cons∧c.shards.length≤9223372036854775807∧c.accs.length≤9223372036854775807∧c.ldrs.length≤9223372036854775807
theorem CluP.below {w w':World} {B:Nat} {c:Clu} (h:CluP w B c) (hb:Below w.heap.size w w'):CluP w' B c:=by
 obtain⟨a0,c0,a1,c1,a2,c2,a3,c3,v4,h0,h1,h2,h3,h4,hv,hs⟩:=h;exact⟨a0,c0,a1,c1,a2,c2,a3,c3,v4,cK hb h0,cK hb h1,cK hb h2,cK hb h3,cK hb h4,contsR.below hv hb,hs⟩
theorem mY {w:World} {a:Option Addr} {c:Nat} {xs:List Cont} (hx:contsR.V w (.slice a xs.length c) xs):xs.length≤c∧c≤maxLen∧∀k,k<xs.length→∃b o p q,a=some ⟨b,o,none⟩∧w.cell? ⟨b,o+k*2,none⟩=some (.int .i64 (xs.getD k default).id)∧w.cell? ⟨b,o+k*2+1,none⟩=some (.slice p (xs.getD k default).legs.length q)∧legsR.V w (.slice p (xs.getD k default).legs.length q) (xs.getD k default).legs:=by
 obtain⟨a',c',e,h1,h2,h3⟩:=hx;simp only[Value.slice.injEq,true_and] at e;obtain⟨rfl,rfl⟩:=e;refine⟨h1,h2,fun k hk=>?_⟩;obtain⟨b,o,u,e,_,p,hv⟩:=h3 k hk;obtain⟨s,rfl,hc⟩:=hv;obtain⟨au,cu,rfl⟩:=rH hc;exact⟨b,o,au,cu,e,p 0 (by omega),p 1 (by omega),hc⟩
theorem fSe (a b c d:Int) (w:World):(Op.equalIn 9999 126 (.agg #[.int .i64 a,.int .i64 b]) (.agg #[.int .i64 c,.int .i64 d])).run Tryz.prog w = .ok (decide (a=c)&&decide (b=d)) w:=by
 rw[run_equalIn_struct w 9998 126 _ _ (by kernel_rfl) (by kernel_rfl)];have hf : (Tryz.prog.fieldsOf 126).toList = [{ name := "Ballot", type := 2, offset := 0, embedded := false, tag := "", pkgPath := "", byteOffset := 0 }, { name := "Value", type := 2, offset := 1, embedded := false, tag := "", pkgPath := "", byteOffset := 8 }] := by kernel_rfl
 rw[hf];simp[Op.eqFields,go_sem];by_cases e1:a=c <;> by_cases e2:b=d <;> simp[e1,e2]
theorem fUm (x0 x1 x2 x3 x4 x5 x6 x7 x8 y0 y1 y2 y3 y4 y5 y6 y7 y8:Int) (w:World):(Op.equalIn 10000 128 (.agg #[.int .i64 x0,.int .i64 x1,.int .i64 x2,.int .i64 x3,.int .i64 x4,.int .i64 x5,.int .i64 x6,.int .i64 x7,.int .i64 x8]) (.agg #[.int .i64 y0,.int .i64 y1,.int .i64 y2,.int .i64 y3,.int .i64 y4,.int .i64 y5,.int .i64 y6,.int .i64 y7,.int .i64 y8])).run Tryz.prog w = .ok (decide ((⟨x0,x1,x2,x3,x4,x5,x6,x7,x8⟩:Msg)=⟨y0,y1,y2,y3,y4,y5,y6,y7,y8⟩)) w:=by
 rw[run_equalIn_struct w 9999 128 _ _ (by kernel_rfl) (by kernel_rfl)];have hf : (Tryz.prog.fieldsOf 128).toList = [{ name := "Kind", type := 2, offset := 0, embedded := false, tag := "", pkgPath := "", byteOffset := 0 }, { name := "To", type := 2, offset := 1, embedded := false, tag := "", pkgPath := "", byteOffset := 8 }, { name := "From", type := 2, offset := 2, embedded := false, tag := "", pkgPath := "", byteOffset := 16 }, { name := "Contract", type := 2, offset := 3, embedded := false, tag := "", pkgPath := "", byteOffset := 24 }, { name := "Shard", type := 2, offset := 4, embedded := false, tag := "", pkgPath := "", byteOffset := 32 }, { name := "Ballot", type := 2, offset := 5, embedded := false, tag := "", pkgPath := "", byteOffset := 40 }, { name := "Value", type := 2, offset := 6, embedded := false, tag := "", pkgPath := "", byteOffset := 48 }, { name := "Old", type := 126, offset := 7, embedded := false, tag := "", pkgPath := "", byteOffset := 56 }] := by kernel_rfl
 rw[hf];have hv:=fSe x7 x8 y7 y8 w;simp only[Msg.mk.injEq];by_cases e0:x0=y0;rotate_left
 ·
  simp[Op.eqFields,go_sem,e0]
 by_cases e1:x1=y1
 rotate_left
 ·
  simp[Op.eqFields,go_sem,e0,e1]
 by_cases e2:x2=y2
 rotate_left
 ·
  simp[Op.eqFields,go_sem,e0,e1,e2]
 by_cases e3:x3=y3
 rotate_left
 ·
  simp[Op.eqFields,go_sem,e0,e1,e2,e3]
 by_cases e4:x4=y4
 rotate_left
 ·
  simp[Op.eqFields,go_sem,e0,e1,e2,e3,e4]
 by_cases e5:x5=y5
 rotate_left
 ·
  simp[Op.eqFields,go_sem,e0,e1,e2,e3,e4,e5]
 by_cases e6:x6=y6
 rotate_left
 ·
  simp[Op.eqFields,go_sem,e0,e1,e2,e3,e4,e5,e6]
 simp[Op.eqFields,go_sem,e0,e1,e2,e3,e4,e5,e6,hv];by_cases e7:x7=y7 <;> by_cases e8:x8=y8 <;> simp[e7,e8]
theorem fCy (x0 x1 x2 x3 x4 x5 x6 x7 x8 y0 y1 y2 y3 y4 y5 y6 y7 y8:Int) (w:World):(binOp .neq 128 (.agg #[.int .i64 x0,.int .i64 x1,.int .i64 x2,.int .i64 x3,.int .i64 x4,.int .i64 x5,.int .i64 x6,.int .i64 x7,.int .i64 x8]) (.agg #[.int .i64 y0,.int .i64 y1,.int .i64 y2,.int .i64 y3,.int .i64 y4,.int .i64 y5,.int .i64 y6,.int .i64 y7,.int .i64 y8])).run Tryz.prog w = .ok (.bool (!decide ((⟨x0,x1,x2,x3,x4,x5,x6,x7,x8⟩:Msg)=⟨y0,y1,y2,y3,y4,y5,y6,y7,y8⟩))) w:=by
 rw[run_neq_struct,fUm];rfl
theorem fS1 (s v:Int) (L:List Int):s ∈ putI L v↔s=v∨s ∈ L:=by
 unfold putI;split
 ·
  rename_i h;have hv:v ∈ L:=by
   by_cases hl:qV L v<L.length
   ·
    rw[List.getD,List.getElem?_eq_getElem hl,Option.getD_some] at h;rw[←h];exact List.getElem_mem hl
   rw[List.getD,List.getElem?_eq_none (by omega),Option.getD_none] at h;omega
  exact⟨fun h=>.inr h,fun h=>h.elim (fun e=>by rw[e];exact hv) id⟩
 have e:L=L.take (qV L v)++L.drop (qV L v):=(List.take_append_drop _ _).symm;constructor
 ·
  intro h;rw[List.mem_append,List.mem_append,List.mem_singleton] at h;rcases h with (h|h)|h
  ·
   exact .inr (List.mem_of_mem_take h)
  ·
   exact .inl h
  exact .inr (List.mem_of_mem_drop h)
 intro h;rw[List.mem_append,List.mem_append,List.mem_singleton];rcases h with h|h
 ·
  exact .inl (.inr h)
 rw[e,List.mem_append] at h;exact h.elim (fun h=>.inl (.inl h)) .inr
theorem fTj (L:List Int) (v:Int):(putI L v).length≤L.length+1:=by
 unfold putI;split
 ·
  omega
 simp only[List.length_append,List.length_take,List.length_drop,List.length_singleton];have:=fGx L v;omega
def rM (xs:List Leg):List Int:=xs.foldl (fun L l=>putI L l.sh) []
theorem fOy (xs:List Leg) (l:Leg):rM (xs++[l])=putI (rM xs) l.sh:=by unfold rM;rw[List.foldl_append];rfl
theorem fAx (xs:List Leg) (k:Nat) (h:k<xs.length):putI (rM (xs.take k)) (xs.getD k default).sh=rM (xs.take (k+1)):=by
 have e:xs.take (k+1)=xs.take k++[xs.getD k default]:=by rw[List.take_add_one];simp[List.getD,h]
 rw[e,fOy]
theorem fQ3:∀xs:List Leg,(rM xs).length≤xs.length:=fun xs=>by
 have h:∀k,k≤xs.length→(rM (xs.take k)).length≤k:=fun k=>by
  induction k with
  | zero=>intro _;simp[rM]
  | succ k ih=>
   intro hk;rw[←fAx xs k (by omega)];have:=fTj (rM (xs.take k)) (xs.getD k default).sh;have:=ih (by omega);omega
 have:=h xs.length (Nat.le_refl _);rwa [List.take_length] at this
theorem fQu (xs:List Leg) (s:Int):decide (s ∈ rM xs)=hasS xs s:=by
 have h:∀k,k≤xs.length→(s ∈ rM (xs.take k)↔hasS (xs.take k) s=true):=fun k=>by
  induction k with
  | zero=>intro _;simp[rM,hasS]
  | succ k ih=>
   intro hk;rw[←fAx xs k (by omega),fS1,ih (by omega),zM xs k (by omega),Bool.or_eq_true,beq_iff_eq];exact⟨fun h=>h.elim (fun h=>.inr h.symm) .inl,fun h=>h.elim .inr (fun h=>.inl h.symm)⟩
 have:=h xs.length (Nat.le_refl _);rw[List.take_length] at this;rw[Bool.eq_iff_iff,decide_eq_true_eq];exact this
theorem fFt (id:Int) (x:Value) (xs:List Leg) (w:World) (hx:mJ w x xs) (hn:xs.length≤1048576) :
  Calls Tryz.prog 21 #[.agg #[.int .i64 id,x]] w fun e w'=>∃v,e = .returned v∧w'.ownsRow w.heap.size 2 1 v (rM xs).length (gY (rM xs))∧Below w.heap.size w w':=by
 obtain⟨ax,cx,rfl,hcx,hmx,hx⟩:=hx;unfold maxLen at hmx;generalize hn':xs.length=n at *;have HN:Hid (xs.length=n):=hn';clear hn';go_enter Tryz.func21,Tryz.ntmps21;go_wp2;go_loopw [3,4] (fun v i w'=>∃k:Nat,k≤n∧i = .int .i64 k∧w'.ownsRow (w.heap.size+1) 2 1 v (rM (xs.take k)).length (gY (rM (xs.take k)))∧¬v = .slice none 0 0∧w'.cell? ⟨w.heap.size,1,none⟩=some (.slice ax n cx)∧Below w.heap.size w w') (fun _ i _=>n-(intOf i).toNat)
 case atStart=>
  refine⟨0,Nat.zero_le _,rfl,?_,by simp,by simp[go_sem],bA (bA (Below.refl _ _) _) _⟩;have:=World.ownsRow_lit (base:=w.heap.size+1) (e:=2) (size:=1) (w.alloc (.cells #[.int .i64 id,.slice ax n cx] 60)) #[] 0 (by simp) (by unfold maxLen;omega) rfl;simpa [rM,gY] using this
 obtain⟨k,hk,rfl,ho,hnn,hbx,hbl⟩:=hrel;by_cases hlt:k<n
 ·
  obtain⟨bx,ox,rfl,g1⟩:=hx k hlt;obtain⟨l,hl⟩:∃l,l=xs.getD k default:=⟨_,rfl⟩
  rw[←hl] at g1;have HL:Hid (l=xs.getD k default):=hl;clear hl hx;obtain⟨a1,a2,a3,a4⟩:=fF hbl g1;have hkx:k<xs.length:=by have:=HN.out;omega
  have HE:=fAx xs k hkx;rw[←HL.out] at HE;have HE':Hid (putI (rM (xs.take k)) l.sh=rM (xs.take (k+1))):=HE;have hle:(rM (xs.take k)).length≤1048576:=by have:=fQ3 (xs.take k);rw[List.length_take] at this;omega
  have hz:w.heap.size<wr.heap.size:=wL _ _ hbx;obtain⟨g,cap,hv⟩:∃g cap,u3 = .slice (some ⟨g,0,none⟩) (rM (xs.take k)).length cap:=by
   rcases ho.2 with ⟨h,_⟩|⟨g,cap,cur,h,_⟩
   ·
    exact absurd h hnn
   exact⟨g,cap,h⟩
  subst hv;clear HE hnn;go_wp2_with fail;refine(fH6 g 0 cap (w.heap.size+1) (rM (xs.take k)) l.sh _ (by omega) (by omega) ho).mono ?_;rintro r w1 ⟨u,rfl,ho1,hnn1,hb1⟩;rw[HE'.out] at ho1;have hbx1:=cK hb1 hbx;have hbl1:=bS hbl hb1;clear ho hb1 a1 a2 a3 a4 hbl hbx;go_wp2;exact⟨⟨k+1,by omega,by go_num,ho1,hnn1,hbx1,hbl1⟩,by simp[intOf];omega⟩
 go_wp2;go_ret;have hkn:k=n:=by omega
 subst hkn;have t0:xs.take k=xs:=by rw[←HN.out];exact List.take_length
 rw[t0] at ho;exact⟨_,rfl,pY ho (by omega),hbl⟩
theorem fAp (x:Value) (xs:List Int) (c:Int) (w:World) (hx:qJ w x xs) :
  Calls Tryz.prog 197 #[x,.int .i64 c] w fun e w'=>e = .returned (.bool (decide (c ∈ xs)))∧w'=w:=by
 obtain⟨ax,cx,rfl,hcx,hmx,hx⟩:=hx;unfold maxLen at hmx;have HT:Hid (∀k,k<xs.length→xs.getD k 0=c→decide (c ∈ xs)=true):=fun k hk h=>decide_eq_true (by rw[←h];simp[List.getD,hk])
 have HS0:Hid (∀k,k<xs.length→¬c ∈ xs.take k→¬xs.getD k 0=c→¬c ∈ xs.take (k+1)):=fun k hk h1 h2=>by
  rw[List.take_add_one];intro h;rw[List.mem_append] at h;rcases h with h|h
  ·
   exact h1 h
  simp[hk] at h;exact h2 (by simp[List.getD,hk,h])
 have HE:Hid (¬c ∈ xs.take xs.length→decide (c ∈ xs)=false):=fun h=>decide_eq_false (by rw[List.take_length] at h;exact h)
 generalize hn':xs.length=n at *;clear hn';go_enter Tryz.func197,Tryz.ntmps197;go_wp2;go_loopw [5] (fun i w'=>∃k:Nat,k≤n∧i = .int .i64 k∧Hid (¬c ∈ xs.take k)∧Hid (w'=w)) (fun i _=>n-(intOf i).toNat)
 case atStart=>exact⟨0,Nat.zero_le _,rfl,by show ¬c ∈ xs.take 0;simp,rfl⟩
 obtain⟨k,hk,rfl,HS,HW⟩:=hrel;by_cases hlt:k<n
 ·
  obtain⟨bx,ox,rfl,g1⟩:=hx k hlt;have h1:=HT.out k hlt;have h2:=HS0.out k hlt HS.out;generalize xs.getD k 0=q at *;have H1:Hid (q=c→decide (c ∈ xs)=true):=h1;have H2:Hid (¬q=c→¬c ∈ xs.take (k+1)):=h2;clear hx h1 h2;rw[←HW.out] at g1;by_cases he:q=c
  ·
   have HC:=H1.out he;have he':(q==c)=true:=by simp[he]
   clear H1 HS H2;go_wp2;go_ret;exact⟨by rw[HC];rfl,HW.out⟩
  have HC:Hid _:=H2.out he;have he':(q==c)=false:=by simp[he]
  clear H1 HS H2;go_wp2;exact⟨⟨k+1,by omega,by go_num,HC,HW⟩,by simp[intOf];omega⟩
 have hkn:k=n:=by omega
 subst hkn;have HC:=HE.out HS.out;go_wp2;go_ret;exact⟨by rw[HC];rfl,HW.out⟩
def rT (cs:List Cont) (id:Int):Int:=if fE cs id<cs.length then (fE cs id:Int) else -1
theorem vH (B:Nat) (c:Clu) (id:Int) (w:World) (h:CluP w B c) :
  Calls Tryz.prog 45 #[.pointer (some ⟨B,0,none⟩),.int .i64 id] w fun e w'=>e = .returned (.int .i64 (rT c.cons id))∧Below w.heap.size w w':=by
 obtain⟨a0,c0,a1,c1,a2,c2,a3,c3,v4,y0,y1,y2,y3,y4,hv,_⟩:=h;obtain⟨hcx,hmx,hx⟩:=mY hv;unfold maxLen at hmx;have HHit:Hid (∀j,j<c.cons.length→(c.cons.getD j default).id=id→(∀i,i<j→¬(c.cons.getD i default).id=id)→rT c.cons id=j):=fun j hj h hb=>by unfold rT;rw[fEn hj h hb,if_pos hj]
 have HNo:Hid ((∀j,j<c.cons.length→¬(c.cons.getD j default).id=id)→rT c.cons id = -1):=fun h=>by unfold rT;rw[fCd h,if_neg (by omega)]
 clear hv y1 y2 y3 y4;generalize rT c.cons id=Z at *;generalize c.cons=xs at *;generalize hn':xs.length=n at *;clear hn';have zB:B<w.heap.size:=wL w _ y0;go_enter Tryz.func45,Tryz.ntmps45;go_wp2;go_loopw [5] (fun i w'=>∃k:Nat,k≤n∧i = .int .i64 k∧Hid (∀j,j<k→¬(xs.getD j default).id=id)∧Below w.heap.size w w') (fun i _=>n-(intOf i).toNat)
 case atStart=>exact⟨0,Nat.zero_le _,rfl,fun j hj=>absurd hj (Nat.not_lt_zero _),Below.refl _ _⟩
 obtain⟨j,hk,rfl,HP,hbl⟩:=hrel;replace y0:=cK hbl y0;by_cases hlt:j<n
 ·
  obtain⟨bx,ox,p,q,rfl,g0,g1,_⟩:=hx j hlt;obtain⟨l,hl⟩:∃l,l=xs.getD j default:=⟨_,rfl⟩
  rw[←hl] at g0;have HLE:Hid (l=xs.getD j default):=hl;clear hl hx g1;replace g0:=cK hbl g0;have hti:(j:Int)<(n:Int):=by omega
  have hti0:(0:Int)≤(j:Int):=by omega
  by_cases hq:l.id=id
  ·
   have HQ:Hid (Z=j):=HHit.out j hlt (by rw[←HLE.out];exact hq) HP.out;have hq':(l.id==id)=true:=by simp[hq]
   go_wp2;go_ret;exact⟨by rw[HQ.out];rfl,qBq⟩
  have HQ:Hid (∀i,i<j+1→¬(xs.getD i default).id=id):=fun i hi=>by
   by_cases e:i=j
   ·
    rw[e,←HLE.out];exact hq
   exact HP.out i (by omega)
  have hq':(l.id==id)=false:=by simp[hq]
  go_wp2;exact⟨⟨j+1,by omega,by go_num,HQ,qBq⟩,by simp[intOf];omega⟩
 obtain rfl:j=n:=by omega
 have hti:¬(j:Int)<(j:Int):=by omega
 go_wp2;go_ret;exact⟨by rw[HNo.out HP.out];rfl,qBq⟩
def hasL (c:Clu) (id s:Int):Bool:=decide (fE c.cons id<c.cons.length)&&hasS (c.cons.getD (fE c.cons id) default).legs s
theorem uQ (B:Nat) (c:Clu) (id s:Int) (w:World) (h:CluP w B c) (hlen:∀k,k<c.cons.length→(c.cons.getD k default).legs.length≤1048576) :
  Calls Tryz.prog 120 #[.pointer (some ⟨B,0,none⟩),.int .i64 id,.int .i64 s] w fun e w'=>e = .returned (.bool (hasL c id s))∧Below w.heap.size w w':=by
 have HFi:Hid (Calls Tryz.prog 45 #[.pointer (some ⟨B,0,none⟩),.int .i64 id] w fun e w'=>e = .returned (.int .i64 (rT c.cons id))∧Below w.heap.size w w'):=vH B c id w h;obtain⟨a0,c0,a1,c1,a2,c2,a3,c3,v4,y0,y1,y2,y3,y4,hv,_⟩:=h;obtain⟨hcx,hmx,hx⟩:=mY hv;unfold maxLen at hmx;have zB:B<w.heap.size:=wL w _ y0;clear y1 y2 y3 y4 hv;by_cases hlt:fE c.cons id<c.cons.length
 ·
  obtain⟨bx,ox,p,q,rfl,g0,g1,hl⟩:=hx _ hlt;have hll:=hlen _ hlt;have HE:Hid (hasL c id s=decide (s ∈ rM (c.cons.getD (fE c.cons id) default).legs)):=by show _=_;unfold hasL;rw[decide_eq_true hlt,Bool.true_and,fQu]
  have HF:Hid (rT c.cons id=(fE c.cons id:Int)):=by show _=_;unfold rT;rw[if_pos hlt]
  rw[HE.out];rw[HF.out] at HFi;clear HE HF hx hlen;have HS:Hid (∀W,Below w.heap.size w W→Calls Tryz.prog 21 #[.agg #[.int .i64 (c.cons.getD (fE c.cons id) default).id,.slice p (c.cons.getD (fE c.cons id) default).legs.length q]] W fun e w'=>∃v,e = .returned v∧w'.ownsRow W.heap.size 2 1 v (rM (c.cons.getD (fE c.cons id) default).legs).length (gY (rM (c.cons.getD (fE c.cons id) default).legs))∧Below W.heap.size W w'):=fun W hW=>fFt _ _ _ W (legsR.below hl hW) hll
  clear hl hll;generalize rM (c.cons.getD (fE c.cons id) default).legs=PL at *;generalize c.cons.getD (fE c.cons id) default=x at *;have hi1:((fE c.cons id:Nat):Int)<(c.cons.length:Int):=by omega
  have hi0:(0:Int)≤((fE c.cons id:Nat):Int):=by omega
  generalize fE c.cons id=i at *;generalize c.cons.length=n at *;go_enter Tryz.func120,Tryz.ntmps120;go_wp2_with fail;refine HFi.out.mono ?_;rintro e w1 ⟨rfl,hb1⟩;replace y0:=cK hb1 y0;replace g0:=cK hb1 g0;replace g1:=cK hb1 g1;go_wp2_with fail;refine(HS.out _ hb1).mono ?_;rintro e w2 ⟨v2,rfl,o2,hb2⟩;have hB2:Below w.heap.size w w2:=bS hb1 hb2;have HI:Hid (qJ w2 v2 PL):=pM o2;obtain⟨a5,c5,rfl⟩:=gD o2;clear o2 hb2;go_wp2_with (first|(go_at_call 197;refine(fAp _ PL s _ HI.out).mono ?_;rintro e w' ⟨rfl,hw⟩;obtain rfl:=hw.symm));go_ret;exact⟨rfl,hB2⟩
 have HE:Hid (hasL c id s=false):=by show _=_;unfold hasL;rw[decide_eq_false hlt];rfl
 have HF:Hid (rT c.cons id = -1):=by show _=_;unfold rT;rw[if_neg hlt]
 rw[HE.out];rw[HF.out] at HFi;clear HE HF hx hlen;go_enter Tryz.func120,Tryz.ntmps120;go_wp2_with fail;refine HFi.out.mono ?_;rintro e w1 ⟨rfl,hb1⟩;go_wp2;go_ret;exact⟨rfl,hb1⟩
theorem uH (ob ov:Int) (w:World):Calls Tryz.prog 130 #[.agg #[.int .i64 ob,.int .i64 ov]] w fun e w'=>e = .returned (.bool (inB ob 0 1000&&inB ov 1 2))∧Below w.heap.size w w':=by
 cases h1:inB ob 0 1000;all_goals
  go_enter Tryz.func130,Tryz.ntmps130;go_wp2_with (first|(go_at_call 125;refine(fU _ _).mono ?_;rintro e w' ⟨rfl,hw⟩;obtain rfl:=hw.symm;rw[h1])|(go_at_call 126;refine(gZ _ _).mono ?_;rintro e w' ⟨rfl,hw⟩;obtain rfl:=hw.symm));go_ret;exact⟨by simp,qBq⟩
end Go.Proofs.YtbfnobcidnmohaaGreat
namespace Go.Proofs.YtbfnobcidnmohaaGreat
open Go.RowKit
variable [DecidableEq Vot] [Inhabited Vot] [DecidableEq Slt] [Inhabited Slt]
attribute [local go_sem ↓] Go.wp_at_zero Go.wp_at_succ
structure SltR where
 code:Int
 ob:Int
 ov:Int
 slot:Slt
variable [DecidableEq SltR] [Inhabited SltR]
end Go.Proofs.YtbfnobcidnmohaaGreat
namespace Go.Proofs.YtbfnobcidnmohaaGreat
open Go.RowKit
def vK (w:World) (u:Value) (m:Nat) (news:List Value):Prop:=
 (∃c,u = .slice none 0 c∧m=0∧news=[])∨∃ad c,u = .slice (some ad) m c∧∀j x,news[j]? = some x→w.cell? (ad.add j)=some x
section
variable {P : Program} (w : World)
theorem yV (base:Nat) (t ty e:TypeId) (i:TypeInfo) (size c:Nat) (ht:P.underlying t=some (.slice e)) (hi:P.info? e=some i)
  (v:Value) (n:Nat) (xs:List Value) (hown:w.ownsRow base e size v n xs) :
  (Builtin.append_ #[t,t] ty #[v,.slice none 0 c]).run P w = .ok v w:=by
 rcases hown.2 with ⟨rfl,rfl⟩|⟨g,cap,cur,rfl,_,_,hnc,_⟩
 ·
  simp[Builtin.append_,run_underlying ht,sizeOf,typeInfo,hi,Builtin.lenOf,Builtin.firstCells]
 simp[Builtin.append_,run_underlying ht,sizeOf,typeInfo,hi,Builtin.lenOf,Builtin.firstCells,hnc,storeCells]
theorem fJp {o:Oper} {a:Act} {K:Act→World→Prop} {Q:Exit→Act→World→Prop} (s x:Operand) (t:TypeId)
  (ho:o.op = .call {callee:=.builtin .append,args:=#[s,x],argTypes:=#[t,t]})
  (base:Nat) (e:TypeId) (i:TypeInfo) (z:Value) (size bytes:Nat) (ht:P.underlying t=some (.slice e)) (hi:P.info? e=some i) (hz:i.zero=some z)
  (hsize:i.size=size) (hby:i.bytes=bytes) (hzs:z.cells.size=size) (hsz:0<size)
  (v:Value) (n:Nat) (xs:List Value) (hs:a.eval s=v) (u:Value) (m:Nat) (news:List Value) (hx:a.eval x=u)
  (hown:w.ownsRow base e size v n xs) (hsrc:vK w u m news) (hl:news.length=m*size) (h1:∀u ∈ news,u.oneCell'=true)
  (h63:n+m≤maxLen) (hbytes:(n+m)*bytes≤140737488355328) (hbase:base≤w.heap.size)
  (h:∀v' w',w'.ownsRow base e size v' (n+m) (xs++news)→w.grownBy w' v.ownBlock→(∀W:World,Below base W w→Below base W w')→K (a.put o.dst v') w'):o.wp P a w K Q:=by
 rcases hsrc with ⟨c,rfl,rfl,rfl⟩|⟨ad,c,rfl,hnews⟩
 ·
  have hr:=yV (P:=P) w base t o.type e i size c ht hi v n xs hown;unfold Oper.wp execOp;simp only[ho,resolve,invoke,builtin,Sem.run_bind,Sem.run_pure,Result.andThen_ok,List.map_toArray,List.map_cons,List.map_nil,hs,hx,hr];exact h v w (by simpa using hown) ⟨rfl,rfl,rfl,Nat.le_refl _,fun _ _ _=>rfl⟩ (fun _ hW=>hW)
 exact wp_append_own w s x t ho base e i z size bytes ht hi hz hsize hby hzs hsz v n xs hs hown ad m c news hx hl hnews h1 h63 hbytes hbase (fun v' w' q1 q2 _=>h v' w' q1 q2 (fun W hW=>hW.grown q2 hbase (fun k hk=>(hown.lt k hk).1)))
theorem fDa {ops:Array Oper} {o:Oper} {a:Act} {K:Act→World→Prop} {Q:Exit→Act→World→Prop} {E:Prop} (hgd:o.guard=none) (s x:Operand) (t:TypeId)
  (ho:o.op = .call {callee:=.builtin .append,args:=#[s,x],argTypes:=#[t,t]})
  (base:Nat) (e:TypeId) (i:TypeInfo) (z:Value) (size bytes:Nat) (ht:P.underlying t=some (.slice e)) (hi:P.info? e=some i) (hz:i.zero=some z)
  (hsize:i.size=size) (hby:i.bytes=bytes) (hzs:z.cells.size=size) (hsz:0<size)
  (v:Value) (n:Nat) (xs:List Value) (hs:a.eval s=v) (u:Value) (m:Nat) (news:List Value) (hx:a.eval x=u)
  (hown:w.ownsRow base e size v n xs) (hsrc:vK w u m news) (hl:news.length=m*size) (h1:∀u ∈ news,u.oneCell'=true)
  (h63:n+m≤maxLen) (hbytes:(n+m)*bytes≤140737488355328) (hbase:base≤w.heap.size)
  (h:∀v' w',w'.ownsRow base e size v' (n+m) (xs++news)→w.grownBy w' v.ownBlock→(∀W:World,Below base W w→Below base W w')→K (a.put o.dst v') w') :
  if Region.wanted o (yielded ops a.tmps)=true then Oper.wp P o a w K Q else E:=by
 have hw:Region.wanted o (yielded ops a.tmps)=true:=by simp[Region.wanted,hgd]
 rw[if_pos hw];exact fJp w s x t ho base e i z size bytes ht hi hz hsize hby hzs hsz v n xs hs u m news hx hown hsrc hl h1 h63 hbytes hbase h
theorem fAe {ops:Array Oper} {rest:List Oper} {o:Oper} {a:Act} {Q:Exit→Act→World→Prop} (hgd:o.guard=none) (s x:Operand) (t:TypeId)
  (ho:o.op = .call {callee:=.builtin .append,args:=#[s,x],argTypes:=#[t,t]})
  (base:Nat) (e:TypeId) (i:TypeInfo) (z:Value) (size bytes:Nat) (ht:P.underlying t=some (.slice e)) (hi:P.info? e=some i) (hz:i.zero=some z)
  (hsize:i.size=size) (hby:i.bytes=bytes) (hzs:z.cells.size=size) (hsz:0<size)
  (v:Value) (n:Nat) (xs:List Value) (hs:a.eval s=v) (u:Value) (m:Nat) (news:List Value) (hx:a.eval x=u)
  (hown:w.ownsRow base e size v n xs) (hsrc:vK w u m news) (hl:news.length=m*size) (h1:∀u ∈ news,u.oneCell'=true)
  (h63:n+m≤maxLen) (hbytes:(n+m)*bytes≤140737488355328) (hbase:base≤w.heap.size)
  (h:∀v' w',w'.ownsRow base e size v' (n+m) (xs++news)→w.grownBy w' v.ownBlock→(∀W:World,Below base W w→Below base W w')→wpList P ops Q rest (a.put o.dst v') w') :
  wpList P ops Q (o::rest) a w:=by
 refine wpList_plain hgd fun K' hK'=>?_
 exact fJp w s x t ho base e i z size bytes ht hi hz hsize hby hzs hsz v n xs hs u m news hx hown hsrc hl h1 h63 hbytes hbase (fun v' w' q1 q2 q3=>hK' _ _ (h v' w' q1 q2 q3))
end
end Go.Proofs.YtbfnobcidnmohaaGreat
namespace Go.Proofs.YtbfnobcidnmohaaGreat
open Go.RowKit
variable [DecidableEq Vot] [Inhabited Vot] [DecidableEq Slt] [Inhabited Slt] [DecidableEq Acc] [Inhabited Acc]
attribute [local go_sem ↓] Go.wp_at_zero Go.wp_at_succ
structure AccR where
 code:Int
 ob:Int
 ov:Int
 acc:Acc
variable [DecidableEq AccR] [Inhabited AccR]
end Go.Proofs.YtbfnobcidnmohaaGreat

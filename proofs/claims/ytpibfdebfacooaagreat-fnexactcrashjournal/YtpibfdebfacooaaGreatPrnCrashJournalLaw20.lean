import Derived.Test.YtpibfdebfacooaaGreatPrnCrashJournalLaw19
import Derived.Deep.DeepCutAuto
import Derived.Deep.CutRange
set_option maxHeartbeats 8000000
set_option maxRecDepth 100000
set_option linter.unusedSectionVars false
set_option linter.unusedVariables false
set_option linter.unusedSimpArgs false
namespace Go.Proofs.YtpibfdebfacooaaGreat
open Go.RowKit
attribute [local go_sem ↓] Go.wp_at_zero Go.wp_at_succ
section
open Go.Shelf
variable [dQ Leg] [iH Leg] [dQ Cont] [iH Cont] [dQ Bal] [iH Bal] [dQ Ledg] [iH Ledg]
theorem fKl (g n c i vb:Nat) (cs vs:List Value) (w:World) (hi:i<n) (hnc:n≤c) (hroom:c<n+1) (hbig:n≤1048576)
  (hcl:cs.length=n*2) (hcs:∀j v,cs[j]? = some v→w.cell? ⟨g,j,none⟩=some v) (hvl:vs.length=2) (hv:w.heap[vb]? = some (.cells vs.toArray 57 (0,0))) (h1c:∀v ∈ cs,v.oneCell'=true) (h1v:∀v ∈ vs,v.oneCell'=true) :
  Calls Tryz.prog 200 #[.slice (some ⟨g,0,none⟩) n c,.int .i64 i,.slice (some ⟨vb,0,none⟩) 1 1] w fun e w'=>
   ∃G,e =.returned (.slice (some ⟨w.heap.size,0,none⟩) (n+1) G)∧∃cur':Array Value,w'.heap[w.heap.size]? = some (.cells cur' 57 (0,0))∧n+1≤G∧G≤maxLen∧cur'.size=G*2∧cur'.toList.take ((n+1)*2)=cs.take (i*2)++vs++cs.drop (i*2)∧Mod (fun _=>False) w w':=by
 obtain⟨i0,hi0,hz0,hzs,hzb⟩:=info_parts qZ;have hsz:(Tryz.prog.info? 57).map (·.size)=some 2:=by rw[hi0];simp[hzs]
 have hz2:¬((i:Int)=(n:Int)):=oM;have hz3:(c:Int)<(n:Int)+1:=oM;have hgw:g<w.heap.size:=wL w ⟨g,0,none⟩ (hcs 0 _ (List.getElem?_eq_getElem oM));have hvw:vb<w.heap.size:=(Array.getElem?_eq_some_iff.1 hv).1;have hkk:(n:Int)+1-(i:Int)=((n+1-i:Nat):Int):=oM;have hik:i+(n+1-i)=n+1:=oM;obtain⟨Z,hZ⟩:∃Z:Value,Z =.agg #[.int .i64 0,.slice none 0 0]:=⟨_,rfl⟩
 rw[←hZ] at hz0;have hZs:Z.cells.size=2:=by rw[hZ];rfl
 have hold:(Builtin.firstCells i0.size i (.slice (some ⟨g,0,none⟩) i c)).run Tryz.prog w.drew =.ok (cs.take (i*2)).toArray w.drew:=by
  rw[hzs];exact run_firstCells_some w.drew 2 i ⟨g,0,none⟩ i c (cs.take (i*2)) (by rw[List.length_take];omega) (fun j v hj=>by
   rw[xA,Nat.zero_add];rw[List.getElem?_take] at hj;split at hj
   ·exact hcs j v hj
   cases hj)
 have hrz:∀ty,(Builtin.append_ #[38,3] ty #[.slice (some ⟨g,0,none⟩) i c,.int .i64 ((n:Int)+1-(i:Int))]).run Tryz.prog w =
   .ok (.slice (some ⟨w.heap.size,0,none⟩) (n+1) (grownCap w (n+1) c 57)) (w.drew.alloc (.cells ((cs.take (i*2)).toArray++Builtin.zeroCells Z.cells (n+1-i)++Builtin.zeroCells Z.cells (grownCap w (n+1) c 57-(n+1))) 57)):=fun ty=>by
  have h:=Lib.run_append_grow_zeros w 38 3 ty 57 i0 _ .i64 .i64 Tryz.underlying38 Tryz.underlying3 hi0 hz0 (some ⟨g,0,none⟩) i c (cs.take (i*2)) hold (n+1-i) oM oM oM oM (by rw[hzb];omega) (by rw[hzb,hik];exact growslice_fits hroom oM);rw[hik] at h;rw[hkk];exact h
 obtain⟨G,hG⟩:∃G,G=grownCap w (n+1) c 57:=⟨_,rfl⟩
 obtain⟨ROW,hROW⟩:∃ROW:Array Value,ROW=(cs.take (i*2)).toArray++Builtin.zeroCells Z.cells (n+1-i)++Builtin.zeroCells Z.cells (G-(n+1)):=⟨_,rfl⟩
 rw[←hG] at hrz;rw[←hROW] at hrz;have hGn:n+1≤G:=by rw[hG];exact grownCap_ge w _ _ _
 have hGm:G≤maxLen:=by
  rw[hG];exact grownCap_le_maxLen w (n+1) c 57 (by unfold maxLen;omega)
 have hRl:ROW.size=G*2:=by
  rw[hROW];simp[Builtin.zeroCells,hZs,List.length_take,hcl];omega
 have hR1:ROW.toList.take (i*2)=cs.take (i*2):=by
  rw[hROW];simp only[Array.toList_append,List.append_assoc];rw[List.take_append_of_le_length (by simp[hcl];omega)];rw[List.take_of_length_le (by simp;omega)]
 obtain⟨W1,hW1⟩:∃W1,W1=w.drew.alloc (.cells ROW 57):=⟨_,rfl⟩
 rw[←hW1] at hrz;have hg1:W1.heap[w.heap.size]? = some (.cells ROW 57 (0,0)):=by rw[hW1];exact fSp w.drew _
 have hm1:Mod (fun b=>b=w.heap.size) w W1:=by
  rw[hW1];exact(Mod.of_below (Below.drew (bR _ _))).trans ((Mod.refl _ _).alloc _)
 have hv1:W1.heap[vb]? = some (.cells vs.toArray 57 (0,0)):=(hm1.block vb hvw oM).trans hv;have hcs1:∀j v,cs[j]? = some v→W1.cell? ⟨g,j,none⟩=some v:=fun j v hj=>hm1.cell (hcs j v hj) (by dsimp only;omega)
 obtain⟨A1,hA1⟩:∃A1:Array Value,A1=(ROW.toList.take (i*2)++vs++ROW.toList.drop (i*2+vs.length)).toArray:=⟨_,rfl⟩
 have hcpA:∀(W:World),W.heap[w.heap.size]? = some (.cells ROW 57 (0,0))→W.heap[vb]? = some (.cells vs.toArray 57 (0,0))→∀ty dc,(Builtin.copy_ #[38,38] ty #[.slice (some ⟨w.heap.size,i*2,none⟩) (n+1-i) dc,.slice (some ⟨vb,0,none⟩) 1 1]).run Tryz.prog W =.ok (goInt 1) (W.setRow w.heap.size A1):=fun W hWa hWb ty dc=>by
  rw[hA1];refine fBw W _ _ ty 57 2 w.heap.size (i*2) (n+1-i) dc ⟨vb,0,none⟩ 1 1 1 ROW 57 vs Tryz.underlying38 hsz hWa (by simp only[Nat.min_def];split <;> omega) oM (fun j v hj=>?_) (by rw[hvl,hRl];omega) h1v
  rw[xA];exact yY hWb (by simpa using hj)
 have hA1s:A1.size=G*2:=by
  rw[hA1];simp only[List.size_toArray,List.length_append,List.length_take,List.length_drop,Array.length_toList];rw[hRl,hvl];omega
 have hdl:(cs.drop (i*2)).length=(n-i)*2:=by rw[List.length_drop,hcl];omega
 obtain⟨A2,hA2⟩:∃A2:Array Value,A2=(A1.toList.take ((i+1)*2)++cs.drop (i*2)++A1.toList.drop ((i+1)*2+(cs.drop (i*2)).length)).toArray:=⟨_,rfl⟩
 have hcpB:∀(W:World),W.heap[w.heap.size]? = some (.cells A1 57 (0,0))→(∀j v,cs[j]? = some v→W.cell? ⟨g,j,none⟩=some v)→∀ty dl dc sl sc,dl=n-i→sl=n-i→(Builtin.copy_ #[38,38] ty #[.slice (some ⟨w.heap.size,(i+1)*2,none⟩) dl dc,.slice (some ⟨g,i*2,none⟩) sl sc]).run Tryz.prog W =.ok (goInt ((n-i:Nat):Int)) (W.setRow w.heap.size A2):=fun W hWa hWc ty dl dc sl sc e1 e2=>by
  rw[hA2];refine fBw W _ _ ty 57 2 w.heap.size ((i+1)*2) dl dc ⟨g,i*2,none⟩ sl sc (n-i) A1 57 (cs.drop (i*2)) Tryz.underlying38 hsz hWa (by simp only[Nat.min_def];split <;> omega) hdl (fun j v hj=>?_) (by rw[hdl,hA1s];omega) (fun v hv=>h1c v (List.mem_of_mem_drop hv))
  rw[xA];rw[List.getElem?_drop] at hj;exact hWc _ v hj
 have hfin:A2.size=G*2∧A2.toList.take ((n+1)*2)=cs.take (i*2)++vs++cs.drop (i*2):=by
  have hA1t:A1.toList.take ((i+1)*2)=cs.take (i*2)++vs:=by
   rw[hA1,hR1];simp only[];rw[List.take_append_of_le_length (by simp only[List.length_append,List.length_take,hcl,hvl];omega),List.take_of_length_le (by simp only[List.length_append,List.length_take,hcl,hvl];omega)]
  constructor
  ·rw[hA2];simp only[List.size_toArray,List.length_append,List.length_take,List.length_drop,Array.length_toList];rw[hA1s,hcl];omega
  rw[hA2,hA1t];simp only[];rw[List.take_append_of_le_length (by simp only[List.length_append,List.length_take,List.length_drop,hcl,hvl];omega),List.take_of_length_le (by simp only[List.length_append,List.length_take,List.length_drop,hcl,hvl];omega)]
 have HF:Hid (A2.size=G*2∧A2.toList.take ((n+1)*2)=cs.take (i*2)++vs++cs.drop (i*2)):=hfin;have HG:Hid (n+1≤G∧G≤maxLen):=⟨hGn,hGm⟩;have HM:Hid (Mod (fun b=>b=w.heap.size) w W1):=hm1;have hG63:G≤9223372036854775807:=by unfold maxLen at hGm;omega
 clear hfin hA1 hA2 hW1 hROW hG hold hRl hR1 hGm hm1 hkk hik hi0 hz0 hZ hZs hzs hzb;have hGi:¬(G=i):=oM;have hGim:¬(G=i+1):=oM;have hci:¬(c=i):=oM;have hw1:IntKind.i64.wrap ((i:Int)+1)=(i:Int)+1:=by rw[IntKind.wrap_i64];omega
 have htn:((i:Int)+1).toNat=i+1:=oM;have hb1:(0:Int)≤(i:Int)+1:=oM;have hin:i≤n:=oM;have hb3:(i:Int)≤(n:Int):=oM;have hb5:(i:Int)≤(n:Int)+1:=oM;have hb6:(i:Int)+1≤(n:Int)+1:=oM;obtain⟨N,hN⟩:∃N,N=w.heap.size:=⟨_,rfl⟩
 rw[←hN] at hrz hg1 hcpA hcpB ⊢;have HN:Hid (N=w.heap.size):=hN;clear hN;have hg2:(W1.setRow N A1).heap[N]? = some (.cells A1 57 (0,0)):=setRow_heap W1 N ROW A1 _ _ hg1;have hcs2:∀j v,cs[j]? = some v→(W1.setRow N A1).cell? ⟨g,j,none⟩=some v:=fun j v hj=>(uW W1 N A1).cell (hcs1 j v hj) (by dsimp only;have:=HN.out;omega)
 obtain⟨W2,hW2⟩:∃W2,W2=W1.setRow N A1:=⟨_,rfl⟩
 rw[←hW2] at hg2 hcs2;have HM2:Hid (Mod (fun b=>b=N) w W2):=by
  rw[Hid,hW2,HN.out];exact HM.out.trans (uW _ _ _)
 have hcpA':=hcpA W1 hg1 hv1;rw[←hW2] at hcpA';clear hW2 hcpA;have hcpB':=hcpB W2.drew hg2 hcs2;clear hcpB;have hg3:(W2.drew.setRow N A2).heap[N]? = some (.cells A2 57 (0,0)):=setRow_heap W2.drew N A1 A2 _ _ hg2;obtain⟨W3,hW3⟩:∃W3,W3=W2.drew.setRow N A2:=⟨_,rfl⟩
 rw[←hW3] at hg3 hcpB';have HM3:Hid (Mod (fun _=>False) w W3):=by
  have h:Mod (fun b=>b=N) w W3:=by
   rw[hW3];exact(HM2.out.trans (Mod.of_below (Below.drew (bR _ _)))).trans (uW _ _ _)
  exact⟨h.os,h.tape,h.output,h.size,fun k hk _=>h.block k hk (by have:=HN.out;omega)⟩
 clear hW3;go_enter Tryz.func200,Tryz.ntmps200;go_wp2_with (first
  | (at_builtin;refine Lib.wpList_append_run _ rfl _ _ _ _ rfl _ _ rfl rfl _ _ (hrz _) ?_)
  | (at_builtin;refine fLr _ rfl _ _ 38 38 rfl _ _ rfl rfl (hcpA' _ _) ?_))
 go_region_law (refine fHw rfl (.tmp 50) (.tmp 53) 38 38 rfl _ _ (by simp[Act.eval,Act.put]) (by simp[Act.eval,Act.put]) (hcpB' _ _ _ _ _ oM oM) ?_)
 go_wp2;go_ret;exact⟨G,rfl,A2,hg3,HG.out.1,HG.out.2,HF.out.1,HF.out.2,HM3.out⟩
theorem fL1 {w:World} {base:Nat} {F:Nat→Prop} {u:Value} {x:Cont} (h:contR.O w base F u x):∃a c,u =.agg #[.int .i64 x.id,.slice a x.legs.length c]∧kL u=[.int .i64 x.id,.slice a x.legs.length c]:=by
 obtain⟨u1,F1,rfl,h1,_⟩:=h;obtain⟨a,c,rfl⟩:=fD h1.1;exact⟨a,c,rfl,rfl⟩
theorem fJ0 {w:World} {base:Nat} {F:Nat→Prop} {u:Value} {x:Cont} (h:contR.O w base F u x):(kL u).length=2∧∀y ∈ kL u,y.oneCell'=true:=by
 obtain⟨a,c,rfl,e⟩:=fL1 h;rw[e];refine⟨rfl,fun y hy=>?_⟩;simp at hy;rcases hy with rfl|rfl <;> rfl
theorem fJ1 {w:World} {base:Nat} {v:Value} {n:Nat} {d:Nat→Cont} {cs:List Value} {us:Nat→Value} {fs:Nat→Nat→Prop} (hp:PO contR 57 2 kL w base v n n d cs us fs):∀y ∈ cs,y.oneCell'=true:=by
 intro y hy;obtain⟨k,hk,rfl⟩:=List.getElem_of_mem hy;have hcl:cs.length=n*2:=hp.row.1;have h1:=hp.cell (k / 2) oM (k % 2) oM;have e:k / 2*2+k % 2=k:=oM;rw[e,List.getElem?_eq_getElem hk] at h1;exact(fJ0 (hp.el (k / 2) oM)).2 _ (List.mem_of_getElem? h1.symm)
theorem fMi (base:Nat) (v:Value) (i vb:Nat) (xs:List Cont) (u:Value) (x:Cont) (F Fu:Nat→Prop) (w:World) (hown:contsR.O w base F v xs) (hi:i≤xs.length) (hn:xs.length≤1048000) (hbase:base≤w.heap.size)
  (hu:contR.O w base Fu u x) (hd:∀b,F b→¬Fu b) (hv:w.heap[vb]? = some (.cells (kL u).toArray 57 (0,0))) (hvb:v.ownBlock≠some vb) :
  Calls Tryz.prog 200 #[v,.int .i64 i,.slice (some ⟨vb,0,none⟩) 1 1] w fun e w'=>
   ∃v' F',e =.returned v'∧contsR.O w' base F' v' (xs.take i++[x]++xs.drop i)∧Mod (fun b=>v.ownBlock=some b) w w'∧(∀b,F' b→F b∨Fu b∨w.heap.size≤b):=by
 obtain⟨cs,us,fs,hp,hF⟩:=hown;have hcl:cs.length=xs.length*2:=hp.row.1;obtain⟨hul,hu1⟩:=fJ0 hu;have h1c:=fJ1 hp;have hown:=hp.row;have fin:∀(v':Value) (w':World),w'.ownsRow base 57 2 v' (xs.length+1) (cs.take (i*2)++kL u++cs.drop (i*2))→Mod (fun b=>v.ownBlock=some b) w w'→(∀b,v'.ownBlock=some b→v.ownBlock=some b∨w.heap.size≤b) →
   ∃F',contsR.O w' base F' v' (xs.take i++[x]++xs.drop i)∧(∀b,F' b→F b∨Fu b∨w.heap.size≤b):=fun v' w' h1 h2 h3=>NO.ins hp hF hi hu hul hd h1 h2 h3
 by_cases hie:i=xs.length
 ·
  subst hie;refine(fMj base v xs.length vb cs (kL u) w hown oM hbase hul hv hu1).mono ?_;rintro e w' ⟨v',rfl,h1,h2,h3⟩;have h4:∀b,v'.ownBlock=some b→v.ownBlock=some b∨w.heap.size≤b:=fun b hb=>by
   rcases h3 with h3|h3
   ·exact .inl (h3▸hb)
   rw[h3] at hb;simp only[Option.some.injEq] at hb;exact .inr oM
  obtain⟨F',h5,h6⟩:=fin v' w' (by rw[List.take_of_length_le oM,List.drop_of_length_le oM,List.append_nil];exact h1) (Mod.of_grown h2) h4;exact⟨v',F',rfl,h5,Mod.of_grown h2,h6⟩
 rcases hown.2 with ⟨_,h0⟩|⟨g,cap,cur,rfl,hbg,hg,hnc,hcm,hcs,htake⟩
 ·omega
 have hne:vb≠g:=fun e=>hvb (by rw[e];rfl)
 have hgl:g<w.heap.size:=(Array.getElem?_eq_some_iff.1 hg).1;have hcl2:(cs.take (i*2)++kL u++cs.drop (i*2)).length=(xs.length+1)*2:=by
  simp only[List.length_append,List.length_take,List.length_drop,hul,hcl];omega
 by_cases hroom:xs.length+1≤cap
 ·refine(fIv g xs.length cap i vb cs (kL u) cur w hg oM hroom (by unfold maxLen at hcm;omega) hne hcs hcl htake hul hv h1c hu1).mono ?_;rintro e w' ⟨rfl,cur',h1,h2,h3,h4⟩;obtain⟨F',h5,h6⟩:=fin (.slice (some ⟨g,0,none⟩) (xs.length+1) cap) w' ⟨hcl2,.inr ⟨g,cap,cur',rfl,hbg,h1,hroom,hcm,h2,h3⟩⟩ (h4.mono (fun b h=>by rw[h];rfl)) (fun b hb=>.inl hb);exact⟨_,F',rfl,h5,h4.mono (fun b h=>by rw[h];rfl),h6⟩
 refine(fKl g xs.length cap i vb cs (kL u) w oM hnc oM oM hcl (fun j v hj=>?_) hul hv h1c hu1).mono ?_
 ·
  refine yY hg ?_;rw[←htake,List.getElem?_take] at hj;split at hj
  ·exact hj
  cases hj
 rintro e w' ⟨G,rfl,cur',h1,h2,h3,h4,h5,h6⟩;have h6':Mod (fun b=>(Value.slice (some ⟨g,0,none⟩) xs.length cap).ownBlock=some b) w w':=h6.mono (fun b h=>h.elim);obtain⟨F',h7,h8⟩:=fin (.slice (some ⟨w.heap.size,0,none⟩) (xs.length+1) G) w' ⟨hcl2,.inr ⟨w.heap.size,G,cur',rfl,hbase,h1,h2,h3,h4,h5⟩⟩ h6' (fun b hb=>by simp only[Value.ownBlock,Option.some.injEq] at hb;exact .inr oM);exact⟨_,F',rfl,h7,h6',h8⟩
end
section
variable [dQ Rw] [iH Rw] [dQ Bal] [iH Bal] [dQ Ledg] [iH Ledg] [dQ Leg] [iH Leg] [dQ Cont] [iH Cont] [dQ LedgR] [iH LedgR] [dQ OutcR] [iH OutcR] [dQ Mrk] [iH Mrk] [dQ Shd] [iH Shd] [dQ ShdR] [iH ShdR]
def qU (d:Shd) (c:Cont):Int:=if shdF d=0 then (if fA c.id c.legs=0 then (if (onSh d.idx c.legs).length=0 then 4 else 0) else fA c.id c.legs) else shdF d
theorem fD8 {w:World} {base:Nat} {F:Nat→Prop} {v:Value} {xs:List Cont} (h:contsR.O w base F v xs) {b:Nat} (e:v.ownBlock=some b):F b:=by
 obtain⟨cs,us,fs,hp,hF⟩:=h;exact(hF b).2 (.inl e)
def yS (d:Shd) (c:Cont):Shd:=⟨d.idx,d.bals,d.votes,putC d.held c,d.done,d.appl⟩
def fWe (d:Shd) (c:Cont) (w:World) (e:Ending) (w':World):Prop:=
 ((kR d c=true∧∃v F,e =.returned v∧shdR.O w' w.heap.size F v (yS d c))∨(kR d c=false∧∃q,e =.panicked [{v:=refV q,recovered:=false}]))∧Below w.heap.size w w'
theorem apartC_ready {d:Shd} {c:Cont}:(vF d.idx d.held c.legs=0↔d.held.any (vR d c)=false):=by
 unfold vF;rw[fC0];constructor
 ·
  intro h;cases e:d.held.any (vR d c) with
  | false=>rfl
  | true=>
   rw[if_pos (by unfold vR at e;exact e)] at h;omega
 intro h;unfold vR at h;rw[h];rfl
structure ShdOk (d:Shd):Prop where
 base:pW d.idx d.bals=0
 ls:LsOk d
 held:HeldOk d
theorem vP {d:Shd} (h:shdF d=0):ShdOk d:=by
 have h0:kZ d=0:=by
  unfold shdF at h;split at h
  ·assumption
  rename_i h1;exact absurd h h1
 obtain⟨h1,h2,h3⟩:=fKu h0;exact⟨h1,h2,h3⟩
theorem zT {bs:List Bal} (h:gY bs=0):bs.length≤1000000:=by
 have:=(tQ h).len;omega
theorem fRy (x y:Value) (d:Shd) (c:Cont) (w:World) (hx:shdR.V w x d) (hy:contR.V w y c) :
  RI 173 #[x,y] w (.int .i64 (qU d c)):=by
 have HSf:Hid (bW w fun W=>RI 179 #[x] W (.int .i64 (shdF d))):=fun W hW=>fC4 x d W (shdR.below hx hW)
 obtain⟨uy,rfl,hy⟩:=hy;have HCf:Hid (bW w fun W=>RI 142 #[.agg #[.int .i64 c.id,uy]] W (.int .i64 (fA c.id c.legs))):=fun W hW=>uG c.id uy c.legs W (legsR.below hy hW)
 have HLe:Hid (bW w fun W=>fA c.id c.legs=0→Calls Tryz.prog 192 #[uy,.int .i64 d.idx] W fun e w'=>∃v,e =.returned v∧w'.ownsRow W.heap.size 168 4 v (onSh d.idx c.legs).length (gN (onSh d.idx c.legs))∧Below W.heap.size W w'):=fun W hW hcf=>xK uy c.legs d.idx W (legsR.below hy hW) (by have:=fC2 hcf;omega)
 obtain⟨a1,a2,a3,a4,a5,c1,c2,c3,c4,c5,rfl⟩:=fB0 hx;obtain⟨ax,cx,rfl⟩:=kP hy;clear hx hy;have HE0:Hid (¬shdF d=0→qU d c=shdF d):=fun h=>by unfold qU;rw[if_neg h]
 have HE1:Hid (shdF d=0→¬fA c.id c.legs=0→qU d c=fA c.id c.legs):=fun h h1=>by unfold qU;rw[if_pos h,if_neg h1]
 have HE2:Hid (shdF d=0→fA c.id c.legs=0→(onSh d.idx c.legs).length=0→qU d c=4):=fun h h1 h2=>by unfold qU;rw[if_pos h,if_pos h1,if_pos h2]
 have HE3:Hid (shdF d=0→fA c.id c.legs=0→¬(onSh d.idx c.legs).length=0→qU d c=0):=fun h h1 h2=>by unfold qU;rw[if_pos h,if_pos h1,if_neg h2]
 generalize d.bals.length=n1 at *;generalize d.votes.length=n2 at *;generalize d.held.length=n3 at *;generalize d.done.length=n4 at *;generalize d.appl.length=n5 at *;generalize c.legs.length=nx at *;generalize qU d c=Z at *;generalize shdF d=sf at *;generalize fA c.id c.legs=cf at *;go_enter Tryz.func173,Tryz.ntmps173;go_wp2_with fail;refine(HSf.out _ qBq).mono ?_;rintro e w1 ⟨rfl,hb1⟩;have hB1:=bT w hb1;have y0:w1.cell? ⟨w.heap.size,0,none⟩=some (.int .i64 d.idx):=cK hb1 sG;have y1:w1.cell? ⟨w.heap.size,1,none⟩=some (.slice a1 n1 c1):=cK hb1 sG;have y2:w1.cell? ⟨w.heap.size,2,none⟩=some (.slice a2 n2 c2):=cK hb1 sG;have y3:w1.cell? ⟨w.heap.size,3,none⟩=some (.slice a3 n3 c3):=cK hb1 sG;have y4:w1.cell? ⟨w.heap.size,4,none⟩=some (.slice a4 n4 c4):=cK hb1 sG;have y5:w1.cell? ⟨w.heap.size,5,none⟩=some (.slice a5 n5 c5):=cK hb1 sG;have x0:w1.cell? ⟨w.heap.size+1,0,none⟩=some (.int .i64 c.id):=cK hb1 sG;have x1:w1.cell? ⟨w.heap.size+1,1,none⟩=some (.slice ax nx cx):=cK hb1 sG;clear hb1 HSf;by_cases hsf:sf=0;rotate_left
 ·
  have HC:=HE0.out hsf;have hsf':(sf !=0)=true:=by simp[hsf]
  go_wp2;go_ret;exact⟨by rw[HC] <;> rfl,qBq⟩
 have hsf':(sf !=0)=false:=by simp[hsf]
 go_wp2_with fail;refine(HCf.out _ hB1).mono ?_;rintro e w2 ⟨rfl,hb2⟩;have hB2:Below w.heap.size w w2:=bS hB1 hb2;replace y0:=cK hb2 y0;replace y1:=cK hb2 y1;replace y2:=cK hb2 y2;replace y3:=cK hb2 y3;replace y4:=cK hb2 y4;replace y5:=cK hb2 y5;replace x0:=cK hb2 x0;replace x1:=cK hb2 x1;by_cases hcf:cf=0;rotate_left
 ·
  have HC:=HE1.out hsf hcf;have hcf':(cf !=0)=true:=by simp[hcf]
  go_wp2;go_ret;exact⟨by rw[HC] <;> rfl,qBq⟩
 have hcf':(cf !=0)=false:=by simp[hcf]
 go_wp2_with fail;refine(HLe.out _ hB2 hcf).mono ?_;rintro e w3 ⟨v3,rfl,o3,hb3⟩;obtain⟨a6,c6,rfl⟩:=fD o3;have hB3:Below w.heap.size w w3:=bS hB2 hb3;have HE2':Hid ((onSh d.idx c.legs).length=0→Z=4):=fun h=>HE2.out hsf hcf h
 have HE3':Hid (¬(onSh d.idx c.legs).length=0→Z=0):=fun h=>HE3.out hsf hcf h
 clear o3 HE0 HE1 HE2 HE3 HLe HCf hsf hcf hb3 hb2;generalize (onSh d.idx c.legs).length=nl at *;by_cases hl:nl=0
 ·
  have HC:=HE2'.out hl;have hl':((nl:Int)==0)=true:=by simp[hl]
  clear HE2' HE3';go_wp2;go_ret;exact⟨by rw[HC] <;> rfl,qBq⟩
 have HC:=HE3'.out hl;have hl':((nl:Int)==0)=false:=by simpa using hl
 clear HE2' HE3';go_wp2;go_ret;exact⟨by rw[HC] <;> rfl,qBq⟩
theorem fMc (x y:Value) (d:Shd) (c:Cont) (w:World) (hx:shdR.V w x d) (hy:contR.V w y c) (hok:ShdOk d) (hcf:fA c.id c.legs=0) :
  Calls Tryz.prog 178 #[x,y] w (fWe d c w):=by
 have HDn:Hid (bW w fun W=>RI 195 #[x,.int .i64 c.id] W (.bool (fK c.id d.done !=0))):=fun W hW=>fG5 x d c.id W (shdR.below hx hW) (by have:=hok.ls.nd;omega) hok.ls.od
 have HBo:Hid (bW w fun W=>Calls Tryz.prog 198 #[x] W fun e w'=>∃b,e =.returned (.agg #[.int .i64 3,.map (some b)])∧W.heap.size≤b∧Book w' b 54 (kY (mM d.idx d.bals))∧Below W.heap.size W w'):=fun W hW=>yX x d W (shdR.below hx hW) hok.base
 have HCp:Hid (bW w fun W=>Calls Tryz.prog 68 #[x] W fun e w'=>∃v F,e =.returned v∧shdR.O w' W.heap.size F v d∧Below W.heap.size W w'):=fun W hW=>uP x d W (shdR.below hx hW) ⟨by have:=zT (pE hok.base).2;omega,by have:=hok.ls.nv;omega,by have:=hok.ls.nh;omega,by have:=hok.ls.nd;omega,by have:=hok.ls.na;omega⟩ (fun k hk=>by have:=hok.held.len hk;omega)
 have HCc:Hid (bW w fun W=>Calls Tryz.prog 114 #[y] W fun e w'=>∃v F,e =.returned v∧contR.O w' W.heap.size F v c∧Below W.heap.size W w'):=fun W hW=>fD9 y c W (contR.below hy hW) (by have:=fC2 hcf;omega)
 obtain⟨uy,rfl,hy⟩:=hy;obtain⟨u1,u2,u3,u4,u5,rfl,h1,h2,h3,h4,h5⟩:=hx;have HKa:Hid (bW w fun W=>Calls Tryz.prog 196 #[.int .i64 d.idx,u3,.agg #[.int .i64 c.id,uy]] W (fF6 (vF d.idx d.held c.legs) W)):=fun W hW=>fBh d.idx c.id u3 uy d.held c.legs W (contsR.below h3 hW) (legsR.below hy hW) (by have:=fC2 hcf;omega)
 have HKc:Hid (∀W b,Below w.heap.size w W→Book W b 54 (kY (mM d.idx d.bals))→Calls Tryz.prog 197 #[.int .i64 d.idx,.agg #[.int .i64 3,.map (some b)],.agg #[.int .i64 c.id,uy]] W (fF6 (xW d.bals (onSh d.idx c.legs)) W)):=fun W b hW hb=>zH d.idx c.id b uy d.bals c.legs W hb (legsR.below hy hW) (by have:=fC2 hcf;omega) (pE hok.base).1 (pE hok.base).2 (fN0 hcf)
 have HPl:Hid (∀W v,contsR.V W v d.held→Calls Tryz.prog 199 #[v,.int .i64 c.id] W (PlC d.held c.id W)):=fun W v hv=>vX v d.held c.id W hv (by have:=hok.ls.nh;omega) hok.held.rise
 have HPp:Hid (∀i,i≤d.held.length→(∀k,k<i→(d.held.getD k default).id<c.id)→(∀k,i≤k→k<d.held.length→c.id≤(d.held.getD k default).id)→putC d.held c=d.held.take i++[c]++d.held.drop i):=fun i hi h1 h2=>by
  unfold putC;rw[fM7 hi h1 (fun h=>by have:=h2 i (Nat.le_refl _) h;omega)]
 have HR1:Hid (¬fK c.id d.done=0→kR d c=false):=fun h=>fFg h
 have HR2:Hid (¬vF d.idx d.held c.legs=0→kR d c=false):=fun h=>fC8 (by
  cases e:d.held.any (vR d c) with
  | true=>rfl
  | false=>exact absurd (apartC_ready.2 e) h)
 have HR3:Hid (¬xW d.bals (onSh d.idx c.legs)=0→kR d c=false):=fun h=>fHq h
 have HR4:Hid (fK c.id d.done=0→vF d.idx d.held c.legs=0→xW d.bals (onSh d.idx c.legs)=0→kR d c=true):=fun h1 h2 h3=>fK4 h1 h3 (apartC_ready.1 h2)
 have HLh:Hid (d.held.length≤1000):=by have:=hok.ls.nh;show _≤_;omega
 obtain⟨a1,c1,rfl⟩:=fP h1;obtain⟨a2,c2,rfl⟩:=fF h2;obtain⟨a3,c3,rfl⟩:=fM h3;obtain⟨a4,c4,rfl⟩:=fF h4;obtain⟨a5,c5,rfl⟩:=gJ h5;obtain⟨ax,cx,rfl⟩:=kP hy;clear h1 h2 h3 h4 h5 hy hok hcf;obtain⟨n3,hn3⟩:∃n3,n3=d.held.length:=⟨_,rfl⟩
 have HN:Hid (d.held.length=n3):=hn3.symm;rw[←hn3] at HKa HDn HBo HCp ⊢;clear hn3;generalize hn1:d.bals.length=n1 at *;generalize hn2:d.votes.length=n2 at *;generalize hn4:d.done.length=n4 at *;generalize hn5:d.appl.length=n5 at *;have HN5:Hid (d.bals.length=n1∧d.votes.length=n2∧d.done.length=n4∧d.appl.length=n5):=⟨hn1,hn2,hn4,hn5⟩;clear hn1 hn2 hn4 hn5;generalize hnx:c.legs.length=nx at *;have HNx:Hid (c.legs.length=nx):=hnx;clear hnx;generalize vF d.idx d.held c.legs=ca at *;generalize xW d.bals (onSh d.idx c.legs)=cl at *;generalize fK c.id d.done=fd at *;go_enter Tryz.func178,Tryz.ntmps178;go_wp2_with fail;refine(HDn.out _ qBq).mono ?_;rintro e w1 ⟨rfl,hb1⟩;have hB1:=bT w hb1;have hz1:=hb1.size;simp at hz1;have y0:w1.cell? ⟨w.heap.size,0,none⟩=some (.int .i64 d.idx):=cK hb1 sG;have y1:w1.cell? ⟨w.heap.size,1,none⟩=some (.slice a1 n1 c1):=cK hb1 sG;have y2:w1.cell? ⟨w.heap.size,2,none⟩=some (.slice a2 n2 c2):=cK hb1 sG;have y3:w1.cell? ⟨w.heap.size,3,none⟩=some (.slice a3 n3 c3):=cK hb1 sG;have y4:w1.cell? ⟨w.heap.size,4,none⟩=some (.slice a4 n4 c4):=cK hb1 sG;have y5:w1.cell? ⟨w.heap.size,5,none⟩=some (.slice a5 n5 c5):=cK hb1 sG;have x0:w1.cell? ⟨w.heap.size+1,0,none⟩=some (.int .i64 c.id):=cK hb1 sG;have x1:w1.cell? ⟨w.heap.size+1,1,none⟩=some (.slice ax nx cx):=cK hb1 sG;have r0:w1.cell? ⟨w.heap.size+2,0,none⟩=some (.int .i64 0):=cK hb1 sG;have r1:w1.cell? ⟨w.heap.size+2,1,none⟩=some (.slice none 0 0):=cK hb1 sG;have r2:w1.cell? ⟨w.heap.size+2,2,none⟩=some (.slice none 0 0):=cK hb1 sG
 have r3:w1.cell? ⟨w.heap.size+2,3,none⟩=some (.slice none 0 0):=cK hb1 sG;have r4:w1.cell? ⟨w.heap.size+2,4,none⟩=some (.slice none 0 0):=cK hb1 sG;have r5:w1.cell? ⟨w.heap.size+2,5,none⟩=some (.slice none 0 0):=cK hb1 sG;have rf:∀o,w1.frozen? ⟨w.heap.size+2,o,none⟩=false:=fun o=>by rw[(bcell hb1).2 _ _ (by simp)];simp[go_sem]
 clear hb1 HDn;by_cases hfd:fd=0;rotate_left
 ·
  have HC:=HR1.out hfd;have hfd':(fd !=0)=true:=by simp[hfd]
  clear HR1 HR2 HR3 HR4 HPp HPl HKa HKc HCp HCc HBo;go_wp2;first|exact⟨.inr ⟨HC,1,rfl⟩,hB1⟩|exact⟨rfl,.inr ⟨HC,1,rfl⟩,hB1⟩
 have hfd':(fd !=0)=false:=by simp[hfd]
 go_wp2_with fail;refine(HKa.out _ hB1).mono ?_;rintro e w2 ⟨he,hb2⟩;have hB2:Below w.heap.size w w2:=bS hB1 hb2;rcases he with ⟨hca,rfl⟩|⟨hca,rfl⟩
 rotate_left
 ·have HC:=HR2.out hca;clear HR1 HR2 HR3 HR4 HPp HPl HKa HKc HCp HCc HBo;first|exact⟨.inr ⟨HC,_,rfl⟩,hB2⟩|exact⟨rfl,.inr ⟨HC,_,rfl⟩,hB2⟩
 replace y0:=cK hb2 y0;replace y1:=cK hb2 y1;replace y2:=cK hb2 y2;replace y3:=cK hb2 y3;replace y4:=cK hb2 y4;replace y5:=cK hb2 y5;replace x0:=cK hb2 x0;replace x1:=cK hb2 x1;replace r0:=cK hb2 r0;replace r1:=cK hb2 r1;replace r2:=cK hb2 r2;replace r3:=cK hb2 r3;replace r4:=cK hb2 r4;replace r5:=cK hb2 r5;replace rf:∀o,w2.frozen? ⟨w.heap.size+2,o,none⟩=false:=fun o=>by rw[(bcell hb2).2 _ _ oM];exact rf o
 have hz2:w.heap.size+2<w2.heap.size:=by have:=hb2.size;omega
 clear HKa hb2 hz1;go_wp2;refine tF [] 2 (.pointer (some ⟨w.heap.size,0,none⟩)) (fun c' W=>∃q,c'=[{v:=refV q,recovered:=false}]∧kR d c=false∧Below w.heap.size w W) ?_ ?_
 ·rintro c' a W hd ht ⟨q,rfl,hz,hb⟩;first|exact⟨hd,.inr ⟨hz,q,rfl⟩,hb⟩|exact⟨.inr ⟨hz,q,rfl⟩,hb⟩|(show bodyPost _ _ _ _ _;exact⟨hd,.inr ⟨hz,q,rfl⟩,hb⟩)
 refine fB (fun W=>Below w2.heap.size w2 W∧W.cell? ⟨w.heap.size,0,none⟩=some (.int .i64 d.idx)∧W.cell? ⟨w.heap.size,1,none⟩=some (.slice a1 n1 c1)∧W.cell? ⟨w.heap.size,2,none⟩=some (.slice a2 n2 c2)∧W.cell? ⟨w.heap.size,3,none⟩=some (.slice a3 n3 c3)∧W.cell? ⟨w.heap.size,4,none⟩=some (.slice a4 n4 c4)∧W.cell? ⟨w.heap.size,5,none⟩=some (.slice a5 n5 c5)∧W.cell? ⟨w.heap.size+1,0,none⟩=some (.int .i64 c.id)∧W.cell? ⟨w.heap.size+1,1,none⟩=some (.slice ax nx cx)) 6 kF ⟨qBq,cK qBq y0,cK qBq y1,cK qBq y2,cK qBq y3,cK qBq y4,cK qBq y5,cK qBq x0,cK qBq x1⟩ (fun hS=>?_);refine mO (i:=0) (v:=?_) rfl kF kF kF kF (fun _ _ _=>PanicAs.put (by decide)) (by rfl) hS ?_ ?_;rotate_left
 ·intro wS hSw;(try dsimp only at hSw);go_simp;try with_reducible rfl
 try simp only[jX]
 refine mO (i:=1) (v:=?_) rfl kF kF kF kF (fun _ _ _=>PanicAs.put (by decide)) (by rfl) hS ?_ ?_;rotate_left
 ·intro wS hSw;(try dsimp only at hSw);go_simp;try with_reducible rfl
 try simp only[jX]
 refine mO (i:=2) (v:=?_) rfl kF kF kF kF (fun _ _ _=>PanicAs.put (by decide)) (by rfl) hS ?_ ?_;rotate_left
 ·intro wS hSw;(try dsimp only at hSw);go_simp;try with_reducible rfl
 try simp only[jX]
 refine mO (i:=4) (v:=?_) rfl kF kF kF kF (fun _ _ _=>PanicAs.put (by decide)) (by rfl) hS ?_ ?_;rotate_left
 ·intro wS hSw;(try dsimp only at hSw);go_simp;try with_reducible rfl
 try simp only[jX]
 refine uS 3 rfl (fun K hK=>?_);go_simp;refine(HBo.out _ (bS hB2 hS.1)).mono ?_;rintro e w3 ⟨b,rfl,hbb,hbk,hb3⟩;have hb3':Below w2.heap.size w2 w3:=bS hS.1 hb3;have hS3:=And.intro hb3' (kS8 hb3 hS.2);refine hK _ _ (fun _=>hS3) ?_;clear hK K hS hb3;have hS:=hS3;clear hS3;try simp only[jX]
 refine uS 5 rfl (fun K hK=>?_);go_simp;refine(HKc.out _ b (bS hB2 hS.1) hbk).mono ?_;rintro e w4 ⟨he,hb4⟩;have hb4':Below w2.heap.size w2 w4:=bS hS.1 hb4;rcases he with ⟨hcl,rfl⟩|⟨hcl,rfl⟩
 rotate_left
 ·first|exact⟨rfl,rfl,⟨cl,rfl⟩,HR3.out hcl,bS hB2 hb4'⟩|exact⟨rfl,rfl,cl,rfl,HR3.out hcl,bS hB2 hb4'⟩
 have hS3:=And.intro hb4' (kS8 hb4 hS.2);refine hK _ _ (fun _=>hS3) ?_;clear hK K hS hb4;have hS:=hS3;clear hS3;try simp only[jX]
 refine xQ kF ?_;refine PanicAs.normal ?_;have HRd:Hid (kR d c=true):=HR4.out hfd hca hcl;have hB4:Below w.heap.size w w4:=bS hB2 hb4';replace y0:=cK hb4' y0;replace y1:=cK hb4' y1;replace y2:=cK hb4' y2;replace y3:=cK hb4' y3;replace y4:=cK hb4' y4;replace y5:=cK hb4' y5;replace x0:=cK hb4' x0;replace x1:=cK hb4' x1;replace r0:=cK hb4' r0;replace r1:=cK hb4' r1;replace r2:=cK hb4' r2;replace r3:=cK hb4' r3;replace r4:=cK hb4' r4;replace r5:=cK hb4' r5;replace rf:∀o,w4.frozen? ⟨w.heap.size+2,o,none⟩=false:=fun o=>by rw[(bcell hb4').2 _ _ oM];exact rf o
 have hz4:w.heap.size+2<w4.heap.size:=by have:=hb4'.size;omega
 clear HR1 HR2 HR3 HR4 HKc HBo hfd hca hcl hbk hbb hb3' hS hB2 hz2 hb4' hfd';go_wp2_with fail;refine(HCp.out _ hB4).mono ?_;rintro e w5 ⟨v5,F5,rfl,o5,hb5⟩;obtain⟨e1,e2,e3,e4,e5,f1,f2,f3,f4,f5,rfl⟩:=mF o5;rw[HN5.out.1,HN5.out.2.1,HN5.out.2.2.1,HN5.out.2.2.2,HN.out] at o5 ⊢;have HO5:Hid (shdR.O w5 w4.heap.size F5 (.agg #[.int .i64 d.idx,.slice e1 n1 f1,.slice e2 n2 f2,.slice e3 n3 f3,.slice e4 n4 f4,.slice e5 n5 f5]) d):=o5;have hB5:Below w.heap.size w w5:=bS hB4 hb5;replace x0:=cK hb5 x0;replace x1:=cK hb5 x1;replace r0:=cK hb5 r0;replace r1:=cK hb5 r1;replace r2:=cK hb5 r2;replace r3:=cK hb5 r3;replace r4:=cK hb5 r4;replace r5:=cK hb5 r5;replace rf:∀o,w5.frozen? ⟨w.heap.size+2,o,none⟩=false:=fun o=>by rw[(bcell hb5).2 _ _ oM];exact rf o
 have hz45:=hb5.size;have zx5:w.heap.size+1<w5.heap.size:=oM;have zx6:w.heap.size+2<w5.heap.size:=oM;clear o5 HCp hb5 y0 y1 y2 y3 y4 y5;have HPl6:Hid (bW w5 fun W=>Calls Tryz.prog 199 #[.slice e3 n3 f3,.int .i64 c.id] W (PlC d.held c.id W)):=fun W hW=>by
  obtain⟨F3,h3,_⟩:=vQ HO5.out;exact HPl.out W _ (contsR.below (contsR.ofO h3) hW)
 go_wp2_with fail;refine(HPl6.out _ qBq).mono ?_;rintro e w6 ⟨i,hi,rfl,p1,p2,hb6⟩;have HP:Hid (putC d.held c=d.held.take i++[c]++d.held.drop i):=HPp.out i hi p1 p2;have HI:Hid (i≤d.held.length):=hi;have z0:w6.cell? ⟨w5.heap.size,0,none⟩=some (.int .i64 d.idx):=cK hb6 sG;have z1:w6.cell? ⟨w5.heap.size,1,none⟩=some (.slice e1 n1 f1):=cK hb6 sG;have z2:w6.cell? ⟨w5.heap.size,2,none⟩=some (.slice e2 n2 f2):=cK hb6 sG;have z3:w6.cell? ⟨w5.heap.size,3,none⟩=some (.slice e3 n3 f3):=cK hb6 sG;have z4:w6.cell? ⟨w5.heap.size,4,none⟩=some (.slice e4 n4 f4):=cK hb6 sG;have z5:w6.cell? ⟨w5.heap.size,5,none⟩=some (.slice e5 n5 f5):=cK hb6 sG;have zf:∀o,w6.frozen? ⟨w5.heap.size,o,none⟩=false:=fun o=>by rw[(bcell hb6).2 _ _ (by simp)];simp[go_sem]
 have hb56:=bT w5 hb6;have hz6:w5.heap.size<w6.heap.size:=by have:=hb6.size;simp at this;omega
 have hB6:Below w.heap.size w w6:=bS hB5 hb56;replace x0:=cK hb56 x0;replace x1:=cK hb56 x1;replace r0:=cK hb56 r0;replace r1:=cK hb56 r1;replace r2:=cK hb56 r2;replace r3:=cK hb56 r3;replace r4:=cK hb56 r4;replace r5:=cK hb56 r5;replace rf:∀o,w6.frozen? ⟨w.heap.size+2,o,none⟩=false:=fun o=>by rw[(bcell hb56).2 _ _ oM];exact rf o
 obtain⟨F3,o3,hF3,LN⟩:=vQ (shdR.keep HO5.out hb56);have HR:Hid (∀b,F5 b→w4.heap.size≤b∧b<w5.heap.size):=fun b hb=>shdR.rng HO5.out b hb
 have HO3:Hid (contsR.O w6 w4.heap.size F3 (.slice e3 n3 f3) d.held):=o3;have HF3:Hid (∀b,F3 b→w4.heap.size≤b∧b<w5.heap.size):=fun b hb=>HR.out b (hF3 b hb)
 have HLN:Hid (∀(w':World) (Fj':Nat→Prop) (v:Value) (ys:List Cont),contsR.O w' w4.heap.size Fj' v ys→Mod F3 w6 w'→(∀b,Fj' b→F3 b∨w6.heap.size≤b)→∃F',shdR.O w' w4.heap.size F' (.agg #[.int .i64 d.idx,.slice e1 n1 f1,.slice e2 n2 f2,v,.slice e4 n4 f4,.slice e5 n5 f5]) ⟨d.idx,d.bals,d.votes,ys,d.done,d.appl⟩∧∀b,F' b→F5 b∨w6.heap.size≤b):=LN;generalize decide (i<d.held.length∧(d.held.getD i default).id=c.id)=fnd at *;clear LN o3 hF3 HO5 HPl HPl6 HPp hb6 hb56 hi p1 p2 hB5;go_wp2;refine wp_region_noPanic ?_;have hbd:Below w6.heap.size w6 w6.drew:=qBq;refine fB (fun W=>Mod F3 w6 W∧W.cell? ⟨w5.heap.size,3,none⟩=some (.slice e3 n3 f3)∧W.cell? ⟨w.heap.size+1,0,none⟩=some (.int .i64 c.id)∧W.cell? ⟨w.heap.size+1,1,none⟩=some (.slice ax nx cx)) 8 kF ⟨Mod.of_below hbd,cK hbd z3,cK hbd x0,cK hbd x1⟩ (fun hS=>?_);refine tY 0 ?_;refine tY 1 ?_;refine tY 2 ?_;refine tY 3 ?_;refine uS 4 rfl (fun K hK=>?_);go_simp;refine(HCc.out _ (bS hB6 hbd)).mono ?_;rintro e w7 ⟨v7,F7,rfl,o7,hb7⟩;obtain⟨a7,c7,rfl⟩:=xG o7;rw[HNx.out] at o7 ⊢;have hb67:Below w6.heap.size w6 w7:=bS hbd hb7;have hS3:=And.intro (Mod.of_below (F:=F3) hb67) (And.intro (cK hb67 z3) (And.intro (cK hb67 x0) (cK hb67 x1)));refine hK _ _ (fun _=>hS3) ?_;clear hK K hS hS3;have HU:Hid (contR.O w7 w4.heap.size F7 (.agg #[.int .i64 c.id,.slice a7 nx c7]) c):=contR.base o7 (by have:=hbd.size;omega);have HF7:Hid (∀b,F7 b→w6.heap.size≤b∧b<w7.heap.size):=fun b hb=>by have:=contR.rng o7 b hb;have:=hbd.size;omega
 clear o7 hb7;try simp only[jX]
 refine uS 5 rfl (fun K hK=>?_);go_simp;obtain⟨w8,hw8⟩:∃w8,w8=w7.alloc (.cells #[.int .i64 c.id,.slice a7 nx c7] 57):=⟨_,rfl⟩
 rw[←hw8];have hv8:w8.heap[w7.heap.size]? = some (.cells (kL (.agg #[.int .i64 c.id,.slice a7 nx c7])).toArray 57 (0,0)):=by rw[hw8];exact World.alloc_heap_new w7 _
 have hb8:Below w7.heap.size w7 w8:=by rw[hw8];exact qBq
 clear hw8;have hb68:Below w6.heap.size w6 w8:=bS hb67 hb8;have hS3:=And.intro (Mod.of_below (F:=F3) hb68) (And.intro (cK hb68 z3) (And.intro (cK hb68 x0) (cK hb68 x1)));refine hK _ _ (fun _=>hS3) ?_;clear hK K hS3;try simp only[jX]
 refine uS 6 rfl (fun K hK=>?_);go_simp;refine(fMi w4.heap.size (.slice e3 n3 f3) i w7.heap.size d.held (.agg #[.int .i64 c.id,.slice a7 nx c7]) c F3 F7 w8 (contsR.keep HO3.out hb68) HI.out (by have:=HLh.out;omega) (by have:=hb68.size;omega) (contR.keep HU.out hb8) (fun b h1 h2=>by have:=HF3.out b h1;have:=HF7.out b h2;omega) hv8 (fun e=>by have:=HF3.out _ (fD8 HO3.out e);have:=hb67.size;omega)).mono ?_;rintro e w9 ⟨v9,F9,rfl,o9,m9,l9⟩;have hm9:Mod F3 w6 w9:=(Mod.of_below hb68).trans (m9.mono (fun b hb=>fD8 HO3.out hb));rw[←HP.out] at o9;obtain⟨F',o',hF'⟩:=HLN.out w9 F9 v9 _ o9 hm9 (fun b hb=>by
  rcases l9 b hb with h|h|h
  ·exact .inl h
  ·exact .inr (HF7.out b h).1
  exact .inr (by have:=hb68.size;omega))
 have nz:¬F3 w5.heap.size:=fun h=>by have:=(HF3.out _ h).2;omega
 have nr:¬F3 (w.heap.size+2):=fun h=>by have:=(HF3.out _ h).1;omega
 have nx':¬F3 (w.heap.size+1):=fun h=>by have:=(HF3.out _ h).1;omega
 have hS3:=And.intro hm9 (And.intro (hm9.cell z3 nz) (And.intro (hm9.cell x0 nx') (hm9.cell x1 nx')));refine hK _ _ (fun _=>hS3) ?_;clear hK K;obtain⟨a9,c9,rfl⟩:=fM (contsR.ofO o9);have HO':Hid (shdR.O w9 w4.heap.size F' (.agg #[.int .i64 d.idx,.slice e1 n1 f1,.slice e2 n2 f2,.slice a9 (putC d.held c).length c9,.slice e4 n4 f4,.slice e5 n5 f5]) (yS d c)):=o';have HF':Hid (∀b,F' b→F5 b∨w6.heap.size≤b):=hF';replace z0:=hm9.cell z0 nz;replace z1:=hm9.cell z1 nz;replace z2:=hm9.cell z2 nz;replace z3:=hm9.cell z3 nz;replace z4:=hm9.cell z4 nz;replace z5:=hm9.cell z5 nz;replace r0:=hm9.cell r0 nr;replace r1:=hm9.cell r1 nr;replace r2:=hm9.cell r2 nr;replace r3:=hm9.cell r3 nr;replace r4:=hm9.cell r4 nr;replace r5:=hm9.cell r5 nr;replace zf:∀o,w9.frozen? ⟨w5.heap.size,o,none⟩=false:=fun o=>(hm9.frz10 (a:=⟨w5.heap.size,o,none⟩) hz6 nz).trans (zf o)
 replace rf:∀o,w9.frozen? ⟨w.heap.size+2,o,none⟩=false:=fun o=>(hm9.frz10 (a:=⟨w.heap.size+2,o,none⟩) (by dsimp only;omega) nr).trans (rf o)
 have hB9:Below w.heap.size w w9:=hm9.below hB6 hB6.size (fun b hb=>by have:=(HF3.out b hb).1;omega);generalize (putC d.held c).length=np at *;clear o9 m9 l9 o' hF' HLN hm9 hv8 HU HF7 HO3;try simp only[jX]
 refine uS 7 rfl (fun K hK=>?_);go_simp;refine hK _ _ (fun _=>hS3) ?_;clear hK K;try simp only[jX]
 refine uS 8 rfl (fun K hK=>?_);go_simp;refine hK _ _ (fun h=>absurd rfl h) ?_;clear hK K hS3;refine dP ?_;go_wp2;refine bodyPost_ret (v:=.agg #[.int .i64 d.idx,.slice e1 n1 f1,.slice e2 n2 f2,.slice a9 np c9,.slice e4 n4 f4,.slice e5 n5 f5]) (by simp[results,Tryz.results178,go_sem,r0,r1,r2,r3,r4,r5,rf]) rfl ⟨.inl ⟨HRd.out,_,F',rfl,?_⟩,?_⟩
 ·
  refine shdR.base (base:=w4.heap.size) (fVw shdR (fRa shdR HO'.out ?_ _) ?_ _ _ _ _ _ _) oM
  ·
   exact fun h=>by
    rcases HF'.out _ h with h|h
    ·have:=(HR.out _ h).2;omega
    omega
  exact fun h=>by
   rcases HF'.out _ h with h|h
   ·have:=(HR.out _ h).1;omega
   omega
 exact qS
def votV (d:Shd) (k v:Int):Shd:=⟨d.idx,d.bals,putM d.votes ⟨k,v⟩,d.held,d.done,d.appl⟩
theorem mD {w:World} {base:Nat} {F:Nat→Prop} {u:Value} {c v:Int} {d:Shd} (h:shdRR.O w base F u ⟨c,v,d⟩):∃p1 p2 p3 p4 p5 m1 m2 m3 m4 m5 q1 q2 q3 q4 q5,u =.agg #[.int .i64 c,.int .i64 v,.int .i64 d.idx,.slice p1 m1 q1,.slice p2 m2 q2,.slice p3 m3 q3,.slice p4 m4 q4,.slice p5 m5 q5]:=by
 obtain⟨a1,a2,a3,a4,a5,c1,c2,c3,c4,c5,e⟩:=fTu (shdRR.ofO h);exact⟨a1,a2,a3,a4,a5,_,_,_,_,_,c1,c2,c3,c4,c5,e⟩
def fWd (w:World) (bt:Nat) (d:Shd) (c:Cont) (q:Int) (older:List PanicEntry) (e:Ending) (u':FrameMode) (w':World):Prop:=
 e =.returned (.tuple #[])∧u' =.panicking ({v:=refV q,recovered:=true}::older)∧∃w1 p1 p2 p3 p4 p5 m1 m2 m3 m4 m5 q1 q2 q3 q4 q5 F,Below w.heap.size w w1∧shdRR.O w1 w.heap.size F (.agg #[.int .i64 0,.int .i64 2,.int .i64 d.idx,.slice p1 m1 q1,.slice p2 m2 q2,.slice p3 m3 q3,.slice p4 m4 q4,.slice p5 m5 q5]) ⟨0,2,votV d c.id 2⟩∧w'=(((((((w1.setCell ⟨bt,0,none⟩ (.int .i64 0)).setCell ⟨bt,1,none⟩ (.int .i64 2)).setCell ⟨bt,2,none⟩ (.int .i64 d.idx)).setCell ⟨bt,3,none⟩ (.slice p1 m1 q1)).setCell ⟨bt,4,none⟩ (.slice p2 m2 q2)).setCell ⟨bt,5,none⟩ (.slice p3 m3 q3)).setCell ⟨bt,6,none⟩ (.slice p4 m4 q4)).setCell ⟨bt,7,none⟩ (.slice p5 m5 q5)
structure DoorOk (w:World) (bs bc bt:Nat) (d:Shd) (c:Cont):Prop where
 sh:∃a1 a2 a3 a4 a5 n1 n2 n3 n4 n5 c1 c2 c3 c4 c5,(w.cell? ⟨bs,0,none⟩=some (.int .i64 d.idx)∧w.cell? ⟨bs,1,none⟩=some (.slice a1 n1 c1)∧w.cell? ⟨bs,2,none⟩=some (.slice a2 n2 c2)∧w.cell? ⟨bs,3,none⟩=some (.slice a3 n3 c3)∧w.cell? ⟨bs,4,none⟩=some (.slice a4 n4 c4)∧w.cell? ⟨bs,5,none⟩=some (.slice a5 n5 c5))∧shdR.V w (.agg #[.int .i64 d.idx,.slice a1 n1 c1,.slice a2 n2 c2,.slice a3 n3 c3,.slice a4 n4 c4,.slice a5 n5 c5]) d
 co:w.cell? ⟨bc,0,none⟩=some (.int .i64 c.id)
 ce:w.cell? ⟨bt,0,none⟩=some (.int .i64 0)∧w.cell? ⟨bt,1,none⟩=some (.int .i64 0)∧w.cell? ⟨bt,2,none⟩=some (.int .i64 0)∧w.cell? ⟨bt,3,none⟩=some (.slice none 0 0)∧w.cell? ⟨bt,4,none⟩=some (.slice none 0 0)∧w.cell? ⟨bt,5,none⟩=some (.slice none 0 0)∧w.cell? ⟨bt,6,none⟩=some (.slice none 0 0)∧w.cell? ⟨bt,7,none⟩=some (.slice none 0 0)
 fr:∀o,w.frozen? ⟨bt,o,none⟩=false
theorem DoorOk.keep {w w':World} {bs bc bt:Nat} {d:Shd} {c:Cont} (h:DoorOk w bs bc bt d c) (hb:Below w.heap.size w w'):DoorOk w' bs bc bt d c:=by
 obtain⟨a1,a2,a3,a4,a5,n1,n2,n3,n4,n5,c1,c2,c3,c4,c5,⟨y0,y1,y2,y3,y4,y5⟩,hv⟩:=h.sh;obtain⟨r0,r1,r2,r3,r4,r5,r6,r7⟩:=h.ce;refine⟨⟨a1,a2,a3,a4,a5,n1,n2,n3,n4,n5,c1,c2,c3,c4,c5,⟨cK hb y0,cK hb y1,cK hb y2,cK hb y3,cK hb y4,cK hb y5⟩,shdR.below hv hb⟩,cK hb h.co,⟨cK hb r0,cK hb r1,cK hb r2,cK hb r3,cK hb r4,cK hb r5,cK hb r6,cK hb r7⟩,fun o=>?_⟩;rw[hb.frozen (p:=⟨bt,o,none⟩) (wL w ⟨bt,0,none⟩ r0)];exact h.fr o
theorem fCe (bs bc bt:Nat) (d:Shd) (c:Cont) (q:Int) (older:List PanicEntry) (w:World) (hd:DoorOk w bs bc bt d c) (hok:ShdOk d) :
  CallsD Tryz.prog 175 #[.pointer (some ⟨bs,0,none⟩),.pointer (some ⟨bc,0,none⟩),.pointer (some ⟨bt,0,none⟩)] (.panicking ({v:=refV q,recovered:=false}::older)) w (fWd w bt d c q older):=by
 obtain⟨a1,a2,a3,a4,a5,n1,n2,n3,n4,n5,c1,c2,c3,c4,c5,⟨y0,y1,y2,y3,y4,y5⟩,hv⟩:=hd.sh;obtain⟨r0,r1,r2,r3,r4,r5,r6,r7⟩:=hd.ce;refine callsD_of_wpS Tryz.func175 rfl fun c₀ cs hu=>?_
 apply wpS_seq;apply wpS_region;simp[wpOpsS,go_sem,recoverD,hu,Tryz.ntmps175,Exit.thenS];refine(fBv q w).mono ?_;rintro e w1 ⟨rfl,hb⟩;have hd1:=hd.keep hb;have x0:=hd1.co;have rf:=hd1.fr;replace y0:=cK hb y0;replace y1:=cK hb y1;replace y2:=cK hb y2;replace y3:=cK hb y3;replace y4:=cK hb y4;replace y5:=cK hb y5;replace r0:=cK hb r0;replace r1:=cK hb r1;replace r2:=cK hb r2;replace r3:=cK hb r3;replace r4:=cK hb r4;replace r5:=cK hb r5;replace r6:=cK hb r6;replace r7:=cK hb r7;replace hv:=shdR.below hv hb;have HCp:Hid (bW w1 fun W=>Calls Tryz.prog 68 #[.agg #[.int .i64 d.idx,.slice a1 n1 c1,.slice a2 n2 c2,.slice a3 n3 c3,.slice a4 n4 c4,.slice a5 n5 c5]] W fun e w'=>∃v F,e =.returned v∧shdR.O w' W.heap.size F v d∧Below W.heap.size W w'):=fun W hW=>uP _ d W (shdR.below hv hW) ⟨by have:=zT (pE hok.base).2;omega,by have:=hok.ls.nv;omega,by have:=hok.ls.nh;omega,by have:=hok.ls.nd;omega,by have:=hok.ls.na;omega⟩ (fun k hk=>by have:=hok.held.len hk;omega)
 have HVo:Hid (∀W F x,shdR.O W w1.heap.size F x d→w1.heap.size≤W.heap.size→Calls Tryz.prog 177 #[x,.int .i64 c.id,.int .i64 2] W fun e w'=>∃u F',e =.returned u∧shdRR.O w' w1.heap.size F' u ⟨0,2,votV d c.id 2⟩∧Below w1.heap.size W w'∧∀b,F' b→F b∨W.heap.size≤b):=fun W F x ho hl=>fPf x d c.id 2 w1.heap.size F W ho hl (by have:=hok.ls.nv;omega) hok.ls.ov.rise
 clear hd hd1 hv hok;simp[wpOpsS,go_sem,recoverD,Exit.thenS];apply wpS_seq;apply wpS_region;simp[wpOpsS,go_sem,recoverD,Exit.thenS];refine wpS_cond (t:=true) (by simp[Act.eval,Array.replicate]) ?_;simp only[if_true];refine wpS_of_wp ?_;refine wp_region_noPanic ?_;refine fB (fun W=>Below w1.heap.size w1 W∧W.cell? ⟨bs,0,none⟩=some (.int .i64 d.idx)∧W.cell? ⟨bs,1,none⟩=some (.slice a1 n1 c1)∧W.cell? ⟨bs,2,none⟩=some (.slice a2 n2 c2)∧W.cell? ⟨bs,3,none⟩=some (.slice a3 n3 c3)∧W.cell? ⟨bs,4,none⟩=some (.slice a4 n4 c4)∧W.cell? ⟨bs,5,none⟩=some (.slice a5 n5 c5)∧W.cell? ⟨bc,0,none⟩=some (.int .i64 c.id)) 5 kF ⟨qBq,cK qBq y0,cK qBq y1,cK qBq y2,cK qBq y3,cK qBq y4,cK qBq y5,cK qBq x0⟩ (fun hS=>?_);refine tY 0 ?_;refine tY 2 ?_;refine tY 3 ?_;refine uS 1 rfl (fun K hK=>?_);go_simp;refine(HCp.out _ hS.1).mono ?_;rintro e w2 ⟨v2,F2,rfl,o2,hb2⟩;have hb2':Below w1.heap.size w1 w2:=bS hS.1 hb2;have hS2:=And.intro hb2' (kS7 hb2 hS.2);refine hK _ _ (fun _=>hS2) ?_;clear hK K hb2;have HO2:Hid (shdR.O w2 w1.heap.size F2 v2 d):=shdR.base o2 hS.1.size;clear o2 hS;obtain⟨e1,e2,e3,e4,e5,f1,f2,f3,f4,f5,rfl⟩:=mF HO2.out;try simp only[jX]
 refine uS 4 rfl (fun K hK=>?_);go_simp;refine(HVo.out _ _ _ HO2.out hb2'.size).mono ?_;rintro e w3 ⟨v3,F3,rfl,o3,hb3,hF3⟩;have hb3':Below w1.heap.size w1 w3:=Below.trans hb2' hb3;obtain⟨p1,p2,p3,p4,p5,m1,m2,m3,m4,m5,q1,q2,q3,q4,q5,rfl⟩:=mD o3;refine hK _ _ (fun _=>⟨hb3',cK hb3' y0,cK hb3' y1,cK hb3' y2,cK hb3' y3,cK hb3' y4,cK hb3' y5,cK hb3' x0⟩) ?_;clear hK K hS2;have HO3:Hid (shdRR.O w3 w.heap.size F3 (.agg #[.int .i64 0,.int .i64 2,.int .i64 d.idx,.slice p1 m1 q1,.slice p2 m2 q2,.slice p3 m3 q3,.slice p4 m4 q4,.slice p5 m5 q5]) ⟨0,2,votV d c.id 2⟩):=shdRR.base o3 hb.size;have hB3:Below w.heap.size w w3:=bS hb hb3';have zt:=wL w1 _ r0;replace r0:=cK hb3' r0;replace r1:=cK hb3' r1;replace r2:=cK hb3' r2;replace r3:=cK hb3' r3;replace r4:=cK hb3' r4;replace r5:=cK hb3' r5;replace r6:=cK hb3' r6;replace r7:=cK hb3' r7;replace rf:∀o,w3.frozen? ⟨bt,o,none⟩=false:=fun o=>by rw[hb3'.frozen (p:=⟨bt,o,none⟩) zt];exact rf o
 clear o3 hF3;have HEx:Hid (∃p1 p2 p3 p4 p5 m1 m2 m3 m4 m5 q1 q2 q3 q4 q5 F,True):=⟨p1,p2,p3,p4,p5,m1,m2,m3,m4,m5,q1,q2,q3,q4,q5,F3,trivial⟩;try simp only[jX]
 refine uS 5 rfl (fun K hK=>?_);go_simp;refine hK _ _ (fun h=>absurd rfl h) ?_;clear hK K;refine dP ?_;cases c₀;simp only[bodyPostS,results,Tryz.results175];exact⟨trivial,_,rfl,.tuple #[],by simp,rfl,rfl,w3,p1,p2,p3,p4,p5,m1,m2,m3,m4,m5,q1,q2,q3,q4,q5,F3,hB3,HO3.out,rfl⟩
theorem fJu (bs bc bt:Nat) (w:World) :
  CallsD Tryz.prog 175 #[.pointer (some ⟨bs,0,none⟩),.pointer (some ⟨bc,0,none⟩),.pointer (some ⟨bt,0,none⟩)] .returning w fun e u' w'=>e =.returned (.tuple #[])∧u' =.returning∧Below w.heap.size w w':=by
 refine callsD_of_wpS Tryz.func175 rfl fun c₀ cs hu=>?_
 apply wpS_seq;apply wpS_region;simp[wpOpsS,go_sem,recoverD,hu,Tryz.ntmps175,Exit.thenS];refine(fBu w).mono ?_;rintro e w1 ⟨rfl,hb⟩;simp[wpOpsS,go_sem,recoverD,Exit.thenS];apply wpS_seq;apply wpS_region;simp[wpOpsS,go_sem,recoverD,Exit.thenS];refine wpS_cond (t:=false) (by simp[Act.eval,Array.replicate]) ?_;simp only[Bool.false_eq_true,if_false];refine wpS_of_wp (wp_skip ?_);cases c₀;simp_all [bodyPostS,results,Tryz.results175]
def rP (w:World) (Z:ShdR) (e:Ending) (w':World):Prop:=∃v F,e =.returned v∧shdRR.O w' w.heap.size F v Z∧Below w.heap.size w w'
theorem fXo (w W:World) (tm:Array Value) (bs bc bt:Nat) (d:Shd) (c:Cont) (Z:ShdR) (q:Int) (hz:Z=⟨0,2,votV d c.id 2⟩) (ht:tm[4]? = some (.pointer (some ⟨bt,0,none⟩))) (hB:w.heap.size≤bt) (hd:DoorOk W bs bc bt d c) (hok:ShdOk d) (hb:Below w.heap.size w W) :
  Leaves Tryz.prog Tryz.f145 tm (rP w Z) [{target:=.fn (.func 175) #[.pointer (some ⟨bs,0,none⟩),.pointer (some ⟨bc,0,none⟩),.pointer (some ⟨bt,0,none⟩)],args:=#[]}] (.panicking [{v:=refV q,recovered:=false}]) W:=by
 refine leaves_cons (f:=175) (args:=#[.pointer (some ⟨bs,0,none⟩),.pointer (some ⟨bc,0,none⟩),.pointer (some ⟨bt,0,none⟩)]) (by simp) sG ?_;refine(fCe bs bc bt d c q [] W hd hok).mono ?_;rintro e u' w2 ⟨rfl,rfl,w1,p1,p2,p3,p4,p5,m1,m2,m3,m4,m5,q1,q2,q3,q4,q5,F,hb1,ho,rfl⟩;obtain⟨r0,r1,r2,r3,r4,r5,r6,r7⟩:=(hd.keep hb1).ce;have rf:=(hd.keep hb1).fr;have zt:=wL W _ hd.ce.1;have hB1:Below w.heap.size w w1:=bS hb hb1;have hn:¬F bt:=fun h=>by have:=(shdRR.rng ho bt h).1;dsimp only at zt;omega
 subst hz;refine⟨.agg #[.int .i64 0,.int .i64 2,.int .i64 d.idx,.slice p1 m1 q1,.slice p2 m2 q2,.slice p3 m3 q3,.slice p4 m4 q4,.slice p5 m5 q5],?_,_,F,rfl,?_,?_⟩
 ·simp[results,Tryz.results145,go_sem,ht,r0,r1,r2,r3,r4,r5,r6,r7,rf]
 ·exact vD shdRR (shdRR.base ho hb.size) hn _ _ _ _ _ _ _ _
 exact((((((((hB1).setCell (p:=⟨bt,0,none⟩) hB _).setCell (p:=⟨bt,1,none⟩) hB _).setCell (p:=⟨bt,2,none⟩) hB _).setCell (p:=⟨bt,3,none⟩) hB _).setCell (p:=⟨bt,4,none⟩) hB _).setCell (p:=⟨bt,5,none⟩) hB _).setCell (p:=⟨bt,6,none⟩) hB _).setCell (p:=⟨bt,7,none⟩) hB _
theorem fXp (w W:World) (tm:Array Value) (bs bc bt:Nat) (Z:ShdR) (u0 u1 u2 u3 u4 u5 u6 u7:Value) (F:Nat→Prop) (ho:shdRR.O W w.heap.size F (.agg #[u0,u1,u2,u3,u4,u5,u6,u7]) Z) (ht:tm[4]? = some (.pointer (some ⟨bt,0,none⟩))) (hce:W.cell? ⟨bt,0,none⟩=some (u0)∧W.cell? ⟨bt,1,none⟩=some (u1)∧W.cell? ⟨bt,2,none⟩=some (u2)∧W.cell? ⟨bt,3,none⟩=some (u3)∧W.cell? ⟨bt,4,none⟩=some (u4)∧W.cell? ⟨bt,5,none⟩=some (u5)∧W.cell? ⟨bt,6,none⟩=some (u6)∧W.cell? ⟨bt,7,none⟩=some (u7)) (hb:Below w.heap.size w W) :
  Leaves Tryz.prog Tryz.f145 tm (rP w Z) [{target:=.fn (.func 175) #[.pointer (some ⟨bs,0,none⟩),.pointer (some ⟨bc,0,none⟩),.pointer (some ⟨bt,0,none⟩)],args:=#[]}] .returning W:=by
 refine leaves_cons (f:=175) (args:=#[.pointer (some ⟨bs,0,none⟩),.pointer (some ⟨bc,0,none⟩),.pointer (some ⟨bt,0,none⟩)]) (by simp) sG ?_;refine(fJu bs bc bt W).mono ?_;rintro e u' w2 ⟨rfl,rfl,hb1⟩;obtain⟨r0,r1,r2,r3,r4,r5,r6,r7⟩:=hce;replace r0:=cK hb1 r0;replace r1:=cK hb1 r1;replace r2:=cK hb1 r2;replace r3:=cK hb1 r3;replace r4:=cK hb1 r4;replace r5:=cK hb1 r5;replace r6:=cK hb1 r6;replace r7:=cK hb1 r7;refine⟨.agg #[u0,u1,u2,u3,u4,u5,u6,u7],?_,_,F,rfl,shdRR.keep ho hb1,bS hb hb1⟩;simp[results,Tryz.results145,go_sem,ht,r0,r1,r2,r3,r4,r5,r6,r7]
theorem fXq (w:World) (base:Nat) (c:Int):∃F,shdRR.O w base F (.agg #[.int .i64 c,.int .i64 0,.int .i64 0,.slice none 0 0,.slice none 0 0,.slice none 0 0,.slice none 0 0,.slice none 0 0]) (errH c):=by
 obtain⟨F,h⟩:=fJe w base;exact⟨F,uZ (d:=⟨0,[],[],[],[],[]⟩) c 0 h⟩
theorem mJ {w W:World} {Z:ShdR} {c:Int} (h:Z=errH c) (hb:Below w.heap.size w W):rP w Z (.returned (.agg #[.int .i64 c,.int .i64 0,.int .i64 0,.slice none 0 0,.slice none 0 0,.slice none 0 0,.slice none 0 0,.slice none 0 0])) W:=by
 obtain⟨F,ho⟩:=fXq W w.heap.size c;rw[h];exact⟨_,F,rfl,ho,hb⟩
theorem fPo {d:Shd} {c:Cont} (h:¬qU d c=0):rO d c=errH (qU d c):=by
 unfold qU at h ⊢;unfold rO;by_cases h0:shdF d=0
 ·
  rw[if_pos h0] at h ⊢;rw[if_pos h0];by_cases h1:fA c.id c.legs=0
  ·
   rw[if_pos h1] at h ⊢;rw[if_pos h1];by_cases h2:(onSh d.idx c.legs).length=0
   ·rw[if_pos h2,if_pos h2]
   rw[if_neg h2] at h;exact absurd rfl h
  rw[if_neg h1,if_neg h1]
 rw[if_neg h0,if_neg h0]
theorem fRx {d:Shd} {c:Cont} (h:qU d c=0):shdF d=0∧fA c.id c.legs=0∧rO d c=mX d c:=by
 unfold qU at h;unfold rO;by_cases h0:shdF d=0
 ·
  rw[if_pos h0] at h;rw[if_pos h0];by_cases h1:fA c.id c.legs=0
  ·
   rw[if_pos h1] at h;rw[if_pos h1];by_cases h2:(onSh d.idx c.legs).length=0
   ·rw[if_pos h2] at h;omega
   exact⟨h0,h1,by rw[if_neg h2]⟩
  rw[if_neg h1] at h;exact absurd h h1
 rw[if_neg h0] at h;exact absurd h h0
theorem fH8 {d:Shd} {c:Cont} (h:¬fK c.id d.votes=0):mX d c=⟨0,fK c.id d.votes,d⟩:=by unfold mX;rw[if_neg h]
theorem fF2 {d:Shd} {c:Cont} (h:fK c.id d.votes=0) (h1:100≤d.votes.length):mX d c=errH 2:=by unfold mX;rw[if_pos h,if_pos h1]
theorem fH9 {d:Shd} {c:Cont} (h:fK c.id d.votes=0) (h1:¬100≤d.votes.length) (h2:kR d c=true):mX d c=⟨0,1,votV (yS d c) c.id 1⟩:=by unfold mX;rw[if_pos h,if_neg h1,if_pos h2];rfl
theorem fLm {d:Shd} {c:Cont} (h:fK c.id d.votes=0) (h1:¬100≤d.votes.length) (h2:kR d c=false):mX d c=⟨0,2,votV d c.id 2⟩:=by unfold mX;rw[if_pos h,if_neg h1,if_neg (by rw[h2];exact Bool.false_ne_true)];rfl
theorem fQj (x y:Value) (d:Shd) (c:Cont) (w:World) (hx:shdR.V w x d) (hy:contR.V w y c) :
  Calls Tryz.prog 145 #[x,y] w (rP w (rO d c)):=by
 have HAs:Hid (bW w fun W=>RI 173 #[x,y] W (.int .i64 (qU d c))):=fun W hW=>fRy x y d c W (shdR.below hx hW) (contR.below hy hW)
 have HHo:Hid (bW w fun W=>ShdOk d→fA c.id c.legs=0→Calls Tryz.prog 178 #[x,y] W (fWe d c W)):=fun W hW hok hcf=>fMc x y d c W (shdR.below hx hW) (contR.below hy hW) hok hcf
 have HCp:Hid (bW w fun W=>ShdOk d→Calls Tryz.prog 68 #[x] W fun e w'=>∃v F,e =.returned v∧shdR.O w' W.heap.size F v d∧Below W.heap.size W w'):=fun W hW hok=>uP x d W (shdR.below hx hW) ⟨by have:=zT (pE hok.base).2;omega,by have:=hok.ls.nv;omega,by have:=hok.ls.nh;omega,by have:=hok.ls.nd;omega,by have:=hok.ls.na;omega⟩ (fun k hk=>by have:=hok.held.len hk;omega)
 have HVo:Hid (∀W F v e,shdR.O W e F v (yS d c)→e≤W.heap.size→ShdOk d→Calls Tryz.prog 177 #[v,.int .i64 c.id,.int .i64 1] W fun r w'=>∃u F',r =.returned u∧shdRR.O w' e F' u ⟨0,1,votV (yS d c) c.id 1⟩∧Below e W w'∧∀b,F' b→F b∨W.heap.size≤b):=fun W F v e ho hl hok=>fPf v (yS d c) c.id 1 e F W ho hl (by have:=hok.ls.nv;show d.votes.length≤1000;omega) hok.ls.ov.rise
 have HX:Hid (bW w fun W=>shdR.V W x d):=fun W hW=>shdR.below hx hW
 obtain⟨u1,u2,u3,u4,u5,rfl,h1,h2,h3,h4,h5⟩:=hx;have HVi:Hid (bW w fun W=>ShdOk d→RI 174 #[u2,.int .i64 c.id] W (.int .i64 (fK c.id d.votes))):=fun W hW hok=>yN u2 d.votes c.id W (mrksR.below h2 hW) (by have:=hok.ls.nv;omega) hok.ls.ov.rise
 obtain⟨a1,c1,rfl⟩:=fP h1;obtain⟨a2,c2,rfl⟩:=fF h2;obtain⟨a3,c3,rfl⟩:=fM h3;obtain⟨a4,c4,rfl⟩:=fF h4;obtain⟨a5,c5,rfl⟩:=gJ h5;obtain⟨uy,rfl,hy⟩:=hy;obtain⟨ax,cx,rfl⟩:=kP hy;clear h1 h2 h3 h4 h5 hy;have HE0:Hid (¬qU d c=0→rO d c=errH (qU d c)):=fun h=>fPo h
 have HE1:Hid (qU d c=0→shdF d=0∧fA c.id c.legs=0∧rO d c=mX d c):=fun h=>fRx h
 have HE2:Hid (¬fK c.id d.votes=0→mX d c=⟨0,fK c.id d.votes,d⟩):=fun h=>fH8 h
 have HE3:Hid (fK c.id d.votes=0→100≤d.votes.length→mX d c=errH 2):=fun h h1=>fF2 h h1
 have HE4:Hid (fK c.id d.votes=0→¬100≤d.votes.length→kR d c=true→mX d c=⟨0,1,votV (yS d c) c.id 1⟩):=fun h h1 h2=>fH9 h h1 h2
 have HE5:Hid (fK c.id d.votes=0→¬100≤d.votes.length→kR d c=false→mX d c=⟨0,2,votV d c.id 2⟩):=fun h h1 h2=>fLm h h1 h2
 have HOk:Hid (shdF d=0→ShdOk d∧d.votes.length≤100):=fun h=>⟨vP h,(vP h).ls.nv⟩
 generalize hn1:d.bals.length=n1 at *;generalize hn2:d.votes.length=n2 at *;generalize hn3:d.held.length=n3 at *;generalize hn4:d.done.length=n4 at *;generalize hn5:d.appl.length=n5 at *;have HN:Hid (d.bals.length=n1∧d.votes.length=n2∧d.held.length=n3∧d.done.length=n4∧d.appl.length=n5):=⟨hn1,hn2,hn3,hn4,hn5⟩;clear hn1 hn2 hn3 hn4 hn5;generalize c.legs.length=nx at *;generalize rO d c=Z at *;generalize qU d c=ac at *;generalize fK c.id d.votes=fv at *;have hmf:∀(fn:Fn) (first cap:Array Value) (w:World),(Instr.makeFunc fn first cap).run Tryz.prog w =.ok (.func fn first cap) w:=fun _ _ _ _=>rfl
 go_enter_defers Tryz.func145,Tryz.ntmps145
 go_wp2_with fail;refine(HAs.out _ qBq).mono ?_;rintro e w1 ⟨rfl,hb1⟩;have hB1:=bT w hb1;have hz1:=hb1.size;simp at hz1;have y0:w1.cell? ⟨w.heap.size,0,none⟩=some (.int .i64 d.idx):=cK hb1 sG;have y1:w1.cell? ⟨w.heap.size,1,none⟩=some (.slice a1 n1 c1):=cK hb1 sG;have y2:w1.cell? ⟨w.heap.size,2,none⟩=some (.slice a2 n2 c2):=cK hb1 sG;have y3:w1.cell? ⟨w.heap.size,3,none⟩=some (.slice a3 n3 c3):=cK hb1 sG;have y4:w1.cell? ⟨w.heap.size,4,none⟩=some (.slice a4 n4 c4):=cK hb1 sG;have y5:w1.cell? ⟨w.heap.size,5,none⟩=some (.slice a5 n5 c5):=cK hb1 sG;have x0:w1.cell? ⟨w.heap.size+1,0,none⟩=some (.int .i64 c.id):=cK hb1 sG;have x1:w1.cell? ⟨w.heap.size+1,1,none⟩=some (.slice ax nx cx):=cK hb1 sG;have r0:w1.cell? ⟨w.heap.size+2,0,none⟩=some (.int .i64 0):=cK hb1 sG;have r1:w1.cell? ⟨w.heap.size+2,1,none⟩=some (.int .i64 0):=cK hb1 sG;have r2:w1.cell? ⟨w.heap.size+2,2,none⟩=some (.int .i64 0):=cK hb1 sG;have r3:w1.cell? ⟨w.heap.size+2,3,none⟩=some (.slice none 0 0):=cK hb1 sG;have r4:w1.cell? ⟨w.heap.size+2,4,none⟩=some (.slice none 0 0):=cK hb1 sG;have r5:w1.cell? ⟨w.heap.size+2,5,none⟩=some (.slice none 0 0):=cK hb1 sG;have r6:w1.cell? ⟨w.heap.size+2,6,none⟩=some (.slice none 0 0):=cK hb1 sG;have r7:w1.cell? ⟨w.heap.size+2,7,none⟩=some (.slice none 0 0):=cK hb1 sG;have rf:∀o,w1.frozen? ⟨w.heap.size+2,o,none⟩=false:=fun o=>by rw[(bcell hb1).2 _ _ (by simp)];simp[go_sem]
 clear hb1 HAs;by_cases hac:ac=0;rotate_left
 ·
  have HC:Hid _:=HE0.out hac;have hac':(ac !=0)=true:=by simp[hac]
  clear HE0 HE1 HE2 HE3 HE4 HE5 HHo HCp HVo HX HVi HOk;go_wp2;refine⟨.agg #[.int .i64 ac,.int .i64 0,.int .i64 0,.slice none 0 0,.slice none 0 0,.slice none 0 0,.slice none 0 0,.slice none 0 0],by simp[results,Tryz.results145,go_sem,r0,r1,r2,r3,r4,r5,r6,r7,rf],mJ HC.out ?_⟩;exact qS
 obtain⟨hsf,hcf,hZv⟩:=HE1.out hac;obtain⟨hok,hn2⟩:=HOk.out hsf;have HOK:Hid (ShdOk d):=hok;have HZV:Hid (Z=mX d c):=hZv;have HHo':Hid (bW w fun W=>Calls Tryz.prog 178 #[.agg #[.int .i64 d.idx,.slice a1 n1 c1,.slice a2 n2 c2,.slice a3 n3 c3,.slice a4 n4 c4,.slice a5 n5 c5],.agg #[.int .i64 c.id,.slice ax nx cx]] W (fWe d c W)):=fun W hW=>HHo.out W hW hok hcf
 have HCp':Hid (bW w fun W=>Calls Tryz.prog 68 #[.agg #[.int .i64 d.idx,.slice a1 n1 c1,.slice a2 n2 c2,.slice a3 n3 c3,.slice a4 n4 c4,.slice a5 n5 c5]] W fun e w'=>∃v F,e =.returned v∧shdR.O w' W.heap.size F v d∧Below W.heap.size W w'):=fun W hW=>HCp.out W hW hok
 have HVi':Hid (bW w fun W=>RI 174 #[.slice a2 n2 c2,.int .i64 c.id] W (.int .i64 fv)):=fun W hW=>HVi.out W hW hok
 have hac':(ac !=0)=false:=by simp[hac]
 rw[hac];clear HE0 HE1 HHo HCp HVi HOk hsf hcf hZv hok hac hac';go_wp2_with fail;refine(HVi'.out _ hB1).mono ?_;rintro e w2 ⟨rfl,hb2⟩;have hB2:Below w.heap.size w w2:=bS hB1 hb2;replace y0:=cK hb2 y0;replace y1:=cK hb2 y1;replace y2:=cK hb2 y2;replace y3:=cK hb2 y3;replace y4:=cK hb2 y4;replace y5:=cK hb2 y5;replace x0:=cK hb2 x0;replace x1:=cK hb2 x1;replace r0:=cK hb2 r0;replace r1:=cK hb2 r1;replace r2:=cK hb2 r2;replace r3:=cK hb2 r3;replace r4:=cK hb2 r4;replace r5:=cK hb2 r5;replace r6:=cK hb2 r6;replace r7:=cK hb2 r7;replace rf:∀o,w2.frozen? ⟨w.heap.size+2,o,none⟩=false:=fun o=>by rw[(bcell hb2).2 _ _ oM];exact rf o
 have hz2:w.heap.size+2<w2.heap.size:=by have:=hb2.size;omega
 clear hb2 HVi' hz1 hB1;by_cases hfv:fv=0;rotate_left
 ·
  have HC:Hid (Z=⟨0,fv,d⟩):=HZV.out.trans (HE2.out hfv);have hfv':(fv !=0)=true:=by simp[hfv]
  clear HE2 HE3 HE4 HE5 HHo' HVo HX;go_wp2_with fail;refine(HCp'.out _ hB2).mono ?_;rintro e w3 ⟨v3,F3,rfl,o3,hb3⟩;obtain⟨e1,e2,e3,e4,e5,f1,f2,f3,f4,f5,rfl⟩:=mF o3;have hB3:Below w.heap.size w w3:=bS hB2 hb3;have HO:Hid (shdRR.O w3 w2.heap.size F3 (.agg #[.int .i64 0,.int .i64 fv,.int .i64 d.idx,.slice e1 d.bals.length f1,.slice e2 d.votes.length f2,.slice e3 d.held.length f3,.slice e4 d.done.length f4,.slice e5 d.appl.length f5]) ⟨0,fv,d⟩):=uZ 0 fv o3;replace r0:=cK hb3 r0;replace r1:=cK hb3 r1;replace r2:=cK hb3 r2;replace r3:=cK hb3 r3;replace r4:=cK hb3 r4;replace r5:=cK hb3 r5;replace r6:=cK hb3 r6;replace r7:=cK hb3 r7;replace rf:∀o,w3.frozen? ⟨w.heap.size+2,o,none⟩=false:=fun o=>by rw[(bcell hb3).2 _ _ oM];exact rf o
  clear o3 hb3 HCp';generalize d.bals.length=n1 at *;generalize d.votes.length=n2 at *;generalize d.held.length=n3 at *;generalize d.done.length=n4 at *;generalize d.appl.length=n5 at *;go_wp2;refine⟨.agg #[.int .i64 0,.int .i64 fv,.int .i64 d.idx,.slice e1 n1 f1,.slice e2 n2 f2,.slice e3 n3 f3,.slice e4 n4 f4,.slice e5 n5 f5],by simp[results,Tryz.results145,go_sem,r0,r1,r2,r3,r4,r5,r6,r7,rf],?_⟩;rw[HC.out];refine⟨_,F3,rfl,shdRR.base (vD shdRR HO.out (fun h=>by have:=(shdRR.rng HO.out _ h).1;omega) _ _ _ _ _ _ _ _) hB2.size,?_⟩;exact qS
 rw[hfv];by_cases hm:100≤n2
 ·
  have HC:Hid (Z=errH 2):=HZV.out.trans (HE3.out hfv hm);have hm1:((n2:Int)==100)=true:=by simp;omega
  have hm2:(n2:Int)=100:=oM;clear HE2 HE3 HE4 HE5 HHo' HVo HX HCp';go_wp2;refine⟨.agg #[.int .i64 2,.int .i64 0,.int .i64 0,.slice none 0 0,.slice none 0 0,.slice none 0 0,.slice none 0 0,.slice none 0 0],by simp[results,Tryz.results145,go_sem,r0,r1,r2,r3,r4,r5,r6,r7,rf],mJ HC.out ?_⟩;exact qS
 have HY:Hid (kR d c=true→Z=⟨0,1,votV (yS d c) c.id 1⟩):=fun h=>HZV.out.trans (HE4.out hfv hm h)
 have HNo:Hid (kR d c=false→Z=⟨0,2,votV d c.id 2⟩):=fun h=>HZV.out.trans (HE5.out hfv hm h)
 have hm1:((n2:Int)==100)=false:=by simp;omega
 have hm2:¬(n2:Int)=100:=oM;have HDo:Hid (DoorOk w2 w.heap.size (w.heap.size+1) (w.heap.size+2) d c):=⟨⟨a1,a2,a3,a4,a5,n1,n2,n3,n4,n5,c1,c2,c3,c4,c5,⟨y0,y1,y2,y3,y4,y5⟩,HX.out w2 hB2⟩,x0,⟨r0,r1,r2,r3,r4,r5,r6,r7⟩,rf⟩;clear HE2 HE3 HE4 HE5 HCp' HZV hfv hm;go_wp2;refine tF [{target:=.fn (.func 175) #[.pointer (some ⟨w.heap.size,0,none⟩),.pointer (some ⟨w.heap.size+1,0,none⟩),.pointer (some ⟨w.heap.size+2,0,none⟩)],args:=#[]}] 4 (.pointer (some ⟨w.heap.size+2,0,none⟩)) (fun c' W=>∃q,c'=[{v:=refV q,recovered:=false}]∧kR d c=false∧Below w2.heap.size w2 W) ?_ ?_
 ·rintro c' a W hd ht ⟨q,rfl,hz,hb⟩;show Leaves Tryz.prog Tryz.f145 a.tmps _ a.defers (.panicking _) W;rw[hd];exact fXo w W a.tmps _ _ _ d c Z q (HNo.out hz) ht oM (HDo.out.keep hb) HOK.out (bS hB2 hb)
 refine fB (fun W=>Below w2.heap.size w2 W∧W.cell? ⟨w.heap.size,0,none⟩=some (.int .i64 d.idx)∧W.cell? ⟨w.heap.size,1,none⟩=some (.slice a1 n1 c1)∧W.cell? ⟨w.heap.size,2,none⟩=some (.slice a2 n2 c2)∧W.cell? ⟨w.heap.size,3,none⟩=some (.slice a3 n3 c3)∧W.cell? ⟨w.heap.size,4,none⟩=some (.slice a4 n4 c4)∧W.cell? ⟨w.heap.size,5,none⟩=some (.slice a5 n5 c5)∧W.cell? ⟨w.heap.size+1,0,none⟩=some (.int .i64 c.id)∧W.cell? ⟨w.heap.size+1,1,none⟩=some (.slice ax nx cx)) 6 kF ⟨qBq,cK qBq y0,cK qBq y1,cK qBq y2,cK qBq y3,cK qBq y4,cK qBq y5,cK qBq x0,cK qBq x1⟩ (fun hS=>?_);refine xR (i:=0) (v:=?_) rfl kF kF kF kF (fun _ _ _=>PanicAs.put (by decide)) (by rfl) hS ?_ ?_;rotate_left
 ·intro wS hSw;(try dsimp only at hSw);go_simp;try with_reducible rfl
 try simp only[jX]
 refine xR (i:=1) (v:=?_) rfl kF kF kF kF (fun _ _ _=>PanicAs.put (by decide)) (by rfl) hS ?_ ?_;rotate_left
 ·intro wS hSw;(try dsimp only at hSw);go_simp;try with_reducible rfl
 try simp only[jX]
 refine xR (i:=3) (v:=?_) rfl kF kF kF kF (fun _ _ _=>PanicAs.put (by decide)) (by rfl) hS ?_ ?_;rotate_left
 ·intro wS hSw;(try dsimp only at hSw);go_simp;try with_reducible rfl
 try simp only[jX]
 refine xR (i:=4) (v:=?_) rfl kF kF kF kF (fun _ _ _=>PanicAs.put (by decide)) (by rfl) hS ?_ ?_;rotate_left
 ·intro wS hSw;(try dsimp only at hSw);go_simp;try with_reducible rfl
 try simp only[jX]
 refine uS 2 rfl (fun K hK=>?_);go_simp;refine(HHo'.out _ (bS hB2 hS.1)).mono ?_;rintro e w3 ⟨he,hb3⟩;have hb3':Below w2.heap.size w2 w3:=bS hS.1 hb3;rcases he with ⟨hrd,v3,F3,rfl,o3⟩|⟨hrd,q,rfl⟩
 rotate_left
 ·first|exact⟨rfl,rfl,⟨q,rfl⟩,hrd,hb3'⟩|exact⟨rfl,rfl,q,rfl,hrd,hb3'⟩
 have HC:Hid _:=HY.out hrd;have hS3:=And.intro hb3' (kS8 hb3 hS.2);refine hK _ _ (fun _=>hS3) ?_;clear hK K hb3 hS;have HO3:Hid (shdR.O w3 w2.heap.size F3 v3 (yS d c)):=shdR.base o3 (by simp);clear o3;obtain⟨e1,e2,e3,e4,e5,f1,f2,f3,f4,f5,rfl⟩:=mF HO3.out;try simp only[jX]
 refine uS 5 rfl (fun K hK=>?_);go_simp;refine(HVo.out _ _ _ _ HO3.out hb3'.size HOK.out).mono ?_;rintro e w4 ⟨v4,F4,rfl,o4,hb4,hF4⟩;have hb4':Below w2.heap.size w2 w4:=Below.trans hb3' hb4;obtain⟨p1,p2,p3,p4,p5,m1,m2,m3,m4,m5,q1,q2,q3,q4,q5,rfl⟩:=mD o4;refine hK _ _ (fun _=>⟨hb4',cK hb4' y0,cK hb4' y1,cK hb4' y2,cK hb4' y3,cK hb4' y4,cK hb4' y5,cK hb4' x0,cK hb4' x1⟩) ?_;clear hK K hS3;have HO4:Hid (shdRR.O w4 w2.heap.size F4 (.agg #[.int .i64 0,.int .i64 1,.int .i64 d.idx,.slice p1 m1 q1,.slice p2 m2 q2,.slice p3 m3 q3,.slice p4 m4 q4,.slice p5 m5 q5]) ⟨0,1,votV (yS d c) c.id 1⟩):=o4;have hB4:Below w.heap.size w w4:=bS hB2 hb4';replace r0:=cK hb4' r0;replace r1:=cK hb4' r1;replace r2:=cK hb4' r2;replace r3:=cK hb4' r3;replace r4:=cK hb4' r4;replace r5:=cK hb4' r5;replace r6:=cK hb4' r6;replace r7:=cK hb4' r7;replace rf:∀o,w4.frozen? ⟨w.heap.size+2,o,none⟩=false:=fun o=>by rw[hb4'.frozen (p:=⟨w.heap.size+2,o,none⟩) hz2];exact rf o
 clear o4 hF4 HO3 HNo HY hb3';have hei:(votV (yS d c) c.id 1).idx=d.idx:=rfl;try simp only[jX]
 refine uS 6 rfl (fun K hK=>?_);go_simp;refine hK _ _ (fun h=>absurd rfl h) ?_;clear hK K;refine xQ kF ?_;refine PanicAs.normal ?_;go_wp2;refine fXp w _ _ _ _ (w.heap.size+2) Z (.int .i64 0) (.int .i64 1) (.int .i64 d.idx) (.slice p1 m1 q1) (.slice p2 m2 q2) (.slice p3 m3 q3) (.slice p4 m4 q4) (.slice p5 m5 q5) F4 ?_ rfl ⟨by simp[go_sem,r0,r1,r2,r3,r4,r5,r6,r7,rf],by simp[go_sem,r0,r1,r2,r3,r4,r5,r6,r7,rf],by simp[go_sem,r0,r1,r2,r3,r4,r5,r6,r7,rf],by simp[go_sem,r0,r1,r2,r3,r4,r5,r6,r7,rf],by simp[go_sem,r0,r1,r2,r3,r4,r5,r6,r7,rf],by simp[go_sem,r0,r1,r2,r3,r4,r5,r6,r7,rf],by simp[go_sem,r0,r1,r2,r3,r4,r5,r6,r7,rf],by simp[go_sem,r0,r1,r2,r3,r4,r5,r6,r7,rf]⟩ ?_
 ·rw[HC.out];exact shdRR.base (vD shdRR HO4.out (fun h=>by have:=(shdRR.rng HO4.out _ h).1;omega) _ _ _ _ _ _ _ _) hB2.size
 exact qS
end
section
variable [dQ Mrk] [iH Mrk] [dQ Leg] [iH Leg] [dQ Cont] [iH Cont] [dQ Bal] [iH Bal] [dQ Ledg] [iH Ledg]
theorem fB8 (g o j:Nat):(Addr.mk g o none).add j=⟨g,o+j,none⟩:=by
 by_cases h:j=0
 ·subst h;simp[Addr.add]
 simp[Addr.add,h]
theorem fVr {w:World} {base:Nat} {F:Nat→Prop} {x:Value} {xs:List Mrk} (h:mrksR.O w base F x xs):(x =.slice none 0 0∧xs=[])∨∃g cap,x =.slice (some ⟨g,0,none⟩) xs.length cap∧xs.length≤cap∧cap≤maxLen∧∀k,k<xs.length→qJ w g (0+k*2) (xs.getD k default):=by
 have hv:=mrksR.ofO h;rcases h.1.2 with ⟨rfl,h0⟩|⟨g,cap,cur,rfl,hbg,hg,hnc,hcm,_⟩
 ·exact .inl ⟨rfl,List.eq_nil_of_length_eq_zero h0⟩
 refine .inr ⟨g,cap,rfl,hnc,hcm,fun k hk=>?_⟩;obtain⟨a,c,e,_,_,hx⟩:=hv;obtain⟨b,o,ea,hc⟩:=hx k hk;simp only[Value.slice.injEq,true_and] at e;obtain⟨e1,_⟩:=e;rw[←e1] at ea;simp only[Option.some.injEq,Addr.mk.injEq,and_true] at ea;obtain⟨rfl,rfl⟩:=ea;exact hc
theorem fB9 (W:World) (p:Option Addr) (c:Nat):gU W (.slice p 0 c) 0 []:=by
 cases p with
 | none=>exact .inl ⟨c,rfl,rfl,rfl⟩
 | some a=>exact .inr ⟨a,c,rfl,fun j x hj=>by simp at hj⟩
theorem fK8 {e:TypeId} {w:World} {base g cap n:Nat} {cs:List Value} (h:w.ownsRow base e 2 (.slice (some ⟨g,0,none⟩) n cap) n cs) (i m c:Nat) (hi:i+m≤n) :
  gU w (.slice (some ⟨g,i*2,none⟩) m c) m ((cs.drop (i*2)).take (m*2)):=by
 refine .inr ⟨_,_,rfl,fun j x hj=>?_⟩;have hcl:cs.length=n*2:=h.1;rw[List.getElem?_take] at hj;split at hj
 ·rw[List.getElem?_drop] at hj;have:=h.cellAt (i*2+j) oM;rw[hj] at this;rw[fB8];exact this
 cases hj
theorem fDx {e:TypeId} {w:World} {base n cap k:Nat} {s:Option Addr} {cs:List Value} (h:w.ownsRow base e 2 (.slice s n cap) n cs) (hk:k≤n) :
  gU w (.slice s k cap) k (cs.take (k*2))∧gU w (.slice (if cap=k then s else Option.map (fun x=>x.add (k*2)) s) (n-k) (cap-k)) (n-k) (cs.drop (k*2)):=by
 have hcl:cs.length=n*2:=h.1;rcases h.2 with ⟨hv,h0⟩|⟨g,cp,cur,hv,_,_,hnc,_⟩
 ·simp only[Value.slice.injEq] at hv;obtain⟨rfl,_,rfl⟩:=hv;subst h0;obtain rfl:k=0:=oM;obtain rfl:cs=[]:=List.eq_nil_of_length_eq_zero oM;exact⟨by simpa using fB9 w none 0,by simpa using fB9 w none 0⟩
 simp only[Value.slice.injEq] at hv;obtain⟨rfl,_,rfl⟩:=hv;refine⟨by have h1:=fK8 h 0 k cap oM;simpa using h1,?_⟩;by_cases e:cap=k
 ·rw[if_pos e,show cs.drop (k*2)=[] from List.eq_nil_of_length_eq_zero (by rw[List.length_drop];omega),show n-k=0 by omega];exact fB9 w _ _
 rw[if_neg e];have h1:=fK8 h k (n-k) (cap-k) oM;rw[List.take_of_length_le (by rw[List.length_drop];omega)] at h1;rw[Option.map_some,fB8,Nat.zero_add];exact h1
theorem fWy (Y:World) (base:Nat) (m:Mrk) (hb:base≤Y.heap.size):mrksR.O (Y.alloc (.cells #[.int .i64 m.con,.int .i64 m.val] 166)) base (fun b=>b=Y.heap.size) (.slice (some ⟨Y.heap.size,0,none⟩) 1 1) [m]:=
 ⟨World.ownsRow_lit (base:=base) (e:=166) (size:=2) Y #[.int .i64 m.con,.int .i64 m.val] 1 hb (by decide) rfl,by funext b;simp[Value.ownBlock,eq_comm]⟩
def fGh:Nat→List Nat
 | 4=>[0]
 | 9=>[4]
 | 13=>[9]
 | _=>[]
def fE7 (base:Nat) (xs:List Mrk) (m:Mrk) (k:Nat):Nat→(Nat→Value)→(Nat→Prop)→World→Prop
 | 0,y,F,w=>mrksR.O w base F (y 23) []
 | 4,y,F,w=>mrksR.O w base F (y 27) (xs.take k)
 | 8,y,F,w=>mrksR.O w base F (y 31) [m]
 | 9,y,F,w=>mrksR.O w base F (y 32) (xs.take k++[m])
 | 13,y,F,w=>mrksR.O w base F (y 36) (xs.take k++[m]++xs.drop k)
 | _,_,_,_=>True
theorem fKq (x:Value) (xs:List Mrk) (m:Mrk) (base:Nat) (F:Nat→Prop) (w:World) (hx:mrksR.O w base F x xs) (hn:xs.length≤1048576) :
  Calls Tryz.prog 156 #[x,.int .i64 m.con,.int .i64 m.val] w fun e w'=>∃v F',e =.returned v∧mrksR.O w' w.heap.size F' v (putM xs m)∧Below w.heap.size w w':=by
 have hown:=hx.1;have hrow:=fVr hx;obtain⟨s,cap,rfl⟩:=fF (mrksR.ofO hx);obtain⟨n,hn'⟩:∃n,n=xs.length:=⟨_,rfl⟩
 have HN:Hid (xs.length=n):=hn'.symm;rw[←hn'] at hown hrow hn ⊢;have HO:Hid (w.ownsRow base 166 2 (.slice s n cap) n (gK xs)):=hown;have HC:Hid (∀k,k<n→∃g,s=some ⟨g,0,none⟩∧qJ w g (0+k*2) (xs.getD k default)):=fun k hk=>by
  rcases hrow with ⟨_,h0⟩|⟨g,cap',e,_,_,hcl⟩
  ·rw[h0] at hn';simp at hn';omega
  simp only[Value.slice.injEq] at e;exact⟨g,e.1,hcl k hk⟩
 have hnc:n≤cap∧cap≤maxLen:=by
  rcases hrow with ⟨e,h0⟩|⟨g,cap',e,hnc,hcm,hcl⟩
  ·simp only[Value.slice.injEq] at e;obtain⟨_,e1,e2⟩:=e;unfold maxLen;omega
  simp only[Value.slice.injEq] at e;obtain⟨_,_,e2⟩:=e;rw[e2];exact⟨hnc,hcm⟩
 obtain⟨hnc,hcm⟩:=hnc;have HPo:Hid (∀k,k≤n→(∀j,j<k→(xs.getD j default).con<m.con)→(k<n→¬(xs.getD k default).con<m.con)→putM xs m=xs.take k++[m]++xs.drop k):=fun k hk h1 h2=>by
  unfold putM;rw[fM9 oM h1 (fun h=>h2 oM)]
 unfold maxLen at hcm;clear hn' hown hx hrow;go_enter Tryz.func156,Tryz.ntmps156;go_wp2;go_loopw [7] (fun i w'=>∃k:Nat,k≤n∧i =.int .i64 k∧Hid (∀j,j<k→(xs.getD j default).con<m.con)∧Below w.heap.size w w') (fun i _=>n-(intOf i).toNat)
 case atStart=>exact⟨0,oM,rfl,fun j hj=>absurd hj oM,bR _ _⟩
 obtain⟨k,hk,rfl,HJ,hbl⟩:=hrel;have HG:Hid (∃go,go=decide (k<n∧(xs.getD k default).con<m.con)):=⟨_,rfl⟩;obtain⟨go,hgo⟩:=HG.out;have HG2:Hid (go=decide (k<n∧(xs.getD k default).con<m.con)):=hgo;clear HG hgo;go_upto_region 2 with fail
 go_cut [20] from 8 to 22 (fun c wx=>c =.bool go∧wx=wr)
 case first=>
  by_cases hlt:k<n
  ·
   obtain⟨g,rfl,z0,z1⟩:=HC.out k hlt;replace z0:=cK hbl z0;rw[Nat.zero_add] at z0;have k1:(k:Int)<n:=oM;have k2:(0:Int)≤k:=oM;clear z1 HJ HPo HO;generalize (xs.getD k default).con=kc at *;by_cases hco:kc<m.con
   ·go_wp2;go_meet;exact⟨by rw[HG2.out];simp[hlt,hco],rfl⟩
   go_wp2;go_meet;exact⟨by rw[HG2.out];simp[hco],rfl⟩
  have kk1:¬(k:Int)<n:=oM;go_wp2;go_meet;exact⟨by rw[HG2.out];simp[hlt],rfl⟩
 case rest=>
  obtain⟨rfl,hw⟩:=hcut;obtain rfl:=hw.symm;cases go;rotate_left
  ·
   have hh:=of_decide_eq_true HG2.out.symm;have HJ2:Hid (∀j,j<k+1→(xs.getD j default).con<m.con):=fun j hj=>by
    by_cases e:j=k
    ·rw[e];exact hh.2
    exact HJ.out j oM
   have hlt:=hh.1;clear hh HG2 HJ;go_wp2;exact⟨⟨k+1,by omega,by go_num,HJ2,qBq⟩,mI⟩
  have hgo:=of_decide_eq_false HG2.out.symm;have HP:Hid (putM xs m=xs.take k++[m]++xs.drop k):=HPo.out k hk HJ.out (fun h1=>by
   by_cases h2:(xs.getD k default).con<m.con
   ·exact absurd ⟨h1,h2⟩ hgo
   first|exact h2|omega)
  have HOw:Hid (wr.ownsRow base 166 2 (.slice s n cap) n (gK xs)):=fV HO.out hbl;clear HPo HJ hgo HG2;have c3:(k:Int)≤cap:=oM;have c4:(k:Int)≤n:=oM;have HS1:Hid (bW wr fun W=>gU W (.slice s k cap) (xs.take k).length (gK (xs.take k))):=fun W hW=>by
   rw[show(xs.take k).length=k by rw[List.length_take,HN.out];omega,fHm];exact(fDx (fV HOw.out hW) hk).1
  have HS2:Hid (bW wr fun W=>gU W (.slice (if cap=k then s else Option.map (fun x=>x.add (k*2)) s) (n-k) (cap-k)) (xs.drop k).length (gK (xs.drop k))):=fun W hW=>by
   rw[show(xs.drop k).length=n-k by rw[List.length_drop,HN.out],fHk];exact(fDx (fV HOw.out hW) hk).2
  have HT1:Hid ((xs.take k).length≤1048576∧(xs.drop k).length≤1048576):=⟨by rw[List.length_take,HN.out];omega,by rw[List.length_drop,HN.out];omega⟩;go_wp2;refine wp_region_noPanic ?_;refine fB (fun W=>Below wr.heap.size wr W) 14 kF qBq (fun hS=>?_);refine tY 1 ?_;refine tY 2 ?_;refine tY 3 ?_;refine tY 5 ?_;refine tY 6 ?_;refine tY 7 ?_;refine tY 10 ?_;refine tY 11 ?_;refine tY 12 ?_;generalize (if cap=k then s else Option.map (fun x=>x.add (k*2)) s)=q0 at *;have hb0:Below wr.heap.size wr wr.drew:=Below.drew (bR _ _);generalize wr.drew=W0 at *;refine fAd [(0,23),(4,27),(8,31),(9,32),(13,36)] fGh (fE7 W0.heap.size xs m k) kF hS ?_ ?_ ?_ ?_
  ·intro F' W W' h hm hF;exact hm.below h h.size (fun b hb=>by have:=hF b hb;have:=hb0.size;omega)
  ·
   intro p hp;simp only[List.mem_cons,List.not_mem_nil,or_false] at hp;rcases hp with rfl|rfl|rfl|rfl|rfl
   all_goals
    intro y y' F1 F' W W' h hF hm hap hF' e he;simp only[fE7] at h ⊢;rw[e];exact mrksR.mod h hm (fun b hb hf=>hap b hf hb)
  ·
   intro p hp;simp only[List.mem_cons,List.not_mem_nil,or_false] at hp;rcases hp with rfl|rfl|rfl|rfl|rfl
   all_goals
    refine⟨_,rfl,rfl,?_⟩;intro y W Φ hSW hBW hd K hK
   ·clear hd;refine⟨?_⟩;simp only[over,jX,lZ] at hK ⊢;go_simp;refine hK _ _ (fun b=>b=W.heap.size) (Mod.of_below qBq) (fun b hb=>.inr (by rw[hb];simp)) ?_;simp only[fE7,updV];exact fTb W _ hBW.size
   ·
    have g0:=(hd (0,23) (by simp) kF (.inl (by simp[fGh]))).2;clear hd;simp only[fE7] at g0;refine⟨?_⟩;simp only[over,jX,lZ] at hK ⊢;refine mR rfl ?_;refine zQ W ?hg1 (.tmp 23) (.tmp 26) ?ho1 W0.heap.size (y 23) (Φ 0) ([]) ?hs1 (.slice s k cap) (xs.take k) ?hx1 g0 (HS1.out W hSW) (by have:=HT1.out;simp only[List.length_append,List.length_cons,List.length_nil];omega) hBW.size ?_
    case hg1=>rfl
    case ho1=>rfl
    case hs1=>rfl
    case hx1=>rfl
    intro v' w' F' hO hm hl;rw[List.nil_append] at hO;refine hK _ _ F' (hm.mono (fun b hb=>⟨0,by simp[fGh],hb⟩)) (fun b hb=>(hl b hb).imp (fun h=>⟨0,by simp[fGh],h⟩) (fun h=>h)) ?_;simp only[fE7,updV];simpa using hO
   ·clear hd;refine⟨?_⟩;simp only[over,jX,lZ] at hK ⊢;go_simp;refine hK _ _ (fun b=>b=W.heap.size) (Mod.of_below qBq) (fun b hb=>.inr (by rw[hb];simp)) ?_;simp only[fE7,updV];exact fWy W _ m hBW.size
   ·
    have g0:=(hd (4,27) (by simp) kF (.inl (by simp[fGh]))).2;have g1:=(hd (8,31) (by simp) kF (.inr (by decide))).2;clear hd;simp only[fE7] at g0 g1;have hsrc:=qW (mrksR.ofO g1);refine⟨?_⟩;simp only[over,jX,lZ] at hK ⊢;refine mR rfl ?_;refine zQ W ?hg1 (.tmp 27) (.tmp 31) ?ho1 W0.heap.size (y 27) (Φ 4) (xs.take k) ?hs1 (y 31) [m] ?hx1 g0 hsrc (by have:=HT1.out.1;simp only[List.length_cons,List.length_nil];omega) hBW.size ?_
    case hg1=>rfl
    case ho1=>rfl
    case hs1=>rfl
    case hx1=>rfl
    intro v' w' F' hO hm hl;refine hK _ _ F' (hm.mono (fun b hb=>⟨4,by simp[fGh],hb⟩)) (fun b hb=>(hl b hb).imp (fun h=>⟨4,by simp[fGh],h⟩) (fun h=>h)) ?_;simp only[fE7,updV];simpa using hO
   have g0:=(hd (9,32) (by simp) kF (.inl (by simp[fGh]))).2;clear hd;simp only[fE7] at g0;refine⟨?_⟩;simp only[over,jX,lZ] at hK ⊢;refine mR rfl ?_;refine zQ W ?hg1 (.tmp 32) (.tmp 35) ?ho1 W0.heap.size (y 32) (Φ 9) (xs.take k++[m]) ?hs1 (.slice q0 (n-k) (cap-k)) (xs.drop k) ?hx1 g0 (HS2.out W hSW) (by have:=HT1.out;simp only[List.length_append,List.length_cons,List.length_nil];omega) hBW.size ?_
   case hg1=>rfl
   case ho1=>rfl
   case hs1=>rfl
   case hx1=>rfl
   intro v' w' F' hO hm hl;skip;refine hK _ _ F' (hm.mono (fun b hb=>⟨9,by simp[fGh],hb⟩)) (fun b hb=>(hl b hb).imp (fun h=>⟨9,by simp[fGh],h⟩) (fun h=>h)) ?_;simp only[fE7,updV];simpa using hO
  refine⟨_,rfl,?_⟩;intro y W Φ hSW hBW hd hap K hK;have g13:=(hd (13,36) (by simp) (by decide)).2;clear hd hap;simp only[fE7] at g13;have hz:=hBW.size;have hz0:=hb0.size;have HOf:Hid (mrksR.O W W0.heap.size (Φ 13) (y 36) (xs.take k++[m]++xs.drop k)):=g13;have hz1:=hbl.size;have hBE:Below w.heap.size w W:=bS hbl (bS hb0 hBW);refine⟨?_⟩;simp only[over,jX,lZ];clear g13 hS hSW;go_simp;refine hK _ _ ?_;clear hK K;refine NoPanic.normal ?_;go_wp2;refine bodyPost_ret (v:=y 36) (by simp[results,Tryz.results156,go_sem]) rfl ⟨_,Φ 13,rfl,?_,hBE⟩;rw[HP.out];exact mrksR.base HOf.out oM
end
end Go.Proofs.YtpibfdebfacooaaGreat

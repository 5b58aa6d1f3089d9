import Derived.Maps.AppendAt
import Derived.Test.YtpibfdebfacooaaGreatPrnCrashJournalLaw4
import Derived.Test.YtpibfdebfacooaaGreatPrnCrashJournalLaw5
set_option maxHeartbeats 4000000
set_option linter.unusedSectionVars false
set_option linter.unusedSimpArgs false
namespace Go.Proofs.YtpibfdebfacooaaGreat
open Go.RowKit
attribute [local go_sem ↓] Go.wp_at_zero Go.wp_at_succ
section
theorem PO.append {α:Type} {R:Rep α} {e size:Nat} {lv:Value→List Value} {w Y w':World} {base:Nat} {v v':Value} {n:Nat} {d:Nat→α} {cs:List Value} {us:Nat→Value} {fs:Nat→Nat→Prop} {u:Value} {F':Nat→Prop}
  (h:PO R e size lv w base v n n d cs us fs) (hbs:base≤w.heap.size) (hb:Below w.heap.size w Y) (hu:R.O Y w.heap.size F' u (d n)) (hl:(lv u).length=size)
  (hr:w'.ownsRow base e size v' (n+1) (cs++lv u)) (hg:Y.grownBy w' v.ownBlock) (hloc:v'.ownBlock=v.ownBlock∨∃g,v'.ownBlock=some g∧Y.heap.size≤g) :
  PO R e size lv w' base v' (n+1) (n+1) d (cs++lv u) (upd us n u) (upd fs n F'):=by
 have hlt:∀b,v.ownBlock=some b→b<w.heap.size:=fun b hb=>(h.row.lt b hb).2
 have hF:∀b,F' b→w.heap.size≤b∧b<Y.heap.size:=fun b hb=>R.rng hu b hb
 have hfs:∀i,i<n→∀b,fs i b→b<w.heap.size:=fun i hi b hb=>(R.rng (h.el i hi) b hb).2
 have hcl:cs.length=n*size:=h.row.1;refine⟨hr,?_,?_,?_,?_,?_⟩
 ·
  intro i hi;by_cases hik:i=n
  ·subst hik;rw[kJ,kJ];exact R.base (R.mod hu (Mod.of_grown hg) (fun b hb he=>by have:=hlt b he;have:=(hF b hb).1;omega)) hbs
  rw[upd_ne _ _ hik,upd_ne _ _ hik];exact R.mod (R.keep (h.el i oM) hb) (Mod.of_grown hg) (fun b hb=>h.out i oM b hb)
 ·
  intro i hi;by_cases hik:i=n
  ·subst hik;rw[kJ];exact hl
  rw[upd_ne _ _ hik];exact h.ln i oM
 ·
  intro i hi j hj;by_cases hik:i=n
  ·subst hik;rw[kJ,List.getElem?_append_right oM,hcl];congr 1;omega
  rw[upd_ne _ _ hik,←h.cell i oM j hj,List.getElem?_append_left];rw[hcl];have:i*size+size≤n*size:=by rw[←Nat.succ_mul];exact Nat.mul_le_mul_right _ oM
  omega
 ·
  intro i hi b hb he;by_cases hik:i=n
  ·
   subst hik;rw[kJ] at hb;rcases hloc with hloc|⟨g,hg',hge⟩
   ·rw[hloc] at he;have:=hlt b he;have:=(hF b hb).1;omega
   rw[hg'] at he;simp only[Option.some.injEq] at he;have:=(hF b hb).2;omega
  rw[upd_ne _ _ hik] at hb;rcases hloc with hloc|⟨g,hg',hge⟩
  ·rw[hloc] at he;exact h.out i oM b hb he
  rw[hg'] at he;simp only[Option.some.injEq] at he;have:=hfs i oM b hb;have:=hb;have:=h.row;have:=hlt;have hYw:w.heap.size≤Y.heap.size:=by
   have:=‹Below w.heap.size w Y›;exact this.size
  omega
 intro i j hi hj hij b h1 h2;by_cases hik:i=n
 ·subst hik;rw[kJ] at h1;rw[upd_ne _ _ (Ne.symm hij)] at h2;have:=(hF b h1).1;have:=hfs j oM b h2;omega
 rw[upd_ne _ _ hik] at h1;by_cases hjk:j=n
 ·subst hjk;rw[kJ] at h2;have:=(hF b h2).1;have:=hfs i oM b h1;omega
 rw[upd_ne _ _ hjk] at h2;exact h.sep i j oM oM hij b h1 h2
section
variable {P : Program} (w : World)
theorem fAm {ops:Array Oper} {o:Oper} {a:Act} {K:Act→World→Prop} {Q:Exit→Act→World→Prop} {E:Prop} (hgd:o.guard=none) (s x:Operand) (t:TypeId)
  (ho:o.op =.call {callee:=.builtin .append,args:=#[s,x],argTypes:=#[t,t]})
  (base:Nat) (e:TypeId) (i:TypeInfo) (z:Value) (size bytes:Nat) (ht:P.underlying t=some (.slice e)) (hi:P.info? e=some i) (hz:i.zero=some z)
  (hsize:i.size=size) (hby:i.bytes=bytes) (hzs:z.cells.size=size) (hsz:0<size)
  (v:Value) (n:Nat) (xs:List Value) (hs:a.eval s=v) (hown:w.ownsRow base e size v n xs)
  (ad:Addr) (m c:Nat) (news:List Value) (hx:a.eval x =.slice (some ad) m c) (hl:news.length=m*size) (hnews:∀j u,news[j]? = some u→w.cell? (ad.add j)=some u) (h1:∀u ∈ news,u.oneCell'=true)
  (h63:n+m≤maxLen) (hbytes:(n+m)*bytes≤140737488355328) (hbase:base≤w.heap.size)
  (h:∀v' w',w'.ownsRow base e size v' (n+m) (xs++news)→w.grownBy w' v.ownBlock→(v'.ownBlock=v.ownBlock∨v'.ownBlock=some w.heap.size)→K (a.put o.dst v') w') :
  if Region.wanted o (yielded ops a.tmps)=true then Oper.wp P o a w K Q else E:=by
 have hw:Region.wanted o (yielded ops a.tmps)=true:=by simp[Region.wanted,hgd]
 rw[if_pos hw];obtain⟨v',w',hr,h2,h3,_,h5⟩:=run_append_own_at (P:=P) w base t o.type e i z size bytes ht hi hz hsize hby hzs hsz v n xs hown ad m c news hl hnews h1 h63 hbytes hbase;unfold Oper.wp execOp;simp only[ho,resolve,invoke,builtin,Sem.run_bind,Sem.run_pure,Result.andThen_ok,List.map_toArray,List.map_cons,List.map_nil,hs,hx,hr];exact h v' w' h2 h3 h5
end
theorem fDq {P:Program} (w:World) {ops:Array Oper} {rest:List Oper} {o:Oper} {a:Act} {Q:Exit→Act→World→Prop} (hgd:o.guard=none) (s x:Operand) (t:TypeId)
  (ho:o.op =.call {callee:=.builtin .append,args:=#[s,x],argTypes:=#[t,t]})
  (base:Nat) (e:TypeId) (i:TypeInfo) (z:Value) (size bytes:Nat) (ht:P.underlying t=some (.slice e)) (hi:P.info? e=some i) (hz:i.zero=some z)
  (hsize:i.size=size) (hby:i.bytes=bytes) (hzs:z.cells.size=size) (hsz:0<size)
  (v:Value) (n:Nat) (xs:List Value) (hs:a.eval s=v) (hown:w.ownsRow base e size v n xs)
  (ad:Addr) (m c:Nat) (news:List Value) (hx:a.eval x =.slice (some ad) m c) (hl:news.length=m*size) (hnews:∀j u,news[j]? = some u→w.cell? (ad.add j)=some u) (h1:∀u ∈ news,u.oneCell'=true)
  (h63:n+m≤maxLen) (hbytes:(n+m)*bytes≤140737488355328) (hbase:base≤w.heap.size)
  (h:∀v' w',w'.ownsRow base e size v' (n+m) (xs++news)→w.grownBy w' v.ownBlock→(v'.ownBlock=v.ownBlock∨v'.ownBlock=some w.heap.size)→wpList P ops Q rest (a.put o.dst v') w') :
  wpList P ops Q (o::rest) a w:=by
 refine wpList_plain hgd fun K' hK'=>?_
 obtain⟨v',w',hr,h2,h3,_,h5⟩:=run_append_own_at (P:=P) w base t o.type e i z size bytes ht hi hz hsize hby hzs hsz v n xs hown ad m c news hl hnews h1 h63 hbytes hbase;unfold Oper.wp execOp;simp only[ho,resolve,invoke,builtin,Sem.run_bind,Sem.run_pure,Result.andThen_ok,List.map_toArray,List.map_cons,List.map_nil,hs,hx,hr];exact hK' _ _ (h v' w' h2 h3 h5)
def fB6 (w:World) (base:Nat) (v:Value) (out:List (List Byte)):Prop:=
 ∃cs us fs,PO bytesR 23 1 one w base v out.length out.length (fun i=>out.getD i default) cs us fs
theorem yK {w w':World} {base:Nat} {v:Value} {out:List (List Byte)} (h:fB6 w base v out) (hb:Below w.heap.size w w'):fB6 w' base v out:=by
 obtain⟨cs,us,fs,hp⟩:=h;exact⟨cs,us,fs,hp.keep hb⟩
theorem fW9 {w:World} {base:Nat} {v:Value} {out:List (List Byte)} (h:fB6 w base v out):∃F,bytessR.O w base F v out:=by
 obtain⟨cs,us,fs,hp⟩:=h;exact⟨_,cs,us,fs,hp,fun b=>Iff.rfl⟩
theorem fCw {w:World} {base:Nat} {v:Value} {out:List (List Byte)} (h:fB6 w base v out):∃a c,v =.slice a out.length c:=by
 obtain⟨cs,us,fs,hp⟩:=h;exact fD hp.row
theorem fK9 {w:World} {base:Nat} {v:Value} (h:w.ownsRow base 23 1 v 0 []):fB6 w base v []:=
 ⟨[],fun _=>.int .i64 0,fun _ _=>False,h,fun _ h=>absurd h (Nat.not_lt_zero _),fun _ h=>absurd h (Nat.not_lt_zero _),fun _ h=>absurd h (Nat.not_lt_zero _),fun _ h=>absurd h (Nat.not_lt_zero _),fun _ _ h=>absurd h (Nat.not_lt_zero _)⟩
theorem fDd (w0 Y:World) {ops:Array Oper} {rest:List Oper} {o:Oper} {a:Act} {Q:Exit→Act→World→Prop} (hgd:o.guard=none) (s x:Operand)
  (ho:o.op =.call {callee:=.builtin .append,args:=#[s,x],argTypes:=#[111,111]})
  (base:Nat) (v:Value) (out:List (List Byte)) (hp:fB6 w0 base v out) (hbs:base≤w0.heap.size) (hb:Below w0.heap.size w0 Y)
  (F:Nat→Prop) (u:Value) (d:List Byte) (hu:bytesR.O Y w0.heap.size F u d) (hs:a.eval s=v) (hx:a.eval x =.slice (some ⟨Y.heap.size,0,none⟩) 1 1) (hlen:out.length≤1048576)
  (h:∀v' w',fB6 w' base v' (out++[d])→(∀W:World,Below base W w0→Below base W w')→wpList Tryz.prog ops Q rest (a.put o.dst v') w') :
  wpList Tryz.prog ops Q (o::rest) a (Y.alloc (.cells #[u] 23)):=by
 obtain⟨cs,us,fs,hp⟩:=hp;obtain⟨i0,hi,hz0,hz1,hz2⟩:=info_parts fQl;obtain⟨a1,c1,e1⟩:=fZ (bytesR.ofO hu);have hb':Below w0.heap.size w0 (Y.alloc (.cells #[u] 23)):=bA hb _;have hs0:=hb.size;refine fDq _ hgd s x 111 ho base 23 i0 _ 1 24 Tryz.underlying111 hi hz0 hz1 hz2 rfl (by decide) v out.length cs hs (fV hp.row hb') ⟨Y.heap.size,0,none⟩ 1 1 [u] hx rfl ?_ ?_ (by unfold maxLen;omega) oM (by rw[World.size_alloc];omega) ?_
 ·
  intro j x hj;match j,hj with
  | 0,hj=>simp at hj;subst hj;simp[Addr.add,go_sem]
  | j+1,hj=>simp at hj
 ·intro x hx;simp only[List.mem_cons,List.not_mem_nil,or_false] at hx;subst hx;rw[e1];rfl
 intro v' w' h1 h2 h3;refine h v' w' ?_ (fun W hW=>(hW.trans (hb'.mono hbs)).grown h2 (by rw[World.size_alloc];omega) (fun k hk=>((fV hp.row hb').lt k hk).1));have hd:(out++[d]).getD out.length default=d:=by simp[List.getD]
 have hp':PO bytesR 23 1 one w0 base v out.length out.length (fun i=>(out++[d]).getD i default) cs us fs:=hp.cast (fun i hi=>by simp[List.getD,List.getElem?_append_left hi]);have:=hp'.append (Y:=Y.alloc (.cells #[u] 23)) (w':=w') (v':=v') (u:=u) (F':=F) hbs hb' (by rw[hd];exact bytesR.alloc hu _) rfl h1 h2 (by
  rcases h3 with h3|h3
  ·exact .inl h3
  exact .inr ⟨_,h3,Nat.le_refl _⟩)
 refine⟨cs++one u,upd us out.length u,upd fs out.length F,?_⟩;rw[List.length_append];exact this
theorem addP (b o i:Nat):(Addr.mk b o none).add i=⟨b,o+i,none⟩:=by
 by_cases h:i=0
 ·subst h;simp[Addr.add]
 simp[Addr.add,h]
theorem pJ {w:World} {a:Option Addr} {cap:Nat} {xs:List Byte} (hx:mQ w (.slice a xs.length cap) xs) (l h:Nat) (h1:l≤h) (h2:h≤xs.length) :
  mQ w (.slice (if cap=l then a else a.map (·.add (l*1))) (h-l) (cap-l)) ((xs.drop l).take (h-l)):=by
 obtain⟨a',cap',e,g1,g2,g3⟩:=hx;simp only[Value.slice.injEq,true_and] at e;obtain⟨rfl,rfl⟩:=e;have hl:((xs.drop l).take (h-l)).length=h-l:=by rw[List.length_take,List.length_drop];omega
 refine⟨_,_,by rw[hl],oM,by omega,fun i hi=>?_⟩;rw[hl] at hi;obtain⟨b,o,rfl,hc⟩:=g3 (l+i) oM;refine⟨b,o+l,?_,?_⟩
 ·rw[if_neg oM];simp only[Option.map_some,Nat.mul_one];rw[addP]
 rw[show o+l+i=o+(l+i) by omega,hc];simp[List.getD,hi]
theorem fR6:(sizeOf (Tryz.prog.elem 23)).run Tryz.prog=fun w=>.ok 1 w:=by
 have he:Tryz.prog.elem 23=5:=kF;obtain⟨i0,hi,hz0,hz1,hz2⟩:=info_parts infoByte;funext w;simp[sizeOf,typeInfo,he,hi,hz1]
theorem undB:Tryz.prog.underlying 23=some (.slice (Tryz.prog.elem 23)):=kF
theorem cutB {a:Option Addr} {n cap:Nat} (l h:Int) (h0:0≤l) (h1:l≤h) (h2:h≤n) (hn:n≤cap) :
  ∃a' c',(∀w:World,(Instr.sliceAt 23 (.slice a n cap) (some (.int .i64 l)) (some (.int .i64 h)) none).run Tryz.prog w =.ok (.slice a' (h-l).toNat c') w) ∧
   ∀(w:World) (xs:List Byte),xs.length=n→mQ w (.slice a n cap) xs→mQ w (.slice a' (h-l).toNat c') ((xs.drop l.toNat).take (h-l).toNat):=by
 refine⟨if cap=l.toNat then a else a.map (·.add (l.toNat*1)),cap-l.toNat,fun w=>?_,fun w xs e hx=>?_⟩
 ·rw[run_sliceAt_slice (h:=undB),run_slice_lh (ht:=undB) (h0:=h0) (h1:=h1) (h2:=by omega),fR6];simp only[Result.andThen,sliced];rw[show h.toNat-l.toNat=(h-l).toNat by omega]
 subst e;have:=pJ hx l.toNat h.toNat oM oM;rw[show h.toNat-l.toNat=(h-l).toNat by omega] at this;exact this
theorem cutH {a:Option Addr} {n cap:Nat} (h:Int) (h0:0≤h) (h2:h≤n) (hn:n≤cap) :
  ∃a' c',(∀w:World,(Instr.sliceAt 23 (.slice a n cap) none (some (.int .i64 h)) none).run Tryz.prog w =.ok (.slice a' h.toNat c') w) ∧
   ∀(w:World) (xs:List Byte),xs.length=n→mQ w (.slice a n cap) xs→mQ w (.slice a' h.toNat c') (xs.take h.toNat):=by
 refine⟨if cap=0 then a else a.map (·.add (0*1)),cap-0,fun w=>?_,fun w xs e hx=>?_⟩
 ·rw[run_sliceAt_slice (h:=undB),run_slice_h (ht:=undB) (h0:=h0) (h2:=by omega),fR6];simp only[Result.andThen,sliced];rw[Nat.sub_zero]
 subst e;have:=pJ hx 0 h.toNat oM oM;rw[Nat.sub_zero,List.drop_zero] at this;exact this
theorem cutL {a:Option Addr} {n cap:Nat} (l:Int) (h0:0≤l) (h2:l≤n) (hn:n≤cap) :
  ∃a' c',(∀w:World,(Instr.sliceAt 23 (.slice a n cap) (some (.int .i64 l)) none none).run Tryz.prog w =.ok (.slice a' (n-l.toNat) c') w) ∧
   ∀(w:World) (xs:List Byte),xs.length=n→mQ w (.slice a n cap) xs→mQ w (.slice a' (n-l.toNat) c') (xs.drop l.toNat):=by
 refine⟨if cap=l.toNat then a else a.map (·.add (l.toNat*1)),cap-l.toNat,fun w=>?_,fun w xs e hx=>?_⟩
 ·rw[run_sliceAt_slice (h:=undB),run_slice_l (ht:=undB) (h0:=h0) (h1:=h2),fR6];simp only[Result.andThen,sliced]
 subst e;have:=pJ hx l.toNat xs.length oM oM;rw[show(xs.drop l.toNat).take (xs.length-l.toNat)=xs.drop l.toNat from List.take_of_length_le (by rw[List.length_drop];omega)] at this;exact this
end
section
variable [dQ Leg] [iH Leg] [dQ Cont] [iH Cont]
structure ContR where
 code:Int
 contract:Cont
variable [dQ ContR] [iH ContR]
def contRR:Rep ContR where
 V:=fun w v x=>∃u1_1,v =.agg #[.int .i64 x.code,.int .i64 x.contract.id,u1_1]∧contR.V w (.agg #[.int .i64 x.contract.id,u1_1]) x.contract
 O:=fun w base F v x=>∃u1_1 F1,v =.agg #[.int .i64 x.code,.int .i64 x.contract.id,u1_1]∧contR.O w base F1 (.agg #[.int .i64 x.contract.id,u1_1]) x.contract∧(∀b,F b↔(F1 b))
 below:=fun h hb=>by
  obtain⟨u1_1,rfl,h1⟩:=h;exact⟨u1_1,rfl,contR.below h1 hb⟩
 ofO:=fun h=>by
  obtain⟨u1_1,F1,rfl,h1,_⟩:=h;exact⟨u1_1,rfl,contR.ofO h1⟩
 mod:=fun h hm hd=>by
  obtain⟨u1_1,F1,rfl,h1,hF⟩:=h;exact⟨u1_1,F1,rfl,contR.mod h1 hm (fun b hb=>hd b ((hF b).2 hb)),hF⟩
 rng:=fun h b hb=>by
  obtain⟨u1_1,F1,rfl,h1,hF⟩:=h;rcases(hF b).1 hb with hb
  exact contR.rng h1 b hb
 base:=fun h hb=>by
  obtain⟨u1_1,F1,rfl,h1,hF⟩:=h;exact⟨u1_1,F1,rfl,contR.base h1 hb,hF⟩
variable [dQ ContR] [iH ContR]
def fV0 (xs:List Byte) (t:Nat):Leg:=⟨((xs.getD t 0).val:Int),((xs.getD (t+1) 0).val:Int),((xs.getD (t+2) 0).val:Int),IntKind.i64.wrap (hiN ((xs.drop (t+3)).take 8))⟩
def mK (xs:List Byte) (k:Nat):List Leg:=(List.range k).map (fun i=>fV0 xs (8+11*i))
theorem fBm (xs:List Byte) (k:Nat):(mK xs k).length=k:=by simp[mK]
theorem fFz (xs:List Byte) (k:Nat):mK xs (k+1)=mK xs k++[fV0 xs (8+11*k)]:=by simp[mK,List.range_succ]
theorem fM0 (xs:List Leg) (l:Leg):gN (xs++[l])=gN xs++legC l:=by simp[gN]
theorem fS9 (l:Leg):∀u ∈ legC l,u.oneCell'=true:=by
 intro u hu;simp only[legC,List.mem_cons,List.not_mem_nil,or_false] at hu;rcases hu with rfl|rfl|rfl|rfl <;> rfl
theorem fGr {w:World} {g c:Nat} {l:Leg} (h0:w.cell? ⟨g,0,none⟩=some (.int .i64 l.sh)) (h1:w.cell? ⟨g,1,none⟩=some (.int .i64 l.ac)) (h2:w.cell? ⟨g,2,none⟩=some (.int .i64 l.ast)) (h3:w.cell? ⟨g,3,none⟩=some (.int .i64 l.am)) :
  gU w (.slice (some ⟨g,0,none⟩) 1 c) 1 (legC l):=by
 refine .inr ⟨_,_,rfl,fun j x hj=>?_⟩;match j,hj with
 | 0,hj=>simp[legC] at hj;subst hj;simpa [Addr.add] using h0
 | 1,hj=>simp[legC] at hj;subst hj;simpa [Addr.add] using h1
 | 2,hj=>simp[legC] at hj;subst hj;simpa [Addr.add] using h2
 | 3,hj=>simp[legC] at hj;subst hj;simpa [Addr.add] using h3
 | j+4,hj=>simp[legC] at hj
theorem fDc (Y:World) {ops:Array Oper} {o:Oper} {a:Act} {K:Act→World→Prop} {Q:Exit→Act→World→Prop} {E:Prop} (hgd:o.guard=none) (s x:Operand)
  (ho:o.op =.call {callee:=.builtin .append,args:=#[s,x],argTypes:=#[55,55]})
  (base:Nat) (v:Value) (out:List Leg) (hs:a.eval s=v) (l:Leg) (u:Value) (hx:a.eval x=u) (hown:Y.ownsRow base 168 4 v out.length (gN out)) (hsrc:gU Y u 1 (legC l)) (hlen:out.length≤1048576) (hbase:base≤Y.heap.size)
  (h:∀v' w',w'.ownsRow base 168 4 v' (out++[l]).length (gN (out++[l]))→Y.grownBy w' v.ownBlock→(∀W:World,Below base W Y→Below base W w')→K (a.put o.dst v') w') :
  if Region.wanted o (yielded ops a.tmps)=true then Oper.wp Tryz.prog o a Y K Q else E:=by
 obtain⟨i0,hi,hz0,hz1,hz2⟩:=info_parts fEx;refine rZ Y hgd s x 55 ho base 168 i0 _ 4 32 Tryz.underlying55 hi hz0 hz1 hz2 rfl (by decide) v out.length (gN out) hs u 1 (legC l) hx hown hsrc rfl (fS9 l) (by unfold maxLen;omega) oM hbase ?_;intro v' w' h1 h2 h3;refine h v' w' ?_ h2 h3;rw[List.length_append,fM0];exact h1
def mG (xs:List Byte):Cont:=⟨IntKind.i64.wrap (hiN (xs.take 8)),mK xs ((xs.length-8) / 11)⟩
def UnSt (w w':World) (id:Int) (v:Value) (ys:List Leg):Prop:=
 (w'.cell? ⟨w.heap.size+1,0,none⟩=some (.int .i64 id)∧w'.cell? ⟨w.heap.size+1,1,none⟩=some v)∧(w'.cell? ⟨w.heap.size,0,none⟩=some (.int .i64 0)∧w'.cell? ⟨w.heap.size,1,none⟩=some (.slice none 0 0)) ∧
 ((∀o,w'.frozen? ⟨w.heap.size,o,none⟩=false)∧(∀o,w'.frozen? ⟨w.heap.size+1,o,none⟩=false))∧w.heap.size+2≤w'.heap.size∧w'.ownsRow (w.heap.size+2) 168 4 v ys.length (gN ys)∧Below w.heap.size w w'
theorem fWc {w w3:World} {x y:Value} (h:Below w.heap.size w w3∧w3.cell? ⟨w.heap.size+1,0,none⟩=some x∧w3.cell? ⟨w.heap.size+1,1,none⟩=some y) (a b:Value) :
  Below w.heap.size w ((w3.setCell ⟨w.heap.size,0,none⟩ a).setCell ⟨w.heap.size,1,none⟩ b)∧((w3.setCell ⟨w.heap.size,0,none⟩ a).setCell ⟨w.heap.size,1,none⟩ b).cell? ⟨w.heap.size+1,0,none⟩=some x ∧
   ((w3.setCell ⟨w.heap.size,0,none⟩ a).setCell ⟨w.heap.size,1,none⟩ b).cell? ⟨w.heap.size+1,1,none⟩=some y:=by
 refine⟨(h.1.setCell (Nat.le_refl _) _).setCell (Nat.le_refl _) _,?_,?_⟩
 ·rw[kD (by simp),kD (by simp)];exact h.2.1
 rw[kD (by simp),kD (by simp)];exact h.2.2
end
section
section
variable {P : Program} {ops : Array Oper} {Q : Exit → Act → World → Prop} {md : Region.Mode} {S : World → Prop} {t : Nat}
def gW (P:Program) (md:Region.Mode) (ops:Array Oper) (Q:Exit→Act→World→Prop) (S:World→Prop) (t:Nat):Nat→Array Bool→Act→World→Prop
 | 0,listed,a,w=>Region.ready md ops listed=[]∧Q .normal a w
 | f+1,listed,a,w=>(Region.ready md ops listed=[]→Q .normal a w)∧∀i ∈ Region.ready md ops listed,wpOp P ops Q i (fun a' w'=>(i≠t→S w')∧gW P md ops Q S t f (listed.setIfInBounds i true) a' w') a w
theorem fPe:∀(f:Nat) (listed:Array Bool) (a:Act) (w:World),gW P md ops Q S t f listed a w→wpAny P md ops Q f listed a w
 | 0,_,_,_,h=>h
 | f+1,_,_,_,h=>⟨h.1,fun i hi=>wpOp_mono (fun _ _ h'=>fPe f _ _ _ h'.2) (h.2 i hi)⟩
def waitsFor (md:Region.Mode) (ops:Array Oper) (t i:Nat):Bool:=
 match ops[t]? with
 | some o=>o.after.any (fun e=>Region.binds md e&&e.on==i)
 | none=>false
theorem fRp {i:Nat} {oi:Oper} {v:Value} (hi:ops[i]? = some oi) (hsel:Region.noSelect ops=true) (hw:waitsFor md ops t i=true)
  (hQ:∀c a w,Q (.panic c) (a.put oi.dst v) w→Q (.panic c) a w) :
  ∀(f:Nat) (listed:Array Bool) (a:Act) (w:World),
   (∀j oj,ops[j]? = some oj→j≠i→listed.getD j true=false→(∀e ∈ oj.after,Region.binds md e=true→e.on≠i)→oi.apart ops oj=true) →
   i ∈ Region.ready md ops listed→YieldsIf P ops S oi v a→S w →
   gW P md ops Q S t f (listed.setIfInBounds i true) (a.put oi.dst v) w→gW P md ops Q S t (f+1) listed a w:=by
 intro f;induction f with
 | zero=>
  intro listed a w _ hr hy hS H;refine⟨fun h=>(by rw[h] at hr;cases hr),fun j hj=>?_⟩;by_cases hji:j=i
  ·subst hji;exact hy.wpOp hi hS ⟨fun _=>hS,H⟩
  have hm:=ready_mono hj hji;rw[H.1] at hm;cases hm
 | succ f ih=>
  intro listed a w hfree hr hy hS H;refine⟨fun h=>(by rw[h] at hr;cases hr),fun j hj=>?_⟩;by_cases hji:j=i
  ·subst hji;exact hy.wpOp hi hS ⟨fun _=>hS,H⟩
  obtain⟨hjun,oj,hoj,hall⟩:=mem_ready.1 hj;have hun:=(mem_ready.1 hr).1;have hnl:¬listed.getD i false=true:=by
   intro h1;rcases Nat.lt_or_ge i listed.size with h'|h'
   ·simp[h'] at hun h1;rw[hun] at h1;cases h1
   simp[Array.getElem?_eq_none h'] at h1
  have hnot:∀e ∈ oj.after,Region.binds md e=true→e.on≠i:=fun e he hb heq=>hnl (by rw[←heq];exact hall e he hb)
  have hjt:j≠t:=by
   rintro rfl;unfold waitsFor at hw;rw[hoj] at hw;obtain⟨e,he,hb⟩:=Array.any_eq_true'.1 hw;simp only[Bool.and_eq_true,beq_iff_eq] at hb;exact hnot e he hb.1 hb.2
  have h1:=H.2 j (ready_mono hj hji);have h2:=wpOp_putIf hoj (hfree j oj hoj hji hjun hnot) (fun cs b=>Region.noSelect_spec hsel i oi cs b hi) (fun cs b=>Region.noSelect_spec hsel j oj cs b hoj) hQ hy h1;refine wpOp_mono (fun a' w' h3=>⟨h3.2.1,ih (listed.setIfInBounds j true) a' w' ?_ (ready_mono hr (Ne.symm hji)) h3.1 (h3.2.1 hjt) ?_⟩) h2
  ·
   intro k ok hk hki hunk hno;refine hfree k ok hk hki ?_ hno;by_cases hjk:j=k
   ·subst hjk;exact hjun
   rw[getD_set_ne true hjk] at hunk;exact hunk
  rw[Array.setIfInBounds_comm _ _ hji];exact h3.2.2
theorem xR {i:Nat} {oi:Oper} {v:Value} {f:Nat} {listed:Array Bool} {a:Act} {w:World} (hi:ops[i]? = some oi) (hsel:Region.noSelect ops=true) (hw:waitsFor md ops t i=true)
  (hf:Region.free md ops listed i=true) (hr:(Region.ready md ops listed).contains i=true) (hQ:∀c a w,Q (.panic c) (a.put oi.dst v) w→Q (.panic c) a w)
  (hwd:Region.wanted oi (yielded ops a.tmps)=true) (hS:S w) (hy:∀w,S w→(execOp a.eval oi).run P w =.ok (.value v) w)
  (h:gW P md ops Q S t f (listed.setIfInBounds i true) (a.put oi.dst v) w):gW P md ops Q S t (f+1) listed a w:=
 fRp hi hsel hw hQ f listed a w (Region.free_spec hi hf) (by simpa using hr) (Or.inl ⟨hwd,hy⟩) hS h
theorem tK {i:Nat} {oi:Oper} {v:Value} {f:Nat} {listed:Array Bool} {a:Act} {w:World} (hi:ops[i]? = some oi) (hb:(Region.noSelect ops&&waitsFor md ops t i&&Region.free md ops listed i&&(Region.ready md ops listed).contains i)=true)
  (hS:S w) (hy:∀w,S w→(execOp a.eval oi).run P w =.ok (.value v) w)
  (h:gW P md ops Q S t f (listed.setIfInBounds i true) (a.put oi.dst v) w) (hQ:∀c a w,Q (.panic c) (a.put oi.dst v) w→Q (.panic c) a w:=by exact fun _ _ _ h=>h) (hwd:Region.wanted oi (yielded ops a.tmps)=true:=by rfl):gW P md ops Q S t (f+1) listed a w:=by
 simp only[Bool.and_eq_true] at hb;exact xR hi hb.1.1.1 hb.1.1.2 hb.1.2 hb.2 hQ hwd hS hy h
theorem tL (i:Nat) {oi:Oper} {v:Value} {f:Nat} {listed:Array Bool} {a:Act} {w:World} (hi:ops[i]? = some oi) (hS:S w) (h:gW P md ops Q S t f (listed.setIfInBounds i true) (a.put oi.dst v) w) (hb:(Region.noSelect ops&&waitsFor md ops t i&&Region.free md ops listed i&&(Region.ready md ops listed).contains i)=true:=by kernel_rfl) (hQ:∀c a w,Q (.panic c) (a.put oi.dst v) w→Q (.panic c) a w:=by exact fun _ _ _ h=>h) (hwd:Region.wanted oi (yielded ops a.tmps)=true:=by rfl) (hy:∀w,S w→(execOp a.eval oi).run P w =.ok (.value v) w:=by intro wS hSw;(try dsimp only at hSw);go_simp;try with_reducible rfl):gW P md ops Q S t (f+1) listed a w:=by
 simp only[Bool.and_eq_true] at hb;exact xR hi hb.1.1.1 hb.1.1.2 hb.1.2 hb.2 hQ hwd hS hy h
theorem tY (i:Nat) {oi:Oper} {v:Value} {f:Nat} {listed:Array Bool} {a a':Act} {w:World} (h:gW P md ops Q S t f (listed.setIfInBounds i true) a' w) (hi:ops[i]? = some oi:=by rfl) (hS:S w:=by assumption) (hb:(Region.noSelect ops&&waitsFor md ops t i&&Region.free md ops listed i&&(Region.ready md ops listed).contains i)=true:=by kernel_rfl) (hQ:∀c a w,Q (.panic c) (a.put oi.dst v) w→Q (.panic c) a w:=by exact fun _ _ _ h=>h) (hwd:Region.wanted oi (yielded ops a.tmps)=true:=by rfl) (hy:∀w,S w→(execOp a.eval oi).run P w =.ok (.value v) w:=by intro wS hSw;(try dsimp only at hSw);go_simp;try with_reducible rfl) (ha:a.put oi.dst v=a':=by first|(simp only[jX];done)|(simp only[jX];rfl)|rfl):gW P md ops Q S t (f+1) listed a w:=by
 subst ha;exact tL i hi hS h hb hQ hwd hy
theorem fUc {i:Nat} {o:Oper} {f:Nat} {listed:Array Bool} {a:Act} {w:World} (hr:Region.ready md ops listed=[i]) (hi:ops[i]? = some o)
  (h:∀K:Act→World→Prop,(∀a' w',(i≠t→S w')→gW P md ops Q S t f (listed.setIfInBounds i true) a' w'→K a' w')→if Region.wanted o (yielded ops a.tmps)=true then Oper.wp P o a w K Q else K (a.put o.dst undef) w) :
  gW P md ops Q S t (f+1) listed a w:=by
 refine⟨fun h0=>(by rw[hr] at h0;cases h0),fun j hj=>?_⟩;rw[hr] at hj;have e:j=i:=by simpa using hj
 subst e;have h1:=h (fun a' w'=>(j≠t→S w')∧gW P md ops Q S t f (listed.setIfInBounds j true) a' w') (fun _ _ p q=>⟨p,q⟩);unfold wpOp;simp only[hi];split
 ·rename_i hw;rw[if_pos hw] at h1;exact .inl h1
 rename_i hw;rw[if_neg hw] at h1;exact h1
theorem uS (i:Nat) {o:Oper} {f:Nat} {listed:Array Bool} {a:Act} {w:World} (hi:ops[i]? = some o)
  (h:∀K:Act→World→Prop,(∀a' w',(i≠t→S w')→gW P md ops Q S t f (listed.setIfInBounds i true) a' w'→K a' w')→if Region.wanted o (yielded ops a.tmps)=true then Oper.wp P o a w K Q else K (a.put o.dst undef) w) (hr:Region.ready md ops listed=[i]:=by kernel_rfl) :
  gW P md ops Q S t (f+1) listed a w:=fUc hr hi h
theorem xQ {listed:Array Bool} {a:Act} {w:World} {f:Nat} (hr:Region.ready md ops listed=[]) (h:Q .normal a w):gW P md ops Q S t f listed a w:=by
 cases f with
 | zero=>exact⟨hr,h⟩
 | succ f=>exact⟨fun _=>h,by rw[hr];simp⟩
theorem dN {listed:Array Bool} {a:Act} {w:World} {f:Nat} (h:Q .normal a w) (hr:Region.ready md ops listed=[]:=by kernel_rfl):gW P md ops Q S t f listed a w:=xQ hr h
theorem dP {listed:Array Bool} {a:Act} {w:World} {f:Nat} {Q:Exit→Act→World→Prop} (h:Q .normal a w) (hr:Region.ready md ops listed=[]:=by kernel_rfl):gW P md ops (NoPanic Q) S t f listed a w:=dN (NoPanic.normal h) hr
theorem fB {id:Nat} {a:Act} {w:World} (S:World→Prop) (t:Nat) (hm:P.follows .mixedOrders=true) (hS:S w.drew) (h:S w.drew→gW P .any ops Q S t ops.size (Array.replicate ops.size false) a w.drew):(Code.region id ops true).wp P Q a w:=
 wp_region_any hm (fPe _ _ _ _ (h hS))
end
end
section
variable [dQ Leg] [iH Leg] [dQ Cont] [iH Cont] [dQ ContR] [iH ContR]
theorem fE2 (x:Value) (xs:List Byte) (w:World) (hx:bytesR.V w x xs) (h8:8≤xs.length) (h11:(xs.length-8) % 11=0) (h96:xs.length≤96) :
  Calls Tryz.prog 159 #[x] w fun e w'=>∃v F,e =.returned (.tuple #[.agg #[.int .i64 (mG xs).id,v],.bool (decide (fA (mG xs).id (mG xs).legs=0))])∧legsR.O w' w.heap.size F v (mG xs).legs∧Below w.heap.size w w':=by
 have hX:=hx;obtain⟨ax,cx,rfl,hcx,hmx,hx⟩:=hx;unfold maxLen at hmx;obtain⟨b,o,rfl,_⟩:=hx 0 oM;obtain⟨id,hid⟩:∃id,IntKind.i64.wrap (hiN (xs.take 8))=id:=⟨_,rfl⟩
 have HID:Hid (mG xs=⟨id,mK xs ((xs.length-8) / 11)⟩):=by unfold Hid mG;rw[hid]
 obtain⟨n,hn⟩:∃n,(xs.length-8) / 11=n:=⟨_,rfl⟩
 have hlen:xs.length=8+11*n:=oM;have HLEN:Hid (xs.length=8+11*n):=hlen;have hn8:n≤8:=oM;have HN:Hid ((xs.length-8) / 11=n):=hn;have c1:¬(xs.length:Int)<8:=oM;have c2:((xs.length:Int)-8).tmod 11=0:=by rw[Int.tmod_eq_emod_of_nonneg oM];omega
 have c2':((xs.length:Int)-8) % 11=0:=oM;have c2'':((((xs.length:Int)-8).tmod 11)==0)=true:=by rw[c2];rfl
 have c3:¬(96:Int)<(xs.length:Int):=oM;have c4:IntKind.i64.wrap ((xs.length:Int)-8)=xs.length-8:=by rw[IntKind.wrap_i64];omega
 have hV8:=pJ hX 0 8 oM oM;simp only[Option.map_some,Nat.mul_one,addP,Nat.zero_mul,Nat.sub_zero,List.drop_zero,Nat.add_zero,ite_self] at hV8;have hl8:8≤(xs.take 8).length:=by rw[List.length_take];omega
 have e8:(xs.take 8).take 8=xs.take 8:=by rw[List.take_take];rfl
 clear hn hlen;go_enter Tryz.func159,Tryz.ntmps159;go_wp2_with fail;refine(zJ _ (xs.take 8) _ (gG hV8 qBq) hl8).mono ?_;rintro e w1 ⟨rfl,rfl⟩;rw[e8,hid];clear e8 hl8 hV8 hid c2 c2' c2'' c4;go_wp2;go_loopw [5] (fun i w'=>∃(k t:Nat) (v:Value),k≤n∧t=8+11*k∧i =.int .i64 t∧UnSt w w' id v (mK xs k)) (fun i _=>xs.length-(intOf i).toNat)
 case atStart=>
  refine⟨0,8,.slice none 0 0,by omega,by omega,rfl,⟨sG,by simp[go_sem]⟩,⟨sG,by simp[go_sem]⟩,⟨fun o=>sG,fun o=>sG⟩,by simp,?_,qBq⟩;have:mK xs 0=[]:=rfl;rw[this];exact World.ownsRow_nil _ _ _ _
 obtain⟨k,t,v,hk,ht,rfl,⟨d0,d1⟩,⟨r0,r1⟩,⟨fr,fd⟩,hz,ho,hbl⟩:=hrel;have HT:Hid (k≤n∧t=8+11*k):=⟨hk,ht⟩;obtain⟨pv,qv,rfl⟩:=fD ho;have hzr:=wL _ _ d0;dsimp only at hzr;by_cases hlt:t<xs.length
 ·
  have hlt11:t+11≤xs.length:=by have:=HLEN.out;omega
  obtain⟨b',o',e,g0⟩:=hx t oM;simp only[Option.some.injEq,Addr.mk.injEq,and_true] at e;obtain⟨rfl,rfl⟩:=e;obtain⟨b',o',e,g1⟩:=hx (t+1) oM;simp only[Option.some.injEq,Addr.mk.injEq,and_true] at e;obtain⟨rfl,rfl⟩:=e;obtain⟨b',o',e,g2⟩:=hx (t+2) oM;simp only[Option.some.injEq,Addr.mk.injEq,and_true] at e;obtain⟨rfl,rfl⟩:=e;obtain⟨p0,hp0⟩:∃p:Int,((xs.getD t 0).val:Int)=p:=⟨_,rfl⟩
  obtain⟨p1,hp1⟩:∃p:Int,((xs.getD (t+1) 0).val:Int)=p:=⟨_,rfl⟩
  obtain⟨p2,hp2⟩:∃p:Int,((xs.getD (t+2) 0).val:Int)=p:=⟨_,rfl⟩
  have l0:=vU (xs.getD t 0);have l1:=vU (xs.getD (t+1) 0);have l2:=vU (xs.getD (t+2) 0);rw[hp0] at g0 l0;rw[hp1] at g1 l1;rw[hp2] at g2 l2;have hV3:=pJ hX (t+3) (t+11) oM oM;rw[if_neg oM] at hV3;simp only[Option.map_some,Nat.mul_one,addP] at hV3;rw[show t+11-(t+3)=8 by omega] at hV3;have hl3:8≤((xs.drop (t+3)).take 8).length:=by rw[List.length_take,List.length_drop];omega
  obtain⟨am,ham⟩:∃am,IntKind.i64.wrap (hiN ((xs.drop (t+3)).take 8))=am:=⟨_,rfl⟩
  have e3:IntKind.i64.wrap (hiN (((xs.drop (t+3)).take 8).take 8))=am:=by rw[List.take_take];exact ham
  have HL:Hid (mK xs (k+1)=mK xs k++[⟨p0,p1,p2,am⟩]):=by
   unfold Hid;rw[fFz,←ht,fV0,hp0,hp1,hp2,ham]
  have hol:(mK xs k).length≤1048576:=by rw[fBm];omega
  have w0:IntKind.i64.wrap p0=p0:=by rw[IntKind.wrap_i64];omega
  have w1:IntKind.i64.wrap p1=p1:=by rw[IntKind.wrap_i64];omega
  have w2:IntKind.i64.wrap p2=p2:=by rw[IntKind.wrap_i64];omega
  have y1:IntKind.i64.wrap ((t:Int)+1)=t+1:=by rw[IntKind.wrap_i64];omega
  have y2:IntKind.i64.wrap ((t:Int)+2)=t+2:=by rw[IntKind.wrap_i64];omega
  have y3:IntKind.i64.wrap ((t:Int)+3)=t+3:=by rw[IntKind.wrap_i64];omega
  have y4:IntKind.i64.wrap ((t:Int)+11)=t+11:=by rw[IntKind.wrap_i64];omega
  have i1:((t:Int)+1).toNat=t+1:=oM;have i2:((t:Int)+2).toNat=t+2:=oM;have i3:((t:Int)+3).toNat=t+3:=oM;have i4:((t:Int)+11).toNat=t+11:=oM;have j0:(0:Int)≤(t:Int):=oM;have j1:(t:Int)<(xs.length:Int):=oM;have j2:(t:Int)+1<(xs.length:Int):=oM;have j3:(t:Int)+2<(xs.length:Int):=oM;have j4:(t:Int)+11≤(cx:Int):=oM;have j5:¬cx=t+3:=oM;have j6:(0:Int)≤(t:Int)+1:=oM;have j7:(0:Int)≤(t:Int)+2:=oM;have j8:(0:Int)≤(t:Int)+3:=oM;have j9:(t:Int)+3≤(t:Int)+11:=oM;have hle:w.heap.size≤w.heap.size+2:=oM;have hlt0:(⟨w.heap.size,0,none⟩:Addr).block<w.heap.size+2:=by simp
  have hlt1:(⟨w.heap.size+1,0,none⟩:Addr).block<w.heap.size+2:=by simp
  generalize mK xs k=ys at *;clear hp0 hp1 hp2 ham ht hk hx;go_wp2;refine wp_region_noPanic ?_;refine fB (fun w'=>Below w.heap.size w w'∧w'.cell? ⟨b,o+t,none⟩=some (.int .u8 p0)∧w'.cell? ⟨b,o+(t+1),none⟩=some (.int .u8 p1)∧w'.cell? ⟨b,o+(t+2),none⟩=some (.int .u8 p2)∧w'.cell? ⟨w.heap.size+1,1,none⟩=some (.slice pv ys.length qv)) 30 kF ⟨Below.drew hbl,cK (Below.drew hbl) g0,cK (Below.drew hbl) g1,cK (Below.drew hbl) g2,cK (Below.drew (bR _ _)) d1⟩ (fun hS=>?_);refine tL 0 rfl hS ?_;try simp only[jX]
  refine tL 1 rfl hS ?_;try simp only[jX]
  refine tL 2 rfl hS ?_;try simp only[jX]
  refine tL 3 rfl hS ?_;try simp only[jX]
  refine tL 4 rfl hS ?_;try simp only[jX]
  refine tL 5 rfl hS ?_;try simp only[jX]
  refine tL 6 rfl hS ?_;try simp only[jX]
  refine tL 7 rfl hS ?_;try simp only[jX]
  refine tL 8 rfl hS ?_;try simp only[jX]
  refine tL 9 rfl hS ?_;try simp only[jX]
  refine tL 10 rfl hS ?_;try simp only[jX]
  refine tL 11 rfl hS ?_;try simp only[jX]
  refine tL 12 rfl hS ?_;try simp only[jX]
  refine tL 13 rfl hS ?_;try simp only[jX]
  refine tL 14 rfl hS ?_;try simp only[jX]
  refine tL 15 rfl hS ?_;try simp only[jX]
  refine tL 16 rfl hS ?_;try simp only[jX]
  refine tL 17 rfl hS ?_;try simp only[jX]
  refine tL 18 rfl hS ?_;try simp only[jX]
  refine tL 19 rfl hS ?_;try simp only[jX]
  refine tL 20 rfl hS ?_;try simp only[jX]
  refine tL 21 rfl hS ?_;try simp only[jX]
  refine tL 22 rfl hS ?_;try simp only[jX]
  refine tL 23 rfl hS ?_;try simp only[jX]
  refine tL 24 rfl hS ?_;try simp only[jX]
  refine uS 25 rfl (fun K hK=>?_);go_simp;refine(zJ _ ((xs.drop (t+3)).take 8) _ (gG hV3 (Below.drew hbl)) hl3).mono ?_;rintro e w3 ⟨rfl,rfl⟩;rw[e3];refine hK _ _ (fun _=>hS) ?_;clear hK K;try simp only[jX]
  refine tL 26 rfl hS ?_;try simp only[jX]
  refine uS 27 rfl (fun K hK=>?_);go_simp;refine hK _ _ (fun _=>⟨bA hS.1 _,cK (bA (bR _ _) _) hS.2.1,cK (bA (bR _ _) _) hS.2.2.1,cK (bA (bR _ _) _) hS.2.2.2.1,cK (bA (bR _ _) _) hS.2.2.2.2⟩) ?_;clear hK K;try simp only[jX]
  refine uS 28 rfl (fun K hK=>?_);refine fDc _ rfl _ _ rfl (w.heap.size+2) _ ys rfl ⟨p0,p1,p2,am⟩ _ rfl (fV ho (bA (Below.drew (bR _ _)) _)) ?_ hol ?_ ?_
  ·exact fGr (g:=wr.heap.size) sG sG sG sG
  ·simp;omega
  intro v5 w5 o5 hg5 hB5;obtain⟨p5,c5,rfl⟩:=fD o5;have hw5:=hB5 wr ((bA (Below.drew (Below.refl wr.heap.size wr)) _).mono hz);have hb5:=hbl.trans (hw5.mono hle);have q0:=(hw5.cell (p:=⟨w.heap.size+1,0,none⟩) hlt1).trans d0;have q1:=(hw5.cell (p:=⟨w.heap.size+1,1,none⟩) hlt1).trans d1;have q2:=(hw5.cell (p:=⟨w.heap.size,0,none⟩) hlt0).trans r0;have q3:=(hw5.cell (p:=⟨w.heap.size,1,none⟩) hlt0).trans r1;have q4:=fun o=>(hw5.frozen (p:=⟨w.heap.size,o,none⟩) hlt0).trans (fr o)
  have q5:=fun o=>(hw5.frozen (p:=⟨w.heap.size+1,o,none⟩) hlt1).trans (fd o)
  have hS5:=fXx hb5 g0 g1 g2 g2;have hS6:=And.intro hb5 (And.intro hS5.2.1 (And.intro hS5.2.2.1 (And.intro hS5.2.2.2.1 q1)));refine hK _ _ (fun _=>hS6) ?_;clear hK K;try simp only[jX]
  refine tL 29 rfl hS6 ?_;try simp only[jX]
  refine uS 30 rfl (fun K hK=>?_);go_simp;refine hK _ _ (fun h=>absurd rfl h) ?_;clear hK K;refine dP ?_;have hz5:w.heap.size+2≤w5.heap.size:=Nat.le_trans hz hw5.size;have HO5:Hid (World.ownsRow w5 (w.heap.size+2) 168 4 (.slice p5 (ys++[(⟨p0,p1,p2,am⟩:Leg)]).length c5) (ys++[(⟨p0,p1,p2,am⟩:Leg)]).length (gN (ys++[⟨p0,p1,p2,am⟩]))):=o5;have HB5:Hid (Below w.heap.size w w5):=hb5;clear hS hS5 hS6 o5 hg5 hB5 hw5 hb5;go_wp2;refine⟨⟨k+1,t+11,.slice p5 (ys++[(⟨p0,p1,p2,am⟩:Leg)]).length c5,?_,?_,by go_num,?_⟩,mI⟩
  ·have:=HT.out;have:=HLEN.out;omega
  ·have:=HT.out;omega
  rw[HL.out];refine⟨⟨?_,?_⟩,⟨?_,?_⟩,⟨fun o=>?_,fun o=>?_⟩,by simp;omega,?_,HB5.out.setCell (by simp) _⟩
  ·rw[kD (by simp)];exact q0
  ·exact(by simpa using vO q1)
  ·rw[kD (by simp)];exact q2
  ·rw[kD (by simp)];exact q3
  ·simp[q4]
  ·simp[q5]
  exact pI HO5.out (by simp) _
 have hkn:k=n:=by have:=HT.out;have:=HLEN.out;omega
 subst hkn;have HC:Hid (mG xs=⟨id,mK xs k⟩):=by unfold Hid;rw[HID.out,HN.out]
 have hLV:vB wr (.slice pv (mK xs k).length qv) (mK xs k):=gV ho;have HO:Hid (World.ownsRow wr (w.heap.size+2) 168 4 (.slice pv (mK xs k).length qv) (mK xs k).length (gN (mK xs k))):=ho;have h0:=And.intro hbl (And.intro d0 d1);have hz0:w.heap.size<wr.drew.heap.size:=by show w.heap.size<wr.heap.size;omega
 clear HID HN ht hk hx ho;generalize mK xs k=ys at *;go_wp2;go_region_held3 (fun w'=>Below w.heap.size w w'∧w'.cell? ⟨w.heap.size+1,0,none⟩=some (.int .i64 id)∧w'.cell? ⟨w.heap.size+1,1,none⟩=some (.slice pv ys.length qv)) ((first|exact fS1 h0 (Below.drew (bR _ _))|exact hS3|exact fWc hS3 _ _)) (first|(go_at_call 86;refine(uJ id _ ys _ ?_).mono ?_;(focus (exact kS hLV (Below.drew (bR _ _))));rintro e w3 ⟨rfl,hb3⟩;have hS3:=fS1 (fS1 h0 (Below.drew (bR _ _))) hb3;have e0:=cK hb3 (cK (Below.drew (bR _ _)) r0);have e1:=cK hb3 (cK (Below.drew (bR _ _)) r1);have e2:=fun o=>((bcell hb3).2 w.heap.size o hz0).trans (fr o)));have hS4:=(fWc hS3 (.int .i64 id) (.slice pv ys.length qv)).1;have HS4:Hid (Below w.heap.size w ((w3.setCell ⟨w.heap.size,0,none⟩ (.int .i64 id)).setCell ⟨w.heap.size,1,none⟩ (.slice pv ys.length qv))):=hS4;have HO3:Hid (World.ownsRow w3 (w.heap.size+2) 168 4 (.slice pv ys.length qv) ys.length (gN ys)):=fV (fV HO.out (Below.drew (bR _ _))) hb3;clear hS4 hS3 hb3 h0 hLV;go_wp2;refine bodyPost_ret (v:=.tuple #[.agg #[.int .i64 id,.slice pv ys.length qv],.bool (fA id ys==0)]) (by simp[results,Tryz.results159,go_sem,e0,e1]) rfl ?_;rw[HC.out];exact⟨_,fun b=>(Value.slice pv ys.length qv).ownBlock=some b,rfl,⟨rG (pI (pI HO3.out (by simp) _) (by simp) _) oM,rfl⟩,HS4.out⟩
theorem fDk (x:Value) (xs:List Byte) (w:World) (hx:bytesR.V w x xs) (h:¬(8≤xs.length∧(xs.length-8) % 11=0∧xs.length≤96)) :
  RI 159 #[x] w (.tuple #[.agg #[.int .i64 0,.slice none 0 0],.bool false]):=by
 obtain⟨ax,cx,rfl,hcx,hmx,_⟩:=hx;unfold maxLen at hmx;generalize xs.length=n at *;have c4:IntKind.i64.wrap ((n:Int)-8)=n-8:=by rw[IntKind.wrap_i64];omega
 by_cases h1:n<8
 ·go_enter Tryz.func159,Tryz.ntmps159;go_wp2;exact bodyPost_ret (v:=.tuple #[.agg #[.int .i64 0,.slice none 0 0],.bool false]) (by simp[results,Tryz.results159,go_sem]) rfl ⟨rfl,qBq⟩
 obtain⟨q,hq⟩:∃q,((n:Int)-8).tmod 11=q:=⟨_,rfl⟩
 have hq2:q=((n:Int)-8) % 11:=by rw[←hq,Int.tmod_eq_emod_of_nonneg oM]
 have HQ:Hid (q=((n:Int)-8) % 11):=hq2;have hq3:((n:Int)-8) % 11=q:=hq2.symm;clear hq2;by_cases h2:q=0
 ·
  have h3:96<n:=by have:=HQ.out;omega
  subst h2;go_enter Tryz.func159,Tryz.ntmps159;go_wp2;exact bodyPost_ret (v:=.tuple #[.agg #[.int .i64 0,.slice none 0 0],.bool false]) (by simp[results,Tryz.results159,go_sem]) rfl ⟨rfl,qBq⟩
 have hd:(q==0)=false:=by simpa using h2
 go_enter Tryz.func159,Tryz.ntmps159;go_wp2;all_goals exact bodyPost_ret (v:=.tuple #[.agg #[.int .i64 0,.slice none 0 0],.bool false]) (by simp[results,Tryz.results159,go_sem]) rfl ⟨rfl,qBq⟩
theorem fTa (x:Value) (ys:List Byte) (w:World) (hx:mQ w x ys) (hn:ys.length=11) :
  RI 188 #[x] w (.agg #[.int .i64 ((ys.getD 0 0).val:Int),.int .i64 ((ys.getD 1 0).val:Int),.int .i64 ((ys.getD 2 0).val:Int),.int .i64 (IntKind.i64.wrap (hiN (ys.drop 3)))]):=by
 have hX:=hx;obtain⟨ax,cx,rfl,hcx,hmx,hx⟩:=hx;unfold maxLen at hmx;obtain⟨b,o,rfl,g0⟩:=hx 0 oM;obtain⟨b',o',e,g1⟩:=hx 1 oM;simp only[Option.some.injEq,Addr.mk.injEq,and_true] at e;obtain⟨rfl,rfl⟩:=e;obtain⟨b',o',e,g2⟩:=hx 2 oM;simp only[Option.some.injEq,Addr.mk.injEq,and_true] at e;obtain⟨rfl,rfl⟩:=e;have l0:=vU (ys.getD 0 0);have l1:=vU (ys.getD 1 0);have l2:=vU (ys.getD 2 0);have hV3:=pJ hX 3 11 oM oM;rw[if_neg oM] at hV3;simp only[Option.map_some,Nat.mul_one,addP] at hV3;rw[show(ys.drop 3).take (11-3)=ys.drop 3 from List.take_of_length_le (by rw[List.length_drop];omega)] at hV3;rw[hn] at hX hcx ⊢;generalize ((ys.getD 0 0).val:Int)=p0 at *;generalize ((ys.getD 1 0).val:Int)=p1 at *;generalize ((ys.getD 2 0).val:Int)=p2 at *;obtain⟨am,ham⟩:∃am,IntKind.i64.wrap (hiN (ys.drop 3))=am:=⟨_,rfl⟩
 rw[ham];have w0:IntKind.i64.wrap p0=p0:=by rw[IntKind.wrap_i64];omega
 have w1:IntKind.i64.wrap p1=p1:=by rw[IntKind.wrap_i64];omega
 have w2:IntKind.i64.wrap p2=p2:=by rw[IntKind.wrap_i64];omega
 have j5:¬cx=3:=oM;clear hx hX hn;go_enter Tryz.func188,Tryz.ntmps188;go_wp2;go_region_held3 (fun w'=>Below w.heap.size w w'∧w'.cell? ⟨b,o,none⟩=some (.int .u8 p0)∧w'.cell? ⟨b,o+1,none⟩=some (.int .u8 p1)∧w'.cell? ⟨b,o+2,none⟩=some (.int .u8 p2)) ((refine fXw ?_ g0 g1 g2;exact qBq)) (first|(go_at_call 169;refine(tV _ (ys.drop 3) _ ?_).mono ?_;(focus (exact gG hV3 qBq));rintro e w3 ⟨rfl,rfl⟩;rw[ham]));all_goals
  rename_i hH;have hB:=hH.1;clear hH;go_wp2;exact bodyPost_ret (v:=.agg #[.int .i64 p0,.int .i64 p1,.int .i64 p2,.int .i64 am]) (by simp[results,Tryz.results188,go_sem]) rfl ⟨rfl,hB⟩
theorem fGa (x:Value) (xs:List Byte) (w:World) (hx:bytesR.V w x xs) (h8:8≤xs.length) (h11:(xs.length-8) % 11=0) (h96:xs.length≤96) :
  Calls Tryz.prog 168 #[x] w fun e w'=>∃v F,e =.returned (.agg #[.int .i64 (mG xs).id,v])∧legsR.O w' w.heap.size F v (mG xs).legs∧Below w.heap.size w w':=by
 have hX:=hx;obtain⟨ax,cx,rfl,hcx,hmx,hx⟩:=hx;unfold maxLen at hmx;obtain⟨b,o,rfl,_⟩:=hx 0 oM;obtain⟨id,hid⟩:∃id,IntKind.i64.wrap (hiN (xs.take 8))=id:=⟨_,rfl⟩
 have HID:Hid (mG xs=⟨id,mK xs ((xs.length-8) / 11)⟩):=by unfold Hid mG;rw[hid]
 obtain⟨n,hn⟩:∃n,(xs.length-8) / 11=n:=⟨_,rfl⟩
 have hlen:xs.length=8+11*n:=oM;have HLEN:Hid (xs.length=8+11*n):=hlen;have HN:Hid ((xs.length-8) / 11=n):=hn;have hV8:=pJ hX 0 8 oM oM;simp only[Option.map_some,Nat.mul_one,addP,Nat.zero_mul,Nat.sub_zero,List.drop_zero,Nat.add_zero,ite_self] at hV8;clear hn hlen;go_enter Tryz.func168,Tryz.ntmps168;go_wp2_with fail;refine(tV _ (xs.take 8) _ (gG hV8 qBq)).mono ?_;rintro e w1 ⟨rfl,rfl⟩;rw[hid];clear hV8 hid;go_wp2;go_loopw [4] (fun i w'=>∃(k t:Nat) (v:Value),k≤n∧t=8+11*k∧i =.int .i64 t∧UnSt w w' id v (mK xs k)) (fun i _=>xs.length-(intOf i).toNat)
 case atStart=>
  refine⟨0,8,.slice none 0 0,by omega,by omega,rfl,⟨sG,by simp[go_sem]⟩,⟨sG,by simp[go_sem]⟩,⟨fun o=>sG,fun o=>sG⟩,by simp,?_,qBq⟩;have:mK xs 0=[]:=rfl;rw[this];exact World.ownsRow_nil _ _ _ _
 obtain⟨k,t,v,hk,ht,rfl,⟨d0,d1⟩,⟨r0,r1⟩,⟨fr,fd⟩,hz,ho,hbl⟩:=hrel;have HT:Hid (k≤n∧t=8+11*k):=⟨hk,ht⟩;obtain⟨pv,qv,rfl⟩:=fD ho;have hzr:=wL _ _ d0;dsimp only at hzr;by_cases hlt:t<xs.length
 ·
  have hlt11:t+11≤xs.length:=by have:=HLEN.out;omega
  have hV3:=pJ hX t (t+11) oM oM;rw[if_neg oM] at hV3;simp only[Option.map_some,Nat.mul_one,addP] at hV3;rw[show t+11-t=11 by omega] at hV3;obtain⟨zs,hzs⟩:∃zs,(xs.drop t).take 11=zs:=⟨_,rfl⟩
  rw[hzs] at hV3;have hzl:zs.length=11:=by rw[←hzs,List.length_take,List.length_drop];omega
  obtain⟨l,hl⟩:∃l:Leg,l=⟨((zs.getD 0 0).val:Int),((zs.getD 1 0).val:Int),((zs.getD 2 0).val:Int),IntKind.i64.wrap (hiN (zs.drop 3))⟩:=⟨_,rfl⟩
  have HL:Hid (mK xs (k+1)=mK xs k++[l]):=by
   unfold Hid;rw[fFz,←ht,hl,←hzs];congr 2;unfold fV0;congr 1
   ·simp[List.getD]
   ·simp[List.getD]
   ·simp[List.getD]
   rw[List.drop_take,List.drop_drop]
  have hCk:∀W:World,Below w.heap.size w W→RI 188 #[.slice (some ⟨b,o+t,none⟩) 11 (cx-t)] W (.agg #[.int .i64 l.sh,.int .i64 l.ac,.int .i64 l.ast,.int .i64 l.am]):=fun W hW=>by
   rw[hl];exact fTa _ zs W (gG hV3 hW) hzl
  have hol:(mK xs k).length≤1048576:=by rw[fBm];have:=HLEN.out;omega
  have y4:IntKind.i64.wrap ((t:Int)+11)=t+11:=by rw[IntKind.wrap_i64];omega
  have i4:((t:Int)+11).toNat=t+11:=oM;have j0:(0:Int)≤(t:Int):=oM;have j1:(t:Int)<(xs.length:Int):=oM;have j4:(t:Int)+11≤(cx:Int):=oM;have j5:¬cx=t:=oM;have j9:(t:Int)≤(t:Int)+11:=oM;have hle:w.heap.size≤w.heap.size+2:=oM;have hlt0:(⟨w.heap.size,0,none⟩:Addr).block<w.heap.size+2:=by simp
  have hlt1:(⟨w.heap.size+1,0,none⟩:Addr).block<w.heap.size+2:=by simp
  generalize mK xs k=ys at *;clear hl hzs hV3 ht hk hx;go_wp2;refine wp_region_noPanic ?_;refine fB (fun w'=>Below w.heap.size w w'∧w'.cell? ⟨w.heap.size+1,1,none⟩=some (.slice pv ys.length qv)) 11 kF ⟨Below.drew hbl,cK (Below.drew (bR _ _)) d1⟩ (fun hS=>?_);refine tL 0 rfl hS ?_;try simp only[jX]
  refine tL 1 rfl hS ?_;try simp only[jX]
  refine tL 2 rfl hS ?_;try simp only[jX]
  refine tL 3 rfl hS ?_;try simp only[jX]
  refine tL 4 rfl hS ?_;try simp only[jX]
  refine tL 5 rfl hS ?_;try simp only[jX]
  refine tL 6 rfl hS ?_;try simp only[jX]
  refine uS 7 rfl (fun K hK=>?_);go_simp;refine(hCk _ (Below.drew hbl)).mono ?_;rintro e w3 ⟨rfl,hb3⟩;have hS3:=And.intro (bS hS.1 hb3) (cK hb3 hS.2);have hbr:Below wr.heap.size wr w3:=bS (Below.drew (bR _ _)) hb3;have hz3:=hbr.size;refine hK _ _ (fun _=>hS3) ?_;clear hK K;try simp only[jX]
  refine uS 8 rfl (fun K hK=>?_);go_simp;refine hK _ _ (fun _=>⟨bA hS3.1 _,cK (bA (bR _ _) _) hS3.2⟩) ?_;clear hK K;try simp only[jX]
  refine uS 9 rfl (fun K hK=>?_);refine fDc _ rfl _ _ rfl (w.heap.size+2) _ ys rfl l _ rfl (fV ho (bA hbr _)) ?_ hol ?_ ?_
  ·exact fGr (g:=w3.heap.size) sG sG sG sG
  ·simp;omega
  intro v5 w5 o5 hg5 hB5;obtain⟨p5,c5,rfl⟩:=fD o5;have hw5:=hB5 wr ((bA hbr _).mono hz);have hb5:=hbl.trans (hw5.mono hle);have q0:=(hw5.cell (p:=⟨w.heap.size+1,0,none⟩) hlt1).trans d0;have q1:=(hw5.cell (p:=⟨w.heap.size+1,1,none⟩) hlt1).trans d1;have q2:=(hw5.cell (p:=⟨w.heap.size,0,none⟩) hlt0).trans r0;have q3:=(hw5.cell (p:=⟨w.heap.size,1,none⟩) hlt0).trans r1;have q4:=fun o=>(hw5.frozen (p:=⟨w.heap.size,o,none⟩) hlt0).trans (fr o)
  have q5:=fun o=>(hw5.frozen (p:=⟨w.heap.size+1,o,none⟩) hlt1).trans (fd o)
  have hS6:=And.intro hb5 q1;refine hK _ _ (fun _=>hS6) ?_;clear hK K;try simp only[jX]
  refine tL 10 rfl hS6 ?_;try simp only[jX]
  refine uS 11 rfl (fun K hK=>?_);go_simp;refine hK _ _ (fun h=>absurd rfl h) ?_;clear hK K;refine dP ?_;have hz5:w.heap.size+2≤w5.heap.size:=Nat.le_trans hz hw5.size;have HO5:Hid (World.ownsRow w5 (w.heap.size+2) 168 4 (.slice p5 (ys++[l]).length c5) (ys++[l]).length (gN (ys++[l]))):=o5;have HB5:Hid (Below w.heap.size w w5):=hb5;clear hS hS3 hS6 o5 hg5 hB5 hw5 hb5 hb3 hbr hCk;go_wp2;refine⟨⟨k+1,t+11,.slice p5 (ys++[l]).length c5,?_,?_,by go_num,?_⟩,mI⟩
  ·have:=HT.out;have:=HLEN.out;omega
  ·have:=HT.out;omega
  rw[HL.out];refine⟨⟨?_,?_⟩,⟨?_,?_⟩,⟨fun o=>?_,fun o=>?_⟩,by simp;omega,?_,HB5.out.setCell (by simp) _⟩
  ·rw[kD (by simp)];exact q0
  ·exact(by simpa using vO q1)
  ·rw[kD (by simp)];exact q2
  ·rw[kD (by simp)];exact q3
  ·simp[q4]
  ·simp[q5]
  exact pI HO5.out (by simp) _
 have hkn:k=n:=by have:=HT.out;have:=HLEN.out;omega
 subst hkn;have HC:Hid (mG xs=⟨id,mK xs k⟩):=by unfold Hid;rw[HID.out,HN.out]
 have HO:Hid (World.ownsRow wr (w.heap.size+2) 168 4 (.slice pv (mK xs k).length qv) (mK xs k).length (gN (mK xs k))):=ho;clear HID HN ht hk hx ho;generalize mK xs k=ys at *;go_wp2;refine bodyPost_ret (v:=.agg #[.int .i64 id,.slice pv ys.length qv]) (by simp[results,Tryz.results168,go_sem,r0,r1]) rfl ?_;rw[HC.out];exact⟨_,fun b=>(Value.slice pv ys.length qv).ownBlock=some b,rfl,⟨rG (pI (pI HO.out (by simp) _) (by simp) _) oM,rfl⟩,qBq⟩
end
end Go.Proofs.YtpibfdebfacooaaGreat

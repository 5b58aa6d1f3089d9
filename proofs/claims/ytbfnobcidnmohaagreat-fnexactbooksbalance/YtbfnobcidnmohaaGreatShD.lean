import Derived.Test.YtbfnobcidnmohaaGreatPrnBooksBalanceLaw14
import Derived.BigQuiet
import Derived.Deep.QuietTactic
import Derived.Deep.RegionHeld3
set_option maxHeartbeats 16000000
set_option maxRecDepth 20000
set_option linter.unusedSimpArgs false
set_option linter.unusedVariables false
set_option linter.unusedSectionVars false
namespace Go.Proofs.YtbfnobcidnmohaaGreat
open Go.RowKit
variable [DecidableEq Rw] [Inhabited Rw] [DecidableEq Bal] [Inhabited Bal] [DecidableEq Ledg] [Inhabited Ledg] [DecidableEq Leg] [Inhabited Leg] [DecidableEq Cont] [Inhabited Cont] [DecidableEq LedgR] [Inhabited LedgR] [DecidableEq OutcR] [Inhabited OutcR] [DecidableEq Mrk] [Inhabited Mrk] [DecidableEq Shd] [Inhabited Shd] [DecidableEq ShdR] [Inhabited ShdR]
attribute [local go_sem ↓] Go.wp_at_zero Go.wp_at_succ
def yD (s:Shd):Int:=if fC (gQ s) s.held.length=0 then (if fC (gW s) s.votes.length=0 then (if uK s.done s.appl=true then vS s else 1) else 1) else fC (gQ s) s.held.length
theorem fQ6 {s:Shd} (h0:mX s.idx s.bals=0) (h1:¬(100<s.votes.length∨100<s.held.length∨100<s.done.length∨100<s.appl.length)) (h2:mrkF s.votes=0) (h3:mrkF s.done=0):shdF s=yD s:=by
 unfold shdF kD yD;rw[if_pos h0,if_neg h1,if_pos h2,if_pos h3];by_cases a:fC (gQ s) s.held.length=0
 ·
  rw[if_pos a,if_pos a];by_cases b:fC (gW s) s.votes.length=0
  ·
   rw[if_pos b,if_pos b];by_cases c:uK s.done s.appl=true
   ·
    rw[if_pos c,if_pos c,if_pos rfl]
   rw[if_neg c,if_neg c,if_neg (by omega)]
  rw[if_neg b,if_neg b,if_neg (by omega)]
 rw[if_neg a,if_neg a,if_neg a]
theorem fO9 {s:Shd} {k:Nat} {c:Int} (hk:k<s.held.length) (hs:fC (gQ s) k=0) (h:gQ s k=c) (hc:c≠0):yD s=c:=by
 have e:=fH hs (by rw[h];exact hc) _ hk;unfold yD;rw[e,h,if_neg hc]
theorem fPa {s:Shd} {k:Nat} (h0:fC (gQ s) s.held.length=0) (hk:k<s.votes.length) (hs:fC (gW s) k=0) (h:gW s k=1):yD s=1:=by
 have e:=fH hs (by rw[h];omega) _ hk;unfold yD;rw[if_pos h0,e,h,if_neg (by omega)]
theorem fO8 {s:Shd} (h0:fC (gQ s) s.held.length=0) (h1:fC (gW s) s.votes.length=0):yD s=if uK s.done s.appl=true then vS s else 1:=by
 unfold yD;rw[if_pos h0,if_pos h1]
theorem fKt {s:Shd} {k:Nat} (hk:k<s.held.length) (hs:fC (gK s) k=0) (h:gK s k=7):vS s=7:=by
 have e:=fH hs (by rw[h];omega) _ hk;unfold vS;rw[e,h,if_neg (by omega)]
theorem fKu {s:Shd} {k:Nat} {c:Int} (h0:fC (gK s) s.held.length=0) (hk:k<s.held.length) (hs:fC (gI s) k=0) (h:gI s k=c) (hc:c≠0):vS s=c:=by
 have e:=fH hs (by rw[h];exact hc) _ hk;unfold vS;rw[if_pos h0,e,h]
theorem fSz {s:Shd} (h0:fC (gK s) s.held.length=0) (h:fC (gI s) s.held.length=0):vS s=0:=by
 unfold vS;rw[if_pos h0,h]
theorem fCj {s:Shd} {k:Nat} (h:¬fB (s.held.getD k default).id (s.held.getD k default).legs=0):gQ s k=fB (s.held.getD k default).id (s.held.getD k default).legs:=by unfold gQ;rw[if_neg h]
theorem fEq {s:Shd} {k:Nat} (h:fB (s.held.getD k default).id (s.held.getD k default).legs=0) (h2:¬(rO s.held k=true∧¬(onSh s.idx (s.held.getD k default).legs).length=0∧gJ (s.held.getD k default).id s.votes=1∧gJ (s.held.getD k default).id s.done=0)):gQ s k=1:=by unfold gQ;rw[if_pos h,if_neg h2]
theorem fHq {s:Shd} {k:Nat} (h:fB (s.held.getD k default).id (s.held.getD k default).legs=0) (h2:rO s.held k=true∧¬(onSh s.idx (s.held.getD k default).legs).length=0∧gJ (s.held.getD k default).id s.votes=1∧gJ (s.held.getD k default).id s.done=0):gQ s k=0:=by unfold gQ;rw[if_pos h,if_pos h2]
structure HeldOk (s:Shd):Prop where
 cf:∀k,k<s.held.length→fB (s.held.getD k default).id (s.held.getD k default).legs=0
 rise:∀i j,i<j→j<s.held.length→(s.held.getD i default).id<(s.held.getD j default).id
 leg:∀k,k<s.held.length→¬(onSh s.idx (s.held.getD k default).legs).length=0
 vote:∀k,k<s.held.length→gJ (s.held.getD k default).id s.votes=1
 open_:∀k,k<s.held.length→gJ (s.held.getD k default).id s.done=0
theorem fCk {s:Shd} (h:fC (gQ s) s.held.length=0):HeldOk s:=by
 have h1:=mD h;have h2:∀k,k<s.held.length→fB (s.held.getD k default).id (s.held.getD k default).legs=0∧rO s.held k=true∧¬(onSh s.idx (s.held.getD k default).legs).length=0∧gJ (s.held.getD k default).id s.votes=1∧gJ (s.held.getD k default).id s.done=0:=fun k hk=>by
  have h3:=h1 k hk;unfold gQ at h3;split at h3
  ·
   rename_i h4;split at h3
   ·
    rename_i h5;exact⟨h4,h5⟩
   omega
  rename_i h4;exact absurd h3 h4
 have hr:∀k,k+1<s.held.length→(s.held.getD k default).id<(s.held.getD (k+1) default).id:=fun k hk=>by
  have h3:=(h2 (k+1) hk).2.1;unfold rO at h3;rw[decide_eq_true_iff] at h3;rcases h3 with h3|h3
  ·
   omega
  rw[Nat.add_sub_cancel] at h3;exact h3
 refine⟨fun k hk=>(h2 k hk).1,fun i j=>?_,fun k hk=>(h2 k hk).2.2.1,fun k hk=>(h2 k hk).2.2.2.1,fun k hk=>(h2 k hk).2.2.2.2⟩;induction j with
 | zero=>intro h;omega
 | succ j ih=>
  intro hij hj;have:=hr j hj;by_cases e:i=j
  ·
   rw[e];exact this
  have:=ih (by omega) (by omega);omega
theorem HeldOk.fault {s:Shd} (h:HeldOk s) {k:Nat} (hk:k<s.held.length):∀l ∈ (s.held.getD k default).legs,gF l=0:=fun l hl=>by
 obtain⟨i,hi,rfl⟩:=List.getElem_of_mem hl;have h1:=((fB6 (h.cf k hk)).2.2.2.1 i hi).1;have e:(s.held.getD k default).legs.getD i default=(s.held.getD k default).legs[i]:=by rw[List.getD,List.getElem?_eq_getElem hi];rfl
 rw[e] at h1;exact h1
theorem HeldOk.small {s:Shd} (h:HeldOk s) {k:Nat} (hk:k<s.held.length):small (kI s k):=fun j hj=>by
 have hm:(kI s k).getD j default ∈ kI s k:=by simp[List.getD,hj]
 exact(gP (h.fault hk _ (List.mem_filter.1 hm).1)).2.2.2.1
theorem HeldOk.len {s:Shd} (h:HeldOk s) {k:Nat} (hk:k<s.held.length):(s.held.getD k default).legs.length≤8:=(fB6 (h.cf k hk)).2.2.1
theorem fKw (x:Value) (d:Shd) (w:World) (hx:shdR.V w x d) (hbo:BalsOk d.bals) :
  Calls Tryz.prog 196 #[x] w fun e w'=>e = .returned (.int .i64 (yD d))∧Below w.heap.size w w':=by
 have HIs:Hid (∀W c,Below w.heap.size w W→Calls Tryz.prog 259 #[x,.int .i64 c] W fun e w'=>e = .returned (.bool (kE d.held c))∧Below W.heap.size W w'):=fun W c hW=>fFq x d c W (shdR.below hx hW)
 have HAp:Hid (∀W,Below w.heap.size w W→Calls Tryz.prog 260 #[x] W fun e w'=>e = .returned (.bool (uK d.done d.appl))∧Below W.heap.size W w'):=fun W hW=>fDw x d W (shdR.below hx hW)
 obtain⟨u1,u2,u3,u4,u5,rfl,h1,h2,h3,h4,h5⟩:=hx;have HVo:Hid (∀W c,Below w.heap.size w W→Calls Tryz.prog 25 #[u2,.int .i64 c] W fun e w'=>e = .returned (.int .i64 (gJ c d.votes))∧Below W.heap.size W w'):=fun W c hW=>yS u2 _ c W (mrksR.below h2 hW)
 have HDo:Hid (∀W c,Below w.heap.size w W→Calls Tryz.prog 25 #[u4,.int .i64 c] W fun e w'=>e = .returned (.int .i64 (gJ c d.done))∧Below W.heap.size W w'):=fun W c hW=>yS u4 _ c W (mrksR.below h4 hW)
 have HL2:Hid (∀W y ls,Below w.heap.size w W→legsR.V W y ls→small ls→Calls Tryz.prog 262 #[u1,y] W fun e w'=>e = .returned (.int .i64 (fG5 d.bals ls))∧Below W.heap.size W w'):=fun W y ls hW hy hs=>fOh u1 y d.bals ls W (balsR.below h1 hW) hy (fIv hbo) hs
 have HCf:Hid (∀W k p q,Below w.heap.size w W→k<d.held.length→contR.V w (.agg #[.int .i64 (d.held.getD k default).id,.slice p (d.held.getD k default).legs.length q]) (d.held.getD k default)→Calls Tryz.prog 118 #[.agg #[.int .i64 (d.held.getD k default).id,.slice p (d.held.getD k default).legs.length q]] W fun e w'=>e = .returned (.int .i64 (fB (d.held.getD k default).id (d.held.getD k default).legs))∧Below W.heap.size W w'):=fun W k p q hW hk hV=>by
  obtain⟨u,e,hu⟩:=contR.below hV hW;simp only[Value.agg.injEq,Array.mk.injEq,List.cons.injEq,and_true,true_and] at e;subst e;exact zW _ _ _ W hu
 have HLg:Hid (∀W k p q,Below w.heap.size w W→k<d.held.length→fB (d.held.getD k default).id (d.held.getD k default).legs=0→contR.V w (.agg #[.int .i64 (d.held.getD k default).id,.slice p (d.held.getD k default).legs.length q]) (d.held.getD k default)→Calls Tryz.prog 44 #[.agg #[.int .i64 (d.held.getD k default).id,.slice p (d.held.getD k default).legs.length q],.int .i64 d.idx] W fun e w'=>∃v,e = .returned v∧w'.ownsRow W.heap.size 131 4 v (kI d k).length (mV (kI d k))∧Below W.heap.size W w'):=fun W k p q hW hk h0 hV=>by
  obtain⟨u,e,hu⟩:=contR.below hV hW;simp only[Value.agg.injEq,Array.mk.injEq,List.cons.injEq,and_true,true_and] at e;subst e;exact fEs _ _ _ _ W hu (by have:=(fB6 h0).2.2.1;omega)
 obtain⟨a1,c1,rfl⟩:=fJ h1;obtain⟨a2,c2,rfl,hc2,hm2,hx2⟩:=h2;obtain⟨a3,c3,rfl,hc3,hm3,hx3⟩:=tF h3;obtain⟨a4,c4,rfl⟩:=fK h4;obtain⟨a5,c5,rfl⟩:=gT h5;unfold maxLen at hm2 hm3;have HX2:Hid (∀i,i<d.votes.length→∃b o,a2=some ⟨b,o,none⟩∧qE w b (o+i*2) (d.votes.getD i default)):=hx2;have HX3:Hid (∀k,k<d.held.length→∃b o p q,a3=some ⟨b,o,none⟩∧w.cell? ⟨b,o+k*2,none⟩=some (.int .i64 (d.held.getD k default).id)∧w.cell? ⟨b,o+k*2+1,none⟩=some (.slice p (d.held.getD k default).legs.length q)∧contR.V w (.agg #[.int .i64 (d.held.getD k default).id,.slice p (d.held.getD k default).legs.length q]) (d.held.getD k default)):=hx3;have HHe:Hid (∀k c,k<d.held.length→fC (gQ d) k=0→gQ d k=c→c≠0→yD d=c):=fun k c hk hs h hc=>fO9 hk hs h hc
 have HLo:Hid (fC (gQ d) d.held.length=0→∀k,k<d.votes.length→fC (gW d) k=0→gW d k=1→yD d=1):=fun h0 k hk hs h=>fPa h0 hk hs h
 have HTa:Hid (fC (gQ d) d.held.length=0→fC (gW d) d.votes.length=0→yD d=if uK d.done d.appl=true then vS d else 1):=fun h0 h1=>fO8 h0 h1
 have HKa:Hid (∀k,k<d.held.length→fC (gK d) k=0→gK d k=7→vS d=7):=fun k hk hs h=>fKt hk hs h
 have HKc:Hid (fC (gK d) d.held.length=0→∀k c,k<d.held.length→fC (gI d) k=0→gI d k=c→c≠0→vS d=c):=fun h0 k c hk hs h hc=>fKu h0 hk hs h hc
 have HKo:Hid (fC (gK d) d.held.length=0→fC (gI d) d.held.length=0→vS d=0):=fun h0 h=>fSz h0 h
 have HOk:Hid (fC (gQ d) d.held.length=0→HeldOk d):=fun h=>fCk h
 clear h1 h3 h4 h5 hx2 hx3;obtain⟨n3,hn3⟩:∃n3,n3=d.held.length:=⟨_,rfl⟩
 have HN3:Hid (d.held.length=n3):=hn3.symm;rw[←hn3] at HX3 HHe HLo HTa HKa HKc HKo HOk HCf HLg HIs HAp hc3 ⊢;clear hn3;obtain⟨n2,hn2⟩:∃n2,n2=d.votes.length:=⟨_,rfl⟩
 rw[←hn2] at HX2 HLo HTa HVo HIs HAp hc2 ⊢;clear hn2;generalize d.bals.length=n1 at *;generalize d.done.length=n4 at *;generalize d.appl.length=n5 at *;obtain⟨Z,hZ⟩:∃Z,Z=yD d:=⟨_,rfl⟩
 rw[←hZ] at HHe HLo HTa ⊢;clear hZ;go_enter Tryz.func196,Tryz.ntmps196;go_wp2;obtain⟨w0,hw0⟩:∃w0,w0=w.alloc (.cells #[.int .i64 d.idx,.slice a1 n1 c1,.slice a2 n2 c2,.slice a3 n3 c3,.slice a4 n4 c4,.slice a5 n5 c5] 71):=⟨_,rfl⟩
 have y0:w0.cell? ⟨w.heap.size,0,none⟩=some (.int .i64 d.idx):=by rw[hw0];simp[go_sem]
 have y1:w0.cell? ⟨w.heap.size,1,none⟩=some (.slice a1 n1 c1):=by rw[hw0];simp[go_sem]
 have y2:w0.cell? ⟨w.heap.size,2,none⟩=some (.slice a2 n2 c2):=by rw[hw0];simp[go_sem]
 have y3:w0.cell? ⟨w.heap.size,3,none⟩=some (.slice a3 n3 c3):=by rw[hw0];simp[go_sem]
 have y4:w0.cell? ⟨w.heap.size,4,none⟩=some (.slice a4 n4 c4):=by rw[hw0];simp[go_sem]
 have y5:w0.cell? ⟨w.heap.size,5,none⟩=some (.slice a5 n5 c5):=by rw[hw0];simp[go_sem]
 have hB0:Below w.heap.size w w0:=by rw[hw0];(repeat (first|exact bR _ _|assumption|refine bD ?_|refine bA ?_ _|refine bset ?_ (by simp;omega) _|refine bset ?_ (by simp) _|refine bS ?_ (by assumption)))
 rw[←hw0];clear hw0;go_loopw [3] (fun i w'=>∃k:Nat,k≤n3∧i = .int .i64 k∧Hid (fC (gQ d) k=0)∧Below w0.heap.size w0 w') (fun i _=>n3-(intOf i).toNat)
 case atStart=>exact⟨0,Nat.zero_le _,rfl,rfl,Below.refl _ _⟩
 obtain⟨k,hk,rfl,HS,hbl⟩:=hrel;replace y0:=cK hbl y0;replace y1:=cK hbl y1;replace y2:=cK hbl y2;replace y3:=cK hbl y3;replace y4:=cK hbl y4;replace y5:=cK hbl y5;have hBr:Below w.heap.size w wr:=bS hB0 hbl;have zq:w.heap.size<wr.heap.size:=wL wr _ y0;by_cases hlt:k<n3
 ·
  obtain⟨bx,ox,pp,qq,rfl,g0,g1,hV⟩:=HX3.out k hlt;have HC1:Hid (∀W,Below wr.heap.size wr W→Calls Tryz.prog 118 #[.agg #[.int .i64 (d.held.getD k default).id,.slice pp (d.held.getD k default).legs.length qq]] W fun e w'=>e = .returned (.int .i64 (fB (d.held.getD k default).id (d.held.getD k default).legs))∧Below W.heap.size W w'):=fun W hW=>HCf.out W k pp qq (bS hBr hW) hlt hV
  have HC2:Hid (∀W,Below wr.heap.size wr W→fB (d.held.getD k default).id (d.held.getD k default).legs=0→Calls Tryz.prog 44 #[.agg #[.int .i64 (d.held.getD k default).id,.slice pp (d.held.getD k default).legs.length qq],.int .i64 d.idx] W fun e w'=>∃v,e = .returned v∧w'.ownsRow W.heap.size 131 4 v (kI d k).length (mV (kI d k))∧Below W.heap.size W w'):=fun W hW h0=>HLg.out W k pp qq (bS hBr hW) hlt h0 hV
  have HC3:Hid (∀W,Below wr.heap.size wr W→Calls Tryz.prog 25 #[.slice a2 n2 c2,.int .i64 (d.held.getD k default).id] W fun e w'=>e = .returned (.int .i64 (gJ (d.held.getD k default).id d.votes))∧Below W.heap.size W w'):=fun W hW=>HVo.out W _ (bS hBr hW)
  have HC4:Hid (∀W,Below wr.heap.size wr W→Calls Tryz.prog 25 #[.slice a4 n4 c4,.int .i64 (d.held.getD k default).id] W fun e w'=>e = .returned (.int .i64 (gJ (d.held.getD k default).id d.done))∧Below W.heap.size W w'):=fun W hW=>HDo.out W _ (bS hBr hW)
  have HE1:Hid (¬fB (d.held.getD k default).id (d.held.getD k default).legs=0→Z=fB (d.held.getD k default).id (d.held.getD k default).legs):=fun h=>HHe.out k _ hlt HS.out (fCj h) h
  have HE2:Hid (fB (d.held.getD k default).id (d.held.getD k default).legs=0→¬(rO d.held k=true∧¬(kI d k).length=0∧gJ (d.held.getD k default).id d.votes=1∧gJ (d.held.getD k default).id d.done=0)→Z=1):=fun h h2=>HHe.out k 1 hlt HS.out (fEq h h2) (by omega)
  have HE3:Hid (fB (d.held.getD k default).id (d.held.getD k default).legs=0→(rO d.held k=true∧¬(kI d k).length=0∧gJ (d.held.getD k default).id d.votes=1∧gJ (d.held.getD k default).id d.done=0)→fC (gQ d) (k+1)=0):=fun h h2=>fD HS.out (fHq h h2)
  have hpre:∀m,k=m+1→∃q,wr.cell? ⟨bx,ox+m*2,none⟩=some (.int .i64 q)∧(rO d.held k=decide (q<(d.held.getD k default).id)):=fun m hm=>by
   obtain⟨bx',ox',_,_,he,g2,_,_⟩:=HX3.out m (by omega);simp only[Option.some.injEq,Addr.mk.injEq,and_true] at he;obtain⟨rfl,rfl⟩:=he;refine⟨_,cK hBr g2,?_⟩;unfold rO;rw[hm,Nat.add_sub_cancel,decide_eq_decide];constructor
   ·
    rintro(h|h)
    ·
     omega
    exact h
   exact .inr
  have HPre:Hid (∀m,k=m+1→∃q,wr.cell? ⟨bx,ox+m*2,none⟩=some (.int .i64 q)∧(rO d.held k=decide (q<(d.held.getD k default).id))):=hpre;have HR0:Hid (k=0→rO d.held k=true):=fun h=>by unfold rO;exact decide_eq_true (.inl h)
  replace g0:=cK hBr g0;replace g1:=cK hBr g1;clear hV hpre HCf HLg HHe HS HOk;generalize (d.held.getD k default).legs.length=ll at *;generalize fB (d.held.getD k default).id (d.held.getD k default).legs=cf at *;generalize gJ (d.held.getD k default).id d.votes=fv at *;generalize gJ (d.held.getD k default).id d.done=fd at *;generalize (d.held.getD k default).id=qid at *;have zb:bx<wr.heap.size:=wL wr _ g0;go_wp2_with fail;refine(HC1.out _ (qBq)).mono ?_;rintro e w3 ⟨rfl,hb3⟩;have hB3:Below wr.heap.size wr w3:=bS (qBq) hb3;have b0:w3.cell? ⟨wr.heap.size,0,none⟩=some (.int .i64 qid):=cK hb3 (by simp[go_sem]);have b1:w3.cell? ⟨wr.heap.size,1,none⟩=some (.slice pp ll qq):=cK hb3 (by simp[go_sem]);clear hb3 HC1;by_cases hcf:cf=0;rotate_left
  ·
   have HC:=HE1.out hcf;have hcf':(cf !=0)=true:=by simp[hcf]
   clear HE1 HE2 HE3 HC2 HC3 HC4;go_wp2;go_ret;exact⟨by rw[HC];rfl,qBq⟩
  have HC2':Hid (∀W,Below wr.heap.size wr W→Calls Tryz.prog 44 #[.agg #[.int .i64 qid,.slice pp ll qq],.int .i64 d.idx] W fun e w'=>∃v,e = .returned v∧w'.ownsRow W.heap.size 131 4 v (kI d k).length (mV (kI d k))∧Below W.heap.size W w'):=fun W hW=>HC2.out W hW hcf
  have HE2':Hid (¬(rO d.held k=true∧¬(kI d k).length=0∧fv=1∧fd=0)→Z=1):=fun h=>HE2.out hcf h
  have HE3':Hid ((rO d.held k=true∧¬(kI d k).length=0∧fv=1∧fd=0)→fC (gQ d) (k+1)=0):=fun h=>HE3.out hcf h
  rw[hcf];clear HE1 HE2 HE3 HC2 hcf;replace g0:=cK hB3 g0;replace y0:=cK hB3 y0;replace y1:=cK hB3 y1;replace y2:=cK hB3 y2;replace y3:=cK hB3 y3;replace y4:=cK hB3 y4;replace y5:=cK hB3 y5;have hz3:=hB3.size;generalize rO d.held k=rs at *;generalize hll:kI d k=lgs at *;clear hll;cases k with
  | zero=>
   have hrs:=HR0.out rfl;subst hrs;clear HPre HR0;simp only[Nat.zero_mul,Nat.add_zero] at g0 g1;by_cases hl0:lgs.length=0
   ·
    have hl0':(((lgs.length:Nat):Int)==0)=true:=by simp[hl0]
    have HC:=HE2'.out (by rintro⟨_,h,_⟩;exact h hl0);clear HE2' HE3';go_wp2;refine wp_region_noPanic ?_;refine fA (fun W=>Below w3.heap.size w3 W∧W.cell? ⟨w.heap.size,0,none⟩=some (.int .i64 d.idx)∧W.cell? ⟨w.heap.size,1,none⟩=some (.slice a1 n1 c1)∧W.cell? ⟨w.heap.size,2,none⟩=some (.slice a2 n2 c2)∧W.cell? ⟨w.heap.size,3,none⟩=some (.slice (some ⟨bx,ox,none⟩) n3 c3)∧W.cell? ⟨w.heap.size,4,none⟩=some (.slice a4 n4 c4)∧W.cell? ⟨w.heap.size,5,none⟩=some (.slice a5 n5 c5)∧W.cell? ⟨wr.heap.size,0,none⟩=some (.int .i64 qid)∧W.cell? ⟨wr.heap.size,1,none⟩=some (.slice pp ll qq)) 38 (by kernel_rfl) ⟨qBq,cK (qBq) y0,cK (qBq) y1,cK (qBq) y2,cK (qBq) y3,cK (qBq) y4,cK (qBq) y5,cK (qBq) b0,cK (qBq) b1⟩ (fun hS=>?_);refine tM 0 rfl hS ?_;try simp only[jX]
    refine tM 1 (v:=(.bool false)) rfl hS ?_;try simp only[jX]
    refine tM 2 (v:=(.bool false)) rfl hS ?_;try simp only[jX]
    refine sU 3 rfl hS ?_;try simp only[jX]
    refine sU 4 rfl hS ?_;try simp only[jX]
    refine sU 5 rfl hS ?_;try simp only[jX]
    refine sU 6 rfl hS ?_;try simp only[jX]
    refine sU 7 rfl hS ?_;try simp only[jX]
    refine sU 8 rfl hS ?_;try simp only[jX]
    refine sU 9 rfl hS ?_;try simp only[jX]
    refine sU 10 rfl hS ?_;try simp only[jX]
    refine sU 11 rfl hS ?_;try simp only[jX]
    refine sU 12 rfl hS ?_;try simp only[jX]
    refine tM 13 (v:=(.bool false)) rfl hS ?_;try simp only[jX]
    refine tM 14 (v:=(.bool false)) rfl hS ?_;try simp only[jX]
    refine tM 15 rfl hS ?_;try simp only[jX]
    refine tM 16 rfl hS ?_;try simp only[jX]
    refine tM 17 rfl hS ?_;try simp only[jX]
    refine uS 18 rfl (fun K hK=>?_);go_simp;refine(HC2'.out _ (bS hB3 hS.1)).mono ?_;rintro e wz ⟨vl,rfl,ol,hbz⟩;obtain⟨al,cl,rfl⟩:=gD ol;have hbz':Below w3.heap.size w3 wz:=bS hS.1 hbz;have hS3:=And.intro hbz' (And.intro (cK hbz hS.2.1) (And.intro (cK hbz hS.2.2.1) (And.intro (cK hbz hS.2.2.2.1) (And.intro (cK hbz hS.2.2.2.2.1) (And.intro (cK hbz hS.2.2.2.2.2.1) (And.intro (cK hbz hS.2.2.2.2.2.2.1) (And.intro (cK hbz hS.2.2.2.2.2.2.2.1) (cK hbz hS.2.2.2.2.2.2.2.2))))))));refine hK _ _ (fun _=>hS3) ?_;clear hK K hS hbz;have hS:=hS3;clear hS3;try simp only[jX]
    refine tM 19 rfl hS ?_;try simp only[jX]
    refine tM 20 (v:=(.bool true)) rfl hS ?_;try simp only[jX]
    refine tM 21 (v:=(.bool true)) rfl hS ?_;try simp only[jX]
    refine tM 22 (v:=(.bool true)) rfl hS ?_;try simp only[jX]
    refine sU 23 rfl hS ?_;try simp only[jX]
    refine sU 24 rfl hS ?_;try simp only[jX]
    refine sU 25 rfl hS ?_;try simp only[jX]
    refine sU 26 rfl hS ?_;try simp only[jX]
    refine sU 27 rfl hS ?_;try simp only[jX]
    refine sU 28 rfl hS ?_;try simp only[jX]
    refine tM 29 (v:=(.bool true)) rfl hS ?_;try simp only[jX]
    refine tM 30 (v:=(.bool true)) rfl hS ?_;try simp only[jX]
    refine sU 31 rfl hS ?_;try simp only[jX]
    refine sU 32 rfl hS ?_;try simp only[jX]
    refine sU 33 rfl hS ?_;try simp only[jX]
    refine sU 34 rfl hS ?_;try simp only[jX]
    refine sU 35 rfl hS ?_;try simp only[jX]
    refine sU 36 rfl hS ?_;try simp only[jX]
    refine tM 37 (v:=(.bool true)) rfl hS ?_;try simp only[jX]
    refine dN (NoPanic.normal ?_);go_wp2;go_ret;exact⟨by rw[HC];rfl,bS hBr (bS hB3 hS.1)⟩
   have hl0':(((lgs.length:Nat):Int)==0)=false:=by simp;exact fun h=>hl0 (by rw[h];rfl)
   by_cases hfv:fv=1
   rotate_left
   ·
    have hfv':(fv !=1)=true:=by simp[hfv]
    have HC:=HE2'.out (by rintro⟨_,_,h,_⟩;exact hfv h);clear HE2' HE3';go_wp2;refine wp_region_noPanic ?_;refine fA (fun W=>Below w3.heap.size w3 W∧W.cell? ⟨w.heap.size,0,none⟩=some (.int .i64 d.idx)∧W.cell? ⟨w.heap.size,1,none⟩=some (.slice a1 n1 c1)∧W.cell? ⟨w.heap.size,2,none⟩=some (.slice a2 n2 c2)∧W.cell? ⟨w.heap.size,3,none⟩=some (.slice (some ⟨bx,ox,none⟩) n3 c3)∧W.cell? ⟨w.heap.size,4,none⟩=some (.slice a4 n4 c4)∧W.cell? ⟨w.heap.size,5,none⟩=some (.slice a5 n5 c5)∧W.cell? ⟨wr.heap.size,0,none⟩=some (.int .i64 qid)∧W.cell? ⟨wr.heap.size,1,none⟩=some (.slice pp ll qq)) 38 (by kernel_rfl) ⟨qBq,cK (qBq) y0,cK (qBq) y1,cK (qBq) y2,cK (qBq) y3,cK (qBq) y4,cK (qBq) y5,cK (qBq) b0,cK (qBq) b1⟩ (fun hS=>?_);refine tM 0 rfl hS ?_;try simp only[jX]
    refine tM 1 (v:=(.bool false)) rfl hS ?_;try simp only[jX]
    refine tM 2 (v:=(.bool false)) rfl hS ?_;try simp only[jX]
    refine sU 3 rfl hS ?_;try simp only[jX]
    refine sU 4 rfl hS ?_;try simp only[jX]
    refine sU 5 rfl hS ?_;try simp only[jX]
    refine sU 6 rfl hS ?_;try simp only[jX]
    refine sU 7 rfl hS ?_;try simp only[jX]
    refine sU 8 rfl hS ?_;try simp only[jX]
    refine sU 9 rfl hS ?_;try simp only[jX]
    refine sU 10 rfl hS ?_;try simp only[jX]
    refine sU 11 rfl hS ?_;try simp only[jX]
    refine sU 12 rfl hS ?_;try simp only[jX]
    refine tM 13 (v:=(.bool false)) rfl hS ?_;try simp only[jX]
    refine tM 14 (v:=(.bool false)) rfl hS ?_;try simp only[jX]
    refine tM 15 rfl hS ?_;try simp only[jX]
    refine tM 16 rfl hS ?_;try simp only[jX]
    refine tM 17 rfl hS ?_;try simp only[jX]
    refine uS 18 rfl (fun K hK=>?_);go_simp;refine(HC2'.out _ (bS hB3 hS.1)).mono ?_;rintro e wz ⟨vl,rfl,ol,hbz⟩;obtain⟨al,cl,rfl⟩:=gD ol;have hbz':Below w3.heap.size w3 wz:=bS hS.1 hbz;have hS3:=And.intro hbz' (And.intro (cK hbz hS.2.1) (And.intro (cK hbz hS.2.2.1) (And.intro (cK hbz hS.2.2.2.1) (And.intro (cK hbz hS.2.2.2.2.1) (And.intro (cK hbz hS.2.2.2.2.2.1) (And.intro (cK hbz hS.2.2.2.2.2.2.1) (And.intro (cK hbz hS.2.2.2.2.2.2.2.1) (cK hbz hS.2.2.2.2.2.2.2.2))))))));refine hK _ _ (fun _=>hS3) ?_;clear hK K hS hbz;have hS:=hS3;clear hS3;try simp only[jX]
    refine tM 19 rfl hS ?_;try simp only[jX]
    refine tM 20 (v:=(.bool false)) rfl hS ?_;try simp only[jX]
    refine tM 21 (v:=(.bool false)) rfl hS ?_;try simp only[jX]
    refine tM 22 (v:=(.bool false)) rfl hS ?_;try simp only[jX]
    refine tM 23 rfl hS ?_;try simp only[jX]
    refine tM 24 rfl hS ?_;try simp only[jX]
    refine tM 25 rfl hS ?_;try simp only[jX]
    refine tM 26 rfl hS ?_;try simp only[jX]
    refine uS 27 rfl (fun K hK=>?_);go_simp;refine(HC3.out _ (bS hB3 hS.1)).mono ?_;rintro e wz ⟨rfl,hbz⟩;have hbz':Below w3.heap.size w3 wz:=bS hS.1 hbz;have hS3:=And.intro hbz' (And.intro (cK hbz hS.2.1) (And.intro (cK hbz hS.2.2.1) (And.intro (cK hbz hS.2.2.2.1) (And.intro (cK hbz hS.2.2.2.2.1) (And.intro (cK hbz hS.2.2.2.2.2.1) (And.intro (cK hbz hS.2.2.2.2.2.2.1) (And.intro (cK hbz hS.2.2.2.2.2.2.2.1) (cK hbz hS.2.2.2.2.2.2.2.2))))))));refine hK _ _ (fun _=>hS3) ?_;clear hK K hS hbz;have hS:=hS3;clear hS3;try simp only[jX]
    refine tM 28 (v:=(.bool true)) rfl hS ?_;try simp only[jX]
    refine tM 29 (v:=(.bool true)) rfl hS ?_;try simp only[jX]
    refine tM 30 (v:=(.bool true)) rfl hS ?_;try simp only[jX]
    refine sU 31 rfl hS ?_;try simp only[jX]
    refine sU 32 rfl hS ?_;try simp only[jX]
    refine sU 33 rfl hS ?_;try simp only[jX]
    refine sU 34 rfl hS ?_;try simp only[jX]
    refine sU 35 rfl hS ?_;try simp only[jX]
    refine sU 36 rfl hS ?_;try simp only[jX]
    refine tM 37 (v:=(.bool true)) rfl hS ?_;try simp only[jX]
    refine dN (NoPanic.normal ?_);go_wp2;go_ret;exact⟨by rw[HC];rfl,bS hBr (bS hB3 hS.1)⟩
   have hfv':(fv !=1)=false:=by simp[hfv]
   by_cases hfd:fd=0
   rotate_left
   ·
    have hfd':(fd !=0)=true:=by simp[hfd]
    have HC:=HE2'.out (by rintro⟨_,_,_,h⟩;exact hfd h);clear HE2' HE3';go_wp2;refine wp_region_noPanic ?_;refine fA (fun W=>Below w3.heap.size w3 W∧W.cell? ⟨w.heap.size,0,none⟩=some (.int .i64 d.idx)∧W.cell? ⟨w.heap.size,1,none⟩=some (.slice a1 n1 c1)∧W.cell? ⟨w.heap.size,2,none⟩=some (.slice a2 n2 c2)∧W.cell? ⟨w.heap.size,3,none⟩=some (.slice (some ⟨bx,ox,none⟩) n3 c3)∧W.cell? ⟨w.heap.size,4,none⟩=some (.slice a4 n4 c4)∧W.cell? ⟨w.heap.size,5,none⟩=some (.slice a5 n5 c5)∧W.cell? ⟨wr.heap.size,0,none⟩=some (.int .i64 qid)∧W.cell? ⟨wr.heap.size,1,none⟩=some (.slice pp ll qq)) 38 (by kernel_rfl) ⟨qBq,cK (qBq) y0,cK (qBq) y1,cK (qBq) y2,cK (qBq) y3,cK (qBq) y4,cK (qBq) y5,cK (qBq) b0,cK (qBq) b1⟩ (fun hS=>?_);refine tM 0 rfl hS ?_;try simp only[jX]
    refine tM 1 (v:=(.bool false)) rfl hS ?_;try simp only[jX]
    refine tM 2 (v:=(.bool false)) rfl hS ?_;try simp only[jX]
    refine sU 3 rfl hS ?_;try simp only[jX]
    refine sU 4 rfl hS ?_;try simp only[jX]
    refine sU 5 rfl hS ?_;try simp only[jX]
    refine sU 6 rfl hS ?_;try simp only[jX]
    refine sU 7 rfl hS ?_;try simp only[jX]
    refine sU 8 rfl hS ?_;try simp only[jX]
    refine sU 9 rfl hS ?_;try simp only[jX]
    refine sU 10 rfl hS ?_;try simp only[jX]
    refine sU 11 rfl hS ?_;try simp only[jX]
    refine sU 12 rfl hS ?_;try simp only[jX]
    refine tM 13 (v:=(.bool false)) rfl hS ?_;try simp only[jX]
    refine tM 14 (v:=(.bool false)) rfl hS ?_;try simp only[jX]
    refine tM 15 rfl hS ?_;try simp only[jX]
    refine tM 16 rfl hS ?_;try simp only[jX]
    refine tM 17 rfl hS ?_;try simp only[jX]
    refine uS 18 rfl (fun K hK=>?_);go_simp;refine(HC2'.out _ (bS hB3 hS.1)).mono ?_;rintro e wz ⟨vl,rfl,ol,hbz⟩;obtain⟨al,cl,rfl⟩:=gD ol;have hbz':Below w3.heap.size w3 wz:=bS hS.1 hbz;have hS3:=And.intro hbz' (And.intro (cK hbz hS.2.1) (And.intro (cK hbz hS.2.2.1) (And.intro (cK hbz hS.2.2.2.1) (And.intro (cK hbz hS.2.2.2.2.1) (And.intro (cK hbz hS.2.2.2.2.2.1) (And.intro (cK hbz hS.2.2.2.2.2.2.1) (And.intro (cK hbz hS.2.2.2.2.2.2.2.1) (cK hbz hS.2.2.2.2.2.2.2.2))))))));refine hK _ _ (fun _=>hS3) ?_;clear hK K hS hbz;have hS:=hS3;clear hS3;try simp only[jX]
    refine tM 19 rfl hS ?_;try simp only[jX]
    refine tM 20 (v:=(.bool false)) rfl hS ?_;try simp only[jX]
    refine tM 21 (v:=(.bool false)) rfl hS ?_;try simp only[jX]
    refine tM 22 (v:=(.bool false)) rfl hS ?_;try simp only[jX]
    refine tM 23 rfl hS ?_;try simp only[jX]
    refine tM 24 rfl hS ?_;try simp only[jX]
    refine tM 25 rfl hS ?_;try simp only[jX]
    refine tM 26 rfl hS ?_;try simp only[jX]
    refine uS 27 rfl (fun K hK=>?_);go_simp;refine(HC3.out _ (bS hB3 hS.1)).mono ?_;rintro e wz ⟨rfl,hbz⟩;have hbz':Below w3.heap.size w3 wz:=bS hS.1 hbz;have hS3:=And.intro hbz' (And.intro (cK hbz hS.2.1) (And.intro (cK hbz hS.2.2.1) (And.intro (cK hbz hS.2.2.2.1) (And.intro (cK hbz hS.2.2.2.2.1) (And.intro (cK hbz hS.2.2.2.2.2.1) (And.intro (cK hbz hS.2.2.2.2.2.2.1) (And.intro (cK hbz hS.2.2.2.2.2.2.2.1) (cK hbz hS.2.2.2.2.2.2.2.2))))))));refine hK _ _ (fun _=>hS3) ?_;clear hK K hS hbz;have hS:=hS3;clear hS3;try simp only[jX]
    refine tM 28 (v:=(.bool false)) rfl hS ?_;try simp only[jX]
    refine tM 29 (v:=(.bool false)) rfl hS ?_;try simp only[jX]
    refine tM 30 (v:=(.bool false)) rfl hS ?_;try simp only[jX]
    refine tM 31 rfl hS ?_;try simp only[jX]
    refine tM 32 rfl hS ?_;try simp only[jX]
    refine tM 33 rfl hS ?_;try simp only[jX]
    refine tM 34 rfl hS ?_;try simp only[jX]
    refine uS 35 rfl (fun K hK=>?_);go_simp;refine(HC4.out _ (bS hB3 hS.1)).mono ?_;rintro e wz ⟨rfl,hbz⟩;have hbz':Below w3.heap.size w3 wz:=bS hS.1 hbz;have hS3:=And.intro hbz' (And.intro (cK hbz hS.2.1) (And.intro (cK hbz hS.2.2.1) (And.intro (cK hbz hS.2.2.2.1) (And.intro (cK hbz hS.2.2.2.2.1) (And.intro (cK hbz hS.2.2.2.2.2.1) (And.intro (cK hbz hS.2.2.2.2.2.2.1) (And.intro (cK hbz hS.2.2.2.2.2.2.2.1) (cK hbz hS.2.2.2.2.2.2.2.2))))))));refine hK _ _ (fun _=>hS3) ?_;clear hK K hS hbz;have hS:=hS3;clear hS3;try simp only[jX]
    refine tM 36 (v:=(.bool true)) rfl hS ?_;try simp only[jX]
    refine tM 37 (v:=(.bool true)) rfl hS ?_;try simp only[jX]
    refine dN (NoPanic.normal ?_);go_wp2;go_ret;exact⟨by rw[HC];rfl,bS hBr (bS hB3 hS.1)⟩
   have hfd':(fd !=0)=false:=by simp[hfd]
   have HC:Hid (fC (gQ d) (0+1)=0):=HE3'.out ⟨rfl,hl0,hfv,hfd⟩;clear HE2' HE3' hfv hfd;go_wp2;refine wp_region_noPanic ?_;refine fA (fun W=>Below w3.heap.size w3 W∧W.cell? ⟨w.heap.size,0,none⟩=some (.int .i64 d.idx)∧W.cell? ⟨w.heap.size,1,none⟩=some (.slice a1 n1 c1)∧W.cell? ⟨w.heap.size,2,none⟩=some (.slice a2 n2 c2)∧W.cell? ⟨w.heap.size,3,none⟩=some (.slice (some ⟨bx,ox,none⟩) n3 c3)∧W.cell? ⟨w.heap.size,4,none⟩=some (.slice a4 n4 c4)∧W.cell? ⟨w.heap.size,5,none⟩=some (.slice a5 n5 c5)∧W.cell? ⟨wr.heap.size,0,none⟩=some (.int .i64 qid)∧W.cell? ⟨wr.heap.size,1,none⟩=some (.slice pp ll qq)) 38 (by kernel_rfl) ⟨qBq,cK (qBq) y0,cK (qBq) y1,cK (qBq) y2,cK (qBq) y3,cK (qBq) y4,cK (qBq) y5,cK (qBq) b0,cK (qBq) b1⟩ (fun hS=>?_);refine tM 0 rfl hS ?_;try simp only[jX]
   refine tM 1 (v:=(.bool false)) rfl hS ?_;try simp only[jX]
   refine tM 2 (v:=(.bool false)) rfl hS ?_;try simp only[jX]
   refine sU 3 rfl hS ?_;try simp only[jX]
   refine sU 4 rfl hS ?_;try simp only[jX]
   refine sU 5 rfl hS ?_;try simp only[jX]
   refine sU 6 rfl hS ?_;try simp only[jX]
   refine sU 7 rfl hS ?_;try simp only[jX]
   refine sU 8 rfl hS ?_;try simp only[jX]
   refine sU 9 rfl hS ?_;try simp only[jX]
   refine sU 10 rfl hS ?_;try simp only[jX]
   refine sU 11 rfl hS ?_;try simp only[jX]
   refine sU 12 rfl hS ?_;try simp only[jX]
   refine tM 13 (v:=(.bool false)) rfl hS ?_;try simp only[jX]
   refine tM 14 (v:=(.bool false)) rfl hS ?_;try simp only[jX]
   refine tM 15 rfl hS ?_;try simp only[jX]
   refine tM 16 rfl hS ?_;try simp only[jX]
   refine tM 17 rfl hS ?_;try simp only[jX]
   refine uS 18 rfl (fun K hK=>?_);go_simp;refine(HC2'.out _ (bS hB3 hS.1)).mono ?_;rintro e wz ⟨vl,rfl,ol,hbz⟩;obtain⟨al,cl,rfl⟩:=gD ol;have hbz':Below w3.heap.size w3 wz:=bS hS.1 hbz;have hS3:=And.intro hbz' (And.intro (cK hbz hS.2.1) (And.intro (cK hbz hS.2.2.1) (And.intro (cK hbz hS.2.2.2.1) (And.intro (cK hbz hS.2.2.2.2.1) (And.intro (cK hbz hS.2.2.2.2.2.1) (And.intro (cK hbz hS.2.2.2.2.2.2.1) (And.intro (cK hbz hS.2.2.2.2.2.2.2.1) (cK hbz hS.2.2.2.2.2.2.2.2))))))));refine hK _ _ (fun _=>hS3) ?_;clear hK K hS hbz;have hS:=hS3;clear hS3;try simp only[jX]
   refine tM 19 rfl hS ?_;try simp only[jX]
   refine tM 20 (v:=(.bool false)) rfl hS ?_;try simp only[jX]
   refine tM 21 (v:=(.bool false)) rfl hS ?_;try simp only[jX]
   refine tM 22 (v:=(.bool false)) rfl hS ?_;try simp only[jX]
   refine tM 23 rfl hS ?_;try simp only[jX]
   refine tM 24 rfl hS ?_;try simp only[jX]
   refine tM 25 rfl hS ?_;try simp only[jX]
   refine tM 26 rfl hS ?_;try simp only[jX]
   refine uS 27 rfl (fun K hK=>?_);go_simp;refine(HC3.out _ (bS hB3 hS.1)).mono ?_;rintro e wz ⟨rfl,hbz⟩;have hbz':Below w3.heap.size w3 wz:=bS hS.1 hbz;have hS3:=And.intro hbz' (And.intro (cK hbz hS.2.1) (And.intro (cK hbz hS.2.2.1) (And.intro (cK hbz hS.2.2.2.1) (And.intro (cK hbz hS.2.2.2.2.1) (And.intro (cK hbz hS.2.2.2.2.2.1) (And.intro (cK hbz hS.2.2.2.2.2.2.1) (And.intro (cK hbz hS.2.2.2.2.2.2.2.1) (cK hbz hS.2.2.2.2.2.2.2.2))))))));refine hK _ _ (fun _=>hS3) ?_;clear hK K hS hbz;have hS:=hS3;clear hS3;try simp only[jX]
   refine tM 28 (v:=(.bool false)) rfl hS ?_;try simp only[jX]
   refine tM 29 (v:=(.bool false)) rfl hS ?_;try simp only[jX]
   refine tM 30 (v:=(.bool false)) rfl hS ?_;try simp only[jX]
   refine tM 31 rfl hS ?_;try simp only[jX]
   refine tM 32 rfl hS ?_;try simp only[jX]
   refine tM 33 rfl hS ?_;try simp only[jX]
   refine tM 34 rfl hS ?_;try simp only[jX]
   refine uS 35 rfl (fun K hK=>?_);go_simp;refine(HC4.out _ (bS hB3 hS.1)).mono ?_;rintro e wz ⟨rfl,hbz⟩;have hbz':Below w3.heap.size w3 wz:=bS hS.1 hbz;have hS3:=And.intro hbz' (And.intro (cK hbz hS.2.1) (And.intro (cK hbz hS.2.2.1) (And.intro (cK hbz hS.2.2.2.1) (And.intro (cK hbz hS.2.2.2.2.1) (And.intro (cK hbz hS.2.2.2.2.2.1) (And.intro (cK hbz hS.2.2.2.2.2.2.1) (And.intro (cK hbz hS.2.2.2.2.2.2.2.1) (cK hbz hS.2.2.2.2.2.2.2.2))))))));refine hK _ _ (fun _=>hS3) ?_;clear hK K hS hbz;have hS:=hS3;clear hS3;try simp only[jX]
   refine tM 36 (v:=(.bool false)) rfl hS ?_;try simp only[jX]
   refine tM 37 (v:=(.bool false)) rfl hS ?_;try simp only[jX]
   refine dN (NoPanic.normal ?_);go_wp2;exact⟨⟨1,by omega,by go_num,HC,bS hbl (bS hB3 hS.1)⟩,by simp[intOf];omega⟩
  | succ m=>
   obtain⟨q,gq,hq⟩:=HPre.out m rfl;replace gq:=cK hB3 gq;clear HPre HR0;have hw1:IntKind.i64.wrap (((m+1:Nat):Int)-1)=(m:Int):=by rw[IntKind.wrap_i64];omega
   have hw2:(((m+1:Nat):Int)-1)=(m:Int):=by omega
   have e1:((m+1:Nat):Int)<n3:=by omega
   have e2:(m:Int)<n3:=by omega
   have e3:(0:Int)≤m:=by omega
   have e4:(0:Int)<((m+1:Nat):Int):=by omega
   have e5:(0:Int)≤((m+1:Nat):Int):=by omega
   obtain⟨ii,hii⟩:∃ii:Nat,ii=m+1:=⟨_,rfl⟩
   have HII:Hid (ii=m+1):=hii;rw[←hii] at g0 g1 hw1 hw2 e1 e4 e5 HE3' hlt hk ⊢;clear hii;have e6:decide (0<ii)=true:=decide_eq_true (by have:=HII.out;omega);have hw3:IntKind.i64.wrap (m:Int)=(m:Int):=gM (by omega) (by omega);by_cases hle:qid≤q
   ·
    rw[decide_eq_false (by omega)] at hq;subst hq;have HC:=HE2'.out (by rintro⟨h,_⟩;exact absurd h (by decide));clear HE2' HE3';go_wp2;refine wp_region_noPanic ?_;refine fA (fun W=>Below w3.heap.size w3 W∧W.cell? ⟨w.heap.size,0,none⟩=some (.int .i64 d.idx)∧W.cell? ⟨w.heap.size,1,none⟩=some (.slice a1 n1 c1)∧W.cell? ⟨w.heap.size,2,none⟩=some (.slice a2 n2 c2)∧W.cell? ⟨w.heap.size,3,none⟩=some (.slice (some ⟨bx,ox,none⟩) n3 c3)∧W.cell? ⟨w.heap.size,4,none⟩=some (.slice a4 n4 c4)∧W.cell? ⟨w.heap.size,5,none⟩=some (.slice a5 n5 c5)∧W.cell? ⟨wr.heap.size,0,none⟩=some (.int .i64 qid)∧W.cell? ⟨wr.heap.size,1,none⟩=some (.slice pp ll qq)∧W.cell? ⟨bx,ox+m*2,none⟩=some (.int .i64 q)) 38 (by kernel_rfl) ⟨qBq,cK (qBq) y0,cK (qBq) y1,cK (qBq) y2,cK (qBq) y3,cK (qBq) y4,cK (qBq) y5,cK (qBq) b0,cK (qBq) b1,cK (qBq) gq⟩ (fun hS=>?_);refine tM 0 rfl hS ?_;try simp only[jX]
    refine tM 1 (v:=(.bool true)) rfl hS ?_;try simp only[jX]
    refine tM 2 (v:=(.bool true)) rfl hS ?_;try simp only[jX]
    refine tM 3 rfl hS ?_;try simp only[jX]
    refine tM 4 rfl hS ?_;try simp only[jX]
    refine tM 5 rfl hS ?_;try simp only[jX]
    refine tM 6 rfl hS ?_;try simp only[jX]
    refine tM 7 rfl hS ?_;try simp only[jX]
    refine tM 8 rfl hS ?_;try simp only[jX]
    refine tM 9 rfl hS ?_;try simp only[jX]
    refine tM 10 rfl hS ?_;try simp only[jX]
    refine tM 11 rfl hS ?_;try simp only[jX]
    refine tM 12 (v:=(.bool true)) rfl hS ?_;try simp only[jX]
    refine tM 13 (v:=(.bool true)) rfl hS ?_;try simp only[jX]
    refine tM 14 (v:=(.bool true)) rfl hS ?_;try simp only[jX]
    refine sU 15 rfl hS ?_;try simp only[jX]
    refine sU 16 rfl hS ?_;try simp only[jX]
    refine sU 17 rfl hS ?_;try simp only[jX]
    refine sU 18 rfl hS ?_;try simp only[jX]
    refine sU 19 rfl hS ?_;try simp only[jX]
    refine sU 20 rfl hS ?_;try simp only[jX]
    refine tM 21 (v:=(.bool true)) rfl hS ?_;try simp only[jX]
    refine tM 22 (v:=(.bool true)) rfl hS ?_;try simp only[jX]
    refine sU 23 rfl hS ?_;try simp only[jX]
    refine sU 24 rfl hS ?_;try simp only[jX]
    refine sU 25 rfl hS ?_;try simp only[jX]
    refine sU 26 rfl hS ?_;try simp only[jX]
    refine sU 27 rfl hS ?_;try simp only[jX]
    refine sU 28 rfl hS ?_;try simp only[jX]
    refine tM 29 (v:=(.bool true)) rfl hS ?_;try simp only[jX]
    refine tM 30 (v:=(.bool true)) rfl hS ?_;try simp only[jX]
    refine sU 31 rfl hS ?_;try simp only[jX]
    refine sU 32 rfl hS ?_;try simp only[jX]
    refine sU 33 rfl hS ?_;try simp only[jX]
    refine sU 34 rfl hS ?_;try simp only[jX]
    refine sU 35 rfl hS ?_;try simp only[jX]
    refine sU 36 rfl hS ?_;try simp only[jX]
    refine tM 37 (v:=(.bool true)) rfl hS ?_;try simp only[jX]
    refine dN (NoPanic.normal ?_);go_wp2;go_ret;exact⟨by rw[HC];rfl,bS hBr (bS hB3 hS.1)⟩
   rw[decide_eq_true (by omega)] at hq;subst hq;by_cases hl0:lgs.length=0
   ·
    have hl0':(((lgs.length:Nat):Int)==0)=true:=by simp[hl0]
    have HC:=HE2'.out (by rintro⟨_,h,_⟩;exact h hl0);clear HE2' HE3';go_wp2;refine wp_region_noPanic ?_;refine fA (fun W=>Below w3.heap.size w3 W∧W.cell? ⟨w.heap.size,0,none⟩=some (.int .i64 d.idx)∧W.cell? ⟨w.heap.size,1,none⟩=some (.slice a1 n1 c1)∧W.cell? ⟨w.heap.size,2,none⟩=some (.slice a2 n2 c2)∧W.cell? ⟨w.heap.size,3,none⟩=some (.slice (some ⟨bx,ox,none⟩) n3 c3)∧W.cell? ⟨w.heap.size,4,none⟩=some (.slice a4 n4 c4)∧W.cell? ⟨w.heap.size,5,none⟩=some (.slice a5 n5 c5)∧W.cell? ⟨wr.heap.size,0,none⟩=some (.int .i64 qid)∧W.cell? ⟨wr.heap.size,1,none⟩=some (.slice pp ll qq)∧W.cell? ⟨bx,ox+m*2,none⟩=some (.int .i64 q)) 38 (by kernel_rfl) ⟨qBq,cK (qBq) y0,cK (qBq) y1,cK (qBq) y2,cK (qBq) y3,cK (qBq) y4,cK (qBq) y5,cK (qBq) b0,cK (qBq) b1,cK (qBq) gq⟩ (fun hS=>?_);refine tM 0 rfl hS ?_;try simp only[jX]
    refine tM 1 (v:=(.bool true)) rfl hS ?_;try simp only[jX]
    refine tM 2 (v:=(.bool true)) rfl hS ?_;try simp only[jX]
    refine tM 3 rfl hS ?_;try simp only[jX]
    refine tM 4 rfl hS ?_;try simp only[jX]
    refine tM 5 rfl hS ?_;try simp only[jX]
    refine tM 6 rfl hS ?_;try simp only[jX]
    refine tM 7 rfl hS ?_;try simp only[jX]
    refine tM 8 rfl hS ?_;try simp only[jX]
    refine tM 9 rfl hS ?_;try simp only[jX]
    refine tM 10 rfl hS ?_;try simp only[jX]
    refine tM 11 rfl hS ?_;try simp only[jX]
    refine tM 12 (v:=(.bool false)) rfl hS ?_;try simp only[jX]
    refine tM 13 (v:=(.bool false)) rfl hS ?_;try simp only[jX]
    refine tM 14 (v:=(.bool false)) rfl hS ?_;try simp only[jX]
    refine tM 15 rfl hS ?_;try simp only[jX]
    refine tM 16 rfl hS ?_;try simp only[jX]
    refine tM 17 rfl hS ?_;try simp only[jX]
    refine uS 18 rfl (fun K hK=>?_);go_simp;refine(HC2'.out _ (bS hB3 hS.1)).mono ?_;rintro e wz ⟨vl,rfl,ol,hbz⟩;obtain⟨al,cl,rfl⟩:=gD ol;have hbz':Below w3.heap.size w3 wz:=bS hS.1 hbz;have hS3:=And.intro hbz' (And.intro (cK hbz hS.2.1) (And.intro (cK hbz hS.2.2.1) (And.intro (cK hbz hS.2.2.2.1) (And.intro (cK hbz hS.2.2.2.2.1) (And.intro (cK hbz hS.2.2.2.2.2.1) (And.intro (cK hbz hS.2.2.2.2.2.2.1) (And.intro (cK hbz hS.2.2.2.2.2.2.2.1) (And.intro (cK hbz hS.2.2.2.2.2.2.2.2.1) (cK hbz hS.2.2.2.2.2.2.2.2.2)))))))));refine hK _ _ (fun _=>hS3) ?_;clear hK K hS hbz;have hS:=hS3;clear hS3;try simp only[jX]
    refine tM 19 rfl hS ?_;try simp only[jX]
    refine tM 20 (v:=(.bool true)) rfl hS ?_;try simp only[jX]
    refine tM 21 (v:=(.bool true)) rfl hS ?_;try simp only[jX]
    refine tM 22 (v:=(.bool true)) rfl hS ?_;try simp only[jX]
    refine sU 23 rfl hS ?_;try simp only[jX]
    refine sU 24 rfl hS ?_;try simp only[jX]
    refine sU 25 rfl hS ?_;try simp only[jX]
    refine sU 26 rfl hS ?_;try simp only[jX]
    refine sU 27 rfl hS ?_;try simp only[jX]
    refine sU 28 rfl hS ?_;try simp only[jX]
    refine tM 29 (v:=(.bool true)) rfl hS ?_;try simp only[jX]
    refine tM 30 (v:=(.bool true)) rfl hS ?_;try simp only[jX]
    refine sU 31 rfl hS ?_;try simp only[jX]
    refine sU 32 rfl hS ?_;try simp only[jX]
    refine sU 33 rfl hS ?_;try simp only[jX]
    refine sU 34 rfl hS ?_;try simp only[jX]
    refine sU 35 rfl hS ?_;try simp only[jX]
    refine sU 36 rfl hS ?_;try simp only[jX]
    refine tM 37 (v:=(.bool true)) rfl hS ?_;try simp only[jX]
    refine dN (NoPanic.normal ?_);go_wp2;go_ret;exact⟨by rw[HC];rfl,bS hBr (bS hB3 hS.1)⟩
   have hl0':(((lgs.length:Nat):Int)==0)=false:=by simp;exact fun h=>hl0 (by rw[h];rfl)
   by_cases hfv:fv=1
   rotate_left
   ·
    have hfv':(fv !=1)=true:=by simp[hfv]
    have HC:=HE2'.out (by rintro⟨_,_,h,_⟩;exact hfv h);clear HE2' HE3';go_wp2;refine wp_region_noPanic ?_;refine fA (fun W=>Below w3.heap.size w3 W∧W.cell? ⟨w.heap.size,0,none⟩=some (.int .i64 d.idx)∧W.cell? ⟨w.heap.size,1,none⟩=some (.slice a1 n1 c1)∧W.cell? ⟨w.heap.size,2,none⟩=some (.slice a2 n2 c2)∧W.cell? ⟨w.heap.size,3,none⟩=some (.slice (some ⟨bx,ox,none⟩) n3 c3)∧W.cell? ⟨w.heap.size,4,none⟩=some (.slice a4 n4 c4)∧W.cell? ⟨w.heap.size,5,none⟩=some (.slice a5 n5 c5)∧W.cell? ⟨wr.heap.size,0,none⟩=some (.int .i64 qid)∧W.cell? ⟨wr.heap.size,1,none⟩=some (.slice pp ll qq)∧W.cell? ⟨bx,ox+m*2,none⟩=some (.int .i64 q)) 38 (by kernel_rfl) ⟨qBq,cK (qBq) y0,cK (qBq) y1,cK (qBq) y2,cK (qBq) y3,cK (qBq) y4,cK (qBq) y5,cK (qBq) b0,cK (qBq) b1,cK (qBq) gq⟩ (fun hS=>?_);refine tM 0 rfl hS ?_;try simp only[jX]
    refine tM 1 (v:=(.bool true)) rfl hS ?_;try simp only[jX]
    refine tM 2 (v:=(.bool true)) rfl hS ?_;try simp only[jX]
    refine tM 3 rfl hS ?_;try simp only[jX]
    refine tM 4 rfl hS ?_;try simp only[jX]
    refine tM 5 rfl hS ?_;try simp only[jX]
    refine tM 6 rfl hS ?_;try simp only[jX]
    refine tM 7 rfl hS ?_;try simp only[jX]
    refine tM 8 rfl hS ?_;try simp only[jX]
    refine tM 9 rfl hS ?_;try simp only[jX]
    refine tM 10 rfl hS ?_;try simp only[jX]
    refine tM 11 rfl hS ?_;try simp only[jX]
    refine tM 12 (v:=(.bool false)) rfl hS ?_;try simp only[jX]
    refine tM 13 (v:=(.bool false)) rfl hS ?_;try simp only[jX]
    refine tM 14 (v:=(.bool false)) rfl hS ?_;try simp only[jX]
    refine tM 15 rfl hS ?_;try simp only[jX]
    refine tM 16 rfl hS ?_;try simp only[jX]
    refine tM 17 rfl hS ?_;try simp only[jX]
    refine uS 18 rfl (fun K hK=>?_);go_simp;refine(HC2'.out _ (bS hB3 hS.1)).mono ?_;rintro e wz ⟨vl,rfl,ol,hbz⟩;obtain⟨al,cl,rfl⟩:=gD ol;have hbz':Below w3.heap.size w3 wz:=bS hS.1 hbz;have hS3:=And.intro hbz' (And.intro (cK hbz hS.2.1) (And.intro (cK hbz hS.2.2.1) (And.intro (cK hbz hS.2.2.2.1) (And.intro (cK hbz hS.2.2.2.2.1) (And.intro (cK hbz hS.2.2.2.2.2.1) (And.intro (cK hbz hS.2.2.2.2.2.2.1) (And.intro (cK hbz hS.2.2.2.2.2.2.2.1) (And.intro (cK hbz hS.2.2.2.2.2.2.2.2.1) (cK hbz hS.2.2.2.2.2.2.2.2.2)))))))));refine hK _ _ (fun _=>hS3) ?_;clear hK K hS hbz;have hS:=hS3;clear hS3;try simp only[jX]
    refine tM 19 rfl hS ?_;try simp only[jX]
    refine tM 20 (v:=(.bool false)) rfl hS ?_;try simp only[jX]
    refine tM 21 (v:=(.bool false)) rfl hS ?_;try simp only[jX]
    refine tM 22 (v:=(.bool false)) rfl hS ?_;try simp only[jX]
    refine tM 23 rfl hS ?_;try simp only[jX]
    refine tM 24 rfl hS ?_;try simp only[jX]
    refine tM 25 rfl hS ?_;try simp only[jX]
    refine tM 26 rfl hS ?_;try simp only[jX]
    refine uS 27 rfl (fun K hK=>?_);go_simp;refine(HC3.out _ (bS hB3 hS.1)).mono ?_;rintro e wz ⟨rfl,hbz⟩;have hbz':Below w3.heap.size w3 wz:=bS hS.1 hbz;have hS3:=And.intro hbz' (And.intro (cK hbz hS.2.1) (And.intro (cK hbz hS.2.2.1) (And.intro (cK hbz hS.2.2.2.1) (And.intro (cK hbz hS.2.2.2.2.1) (And.intro (cK hbz hS.2.2.2.2.2.1) (And.intro (cK hbz hS.2.2.2.2.2.2.1) (And.intro (cK hbz hS.2.2.2.2.2.2.2.1) (And.intro (cK hbz hS.2.2.2.2.2.2.2.2.1) (cK hbz hS.2.2.2.2.2.2.2.2.2)))))))));refine hK _ _ (fun _=>hS3) ?_;clear hK K hS hbz;have hS:=hS3;clear hS3;try simp only[jX]
    refine tM 28 (v:=(.bool true)) rfl hS ?_;try simp only[jX]
    refine tM 29 (v:=(.bool true)) rfl hS ?_;try simp only[jX]
    refine tM 30 (v:=(.bool true)) rfl hS ?_;try simp only[jX]
    refine sU 31 rfl hS ?_;try simp only[jX]
    refine sU 32 rfl hS ?_;try simp only[jX]
    refine sU 33 rfl hS ?_;try simp only[jX]
    refine sU 34 rfl hS ?_;try simp only[jX]
    refine sU 35 rfl hS ?_;try simp only[jX]
    refine sU 36 rfl hS ?_;try simp only[jX]
    refine tM 37 (v:=(.bool true)) rfl hS ?_;try simp only[jX]
    refine dN (NoPanic.normal ?_);go_wp2;go_ret;exact⟨by rw[HC];rfl,bS hBr (bS hB3 hS.1)⟩
   have hfv':(fv !=1)=false:=by simp[hfv]
   by_cases hfd:fd=0
   rotate_left
   ·
    have hfd':(fd !=0)=true:=by simp[hfd]
    have HC:=HE2'.out (by rintro⟨_,_,_,h⟩;exact hfd h);clear HE2' HE3';go_wp2;refine wp_region_noPanic ?_;refine fA (fun W=>Below w3.heap.size w3 W∧W.cell? ⟨w.heap.size,0,none⟩=some (.int .i64 d.idx)∧W.cell? ⟨w.heap.size,1,none⟩=some (.slice a1 n1 c1)∧W.cell? ⟨w.heap.size,2,none⟩=some (.slice a2 n2 c2)∧W.cell? ⟨w.heap.size,3,none⟩=some (.slice (some ⟨bx,ox,none⟩) n3 c3)∧W.cell? ⟨w.heap.size,4,none⟩=some (.slice a4 n4 c4)∧W.cell? ⟨w.heap.size,5,none⟩=some (.slice a5 n5 c5)∧W.cell? ⟨wr.heap.size,0,none⟩=some (.int .i64 qid)∧W.cell? ⟨wr.heap.size,1,none⟩=some (.slice pp ll qq)∧W.cell? ⟨bx,ox+m*2,none⟩=some (.int .i64 q)) 38 (by kernel_rfl) ⟨qBq,cK (qBq) y0,cK (qBq) y1,cK (qBq) y2,cK (qBq) y3,cK (qBq) y4,cK (qBq) y5,cK (qBq) b0,cK (qBq) b1,cK (qBq) gq⟩ (fun hS=>?_);refine tM 0 rfl hS ?_;try simp only[jX]
    refine tM 1 (v:=(.bool true)) rfl hS ?_;try simp only[jX]
    refine tM 2 (v:=(.bool true)) rfl hS ?_;try simp only[jX]
    refine tM 3 rfl hS ?_;try simp only[jX]
    refine tM 4 rfl hS ?_;try simp only[jX]
    refine tM 5 rfl hS ?_;try simp only[jX]
    refine tM 6 rfl hS ?_;try simp only[jX]
    refine tM 7 rfl hS ?_;try simp only[jX]
    refine tM 8 rfl hS ?_;try simp only[jX]
    refine tM 9 rfl hS ?_;try simp only[jX]
    refine tM 10 rfl hS ?_;try simp only[jX]
    refine tM 11 rfl hS ?_;try simp only[jX]
    refine tM 12 (v:=(.bool false)) rfl hS ?_;try simp only[jX]
    refine tM 13 (v:=(.bool false)) rfl hS ?_;try simp only[jX]
    refine tM 14 (v:=(.bool false)) rfl hS ?_;try simp only[jX]
    refine tM 15 rfl hS ?_;try simp only[jX]
    refine tM 16 rfl hS ?_;try simp only[jX]
    refine tM 17 rfl hS ?_;try simp only[jX]
    refine uS 18 rfl (fun K hK=>?_);go_simp;refine(HC2'.out _ (bS hB3 hS.1)).mono ?_;rintro e wz ⟨vl,rfl,ol,hbz⟩;obtain⟨al,cl,rfl⟩:=gD ol;have hbz':Below w3.heap.size w3 wz:=bS hS.1 hbz;have hS3:=And.intro hbz' (And.intro (cK hbz hS.2.1) (And.intro (cK hbz hS.2.2.1) (And.intro (cK hbz hS.2.2.2.1) (And.intro (cK hbz hS.2.2.2.2.1) (And.intro (cK hbz hS.2.2.2.2.2.1) (And.intro (cK hbz hS.2.2.2.2.2.2.1) (And.intro (cK hbz hS.2.2.2.2.2.2.2.1) (And.intro (cK hbz hS.2.2.2.2.2.2.2.2.1) (cK hbz hS.2.2.2.2.2.2.2.2.2)))))))));refine hK _ _ (fun _=>hS3) ?_;clear hK K hS hbz;have hS:=hS3;clear hS3;try simp only[jX]
    refine tM 19 rfl hS ?_;try simp only[jX]
    refine tM 20 (v:=(.bool false)) rfl hS ?_;try simp only[jX]
    refine tM 21 (v:=(.bool false)) rfl hS ?_;try simp only[jX]
    refine tM 22 (v:=(.bool false)) rfl hS ?_;try simp only[jX]
    refine tM 23 rfl hS ?_;try simp only[jX]
    refine tM 24 rfl hS ?_;try simp only[jX]
    refine tM 25 rfl hS ?_;try simp only[jX]
    refine tM 26 rfl hS ?_;try simp only[jX]
    refine uS 27 rfl (fun K hK=>?_);go_simp;refine(HC3.out _ (bS hB3 hS.1)).mono ?_;rintro e wz ⟨rfl,hbz⟩;have hbz':Below w3.heap.size w3 wz:=bS hS.1 hbz;have hS3:=And.intro hbz' (And.intro (cK hbz hS.2.1) (And.intro (cK hbz hS.2.2.1) (And.intro (cK hbz hS.2.2.2.1) (And.intro (cK hbz hS.2.2.2.2.1) (And.intro (cK hbz hS.2.2.2.2.2.1) (And.intro (cK hbz hS.2.2.2.2.2.2.1) (And.intro (cK hbz hS.2.2.2.2.2.2.2.1) (And.intro (cK hbz hS.2.2.2.2.2.2.2.2.1) (cK hbz hS.2.2.2.2.2.2.2.2.2)))))))));refine hK _ _ (fun _=>hS3) ?_;clear hK K hS hbz;have hS:=hS3;clear hS3;try simp only[jX]
    refine tM 28 (v:=(.bool false)) rfl hS ?_;try simp only[jX]
    refine tM 29 (v:=(.bool false)) rfl hS ?_;try simp only[jX]
    refine tM 30 (v:=(.bool false)) rfl hS ?_;try simp only[jX]
    refine tM 31 rfl hS ?_;try simp only[jX]
    refine tM 32 rfl hS ?_;try simp only[jX]
    refine tM 33 rfl hS ?_;try simp only[jX]
    refine tM 34 rfl hS ?_;try simp only[jX]
    refine uS 35 rfl (fun K hK=>?_);go_simp;refine(HC4.out _ (bS hB3 hS.1)).mono ?_;rintro e wz ⟨rfl,hbz⟩;have hbz':Below w3.heap.size w3 wz:=bS hS.1 hbz;have hS3:=And.intro hbz' (And.intro (cK hbz hS.2.1) (And.intro (cK hbz hS.2.2.1) (And.intro (cK hbz hS.2.2.2.1) (And.intro (cK hbz hS.2.2.2.2.1) (And.intro (cK hbz hS.2.2.2.2.2.1) (And.intro (cK hbz hS.2.2.2.2.2.2.1) (And.intro (cK hbz hS.2.2.2.2.2.2.2.1) (And.intro (cK hbz hS.2.2.2.2.2.2.2.2.1) (cK hbz hS.2.2.2.2.2.2.2.2.2)))))))));refine hK _ _ (fun _=>hS3) ?_;clear hK K hS hbz;have hS:=hS3;clear hS3;try simp only[jX]
    refine tM 36 (v:=(.bool true)) rfl hS ?_;try simp only[jX]
    refine tM 37 (v:=(.bool true)) rfl hS ?_;try simp only[jX]
    refine dN (NoPanic.normal ?_);go_wp2;go_ret;exact⟨by rw[HC];rfl,bS hBr (bS hB3 hS.1)⟩
   have hfd':(fd !=0)=false:=by simp[hfd]
   have HC:Hid (fC (gQ d) (ii+1)=0):=HE3'.out ⟨rfl,hl0,hfv,hfd⟩;clear HE2' HE3' hfv hfd;go_wp2;refine wp_region_noPanic ?_;refine fA (fun W=>Below w3.heap.size w3 W∧W.cell? ⟨w.heap.size,0,none⟩=some (.int .i64 d.idx)∧W.cell? ⟨w.heap.size,1,none⟩=some (.slice a1 n1 c1)∧W.cell? ⟨w.heap.size,2,none⟩=some (.slice a2 n2 c2)∧W.cell? ⟨w.heap.size,3,none⟩=some (.slice (some ⟨bx,ox,none⟩) n3 c3)∧W.cell? ⟨w.heap.size,4,none⟩=some (.slice a4 n4 c4)∧W.cell? ⟨w.heap.size,5,none⟩=some (.slice a5 n5 c5)∧W.cell? ⟨wr.heap.size,0,none⟩=some (.int .i64 qid)∧W.cell? ⟨wr.heap.size,1,none⟩=some (.slice pp ll qq)∧W.cell? ⟨bx,ox+m*2,none⟩=some (.int .i64 q)) 38 (by kernel_rfl) ⟨qBq,cK (qBq) y0,cK (qBq) y1,cK (qBq) y2,cK (qBq) y3,cK (qBq) y4,cK (qBq) y5,cK (qBq) b0,cK (qBq) b1,cK (qBq) gq⟩ (fun hS=>?_);refine tM 0 rfl hS ?_;try simp only[jX]
   refine tM 1 (v:=(.bool true)) rfl hS ?_;try simp only[jX]
   refine tM 2 (v:=(.bool true)) rfl hS ?_;try simp only[jX]
   refine tM 3 rfl hS ?_;try simp only[jX]
   refine tM 4 rfl hS ?_;try simp only[jX]
   refine tM 5 rfl hS ?_;try simp only[jX]
   refine tM 6 rfl hS ?_;try simp only[jX]
   refine tM 7 rfl hS ?_;try simp only[jX]
   refine tM 8 rfl hS ?_;try simp only[jX]
   refine tM 9 rfl hS ?_;try simp only[jX]
   refine tM 10 rfl hS ?_;try simp only[jX]
   refine tM 11 rfl hS ?_;try simp only[jX]
   refine tM 12 (v:=(.bool false)) rfl hS ?_;try simp only[jX]
   refine tM 13 (v:=(.bool false)) rfl hS ?_;try simp only[jX]
   refine tM 14 (v:=(.bool false)) rfl hS ?_;try simp only[jX]
   refine tM 15 rfl hS ?_;try simp only[jX]
   refine tM 16 rfl hS ?_;try simp only[jX]
   refine tM 17 rfl hS ?_;try simp only[jX]
   refine uS 18 rfl (fun K hK=>?_);go_simp;refine(HC2'.out _ (bS hB3 hS.1)).mono ?_;rintro e wz ⟨vl,rfl,ol,hbz⟩;obtain⟨al,cl,rfl⟩:=gD ol;have hbz':Below w3.heap.size w3 wz:=bS hS.1 hbz;have hS3:=And.intro hbz' (And.intro (cK hbz hS.2.1) (And.intro (cK hbz hS.2.2.1) (And.intro (cK hbz hS.2.2.2.1) (And.intro (cK hbz hS.2.2.2.2.1) (And.intro (cK hbz hS.2.2.2.2.2.1) (And.intro (cK hbz hS.2.2.2.2.2.2.1) (And.intro (cK hbz hS.2.2.2.2.2.2.2.1) (And.intro (cK hbz hS.2.2.2.2.2.2.2.2.1) (cK hbz hS.2.2.2.2.2.2.2.2.2)))))))));refine hK _ _ (fun _=>hS3) ?_;clear hK K hS hbz;have hS:=hS3;clear hS3;try simp only[jX]
   refine tM 19 rfl hS ?_;try simp only[jX]
   refine tM 20 (v:=(.bool false)) rfl hS ?_;try simp only[jX]
   refine tM 21 (v:=(.bool false)) rfl hS ?_;try simp only[jX]
   refine tM 22 (v:=(.bool false)) rfl hS ?_;try simp only[jX]
   refine tM 23 rfl hS ?_;try simp only[jX]
   refine tM 24 rfl hS ?_;try simp only[jX]
   refine tM 25 rfl hS ?_;try simp only[jX]
   refine tM 26 rfl hS ?_;try simp only[jX]
   refine uS 27 rfl (fun K hK=>?_);go_simp;refine(HC3.out _ (bS hB3 hS.1)).mono ?_;rintro e wz ⟨rfl,hbz⟩;have hbz':Below w3.heap.size w3 wz:=bS hS.1 hbz;have hS3:=And.intro hbz' (And.intro (cK hbz hS.2.1) (And.intro (cK hbz hS.2.2.1) (And.intro (cK hbz hS.2.2.2.1) (And.intro (cK hbz hS.2.2.2.2.1) (And.intro (cK hbz hS.2.2.2.2.2.1) (And.intro (cK hbz hS.2.2.2.2.2.2.1) (And.intro (cK hbz hS.2.2.2.2.2.2.2.1) (And.intro (cK hbz hS.2.2.2.2.2.2.2.2.1) (cK hbz hS.2.2.2.2.2.2.2.2.2)))))))));refine hK _ _ (fun _=>hS3) ?_;clear hK K hS hbz;have hS:=hS3;clear hS3;try simp only[jX]
   refine tM 28 (v:=(.bool false)) rfl hS ?_;try simp only[jX]
   refine tM 29 (v:=(.bool false)) rfl hS ?_;try simp only[jX]
   refine tM 30 (v:=(.bool false)) rfl hS ?_;try simp only[jX]
   refine tM 31 rfl hS ?_;try simp only[jX]
   refine tM 32 rfl hS ?_;try simp only[jX]
   refine tM 33 rfl hS ?_;try simp only[jX]
   refine tM 34 rfl hS ?_;try simp only[jX]
   refine uS 35 rfl (fun K hK=>?_);go_simp;refine(HC4.out _ (bS hB3 hS.1)).mono ?_;rintro e wz ⟨rfl,hbz⟩;have hbz':Below w3.heap.size w3 wz:=bS hS.1 hbz;have hS3:=And.intro hbz' (And.intro (cK hbz hS.2.1) (And.intro (cK hbz hS.2.2.1) (And.intro (cK hbz hS.2.2.2.1) (And.intro (cK hbz hS.2.2.2.2.1) (And.intro (cK hbz hS.2.2.2.2.2.1) (And.intro (cK hbz hS.2.2.2.2.2.2.1) (And.intro (cK hbz hS.2.2.2.2.2.2.2.1) (And.intro (cK hbz hS.2.2.2.2.2.2.2.2.1) (cK hbz hS.2.2.2.2.2.2.2.2.2)))))))));refine hK _ _ (fun _=>hS3) ?_;clear hK K hS hbz;have hS:=hS3;clear hS3;try simp only[jX]
   refine tM 36 (v:=(.bool false)) rfl hS ?_;try simp only[jX]
   refine tM 37 (v:=(.bool false)) rfl hS ?_;try simp only[jX]
   refine dN (NoPanic.normal ?_);go_wp2;exact⟨⟨ii+1,by omega,by go_num,HC,bS hbl (bS hB3 hS.1)⟩,by simp[intOf];omega⟩
 have hkn:k=n3:=by omega
 subst hkn;have HOk':=HOk.out HS.out;have HLo':Hid (∀i,i<n2→fC (gW d) i=0→gW d i=1→Z=1):=fun i hi hs h=>HLo.out HS.out i hi hs h
 have HTa':Hid (fC (gW d) n2=0→Z=if uK d.done d.appl=true then vS d else 1):=fun h1=>HTa.out HS.out h1
 have HHO:Hid (HeldOk d):=HOk';clear HOk' HOk HLo HTa HHe HS HCf hlt;go_wp2;obtain⟨w2,hw2⟩:∃w2,w2=wr:=⟨_,rfl⟩
 rw[←hw2] at hBr y0 y1 y2 y3 y4 y5 zq ⊢;clear hw2 hbl;go_loopw [6] (fun i w'=>∃j:Nat,j≤n2∧i = .int .i64 j∧Hid (fC (gW d) j=0)∧Below w2.heap.size w2 w') (fun i _=>n2-(intOf i).toNat)
 case atStart=>exact⟨0,Nat.zero_le _,rfl,rfl,Below.refl _ _⟩
 rename_i wq;obtain⟨j,hj,rfl,HS,hbl⟩:=hrel;replace y0:=cK hbl y0;replace y1:=cK hbl y1;replace y2:=cK hbl y2;replace y3:=cK hbl y3;replace y4:=cK hbl y4;replace y5:=cK hbl y5;have hBq:Below w.heap.size w wr:=bS hBr hbl;have zq2:w.heap.size<wr.heap.size:=wL wr _ y0;by_cases hlt:j<n2
 ·
  obtain⟨bx,ox,rfl,gm⟩:=HX2.out j hlt;have HE1:Hid (gW d j=1→Z=1):=fun h=>HLo'.out j hlt HS.out h
  have HE0:Hid (gW d j=0→fC (gW d) (j+1)=0):=fun h=>fD HS.out h
  obtain⟨l,hl⟩:∃l,l=d.votes.getD j default:=⟨_,rfl⟩
  have HLo1:Hid (gW d j=if l.val=1∧kE d.held l.con=false∧gJ l.con d.done=0 then 1 else 0):=by rw[hl];rfl
  rw[←hl] at gm;clear hl;obtain⟨g0,g1⟩:=fQ hBq gm;have HI1:Hid (∀W,Below wr.heap.size wr W→Calls Tryz.prog 259 #[.agg #[.int .i64 d.idx,.slice a1 n1 c1,.slice (some ⟨bx,ox,none⟩) n2 c2,.slice a3 k c3,.slice a4 n4 c4,.slice a5 n5 c5],.int .i64 l.con] W fun e w'=>e = .returned (.bool (kE d.held l.con))∧Below W.heap.size W w'):=fun W hW=>HIs.out W _ (bS hBq hW)
  have HD1:Hid (∀W,Below wr.heap.size wr W→Calls Tryz.prog 25 #[.slice a4 n4 c4,.int .i64 l.con] W fun e w'=>e = .returned (.int .i64 (gJ l.con d.done))∧Below W.heap.size W w'):=fun W hW=>HDo.out W _ (bS hBq hW)
  clear HS HLo' HTa' gm;have zb:bx<wr.heap.size:=wL wr _ g0;by_cases hv:l.val=1;rotate_left
  ·
   have hv':(l.val==1)=false:=by simp[hv]
   have HC:Hid (fC (gW d) (j+1)=0):=HE0.out (by rw[HLo1.out,if_neg (fun h=>hv h.1)]);clear HE0 HE1 HLo1 HI1 HD1;go_wp2;exact⟨⟨j+1,by omega,by go_num,HC,qBq⟩,by simp[intOf];omega⟩
  have hv':(l.val==1)=true:=by simp[hv]
  cases hh:kE d.held l.con;rotate_left
  ·
   have HC:Hid (fC (gW d) (j+1)=0):=HE0.out (by rw[HLo1.out,if_neg (fun h=>by rw[hh] at h;exact absurd h.2.1 (by decide))]);rw[hh] at HI1;clear HE0 HE1 HLo1 HD1 hh;go_wp2_with fail;refine(HI1.out _ (qBq)).mono ?_;rintro e w4 ⟨rfl,hb4⟩;have hB4:Below w2.heap.size w2 w4:=bS hbl (bS (qBq) hb4);clear hb4;go_wp2;exact⟨⟨j+1,by omega,by go_num,HC,qBq⟩,by simp[intOf];omega⟩
  rw[hh] at HI1 HLo1;clear hh;generalize gJ l.con d.done=fd at *;go_wp2_with fail;refine(HI1.out _ (qBq)).mono ?_;rintro e w4 ⟨rfl,hb4⟩;have hB4:Below wr.heap.size wr w4:=bS (qBq) hb4;have b0:w4.cell? ⟨wr.heap.size,0,none⟩=some (.int .i64 l.con):=cK hb4 (by simp[go_sem]);replace y4:=cK hB4 y4;clear hb4;by_cases hfd:fd=0
  ·
   have hfd':(fd==0)=true:=by simp[hfd]
   have HC:=HE1.out (by rw[HLo1.out,if_pos (by first|exact⟨hv,rfl,hfd⟩|exact⟨hv,trivial,hfd⟩)]);clear HE0 HE1 HLo1 hfd;go_wp2_with fail;refine(HD1.out _ hB4).mono ?_;rintro e w5 ⟨rfl,hb5⟩;go_wp2;go_ret;exact⟨by rw[HC];rfl,bS hBq (bS hB4 hb5)⟩
  have hfd':(fd==0)=false:=by simp[hfd]
  have HC:Hid (fC (gW d) (j+1)=0):=HE0.out (by rw[HLo1.out,if_neg (fun h=>hfd h.2.2)]);clear HE0 HE1 HLo1 hfd;go_wp2_with fail;refine(HD1.out _ hB4).mono ?_;rintro e w5 ⟨rfl,hb5⟩;have hB5:Below w2.heap.size w2 w5:=bS hbl (bS hB4 hb5);clear hb5;go_wp2;exact⟨⟨j+1,by omega,by go_num,HC,hB5⟩,by simp[intOf];omega⟩
 have hjn:j=n2:=by omega
 subst hjn;have HZ:=HTa'.out HS.out;clear HTa' HLo' HS hlt HX2;cases hap:uK d.done d.appl
 ·
  rw[hap,if_neg (by decide)] at HZ;rw[hap] at HAp;go_wp2_with fail;refine(HAp.out _ hBq).mono ?_;rintro e w3 ⟨rfl,hb3⟩;go_wp2;go_ret;exact⟨by rw[HZ];rfl,qBq⟩
 rw[hap,if_pos rfl] at HZ;rw[hap] at HAp;have HZK:Hid (Z=vS d):=HZ;clear HZ hap;go_wp2_with fail;refine(HAp.out _ hBq).mono ?_;rintro e w3 ⟨rfl,hb3⟩;replace y0:=cK hb3 y0;replace y1:=cK hb3 y1;replace y2:=cK hb3 y2;replace y3:=cK hb3 y3;replace y4:=cK hb3 y4;replace y5:=cK hb3 y5;have hB3:Below w.heap.size w w3:=bS hBq hb3;have zq3:w.heap.size<w3.heap.size:=wL w3 _ y0;clear hb3 HAp hbl hBq hBr zq2;go_wp2;obtain⟨w4,hw4⟩:∃w4,w4=w3:=⟨_,rfl⟩
 rw[←hw4] at hB3 y0 y1 y2 y3 y4 y5 zq3 ⊢;clear hw4;have HTo:Hid (∀W x y xs ys,legsR.V W x xs→legsR.V W y ys→Calls Tryz.prog 261 #[x,y] W fun e w'=>e = .returned (.bool (touch xs ys))∧Below W.heap.size W w'):=fun W x y xs ys h1 h2=>fH5 x y xs ys W h1 h2
 have HAt:Hid (∀i j,j<i→touch (kI d i) (kI d j)=true→gK d i=7):=fun i j hj h=>by
  unfold gK;rw[if_pos (List.any_eq_true.2 ⟨j,List.mem_range.2 hj,h⟩)]
 have HA0:Hid (∀i,(List.range i).any (fun j=>touch (kI d i) (kI d j))=false→gK d i=0):=fun i h=>by
  unfold gK;rw[h];rfl
 have HAs:Hid (∀i j,(List.range j).any (fun j=>touch (kI d i) (kI d j))=false→touch (kI d i) (kI d j)=false→(List.range (j+1)).any (fun j=>touch (kI d i) (kI d j))=false):=fun i j h1 h2=>by
  rw[List.range_succ,List.any_append,h1];simp[h2]
 have HCf:Hid (∀i,i<k→fB (d.held.getD i default).id (d.held.getD i default).legs=0):=fun i hi=>HHO.out.cf i (by rw[HN3.out];exact hi)
 have HSm:Hid (∀i,i<k→small (kI d i)):=fun i hi=>HHO.out.small (by rw[HN3.out];exact hi)
 go_loopw [8] (fun i w'=>∃j:Nat,j≤k∧i = .int .i64 j∧Hid (fC (gK d) j=0)∧Below w4.heap.size w4 w') (fun i _=>k-(intOf i).toNat)
 case atStart=>exact⟨0,Nat.zero_le _,rfl,rfl,Below.refl _ _⟩
 rename_i wq2;obtain⟨i,hi,rfl,HS,hbl⟩:=hrel;have hBi:Below w.heap.size w wr:=bS hB3 hbl;replace y0:=cK hbl y0;replace y1:=cK hbl y1;replace y2:=cK hbl y2;replace y3:=cK hbl y3;replace y4:=cK hbl y4;replace y5:=cK hbl y5;have zq4:w.heap.size<wr.heap.size:=wL wr _ y0;by_cases hlt:i<k
 ·
  obtain⟨bx,ox,p1,q1,rfl,g0',g1',hV1⟩:=HX3.out i hlt;go_wp2;obtain⟨w5,hw5⟩:∃w5,w5=wr:=⟨_,rfl⟩
  rw[←hw5] at hBi y0 y1 y2 y3 y4 y5 zq4 hbl ⊢;clear hw5;go_loopw [9] (fun v w'=>∃j:Nat,j≤i∧v = .int .i64 j∧Hid ((List.range j).any (fun j=>touch (kI d i) (kI d j))=false)∧Below w5.heap.size w5 w') (fun v _=>i-(intOf v).toNat)
  case atStart=>exact⟨0,Nat.zero_le _,rfl,by show(List.range 0).any _=false;rfl,Below.refl _ _⟩
  rename_i wq3;obtain⟨j,hj,rfl,HS2,hbl2⟩:=hrel;have hBj:Below w.heap.size w wr:=bS hBi hbl2;replace y0:=cK hbl2 y0;replace y1:=cK hbl2 y1;replace y2:=cK hbl2 y2;replace y3:=cK hbl2 y3;replace y4:=cK hbl2 y4;replace y5:=cK hbl2 y5;have zq5:w.heap.size<wr.heap.size:=wL wr _ y0;by_cases hlt2:j<i
  ·
   obtain⟨bx',ox',p2,q2,he,g2,g3,hV2⟩:=HX3.out j (by omega);simp only[Option.some.injEq,Addr.mk.injEq,and_true] at he;obtain⟨rfl,rfl⟩:=he;have HG1:Hid (∀W,Below wr.heap.size wr W→Calls Tryz.prog 44 #[.agg #[.int .i64 (d.held.getD i default).id,.slice p1 (d.held.getD i default).legs.length q1],.int .i64 d.idx] W fun e w'=>∃v,e = .returned v∧w'.ownsRow W.heap.size 131 4 v (kI d i).length (mV (kI d i))∧Below W.heap.size W w'):=fun W hW=>HLg.out W i p1 q1 (bS hBj hW) hlt (HCf.out i hlt) hV1
   have HG2:Hid (∀W,Below wr.heap.size wr W→Calls Tryz.prog 44 #[.agg #[.int .i64 (d.held.getD j default).id,.slice p2 (d.held.getD j default).legs.length q2],.int .i64 d.idx] W fun e w'=>∃v,e = .returned v∧w'.ownsRow W.heap.size 131 4 v (kI d j).length (mV (kI d j))∧Below W.heap.size W w'):=fun W hW=>HLg.out W j p2 q2 (bS hBj hW) (by omega) (HCf.out j (by omega)) hV2
   have g0:=cK hBj g0';have g1:=cK hBj g1';replace g2:=cK hBj g2;replace g3:=cK hBj g3;clear hV2;have i1:(i:Int)<k:=by omega
   have i2:(0:Int)≤i:=by omega
   have j1:(j:Int)<k:=by omega
   have j2:(0:Int)≤j:=by omega
   cases htc:touch (kI d i) (kI d j)
   ·
    have HC:Hid ((List.range (j+1)).any (fun j=>touch (kI d i) (kI d j))=false):=HAs.out i j HS2.out htc;go_wp2;refine wp_region_noPanic ?_;refine fA (fun W=>Below wr.heap.size wr W∧W.cell? ⟨w.heap.size,0,none⟩=some (.int .i64 d.idx)∧W.cell? ⟨w.heap.size,3,none⟩=some (.slice (some ⟨bx,ox,none⟩) k c3)∧W.cell? ⟨bx,ox+i*2,none⟩=some (.int .i64 (d.held.getD i default).id)∧W.cell? ⟨bx,ox+i*2+1,none⟩=some (.slice p1 (d.held.getD i default).legs.length q1)∧W.cell? ⟨bx,ox+j*2,none⟩=some (.int .i64 (d.held.getD j default).id)∧W.cell? ⟨bx,ox+j*2+1,none⟩=some (.slice p2 (d.held.getD j default).legs.length q2)) 17 (by kernel_rfl) ⟨qBq,cK (qBq) y0,cK (qBq) y3,cK (qBq) g0,cK (qBq) g1,cK (qBq) g2,cK (qBq) g3⟩ (fun hS=>?_);refine tM 0 rfl hS ?_;try simp only[jX]
    refine tM 1 rfl hS ?_;try simp only[jX]
    refine tM 2 rfl hS ?_;try simp only[jX]
    refine tM 3 rfl hS ?_;try simp only[jX]
    refine tM 4 rfl hS ?_;try simp only[jX]
    refine tM 5 rfl hS ?_;try simp only[jX]
    refine tM 6 rfl hS ?_;try simp only[jX]
    refine tM 8 rfl hS ?_;try simp only[jX]
    refine tM 9 rfl hS ?_;try simp only[jX]
    refine tM 10 rfl hS ?_;try simp only[jX]
    refine tM 11 rfl hS ?_;try simp only[jX]
    refine tM 12 rfl hS ?_;try simp only[jX]
    refine tM 13 rfl hS ?_;try simp only[jX]
    refine tM 14 rfl hS ?_;try simp only[jX]
    refine uS 7 rfl (fun K hK=>?_);go_simp;refine(HG1.out _ hS.1).mono ?_;rintro e wz1 ⟨vl,rfl,ol,hbz1⟩;obtain⟨al,cl,rfl⟩:=gD ol;have V1:=kM ol;have hbz1':Below wr.heap.size wr wz1:=bS hS.1 hbz1;have hS3:=And.intro hbz1' (And.intro (cK hbz1 hS.2.1) (And.intro (cK hbz1 hS.2.2.1) (And.intro (cK hbz1 hS.2.2.2.1) (And.intro (cK hbz1 hS.2.2.2.2.1) (And.intro (cK hbz1 hS.2.2.2.2.2.1) (cK hbz1 hS.2.2.2.2.2.2))))));refine hK _ _ (fun _=>hS3) ?_;clear hK K hS hbz1;have hS:=hS3;clear hS3;try simp only[jX]
    refine uS 15 rfl (fun K hK=>?_);go_simp;refine(HG2.out _ hS.1).mono ?_;rintro e wz2 ⟨vl2,rfl,ol2,hbz2⟩;obtain⟨al2,cl2,rfl⟩:=gD ol2;have V2:=kM ol2;replace V1:=kU V1 hbz2;have hbz2':Below wr.heap.size wr wz2:=bS hS.1 hbz2;have hS3:=And.intro hbz2' (And.intro (cK hbz2 hS.2.1) (And.intro (cK hbz2 hS.2.2.1) (And.intro (cK hbz2 hS.2.2.2.1) (And.intro (cK hbz2 hS.2.2.2.2.1) (And.intro (cK hbz2 hS.2.2.2.2.2.1) (cK hbz2 hS.2.2.2.2.2.2))))));refine hK _ _ (fun _=>hS3) ?_;clear hK K hS hbz2;have hS:=hS3;clear hS3;try simp only[jX]
    refine uS 16 rfl (fun K hK=>?_);go_simp;refine(HTo.out _ _ _ (kI d i) (kI d j) V1 V2).mono ?_;rintro e wz ⟨rfl,hbz⟩;rw[htc];have hbz':Below wr.heap.size wr wz:=bS hS.1 hbz;have hS3:=And.intro hbz' (And.intro (cK hbz hS.2.1) (And.intro (cK hbz hS.2.2.1) (And.intro (cK hbz hS.2.2.2.1) (And.intro (cK hbz hS.2.2.2.2.1) (And.intro (cK hbz hS.2.2.2.2.2.1) (cK hbz hS.2.2.2.2.2.2))))));refine hK _ _ (fun _=>hS3) ?_;clear hK K hS hbz;have hS:=hS3;clear hS3;try simp only[jX]
    refine dN (NoPanic.normal ?_);go_wp2;exact⟨⟨j+1,by omega,by go_num,HC,bS hbl2 hS.1⟩,by simp[intOf];omega⟩
   have HC:Z=7:=HZK.out.trans (HKa.out i hlt HS.out (HAt.out i j hlt2 htc));go_wp2;refine wp_region_noPanic ?_;refine fA (fun W=>Below wr.heap.size wr W∧W.cell? ⟨w.heap.size,0,none⟩=some (.int .i64 d.idx)∧W.cell? ⟨w.heap.size,3,none⟩=some (.slice (some ⟨bx,ox,none⟩) k c3)∧W.cell? ⟨bx,ox+i*2,none⟩=some (.int .i64 (d.held.getD i default).id)∧W.cell? ⟨bx,ox+i*2+1,none⟩=some (.slice p1 (d.held.getD i default).legs.length q1)∧W.cell? ⟨bx,ox+j*2,none⟩=some (.int .i64 (d.held.getD j default).id)∧W.cell? ⟨bx,ox+j*2+1,none⟩=some (.slice p2 (d.held.getD j default).legs.length q2)) 17 (by kernel_rfl) ⟨qBq,cK (qBq) y0,cK (qBq) y3,cK (qBq) g0,cK (qBq) g1,cK (qBq) g2,cK (qBq) g3⟩ (fun hS=>?_);refine tM 0 rfl hS ?_;try simp only[jX]
   refine tM 1 rfl hS ?_;try simp only[jX]
   refine tM 2 rfl hS ?_;try simp only[jX]
   refine tM 3 rfl hS ?_;try simp only[jX]
   refine tM 4 rfl hS ?_;try simp only[jX]
   refine tM 5 rfl hS ?_;try simp only[jX]
   refine tM 6 rfl hS ?_;try simp only[jX]
   refine tM 8 rfl hS ?_;try simp only[jX]
   refine tM 9 rfl hS ?_;try simp only[jX]
   refine tM 10 rfl hS ?_;try simp only[jX]
   refine tM 11 rfl hS ?_;try simp only[jX]
   refine tM 12 rfl hS ?_;try simp only[jX]
   refine tM 13 rfl hS ?_;try simp only[jX]
   refine tM 14 rfl hS ?_;try simp only[jX]
   refine uS 7 rfl (fun K hK=>?_);go_simp;refine(HG1.out _ hS.1).mono ?_;rintro e wz1 ⟨vl,rfl,ol,hbz1⟩;obtain⟨al,cl,rfl⟩:=gD ol;have V1:=kM ol;have hbz1':Below wr.heap.size wr wz1:=bS hS.1 hbz1;have hS3:=And.intro hbz1' (And.intro (cK hbz1 hS.2.1) (And.intro (cK hbz1 hS.2.2.1) (And.intro (cK hbz1 hS.2.2.2.1) (And.intro (cK hbz1 hS.2.2.2.2.1) (And.intro (cK hbz1 hS.2.2.2.2.2.1) (cK hbz1 hS.2.2.2.2.2.2))))));refine hK _ _ (fun _=>hS3) ?_;clear hK K hS hbz1;have hS:=hS3;clear hS3;try simp only[jX]
   refine uS 15 rfl (fun K hK=>?_);go_simp;refine(HG2.out _ hS.1).mono ?_;rintro e wz2 ⟨vl2,rfl,ol2,hbz2⟩;obtain⟨al2,cl2,rfl⟩:=gD ol2;have V2:=kM ol2;replace V1:=kU V1 hbz2;have hbz2':Below wr.heap.size wr wz2:=bS hS.1 hbz2;have hS3:=And.intro hbz2' (And.intro (cK hbz2 hS.2.1) (And.intro (cK hbz2 hS.2.2.1) (And.intro (cK hbz2 hS.2.2.2.1) (And.intro (cK hbz2 hS.2.2.2.2.1) (And.intro (cK hbz2 hS.2.2.2.2.2.1) (cK hbz2 hS.2.2.2.2.2.2))))));refine hK _ _ (fun _=>hS3) ?_;clear hK K hS hbz2;have hS:=hS3;clear hS3;try simp only[jX]
   refine uS 16 rfl (fun K hK=>?_);go_simp;refine(HTo.out _ _ _ (kI d i) (kI d j) V1 V2).mono ?_;rintro e wz ⟨rfl,hbz⟩;rw[htc];have hbz':Below wr.heap.size wr wz:=bS hS.1 hbz;have hS3:=And.intro hbz' (And.intro (cK hbz hS.2.1) (And.intro (cK hbz hS.2.2.1) (And.intro (cK hbz hS.2.2.2.1) (And.intro (cK hbz hS.2.2.2.2.1) (And.intro (cK hbz hS.2.2.2.2.2.1) (cK hbz hS.2.2.2.2.2.2))))));refine hK _ _ (fun _=>hS3) ?_;clear hK K hS hbz;have hS:=hS3;clear hS3;try simp only[jX]
   refine dN (NoPanic.normal ?_);go_wp2;go_ret;exact⟨by rw[HC];rfl,bS hBj hS.1⟩
  have hji:j=i:=by omega
  subst hji;have HC:Hid (fC (gK d) (j+1)=0):=fD HS.out (HA0.out j HS2.out);go_wp2;exact⟨⟨j+1,by omega,by go_num,HC,bS hbl hbl2⟩,by simp[intOf];omega⟩
 have hik:i=k:=by omega
 subst hik;have HKc':Hid (∀k c,k<i→fC (gI d) k=0→gI d k=c→c≠0→Z=c):=fun k c hk hs h hc=>HZK.out.trans (HKc.out HS.out k c hk hs h hc)
 have HKo':Hid (fC (gI d) i=0→Z=0):=fun h=>HZK.out.trans (HKo.out HS.out h)
 clear HKa HKc HKo HZK HS hlt HAt HA0 HAs HTo;go_wp2;obtain⟨w5,hw5⟩:∃w5,w5=wr:=⟨_,rfl⟩
 rw[←hw5] at hBi y0 y1 y2 y3 y4 y5 zq4 hbl ⊢;clear hw5;go_loopw [10] (fun v w'=>∃j:Nat,j≤i∧v = .int .i64 j∧Hid (fC (gI d) j=0)∧Below w5.heap.size w5 w') (fun v _=>i-(intOf v).toNat)
 case atStart=>exact⟨0,Nat.zero_le _,rfl,rfl,Below.refl _ _⟩
 rename_i wq3;obtain⟨j,hj,rfl,HS2,hbl2⟩:=hrel;have hBj:Below w.heap.size w wr:=bS hBi hbl2;replace y0:=cK hbl2 y0;replace y1:=cK hbl2 y1;replace y2:=cK hbl2 y2;replace y3:=cK hbl2 y3;replace y4:=cK hbl2 y4;replace y5:=cK hbl2 y5;have zq5:w.heap.size<wr.heap.size:=wL wr _ y0;by_cases hlt2:j<i
 ·
  obtain⟨bx,ox,p1,q1,rfl,g0,g1,hV1⟩:=HX3.out j hlt2;have HG1:Hid (∀W,Below wr.heap.size wr W→Calls Tryz.prog 44 #[.agg #[.int .i64 (d.held.getD j default).id,.slice p1 (d.held.getD j default).legs.length q1],.int .i64 d.idx] W fun e w'=>∃v,e = .returned v∧w'.ownsRow W.heap.size 131 4 v (kI d j).length (mV (kI d j))∧Below W.heap.size W w'):=fun W hW=>HLg.out W j p1 q1 (bS hBj hW) hlt2 (HCf.out j hlt2) hV1
  have HCo:Hid (fG5 d.bals (kI d j)=gI d j):=rfl;have HG3:Hid (∀W y,Below wr.heap.size wr W→legsR.V W y (kI d j)→Calls Tryz.prog 262 #[.slice a1 n1 c1,y] W fun e w'=>e = .returned (.int .i64 (gI d j))∧Below W.heap.size W w'):=fun W y hW hy=>HL2.out W y _ (bS hBj hW) hy (HSm.out j hlt2)
  have HE1:Hid (¬gI d j=0→Z=gI d j):=fun h=>HKc'.out j _ hlt2 HS2.out rfl h
  have HE0:Hid (gI d j=0→fC (gI d) (j+1)=0):=fun h=>fD HS2.out h
  replace g0:=cK hBj g0;replace g1:=cK hBj g1;clear hV1 HCo HS2;generalize gI d j=cv at *;have j1:(j:Int)<i:=by omega
  have j2:(0:Int)≤j:=by omega
  go_wp2;refine wp_region_noPanic ?_;refine fA (fun W=>Below wr.heap.size wr W∧W.cell? ⟨w.heap.size,0,none⟩=some (.int .i64 d.idx)∧W.cell? ⟨w.heap.size,1,none⟩=some (.slice a1 n1 c1)∧W.cell? ⟨w.heap.size,3,none⟩=some (.slice (some ⟨bx,ox,none⟩) i c3)∧W.cell? ⟨bx,ox+j*2,none⟩=some (.int .i64 (d.held.getD j default).id)∧W.cell? ⟨bx,ox+j*2+1,none⟩=some (.slice p1 (d.held.getD j default).legs.length q1)) 12 (by kernel_rfl) ⟨qBq,cK (qBq) y0,cK (qBq) y1,cK (qBq) y3,cK (qBq) g0,cK (qBq) g1⟩ (fun hS=>?_);refine tM 0 rfl hS ?_;try simp only[jX]
  refine tM 1 rfl hS ?_;try simp only[jX]
  refine tM 2 rfl hS ?_;try simp only[jX]
  refine tM 3 rfl hS ?_;try simp only[jX]
  refine tM 4 rfl hS ?_;try simp only[jX]
  refine tM 5 rfl hS ?_;try simp only[jX]
  refine tM 6 rfl hS ?_;try simp only[jX]
  refine tM 7 rfl hS ?_;try simp only[jX]
  refine tM 8 rfl hS ?_;try simp only[jX]
  refine uS 9 rfl (fun K hK=>?_);go_simp;refine(HG1.out _ hS.1).mono ?_;rintro e wz1 ⟨vl,rfl,ol,hbz1⟩;obtain⟨al,cl,rfl⟩:=gD ol;have V1:=kM ol;have hbz1':Below wr.heap.size wr wz1:=bS hS.1 hbz1;have hS3:=And.intro hbz1' (And.intro (cK hbz1 hS.2.1) (And.intro (cK hbz1 hS.2.2.1) (And.intro (cK hbz1 hS.2.2.2.1) (And.intro (cK hbz1 hS.2.2.2.2.1) (cK hbz1 hS.2.2.2.2.2)))));refine hK _ _ (fun _=>hS3) ?_;clear hK K hS hbz1;have hS:=hS3;clear hS3;try simp only[jX]
  refine uS 10 rfl (fun K hK=>?_);go_simp;refine(HG3.out _ _ hS.1 V1).mono ?_;rintro e wz ⟨rfl,hbz⟩;have hbz':Below wr.heap.size wr wz:=bS hS.1 hbz;have hS3:=And.intro hbz' (And.intro (cK hbz hS.2.1) (And.intro (cK hbz hS.2.2.1) (And.intro (cK hbz hS.2.2.2.1) (And.intro (cK hbz hS.2.2.2.2.1) (cK hbz hS.2.2.2.2.2)))));refine hK _ _ (fun _=>hS3) ?_;clear hK K hS hbz;have hS:=hS3;clear hS3;try simp only[jX]
  refine tM 11 rfl hS ?_;try simp only[jX]
  refine dN (NoPanic.normal ?_);by_cases hcv:cv=0
  ·
   have HC:Hid _:=HE0.out hcv;have hcv':(cv !=0)=false:=by simp[hcv]
   clear hcv HE0 HE1;go_wp2;exact⟨⟨j+1,by omega,by go_num,HC,bS hbl2 hS.1⟩,by simp[intOf];omega⟩
  have HC:=HE1.out hcv;have hcv':(cv !=0)=true:=by simp[hcv]
  go_wp2;go_ret;exact⟨by rw[HC];rfl,bS hBj hS.1⟩
 have hji:j=i:=by omega
 subst hji;have HC:=HKo'.out HS2.out;go_wp2;go_ret;exact⟨by rw[HC];rfl,qBq⟩
end Go.Proofs.YtbfnobcidnmohaaGreat

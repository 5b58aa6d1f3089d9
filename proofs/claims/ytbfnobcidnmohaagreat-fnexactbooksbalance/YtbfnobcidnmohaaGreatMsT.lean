import Derived.Test.YtbfnobcidnmohaaGreatPrnBooksBalanceLaw21
import Derived.BigQuiet
import Derived.Deep.QuietTactic
import Derived.Deep.RegionHeld3
set_option maxHeartbeats 8000000
set_option maxRecDepth 20000
set_option linter.unusedSimpArgs false
set_option linter.unusedVariables false
set_option linter.unusedSectionVars false
namespace Go.Proofs.YtbfnobcidnmohaaGreat
open Go.RowKit
variable [DecidableEq Leg] [Inhabited Leg] [DecidableEq Cont] [Inhabited Cont] [DecidableEq Bal] [Inhabited Bal] [DecidableEq Mrk] [Inhabited Mrk] [DecidableEq Shd] [Inhabited Shd] [DecidableEq Vot] [Inhabited Vot] [DecidableEq Slt] [Inhabited Slt] [DecidableEq Acc] [Inhabited Acc] [DecidableEq Trr] [Inhabited Trr] [DecidableEq Hrd] [Inhabited Hrd] [DecidableEq Ldr] [Inhabited Ldr] [DecidableEq Msg] [Inhabited Msg] [DecidableEq Clu] [Inhabited Clu] [DecidableEq Ledg] [Inhabited Ledg]
attribute [local go_sem ↓] Go.wp_at_zero Go.wp_at_succ
theorem fDy (B:Nat) (c:Clu) (m:Msg) (w:World) (h:CluP w B c) (hlen:∀k,k<c.cons.length→(c.cons.getD k default).legs.length≤1048576) :
  Calls Tryz.prog 65 #[.pointer (some ⟨B,0,none⟩),msgV m] w fun e w'=>e = .returned (.int .i64 (msgF c m))∧Below w.heap.size w w':=by
 have HEn:Hid (inB m.kind 1 6=true→∀W,Below w.heap.size w W→Calls Tryz.prog 128 #[.pointer (some ⟨B,0,none⟩),msgV m] W fun e w'=>e = .returned (.bool (kP c m))∧Below W.heap.size W w'):=fun hk W hW=>fKy B c m W (h.below hW) hk
 have HFi:Hid (∀W,Below w.heap.size w W→Calls Tryz.prog 45 #[.pointer (some ⟨B,0,none⟩),.int .i64 m.con] W fun e w'=>e = .returned (.int .i64 (rT c.cons m.con))∧Below W.heap.size W w'):=fun W hW=>vH B c m.con W (h.below hW)
 have HHa:Hid (∀s W,Below w.heap.size w W→Calls Tryz.prog 120 #[.pointer (some ⟨B,0,none⟩),.int .i64 m.con,.int .i64 s] W fun e w'=>e = .returned (.bool (hasL c m.con s))∧Below W.heap.size W w'):=fun s W hW=>uQ B c m.con s W (h.below hW) hlen
 have HBa:Hid (inB m.kind 1 6=true→∀W,Calls Tryz.prog 131 #[msgV m] W fun e w'=>e = .returned (msgV (mK m))∧Below W.heap.size W w'):=fun hk W=>fKx m W hk
 have HZ5:Hid (inB m.kind 1 6=false→msgF c m=5):=fIi;have HZ3:Hid (inB m.kind 1 6=true→kP c m=false→msgF c m=3):=fIg;have HZ4:Hid (inB m.kind 1 6=true→kP c m=true→¬fE c.cons m.con<c.cons.length→msgF c m=4):=fIj;have HZ6:Hid (inB m.kind 1 6=true→kP c m=true→fE c.cons m.con<c.cons.length→kZ (xOf c m) m=false→msgF c m=3):=fIk;have HZ7:Hid (inB m.kind 1 6=true→kP c m=true→fE c.cons m.con<c.cons.length→kZ (xOf c m) m=true→msgF c m=if m=mK m then 0 else 1):=fIh;have HHL:Hid (∀s,fE c.cons m.con<c.cons.length→hasL c m.con s=hasS (xOf c m).legs s):=fun s h=>by unfold hasL xOf;rw[decide_eq_true h,Bool.true_and]
 have HFp:Hid (fE c.cons m.con<c.cons.length→rT c.cons m.con=(fE c.cons m.con:Int)):=fun h=>by unfold rT;rw[if_pos h]
 have HFn:Hid (¬fE c.cons m.con<c.cons.length→rT c.cons m.con = -1):=fun h=>by unfold rT;rw[if_neg h]
 clear h hlen;generalize msgF c m=Z at *;cases hk:inB m.kind 1 6
 ·
  have HC:Hid _:=HZ5.out hk;unfold msgV;obtain⟨kind,to,frm,con,sh,bal,val,ob,ov⟩:=m;dsimp only at hk ⊢;clear HEn HFi HHa HBa HZ3 HZ4 HZ6 HZ7 HZ5 HHL HFp HFn;go_enter Tryz.func65,Tryz.ntmps65;go_wp2_with (first|(go_at_call 123;refine(fO _ _ _ _).mono ?_;rintro e w' ⟨rfl,hw⟩;obtain rfl:=hw.symm;rw[hk]));go_ret;exact⟨by rw[HC.out];rfl,qBq⟩
 have HZ3':Hid (kP c m=false→Z=3):=HZ3.out hk;have HZ4':Hid (kP c m=true→¬fE c.cons m.con<c.cons.length→Z=4):=HZ4.out hk;have HZ6':Hid (kP c m=true→fE c.cons m.con<c.cons.length→kZ (xOf c m) m=false→Z=3):=HZ6.out hk;have HZ7':Hid (kP c m=true→fE c.cons m.con<c.cons.length→kZ (xOf c m) m=true→Z=if m=mK m then 0 else 1):=HZ7.out hk;have HE2:Hid _:=HEn.out hk;have HN2:Hid _:=HBa.out hk;have HSs:Hid (∀b,kZ (xOf c m) m=b→kZ (xOf c m) m=b):=fun b h=>h
 clear HEn HBa HZ3 HZ4 HZ6 HZ7 HZ5;generalize kP c m=eb at *;obtain⟨xc,hxc⟩:∃xc,xc=xOf c m:=⟨_,rfl⟩
 rw[←hxc] at HZ6' HZ7' HSs;have HHL':Hid (∀s,fE c.cons m.con<c.cons.length→hasL c m.con s=hasS xc.legs s):=fun s h=>by rw[hxc];exact HHL.out s h
 obtain⟨bm,hbm⟩:∃bm,bm=mK m:=⟨_,rfl⟩
 rw[←hbm] at HN2 HZ7';clear hxc HHL HSs hbm;obtain⟨fl,hfl⟩:∃fl:Prop,fl=(fE c.cons m.con<c.cons.length):=⟨_,rfl⟩
 have HFp':Hid (fl→∃q:Nat,rT c.cons m.con=(q:Int)):=fun h=>⟨_,HFp.out (by rw[←hfl];exact h)⟩
 rw[←hfl] at HZ4' HZ6' HZ7' HFn;have HHL2:Hid (∀s,fl→hasL c m.con s=hasS xc.legs s):=fun s h=>HHL'.out s (by rw[←hfl];exact h)
 clear hfl HFp HHL';generalize rT c.cons m.con=fi at *;unfold msgV at HE2 HN2 ⊢;have hk':=kinds hk;obtain⟨kind,to,frm,con,sh,bal,val,ob,ov⟩:=m;obtain⟨kind2,to2,frm2,con2,sh2,bal2,val2,ob2,ov2⟩:=bm;dsimp only at hk' HE2 HN2 HFi HHa HZ6' HZ7' HHL2 ⊢;clear hk;rcases hk' with rfl|rfl|rfl|rfl|rfl|rfl
 ·
  have HSy:Hid (kZ xc ⟨1,to,frm,con,sh,bal,val,ob,ov⟩=(hasS xc.legs to)):=by show _=_;simp[kZ]
  rw[HSy.out] at HZ6' HZ7';clear HSy;have hne:=fCy 1 to frm con sh bal val ob ov kind2 to2 frm2 con2 sh2 bal2 val2 ob2 ov2;go_enter Tryz.func65,Tryz.ntmps65;go_wp2_with (first|(go_at_call 123;refine(fO _ _ _ _).mono ?_;rintro e w' ⟨rfl,hw⟩;obtain rfl:=hw.symm;rw[show inB 1 1 6=true from rfl]));go_wp2_with fail;refine(HE2.out _ (qBq)).mono ?_;rintro e w1 ⟨rfl,hb1⟩;have hB1:Below w.heap.size w w1:=qBq;have m0:w1.cell? ⟨w.heap.size,0,none⟩=some (.int .i64 1):=cK hb1 (by simp[go_sem]);have m1:w1.cell? ⟨w.heap.size,1,none⟩=some (.int .i64 to):=cK hb1 (by simp[go_sem]);have m2:w1.cell? ⟨w.heap.size,2,none⟩=some (.int .i64 frm):=cK hb1 (by simp[go_sem]);have m3:w1.cell? ⟨w.heap.size,3,none⟩=some (.int .i64 con):=cK hb1 (by simp[go_sem]);have m4:w1.cell? ⟨w.heap.size,4,none⟩=some (.int .i64 sh):=cK hb1 (by simp[go_sem]);have m5:w1.cell? ⟨w.heap.size,5,none⟩=some (.int .i64 bal):=cK hb1 (by simp[go_sem]);have m6:w1.cell? ⟨w.heap.size,6,none⟩=some (.int .i64 val):=cK hb1 (by simp[go_sem]);have m7:w1.cell? ⟨w.heap.size,7,none⟩=some (.int .i64 ob):=cK hb1 (by simp[go_sem]);have m8:w1.cell? ⟨w.heap.size,8,none⟩=some (.int .i64 ov):=cK hb1 (by simp[go_sem]);clear hb1 HE2;cases eb
  ·
   have HC:Hid (Z=3):=HZ3'.out rfl;clear HZ3' HZ4' HZ6' HZ7' HFi HHa HN2 HHL2 HFp' HFn hne;go_wp2;go_ret;exact⟨by rw[HC.out];rfl,qBq⟩
  have HZ4:Hid (¬fl→Z=4):=HZ4'.out rfl;have HZ6:=HZ6'.out rfl;have HZ7:=HZ7'.out rfl;clear HZ3' HZ4' HZ6' HZ7';have HZ6h:Hid (fl→_):=HZ6;have HZ7h:Hid (fl→_):=HZ7;clear HZ6 HZ7;go_wp2_with fail;refine(HFi.out _ hB1).mono ?_;rintro e w2 ⟨rfl,hb2⟩;have hB2:Below w.heap.size w w2:=bS hB1 hb2;replace m0:=cK hb2 m0;replace m1:=cK hb2 m1;replace m2:=cK hb2 m2;replace m3:=cK hb2 m3;replace m4:=cK hb2 m4;replace m5:=cK hb2 m5;replace m6:=cK hb2 m6;replace m7:=cK hb2 m7;replace m8:=cK hb2 m8;clear hb2 HFi hB1;by_cases hfl:fl;rotate_left
  ·
   have HC:Hid _:=HZ4.out hfl;rw[HFn.out hfl];clear HZ4 HZ6h HZ7h HHa HN2 HHL2 HFp' HFn hne hfl;go_wp2;go_ret;exact⟨by rw[HC.out];rfl,qBq⟩
  have HZ6:=HZ6h.out hfl;have HZ7:=HZ7h.out hfl;obtain⟨q,rfl⟩:=HFp'.out hfl;have hq0:¬(q:Int)<0:=by omega
  have hhl:=HHL2.out to hfl;clear HZ4 HZ6h HZ7h HHL2 HFp' HFn hfl;go_wp2_with fail;refine(HHa.out to _ hB2).mono ?_;rintro e w3 ⟨rfl,hb3⟩;rw[hhl];have hB3:Below w.heap.size w w3:=bS hB2 hb3;replace m0:=cK hb3 m0;replace m1:=cK hb3 m1;replace m2:=cK hb3 m2;replace m3:=cK hb3 m3;replace m4:=cK hb3 m4;replace m5:=cK hb3 m5;replace m6:=cK hb3 m6;replace m7:=cK hb3 m7;replace m8:=cK hb3 m8;clear hb3 HHa hB2 hhl hq0;cases hl:hasS xc.legs to
  ·
   have HC:Hid (Z=3):=HZ6 (by simp[hl]);clear HZ6 HZ7 HN2 hne;go_wp2;go_ret;exact⟨by rw[HC.out];rfl,qBq⟩
  have HZ:Hid (Z=if (⟨1,to,frm,con,sh,bal,val,ob,ov⟩:Msg)=⟨kind2,to2,frm2,con2,sh2,bal2,val2,ob2,ov2⟩ then 0 else 1):=HZ7 (by simp[hl]);clear HZ6 HZ7;go_wp2;refine wp_region_noPanic ?_;refine fA (fun W=>W.cell? ⟨w.heap.size,0,none⟩=some (.int .i64 1)∧W.cell? ⟨w.heap.size,7,none⟩=some (.int .i64 ob)∧W.cell? ⟨w.heap.size,8,none⟩=some (.int .i64 ov)) 15 (by kernel_rfl) ⟨cK (qBq) m0,cK (qBq) m7,cK (qBq) m8⟩ (fun hS=>?_);refine tM 0 rfl hS ?_;try simp only[jX]
  refine tM 1 rfl hS ?_;try simp only[jX]
  refine tM 2 rfl hS ?_;try simp only[jX]
  refine tM 3 rfl hS ?_;try simp only[jX]
  refine sN 4 rfl hS (fun _=>?_);try simp only[jX]
  refine sN 5 rfl hS (fun _=>?_);try simp only[jX]
  refine sN 6 rfl hS (fun _=>?_);try simp only[jX]
  refine sN 7 rfl hS (fun _=>?_);try simp only[jX]
  refine tM 8 rfl hS ?_;try simp only[jX]
  refine tM 9 rfl hS ?_;try simp only[jX]
  refine sN 10 rfl hS (fun _=>?_);try simp only[jX]
  refine sN 11 rfl hS (fun _=>?_);try simp only[jX]
  refine sN 12 rfl hS (fun _=>?_);try simp only[jX]
  refine sN 13 rfl hS (fun _=>?_);try simp only[jX]
  refine tM 14 rfl hS ?_;try simp only[jX]
  refine dN (NoPanic.normal ?_);go_wp2;refine wp_region_noPanic ?_;refine fA (fun W=>W.cell? ⟨w.heap.size,0,none⟩=some (.int .i64 1)∧W.cell? ⟨w.heap.size,1,none⟩=some (.int .i64 to)∧W.cell? ⟨w.heap.size,2,none⟩=some (.int .i64 frm)∧W.cell? ⟨w.heap.size,3,none⟩=some (.int .i64 con)∧W.cell? ⟨w.heap.size,4,none⟩=some (.int .i64 sh)∧W.cell? ⟨w.heap.size,5,none⟩=some (.int .i64 bal)∧W.cell? ⟨w.heap.size,6,none⟩=some (.int .i64 val)∧W.cell? ⟨w.heap.size,7,none⟩=some (.int .i64 ob)∧W.cell? ⟨w.heap.size,8,none⟩=some (.int .i64 ov)) 4 (by kernel_rfl) ⟨cK (qBq) m0,cK (qBq) m1,cK (qBq) m2,cK (qBq) m3,cK (qBq) m4,cK (qBq) m5,cK (qBq) m6,cK (qBq) m7,cK (qBq) m8⟩ (fun hS=>?_);refine tM 0 rfl hS ?_;try simp only[jX]
  refine tM 1 rfl hS ?_;try simp only[jX]
  refine uS 2 rfl (fun K hK=>?_);go_simp;refine(HN2.out _).mono ?_;rintro e w9 ⟨rfl,hb9⟩;have hB9:Below w.heap.size w w9:=bS (qBq) hb9;have hS9:=And.intro (cK hb9 (cK (qBq) m0)) (And.intro (cK hb9 (cK (qBq) m1)) (And.intro (cK hb9 (cK (qBq) m2)) (And.intro (cK hb9 (cK (qBq) m3)) (And.intro (cK hb9 (cK (qBq) m4)) (And.intro (cK hb9 (cK (qBq) m5)) (And.intro (cK hb9 (cK (qBq) m6)) (And.intro (cK hb9 (cK (qBq) m7)) (cK hb9 (cK (qBq) m8)))))))));refine hK _ _ (fun _=>hS9) ?_;clear hK K;try simp only[jX]
  by_cases hq:(⟨1,to,frm,con,sh,bal,val,ob,ov⟩:Msg)=⟨kind2,to2,frm2,con2,sh2,bal2,val2,ob2,ov2⟩
  ·
   rw[decide_eq_true hq] at hne;have HC:Hid (Z=0):=by show _=_;rw[HZ.out,if_pos hq]
   clear HZ hq;refine tM 3 (v:=(.bool false)) rfl hS9 ?_;try simp only[jX]
   refine dN (NoPanic.normal ?_);go_wp2;go_ret;exact⟨by rw[HC.out];rfl,hB9⟩
  rw[decide_eq_false hq] at hne;have HC:Hid (Z=1):=by show _=_;rw[HZ.out,if_neg hq]
  clear HZ hq;refine tM 3 (v:=(.bool true)) rfl hS9 ?_;try simp only[jX]
  refine dN (NoPanic.normal ?_);go_wp2;go_ret;exact⟨by rw[HC.out];rfl,hB9⟩
 ·
  have HSy:Hid (kZ xc ⟨2,to,frm,con,sh,bal,val,ob,ov⟩=(hasS xc.legs sh&&(inB bal 0 1000&&(inB val 1 2)))):=by show _=_;simp[kZ]
  rw[HSy.out] at HZ6' HZ7';clear HSy;have hne:=fCy 2 to frm con sh bal val ob ov kind2 to2 frm2 con2 sh2 bal2 val2 ob2 ov2;go_enter Tryz.func65,Tryz.ntmps65;go_wp2_with (first|(go_at_call 123;refine(fO _ _ _ _).mono ?_;rintro e w' ⟨rfl,hw⟩;obtain rfl:=hw.symm;rw[show inB 2 1 6=true from rfl]));go_wp2_with fail;refine(HE2.out _ (qBq)).mono ?_;rintro e w1 ⟨rfl,hb1⟩;have hB1:Below w.heap.size w w1:=qBq;have m0:w1.cell? ⟨w.heap.size,0,none⟩=some (.int .i64 2):=cK hb1 (by simp[go_sem]);have m1:w1.cell? ⟨w.heap.size,1,none⟩=some (.int .i64 to):=cK hb1 (by simp[go_sem]);have m2:w1.cell? ⟨w.heap.size,2,none⟩=some (.int .i64 frm):=cK hb1 (by simp[go_sem]);have m3:w1.cell? ⟨w.heap.size,3,none⟩=some (.int .i64 con):=cK hb1 (by simp[go_sem]);have m4:w1.cell? ⟨w.heap.size,4,none⟩=some (.int .i64 sh):=cK hb1 (by simp[go_sem]);have m5:w1.cell? ⟨w.heap.size,5,none⟩=some (.int .i64 bal):=cK hb1 (by simp[go_sem]);have m6:w1.cell? ⟨w.heap.size,6,none⟩=some (.int .i64 val):=cK hb1 (by simp[go_sem]);have m7:w1.cell? ⟨w.heap.size,7,none⟩=some (.int .i64 ob):=cK hb1 (by simp[go_sem]);have m8:w1.cell? ⟨w.heap.size,8,none⟩=some (.int .i64 ov):=cK hb1 (by simp[go_sem]);clear hb1 HE2;cases eb
  ·
   have HC:Hid (Z=3):=HZ3'.out rfl;clear HZ3' HZ4' HZ6' HZ7' HFi HHa HN2 HHL2 HFp' HFn hne;go_wp2;go_ret;exact⟨by rw[HC.out];rfl,qBq⟩
  have HZ4:Hid (¬fl→Z=4):=HZ4'.out rfl;have HZ6:=HZ6'.out rfl;have HZ7:=HZ7'.out rfl;clear HZ3' HZ4' HZ6' HZ7';have HZ6h:Hid (fl→_):=HZ6;have HZ7h:Hid (fl→_):=HZ7;clear HZ6 HZ7;go_wp2_with fail;refine(HFi.out _ hB1).mono ?_;rintro e w2 ⟨rfl,hb2⟩;have hB2:Below w.heap.size w w2:=bS hB1 hb2;replace m0:=cK hb2 m0;replace m1:=cK hb2 m1;replace m2:=cK hb2 m2;replace m3:=cK hb2 m3;replace m4:=cK hb2 m4;replace m5:=cK hb2 m5;replace m6:=cK hb2 m6;replace m7:=cK hb2 m7;replace m8:=cK hb2 m8;clear hb2 HFi hB1;by_cases hfl:fl;rotate_left
  ·
   have HC:Hid _:=HZ4.out hfl;rw[HFn.out hfl];clear HZ4 HZ6h HZ7h HHa HN2 HHL2 HFp' HFn hne hfl;go_wp2;go_ret;exact⟨by rw[HC.out];rfl,qBq⟩
  have HZ6:=HZ6h.out hfl;have HZ7:=HZ7h.out hfl;obtain⟨q,rfl⟩:=HFp'.out hfl;have hq0:¬(q:Int)<0:=by omega
  have hhl:=HHL2.out sh hfl;clear HZ4 HZ6h HZ7h HHL2 HFp' HFn hfl;go_wp2_with fail;refine(HHa.out sh _ hB2).mono ?_;rintro e w3 ⟨rfl,hb3⟩;rw[hhl];have hB3:Below w.heap.size w w3:=bS hB2 hb3;replace m0:=cK hb3 m0;replace m1:=cK hb3 m1;replace m2:=cK hb3 m2;replace m3:=cK hb3 m3;replace m4:=cK hb3 m4;replace m5:=cK hb3 m5;replace m6:=cK hb3 m6;replace m7:=cK hb3 m7;replace m8:=cK hb3 m8;clear hb3 HHa hB2 hhl hq0;cases hl:hasS xc.legs sh
  ·
   have HC:Hid (Z=3):=HZ6 (by simp[hl]);clear HZ6 HZ7 HN2 hne;go_wp2;go_ret;exact⟨by rw[HC.out];rfl,qBq⟩
  cases hb:inB bal 0 1000
  ·
   have HC:Hid (Z=3):=HZ6 (by simp[hb]);clear HZ6 HZ7 HN2 hne;go_wp2_with (first|(go_at_call 125;refine(fU _ _).mono ?_;rintro e w' ⟨rfl,hw⟩;obtain rfl:=hw.symm;rw[hb]));go_ret;exact⟨by rw[HC.out];rfl,qBq⟩
  cases hv:inB val 1 2
  ·
   have HC:Hid (Z=3):=HZ6 (by simp[hv]);clear HZ6 HZ7 HN2 hne;go_wp2_with (first|(go_at_call 125;refine(fU _ _).mono ?_;rintro e w' ⟨rfl,hw⟩;obtain rfl:=hw.symm;rw[hb])|(go_at_call 126;refine(gZ _ _).mono ?_;rintro e w' ⟨rfl,hw⟩;obtain rfl:=hw.symm;rw[hv]));go_ret;exact⟨by rw[HC.out];rfl,qBq⟩
  have HZ:Hid (Z=if (⟨2,to,frm,con,sh,bal,val,ob,ov⟩:Msg)=⟨kind2,to2,frm2,con2,sh2,bal2,val2,ob2,ov2⟩ then 0 else 1):=HZ7 (by simp[hl,hb,hv]);clear HZ6 HZ7;go_wp2_with (first|(go_at_call 125;refine(fU _ _).mono ?_;rintro e w' ⟨rfl,hw⟩;obtain rfl:=hw.symm;rw[hb])|(go_at_call 126;refine(gZ _ _).mono ?_;rintro e w' ⟨rfl,hw⟩;obtain rfl:=hw.symm;rw[hv]));refine wp_region_noPanic ?_;refine fA (fun W=>W.cell? ⟨w.heap.size,0,none⟩=some (.int .i64 2)∧W.cell? ⟨w.heap.size,7,none⟩=some (.int .i64 ob)∧W.cell? ⟨w.heap.size,8,none⟩=some (.int .i64 ov)) 15 (by kernel_rfl) ⟨cK (qBq) m0,cK (qBq) m7,cK (qBq) m8⟩ (fun hS=>?_);refine tM 0 rfl hS ?_;try simp only[jX]
  refine tM 1 rfl hS ?_;try simp only[jX]
  refine tM 2 rfl hS ?_;try simp only[jX]
  refine tM 3 rfl hS ?_;try simp only[jX]
  refine sN 4 rfl hS (fun _=>?_);try simp only[jX]
  refine sN 5 rfl hS (fun _=>?_);try simp only[jX]
  refine sN 6 rfl hS (fun _=>?_);try simp only[jX]
  refine sN 7 rfl hS (fun _=>?_);try simp only[jX]
  refine tM 8 rfl hS ?_;try simp only[jX]
  refine tM 9 rfl hS ?_;try simp only[jX]
  refine sN 10 rfl hS (fun _=>?_);try simp only[jX]
  refine sN 11 rfl hS (fun _=>?_);try simp only[jX]
  refine sN 12 rfl hS (fun _=>?_);try simp only[jX]
  refine sN 13 rfl hS (fun _=>?_);try simp only[jX]
  refine tM 14 rfl hS ?_;try simp only[jX]
  refine dN (NoPanic.normal ?_);go_wp2;refine wp_region_noPanic ?_;refine fA (fun W=>W.cell? ⟨w.heap.size,0,none⟩=some (.int .i64 2)∧W.cell? ⟨w.heap.size,1,none⟩=some (.int .i64 to)∧W.cell? ⟨w.heap.size,2,none⟩=some (.int .i64 frm)∧W.cell? ⟨w.heap.size,3,none⟩=some (.int .i64 con)∧W.cell? ⟨w.heap.size,4,none⟩=some (.int .i64 sh)∧W.cell? ⟨w.heap.size,5,none⟩=some (.int .i64 bal)∧W.cell? ⟨w.heap.size,6,none⟩=some (.int .i64 val)∧W.cell? ⟨w.heap.size,7,none⟩=some (.int .i64 ob)∧W.cell? ⟨w.heap.size,8,none⟩=some (.int .i64 ov)) 4 (by kernel_rfl) ⟨cK (qBq) m0,cK (qBq) m1,cK (qBq) m2,cK (qBq) m3,cK (qBq) m4,cK (qBq) m5,cK (qBq) m6,cK (qBq) m7,cK (qBq) m8⟩ (fun hS=>?_);refine tM 0 rfl hS ?_;try simp only[jX]
  refine tM 1 rfl hS ?_;try simp only[jX]
  refine uS 2 rfl (fun K hK=>?_);go_simp;refine(HN2.out _).mono ?_;rintro e w9 ⟨rfl,hb9⟩;have hB9:Below w.heap.size w w9:=bS (qBq) hb9;have hS9:=And.intro (cK hb9 (cK (qBq) m0)) (And.intro (cK hb9 (cK (qBq) m1)) (And.intro (cK hb9 (cK (qBq) m2)) (And.intro (cK hb9 (cK (qBq) m3)) (And.intro (cK hb9 (cK (qBq) m4)) (And.intro (cK hb9 (cK (qBq) m5)) (And.intro (cK hb9 (cK (qBq) m6)) (And.intro (cK hb9 (cK (qBq) m7)) (cK hb9 (cK (qBq) m8)))))))));refine hK _ _ (fun _=>hS9) ?_;clear hK K;try simp only[jX]
  by_cases hq:(⟨2,to,frm,con,sh,bal,val,ob,ov⟩:Msg)=⟨kind2,to2,frm2,con2,sh2,bal2,val2,ob2,ov2⟩
  ·
   rw[decide_eq_true hq] at hne;have HC:Hid (Z=0):=by show _=_;rw[HZ.out,if_pos hq]
   clear HZ hq;refine tM 3 (v:=(.bool false)) rfl hS9 ?_;try simp only[jX]
   refine dN (NoPanic.normal ?_);go_wp2;go_ret;exact⟨by rw[HC.out];rfl,hB9⟩
  rw[decide_eq_false hq] at hne;have HC:Hid (Z=1):=by show _=_;rw[HZ.out,if_neg hq]
  clear HZ hq;refine tM 3 (v:=(.bool true)) rfl hS9 ?_;try simp only[jX]
  refine dN (NoPanic.normal ?_);go_wp2;go_ret;exact⟨by rw[HC.out];rfl,hB9⟩
 ·
  have HSy:Hid (kZ xc ⟨3,to,frm,con,sh,bal,val,ob,ov⟩=(hasS xc.legs sh&&(inB bal 0 1000&&(inB val 1 2)))):=by show _=_;simp[kZ]
  rw[HSy.out] at HZ6' HZ7';clear HSy;have hne:=fCy 3 to frm con sh bal val ob ov kind2 to2 frm2 con2 sh2 bal2 val2 ob2 ov2;go_enter Tryz.func65,Tryz.ntmps65;go_wp2_with (first|(go_at_call 123;refine(fO _ _ _ _).mono ?_;rintro e w' ⟨rfl,hw⟩;obtain rfl:=hw.symm;rw[show inB 3 1 6=true from rfl]));go_wp2_with fail;refine(HE2.out _ (qBq)).mono ?_;rintro e w1 ⟨rfl,hb1⟩;have hB1:Below w.heap.size w w1:=qBq;have m0:w1.cell? ⟨w.heap.size,0,none⟩=some (.int .i64 3):=cK hb1 (by simp[go_sem]);have m1:w1.cell? ⟨w.heap.size,1,none⟩=some (.int .i64 to):=cK hb1 (by simp[go_sem]);have m2:w1.cell? ⟨w.heap.size,2,none⟩=some (.int .i64 frm):=cK hb1 (by simp[go_sem]);have m3:w1.cell? ⟨w.heap.size,3,none⟩=some (.int .i64 con):=cK hb1 (by simp[go_sem]);have m4:w1.cell? ⟨w.heap.size,4,none⟩=some (.int .i64 sh):=cK hb1 (by simp[go_sem]);have m5:w1.cell? ⟨w.heap.size,5,none⟩=some (.int .i64 bal):=cK hb1 (by simp[go_sem]);have m6:w1.cell? ⟨w.heap.size,6,none⟩=some (.int .i64 val):=cK hb1 (by simp[go_sem]);have m7:w1.cell? ⟨w.heap.size,7,none⟩=some (.int .i64 ob):=cK hb1 (by simp[go_sem]);have m8:w1.cell? ⟨w.heap.size,8,none⟩=some (.int .i64 ov):=cK hb1 (by simp[go_sem]);clear hb1 HE2;cases eb
  ·
   have HC:Hid (Z=3):=HZ3'.out rfl;clear HZ3' HZ4' HZ6' HZ7' HFi HHa HN2 HHL2 HFp' HFn hne;go_wp2;go_ret;exact⟨by rw[HC.out];rfl,qBq⟩
  have HZ4:Hid (¬fl→Z=4):=HZ4'.out rfl;have HZ6:=HZ6'.out rfl;have HZ7:=HZ7'.out rfl;clear HZ3' HZ4' HZ6' HZ7';have HZ6h:Hid (fl→_):=HZ6;have HZ7h:Hid (fl→_):=HZ7;clear HZ6 HZ7;go_wp2_with fail;refine(HFi.out _ hB1).mono ?_;rintro e w2 ⟨rfl,hb2⟩;have hB2:Below w.heap.size w w2:=bS hB1 hb2;replace m0:=cK hb2 m0;replace m1:=cK hb2 m1;replace m2:=cK hb2 m2;replace m3:=cK hb2 m3;replace m4:=cK hb2 m4;replace m5:=cK hb2 m5;replace m6:=cK hb2 m6;replace m7:=cK hb2 m7;replace m8:=cK hb2 m8;clear hb2 HFi hB1;by_cases hfl:fl;rotate_left
  ·
   have HC:Hid _:=HZ4.out hfl;rw[HFn.out hfl];clear HZ4 HZ6h HZ7h HHa HN2 HHL2 HFp' HFn hne hfl;go_wp2;go_ret;exact⟨by rw[HC.out];rfl,qBq⟩
  have HZ6:=HZ6h.out hfl;have HZ7:=HZ7h.out hfl;obtain⟨q,rfl⟩:=HFp'.out hfl;have hq0:¬(q:Int)<0:=by omega
  have hhl:=HHL2.out sh hfl;clear HZ4 HZ6h HZ7h HHL2 HFp' HFn hfl;go_wp2_with fail;refine(HHa.out sh _ hB2).mono ?_;rintro e w3 ⟨rfl,hb3⟩;rw[hhl];have hB3:Below w.heap.size w w3:=bS hB2 hb3;replace m0:=cK hb3 m0;replace m1:=cK hb3 m1;replace m2:=cK hb3 m2;replace m3:=cK hb3 m3;replace m4:=cK hb3 m4;replace m5:=cK hb3 m5;replace m6:=cK hb3 m6;replace m7:=cK hb3 m7;replace m8:=cK hb3 m8;clear hb3 HHa hB2 hhl hq0;cases hl:hasS xc.legs sh
  ·
   have HC:Hid (Z=3):=HZ6 (by simp[hl]);clear HZ6 HZ7 HN2 hne;go_wp2;go_ret;exact⟨by rw[HC.out];rfl,qBq⟩
  cases hb:inB bal 0 1000
  ·
   have HC:Hid (Z=3):=HZ6 (by simp[hb]);clear HZ6 HZ7 HN2 hne;go_wp2_with (first|(go_at_call 125;refine(fU _ _).mono ?_;rintro e w' ⟨rfl,hw⟩;obtain rfl:=hw.symm;rw[hb]));go_ret;exact⟨by rw[HC.out];rfl,qBq⟩
  cases hv:inB val 1 2
  ·
   have HC:Hid (Z=3):=HZ6 (by simp[hv]);clear HZ6 HZ7 HN2 hne;go_wp2_with (first|(go_at_call 125;refine(fU _ _).mono ?_;rintro e w' ⟨rfl,hw⟩;obtain rfl:=hw.symm;rw[hb])|(go_at_call 126;refine(gZ _ _).mono ?_;rintro e w' ⟨rfl,hw⟩;obtain rfl:=hw.symm;rw[hv]));go_ret;exact⟨by rw[HC.out];rfl,qBq⟩
  have HZ:Hid (Z=if (⟨3,to,frm,con,sh,bal,val,ob,ov⟩:Msg)=⟨kind2,to2,frm2,con2,sh2,bal2,val2,ob2,ov2⟩ then 0 else 1):=HZ7 (by simp[hl,hb,hv]);clear HZ6 HZ7;go_wp2_with (first|(go_at_call 125;refine(fU _ _).mono ?_;rintro e w' ⟨rfl,hw⟩;obtain rfl:=hw.symm;rw[hb])|(go_at_call 126;refine(gZ _ _).mono ?_;rintro e w' ⟨rfl,hw⟩;obtain rfl:=hw.symm;rw[hv]));refine wp_region_noPanic ?_;refine fA (fun W=>W.cell? ⟨w.heap.size,0,none⟩=some (.int .i64 3)∧W.cell? ⟨w.heap.size,7,none⟩=some (.int .i64 ob)∧W.cell? ⟨w.heap.size,8,none⟩=some (.int .i64 ov)) 15 (by kernel_rfl) ⟨cK (qBq) m0,cK (qBq) m7,cK (qBq) m8⟩ (fun hS=>?_);refine tM 0 rfl hS ?_;try simp only[jX]
  refine tM 1 rfl hS ?_;try simp only[jX]
  refine tM 2 rfl hS ?_;try simp only[jX]
  refine tM 3 rfl hS ?_;try simp only[jX]
  refine sN 4 rfl hS (fun _=>?_);try simp only[jX]
  refine sN 5 rfl hS (fun _=>?_);try simp only[jX]
  refine sN 6 rfl hS (fun _=>?_);try simp only[jX]
  refine sN 7 rfl hS (fun _=>?_);try simp only[jX]
  refine tM 8 rfl hS ?_;try simp only[jX]
  refine tM 9 rfl hS ?_;try simp only[jX]
  refine sN 10 rfl hS (fun _=>?_);try simp only[jX]
  refine sN 11 rfl hS (fun _=>?_);try simp only[jX]
  refine sN 12 rfl hS (fun _=>?_);try simp only[jX]
  refine sN 13 rfl hS (fun _=>?_);try simp only[jX]
  refine tM 14 rfl hS ?_;try simp only[jX]
  refine dN (NoPanic.normal ?_);go_wp2;refine wp_region_noPanic ?_;refine fA (fun W=>W.cell? ⟨w.heap.size,0,none⟩=some (.int .i64 3)∧W.cell? ⟨w.heap.size,1,none⟩=some (.int .i64 to)∧W.cell? ⟨w.heap.size,2,none⟩=some (.int .i64 frm)∧W.cell? ⟨w.heap.size,3,none⟩=some (.int .i64 con)∧W.cell? ⟨w.heap.size,4,none⟩=some (.int .i64 sh)∧W.cell? ⟨w.heap.size,5,none⟩=some (.int .i64 bal)∧W.cell? ⟨w.heap.size,6,none⟩=some (.int .i64 val)∧W.cell? ⟨w.heap.size,7,none⟩=some (.int .i64 ob)∧W.cell? ⟨w.heap.size,8,none⟩=some (.int .i64 ov)) 4 (by kernel_rfl) ⟨cK (qBq) m0,cK (qBq) m1,cK (qBq) m2,cK (qBq) m3,cK (qBq) m4,cK (qBq) m5,cK (qBq) m6,cK (qBq) m7,cK (qBq) m8⟩ (fun hS=>?_);refine tM 0 rfl hS ?_;try simp only[jX]
  refine tM 1 rfl hS ?_;try simp only[jX]
  refine uS 2 rfl (fun K hK=>?_);go_simp;refine(HN2.out _).mono ?_;rintro e w9 ⟨rfl,hb9⟩;have hB9:Below w.heap.size w w9:=bS (qBq) hb9;have hS9:=And.intro (cK hb9 (cK (qBq) m0)) (And.intro (cK hb9 (cK (qBq) m1)) (And.intro (cK hb9 (cK (qBq) m2)) (And.intro (cK hb9 (cK (qBq) m3)) (And.intro (cK hb9 (cK (qBq) m4)) (And.intro (cK hb9 (cK (qBq) m5)) (And.intro (cK hb9 (cK (qBq) m6)) (And.intro (cK hb9 (cK (qBq) m7)) (cK hb9 (cK (qBq) m8)))))))));refine hK _ _ (fun _=>hS9) ?_;clear hK K;try simp only[jX]
  by_cases hq:(⟨3,to,frm,con,sh,bal,val,ob,ov⟩:Msg)=⟨kind2,to2,frm2,con2,sh2,bal2,val2,ob2,ov2⟩
  ·
   rw[decide_eq_true hq] at hne;have HC:Hid (Z=0):=by show _=_;rw[HZ.out,if_pos hq]
   clear HZ hq;refine tM 3 (v:=(.bool false)) rfl hS9 ?_;try simp only[jX]
   refine dN (NoPanic.normal ?_);go_wp2;go_ret;exact⟨by rw[HC.out];rfl,hB9⟩
  rw[decide_eq_false hq] at hne;have HC:Hid (Z=1):=by show _=_;rw[HZ.out,if_neg hq]
  clear HZ hq;refine tM 3 (v:=(.bool true)) rfl hS9 ?_;try simp only[jX]
  refine dN (NoPanic.normal ?_);go_wp2;go_ret;exact⟨by rw[HC.out];rfl,hB9⟩
 ·
  have HSy:Hid (kZ xc ⟨4,to,frm,con,sh,bal,val,ob,ov⟩=(hasS xc.legs sh&&(inB bal 0 1000))):=by show _=_;simp[kZ]
  rw[HSy.out] at HZ6' HZ7';clear HSy;have hne:=fCy 4 to frm con sh bal val ob ov kind2 to2 frm2 con2 sh2 bal2 val2 ob2 ov2;go_enter Tryz.func65,Tryz.ntmps65;go_wp2_with (first|(go_at_call 123;refine(fO _ _ _ _).mono ?_;rintro e w' ⟨rfl,hw⟩;obtain rfl:=hw.symm;rw[show inB 4 1 6=true from rfl]));go_wp2_with fail;refine(HE2.out _ (qBq)).mono ?_;rintro e w1 ⟨rfl,hb1⟩;have hB1:Below w.heap.size w w1:=qBq;have m0:w1.cell? ⟨w.heap.size,0,none⟩=some (.int .i64 4):=cK hb1 (by simp[go_sem]);have m1:w1.cell? ⟨w.heap.size,1,none⟩=some (.int .i64 to):=cK hb1 (by simp[go_sem]);have m2:w1.cell? ⟨w.heap.size,2,none⟩=some (.int .i64 frm):=cK hb1 (by simp[go_sem]);have m3:w1.cell? ⟨w.heap.size,3,none⟩=some (.int .i64 con):=cK hb1 (by simp[go_sem]);have m4:w1.cell? ⟨w.heap.size,4,none⟩=some (.int .i64 sh):=cK hb1 (by simp[go_sem]);have m5:w1.cell? ⟨w.heap.size,5,none⟩=some (.int .i64 bal):=cK hb1 (by simp[go_sem]);have m6:w1.cell? ⟨w.heap.size,6,none⟩=some (.int .i64 val):=cK hb1 (by simp[go_sem]);have m7:w1.cell? ⟨w.heap.size,7,none⟩=some (.int .i64 ob):=cK hb1 (by simp[go_sem]);have m8:w1.cell? ⟨w.heap.size,8,none⟩=some (.int .i64 ov):=cK hb1 (by simp[go_sem]);clear hb1 HE2;cases eb
  ·
   have HC:Hid (Z=3):=HZ3'.out rfl;clear HZ3' HZ4' HZ6' HZ7' HFi HHa HN2 HHL2 HFp' HFn hne;go_wp2;go_ret;exact⟨by rw[HC.out];rfl,qBq⟩
  have HZ4:Hid (¬fl→Z=4):=HZ4'.out rfl;have HZ6:=HZ6'.out rfl;have HZ7:=HZ7'.out rfl;clear HZ3' HZ4' HZ6' HZ7';have HZ6h:Hid (fl→_):=HZ6;have HZ7h:Hid (fl→_):=HZ7;clear HZ6 HZ7;go_wp2_with fail;refine(HFi.out _ hB1).mono ?_;rintro e w2 ⟨rfl,hb2⟩;have hB2:Below w.heap.size w w2:=bS hB1 hb2;replace m0:=cK hb2 m0;replace m1:=cK hb2 m1;replace m2:=cK hb2 m2;replace m3:=cK hb2 m3;replace m4:=cK hb2 m4;replace m5:=cK hb2 m5;replace m6:=cK hb2 m6;replace m7:=cK hb2 m7;replace m8:=cK hb2 m8;clear hb2 HFi hB1;by_cases hfl:fl;rotate_left
  ·
   have HC:Hid _:=HZ4.out hfl;rw[HFn.out hfl];clear HZ4 HZ6h HZ7h HHa HN2 HHL2 HFp' HFn hne hfl;go_wp2;go_ret;exact⟨by rw[HC.out];rfl,qBq⟩
  have HZ6:=HZ6h.out hfl;have HZ7:=HZ7h.out hfl;obtain⟨q,rfl⟩:=HFp'.out hfl;have hq0:¬(q:Int)<0:=by omega
  have hhl:=HHL2.out sh hfl;clear HZ4 HZ6h HZ7h HHL2 HFp' HFn hfl;go_wp2_with fail;refine(HHa.out sh _ hB2).mono ?_;rintro e w3 ⟨rfl,hb3⟩;rw[hhl];have hB3:Below w.heap.size w w3:=bS hB2 hb3;replace m0:=cK hb3 m0;replace m1:=cK hb3 m1;replace m2:=cK hb3 m2;replace m3:=cK hb3 m3;replace m4:=cK hb3 m4;replace m5:=cK hb3 m5;replace m6:=cK hb3 m6;replace m7:=cK hb3 m7;replace m8:=cK hb3 m8;clear hb3 HHa hB2 hhl hq0;cases hl:hasS xc.legs sh
  ·
   have HC:Hid (Z=3):=HZ6 (by simp[hl]);clear HZ6 HZ7 HN2 hne;go_wp2;go_ret;exact⟨by rw[HC.out];rfl,qBq⟩
  cases hb:inB bal 0 1000
  ·
   have HC:Hid (Z=3):=HZ6 (by simp[hb]);clear HZ6 HZ7 HN2 hne;go_wp2_with (first|(go_at_call 125;refine(fU _ _).mono ?_;rintro e w' ⟨rfl,hw⟩;obtain rfl:=hw.symm;rw[hb]));go_ret;exact⟨by rw[HC.out];rfl,qBq⟩
  have HZ:Hid (Z=if (⟨4,to,frm,con,sh,bal,val,ob,ov⟩:Msg)=⟨kind2,to2,frm2,con2,sh2,bal2,val2,ob2,ov2⟩ then 0 else 1):=HZ7 (by simp[hl,hb]);clear HZ6 HZ7;go_wp2_with (first|(go_at_call 125;refine(fU _ _).mono ?_;rintro e w' ⟨rfl,hw⟩;obtain rfl:=hw.symm;rw[hb]));refine wp_region_noPanic ?_;refine fA (fun W=>W.cell? ⟨w.heap.size,0,none⟩=some (.int .i64 4)∧W.cell? ⟨w.heap.size,7,none⟩=some (.int .i64 ob)∧W.cell? ⟨w.heap.size,8,none⟩=some (.int .i64 ov)) 15 (by kernel_rfl) ⟨cK (qBq) m0,cK (qBq) m7,cK (qBq) m8⟩ (fun hS=>?_);refine tM 0 rfl hS ?_;try simp only[jX]
  refine tM 1 rfl hS ?_;try simp only[jX]
  refine tM 2 rfl hS ?_;try simp only[jX]
  refine tM 3 rfl hS ?_;try simp only[jX]
  refine sN 4 rfl hS (fun _=>?_);try simp only[jX]
  refine sN 5 rfl hS (fun _=>?_);try simp only[jX]
  refine sN 6 rfl hS (fun _=>?_);try simp only[jX]
  refine sN 7 rfl hS (fun _=>?_);try simp only[jX]
  refine tM 8 rfl hS ?_;try simp only[jX]
  refine tM 9 rfl hS ?_;try simp only[jX]
  refine sN 10 rfl hS (fun _=>?_);try simp only[jX]
  refine sN 11 rfl hS (fun _=>?_);try simp only[jX]
  refine sN 12 rfl hS (fun _=>?_);try simp only[jX]
  refine sN 13 rfl hS (fun _=>?_);try simp only[jX]
  refine tM 14 rfl hS ?_;try simp only[jX]
  refine dN (NoPanic.normal ?_);go_wp2;refine wp_region_noPanic ?_;refine fA (fun W=>W.cell? ⟨w.heap.size,0,none⟩=some (.int .i64 4)∧W.cell? ⟨w.heap.size,1,none⟩=some (.int .i64 to)∧W.cell? ⟨w.heap.size,2,none⟩=some (.int .i64 frm)∧W.cell? ⟨w.heap.size,3,none⟩=some (.int .i64 con)∧W.cell? ⟨w.heap.size,4,none⟩=some (.int .i64 sh)∧W.cell? ⟨w.heap.size,5,none⟩=some (.int .i64 bal)∧W.cell? ⟨w.heap.size,6,none⟩=some (.int .i64 val)∧W.cell? ⟨w.heap.size,7,none⟩=some (.int .i64 ob)∧W.cell? ⟨w.heap.size,8,none⟩=some (.int .i64 ov)) 4 (by kernel_rfl) ⟨cK (qBq) m0,cK (qBq) m1,cK (qBq) m2,cK (qBq) m3,cK (qBq) m4,cK (qBq) m5,cK (qBq) m6,cK (qBq) m7,cK (qBq) m8⟩ (fun hS=>?_);refine tM 0 rfl hS ?_;try simp only[jX]
  refine tM 1 rfl hS ?_;try simp only[jX]
  refine uS 2 rfl (fun K hK=>?_);go_simp;refine(HN2.out _).mono ?_;rintro e w9 ⟨rfl,hb9⟩;have hB9:Below w.heap.size w w9:=bS (qBq) hb9;have hS9:=And.intro (cK hb9 (cK (qBq) m0)) (And.intro (cK hb9 (cK (qBq) m1)) (And.intro (cK hb9 (cK (qBq) m2)) (And.intro (cK hb9 (cK (qBq) m3)) (And.intro (cK hb9 (cK (qBq) m4)) (And.intro (cK hb9 (cK (qBq) m5)) (And.intro (cK hb9 (cK (qBq) m6)) (And.intro (cK hb9 (cK (qBq) m7)) (cK hb9 (cK (qBq) m8)))))))));refine hK _ _ (fun _=>hS9) ?_;clear hK K;try simp only[jX]
  by_cases hq:(⟨4,to,frm,con,sh,bal,val,ob,ov⟩:Msg)=⟨kind2,to2,frm2,con2,sh2,bal2,val2,ob2,ov2⟩
  ·
   rw[decide_eq_true hq] at hne;have HC:Hid (Z=0):=by show _=_;rw[HZ.out,if_pos hq]
   clear HZ hq;refine tM 3 (v:=(.bool false)) rfl hS9 ?_;try simp only[jX]
   refine dN (NoPanic.normal ?_);go_wp2;go_ret;exact⟨by rw[HC.out];rfl,hB9⟩
  rw[decide_eq_false hq] at hne;have HC:Hid (Z=1):=by show _=_;rw[HZ.out,if_neg hq]
  clear HZ hq;refine tM 3 (v:=(.bool true)) rfl hS9 ?_;try simp only[jX]
  refine dN (NoPanic.normal ?_);go_wp2;go_ret;exact⟨by rw[HC.out];rfl,hB9⟩
 ·
  have HSy:Hid (kZ xc ⟨5,to,frm,con,sh,bal,val,ob,ov⟩=(hasS xc.legs sh&&(inB bal 0 1000&&(oldB ob ov)))):=by show _=_;simp[kZ]
  rw[HSy.out] at HZ6' HZ7';clear HSy;have hne:=fCy 5 to frm con sh bal val ob ov kind2 to2 frm2 con2 sh2 bal2 val2 ob2 ov2;go_enter Tryz.func65,Tryz.ntmps65;go_wp2_with (first|(go_at_call 123;refine(fO _ _ _ _).mono ?_;rintro e w' ⟨rfl,hw⟩;obtain rfl:=hw.symm;rw[show inB 5 1 6=true from rfl]));go_wp2_with fail;refine(HE2.out _ (qBq)).mono ?_;rintro e w1 ⟨rfl,hb1⟩;have hB1:Below w.heap.size w w1:=qBq;have m0:w1.cell? ⟨w.heap.size,0,none⟩=some (.int .i64 5):=cK hb1 (by simp[go_sem]);have m1:w1.cell? ⟨w.heap.size,1,none⟩=some (.int .i64 to):=cK hb1 (by simp[go_sem]);have m2:w1.cell? ⟨w.heap.size,2,none⟩=some (.int .i64 frm):=cK hb1 (by simp[go_sem]);have m3:w1.cell? ⟨w.heap.size,3,none⟩=some (.int .i64 con):=cK hb1 (by simp[go_sem]);have m4:w1.cell? ⟨w.heap.size,4,none⟩=some (.int .i64 sh):=cK hb1 (by simp[go_sem]);have m5:w1.cell? ⟨w.heap.size,5,none⟩=some (.int .i64 bal):=cK hb1 (by simp[go_sem]);have m6:w1.cell? ⟨w.heap.size,6,none⟩=some (.int .i64 val):=cK hb1 (by simp[go_sem]);have m7:w1.cell? ⟨w.heap.size,7,none⟩=some (.int .i64 ob):=cK hb1 (by simp[go_sem]);have m8:w1.cell? ⟨w.heap.size,8,none⟩=some (.int .i64 ov):=cK hb1 (by simp[go_sem]);clear hb1 HE2;cases eb
  ·
   have HC:Hid (Z=3):=HZ3'.out rfl;clear HZ3' HZ4' HZ6' HZ7' HFi HHa HN2 HHL2 HFp' HFn hne;go_wp2;go_ret;exact⟨by rw[HC.out];rfl,qBq⟩
  have HZ4:Hid (¬fl→Z=4):=HZ4'.out rfl;have HZ6:=HZ6'.out rfl;have HZ7:=HZ7'.out rfl;clear HZ3' HZ4' HZ6' HZ7';have HZ6h:Hid (fl→_):=HZ6;have HZ7h:Hid (fl→_):=HZ7;clear HZ6 HZ7;go_wp2_with fail;refine(HFi.out _ hB1).mono ?_;rintro e w2 ⟨rfl,hb2⟩;have hB2:Below w.heap.size w w2:=bS hB1 hb2;replace m0:=cK hb2 m0;replace m1:=cK hb2 m1;replace m2:=cK hb2 m2;replace m3:=cK hb2 m3;replace m4:=cK hb2 m4;replace m5:=cK hb2 m5;replace m6:=cK hb2 m6;replace m7:=cK hb2 m7;replace m8:=cK hb2 m8;clear hb2 HFi hB1;by_cases hfl:fl;rotate_left
  ·
   have HC:Hid _:=HZ4.out hfl;rw[HFn.out hfl];clear HZ4 HZ6h HZ7h HHa HN2 HHL2 HFp' HFn hne hfl;go_wp2;go_ret;exact⟨by rw[HC.out];rfl,qBq⟩
  have HZ6:=HZ6h.out hfl;have HZ7:=HZ7h.out hfl;obtain⟨q,rfl⟩:=HFp'.out hfl;have hq0:¬(q:Int)<0:=by omega
  have hhl:=HHL2.out sh hfl;clear HZ4 HZ6h HZ7h HHL2 HFp' HFn hfl;go_wp2_with fail;refine(HHa.out sh _ hB2).mono ?_;rintro e w3 ⟨rfl,hb3⟩;rw[hhl];have hB3:Below w.heap.size w w3:=bS hB2 hb3;replace m0:=cK hb3 m0;replace m1:=cK hb3 m1;replace m2:=cK hb3 m2;replace m3:=cK hb3 m3;replace m4:=cK hb3 m4;replace m5:=cK hb3 m5;replace m6:=cK hb3 m6;replace m7:=cK hb3 m7;replace m8:=cK hb3 m8;clear hb3 HHa hB2 hhl hq0;cases hl:hasS xc.legs sh
  ·
   have HC:Hid (Z=3):=HZ6 (by simp[hl]);clear HZ6 HZ7 HN2 hne;go_wp2;go_ret;exact⟨by rw[HC.out];rfl,qBq⟩
  cases hb:inB bal 0 1000
  ·
   have HC:Hid (Z=3):=HZ6 (by simp[hb]);clear HZ6 HZ7 HN2 hne;go_wp2_with (first|(go_at_call 125;refine(fU _ _).mono ?_;rintro e w' ⟨rfl,hw⟩;obtain rfl:=hw.symm;rw[hb]));go_ret;exact⟨by rw[HC.out];rfl,qBq⟩
  cases hn:(decide (ob = -1)&&decide (ov=0))
  ·
   cases hr:(inB ob 0 1000&&inB ov 1 2)
   ·
    have HC:Hid (Z=3):=HZ6 (by simp[oldB,hn,hr]);clear HZ6 HZ7 HN2 hne;have hvv:=zR ob ov (-1) 0;rw[show(decide (ob = -1)&&decide (ov=0))=false from hn] at hvv;go_wp2_with (first|(go_at_call 125;refine(fU _ _).mono ?_;rintro e w' ⟨rfl,hw⟩;obtain rfl:=hw.symm;rw[hb]));refine wp_region_noPanic ?_;refine fA (fun W=>W.cell? ⟨w.heap.size,0,none⟩=some (.int .i64 5)∧W.cell? ⟨w.heap.size,7,none⟩=some (.int .i64 ob)∧W.cell? ⟨w.heap.size,8,none⟩=some (.int .i64 ov)) 15 (by kernel_rfl) ⟨cK (qBq) m0,cK (qBq) m7,cK (qBq) m8⟩ (fun hS=>?_);refine tM 0 rfl hS ?_;try simp only[jX]
    refine tM 1 rfl hS ?_;try simp only[jX]
    refine tM 2 rfl hS ?_;try simp only[jX]
    refine tM 3 rfl hS ?_;try simp only[jX]
    refine tM 4 rfl hS ?_;try simp only[jX]
    refine tM 5 rfl hS ?_;try simp only[jX]
    refine uS 6 rfl (fun K hK=>?_);go_simp;refine(tQ _).mono ?_;rintro e w4 ⟨rfl,hb4⟩;have hB4:Below w.heap.size w w4:=bS (qBq) hb4;replace m0:=cK hb4 (cK (qBq) m0);replace m1:=cK hb4 (cK (qBq) m1);replace m2:=cK hb4 (cK (qBq) m2);replace m3:=cK hb4 (cK (qBq) m3);replace m4:=cK hb4 (cK (qBq) m4);replace m5:=cK hb4 (cK (qBq) m5);replace m6:=cK hb4 (cK (qBq) m6);replace m7:=cK hb4 (cK (qBq) m7);replace m8:=cK hb4 (cK (qBq) m8);have hS4:(fun W=>W.cell? ⟨w.heap.size,0,none⟩=some (.int .i64 5)∧W.cell? ⟨w.heap.size,7,none⟩=some (.int .i64 ob)∧W.cell? ⟨w.heap.size,8,none⟩=some (.int .i64 ov)) w4:=⟨m0,m7,m8⟩;refine hK _ _ (fun _=>hS4) ?_;clear hK K hb4;try simp only[jX]
    refine tM 7 (v:=(.bool true)) rfl hS4 ?_;try simp only[jX]
    refine tM 8 rfl hS4 ?_;try simp only[jX]
    refine tM 9 rfl hS4 ?_;try simp only[jX]
    refine tM 10 rfl hS4 ?_;try simp only[jX]
    refine tM 11 rfl hS4 ?_;try simp only[jX]
    refine uS 12 rfl (fun K hK=>?_);go_simp;refine(uH _ _ _).mono ?_;rintro e w5 ⟨rfl,hb5⟩;rw[hr];have hB5:Below w.heap.size w w5:=bS hB4 hb5;replace m0:=cK hb5 m0;replace m1:=cK hb5 m1;replace m2:=cK hb5 m2;replace m3:=cK hb5 m3;replace m4:=cK hb5 m4;replace m5:=cK hb5 m5;replace m6:=cK hb5 m6;replace m7:=cK hb5 m7;replace m8:=cK hb5 m8;have hS5:(fun W=>W.cell? ⟨w.heap.size,0,none⟩=some (.int .i64 5)∧W.cell? ⟨w.heap.size,7,none⟩=some (.int .i64 ob)∧W.cell? ⟨w.heap.size,8,none⟩=some (.int .i64 ov)) w5:=⟨m0,m7,m8⟩;refine hK _ _ (fun _=>hS5) ?_;clear hK K hb5;try simp only[jX]
    refine tM 13 rfl hS5 ?_;try simp only[jX]
    refine tM 14 rfl hS5 ?_;try simp only[jX]
    refine dN (NoPanic.normal ?_);go_wp2;go_ret;exact⟨by rw[HC.out];rfl,qBq⟩
   have HZ:Hid (Z=if (⟨5,to,frm,con,sh,bal,val,ob,ov⟩:Msg)=⟨kind2,to2,frm2,con2,sh2,bal2,val2,ob2,ov2⟩ then 0 else 1):=HZ7 (by simp[hl,hb,oldB,hn,hr]);clear HZ6 HZ7;have hvv:=zR ob ov (-1) 0;rw[show(decide (ob = -1)&&decide (ov=0))=false from hn] at hvv;go_wp2_with (first|(go_at_call 125;refine(fU _ _).mono ?_;rintro e w' ⟨rfl,hw⟩;obtain rfl:=hw.symm;rw[hb]));refine wp_region_noPanic ?_;refine fA (fun W=>W.cell? ⟨w.heap.size,0,none⟩=some (.int .i64 5)∧W.cell? ⟨w.heap.size,7,none⟩=some (.int .i64 ob)∧W.cell? ⟨w.heap.size,8,none⟩=some (.int .i64 ov)) 15 (by kernel_rfl) ⟨cK (qBq) m0,cK (qBq) m7,cK (qBq) m8⟩ (fun hS=>?_);refine tM 0 rfl hS ?_;try simp only[jX]
   refine tM 1 rfl hS ?_;try simp only[jX]
   refine tM 2 rfl hS ?_;try simp only[jX]
   refine tM 3 rfl hS ?_;try simp only[jX]
   refine tM 4 rfl hS ?_;try simp only[jX]
   refine tM 5 rfl hS ?_;try simp only[jX]
   refine uS 6 rfl (fun K hK=>?_);go_simp;refine(tQ _).mono ?_;rintro e w4 ⟨rfl,hb4⟩;have hB4:Below w.heap.size w w4:=bS (qBq) hb4;replace m0:=cK hb4 (cK (qBq) m0);replace m1:=cK hb4 (cK (qBq) m1);replace m2:=cK hb4 (cK (qBq) m2);replace m3:=cK hb4 (cK (qBq) m3);replace m4:=cK hb4 (cK (qBq) m4);replace m5:=cK hb4 (cK (qBq) m5);replace m6:=cK hb4 (cK (qBq) m6);replace m7:=cK hb4 (cK (qBq) m7);replace m8:=cK hb4 (cK (qBq) m8);have hS4:(fun W=>W.cell? ⟨w.heap.size,0,none⟩=some (.int .i64 5)∧W.cell? ⟨w.heap.size,7,none⟩=some (.int .i64 ob)∧W.cell? ⟨w.heap.size,8,none⟩=some (.int .i64 ov)) w4:=⟨m0,m7,m8⟩;refine hK _ _ (fun _=>hS4) ?_;clear hK K hb4;try simp only[jX]
   refine tM 7 (v:=(.bool true)) rfl hS4 ?_;try simp only[jX]
   refine tM 8 rfl hS4 ?_;try simp only[jX]
   refine tM 9 rfl hS4 ?_;try simp only[jX]
   refine tM 10 rfl hS4 ?_;try simp only[jX]
   refine tM 11 rfl hS4 ?_;try simp only[jX]
   refine uS 12 rfl (fun K hK=>?_);go_simp;refine(uH _ _ _).mono ?_;rintro e w5 ⟨rfl,hb5⟩;rw[hr];have hB5:Below w.heap.size w w5:=bS hB4 hb5;replace m0:=cK hb5 m0;replace m1:=cK hb5 m1;replace m2:=cK hb5 m2;replace m3:=cK hb5 m3;replace m4:=cK hb5 m4;replace m5:=cK hb5 m5;replace m6:=cK hb5 m6;replace m7:=cK hb5 m7;replace m8:=cK hb5 m8;have hS5:(fun W=>W.cell? ⟨w.heap.size,0,none⟩=some (.int .i64 5)∧W.cell? ⟨w.heap.size,7,none⟩=some (.int .i64 ob)∧W.cell? ⟨w.heap.size,8,none⟩=some (.int .i64 ov)) w5:=⟨m0,m7,m8⟩;refine hK _ _ (fun _=>hS5) ?_;clear hK K hb5;try simp only[jX]
   refine tM 13 rfl hS5 ?_;try simp only[jX]
   refine tM 14 rfl hS5 ?_;try simp only[jX]
   refine dN (NoPanic.normal ?_);go_wp2;refine wp_region_noPanic ?_;refine fA (fun W=>W.cell? ⟨w.heap.size,0,none⟩=some (.int .i64 5)∧W.cell? ⟨w.heap.size,1,none⟩=some (.int .i64 to)∧W.cell? ⟨w.heap.size,2,none⟩=some (.int .i64 frm)∧W.cell? ⟨w.heap.size,3,none⟩=some (.int .i64 con)∧W.cell? ⟨w.heap.size,4,none⟩=some (.int .i64 sh)∧W.cell? ⟨w.heap.size,5,none⟩=some (.int .i64 bal)∧W.cell? ⟨w.heap.size,6,none⟩=some (.int .i64 val)∧W.cell? ⟨w.heap.size,7,none⟩=some (.int .i64 ob)∧W.cell? ⟨w.heap.size,8,none⟩=some (.int .i64 ov)) 4 (by kernel_rfl) ⟨cK (qBq) m0,cK (qBq) m1,cK (qBq) m2,cK (qBq) m3,cK (qBq) m4,cK (qBq) m5,cK (qBq) m6,cK (qBq) m7,cK (qBq) m8⟩ (fun hS=>?_);refine tM 0 rfl hS ?_;try simp only[jX]
   refine tM 1 rfl hS ?_;try simp only[jX]
   refine uS 2 rfl (fun K hK=>?_);go_simp;refine(HN2.out _).mono ?_;rintro e w9 ⟨rfl,hb9⟩;have hB9:Below w.heap.size w w9:=bS (qBq) hb9;have hS9:=And.intro (cK hb9 (cK (qBq) m0)) (And.intro (cK hb9 (cK (qBq) m1)) (And.intro (cK hb9 (cK (qBq) m2)) (And.intro (cK hb9 (cK (qBq) m3)) (And.intro (cK hb9 (cK (qBq) m4)) (And.intro (cK hb9 (cK (qBq) m5)) (And.intro (cK hb9 (cK (qBq) m6)) (And.intro (cK hb9 (cK (qBq) m7)) (cK hb9 (cK (qBq) m8)))))))));refine hK _ _ (fun _=>hS9) ?_;clear hK K;try simp only[jX]
   by_cases hq:(⟨5,to,frm,con,sh,bal,val,ob,ov⟩:Msg)=⟨kind2,to2,frm2,con2,sh2,bal2,val2,ob2,ov2⟩
   ·
    rw[decide_eq_true hq] at hne;have HC:Hid (Z=0):=by show _=_;rw[HZ.out,if_pos hq]
    clear HZ hq;refine tM 3 (v:=(.bool false)) rfl hS9 ?_;try simp only[jX]
    refine dN (NoPanic.normal ?_);go_wp2;go_ret;exact⟨by rw[HC.out];rfl,hB9⟩
   rw[decide_eq_false hq] at hne;have HC:Hid (Z=1):=by show _=_;rw[HZ.out,if_neg hq]
   clear HZ hq;refine tM 3 (v:=(.bool true)) rfl hS9 ?_;try simp only[jX]
   refine dN (NoPanic.normal ?_);go_wp2;go_ret;exact⟨by rw[HC.out];rfl,hB9⟩
  have HZ:Hid (Z=if (⟨5,to,frm,con,sh,bal,val,ob,ov⟩:Msg)=⟨kind2,to2,frm2,con2,sh2,bal2,val2,ob2,ov2⟩ then 0 else 1):=HZ7 (by simp[hl,hb,oldB,hn]);clear HZ6 HZ7;have hvv:=zR ob ov (-1) 0;rw[show(decide (ob = -1)&&decide (ov=0))=true from hn] at hvv;go_wp2_with (first|(go_at_call 125;refine(fU _ _).mono ?_;rintro e w' ⟨rfl,hw⟩;obtain rfl:=hw.symm;rw[hb]));refine wp_region_noPanic ?_;refine fA (fun W=>W.cell? ⟨w.heap.size,0,none⟩=some (.int .i64 5)∧W.cell? ⟨w.heap.size,7,none⟩=some (.int .i64 ob)∧W.cell? ⟨w.heap.size,8,none⟩=some (.int .i64 ov)) 15 (by kernel_rfl) ⟨cK (qBq) m0,cK (qBq) m7,cK (qBq) m8⟩ (fun hS=>?_);refine tM 0 rfl hS ?_;try simp only[jX]
  refine tM 1 rfl hS ?_;try simp only[jX]
  refine tM 2 rfl hS ?_;try simp only[jX]
  refine tM 3 rfl hS ?_;try simp only[jX]
  refine tM 4 rfl hS ?_;try simp only[jX]
  refine tM 5 rfl hS ?_;try simp only[jX]
  refine uS 6 rfl (fun K hK=>?_);go_simp;refine(tQ _).mono ?_;rintro e w4 ⟨rfl,hb4⟩;have hB4:Below w.heap.size w w4:=bS (qBq) hb4;replace m0:=cK hb4 (cK (qBq) m0);replace m1:=cK hb4 (cK (qBq) m1);replace m2:=cK hb4 (cK (qBq) m2);replace m3:=cK hb4 (cK (qBq) m3);replace m4:=cK hb4 (cK (qBq) m4);replace m5:=cK hb4 (cK (qBq) m5);replace m6:=cK hb4 (cK (qBq) m6);replace m7:=cK hb4 (cK (qBq) m7);replace m8:=cK hb4 (cK (qBq) m8);have hS4:(fun W=>W.cell? ⟨w.heap.size,0,none⟩=some (.int .i64 5)∧W.cell? ⟨w.heap.size,7,none⟩=some (.int .i64 ob)∧W.cell? ⟨w.heap.size,8,none⟩=some (.int .i64 ov)) w4:=⟨m0,m7,m8⟩;refine hK _ _ (fun _=>hS4) ?_;clear hK K hb4;try simp only[jX]
  refine tM 7 (v:=(.bool false)) rfl hS4 ?_;try simp only[jX]
  refine tM 8 rfl hS4 ?_;try simp only[jX]
  refine tM 9 rfl hS4 ?_;try simp only[jX]
  refine sN 10 rfl hS4 (fun _=>?_);try simp only[jX]
  refine sN 11 rfl hS4 (fun _=>?_);try simp only[jX]
  refine sN 12 rfl hS4 (fun _=>?_);try simp only[jX]
  refine sN 13 rfl hS4 (fun _=>?_);try simp only[jX]
  refine tM 14 rfl hS4 ?_;try simp only[jX]
  refine dN (NoPanic.normal ?_);go_wp2;refine wp_region_noPanic ?_;refine fA (fun W=>W.cell? ⟨w.heap.size,0,none⟩=some (.int .i64 5)∧W.cell? ⟨w.heap.size,1,none⟩=some (.int .i64 to)∧W.cell? ⟨w.heap.size,2,none⟩=some (.int .i64 frm)∧W.cell? ⟨w.heap.size,3,none⟩=some (.int .i64 con)∧W.cell? ⟨w.heap.size,4,none⟩=some (.int .i64 sh)∧W.cell? ⟨w.heap.size,5,none⟩=some (.int .i64 bal)∧W.cell? ⟨w.heap.size,6,none⟩=some (.int .i64 val)∧W.cell? ⟨w.heap.size,7,none⟩=some (.int .i64 ob)∧W.cell? ⟨w.heap.size,8,none⟩=some (.int .i64 ov)) 4 (by kernel_rfl) ⟨cK (qBq) m0,cK (qBq) m1,cK (qBq) m2,cK (qBq) m3,cK (qBq) m4,cK (qBq) m5,cK (qBq) m6,cK (qBq) m7,cK (qBq) m8⟩ (fun hS=>?_);refine tM 0 rfl hS ?_;try simp only[jX]
  refine tM 1 rfl hS ?_;try simp only[jX]
  refine uS 2 rfl (fun K hK=>?_);go_simp;refine(HN2.out _).mono ?_;rintro e w9 ⟨rfl,hb9⟩;have hB9:Below w.heap.size w w9:=bS (qBq) hb9;have hS9:=And.intro (cK hb9 (cK (qBq) m0)) (And.intro (cK hb9 (cK (qBq) m1)) (And.intro (cK hb9 (cK (qBq) m2)) (And.intro (cK hb9 (cK (qBq) m3)) (And.intro (cK hb9 (cK (qBq) m4)) (And.intro (cK hb9 (cK (qBq) m5)) (And.intro (cK hb9 (cK (qBq) m6)) (And.intro (cK hb9 (cK (qBq) m7)) (cK hb9 (cK (qBq) m8)))))))));refine hK _ _ (fun _=>hS9) ?_;clear hK K;try simp only[jX]
  by_cases hq:(⟨5,to,frm,con,sh,bal,val,ob,ov⟩:Msg)=⟨kind2,to2,frm2,con2,sh2,bal2,val2,ob2,ov2⟩
  ·
   rw[decide_eq_true hq] at hne;have HC:Hid (Z=0):=by show _=_;rw[HZ.out,if_pos hq]
   clear HZ hq;refine tM 3 (v:=(.bool false)) rfl hS9 ?_;try simp only[jX]
   refine dN (NoPanic.normal ?_);go_wp2;go_ret;exact⟨by rw[HC.out];rfl,hB9⟩
  rw[decide_eq_false hq] at hne;have HC:Hid (Z=1):=by show _=_;rw[HZ.out,if_neg hq]
  clear HZ hq;refine tM 3 (v:=(.bool true)) rfl hS9 ?_;try simp only[jX]
  refine dN (NoPanic.normal ?_);go_wp2;go_ret;exact⟨by rw[HC.out];rfl,hB9⟩
 have HSy:Hid (kZ xc ⟨6,to,frm,con,sh,bal,val,ob,ov⟩=(hasS xc.legs to&&(inB val 1 2))):=by show _=_;simp[kZ]
 rw[HSy.out] at HZ6' HZ7';clear HSy;have hne:=fCy 6 to frm con sh bal val ob ov kind2 to2 frm2 con2 sh2 bal2 val2 ob2 ov2;go_enter Tryz.func65,Tryz.ntmps65;go_wp2_with (first|(go_at_call 123;refine(fO _ _ _ _).mono ?_;rintro e w' ⟨rfl,hw⟩;obtain rfl:=hw.symm;rw[show inB 6 1 6=true from rfl]));go_wp2_with fail;refine(HE2.out _ (qBq)).mono ?_;rintro e w1 ⟨rfl,hb1⟩;have hB1:Below w.heap.size w w1:=qBq;have m0:w1.cell? ⟨w.heap.size,0,none⟩=some (.int .i64 6):=cK hb1 (by simp[go_sem]);have m1:w1.cell? ⟨w.heap.size,1,none⟩=some (.int .i64 to):=cK hb1 (by simp[go_sem]);have m2:w1.cell? ⟨w.heap.size,2,none⟩=some (.int .i64 frm):=cK hb1 (by simp[go_sem]);have m3:w1.cell? ⟨w.heap.size,3,none⟩=some (.int .i64 con):=cK hb1 (by simp[go_sem]);have m4:w1.cell? ⟨w.heap.size,4,none⟩=some (.int .i64 sh):=cK hb1 (by simp[go_sem]);have m5:w1.cell? ⟨w.heap.size,5,none⟩=some (.int .i64 bal):=cK hb1 (by simp[go_sem]);have m6:w1.cell? ⟨w.heap.size,6,none⟩=some (.int .i64 val):=cK hb1 (by simp[go_sem]);have m7:w1.cell? ⟨w.heap.size,7,none⟩=some (.int .i64 ob):=cK hb1 (by simp[go_sem]);have m8:w1.cell? ⟨w.heap.size,8,none⟩=some (.int .i64 ov):=cK hb1 (by simp[go_sem]);clear hb1 HE2;cases eb
 ·
  have HC:Hid (Z=3):=HZ3'.out rfl;clear HZ3' HZ4' HZ6' HZ7' HFi HHa HN2 HHL2 HFp' HFn hne;go_wp2;go_ret;exact⟨by rw[HC.out];rfl,qBq⟩
 have HZ4:Hid (¬fl→Z=4):=HZ4'.out rfl;have HZ6:=HZ6'.out rfl;have HZ7:=HZ7'.out rfl;clear HZ3' HZ4' HZ6' HZ7';have HZ6h:Hid (fl→_):=HZ6;have HZ7h:Hid (fl→_):=HZ7;clear HZ6 HZ7;go_wp2_with fail;refine(HFi.out _ hB1).mono ?_;rintro e w2 ⟨rfl,hb2⟩;have hB2:Below w.heap.size w w2:=bS hB1 hb2;replace m0:=cK hb2 m0;replace m1:=cK hb2 m1;replace m2:=cK hb2 m2;replace m3:=cK hb2 m3;replace m4:=cK hb2 m4;replace m5:=cK hb2 m5;replace m6:=cK hb2 m6;replace m7:=cK hb2 m7;replace m8:=cK hb2 m8;clear hb2 HFi hB1;by_cases hfl:fl;rotate_left
 ·
  have HC:Hid _:=HZ4.out hfl;rw[HFn.out hfl];clear HZ4 HZ6h HZ7h HHa HN2 HHL2 HFp' HFn hne hfl;go_wp2;go_ret;exact⟨by rw[HC.out];rfl,qBq⟩
 have HZ6:=HZ6h.out hfl;have HZ7:=HZ7h.out hfl;obtain⟨q,rfl⟩:=HFp'.out hfl;have hq0:¬(q:Int)<0:=by omega
 have hhl:=HHL2.out to hfl;clear HZ4 HZ6h HZ7h HHL2 HFp' HFn hfl;go_wp2_with fail;refine(HHa.out to _ hB2).mono ?_;rintro e w3 ⟨rfl,hb3⟩;rw[hhl];have hB3:Below w.heap.size w w3:=bS hB2 hb3;replace m0:=cK hb3 m0;replace m1:=cK hb3 m1;replace m2:=cK hb3 m2;replace m3:=cK hb3 m3;replace m4:=cK hb3 m4;replace m5:=cK hb3 m5;replace m6:=cK hb3 m6;replace m7:=cK hb3 m7;replace m8:=cK hb3 m8;clear hb3 HHa hB2 hhl hq0;cases hl:hasS xc.legs to
 ·
  have HC:Hid (Z=3):=HZ6 (by simp[hl]);clear HZ6 HZ7 HN2 hne;go_wp2;go_ret;exact⟨by rw[HC.out];rfl,qBq⟩
 cases hv:inB val 1 2
 ·
  have HC:Hid (Z=3):=HZ6 (by simp[hv]);clear HZ6 HZ7 HN2 hne;go_wp2_with (first|(go_at_call 126;refine(gZ _ _).mono ?_;rintro e w' ⟨rfl,hw⟩;obtain rfl:=hw.symm;rw[hv]));go_ret;exact⟨by rw[HC.out];rfl,qBq⟩
 have HZ:Hid (Z=if (⟨6,to,frm,con,sh,bal,val,ob,ov⟩:Msg)=⟨kind2,to2,frm2,con2,sh2,bal2,val2,ob2,ov2⟩ then 0 else 1):=HZ7 (by simp[hl,hv]);clear HZ6 HZ7;go_wp2_with (first|(go_at_call 126;refine(gZ _ _).mono ?_;rintro e w' ⟨rfl,hw⟩;obtain rfl:=hw.symm;rw[hv]));refine wp_region_noPanic ?_;refine fA (fun W=>W.cell? ⟨w.heap.size,0,none⟩=some (.int .i64 6)∧W.cell? ⟨w.heap.size,7,none⟩=some (.int .i64 ob)∧W.cell? ⟨w.heap.size,8,none⟩=some (.int .i64 ov)) 15 (by kernel_rfl) ⟨cK (qBq) m0,cK (qBq) m7,cK (qBq) m8⟩ (fun hS=>?_);refine tM 0 rfl hS ?_;try simp only[jX]
 refine tM 1 rfl hS ?_;try simp only[jX]
 refine tM 2 rfl hS ?_;try simp only[jX]
 refine tM 3 rfl hS ?_;try simp only[jX]
 refine sN 4 rfl hS (fun _=>?_);try simp only[jX]
 refine sN 5 rfl hS (fun _=>?_);try simp only[jX]
 refine sN 6 rfl hS (fun _=>?_);try simp only[jX]
 refine sN 7 rfl hS (fun _=>?_);try simp only[jX]
 refine tM 8 rfl hS ?_;try simp only[jX]
 refine tM 9 rfl hS ?_;try simp only[jX]
 refine sN 10 rfl hS (fun _=>?_);try simp only[jX]
 refine sN 11 rfl hS (fun _=>?_);try simp only[jX]
 refine sN 12 rfl hS (fun _=>?_);try simp only[jX]
 refine sN 13 rfl hS (fun _=>?_);try simp only[jX]
 refine tM 14 rfl hS ?_;try simp only[jX]
 refine dN (NoPanic.normal ?_);go_wp2;refine wp_region_noPanic ?_;refine fA (fun W=>W.cell? ⟨w.heap.size,0,none⟩=some (.int .i64 6)∧W.cell? ⟨w.heap.size,1,none⟩=some (.int .i64 to)∧W.cell? ⟨w.heap.size,2,none⟩=some (.int .i64 frm)∧W.cell? ⟨w.heap.size,3,none⟩=some (.int .i64 con)∧W.cell? ⟨w.heap.size,4,none⟩=some (.int .i64 sh)∧W.cell? ⟨w.heap.size,5,none⟩=some (.int .i64 bal)∧W.cell? ⟨w.heap.size,6,none⟩=some (.int .i64 val)∧W.cell? ⟨w.heap.size,7,none⟩=some (.int .i64 ob)∧W.cell? ⟨w.heap.size,8,none⟩=some (.int .i64 ov)) 4 (by kernel_rfl) ⟨cK (qBq) m0,cK (qBq) m1,cK (qBq) m2,cK (qBq) m3,cK (qBq) m4,cK (qBq) m5,cK (qBq) m6,cK (qBq) m7,cK (qBq) m8⟩ (fun hS=>?_);refine tM 0 rfl hS ?_;try simp only[jX]
 refine tM 1 rfl hS ?_;try simp only[jX]
 refine uS 2 rfl (fun K hK=>?_);go_simp;refine(HN2.out _).mono ?_;rintro e w9 ⟨rfl,hb9⟩;have hB9:Below w.heap.size w w9:=bS (qBq) hb9;have hS9:=And.intro (cK hb9 (cK (qBq) m0)) (And.intro (cK hb9 (cK (qBq) m1)) (And.intro (cK hb9 (cK (qBq) m2)) (And.intro (cK hb9 (cK (qBq) m3)) (And.intro (cK hb9 (cK (qBq) m4)) (And.intro (cK hb9 (cK (qBq) m5)) (And.intro (cK hb9 (cK (qBq) m6)) (And.intro (cK hb9 (cK (qBq) m7)) (cK hb9 (cK (qBq) m8)))))))));refine hK _ _ (fun _=>hS9) ?_;clear hK K;try simp only[jX]
 by_cases hq:(⟨6,to,frm,con,sh,bal,val,ob,ov⟩:Msg)=⟨kind2,to2,frm2,con2,sh2,bal2,val2,ob2,ov2⟩
 ·
  rw[decide_eq_true hq] at hne;have HC:Hid (Z=0):=by show _=_;rw[HZ.out,if_pos hq]
  clear HZ hq;refine tM 3 (v:=(.bool false)) rfl hS9 ?_;try simp only[jX]
  refine dN (NoPanic.normal ?_);go_wp2;go_ret;exact⟨by rw[HC.out];rfl,hB9⟩
 rw[decide_eq_false hq] at hne;have HC:Hid (Z=1):=by show _=_;rw[HZ.out,if_neg hq]
 clear HZ hq;refine tM 3 (v:=(.bool true)) rfl hS9 ?_;try simp only[jX]
 refine dN (NoPanic.normal ?_);go_wp2;go_ret;exact⟨by rw[HC.out];rfl,hB9⟩
end Go.Proofs.YtbfnobcidnmohaaGreat

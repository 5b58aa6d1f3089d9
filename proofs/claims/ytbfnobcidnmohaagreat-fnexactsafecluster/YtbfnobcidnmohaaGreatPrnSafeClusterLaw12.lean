import Derived.Test.YtbfnobcidnmohaaGreatPrnSafeClusterLaw11
import Derived.Recover
set_option maxHeartbeats 8000000
set_option maxRecDepth 20000
set_option linter.unusedSimpArgs false
set_option linter.unusedVariables false
set_option linter.unusedSectionVars false
namespace Go.Proofs.YtbfnobcidnmohaaGreat
open Go.RowKit
attribute [local go_sem ↓] Go.wp_at_zero Go.wp_at_succ
section
variable [dQ Leg] [iH Leg] [dQ Cont] [iH Cont] [dQ Bal] [iH Bal] [dQ Mrk] [iH Mrk] [dQ Shd] [iH Shd] [dQ Vot] [iH Vot] [dQ Slt] [iH Slt] [dQ Acc] [iH Acc] [dQ Trr] [iH Trr] [dQ Hrd] [iH Hrd] [dQ Ldr] [iH Ldr] [dQ Msg] [iH Msg] [dQ Clu] [iH Clu] [dQ Ledg] [iH Ledg]
theorem fF4 (n:Int) (w:World):Calls Tryz.prog 268 #[.int .i64 n] w fun e w'=>e =.returned (.bool (inB n 1 2))∧w'=w:=by
 go_enter Tryz.func268,Tryz.ntmps268;go_wp2_with (go_at_call 152;refine(fO _ _ _ _).mono ?_;rintro e w' ⟨rfl,rfl⟩);go_ret;exact⟨rfl,rfl⟩
theorem fK8 (c:Clu) (m:Msg) (a0 a1 a2 a3 a4:Option Addr) (n0 n1 n2 n3 n4 c0 c1 c2 c3 c4:Nat) (w:World) (h1:c.shards.length=n1∧n1≤9223372036854775807) (h2:c.accs.length=n2∧n2≤9223372036854775807) (h3:c.ldrs.length=n3∧n3≤9223372036854775807) (hk:inB m.kind 1 6=true) :
  RI 232 #[.agg #[.slice a0 n0 c0,.slice a1 n1 c1,.slice a2 n2 c2,.slice a3 n3 c3,.slice a4 n4 c4],msgV m] w (.bool (kT c m)):=by
 obtain⟨kind,to,frm,con,sh,bal,val,ob,ov⟩:=m;obtain⟨e1,l1⟩:=h1;obtain⟨e2,l2⟩:=h2;obtain⟨e3,l3⟩:=h3;have hk':=kinds hk;dsimp only at hk';clear hk;unfold msgV;dsimp only;rcases hk' with rfl|rfl|rfl|rfl|rfl|rfl
 ·
  have HE:Hid (kT c ⟨1,to,frm,con,sh,bal,val,ob,ov⟩=inB to 0 ((n1:Int)-1)):=by show _=_;simp[kT,fAy,e1,e2,e3]
  rw[HE.out];go_enter Tryz.func232,Tryz.ntmps232;go_wp2_with (first|(go_at_call 264;refine(yE _ _ _ _ _ l1).mono ?_;rintro e w' ⟨rfl,hw⟩;obtain rfl:=hw.symm));go_ret;exact⟨rfl,qBq⟩
 ·
  have HE:Hid (kT c ⟨2,to,frm,con,sh,bal,val,ob,ov⟩=inB to 0 ((n2:Int)-1)):=by show _=_;simp[kT,fAy,e1,e2,e3]
  rw[HE.out];go_enter Tryz.func232,Tryz.ntmps232;go_wp2_with (first|(go_at_call 224;refine(qI _ _ _ _ _ l2).mono ?_;rintro e w' ⟨rfl,hw⟩;obtain rfl:=hw.symm));go_ret;exact⟨rfl,qBq⟩
 ·
  have HE:Hid (kT c ⟨3,to,frm,con,sh,bal,val,ob,ov⟩=(inB to 0 ((n3:Int)-1)&&inB frm 0 ((n2:Int)-1))):=by show _=_;simp[kT,fAy,e1,e2,e3]
  rw[HE.out];cases ht:inB to 0 ((n3:Int)-1);all_goals cases hf:inB frm 0 ((n2:Int)-1)
  all_goals
   go_enter Tryz.func232,Tryz.ntmps232;go_wp2_with (first|(go_at_call 284;refine(fBa _ _ _ _ _ l3).mono ?_;rintro e w' ⟨rfl,hw⟩;obtain rfl:=hw.symm;rw[ht])|(go_at_call 224;refine(qI _ _ _ _ _ l2).mono ?_;rintro e w' ⟨rfl,hw⟩;obtain rfl:=hw.symm;rw[hf]));go_ret;exact⟨rfl,qBq⟩
 ·
  have HE:Hid (kT c ⟨4,to,frm,con,sh,bal,val,ob,ov⟩=(inB to 0 ((n2:Int)-1)&&inB frm 0 ((n3:Int)-1))):=by show _=_;simp[kT,fAy,e1,e2,e3]
  rw[HE.out];cases ht:inB to 0 ((n2:Int)-1);all_goals cases hf:inB frm 0 ((n3:Int)-1)
  all_goals
   go_enter Tryz.func232,Tryz.ntmps232;go_wp2_with (first|(go_at_call 284;refine(fBa _ _ _ _ _ l3).mono ?_;rintro e w' ⟨rfl,hw⟩;obtain rfl:=hw.symm;rw[hf])|(go_at_call 224;refine(qI _ _ _ _ _ l2).mono ?_;rintro e w' ⟨rfl,hw⟩;obtain rfl:=hw.symm;rw[ht]));go_ret;exact⟨rfl,qBq⟩
 ·
  have HE:Hid (kT c ⟨5,to,frm,con,sh,bal,val,ob,ov⟩=(inB to 0 ((n3:Int)-1)&&inB frm 0 ((n2:Int)-1))):=by show _=_;simp[kT,fAy,e1,e2,e3]
  rw[HE.out];cases ht:inB to 0 ((n3:Int)-1);all_goals cases hf:inB frm 0 ((n2:Int)-1)
  all_goals
   go_enter Tryz.func232,Tryz.ntmps232;go_wp2_with (first|(go_at_call 284;refine(fBa _ _ _ _ _ l3).mono ?_;rintro e w' ⟨rfl,hw⟩;obtain rfl:=hw.symm;rw[ht])|(go_at_call 224;refine(qI _ _ _ _ _ l2).mono ?_;rintro e w' ⟨rfl,hw⟩;obtain rfl:=hw.symm;rw[hf]));go_ret;exact⟨rfl,qBq⟩
 have HE:Hid (kT c ⟨6,to,frm,con,sh,bal,val,ob,ov⟩=inB to 0 ((n1:Int)-1)):=by show _=_;simp[kT,fAy,e1,e2,e3]
 rw[HE.out];go_enter Tryz.func232,Tryz.ntmps232;go_wp2_with (first|(go_at_call 264;refine(yE _ _ _ _ _ l1).mono ?_;rintro e w' ⟨rfl,hw⟩;obtain rfl:=hw.symm));go_ret;exact⟨rfl,qBq⟩
theorem fGs (id:Int) (x:Value) (xs:List Leg) (m:Msg) (w:World) (hx:mK w x xs) (hk:inB m.kind 1 6=true) :
  RI 233 #[.agg #[.int .i64 id,x],msgV m] w (.bool (mG ⟨id,xs⟩ m)):=by
 have HL:Hid (∀s W,Below w.heap.size w W→RI 221 #[.agg #[.int .i64 id,x],.int .i64 s] W (.bool (hasS xs s))):=fun s W hW=>fBj id x xs s W (kV hx hW)
 obtain⟨ax,cx,rfl,_⟩:=hx;obtain⟨kind,to,frm,con,sh,bal,val,ob,ov⟩:=m;have hk':=kinds hk;dsimp only at hk';clear hk;unfold msgV;dsimp only;rcases hk' with rfl|rfl|rfl|rfl|rfl|rfl
 ·
  have HE:Hid (mG ⟨id,xs⟩ ⟨1,to,frm,con,sh,bal,val,ob,ov⟩=(hasS xs to)):=by show _=_;simp[mG]
  rw[HE.out];cases hl:hasS xs to;all_goals
   go_enter Tryz.func233,Tryz.ntmps233;go_wp2_with (first|(go_at_call 221;refine(HL.out to _ qBq).mono ?_;rintro e w' ⟨rfl,hb9⟩;rw[hl]));go_ret;exact⟨rfl,qBq⟩
 ·
  have HE:Hid (mG ⟨id,xs⟩ ⟨2,to,frm,con,sh,bal,val,ob,ov⟩=(hasS xs sh&&(inB bal 0 1000&&(inB val 1 2)))):=by show _=_;simp[mG]
  rw[HE.out];cases hl:hasS xs sh;all_goals cases hb:inB bal 0 1000
  all_goals cases hv:inB val 1 2
  all_goals
   go_enter Tryz.func233,Tryz.ntmps233;go_wp2_with fail;refine(HL.out sh _ qBq).mono ?_;rintro e w1 ⟨rfl,hb1⟩;have m5:w1.cell? ⟨w.heap.size+1,5,none⟩=some (.int .i64 bal):=cK hb1 sG;have m6:w1.cell? ⟨w.heap.size+1,6,none⟩=some (.int .i64 val):=cK hb1 sG;have hB1:Below w.heap.size w w1:=qBq;clear hb1;rw[hl];go_wp2_with (first|(go_at_call 229;refine(qZ ⟨bal,val⟩ _).mono ?_;rintro e w' ⟨rfl,hb8⟩;rw[show votB ⟨bal,val⟩=(inB bal 0 1000&&inB val 1 2) from rfl,hb,hv]));go_ret;exact⟨rfl,qBq⟩
 ·
  have HE:Hid (mG ⟨id,xs⟩ ⟨3,to,frm,con,sh,bal,val,ob,ov⟩=(hasS xs sh&&(inB bal 0 1000&&(inB val 1 2)))):=by show _=_;simp[mG]
  rw[HE.out];cases hl:hasS xs sh;all_goals cases hb:inB bal 0 1000
  all_goals cases hv:inB val 1 2
  all_goals
   go_enter Tryz.func233,Tryz.ntmps233;go_wp2_with fail;refine(HL.out sh _ qBq).mono ?_;rintro e w1 ⟨rfl,hb1⟩;have m5:w1.cell? ⟨w.heap.size+1,5,none⟩=some (.int .i64 bal):=cK hb1 sG;have m6:w1.cell? ⟨w.heap.size+1,6,none⟩=some (.int .i64 val):=cK hb1 sG;have hB1:Below w.heap.size w w1:=qBq;clear hb1;rw[hl];go_wp2_with (first|(go_at_call 229;refine(qZ ⟨bal,val⟩ _).mono ?_;rintro e w' ⟨rfl,hb8⟩;rw[show votB ⟨bal,val⟩=(inB bal 0 1000&&inB val 1 2) from rfl,hb,hv]));go_ret;exact⟨rfl,qBq⟩
 ·
  have HE:Hid (mG ⟨id,xs⟩ ⟨4,to,frm,con,sh,bal,val,ob,ov⟩=(hasS xs sh&&(inB bal 0 1000))):=by show _=_;simp[mG]
  rw[HE.out];cases hl:hasS xs sh;all_goals cases hb:inB bal 0 1000
  all_goals
   go_enter Tryz.func233,Tryz.ntmps233;go_wp2_with fail;refine(HL.out sh _ qBq).mono ?_;rintro e w1 ⟨rfl,hb1⟩;have m5:w1.cell? ⟨w.heap.size+1,5,none⟩=some (.int .i64 bal):=cK hb1 sG;have m6:w1.cell? ⟨w.heap.size+1,6,none⟩=some (.int .i64 val):=cK hb1 sG;have hB1:Below w.heap.size w w1:=qBq;clear hb1;rw[hl];go_wp2_with (first|(go_at_call 283;refine(xH _ _).mono ?_;rintro e w' ⟨rfl,hw⟩;obtain rfl:=hw.symm;rw[hb]));go_ret;exact⟨rfl,qBq⟩
 ·
  have HE:Hid (mG ⟨id,xs⟩ ⟨5,to,frm,con,sh,bal,val,ob,ov⟩=(hasS xs sh&&(inB bal 0 1000&&(oldB ob ov)))):=by show _=_;simp[mG]
  rw[HE.out];cases hl:hasS xs sh;all_goals cases hb:inB bal 0 1000
  all_goals cases ho:oldB ob ov
  all_goals
   go_enter Tryz.func233,Tryz.ntmps233;go_wp2_with fail;refine(fIs _ _ _).mono ?_;rintro e w1 ⟨rfl,hb1⟩;have y0:w1.cell? ⟨w.heap.size,0,none⟩=some (.int .i64 id):=cK hb1 sG;have y1:w1.cell? ⟨w.heap.size,1,none⟩=some (.slice ax xs.length cx):=cK hb1 sG;have m4:w1.cell? ⟨w.heap.size+1,4,none⟩=some (.int .i64 sh):=cK hb1 sG;have m5:w1.cell? ⟨w.heap.size+1,5,none⟩=some (.int .i64 bal):=cK hb1 sG;have hB1:Below w.heap.size w w1:=qBq;clear hb1;rw[ho];first
   | (go_wp2;go_ret;exact⟨by simp,qBq⟩)
   | ((go_wp2_with fail);refine(HL.out sh _ qBq).mono ?_;rintro e w2 ⟨rfl,hb2⟩;replace m5:=cK hb2 m5;have hB2:Below w.heap.size w w2:=bS hB1 hb2;rw[hl];(go_wp2_with (first|(go_at_call 283;refine(xH _ _).mono ?_;rintro e w' ⟨rfl,hw⟩;obtain rfl:=hw.symm;rw[hb])));go_ret;exact⟨rfl,hB2⟩)
 have HE:Hid (mG ⟨id,xs⟩ ⟨6,to,frm,con,sh,bal,val,ob,ov⟩=(hasS xs to&&(inB val 1 2))):=by show _=_;simp[mG]
 rw[HE.out];cases hl:hasS xs to;all_goals cases hv:inB val 1 2
 all_goals
  go_enter Tryz.func233,Tryz.ntmps233;go_wp2_with (first|(go_at_call 221;refine(HL.out to _ qBq).mono ?_;rintro e w' ⟨rfl,hb9⟩;rw[hl])|(go_at_call 268;refine(fF4 _ _).mono ?_;rintro e w' ⟨rfl,hw⟩;obtain rfl:=hw.symm;rw[hv]));go_ret;exact⟨rfl,qBq⟩
theorem fLz (m:Msg) (w:World) (hk:inB m.kind 1 6=true) :
  RI 234 #[msgV m] w (msgV (mQ m)):=by
 obtain⟨kind,to,frm,con,sh,bal,val,ob,ov⟩:=m;have hk':=kinds hk;dsimp only at hk';clear hk;rcases hk' with rfl|rfl|rfl|rfl|rfl|rfl
 ·
  have HE:Hid (mQ ⟨1,to,frm,con,sh,bal,val,ob,ov⟩=⟨1,to,0,con,0,0,0,0,0⟩):=by show _=_;simp[mQ]
  rw[HE.out];unfold msgV;dsimp only;go_enter Tryz.func234,Tryz.ntmps234;go_wp2;exact bodyPost_ret (v:=.agg #[.int .i64 1,.int .i64 to,.int .i64 0,.int .i64 con,.int .i64 0,.int .i64 0,.int .i64 0,.int .i64 0,.int .i64 0]) (by simp[results,Tryz.results234,go_sem]) rfl ⟨rfl,qBq⟩
 ·
  have HE:Hid (mQ ⟨2,to,frm,con,sh,bal,val,ob,ov⟩=⟨2,to,0,con,sh,bal,val,0,0⟩):=by show _=_;simp[mQ]
  rw[HE.out];unfold msgV;dsimp only;go_enter Tryz.func234,Tryz.ntmps234;go_wp2;refine wp_region_noPanic ?_;refine fB (fun W=>W.cell? ⟨w.heap.size,4,none⟩=some (.int .i64 sh)∧W.cell? ⟨w.heap.size,5,none⟩=some (.int .i64 bal)) 8 kF ⟨sG,by simp[go_sem]⟩ (fun hS=>?_);refine tX 0 ?_;refine tX 1 ?_;refine tX 2 ?_;refine tX 3 ?_;refine tX 4 ?_;refine uS 5 rfl (fun K hK=>?_);go_simp;refine hK _ _ (fun _=>⟨sG,by simp[go_sem]⟩) ?_;clear hK K;try simp only[jX]
  refine kP (i:=6) (v:=?_) rfl kF kF kF kF (fun _ _ _ h=>h) (by rfl) ⟨sG,by simp[go_sem]⟩ ?_ ?_;rotate_left
  ·intro wS hSw;(try dsimp only at hSw);go_simp;try with_reducible rfl
  try simp only[jX]
  refine uS 7 rfl (fun K hK=>?_);go_simp;refine hK _ _ (fun _=>⟨sG,by simp[go_sem]⟩) ?_;clear hK K;refine dP ?_;go_wp2;exact bodyPost_ret (v:=.agg #[.int .i64 2,.int .i64 to,.int .i64 0,.int .i64 con,.int .i64 sh,.int .i64 bal,.int .i64 val,.int .i64 0,.int .i64 0]) (by simp[results,Tryz.results234,go_sem]) rfl ⟨rfl,qBq⟩
 ·
  have HE:Hid (mQ ⟨3,to,frm,con,sh,bal,val,ob,ov⟩=⟨3,to,frm,con,sh,bal,val,0,0⟩):=by show _=_;simp[mQ]
  rw[HE.out];unfold msgV;dsimp only;go_enter Tryz.func234,Tryz.ntmps234;go_wp2;refine wp_region_noPanic ?_;refine fB (fun W=>W.cell? ⟨w.heap.size,4,none⟩=some (.int .i64 sh)∧W.cell? ⟨w.heap.size,5,none⟩=some (.int .i64 bal)) 8 kF ⟨sG,by simp[go_sem]⟩ (fun hS=>?_);refine tX 0 ?_;refine tX 1 ?_;refine tX 2 ?_;refine tX 3 ?_;refine tX 4 ?_;refine uS 5 rfl (fun K hK=>?_);go_simp;refine hK _ _ (fun _=>⟨sG,by simp[go_sem]⟩) ?_;clear hK K;try simp only[jX]
  refine kP (i:=6) (v:=?_) rfl kF kF kF kF (fun _ _ _ h=>h) (by rfl) ⟨sG,by simp[go_sem]⟩ ?_ ?_;rotate_left
  ·intro wS hSw;(try dsimp only at hSw);go_simp;try with_reducible rfl
  try simp only[jX]
  refine uS 7 rfl (fun K hK=>?_);go_simp;refine hK _ _ (fun _=>⟨sG,by simp[go_sem]⟩) ?_;clear hK K;refine dP ?_;go_wp2;exact bodyPost_ret (v:=.agg #[.int .i64 3,.int .i64 to,.int .i64 frm,.int .i64 con,.int .i64 sh,.int .i64 bal,.int .i64 val,.int .i64 0,.int .i64 0]) (by simp[results,Tryz.results234,go_sem]) rfl ⟨rfl,qBq⟩
 ·
  have HE:Hid (mQ ⟨4,to,frm,con,sh,bal,val,ob,ov⟩=⟨4,to,frm,con,sh,bal,0,0,0⟩):=by show _=_;simp[mQ]
  rw[HE.out];unfold msgV;dsimp only;go_enter Tryz.func234,Tryz.ntmps234;go_wp2;refine wp_region_noPanic ?_;refine fB (fun W=>W.cell? ⟨w.heap.size,2,none⟩=some (.int .i64 frm)∧W.cell? ⟨w.heap.size,4,none⟩=some (.int .i64 sh)∧W.cell? ⟨w.heap.size,5,none⟩=some (.int .i64 bal)) 12 kF ⟨sG,by simp[go_sem],sG⟩ (fun hS=>?_);refine tX 0 ?_;refine tX 1 ?_;refine tX 2 ?_;refine tX 3 ?_;refine tX 4 ?_;refine tX 5 ?_;refine tX 6 ?_;refine uS 7 rfl (fun K hK=>?_);go_simp;refine hK _ _ (fun _=>⟨sG,by simp[go_sem],sG⟩) ?_;clear hK K;try simp only[jX]
  refine kP (i:=8) (v:=?_) rfl kF kF kF kF (fun _ _ _ h=>h) (by rfl) ⟨sG,by simp[go_sem],sG⟩ ?_ ?_;rotate_left
  ·intro wS hSw;(try dsimp only at hSw);go_simp;try with_reducible rfl
  try simp only[jX]
  refine uS 9 rfl (fun K hK=>?_);go_simp;refine hK _ _ (fun _=>⟨sG,by simp[go_sem],sG⟩) ?_;clear hK K;try simp only[jX]
  refine kP (i:=10) (v:=?_) rfl kF kF kF kF (fun _ _ _ h=>h) (by rfl) ⟨sG,by simp[go_sem],sG⟩ ?_ ?_;rotate_left
  ·intro wS hSw;(try dsimp only at hSw);go_simp;try with_reducible rfl
  try simp only[jX]
  refine uS 11 rfl (fun K hK=>?_);go_simp;refine hK _ _ (fun _=>⟨sG,by simp[go_sem],sG⟩) ?_;clear hK K;refine dP ?_;go_wp2;exact bodyPost_ret (v:=.agg #[.int .i64 4,.int .i64 to,.int .i64 frm,.int .i64 con,.int .i64 sh,.int .i64 bal,.int .i64 0,.int .i64 0,.int .i64 0]) (by simp[results,Tryz.results234,go_sem]) rfl ⟨rfl,qBq⟩
 ·
  have HE:Hid (mQ ⟨5,to,frm,con,sh,bal,val,ob,ov⟩=⟨5,to,frm,con,sh,bal,0,ob,ov⟩):=by show _=_;simp[mQ]
  rw[HE.out];unfold msgV;dsimp only;go_enter Tryz.func234,Tryz.ntmps234;go_wp2;refine wp_region_noPanic ?_;refine fB (fun W=>W.cell? ⟨w.heap.size,2,none⟩=some (.int .i64 frm)∧W.cell? ⟨w.heap.size,4,none⟩=some (.int .i64 sh)∧W.cell? ⟨w.heap.size,5,none⟩=some (.int .i64 bal)) 12 kF ⟨sG,by simp[go_sem],sG⟩ (fun hS=>?_);refine tX 0 ?_;refine tX 1 ?_;refine tX 2 ?_;refine tX 3 ?_;refine tX 4 ?_;refine tX 5 ?_;refine tX 6 ?_;refine uS 7 rfl (fun K hK=>?_);go_simp;refine hK _ _ (fun _=>⟨sG,by simp[go_sem],sG⟩) ?_;clear hK K;try simp only[jX]
  refine kP (i:=8) (v:=?_) rfl kF kF kF kF (fun _ _ _ h=>h) (by rfl) ⟨sG,by simp[go_sem],sG⟩ ?_ ?_;rotate_left
  ·intro wS hSw;(try dsimp only at hSw);go_simp;try with_reducible rfl
  try simp only[jX]
  refine uS 9 rfl (fun K hK=>?_);go_simp;refine hK _ _ (fun _=>⟨sG,by simp[go_sem],sG⟩) ?_;clear hK K;try simp only[jX]
  refine kP (i:=10) (v:=?_) rfl kF kF kF kF (fun _ _ _ h=>h) (by rfl) ⟨sG,by simp[go_sem],sG⟩ ?_ ?_;rotate_left
  ·intro wS hSw;(try dsimp only at hSw);go_simp;try with_reducible rfl
  try simp only[jX]
  refine uS 11 rfl (fun K hK=>?_);go_simp;refine hK _ _ (fun _=>⟨sG,by simp[go_sem],sG⟩) ?_;clear hK K;refine dP ?_;go_wp2;exact bodyPost_ret (v:=.agg #[.int .i64 5,.int .i64 to,.int .i64 frm,.int .i64 con,.int .i64 sh,.int .i64 bal,.int .i64 0,.int .i64 ob,.int .i64 ov]) (by simp[results,Tryz.results234,go_sem]) rfl ⟨rfl,qBq⟩
 have HE:Hid (mQ ⟨6,to,frm,con,sh,bal,val,ob,ov⟩=⟨6,to,0,con,0,0,val,0,0⟩):=by show _=_;simp[mQ]
 rw[HE.out];unfold msgV;dsimp only;go_enter Tryz.func234,Tryz.ntmps234;go_wp2;exact bodyPost_ret (v:=.agg #[.int .i64 6,.int .i64 to,.int .i64 0,.int .i64 con,.int .i64 0,.int .i64 0,.int .i64 val,.int .i64 0,.int .i64 0]) (by simp[results,Tryz.results234,go_sem]) rfl ⟨rfl,qBq⟩
theorem fAd {w:World} {α:Type} [Inhabited α] {R:Rep α} {e size:Nat} {lv:Value→List Value} {a:Option Addr} {n c:Nat} {xs:List α} (h:(nRep R e size lv).V w (.slice a n c) xs):xs.length=n∧n≤9223372036854775807:=by
 obtain⟨a',c',e,h1,h2,_⟩:=h;simp only[Value.slice.injEq] at e;obtain⟨rfl,rfl,rfl⟩:=e;unfold maxLen at h2;exact⟨rfl,by omega⟩
theorem fLc (x:Value) (c:Clu) (m:Msg) (w:World) (hx:cluR.V w x c) :
  RI 157 #[x,msgV m] w (.int .i64 (msgF c m)):=by
 obtain⟨u1,u2,u3,u4,u5,rfl,h1,h2,h3,h4,h5⟩:=hx;obtain⟨a0,c0,rfl⟩:=gG h1;obtain⟨a1,c1,rfl⟩:=xP h2;obtain⟨a2,c2,rfl⟩:=qP h3;obtain⟨a3,c3,rfl⟩:=xJ h4;obtain⟨a4,c4,rfl⟩:=fAf h5;have l2:=fAd h2;have l3:=fAd h3;have l4:=fAd h4;obtain⟨n1,hn1⟩:∃n1,n1=c.shards.length:=⟨_,rfl⟩
 obtain⟨n2,hn2⟩:∃n2,n2=c.accs.length:=⟨_,rfl⟩
 obtain⟨n3,hn3⟩:∃n3,n3=c.ldrs.length:=⟨_,rfl⟩
 obtain⟨n4,hn4⟩:∃n4,n4=c.msgs.length:=⟨_,rfl⟩
 rw[←hn1] at l2;rw[←hn2] at l3;rw[←hn3] at l4;rw[←hn1,←hn2,←hn3,←hn4];have HEn:Hid (inB m.kind 1 6=true→∀W,RI 232 #[.agg #[.slice a0 c.cons.length c0,.slice a1 n1 c1,.slice a2 n2 c2,.slice a3 n3 c3,.slice a4 n4 c4],msgV m] W (.bool (kT c m))):=fun hk W=>fK8 c m a0 a1 a2 a3 a4 _ n1 n2 n3 n4 c0 c1 c2 c3 c4 W ⟨hn1.symm,l2.2⟩ ⟨hn2.symm,l3.2⟩ ⟨hn3.symm,l4.2⟩ hk
 have HSu:Hid (bW w fun W=>Calls Tryz.prog 104 #[.agg #[.slice a0 c.cons.length c0,.slice a1 n1 c1,.slice a2 n2 c2,.slice a3 n3 c3,.slice a4 n4 c4],.int .i64 m.con] W (SubE c.cons m.con W)):=fun W hW=>fAp a0 c0 _ _ _ _ c.cons m.con W ⟨_,_,_,_,_,_,_,_,_,_,_,_,rfl,rfl,rfl,rfl⟩ (contsR.below h1 hW)
 have HSa:Hid (inB m.kind 1 6=true→∀p q W,legsR.V W (.slice p (xOf c m).legs.length q) (xOf c m).legs→RI 233 #[.agg #[.int .i64 (xOf c m).id,.slice p (xOf c m).legs.length q],msgV m] W (.bool (mG (xOf c m) m))):=fun hk p q W hv=>fGs _ _ (xOf c m).legs m W hv hk
 have HNa:Hid (inB m.kind 1 6=true→∀W,RI 234 #[msgV m] W (msgV (mQ m))):=fun hk W=>fLz m W hk
 have HZ5:Hid (inB m.kind 1 6=false→msgF c m=5):=fI9;have HZ3:Hid (inB m.kind 1 6=true→kT c m=false→msgF c m=3):=fI7;have HZ4:Hid (inB m.kind 1 6=true→kT c m=true→¬fF c.cons m.con<c.cons.length→msgF c m=4):=fJa;have HZ6:Hid (inB m.kind 1 6=true→kT c m=true→fF c.cons m.con<c.cons.length→mG (xOf c m) m=false→msgF c m=3):=fJb;have HZ7:Hid (inB m.kind 1 6=true→kT c m=true→fF c.cons m.con<c.cons.length→mG (xOf c m) m=true→msgF c m=if m=mQ m then 0 else 1):=fI8;have HX:Hid (xOf c m=c.cons.getD (fF c.cons m.con) default):=rfl;clear h1 h2 h3 h4 h5 hn1 hn2 hn3 hn4 l2 l3 l4;generalize msgF c m=Z at *;cases hk:inB m.kind 1 6
 ·have HC:Hid _:=HZ5.out hk;unfold msgV;obtain⟨kind,to,frm,con,sh,bal,val,ob,ov⟩:=m;dsimp only at hk ⊢;clear HEn HSu HSa HNa HZ3 HZ4 HZ6 HZ7 HX HZ5;go_enter Tryz.func157,Tryz.ntmps157;go_wp2_with (first|(go_at_call 152;refine(fO _ _ _ _).mono ?_;rintro e w' ⟨rfl,hw⟩;obtain rfl:=hw.symm;rw[hk]));go_ret;exact⟨rH,qBq⟩
 have HEn':=HEn.out hk;have HSa':=HSa.out hk;have HNa':=HNa.out hk;have HZ3':Hid (kT c m=false→Z=3):=HZ3.out hk;have HZ4':Hid (kT c m=true→¬fF c.cons m.con<c.cons.length→Z=4):=HZ4.out hk;have HZ6':Hid (kT c m=true→fF c.cons m.con<c.cons.length→mG (xOf c m) m=false→Z=3):=HZ6.out hk;have HZ7':Hid (kT c m=true→fF c.cons m.con<c.cons.length→mG (xOf c m) m=true→Z=if m=mQ m then 0 else 1):=HZ7.out hk;have HE2:Hid (∀W,RI 232 #[.agg #[.slice a0 c.cons.length c0,.slice a1 n1 c1,.slice a2 n2 c2,.slice a3 n3 c3,.slice a4 n4 c4],msgV m] W (.bool (kT c m))):=HEn';have HS2:Hid (∀p q W,legsR.V W (.slice p (xOf c m).legs.length q) (xOf c m).legs→RI 233 #[.agg #[.int .i64 (xOf c m).id,.slice p (xOf c m).legs.length q],msgV m] W (.bool (mG (xOf c m) m))):=HSa';have HN2:Hid (∀W,RI 234 #[msgV m] W (msgV (mQ m))):=HNa';clear HEn HSa HNa HEn' HSa' HNa' HZ3 HZ4 HZ6 HZ7 HZ5;generalize kT c m=eb at *;generalize mG (xOf c m) m=sb at *;obtain⟨fi,hfi⟩:∃fi,fi=fF c.cons m.con:=⟨_,rfl⟩
 have HFi:Hid (fi=fF c.cons m.con):=hfi;clear hfi;obtain⟨bm,hbm⟩:∃bm,bm=mQ m:=⟨_,rfl⟩
 rw[←hbm] at HN2 HZ7';clear hbm;unfold msgV at HE2 HS2 HN2 ⊢;obtain⟨kind,to,frm,con,sh,bal,val,ob,ov⟩:=m;obtain⟨kind2,to2,frm2,con2,sh2,bal2,val2,ob2,ov2⟩:=bm;dsimp only at hk HE2 HS2 HN2 HSu HFi HZ4' HZ6' HZ7' HX ⊢;generalize xOf c ⟨kind,to,frm,con,sh,bal,val,ob,ov⟩=xc at *;go_enter Tryz.func157,Tryz.ntmps157;go_wp2_with (first|(go_at_call 152;refine(fO _ _ _ _).mono ?_;rintro e w' ⟨rfl,hw⟩;obtain rfl:=hw.symm;rw[hk]));go_wp2_with fail;refine(HE2.out _).mono ?_;rintro e w1 ⟨rfl,hb1⟩;have hB1:Below w.heap.size w w1:=qBq;have y0:w1.cell? ⟨w.heap.size,0,none⟩=some (.slice a0 c.cons.length c0):=cK hb1 sG;have y1:w1.cell? ⟨w.heap.size,1,none⟩=some (.slice a1 n1 c1):=cK hb1 sG;have y2:w1.cell? ⟨w.heap.size,2,none⟩=some (.slice a2 n2 c2):=cK hb1 sG;have y3:w1.cell? ⟨w.heap.size,3,none⟩=some (.slice a3 n3 c3):=cK hb1 sG;have y4:w1.cell? ⟨w.heap.size,4,none⟩=some (.slice a4 n4 c4):=cK hb1 sG;have m0:w1.cell? ⟨w.heap.size+1,0,none⟩=some (.int .i64 kind):=cK hb1 sG;have m1:w1.cell? ⟨w.heap.size+1,1,none⟩=some (.int .i64 to):=cK hb1 sG;have m2:w1.cell? ⟨w.heap.size+1,2,none⟩=some (.int .i64 frm):=cK hb1 sG;have m3:w1.cell? ⟨w.heap.size+1,3,none⟩=some (.int .i64 con):=cK hb1 sG;have m4:w1.cell? ⟨w.heap.size+1,4,none⟩=some (.int .i64 sh):=cK hb1 sG;have m5:w1.cell? ⟨w.heap.size+1,5,none⟩=some (.int .i64 bal):=cK hb1 sG;have m6:w1.cell? ⟨w.heap.size+1,6,none⟩=some (.int .i64 val):=cK hb1 sG;have m7:w1.cell? ⟨w.heap.size+1,7,none⟩=some (.int .i64 ob):=cK hb1 sG;have m8:w1.cell? ⟨w.heap.size+1,8,none⟩=some (.int .i64 ov):=cK hb1 sG
 clear hb1 HE2;cases eb
 ·have HC:Hid (Z=3):=HZ3'.out rfl;clear HZ3' HZ4' HZ6' HZ7' HSu HS2 HN2 HX HFi;go_wp2;go_ret;exact⟨rH,qBq⟩
 have HZ4:Hid (¬fF c.cons con<c.cons.length→Z=4):=HZ4'.out rfl;have HZ6:Hid (fF c.cons con<c.cons.length→sb=false→Z=3):=HZ6'.out rfl;have HZ7:Hid (fF c.cons con<c.cons.length→sb=true→Z=if (⟨kind,to,frm,con,sh,bal,val,ob,ov⟩:Msg)=⟨kind2,to2,frm2,con2,sh2,bal2,val2,ob2,ov2⟩ then 0 else 1):=HZ7'.out rfl;clear HZ3' HZ4' HZ6' HZ7';go_wp2_with fail;refine(HSu.out _ hB1).mono ?_;rintro e w2 ⟨hb2,hr⟩;have hB2:Below w.heap.size w w2:=bS hB1 hb2;have hz2:w.heap.size+1<w2.heap.size:=by have h:=wL _ _ m0;have:=hb2.size;dsimp only at h;omega
 replace m0:=cK hb2 m0;replace m1:=cK hb2 m1;replace m2:=cK hb2 m2;replace m3:=cK hb2 m3;replace m4:=cK hb2 m4;replace m5:=cK hb2 m5;replace m6:=cK hb2 m6;replace m7:=cK hb2 m7;replace m8:=cK hb2 m8;clear hb2 HSu y0 y1 y2 y3 y4;rcases hr with ⟨hlt,p,q,rfl,hlv⟩|⟨hlt,rfl⟩
 rotate_left
 ·have HC:Hid _:=HZ4.out hlt;clear HZ4 HZ6 HZ7 HS2 HN2 HX HFi hlt;go_wp2;go_ret;exact⟨rH,qBq⟩
 have HZ6':Hid (sb=false→Z=3):=HZ6.out hlt;have HZ7':Hid (sb=true→Z=if (⟨kind,to,frm,con,sh,bal,val,ob,ov⟩:Msg)=⟨kind2,to2,frm2,con2,sh2,bal2,val2,ob2,ov2⟩ then 0 else 1):=HZ7.out hlt;rw[←HX.out] at hlv ⊢;have HLv:Hid (legsR.V w2 (.slice p xc.legs.length q) xc.legs):=hlv;clear HZ4 HZ6 HZ7 hlt hlv HX HFi;go_wp2_with fail;refine(HS2.out p q _ (legsR.below HLv.out qBq)).mono ?_;rintro e w3 ⟨rfl,hb3⟩;have hB3:Below w.heap.size w w3:=qBq;replace m0:=cK hb3 (cK qBq m0);replace m1:=cK hb3 (cK qBq m1);replace m2:=cK hb3 (cK qBq m2);replace m3:=cK hb3 (cK qBq m3);replace m4:=cK hb3 (cK qBq m4);replace m5:=cK hb3 (cK qBq m5);replace m6:=cK hb3 (cK qBq m6);replace m7:=cK hb3 (cK qBq m7);replace m8:=cK hb3 (cK qBq m8);clear hb3 HS2 HLv hB2 hz2;cases sb
 ·have HC:Hid (Z=3):=HZ6'.out rfl;clear HZ6' HZ7' HN2;go_wp2;go_ret;exact⟨rH,qBq⟩
 have HZ:Hid (Z=if (⟨kind,to,frm,con,sh,bal,val,ob,ov⟩:Msg)=⟨kind2,to2,frm2,con2,sh2,bal2,val2,ob2,ov2⟩ then 0 else 1):=HZ7'.out rfl;clear HZ6' HZ7';have hne:=fC8 kind to frm con sh bal val ob ov kind2 to2 frm2 con2 sh2 bal2 val2 ob2 ov2;go_wp2;refine wp_region_noPanic ?_;refine fB (fun W=>W.cell? ⟨w.heap.size+1,0,none⟩=some (.int .i64 kind)∧W.cell? ⟨w.heap.size+1,1,none⟩=some (.int .i64 to)∧W.cell? ⟨w.heap.size+1,2,none⟩=some (.int .i64 frm)∧W.cell? ⟨w.heap.size+1,3,none⟩=some (.int .i64 con)∧W.cell? ⟨w.heap.size+1,4,none⟩=some (.int .i64 sh)∧W.cell? ⟨w.heap.size+1,5,none⟩=some (.int .i64 bal)∧W.cell? ⟨w.heap.size+1,6,none⟩=some (.int .i64 val)∧W.cell? ⟨w.heap.size+1,7,none⟩=some (.int .i64 ob)∧W.cell? ⟨w.heap.size+1,8,none⟩=some (.int .i64 ov)) 4 kF ⟨cK qBq m0,cK qBq m1,cK qBq m2,cK qBq m3,cK qBq m4,cK qBq m5,cK qBq m6,cK qBq m7,cK qBq m8⟩ (fun hS=>?_);refine tX 0 ?_;refine tX 1 ?_;refine uS 2 rfl (fun K hK=>?_);go_simp;refine(HN2.out _).mono ?_;rintro e w4 ⟨rfl,hb4⟩;have hB4:=bT w hb4;have hS4:=And.intro (cK hb4 (cK qBq m0)) (And.intro (cK hb4 (cK qBq m1)) (And.intro (cK hb4 (cK qBq m2)) (And.intro (cK hb4 (cK qBq m3)) (And.intro (cK hb4 (cK qBq m4)) (And.intro (cK hb4 (cK qBq m5)) (And.intro (cK hb4 (cK qBq m6)) (And.intro (cK hb4 (cK qBq m7)) (cK hb4 (cK qBq m8)))))))));refine hK _ _ (fun _=>hS4) ?_;clear hK K;try simp only[jX]
 by_cases hq:(⟨kind,to,frm,con,sh,bal,val,ob,ov⟩:Msg)=⟨kind2,to2,frm2,con2,sh2,bal2,val2,ob2,ov2⟩
 ·
  rw[decide_eq_true hq] at hne;have HC:Hid (Z=0):=by show _=_;rw[HZ.out,if_pos hq]
  clear HZ hq;refine tX 3 (v:=(.bool false)) ?_;refine dP ?_;go_wp2;go_ret;exact⟨rH,hB4⟩
 rw[decide_eq_false hq] at hne;have HC:Hid (Z=1):=by show _=_;rw[HZ.out,if_neg hq]
 clear HZ hq;refine tX 3 (v:=(.bool true)) ?_;refine dP ?_;go_wp2;go_ret;exact⟨rH,hB4⟩
variable [dQ SltR] [iH SltR] [dQ AccR] [iH AccR] [dQ AccsR] [iH AccsR] [dQ SltsR] [iH SltsR] [dQ Rw] [iH Rw] [dQ LedgR] [iH LedgR] [dQ OutcR] [iH OutcR] [dQ ShdR] [iH ShdR]
theorem gP {w:World} {x:Value} {c:Clu} (hx:cluR.V w x c):∃a0 a1 a2 a3 a4 c0 c1 c2 c3 c4 n0 n1 n2 n3 n4,x =.agg #[.slice a0 n0 c0,.slice a1 n1 c1,.slice a2 n2 c2,.slice a3 n3 c3,.slice a4 n4 c4]∧c.cons.length=n0∧c.shards.length=n1∧c.accs.length=n2∧c.ldrs.length=n3∧c.msgs.length=n4∧n0≤9223372036854775807∧n1≤9223372036854775807∧n2≤9223372036854775807∧n3≤9223372036854775807∧n4≤9223372036854775807:=by
 obtain⟨u1,u2,u3,u4,u5,rfl,h1,h2,h3,h4,h5⟩:=hx;obtain⟨a0,c0,rfl⟩:=gG h1;obtain⟨a1,c1,rfl⟩:=xP h2;obtain⟨a2,c2,rfl⟩:=qP h3;obtain⟨a3,c3,rfl⟩:=xJ h4;obtain⟨a4,c4,e5,l1,l2,_⟩:=h5;subst e5;unfold maxLen at l2;exact⟨a0,a1,a2,a3,a4,c0,c1,c2,c3,c4,_,_,_,_,_,rfl,rfl,rfl,rfl,rfl,rfl,(fAd h1).2,(fAd h2).2,(fAd h3).2,(fAd h4).2,by omega⟩
theorem fDn (x:Value) (c:Clu) (k:Int) (w:World) (hx:cluR.V w x c):Calls Tryz.prog 104 #[x,.int .i64 k] w (SubE c.cons k w):=by
 obtain⟨u1,u2,u3,u4,u5,rfl,h1,h2,h3,h4,h5⟩:=hx;obtain⟨a0,c0,rfl⟩:=gG h1;obtain⟨a1,c1,rfl⟩:=xP h2;obtain⟨a2,c2,rfl⟩:=qP h3;obtain⟨a3,c3,rfl⟩:=xJ h4;obtain⟨a4,c4,rfl⟩:=fAf h5;exact fAp a0 c0 _ _ _ _ c.cons k w ⟨_,_,_,_,_,_,_,_,_,_,_,_,rfl,rfl,rfl,rfl⟩ h1
theorem fR6 {n:Nat} {xs:List Leg} {j:Nat} (hj:j<xs.length) (h:inB (xs.getD j default).sh 0 ((n:Int)-1)=false):pV n xs=false:=by
 unfold pV;rw[List.all_eq_false];exact⟨xs.getD j default,by simp[List.getD,hj],by rw[h];simp⟩
theorem fPx {n:Nat} {xs:List Leg} (h:∀j,j<xs.length→inB (xs.getD j default).sh 0 ((n:Int)-1)=true):pV n xs=true:=by
 unfold pV;rw[List.all_eq_true];intro y hy;obtain⟨i,hi,rfl⟩:=List.getElem_of_mem hy;have:=h i hi;simp only[List.getD,List.getElem?_eq_getElem hi,Option.getD_some] at this;exact this
end
section
variable [dQ Rw] [iH Rw] [dQ Bal] [iH Bal] [dQ Ledg] [iH Ledg] [dQ Leg] [iH Leg] [dQ Cont] [iH Cont] [dQ LedgR] [iH LedgR] [dQ OutcR] [iH OutcR] [dQ Mrk] [iH Mrk] [dQ Shd] [iH Shd] [dQ ShdR] [iH ShdR]
theorem tO {w:World} {v:Value} {xs:List Cont} (hx:contsR.V w v xs):∃a c,v =.slice a xs.length c∧xs.length≤c∧c≤maxLen∧∀k,k<xs.length→∃b o p q,a=some ⟨b,o,none⟩∧w.cell? ⟨b,o+k*2,none⟩=some (.int .i64 (xs.getD k default).id)∧w.cell? ⟨b,o+k*2+1,none⟩=some (.slice p (xs.getD k default).legs.length q)∧contR.V w (.agg #[.int .i64 (xs.getD k default).id,.slice p (xs.getD k default).legs.length q]) (xs.getD k default):=by
 obtain⟨a,c,rfl,h1,h2,h3⟩:=hx;refine⟨a,c,rfl,h1,h2,fun k hk=>?_⟩;obtain⟨b,o,u,e,_,p,hv⟩:=h3 k hk;have hV:=hv;obtain⟨s,rfl,hc⟩:=hv;obtain⟨au,cu,rfl⟩:=mM hc;exact⟨b,o,au,cu,e,p 0 oM,p 1 oM,hV⟩
theorem uV {xs:List Mrk} {k:Nat} (h:(inB (xs.getD k default).con 1 1000000000&&inB (xs.getD k default).val 1 2)=false):pF xs k=3:=by unfold pF;rw[h];rfl
theorem fA7 {xs:List Mrk} (h:(inB (xs.getD 0 default).con 1 1000000000&&inB (xs.getD 0 default).val 1 2)=true):pF xs 0=0:=by unfold pF;rw[if_pos h,if_neg oM]
theorem fA5 {xs:List Mrk} {k:Nat} (h:(inB (xs.getD (k+1) default).con 1 1000000000&&inB (xs.getD (k+1) default).val 1 2)=true) (h2:(xs.getD (k+1) default).con≤(xs.getD k default).con):pF xs (k+1)=1:=by unfold pF;rw[if_pos h,if_pos ⟨oM,by rw[Nat.add_sub_cancel];omega⟩]
theorem fA6 {xs:List Mrk} {k:Nat} (h:(inB (xs.getD (k+1) default).con 1 1000000000&&inB (xs.getD (k+1) default).val 1 2)=true) (h2:(xs.getD k default).con<(xs.getD (k+1) default).con):pF xs (k+1)=0:=by unfold pF;rw[if_pos h,if_neg (by rw[Nat.add_sub_cancel];omega)]
theorem fGi {xs:List Mrk} {k:Nat} {c:Int} (hk:k<xs.length) (hs:fC (pF xs) k=0) (h:pF xs k=c) (hc:c≠0):mrkF xs=c:=by
 unfold mrkF;rw[fK hs (by rw[h];exact hc) _ hk,h]
theorem vP (x:Value) (xs:List Mrk) (c:Int) (w:World) (hx:mrksR.V w x xs) :
  RI 25 #[x,.int .i64 c] w (.int .i64 (gD c xs)):=by
 obtain⟨ax,cx,rfl,hcx,hmx,hx⟩:=hx;unfold maxLen at hmx;have HS0:Hid (∀k,k<xs.length→gD c (xs.drop k)=if (xs.getD k default).con=c then (xs.getD k default).val else gD c (xs.drop (k+1))):=fun k hk=>fA0 hk
 have HE:Hid (gD c (xs.drop xs.length)=0):=by show _=_;rw[List.drop_length];rfl
 generalize hn':xs.length=n at *;clear hn';go_enter Tryz.func25,Tryz.ntmps25;go_wp2;go_loopw [5] (fun i w'=>∃k:Nat,k≤n∧i =.int .i64 k∧Hid (gD c xs=gD c (xs.drop k))∧Below w.heap.size w w') (fun i _=>n-(intOf i).toNat)
 case atStart=>exact⟨0,oM,rfl,rfl,bR _ _⟩
 obtain⟨k,hk,rfl,HS,hbl⟩:=hrel;by_cases hlt:k<n
 ·
  obtain⟨bx,ox,rfl,g1⟩:=hx k hlt;have h1:=HS0.out k hlt;obtain⟨l,hl⟩:∃l,l=xs.getD k default:=⟨_,rfl⟩
  rw[←hl] at g1 h1;have H1:Hid (gD c (xs.drop k)=if l.con=c then l.val else gD c (xs.drop (k+1))):=h1;clear hl hx h1;obtain⟨a1,a2⟩:=fV hbl g1;by_cases he:l.con=c
  ·
   have HC:Hid (gD c xs=l.val):=by show _=_;rw[HS.out,H1.out,if_pos he]
   have he':(l.con==c)=true:=by simp[he]
   clear H1 HS;go_wp2;go_ret;exact⟨rH,qBq⟩
  have HC:Hid (gD c xs=gD c (xs.drop (k+1))):=by show _=_;rw[HS.out,H1.out,if_neg he]
  have he':(l.con==c)=false:=by simp[he]
  clear H1 HS;go_wp2;exact⟨⟨k+1,by omega,by go_num,HC,qBq⟩,mI⟩
 have hkn:k=n:=oM;subst hkn;have HC:Hid (gD c xs=0):=by show _=_;rw[HS.out,HE.out]
 go_wp2;go_ret;exact⟨rH,qBq⟩
theorem fBl (x:Value) (xs:List Mrk) (w:World) (hx:mrksR.V w x xs) :
  RI 195 #[x] w (.int .i64 (mrkF xs)):=by
 obtain⟨ax,cx,rfl,hcx,hmx,hx⟩:=hx;unfold maxLen at hmx;have HH:Hid (∀k c,k<xs.length→fC (pF xs) k=0→pF xs k=c→c≠0→mrkF xs=c):=fun k c hk hs h hc=>fGi hk hs h hc
 have HE:Hid (fC (pF xs) xs.length=0→mrkF xs=0):=fun h=>h
 generalize hn':xs.length=n at *;clear hn';go_enter Tryz.func195,Tryz.ntmps195;go_wp2;go_loopw [3] (fun i w'=>∃k:Nat,k≤n∧i =.int .i64 k∧Hid (fC (pF xs) k=0)∧Below w.heap.size w w') (fun i _=>n-(intOf i).toNat)
 case atStart=>exact⟨0,oM,rfl,rfl,bR _ _⟩
 obtain⟨k,hk,rfl,HS,hbl⟩:=hrel;by_cases hlt:k<n
 ·
  obtain⟨bx,ox,rfl,g1⟩:=hx k hlt;obtain⟨l,hl⟩:∃l,l=xs.getD k default:=⟨_,rfl⟩
  rw[←hl] at g1;have HL:Hid (l=xs.getD k default):=hl;clear hl;obtain⟨a1,a2⟩:=fV hbl g1;cases h1:inB l.con 1 1000000000
  ·have HC:Hid (mrkF xs=3):=HH.out k 3 hlt HS.out (uV (by rw[←HL.out,h1];rfl)) oM;clear hx;go_wp2_with (first|(go_at_call 192;refine(mD _ _).mono ?_;rintro e w' ⟨rfl,rfl⟩;rw[h1]));go_ret;exact⟨rH,qBq⟩
  cases h2:inB l.val 1 2
  ·have HC:Hid (mrkF xs=3):=HH.out k 3 hlt HS.out (uV (by rw[←HL.out,h1,h2];rfl)) oM;clear hx;go_wp2_with (first|(go_at_call 192;refine(mD _ _).mono ?_;rintro e w' ⟨rfl,rfl⟩;rw[h1])|(go_at_call 123;refine(fM _ _ _ _).mono ?_;rintro e w' ⟨rfl,rfl⟩;rw[h2]));go_ret;exact⟨rH,qBq⟩
  have hok:Hid ((inB (xs.getD k default).con 1 1000000000&&inB (xs.getD k default).val 1 2)=true):=by show _=_;rw[←HL.out,h1,h2];rfl
  cases k with
  | zero=>
   have HS2:Hid (fC (pF xs) 1=0):=fE HS.out (fA7 hok.out);clear hx;simp only[Nat.zero_mul,Nat.add_zero] at a1 a2;go_wp2_with (first|(go_at_call 192;refine(mD _ _).mono ?_;rintro e w' ⟨rfl,rfl⟩;rw[h1])|(go_at_call 123;refine(fM _ _ _ _).mono ?_;rintro e w' ⟨rfl,rfl⟩;rw[h2]));go_quiet (fail);go_wp2;exact⟨⟨1,by omega,by go_num,HS2,fJ hbl _⟩,mI⟩
  | succ m=>
   obtain⟨bx',ox',he,g2⟩:=hx m oM;simp only[Option.some.injEq,Addr.mk.injEq,and_true] at he;obtain⟨rfl,rfl⟩:=he;obtain⟨l',hl'⟩:∃l',l'=xs.getD m default:=⟨_,rfl⟩
   rw[←hl'] at g2;have HL':Hid (l'=xs.getD m default):=hl';clear hl' hx;obtain⟨a3,a4⟩:=fV hbl g2;have hw1:IntKind.i64.wrap (((m+1:Nat):Int)-1)=(m:Int):=by rw[IntKind.wrap_i64];omega
   have hw2:(((m+1:Nat):Int)-1)=(m:Int):=oM;have e1:((m+1:Nat):Int)<n:=oM;have e2:(m:Int)<n:=oM;have e3:(0:Int)≤m:=oM;have e4:(0:Int)<((m+1:Nat):Int):=oM;have e5:(0:Int)≤((m+1:Nat):Int):=oM;have HFa:Hid (l.con≤l'.con→mrkF xs=1):=fun h=>HH.out (m+1) 1 hlt HS.out (fA5 hok.out (by rw[←HL.out,←HL'.out];exact h)) oM
   have HRi:Hid (l'.con<l.con→fC (pF xs) (m+1+1)=0):=fun h=>fE HS.out (fA6 hok.out (by rw[←HL.out,←HL'.out];exact h))
   clear hok;obtain⟨ii,hii⟩:∃ii:Nat,ii=m+1:=⟨_,rfl⟩
   have HII:Hid (ii=m+1):=hii;rw[←hii] at a1 a2 hw1 hw2 e1 e4 e5 HRi ⊢;clear hii HS;have e6:decide (0<ii)=true:=decide_eq_true (by have:=HII.out;omega);by_cases hle:l.con≤l'.con
   ·have HC:=HFa.out hle;go_wp2_with (first|(go_at_call 192;refine(mD _ _).mono ?_;rintro e w' ⟨rfl,rfl⟩;rw[h1])|(go_at_call 123;refine(fM _ _ _ _).mono ?_;rintro e w' ⟨rfl,rfl⟩;rw[h2]));go_quiet (fail);go_wp2;go_ret;exact⟨by rw[HC];rfl,fJ hbl _⟩
   have HS2:Hid (fC (pF xs) (ii+1)=0):=HRi.out oM;go_wp2_with (first|(go_at_call 192;refine(mD _ _).mono ?_;rintro e w' ⟨rfl,rfl⟩;rw[h1])|(go_at_call 123;refine(fM _ _ _ _).mono ?_;rintro e w' ⟨rfl,rfl⟩;rw[h2]));go_quiet (fail);go_wp2;exact⟨⟨ii+1,by omega,by go_num,HS2,fJ hbl _⟩,mI⟩
 have hkn:k=n:=oM;subst hkn;have HC:=HE.out HS.out;go_wp2;go_ret;exact⟨by rw[HC];rfl,qBq⟩
theorem fF6 (x:Value) (d:Shd) (c:Int) (w:World) (hx:shdR.V w x d) :
  RI 259 #[x,.int .i64 c] w (.bool (kK d.held c)):=by
 obtain⟨u1,u2,u3,u4,u5,rfl,_,_,hx,_,_⟩:=hx;obtain⟨ax,cx,rfl,hcx,hmx,hx⟩:=tO hx;unfold maxLen at hmx;obtain⟨idx,_,_,xs,_,_⟩:=d;dsimp only at hcx hx ⊢;have HS0:Hid (∀k,k<xs.length→kK (xs.take (k+1)) c=(kK (xs.take k) c||decide ((xs.getD k default).id=c))):=fun k hk=>fK9 hk
 have HE:Hid (kK (xs.take xs.length) c=kK xs c):=by show _=_;rw[List.take_length]
 have HT:Hid (∀k,k<xs.length→(xs.getD k default).id=c→kK xs c=true):=fun k hk h=>heldIn_mem.2 ⟨k,hk,h⟩
 generalize hn':xs.length=n at *;clear hn';go_enter Tryz.func259,Tryz.ntmps259;go_wp2;go_loopw [5] (fun i w'=>∃k:Nat,k≤n∧i =.int .i64 k∧Hid (kK (xs.take k) c=false)∧w'.cell? ⟨w.heap.size,3,none⟩=some (.slice ax n cx)∧Below w.heap.size w w') (fun i _=>n-(intOf i).toNat)
 case atStart=>exact⟨0,oM,rfl,by show kK (xs.take 0) c=false;simp[kK],sG,qBq⟩
 obtain⟨k,hk,rfl,HS,hq,hbl⟩:=hrel;have zq:w.heap.size<wr.heap.size:=wL wr _ hq;by_cases hlt:k<n
 ·
  obtain⟨bx,ox,pp,qq,rfl,g0,g1,_⟩:=hx k hlt;have h1:=HS0.out k hlt;have h2:=HT.out k hlt;generalize (xs.getD k default).legs.length=ll at *;generalize (xs.getD k default).id=q at *;have H1:Hid (kK (xs.take (k+1)) c=(kK (xs.take k) c||decide (q=c))):=h1;have H2:Hid (q=c→kK xs c=true):=h2;clear hx h1 h2;replace g0:=cK hbl g0;by_cases he:q=c
  ·
   have HC:=H2.out he;have he':(q==c)=true:=by simp[he]
   clear H1 HS H2;go_wp2;go_ret;exact⟨by rw[HC];rfl,qBq⟩
  have HC:Hid (kK (xs.take (k+1)) c=false):=by show _=_;rw[H1.out,HS.out,decide_eq_false he];rfl
  have he':(q==c)=false:=by simp[he]
  clear H1 HS H2;go_wp2;exact⟨⟨k+1,by omega,by go_num,HC,hq,qBq⟩,mI⟩
 have hkn:k=n:=oM;subst hkn;have HC:Hid (kK xs c=false):=by show _=_;rw[←HE.out,HS.out]
 go_wp2;go_ret;exact⟨rH,qBq⟩
theorem fB5 {α:Type} [Inhabited α] (f:α→Bool) {xs:List α} {k:Nat} (hk:k<xs.length):(xs.take (k+1)).any f=((xs.take k).any f||f (xs.getD k default)):=by
 have e:xs.take (k+1)=xs.take k++[xs.getD k default]:=by rw[List.take_add_one];simp[List.getD,hk]
 rw[e,List.any_append];simp
theorem fMw {α:Type} [Inhabited α] {f:α→Bool} {xs:List α} {k:Nat} (hk:k<xs.length) (h:f (xs.getD k default)=true):xs.any f=true:=List.any_eq_true.2 ⟨xs.getD k default,by simp[List.getD,hk],h⟩
theorem fIw (x y:Value) (xs ys:List Leg) (w:World) (hx:legsR.V w x xs) (hy:legsR.V w y ys) :
  RI 261 #[x,y] w (.bool (touch xs ys)):=by
 obtain⟨ax,cx,rfl,hcx,hmx,hx⟩:=hx;obtain⟨ay,cy,rfl,hcy,hmy,hy⟩:=hy;unfold maxLen at hmx hmy;have HT:Hid (∀i j,i<xs.length→j<ys.length→mV (xs.getD i default) (ys.getD j default)=true→touch xs ys=true):=fun i j hi hj h=>fMw hi (fMw hj h)
 have HO:Hid (∀i,i<xs.length→((xs.take i).any (fun x=>ys.any (fun y=>mV x y)))=false→ys.any (fun y=>mV (xs.getD i default) y)=false→((xs.take (i+1)).any (fun x=>ys.any (fun y=>mV x y)))=false):=fun i hi h1 h2=>by rw[fB5 _ hi,h1,h2];rfl
 have HI:Hid (∀i j,j<ys.length→((ys.take j).any (fun y=>mV (xs.getD i default) y))=false→mV (xs.getD i default) (ys.getD j default)=false→((ys.take (j+1)).any (fun y=>mV (xs.getD i default) y))=false):=fun i j hj h1 h2=>by rw[fB5 _ hj,h1,h2];rfl
 have HE1:Hid (((xs.take xs.length).any (fun x=>ys.any (fun y=>mV x y)))=touch xs ys):=by show _=_;rw[List.take_length];rfl
 have HE2:Hid (∀i,((ys.take ys.length).any (fun y=>mV (xs.getD i default) y))=ys.any (fun y=>mV (xs.getD i default) y)):=fun i=>by rw[List.take_length]
 generalize hn':xs.length=n at *;generalize hm':ys.length=m at *;clear hn' hm';go_enter Tryz.func261,Tryz.ntmps261;go_wp2;go_loopw [5] (fun i w'=>∃k:Nat,k≤n∧i =.int .i64 k∧Hid (((xs.take k).any (fun x=>ys.any (fun y=>mV x y)))=false)∧Below w.heap.size w w') (fun i _=>n-(intOf i).toNat)
 case atStart=>exact⟨0,oM,rfl,by show((xs.take 0).any _)=false;simp,bR _ _⟩
 obtain⟨k,hk,rfl,HS,hbl⟩:=hrel;by_cases hlt:k<n
 ·
  go_wp2;go_loopw [6] (fun i w'=>∃j:Nat,j≤m∧i =.int .i64 j∧Hid (((ys.take j).any (fun y=>mV (xs.getD k default) y))=false)∧Below w.heap.size w w') (fun i _=>m-(intOf i).toNat)
  case atStart=>exact⟨0,oM,rfl,by show((ys.take 0).any _)=false;simp,hbl⟩
  rename_i wq;obtain⟨j,hj,rfl,HS2,hbl2⟩:=hrel;by_cases hlt2:j<m
  ·
   obtain⟨bx,ox,rfl,g1⟩:=hx k hlt;obtain⟨by_,oy,rfl,g2⟩:=hy j hlt2;have h1:=HT.out k j hlt hlt2;have h2:=HI.out k j hlt2 HS2.out;obtain⟨l,hl⟩:∃l,l=xs.getD k default:=⟨_,rfl⟩
   rw[←hl] at g1;obtain⟨l',hl'⟩:∃l',l'=ys.getD j default:=⟨_,rfl⟩
   rw[←hl'] at g2;have H1:Hid (mV l l'=true→touch xs ys=true):=by rw[hl,hl'];exact h1
   have H2:Hid (mV l l'=false→((ys.take (j+1)).any (fun y=>mV (xs.getD k default) y))=false):=by rw[hl,hl'];exact h2
   clear hl hl' h1 h2 hx hy;have ga:=(fGc hbl2 g1).2;obtain⟨a0,a1,a2,a3⟩:=ga;have gb:=(fGc hbl2 g2).2;obtain⟨c0,c1,c2,c3⟩:=gb;have k1:(k:Int)<n:=oM;have k2:(0:Int)≤k:=oM;have j1:(j:Int)<m:=oM;have j2:(0:Int)≤j:=oM;by_cases e1:l.ac=l'.ac
   ·
    have e1':(l.ac==l'.ac)=true:=by simp[e1]
    by_cases e2:l.ast=l'.ast
    ·
     have e2':(l.ast==l'.ast)=true:=by simp[e2]
     have HC:=H1.out (by unfold mV;rw[e1',e2'];rfl);clear e1 e2;go_wp2;go_quiet (fail);go_wp2;go_ret;exact⟨by rw[HC];rfl,fJ hbl2 _⟩
    have e2':(l.ast==l'.ast)=false:=by simp[e2]
    have HC:Hid (((ys.take (j+1)).any (fun y=>mV (xs.getD k default) y))=false):=H2.out (by unfold mV;rw[e1',e2'];rfl);clear e1 e2;go_wp2;go_quiet (fail);go_wp2;exact⟨⟨j+1,by omega,by go_num,HC,fJ hbl2 _⟩,mI⟩
   have e1':(l.ac==l'.ac)=false:=by simp[e1]
   have HC:Hid (((ys.take (j+1)).any (fun y=>mV (xs.getD k default) y))=false):=H2.out (by unfold mV;rw[e1'];rfl);clear e1;go_wp2;go_quiet (fail);go_wp2;exact⟨⟨j+1,by omega,by go_num,HC,fJ hbl2 _⟩,mI⟩
  have hjm:j=m:=oM;subst hjm;have HC:Hid (((xs.take (k+1)).any (fun x=>ys.any (fun y=>mV x y)))=false):=HO.out k hlt HS.out (by rw[←HE2.out];exact HS2.out);go_wp2;exact⟨⟨k+1,by omega,by go_num,HC,qBq⟩,mI⟩
 have hkn:k=n:=oM;subst hkn;have HC:Hid (touch xs ys=false):=by show _=_;rw[←HE1.out,HS.out]
 go_wp2;go_ret;exact⟨rH,qBq⟩
def refV (c:Int):Value:=.iface 293 (.int .i64 c)
def fHc (c:Int) (w:World) (e:Ending) (w':World):Prop:=((c=0∧e =.returned (.tuple #[]))∨(¬c=0∧e =.panicked [{v:=refV c,recovered:=false}]))∧Below w.heap.size w w'
def fBh (idx:Int) (hs:List Cont) (ls:List Leg):Int:=if fEp idx hs ls=true then 7 else 0
theorem fF5 (idx id:Int) (y ul:Value) (hs:List Cont) (ls:List Leg) (w:World) (hy:contsR.V w y hs) (hl:legsR.V w ul ls) (hn:ls.length≤1000) :
  Calls Tryz.prog 211 #[.int .i64 idx,y,.agg #[.int .i64 id,ul]] w (fHc (fBh idx hs ls) w):=by
 have HLe:Hid (bW w fun W=>Calls Tryz.prog 52 #[ul,.int .i64 idx] W fun e w'=>∃v,e =.returned v∧w'.ownsRow W.heap.size 131 4 v (onSh idx ls).length (mY (onSh idx ls))∧Below W.heap.size W w'):=fun W hW=>yB ul ls idx W (legsR.below hl hW) oM
 obtain⟨al,cl,rfl⟩:=mM hl;obtain⟨ay,cy,rfl,hcy,hmy,hy⟩:=tO hy;unfold maxLen at hmy;have HY:Hid (∀k,k<hs.length→∃b o p q,ay=some ⟨b,o,none⟩∧w.cell? ⟨b,o+k*2,none⟩=some (.int .i64 (hs.getD k default).id)∧w.cell? ⟨b,o+k*2+1,none⟩=some (.slice p (hs.getD k default).legs.length q)∧contR.V w (.agg #[.int .i64 (hs.getD k default).id,.slice p (hs.getD k default).legs.length q]) (hs.getD k default)):=hy;have HT:Hid (∀i j,i<(onSh idx ls).length→j<hs.length→fP (hs.getD j default).legs ((onSh idx ls).getD i default)=true→fBh idx hs ls=7):=fun i j hi hj h=>by
  unfold fBh fEp;rw[if_pos (fMw hi (fMw (f:=fun o:Cont=>fP o.legs ((onSh idx ls).getD i default)) hj h))]
 have HE:Hid ((onSh idx ls).any (fun l=>hs.any (fun o=>fP o.legs l))=false→fBh idx hs ls=0):=fun h=>by unfold fBh fEp;rw[h];rfl
 have HO:Hid (∀i,i<(onSh idx ls).length→(((onSh idx ls).take i).any (fun l=>hs.any (fun o=>fP o.legs l)))=false→hs.any (fun o=>fP o.legs ((onSh idx ls).getD i default))=false→(((onSh idx ls).take (i+1)).any (fun l=>hs.any (fun o=>fP o.legs l)))=false):=fun i hi h1 h2=>by rw[fB5 _ hi,h1,h2];rfl
 have HI:Hid (∀l j,j<hs.length→((hs.take j).any (fun o=>fP o.legs l))=false→fP (hs.getD j default).legs l=false→((hs.take (j+1)).any (fun o=>fP o.legs l))=false):=fun l j hj h1 h2=>by rw[fB5 _ hj,h1,h2];rfl
 have HE1:Hid (((onSh idx ls).take (onSh idx ls).length)=onSh idx ls):=List.take_length;have HE2:Hid (hs.take hs.length=hs):=List.take_length;clear hy hl;generalize hcc:fBh idx hs ls=cc at *;generalize hlg:onSh idx ls=lg at *;generalize ls.length=ll at *;clear hcc hlg hn;generalize hm:hs.length=m at *;clear hm;go_enter Tryz.func211,Tryz.ntmps211;go_wp2_with fail;refine(HLe.out _ qBq).mono ?_;rintro e w1 ⟨v,rfl,o1,hb1⟩;have hV:=kZ o1;have hB1:=bT w hb1;obtain⟨a1,c1,rfl,hc1,hm1,hx1⟩:=hV;unfold maxLen at hm1;have HX:Hid (∀i,i<lg.length→∃b o,a1=some ⟨b,o,none⟩∧mE w1 b (o+i*4) (lg.getD i default)):=hx1;clear o1 hb1 hx1 HLe;obtain⟨n,hn⟩:∃n,n=lg.length:=⟨_,rfl⟩
 have HN:Hid (lg.length=n):=hn.symm;rw[←hn] at HT HO HX hc1 HE1 ⊢;clear hn;go_wp2;go_loopw [15] (fun i w'=>∃k:Nat,k≤n∧i =.int .i64 k∧Hid (((lg.take k).any (fun l=>hs.any (fun o=>fP o.legs l)))=false)∧Below w1.heap.size w1 w') (fun i _=>n-(intOf i).toNat)
 case atStart=>exact⟨0,oM,rfl,by show((lg.take 0).any _)=false;simp,bR _ _⟩
 obtain⟨k,hk,rfl,HS,hbl⟩:=hrel;by_cases hlt:k<n
 ·
  obtain⟨bx,ox,rfl,g1⟩:=HX.out k hlt;have h1:=HT.out k;have h2:=HO.out k hlt HS.out;obtain⟨l,hl⟩:∃l,l=lg.getD k default:=⟨_,rfl⟩
  rw[←hl] at g1 h1 h2;have H1:Hid (∀j,j<m→fP (hs.getD j default).legs l=true→cc=7):=fun j hj h=>h1 j hlt hj h
  have H2:Hid (hs.any (fun o=>fP o.legs l)=false→(((lg.take (k+1)).any (fun l=>hs.any (fun o=>fP o.legs l)))=false)):=h2;clear hl h1 h2;obtain⟨c0,c1',c2,c3⟩:=(fGc hbl g1).2;have zb:bx<wr.heap.size:=wL wr _ c0;have hBr:Below w.heap.size w wr:=bS hB1 hbl;go_wp2;obtain⟨w2,hw2⟩:∃w2,w2=wr.alloc (.cells #[.int .i64 l.sh,.int .i64 l.ac,.int .i64 l.ast,.int .i64 l.am] 131):=⟨_,rfl⟩
  have b0:w2.cell? ⟨wr.heap.size,0,none⟩=some (.int .i64 l.sh):=by rw[hw2];simp[go_sem]
  have b1:w2.cell? ⟨wr.heap.size,1,none⟩=some (.int .i64 l.ac):=by rw[hw2];simp[go_sem]
  have b2:w2.cell? ⟨wr.heap.size,2,none⟩=some (.int .i64 l.ast):=by rw[hw2];simp[go_sem]
  have b3:w2.cell? ⟨wr.heap.size,3,none⟩=some (.int .i64 l.am):=by rw[hw2];simp[go_sem]
  have hb2:Below wr.heap.size wr w2:=by rw[hw2];(repeat (first|exact bR _ _|assumption|refine bD ?_|refine bA ?_ _|refine bset ?_ (by simp;omega) _|refine bset ?_ (by simp) _|refine bS ?_ (by assumption)))
  rw[←hw2];clear hw2;have hB2:Below w.heap.size w w2:=bS hBr hb2;have hBw2:Below w1.heap.size w1 w2:=bS hbl hb2;go_loopw [21] (fun i w'=>∃j:Nat,j≤m∧i =.int .i64 j∧Hid (((hs.take j).any (fun o=>fP o.legs l))=false)∧Below w2.heap.size w2 w') (fun i _=>m-(intOf i).toNat)
  case atStart=>exact⟨0,oM,rfl,by show((hs.take 0).any _)=false;simp,bR _ _⟩
  rename_i wq;obtain⟨j,hj,rfl,HS2,hbl2⟩:=hrel;replace b0:=cK hbl2 b0;replace b1:=cK hbl2 b1;replace b2:=cK hbl2 b2;replace b3:=cK hbl2 b3;have hBq:Below w.heap.size w wr:=bS hB2 hbl2;have hB1q:Below w1.heap.size w1 wr:=bS hBw2 hbl2;by_cases hlt2:j<m
  ·
   obtain⟨by_,oy,pp,qq,rfl,g2,g3,hV⟩:=HY.out j hlt2;obtain⟨ul,hul,hvl⟩:=hV;simp only[Value.agg.injEq,Array.mk.injEq,List.cons.injEq,and_true,true_and] at hul;subst hul;have HP:Hid (bW wr fun W=>RI 241 #[.slice pp (hs.getD j default).legs.length qq,.agg #[.int .i64 l.sh,.int .i64 l.ac,.int .i64 l.ast,.int .i64 l.am]] W (.bool (fP (hs.getD j default).legs l))):=fun W hW=>yK _ _ l W (legsR.below hvl (bS hBq hW))
   have h3:=H1.out j hlt2;have h4:=HI.out l j hlt2 HS2.out;replace g2:=cK hBq g2;replace g3:=cK hBq g3;generalize fP (hs.getD j default).legs l=bb at *;have H3:Hid (bb=true→cc=7):=h3;have H4:Hid (bb=false→((hs.take (j+1)).any (fun o=>fP o.legs l))=false):=h4;clear h3 h4 hvl;generalize (hs.getD j default).legs.length=lj at *;generalize (hs.getD j default).id=ij at *;have zy:by_<wr.heap.size:=wL wr _ g2;have zl:=wL wr _ b0;dsimp only at zl;go_wp2_with fail;refine(HP.out _ qBq).mono ?_;rintro e w4 ⟨rfl,hb4⟩;have hB4:Below w.heap.size w w4:=bS hBq (bS qBq hb4);have hB24:Below w2.heap.size w2 w4:=bS hbl2 (bS qBq hb4);clear hb4;cases hbb:bb
   ·have HC:Hid _:=H4.out hbb;go_wp2;exact⟨⟨j+1,by omega,by go_num,HC,hB24⟩,mI⟩
   have HC:=H3.out hbb;go_wp2;exact⟨rfl,.inr ⟨by rw[HC];omega,by rw[HC];rfl⟩,hB4⟩
  have hjm:j=m:=oM;subst hjm;have HC:Hid (((lg.take (k+1)).any (fun l=>hs.any (fun o=>fP o.legs l)))=false):=H2.out (by have:=HS2.out;rw[HE2.out] at this;exact this);go_wp2;exact⟨⟨k+1,by omega,by go_num,HC,hB1q⟩,mI⟩
 have hkn:k=n:=oM;subst hkn;have HC:=HE.out (by have:=HS.out;rw[HE1.out] at this;exact this);go_wp2;go_end0;exact⟨.inl ⟨HC,rfl⟩,bS hB1 hbl⟩
def tF (idx:Int) (bs:List Bal):List (List Bal):=[if idx=0 then bs else [],if idx=1 then bs else [],if idx=2 then bs else []]
theorem fT5 {idx:Int} {bs:List Bal} (h:0≤idx∧idx≤2):(tF idx bs).getD idx.toNat default=bs:=by
 rcases(show idx=0∨idx=1∨idx=2 by omega) with rfl|rfl|rfl <;> rfl
theorem fNf {idx:Int} {bs:List Bal} (h:kH bs=0):vR ⟨tF idx bs⟩=0:=by
 have h0:∀b:Bool,kH (if b=true then bs else [])=0:=fun b=>by cases b <;> first|rfl|exact h
 unfold vR;rw[if_neg (by show ¬((3:Nat)<1∨3<3);omega)];refine yF fun k hk=>?_
 have hk3:k<3:=hk;unfold fXr tF;rcases(show k=0∨k=1∨k=2 by omega) with rfl|rfl|rfl
 ·show kH (if idx=0 then bs else [])=0;split;exact h;rfl
 ·show kH (if idx=1 then bs else [])=0;split;exact h;rfl
 show kH (if idx=2 then bs else [])=0;split;exact h;rfl
theorem fFn {idx:Int} {bs:List Bal} (h:pJ idx bs=0):(0≤idx∧idx≤2)∧kH bs=0:=by
 unfold pJ at h;split at h
 ·rename_i h1;exact⟨inBi.1 h1,h⟩
 omega
theorem qQ (w:World):balsR.V w (.slice none 0 0) []:=⟨none,0,rfl,Nat.le_refl _,by decide,fun i hi=>absurd hi (Nat.not_lt_zero _)⟩
theorem fLa {W:World} {G:Nat} {u0 u1 u2:Value} {idx:Int} {bs:List Bal} (c0:W.cell? ⟨G,0,none⟩=some u0) (c1:W.cell? ⟨G,1,none⟩=some u1) (c2:W.cell? ⟨G,2,none⟩=some u2)
  (v0:balsR.V W u0 (if idx=0 then bs else [])) (v1:balsR.V W u1 (if idx=1 then bs else [])) (v2:balsR.V W u2 (if idx=2 then bs else [])):ledgR.V W (.agg #[.slice (some ⟨G,0,none⟩) 3 3]) ⟨tF idx bs⟩:=by
 refine⟨_,rfl,some ⟨G,0,none⟩,3,rfl,Nat.le_refl _,by decide,fun i hi=>?_⟩;have hi3:i<3:=hi;rcases(show i=0∨i=1∨i=2 by omega) with rfl|rfl|rfl
 ·exact⟨G,0,u0,rfl,rfl,fun j hj=>(by obtain rfl:j=0:=oM;exact c0),v0⟩
 ·exact⟨G,0,u1,rfl,rfl,fun j hj=>(by obtain rfl:j=0:=oM;exact c1),v1⟩
 exact⟨G,0,u2,rfl,rfl,fun j hj=>(by obtain rfl:j=0:=oM;exact c2),v2⟩
theorem fWs (w:World):(Instr.makeSlice 46 (.int .i64 3) (.int .i64 3)).run Tryz.prog w =.ok (.slice (some ⟨w.heap.size,0,none⟩) 3 3) (w.alloc (.cells #[.slice none 0 0,.slice none 0 0,.slice none 0 0] 68)):=kF
theorem fHq (x:Value) (d:Shd) (w:World) (hx:shdR.V w x d) (h0:pJ d.idx d.bals=0) :
  Calls Tryz.prog 212 #[x] w fun e w'=>∃b,e =.returned (.agg #[.int .i64 3,.map (some b)])∧w.heap.size≤b∧Book w' b 54 (tJ (tF d.idx d.bals))∧Below w.heap.size w w':=by
 obtain⟨hi,hbf⟩:=fFn h0;have HBo:Hid (∀W y,ledgR.V W y ⟨tF d.idx d.bals⟩→Calls Tryz.prog 49 #[y] W fun e w'=>∃b,e =.returned (.agg #[.int .i64 3,.map (some b)])∧W.heap.size≤b∧Book w' b 54 (tJ (tF d.idx d.bals))∧Below W.heap.size W w'):=fun W y hy=>fOo y ⟨tF d.idx d.bals⟩ W hy (fNf hbf)
 obtain⟨u1,u2,u3,u4,u5,rfl,h1,h2,h3,h4,h5⟩:=hx;have HV:Hid (bW w fun W=>balsR.V W u1 d.bals):=fun W hW=>balsR.below h1 hW
 obtain⟨a1,c1,rfl⟩:=gU h1;obtain⟨a2,c2,rfl⟩:=fT h2;obtain⟨a3,c3,rfl⟩:=gG h3;obtain⟨a4,c4,rfl⟩:=fT h4;obtain⟨a5,c5,rfl⟩:=gZ h5;clear h1 h2 h3 h4 h5 h0 hbf;generalize d.bals.length=n1 at *;generalize d.votes.length=n2 at *;generalize d.held.length=n3 at *;generalize d.done.length=n4 at *;generalize d.appl.length=n5 at *;have hmk:=fWs;obtain⟨bs,hbs⟩:∃bs,bs=d.bals:=⟨_,rfl⟩
 rw[←hbs] at HBo HV ⊢;clear hbs;generalize d.idx=idx at *;rcases(show idx=0∨idx=1∨idx=2 by omega) with rfl|rfl|rfl
 ·
  clear hi;go_enter Tryz.func212,Tryz.ntmps212;go_wp2_with fail;refine(HBo.out _ _ (fLa (G:=w.heap.size+2) (u0:=.slice a1 n1 c1) (u1:=.slice none 0 0) (u2:=.slice none 0 0) sG sG sG ?v0 ?v1 ?v2)).mono ?_
  case v0=>first|exact HV.out _ qBq|exact qQ _
  case v1=>first|exact HV.out _ qBq|exact qQ _
  case v2=>first|exact HV.out _ qBq|exact qQ _
  rintro e w1 ⟨b,rfl,hb,hbk,hb1⟩;have hB1:=bT w hb1;have hz1:=hb1.size;simp at hb hz1;obtain⟨c1',f1⟩:=bcell hb1;have r0:w1.cell? ⟨w.heap.size+1,0,none⟩=some (.int .i64 0):=cK hb1 sG;have r1:w1.cell? ⟨w.heap.size+1,1,none⟩=some (.map none):=cK hb1 sG;have rf:∀o,w1.frozen? ⟨w.heap.size+1,o,none⟩=false:=fun o=>by rw[f1 _ _ (by simp;try omega)];simp[go_sem]
  have HBk:Hid (Book w1 b 54 (tJ (tF 0 bs))):=hbk;clear hb1 c1' f1 hbk;go_wp2;refine bodyPost_ret (v:=.agg #[.int .i64 3,.map (some b)]) (by simp[results,Tryz.results212,go_sem,r0,r1,rf]) rfl ⟨b,rfl,by omega,?_,qS⟩;exact(HBk.out.turned (Mod.of_set _ _ _) (by dsimp only;omega)).turned (Mod.of_set _ _ _) (by dsimp only;omega)
 ·
  clear hi;go_enter Tryz.func212,Tryz.ntmps212;go_wp2_with fail;refine(HBo.out _ _ (fLa (G:=w.heap.size+2) (u0:=.slice none 0 0) (u1:=.slice a1 n1 c1) (u2:=.slice none 0 0) sG sG sG ?v0 ?v1 ?v2)).mono ?_
  case v0=>first|exact HV.out _ qBq|exact qQ _
  case v1=>first|exact HV.out _ qBq|exact qQ _
  case v2=>first|exact HV.out _ qBq|exact qQ _
  rintro e w1 ⟨b,rfl,hb,hbk,hb1⟩;have hB1:=bT w hb1;have hz1:=hb1.size;simp at hb hz1;obtain⟨c1',f1⟩:=bcell hb1;have r0:w1.cell? ⟨w.heap.size+1,0,none⟩=some (.int .i64 0):=cK hb1 sG;have r1:w1.cell? ⟨w.heap.size+1,1,none⟩=some (.map none):=cK hb1 sG;have rf:∀o,w1.frozen? ⟨w.heap.size+1,o,none⟩=false:=fun o=>by rw[f1 _ _ (by simp;try omega)];simp[go_sem]
  have HBk:Hid (Book w1 b 54 (tJ (tF 1 bs))):=hbk;clear hb1 c1' f1 hbk;go_wp2;refine bodyPost_ret (v:=.agg #[.int .i64 3,.map (some b)]) (by simp[results,Tryz.results212,go_sem,r0,r1,rf]) rfl ⟨b,rfl,by omega,?_,qS⟩;exact(HBk.out.turned (Mod.of_set _ _ _) (by dsimp only;omega)).turned (Mod.of_set _ _ _) (by dsimp only;omega)
 clear hi;go_enter Tryz.func212,Tryz.ntmps212;go_wp2_with fail;refine(HBo.out _ _ (fLa (G:=w.heap.size+2) (u0:=.slice none 0 0) (u1:=.slice none 0 0) (u2:=.slice a1 n1 c1) sG sG sG ?v0 ?v1 ?v2)).mono ?_
 case v0=>first|exact HV.out _ qBq|exact qQ _
 case v1=>first|exact HV.out _ qBq|exact qQ _
 case v2=>first|exact HV.out _ qBq|exact qQ _
 rintro e w1 ⟨b,rfl,hb,hbk,hb1⟩;have hB1:=bT w hb1;have hz1:=hb1.size;simp at hb hz1;obtain⟨c1',f1⟩:=bcell hb1;have r0:w1.cell? ⟨w.heap.size+1,0,none⟩=some (.int .i64 0):=cK hb1 sG;have r1:w1.cell? ⟨w.heap.size+1,1,none⟩=some (.map none):=cK hb1 sG;have rf:∀o,w1.frozen? ⟨w.heap.size+1,o,none⟩=false:=fun o=>by rw[f1 _ _ (by simp;try omega)];simp[go_sem]
 have HBk:Hid (Book w1 b 54 (tJ (tF 2 bs))):=hbk;clear hb1 c1' f1 hbk;go_wp2;refine bodyPost_ret (v:=.agg #[.int .i64 3,.map (some b)]) (by simp[results,Tryz.results212,go_sem,r0,r1,rf]) rfl ⟨b,rfl,by omega,?_,qS⟩;exact(HBk.out.turned (Mod.of_set _ _ _) (by dsimp only;omega)).turned (Mod.of_set _ _ _) (by dsimp only;omega)
theorem fOs {idx:Int} {bs:List Bal} (h:0≤idx∧idx≤2) (ls:List Leg):fC (fun k=>canL (tJ (tF idx bs)) ((onSh idx ls).getD k default)) (onSh idx ls).length=fHr bs (onSh idx ls):=by
 have e:∀k,k<(onSh idx ls).length→canL (tJ (tF idx bs)) ((onSh idx ls).getD k default)=canB bs ((onSh idx ls).getD k default):=fun k hk=>by
  have hm:(onSh idx ls).getD k default ∈ onSh idx ls:=by simp[List.getD,hk]
  have hs:=(List.mem_filter.1 hm).2;simp only[beq_iff_eq] at hs;have h1:=fRr (g:=⟨tF idx bs⟩) (l:=(onSh idx ls).getD k default) oM (by show _<((3:Nat):Int);omega);rw[hs] at h1;have h2:=fT5 (bs:=bs) h;dsimp only at h1;rw[h2] at h1;exact h1.symm
 unfold fHr;have hg:∀n,n≤(onSh idx ls).length→fC (fun k=>canL (tJ (tF idx bs)) ((onSh idx ls).getD k default)) n=fC (fun k=>canB bs ((onSh idx ls).getD k default)) n:=by
  intro n;induction n with
  | zero=>intro _;rfl
  | succ n ih=>
   intro hn;have h1:=ih oM;unfold fC;rw[h1,e n oM]
 exact hg _ (Nat.le_refl _)
theorem fC3 (idx id:Int) (b:Nat) (ul:Value) (bs:List Bal) (ls:List Leg) (w:World) (hb:Book w b 54 (tJ (tF idx bs))) (hl:legsR.V w ul ls) (hn:ls.length≤1000) (hi:0≤idx∧idx≤2) (hbf:kH bs=0) (hlf:∀l ∈ ls,gQ l=0) :
  Calls Tryz.prog 213 #[.int .i64 idx,.agg #[.int .i64 3,.map (some b)],.agg #[.int .i64 id,ul]] w (fHc (fHr bs (onSh idx ls)) w):=by
 have HLe:Hid (bW w fun W=>Calls Tryz.prog 52 #[ul,.int .i64 idx] W fun e w'=>∃v,e =.returned v∧w'.ownsRow W.heap.size 131 4 v (onSh idx ls).length (mY (onSh idx ls))∧Below W.heap.size W w'):=fun W hW=>yB ul ls idx W (legsR.below hl hW) oM
 have HAm:Hid (∀W y,Below w.heap.size w W→legsR.V W y (onSh idx ls)→RI 273 #[.agg #[.int .i64 3,.map (some b)],y] W (.int .i64 (fHr bs (onSh idx ls)))):=fun W y hW hy=>by
  have h:=fBs 3 b 54 (tJ (tF idx bs)) y (onSh idx ls) W (hb.below hW) hy (fSu (g:=⟨tF idx bs⟩) (fNf hbf)) (fun k hk=>by
   have hm:(onSh idx ls).getD k default ∈ onSh idx ls:=by simp[List.getD,hk]
   exact hlf _ (List.mem_filter.1 hm).1)
  rw[fOs hi ls] at h;exact h
 obtain⟨al,cl,rfl⟩:=mM hl;clear hl hn hi hbf hlf hb;generalize ls.length=ll at *;obtain⟨cc,hcc⟩:∃cc,cc=fHr bs (onSh idx ls):=⟨_,rfl⟩
 rw[←hcc] at HAm ⊢;clear hcc;go_enter Tryz.func213,Tryz.ntmps213;go_wp2;obtain⟨wr,hwr⟩:∃wr,wr=(w.alloc (.cells #[.int .i64 3,.map (some b)] 95)).alloc (.cells #[.int .i64 id,.slice al ll cl] 60):=⟨_,rfl⟩
 have p0:wr.cell? ⟨w.heap.size,0,none⟩=some (.int .i64 3):=by rw[hwr];simp[go_sem]
 have p1:wr.cell? ⟨w.heap.size,1,none⟩=some (.map (some b)):=by rw[hwr];simp[go_sem]
 have q0:wr.cell? ⟨w.heap.size+1,0,none⟩=some (.int .i64 id):=by rw[hwr];simp[go_sem]
 have q1:wr.cell? ⟨w.heap.size+1,1,none⟩=some (.slice al ll cl):=by rw[hwr];simp[go_sem]
 have hBr:Below w.heap.size w wr:=by rw[hwr];(repeat (first|exact bR _ _|assumption|refine bD ?_|refine bA ?_ _|refine bset ?_ (by simp;omega) _|refine bset ?_ (by simp) _|refine bS ?_ (by assumption)))
 rw[←hwr];clear hwr;refine wp_region_noPanic ?_;refine fB (fun W=>Below wr.heap.size wr W∧W.cell? ⟨w.heap.size,0,none⟩=some (.int .i64 3)∧W.cell? ⟨w.heap.size,1,none⟩=some (.map (some b))∧W.cell? ⟨w.heap.size+1,1,none⟩=some (.slice al ll cl)) 7 kF ⟨qBq,cK qBq p0,cK qBq p1,cK qBq q1⟩ (fun hS=>?_);refine tX 0 ?_;refine tX 1 ?_;refine tX 2 ?_;refine tX 3 ?_;refine uS 4 rfl (fun K hK=>?_);go_simp;refine(HLe.out _ (bS hBr hS.1)).mono ?_;rintro e wz1 ⟨vl,rfl,ol,hbz1⟩;obtain⟨a5,c5,rfl⟩:=gF ol;have V1:=kZ ol;have hbz1':Below wr.heap.size wr wz1:=bS hS.1 hbz1;have hS3:=And.intro hbz1' (kS3 hbz1 hS.2);refine hK _ _ (fun _=>hS3) ?_;clear hK K hS hbz1;have hS:=hS3;clear hS3;try simp only[jX]
 refine uS 5 rfl (fun K hK=>?_);go_simp;refine(HAm.out _ _ (bS hBr hS.1) V1).mono ?_;rintro e wz ⟨rfl,hbz⟩;have hbz':Below wr.heap.size wr wz:=bS hS.1 hbz;have hS3:=And.intro hbz' (kS3 hbz hS.2);refine hK _ _ (fun _=>hS3) ?_;clear hK K hS hbz;have hS:=hS3;clear hS3;try simp only[jX]
 refine tX 6 ?_;refine dP ?_;by_cases hc:cc=0
 ·
  have hc':(cc !=0)=false:=by simp[hc]
  go_wp2;go_end0;exact⟨.inl ⟨hc,rfl⟩,bS hBr hS.1⟩
 have hc':(cc !=0)=true:=by simp[hc]
 go_wp2;exact⟨rfl,.inr ⟨hc,rfl⟩,bS hBr hS.1⟩
def cmpQ (x y:Int):Int:=if x<y then -1 else if y<x then 1 else 0
theorem cmpQ_neg {x y:Int}:cmpQ x y<0↔x<y:=by unfold cmpQ;split <;> (try split) <;> omega
theorem fRf {x y:Int}:cmpQ x y=0↔x=y:=by unfold cmpQ;split <;> (try split) <;> omega
theorem fPk (x:Int) (w:World):Calls Tryz.prog 292 #[.int .i64 x] w fun e w'=>e =.returned (.bool false)∧w'=w:=by
 go_enter Tryz.func292,Tryz.ntmps292;go_wp2;go_ret;exact⟨rfl,rfl⟩
theorem fM5 (x y:Int) (w:World):Calls Tryz.prog 247 #[.int .i64 x,.int .i64 y] w fun e w'=>e =.returned (.int .i64 (cmpQ x y))∧w'=w:=by
 go_enter Tryz.func247,Tryz.ntmps247;go_wp2_with (go_at_call 292;refine(fPk _ _).mono ?_;rintro e w' ⟨rfl,rfl⟩);all_goals (go_ret;refine⟨?_,rfl⟩;unfold cmpQ;(repeat' split) <;> first|rfl|(exfalso;omega))
theorem fA8 (l:Mrk) (c:Int) (w:World):RI 246 #[.agg #[.int .i64 l.con,.int .i64 l.val],.int .i64 c] w (.int .i64 (cmpQ l.con c)):=by
 go_enter Tryz.func246,Tryz.ntmps246;go_wp2_with (go_at_call 247;refine(fM5 _ _ _).mono ?_;rintro e w' ⟨rfl,rfl⟩);go_ret;exact⟨rfl,qBq⟩
def PlM (xs:List Mrk) (c:Int) (w:World) (e:Ending) (w':World):Prop:=∃i:Nat,i≤xs.length∧e =.returned (.tuple #[.int .i64 i,.bool (decide (i<xs.length∧(xs.getD i default).con=c))])∧(∀k,k<i→(xs.getD k default).con<c)∧(∀k,i≤k→k<xs.length→c≤(xs.getD k default).con)∧Below w.heap.size w w'
theorem fWb (x:Value) (xs:List Mrk) (c:Int) (w:World) (hx:mrksR.V w x xs) (hn:xs.length≤1048576) (hr:∀i j,i<j→j<xs.length→(xs.getD i default).con<(xs.getD j default).con) :
  Calls Tryz.prog 245 #[x,.int .i64 c,.func (.func 246) #[] #[]] w (PlM xs c w):=by
 obtain⟨ax,cx,rfl,hcx,hmx,hx⟩:=hx;unfold maxLen at hmx;have HR:Hid (∀i j,i<j→j<xs.length→(xs.getD i default).con<(xs.getD j default).con):=hr;have HX:Hid (∀i,i<xs.length→∃b o,ax=some ⟨b,o,none⟩∧qC w b (o+i*2) (xs.getD i default)):=hx;clear hx hr;generalize hN:xs.length=n at *;have HN:Hid (xs.length=n):=hN;clear hN;have eg:=enters_of Tryz.func246 kF rfl;go_enter Tryz.func245,Tryz.ntmps245;go_wp2;go_loopw [9,10] (fun a b W=>∃i j:Nat,i≤j∧j≤n∧a =.int .i64 i∧b =.int .i64 j∧Hid (∀k,k<i→(xs.getD k default).con<c)∧Hid (∀k,j≤k→k<n→c≤(xs.getD k default).con)∧Below w.heap.size w W) (fun a b _=>(intOf b).toNat-(intOf a).toNat)
 case atStart=>exact⟨0,n,Nat.zero_le _,Nat.le_refl _,rfl,rfl,fun k h=>absurd h oM,fun k h1 h2=>oM,bR _ _⟩
 obtain⟨i,j,hij,hjn,rfl,rfl,HA,HB,hbl⟩:=hrel;by_cases hlt:i<j
 ·
  have hlt':(i:Int)<j:=oM;obtain⟨m,hm⟩:∃m:Nat,((i:Int)+j) / 2=(m:Int):=⟨(i+j) / 2,by omega⟩
  have hm1:i≤m:=oM;have hm2:m<j:=oM;have hi4:(0:Int)≤m:=oM;have hi5:(m:Int)<n:=oM;obtain⟨bx,ox,rfl,g1⟩:=HX.out m oM;obtain⟨l,hl⟩:∃l,l=xs.getD m default:=⟨_,rfl⟩
  rw[←hl] at g1;have HL:Hid (l=xs.getD m default):=hl;clear hl;obtain⟨g2,g3⟩:=fV hbl g1;clear g1;by_cases hneg:cmpQ l.con c<0
  ·
   have hd:decide (cmpQ l.con c<0)=true:=decide_eq_true hneg;have HA2:Hid (∀k,k<m+1→(xs.getD k default).con<c):=fun k hk=>by
    have h1:(xs.getD m default).con<c:=by rw[←HL.out];exact cmpQ_neg.1 hneg
    by_cases e:k=m
    ·rw[e];exact h1
    have:=HR.out k m oM oM;omega
   go_wp2_with (first|(go_at_call 246;refine(fA8 l  c _).mono ?_;rintro e wa ⟨rfl,hb1⟩))
   refine⟨⟨m+1,j,by omega,hjn,by go_num,rfl,HA2,HB,qBq⟩,?_⟩;simp[intOf];omega
  have hd:decide (cmpQ l.con c<0)=false:=decide_eq_false hneg;have HB2:Hid (∀k,m≤k→k<n→c≤(xs.getD k default).con):=fun k hk hkn=>by
   have h1:c≤(xs.getD m default).con:=by rw[←HL.out];have:=mt cmpQ_neg.2 hneg;omega
   by_cases e:k=m
   ·rw[e];exact h1
   have:=HR.out m k oM oM;omega
  go_wp2_with (first|(go_at_call 246;refine(fA8 l  c _).mono ?_;rintro e wa ⟨rfl,hb1⟩))
  refine⟨⟨i,m,hm1,by omega,rfl,rfl,HA,HB2,qBq⟩,?_⟩;simp[intOf];omega
 obtain rfl:i=j:=oM;have hi4:(0:Int)≤i:=oM;have hnl:¬(i:Int)<i:=oM;by_cases hin:i<n
 ·
  obtain⟨bx,ox,rfl,g1⟩:=HX.out i hin;obtain⟨l,hl⟩:∃l,l=xs.getD i default:=⟨_,rfl⟩
  rw[←hl] at g1;have HL:Hid (l=xs.getD i default):=hl;clear hl;obtain⟨g2,g3⟩:=fV hbl g1;clear g1;have hi5:(i:Int)<n:=oM;have hi6:decide (i<n)=true:=decide_eq_true hin;go_wp2_with (first|(go_at_call 246;refine(fA8 l  c _).mono ?_;rintro e wa ⟨rfl,hb1⟩));refine bodyPost_ret (v:=.tuple #[.int .i64 i,.bool (cmpQ l.con c==0)]) (by simp[results,Tryz.results245,go_sem]) rfl ?_;refine⟨i,by rw[HN.out];exact hjn,?_,HA.out,by rw[HN.out];exact HB.out,qBq⟩;rw[←HL.out,HN.out];have e:(cmpQ l.con c==0)=decide (i<n∧l.con=c):=by
   rw[Bool.eq_iff_iff];simp[hin,fRf]
  rw[e]
 have hi5:¬(i:Int)<n:=oM;have hi6:decide (i<n)=false:=decide_eq_false hin;go_wp2;refine bodyPost_ret (v:=.tuple #[.int .i64 i,.bool false]) (by simp[results,Tryz.results245,go_sem]) rfl ?_;refine⟨i,by rw[HN.out];exact hjn,?_,HA.out,by rw[HN.out];exact HB.out,qBq⟩;rw[HN.out,decide_eq_false (fun h=>hin h.1)]
theorem fGe (x:Value) (xs:List Mrk) (c:Int) (w:World) (hx:mrksR.V w x xs) (hn:xs.length≤1048576) (hr:∀i j,i<j→j<xs.length→(xs.getD i default).con<(xs.getD j default).con) :
  Calls Tryz.prog 171 #[x,.int .i64 c] w (PlM xs c w):=by
 have HB:Hid (bW w fun W=>Calls Tryz.prog 245 #[x,.int .i64 c,.func (.func 246) #[] #[]] W (PlM xs c W)):=fun W hW=>fWb x xs c W (mrksR.below hx hW) hn hr
 obtain⟨a,ca,rfl⟩:=fT hx;clear hx hr;go_enter Tryz.func171,Tryz.ntmps171;go_wp2_with fail;refine(HB.out _ qBq).mono ?_;rintro e w1 ⟨i,hi,rfl,h1,h2,hb1⟩;go_wp2;refine bodyPost_ret (v:=.tuple #[.int .i64 i,.bool (decide (i<xs.length∧(xs.getD i default).con=c))]) (by simp[results,Tryz.results171,go_sem]) rfl ?_;exact⟨i,hi,rfl,h1,h2,qBq⟩
theorem vU (x:Value) (xs:List Mrk) (c:Int) (w:World) (hx:mrksR.V w x xs) (hn:xs.length≤1048576) (hr:∀i j,i<j→j<xs.length→(xs.getD i default).con<(xs.getD j default).con) :
  RI 90 #[x,.int .i64 c] w (.int .i64 (gD c xs)):=by
 have HB:Hid (bW w fun W=>Calls Tryz.prog 171 #[x,.int .i64 c] W (PlM xs c W)):=fun W hW=>fGe x xs c W (mrksR.below hx hW) hn hr
 obtain⟨ax,cx,rfl,hcx,hmx,hx⟩:=hx;unfold maxLen at hmx;have HF:Hid (∀i,i≤xs.length→(∀k,k<i→(xs.getD k default).con<c)→(∀k,i≤k→k<xs.length→c≤(xs.getD k default).con)→gD c xs=if i<xs.length∧(xs.getD i default).con=c then (xs.getD i default).val else 0):=fun i hi h1 h2=>zQ hr hi h1 h2
 have HX:Hid (∀i,i<xs.length→∃b o,ax=some ⟨b,o,none⟩∧qC w b (o+i*2) (xs.getD i default)):=hx;clear hx hr;go_enter Tryz.func90,Tryz.ntmps90;go_wp2_with fail;refine(HB.out _ qBq).mono ?_;rintro e w1 ⟨i,hi,rfl,h1,h2,hb1⟩;have hf:=HF.out i hi h1 h2;have HFd:Hid (gD c xs=if i<xs.length∧(xs.getD i default).con=c then (xs.getD i default).val else 0):=hf;clear HF h1 h2 hf;by_cases hc:i<xs.length∧(xs.getD i default).con=c
 ·
  have hd:decide (i<xs.length∧(xs.getD i default).con=c)=true:=decide_eq_true hc;rw[hd];have HC:Hid (gD c xs=(xs.getD i default).val):=by show _=_;rw[HFd.out,if_pos hc]
  obtain⟨bx,ox,rfl,g1⟩:=HX.out i hc.1;obtain⟨g2,g3⟩:=fV hb1 g1;have i1:(i:Int)<xs.length:=by have:=hc.1;omega
  have i2:(0:Int)≤i:=oM;clear hd hc HFd g1;generalize (xs.getD i default).val=vv at *;generalize xs.length=n at *;go_wp2;go_ret;exact⟨rH,qBq⟩
 have hd:decide (i<xs.length∧(xs.getD i default).con=c)=false:=decide_eq_false hc;rw[hd];have HC:Hid (gD c xs=0):=by show _=_;rw[HFd.out,if_neg hc]
 clear hd hc HFd;go_wp2;go_ret;exact⟨rH,qBq⟩
end
end Go.Proofs.YtbfnobcidnmohaaGreat

/-
  Proved: laws.FnExactWriteEvent answers true at every argument, and its arguments read behind the call as they read before. No condition.
-/
import Derived.Test.YtpibfdebfacooaaGreatWriteEventWalk
namespace Go.Proofs.YtpibfdebfacooaaGreat.writeEventLaw
open Go.ChangeShapes Go.WideShapes Go.ChangeAt Go.RowKit Go.Joins
attribute [local go_sem ↓] Go.wp_at_zero Go.wp_at_succ
attribute [local go_sem] iV aj
set_option maxRecDepth 100000 in
theorem lifted (os:Os) (started:os.Started) (H:Type) (enc:TypeId × Value→H) :
  ReturnsInHanded {} Tryz.checked os 5 .any (Rows.fnExactWriteEventSpec.pre6 enc Tryz.prog Tryz.f5 Rows.fnExactWriteEventRow.domain false) (Rows.fnExactWriteEventSpec.post enc Tryz.prog Tryz.f5 false true false false):=by
 have a2:DecidableEq Bal:=fun _ _=>Classical.propDecidable _
 have a3:Inhabited Bal:=⟨⟨0,0,0⟩⟩;have I:DecidableEq Logg:=fun _ _=>Classical.propDecidable _
 have J:Inhabited Logg:=⟨⟨[],[]⟩⟩;have a4:DecidableEq Jrn:=fun _ _=>Classical.propDecidable _
 have a5:Inhabited Jrn:=⟨⟨0,[],default⟩⟩;have a6:DecidableEq Mrk:=fun _ _=>Classical.propDecidable _
 have a7:Inhabited Mrk:=⟨⟨0,0⟩⟩;have a8:DecidableEq Leg:=fun _ _=>Classical.propDecidable _
 have a9:Inhabited Leg:=⟨⟨0,0,0,0⟩⟩;have K:DecidableEq Cont:=fun _ _=>Classical.propDecidable _
 have L:Inhabited Cont:=⟨⟨0,[]⟩⟩;have ab:DecidableEq Shd:=fun _ _=>Classical.propDecidable _
 have ac:Inhabited Shd:=⟨⟨0,[],[],[],[],[]⟩⟩;have M:DecidableEq JrnR:=fun _ _=>Classical.propDecidable _
 have N:Inhabited JrnR:=⟨⟨0,default,default⟩⟩;have ad:DecidableEq Evt:=fun _ _=>Classical.propDecidable _
 have ae:Inhabited Evt:=⟨⟨false,default,0⟩⟩;have n:DecidableEq EvtsR:=fun _ _=>Classical.propDecidable _
 have r:Inhabited EvtsR:=⟨⟨0,[]⟩⟩;have O:DecidableEq EvtR:=fun _ _=>Classical.propDecidable _
 have R:Inhabited EvtR:=⟨⟨0,default⟩⟩;have l:DecidableEq BytesR:=fun _ _=>Classical.propDecidable _
 have m:Inhabited BytesR:=⟨⟨0,[]⟩⟩;have s:DecidableEq ContR:=fun _ _=>Classical.propDecidable _
 have x:Inhabited ContR:=⟨⟨0,default⟩⟩;have y:DecidableEq LoggR:=fun _ _=>Classical.propDecidable _
 have z:Inhabited LoggR:=⟨⟨0,default⟩⟩;have A:DecidableEq RecsR:=fun _ _=>Classical.propDecidable _
 have B:Inhabited RecsR:=⟨⟨0,0,[]⟩⟩;have af:DecidableEq Rw:=fun _ _=>Classical.propDecidable _
 have ag:Inhabited Rw:=⟨⟨default,0,default,false⟩⟩;have T:DecidableEq Ledg:=fun _ _=>Classical.propDecidable _
 have U:Inhabited Ledg:=⟨⟨[]⟩⟩;have D:DecidableEq LedgR:=fun _ _=>Classical.propDecidable _
 have E:Inhabited LedgR:=⟨⟨0,default⟩⟩;have F:DecidableEq OutcR:=fun _ _=>Classical.propDecidable _
 have G:Inhabited OutcR:=⟨⟨0,[],default⟩⟩;have V:DecidableEq ShdR:=fun _ _=>Classical.propDecidable _
 have X:Inhabited ShdR:=⟨⟨0,0,default⟩⟩;refine returnsInHanded_of_change (C:=Tryz.checked) own started kF Tryz.func5
  (ChangeSpec.witness6 (enc:=enc) (C:=Tryz.checked) false ⟨#[],#[.agg #[iV 0,aj,aj,aj],.agg #[.bool false,iV 0,aj,iV 0],.bool false],[]⟩ 8 kF kF kF kF) ?_
 intro W base args ds gs g k hW _ _;have d:∀(j:Nat) t v,Tryz.f5.params[j]? = some t→args[j]? = some v→Value.okWide Tryz.prog W .any base t v:=k
 have Y:DataW.Whole enc Tryz.prog Tryz.f5.params.toList Rows.fnExactWriteEventSpec.vars false W args.toList ds gs g:=hW;obtain⟨p,q,Z,hV,rfl,ak,al⟩:=hW;have hA:DataW.TrodAll enc Tryz.prog W 0 (fun _=>true) true Tryz.f5.params.toList args.toList ds p:=Z;rw[Tryz.params5] at hA d;obtain⟨v0,v1,v2,d0,d1,d2,p0,p1,p2,rfl,rfl,rfl,h0,h1,h2⟩:=trodAll_three hA;obtain⟨d0,a0⟩:=fZr (d 0 27 v0 rfl rfl) h0;obtain⟨d1,a1⟩:=fZq (d 1 52 v1 rfl rfl) h1;obtain⟨k2,rfl,_⟩:=open_bool Tryz.underlying4 (d 2 4 v2 rfl rfl) h2;refine(walk v0 d0 v1 d1 k2 W a0 a1).mono fun e W' ⟨he,hg⟩=>?_
 subst he;exact⟨_,rfl,fX0 Y laidOut kF rfl kF Tryz.underlying4 (fun _=>rfl) hg⟩
theorem proved:Rows.FnExactWriteEventSaid:=
 OpenClaim.holds_of_wide 5 Tryz.f5 rfl rfl rfl rfl rfl rfl rfl ⟨rfl,rfl,rfl,rfl,rfl⟩ rfl rfl rfl rfl rfl kF Tryz.func5 kF
  (of_decide_eq_true kF) (by unfold Func.isWrapper;first|(rw[if_pos (by decide +kernel)];kernel_rfl)|(rw[if_neg (by decide +kernel)];exact⟨rfl,rfl⟩))
  (fun os d H enc _=>lifted os d H enc)
#print axioms proved
end Go.Proofs.YtpibfdebfacooaaGreat.writeEventLaw

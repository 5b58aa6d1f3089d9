/-
  Proved: laws.FnExactReplayJournal answers true at every argument, and its arguments read behind the call as they read before. No condition.
-/
import Derived.Test.YtpibfdebfacooaaGreatReplayJournalWalk
import Derived.Test.YtpibfdebfacooaaGreatPrnReplayJournalLaw27
namespace Go.Proofs.YtpibfdebfacooaaGreat.replayJournalLaw
open Go.ChangeShapes Go.WideShapes Go.ChangeAt Go.RowKit Go.Joins
attribute [local go_sem ↓] Go.wp_at_zero Go.wp_at_succ
set_option maxRecDepth 100000 in
theorem lifted (os:Os) (started:os.Started) (H:Type) (enc:TypeId × Value→H) :
  ReturnsInHanded {} Tryz.checked os 4 .any (Rows.fnExactReplayJournalSpec.pre6 enc Tryz.prog Tryz.f4 Rows.fnExactReplayJournalRow.domain false) (Rows.fnExactReplayJournalSpec.post enc Tryz.prog Tryz.f4 false true false false):=by
 have eBal:DecidableEq Bal:=fun _ _=>Classical.propDecidable _
 have zBal:Inhabited Bal:=⟨⟨0,0,0⟩⟩;have eLogg:DecidableEq Logg:=fun _ _=>Classical.propDecidable _
 have zLogg:Inhabited Logg:=⟨⟨[],[]⟩⟩;have eJrn:DecidableEq Jrn:=fun _ _=>Classical.propDecidable _
 have zJrn:Inhabited Jrn:=⟨⟨0,[],default⟩⟩;have eMrk:DecidableEq Mrk:=fun _ _=>Classical.propDecidable _
 have zMrk:Inhabited Mrk:=⟨⟨0,0⟩⟩;have eLeg:DecidableEq Leg:=fun _ _=>Classical.propDecidable _
 have zLeg:Inhabited Leg:=⟨⟨0,0,0,0⟩⟩;have eCont:DecidableEq Cont:=fun _ _=>Classical.propDecidable _
 have zCont:Inhabited Cont:=⟨⟨0,[]⟩⟩;have eShd:DecidableEq Shd:=fun _ _=>Classical.propDecidable _
 have zShd:Inhabited Shd:=⟨⟨0,[],[],[],[],[]⟩⟩;have eJrnR:DecidableEq JrnR:=fun _ _=>Classical.propDecidable _
 have zJrnR:Inhabited JrnR:=⟨⟨0,default,default⟩⟩;have eEvt:DecidableEq Evt:=fun _ _=>Classical.propDecidable _
 have zEvt:Inhabited Evt:=⟨⟨false,default,0⟩⟩;have eEvtsR:DecidableEq EvtsR:=fun _ _=>Classical.propDecidable _
 have zEvtsR:Inhabited EvtsR:=⟨⟨0,[]⟩⟩;have eEvtR:DecidableEq EvtR:=fun _ _=>Classical.propDecidable _
 have zEvtR:Inhabited EvtR:=⟨⟨0,default⟩⟩;have eBytesR:DecidableEq BytesR:=fun _ _=>Classical.propDecidable _
 have zBytesR:Inhabited BytesR:=⟨⟨0,[]⟩⟩;have eContR:DecidableEq ContR:=fun _ _=>Classical.propDecidable _
 have zContR:Inhabited ContR:=⟨⟨0,default⟩⟩;have eLoggR:DecidableEq LoggR:=fun _ _=>Classical.propDecidable _
 have zLoggR:Inhabited LoggR:=⟨⟨0,default⟩⟩;have eRecsR:DecidableEq RecsR:=fun _ _=>Classical.propDecidable _
 have zRecsR:Inhabited RecsR:=⟨⟨0,0,[]⟩⟩;have eRw:DecidableEq Rw:=fun _ _=>Classical.propDecidable _
 have zRw:Inhabited Rw:=⟨⟨default,0,default,false⟩⟩;have eLedg:DecidableEq Ledg:=fun _ _=>Classical.propDecidable _
 have zLedg:Inhabited Ledg:=⟨⟨[]⟩⟩;have eLedgR:DecidableEq LedgR:=fun _ _=>Classical.propDecidable _
 have zLedgR:Inhabited LedgR:=⟨⟨0,default⟩⟩;have eOutcR:DecidableEq OutcR:=fun _ _=>Classical.propDecidable _
 have zOutcR:Inhabited OutcR:=⟨⟨0,[],default⟩⟩;have eShdR:DecidableEq ShdR:=fun _ _=>Classical.propDecidable _
 have zShdR:Inhabited ShdR:=⟨⟨0,0,default⟩⟩;refine returnsInHanded_of_change (C:=Tryz.checked) own started kF Tryz.func4
  (ChangeSpec.witness6 (enc:=enc) (C:=Tryz.checked) false ⟨#[],#[.agg #[.int .i64 0,.slice none 0 0,.slice none 0 0,.slice none 0 0]],[]⟩ 8 kF kF kF kF) ?_
 intro W base args ds gs before hval0 hW _ _;have hval:∀(j:Nat) t v,Tryz.f4.params[j]? = some t→args[j]? = some v→Value.okWide Tryz.prog W .any base t v:=hval0
 have hW':DataW.Whole enc Tryz.prog Tryz.f4.params.toList Rows.fnExactReplayJournalSpec.vars false W args.toList ds gs before:=hW;obtain⟨p,q,hA0,hV,rfl,hfz,hnd⟩:=hW;have hA:DataW.TrodAll enc Tryz.prog W 0 (fun _=>true) true Tryz.f4.params.toList args.toList ds p:=hA0;rw[Tryz.params4] at hA hval;obtain⟨v0,d0,rfl,rfl,h0⟩:=trodAll_one hA;obtain⟨d0,hx0⟩:=fWc (hval 0 27 v0 rfl rfl) h0;refine(walk v0 d0 W hx0).mono fun e W' ⟨he,hg⟩=>?_
 subst he;exact⟨_,rfl,fUx hW' laidOut kF rfl kF Tryz.underlying4 (fun _=>rfl) hg⟩
theorem proved:Rows.FnExactReplayJournalSaid:=
 OpenClaim.holds_of_wide 4 Tryz.f4 rfl rfl rfl rfl rfl rfl rfl ⟨rfl,rfl,rfl,rfl,rfl⟩ rfl rfl rfl rfl rfl kF Tryz.func4 kF
  (of_decide_eq_true kF) (by unfold Func.isWrapper;first|(rw[if_pos (by decide +kernel)];kernel_rfl)|(rw[if_neg (by decide +kernel)];exact⟨rfl,rfl⟩))
  (fun os started H enc _=>lifted os started H enc)
#print axioms proved
end Go.Proofs.YtpibfdebfacooaaGreat.replayJournalLaw

/-
  Proved: laws.FnExactSafeCluster answers true at every argument, and its arguments read behind the call as they read before. No condition.
-/
import Derived.Test.YtbfnobcidnmohaaGreatSafeClusterWalk
import Derived.Test.YtbfnobcidnmohaaGreatPrnSafeClusterLaw32
namespace Go.Proofs.YtbfnobcidnmohaaGreat.safeClusterLaw
open Go.ChangeShapes Go.WideShapes Go.ChangeAt Go.RowKit Go.Joins
attribute [local go_sem ↓] Go.wp_at_zero Go.wp_at_succ
set_option maxRecDepth 100000 in
theorem lifted (os:Os) (started:os.Started) (H:Type) (enc:TypeId × Value→H) :
  ReturnsInHanded {} Tryz.checked os 3 .any (Rows.fnExactSafeClusterSpec.pre6 enc Tryz.prog Tryz.f3 Rows.fnExactSafeClusterRow.domain false) (Rows.fnExactSafeClusterSpec.post enc Tryz.prog Tryz.f3 false true false false):=by
 have eLeg:DecidableEq Leg:=fun _ _=>Classical.propDecidable _
 have zLeg:Inhabited Leg:=⟨⟨0,0,0,0⟩⟩;have eCont:DecidableEq Cont:=fun _ _=>Classical.propDecidable _
 have zCont:Inhabited Cont:=⟨⟨0,[]⟩⟩;have eBal:DecidableEq Bal:=fun _ _=>Classical.propDecidable _
 have zBal:Inhabited Bal:=⟨⟨0,0,0⟩⟩;have eMrk:DecidableEq Mrk:=fun _ _=>Classical.propDecidable _
 have zMrk:Inhabited Mrk:=⟨⟨0,0⟩⟩;have eShd:DecidableEq Shd:=fun _ _=>Classical.propDecidable _
 have zShd:Inhabited Shd:=⟨⟨0,[],[],[],[],[]⟩⟩;have eVot:DecidableEq Vot:=fun _ _=>Classical.propDecidable _
 have zVot:Inhabited Vot:=⟨⟨0,0⟩⟩;have eSlt:DecidableEq Slt:=fun _ _=>Classical.propDecidable _
 have zSlt:Inhabited Slt:=⟨⟨0,0,0,0,0,[]⟩⟩;have eAcc:DecidableEq Acc:=fun _ _=>Classical.propDecidable _
 have zAcc:Inhabited Acc:=⟨⟨[]⟩⟩;have eTrr:DecidableEq Trr:=fun _ _=>Classical.propDecidable _
 have zTrr:Inhabited Trr:=⟨⟨0,0,0,0,[],[]⟩⟩;have eHrd:DecidableEq Hrd:=fun _ _=>Classical.propDecidable _
 have zHrd:Inhabited Hrd:=⟨⟨0,0,0,0,0⟩⟩;have eLdr:DecidableEq Ldr:=fun _ _=>Classical.propDecidable _
 have zLdr:Inhabited Ldr:=⟨⟨0,[],[]⟩⟩;have eMsg:DecidableEq Msg:=fun _ _=>Classical.propDecidable _
 have zMsg:Inhabited Msg:=⟨⟨0,0,0,0,0,0,0,0,0⟩⟩;have eClu:DecidableEq Clu:=fun _ _=>Classical.propDecidable _
 have zClu:Inhabited Clu:=⟨⟨[],[],[],[],[]⟩⟩;have eLedg:DecidableEq Ledg:=fun _ _=>Classical.propDecidable _
 have zLedg:Inhabited Ledg:=⟨⟨[]⟩⟩;have eSltR:DecidableEq SltR:=fun _ _=>Classical.propDecidable _
 have zSltR:Inhabited SltR:=⟨⟨0,0,0,default⟩⟩;have eAccR:DecidableEq AccR:=fun _ _=>Classical.propDecidable _
 have zAccR:Inhabited AccR:=⟨⟨0,0,0,default⟩⟩;have eAccsR:DecidableEq AccsR:=fun _ _=>Classical.propDecidable _
 have zAccsR:Inhabited AccsR:=⟨⟨0,0,[]⟩⟩;have eSltsR:DecidableEq SltsR:=fun _ _=>Classical.propDecidable _
 have zSltsR:Inhabited SltsR:=⟨⟨0,[]⟩⟩;have eRw:DecidableEq Rw:=fun _ _=>Classical.propDecidable _
 have zRw:Inhabited Rw:=⟨⟨default,0,default,false⟩⟩;have eLedgR:DecidableEq LedgR:=fun _ _=>Classical.propDecidable _
 have zLedgR:Inhabited LedgR:=⟨⟨0,default⟩⟩;have eOutcR:DecidableEq OutcR:=fun _ _=>Classical.propDecidable _
 have zOutcR:Inhabited OutcR:=⟨⟨0,[],default⟩⟩;have eShdR:DecidableEq ShdR:=fun _ _=>Classical.propDecidable _
 have zShdR:Inhabited ShdR:=⟨⟨0,0,default⟩⟩;have eCluR:DecidableEq CluR:=fun _ _=>Classical.propDecidable _
 have zCluR:Inhabited CluR:=⟨⟨0,default⟩⟩;refine returnsInHanded_of_change (C:=Tryz.checked) own started kF Tryz.func3
  (ChangeSpec.witness6 (enc:=enc) (C:=Tryz.checked) false ⟨#[],#[.agg #[.slice none 0 0,.slice none 0 0,.slice none 0 0,.slice none 0 0,.slice none 0 0]],[]⟩ 8 kF kF kF kF) ?_
 intro W base args ds gs before hval0 hW _ _;have hval:∀(j:Nat) t v,Tryz.f3.params[j]? = some t→args[j]? = some v→Value.okWide Tryz.prog W .any base t v:=hval0
 have hW':DataW.Whole enc Tryz.prog Tryz.f3.params.toList Rows.fnExactSafeClusterSpec.vars false W args.toList ds gs before:=hW;obtain⟨p,q,hA0,hV,rfl,hfz,hnd⟩:=hW;have hA:DataW.TrodAll enc Tryz.prog W 0 (fun _=>true) true Tryz.f3.params.toList args.toList ds p:=hA0;rw[Tryz.params3] at hA hval;obtain⟨v0,d0,rfl,rfl,h0⟩:=trodAll_one hA;obtain⟨d0,hx0⟩:=fUx (hval 0 28 v0 rfl rfl) h0;refine(walk v0 d0 W hx0).mono fun e W' ⟨he,hg⟩=>?_
 subst he;exact⟨_,rfl,fUm hW' laidOut kF rfl kF Tryz.underlying4 (fun _=>rfl) hg⟩
theorem jfA:(Rows.fnExactSafeClusterRow.inPlace==Tryz.pinned.checked.prog.inPlace 3)=true:=kF
theorem jfB:(Rows.fnExactSafeClusterRow.unfollowed==Tryz.pinned.checked.prog.unfollowed 3)=true:=kF
theorem jfC:(Rows.fnExactSafeClusterRow.recurses==Tryz.pinned.checked.prog.recurses 3)=true:=kF
theorem jfD:(Rows.fnExactSafeClusterRow.named==Tryz.pinned.checked.prog.varsNamed 3)=true:=kF
theorem jfE:joinedFacts Tryz.pinned.checked.prog 3 Tryz.f3 Rows.fnExactSafeClusterSpec Rows.fnExactSafeClusterRow=true:=by
 unfold joinedFacts;rw[jfA,jfB,jfC,jfD];kernel_rfl
theorem proved:Rows.FnExactSafeClusterSaid:=
 OpenClaim.holds_of_wide 3 Tryz.f3 rfl rfl rfl rfl rfl rfl rfl ⟨rfl,rfl,rfl,rfl,rfl⟩ rfl rfl rfl rfl rfl kF Tryz.func3 jfE
  (of_decide_eq_true kF) (by unfold Func.isWrapper;first|(rw[if_pos (by decide +kernel)];kernel_rfl)|(rw[if_neg (by decide +kernel)];exact⟨rfl,rfl⟩))
  (fun os started H enc _=>lifted os started H enc)
#print axioms proved
end Go.Proofs.YtbfnobcidnmohaaGreat.safeClusterLaw

/-
  No cell of these rows narrows 'for every input' (looked for: loops, veiled, ifaces, maps, wideKeys, modest, calm, conditions, laid).
  DERIVED. THE GIVEN ROWS OF THIS SEAT. 4 by the template 'for every input the law returns true; each argument reads behind the call as it read before'; 0 by the template 'total and deterministic' (their statements: YtecfelacdapdgaaGreatTotals.lean).
  GIVEN WITH THE SEED: the statements are not yours to turn. If you find one false, say at which input.
  Laid BY PROGRAM, IN A SANDBOX (cutbox-rows.mjs): the forced cells as the released guide's own fill.sh prints them over the translation 27a86e25282d6a45… (all of the seat's roots in one cut). By AI agents, Wed Nov 11 2026. No macro, syntax, notation, axiom, sorry.
-/
import Derived.Test.YtecfelacdapdgaaGreatChecked
import GoSem.Claim
import GoSem.ClaimJoined
import GoSem.ClaimMapViews
import Derived.JoinedTies
import Derived.KernelRfl
namespace Go.Proofs.YtecfelacdapdgaaGreat
/- THE CELL 'sum', in the pinned program and in every row, IS THE sha256 OF THE DUMP (.gsa) THAT YtecfelacdapdgaaGreatProg.lean LOADS. Nothing in Lean hashes anything: it is a label: what it is worth is what the hold of that sum in a sandbox is worth. -/
noncomputable def Tryz.pinned : Pinned := { name := "ytecfelacdapdgaagreat", sum := "27a86e25282d6a45eeae2326913a5cdbeae82687053241c0e97fab6a54e60880", checked := Tryz.checked }
namespace Rows
def none {H : Type} : Left H := { results := [], args := [] }

/-- 'laws.FnExactEventFault': WHATEVER THE INPUT: true; the input reads as it did. -/
def fnExactEventFaultSpec : ChangeSpec := { name := "fnExactEventFault", fn := fun _ => fun
  | [d] => { results := [.lit (.bool true)], args := [d] }
  | _ => none }
def fnExactEventFaultRow : OpenClaim := { program := "ytecfelacdapdgaagreat", sum := "27a86e25282d6a45eeae2326913a5cdbeae82687053241c0e97fab6a54e60880", func := "loop.example/g00203/laws.FnExactEventFault", spec := "fnExactEventFault", inPlace := ["slices.overlaps[loop.example/g00203/impl.Mark]", "slices.overlaps[loop.example/g00203/impl.Contract]"], unfollowed := true, recurses := true, plainKeys := false, apart := false }
def FnExactEventFaultSaid : Prop := fnExactEventFaultRow.holds Tryz.pinned (OpenSpec.ofChange fnExactEventFaultSpec)

/-- ITS FALSE NEIGHBOUR: 'it returns false'. Refute it at one input. -/
def fnExactEventFaultWrong : ChangeSpec := { name := "fnExactEventFault", fn := fun _ => fun
  | [d] => { results := [.lit (.bool false)], args := [d] }
  | _ => none }
def FnExactEventFaultWrongFalsely : Prop := fnExactEventFaultRow.holds Tryz.pinned (OpenSpec.ofChange fnExactEventFaultWrong)

/-- 'laws.FnExactPackEvent': WHATEVER THE INPUT: true; the input reads as it did. -/
def fnExactPackEventSpec : ChangeSpec := { name := "fnExactPackEvent", fn := fun _ => fun
  | [d] => { results := [.lit (.bool true)], args := [d] }
  | _ => none }
def fnExactPackEventRow : OpenClaim := { program := "ytecfelacdapdgaagreat", sum := "27a86e25282d6a45eeae2326913a5cdbeae82687053241c0e97fab6a54e60880", func := "loop.example/g00203/laws.FnExactPackEvent", spec := "fnExactPackEvent", inPlace := ["slices.overlaps[loop.example/g00203/impl.Mark]", "slices.overlaps[loop.example/g00203/impl.Contract]"], unfollowed := true, recurses := true, plainKeys := false, apart := false }
def FnExactPackEventSaid : Prop := fnExactPackEventRow.holds Tryz.pinned (OpenSpec.ofChange fnExactPackEventSpec)

/-- ITS FALSE NEIGHBOUR: 'it returns false'. Refute it at one input. -/
def fnExactPackEventWrong : ChangeSpec := { name := "fnExactPackEvent", fn := fun _ => fun
  | [d] => { results := [.lit (.bool false)], args := [d] }
  | _ => none }
def FnExactPackEventWrongFalsely : Prop := fnExactPackEventRow.holds Tryz.pinned (OpenSpec.ofChange fnExactPackEventWrong)

/-- 'laws.FnExactUnpackEvent': WHATEVER THE INPUT: true; the input reads as it did. -/
def fnExactUnpackEventSpec : ChangeSpec := { name := "fnExactUnpackEvent", fn := fun _ => fun
  | [d] => { results := [.lit (.bool true)], args := [d] }
  | _ => none }
def fnExactUnpackEventRow : OpenClaim := { program := "ytecfelacdapdgaagreat", sum := "27a86e25282d6a45eeae2326913a5cdbeae82687053241c0e97fab6a54e60880", func := "loop.example/g00203/laws.FnExactUnpackEvent", spec := "fnExactUnpackEvent", inPlace := ["slices.overlaps[loop.example/g00203/impl.Mark]", "slices.overlaps[loop.example/g00203/impl.Contract]"], unfollowed := true, recurses := true, plainKeys := false, apart := false }
def FnExactUnpackEventSaid : Prop := fnExactUnpackEventRow.holds Tryz.pinned (OpenSpec.ofChange fnExactUnpackEventSpec)

/-- ITS FALSE NEIGHBOUR: 'it returns false'. Refute it at one input. -/
def fnExactUnpackEventWrong : ChangeSpec := { name := "fnExactUnpackEvent", fn := fun _ => fun
  | [d] => { results := [.lit (.bool false)], args := [d] }
  | _ => none }
def FnExactUnpackEventWrongFalsely : Prop := fnExactUnpackEventRow.holds Tryz.pinned (OpenSpec.ofChange fnExactUnpackEventWrong)

/-- 'laws.FnExactEventsOf': WHATEVER THE INPUT: true; the input reads as it did. -/
def fnExactEventsOfSpec : ChangeSpec := { name := "fnExactEventsOf", fn := fun _ => fun
  | [d] => { results := [.lit (.bool true)], args := [d] }
  | _ => none }
def fnExactEventsOfRow : OpenClaim := { program := "ytecfelacdapdgaagreat", sum := "27a86e25282d6a45eeae2326913a5cdbeae82687053241c0e97fab6a54e60880", func := "loop.example/g00203/laws.FnExactEventsOf", spec := "fnExactEventsOf", inPlace := ["slices.overlaps[loop.example/g00203/impl.Mark]", "slices.overlaps[loop.example/g00203/impl.Contract]"], unfollowed := true, recurses := true, plainKeys := false, apart := false }
def FnExactEventsOfSaid : Prop := fnExactEventsOfRow.holds Tryz.pinned (OpenSpec.ofChange fnExactEventsOfSpec)

/-- ITS FALSE NEIGHBOUR: 'it returns false'. Refute it at one input. -/
def fnExactEventsOfWrong : ChangeSpec := { name := "fnExactEventsOf", fn := fun _ => fun
  | [d] => { results := [.lit (.bool false)], args := [d] }
  | _ => none }
def FnExactEventsOfWrongFalsely : Prop := fnExactEventsOfRow.holds Tryz.pinned (OpenSpec.ofChange fnExactEventsOfWrong)

/- THE SECOND FORM. 'bulk': how many values and letters a reading holds, each counted each time it is reached (what is shared counts as often as it is met; a slice's spare places count too). A statement '..UptoSaid' is the law's where the arguments, and the package variables that the reading takes, are together of bulk at most 1048576: NARROWER than '..Said'. Prove '..Said' where nothing that the law and all that it calls make is longer than what came in: it says more and counts as full. Else prove '..UptoSaid'. A law counts once. -/
mutual
def uptoBulk {H : Type} : DataW H → Nat
  | .lit (.string bytes) => bytes.length + 1
  | .lit _ => 1
  | .nil => 1
  | .ptr d => uptoBulk d + 1
  | .slice elems spare => uptoBulkAll elems + uptoBulkAll spare + 1
  | .agg parts => uptoBulkAll parts + 1
  | .iface _ d => uptoBulk d + 1
  | .map entries => uptoBulkEntries entries + 1
  | .held _ => 1
def uptoBulkAll {H : Type} : List (DataW H) → Nat
  | [] => 0
  | d :: r => uptoBulk d + uptoBulkAll r
def uptoBulkEntries {H : Type} : List (Lit × DataW H) → Nat
  | [] => 0
  | x :: r => uptoBulkEntry x + uptoBulkEntries r
def uptoBulkEntry {H : Type} : Lit × DataW H → Nat
  | (.string bytes, d) => bytes.length + uptoBulk d + 1
  | (_, d) => uptoBulk d + 1
 end
def uptoSmall : (H : Type) → List (DataW H) → Bool := fun _ ds => decide (uptoBulkAll ds ≤ 1048576)
def OpenSpec.upto (s : _root_.Go.ChangeSpec) : _root_.Go.OpenSpec := { _root_.Go.OpenSpec.ofChange s with cond := some uptoSmall }

/-- 'laws.FnExactEventFault', WHERE WHAT IT READS IS OF BULK AT MOST 1048576: true; the input reads as it did. -/
def fnExactEventFaultUptoRow : OpenClaim := { program := "ytecfelacdapdgaagreat", sum := "27a86e25282d6a45eeae2326913a5cdbeae82687053241c0e97fab6a54e60880", func := "loop.example/g00203/laws.FnExactEventFault", spec := "fnExactEventFault", inPlace := ["slices.overlaps[loop.example/g00203/impl.Mark]", "slices.overlaps[loop.example/g00203/impl.Contract]"], unfollowed := true, recurses := true, plainKeys := false, apart := false, narrowed := true }
def FnExactEventFaultUptoSaid : Prop := fnExactEventFaultUptoRow.holds Tryz.pinned (OpenSpec.upto fnExactEventFaultSpec)

/-- 'laws.FnExactPackEvent', WHERE WHAT IT READS IS OF BULK AT MOST 1048576: true; the input reads as it did. -/
def fnExactPackEventUptoRow : OpenClaim := { program := "ytecfelacdapdgaagreat", sum := "27a86e25282d6a45eeae2326913a5cdbeae82687053241c0e97fab6a54e60880", func := "loop.example/g00203/laws.FnExactPackEvent", spec := "fnExactPackEvent", inPlace := ["slices.overlaps[loop.example/g00203/impl.Mark]", "slices.overlaps[loop.example/g00203/impl.Contract]"], unfollowed := true, recurses := true, plainKeys := false, apart := false, narrowed := true }
def FnExactPackEventUptoSaid : Prop := fnExactPackEventUptoRow.holds Tryz.pinned (OpenSpec.upto fnExactPackEventSpec)

/-- 'laws.FnExactUnpackEvent', WHERE WHAT IT READS IS OF BULK AT MOST 1048576: true; the input reads as it did. -/
def fnExactUnpackEventUptoRow : OpenClaim := { program := "ytecfelacdapdgaagreat", sum := "27a86e25282d6a45eeae2326913a5cdbeae82687053241c0e97fab6a54e60880", func := "loop.example/g00203/laws.FnExactUnpackEvent", spec := "fnExactUnpackEvent", inPlace := ["slices.overlaps[loop.example/g00203/impl.Mark]", "slices.overlaps[loop.example/g00203/impl.Contract]"], unfollowed := true, recurses := true, plainKeys := false, apart := false, narrowed := true }
def FnExactUnpackEventUptoSaid : Prop := fnExactUnpackEventUptoRow.holds Tryz.pinned (OpenSpec.upto fnExactUnpackEventSpec)

/-- 'laws.FnExactEventsOf', WHERE WHAT IT READS IS OF BULK AT MOST 1048576: true; the input reads as it did. -/
def fnExactEventsOfUptoRow : OpenClaim := { program := "ytecfelacdapdgaagreat", sum := "27a86e25282d6a45eeae2326913a5cdbeae82687053241c0e97fab6a54e60880", func := "loop.example/g00203/laws.FnExactEventsOf", spec := "fnExactEventsOf", inPlace := ["slices.overlaps[loop.example/g00203/impl.Mark]", "slices.overlaps[loop.example/g00203/impl.Contract]"], unfollowed := true, recurses := true, plainKeys := false, apart := false, narrowed := true }
def FnExactEventsOfUptoSaid : Prop := fnExactEventsOfUptoRow.holds Tryz.pinned (OpenSpec.upto fnExactEventsOfSpec)

end Rows
end Go.Proofs.YtecfelacdapdgaaGreat

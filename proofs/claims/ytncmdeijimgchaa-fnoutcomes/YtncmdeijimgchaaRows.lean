/-
  No cell of these rows narrows 'for every input' (looked for: loops, veiled, ifaces, maps, wideKeys, modest, calm, conditions, laid).
  DERIVED. THE GIVEN ROWS OF THIS SEAT. 5 by the template 'for every input the law returns true; each argument reads behind the call as it read before'; 0 by the template 'total and deterministic' (their statements: YtncmdeijimgchaaTotals.lean).
  GIVEN WITH THE SEED: the statements are not yours to turn. If you find one false, say at which input.
  Laid BY PROGRAM, IN A SANDBOX (cutbox-rows.mjs): the forced cells as the released guide's own fill.sh prints them over the translation a72f75fa618efd62… (all of the seat's roots in one cut). By AI agents, Wed Nov 11 2026. No macro, syntax, notation, axiom, sorry.
-/
import Derived.Test.YtncmdeijimgchaaChecked
import GoSem.Claim
import GoSem.ClaimJoined
import GoSem.ClaimMapViews
import Derived.JoinedTies
import Derived.KernelRfl
namespace Go.Proofs.Ytncmdeijimgchaa
/- THE CELL 'sum', in the pinned program and in every row, IS THE sha256 OF THE DUMP (.gsa) THAT YtncmdeijimgchaaProg.lean LOADS. Nothing in Lean hashes anything: it is a label: what it is worth is what the hold of that sum in a sandbox is worth. -/
noncomputable def Try.pinned : Pinned := { name := "ytncmdeijimgchaa", sum := "a72f75fa618efd62923287aee05d503f92f13d32420deaa1388e73d1c21fb18b", checked := Try.checked }
namespace Rows
def none {H : Type} : Left H := { results := [], args := [] }

/-- 'laws.FnOutcomes': WHATEVER THE INPUT: true; the input reads as it did. -/
def fnOutcomesSpec : ChangeSpec := { name := "fnOutcomes", fn := fun _ => fun
  | [d] => { results := [.lit (.bool true)], args := [d] }
  | _ => none }
def fnOutcomesRow : OpenClaim := { program := "ytncmdeijimgchaa", sum := "a72f75fa618efd62923287aee05d503f92f13d32420deaa1388e73d1c21fb18b", func := "loop.example/g00203/laws.FnOutcomes", spec := "fnOutcomes", inPlace := ["slices.overlaps[loop.example/g00203/impl.Slot]"], unfollowed := true, recurses := true, plainKeys := false, apart := false }
def FnOutcomesSaid : Prop := fnOutcomesRow.holds Try.pinned (OpenSpec.ofChange fnOutcomesSpec)

/-- ITS FALSE NEIGHBOUR: 'it returns false'. Refute it at one input. -/
def fnOutcomesWrong : ChangeSpec := { name := "fnOutcomes", fn := fun _ => fun
  | [d] => { results := [.lit (.bool false)], args := [d] }
  | _ => none }
def FnOutcomesWrongFalsely : Prop := fnOutcomesRow.holds Try.pinned (OpenSpec.ofChange fnOutcomesWrong)

/-- 'laws.FnExactPickValue': WHATEVER THE INPUT: true; the input reads as it did. -/
def fnExactPickValueSpec : ChangeSpec := { name := "fnExactPickValue", fn := fun _ => fun
  | [d1, d2] => { results := [.lit (.bool true)], args := [d1, d2] }
  | _ => none }
def fnExactPickValueRow : OpenClaim := { program := "ytncmdeijimgchaa", sum := "a72f75fa618efd62923287aee05d503f92f13d32420deaa1388e73d1c21fb18b", func := "loop.example/g00203/laws.FnExactPickValue", spec := "fnExactPickValue", plainKeys := false, apart := false }
def FnExactPickValueSaid : Prop := fnExactPickValueRow.holds Try.pinned (OpenSpec.ofChange fnExactPickValueSpec)

/-- ITS FALSE NEIGHBOUR: 'it returns false'. Refute it at one input. -/
def fnExactPickValueWrong : ChangeSpec := { name := "fnExactPickValue", fn := fun _ => fun
  | [d1, d2] => { results := [.lit (.bool false)], args := [d1, d2] }
  | _ => none }
def FnExactPickValueWrongFalsely : Prop := fnExactPickValueRow.holds Try.pinned (OpenSpec.ofChange fnExactPickValueWrong)

/-- 'laws.FnExactPromiseAt': WHATEVER THE INPUT: true; the input reads as it did. -/
def fnExactPromiseAtSpec : ChangeSpec := { name := "fnExactPromiseAt", fn := fun _ => fun
  | [d1, d2, d3, d4] => { results := [.lit (.bool true)], args := [d1, d2, d3, d4] }
  | _ => none }
def fnExactPromiseAtRow : OpenClaim := { program := "ytncmdeijimgchaa", sum := "a72f75fa618efd62923287aee05d503f92f13d32420deaa1388e73d1c21fb18b", func := "loop.example/g00203/laws.FnExactPromiseAt", spec := "fnExactPromiseAt", inPlace := ["slices.overlaps[loop.example/g00203/impl.Slot]"], unfollowed := true, recurses := true, plainKeys := false, apart := false }
def FnExactPromiseAtSaid : Prop := fnExactPromiseAtRow.holds Try.pinned (OpenSpec.ofChange fnExactPromiseAtSpec)

/-- ITS FALSE NEIGHBOUR: 'it returns false'. Refute it at one input. -/
def fnExactPromiseAtWrong : ChangeSpec := { name := "fnExactPromiseAt", fn := fun _ => fun
  | [d1, d2, d3, d4] => { results := [.lit (.bool false)], args := [d1, d2, d3, d4] }
  | _ => none }
def FnExactPromiseAtWrongFalsely : Prop := fnExactPromiseAtRow.holds Try.pinned (OpenSpec.ofChange fnExactPromiseAtWrong)

/-- 'laws.FnExactAcceptAt': WHATEVER THE INPUT: true; the input reads as it did. -/
def fnExactAcceptAtSpec : ChangeSpec := { name := "fnExactAcceptAt", fn := fun _ => fun
  | [d1, d2, d3, d4, d5] => { results := [.lit (.bool true)], args := [d1, d2, d3, d4, d5] }
  | _ => none }
def fnExactAcceptAtRow : OpenClaim := { program := "ytncmdeijimgchaa", sum := "a72f75fa618efd62923287aee05d503f92f13d32420deaa1388e73d1c21fb18b", func := "loop.example/g00203/laws.FnExactAcceptAt", spec := "fnExactAcceptAt", inPlace := ["slices.overlaps[loop.example/g00203/impl.Slot]"], unfollowed := true, recurses := true, plainKeys := false, apart := false }
def FnExactAcceptAtSaid : Prop := fnExactAcceptAtRow.holds Try.pinned (OpenSpec.ofChange fnExactAcceptAtSpec)

/-- ITS FALSE NEIGHBOUR: 'it returns false'. Refute it at one input. -/
def fnExactAcceptAtWrong : ChangeSpec := { name := "fnExactAcceptAt", fn := fun _ => fun
  | [d1, d2, d3, d4, d5] => { results := [.lit (.bool false)], args := [d1, d2, d3, d4, d5] }
  | _ => none }
def FnExactAcceptAtWrongFalsely : Prop := fnExactAcceptAtRow.holds Try.pinned (OpenSpec.ofChange fnExactAcceptAtWrong)

/-- 'laws.FnExactNewShard': WHATEVER THE INPUT: true; the input reads as it did. -/
def fnExactNewShardSpec : ChangeSpec := { name := "fnExactNewShard", fn := fun _ => fun
  | [d1, d2] => { results := [.lit (.bool true)], args := [d1, d2] }
  | _ => none }
def fnExactNewShardRow : OpenClaim := { program := "ytncmdeijimgchaa", sum := "a72f75fa618efd62923287aee05d503f92f13d32420deaa1388e73d1c21fb18b", func := "loop.example/g00203/laws.FnExactNewShard", spec := "fnExactNewShard", unfollowed := true, recurses := true, plainKeys := false, apart := false }
def FnExactNewShardSaid : Prop := fnExactNewShardRow.holds Try.pinned (OpenSpec.ofChange fnExactNewShardSpec)

/-- ITS FALSE NEIGHBOUR: 'it returns false'. Refute it at one input. -/
def fnExactNewShardWrong : ChangeSpec := { name := "fnExactNewShard", fn := fun _ => fun
  | [d1, d2] => { results := [.lit (.bool false)], args := [d1, d2] }
  | _ => none }
def FnExactNewShardWrongFalsely : Prop := fnExactNewShardRow.holds Try.pinned (OpenSpec.ofChange fnExactNewShardWrong)

/- THE SECOND FORM. 'bulk': how many values and letters a reading holds, each counted each time it is reached (what is shared counts as often as it is met; a slice's spare places count too). A statement '..UptoSaid' is the law's where the arguments, and the package variables that the reading takes, are together of bulk at most 1048576: NARROWER than '..Said'. Prove '..Said' where nothing that the law and all that it calls make is longer than what came in: it says more and counts as full. Else prove '..UptoSaid'. A law counts once. -/
mutual
def uptoBulk {H : Type} : DataW H → Nat
  | .lit (.string bytes) => bytes.length + 1
  | .lit _ => 1
  | .nil => 1
  | .ptr d => uptoBulk d + 1
  | .slice elems spare => uptoBulkAll elems + uptoBulkAll spare + 1
  | .agg parts => uptoBulkAll parts + 1
  | .iface _ d => uptoBulk d + 1
  | .map entries => uptoBulkEntries entries + 1
  | .held _ => 1
def uptoBulkAll {H : Type} : List (DataW H) → Nat
  | [] => 0
  | d :: r => uptoBulk d + uptoBulkAll r
def uptoBulkEntries {H : Type} : List (Lit × DataW H) → Nat
  | [] => 0
  | x :: r => uptoBulkEntry x + uptoBulkEntries r
def uptoBulkEntry {H : Type} : Lit × DataW H → Nat
  | (.string bytes, d) => bytes.length + uptoBulk d + 1
  | (_, d) => uptoBulk d + 1
 end
def uptoSmall : (H : Type) → List (DataW H) → Bool := fun _ ds => decide (uptoBulkAll ds ≤ 1048576)
def OpenSpec.upto (s : _root_.Go.ChangeSpec) : _root_.Go.OpenSpec := { _root_.Go.OpenSpec.ofChange s with cond := some uptoSmall }

/-- 'laws.FnOutcomes', WHERE WHAT IT READS IS OF BULK AT MOST 1048576: true; the input reads as it did. -/
def fnOutcomesUptoRow : OpenClaim := { program := "ytncmdeijimgchaa", sum := "a72f75fa618efd62923287aee05d503f92f13d32420deaa1388e73d1c21fb18b", func := "loop.example/g00203/laws.FnOutcomes", spec := "fnOutcomes", inPlace := ["slices.overlaps[loop.example/g00203/impl.Slot]"], unfollowed := true, recurses := true, plainKeys := false, apart := false, narrowed := true }
def FnOutcomesUptoSaid : Prop := fnOutcomesUptoRow.holds Try.pinned (OpenSpec.upto fnOutcomesSpec)

/-- 'laws.FnExactPickValue', WHERE WHAT IT READS IS OF BULK AT MOST 1048576: true; the input reads as it did. -/
def fnExactPickValueUptoRow : OpenClaim := { program := "ytncmdeijimgchaa", sum := "a72f75fa618efd62923287aee05d503f92f13d32420deaa1388e73d1c21fb18b", func := "loop.example/g00203/laws.FnExactPickValue", spec := "fnExactPickValue", plainKeys := false, apart := false, narrowed := true }
def FnExactPickValueUptoSaid : Prop := fnExactPickValueUptoRow.holds Try.pinned (OpenSpec.upto fnExactPickValueSpec)

/-- 'laws.FnExactPromiseAt', WHERE WHAT IT READS IS OF BULK AT MOST 1048576: true; the input reads as it did. -/
def fnExactPromiseAtUptoRow : OpenClaim := { program := "ytncmdeijimgchaa", sum := "a72f75fa618efd62923287aee05d503f92f13d32420deaa1388e73d1c21fb18b", func := "loop.example/g00203/laws.FnExactPromiseAt", spec := "fnExactPromiseAt", inPlace := ["slices.overlaps[loop.example/g00203/impl.Slot]"], unfollowed := true, recurses := true, plainKeys := false, apart := false, narrowed := true }
def FnExactPromiseAtUptoSaid : Prop := fnExactPromiseAtUptoRow.holds Try.pinned (OpenSpec.upto fnExactPromiseAtSpec)

/-- 'laws.FnExactAcceptAt', WHERE WHAT IT READS IS OF BULK AT MOST 1048576: true; the input reads as it did. -/
def fnExactAcceptAtUptoRow : OpenClaim := { program := "ytncmdeijimgchaa", sum := "a72f75fa618efd62923287aee05d503f92f13d32420deaa1388e73d1c21fb18b", func := "loop.example/g00203/laws.FnExactAcceptAt", spec := "fnExactAcceptAt", inPlace := ["slices.overlaps[loop.example/g00203/impl.Slot]"], unfollowed := true, recurses := true, plainKeys := false, apart := false, narrowed := true }
def FnExactAcceptAtUptoSaid : Prop := fnExactAcceptAtUptoRow.holds Try.pinned (OpenSpec.upto fnExactAcceptAtSpec)

/-- 'laws.FnExactNewShard', WHERE WHAT IT READS IS OF BULK AT MOST 1048576: true; the input reads as it did. -/
def fnExactNewShardUptoRow : OpenClaim := { program := "ytncmdeijimgchaa", sum := "a72f75fa618efd62923287aee05d503f92f13d32420deaa1388e73d1c21fb18b", func := "loop.example/g00203/laws.FnExactNewShard", spec := "fnExactNewShard", unfollowed := true, recurses := true, plainKeys := false, apart := false, narrowed := true }
def FnExactNewShardUptoSaid : Prop := fnExactNewShardUptoRow.holds Try.pinned (OpenSpec.upto fnExactNewShardSpec)

end Rows
end Go.Proofs.Ytncmdeijimgchaa

/-
  No cell of these rows narrows 'for every input' (looked for: loops, veiled, ifaces, maps, wideKeys, modest, calm, conditions, laid).
  DERIVED. THE GIVEN ROWS OF THIS SEAT. 7 by the template 'for every input the law returns true; each argument reads behind the call as it read before'; 0 by the template 'total and deterministic' (their statements: YtcngckkcgpkdoaaTotals.lean).
  GIVEN WITH THE SEED: the statements are not yours to turn. If you find one false, say at which input.
  Laid BY PROGRAM, IN A SANDBOX (cutbox-rows.mjs): the forced cells as the released guide's own fill.sh prints them over the translation 4a0641b240043a74… (all of the seat's roots in one cut). By AI agents, Wed Nov 11 2026. No macro, syntax, notation, axiom, sorry.
-/
import Derived.Test.YtcngckkcgpkdoaaChecked
import GoSem.Claim
import GoSem.ClaimJoined
import GoSem.ClaimMapViews
import Derived.JoinedTies
import Derived.KernelRfl
namespace Go.Proofs.Ytcngckkcgpkdoaa
/- THE CELL 'sum', in the pinned program and in every row, IS THE sha256 OF THE DUMP (.gsa) THAT YtcngckkcgpkdoaaProg.lean LOADS. Nothing in Lean hashes anything: it is a label: what it is worth is what the hold of that sum in a sandbox is worth. -/
noncomputable def Try.pinned : Pinned := { name := "ytcngckkcgpkdoaa", sum := "4a0641b240043a7478a884d924029270e6f7f9cdaaab13d5a26a23493daf5d5a", checked := Try.checked }
namespace Rows
def none {H : Type} : Left H := { results := [], args := [] }

/-- 'laws.FnExactLegFault': WHATEVER THE INPUT: true; the input reads as it did. -/
def fnExactLegFaultSpec : ChangeSpec := { name := "fnExactLegFault", fn := fun _ => fun
  | [d] => { results := [.lit (.bool true)], args := [d] }
  | _ => none }
def fnExactLegFaultRow : OpenClaim := { program := "ytcngckkcgpkdoaa", sum := "4a0641b240043a7478a884d924029270e6f7f9cdaaab13d5a26a23493daf5d5a", func := "loop.example/g00203/laws.FnExactLegFault", spec := "fnExactLegFault", apart := false }
def FnExactLegFaultSaid : Prop := fnExactLegFaultRow.holds Try.pinned (OpenSpec.ofChange fnExactLegFaultSpec)

/-- ITS FALSE NEIGHBOUR: 'it returns false'. Refute it at one input. -/
def fnExactLegFaultWrong : ChangeSpec := { name := "fnExactLegFault", fn := fun _ => fun
  | [d] => { results := [.lit (.bool false)], args := [d] }
  | _ => none }
def FnExactLegFaultWrongFalsely : Prop := fnExactLegFaultRow.holds Try.pinned (OpenSpec.ofChange fnExactLegFaultWrong)

/-- 'laws.FnExactContractFault': WHATEVER THE INPUT: true; the input reads as it did. -/
def fnExactContractFaultSpec : ChangeSpec := { name := "fnExactContractFault", fn := fun _ => fun
  | [d] => { results := [.lit (.bool true)], args := [d] }
  | _ => none }
def fnExactContractFaultRow : OpenClaim := { program := "ytcngckkcgpkdoaa", sum := "4a0641b240043a7478a884d924029270e6f7f9cdaaab13d5a26a23493daf5d5a", func := "loop.example/g00203/laws.FnExactContractFault", spec := "fnExactContractFault", apart := false }
def FnExactContractFaultSaid : Prop := fnExactContractFaultRow.holds Try.pinned (OpenSpec.ofChange fnExactContractFaultSpec)

/-- ITS FALSE NEIGHBOUR: 'it returns false'. Refute it at one input. -/
def fnExactContractFaultWrong : ChangeSpec := { name := "fnExactContractFault", fn := fun _ => fun
  | [d] => { results := [.lit (.bool false)], args := [d] }
  | _ => none }
def FnExactContractFaultWrongFalsely : Prop := fnExactContractFaultRow.holds Try.pinned (OpenSpec.ofChange fnExactContractFaultWrong)

/-- 'laws.FnExactShardsOf': WHATEVER THE INPUT: true; the input reads as it did. -/
def fnExactShardsOfSpec : ChangeSpec := { name := "fnExactShardsOf", fn := fun _ => fun
  | [d] => { results := [.lit (.bool true)], args := [d] }
  | _ => none }
def fnExactShardsOfRow : OpenClaim := { program := "ytcngckkcgpkdoaa", sum := "4a0641b240043a7478a884d924029270e6f7f9cdaaab13d5a26a23493daf5d5a", func := "loop.example/g00203/laws.FnExactShardsOf", spec := "fnExactShardsOf", apart := false }
def FnExactShardsOfSaid : Prop := fnExactShardsOfRow.holds Try.pinned (OpenSpec.ofChange fnExactShardsOfSpec)

/-- ITS FALSE NEIGHBOUR: 'it returns false'. Refute it at one input. -/
def fnExactShardsOfWrong : ChangeSpec := { name := "fnExactShardsOf", fn := fun _ => fun
  | [d] => { results := [.lit (.bool false)], args := [d] }
  | _ => none }
def FnExactShardsOfWrongFalsely : Prop := fnExactShardsOfRow.holds Try.pinned (OpenSpec.ofChange fnExactShardsOfWrong)

/-- 'laws.FnExactLegsAt': WHATEVER THE INPUT: true; the input reads as it did. -/
def fnExactLegsAtSpec : ChangeSpec := { name := "fnExactLegsAt", fn := fun _ => fun
  | [d1, d2] => { results := [.lit (.bool true)], args := [d1, d2] }
  | _ => none }
def fnExactLegsAtRow : OpenClaim := { program := "ytcngckkcgpkdoaa", sum := "4a0641b240043a7478a884d924029270e6f7f9cdaaab13d5a26a23493daf5d5a", func := "loop.example/g00203/laws.FnExactLegsAt", spec := "fnExactLegsAt", apart := false }
def FnExactLegsAtSaid : Prop := fnExactLegsAtRow.holds Try.pinned (OpenSpec.ofChange fnExactLegsAtSpec)

/-- ITS FALSE NEIGHBOUR: 'it returns false'. Refute it at one input. -/
def fnExactLegsAtWrong : ChangeSpec := { name := "fnExactLegsAt", fn := fun _ => fun
  | [d1, d2] => { results := [.lit (.bool false)], args := [d1, d2] }
  | _ => none }
def FnExactLegsAtWrongFalsely : Prop := fnExactLegsAtRow.holds Try.pinned (OpenSpec.ofChange fnExactLegsAtWrong)

/-- 'laws.FnExactSumOf': WHATEVER THE INPUT: true; the input reads as it did. -/
def fnExactSumOfSpec : ChangeSpec := { name := "fnExactSumOf", fn := fun _ => fun
  | [d1, d2] => { results := [.lit (.bool true)], args := [d1, d2] }
  | _ => none }
def fnExactSumOfRow : OpenClaim := { program := "ytcngckkcgpkdoaa", sum := "4a0641b240043a7478a884d924029270e6f7f9cdaaab13d5a26a23493daf5d5a", func := "loop.example/g00203/laws.FnExactSumOf", spec := "fnExactSumOf", apart := false }
def FnExactSumOfSaid : Prop := fnExactSumOfRow.holds Try.pinned (OpenSpec.ofChange fnExactSumOfSpec)

/-- ITS FALSE NEIGHBOUR: 'it returns false'. Refute it at one input. -/
def fnExactSumOfWrong : ChangeSpec := { name := "fnExactSumOf", fn := fun _ => fun
  | [d1, d2] => { results := [.lit (.bool false)], args := [d1, d2] }
  | _ => none }
def FnExactSumOfWrongFalsely : Prop := fnExactSumOfRow.holds Try.pinned (OpenSpec.ofChange fnExactSumOfWrong)

/-- 'laws.FnExactReverseOf': WHATEVER THE INPUT: true; the input reads as it did. -/
def fnExactReverseOfSpec : ChangeSpec := { name := "fnExactReverseOf", fn := fun _ => fun
  | [d1, d2] => { results := [.lit (.bool true)], args := [d1, d2] }
  | _ => none }
def fnExactReverseOfRow : OpenClaim := { program := "ytcngckkcgpkdoaa", sum := "4a0641b240043a7478a884d924029270e6f7f9cdaaab13d5a26a23493daf5d5a", func := "loop.example/g00203/laws.FnExactReverseOf", spec := "fnExactReverseOf", apart := false }
def FnExactReverseOfSaid : Prop := fnExactReverseOfRow.holds Try.pinned (OpenSpec.ofChange fnExactReverseOfSpec)

/-- ITS FALSE NEIGHBOUR: 'it returns false'. Refute it at one input. -/
def fnExactReverseOfWrong : ChangeSpec := { name := "fnExactReverseOf", fn := fun _ => fun
  | [d1, d2] => { results := [.lit (.bool false)], args := [d1, d2] }
  | _ => none }
def FnExactReverseOfWrongFalsely : Prop := fnExactReverseOfRow.holds Try.pinned (OpenSpec.ofChange fnExactReverseOfWrong)

/-- 'laws.FnExactSameContract': WHATEVER THE INPUT: true; the input reads as it did. -/
def fnExactSameContractSpec : ChangeSpec := { name := "fnExactSameContract", fn := fun _ => fun
  | [d1, d2] => { results := [.lit (.bool true)], args := [d1, d2] }
  | _ => none }
def fnExactSameContractRow : OpenClaim := { program := "ytcngckkcgpkdoaa", sum := "4a0641b240043a7478a884d924029270e6f7f9cdaaab13d5a26a23493daf5d5a", func := "loop.example/g00203/laws.FnExactSameContract", spec := "fnExactSameContract", apart := false }
def FnExactSameContractSaid : Prop := fnExactSameContractRow.holds Try.pinned (OpenSpec.ofChange fnExactSameContractSpec)

/-- ITS FALSE NEIGHBOUR: 'it returns false'. Refute it at one input. -/
def fnExactSameContractWrong : ChangeSpec := { name := "fnExactSameContract", fn := fun _ => fun
  | [d1, d2] => { results := [.lit (.bool false)], args := [d1, d2] }
  | _ => none }
def FnExactSameContractWrongFalsely : Prop := fnExactSameContractRow.holds Try.pinned (OpenSpec.ofChange fnExactSameContractWrong)

/- THE SECOND FORM. 'bulk': how many values and letters a reading holds, each counted each time it is reached (what is shared counts as often as it is met; a slice's spare places count too). A statement '..UptoSaid' is the law's where the arguments, and the package variables that the reading takes, are together of bulk at most 1048576: NARROWER than '..Said'. Prove '..Said' where nothing that the law and all that it calls make is longer than what came in: it says more and counts as full. Else prove '..UptoSaid'. A law counts once. -/
mutual
def uptoBulk {H : Type} : DataW H → Nat
  | .lit (.string bytes) => bytes.length + 1
  | .lit _ => 1
  | .nil => 1
  | .ptr d => uptoBulk d + 1
  | .slice elems spare => uptoBulkAll elems + uptoBulkAll spare + 1
  | .agg parts => uptoBulkAll parts + 1
  | .iface _ d => uptoBulk d + 1
  | .map entries => uptoBulkEntries entries + 1
  | .held _ => 1
def uptoBulkAll {H : Type} : List (DataW H) → Nat
  | [] => 0
  | d :: r => uptoBulk d + uptoBulkAll r
def uptoBulkEntries {H : Type} : List (Lit × DataW H) → Nat
  | [] => 0
  | x :: r => uptoBulkEntry x + uptoBulkEntries r
def uptoBulkEntry {H : Type} : Lit × DataW H → Nat
  | (.string bytes, d) => bytes.length + uptoBulk d + 1
  | (_, d) => uptoBulk d + 1
 end
def uptoSmall : (H : Type) → List (DataW H) → Bool := fun _ ds => decide (uptoBulkAll ds ≤ 1048576)
def OpenSpec.upto (s : _root_.Go.ChangeSpec) : _root_.Go.OpenSpec := { _root_.Go.OpenSpec.ofChange s with cond := some uptoSmall }

/-- 'laws.FnExactLegFault', WHERE WHAT IT READS IS OF BULK AT MOST 1048576: true; the input reads as it did. -/
def fnExactLegFaultUptoRow : OpenClaim := { program := "ytcngckkcgpkdoaa", sum := "4a0641b240043a7478a884d924029270e6f7f9cdaaab13d5a26a23493daf5d5a", func := "loop.example/g00203/laws.FnExactLegFault", spec := "fnExactLegFault", apart := false, narrowed := true }
def FnExactLegFaultUptoSaid : Prop := fnExactLegFaultUptoRow.holds Try.pinned (OpenSpec.upto fnExactLegFaultSpec)

/-- 'laws.FnExactContractFault', WHERE WHAT IT READS IS OF BULK AT MOST 1048576: true; the input reads as it did. -/
def fnExactContractFaultUptoRow : OpenClaim := { program := "ytcngckkcgpkdoaa", sum := "4a0641b240043a7478a884d924029270e6f7f9cdaaab13d5a26a23493daf5d5a", func := "loop.example/g00203/laws.FnExactContractFault", spec := "fnExactContractFault", apart := false, narrowed := true }
def FnExactContractFaultUptoSaid : Prop := fnExactContractFaultUptoRow.holds Try.pinned (OpenSpec.upto fnExactContractFaultSpec)

/-- 'laws.FnExactShardsOf', WHERE WHAT IT READS IS OF BULK AT MOST 1048576: true; the input reads as it did. -/
def fnExactShardsOfUptoRow : OpenClaim := { program := "ytcngckkcgpkdoaa", sum := "4a0641b240043a7478a884d924029270e6f7f9cdaaab13d5a26a23493daf5d5a", func := "loop.example/g00203/laws.FnExactShardsOf", spec := "fnExactShardsOf", apart := false, narrowed := true }
def FnExactShardsOfUptoSaid : Prop := fnExactShardsOfUptoRow.holds Try.pinned (OpenSpec.upto fnExactShardsOfSpec)

/-- 'laws.FnExactLegsAt', WHERE WHAT IT READS IS OF BULK AT MOST 1048576: true; the input reads as it did. -/
def fnExactLegsAtUptoRow : OpenClaim := { program := "ytcngckkcgpkdoaa", sum := "4a0641b240043a7478a884d924029270e6f7f9cdaaab13d5a26a23493daf5d5a", func := "loop.example/g00203/laws.FnExactLegsAt", spec := "fnExactLegsAt", apart := false, narrowed := true }
def FnExactLegsAtUptoSaid : Prop := fnExactLegsAtUptoRow.holds Try.pinned (OpenSpec.upto fnExactLegsAtSpec)

/-- 'laws.FnExactSumOf', WHERE WHAT IT READS IS OF BULK AT MOST 1048576: true; the input reads as it did. -/
def fnExactSumOfUptoRow : OpenClaim := { program := "ytcngckkcgpkdoaa", sum := "4a0641b240043a7478a884d924029270e6f7f9cdaaab13d5a26a23493daf5d5a", func := "loop.example/g00203/laws.FnExactSumOf", spec := "fnExactSumOf", apart := false, narrowed := true }
def FnExactSumOfUptoSaid : Prop := fnExactSumOfUptoRow.holds Try.pinned (OpenSpec.upto fnExactSumOfSpec)

/-- 'laws.FnExactReverseOf', WHERE WHAT IT READS IS OF BULK AT MOST 1048576: true; the input reads as it did. -/
def fnExactReverseOfUptoRow : OpenClaim := { program := "ytcngckkcgpkdoaa", sum := "4a0641b240043a7478a884d924029270e6f7f9cdaaab13d5a26a23493daf5d5a", func := "loop.example/g00203/laws.FnExactReverseOf", spec := "fnExactReverseOf", apart := false, narrowed := true }
def FnExactReverseOfUptoSaid : Prop := fnExactReverseOfUptoRow.holds Try.pinned (OpenSpec.upto fnExactReverseOfSpec)

/-- 'laws.FnExactSameContract', WHERE WHAT IT READS IS OF BULK AT MOST 1048576: true; the input reads as it did. -/
def fnExactSameContractUptoRow : OpenClaim := { program := "ytcngckkcgpkdoaa", sum := "4a0641b240043a7478a884d924029270e6f7f9cdaaab13d5a26a23493daf5d5a", func := "loop.example/g00203/laws.FnExactSameContract", spec := "fnExactSameContract", apart := false, narrowed := true }
def FnExactSameContractUptoSaid : Prop := fnExactSameContractUptoRow.holds Try.pinned (OpenSpec.upto fnExactSameContractSpec)

end Rows
end Go.Proofs.Ytcngckkcgpkdoaa

/-
  No cell of these rows narrows 'for every input' (looked for: loops, veiled, ifaces, maps, wideKeys, modest, calm, conditions, laid).
  DERIVED. THE GIVEN ROWS OF THIS SEAT. 8 by the template 'for every input the law returns true; each argument reads behind the call as it read before'; 0 by the template 'total and deterministic' (their statements: YthikaieobdhckaaTotals.lean).
  GIVEN WITH THE SEED: the statements are not yours to turn. If you find one false, say at which input.
  Laid BY PROGRAM, IN A SANDBOX (cutbox-rows.mjs): the forced cells as the released guide's own fill.sh prints them over the translation abaea08f7fc2cfb7… (all of the seat's roots in one cut). By AI agents, Wed Nov 11 2026. No macro, syntax, notation, axiom, sorry.
-/
import Derived.Test.YthikaieobdhckaaChecked
import GoSem.Claim
import GoSem.ClaimJoined
import GoSem.ClaimMapViews
import Derived.JoinedTies
import Derived.KernelRfl
namespace Go.Proofs.Ythikaieobdhckaa
/- THE CELL 'sum', in the pinned program and in every row, IS THE sha256 OF THE DUMP (.gsa) THAT YthikaieobdhckaaProg.lean LOADS. Nothing in Lean hashes anything: it is a label: what it is worth is what the hold of that sum in a sandbox is worth. -/
noncomputable def Try.pinned : Pinned := { name := "ythikaieobdhckaa", sum := "abaea08f7fc2cfb72a2c66dfa6e5af9a3465a21a2e31a9f6cfc7759296f9fd02", checked := Try.checked }
namespace Rows
def none {H : Type} : Left H := { results := [], args := [] }

/-- 'laws.FnExactPackNumber': WHATEVER THE INPUT: true; the input reads as it did. -/
def fnExactPackNumberSpec : ChangeSpec := { name := "fnExactPackNumber", fn := fun _ => fun
  | [d] => { results := [.lit (.bool true)], args := [d] }
  | _ => none }
def fnExactPackNumberRow : OpenClaim := { program := "ythikaieobdhckaa", sum := "abaea08f7fc2cfb72a2c66dfa6e5af9a3465a21a2e31a9f6cfc7759296f9fd02", func := "loop.example/g00203/laws.FnExactPackNumber", spec := "fnExactPackNumber", apart := false }
def FnExactPackNumberSaid : Prop := fnExactPackNumberRow.holds Try.pinned (OpenSpec.ofChange fnExactPackNumberSpec)

/-- ITS FALSE NEIGHBOUR: 'it returns false'. Refute it at one input. -/
def fnExactPackNumberWrong : ChangeSpec := { name := "fnExactPackNumber", fn := fun _ => fun
  | [d] => { results := [.lit (.bool false)], args := [d] }
  | _ => none }
def FnExactPackNumberWrongFalsely : Prop := fnExactPackNumberRow.holds Try.pinned (OpenSpec.ofChange fnExactPackNumberWrong)

/-- 'laws.FnExactUnpackNumber': WHATEVER THE INPUT: true; the input reads as it did. -/
def fnExactUnpackNumberSpec : ChangeSpec := { name := "fnExactUnpackNumber", fn := fun _ => fun
  | [d] => { results := [.lit (.bool true)], args := [d] }
  | _ => none }
def fnExactUnpackNumberRow : OpenClaim := { program := "ythikaieobdhckaa", sum := "abaea08f7fc2cfb72a2c66dfa6e5af9a3465a21a2e31a9f6cfc7759296f9fd02", func := "loop.example/g00203/laws.FnExactUnpackNumber", spec := "fnExactUnpackNumber", apart := false }
def FnExactUnpackNumberSaid : Prop := fnExactUnpackNumberRow.holds Try.pinned (OpenSpec.ofChange fnExactUnpackNumberSpec)

/-- ITS FALSE NEIGHBOUR: 'it returns false'. Refute it at one input. -/
def fnExactUnpackNumberWrong : ChangeSpec := { name := "fnExactUnpackNumber", fn := fun _ => fun
  | [d] => { results := [.lit (.bool false)], args := [d] }
  | _ => none }
def FnExactUnpackNumberWrongFalsely : Prop := fnExactUnpackNumberRow.holds Try.pinned (OpenSpec.ofChange fnExactUnpackNumberWrong)

/-- 'laws.FnExactPackContract': WHATEVER THE INPUT: true; the input reads as it did. -/
def fnExactPackContractSpec : ChangeSpec := { name := "fnExactPackContract", fn := fun _ => fun
  | [d] => { results := [.lit (.bool true)], args := [d] }
  | _ => none }
def fnExactPackContractRow : OpenClaim := { program := "ythikaieobdhckaa", sum := "abaea08f7fc2cfb72a2c66dfa6e5af9a3465a21a2e31a9f6cfc7759296f9fd02", func := "loop.example/g00203/laws.FnExactPackContract", spec := "fnExactPackContract", apart := false }
def FnExactPackContractSaid : Prop := fnExactPackContractRow.holds Try.pinned (OpenSpec.ofChange fnExactPackContractSpec)

/-- ITS FALSE NEIGHBOUR: 'it returns false'. Refute it at one input. -/
def fnExactPackContractWrong : ChangeSpec := { name := "fnExactPackContract", fn := fun _ => fun
  | [d] => { results := [.lit (.bool false)], args := [d] }
  | _ => none }
def FnExactPackContractWrongFalsely : Prop := fnExactPackContractRow.holds Try.pinned (OpenSpec.ofChange fnExactPackContractWrong)

/-- 'laws.FnExactUnpackContract': WHATEVER THE INPUT: true; the input reads as it did. -/
def fnExactUnpackContractSpec : ChangeSpec := { name := "fnExactUnpackContract", fn := fun _ => fun
  | [d] => { results := [.lit (.bool true)], args := [d] }
  | _ => none }
def fnExactUnpackContractRow : OpenClaim := { program := "ythikaieobdhckaa", sum := "abaea08f7fc2cfb72a2c66dfa6e5af9a3465a21a2e31a9f6cfc7759296f9fd02", func := "loop.example/g00203/laws.FnExactUnpackContract", spec := "fnExactUnpackContract", apart := false }
def FnExactUnpackContractSaid : Prop := fnExactUnpackContractRow.holds Try.pinned (OpenSpec.ofChange fnExactUnpackContractSpec)

/-- ITS FALSE NEIGHBOUR: 'it returns false'. Refute it at one input. -/
def fnExactUnpackContractWrong : ChangeSpec := { name := "fnExactUnpackContract", fn := fun _ => fun
  | [d] => { results := [.lit (.bool false)], args := [d] }
  | _ => none }
def FnExactUnpackContractWrongFalsely : Prop := fnExactUnpackContractRow.holds Try.pinned (OpenSpec.ofChange fnExactUnpackContractWrong)

/-- 'laws.FnExactCheckOf': WHATEVER THE INPUT: true; the input reads as it did. -/
def fnExactCheckOfSpec : ChangeSpec := { name := "fnExactCheckOf", fn := fun _ => fun
  | [d] => { results := [.lit (.bool true)], args := [d] }
  | _ => none }
def fnExactCheckOfRow : OpenClaim := { program := "ythikaieobdhckaa", sum := "abaea08f7fc2cfb72a2c66dfa6e5af9a3465a21a2e31a9f6cfc7759296f9fd02", func := "loop.example/g00203/laws.FnExactCheckOf", spec := "fnExactCheckOf", apart := false }
def FnExactCheckOfSaid : Prop := fnExactCheckOfRow.holds Try.pinned (OpenSpec.ofChange fnExactCheckOfSpec)

/-- ITS FALSE NEIGHBOUR: 'it returns false'. Refute it at one input. -/
def fnExactCheckOfWrong : ChangeSpec := { name := "fnExactCheckOf", fn := fun _ => fun
  | [d] => { results := [.lit (.bool false)], args := [d] }
  | _ => none }
def FnExactCheckOfWrongFalsely : Prop := fnExactCheckOfRow.holds Try.pinned (OpenSpec.ofChange fnExactCheckOfWrong)

/-- 'laws.FnExactFrameRecord': WHATEVER THE INPUT: true; the input reads as it did. -/
def fnExactFrameRecordSpec : ChangeSpec := { name := "fnExactFrameRecord", fn := fun _ => fun
  | [d] => { results := [.lit (.bool true)], args := [d] }
  | _ => none }
def fnExactFrameRecordRow : OpenClaim := { program := "ythikaieobdhckaa", sum := "abaea08f7fc2cfb72a2c66dfa6e5af9a3465a21a2e31a9f6cfc7759296f9fd02", func := "loop.example/g00203/laws.FnExactFrameRecord", spec := "fnExactFrameRecord", apart := false }
def FnExactFrameRecordSaid : Prop := fnExactFrameRecordRow.holds Try.pinned (OpenSpec.ofChange fnExactFrameRecordSpec)

/-- ITS FALSE NEIGHBOUR: 'it returns false'. Refute it at one input. -/
def fnExactFrameRecordWrong : ChangeSpec := { name := "fnExactFrameRecord", fn := fun _ => fun
  | [d] => { results := [.lit (.bool false)], args := [d] }
  | _ => none }
def FnExactFrameRecordWrongFalsely : Prop := fnExactFrameRecordRow.holds Try.pinned (OpenSpec.ofChange fnExactFrameRecordWrong)

/-- 'laws.FnExactUnframeAll': WHATEVER THE INPUT: true; the input reads as it did. -/
def fnExactUnframeAllSpec : ChangeSpec := { name := "fnExactUnframeAll", fn := fun _ => fun
  | [d] => { results := [.lit (.bool true)], args := [d] }
  | _ => none }
def fnExactUnframeAllRow : OpenClaim := { program := "ythikaieobdhckaa", sum := "abaea08f7fc2cfb72a2c66dfa6e5af9a3465a21a2e31a9f6cfc7759296f9fd02", func := "loop.example/g00203/laws.FnExactUnframeAll", spec := "fnExactUnframeAll", apart := false }
def FnExactUnframeAllSaid : Prop := fnExactUnframeAllRow.holds Try.pinned (OpenSpec.ofChange fnExactUnframeAllSpec)

/-- ITS FALSE NEIGHBOUR: 'it returns false'. Refute it at one input. -/
def fnExactUnframeAllWrong : ChangeSpec := { name := "fnExactUnframeAll", fn := fun _ => fun
  | [d] => { results := [.lit (.bool false)], args := [d] }
  | _ => none }
def FnExactUnframeAllWrongFalsely : Prop := fnExactUnframeAllRow.holds Try.pinned (OpenSpec.ofChange fnExactUnframeAllWrong)

/-- 'laws.FnExactPackText': WHATEVER THE INPUT: true; the input reads as it did. -/
def fnExactPackTextSpec : ChangeSpec := { name := "fnExactPackText", fn := fun _ => fun
  | [d] => { results := [.lit (.bool true)], args := [d] }
  | _ => none }
def fnExactPackTextRow : OpenClaim := { program := "ythikaieobdhckaa", sum := "abaea08f7fc2cfb72a2c66dfa6e5af9a3465a21a2e31a9f6cfc7759296f9fd02", func := "loop.example/g00203/laws.FnExactPackText", spec := "fnExactPackText", apart := false }
def FnExactPackTextSaid : Prop := fnExactPackTextRow.holds Try.pinned (OpenSpec.ofChange fnExactPackTextSpec)

/-- ITS FALSE NEIGHBOUR: 'it returns false'. Refute it at one input. -/
def fnExactPackTextWrong : ChangeSpec := { name := "fnExactPackText", fn := fun _ => fun
  | [d] => { results := [.lit (.bool false)], args := [d] }
  | _ => none }
def FnExactPackTextWrongFalsely : Prop := fnExactPackTextRow.holds Try.pinned (OpenSpec.ofChange fnExactPackTextWrong)

/- THE SECOND FORM. 'bulk': how many values and letters a reading holds, each counted each time it is reached (what is shared counts as often as it is met; a slice's spare places count too). A statement '..UptoSaid' is the law's where the arguments, and the package variables that the reading takes, are together of bulk at most 1048576: NARROWER than '..Said'. Prove '..Said' where nothing that the law and all that it calls make is longer than what came in: it says more and counts as full. Else prove '..UptoSaid'. A law counts once. -/
mutual
def uptoBulk {H : Type} : DataW H → Nat
  | .lit (.string bytes) => bytes.length + 1
  | .lit _ => 1
  | .nil => 1
  | .ptr d => uptoBulk d + 1
  | .slice elems spare => uptoBulkAll elems + uptoBulkAll spare + 1
  | .agg parts => uptoBulkAll parts + 1
  | .iface _ d => uptoBulk d + 1
  | .map entries => uptoBulkEntries entries + 1
  | .held _ => 1
def uptoBulkAll {H : Type} : List (DataW H) → Nat
  | [] => 0
  | d :: r => uptoBulk d + uptoBulkAll r
def uptoBulkEntries {H : Type} : List (Lit × DataW H) → Nat
  | [] => 0
  | x :: r => uptoBulkEntry x + uptoBulkEntries r
def uptoBulkEntry {H : Type} : Lit × DataW H → Nat
  | (.string bytes, d) => bytes.length + uptoBulk d + 1
  | (_, d) => uptoBulk d + 1
 end
def uptoSmall : (H : Type) → List (DataW H) → Bool := fun _ ds => decide (uptoBulkAll ds ≤ 1048576)
def OpenSpec.upto (s : _root_.Go.ChangeSpec) : _root_.Go.OpenSpec := { _root_.Go.OpenSpec.ofChange s with cond := some uptoSmall }

/-- 'laws.FnExactPackNumber', WHERE WHAT IT READS IS OF BULK AT MOST 1048576: true; the input reads as it did. -/
def fnExactPackNumberUptoRow : OpenClaim := { program := "ythikaieobdhckaa", sum := "abaea08f7fc2cfb72a2c66dfa6e5af9a3465a21a2e31a9f6cfc7759296f9fd02", func := "loop.example/g00203/laws.FnExactPackNumber", spec := "fnExactPackNumber", apart := false, narrowed := true }
def FnExactPackNumberUptoSaid : Prop := fnExactPackNumberUptoRow.holds Try.pinned (OpenSpec.upto fnExactPackNumberSpec)

/-- 'laws.FnExactUnpackNumber', WHERE WHAT IT READS IS OF BULK AT MOST 1048576: true; the input reads as it did. -/
def fnExactUnpackNumberUptoRow : OpenClaim := { program := "ythikaieobdhckaa", sum := "abaea08f7fc2cfb72a2c66dfa6e5af9a3465a21a2e31a9f6cfc7759296f9fd02", func := "loop.example/g00203/laws.FnExactUnpackNumber", spec := "fnExactUnpackNumber", apart := false, narrowed := true }
def FnExactUnpackNumberUptoSaid : Prop := fnExactUnpackNumberUptoRow.holds Try.pinned (OpenSpec.upto fnExactUnpackNumberSpec)

/-- 'laws.FnExactPackContract', WHERE WHAT IT READS IS OF BULK AT MOST 1048576: true; the input reads as it did. -/
def fnExactPackContractUptoRow : OpenClaim := { program := "ythikaieobdhckaa", sum := "abaea08f7fc2cfb72a2c66dfa6e5af9a3465a21a2e31a9f6cfc7759296f9fd02", func := "loop.example/g00203/laws.FnExactPackContract", spec := "fnExactPackContract", apart := false, narrowed := true }
def FnExactPackContractUptoSaid : Prop := fnExactPackContractUptoRow.holds Try.pinned (OpenSpec.upto fnExactPackContractSpec)

/-- 'laws.FnExactUnpackContract', WHERE WHAT IT READS IS OF BULK AT MOST 1048576: true; the input reads as it did. -/
def fnExactUnpackContractUptoRow : OpenClaim := { program := "ythikaieobdhckaa", sum := "abaea08f7fc2cfb72a2c66dfa6e5af9a3465a21a2e31a9f6cfc7759296f9fd02", func := "loop.example/g00203/laws.FnExactUnpackContract", spec := "fnExactUnpackContract", apart := false, narrowed := true }
def FnExactUnpackContractUptoSaid : Prop := fnExactUnpackContractUptoRow.holds Try.pinned (OpenSpec.upto fnExactUnpackContractSpec)

/-- 'laws.FnExactCheckOf', WHERE WHAT IT READS IS OF BULK AT MOST 1048576: true; the input reads as it did. -/
def fnExactCheckOfUptoRow : OpenClaim := { program := "ythikaieobdhckaa", sum := "abaea08f7fc2cfb72a2c66dfa6e5af9a3465a21a2e31a9f6cfc7759296f9fd02", func := "loop.example/g00203/laws.FnExactCheckOf", spec := "fnExactCheckOf", apart := false, narrowed := true }
def FnExactCheckOfUptoSaid : Prop := fnExactCheckOfUptoRow.holds Try.pinned (OpenSpec.upto fnExactCheckOfSpec)

/-- 'laws.FnExactFrameRecord', WHERE WHAT IT READS IS OF BULK AT MOST 1048576: true; the input reads as it did. -/
def fnExactFrameRecordUptoRow : OpenClaim := { program := "ythikaieobdhckaa", sum := "abaea08f7fc2cfb72a2c66dfa6e5af9a3465a21a2e31a9f6cfc7759296f9fd02", func := "loop.example/g00203/laws.FnExactFrameRecord", spec := "fnExactFrameRecord", apart := false, narrowed := true }
def FnExactFrameRecordUptoSaid : Prop := fnExactFrameRecordUptoRow.holds Try.pinned (OpenSpec.upto fnExactFrameRecordSpec)

/-- 'laws.FnExactUnframeAll', WHERE WHAT IT READS IS OF BULK AT MOST 1048576: true; the input reads as it did. -/
def fnExactUnframeAllUptoRow : OpenClaim := { program := "ythikaieobdhckaa", sum := "abaea08f7fc2cfb72a2c66dfa6e5af9a3465a21a2e31a9f6cfc7759296f9fd02", func := "loop.example/g00203/laws.FnExactUnframeAll", spec := "fnExactUnframeAll", apart := false, narrowed := true }
def FnExactUnframeAllUptoSaid : Prop := fnExactUnframeAllUptoRow.holds Try.pinned (OpenSpec.upto fnExactUnframeAllSpec)

/-- 'laws.FnExactPackText', WHERE WHAT IT READS IS OF BULK AT MOST 1048576: true; the input reads as it did. -/
def fnExactPackTextUptoRow : OpenClaim := { program := "ythikaieobdhckaa", sum := "abaea08f7fc2cfb72a2c66dfa6e5af9a3465a21a2e31a9f6cfc7759296f9fd02", func := "loop.example/g00203/laws.FnExactPackText", spec := "fnExactPackText", apart := false, narrowed := true }
def FnExactPackTextUptoSaid : Prop := fnExactPackTextUptoRow.holds Try.pinned (OpenSpec.upto fnExactPackTextSpec)

end Rows
end Go.Proofs.Ythikaieobdhckaa

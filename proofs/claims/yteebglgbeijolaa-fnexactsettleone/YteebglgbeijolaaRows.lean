/-
  No cell of these rows narrows 'for every input' (looked for: loops, veiled, ifaces, maps, wideKeys, modest, calm, conditions, laid).
  DERIVED. THE GIVEN ROWS OF THIS SEAT. 5 by the template 'for every input the law returns true; each argument reads behind the call as it read before'; 0 by the template 'total and deterministic' (their statements: YteebglgbeijolaaTotals.lean).
  GIVEN WITH THE SEED: the statements are not yours to turn. If you find one false, say at which input.
  Laid BY PROGRAM, IN A SANDBOX (cutbox-rows.mjs): the forced cells as the released guide's own fill.sh prints them over the translation d4c2354ade0925ea… (all of the seat's roots in one cut). By AI agents, Wed Nov 11 2026. No macro, syntax, notation, axiom, sorry.
-/
import Derived.Test.YteebglgbeijolaaChecked
import GoSem.Claim
import GoSem.ClaimJoined
import GoSem.ClaimMapViews
import Derived.JoinedTies
import Derived.KernelRfl
namespace Go.Proofs.Yteebglgbeijolaa
/- THE CELL 'sum', in the pinned program and in every row, IS THE sha256 OF THE DUMP (.gsa) THAT YteebglgbeijolaaProg.lean LOADS. Nothing in Lean hashes anything: it is a label: what it is worth is what the hold of that sum in a sandbox is worth. -/
noncomputable def Try.pinned : Pinned := { name := "yteebglgbeijolaa", sum := "d4c2354ade0925eab8d59c20bfad9d4f74d8c6a37573ff50c8267f4cf7cd0fe1", checked := Try.checked }
namespace Rows
def none {H : Type} : Left H := { results := [], args := [] }

/-- 'laws.FnContracts': WHATEVER THE INPUT: true; the input reads as it did. -/
def fnContractsSpec : ChangeSpec := { name := "fnContracts", fn := fun _ => fun
  | [d] => { results := [.lit (.bool true)], args := [d] }
  | _ => none }
def fnContractsRow : OpenClaim := { program := "yteebglgbeijolaa", sum := "d4c2354ade0925eab8d59c20bfad9d4f74d8c6a37573ff50c8267f4cf7cd0fe1", func := "loop.example/g00203/laws.FnContracts", spec := "fnContracts", plainKeys := false, apart := false }
def FnContractsSaid : Prop := fnContractsRow.holds Try.pinned (OpenSpec.ofChange fnContractsSpec)

/-- ITS FALSE NEIGHBOUR: 'it returns false'. Refute it at one input. -/
def fnContractsWrong : ChangeSpec := { name := "fnContracts", fn := fun _ => fun
  | [d] => { results := [.lit (.bool false)], args := [d] }
  | _ => none }
def FnContractsWrongFalsely : Prop := fnContractsRow.holds Try.pinned (OpenSpec.ofChange fnContractsWrong)

/-- 'laws.FnBytes': WHATEVER THE INPUT: true; the input reads as it did. -/
def fnBytesSpec : ChangeSpec := { name := "fnBytes", fn := fun _ => fun
  | [d] => { results := [.lit (.bool true)], args := [d] }
  | _ => none }
def fnBytesRow : OpenClaim := { program := "yteebglgbeijolaa", sum := "d4c2354ade0925eab8d59c20bfad9d4f74d8c6a37573ff50c8267f4cf7cd0fe1", func := "loop.example/g00203/laws.FnBytes", spec := "fnBytes", plainKeys := false, apart := false }
def FnBytesSaid : Prop := fnBytesRow.holds Try.pinned (OpenSpec.ofChange fnBytesSpec)

/-- ITS FALSE NEIGHBOUR: 'it returns false'. Refute it at one input. -/
def fnBytesWrong : ChangeSpec := { name := "fnBytes", fn := fun _ => fun
  | [d] => { results := [.lit (.bool false)], args := [d] }
  | _ => none }
def FnBytesWrongFalsely : Prop := fnBytesRow.holds Try.pinned (OpenSpec.ofChange fnBytesWrong)

/-- 'laws.FnTables': WHATEVER THE INPUT: true; the input reads as it did. -/
def fnTablesSpec : ChangeSpec := { name := "fnTables", fn := fun _ => fun
  | [d] => { results := [.lit (.bool true)], args := [d] }
  | _ => none }
def fnTablesRow : OpenClaim := { program := "yteebglgbeijolaa", sum := "d4c2354ade0925eab8d59c20bfad9d4f74d8c6a37573ff50c8267f4cf7cd0fe1", func := "loop.example/g00203/laws.FnTables", spec := "fnTables", inPlace := ["internal/bytealg.abigen_runtime_cmpstring", "slices.overlaps[loop.example/g00203/impl.Row]"], unfollowed := true, recurses := true, plainKeys := false, apart := false }
def FnTablesSaid : Prop := fnTablesRow.holds Try.pinned (OpenSpec.ofChange fnTablesSpec)

/-- ITS FALSE NEIGHBOUR: 'it returns false'. Refute it at one input. -/
def fnTablesWrong : ChangeSpec := { name := "fnTables", fn := fun _ => fun
  | [d] => { results := [.lit (.bool false)], args := [d] }
  | _ => none }
def FnTablesWrongFalsely : Prop := fnTablesRow.holds Try.pinned (OpenSpec.ofChange fnTablesWrong)

/-- 'laws.FnCompacts': WHATEVER THE INPUT: true; the input reads as it did. -/
def fnCompactsSpec : ChangeSpec := { name := "fnCompacts", fn := fun _ => fun
  | [d] => { results := [.lit (.bool true)], args := [d] }
  | _ => none }
def fnCompactsRow : OpenClaim := { program := "yteebglgbeijolaa", sum := "d4c2354ade0925eab8d59c20bfad9d4f74d8c6a37573ff50c8267f4cf7cd0fe1", func := "loop.example/g00203/laws.FnCompacts", spec := "fnCompacts", inPlace := ["internal/bytealg.abigen_runtime_cmpstring", "slices.overlaps[loop.example/g00203/impl.Row]"], unfollowed := true, recurses := true, plainKeys := false, apart := false }
def FnCompactsSaid : Prop := fnCompactsRow.holds Try.pinned (OpenSpec.ofChange fnCompactsSpec)

/-- ITS FALSE NEIGHBOUR: 'it returns false'. Refute it at one input. -/
def fnCompactsWrong : ChangeSpec := { name := "fnCompacts", fn := fun _ => fun
  | [d] => { results := [.lit (.bool false)], args := [d] }
  | _ => none }
def FnCompactsWrongFalsely : Prop := fnCompactsRow.holds Try.pinned (OpenSpec.ofChange fnCompactsWrong)

/-- 'laws.FnExactSettleOne': WHATEVER THE INPUT: true; the input reads as it did. -/
def fnExactSettleOneSpec : ChangeSpec := { name := "fnExactSettleOne", fn := fun _ => fun
  | [d1, d2] => { results := [.lit (.bool true)], args := [d1, d2] }
  | _ => none }
def fnExactSettleOneRow : OpenClaim := { program := "yteebglgbeijolaa", sum := "d4c2354ade0925eab8d59c20bfad9d4f74d8c6a37573ff50c8267f4cf7cd0fe1", func := "loop.example/g00203/laws.FnExactSettleOne", spec := "fnExactSettleOne", unfollowed := true, recurses := true, plainKeys := false, apart := false }
def FnExactSettleOneSaid : Prop := fnExactSettleOneRow.holds Try.pinned (OpenSpec.ofChange fnExactSettleOneSpec)

/-- ITS FALSE NEIGHBOUR: 'it returns false'. Refute it at one input. -/
def fnExactSettleOneWrong : ChangeSpec := { name := "fnExactSettleOne", fn := fun _ => fun
  | [d1, d2] => { results := [.lit (.bool false)], args := [d1, d2] }
  | _ => none }
def FnExactSettleOneWrongFalsely : Prop := fnExactSettleOneRow.holds Try.pinned (OpenSpec.ofChange fnExactSettleOneWrong)

/- THE SECOND FORM. 'bulk': how many values and letters a reading holds, each counted each time it is reached (what is shared counts as often as it is met; a slice's spare places count too). A statement '..UptoSaid' is the law's where the arguments, and the package variables that the reading takes, are together of bulk at most 1048576: NARROWER than '..Said'. Prove '..Said' where nothing that the law and all that it calls make is longer than what came in: it says more and counts as full. Else prove '..UptoSaid'. A law counts once. -/
mutual
def uptoBulk {H : Type} : DataW H → Nat
  | .lit (.string bytes) => bytes.length + 1
  | .lit _ => 1
  | .nil => 1
  | .ptr d => uptoBulk d + 1
  | .slice elems spare => uptoBulkAll elems + uptoBulkAll spare + 1
  | .agg parts => uptoBulkAll parts + 1
  | .iface _ d => uptoBulk d + 1
  | .map entries => uptoBulkEntries entries + 1
  | .held _ => 1
def uptoBulkAll {H : Type} : List (DataW H) → Nat
  | [] => 0
  | d :: r => uptoBulk d + uptoBulkAll r
def uptoBulkEntries {H : Type} : List (Lit × DataW H) → Nat
  | [] => 0
  | x :: r => uptoBulkEntry x + uptoBulkEntries r
def uptoBulkEntry {H : Type} : Lit × DataW H → Nat
  | (.string bytes, d) => bytes.length + uptoBulk d + 1
  | (_, d) => uptoBulk d + 1
 end
def uptoSmall : (H : Type) → List (DataW H) → Bool := fun _ ds => decide (uptoBulkAll ds ≤ 1048576)
def OpenSpec.upto (s : _root_.Go.ChangeSpec) : _root_.Go.OpenSpec := { _root_.Go.OpenSpec.ofChange s with cond := some uptoSmall }

/-- 'laws.FnContracts', WHERE WHAT IT READS IS OF BULK AT MOST 1048576: true; the input reads as it did. -/
def fnContractsUptoRow : OpenClaim := { program := "yteebglgbeijolaa", sum := "d4c2354ade0925eab8d59c20bfad9d4f74d8c6a37573ff50c8267f4cf7cd0fe1", func := "loop.example/g00203/laws.FnContracts", spec := "fnContracts", plainKeys := false, apart := false, narrowed := true }
def FnContractsUptoSaid : Prop := fnContractsUptoRow.holds Try.pinned (OpenSpec.upto fnContractsSpec)

/-- 'laws.FnBytes', WHERE WHAT IT READS IS OF BULK AT MOST 1048576: true; the input reads as it did. -/
def fnBytesUptoRow : OpenClaim := { program := "yteebglgbeijolaa", sum := "d4c2354ade0925eab8d59c20bfad9d4f74d8c6a37573ff50c8267f4cf7cd0fe1", func := "loop.example/g00203/laws.FnBytes", spec := "fnBytes", plainKeys := false, apart := false, narrowed := true }
def FnBytesUptoSaid : Prop := fnBytesUptoRow.holds Try.pinned (OpenSpec.upto fnBytesSpec)

/-- 'laws.FnTables', WHERE WHAT IT READS IS OF BULK AT MOST 1048576: true; the input reads as it did. -/
def fnTablesUptoRow : OpenClaim := { program := "yteebglgbeijolaa", sum := "d4c2354ade0925eab8d59c20bfad9d4f74d8c6a37573ff50c8267f4cf7cd0fe1", func := "loop.example/g00203/laws.FnTables", spec := "fnTables", inPlace := ["internal/bytealg.abigen_runtime_cmpstring", "slices.overlaps[loop.example/g00203/impl.Row]"], unfollowed := true, recurses := true, plainKeys := false, apart := false, narrowed := true }
def FnTablesUptoSaid : Prop := fnTablesUptoRow.holds Try.pinned (OpenSpec.upto fnTablesSpec)

/-- 'laws.FnCompacts', WHERE WHAT IT READS IS OF BULK AT MOST 1048576: true; the input reads as it did. -/
def fnCompactsUptoRow : OpenClaim := { program := "yteebglgbeijolaa", sum := "d4c2354ade0925eab8d59c20bfad9d4f74d8c6a37573ff50c8267f4cf7cd0fe1", func := "loop.example/g00203/laws.FnCompacts", spec := "fnCompacts", inPlace := ["internal/bytealg.abigen_runtime_cmpstring", "slices.overlaps[loop.example/g00203/impl.Row]"], unfollowed := true, recurses := true, plainKeys := false, apart := false, narrowed := true }
def FnCompactsUptoSaid : Prop := fnCompactsUptoRow.holds Try.pinned (OpenSpec.upto fnCompactsSpec)

/-- 'laws.FnExactSettleOne', WHERE WHAT IT READS IS OF BULK AT MOST 1048576: true; the input reads as it did. -/
def fnExactSettleOneUptoRow : OpenClaim := { program := "yteebglgbeijolaa", sum := "d4c2354ade0925eab8d59c20bfad9d4f74d8c6a37573ff50c8267f4cf7cd0fe1", func := "loop.example/g00203/laws.FnExactSettleOne", spec := "fnExactSettleOne", unfollowed := true, recurses := true, plainKeys := false, apart := false, narrowed := true }
def FnExactSettleOneUptoSaid : Prop := fnExactSettleOneUptoRow.holds Try.pinned (OpenSpec.upto fnExactSettleOneSpec)

end Rows
end Go.Proofs.Yteebglgbeijolaa

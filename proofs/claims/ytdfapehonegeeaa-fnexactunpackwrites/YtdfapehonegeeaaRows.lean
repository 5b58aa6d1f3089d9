/-
  No cell of these rows narrows 'for every input' (looked for: loops, veiled, ifaces, maps, wideKeys, modest, calm, conditions, laid).
  DERIVED. THE GIVEN ROWS OF THIS SEAT. 8 by the template 'for every input the law returns true; each argument reads behind the call as it read before'; 0 by the template 'total and deterministic' (their statements: YtdfapehonegeeaaTotals.lean).
  GIVEN WITH THE SEED: the statements are not yours to turn. If you find one false, say at which input.
  Laid BY PROGRAM, IN A SANDBOX (cutbox-rows.mjs): the forced cells as the released guide's own fill.sh prints them over the translation ef23fb5d77a62af6… (all of the seat's roots in one cut). By AI agents, Wed Nov 11 2026. No macro, syntax, notation, axiom, sorry.
-/
import Derived.Test.YtdfapehonegeeaaChecked
import GoSem.Claim
import GoSem.ClaimJoined
import GoSem.ClaimMapViews
import Derived.JoinedTies
import Derived.KernelRfl
namespace Go.Proofs.Ytdfapehonegeeaa
/- THE CELL 'sum', in the pinned program and in every row, IS THE sha256 OF THE DUMP (.gsa) THAT YtdfapehonegeeaaProg.lean LOADS. Nothing in Lean hashes anything: it is a label: what it is worth is what the hold of that sum in a sandbox is worth. -/
noncomputable def Try.pinned : Pinned := { name := "ytdfapehonegeeaa", sum := "ef23fb5d77a62af6e1d8bc4760944a156f58e914e2958880c585d5d25f246df9", checked := Try.checked }
namespace Rows
def none {H : Type} : Left H := { results := [], args := [] }

/-- 'laws.FnTables': WHATEVER THE INPUT: true; the input reads as it did. -/
def fnTablesSpec : ChangeSpec := { name := "fnTables", fn := fun _ => fun
  | [d] => { results := [.lit (.bool true)], args := [d] }
  | _ => none }
def fnTablesRow : OpenClaim := { program := "ytdfapehonegeeaa", sum := "ef23fb5d77a62af6e1d8bc4760944a156f58e914e2958880c585d5d25f246df9", func := "loop.example/g00203/laws.FnTables", spec := "fnTables", inPlace := ["internal/bytealg.abigen_runtime_cmpstring", "slices.overlaps[loop.example/g00203/impl.Row]"], unfollowed := true, recurses := true, apart := false }
def FnTablesSaid : Prop := fnTablesRow.holds Try.pinned (OpenSpec.ofChange fnTablesSpec)

/-- ITS FALSE NEIGHBOUR: 'it returns false'. Refute it at one input. -/
def fnTablesWrong : ChangeSpec := { name := "fnTables", fn := fun _ => fun
  | [d] => { results := [.lit (.bool false)], args := [d] }
  | _ => none }
def FnTablesWrongFalsely : Prop := fnTablesRow.holds Try.pinned (OpenSpec.ofChange fnTablesWrong)

/-- 'laws.FnCompacts': WHATEVER THE INPUT: true; the input reads as it did. -/
def fnCompactsSpec : ChangeSpec := { name := "fnCompacts", fn := fun _ => fun
  | [d] => { results := [.lit (.bool true)], args := [d] }
  | _ => none }
def fnCompactsRow : OpenClaim := { program := "ytdfapehonegeeaa", sum := "ef23fb5d77a62af6e1d8bc4760944a156f58e914e2958880c585d5d25f246df9", func := "loop.example/g00203/laws.FnCompacts", spec := "fnCompacts", inPlace := ["internal/bytealg.abigen_runtime_cmpstring", "slices.overlaps[loop.example/g00203/impl.Row]"], unfollowed := true, recurses := true, apart := false }
def FnCompactsSaid : Prop := fnCompactsRow.holds Try.pinned (OpenSpec.ofChange fnCompactsSpec)

/-- ITS FALSE NEIGHBOUR: 'it returns false'. Refute it at one input. -/
def fnCompactsWrong : ChangeSpec := { name := "fnCompacts", fn := fun _ => fun
  | [d] => { results := [.lit (.bool false)], args := [d] }
  | _ => none }
def FnCompactsWrongFalsely : Prop := fnCompactsRow.holds Try.pinned (OpenSpec.ofChange fnCompactsWrong)

/-- 'laws.FnExactMergeTables': WHATEVER THE INPUT: true; the input reads as it did. -/
def fnExactMergeTablesSpec : ChangeSpec := { name := "fnExactMergeTables", fn := fun _ => fun
  | [d] => { results := [.lit (.bool true)], args := [d] }
  | _ => none }
def fnExactMergeTablesRow : OpenClaim := { program := "ytdfapehonegeeaa", sum := "ef23fb5d77a62af6e1d8bc4760944a156f58e914e2958880c585d5d25f246df9", func := "loop.example/g00203/laws.FnExactMergeTables", spec := "fnExactMergeTables", inPlace := ["internal/bytealg.abigen_runtime_cmpstring", "slices.overlaps[loop.example/g00203/impl.Row]"], unfollowed := true, recurses := true, apart := false }
def FnExactMergeTablesSaid : Prop := fnExactMergeTablesRow.holds Try.pinned (OpenSpec.ofChange fnExactMergeTablesSpec)

/-- ITS FALSE NEIGHBOUR: 'it returns false'. Refute it at one input. -/
def fnExactMergeTablesWrong : ChangeSpec := { name := "fnExactMergeTables", fn := fun _ => fun
  | [d] => { results := [.lit (.bool false)], args := [d] }
  | _ => none }
def FnExactMergeTablesWrongFalsely : Prop := fnExactMergeTablesRow.holds Try.pinned (OpenSpec.ofChange fnExactMergeTablesWrong)

/-- 'laws.FnExactCompactTable': WHATEVER THE INPUT: true; the input reads as it did. -/
def fnExactCompactTableSpec : ChangeSpec := { name := "fnExactCompactTable", fn := fun _ => fun
  | [d1, d2] => { results := [.lit (.bool true)], args := [d1, d2] }
  | _ => none }
def fnExactCompactTableRow : OpenClaim := { program := "ytdfapehonegeeaa", sum := "ef23fb5d77a62af6e1d8bc4760944a156f58e914e2958880c585d5d25f246df9", func := "loop.example/g00203/laws.FnExactCompactTable", spec := "fnExactCompactTable", inPlace := ["internal/bytealg.abigen_runtime_cmpstring", "slices.overlaps[loop.example/g00203/impl.Row]"], unfollowed := true, recurses := true, apart := false }
def FnExactCompactTableSaid : Prop := fnExactCompactTableRow.holds Try.pinned (OpenSpec.ofChange fnExactCompactTableSpec)

/-- ITS FALSE NEIGHBOUR: 'it returns false'. Refute it at one input. -/
def fnExactCompactTableWrong : ChangeSpec := { name := "fnExactCompactTable", fn := fun _ => fun
  | [d1, d2] => { results := [.lit (.bool false)], args := [d1, d2] }
  | _ => none }
def FnExactCompactTableWrongFalsely : Prop := fnExactCompactTableRow.holds Try.pinned (OpenSpec.ofChange fnExactCompactTableWrong)

/-- 'laws.FnExactWritesFault': WHATEVER THE INPUT: true; the input reads as it did. -/
def fnExactWritesFaultSpec : ChangeSpec := { name := "fnExactWritesFault", fn := fun _ => fun
  | [d] => { results := [.lit (.bool true)], args := [d] }
  | _ => none }
def fnExactWritesFaultRow : OpenClaim := { program := "ytdfapehonegeeaa", sum := "ef23fb5d77a62af6e1d8bc4760944a156f58e914e2958880c585d5d25f246df9", func := "loop.example/g00203/laws.FnExactWritesFault", spec := "fnExactWritesFault", unfollowed := true, recurses := true, apart := false }
def FnExactWritesFaultSaid : Prop := fnExactWritesFaultRow.holds Try.pinned (OpenSpec.ofChange fnExactWritesFaultSpec)

/-- ITS FALSE NEIGHBOUR: 'it returns false'. Refute it at one input. -/
def fnExactWritesFaultWrong : ChangeSpec := { name := "fnExactWritesFault", fn := fun _ => fun
  | [d] => { results := [.lit (.bool false)], args := [d] }
  | _ => none }
def FnExactWritesFaultWrongFalsely : Prop := fnExactWritesFaultRow.holds Try.pinned (OpenSpec.ofChange fnExactWritesFaultWrong)

/-- 'laws.FnExactPackWrites': WHATEVER THE INPUT: true; the input reads as it did. -/
def fnExactPackWritesSpec : ChangeSpec := { name := "fnExactPackWrites", fn := fun _ => fun
  | [d1, d2] => { results := [.lit (.bool true)], args := [d1, d2] }
  | _ => none }
def fnExactPackWritesRow : OpenClaim := { program := "ytdfapehonegeeaa", sum := "ef23fb5d77a62af6e1d8bc4760944a156f58e914e2958880c585d5d25f246df9", func := "loop.example/g00203/laws.FnExactPackWrites", spec := "fnExactPackWrites", unfollowed := true, recurses := true, apart := false }
def FnExactPackWritesSaid : Prop := fnExactPackWritesRow.holds Try.pinned (OpenSpec.ofChange fnExactPackWritesSpec)

/-- ITS FALSE NEIGHBOUR: 'it returns false'. Refute it at one input. -/
def fnExactPackWritesWrong : ChangeSpec := { name := "fnExactPackWrites", fn := fun _ => fun
  | [d1, d2] => { results := [.lit (.bool false)], args := [d1, d2] }
  | _ => none }
def FnExactPackWritesWrongFalsely : Prop := fnExactPackWritesRow.holds Try.pinned (OpenSpec.ofChange fnExactPackWritesWrong)

/-- 'laws.FnExactUnpackWrites': WHATEVER THE INPUT: true; the input reads as it did. -/
def fnExactUnpackWritesSpec : ChangeSpec := { name := "fnExactUnpackWrites", fn := fun _ => fun
  | [d] => { results := [.lit (.bool true)], args := [d] }
  | _ => none }
def fnExactUnpackWritesRow : OpenClaim := { program := "ytdfapehonegeeaa", sum := "ef23fb5d77a62af6e1d8bc4760944a156f58e914e2958880c585d5d25f246df9", func := "loop.example/g00203/laws.FnExactUnpackWrites", spec := "fnExactUnpackWrites", unfollowed := true, recurses := true, apart := false }
def FnExactUnpackWritesSaid : Prop := fnExactUnpackWritesRow.holds Try.pinned (OpenSpec.ofChange fnExactUnpackWritesSpec)

/-- ITS FALSE NEIGHBOUR: 'it returns false'. Refute it at one input. -/
def fnExactUnpackWritesWrong : ChangeSpec := { name := "fnExactUnpackWrites", fn := fun _ => fun
  | [d] => { results := [.lit (.bool false)], args := [d] }
  | _ => none }
def FnExactUnpackWritesWrongFalsely : Prop := fnExactUnpackWritesRow.holds Try.pinned (OpenSpec.ofChange fnExactUnpackWritesWrong)

/-- 'laws.FnExactNewEngine': WHATEVER THE INPUT: true; the input reads as it did. -/
def fnExactNewEngineSpec : ChangeSpec := { name := "fnExactNewEngine", fn := fun _ => fun
  | [d] => { results := [.lit (.bool true)], args := [d] }
  | _ => none }
def fnExactNewEngineRow : OpenClaim := { program := "ytdfapehonegeeaa", sum := "ef23fb5d77a62af6e1d8bc4760944a156f58e914e2958880c585d5d25f246df9", func := "loop.example/g00203/laws.FnExactNewEngine", spec := "fnExactNewEngine", apart := false }
def FnExactNewEngineSaid : Prop := fnExactNewEngineRow.holds Try.pinned (OpenSpec.ofChange fnExactNewEngineSpec)

/-- ITS FALSE NEIGHBOUR: 'it returns false'. Refute it at one input. -/
def fnExactNewEngineWrong : ChangeSpec := { name := "fnExactNewEngine", fn := fun _ => fun
  | [d] => { results := [.lit (.bool false)], args := [d] }
  | _ => none }
def FnExactNewEngineWrongFalsely : Prop := fnExactNewEngineRow.holds Try.pinned (OpenSpec.ofChange fnExactNewEngineWrong)

/- THE SECOND FORM. 'bulk': how many values and letters a reading holds, each counted each time it is reached (what is shared counts as often as it is met; a slice's spare places count too). A statement '..UptoSaid' is the law's where the arguments, and the package variables that the reading takes, are together of bulk at most 1048576: NARROWER than '..Said'. Prove '..Said' where nothing that the law and all that it calls make is longer than what came in: it says more and counts as full. Else prove '..UptoSaid'. A law counts once. -/
mutual
def uptoBulk {H : Type} : DataW H → Nat
  | .lit (.string bytes) => bytes.length + 1
  | .lit _ => 1
  | .nil => 1
  | .ptr d => uptoBulk d + 1
  | .slice elems spare => uptoBulkAll elems + uptoBulkAll spare + 1
  | .agg parts => uptoBulkAll parts + 1
  | .iface _ d => uptoBulk d + 1
  | .map entries => uptoBulkEntries entries + 1
  | .held _ => 1
def uptoBulkAll {H : Type} : List (DataW H) → Nat
  | [] => 0
  | d :: r => uptoBulk d + uptoBulkAll r
def uptoBulkEntries {H : Type} : List (Lit × DataW H) → Nat
  | [] => 0
  | x :: r => uptoBulkEntry x + uptoBulkEntries r
def uptoBulkEntry {H : Type} : Lit × DataW H → Nat
  | (.string bytes, d) => bytes.length + uptoBulk d + 1
  | (_, d) => uptoBulk d + 1
 end
def uptoSmall : (H : Type) → List (DataW H) → Bool := fun _ ds => decide (uptoBulkAll ds ≤ 1048576)
def OpenSpec.upto (s : _root_.Go.ChangeSpec) : _root_.Go.OpenSpec := { _root_.Go.OpenSpec.ofChange s with cond := some uptoSmall }

/-- 'laws.FnTables', WHERE WHAT IT READS IS OF BULK AT MOST 1048576: true; the input reads as it did. -/
def fnTablesUptoRow : OpenClaim := { program := "ytdfapehonegeeaa", sum := "ef23fb5d77a62af6e1d8bc4760944a156f58e914e2958880c585d5d25f246df9", func := "loop.example/g00203/laws.FnTables", spec := "fnTables", inPlace := ["internal/bytealg.abigen_runtime_cmpstring", "slices.overlaps[loop.example/g00203/impl.Row]"], unfollowed := true, recurses := true, apart := false, narrowed := true }
def FnTablesUptoSaid : Prop := fnTablesUptoRow.holds Try.pinned (OpenSpec.upto fnTablesSpec)

/-- 'laws.FnCompacts', WHERE WHAT IT READS IS OF BULK AT MOST 1048576: true; the input reads as it did. -/
def fnCompactsUptoRow : OpenClaim := { program := "ytdfapehonegeeaa", sum := "ef23fb5d77a62af6e1d8bc4760944a156f58e914e2958880c585d5d25f246df9", func := "loop.example/g00203/laws.FnCompacts", spec := "fnCompacts", inPlace := ["internal/bytealg.abigen_runtime_cmpstring", "slices.overlaps[loop.example/g00203/impl.Row]"], unfollowed := true, recurses := true, apart := false, narrowed := true }
def FnCompactsUptoSaid : Prop := fnCompactsUptoRow.holds Try.pinned (OpenSpec.upto fnCompactsSpec)

/-- 'laws.FnExactMergeTables', WHERE WHAT IT READS IS OF BULK AT MOST 1048576: true; the input reads as it did. -/
def fnExactMergeTablesUptoRow : OpenClaim := { program := "ytdfapehonegeeaa", sum := "ef23fb5d77a62af6e1d8bc4760944a156f58e914e2958880c585d5d25f246df9", func := "loop.example/g00203/laws.FnExactMergeTables", spec := "fnExactMergeTables", inPlace := ["internal/bytealg.abigen_runtime_cmpstring", "slices.overlaps[loop.example/g00203/impl.Row]"], unfollowed := true, recurses := true, apart := false, narrowed := true }
def FnExactMergeTablesUptoSaid : Prop := fnExactMergeTablesUptoRow.holds Try.pinned (OpenSpec.upto fnExactMergeTablesSpec)

/-- 'laws.FnExactCompactTable', WHERE WHAT IT READS IS OF BULK AT MOST 1048576: true; the input reads as it did. -/
def fnExactCompactTableUptoRow : OpenClaim := { program := "ytdfapehonegeeaa", sum := "ef23fb5d77a62af6e1d8bc4760944a156f58e914e2958880c585d5d25f246df9", func := "loop.example/g00203/laws.FnExactCompactTable", spec := "fnExactCompactTable", inPlace := ["internal/bytealg.abigen_runtime_cmpstring", "slices.overlaps[loop.example/g00203/impl.Row]"], unfollowed := true, recurses := true, apart := false, narrowed := true }
def FnExactCompactTableUptoSaid : Prop := fnExactCompactTableUptoRow.holds Try.pinned (OpenSpec.upto fnExactCompactTableSpec)

/-- 'laws.FnExactWritesFault', WHERE WHAT IT READS IS OF BULK AT MOST 1048576: true; the input reads as it did. -/
def fnExactWritesFaultUptoRow : OpenClaim := { program := "ytdfapehonegeeaa", sum := "ef23fb5d77a62af6e1d8bc4760944a156f58e914e2958880c585d5d25f246df9", func := "loop.example/g00203/laws.FnExactWritesFault", spec := "fnExactWritesFault", unfollowed := true, recurses := true, apart := false, narrowed := true }
def FnExactWritesFaultUptoSaid : Prop := fnExactWritesFaultUptoRow.holds Try.pinned (OpenSpec.upto fnExactWritesFaultSpec)

/-- 'laws.FnExactPackWrites', WHERE WHAT IT READS IS OF BULK AT MOST 1048576: true; the input reads as it did. -/
def fnExactPackWritesUptoRow : OpenClaim := { program := "ytdfapehonegeeaa", sum := "ef23fb5d77a62af6e1d8bc4760944a156f58e914e2958880c585d5d25f246df9", func := "loop.example/g00203/laws.FnExactPackWrites", spec := "fnExactPackWrites", unfollowed := true, recurses := true, apart := false, narrowed := true }
def FnExactPackWritesUptoSaid : Prop := fnExactPackWritesUptoRow.holds Try.pinned (OpenSpec.upto fnExactPackWritesSpec)

/-- 'laws.FnExactUnpackWrites', WHERE WHAT IT READS IS OF BULK AT MOST 1048576: true; the input reads as it did. -/
def fnExactUnpackWritesUptoRow : OpenClaim := { program := "ytdfapehonegeeaa", sum := "ef23fb5d77a62af6e1d8bc4760944a156f58e914e2958880c585d5d25f246df9", func := "loop.example/g00203/laws.FnExactUnpackWrites", spec := "fnExactUnpackWrites", unfollowed := true, recurses := true, apart := false, narrowed := true }
def FnExactUnpackWritesUptoSaid : Prop := fnExactUnpackWritesUptoRow.holds Try.pinned (OpenSpec.upto fnExactUnpackWritesSpec)

/-- 'laws.FnExactNewEngine', WHERE WHAT IT READS IS OF BULK AT MOST 1048576: true; the input reads as it did. -/
def fnExactNewEngineUptoRow : OpenClaim := { program := "ytdfapehonegeeaa", sum := "ef23fb5d77a62af6e1d8bc4760944a156f58e914e2958880c585d5d25f246df9", func := "loop.example/g00203/laws.FnExactNewEngine", spec := "fnExactNewEngine", apart := false, narrowed := true }
def FnExactNewEngineUptoSaid : Prop := fnExactNewEngineUptoRow.holds Try.pinned (OpenSpec.upto fnExactNewEngineSpec)

end Rows
end Go.Proofs.Ytdfapehonegeeaa

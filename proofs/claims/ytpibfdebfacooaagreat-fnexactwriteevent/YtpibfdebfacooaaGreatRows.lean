/-
  No cell of these rows narrows 'for every input' (looked for: loops, veiled, ifaces, maps, wideKeys, modest, calm, conditions, laid).
  DERIVED. THE GIVEN ROWS OF THIS SEAT. 4 by the template 'for every input the law returns true; each argument reads behind the call as it read before'; 0 by the template 'total and deterministic' (their statements: YtpibfdebfacooaaGreatTotals.lean).
  GIVEN WITH THE SEED: the statements are not yours to turn. If you find one false, say at which input.
  Laid BY PROGRAM, IN A SANDBOX (cutbox-rows.mjs): the forced cells as the released guide's own fill.sh prints them over the translation f489dcf8b76e4efa… (all of the seat's roots in one cut). By AI agents, Wed Nov 11 2026. No macro, syntax, notation, axiom, sorry.
-/
import Derived.Test.YtpibfdebfacooaaGreatChecked
import GoSem.Claim
import GoSem.ClaimJoined
import GoSem.ClaimMapViews
import Derived.JoinedTies
import Derived.KernelRfl
namespace Go.Proofs.YtpibfdebfacooaaGreat
/- THE CELL 'sum', in the pinned program and in every row, IS THE sha256 OF THE DUMP (.gsa) THAT YtpibfdebfacooaaGreatProg.lean LOADS. Nothing in Lean hashes anything: it is a label: what it is worth is what the hold of that sum in a sandbox is worth. -/
noncomputable def Tryz.pinned : Pinned := { name := "ytpibfdebfacooaagreat", sum := "f489dcf8b76e4efaa2be257accf7b3781bf5e8dd1f2b49d0ddb3e110918d7a45", checked := Tryz.checked }
namespace Rows
def none {H : Type} : Left H := { results := [], args := [] }

/-- 'laws.FnExactJournalFault': WHATEVER THE INPUT: true; the input reads as it did. -/
def fnExactJournalFaultSpec : ChangeSpec := { name := "fnExactJournalFault", fn := fun _ => fun
  | [d] => { results := [.lit (.bool true)], args := [d] }
  | _ => none }
def fnExactJournalFaultRow : OpenClaim := { program := "ytpibfdebfacooaagreat", sum := "f489dcf8b76e4efaa2be257accf7b3781bf5e8dd1f2b49d0ddb3e110918d7a45", func := "loop.example/g00203/laws.FnExactJournalFault", spec := "fnExactJournalFault", inPlace := ["slices.overlaps[loop.example/g00203/impl.Mark]", "slices.overlaps[loop.example/g00203/impl.Contract]"], unfollowed := true, recurses := true, plainKeys := false, apart := false }
def FnExactJournalFaultSaid : Prop := fnExactJournalFaultRow.holds Tryz.pinned (OpenSpec.ofChange fnExactJournalFaultSpec)

/-- ITS FALSE NEIGHBOUR: 'it returns false'. Refute it at one input. -/
def fnExactJournalFaultWrong : ChangeSpec := { name := "fnExactJournalFault", fn := fun _ => fun
  | [d] => { results := [.lit (.bool false)], args := [d] }
  | _ => none }
def FnExactJournalFaultWrongFalsely : Prop := fnExactJournalFaultRow.holds Tryz.pinned (OpenSpec.ofChange fnExactJournalFaultWrong)

/-- 'laws.FnExactReplayJournal': WHATEVER THE INPUT: true; the input reads as it did. -/
def fnExactReplayJournalSpec : ChangeSpec := { name := "fnExactReplayJournal", fn := fun _ => fun
  | [d] => { results := [.lit (.bool true)], args := [d] }
  | _ => none }
def fnExactReplayJournalRow : OpenClaim := { program := "ytpibfdebfacooaagreat", sum := "f489dcf8b76e4efaa2be257accf7b3781bf5e8dd1f2b49d0ddb3e110918d7a45", func := "loop.example/g00203/laws.FnExactReplayJournal", spec := "fnExactReplayJournal", inPlace := ["slices.overlaps[loop.example/g00203/impl.Mark]", "slices.overlaps[loop.example/g00203/impl.Contract]"], unfollowed := true, recurses := true, plainKeys := false, apart := false }
def FnExactReplayJournalSaid : Prop := fnExactReplayJournalRow.holds Tryz.pinned (OpenSpec.ofChange fnExactReplayJournalSpec)

/-- ITS FALSE NEIGHBOUR: 'it returns false'. Refute it at one input. -/
def fnExactReplayJournalWrong : ChangeSpec := { name := "fnExactReplayJournal", fn := fun _ => fun
  | [d] => { results := [.lit (.bool false)], args := [d] }
  | _ => none }
def FnExactReplayJournalWrongFalsely : Prop := fnExactReplayJournalRow.holds Tryz.pinned (OpenSpec.ofChange fnExactReplayJournalWrong)

/-- 'laws.FnExactWriteEvent': WHATEVER THE INPUT: true; the input reads as it did. -/
def fnExactWriteEventSpec : ChangeSpec := { name := "fnExactWriteEvent", fn := fun _ => fun
  | [d1, d2, d3] => { results := [.lit (.bool true)], args := [d1, d2, d3] }
  | _ => none }
def fnExactWriteEventRow : OpenClaim := { program := "ytpibfdebfacooaagreat", sum := "f489dcf8b76e4efaa2be257accf7b3781bf5e8dd1f2b49d0ddb3e110918d7a45", func := "loop.example/g00203/laws.FnExactWriteEvent", spec := "fnExactWriteEvent", inPlace := ["slices.overlaps[loop.example/g00203/impl.Mark]", "slices.overlaps[loop.example/g00203/impl.Contract]"], unfollowed := true, recurses := true, plainKeys := false, apart := false }
def FnExactWriteEventSaid : Prop := fnExactWriteEventRow.holds Tryz.pinned (OpenSpec.ofChange fnExactWriteEventSpec)

/-- ITS FALSE NEIGHBOUR: 'it returns false'. Refute it at one input. -/
def fnExactWriteEventWrong : ChangeSpec := { name := "fnExactWriteEvent", fn := fun _ => fun
  | [d1, d2, d3] => { results := [.lit (.bool false)], args := [d1, d2, d3] }
  | _ => none }
def FnExactWriteEventWrongFalsely : Prop := fnExactWriteEventRow.holds Tryz.pinned (OpenSpec.ofChange fnExactWriteEventWrong)

/-- 'laws.FnExactCrashJournal': WHATEVER THE INPUT: true; the input reads as it did. -/
def fnExactCrashJournalSpec : ChangeSpec := { name := "fnExactCrashJournal", fn := fun _ => fun
  | [d1, d2] => { results := [.lit (.bool true)], args := [d1, d2] }
  | _ => none }
def fnExactCrashJournalRow : OpenClaim := { program := "ytpibfdebfacooaagreat", sum := "f489dcf8b76e4efaa2be257accf7b3781bf5e8dd1f2b49d0ddb3e110918d7a45", func := "loop.example/g00203/laws.FnExactCrashJournal", spec := "fnExactCrashJournal", inPlace := ["slices.overlaps[loop.example/g00203/impl.Mark]", "slices.overlaps[loop.example/g00203/impl.Contract]"], unfollowed := true, recurses := true, plainKeys := false, apart := false }
def FnExactCrashJournalSaid : Prop := fnExactCrashJournalRow.holds Tryz.pinned (OpenSpec.ofChange fnExactCrashJournalSpec)

/-- ITS FALSE NEIGHBOUR: 'it returns false'. Refute it at one input. -/
def fnExactCrashJournalWrong : ChangeSpec := { name := "fnExactCrashJournal", fn := fun _ => fun
  | [d1, d2] => { results := [.lit (.bool false)], args := [d1, d2] }
  | _ => none }
def FnExactCrashJournalWrongFalsely : Prop := fnExactCrashJournalRow.holds Tryz.pinned (OpenSpec.ofChange fnExactCrashJournalWrong)

/- THE SECOND FORM. 'bulk': how many values and letters a reading holds, each counted each time it is reached (what is shared counts as often as it is met; a slice's spare places count too). A statement '..UptoSaid' is the law's where the arguments, and the package variables that the reading takes, are together of bulk at most 1048576: NARROWER than '..Said'. Prove '..Said' where nothing that the law and all that it calls make is longer than what came in: it says more and counts as full. Else prove '..UptoSaid'. A law counts once. -/
mutual
def uptoBulk {H : Type} : DataW H → Nat
  | .lit (.string bytes) => bytes.length + 1
  | .lit _ => 1
  | .nil => 1
  | .ptr d => uptoBulk d + 1
  | .slice elems spare => uptoBulkAll elems + uptoBulkAll spare + 1
  | .agg parts => uptoBulkAll parts + 1
  | .iface _ d => uptoBulk d + 1
  | .map entries => uptoBulkEntries entries + 1
  | .held _ => 1
def uptoBulkAll {H : Type} : List (DataW H) → Nat
  | [] => 0
  | d :: r => uptoBulk d + uptoBulkAll r
def uptoBulkEntries {H : Type} : List (Lit × DataW H) → Nat
  | [] => 0
  | x :: r => uptoBulkEntry x + uptoBulkEntries r
def uptoBulkEntry {H : Type} : Lit × DataW H → Nat
  | (.string bytes, d) => bytes.length + uptoBulk d + 1
  | (_, d) => uptoBulk d + 1
 end
def uptoSmall : (H : Type) → List (DataW H) → Bool := fun _ ds => decide (uptoBulkAll ds ≤ 1048576)
def OpenSpec.upto (s : _root_.Go.ChangeSpec) : _root_.Go.OpenSpec := { _root_.Go.OpenSpec.ofChange s with cond := some uptoSmall }

/-- 'laws.FnExactJournalFault', WHERE WHAT IT READS IS OF BULK AT MOST 1048576: true; the input reads as it did. -/
def fnExactJournalFaultUptoRow : OpenClaim := { program := "ytpibfdebfacooaagreat", sum := "f489dcf8b76e4efaa2be257accf7b3781bf5e8dd1f2b49d0ddb3e110918d7a45", func := "loop.example/g00203/laws.FnExactJournalFault", spec := "fnExactJournalFault", inPlace := ["slices.overlaps[loop.example/g00203/impl.Mark]", "slices.overlaps[loop.example/g00203/impl.Contract]"], unfollowed := true, recurses := true, plainKeys := false, apart := false, narrowed := true }
def FnExactJournalFaultUptoSaid : Prop := fnExactJournalFaultUptoRow.holds Tryz.pinned (OpenSpec.upto fnExactJournalFaultSpec)

/-- 'laws.FnExactReplayJournal', WHERE WHAT IT READS IS OF BULK AT MOST 1048576: true; the input reads as it did. -/
def fnExactReplayJournalUptoRow : OpenClaim := { program := "ytpibfdebfacooaagreat", sum := "f489dcf8b76e4efaa2be257accf7b3781bf5e8dd1f2b49d0ddb3e110918d7a45", func := "loop.example/g00203/laws.FnExactReplayJournal", spec := "fnExactReplayJournal", inPlace := ["slices.overlaps[loop.example/g00203/impl.Mark]", "slices.overlaps[loop.example/g00203/impl.Contract]"], unfollowed := true, recurses := true, plainKeys := false, apart := false, narrowed := true }
def FnExactReplayJournalUptoSaid : Prop := fnExactReplayJournalUptoRow.holds Tryz.pinned (OpenSpec.upto fnExactReplayJournalSpec)

/-- 'laws.FnExactWriteEvent', WHERE WHAT IT READS IS OF BULK AT MOST 1048576: true; the input reads as it did. -/
def fnExactWriteEventUptoRow : OpenClaim := { program := "ytpibfdebfacooaagreat", sum := "f489dcf8b76e4efaa2be257accf7b3781bf5e8dd1f2b49d0ddb3e110918d7a45", func := "loop.example/g00203/laws.FnExactWriteEvent", spec := "fnExactWriteEvent", inPlace := ["slices.overlaps[loop.example/g00203/impl.Mark]", "slices.overlaps[loop.example/g00203/impl.Contract]"], unfollowed := true, recurses := true, plainKeys := false, apart := false, narrowed := true }
def FnExactWriteEventUptoSaid : Prop := fnExactWriteEventUptoRow.holds Tryz.pinned (OpenSpec.upto fnExactWriteEventSpec)

/-- 'laws.FnExactCrashJournal', WHERE WHAT IT READS IS OF BULK AT MOST 1048576: true; the input reads as it did. -/
def fnExactCrashJournalUptoRow : OpenClaim := { program := "ytpibfdebfacooaagreat", sum := "f489dcf8b76e4efaa2be257accf7b3781bf5e8dd1f2b49d0ddb3e110918d7a45", func := "loop.example/g00203/laws.FnExactCrashJournal", spec := "fnExactCrashJournal", inPlace := ["slices.overlaps[loop.example/g00203/impl.Mark]", "slices.overlaps[loop.example/g00203/impl.Contract]"], unfollowed := true, recurses := true, plainKeys := false, apart := false, narrowed := true }
def FnExactCrashJournalUptoSaid : Prop := fnExactCrashJournalUptoRow.holds Tryz.pinned (OpenSpec.upto fnExactCrashJournalSpec)

end Rows
end Go.Proofs.YtpibfdebfacooaaGreat

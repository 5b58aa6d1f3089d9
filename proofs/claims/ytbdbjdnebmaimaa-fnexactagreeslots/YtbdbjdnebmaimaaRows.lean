/-
  No cell of these rows narrows 'for every input' (looked for: loops, veiled, ifaces, maps, wideKeys, modest, calm, conditions, laid).
  DERIVED. THE GIVEN ROWS OF THIS SEAT. 11 by the template 'for every input the law returns true; each argument reads behind the call as it read before'; 0 by the template 'total and deterministic' (their statements: YtbdbjdnebmaimaaTotals.lean).
  GIVEN WITH THE SEED: the statements are not yours to turn. If you find one false, say at which input.
  Laid BY PROGRAM, IN A SANDBOX (cutbox-rows.mjs): the forced cells as the released guide's own fill.sh prints them over the translation 2b1baae58c6e70e3… (all of the seat's roots in one cut). By AI agents, Wed Nov 11 2026. No macro, syntax, notation, axiom, sorry.
-/
import Derived.Test.YtbdbjdnebmaimaaChecked
import GoSem.Claim
import GoSem.ClaimJoined
import GoSem.ClaimMapViews
import Derived.JoinedTies
import Derived.KernelRfl
namespace Go.Proofs.Ytbdbjdnebmaimaa
/- THE CELL 'sum', in the pinned program and in every row, IS THE sha256 OF THE DUMP (.gsa) THAT YtbdbjdnebmaimaaProg.lean LOADS. Nothing in Lean hashes anything: it is a label: what it is worth is what the hold of that sum in a sandbox is worth. -/
noncomputable def Try.pinned : Pinned := { name := "ytbdbjdnebmaimaa", sum := "2b1baae58c6e70e35fb4447ad213e572804d60e0cbe4128671d450714e3a46ed", checked := Try.checked }
namespace Rows
def none {H : Type} : Left H := { results := [], args := [] }

/-- 'laws.FnOutcomes': WHATEVER THE INPUT: true; the input reads as it did. -/
def fnOutcomesSpec : ChangeSpec := { name := "fnOutcomes", fn := fun _ => fun
  | [d] => { results := [.lit (.bool true)], args := [d] }
  | _ => none }
def fnOutcomesRow : OpenClaim := { program := "ytbdbjdnebmaimaa", sum := "2b1baae58c6e70e35fb4447ad213e572804d60e0cbe4128671d450714e3a46ed", func := "loop.example/g00203/laws.FnOutcomes", spec := "fnOutcomes", inPlace := ["slices.overlaps[loop.example/g00203/impl.Slot]"], unfollowed := true, recurses := true, plainKeys := false, apart := false }
def FnOutcomesSaid : Prop := fnOutcomesRow.holds Try.pinned (OpenSpec.ofChange fnOutcomesSpec)

/-- ITS FALSE NEIGHBOUR: 'it returns false'. Refute it at one input. -/
def fnOutcomesWrong : ChangeSpec := { name := "fnOutcomes", fn := fun _ => fun
  | [d] => { results := [.lit (.bool false)], args := [d] }
  | _ => none }
def FnOutcomesWrongFalsely : Prop := fnOutcomesRow.holds Try.pinned (OpenSpec.ofChange fnOutcomesWrong)

/-- 'laws.FnExactPromiseSlot': WHATEVER THE INPUT: true; the input reads as it did. -/
def fnExactPromiseSlotSpec : ChangeSpec := { name := "fnExactPromiseSlot", fn := fun _ => fun
  | [d1, d2] => { results := [.lit (.bool true)], args := [d1, d2] }
  | _ => none }
def fnExactPromiseSlotRow : OpenClaim := { program := "ytbdbjdnebmaimaa", sum := "2b1baae58c6e70e35fb4447ad213e572804d60e0cbe4128671d450714e3a46ed", func := "loop.example/g00203/laws.FnExactPromiseSlot", spec := "fnExactPromiseSlot", unfollowed := true, recurses := true, plainKeys := false, apart := false }
def FnExactPromiseSlotSaid : Prop := fnExactPromiseSlotRow.holds Try.pinned (OpenSpec.ofChange fnExactPromiseSlotSpec)

/-- ITS FALSE NEIGHBOUR: 'it returns false'. Refute it at one input. -/
def fnExactPromiseSlotWrong : ChangeSpec := { name := "fnExactPromiseSlot", fn := fun _ => fun
  | [d1, d2] => { results := [.lit (.bool false)], args := [d1, d2] }
  | _ => none }
def FnExactPromiseSlotWrongFalsely : Prop := fnExactPromiseSlotRow.holds Try.pinned (OpenSpec.ofChange fnExactPromiseSlotWrong)

/-- 'laws.FnExactAcceptSlot': WHATEVER THE INPUT: true; the input reads as it did. -/
def fnExactAcceptSlotSpec : ChangeSpec := { name := "fnExactAcceptSlot", fn := fun _ => fun
  | [d1, d2, d3] => { results := [.lit (.bool true)], args := [d1, d2, d3] }
  | _ => none }
def fnExactAcceptSlotRow : OpenClaim := { program := "ytbdbjdnebmaimaa", sum := "2b1baae58c6e70e35fb4447ad213e572804d60e0cbe4128671d450714e3a46ed", func := "loop.example/g00203/laws.FnExactAcceptSlot", spec := "fnExactAcceptSlot", unfollowed := true, recurses := true, plainKeys := false, apart := false }
def FnExactAcceptSlotSaid : Prop := fnExactAcceptSlotRow.holds Try.pinned (OpenSpec.ofChange fnExactAcceptSlotSpec)

/-- ITS FALSE NEIGHBOUR: 'it returns false'. Refute it at one input. -/
def fnExactAcceptSlotWrong : ChangeSpec := { name := "fnExactAcceptSlot", fn := fun _ => fun
  | [d1, d2, d3] => { results := [.lit (.bool false)], args := [d1, d2, d3] }
  | _ => none }
def FnExactAcceptSlotWrongFalsely : Prop := fnExactAcceptSlotRow.holds Try.pinned (OpenSpec.ofChange fnExactAcceptSlotWrong)

/-- 'laws.FnExactChosenIn': WHATEVER THE INPUT: true; the input reads as it did. -/
def fnExactChosenInSpec : ChangeSpec := { name := "fnExactChosenIn", fn := fun _ => fun
  | [d] => { results := [.lit (.bool true)], args := [d] }
  | _ => none }
def fnExactChosenInRow : OpenClaim := { program := "ytbdbjdnebmaimaa", sum := "2b1baae58c6e70e35fb4447ad213e572804d60e0cbe4128671d450714e3a46ed", func := "loop.example/g00203/laws.FnExactChosenIn", spec := "fnExactChosenIn", unfollowed := true, recurses := true, plainKeys := false, apart := false }
def FnExactChosenInSaid : Prop := fnExactChosenInRow.holds Try.pinned (OpenSpec.ofChange fnExactChosenInSpec)

/-- ITS FALSE NEIGHBOUR: 'it returns false'. Refute it at one input. -/
def fnExactChosenInWrong : ChangeSpec := { name := "fnExactChosenIn", fn := fun _ => fun
  | [d] => { results := [.lit (.bool false)], args := [d] }
  | _ => none }
def FnExactChosenInWrongFalsely : Prop := fnExactChosenInRow.holds Try.pinned (OpenSpec.ofChange fnExactChosenInWrong)

/-- 'laws.FnExactAgreeSlots': WHATEVER THE INPUT: true; the input reads as it did. -/
def fnExactAgreeSlotsSpec : ChangeSpec := { name := "fnExactAgreeSlots", fn := fun _ => fun
  | [d] => { results := [.lit (.bool true)], args := [d] }
  | _ => none }
def fnExactAgreeSlotsRow : OpenClaim := { program := "ytbdbjdnebmaimaa", sum := "2b1baae58c6e70e35fb4447ad213e572804d60e0cbe4128671d450714e3a46ed", func := "loop.example/g00203/laws.FnExactAgreeSlots", spec := "fnExactAgreeSlots", unfollowed := true, recurses := true, plainKeys := false, apart := false }
def FnExactAgreeSlotsSaid : Prop := fnExactAgreeSlotsRow.holds Try.pinned (OpenSpec.ofChange fnExactAgreeSlotsSpec)

/-- ITS FALSE NEIGHBOUR: 'it returns false'. Refute it at one input. -/
def fnExactAgreeSlotsWrong : ChangeSpec := { name := "fnExactAgreeSlots", fn := fun _ => fun
  | [d] => { results := [.lit (.bool false)], args := [d] }
  | _ => none }
def FnExactAgreeSlotsWrongFalsely : Prop := fnExactAgreeSlotsRow.holds Try.pinned (OpenSpec.ofChange fnExactAgreeSlotsWrong)

/-- 'laws.FnExactAcceptorFault': WHATEVER THE INPUT: true; the input reads as it did. -/
def fnExactAcceptorFaultSpec : ChangeSpec := { name := "fnExactAcceptorFault", fn := fun _ => fun
  | [d] => { results := [.lit (.bool true)], args := [d] }
  | _ => none }
def fnExactAcceptorFaultRow : OpenClaim := { program := "ytbdbjdnebmaimaa", sum := "2b1baae58c6e70e35fb4447ad213e572804d60e0cbe4128671d450714e3a46ed", func := "loop.example/g00203/laws.FnExactAcceptorFault", spec := "fnExactAcceptorFault", plainKeys := false, apart := false }
def FnExactAcceptorFaultSaid : Prop := fnExactAcceptorFaultRow.holds Try.pinned (OpenSpec.ofChange fnExactAcceptorFaultSpec)

/-- ITS FALSE NEIGHBOUR: 'it returns false'. Refute it at one input. -/
def fnExactAcceptorFaultWrong : ChangeSpec := { name := "fnExactAcceptorFault", fn := fun _ => fun
  | [d] => { results := [.lit (.bool false)], args := [d] }
  | _ => none }
def FnExactAcceptorFaultWrongFalsely : Prop := fnExactAcceptorFaultRow.holds Try.pinned (OpenSpec.ofChange fnExactAcceptorFaultWrong)

/-- 'laws.FnExactPromiseAt': WHATEVER THE INPUT: true; the input reads as it did. -/
def fnExactPromiseAtSpec : ChangeSpec := { name := "fnExactPromiseAt", fn := fun _ => fun
  | [d1, d2, d3, d4] => { results := [.lit (.bool true)], args := [d1, d2, d3, d4] }
  | _ => none }
def fnExactPromiseAtRow : OpenClaim := { program := "ytbdbjdnebmaimaa", sum := "2b1baae58c6e70e35fb4447ad213e572804d60e0cbe4128671d450714e3a46ed", func := "loop.example/g00203/laws.FnExactPromiseAt", spec := "fnExactPromiseAt", inPlace := ["slices.overlaps[loop.example/g00203/impl.Slot]"], unfollowed := true, recurses := true, plainKeys := false, apart := false }
def FnExactPromiseAtSaid : Prop := fnExactPromiseAtRow.holds Try.pinned (OpenSpec.ofChange fnExactPromiseAtSpec)

/-- ITS FALSE NEIGHBOUR: 'it returns false'. Refute it at one input. -/
def fnExactPromiseAtWrong : ChangeSpec := { name := "fnExactPromiseAt", fn := fun _ => fun
  | [d1, d2, d3, d4] => { results := [.lit (.bool false)], args := [d1, d2, d3, d4] }
  | _ => none }
def FnExactPromiseAtWrongFalsely : Prop := fnExactPromiseAtRow.holds Try.pinned (OpenSpec.ofChange fnExactPromiseAtWrong)

/-- 'laws.FnExactAcceptAt': WHATEVER THE INPUT: true; the input reads as it did. -/
def fnExactAcceptAtSpec : ChangeSpec := { name := "fnExactAcceptAt", fn := fun _ => fun
  | [d1, d2, d3, d4, d5] => { results := [.lit (.bool true)], args := [d1, d2, d3, d4, d5] }
  | _ => none }
def fnExactAcceptAtRow : OpenClaim := { program := "ytbdbjdnebmaimaa", sum := "2b1baae58c6e70e35fb4447ad213e572804d60e0cbe4128671d450714e3a46ed", func := "loop.example/g00203/laws.FnExactAcceptAt", spec := "fnExactAcceptAt", inPlace := ["slices.overlaps[loop.example/g00203/impl.Slot]"], unfollowed := true, recurses := true, plainKeys := false, apart := false }
def FnExactAcceptAtSaid : Prop := fnExactAcceptAtRow.holds Try.pinned (OpenSpec.ofChange fnExactAcceptAtSpec)

/-- ITS FALSE NEIGHBOUR: 'it returns false'. Refute it at one input. -/
def fnExactAcceptAtWrong : ChangeSpec := { name := "fnExactAcceptAt", fn := fun _ => fun
  | [d1, d2, d3, d4, d5] => { results := [.lit (.bool false)], args := [d1, d2, d3, d4, d5] }
  | _ => none }
def FnExactAcceptAtWrongFalsely : Prop := fnExactAcceptAtRow.holds Try.pinned (OpenSpec.ofChange fnExactAcceptAtWrong)

/-- 'laws.FnExactSlotsFor': WHATEVER THE INPUT: true; the input reads as it did. -/
def fnExactSlotsForSpec : ChangeSpec := { name := "fnExactSlotsFor", fn := fun _ => fun
  | [d1, d2, d3] => { results := [.lit (.bool true)], args := [d1, d2, d3] }
  | _ => none }
def fnExactSlotsForRow : OpenClaim := { program := "ytbdbjdnebmaimaa", sum := "2b1baae58c6e70e35fb4447ad213e572804d60e0cbe4128671d450714e3a46ed", func := "loop.example/g00203/laws.FnExactSlotsFor", spec := "fnExactSlotsFor", unfollowed := true, recurses := true, plainKeys := false, apart := false }
def FnExactSlotsForSaid : Prop := fnExactSlotsForRow.holds Try.pinned (OpenSpec.ofChange fnExactSlotsForSpec)

/-- ITS FALSE NEIGHBOUR: 'it returns false'. Refute it at one input. -/
def fnExactSlotsForWrong : ChangeSpec := { name := "fnExactSlotsFor", fn := fun _ => fun
  | [d1, d2, d3] => { results := [.lit (.bool false)], args := [d1, d2, d3] }
  | _ => none }
def FnExactSlotsForWrongFalsely : Prop := fnExactSlotsForRow.holds Try.pinned (OpenSpec.ofChange fnExactSlotsForWrong)

/-- 'laws.FnExactRunBallot': WHATEVER THE INPUT: true; the input reads as it did. -/
def fnExactRunBallotSpec : ChangeSpec := { name := "fnExactRunBallot", fn := fun _ => fun
  | [d1, d2, d3, d4, d5, d6] => { results := [.lit (.bool true)], args := [d1, d2, d3, d4, d5, d6] }
  | _ => none }
def fnExactRunBallotRow : OpenClaim := { program := "ytbdbjdnebmaimaa", sum := "2b1baae58c6e70e35fb4447ad213e572804d60e0cbe4128671d450714e3a46ed", func := "loop.example/g00203/laws.FnExactRunBallot", spec := "fnExactRunBallot", inPlace := ["slices.overlaps[loop.example/g00203/impl.Slot]"], unfollowed := true, recurses := true, plainKeys := false, apart := false }
def FnExactRunBallotSaid : Prop := fnExactRunBallotRow.holds Try.pinned (OpenSpec.ofChange fnExactRunBallotSpec)

/-- ITS FALSE NEIGHBOUR: 'it returns false'. Refute it at one input. -/
def fnExactRunBallotWrong : ChangeSpec := { name := "fnExactRunBallot", fn := fun _ => fun
  | [d1, d2, d3, d4, d5, d6] => { results := [.lit (.bool false)], args := [d1, d2, d3, d4, d5, d6] }
  | _ => none }
def FnExactRunBallotWrongFalsely : Prop := fnExactRunBallotRow.holds Try.pinned (OpenSpec.ofChange fnExactRunBallotWrong)

/-- 'laws.FnExactChosenAt': WHATEVER THE INPUT: true; the input reads as it did. -/
def fnExactChosenAtSpec : ChangeSpec := { name := "fnExactChosenAt", fn := fun _ => fun
  | [d1, d2, d3] => { results := [.lit (.bool true)], args := [d1, d2, d3] }
  | _ => none }
def fnExactChosenAtRow : OpenClaim := { program := "ytbdbjdnebmaimaa", sum := "2b1baae58c6e70e35fb4447ad213e572804d60e0cbe4128671d450714e3a46ed", func := "loop.example/g00203/laws.FnExactChosenAt", spec := "fnExactChosenAt", unfollowed := true, recurses := true, plainKeys := false, apart := false }
def FnExactChosenAtSaid : Prop := fnExactChosenAtRow.holds Try.pinned (OpenSpec.ofChange fnExactChosenAtSpec)

/-- ITS FALSE NEIGHBOUR: 'it returns false'. Refute it at one input. -/
def fnExactChosenAtWrong : ChangeSpec := { name := "fnExactChosenAt", fn := fun _ => fun
  | [d1, d2, d3] => { results := [.lit (.bool false)], args := [d1, d2, d3] }
  | _ => none }
def FnExactChosenAtWrongFalsely : Prop := fnExactChosenAtRow.holds Try.pinned (OpenSpec.ofChange fnExactChosenAtWrong)

/- THE SECOND FORM. 'bulk': how many values and letters a reading holds, each counted each time it is reached (what is shared counts as often as it is met; a slice's spare places count too). A statement '..UptoSaid' is the law's where the arguments, and the package variables that the reading takes, are together of bulk at most 1048576: NARROWER than '..Said'. Prove '..Said' where nothing that the law and all that it calls make is longer than what came in: it says more and counts as full. Else prove '..UptoSaid'. A law counts once. -/
mutual
def uptoBulk {H : Type} : DataW H → Nat
  | .lit (.string bytes) => bytes.length + 1
  | .lit _ => 1
  | .nil => 1
  | .ptr d => uptoBulk d + 1
  | .slice elems spare => uptoBulkAll elems + uptoBulkAll spare + 1
  | .agg parts => uptoBulkAll parts + 1
  | .iface _ d => uptoBulk d + 1
  | .map entries => uptoBulkEntries entries + 1
  | .held _ => 1
def uptoBulkAll {H : Type} : List (DataW H) → Nat
  | [] => 0
  | d :: r => uptoBulk d + uptoBulkAll r
def uptoBulkEntries {H : Type} : List (Lit × DataW H) → Nat
  | [] => 0
  | x :: r => uptoBulkEntry x + uptoBulkEntries r
def uptoBulkEntry {H : Type} : Lit × DataW H → Nat
  | (.string bytes, d) => bytes.length + uptoBulk d + 1
  | (_, d) => uptoBulk d + 1
 end
def uptoSmall : (H : Type) → List (DataW H) → Bool := fun _ ds => decide (uptoBulkAll ds ≤ 1048576)
def OpenSpec.upto (s : _root_.Go.ChangeSpec) : _root_.Go.OpenSpec := { _root_.Go.OpenSpec.ofChange s with cond := some uptoSmall }

/-- 'laws.FnOutcomes', WHERE WHAT IT READS IS OF BULK AT MOST 1048576: true; the input reads as it did. -/
def fnOutcomesUptoRow : OpenClaim := { program := "ytbdbjdnebmaimaa", sum := "2b1baae58c6e70e35fb4447ad213e572804d60e0cbe4128671d450714e3a46ed", func := "loop.example/g00203/laws.FnOutcomes", spec := "fnOutcomes", inPlace := ["slices.overlaps[loop.example/g00203/impl.Slot]"], unfollowed := true, recurses := true, plainKeys := false, apart := false, narrowed := true }
def FnOutcomesUptoSaid : Prop := fnOutcomesUptoRow.holds Try.pinned (OpenSpec.upto fnOutcomesSpec)

/-- 'laws.FnExactPromiseSlot', WHERE WHAT IT READS IS OF BULK AT MOST 1048576: true; the input reads as it did. -/
def fnExactPromiseSlotUptoRow : OpenClaim := { program := "ytbdbjdnebmaimaa", sum := "2b1baae58c6e70e35fb4447ad213e572804d60e0cbe4128671d450714e3a46ed", func := "loop.example/g00203/laws.FnExactPromiseSlot", spec := "fnExactPromiseSlot", unfollowed := true, recurses := true, plainKeys := false, apart := false, narrowed := true }
def FnExactPromiseSlotUptoSaid : Prop := fnExactPromiseSlotUptoRow.holds Try.pinned (OpenSpec.upto fnExactPromiseSlotSpec)

/-- 'laws.FnExactAcceptSlot', WHERE WHAT IT READS IS OF BULK AT MOST 1048576: true; the input reads as it did. -/
def fnExactAcceptSlotUptoRow : OpenClaim := { program := "ytbdbjdnebmaimaa", sum := "2b1baae58c6e70e35fb4447ad213e572804d60e0cbe4128671d450714e3a46ed", func := "loop.example/g00203/laws.FnExactAcceptSlot", spec := "fnExactAcceptSlot", unfollowed := true, recurses := true, plainKeys := false, apart := false, narrowed := true }
def FnExactAcceptSlotUptoSaid : Prop := fnExactAcceptSlotUptoRow.holds Try.pinned (OpenSpec.upto fnExactAcceptSlotSpec)

/-- 'laws.FnExactChosenIn', WHERE WHAT IT READS IS OF BULK AT MOST 1048576: true; the input reads as it did. -/
def fnExactChosenInUptoRow : OpenClaim := { program := "ytbdbjdnebmaimaa", sum := "2b1baae58c6e70e35fb4447ad213e572804d60e0cbe4128671d450714e3a46ed", func := "loop.example/g00203/laws.FnExactChosenIn", spec := "fnExactChosenIn", unfollowed := true, recurses := true, plainKeys := false, apart := false, narrowed := true }
def FnExactChosenInUptoSaid : Prop := fnExactChosenInUptoRow.holds Try.pinned (OpenSpec.upto fnExactChosenInSpec)

/-- 'laws.FnExactAgreeSlots', WHERE WHAT IT READS IS OF BULK AT MOST 1048576: true; the input reads as it did. -/
def fnExactAgreeSlotsUptoRow : OpenClaim := { program := "ytbdbjdnebmaimaa", sum := "2b1baae58c6e70e35fb4447ad213e572804d60e0cbe4128671d450714e3a46ed", func := "loop.example/g00203/laws.FnExactAgreeSlots", spec := "fnExactAgreeSlots", unfollowed := true, recurses := true, plainKeys := false, apart := false, narrowed := true }
def FnExactAgreeSlotsUptoSaid : Prop := fnExactAgreeSlotsUptoRow.holds Try.pinned (OpenSpec.upto fnExactAgreeSlotsSpec)

/-- 'laws.FnExactAcceptorFault', WHERE WHAT IT READS IS OF BULK AT MOST 1048576: true; the input reads as it did. -/
def fnExactAcceptorFaultUptoRow : OpenClaim := { program := "ytbdbjdnebmaimaa", sum := "2b1baae58c6e70e35fb4447ad213e572804d60e0cbe4128671d450714e3a46ed", func := "loop.example/g00203/laws.FnExactAcceptorFault", spec := "fnExactAcceptorFault", plainKeys := false, apart := false, narrowed := true }
def FnExactAcceptorFaultUptoSaid : Prop := fnExactAcceptorFaultUptoRow.holds Try.pinned (OpenSpec.upto fnExactAcceptorFaultSpec)

/-- 'laws.FnExactPromiseAt', WHERE WHAT IT READS IS OF BULK AT MOST 1048576: true; the input reads as it did. -/
def fnExactPromiseAtUptoRow : OpenClaim := { program := "ytbdbjdnebmaimaa", sum := "2b1baae58c6e70e35fb4447ad213e572804d60e0cbe4128671d450714e3a46ed", func := "loop.example/g00203/laws.FnExactPromiseAt", spec := "fnExactPromiseAt", inPlace := ["slices.overlaps[loop.example/g00203/impl.Slot]"], unfollowed := true, recurses := true, plainKeys := false, apart := false, narrowed := true }
def FnExactPromiseAtUptoSaid : Prop := fnExactPromiseAtUptoRow.holds Try.pinned (OpenSpec.upto fnExactPromiseAtSpec)

/-- 'laws.FnExactAcceptAt', WHERE WHAT IT READS IS OF BULK AT MOST 1048576: true; the input reads as it did. -/
def fnExactAcceptAtUptoRow : OpenClaim := { program := "ytbdbjdnebmaimaa", sum := "2b1baae58c6e70e35fb4447ad213e572804d60e0cbe4128671d450714e3a46ed", func := "loop.example/g00203/laws.FnExactAcceptAt", spec := "fnExactAcceptAt", inPlace := ["slices.overlaps[loop.example/g00203/impl.Slot]"], unfollowed := true, recurses := true, plainKeys := false, apart := false, narrowed := true }
def FnExactAcceptAtUptoSaid : Prop := fnExactAcceptAtUptoRow.holds Try.pinned (OpenSpec.upto fnExactAcceptAtSpec)

/-- 'laws.FnExactSlotsFor', WHERE WHAT IT READS IS OF BULK AT MOST 1048576: true; the input reads as it did. -/
def fnExactSlotsForUptoRow : OpenClaim := { program := "ytbdbjdnebmaimaa", sum := "2b1baae58c6e70e35fb4447ad213e572804d60e0cbe4128671d450714e3a46ed", func := "loop.example/g00203/laws.FnExactSlotsFor", spec := "fnExactSlotsFor", unfollowed := true, recurses := true, plainKeys := false, apart := false, narrowed := true }
def FnExactSlotsForUptoSaid : Prop := fnExactSlotsForUptoRow.holds Try.pinned (OpenSpec.upto fnExactSlotsForSpec)

/-- 'laws.FnExactRunBallot', WHERE WHAT IT READS IS OF BULK AT MOST 1048576: true; the input reads as it did. -/
def fnExactRunBallotUptoRow : OpenClaim := { program := "ytbdbjdnebmaimaa", sum := "2b1baae58c6e70e35fb4447ad213e572804d60e0cbe4128671d450714e3a46ed", func := "loop.example/g00203/laws.FnExactRunBallot", spec := "fnExactRunBallot", inPlace := ["slices.overlaps[loop.example/g00203/impl.Slot]"], unfollowed := true, recurses := true, plainKeys := false, apart := false, narrowed := true }
def FnExactRunBallotUptoSaid : Prop := fnExactRunBallotUptoRow.holds Try.pinned (OpenSpec.upto fnExactRunBallotSpec)

/-- 'laws.FnExactChosenAt', WHERE WHAT IT READS IS OF BULK AT MOST 1048576: true; the input reads as it did. -/
def fnExactChosenAtUptoRow : OpenClaim := { program := "ytbdbjdnebmaimaa", sum := "2b1baae58c6e70e35fb4447ad213e572804d60e0cbe4128671d450714e3a46ed", func := "loop.example/g00203/laws.FnExactChosenAt", spec := "fnExactChosenAt", unfollowed := true, recurses := true, plainKeys := false, apart := false, narrowed := true }
def FnExactChosenAtUptoSaid : Prop := fnExactChosenAtUptoRow.holds Try.pinned (OpenSpec.upto fnExactChosenAtSpec)

end Rows
end Go.Proofs.Ytbdbjdnebmaimaa

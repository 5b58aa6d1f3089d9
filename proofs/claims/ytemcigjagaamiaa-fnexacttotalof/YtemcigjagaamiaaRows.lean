/-
  No cell of these rows narrows 'for every input' (looked for: loops, veiled, ifaces, maps, wideKeys, modest, calm, conditions, laid).
  DERIVED. THE GIVEN ROWS OF THIS SEAT. 6 by the template 'for every input the law returns true; each argument reads behind the call as it read before'; 0 by the template 'total and deterministic' (their statements: YtemcigjagaamiaaTotals.lean).
  GIVEN WITH THE SEED: the statements are not yours to turn. If you find one false, say at which input.
  Laid BY PROGRAM, IN A SANDBOX (cutbox-rows.mjs): the forced cells as the released guide's own fill.sh prints them over the translation 9de280698405f14a… (all of the seat's roots in one cut). By AI agents, Wed Nov 11 2026. No macro, syntax, notation, axiom, sorry.
-/
import Derived.Test.YtemcigjagaamiaaChecked
import GoSem.Claim
import GoSem.ClaimJoined
import GoSem.ClaimMapViews
import Derived.JoinedTies
import Derived.KernelRfl
namespace Go.Proofs.Ytemcigjagaamiaa
/- THE CELL 'sum', in the pinned program and in every row, IS THE sha256 OF THE DUMP (.gsa) THAT YtemcigjagaamiaaProg.lean LOADS. Nothing in Lean hashes anything: it is a label: what it is worth is what the hold of that sum in a sandbox is worth. -/
noncomputable def Try.pinned : Pinned := { name := "ytemcigjagaamiaa", sum := "9de280698405f14a25a35717240c4941ede17318529ceb06ef07c7f59f03d8fd", checked := Try.checked }
namespace Rows
def none {H : Type} : Left H := { results := [], args := [] }

/-- 'laws.FnExactBalancesFault': WHATEVER THE INPUT: true; the input reads as it did. -/
def fnExactBalancesFaultSpec : ChangeSpec := { name := "fnExactBalancesFault", fn := fun _ => fun
  | [d] => { results := [.lit (.bool true)], args := [d] }
  | _ => none }
def fnExactBalancesFaultRow : OpenClaim := { program := "ytemcigjagaamiaa", sum := "9de280698405f14a25a35717240c4941ede17318529ceb06ef07c7f59f03d8fd", func := "loop.example/g00203/laws.FnExactBalancesFault", spec := "fnExactBalancesFault", plainKeys := false, apart := false }
def FnExactBalancesFaultSaid : Prop := fnExactBalancesFaultRow.holds Try.pinned (OpenSpec.ofChange fnExactBalancesFaultSpec)

/-- ITS FALSE NEIGHBOUR: 'it returns false'. Refute it at one input. -/
def fnExactBalancesFaultWrong : ChangeSpec := { name := "fnExactBalancesFault", fn := fun _ => fun
  | [d] => { results := [.lit (.bool false)], args := [d] }
  | _ => none }
def FnExactBalancesFaultWrongFalsely : Prop := fnExactBalancesFaultRow.holds Try.pinned (OpenSpec.ofChange fnExactBalancesFaultWrong)

/-- 'laws.FnExactLedgerFault': WHATEVER THE INPUT: true; the input reads as it did. -/
def fnExactLedgerFaultSpec : ChangeSpec := { name := "fnExactLedgerFault", fn := fun _ => fun
  | [d] => { results := [.lit (.bool true)], args := [d] }
  | _ => none }
def fnExactLedgerFaultRow : OpenClaim := { program := "ytemcigjagaamiaa", sum := "9de280698405f14a25a35717240c4941ede17318529ceb06ef07c7f59f03d8fd", func := "loop.example/g00203/laws.FnExactLedgerFault", spec := "fnExactLedgerFault", plainKeys := false, apart := false }
def FnExactLedgerFaultSaid : Prop := fnExactLedgerFaultRow.holds Try.pinned (OpenSpec.ofChange fnExactLedgerFaultSpec)

/-- ITS FALSE NEIGHBOUR: 'it returns false'. Refute it at one input. -/
def fnExactLedgerFaultWrong : ChangeSpec := { name := "fnExactLedgerFault", fn := fun _ => fun
  | [d] => { results := [.lit (.bool false)], args := [d] }
  | _ => none }
def FnExactLedgerFaultWrongFalsely : Prop := fnExactLedgerFaultRow.holds Try.pinned (OpenSpec.ofChange fnExactLedgerFaultWrong)

/-- 'laws.FnExactBalanceOf': WHATEVER THE INPUT: true; the input reads as it did. -/
def fnExactBalanceOfSpec : ChangeSpec := { name := "fnExactBalanceOf", fn := fun _ => fun
  | [d1, d2, d3, d4] => { results := [.lit (.bool true)], args := [d1, d2, d3, d4] }
  | _ => none }
def fnExactBalanceOfRow : OpenClaim := { program := "ytemcigjagaamiaa", sum := "9de280698405f14a25a35717240c4941ede17318529ceb06ef07c7f59f03d8fd", func := "loop.example/g00203/laws.FnExactBalanceOf", spec := "fnExactBalanceOf", plainKeys := false, apart := false }
def FnExactBalanceOfSaid : Prop := fnExactBalanceOfRow.holds Try.pinned (OpenSpec.ofChange fnExactBalanceOfSpec)

/-- ITS FALSE NEIGHBOUR: 'it returns false'. Refute it at one input. -/
def fnExactBalanceOfWrong : ChangeSpec := { name := "fnExactBalanceOf", fn := fun _ => fun
  | [d1, d2, d3, d4] => { results := [.lit (.bool false)], args := [d1, d2, d3, d4] }
  | _ => none }
def FnExactBalanceOfWrongFalsely : Prop := fnExactBalanceOfRow.holds Try.pinned (OpenSpec.ofChange fnExactBalanceOfWrong)

/-- 'laws.FnExactTotalOf': WHATEVER THE INPUT: true; the input reads as it did. -/
def fnExactTotalOfSpec : ChangeSpec := { name := "fnExactTotalOf", fn := fun _ => fun
  | [d1, d2] => { results := [.lit (.bool true)], args := [d1, d2] }
  | _ => none }
def fnExactTotalOfRow : OpenClaim := { program := "ytemcigjagaamiaa", sum := "9de280698405f14a25a35717240c4941ede17318529ceb06ef07c7f59f03d8fd", func := "loop.example/g00203/laws.FnExactTotalOf", spec := "fnExactTotalOf", plainKeys := false, apart := false }
def FnExactTotalOfSaid : Prop := fnExactTotalOfRow.holds Try.pinned (OpenSpec.ofChange fnExactTotalOfSpec)

/-- ITS FALSE NEIGHBOUR: 'it returns false'. Refute it at one input. -/
def fnExactTotalOfWrong : ChangeSpec := { name := "fnExactTotalOf", fn := fun _ => fun
  | [d1, d2] => { results := [.lit (.bool false)], args := [d1, d2] }
  | _ => none }
def FnExactTotalOfWrongFalsely : Prop := fnExactTotalOfRow.holds Try.pinned (OpenSpec.ofChange fnExactTotalOfWrong)

/-- 'laws.FnExactCanSettle': WHATEVER THE INPUT: true; the input reads as it did. -/
def fnExactCanSettleSpec : ChangeSpec := { name := "fnExactCanSettle", fn := fun _ => fun
  | [d1, d2] => { results := [.lit (.bool true)], args := [d1, d2] }
  | _ => none }
def fnExactCanSettleRow : OpenClaim := { program := "ytemcigjagaamiaa", sum := "9de280698405f14a25a35717240c4941ede17318529ceb06ef07c7f59f03d8fd", func := "loop.example/g00203/laws.FnExactCanSettle", spec := "fnExactCanSettle", plainKeys := false, apart := false }
def FnExactCanSettleSaid : Prop := fnExactCanSettleRow.holds Try.pinned (OpenSpec.ofChange fnExactCanSettleSpec)

/-- ITS FALSE NEIGHBOUR: 'it returns false'. Refute it at one input. -/
def fnExactCanSettleWrong : ChangeSpec := { name := "fnExactCanSettle", fn := fun _ => fun
  | [d1, d2] => { results := [.lit (.bool false)], args := [d1, d2] }
  | _ => none }
def FnExactCanSettleWrongFalsely : Prop := fnExactCanSettleRow.holds Try.pinned (OpenSpec.ofChange fnExactCanSettleWrong)

/-- 'laws.FnExactSameLedgers': WHATEVER THE INPUT: true; the input reads as it did. -/
def fnExactSameLedgersSpec : ChangeSpec := { name := "fnExactSameLedgers", fn := fun _ => fun
  | [d1, d2] => { results := [.lit (.bool true)], args := [d1, d2] }
  | _ => none }
def fnExactSameLedgersRow : OpenClaim := { program := "ytemcigjagaamiaa", sum := "9de280698405f14a25a35717240c4941ede17318529ceb06ef07c7f59f03d8fd", func := "loop.example/g00203/laws.FnExactSameLedgers", spec := "fnExactSameLedgers", unfollowed := true, recurses := true, plainKeys := false, apart := false }
def FnExactSameLedgersSaid : Prop := fnExactSameLedgersRow.holds Try.pinned (OpenSpec.ofChange fnExactSameLedgersSpec)

/-- ITS FALSE NEIGHBOUR: 'it returns false'. Refute it at one input. -/
def fnExactSameLedgersWrong : ChangeSpec := { name := "fnExactSameLedgers", fn := fun _ => fun
  | [d1, d2] => { results := [.lit (.bool false)], args := [d1, d2] }
  | _ => none }
def FnExactSameLedgersWrongFalsely : Prop := fnExactSameLedgersRow.holds Try.pinned (OpenSpec.ofChange fnExactSameLedgersWrong)

/- THE SECOND FORM. 'bulk': how many values and letters a reading holds, each counted each time it is reached (what is shared counts as often as it is met; a slice's spare places count too). A statement '..UptoSaid' is the law's where the arguments, and the package variables that the reading takes, are together of bulk at most 1048576: NARROWER than '..Said'. Prove '..Said' where nothing that the law and all that it calls make is longer than what came in: it says more and counts as full. Else prove '..UptoSaid'. A law counts once. -/
mutual
def uptoBulk {H : Type} : DataW H → Nat
  | .lit (.string bytes) => bytes.length + 1
  | .lit _ => 1
  | .nil => 1
  | .ptr d => uptoBulk d + 1
  | .slice elems spare => uptoBulkAll elems + uptoBulkAll spare + 1
  | .agg parts => uptoBulkAll parts + 1
  | .iface _ d => uptoBulk d + 1
  | .map entries => uptoBulkEntries entries + 1
  | .held _ => 1
def uptoBulkAll {H : Type} : List (DataW H) → Nat
  | [] => 0
  | d :: r => uptoBulk d + uptoBulkAll r
def uptoBulkEntries {H : Type} : List (Lit × DataW H) → Nat
  | [] => 0
  | x :: r => uptoBulkEntry x + uptoBulkEntries r
def uptoBulkEntry {H : Type} : Lit × DataW H → Nat
  | (.string bytes, d) => bytes.length + uptoBulk d + 1
  | (_, d) => uptoBulk d + 1
 end
def uptoSmall : (H : Type) → List (DataW H) → Bool := fun _ ds => decide (uptoBulkAll ds ≤ 1048576)
def OpenSpec.upto (s : _root_.Go.ChangeSpec) : _root_.Go.OpenSpec := { _root_.Go.OpenSpec.ofChange s with cond := some uptoSmall }

/-- 'laws.FnExactBalancesFault', WHERE WHAT IT READS IS OF BULK AT MOST 1048576: true; the input reads as it did. -/
def fnExactBalancesFaultUptoRow : OpenClaim := { program := "ytemcigjagaamiaa", sum := "9de280698405f14a25a35717240c4941ede17318529ceb06ef07c7f59f03d8fd", func := "loop.example/g00203/laws.FnExactBalancesFault", spec := "fnExactBalancesFault", plainKeys := false, apart := false, narrowed := true }
def FnExactBalancesFaultUptoSaid : Prop := fnExactBalancesFaultUptoRow.holds Try.pinned (OpenSpec.upto fnExactBalancesFaultSpec)

/-- 'laws.FnExactLedgerFault', WHERE WHAT IT READS IS OF BULK AT MOST 1048576: true; the input reads as it did. -/
def fnExactLedgerFaultUptoRow : OpenClaim := { program := "ytemcigjagaamiaa", sum := "9de280698405f14a25a35717240c4941ede17318529ceb06ef07c7f59f03d8fd", func := "loop.example/g00203/laws.FnExactLedgerFault", spec := "fnExactLedgerFault", plainKeys := false, apart := false, narrowed := true }
def FnExactLedgerFaultUptoSaid : Prop := fnExactLedgerFaultUptoRow.holds Try.pinned (OpenSpec.upto fnExactLedgerFaultSpec)

/-- 'laws.FnExactBalanceOf', WHERE WHAT IT READS IS OF BULK AT MOST 1048576: true; the input reads as it did. -/
def fnExactBalanceOfUptoRow : OpenClaim := { program := "ytemcigjagaamiaa", sum := "9de280698405f14a25a35717240c4941ede17318529ceb06ef07c7f59f03d8fd", func := "loop.example/g00203/laws.FnExactBalanceOf", spec := "fnExactBalanceOf", plainKeys := false, apart := false, narrowed := true }
def FnExactBalanceOfUptoSaid : Prop := fnExactBalanceOfUptoRow.holds Try.pinned (OpenSpec.upto fnExactBalanceOfSpec)

/-- 'laws.FnExactTotalOf', WHERE WHAT IT READS IS OF BULK AT MOST 1048576: true; the input reads as it did. -/
def fnExactTotalOfUptoRow : OpenClaim := { program := "ytemcigjagaamiaa", sum := "9de280698405f14a25a35717240c4941ede17318529ceb06ef07c7f59f03d8fd", func := "loop.example/g00203/laws.FnExactTotalOf", spec := "fnExactTotalOf", plainKeys := false, apart := false, narrowed := true }
def FnExactTotalOfUptoSaid : Prop := fnExactTotalOfUptoRow.holds Try.pinned (OpenSpec.upto fnExactTotalOfSpec)

/-- 'laws.FnExactCanSettle', WHERE WHAT IT READS IS OF BULK AT MOST 1048576: true; the input reads as it did. -/
def fnExactCanSettleUptoRow : OpenClaim := { program := "ytemcigjagaamiaa", sum := "9de280698405f14a25a35717240c4941ede17318529ceb06ef07c7f59f03d8fd", func := "loop.example/g00203/laws.FnExactCanSettle", spec := "fnExactCanSettle", plainKeys := false, apart := false, narrowed := true }
def FnExactCanSettleUptoSaid : Prop := fnExactCanSettleUptoRow.holds Try.pinned (OpenSpec.upto fnExactCanSettleSpec)

/-- 'laws.FnExactSameLedgers', WHERE WHAT IT READS IS OF BULK AT MOST 1048576: true; the input reads as it did. -/
def fnExactSameLedgersUptoRow : OpenClaim := { program := "ytemcigjagaamiaa", sum := "9de280698405f14a25a35717240c4941ede17318529ceb06ef07c7f59f03d8fd", func := "loop.example/g00203/laws.FnExactSameLedgers", spec := "fnExactSameLedgers", unfollowed := true, recurses := true, plainKeys := false, apart := false, narrowed := true }
def FnExactSameLedgersUptoSaid : Prop := fnExactSameLedgersUptoRow.holds Try.pinned (OpenSpec.upto fnExactSameLedgersSpec)

end Rows
end Go.Proofs.Ytemcigjagaamiaa

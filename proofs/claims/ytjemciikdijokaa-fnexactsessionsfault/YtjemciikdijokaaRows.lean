/-
  No cell of these rows narrows 'for every input' (looked for: loops, veiled, ifaces, maps, wideKeys, modest, calm, conditions, laid).
  DERIVED. THE GIVEN ROWS OF THIS SEAT. 3 by the template 'for every input the law returns true; each argument reads behind the call as it read before'; 0 by the template 'total and deterministic' (their statements: YtjemciikdijokaaTotals.lean).
  GIVEN WITH THE SEED: the statements are not yours to turn. If you find one false, say at which input.
  Laid BY PROGRAM, IN A SANDBOX (cutbox-rows.mjs): the forced cells as the released guide's own fill.sh prints them over the translation 5ff1c90fd5aae603… (all of the seat's roots in one cut). By AI agents, Wed Nov 11 2026. No macro, syntax, notation, axiom, sorry.
-/
import Derived.Test.YtjemciikdijokaaChecked
import GoSem.Claim
import GoSem.ClaimJoined
import GoSem.ClaimMapViews
import Derived.JoinedTies
import Derived.KernelRfl
namespace Go.Proofs.Ytjemciikdijokaa
/- THE CELL 'sum', in the pinned program and in every row, IS THE sha256 OF THE DUMP (.gsa) THAT YtjemciikdijokaaProg.lean LOADS. Nothing in Lean hashes anything: it is a label: what it is worth is what the hold of that sum in a sandbox is worth. -/
noncomputable def Try.pinned : Pinned := { name := "ytjemciikdijokaa", sum := "5ff1c90fd5aae6033c1d7dfc0ef3572051dcacaa7dfb333cd5a9576109da5684", checked := Try.checked }
namespace Rows
def none {H : Type} : Left H := { results := [], args := [] }

/-- 'laws.FnExactSessionsFault': WHATEVER THE INPUT: true; the input reads as it did. -/
def fnExactSessionsFaultSpec : ChangeSpec := { name := "fnExactSessionsFault", fn := fun _ => fun
  | [d] => { results := [.lit (.bool true)], args := [d] }
  | _ => none }
def fnExactSessionsFaultRow : OpenClaim := { program := "ytjemciikdijokaa", sum := "5ff1c90fd5aae6033c1d7dfc0ef3572051dcacaa7dfb333cd5a9576109da5684", func := "loop.example/g00203/laws.FnExactSessionsFault", spec := "fnExactSessionsFault", unfollowed := true, recurses := true, apart := false }
def FnExactSessionsFaultSaid : Prop := fnExactSessionsFaultRow.holds Try.pinned (OpenSpec.ofChange fnExactSessionsFaultSpec)

/-- ITS FALSE NEIGHBOUR: 'it returns false'. Refute it at one input. -/
def fnExactSessionsFaultWrong : ChangeSpec := { name := "fnExactSessionsFault", fn := fun _ => fun
  | [d] => { results := [.lit (.bool false)], args := [d] }
  | _ => none }
def FnExactSessionsFaultWrongFalsely : Prop := fnExactSessionsFaultRow.holds Try.pinned (OpenSpec.ofChange fnExactSessionsFaultWrong)

/-- 'laws.FnExactOpenSession': WHATEVER THE INPUT: true; the input reads as it did. -/
def fnExactOpenSessionSpec : ChangeSpec := { name := "fnExactOpenSession", fn := fun _ => fun
  | [d1, d2] => { results := [.lit (.bool true)], args := [d1, d2] }
  | _ => none }
def fnExactOpenSessionRow : OpenClaim := { program := "ytjemciikdijokaa", sum := "5ff1c90fd5aae6033c1d7dfc0ef3572051dcacaa7dfb333cd5a9576109da5684", func := "loop.example/g00203/laws.FnExactOpenSession", spec := "fnExactOpenSession", inPlace := ["slices.overlaps[loop.example/g00203/impl.Session]"], unfollowed := true, recurses := true, apart := false }
def FnExactOpenSessionSaid : Prop := fnExactOpenSessionRow.holds Try.pinned (OpenSpec.ofChange fnExactOpenSessionSpec)

/-- ITS FALSE NEIGHBOUR: 'it returns false'. Refute it at one input. -/
def fnExactOpenSessionWrong : ChangeSpec := { name := "fnExactOpenSession", fn := fun _ => fun
  | [d1, d2] => { results := [.lit (.bool false)], args := [d1, d2] }
  | _ => none }
def FnExactOpenSessionWrongFalsely : Prop := fnExactOpenSessionRow.holds Try.pinned (OpenSpec.ofChange fnExactOpenSessionWrong)

/-- 'laws.FnExactIdFor': WHATEVER THE INPUT: true; the input reads as it did. -/
def fnExactIdForSpec : ChangeSpec := { name := "fnExactIdFor", fn := fun _ => fun
  | [d1, d2] => { results := [.lit (.bool true)], args := [d1, d2] }
  | _ => none }
def fnExactIdForRow : OpenClaim := { program := "ytjemciikdijokaa", sum := "5ff1c90fd5aae6033c1d7dfc0ef3572051dcacaa7dfb333cd5a9576109da5684", func := "loop.example/g00203/laws.FnExactIdFor", spec := "fnExactIdFor", apart := false }
def FnExactIdForSaid : Prop := fnExactIdForRow.holds Try.pinned (OpenSpec.ofChange fnExactIdForSpec)

/-- ITS FALSE NEIGHBOUR: 'it returns false'. Refute it at one input. -/
def fnExactIdForWrong : ChangeSpec := { name := "fnExactIdFor", fn := fun _ => fun
  | [d1, d2] => { results := [.lit (.bool false)], args := [d1, d2] }
  | _ => none }
def FnExactIdForWrongFalsely : Prop := fnExactIdForRow.holds Try.pinned (OpenSpec.ofChange fnExactIdForWrong)

/- THE SECOND FORM. 'bulk': how many values and letters a reading holds, each counted each time it is reached (what is shared counts as often as it is met; a slice's spare places count too). A statement '..UptoSaid' is the law's where the arguments, and the package variables that the reading takes, are together of bulk at most 1048576: NARROWER than '..Said'. Prove '..Said' where nothing that the law and all that it calls make is longer than what came in: it says more and counts as full. Else prove '..UptoSaid'. A law counts once. -/
mutual
def uptoBulk {H : Type} : DataW H → Nat
  | .lit (.string bytes) => bytes.length + 1
  | .lit _ => 1
  | .nil => 1
  | .ptr d => uptoBulk d + 1
  | .slice elems spare => uptoBulkAll elems + uptoBulkAll spare + 1
  | .agg parts => uptoBulkAll parts + 1
  | .iface _ d => uptoBulk d + 1
  | .map entries => uptoBulkEntries entries + 1
  | .held _ => 1
def uptoBulkAll {H : Type} : List (DataW H) → Nat
  | [] => 0
  | d :: r => uptoBulk d + uptoBulkAll r
def uptoBulkEntries {H : Type} : List (Lit × DataW H) → Nat
  | [] => 0
  | x :: r => uptoBulkEntry x + uptoBulkEntries r
def uptoBulkEntry {H : Type} : Lit × DataW H → Nat
  | (.string bytes, d) => bytes.length + uptoBulk d + 1
  | (_, d) => uptoBulk d + 1
 end
def uptoSmall : (H : Type) → List (DataW H) → Bool := fun _ ds => decide (uptoBulkAll ds ≤ 1048576)
def OpenSpec.upto (s : _root_.Go.ChangeSpec) : _root_.Go.OpenSpec := { _root_.Go.OpenSpec.ofChange s with cond := some uptoSmall }

/-- 'laws.FnExactSessionsFault', WHERE WHAT IT READS IS OF BULK AT MOST 1048576: true; the input reads as it did. -/
def fnExactSessionsFaultUptoRow : OpenClaim := { program := "ytjemciikdijokaa", sum := "5ff1c90fd5aae6033c1d7dfc0ef3572051dcacaa7dfb333cd5a9576109da5684", func := "loop.example/g00203/laws.FnExactSessionsFault", spec := "fnExactSessionsFault", unfollowed := true, recurses := true, apart := false, narrowed := true }
def FnExactSessionsFaultUptoSaid : Prop := fnExactSessionsFaultUptoRow.holds Try.pinned (OpenSpec.upto fnExactSessionsFaultSpec)

/-- 'laws.FnExactOpenSession', WHERE WHAT IT READS IS OF BULK AT MOST 1048576: true; the input reads as it did. -/
def fnExactOpenSessionUptoRow : OpenClaim := { program := "ytjemciikdijokaa", sum := "5ff1c90fd5aae6033c1d7dfc0ef3572051dcacaa7dfb333cd5a9576109da5684", func := "loop.example/g00203/laws.FnExactOpenSession", spec := "fnExactOpenSession", inPlace := ["slices.overlaps[loop.example/g00203/impl.Session]"], unfollowed := true, recurses := true, apart := false, narrowed := true }
def FnExactOpenSessionUptoSaid : Prop := fnExactOpenSessionUptoRow.holds Try.pinned (OpenSpec.upto fnExactOpenSessionSpec)

/-- 'laws.FnExactIdFor', WHERE WHAT IT READS IS OF BULK AT MOST 1048576: true; the input reads as it did. -/
def fnExactIdForUptoRow : OpenClaim := { program := "ytjemciikdijokaa", sum := "5ff1c90fd5aae6033c1d7dfc0ef3572051dcacaa7dfb333cd5a9576109da5684", func := "loop.example/g00203/laws.FnExactIdFor", spec := "fnExactIdFor", apart := false, narrowed := true }
def FnExactIdForUptoSaid : Prop := fnExactIdForUptoRow.holds Try.pinned (OpenSpec.upto fnExactIdForSpec)

end Rows
end Go.Proofs.Ytjemciikdijokaa

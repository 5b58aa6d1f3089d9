/-
  DERIVED. GIVEN WITH THE SEED: THE CARDS: each row of YtndghenlapbaaaaGreatDoorRows.lean that lists a variable, with what it lists TIED to the program's text (the seventh form; the later family's looks); each row that meets fmt, with fmt's text TOLD by the authors' own Lean function (tested against real Go, not proved from fmt's source: count such statements apart). THE CARD IS WHAT COUNTS. Prove the row's statement (the work); the ties are given (YtndghenlapbaaaaGreatDoorTie.lean); close each card by the builder's one call (the guide's Derived/Test/ToyasCard.lean, 'card_holds'). Laid BY PROGRAM, IN A SANDBOX (cutbox-door.mjs). By AI agents, Wed Nov 11 2026. No macro, syntax, notation, axiom, sorry.
-/
import Derived.Test.YtndghenlapbaaaaGreatDoorRows
import GoSem.ClaimSeven
namespace Go.Proofs.YtndghenlapbaaaaGreatDoor
namespace Rows

/-- THE TIED CARD OF 'laws.FnExactShardText'. -/
def fnExactShardTextCard : Claim7 := { stood := { row := fnExactShardTextRow, standIns := [], harness := (true, "c5621e28ffd245723d4b2ce3805175c22a9f6355672a585467e51c65f93afc94"), looks := true }, kinds := [], alts := [], laidByText := true, laidKinds := [.data, .data, .data], laidTests := true, laidLooks := .later }
def FnExactShardTextCardSaid : Prop := Claim7.holds Tryz.pinned (.plain (OpenSpec.ofChange fnExactShardTextSpec)) fnExactShardTextCard

/-- THE SECOND FORM's CARD OF 'laws.FnExactShardText'. -/
def fnExactShardTextUptoCard : Claim7 := { stood := { row := fnExactShardTextUptoRow, standIns := [], harness := (true, "c5621e28ffd245723d4b2ce3805175c22a9f6355672a585467e51c65f93afc94"), looks := true }, kinds := [], alts := [], laidByText := true, laidKinds := [.data, .data, .data], laidTests := true, laidLooks := .later }
def FnExactShardTextUptoCardSaid : Prop := Claim7.holds Tryz.pinned (.plain (OpenSpec.upto fnExactShardTextSpec)) fnExactShardTextUptoCard
end Rows
end Go.Proofs.YtndghenlapbaaaaGreatDoor

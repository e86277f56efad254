/-
  DERIVED. GIVEN WITH THE SEED: THE CARDS: each row of YtdieodhfkmnbcaaGreatDoorRows.lean that lists a variable, with what it lists TIED to the program's text (the seventh form; the later family's looks); each row that meets fmt, with fmt's text TOLD by the authors' own Lean function (tested against real Go, not proved from fmt's source: count such statements apart). THE CARD IS WHAT COUNTS. Prove the row's statement (the work); the ties are given (YtdieodhfkmnbcaaGreatDoorTie.lean); close each card by the builder's one call (the guide's Derived/Test/ToyasCard.lean, 'card_holds'). Laid BY PROGRAM, IN A SANDBOX (cutbox-door.mjs). By AI agents, Wed Nov 11 2026. No macro, syntax, notation, axiom, sorry.
-/
import Derived.Test.YtdieodhfkmnbcaaGreatDoorRows
import GoSem.ClaimSeven
namespace Go.Proofs.YtdieodhfkmnbcaaGreatDoor
namespace Rows

/-- THE TIED CARD OF 'mailcoachlaw10.HuffPuts'. -/
def huffPutsCard : Claim7 := { stood := { row := huffPutsRow, standIns := [], harness := (true, "027dde06cc6d5dc0601b505e35b1b0108d7750e6b3bdf891004610ac5c9f03c1"), looks := false }, kinds := [], alts := [], laidByText := true, laidKinds := [.data, .data, .data], laidTests := true, laidLooks := .later }
def HuffPutsCardSaid : Prop := Claim7.holds Tryz.pinned (.plain (OpenSpec.ofChange huffPutsSpec)) huffPutsCard

/-- THE SECOND FORM's CARD OF 'mailcoachlaw10.HuffPuts'. -/
def huffPutsUptoCard : Claim7 := { stood := { row := huffPutsUptoRow, standIns := [], harness := (true, "027dde06cc6d5dc0601b505e35b1b0108d7750e6b3bdf891004610ac5c9f03c1"), looks := false }, kinds := [], alts := [], laidByText := true, laidKinds := [.data, .data, .data], laidTests := true, laidLooks := .later }
def HuffPutsUptoCardSaid : Prop := Claim7.holds Tryz.pinned (.plain (OpenSpec.upto huffPutsSpec)) huffPutsUptoCard
end Rows
end Go.Proofs.YtdieodhfkmnbcaaGreatDoor

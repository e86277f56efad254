/-
  DERIVED. GIVEN WITH THE SEED: THE CARDS: each row of YtbheoldakmcppaaGreatDoorRows.lean that lists a variable, with what it lists TIED to the program's text (the seventh form; the later family's looks); each row that meets fmt, with fmt's text TOLD by the authors' own Lean function (tested against real Go, not proved from fmt's source: count such statements apart). THE CARD IS WHAT COUNTS. Prove the row's statement (the work); the ties are given (YtbheoldakmcppaaGreatDoorTie.lean); close each card by the builder's one call (the guide's Derived/Test/ToyasCard.lean, 'card_holds'). Laid BY PROGRAM, IN A SANDBOX (cutbox-door.mjs). By AI agents, Wed Nov 11 2026. No macro, syntax, notation, axiom, sorry.
-/
import Derived.Test.YtbheoldakmcppaaGreatDoorRows
import GoSem.ClaimSeven
namespace Go.Proofs.YtbheoldakmcppaaGreatDoor
namespace Rows

/-- THE TIED CARD OF 'mailcoachlaw13.PacketSeals'. -/
def packetSealsCard : Claim7 := { stood := { row := packetSealsRow, standIns := [], harness := (true, "608c88ca720c6f21a031226fe1f2818323e750732052d9a6fc79fa6fc16a6edc"), looks := false }, kinds := [], alts := [], laidByText := true, laidKinds := [.data, .data, .data, .data, .data, .data], laidTests := true, laidLooks := .later }
def PacketSealsCardSaid : Prop := Claim7.holds Tryz.pinned (.plain (OpenSpec.ofChange packetSealsSpec)) packetSealsCard

/-- THE SECOND FORM's CARD OF 'mailcoachlaw13.PacketSeals'. -/
def packetSealsUptoCard : Claim7 := { stood := { row := packetSealsUptoRow, standIns := [], harness := (true, "608c88ca720c6f21a031226fe1f2818323e750732052d9a6fc79fa6fc16a6edc"), looks := false }, kinds := [], alts := [], laidByText := true, laidKinds := [.data, .data, .data, .data, .data, .data], laidTests := true, laidLooks := .later }
def PacketSealsUptoCardSaid : Prop := Claim7.holds Tryz.pinned (.plain (OpenSpec.upto packetSealsSpec)) packetSealsUptoCard
end Rows
end Go.Proofs.YtbheoldakmcppaaGreatDoor

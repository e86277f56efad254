/-
  DERIVED. GIVEN WITH THE SEED: THE CARDS: each row of YtalhfciiflcfbaaGreatDoorRows.lean that lists a variable, with what it lists TIED to the program's text (the seventh form; the later family's looks); each row that meets fmt, with fmt's text TOLD by the authors' own Lean function (tested against real Go, not proved from fmt's source: count such statements apart). THE CARD IS WHAT COUNTS. Prove the row's statement (the work); the ties are given (YtalhfciiflcfbaaGreatDoorTie.lean); close each card by the builder's one call (the guide's Derived/Test/ToyasCard.lean, 'card_holds'). Laid BY PROGRAM, IN A SANDBOX (cutbox-door.mjs). By AI agents, Wed Nov 11 2026. No macro, syntax, notation, axiom, sorry.
-/
import Derived.Test.YtalhfciiflcfbaaGreatDoorRows
import GoSem.ClaimSeven
namespace Go.Proofs.YtalhfciiflcfbaaGreatDoor
namespace Rows

/-- THE TIED CARD OF 'mailcoachlaw08.RangesChanges'. -/
def rangesChangesCard : Claim7 := { stood := { row := rangesChangesRow, standIns := [], harness := (true, "eed4e2e464eb68da8f6eea693a98196b3476af07d456376e291269f0e8a710f4"), looks := false }, kinds := [], alts := [], laidByText := true, laidKinds := [.data, .data, .data], laidTests := true, laidLooks := .later }
def RangesChangesCardSaid : Prop := Claim7.holds Tryz.pinned (.plain (OpenSpec.ofChange rangesChangesSpec)) rangesChangesCard

/-- THE TIED CARD OF 'mailcoachlaw08.RangesMeets'. -/
def rangesMeetsCard : Claim7 := { stood := { row := rangesMeetsRow, standIns := [], harness := (true, "eed4e2e464eb68da8f6eea693a98196b3476af07d456376e291269f0e8a710f4"), looks := false }, kinds := [], alts := [], laidByText := true, laidKinds := [.data, .data, .data], laidTests := true, laidLooks := .later }
def RangesMeetsCardSaid : Prop := Claim7.holds Tryz.pinned (.plain (OpenSpec.ofChange rangesMeetsSpec)) rangesMeetsCard

/-- THE SECOND FORM's CARD OF 'mailcoachlaw08.RangesChanges'. -/
def rangesChangesUptoCard : Claim7 := { stood := { row := rangesChangesUptoRow, standIns := [], harness := (true, "eed4e2e464eb68da8f6eea693a98196b3476af07d456376e291269f0e8a710f4"), looks := false }, kinds := [], alts := [], laidByText := true, laidKinds := [.data, .data, .data], laidTests := true, laidLooks := .later }
def RangesChangesUptoCardSaid : Prop := Claim7.holds Tryz.pinned (.plain (OpenSpec.upto rangesChangesSpec)) rangesChangesUptoCard

/-- THE SECOND FORM's CARD OF 'mailcoachlaw08.RangesMeets'. -/
def rangesMeetsUptoCard : Claim7 := { stood := { row := rangesMeetsUptoRow, standIns := [], harness := (true, "eed4e2e464eb68da8f6eea693a98196b3476af07d456376e291269f0e8a710f4"), looks := false }, kinds := [], alts := [], laidByText := true, laidKinds := [.data, .data, .data], laidTests := true, laidLooks := .later }
def RangesMeetsUptoCardSaid : Prop := Claim7.holds Tryz.pinned (.plain (OpenSpec.upto rangesMeetsSpec)) rangesMeetsUptoCard
end Rows
end Go.Proofs.YtalhfciiflcfbaaGreatDoor

/-
  DERIVED. GIVEN WITH THE SEED: THE CARDS: each row of YtcfmpkolcelnlaaGreatDoorRows.lean that lists a variable, with what it lists TIED to the program's text (the seventh form; the later family's looks); each row that meets fmt, with fmt's text TOLD by the authors' own Lean function (tested against real Go, not proved from fmt's source: count such statements apart). THE CARD IS WHAT COUNTS. Prove the row's statement (the work); the ties are given (YtcfmpkolcelnlaaGreatDoorTie.lean); close each card by the builder's one call (the guide's Derived/Test/ToyasCard.lean, 'card_holds'). Laid BY PROGRAM, IN A SANDBOX (cutbox-door.mjs). By AI agents, Wed Nov 11 2026. No macro, syntax, notation, axiom, sorry.
-/
import Derived.Test.YtcfmpkolcelnlaaGreatDoorRows
import GoSem.ClaimSeven
namespace Go.Proofs.YtcfmpkolcelnlaaGreatDoor
namespace Rows

/-- THE TIED CARD OF 'mailcoachlaw13.PacketNumbers'. -/
def packetNumbersCard : Claim7 := { stood := { row := packetNumbersRow, standIns := [], harness := (true, "3f1589a2c8ad210059d32e2e72d4f46e6d01cf3d1ad7fe9574af833d364a0f6b"), looks := false }, kinds := [], alts := [], laidByText := true, laidKinds := [.data, .data, .data], laidTests := true, laidLooks := .later }
def PacketNumbersCardSaid : Prop := Claim7.holds Tryz.pinned (.plain (OpenSpec.ofChange packetNumbersSpec)) packetNumbersCard

/-- THE TIED CARD OF 'mailcoachlaw13.PacketSeals'. -/
def packetSealsCard : Claim7 := { stood := { row := packetSealsRow, standIns := [], harness := (true, "3f1589a2c8ad210059d32e2e72d4f46e6d01cf3d1ad7fe9574af833d364a0f6b"), looks := false }, kinds := [], alts := [], laidByText := true, laidKinds := [.data, .data, .data, .data, .data, .data], laidTests := true, laidLooks := .later }
def PacketSealsCardSaid : Prop := Claim7.holds Tryz.pinned (.plain (OpenSpec.ofChange packetSealsSpec)) packetSealsCard

/-- THE TIED CARD OF 'mailcoachlaw13.PacketOpens'. -/
def packetOpensCard : Claim7 := { stood := { row := packetOpensRow, standIns := [], harness := (true, "3f1589a2c8ad210059d32e2e72d4f46e6d01cf3d1ad7fe9574af833d364a0f6b"), looks := false }, kinds := [], alts := [], laidByText := true, laidKinds := [.data, .data, .data, .data, .data, .data], laidTests := true, laidLooks := .later }
def PacketOpensCardSaid : Prop := Claim7.holds Tryz.pinned (.plain (OpenSpec.ofChange packetOpensSpec)) packetOpensCard

/-- THE TIED CARD OF 'mailcoachlaw13.PacketBack'. -/
def packetBackCard : Claim7 := { stood := { row := packetBackRow, standIns := [], harness := (true, "3f1589a2c8ad210059d32e2e72d4f46e6d01cf3d1ad7fe9574af833d364a0f6b"), looks := false }, kinds := [], alts := [], laidByText := true, laidKinds := [.data, .data, .data], laidTests := true, laidLooks := .later }
def PacketBackCardSaid : Prop := Claim7.holds Tryz.pinned (.plain (OpenSpec.ofChange packetBackSpec)) packetBackCard

/-- THE TIED CARD OF 'mailcoachlaw13.PacketWays'. -/
def packetWaysCard : Claim7 := { stood := { row := packetWaysRow, standIns := [], harness := (true, "3f1589a2c8ad210059d32e2e72d4f46e6d01cf3d1ad7fe9574af833d364a0f6b"), looks := false }, kinds := [], alts := [], laidByText := true, laidKinds := [.data, .data, .data], laidTests := true, laidLooks := .later }
def PacketWaysCardSaid : Prop := Claim7.holds Tryz.pinned (.plain (OpenSpec.ofChange packetWaysSpec)) packetWaysCard

/-- THE SECOND FORM's CARD OF 'mailcoachlaw13.PacketNumbers'. -/
def packetNumbersUptoCard : Claim7 := { stood := { row := packetNumbersUptoRow, standIns := [], harness := (true, "3f1589a2c8ad210059d32e2e72d4f46e6d01cf3d1ad7fe9574af833d364a0f6b"), looks := false }, kinds := [], alts := [], laidByText := true, laidKinds := [.data, .data, .data], laidTests := true, laidLooks := .later }
def PacketNumbersUptoCardSaid : Prop := Claim7.holds Tryz.pinned (.plain (OpenSpec.upto packetNumbersSpec)) packetNumbersUptoCard

/-- THE SECOND FORM's CARD OF 'mailcoachlaw13.PacketSeals'. -/
def packetSealsUptoCard : Claim7 := { stood := { row := packetSealsUptoRow, standIns := [], harness := (true, "3f1589a2c8ad210059d32e2e72d4f46e6d01cf3d1ad7fe9574af833d364a0f6b"), looks := false }, kinds := [], alts := [], laidByText := true, laidKinds := [.data, .data, .data, .data, .data, .data], laidTests := true, laidLooks := .later }
def PacketSealsUptoCardSaid : Prop := Claim7.holds Tryz.pinned (.plain (OpenSpec.upto packetSealsSpec)) packetSealsUptoCard

/-- THE SECOND FORM's CARD OF 'mailcoachlaw13.PacketOpens'. -/
def packetOpensUptoCard : Claim7 := { stood := { row := packetOpensUptoRow, standIns := [], harness := (true, "3f1589a2c8ad210059d32e2e72d4f46e6d01cf3d1ad7fe9574af833d364a0f6b"), looks := false }, kinds := [], alts := [], laidByText := true, laidKinds := [.data, .data, .data, .data, .data, .data], laidTests := true, laidLooks := .later }
def PacketOpensUptoCardSaid : Prop := Claim7.holds Tryz.pinned (.plain (OpenSpec.upto packetOpensSpec)) packetOpensUptoCard

/-- THE SECOND FORM's CARD OF 'mailcoachlaw13.PacketBack'. -/
def packetBackUptoCard : Claim7 := { stood := { row := packetBackUptoRow, standIns := [], harness := (true, "3f1589a2c8ad210059d32e2e72d4f46e6d01cf3d1ad7fe9574af833d364a0f6b"), looks := false }, kinds := [], alts := [], laidByText := true, laidKinds := [.data, .data, .data], laidTests := true, laidLooks := .later }
def PacketBackUptoCardSaid : Prop := Claim7.holds Tryz.pinned (.plain (OpenSpec.upto packetBackSpec)) packetBackUptoCard

/-- THE SECOND FORM's CARD OF 'mailcoachlaw13.PacketWays'. -/
def packetWaysUptoCard : Claim7 := { stood := { row := packetWaysUptoRow, standIns := [], harness := (true, "3f1589a2c8ad210059d32e2e72d4f46e6d01cf3d1ad7fe9574af833d364a0f6b"), looks := false }, kinds := [], alts := [], laidByText := true, laidKinds := [.data, .data, .data], laidTests := true, laidLooks := .later }
def PacketWaysUptoCardSaid : Prop := Claim7.holds Tryz.pinned (.plain (OpenSpec.upto packetWaysSpec)) packetWaysUptoCard
end Rows
end Go.Proofs.YtcfmpkolcelnlaaGreatDoor

/-
  DERIVED. GIVEN WITH THE SEED: THE CARDS: each row of YtcdmnbmniiblgaaGreatDoorRows.lean that lists a variable, with what it lists TIED to the program's text (the seventh form; the later family's looks); each row that meets fmt, with fmt's text TOLD by the authors' own Lean function (tested against real Go, not proved from fmt's source: count such statements apart). THE CARD IS WHAT COUNTS. Prove the row's statement (the work); the ties are given (YtcdmnbmniiblgaaGreatDoorTie.lean); close each card by the builder's one call (the guide's Derived/Test/ToyasCard.lean, 'card_holds'). Laid BY PROGRAM, IN A SANDBOX (cutbox-door.mjs). By AI agents, Wed Nov 11 2026. No macro, syntax, notation, axiom, sorry.
-/
import Derived.Test.YtcdmnbmniiblgaaGreatDoorRows
import GoSem.ClaimSeven
namespace Go.Proofs.YtcdmnbmniiblgaaGreatDoor
namespace Rows

/-- THE TIED CARD OF 'mailcoachlaw04.ChachaXors'. -/
def chachaXorsCard : Claim7 := { stood := { row := chachaXorsRow, standIns := [], harness := (true, "da3c14003dbd652a8b4df97763e5a65fb7b5617629d8b760b866d215579ae4bc"), looks := false }, kinds := [], alts := [], laidByText := true, laidKinds := [.data, .data, .data, .data, .data], laidTests := true, laidLooks := .later }
def ChachaXorsCardSaid : Prop := Claim7.holds Tryz.pinned (.plain (OpenSpec.ofChange chachaXorsSpec)) chachaXorsCard

/-- THE SECOND FORM's CARD OF 'mailcoachlaw04.ChachaXors'. -/
def chachaXorsUptoCard : Claim7 := { stood := { row := chachaXorsUptoRow, standIns := [], harness := (true, "da3c14003dbd652a8b4df97763e5a65fb7b5617629d8b760b866d215579ae4bc"), looks := false }, kinds := [], alts := [], laidByText := true, laidKinds := [.data, .data, .data, .data, .data], laidTests := true, laidLooks := .later }
def ChachaXorsUptoCardSaid : Prop := Claim7.holds Tryz.pinned (.plain (OpenSpec.upto chachaXorsSpec)) chachaXorsUptoCard
end Rows
end Go.Proofs.YtcdmnbmniiblgaaGreatDoor

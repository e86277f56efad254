/-
  DERIVED. GIVEN WITH THE SEED: THE CARDS: each row of YtekgdljbninjiaaDoorRows.lean that lists a variable, with what it lists TIED to the program's text (the seventh form; the later family's looks); each row that meets fmt, with fmt's text TOLD by the authors' own Lean function (tested against real Go, not proved from fmt's source: count such statements apart). THE CARD IS WHAT COUNTS. Prove the row's statement (the work); the ties are given (YtekgdljbninjiaaDoorTie.lean); close each card by the builder's one call (the guide's Derived/Test/ToyasCard.lean, 'card_holds'). Laid BY PROGRAM, IN A SANDBOX (cutbox-door.mjs). By AI agents, Wed Nov 11 2026. No macro, syntax, notation, axiom, sorry.
-/
import Derived.Test.YtekgdljbninjiaaDoorRows
import GoSem.ClaimSeven
namespace Go.Proofs.YtekgdljbninjiaaDoor
namespace Rows

/-- THE TIED CARD OF 'mailcoachlaw09.PiecesPlays'. -/
def piecesPlaysCard : Claim7 := { stood := { row := piecesPlaysRow, standIns := [], harness := (true, "c00a0104ffea40ed9613dd2ab4ff2255ea1421567d742c228bf4fc9cafafb3b5"), looks := false }, kinds := [], alts := [], laidByText := true, laidKinds := [.data, .data, .data], laidTests := true, laidLooks := .later }
def PiecesPlaysCardSaid : Prop := Claim7.holds Tryd.pinned (.plain (OpenSpec.ofChange piecesPlaysSpec)) piecesPlaysCard

/-- THE SECOND FORM's CARD OF 'mailcoachlaw09.PiecesPlays'. -/
def piecesPlaysUptoCard : Claim7 := { stood := { row := piecesPlaysUptoRow, standIns := [], harness := (true, "c00a0104ffea40ed9613dd2ab4ff2255ea1421567d742c228bf4fc9cafafb3b5"), looks := false }, kinds := [], alts := [], laidByText := true, laidKinds := [.data, .data, .data], laidTests := true, laidLooks := .later }
def PiecesPlaysUptoCardSaid : Prop := Claim7.holds Tryd.pinned (.plain (OpenSpec.upto piecesPlaysSpec)) piecesPlaysUptoCard
end Rows
end Go.Proofs.YtekgdljbninjiaaDoor

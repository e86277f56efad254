/-
  DERIVED. GIVEN WITH THE SEED: THE CARDS: each row of YtffokggejbmadaaDoorRows.lean that lists a variable, with what it lists TIED to the program's text (the seventh form; the later family's looks); each row that meets fmt, with fmt's text TOLD by the authors' own Lean function (tested against real Go, not proved from fmt's source: count such statements apart). THE CARD IS WHAT COUNTS. Prove the row's statement (the work); the ties are given (YtffokggejbmadaaDoorTie.lean); close each card by the builder's one call (the guide's Derived/Test/ToyasCard.lean, 'card_holds'). Laid BY PROGRAM, IN A SANDBOX (cutbox-door.mjs). By AI agents, Wed Nov 11 2026. No macro, syntax, notation, axiom, sorry.
-/
import Derived.Test.YtffokggejbmadaaDoorRows
import GoSem.ClaimSeven
namespace Go.Proofs.YtffokggejbmadaaDoor
namespace Rows

/-- THE TIED CARD OF 'mailcoachlaw06.AeadBack'. -/
def aeadBackCard : Claim7 := { stood := { row := aeadBackRow, standIns := [], harness := (true, "551462f416171db084e328e344fddaf13f27ac2d38121e30accbab9f215578f0"), looks := false }, kinds := [], alts := [], laidByText := true, laidKinds := [.data, .data], laidTests := true, laidLooks := .later }
def AeadBackCardSaid : Prop := Claim7.holds Tryd.pinned (.plain (OpenSpec.ofChange aeadBackSpec)) aeadBackCard

/-- THE TIED CARD OF 'mailcoachlaw06.AeadTag'. -/
def aeadTagCard : Claim7 := { stood := { row := aeadTagRow, standIns := [], harness := (true, "551462f416171db084e328e344fddaf13f27ac2d38121e30accbab9f215578f0"), looks := false }, kinds := [], alts := [], laidByText := true, laidKinds := [.data, .data], laidTests := true, laidLooks := .later }
def AeadTagCardSaid : Prop := Claim7.holds Tryd.pinned (.plain (OpenSpec.ofChange aeadTagSpec)) aeadTagCard

/-- THE TIED CARD OF 'mailcoachlaw06.AeadMade'. -/
def aeadMadeCard : Claim7 := { stood := { row := aeadMadeRow, standIns := [], harness := (true, "551462f416171db084e328e344fddaf13f27ac2d38121e30accbab9f215578f0"), looks := false }, kinds := [], alts := [], laidByText := true, laidKinds := [.data, .data], laidTests := true, laidLooks := .later }
def AeadMadeCardSaid : Prop := Claim7.holds Tryd.pinned (.plain (OpenSpec.ofChange aeadMadeSpec)) aeadMadeCard

/-- THE SECOND FORM's CARD OF 'mailcoachlaw06.AeadBack'. -/
def aeadBackUptoCard : Claim7 := { stood := { row := aeadBackUptoRow, standIns := [], harness := (true, "551462f416171db084e328e344fddaf13f27ac2d38121e30accbab9f215578f0"), looks := false }, kinds := [], alts := [], laidByText := true, laidKinds := [.data, .data], laidTests := true, laidLooks := .later }
def AeadBackUptoCardSaid : Prop := Claim7.holds Tryd.pinned (.plain (OpenSpec.upto aeadBackSpec)) aeadBackUptoCard

/-- THE SECOND FORM's CARD OF 'mailcoachlaw06.AeadTag'. -/
def aeadTagUptoCard : Claim7 := { stood := { row := aeadTagUptoRow, standIns := [], harness := (true, "551462f416171db084e328e344fddaf13f27ac2d38121e30accbab9f215578f0"), looks := false }, kinds := [], alts := [], laidByText := true, laidKinds := [.data, .data], laidTests := true, laidLooks := .later }
def AeadTagUptoCardSaid : Prop := Claim7.holds Tryd.pinned (.plain (OpenSpec.upto aeadTagSpec)) aeadTagUptoCard

/-- THE SECOND FORM's CARD OF 'mailcoachlaw06.AeadMade'. -/
def aeadMadeUptoCard : Claim7 := { stood := { row := aeadMadeUptoRow, standIns := [], harness := (true, "551462f416171db084e328e344fddaf13f27ac2d38121e30accbab9f215578f0"), looks := false }, kinds := [], alts := [], laidByText := true, laidKinds := [.data, .data], laidTests := true, laidLooks := .later }
def AeadMadeUptoCardSaid : Prop := Claim7.holds Tryd.pinned (.plain (OpenSpec.upto aeadMadeSpec)) aeadMadeUptoCard
end Rows
end Go.Proofs.YtffokggejbmadaaDoor

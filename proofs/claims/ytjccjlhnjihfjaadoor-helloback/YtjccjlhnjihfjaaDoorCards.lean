/-
  DERIVED. GIVEN WITH THE SEED: THE CARDS: each row of YtjccjlhnjihfjaaDoorRows.lean that lists a variable, with what it lists TIED to the program's text (the seventh form; the later family's looks); each row that meets fmt, with fmt's text TOLD by the authors' own Lean function (tested against real Go, not proved from fmt's source: count such statements apart). THE CARD IS WHAT COUNTS. Prove the row's statement (the work); the ties are given (YtjccjlhnjihfjaaDoorTie.lean); close each card by the builder's one call (the guide's Derived/Test/ToyasCard.lean, 'card_holds'). Laid BY PROGRAM, IN A SANDBOX (cutbox-door.mjs). By AI agents, Wed Nov 11 2026. No macro, syntax, notation, axiom, sorry.
-/
import Derived.Test.YtjccjlhnjihfjaaDoorRows
import GoSem.ClaimSeven
namespace Go.Proofs.YtjccjlhnjihfjaaDoor
namespace Rows

/-- THE TIED CARD OF 'mailcoachlaw17.HelloPuts'. -/
def helloPutsCard : Claim7 := { stood := { row := helloPutsRow, standIns := [], harness := (true, "50a320c04e45bad3c00e3957e4ebe2ee55679e93e4d27c04651dcdaedeaeedc4"), looks := false }, kinds := [], alts := [], laidByText := true, laidKinds := [.data, .data, .data, .data], laidTests := true, laidLooks := .later }
def HelloPutsCardSaid : Prop := Claim7.holds Tryd.pinned (.plain (OpenSpec.ofChange helloPutsSpec)) helloPutsCard

/-- THE TIED CARD OF 'mailcoachlaw17.HelloGets'. -/
def helloGetsCard : Claim7 := { stood := { row := helloGetsRow, standIns := [], harness := (true, "50a320c04e45bad3c00e3957e4ebe2ee55679e93e4d27c04651dcdaedeaeedc4"), looks := false }, kinds := [], alts := [], laidByText := true, laidKinds := [.data], laidTests := true, laidLooks := .later }
def HelloGetsCardSaid : Prop := Claim7.holds Tryd.pinned (.plain (OpenSpec.ofChange helloGetsSpec)) helloGetsCard

/-- THE TIED CARD OF 'mailcoachlaw17.HelloProofs'. -/
def helloProofsCard : Claim7 := { stood := { row := helloProofsRow, standIns := [], harness := (true, "50a320c04e45bad3c00e3957e4ebe2ee55679e93e4d27c04651dcdaedeaeedc4"), looks := false }, kinds := [], alts := [], laidByText := true, laidKinds := [.data], laidTests := true, laidLooks := .later }
def HelloProofsCardSaid : Prop := Claim7.holds Tryd.pinned (.plain (OpenSpec.ofChange helloProofsSpec)) helloProofsCard

/-- THE TIED CARD OF 'mailcoachlaw17.HelloBack'. -/
def helloBackCard : Claim7 := { stood := { row := helloBackRow, standIns := [], harness := (true, "50a320c04e45bad3c00e3957e4ebe2ee55679e93e4d27c04651dcdaedeaeedc4"), looks := false }, kinds := [], alts := [], laidByText := true, laidKinds := [.data], laidTests := true, laidLooks := .later }
def HelloBackCardSaid : Prop := Claim7.holds Tryd.pinned (.plain (OpenSpec.ofChange helloBackSpec)) helloBackCard

/-- THE TIED CARD OF 'mailcoachlaw17.HelloAgain'. -/
def helloAgainCard : Claim7 := { stood := { row := helloAgainRow, standIns := [], harness := (true, "50a320c04e45bad3c00e3957e4ebe2ee55679e93e4d27c04651dcdaedeaeedc4"), looks := false }, kinds := [], alts := [], laidByText := true, laidKinds := [.data], laidTests := true, laidLooks := .later }
def HelloAgainCardSaid : Prop := Claim7.holds Tryd.pinned (.plain (OpenSpec.ofChange helloAgainSpec)) helloAgainCard

/-- THE SECOND FORM's CARD OF 'mailcoachlaw17.HelloPuts'. -/
def helloPutsUptoCard : Claim7 := { stood := { row := helloPutsUptoRow, standIns := [], harness := (true, "50a320c04e45bad3c00e3957e4ebe2ee55679e93e4d27c04651dcdaedeaeedc4"), looks := false }, kinds := [], alts := [], laidByText := true, laidKinds := [.data, .data, .data, .data], laidTests := true, laidLooks := .later }
def HelloPutsUptoCardSaid : Prop := Claim7.holds Tryd.pinned (.plain (OpenSpec.upto helloPutsSpec)) helloPutsUptoCard

/-- THE SECOND FORM's CARD OF 'mailcoachlaw17.HelloGets'. -/
def helloGetsUptoCard : Claim7 := { stood := { row := helloGetsUptoRow, standIns := [], harness := (true, "50a320c04e45bad3c00e3957e4ebe2ee55679e93e4d27c04651dcdaedeaeedc4"), looks := false }, kinds := [], alts := [], laidByText := true, laidKinds := [.data], laidTests := true, laidLooks := .later }
def HelloGetsUptoCardSaid : Prop := Claim7.holds Tryd.pinned (.plain (OpenSpec.upto helloGetsSpec)) helloGetsUptoCard

/-- THE SECOND FORM's CARD OF 'mailcoachlaw17.HelloProofs'. -/
def helloProofsUptoCard : Claim7 := { stood := { row := helloProofsUptoRow, standIns := [], harness := (true, "50a320c04e45bad3c00e3957e4ebe2ee55679e93e4d27c04651dcdaedeaeedc4"), looks := false }, kinds := [], alts := [], laidByText := true, laidKinds := [.data], laidTests := true, laidLooks := .later }
def HelloProofsUptoCardSaid : Prop := Claim7.holds Tryd.pinned (.plain (OpenSpec.upto helloProofsSpec)) helloProofsUptoCard

/-- THE SECOND FORM's CARD OF 'mailcoachlaw17.HelloBack'. -/
def helloBackUptoCard : Claim7 := { stood := { row := helloBackUptoRow, standIns := [], harness := (true, "50a320c04e45bad3c00e3957e4ebe2ee55679e93e4d27c04651dcdaedeaeedc4"), looks := false }, kinds := [], alts := [], laidByText := true, laidKinds := [.data], laidTests := true, laidLooks := .later }
def HelloBackUptoCardSaid : Prop := Claim7.holds Tryd.pinned (.plain (OpenSpec.upto helloBackSpec)) helloBackUptoCard

/-- THE SECOND FORM's CARD OF 'mailcoachlaw17.HelloAgain'. -/
def helloAgainUptoCard : Claim7 := { stood := { row := helloAgainUptoRow, standIns := [], harness := (true, "50a320c04e45bad3c00e3957e4ebe2ee55679e93e4d27c04651dcdaedeaeedc4"), looks := false }, kinds := [], alts := [], laidByText := true, laidKinds := [.data], laidTests := true, laidLooks := .later }
def HelloAgainUptoCardSaid : Prop := Claim7.holds Tryd.pinned (.plain (OpenSpec.upto helloAgainSpec)) helloAgainUptoCard
end Rows
end Go.Proofs.YtjccjlhnjihfjaaDoor

/-
  DERIVED. GIVEN WITH THE SEED: THE CARDS: each row of YtmgmejbjekojnaaDoorRows.lean that lists a variable, with what it lists TIED to the program's text (the seventh form; the later family's looks); each row that meets fmt, with fmt's text TOLD by the authors' own Lean function (tested against real Go, not proved from fmt's source: count such statements apart). THE CARD IS WHAT COUNTS. Prove the row's statement (the work); the ties are given (YtmgmejbjekojnaaDoorTie.lean); close each card by the builder's one call (the guide's Derived/Test/ToyasCard.lean, 'card_holds'). Laid BY PROGRAM, IN A SANDBOX (cutbox-door.mjs). By AI agents, Wed Nov 11 2026. No macro, syntax, notation, axiom, sorry.
-/
import Derived.Test.YtmgmejbjekojnaaDoorRows
import GoSem.ClaimSeven
namespace Go.Proofs.YtmgmejbjekojnaaDoor
namespace Rows

/-- THE TIED CARD OF 'mailcoachlaw01.VarintGets'. -/
def varintGetsCard : Claim7 := { stood := { row := varintGetsRow, standIns := [], harness := (true, "6827b3b49ff6a28c02ae14668346ec4938934fd8076c44a8f347ad44f629ef54"), looks := false }, kinds := [], alts := [], laidByText := true, laidKinds := [.data], laidTests := true, laidLooks := .later }
def VarintGetsCardSaid : Prop := Claim7.holds Tryd.pinned (.plain (OpenSpec.ofChange varintGetsSpec)) varintGetsCard

/-- THE TIED CARD OF 'mailcoachlaw01.VarintBack'. -/
def varintBackCard : Claim7 := { stood := { row := varintBackRow, standIns := [], harness := (true, "6827b3b49ff6a28c02ae14668346ec4938934fd8076c44a8f347ad44f629ef54"), looks := false }, kinds := [], alts := [], laidByText := true, laidKinds := [.data], laidTests := true, laidLooks := .later }
def VarintBackCardSaid : Prop := Claim7.holds Tryd.pinned (.plain (OpenSpec.ofChange varintBackSpec)) varintBackCard

/-- THE TIED CARD OF 'mailcoachlaw01.VarintOrder'. -/
def varintOrderCard : Claim7 := { stood := { row := varintOrderRow, standIns := [], harness := (true, "6827b3b49ff6a28c02ae14668346ec4938934fd8076c44a8f347ad44f629ef54"), looks := false }, kinds := [], alts := [], laidByText := true, laidKinds := [.data], laidTests := true, laidLooks := .later }
def VarintOrderCardSaid : Prop := Claim7.holds Tryd.pinned (.plain (OpenSpec.ofChange varintOrderSpec)) varintOrderCard

/-- THE TIED CARD OF 'mailcoachlaw01.VarintPrefixBack'. -/
def varintPrefixBackCard : Claim7 := { stood := { row := varintPrefixBackRow, standIns := [], harness := (true, "6827b3b49ff6a28c02ae14668346ec4938934fd8076c44a8f347ad44f629ef54"), looks := false }, kinds := [], alts := [], laidByText := true, laidKinds := [.data], laidTests := true, laidLooks := .later }
def VarintPrefixBackCardSaid : Prop := Claim7.holds Tryd.pinned (.plain (OpenSpec.ofChange varintPrefixBackSpec)) varintPrefixBackCard

/-- THE TIED CARD OF 'mailcoachlaw01.VarintAgain'. -/
def varintAgainCard : Claim7 := { stood := { row := varintAgainRow, standIns := [], harness := (true, "6827b3b49ff6a28c02ae14668346ec4938934fd8076c44a8f347ad44f629ef54"), looks := false }, kinds := [], alts := [], laidByText := true, laidKinds := [.data], laidTests := true, laidLooks := .later }
def VarintAgainCardSaid : Prop := Claim7.holds Tryd.pinned (.plain (OpenSpec.ofChange varintAgainSpec)) varintAgainCard

/-- THE TIED CARD OF 'mailcoachlaw01.VarintApart'. -/
def varintApartCard : Claim7 := { stood := { row := varintApartRow, standIns := [], harness := (true, "6827b3b49ff6a28c02ae14668346ec4938934fd8076c44a8f347ad44f629ef54"), looks := false }, kinds := [], alts := [], laidByText := true, laidKinds := [.data], laidTests := true, laidLooks := .later }
def VarintApartCardSaid : Prop := Claim7.holds Tryd.pinned (.plain (OpenSpec.ofChange varintApartSpec)) varintApartCard

/-- THE SECOND FORM's CARD OF 'mailcoachlaw01.VarintGets'. -/
def varintGetsUptoCard : Claim7 := { stood := { row := varintGetsUptoRow, standIns := [], harness := (true, "6827b3b49ff6a28c02ae14668346ec4938934fd8076c44a8f347ad44f629ef54"), looks := false }, kinds := [], alts := [], laidByText := true, laidKinds := [.data], laidTests := true, laidLooks := .later }
def VarintGetsUptoCardSaid : Prop := Claim7.holds Tryd.pinned (.plain (OpenSpec.upto varintGetsSpec)) varintGetsUptoCard

/-- THE SECOND FORM's CARD OF 'mailcoachlaw01.VarintBack'. -/
def varintBackUptoCard : Claim7 := { stood := { row := varintBackUptoRow, standIns := [], harness := (true, "6827b3b49ff6a28c02ae14668346ec4938934fd8076c44a8f347ad44f629ef54"), looks := false }, kinds := [], alts := [], laidByText := true, laidKinds := [.data], laidTests := true, laidLooks := .later }
def VarintBackUptoCardSaid : Prop := Claim7.holds Tryd.pinned (.plain (OpenSpec.upto varintBackSpec)) varintBackUptoCard

/-- THE SECOND FORM's CARD OF 'mailcoachlaw01.VarintOrder'. -/
def varintOrderUptoCard : Claim7 := { stood := { row := varintOrderUptoRow, standIns := [], harness := (true, "6827b3b49ff6a28c02ae14668346ec4938934fd8076c44a8f347ad44f629ef54"), looks := false }, kinds := [], alts := [], laidByText := true, laidKinds := [.data], laidTests := true, laidLooks := .later }
def VarintOrderUptoCardSaid : Prop := Claim7.holds Tryd.pinned (.plain (OpenSpec.upto varintOrderSpec)) varintOrderUptoCard

/-- THE SECOND FORM's CARD OF 'mailcoachlaw01.VarintPrefixBack'. -/
def varintPrefixBackUptoCard : Claim7 := { stood := { row := varintPrefixBackUptoRow, standIns := [], harness := (true, "6827b3b49ff6a28c02ae14668346ec4938934fd8076c44a8f347ad44f629ef54"), looks := false }, kinds := [], alts := [], laidByText := true, laidKinds := [.data], laidTests := true, laidLooks := .later }
def VarintPrefixBackUptoCardSaid : Prop := Claim7.holds Tryd.pinned (.plain (OpenSpec.upto varintPrefixBackSpec)) varintPrefixBackUptoCard

/-- THE SECOND FORM's CARD OF 'mailcoachlaw01.VarintAgain'. -/
def varintAgainUptoCard : Claim7 := { stood := { row := varintAgainUptoRow, standIns := [], harness := (true, "6827b3b49ff6a28c02ae14668346ec4938934fd8076c44a8f347ad44f629ef54"), looks := false }, kinds := [], alts := [], laidByText := true, laidKinds := [.data], laidTests := true, laidLooks := .later }
def VarintAgainUptoCardSaid : Prop := Claim7.holds Tryd.pinned (.plain (OpenSpec.upto varintAgainSpec)) varintAgainUptoCard

/-- THE SECOND FORM's CARD OF 'mailcoachlaw01.VarintApart'. -/
def varintApartUptoCard : Claim7 := { stood := { row := varintApartUptoRow, standIns := [], harness := (true, "6827b3b49ff6a28c02ae14668346ec4938934fd8076c44a8f347ad44f629ef54"), looks := false }, kinds := [], alts := [], laidByText := true, laidKinds := [.data], laidTests := true, laidLooks := .later }
def VarintApartUptoCardSaid : Prop := Claim7.holds Tryd.pinned (.plain (OpenSpec.upto varintApartSpec)) varintApartUptoCard
end Rows
end Go.Proofs.YtmgmejbjekojnaaDoor

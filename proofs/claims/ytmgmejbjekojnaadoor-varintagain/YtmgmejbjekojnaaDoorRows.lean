/-
  NARROWER THAN 'FOR EVERY INPUT', by the rows' own cells (each row's printed sentence says how): VarintGets: laid · VarintBack: laid · VarintOrder: laid · VarintPrefixBack: laid · VarintAgain: laid · VarintApart: laid.
  DERIVED. THE GIVEN ROWS OF THIS SEAT. 6 by the template 'for every input the law returns true; each argument reads behind the call as it read before'; 0 by the template 'total and deterministic' (their statements: YtmgmejbjekojnaaDoorTotals.lean).
  GIVEN WITH THE SEED: the statements are not yours to turn. If you find one false, say at which input.
  Laid BY PROGRAM, IN A SANDBOX (cutbox-rows.mjs): the forced cells as the released guide's own fill.sh prints them over the translation 6ec84a1b08fe4649… (all of the seat's roots in one cut). By AI agents, Wed Nov 11 2026. No macro, syntax, notation, axiom, sorry.
-/
import Derived.Test.YtmgmejbjekojnaaDoorChecked
import GoSem.Claim
import GoSem.ClaimJoined
import GoSem.ClaimMapViews
import Derived.JoinedTies
import Derived.KernelRfl
namespace Go.Proofs.YtmgmejbjekojnaaDoor
/- THE CELL 'sum', in the pinned program and in every row, IS THE sha256 OF THE DUMP (.gsa) THAT YtmgmejbjekojnaaDoorProg.lean LOADS. Nothing in Lean hashes anything: it is a label: what it is worth is what the hold of that sum in a sandbox is worth. -/
noncomputable def Tryd.pinned : Pinned := { name := "ytmgmejbjekojnaadoor", sum := "6ec84a1b08fe464922b38a01fde134738a01b422e01ce7bd58b9c5d215034289", checked := Tryd.checked }
namespace Rows
def none {H : Type} : Left H := { results := [], args := [] }

/- WHAT THE LISTED PACKAGE-LEVEL VARIABLES READ AS WHEN THE CALL BEGINS. Each datum BY PROGRAM (the guide's laid-datum.mjs) off the statement by which the dump's own 'gosem.cut.vars' lays the variable. In a bare row this is a premise. The card (YtmgmejbjekojnaaDoorCards.lean) ties it to the program's text. -/
def laid_mailcoach_varint_lengths {H : Type} : DataW H := .agg [.lit (.int .i64 1), .lit (.int .i64 2), .lit (.int .i64 4), .lit (.int .i64 8)]

/-- 'mailcoachlaw01.VarintGets': WHATEVER THE INPUT: true; the input reads as it did. -/
def varintGetsSpec : ChangeSpec := { name := "varintGets", fn := fun _ => fun
  | [d] => { results := [.lit (.bool true)], args := [d] }
  | _ => none }
def varintGetsRow : OpenClaim := { program := "ytmgmejbjekojnaadoor", sum := "6ec84a1b08fe464922b38a01fde134738a01b422e01ce7bd58b9c5d215034289", func := "mailcoach/mailcoachlaw01.VarintGets", spec := "varintGets", named := ["mailcoach/varint.lengths"], apart := false, laid := [("mailcoach/varint.lengths", laid_mailcoach_varint_lengths)] }
def VarintGetsSaid : Prop := varintGetsRow.holds Tryd.pinned (OpenSpec.ofChange varintGetsSpec)

/-- ITS FALSE NEIGHBOUR: 'it returns false'. Refute it at one input. -/
def varintGetsWrong : ChangeSpec := { name := "varintGets", fn := fun _ => fun
  | [d] => { results := [.lit (.bool false)], args := [d] }
  | _ => none }
def VarintGetsWrongFalsely : Prop := varintGetsRow.holds Tryd.pinned (OpenSpec.ofChange varintGetsWrong)

/-- 'mailcoachlaw01.VarintBack': WHATEVER THE INPUT: true; the input reads as it did. -/
def varintBackSpec : ChangeSpec := { name := "varintBack", fn := fun _ => fun
  | [d1, d2] => { results := [.lit (.bool true)], args := [d1, d2] }
  | _ => none }
def varintBackRow : OpenClaim := { program := "ytmgmejbjekojnaadoor", sum := "6ec84a1b08fe464922b38a01fde134738a01b422e01ce7bd58b9c5d215034289", func := "mailcoach/mailcoachlaw01.VarintBack", spec := "varintBack", unfollowed := true, recurses := true, named := ["mailcoach/varint.lengths"], apart := false, laid := [("mailcoach/varint.lengths", laid_mailcoach_varint_lengths)] }
def VarintBackSaid : Prop := varintBackRow.holds Tryd.pinned (OpenSpec.ofChange varintBackSpec)

/-- ITS FALSE NEIGHBOUR: 'it returns false'. Refute it at one input. -/
def varintBackWrong : ChangeSpec := { name := "varintBack", fn := fun _ => fun
  | [d1, d2] => { results := [.lit (.bool false)], args := [d1, d2] }
  | _ => none }
def VarintBackWrongFalsely : Prop := varintBackRow.holds Tryd.pinned (OpenSpec.ofChange varintBackWrong)

/-- 'mailcoachlaw01.VarintOrder': WHATEVER THE INPUT: true; the input reads as it did. -/
def varintOrderSpec : ChangeSpec := { name := "varintOrder", fn := fun _ => fun
  | [d1, d2] => { results := [.lit (.bool true)], args := [d1, d2] }
  | _ => none }
def varintOrderRow : OpenClaim := { program := "ytmgmejbjekojnaadoor", sum := "6ec84a1b08fe464922b38a01fde134738a01b422e01ce7bd58b9c5d215034289", func := "mailcoach/mailcoachlaw01.VarintOrder", spec := "varintOrder", unfollowed := true, recurses := true, named := ["mailcoach/varint.lengths"], apart := false, laid := [("mailcoach/varint.lengths", laid_mailcoach_varint_lengths)] }
def VarintOrderSaid : Prop := varintOrderRow.holds Tryd.pinned (OpenSpec.ofChange varintOrderSpec)

/-- ITS FALSE NEIGHBOUR: 'it returns false'. Refute it at one input. -/
def varintOrderWrong : ChangeSpec := { name := "varintOrder", fn := fun _ => fun
  | [d1, d2] => { results := [.lit (.bool false)], args := [d1, d2] }
  | _ => none }
def VarintOrderWrongFalsely : Prop := varintOrderRow.holds Tryd.pinned (OpenSpec.ofChange varintOrderWrong)

/-- 'mailcoachlaw01.VarintPrefixBack': WHATEVER THE INPUT: true; the input reads as it did. -/
def varintPrefixBackSpec : ChangeSpec := { name := "varintPrefixBack", fn := fun _ => fun
  | [d1, d2, d3] => { results := [.lit (.bool true)], args := [d1, d2, d3] }
  | _ => none }
def varintPrefixBackRow : OpenClaim := { program := "ytmgmejbjekojnaadoor", sum := "6ec84a1b08fe464922b38a01fde134738a01b422e01ce7bd58b9c5d215034289", func := "mailcoach/mailcoachlaw01.VarintPrefixBack", spec := "varintPrefixBack", unfollowed := true, recurses := true, named := ["mailcoach/varint.lengths"], apart := false, laid := [("mailcoach/varint.lengths", laid_mailcoach_varint_lengths)] }
def VarintPrefixBackSaid : Prop := varintPrefixBackRow.holds Tryd.pinned (OpenSpec.ofChange varintPrefixBackSpec)

/-- ITS FALSE NEIGHBOUR: 'it returns false'. Refute it at one input. -/
def varintPrefixBackWrong : ChangeSpec := { name := "varintPrefixBack", fn := fun _ => fun
  | [d1, d2, d3] => { results := [.lit (.bool false)], args := [d1, d2, d3] }
  | _ => none }
def VarintPrefixBackWrongFalsely : Prop := varintPrefixBackRow.holds Tryd.pinned (OpenSpec.ofChange varintPrefixBackWrong)

/-- 'mailcoachlaw01.VarintAgain': WHATEVER THE INPUT: true; the input reads as it did. -/
def varintAgainSpec : ChangeSpec := { name := "varintAgain", fn := fun _ => fun
  | [d1, d2] => { results := [.lit (.bool true)], args := [d1, d2] }
  | _ => none }
def varintAgainRow : OpenClaim := { program := "ytmgmejbjekojnaadoor", sum := "6ec84a1b08fe464922b38a01fde134738a01b422e01ce7bd58b9c5d215034289", func := "mailcoach/mailcoachlaw01.VarintAgain", spec := "varintAgain", unfollowed := true, recurses := true, named := ["mailcoach/varint.lengths"], apart := false, laid := [("mailcoach/varint.lengths", laid_mailcoach_varint_lengths)] }
def VarintAgainSaid : Prop := varintAgainRow.holds Tryd.pinned (OpenSpec.ofChange varintAgainSpec)

/-- ITS FALSE NEIGHBOUR: 'it returns false'. Refute it at one input. -/
def varintAgainWrong : ChangeSpec := { name := "varintAgain", fn := fun _ => fun
  | [d1, d2] => { results := [.lit (.bool false)], args := [d1, d2] }
  | _ => none }
def VarintAgainWrongFalsely : Prop := varintAgainRow.holds Tryd.pinned (OpenSpec.ofChange varintAgainWrong)

/-- 'mailcoachlaw01.VarintApart': WHATEVER THE INPUT: true; the input reads as it did. -/
def varintApartSpec : ChangeSpec := { name := "varintApart", fn := fun _ => fun
  | [d1, d2, d3] => { results := [.lit (.bool true)], args := [d1, d2, d3] }
  | _ => none }
def varintApartRow : OpenClaim := { program := "ytmgmejbjekojnaadoor", sum := "6ec84a1b08fe464922b38a01fde134738a01b422e01ce7bd58b9c5d215034289", func := "mailcoach/mailcoachlaw01.VarintApart", spec := "varintApart", unfollowed := true, recurses := true, named := ["mailcoach/varint.lengths"], apart := false, laid := [("mailcoach/varint.lengths", laid_mailcoach_varint_lengths)] }
def VarintApartSaid : Prop := varintApartRow.holds Tryd.pinned (OpenSpec.ofChange varintApartSpec)

/-- ITS FALSE NEIGHBOUR: 'it returns false'. Refute it at one input. -/
def varintApartWrong : ChangeSpec := { name := "varintApart", fn := fun _ => fun
  | [d1, d2, d3] => { results := [.lit (.bool false)], args := [d1, d2, d3] }
  | _ => none }
def VarintApartWrongFalsely : Prop := varintApartRow.holds Tryd.pinned (OpenSpec.ofChange varintApartWrong)

/- THE SECOND FORM. 'bulk': how many values and letters a reading holds, each counted each time it is reached (what is shared counts as often as it is met; a slice's spare places count too). A statement '..UptoSaid' is the law's where the arguments, and the package variables that the reading takes, are together of bulk at most 1048576: NARROWER than '..Said'. Prove '..Said' where nothing that the law and all that it calls make is longer than what came in: it says more and counts as full. Else prove '..UptoSaid'. A law counts once. -/
mutual
def uptoBulk {H : Type} : DataW H → Nat
  | .lit (.string bytes) => bytes.length + 1
  | .lit _ => 1
  | .nil => 1
  | .ptr d => uptoBulk d + 1
  | .slice elems spare => uptoBulkAll elems + uptoBulkAll spare + 1
  | .agg parts => uptoBulkAll parts + 1
  | .iface _ d => uptoBulk d + 1
  | .map entries => uptoBulkEntries entries + 1
  | .held _ => 1
def uptoBulkAll {H : Type} : List (DataW H) → Nat
  | [] => 0
  | d :: r => uptoBulk d + uptoBulkAll r
def uptoBulkEntries {H : Type} : List (Lit × DataW H) → Nat
  | [] => 0
  | x :: r => uptoBulkEntry x + uptoBulkEntries r
def uptoBulkEntry {H : Type} : Lit × DataW H → Nat
  | (.string bytes, d) => bytes.length + uptoBulk d + 1
  | (_, d) => uptoBulk d + 1
 end
def uptoSmall : (H : Type) → List (DataW H) → Bool := fun _ ds => decide (uptoBulkAll ds ≤ 1048576)
def OpenSpec.upto (s : _root_.Go.ChangeSpec) : _root_.Go.OpenSpec := { _root_.Go.OpenSpec.ofChange s with cond := some uptoSmall }

/-- 'mailcoachlaw01.VarintGets', WHERE WHAT IT READS IS OF BULK AT MOST 1048576: true; the input reads as it did. -/
def varintGetsUptoRow : OpenClaim := { program := "ytmgmejbjekojnaadoor", sum := "6ec84a1b08fe464922b38a01fde134738a01b422e01ce7bd58b9c5d215034289", func := "mailcoach/mailcoachlaw01.VarintGets", spec := "varintGets", named := ["mailcoach/varint.lengths"], apart := false, laid := [("mailcoach/varint.lengths", laid_mailcoach_varint_lengths)], narrowed := true }
def VarintGetsUptoSaid : Prop := varintGetsUptoRow.holds Tryd.pinned (OpenSpec.upto varintGetsSpec)

/-- 'mailcoachlaw01.VarintBack', WHERE WHAT IT READS IS OF BULK AT MOST 1048576: true; the input reads as it did. -/
def varintBackUptoRow : OpenClaim := { program := "ytmgmejbjekojnaadoor", sum := "6ec84a1b08fe464922b38a01fde134738a01b422e01ce7bd58b9c5d215034289", func := "mailcoach/mailcoachlaw01.VarintBack", spec := "varintBack", unfollowed := true, recurses := true, named := ["mailcoach/varint.lengths"], apart := false, laid := [("mailcoach/varint.lengths", laid_mailcoach_varint_lengths)], narrowed := true }
def VarintBackUptoSaid : Prop := varintBackUptoRow.holds Tryd.pinned (OpenSpec.upto varintBackSpec)

/-- 'mailcoachlaw01.VarintOrder', WHERE WHAT IT READS IS OF BULK AT MOST 1048576: true; the input reads as it did. -/
def varintOrderUptoRow : OpenClaim := { program := "ytmgmejbjekojnaadoor", sum := "6ec84a1b08fe464922b38a01fde134738a01b422e01ce7bd58b9c5d215034289", func := "mailcoach/mailcoachlaw01.VarintOrder", spec := "varintOrder", unfollowed := true, recurses := true, named := ["mailcoach/varint.lengths"], apart := false, laid := [("mailcoach/varint.lengths", laid_mailcoach_varint_lengths)], narrowed := true }
def VarintOrderUptoSaid : Prop := varintOrderUptoRow.holds Tryd.pinned (OpenSpec.upto varintOrderSpec)

/-- 'mailcoachlaw01.VarintPrefixBack', WHERE WHAT IT READS IS OF BULK AT MOST 1048576: true; the input reads as it did. -/
def varintPrefixBackUptoRow : OpenClaim := { program := "ytmgmejbjekojnaadoor", sum := "6ec84a1b08fe464922b38a01fde134738a01b422e01ce7bd58b9c5d215034289", func := "mailcoach/mailcoachlaw01.VarintPrefixBack", spec := "varintPrefixBack", unfollowed := true, recurses := true, named := ["mailcoach/varint.lengths"], apart := false, laid := [("mailcoach/varint.lengths", laid_mailcoach_varint_lengths)], narrowed := true }
def VarintPrefixBackUptoSaid : Prop := varintPrefixBackUptoRow.holds Tryd.pinned (OpenSpec.upto varintPrefixBackSpec)

/-- 'mailcoachlaw01.VarintAgain', WHERE WHAT IT READS IS OF BULK AT MOST 1048576: true; the input reads as it did. -/
def varintAgainUptoRow : OpenClaim := { program := "ytmgmejbjekojnaadoor", sum := "6ec84a1b08fe464922b38a01fde134738a01b422e01ce7bd58b9c5d215034289", func := "mailcoach/mailcoachlaw01.VarintAgain", spec := "varintAgain", unfollowed := true, recurses := true, named := ["mailcoach/varint.lengths"], apart := false, laid := [("mailcoach/varint.lengths", laid_mailcoach_varint_lengths)], narrowed := true }
def VarintAgainUptoSaid : Prop := varintAgainUptoRow.holds Tryd.pinned (OpenSpec.upto varintAgainSpec)

/-- 'mailcoachlaw01.VarintApart', WHERE WHAT IT READS IS OF BULK AT MOST 1048576: true; the input reads as it did. -/
def varintApartUptoRow : OpenClaim := { program := "ytmgmejbjekojnaadoor", sum := "6ec84a1b08fe464922b38a01fde134738a01b422e01ce7bd58b9c5d215034289", func := "mailcoach/mailcoachlaw01.VarintApart", spec := "varintApart", unfollowed := true, recurses := true, named := ["mailcoach/varint.lengths"], apart := false, laid := [("mailcoach/varint.lengths", laid_mailcoach_varint_lengths)], narrowed := true }
def VarintApartUptoSaid : Prop := varintApartUptoRow.holds Tryd.pinned (OpenSpec.upto varintApartSpec)

end Rows
end Go.Proofs.YtmgmejbjekojnaaDoor

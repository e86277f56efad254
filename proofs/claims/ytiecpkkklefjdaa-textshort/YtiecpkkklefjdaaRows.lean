/-
  No cell of these rows narrows 'for every input' (looked for: loops, veiled, ifaces, maps, wideKeys, modest, calm, conditions, laid).
  DERIVED. THE GIVEN ROWS OF THIS SEAT. 5 by the template 'for every input the law returns true; each argument reads behind the call as it read before'; 0 by the template 'total and deterministic' (their statements: YtiecpkkklefjdaaTotals.lean).
  GIVEN WITH THE SEED: the statements are not yours to turn. If you find one false, say at which input.
  Laid BY PROGRAM, IN A SANDBOX (cutbox-rows.mjs): the forced cells as the released guide's own fill.sh prints them over the translation 2b1f56d509b267ad… (all of the seat's roots in one cut). By AI agents, Wed Nov 11 2026. No macro, syntax, notation, axiom, sorry.
-/
import Derived.Test.YtiecpkkklefjdaaChecked
import GoSem.Claim
import GoSem.ClaimJoined
import GoSem.ClaimMapViews
import Derived.JoinedTies
import Derived.KernelRfl
namespace Go.Proofs.Ytiecpkkklefjdaa
/- THE CELL 'sum', in the pinned program and in every row, IS THE sha256 OF THE DUMP (.gsa) THAT YtiecpkkklefjdaaProg.lean LOADS. Nothing in Lean hashes anything: it is a label: what it is worth is what the hold of that sum in a sandbox is worth. -/
noncomputable def Try.pinned : Pinned := { name := "ytiecpkkklefjdaa", sum := "2b1f56d509b267ad6c6af68c564435fd64d3cff7efa9f27ae597f5a1e27945ae", checked := Try.checked }
namespace Rows
def none {H : Type} : Left H := { results := [], args := [] }

/-- 'mailcoachlaw11.TextGets': WHATEVER THE INPUT: true; the input reads as it did. -/
def textGetsSpec : ChangeSpec := { name := "textGets", fn := fun _ => fun
  | [d1, d2] => { results := [.lit (.bool true)], args := [d1, d2] }
  | _ => none }
def textGetsRow : OpenClaim := { program := "ytiecpkkklefjdaa", sum := "2b1f56d509b267ad6c6af68c564435fd64d3cff7efa9f27ae597f5a1e27945ae", func := "mailcoach/mailcoachlaw11.TextGets", spec := "textGets", unfollowed := true, recurses := true, plainKeys := false, apart := false }
def TextGetsSaid : Prop := textGetsRow.holds Try.pinned (OpenSpec.ofChange textGetsSpec)

/-- ITS FALSE NEIGHBOUR: 'it returns false'. Refute it at one input. -/
def textGetsWrong : ChangeSpec := { name := "textGets", fn := fun _ => fun
  | [d1, d2] => { results := [.lit (.bool false)], args := [d1, d2] }
  | _ => none }
def TextGetsWrongFalsely : Prop := textGetsRow.holds Try.pinned (OpenSpec.ofChange textGetsWrong)

/-- 'mailcoachlaw11.TextBack': WHATEVER THE INPUT: true; the input reads as it did. -/
def textBackSpec : ChangeSpec := { name := "textBack", fn := fun _ => fun
  | [d1, d2, d3] => { results := [.lit (.bool true)], args := [d1, d2, d3] }
  | _ => none }
def textBackRow : OpenClaim := { program := "ytiecpkkklefjdaa", sum := "2b1f56d509b267ad6c6af68c564435fd64d3cff7efa9f27ae597f5a1e27945ae", func := "mailcoach/mailcoachlaw11.TextBack", spec := "textBack", inPlace := ["internal/bytealg.MakeNoZero"], unfollowed := true, recurses := true, plainKeys := false, apart := false }
def TextBackSaid : Prop := textBackRow.holds Try.pinned (OpenSpec.ofChange textBackSpec)

/-- ITS FALSE NEIGHBOUR: 'it returns false'. Refute it at one input. -/
def textBackWrong : ChangeSpec := { name := "textBack", fn := fun _ => fun
  | [d1, d2, d3] => { results := [.lit (.bool false)], args := [d1, d2, d3] }
  | _ => none }
def TextBackWrongFalsely : Prop := textBackRow.holds Try.pinned (OpenSpec.ofChange textBackWrong)

/-- 'mailcoachlaw11.TextShort': WHATEVER THE INPUT: true; the input reads as it did. -/
def textShortSpec : ChangeSpec := { name := "textShort", fn := fun _ => fun
  | [d1, d2, d3] => { results := [.lit (.bool true)], args := [d1, d2, d3] }
  | _ => none }
def textShortRow : OpenClaim := { program := "ytiecpkkklefjdaa", sum := "2b1f56d509b267ad6c6af68c564435fd64d3cff7efa9f27ae597f5a1e27945ae", func := "mailcoach/mailcoachlaw11.TextShort", spec := "textShort", inPlace := ["internal/bytealg.MakeNoZero"], unfollowed := true, recurses := true, plainKeys := false, apart := false }
def TextShortSaid : Prop := textShortRow.holds Try.pinned (OpenSpec.ofChange textShortSpec)

/-- ITS FALSE NEIGHBOUR: 'it returns false'. Refute it at one input. -/
def textShortWrong : ChangeSpec := { name := "textShort", fn := fun _ => fun
  | [d1, d2, d3] => { results := [.lit (.bool false)], args := [d1, d2, d3] }
  | _ => none }
def TextShortWrongFalsely : Prop := textShortRow.holds Try.pinned (OpenSpec.ofChange textShortWrong)

/-- 'mailcoachlaw11.TextBoth': WHATEVER THE INPUT: true; the input reads as it did. -/
def textBothSpec : ChangeSpec := { name := "textBoth", fn := fun _ => fun
  | [d1, d2] => { results := [.lit (.bool true)], args := [d1, d2] }
  | _ => none }
def textBothRow : OpenClaim := { program := "ytiecpkkklefjdaa", sum := "2b1f56d509b267ad6c6af68c564435fd64d3cff7efa9f27ae597f5a1e27945ae", func := "mailcoach/mailcoachlaw11.TextBoth", spec := "textBoth", inPlace := ["internal/bytealg.MakeNoZero"], unfollowed := true, recurses := true, plainKeys := false, apart := false }
def TextBothSaid : Prop := textBothRow.holds Try.pinned (OpenSpec.ofChange textBothSpec)

/-- ITS FALSE NEIGHBOUR: 'it returns false'. Refute it at one input. -/
def textBothWrong : ChangeSpec := { name := "textBoth", fn := fun _ => fun
  | [d1, d2] => { results := [.lit (.bool false)], args := [d1, d2] }
  | _ => none }
def TextBothWrongFalsely : Prop := textBothRow.holds Try.pinned (OpenSpec.ofChange textBothWrong)

/-- 'mailcoachlaw11.TextAgain': WHATEVER THE INPUT: true; the input reads as it did. -/
def textAgainSpec : ChangeSpec := { name := "textAgain", fn := fun _ => fun
  | [d1, d2] => { results := [.lit (.bool true)], args := [d1, d2] }
  | _ => none }
def textAgainRow : OpenClaim := { program := "ytiecpkkklefjdaa", sum := "2b1f56d509b267ad6c6af68c564435fd64d3cff7efa9f27ae597f5a1e27945ae", func := "mailcoach/mailcoachlaw11.TextAgain", spec := "textAgain", inPlace := ["internal/bytealg.MakeNoZero"], unfollowed := true, recurses := true, plainKeys := false, apart := false }
def TextAgainSaid : Prop := textAgainRow.holds Try.pinned (OpenSpec.ofChange textAgainSpec)

/-- ITS FALSE NEIGHBOUR: 'it returns false'. Refute it at one input. -/
def textAgainWrong : ChangeSpec := { name := "textAgain", fn := fun _ => fun
  | [d1, d2] => { results := [.lit (.bool false)], args := [d1, d2] }
  | _ => none }
def TextAgainWrongFalsely : Prop := textAgainRow.holds Try.pinned (OpenSpec.ofChange textAgainWrong)

/- THE SECOND FORM. 'bulk': how many values and letters a reading holds, each counted each time it is reached (what is shared counts as often as it is met; a slice's spare places count too). A statement '..UptoSaid' is the law's where the arguments, and the package variables that the reading takes, are together of bulk at most 1048576: NARROWER than '..Said'. Prove '..Said' where nothing that the law and all that it calls make is longer than what came in: it says more and counts as full. Else prove '..UptoSaid'. A law counts once. -/
mutual
def uptoBulk {H : Type} : DataW H → Nat
  | .lit (.string bytes) => bytes.length + 1
  | .lit _ => 1
  | .nil => 1
  | .ptr d => uptoBulk d + 1
  | .slice elems spare => uptoBulkAll elems + uptoBulkAll spare + 1
  | .agg parts => uptoBulkAll parts + 1
  | .iface _ d => uptoBulk d + 1
  | .map entries => uptoBulkEntries entries + 1
  | .held _ => 1
def uptoBulkAll {H : Type} : List (DataW H) → Nat
  | [] => 0
  | d :: r => uptoBulk d + uptoBulkAll r
def uptoBulkEntries {H : Type} : List (Lit × DataW H) → Nat
  | [] => 0
  | x :: r => uptoBulkEntry x + uptoBulkEntries r
def uptoBulkEntry {H : Type} : Lit × DataW H → Nat
  | (.string bytes, d) => bytes.length + uptoBulk d + 1
  | (_, d) => uptoBulk d + 1
 end
def uptoSmall : (H : Type) → List (DataW H) → Bool := fun _ ds => decide (uptoBulkAll ds ≤ 1048576)
def OpenSpec.upto (s : _root_.Go.ChangeSpec) : _root_.Go.OpenSpec := { _root_.Go.OpenSpec.ofChange s with cond := some uptoSmall }

/-- 'mailcoachlaw11.TextGets', WHERE WHAT IT READS IS OF BULK AT MOST 1048576: true; the input reads as it did. -/
def textGetsUptoRow : OpenClaim := { program := "ytiecpkkklefjdaa", sum := "2b1f56d509b267ad6c6af68c564435fd64d3cff7efa9f27ae597f5a1e27945ae", func := "mailcoach/mailcoachlaw11.TextGets", spec := "textGets", unfollowed := true, recurses := true, plainKeys := false, apart := false, narrowed := true }
def TextGetsUptoSaid : Prop := textGetsUptoRow.holds Try.pinned (OpenSpec.upto textGetsSpec)

/-- 'mailcoachlaw11.TextBack', WHERE WHAT IT READS IS OF BULK AT MOST 1048576: true; the input reads as it did. -/
def textBackUptoRow : OpenClaim := { program := "ytiecpkkklefjdaa", sum := "2b1f56d509b267ad6c6af68c564435fd64d3cff7efa9f27ae597f5a1e27945ae", func := "mailcoach/mailcoachlaw11.TextBack", spec := "textBack", inPlace := ["internal/bytealg.MakeNoZero"], unfollowed := true, recurses := true, plainKeys := false, apart := false, narrowed := true }
def TextBackUptoSaid : Prop := textBackUptoRow.holds Try.pinned (OpenSpec.upto textBackSpec)

/-- 'mailcoachlaw11.TextShort', WHERE WHAT IT READS IS OF BULK AT MOST 1048576: true; the input reads as it did. -/
def textShortUptoRow : OpenClaim := { program := "ytiecpkkklefjdaa", sum := "2b1f56d509b267ad6c6af68c564435fd64d3cff7efa9f27ae597f5a1e27945ae", func := "mailcoach/mailcoachlaw11.TextShort", spec := "textShort", inPlace := ["internal/bytealg.MakeNoZero"], unfollowed := true, recurses := true, plainKeys := false, apart := false, narrowed := true }
def TextShortUptoSaid : Prop := textShortUptoRow.holds Try.pinned (OpenSpec.upto textShortSpec)

/-- 'mailcoachlaw11.TextBoth', WHERE WHAT IT READS IS OF BULK AT MOST 1048576: true; the input reads as it did. -/
def textBothUptoRow : OpenClaim := { program := "ytiecpkkklefjdaa", sum := "2b1f56d509b267ad6c6af68c564435fd64d3cff7efa9f27ae597f5a1e27945ae", func := "mailcoach/mailcoachlaw11.TextBoth", spec := "textBoth", inPlace := ["internal/bytealg.MakeNoZero"], unfollowed := true, recurses := true, plainKeys := false, apart := false, narrowed := true }
def TextBothUptoSaid : Prop := textBothUptoRow.holds Try.pinned (OpenSpec.upto textBothSpec)

/-- 'mailcoachlaw11.TextAgain', WHERE WHAT IT READS IS OF BULK AT MOST 1048576: true; the input reads as it did. -/
def textAgainUptoRow : OpenClaim := { program := "ytiecpkkklefjdaa", sum := "2b1f56d509b267ad6c6af68c564435fd64d3cff7efa9f27ae597f5a1e27945ae", func := "mailcoach/mailcoachlaw11.TextAgain", spec := "textAgain", inPlace := ["internal/bytealg.MakeNoZero"], unfollowed := true, recurses := true, plainKeys := false, apart := false, narrowed := true }
def TextAgainUptoSaid : Prop := textAgainUptoRow.holds Try.pinned (OpenSpec.upto textAgainSpec)

end Rows
end Go.Proofs.Ytiecpkkklefjdaa

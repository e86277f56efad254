/-
  NARROWER THAN 'FOR EVERY INPUT', by the rows' own cells (each row's printed sentence says how): FrameBack: laid · FrameAgain: laid · FrameJoins: laid · FrameAcks: laid.
  DERIVED. THE GIVEN ROWS OF THIS SEAT. 4 by the template 'for every input the law returns true; each argument reads behind the call as it read before'; 0 by the template 'total and deterministic' (their statements: YtjhgelhdhdcmfaaDoorTotals.lean).
  GIVEN WITH THE SEED: the statements are not yours to turn. If you find one false, say at which input.
  Laid BY PROGRAM, IN A SANDBOX (cutbox-rows.mjs): the forced cells as the released guide's own fill.sh prints them over the translation 93e759f2033fef15… (all of the seat's roots in one cut). By AI agents, Wed Nov 11 2026. No macro, syntax, notation, axiom, sorry.
-/
import Derived.Test.YtjhgelhdhdcmfaaDoorChecked
import GoSem.Claim
import GoSem.ClaimJoined
import GoSem.ClaimMapViews
import Derived.JoinedTies
import Derived.KernelRfl
namespace Go.Proofs.YtjhgelhdhdcmfaaDoor
/- THE CELL 'sum', in the pinned program and in every row, IS THE sha256 OF THE DUMP (.gsa) THAT YtjhgelhdhdcmfaaDoorProg.lean LOADS. Nothing in Lean hashes anything: it is a label: what it is worth is what the hold of that sum in a sandbox is worth. -/
noncomputable def Tryd.pinned : Pinned := { name := "ytjhgelhdhdcmfaadoor", sum := "93e759f2033fef15a67ff060a3ad5d8d2adf54ef165f46384ce024fd703a68b0", checked := Tryd.checked }
namespace Rows
def none {H : Type} : Left H := { results := [], args := [] }

/- WHAT THE LISTED PACKAGE-LEVEL VARIABLES READ AS WHEN THE CALL BEGINS. Each datum BY PROGRAM (the guide's laid-datum.mjs) off the statement by which the dump's own 'gosem.cut.vars' lays the variable. In a bare row this is a premise. The card (YtjhgelhdhdcmfaaDoorCards.lean) ties it to the program's text. -/
def laid_mailcoach_varint_lengths {H : Type} : DataW H := .agg [.lit (.int .i64 1), .lit (.int .i64 2), .lit (.int .i64 4), .lit (.int .i64 8)]
def laid_mailcoach_frame_named {H : Type} : DataW H := .agg [.lit (.int .i64 0), .lit (.int .i64 4), .lit (.int .i64 0), .lit (.int .i64 68), .lit (.int .i64 13), .lit (.int .i64 9), .lit (.int .i64 34), .lit (.int .i64 51), .lit (.int .i64 4), .lit (.int .i64 5), .lit (.int .i64 20), .lit (.int .i64 4), .lit (.int .i64 5), .lit (.int .i64 56), .lit (.int .i64 0)]

/-- 'mailcoachlaw07.FrameBack': WHATEVER THE INPUT: true; the input reads as it did. -/
def frameBackSpec : ChangeSpec := { name := "frameBack", fn := fun _ => fun
  | [d] => { results := [.lit (.bool true)], args := [d] }
  | _ => none }
def frameBackRow : OpenClaim := { program := "ytjhgelhdhdcmfaadoor", sum := "93e759f2033fef15a67ff060a3ad5d8d2adf54ef165f46384ce024fd703a68b0", func := "mailcoach/mailcoachlaw07.FrameBack", spec := "frameBack", unfollowed := true, recurses := true, named := ["mailcoach/frame.named", "mailcoach/varint.lengths"], apart := false, laid := [("mailcoach/varint.lengths", laid_mailcoach_varint_lengths), ("mailcoach/frame.named", laid_mailcoach_frame_named)] }
def FrameBackSaid : Prop := frameBackRow.holds Tryd.pinned (OpenSpec.ofChange frameBackSpec)

/-- ITS FALSE NEIGHBOUR: 'it returns false'. Refute it at one input. -/
def frameBackWrong : ChangeSpec := { name := "frameBack", fn := fun _ => fun
  | [d] => { results := [.lit (.bool false)], args := [d] }
  | _ => none }
def FrameBackWrongFalsely : Prop := frameBackRow.holds Tryd.pinned (OpenSpec.ofChange frameBackWrong)

/-- 'mailcoachlaw07.FrameAgain': WHATEVER THE INPUT: true; the input reads as it did. -/
def frameAgainSpec : ChangeSpec := { name := "frameAgain", fn := fun _ => fun
  | [d] => { results := [.lit (.bool true)], args := [d] }
  | _ => none }
def frameAgainRow : OpenClaim := { program := "ytjhgelhdhdcmfaadoor", sum := "93e759f2033fef15a67ff060a3ad5d8d2adf54ef165f46384ce024fd703a68b0", func := "mailcoach/mailcoachlaw07.FrameAgain", spec := "frameAgain", unfollowed := true, recurses := true, named := ["mailcoach/frame.named", "mailcoach/varint.lengths"], apart := false, laid := [("mailcoach/varint.lengths", laid_mailcoach_varint_lengths), ("mailcoach/frame.named", laid_mailcoach_frame_named)] }
def FrameAgainSaid : Prop := frameAgainRow.holds Tryd.pinned (OpenSpec.ofChange frameAgainSpec)

/-- ITS FALSE NEIGHBOUR: 'it returns false'. Refute it at one input. -/
def frameAgainWrong : ChangeSpec := { name := "frameAgain", fn := fun _ => fun
  | [d] => { results := [.lit (.bool false)], args := [d] }
  | _ => none }
def FrameAgainWrongFalsely : Prop := frameAgainRow.holds Tryd.pinned (OpenSpec.ofChange frameAgainWrong)

/-- 'mailcoachlaw07.FrameJoins': WHATEVER THE INPUT: true; the input reads as it did. -/
def frameJoinsSpec : ChangeSpec := { name := "frameJoins", fn := fun _ => fun
  | [d1, d2] => { results := [.lit (.bool true)], args := [d1, d2] }
  | _ => none }
def frameJoinsRow : OpenClaim := { program := "ytjhgelhdhdcmfaadoor", sum := "93e759f2033fef15a67ff060a3ad5d8d2adf54ef165f46384ce024fd703a68b0", func := "mailcoach/mailcoachlaw07.FrameJoins", spec := "frameJoins", unfollowed := true, recurses := true, named := ["mailcoach/frame.named", "mailcoach/varint.lengths"], apart := false, laid := [("mailcoach/varint.lengths", laid_mailcoach_varint_lengths), ("mailcoach/frame.named", laid_mailcoach_frame_named)] }
def FrameJoinsSaid : Prop := frameJoinsRow.holds Tryd.pinned (OpenSpec.ofChange frameJoinsSpec)

/-- ITS FALSE NEIGHBOUR: 'it returns false'. Refute it at one input. -/
def frameJoinsWrong : ChangeSpec := { name := "frameJoins", fn := fun _ => fun
  | [d1, d2] => { results := [.lit (.bool false)], args := [d1, d2] }
  | _ => none }
def FrameJoinsWrongFalsely : Prop := frameJoinsRow.holds Tryd.pinned (OpenSpec.ofChange frameJoinsWrong)

/-- 'mailcoachlaw07.FrameAcks': WHATEVER THE INPUT: true; the input reads as it did. -/
def frameAcksSpec : ChangeSpec := { name := "frameAcks", fn := fun _ => fun
  | [d1, d2, d3] => { results := [.lit (.bool true)], args := [d1, d2, d3] }
  | _ => none }
def frameAcksRow : OpenClaim := { program := "ytjhgelhdhdcmfaadoor", sum := "93e759f2033fef15a67ff060a3ad5d8d2adf54ef165f46384ce024fd703a68b0", func := "mailcoach/mailcoachlaw07.FrameAcks", spec := "frameAcks", unfollowed := true, recurses := true, named := ["mailcoach/frame.named", "mailcoach/varint.lengths"], apart := false, laid := [("mailcoach/varint.lengths", laid_mailcoach_varint_lengths), ("mailcoach/frame.named", laid_mailcoach_frame_named)] }
def FrameAcksSaid : Prop := frameAcksRow.holds Tryd.pinned (OpenSpec.ofChange frameAcksSpec)

/-- ITS FALSE NEIGHBOUR: 'it returns false'. Refute it at one input. -/
def frameAcksWrong : ChangeSpec := { name := "frameAcks", fn := fun _ => fun
  | [d1, d2, d3] => { results := [.lit (.bool false)], args := [d1, d2, d3] }
  | _ => none }
def FrameAcksWrongFalsely : Prop := frameAcksRow.holds Tryd.pinned (OpenSpec.ofChange frameAcksWrong)

/- THE SECOND FORM. 'bulk': how many values and letters a reading holds, each counted each time it is reached (what is shared counts as often as it is met; a slice's spare places count too). A statement '..UptoSaid' is the law's where the arguments, and the package variables that the reading takes, are together of bulk at most 1048576: NARROWER than '..Said'. Prove '..Said' where nothing that the law and all that it calls make is longer than what came in: it says more and counts as full. Else prove '..UptoSaid'. A law counts once. -/
mutual
def uptoBulk {H : Type} : DataW H → Nat
  | .lit (.string bytes) => bytes.length + 1
  | .lit _ => 1
  | .nil => 1
  | .ptr d => uptoBulk d + 1
  | .slice elems spare => uptoBulkAll elems + uptoBulkAll spare + 1
  | .agg parts => uptoBulkAll parts + 1
  | .iface _ d => uptoBulk d + 1
  | .map entries => uptoBulkEntries entries + 1
  | .held _ => 1
def uptoBulkAll {H : Type} : List (DataW H) → Nat
  | [] => 0
  | d :: r => uptoBulk d + uptoBulkAll r
def uptoBulkEntries {H : Type} : List (Lit × DataW H) → Nat
  | [] => 0
  | x :: r => uptoBulkEntry x + uptoBulkEntries r
def uptoBulkEntry {H : Type} : Lit × DataW H → Nat
  | (.string bytes, d) => bytes.length + uptoBulk d + 1
  | (_, d) => uptoBulk d + 1
 end
def uptoSmall : (H : Type) → List (DataW H) → Bool := fun _ ds => decide (uptoBulkAll ds ≤ 1048576)
def OpenSpec.upto (s : _root_.Go.ChangeSpec) : _root_.Go.OpenSpec := { _root_.Go.OpenSpec.ofChange s with cond := some uptoSmall }

/-- 'mailcoachlaw07.FrameBack', WHERE WHAT IT READS IS OF BULK AT MOST 1048576: true; the input reads as it did. -/
def frameBackUptoRow : OpenClaim := { program := "ytjhgelhdhdcmfaadoor", sum := "93e759f2033fef15a67ff060a3ad5d8d2adf54ef165f46384ce024fd703a68b0", func := "mailcoach/mailcoachlaw07.FrameBack", spec := "frameBack", unfollowed := true, recurses := true, named := ["mailcoach/frame.named", "mailcoach/varint.lengths"], apart := false, laid := [("mailcoach/varint.lengths", laid_mailcoach_varint_lengths), ("mailcoach/frame.named", laid_mailcoach_frame_named)], narrowed := true }
def FrameBackUptoSaid : Prop := frameBackUptoRow.holds Tryd.pinned (OpenSpec.upto frameBackSpec)

/-- 'mailcoachlaw07.FrameAgain', WHERE WHAT IT READS IS OF BULK AT MOST 1048576: true; the input reads as it did. -/
def frameAgainUptoRow : OpenClaim := { program := "ytjhgelhdhdcmfaadoor", sum := "93e759f2033fef15a67ff060a3ad5d8d2adf54ef165f46384ce024fd703a68b0", func := "mailcoach/mailcoachlaw07.FrameAgain", spec := "frameAgain", unfollowed := true, recurses := true, named := ["mailcoach/frame.named", "mailcoach/varint.lengths"], apart := false, laid := [("mailcoach/varint.lengths", laid_mailcoach_varint_lengths), ("mailcoach/frame.named", laid_mailcoach_frame_named)], narrowed := true }
def FrameAgainUptoSaid : Prop := frameAgainUptoRow.holds Tryd.pinned (OpenSpec.upto frameAgainSpec)

/-- 'mailcoachlaw07.FrameJoins', WHERE WHAT IT READS IS OF BULK AT MOST 1048576: true; the input reads as it did. -/
def frameJoinsUptoRow : OpenClaim := { program := "ytjhgelhdhdcmfaadoor", sum := "93e759f2033fef15a67ff060a3ad5d8d2adf54ef165f46384ce024fd703a68b0", func := "mailcoach/mailcoachlaw07.FrameJoins", spec := "frameJoins", unfollowed := true, recurses := true, named := ["mailcoach/frame.named", "mailcoach/varint.lengths"], apart := false, laid := [("mailcoach/varint.lengths", laid_mailcoach_varint_lengths), ("mailcoach/frame.named", laid_mailcoach_frame_named)], narrowed := true }
def FrameJoinsUptoSaid : Prop := frameJoinsUptoRow.holds Tryd.pinned (OpenSpec.upto frameJoinsSpec)

/-- 'mailcoachlaw07.FrameAcks', WHERE WHAT IT READS IS OF BULK AT MOST 1048576: true; the input reads as it did. -/
def frameAcksUptoRow : OpenClaim := { program := "ytjhgelhdhdcmfaadoor", sum := "93e759f2033fef15a67ff060a3ad5d8d2adf54ef165f46384ce024fd703a68b0", func := "mailcoach/mailcoachlaw07.FrameAcks", spec := "frameAcks", unfollowed := true, recurses := true, named := ["mailcoach/frame.named", "mailcoach/varint.lengths"], apart := false, laid := [("mailcoach/varint.lengths", laid_mailcoach_varint_lengths), ("mailcoach/frame.named", laid_mailcoach_frame_named)], narrowed := true }
def FrameAcksUptoSaid : Prop := frameAcksUptoRow.holds Tryd.pinned (OpenSpec.upto frameAcksSpec)

end Rows
end Go.Proofs.YtjhgelhdhdcmfaaDoor

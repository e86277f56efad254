/-
  NARROWER THAN 'FOR EVERY INPUT', by the rows' own cells (each row's printed sentence says how): ChachaBlocks: laid · ChachaTwice: laid · ChachaParts: laid · ChachaUndone: laid.
  DERIVED. THE GIVEN ROWS OF THIS SEAT. 4 by the template 'for every input the law returns true; each argument reads behind the call as it read before'; 0 by the template 'total and deterministic' (their statements: YtcdmnbmniiblgaaDoorTotals.lean).
  GIVEN WITH THE SEED: the statements are not yours to turn. If you find one false, say at which input.
  Laid BY PROGRAM, IN A SANDBOX (cutbox-rows.mjs): the forced cells as the released guide's own fill.sh prints them over the translation 0cd5f7886590a085… (all of the seat's roots in one cut). By AI agents, Wed Nov 11 2026. No macro, syntax, notation, axiom, sorry.
-/
import Derived.Test.YtcdmnbmniiblgaaDoorChecked
import GoSem.Claim
import GoSem.ClaimJoined
import GoSem.ClaimMapViews
import Derived.JoinedTies
import Derived.KernelRfl
namespace Go.Proofs.YtcdmnbmniiblgaaDoor
/- THE CELL 'sum', in the pinned program and in every row, IS THE sha256 OF THE DUMP (.gsa) THAT YtcdmnbmniiblgaaDoorProg.lean LOADS. Nothing in Lean hashes anything: it is a label: what it is worth is what the hold of that sum in a sandbox is worth. -/
noncomputable def Tryd.pinned : Pinned := { name := "ytcdmnbmniiblgaadoor", sum := "0cd5f7886590a0858716b4a6ce0639845cd6b7d7d76a705b4d123a638e4141e8", checked := Tryd.checked }
namespace Rows
def none {H : Type} : Left H := { results := [], args := [] }

/- WHAT THE LISTED PACKAGE-LEVEL VARIABLES READ AS WHEN THE CALL BEGINS. Each datum BY PROGRAM (the guide's laid-datum.mjs) off the statement by which the dump's own 'gosem.cut.vars' lays the variable. In a bare row this is a premise. The card (YtcdmnbmniiblgaaDoorCards.lean) ties it to the program's text. -/
def laid_mailcoach_chacha_begin {H : Type} : DataW H := .agg [.lit (.int .u32 1634760805), .lit (.int .u32 857760878), .lit (.int .u32 2036477234), .lit (.int .u32 1797285236)]
def laid_mailcoach_chacha_quarters {H : Type} : DataW H := .agg [.agg [.lit (.int .i64 0), .lit (.int .i64 4), .lit (.int .i64 8), .lit (.int .i64 12)], .agg [.lit (.int .i64 1), .lit (.int .i64 5), .lit (.int .i64 9), .lit (.int .i64 13)], .agg [.lit (.int .i64 2), .lit (.int .i64 6), .lit (.int .i64 10), .lit (.int .i64 14)], .agg [.lit (.int .i64 3), .lit (.int .i64 7), .lit (.int .i64 11), .lit (.int .i64 15)], .agg [.lit (.int .i64 0), .lit (.int .i64 5), .lit (.int .i64 10), .lit (.int .i64 15)], .agg [.lit (.int .i64 1), .lit (.int .i64 6), .lit (.int .i64 11), .lit (.int .i64 12)], .agg [.lit (.int .i64 2), .lit (.int .i64 7), .lit (.int .i64 8), .lit (.int .i64 13)], .agg [.lit (.int .i64 3), .lit (.int .i64 4), .lit (.int .i64 9), .lit (.int .i64 14)]]

/-- 'mailcoachlaw04.ChachaBlocks': WHATEVER THE INPUT: true; the input reads as it did. -/
def chachaBlocksSpec : ChangeSpec := { name := "chachaBlocks", fn := fun _ => fun
  | [d] => { results := [.lit (.bool true)], args := [d] }
  | _ => none }
def chachaBlocksRow : OpenClaim := { program := "ytcdmnbmniiblgaadoor", sum := "0cd5f7886590a0858716b4a6ce0639845cd6b7d7d76a705b4d123a638e4141e8", func := "mailcoach/mailcoachlaw04.ChachaBlocks", spec := "chachaBlocks", named := ["mailcoach/chacha.begin", "mailcoach/chacha.quarters"], apart := false, laid := [("mailcoach/chacha.begin", laid_mailcoach_chacha_begin), ("mailcoach/chacha.quarters", laid_mailcoach_chacha_quarters)] }
def ChachaBlocksSaid : Prop := chachaBlocksRow.holds Tryd.pinned (OpenSpec.ofChange chachaBlocksSpec)

/-- ITS FALSE NEIGHBOUR: 'it returns false'. Refute it at one input. -/
def chachaBlocksWrong : ChangeSpec := { name := "chachaBlocks", fn := fun _ => fun
  | [d] => { results := [.lit (.bool false)], args := [d] }
  | _ => none }
def ChachaBlocksWrongFalsely : Prop := chachaBlocksRow.holds Tryd.pinned (OpenSpec.ofChange chachaBlocksWrong)

/-- 'mailcoachlaw04.ChachaTwice': WHATEVER THE INPUT: true; the input reads as it did. -/
def chachaTwiceSpec : ChangeSpec := { name := "chachaTwice", fn := fun _ => fun
  | [d1, d2] => { results := [.lit (.bool true)], args := [d1, d2] }
  | _ => none }
def chachaTwiceRow : OpenClaim := { program := "ytcdmnbmniiblgaadoor", sum := "0cd5f7886590a0858716b4a6ce0639845cd6b7d7d76a705b4d123a638e4141e8", func := "mailcoach/mailcoachlaw04.ChachaTwice", spec := "chachaTwice", unfollowed := true, recurses := true, named := ["mailcoach/chacha.begin", "mailcoach/chacha.quarters"], apart := false, laid := [("mailcoach/chacha.begin", laid_mailcoach_chacha_begin), ("mailcoach/chacha.quarters", laid_mailcoach_chacha_quarters)] }
def ChachaTwiceSaid : Prop := chachaTwiceRow.holds Tryd.pinned (OpenSpec.ofChange chachaTwiceSpec)

/-- ITS FALSE NEIGHBOUR: 'it returns false'. Refute it at one input. -/
def chachaTwiceWrong : ChangeSpec := { name := "chachaTwice", fn := fun _ => fun
  | [d1, d2] => { results := [.lit (.bool false)], args := [d1, d2] }
  | _ => none }
def ChachaTwiceWrongFalsely : Prop := chachaTwiceRow.holds Tryd.pinned (OpenSpec.ofChange chachaTwiceWrong)

/-- 'mailcoachlaw04.ChachaParts': WHATEVER THE INPUT: true; the input reads as it did. -/
def chachaPartsSpec : ChangeSpec := { name := "chachaParts", fn := fun _ => fun
  | [d1, d2, d3] => { results := [.lit (.bool true)], args := [d1, d2, d3] }
  | _ => none }
def chachaPartsRow : OpenClaim := { program := "ytcdmnbmniiblgaadoor", sum := "0cd5f7886590a0858716b4a6ce0639845cd6b7d7d76a705b4d123a638e4141e8", func := "mailcoach/mailcoachlaw04.ChachaParts", spec := "chachaParts", unfollowed := true, recurses := true, named := ["mailcoach/chacha.begin", "mailcoach/chacha.quarters"], apart := false, laid := [("mailcoach/chacha.begin", laid_mailcoach_chacha_begin), ("mailcoach/chacha.quarters", laid_mailcoach_chacha_quarters)] }
def ChachaPartsSaid : Prop := chachaPartsRow.holds Tryd.pinned (OpenSpec.ofChange chachaPartsSpec)

/-- ITS FALSE NEIGHBOUR: 'it returns false'. Refute it at one input. -/
def chachaPartsWrong : ChangeSpec := { name := "chachaParts", fn := fun _ => fun
  | [d1, d2, d3] => { results := [.lit (.bool false)], args := [d1, d2, d3] }
  | _ => none }
def ChachaPartsWrongFalsely : Prop := chachaPartsRow.holds Tryd.pinned (OpenSpec.ofChange chachaPartsWrong)

/-- 'mailcoachlaw04.ChachaUndone': WHATEVER THE INPUT: true; the input reads as it did. -/
def chachaUndoneSpec : ChangeSpec := { name := "chachaUndone", fn := fun _ => fun
  | [d] => { results := [.lit (.bool true)], args := [d] }
  | _ => none }
def chachaUndoneRow : OpenClaim := { program := "ytcdmnbmniiblgaadoor", sum := "0cd5f7886590a0858716b4a6ce0639845cd6b7d7d76a705b4d123a638e4141e8", func := "mailcoach/mailcoachlaw04.ChachaUndone", spec := "chachaUndone", unfollowed := true, recurses := true, named := ["mailcoach/chacha.begin", "mailcoach/chacha.quarters"], apart := false, laid := [("mailcoach/chacha.begin", laid_mailcoach_chacha_begin), ("mailcoach/chacha.quarters", laid_mailcoach_chacha_quarters)] }
def ChachaUndoneSaid : Prop := chachaUndoneRow.holds Tryd.pinned (OpenSpec.ofChange chachaUndoneSpec)

/-- ITS FALSE NEIGHBOUR: 'it returns false'. Refute it at one input. -/
def chachaUndoneWrong : ChangeSpec := { name := "chachaUndone", fn := fun _ => fun
  | [d] => { results := [.lit (.bool false)], args := [d] }
  | _ => none }
def ChachaUndoneWrongFalsely : Prop := chachaUndoneRow.holds Tryd.pinned (OpenSpec.ofChange chachaUndoneWrong)

/- THE SECOND FORM. 'bulk': how many values and letters a reading holds, each counted each time it is reached (what is shared counts as often as it is met; a slice's spare places count too). A statement '..UptoSaid' is the law's where the arguments, and the package variables that the reading takes, are together of bulk at most 1048576: NARROWER than '..Said'. Prove '..Said' where nothing that the law and all that it calls make is longer than what came in: it says more and counts as full. Else prove '..UptoSaid'. A law counts once. -/
mutual
def uptoBulk {H : Type} : DataW H → Nat
  | .lit (.string bytes) => bytes.length + 1
  | .lit _ => 1
  | .nil => 1
  | .ptr d => uptoBulk d + 1
  | .slice elems spare => uptoBulkAll elems + uptoBulkAll spare + 1
  | .agg parts => uptoBulkAll parts + 1
  | .iface _ d => uptoBulk d + 1
  | .map entries => uptoBulkEntries entries + 1
  | .held _ => 1
def uptoBulkAll {H : Type} : List (DataW H) → Nat
  | [] => 0
  | d :: r => uptoBulk d + uptoBulkAll r
def uptoBulkEntries {H : Type} : List (Lit × DataW H) → Nat
  | [] => 0
  | x :: r => uptoBulkEntry x + uptoBulkEntries r
def uptoBulkEntry {H : Type} : Lit × DataW H → Nat
  | (.string bytes, d) => bytes.length + uptoBulk d + 1
  | (_, d) => uptoBulk d + 1
 end
def uptoSmall : (H : Type) → List (DataW H) → Bool := fun _ ds => decide (uptoBulkAll ds ≤ 1048576)
def OpenSpec.upto (s : _root_.Go.ChangeSpec) : _root_.Go.OpenSpec := { _root_.Go.OpenSpec.ofChange s with cond := some uptoSmall }

/-- 'mailcoachlaw04.ChachaBlocks', WHERE WHAT IT READS IS OF BULK AT MOST 1048576: true; the input reads as it did. -/
def chachaBlocksUptoRow : OpenClaim := { program := "ytcdmnbmniiblgaadoor", sum := "0cd5f7886590a0858716b4a6ce0639845cd6b7d7d76a705b4d123a638e4141e8", func := "mailcoach/mailcoachlaw04.ChachaBlocks", spec := "chachaBlocks", named := ["mailcoach/chacha.begin", "mailcoach/chacha.quarters"], apart := false, laid := [("mailcoach/chacha.begin", laid_mailcoach_chacha_begin), ("mailcoach/chacha.quarters", laid_mailcoach_chacha_quarters)], narrowed := true }
def ChachaBlocksUptoSaid : Prop := chachaBlocksUptoRow.holds Tryd.pinned (OpenSpec.upto chachaBlocksSpec)

/-- 'mailcoachlaw04.ChachaTwice', WHERE WHAT IT READS IS OF BULK AT MOST 1048576: true; the input reads as it did. -/
def chachaTwiceUptoRow : OpenClaim := { program := "ytcdmnbmniiblgaadoor", sum := "0cd5f7886590a0858716b4a6ce0639845cd6b7d7d76a705b4d123a638e4141e8", func := "mailcoach/mailcoachlaw04.ChachaTwice", spec := "chachaTwice", unfollowed := true, recurses := true, named := ["mailcoach/chacha.begin", "mailcoach/chacha.quarters"], apart := false, laid := [("mailcoach/chacha.begin", laid_mailcoach_chacha_begin), ("mailcoach/chacha.quarters", laid_mailcoach_chacha_quarters)], narrowed := true }
def ChachaTwiceUptoSaid : Prop := chachaTwiceUptoRow.holds Tryd.pinned (OpenSpec.upto chachaTwiceSpec)

/-- 'mailcoachlaw04.ChachaParts', WHERE WHAT IT READS IS OF BULK AT MOST 1048576: true; the input reads as it did. -/
def chachaPartsUptoRow : OpenClaim := { program := "ytcdmnbmniiblgaadoor", sum := "0cd5f7886590a0858716b4a6ce0639845cd6b7d7d76a705b4d123a638e4141e8", func := "mailcoach/mailcoachlaw04.ChachaParts", spec := "chachaParts", unfollowed := true, recurses := true, named := ["mailcoach/chacha.begin", "mailcoach/chacha.quarters"], apart := false, laid := [("mailcoach/chacha.begin", laid_mailcoach_chacha_begin), ("mailcoach/chacha.quarters", laid_mailcoach_chacha_quarters)], narrowed := true }
def ChachaPartsUptoSaid : Prop := chachaPartsUptoRow.holds Tryd.pinned (OpenSpec.upto chachaPartsSpec)

/-- 'mailcoachlaw04.ChachaUndone', WHERE WHAT IT READS IS OF BULK AT MOST 1048576: true; the input reads as it did. -/
def chachaUndoneUptoRow : OpenClaim := { program := "ytcdmnbmniiblgaadoor", sum := "0cd5f7886590a0858716b4a6ce0639845cd6b7d7d76a705b4d123a638e4141e8", func := "mailcoach/mailcoachlaw04.ChachaUndone", spec := "chachaUndone", unfollowed := true, recurses := true, named := ["mailcoach/chacha.begin", "mailcoach/chacha.quarters"], apart := false, laid := [("mailcoach/chacha.begin", laid_mailcoach_chacha_begin), ("mailcoach/chacha.quarters", laid_mailcoach_chacha_quarters)], narrowed := true }
def ChachaUndoneUptoSaid : Prop := chachaUndoneUptoRow.holds Tryd.pinned (OpenSpec.upto chachaUndoneSpec)

end Rows
end Go.Proofs.YtcdmnbmniiblgaaDoor

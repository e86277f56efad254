/-
  What a row says of five laid variables, at the door and behind it.
-/
import Derived.Test.YtaighdppemnglaaGreatDoorGfFrLaid
namespace Go.Proofs.YtaighdppemnglaaGreatDoor
open Go Go.ChangeShapes Go.WideShapes Go.ChangeAt Go.RowKit

abbrev laid5f : List (String × DataW Unit) := [("math/bits.deBruijn32tab", Rows.laid_math_bits_deBruijn32tab), ("math/bits.deBruijn64tab", Rows.laid_math_bits_deBruijn64tab), ("internal/strconv.uint64pow10", Rows.laid_internal_strconv_uint64pow10), ("mailcoach/varint.lengths", Rows.laid_mailcoach_varint_lengths), ("mailcoach/frame.named", Rows.laid_mailcoach_frame_named)]
/-- The door's own heap meets the conditions. -/
theorem door_met5f (os : Os) (args : Array Value) : laidMetH Tryz.prog laid5f ((World.doorLaid Tryz.prog 400 os).forCall (fun _ _ => 0) ⟨#[], args, []⟩).memory :=
  laidMetH_of_parts3 (fuel := 8) (laidMet_of_run' 8 (by kernel_rfl) (by kernel_rfl)) (by kernel_rfl) (by kernel_rfl)
theorem laid_of5f {W : World} (h : laidMetH Tryz.prog laid5f W) : Lens W ∧ Named W := by
  replace h : laidMet Tryz.prog laid5f W := h
  have h2 : laidMet Tryz.prog laid7 W := laidMet.tail (laidMet.tail (laidMet.tail h))
  exact laid_of7 h2
end Go.Proofs.YtaighdppemnglaaGreatDoor

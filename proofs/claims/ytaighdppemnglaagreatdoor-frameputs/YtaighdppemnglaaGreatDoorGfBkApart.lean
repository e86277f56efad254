/-
  A Book of lists of bytes, of ranges and of frames: what it was told is apart. Written by mkbka.py.
-/
import Derived.Test.YtaighdppemnglaaGreatDoorGfBkRgF
import Derived.Test.YtaighdppemnglaaGreatDoorGfBkRgG
import Derived.Test.YtaighdppemnglaaGreatDoorGfBkRgL
import Derived.Test.YtaighdppemnglaaGreatDoorGfBkByG
import Derived.Test.YtaighdppemnglaaGreatDoorGfBkFrF
import Derived.Test.YtaighdppemnglaaGreatDoorGfBkFrG
import Derived.Test.YtaighdppemnglaaGreatDoorGfBkFrL
namespace Go.Proofs.YtaighdppemnglaaGreatDoor.Ba
open Go Go.RowKit
open Go.Proofs.YtaighdppemnglaaGreatDoor.Bq (OwnB own_keepP below_keepP keep_grown keep_below Sep)

set_option maxHeartbeats 400000 in
theorem fillByte_none (B : Nat) (W : World) (hc : W.cell? ⟨B, 1, none⟩ = some (.slice none 0 0)) :
    Calls Tryz.prog 33 #[.pointer (some ⟨B, 0, none⟩)] W fun e w' => e = .returned (.tuple #[]) ∧ w' = W := by
  go_enter Tryz.func33, Tryz.ntmps33
  go_wp2_with fail
  refine wp_loop_rounds 1 ?_
  rw [rounds_succ]
  go_wp2_with fail
  go_end0
  exact ⟨rfl, rfl⟩

set_option maxHeartbeats 400000 in
theorem growByte_none (B : Nat) (W : World) (hc : W.cell? ⟨B, 1, none⟩ = some (.slice none 0 0)) :
    Calls Tryz.prog 45 #[.pointer (some ⟨B, 0, none⟩)] W fun e w' => e = .returned (.tuple #[]) ∧ w' = W := by
  go_enter Tryz.func45, Tryz.ntmps45
  go_wp2_with fail
  refine wp_loop_rounds 1 ?_
  rw [rounds_succ]
  go_wp2_with fail
  go_end0
  exact ⟨rfl, rfl⟩

set_option maxHeartbeats 400000 in
theorem lookByte_none (B : Nat) (W : World) (hc : W.cell? ⟨B, 1, none⟩ = some (.slice none 0 0)) :
    Calls Tryz.prog 57 #[.pointer (some ⟨B, 0, none⟩)] W fun e w' => e = .returned (.bool true) ∧ w' = W := by
  go_enter Tryz.func57, Tryz.ntmps57
  go_wp2_with fail
  refine wp_loop_rounds 1 ?_
  rw [rounds_succ]
  go_wp2_with fail
  go_ret
  exact ⟨rfl, rfl⟩

set_option maxHeartbeats 400000 in
theorem fillNumber_none (B : Nat) (W : World) (hc : W.cell? ⟨B, 2, none⟩ = some (.slice none 0 0)) :
    Calls Tryz.prog 34 #[.pointer (some ⟨B, 0, none⟩)] W fun e w' => e = .returned (.tuple #[]) ∧ w' = W := by
  go_enter Tryz.func34, Tryz.ntmps34
  go_wp2_with fail
  refine wp_loop_rounds 1 ?_
  rw [rounds_succ]
  go_wp2_with fail
  go_end0
  exact ⟨rfl, rfl⟩

set_option maxHeartbeats 400000 in
theorem growNumber_none (B : Nat) (W : World) (hc : W.cell? ⟨B, 2, none⟩ = some (.slice none 0 0)) :
    Calls Tryz.prog 46 #[.pointer (some ⟨B, 0, none⟩)] W fun e w' => e = .returned (.tuple #[]) ∧ w' = W := by
  go_enter Tryz.func46, Tryz.ntmps46
  go_wp2_with fail
  refine wp_loop_rounds 1 ?_
  rw [rounds_succ]
  go_wp2_with fail
  go_end0
  exact ⟨rfl, rfl⟩

set_option maxHeartbeats 400000 in
theorem lookNumber_none (B : Nat) (W : World) (hc : W.cell? ⟨B, 2, none⟩ = some (.slice none 0 0)) :
    Calls Tryz.prog 58 #[.pointer (some ⟨B, 0, none⟩)] W fun e w' => e = .returned (.bool true) ∧ w' = W := by
  go_enter Tryz.func58, Tryz.ntmps58
  go_wp2_with fail
  refine wp_loop_rounds 1 ?_
  rw [rounds_succ]
  go_wp2_with fail
  go_ret
  exact ⟨rfl, rfl⟩

set_option maxHeartbeats 400000 in
theorem fillInt_none (B : Nat) (W : World) (hc : W.cell? ⟨B, 3, none⟩ = some (.slice none 0 0)) :
    Calls Tryz.prog 35 #[.pointer (some ⟨B, 0, none⟩)] W fun e w' => e = .returned (.tuple #[]) ∧ w' = W := by
  go_enter Tryz.func35, Tryz.ntmps35
  go_wp2_with fail
  refine wp_loop_rounds 1 ?_
  rw [rounds_succ]
  go_wp2_with fail
  go_end0
  exact ⟨rfl, rfl⟩

set_option maxHeartbeats 400000 in
theorem growInt_none (B : Nat) (W : World) (hc : W.cell? ⟨B, 3, none⟩ = some (.slice none 0 0)) :
    Calls Tryz.prog 47 #[.pointer (some ⟨B, 0, none⟩)] W fun e w' => e = .returned (.tuple #[]) ∧ w' = W := by
  go_enter Tryz.func47, Tryz.ntmps47
  go_wp2_with fail
  refine wp_loop_rounds 1 ?_
  rw [rounds_succ]
  go_wp2_with fail
  go_end0
  exact ⟨rfl, rfl⟩

set_option maxHeartbeats 400000 in
theorem lookInt_none (B : Nat) (W : World) (hc : W.cell? ⟨B, 3, none⟩ = some (.slice none 0 0)) :
    Calls Tryz.prog 59 #[.pointer (some ⟨B, 0, none⟩)] W fun e w' => e = .returned (.bool true) ∧ w' = W := by
  go_enter Tryz.func59, Tryz.ntmps59
  go_wp2_with fail
  refine wp_loop_rounds 1 ?_
  rw [rounds_succ]
  go_wp2_with fail
  go_ret
  exact ⟨rfl, rfl⟩

set_option maxHeartbeats 400000 in
theorem fillText_none (B : Nat) (W : World) (hc : W.cell? ⟨B, 4, none⟩ = some (.slice none 0 0)) :
    Calls Tryz.prog 36 #[.pointer (some ⟨B, 0, none⟩)] W fun e w' => e = .returned (.tuple #[]) ∧ w' = W := by
  go_enter Tryz.func36, Tryz.ntmps36
  go_wp2_with fail
  refine wp_loop_rounds 1 ?_
  rw [rounds_succ]
  go_wp2_with fail
  go_end0
  exact ⟨rfl, rfl⟩

set_option maxHeartbeats 400000 in
theorem growText_none (B : Nat) (W : World) (hc : W.cell? ⟨B, 4, none⟩ = some (.slice none 0 0)) :
    Calls Tryz.prog 48 #[.pointer (some ⟨B, 0, none⟩)] W fun e w' => e = .returned (.tuple #[]) ∧ w' = W := by
  go_enter Tryz.func48, Tryz.ntmps48
  go_wp2_with fail
  refine wp_loop_rounds 1 ?_
  rw [rounds_succ]
  go_wp2_with fail
  go_end0
  exact ⟨rfl, rfl⟩

set_option maxHeartbeats 400000 in
theorem lookText_none (B : Nat) (W : World) (hc : W.cell? ⟨B, 4, none⟩ = some (.slice none 0 0)) :
    Calls Tryz.prog 60 #[.pointer (some ⟨B, 0, none⟩)] W fun e w' => e = .returned (.bool true) ∧ w' = W := by
  go_enter Tryz.func60, Tryz.ntmps60
  go_wp2_with fail
  refine wp_loop_rounds 1 ?_
  rw [rounds_succ]
  go_wp2_with fail
  go_ret
  exact ⟨rfl, rfl⟩

set_option maxHeartbeats 400000 in
theorem fillBlob_none (B : Nat) (W : World) (hc : W.cell? ⟨B, 5, none⟩ = some (.slice none 0 0)) :
    Calls Tryz.prog 37 #[.pointer (some ⟨B, 0, none⟩)] W fun e w' => e = .returned (.tuple #[]) ∧ w' = W := by
  go_enter Tryz.func37, Tryz.ntmps37
  go_wp2_with fail
  refine wp_loop_rounds 1 ?_
  rw [rounds_succ]
  go_wp2_with fail
  go_end0
  exact ⟨rfl, rfl⟩

set_option maxHeartbeats 400000 in
theorem growBlob_none (B : Nat) (W : World) (hc : W.cell? ⟨B, 5, none⟩ = some (.slice none 0 0)) :
    Calls Tryz.prog 49 #[.pointer (some ⟨B, 0, none⟩)] W fun e w' => e = .returned (.tuple #[]) ∧ w' = W := by
  go_enter Tryz.func49, Tryz.ntmps49
  go_wp2_with fail
  refine wp_loop_rounds 1 ?_
  rw [rounds_succ]
  go_wp2_with fail
  go_end0
  exact ⟨rfl, rfl⟩

set_option maxHeartbeats 400000 in
theorem lookBlob_none (B : Nat) (W : World) (hc : W.cell? ⟨B, 5, none⟩ = some (.slice none 0 0)) :
    Calls Tryz.prog 61 #[.pointer (some ⟨B, 0, none⟩)] W fun e w' => e = .returned (.bool true) ∧ w' = W := by
  go_enter Tryz.func61, Tryz.ntmps61
  go_wp2_with fail
  refine wp_loop_rounds 1 ?_
  rw [rounds_succ]
  go_wp2_with fail
  go_ret
  exact ⟨rfl, rfl⟩

set_option maxHeartbeats 400000 in
theorem fillFrame_none (B : Nat) (W : World) (hc : W.cell? ⟨B, 7, none⟩ = some (.slice none 0 0)) :
    Calls Tryz.prog 39 #[.pointer (some ⟨B, 0, none⟩)] W fun e w' => e = .returned (.tuple #[]) ∧ w' = W := by
  go_enter Tryz.func39, Tryz.ntmps39
  go_wp2_with fail
  refine wp_loop_rounds 1 ?_
  rw [rounds_succ]
  go_wp2_with fail
  go_end0
  exact ⟨rfl, rfl⟩

set_option maxHeartbeats 400000 in
theorem growFrame_none (B : Nat) (W : World) (hc : W.cell? ⟨B, 7, none⟩ = some (.slice none 0 0)) :
    Calls Tryz.prog 51 #[.pointer (some ⟨B, 0, none⟩)] W fun e w' => e = .returned (.tuple #[]) ∧ w' = W := by
  go_enter Tryz.func51, Tryz.ntmps51
  go_wp2_with fail
  refine wp_loop_rounds 1 ?_
  rw [rounds_succ]
  go_wp2_with fail
  go_end0
  exact ⟨rfl, rfl⟩

set_option maxHeartbeats 400000 in
theorem lookFrame_none (B : Nat) (W : World) (hc : W.cell? ⟨B, 7, none⟩ = some (.slice none 0 0)) :
    Calls Tryz.prog 63 #[.pointer (some ⟨B, 0, none⟩)] W fun e w' => e = .returned (.bool true) ∧ w' = W := by
  go_enter Tryz.func63, Tryz.ntmps63
  go_wp2_with fail
  refine wp_loop_rounds 1 ?_
  rw [rounds_succ]
  go_wp2_with fail
  go_ret
  exact ⟨rfl, rfl⟩

set_option maxHeartbeats 400000 in
theorem fillField_none (B : Nat) (W : World) (hc : W.cell? ⟨B, 8, none⟩ = some (.slice none 0 0)) :
    Calls Tryz.prog 40 #[.pointer (some ⟨B, 0, none⟩)] W fun e w' => e = .returned (.tuple #[]) ∧ w' = W := by
  go_enter Tryz.func40, Tryz.ntmps40
  go_wp2_with fail
  refine wp_loop_rounds 1 ?_
  rw [rounds_succ]
  go_wp2_with fail
  go_end0
  exact ⟨rfl, rfl⟩

set_option maxHeartbeats 400000 in
theorem growField_none (B : Nat) (W : World) (hc : W.cell? ⟨B, 8, none⟩ = some (.slice none 0 0)) :
    Calls Tryz.prog 52 #[.pointer (some ⟨B, 0, none⟩)] W fun e w' => e = .returned (.tuple #[]) ∧ w' = W := by
  go_enter Tryz.func52, Tryz.ntmps52
  go_wp2_with fail
  refine wp_loop_rounds 1 ?_
  rw [rounds_succ]
  go_wp2_with fail
  go_end0
  exact ⟨rfl, rfl⟩

set_option maxHeartbeats 400000 in
theorem lookField_none (B : Nat) (W : World) (hc : W.cell? ⟨B, 8, none⟩ = some (.slice none 0 0)) :
    Calls Tryz.prog 64 #[.pointer (some ⟨B, 0, none⟩)] W fun e w' => e = .returned (.bool true) ∧ w' = W := by
  go_enter Tryz.func64, Tryz.ntmps64
  go_wp2_with fail
  refine wp_loop_rounds 1 ?_
  rw [rounds_succ]
  go_wp2_with fail
  go_ret
  exact ⟨rfl, rfl⟩

set_option maxHeartbeats 400000 in
theorem fillMessage_none (B : Nat) (W : World) (hc : W.cell? ⟨B, 9, none⟩ = some (.slice none 0 0)) :
    Calls Tryz.prog 41 #[.pointer (some ⟨B, 0, none⟩)] W fun e w' => e = .returned (.tuple #[]) ∧ w' = W := by
  go_enter Tryz.func41, Tryz.ntmps41
  go_wp2_with fail
  refine wp_loop_rounds 1 ?_
  rw [rounds_succ]
  go_wp2_with fail
  go_end0
  exact ⟨rfl, rfl⟩

set_option maxHeartbeats 400000 in
theorem growMessage_none (B : Nat) (W : World) (hc : W.cell? ⟨B, 9, none⟩ = some (.slice none 0 0)) :
    Calls Tryz.prog 53 #[.pointer (some ⟨B, 0, none⟩)] W fun e w' => e = .returned (.tuple #[]) ∧ w' = W := by
  go_enter Tryz.func53, Tryz.ntmps53
  go_wp2_with fail
  refine wp_loop_rounds 1 ?_
  rw [rounds_succ]
  go_wp2_with fail
  go_end0
  exact ⟨rfl, rfl⟩

set_option maxHeartbeats 400000 in
theorem lookMessage_none (B : Nat) (W : World) (hc : W.cell? ⟨B, 9, none⟩ = some (.slice none 0 0)) :
    Calls Tryz.prog 65 #[.pointer (some ⟨B, 0, none⟩)] W fun e w' => e = .returned (.bool true) ∧ w' = W := by
  go_enter Tryz.func65, Tryz.ntmps65
  go_wp2_with fail
  refine wp_loop_rounds 1 ?_
  rw [rounds_succ]
  go_wp2_with fail
  go_ret
  exact ⟨rfl, rfl⟩

set_option maxHeartbeats 400000 in
theorem fillRule_none (B : Nat) (W : World) (hc : W.cell? ⟨B, 10, none⟩ = some (.slice none 0 0)) :
    Calls Tryz.prog 42 #[.pointer (some ⟨B, 0, none⟩)] W fun e w' => e = .returned (.tuple #[]) ∧ w' = W := by
  go_enter Tryz.func42, Tryz.ntmps42
  go_wp2_with fail
  refine wp_loop_rounds 1 ?_
  rw [rounds_succ]
  go_wp2_with fail
  go_end0
  exact ⟨rfl, rfl⟩

set_option maxHeartbeats 400000 in
theorem growRule_none (B : Nat) (W : World) (hc : W.cell? ⟨B, 10, none⟩ = some (.slice none 0 0)) :
    Calls Tryz.prog 54 #[.pointer (some ⟨B, 0, none⟩)] W fun e w' => e = .returned (.tuple #[]) ∧ w' = W := by
  go_enter Tryz.func54, Tryz.ntmps54
  go_wp2_with fail
  refine wp_loop_rounds 1 ?_
  rw [rounds_succ]
  go_wp2_with fail
  go_end0
  exact ⟨rfl, rfl⟩

set_option maxHeartbeats 400000 in
theorem lookRule_none (B : Nat) (W : World) (hc : W.cell? ⟨B, 10, none⟩ = some (.slice none 0 0)) :
    Calls Tryz.prog 66 #[.pointer (some ⟨B, 0, none⟩)] W fun e w' => e = .returned (.bool true) ∧ w' = W := by
  go_enter Tryz.func66, Tryz.ntmps66
  go_wp2_with fail
  refine wp_loop_rounds 1 ?_
  rw [rounds_succ]
  go_wp2_with fail
  go_ret
  exact ⟨rfl, rfl⟩

set_option maxHeartbeats 400000 in
theorem fillEvent_none (B : Nat) (W : World) (hc : W.cell? ⟨B, 11, none⟩ = some (.slice none 0 0)) :
    Calls Tryz.prog 43 #[.pointer (some ⟨B, 0, none⟩)] W fun e w' => e = .returned (.tuple #[]) ∧ w' = W := by
  go_enter Tryz.func43, Tryz.ntmps43
  go_wp2_with fail
  refine wp_loop_rounds 1 ?_
  rw [rounds_succ]
  go_wp2_with fail
  go_end0
  exact ⟨rfl, rfl⟩

set_option maxHeartbeats 400000 in
theorem growEvent_none (B : Nat) (W : World) (hc : W.cell? ⟨B, 11, none⟩ = some (.slice none 0 0)) :
    Calls Tryz.prog 55 #[.pointer (some ⟨B, 0, none⟩)] W fun e w' => e = .returned (.tuple #[]) ∧ w' = W := by
  go_enter Tryz.func55, Tryz.ntmps55
  go_wp2_with fail
  refine wp_loop_rounds 1 ?_
  rw [rounds_succ]
  go_wp2_with fail
  go_end0
  exact ⟨rfl, rfl⟩

set_option maxHeartbeats 400000 in
theorem lookEvent_none (B : Nat) (W : World) (hc : W.cell? ⟨B, 11, none⟩ = some (.slice none 0 0)) :
    Calls Tryz.prog 67 #[.pointer (some ⟨B, 0, none⟩)] W fun e w' => e = .returned (.bool true) ∧ w' = W := by
  go_enter Tryz.func67, Tryz.ntmps67
  go_wp2_with fail
  refine wp_loop_rounds 1 ?_
  rw [rounds_succ]
  go_wp2_with fail
  go_ret
  exact ⟨rfl, rfl⟩

set_option maxHeartbeats 400000 in
theorem fillReply_none (B : Nat) (W : World) (hc : W.cell? ⟨B, 12, none⟩ = some (.slice none 0 0)) :
    Calls Tryz.prog 44 #[.pointer (some ⟨B, 0, none⟩)] W fun e w' => e = .returned (.tuple #[]) ∧ w' = W := by
  go_enter Tryz.func44, Tryz.ntmps44
  go_wp2_with fail
  refine wp_loop_rounds 1 ?_
  rw [rounds_succ]
  go_wp2_with fail
  go_end0
  exact ⟨rfl, rfl⟩

set_option maxHeartbeats 400000 in
theorem growReply_none (B : Nat) (W : World) (hc : W.cell? ⟨B, 12, none⟩ = some (.slice none 0 0)) :
    Calls Tryz.prog 56 #[.pointer (some ⟨B, 0, none⟩)] W fun e w' => e = .returned (.tuple #[]) ∧ w' = W := by
  go_enter Tryz.func56, Tryz.ntmps56
  go_wp2_with fail
  refine wp_loop_rounds 1 ?_
  rw [rounds_succ]
  go_wp2_with fail
  go_end0
  exact ⟨rfl, rfl⟩

set_option maxHeartbeats 400000 in
theorem lookReply_none (B : Nat) (W : World) (hc : W.cell? ⟨B, 12, none⟩ = some (.slice none 0 0)) :
    Calls Tryz.prog 68 #[.pointer (some ⟨B, 0, none⟩)] W fun e w' => e = .returned (.bool true) ∧ w' = W := by
  go_enter Tryz.func68, Tryz.ntmps68
  go_wp2_with fail
  refine wp_loop_rounds 1 ?_
  rw [rounds_succ]
  go_wp2_with fail
  go_ret
  exact ⟨rfl, rfl⟩

set_option maxHeartbeats 400000 in
theorem fillRange_none (B : Nat) (W : World) (hc : W.cell? ⟨B, 6, none⟩ = some (.slice none 0 0)) :
    Calls Tryz.prog 38 #[.pointer (some ⟨B, 0, none⟩)] W fun e w' => e = .returned (.tuple #[]) ∧ w' = W := by
  go_enter Tryz.func38, Tryz.ntmps38
  go_wp2_with fail
  refine wp_loop_rounds 1 ?_
  rw [rounds_succ]
  go_wp2_with fail
  go_end0
  exact ⟨rfl, rfl⟩

set_option maxHeartbeats 400000 in
theorem growRange_none (B : Nat) (W : World) (hc : W.cell? ⟨B, 6, none⟩ = some (.slice none 0 0)) :
    Calls Tryz.prog 50 #[.pointer (some ⟨B, 0, none⟩)] W fun e w' => e = .returned (.tuple #[]) ∧ w' = W := by
  go_enter Tryz.func50, Tryz.ntmps50
  go_wp2_with fail
  refine wp_loop_rounds 1 ?_
  rw [rounds_succ]
  go_wp2_with fail
  go_end0
  exact ⟨rfl, rfl⟩

set_option maxHeartbeats 400000 in
theorem lookRange_none (B : Nat) (W : World) (hc : W.cell? ⟨B, 6, none⟩ = some (.slice none 0 0)) :
    Calls Tryz.prog 62 #[.pointer (some ⟨B, 0, none⟩)] W fun e w' => e = .returned (.bool true) ∧ w' = W := by
  go_enter Tryz.func62, Tryz.ntmps62
  go_wp2_with fail
  refine wp_loop_rounds 1 ?_
  rw [rounds_succ]
  go_wp2_with fail
  go_ret
  exact ⟨rfl, rfl⟩


/-- What one kind of lists in a Book keeps to: it is filled, grown and looked at, and stands while others are. -/
structure Kind (S B H : Nat) (ff fg fl : Nat) (st : Nat → Prop) where
  K : Nat → World → Prop
  fill : ∀ W, K 0 W → Calls Tryz.prog ff #[.pointer (some ⟨B, 0, none⟩)] W fun e w' => e = .returned (.tuple #[]) ∧ K 1 w' ∧ KeepP st W w'
  grow : ∀ W, K 1 W → H ≤ W.heap.size → Calls Tryz.prog fg #[.pointer (some ⟨B, 0, none⟩)] W fun e w' => e = .returned (.tuple #[]) ∧ K 2 w' ∧ KeepP st W w'
  look : ∀ W, K 2 W → Calls Tryz.prog fl #[.pointer (some ⟨B, 0, none⟩)] W fun e w' => e = .returned (.bool true) ∧ W.grownBy w' none
  keep : ∀ i W W' (st' : Nat → Prop), K i W → KeepP st' W W' → (∀ b, st' b → S ≤ b ∧ b < H ∧ ¬ st b ∧ b ≠ B) → K i W'
  low : ∀ b, st b → S ≤ b ∧ b < H ∧ b ≠ B

/-- The state of a Book of three kinds. -/
structure A3 {S B H : Nat} {fb gb lb fr gr lr ff gf lf : Nat} {sb sr sf : Nat → Prop} (kb : Kind S B H fb gb lb sb) (kr : Kind S B H fr gr lr sr) (kf : Kind S B H ff gf lf sf) (w0 : World) (i j l : Nat) (W : World) : Prop where
  b : kb.K i W
  r : kr.K j W
  f : kf.K l W
  em : ∀ j, 1 ≤ j → j < 13 → j ≠ 1 → j ≠ 6 → j ≠ 7 → W.cell? ⟨B, j, none⟩ = some (.slice none 0 0)
  bB : B < W.heap.size
  hH : H ≤ W.heap.size
  sS : S ≤ W.heap.size
  below : Below S w0 W
section
variable {S B H : Nat} {fb gb lb fr gr lr ff gf lf : Nat} {sb sr sf : Nat → Prop} {kb : Kind S B H fb gb lb sb} {kr : Kind S B H fr gr lr sr} {kf : Kind S B H ff gf lf sf} {w0 W W' : World} {i j l : Nat}
theorem A3.base {st : Nat → Prop} (a : A3 kb kr kf w0 i j l W) (k : KeepP st W W') (hl : ∀ b, st b → S ≤ b ∧ b < H ∧ b ≠ B) : (∀ j, 1 ≤ j → j < 13 → j ≠ 1 → j ≠ 6 → j ≠ 7 → W'.cell? ⟨B, j, none⟩ = some (.slice none 0 0)) ∧ B < W'.heap.size ∧ H ≤ W'.heap.size ∧ S ≤ W'.heap.size ∧ Below S w0 W' :=
  ⟨fun q h1 h2 h3 h4 h5 => (World.cell?_of_block (w := W) (a := ⟨B, q, none⟩) (k.block B a.bB (fun e => (hl B e).2.2 rfl))).trans (a.em q h1 h2 h3 h4 h5), Nat.lt_of_lt_of_le a.bB k.size, Nat.le_trans a.hH k.size, Nat.le_trans a.sS k.size, below_keepP a.below k a.sS (fun b e => (hl b e).1)⟩
theorem A3.onB (a : A3 kb kr kf w0 i j l W) (hbr : ∀ b, sb b → ¬ sr b) (hbf : ∀ b, sb b → ¬ sf b) (k : KeepP sb W W') {i' : Nat} (h : kb.K i' W') : A3 kb kr kf w0 i' j l W' := by
  obtain ⟨h1, h2, h3, h4, h5⟩ := a.base k kb.low
  exact ⟨h, kr.keep _ _ _ _ a.r k (fun b e => ⟨(kb.low b e).1, (kb.low b e).2.1, hbr b e, (kb.low b e).2.2⟩), kf.keep _ _ _ _ a.f k (fun b e => ⟨(kb.low b e).1, (kb.low b e).2.1, hbf b e, (kb.low b e).2.2⟩), h1, h2, h3, h4, h5⟩
theorem A3.onR (a : A3 kb kr kf w0 i j l W) (hrb : ∀ b, sr b → ¬ sb b) (hrf : ∀ b, sr b → ¬ sf b) (k : KeepP sr W W') {i' : Nat} (h : kr.K i' W') : A3 kb kr kf w0 i i' l W' := by
  obtain ⟨h1, h2, h3, h4, h5⟩ := a.base k kr.low
  exact ⟨kb.keep _ _ _ _ a.b k (fun b e => ⟨(kr.low b e).1, (kr.low b e).2.1, hrb b e, (kr.low b e).2.2⟩), h, kf.keep _ _ _ _ a.f k (fun b e => ⟨(kr.low b e).1, (kr.low b e).2.1, hrf b e, (kr.low b e).2.2⟩), h1, h2, h3, h4, h5⟩
theorem A3.onF (a : A3 kb kr kf w0 i j l W) (hfb : ∀ b, sf b → ¬ sb b) (hfr : ∀ b, sf b → ¬ sr b) (k : KeepP sf W W') {i' : Nat} (h : kf.K i' W') : A3 kb kr kf w0 i j i' W' := by
  obtain ⟨h1, h2, h3, h4, h5⟩ := a.base k kf.low
  exact ⟨kb.keep _ _ _ _ a.b k (fun b e => ⟨(kf.low b e).1, (kf.low b e).2.1, hfb b e, (kf.low b e).2.2⟩), kr.keep _ _ _ _ a.r k (fun b e => ⟨(kf.low b e).1, (kf.low b e).2.1, hfr b e, (kf.low b e).2.2⟩), h, h1, h2, h3, h4, h5⟩
theorem A3.on0 (a : A3 kb kr kf w0 i j l W) (g : W.grownBy W' none) : A3 kb kr kf w0 i j l W' := by
  have k : KeepP (fun _ => False) W W' := ⟨g.os, g.tape, g.output, g.size, fun b hb _ => g.block b hb (by simp)⟩
  obtain ⟨h1, h2, h3, h4, h5⟩ := a.base k (fun b e => e.elim)
  exact ⟨kb.keep _ _ _ _ a.b k (fun b e => e.elim), kr.keep _ _ _ _ a.r k (fun b e => e.elim), kf.keep _ _ _ _ a.f k (fun b e => e.elim), h1, h2, h3, h4, h5⟩
end

set_option maxRecDepth 20000 in
set_option maxHeartbeats 1000000 in
theorem apart3 {S B H : Nat} {sb sr sf : Nat → Prop} (kb : Kind S B H 33 45 57 sb) (kr : Kind S B H 38 50 62 sr) (kf : Kind S B H 39 51 63 sf)
    (hbr : ∀ b, sb b → ¬ sr b) (hbf : ∀ b, sb b → ¬ sf b) (hrf : ∀ b, sr b → ¬ sf b) (w0 W : World) (a : A3 kb kr kf w0 0 0 0 W) :
    Calls Tryz.prog 16 #[.pointer (some ⟨B, 0, none⟩)] W fun e w' => e = .returned (.bool true) ∧ Below S w0 w' ∧ KeepP (fun b => sb b ∨ sr b ∨ sf b) W w' := by
  have X1 := veil hbr
  have X2 := veil hbf
  have X3 := veil hrf
  have X4 := veil (show ∀ b, sr b → ¬ sb b from fun b h1 h2 => hbr b h2 h1)
  have X5 := veil (show ∀ b, sf b → ¬ sb b from fun b h1 h2 => hbf b h2 h1)
  have X6 := veil (show ∀ b, sf b → ¬ sr b from fun b h1 h2 => hrf b h2 h1)
  have A0 := veil a
  have Y0 : Hid (KeepP (fun b => sb b ∨ sr b ∨ sf b) W W) := KeepP.refl _ _
  clear hbr hbf hrf a
  go_enter Tryz.func16, Tryz.ntmps16
  go_wp2_with fail
  refine (kb.fill W A0.out.b).mono ?_
  rintro e1 w1 ⟨rfl, h1, k1⟩
  have A1 := veil (A0.out.onB X1.out X2.out k1 h1)
  have Y1 := veil (Y0.out.trans (show KeepP (fun b => sb b ∨ sr b ∨ sf b) _ _ from ⟨k1.os, k1.tape, k1.output, k1.size, fun b hb hn => k1.block b hb (fun e => hn (.inl e))⟩))
  clear A0 h1 k1
  go_wp2_with fail
  refine (fillNumber_none B w1 (A1.out.em 2 (by decide) (by decide) (by decide) (by decide) (by decide))).mono ?_
  rintro e2 wx ⟨rfl, hwx⟩
  obtain rfl := hwx.symm
  go_wp2_with fail
  refine (fillInt_none B w1 (A1.out.em 3 (by decide) (by decide) (by decide) (by decide) (by decide))).mono ?_
  rintro e2 wx ⟨rfl, hwx⟩
  obtain rfl := hwx.symm
  go_wp2_with fail
  refine (fillText_none B w1 (A1.out.em 4 (by decide) (by decide) (by decide) (by decide) (by decide))).mono ?_
  rintro e2 wx ⟨rfl, hwx⟩
  obtain rfl := hwx.symm
  go_wp2_with fail
  refine (fillBlob_none B w1 (A1.out.em 5 (by decide) (by decide) (by decide) (by decide) (by decide))).mono ?_
  rintro e2 wx ⟨rfl, hwx⟩
  obtain rfl := hwx.symm
  go_wp2_with fail
  refine (kr.fill w1 A1.out.r).mono ?_
  rintro e2 w2 ⟨rfl, h2, k2⟩
  have A2 := veil (A1.out.onR X4.out X3.out k2 h2)
  have Y2 := veil (Y1.out.trans (show KeepP (fun b => sb b ∨ sr b ∨ sf b) _ _ from ⟨k2.os, k2.tape, k2.output, k2.size, fun b hb hn => k2.block b hb (fun e => hn (.inr (.inl e)))⟩))
  clear A1 h2 k2
  go_wp2_with fail
  refine (kf.fill w2 A2.out.f).mono ?_
  rintro e3 w3 ⟨rfl, h3, k3⟩
  have A3 := veil (A2.out.onF X5.out X6.out k3 h3)
  have Y3 := veil (Y2.out.trans (show KeepP (fun b => sb b ∨ sr b ∨ sf b) _ _ from ⟨k3.os, k3.tape, k3.output, k3.size, fun b hb hn => k3.block b hb (fun e => hn (.inr (.inr e)))⟩))
  clear A2 h3 k3
  go_wp2_with fail
  refine (fillField_none B w3 (A3.out.em 8 (by decide) (by decide) (by decide) (by decide) (by decide))).mono ?_
  rintro e2 wx ⟨rfl, hwx⟩
  obtain rfl := hwx.symm
  go_wp2_with fail
  refine (fillMessage_none B w3 (A3.out.em 9 (by decide) (by decide) (by decide) (by decide) (by decide))).mono ?_
  rintro e2 wx ⟨rfl, hwx⟩
  obtain rfl := hwx.symm
  go_wp2_with fail
  refine (fillRule_none B w3 (A3.out.em 10 (by decide) (by decide) (by decide) (by decide) (by decide))).mono ?_
  rintro e2 wx ⟨rfl, hwx⟩
  obtain rfl := hwx.symm
  go_wp2_with fail
  refine (fillEvent_none B w3 (A3.out.em 11 (by decide) (by decide) (by decide) (by decide) (by decide))).mono ?_
  rintro e2 wx ⟨rfl, hwx⟩
  obtain rfl := hwx.symm
  go_wp2_with fail
  refine (fillReply_none B w3 (A3.out.em 12 (by decide) (by decide) (by decide) (by decide) (by decide))).mono ?_
  rintro e2 wx ⟨rfl, hwx⟩
  obtain rfl := hwx.symm
  go_wp2_with fail
  refine (kb.grow w3 A3.out.b A3.out.hH).mono ?_
  rintro e4 w4 ⟨rfl, h4, k4⟩
  have A4 := veil (A3.out.onB X1.out X2.out k4 h4)
  have Y4 := veil (Y3.out.trans (show KeepP (fun b => sb b ∨ sr b ∨ sf b) _ _ from ⟨k4.os, k4.tape, k4.output, k4.size, fun b hb hn => k4.block b hb (fun e => hn (.inl e))⟩))
  clear A3 h4 k4
  go_wp2_with fail
  refine (growNumber_none B w4 (A4.out.em 2 (by decide) (by decide) (by decide) (by decide) (by decide))).mono ?_
  rintro e2 wx ⟨rfl, hwx⟩
  obtain rfl := hwx.symm
  go_wp2_with fail
  refine (growInt_none B w4 (A4.out.em 3 (by decide) (by decide) (by decide) (by decide) (by decide))).mono ?_
  rintro e2 wx ⟨rfl, hwx⟩
  obtain rfl := hwx.symm
  go_wp2_with fail
  refine (growText_none B w4 (A4.out.em 4 (by decide) (by decide) (by decide) (by decide) (by decide))).mono ?_
  rintro e2 wx ⟨rfl, hwx⟩
  obtain rfl := hwx.symm
  go_wp2_with fail
  refine (growBlob_none B w4 (A4.out.em 5 (by decide) (by decide) (by decide) (by decide) (by decide))).mono ?_
  rintro e2 wx ⟨rfl, hwx⟩
  obtain rfl := hwx.symm
  go_wp2_with fail
  refine (kr.grow w4 A4.out.r A4.out.hH).mono ?_
  rintro e5 w5 ⟨rfl, h5, k5⟩
  have A5 := veil (A4.out.onR X4.out X3.out k5 h5)
  have Y5 := veil (Y4.out.trans (show KeepP (fun b => sb b ∨ sr b ∨ sf b) _ _ from ⟨k5.os, k5.tape, k5.output, k5.size, fun b hb hn => k5.block b hb (fun e => hn (.inr (.inl e)))⟩))
  clear A4 h5 k5
  go_wp2_with fail
  refine (kf.grow w5 A5.out.f A5.out.hH).mono ?_
  rintro e6 w6 ⟨rfl, h6, k6⟩
  have A6 := veil (A5.out.onF X5.out X6.out k6 h6)
  have Y6 := veil (Y5.out.trans (show KeepP (fun b => sb b ∨ sr b ∨ sf b) _ _ from ⟨k6.os, k6.tape, k6.output, k6.size, fun b hb hn => k6.block b hb (fun e => hn (.inr (.inr e)))⟩))
  clear A5 h6 k6
  go_wp2_with fail
  refine (growField_none B w6 (A6.out.em 8 (by decide) (by decide) (by decide) (by decide) (by decide))).mono ?_
  rintro e2 wx ⟨rfl, hwx⟩
  obtain rfl := hwx.symm
  go_wp2_with fail
  refine (growMessage_none B w6 (A6.out.em 9 (by decide) (by decide) (by decide) (by decide) (by decide))).mono ?_
  rintro e2 wx ⟨rfl, hwx⟩
  obtain rfl := hwx.symm
  go_wp2_with fail
  refine (growRule_none B w6 (A6.out.em 10 (by decide) (by decide) (by decide) (by decide) (by decide))).mono ?_
  rintro e2 wx ⟨rfl, hwx⟩
  obtain rfl := hwx.symm
  go_wp2_with fail
  refine (growEvent_none B w6 (A6.out.em 11 (by decide) (by decide) (by decide) (by decide) (by decide))).mono ?_
  rintro e2 wx ⟨rfl, hwx⟩
  obtain rfl := hwx.symm
  go_wp2_with fail
  refine (growReply_none B w6 (A6.out.em 12 (by decide) (by decide) (by decide) (by decide) (by decide))).mono ?_
  rintro e2 wx ⟨rfl, hwx⟩
  obtain rfl := hwx.symm
  go_wp2_with fail
  refine (kb.look w6 A6.out.b).mono ?_
  rintro e7 w7 ⟨rfl, g7⟩
  have A7 := veil (A6.out.on0 g7)
  have Y7 := veil (Y6.out.trans (show KeepP (fun b => sb b ∨ sr b ∨ sf b) _ _ from ⟨g7.os, g7.tape, g7.output, g7.size, fun b hb _ => g7.block b hb (by simp)⟩))
  clear A6 g7
  go_wp2_with fail
  refine (lookNumber_none B w7 (A7.out.em 2 (by decide) (by decide) (by decide) (by decide) (by decide))).mono ?_
  rintro e2 wx ⟨rfl, hwx⟩
  obtain rfl := hwx.symm
  go_wp2_with fail
  refine (lookInt_none B w7 (A7.out.em 3 (by decide) (by decide) (by decide) (by decide) (by decide))).mono ?_
  rintro e2 wx ⟨rfl, hwx⟩
  obtain rfl := hwx.symm
  go_wp2_with fail
  refine (lookText_none B w7 (A7.out.em 4 (by decide) (by decide) (by decide) (by decide) (by decide))).mono ?_
  rintro e2 wx ⟨rfl, hwx⟩
  obtain rfl := hwx.symm
  go_wp2_with fail
  refine (lookBlob_none B w7 (A7.out.em 5 (by decide) (by decide) (by decide) (by decide) (by decide))).mono ?_
  rintro e2 wx ⟨rfl, hwx⟩
  obtain rfl := hwx.symm
  go_wp2_with fail
  refine (kr.look w7 A7.out.r).mono ?_
  rintro e8 w8 ⟨rfl, g8⟩
  have A8 := veil (A7.out.on0 g8)
  have Y8 := veil (Y7.out.trans (show KeepP (fun b => sb b ∨ sr b ∨ sf b) _ _ from ⟨g8.os, g8.tape, g8.output, g8.size, fun b hb _ => g8.block b hb (by simp)⟩))
  clear A7 g8
  go_wp2_with fail
  refine (kf.look w8 A8.out.f).mono ?_
  rintro e9 w9 ⟨rfl, g9⟩
  have A9 := veil (A8.out.on0 g9)
  have Y9 := veil (Y8.out.trans (show KeepP (fun b => sb b ∨ sr b ∨ sf b) _ _ from ⟨g9.os, g9.tape, g9.output, g9.size, fun b hb _ => g9.block b hb (by simp)⟩))
  clear A8 g9
  go_wp2_with fail
  refine (lookField_none B w9 (A9.out.em 8 (by decide) (by decide) (by decide) (by decide) (by decide))).mono ?_
  rintro e2 wx ⟨rfl, hwx⟩
  obtain rfl := hwx.symm
  go_wp2_with fail
  refine (lookMessage_none B w9 (A9.out.em 9 (by decide) (by decide) (by decide) (by decide) (by decide))).mono ?_
  rintro e2 wx ⟨rfl, hwx⟩
  obtain rfl := hwx.symm
  go_wp2_with fail
  refine (lookRule_none B w9 (A9.out.em 10 (by decide) (by decide) (by decide) (by decide) (by decide))).mono ?_
  rintro e2 wx ⟨rfl, hwx⟩
  obtain rfl := hwx.symm
  go_wp2_with fail
  refine (lookEvent_none B w9 (A9.out.em 11 (by decide) (by decide) (by decide) (by decide) (by decide))).mono ?_
  rintro e2 wx ⟨rfl, hwx⟩
  obtain rfl := hwx.symm
  go_wp2_with fail
  refine (lookReply_none B w9 (A9.out.em 12 (by decide) (by decide) (by decide) (by decide) (by decide))).mono ?_
  rintro e2 wx ⟨rfl, hwx⟩
  obtain rfl := hwx.symm
  go_wp2_with fail
  go_ret
  exact ⟨rfl, A9.out.below, Y9.out⟩
end Go.Proofs.YtaighdppemnglaaGreatDoor.Ba

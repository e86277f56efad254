/-
  A Book of twelve kinds of lists: what each keeps to, and Apart. Written by mkbw.py.
-/
import Derived.Test.YtehadfidenejdaaGreatDoorGp2
namespace Go.Proofs.YtehadfidenejdaaGreatDoor.Bw
open Go Go.RowKit
open Go.Proofs.YtehadfidenejdaaGreatDoor.Bq (OwnB own_keepP below_keepP keep_grown keep_below Sep)

set_option maxHeartbeats 400000 in
theorem fillByte_none (B : Nat) (W : World) (hc : W.cell? ⟨B, 1, none⟩ = some (.slice none 0 0)) :
    Calls Tryz.prog 52 #[.pointer (some ⟨B, 0, none⟩)] W fun e w' => e = .returned (.tuple #[]) ∧ w' = W := by
  go_enter Tryz.func52, Tryz.ntmps52
  go_wp2_with fail
  refine wp_loop_rounds 1 ?_
  rw [rounds_succ]
  go_wp2_with fail
  go_end0
  exact ⟨rfl, rfl⟩

set_option maxHeartbeats 400000 in
theorem growByte_none (B : Nat) (W : World) (hc : W.cell? ⟨B, 1, none⟩ = some (.slice none 0 0)) :
    Calls Tryz.prog 64 #[.pointer (some ⟨B, 0, none⟩)] W fun e w' => e = .returned (.tuple #[]) ∧ w' = W := by
  go_enter Tryz.func64, Tryz.ntmps64
  go_wp2_with fail
  refine wp_loop_rounds 1 ?_
  rw [rounds_succ]
  go_wp2_with fail
  go_end0
  exact ⟨rfl, rfl⟩

set_option maxHeartbeats 400000 in
theorem lookByte_none (B : Nat) (W : World) (hc : W.cell? ⟨B, 1, none⟩ = some (.slice none 0 0)) :
    Calls Tryz.prog 76 #[.pointer (some ⟨B, 0, none⟩)] W fun e w' => e = .returned (.bool true) ∧ w' = W := by
  go_enter Tryz.func76, Tryz.ntmps76
  go_wp2_with fail
  refine wp_loop_rounds 1 ?_
  rw [rounds_succ]
  go_wp2_with fail
  go_ret
  exact ⟨rfl, rfl⟩

set_option maxHeartbeats 400000 in
theorem fillNumber_none (B : Nat) (W : World) (hc : W.cell? ⟨B, 2, none⟩ = some (.slice none 0 0)) :
    Calls Tryz.prog 53 #[.pointer (some ⟨B, 0, none⟩)] W fun e w' => e = .returned (.tuple #[]) ∧ w' = W := by
  go_enter Tryz.func53, Tryz.ntmps53
  go_wp2_with fail
  refine wp_loop_rounds 1 ?_
  rw [rounds_succ]
  go_wp2_with fail
  go_end0
  exact ⟨rfl, rfl⟩

set_option maxHeartbeats 400000 in
theorem growNumber_none (B : Nat) (W : World) (hc : W.cell? ⟨B, 2, none⟩ = some (.slice none 0 0)) :
    Calls Tryz.prog 65 #[.pointer (some ⟨B, 0, none⟩)] W fun e w' => e = .returned (.tuple #[]) ∧ w' = W := by
  go_enter Tryz.func65, Tryz.ntmps65
  go_wp2_with fail
  refine wp_loop_rounds 1 ?_
  rw [rounds_succ]
  go_wp2_with fail
  go_end0
  exact ⟨rfl, rfl⟩

set_option maxHeartbeats 400000 in
theorem lookNumber_none (B : Nat) (W : World) (hc : W.cell? ⟨B, 2, none⟩ = some (.slice none 0 0)) :
    Calls Tryz.prog 77 #[.pointer (some ⟨B, 0, none⟩)] W fun e w' => e = .returned (.bool true) ∧ w' = W := by
  go_enter Tryz.func77, Tryz.ntmps77
  go_wp2_with fail
  refine wp_loop_rounds 1 ?_
  rw [rounds_succ]
  go_wp2_with fail
  go_ret
  exact ⟨rfl, rfl⟩

set_option maxHeartbeats 400000 in
theorem fillInt_none (B : Nat) (W : World) (hc : W.cell? ⟨B, 3, none⟩ = some (.slice none 0 0)) :
    Calls Tryz.prog 54 #[.pointer (some ⟨B, 0, none⟩)] W fun e w' => e = .returned (.tuple #[]) ∧ w' = W := by
  go_enter Tryz.func54, Tryz.ntmps54
  go_wp2_with fail
  refine wp_loop_rounds 1 ?_
  rw [rounds_succ]
  go_wp2_with fail
  go_end0
  exact ⟨rfl, rfl⟩

set_option maxHeartbeats 400000 in
theorem growInt_none (B : Nat) (W : World) (hc : W.cell? ⟨B, 3, none⟩ = some (.slice none 0 0)) :
    Calls Tryz.prog 66 #[.pointer (some ⟨B, 0, none⟩)] W fun e w' => e = .returned (.tuple #[]) ∧ w' = W := by
  go_enter Tryz.func66, Tryz.ntmps66
  go_wp2_with fail
  refine wp_loop_rounds 1 ?_
  rw [rounds_succ]
  go_wp2_with fail
  go_end0
  exact ⟨rfl, rfl⟩

set_option maxHeartbeats 400000 in
theorem lookInt_none (B : Nat) (W : World) (hc : W.cell? ⟨B, 3, none⟩ = some (.slice none 0 0)) :
    Calls Tryz.prog 78 #[.pointer (some ⟨B, 0, none⟩)] W fun e w' => e = .returned (.bool true) ∧ w' = W := by
  go_enter Tryz.func78, Tryz.ntmps78
  go_wp2_with fail
  refine wp_loop_rounds 1 ?_
  rw [rounds_succ]
  go_wp2_with fail
  go_ret
  exact ⟨rfl, rfl⟩

set_option maxHeartbeats 400000 in
theorem fillText_none (B : Nat) (W : World) (hc : W.cell? ⟨B, 4, none⟩ = some (.slice none 0 0)) :
    Calls Tryz.prog 55 #[.pointer (some ⟨B, 0, none⟩)] W fun e w' => e = .returned (.tuple #[]) ∧ w' = W := by
  go_enter Tryz.func55, Tryz.ntmps55
  go_wp2_with fail
  refine wp_loop_rounds 1 ?_
  rw [rounds_succ]
  go_wp2_with fail
  go_end0
  exact ⟨rfl, rfl⟩

set_option maxHeartbeats 400000 in
theorem growText_none (B : Nat) (W : World) (hc : W.cell? ⟨B, 4, none⟩ = some (.slice none 0 0)) :
    Calls Tryz.prog 67 #[.pointer (some ⟨B, 0, none⟩)] W fun e w' => e = .returned (.tuple #[]) ∧ w' = W := by
  go_enter Tryz.func67, Tryz.ntmps67
  go_wp2_with fail
  refine wp_loop_rounds 1 ?_
  rw [rounds_succ]
  go_wp2_with fail
  go_end0
  exact ⟨rfl, rfl⟩

set_option maxHeartbeats 400000 in
theorem lookText_none (B : Nat) (W : World) (hc : W.cell? ⟨B, 4, none⟩ = some (.slice none 0 0)) :
    Calls Tryz.prog 79 #[.pointer (some ⟨B, 0, none⟩)] W fun e w' => e = .returned (.bool true) ∧ w' = W := by
  go_enter Tryz.func79, Tryz.ntmps79
  go_wp2_with fail
  refine wp_loop_rounds 1 ?_
  rw [rounds_succ]
  go_wp2_with fail
  go_ret
  exact ⟨rfl, rfl⟩

set_option maxHeartbeats 400000 in
theorem fillBlob_none (B : Nat) (W : World) (hc : W.cell? ⟨B, 5, none⟩ = some (.slice none 0 0)) :
    Calls Tryz.prog 56 #[.pointer (some ⟨B, 0, none⟩)] W fun e w' => e = .returned (.tuple #[]) ∧ w' = W := by
  go_enter Tryz.func56, Tryz.ntmps56
  go_wp2_with fail
  refine wp_loop_rounds 1 ?_
  rw [rounds_succ]
  go_wp2_with fail
  go_end0
  exact ⟨rfl, rfl⟩

set_option maxHeartbeats 400000 in
theorem growBlob_none (B : Nat) (W : World) (hc : W.cell? ⟨B, 5, none⟩ = some (.slice none 0 0)) :
    Calls Tryz.prog 68 #[.pointer (some ⟨B, 0, none⟩)] W fun e w' => e = .returned (.tuple #[]) ∧ w' = W := by
  go_enter Tryz.func68, Tryz.ntmps68
  go_wp2_with fail
  refine wp_loop_rounds 1 ?_
  rw [rounds_succ]
  go_wp2_with fail
  go_end0
  exact ⟨rfl, rfl⟩

set_option maxHeartbeats 400000 in
theorem lookBlob_none (B : Nat) (W : World) (hc : W.cell? ⟨B, 5, none⟩ = some (.slice none 0 0)) :
    Calls Tryz.prog 80 #[.pointer (some ⟨B, 0, none⟩)] W fun e w' => e = .returned (.bool true) ∧ w' = W := by
  go_enter Tryz.func80, Tryz.ntmps80
  go_wp2_with fail
  refine wp_loop_rounds 1 ?_
  rw [rounds_succ]
  go_wp2_with fail
  go_ret
  exact ⟨rfl, rfl⟩

set_option maxHeartbeats 400000 in
theorem fillFrame_none (B : Nat) (W : World) (hc : W.cell? ⟨B, 7, none⟩ = some (.slice none 0 0)) :
    Calls Tryz.prog 58 #[.pointer (some ⟨B, 0, none⟩)] W fun e w' => e = .returned (.tuple #[]) ∧ w' = W := by
  go_enter Tryz.func58, Tryz.ntmps58
  go_wp2_with fail
  refine wp_loop_rounds 1 ?_
  rw [rounds_succ]
  go_wp2_with fail
  go_end0
  exact ⟨rfl, rfl⟩

set_option maxHeartbeats 400000 in
theorem growFrame_none (B : Nat) (W : World) (hc : W.cell? ⟨B, 7, none⟩ = some (.slice none 0 0)) :
    Calls Tryz.prog 70 #[.pointer (some ⟨B, 0, none⟩)] W fun e w' => e = .returned (.tuple #[]) ∧ w' = W := by
  go_enter Tryz.func70, Tryz.ntmps70
  go_wp2_with fail
  refine wp_loop_rounds 1 ?_
  rw [rounds_succ]
  go_wp2_with fail
  go_end0
  exact ⟨rfl, rfl⟩

set_option maxHeartbeats 400000 in
theorem lookFrame_none (B : Nat) (W : World) (hc : W.cell? ⟨B, 7, none⟩ = some (.slice none 0 0)) :
    Calls Tryz.prog 82 #[.pointer (some ⟨B, 0, none⟩)] W fun e w' => e = .returned (.bool true) ∧ w' = W := by
  go_enter Tryz.func82, Tryz.ntmps82
  go_wp2_with fail
  refine wp_loop_rounds 1 ?_
  rw [rounds_succ]
  go_wp2_with fail
  go_ret
  exact ⟨rfl, rfl⟩

set_option maxHeartbeats 400000 in
theorem fillField_none (B : Nat) (W : World) (hc : W.cell? ⟨B, 8, none⟩ = some (.slice none 0 0)) :
    Calls Tryz.prog 59 #[.pointer (some ⟨B, 0, none⟩)] W fun e w' => e = .returned (.tuple #[]) ∧ w' = W := by
  go_enter Tryz.func59, Tryz.ntmps59
  go_wp2_with fail
  refine wp_loop_rounds 1 ?_
  rw [rounds_succ]
  go_wp2_with fail
  go_end0
  exact ⟨rfl, rfl⟩

set_option maxHeartbeats 400000 in
theorem growField_none (B : Nat) (W : World) (hc : W.cell? ⟨B, 8, none⟩ = some (.slice none 0 0)) :
    Calls Tryz.prog 71 #[.pointer (some ⟨B, 0, none⟩)] W fun e w' => e = .returned (.tuple #[]) ∧ w' = W := by
  go_enter Tryz.func71, Tryz.ntmps71
  go_wp2_with fail
  refine wp_loop_rounds 1 ?_
  rw [rounds_succ]
  go_wp2_with fail
  go_end0
  exact ⟨rfl, rfl⟩

set_option maxHeartbeats 400000 in
theorem lookField_none (B : Nat) (W : World) (hc : W.cell? ⟨B, 8, none⟩ = some (.slice none 0 0)) :
    Calls Tryz.prog 83 #[.pointer (some ⟨B, 0, none⟩)] W fun e w' => e = .returned (.bool true) ∧ w' = W := by
  go_enter Tryz.func83, Tryz.ntmps83
  go_wp2_with fail
  refine wp_loop_rounds 1 ?_
  rw [rounds_succ]
  go_wp2_with fail
  go_ret
  exact ⟨rfl, rfl⟩

set_option maxHeartbeats 400000 in
theorem fillMessage_none (B : Nat) (W : World) (hc : W.cell? ⟨B, 9, none⟩ = some (.slice none 0 0)) :
    Calls Tryz.prog 60 #[.pointer (some ⟨B, 0, none⟩)] W fun e w' => e = .returned (.tuple #[]) ∧ w' = W := by
  go_enter Tryz.func60, Tryz.ntmps60
  go_wp2_with fail
  refine wp_loop_rounds 1 ?_
  rw [rounds_succ]
  go_wp2_with fail
  go_end0
  exact ⟨rfl, rfl⟩

set_option maxHeartbeats 400000 in
theorem growMessage_none (B : Nat) (W : World) (hc : W.cell? ⟨B, 9, none⟩ = some (.slice none 0 0)) :
    Calls Tryz.prog 72 #[.pointer (some ⟨B, 0, none⟩)] W fun e w' => e = .returned (.tuple #[]) ∧ w' = W := by
  go_enter Tryz.func72, Tryz.ntmps72
  go_wp2_with fail
  refine wp_loop_rounds 1 ?_
  rw [rounds_succ]
  go_wp2_with fail
  go_end0
  exact ⟨rfl, rfl⟩

set_option maxHeartbeats 400000 in
theorem lookMessage_none (B : Nat) (W : World) (hc : W.cell? ⟨B, 9, none⟩ = some (.slice none 0 0)) :
    Calls Tryz.prog 84 #[.pointer (some ⟨B, 0, none⟩)] W fun e w' => e = .returned (.bool true) ∧ w' = W := by
  go_enter Tryz.func84, Tryz.ntmps84
  go_wp2_with fail
  refine wp_loop_rounds 1 ?_
  rw [rounds_succ]
  go_wp2_with fail
  go_ret
  exact ⟨rfl, rfl⟩

set_option maxHeartbeats 400000 in
theorem fillRule_none (B : Nat) (W : World) (hc : W.cell? ⟨B, 10, none⟩ = some (.slice none 0 0)) :
    Calls Tryz.prog 61 #[.pointer (some ⟨B, 0, none⟩)] W fun e w' => e = .returned (.tuple #[]) ∧ w' = W := by
  go_enter Tryz.func61, Tryz.ntmps61
  go_wp2_with fail
  refine wp_loop_rounds 1 ?_
  rw [rounds_succ]
  go_wp2_with fail
  go_end0
  exact ⟨rfl, rfl⟩

set_option maxHeartbeats 400000 in
theorem growRule_none (B : Nat) (W : World) (hc : W.cell? ⟨B, 10, none⟩ = some (.slice none 0 0)) :
    Calls Tryz.prog 73 #[.pointer (some ⟨B, 0, none⟩)] W fun e w' => e = .returned (.tuple #[]) ∧ w' = W := by
  go_enter Tryz.func73, Tryz.ntmps73
  go_wp2_with fail
  refine wp_loop_rounds 1 ?_
  rw [rounds_succ]
  go_wp2_with fail
  go_end0
  exact ⟨rfl, rfl⟩

set_option maxHeartbeats 400000 in
theorem lookRule_none (B : Nat) (W : World) (hc : W.cell? ⟨B, 10, none⟩ = some (.slice none 0 0)) :
    Calls Tryz.prog 85 #[.pointer (some ⟨B, 0, none⟩)] W fun e w' => e = .returned (.bool true) ∧ w' = W := by
  go_enter Tryz.func85, Tryz.ntmps85
  go_wp2_with fail
  refine wp_loop_rounds 1 ?_
  rw [rounds_succ]
  go_wp2_with fail
  go_ret
  exact ⟨rfl, rfl⟩

set_option maxHeartbeats 400000 in
theorem fillEvent_none (B : Nat) (W : World) (hc : W.cell? ⟨B, 11, none⟩ = some (.slice none 0 0)) :
    Calls Tryz.prog 62 #[.pointer (some ⟨B, 0, none⟩)] W fun e w' => e = .returned (.tuple #[]) ∧ w' = W := by
  go_enter Tryz.func62, Tryz.ntmps62
  go_wp2_with fail
  refine wp_loop_rounds 1 ?_
  rw [rounds_succ]
  go_wp2_with fail
  go_end0
  exact ⟨rfl, rfl⟩

set_option maxHeartbeats 400000 in
theorem growEvent_none (B : Nat) (W : World) (hc : W.cell? ⟨B, 11, none⟩ = some (.slice none 0 0)) :
    Calls Tryz.prog 74 #[.pointer (some ⟨B, 0, none⟩)] W fun e w' => e = .returned (.tuple #[]) ∧ w' = W := by
  go_enter Tryz.func74, Tryz.ntmps74
  go_wp2_with fail
  refine wp_loop_rounds 1 ?_
  rw [rounds_succ]
  go_wp2_with fail
  go_end0
  exact ⟨rfl, rfl⟩

set_option maxHeartbeats 400000 in
theorem lookEvent_none (B : Nat) (W : World) (hc : W.cell? ⟨B, 11, none⟩ = some (.slice none 0 0)) :
    Calls Tryz.prog 86 #[.pointer (some ⟨B, 0, none⟩)] W fun e w' => e = .returned (.bool true) ∧ w' = W := by
  go_enter Tryz.func86, Tryz.ntmps86
  go_wp2_with fail
  refine wp_loop_rounds 1 ?_
  rw [rounds_succ]
  go_wp2_with fail
  go_ret
  exact ⟨rfl, rfl⟩

set_option maxHeartbeats 400000 in
theorem fillReply_none (B : Nat) (W : World) (hc : W.cell? ⟨B, 12, none⟩ = some (.slice none 0 0)) :
    Calls Tryz.prog 63 #[.pointer (some ⟨B, 0, none⟩)] W fun e w' => e = .returned (.tuple #[]) ∧ w' = W := by
  go_enter Tryz.func63, Tryz.ntmps63
  go_wp2_with fail
  refine wp_loop_rounds 1 ?_
  rw [rounds_succ]
  go_wp2_with fail
  go_end0
  exact ⟨rfl, rfl⟩

set_option maxHeartbeats 400000 in
theorem growReply_none (B : Nat) (W : World) (hc : W.cell? ⟨B, 12, none⟩ = some (.slice none 0 0)) :
    Calls Tryz.prog 75 #[.pointer (some ⟨B, 0, none⟩)] W fun e w' => e = .returned (.tuple #[]) ∧ w' = W := by
  go_enter Tryz.func75, Tryz.ntmps75
  go_wp2_with fail
  refine wp_loop_rounds 1 ?_
  rw [rounds_succ]
  go_wp2_with fail
  go_end0
  exact ⟨rfl, rfl⟩

set_option maxHeartbeats 400000 in
theorem lookReply_none (B : Nat) (W : World) (hc : W.cell? ⟨B, 12, none⟩ = some (.slice none 0 0)) :
    Calls Tryz.prog 87 #[.pointer (some ⟨B, 0, none⟩)] W fun e w' => e = .returned (.bool true) ∧ w' = W := by
  go_enter Tryz.func87, Tryz.ntmps87
  go_wp2_with fail
  refine wp_loop_rounds 1 ?_
  rw [rounds_succ]
  go_wp2_with fail
  go_ret
  exact ⟨rfl, rfl⟩

set_option maxHeartbeats 400000 in
theorem fillRange_none (B : Nat) (W : World) (hc : W.cell? ⟨B, 6, none⟩ = some (.slice none 0 0)) :
    Calls Tryz.prog 57 #[.pointer (some ⟨B, 0, none⟩)] W fun e w' => e = .returned (.tuple #[]) ∧ w' = W := by
  go_enter Tryz.func57, Tryz.ntmps57
  go_wp2_with fail
  refine wp_loop_rounds 1 ?_
  rw [rounds_succ]
  go_wp2_with fail
  go_end0
  exact ⟨rfl, rfl⟩

set_option maxHeartbeats 400000 in
theorem growRange_none (B : Nat) (W : World) (hc : W.cell? ⟨B, 6, none⟩ = some (.slice none 0 0)) :
    Calls Tryz.prog 69 #[.pointer (some ⟨B, 0, none⟩)] W fun e w' => e = .returned (.tuple #[]) ∧ w' = W := by
  go_enter Tryz.func69, Tryz.ntmps69
  go_wp2_with fail
  refine wp_loop_rounds 1 ?_
  rw [rounds_succ]
  go_wp2_with fail
  go_end0
  exact ⟨rfl, rfl⟩

set_option maxHeartbeats 400000 in
theorem lookRange_none (B : Nat) (W : World) (hc : W.cell? ⟨B, 6, none⟩ = some (.slice none 0 0)) :
    Calls Tryz.prog 81 #[.pointer (some ⟨B, 0, none⟩)] W fun e w' => e = .returned (.bool true) ∧ w' = W := by
  go_enter Tryz.func81, Tryz.ntmps81
  go_wp2_with fail
  refine wp_loop_rounds 1 ?_
  rw [rounds_succ]
  go_wp2_with fail
  go_ret
  exact ⟨rfl, rfl⟩


theorem keep_mono {s t : Nat → Prop} {W W' : World} (h : KeepP s W W') (hst : ∀ b, s b → t b) : KeepP t W W' := ⟨h.os, h.tape, h.output, h.size, fun b hb hn => h.block b hb (fun e => hn (hst b e))⟩
theorem keep_trans {s : Nat → Prop} {W W' W2 : World} (h : KeepP s W W') (k : KeepP s W' W2) : KeepP s W W2 := ⟨k.os.trans h.os, k.tape.trans h.tape, k.output.trans h.output, Nat.le_trans h.size k.size, fun b hb hn => (k.block b (Nat.lt_of_lt_of_le hb h.size) hn).trans (h.block b hb hn)⟩
/-- What one kind of lists in a Book keeps to: it is filled, grown and looked at, and stands while others are. -/
structure Kind (S B H : Nat) (ff fg fl : Nat) (st : Nat → Prop) where
  K : Nat → World → Prop
  fill : ∀ W, K 0 W → Calls Tryz.prog ff #[.pointer (some ⟨B, 0, none⟩)] W fun e w' => e = .returned (.tuple #[]) ∧ K 1 w' ∧ KeepP st W w'
  grow : ∀ W, K 1 W → H ≤ W.heap.size → Calls Tryz.prog fg #[.pointer (some ⟨B, 0, none⟩)] W fun e w' => e = .returned (.tuple #[]) ∧ K 2 w' ∧ KeepP st W w'
  look : ∀ W, K 2 W → Calls Tryz.prog fl #[.pointer (some ⟨B, 0, none⟩)] W fun e w' => e = .returned (.bool true) ∧ W.grownBy w' none
  keep : ∀ i W W' (st' : Nat → Prop), K i W → KeepP st' W W' → (∀ b, st' b → S ≤ b ∧ b < H ∧ ¬ st b ∧ b ≠ B) → K i W'
  low : ∀ b, st b → S ≤ b ∧ b < H ∧ b ≠ B
/-- No list of this kind. -/
def noneByte (S B H : Nat) : Kind S B H 52 64 76 (fun _ => False) where
  K := fun _ W => W.cell? ⟨B, 1, none⟩ = some (.slice none 0 0) ∧ B < W.heap.size
  fill := fun W h => (fillByte_none B W h.1).mono fun _ _ ⟨h1, h2⟩ => ⟨h1, by rw [h2]; exact h, by rw [h2]; exact KeepP.refl _ _⟩
  grow := fun W h _ => (growByte_none B W h.1).mono fun _ _ ⟨h1, h2⟩ => ⟨h1, by rw [h2]; exact h, by rw [h2]; exact KeepP.refl _ _⟩
  look := fun W h => (lookByte_none B W h.1).mono fun _ _ ⟨h1, h2⟩ => ⟨h1, by rw [h2]; exact ⟨rfl, rfl, rfl, Nat.le_refl _, fun _ _ _ => rfl⟩⟩
  keep := fun _ W W' st' h k hl => ⟨(World.cell?_of_block (w := W) (a := ⟨B, 1, none⟩) (k.block B h.2 (fun e => (hl B e).2.2.2 rfl))).trans h.1, Nat.lt_of_lt_of_le h.2 k.size⟩
  low := fun _ e => e.elim
/-- No list of this kind. -/
def noneNumber (S B H : Nat) : Kind S B H 53 65 77 (fun _ => False) where
  K := fun _ W => W.cell? ⟨B, 2, none⟩ = some (.slice none 0 0) ∧ B < W.heap.size
  fill := fun W h => (fillNumber_none B W h.1).mono fun _ _ ⟨h1, h2⟩ => ⟨h1, by rw [h2]; exact h, by rw [h2]; exact KeepP.refl _ _⟩
  grow := fun W h _ => (growNumber_none B W h.1).mono fun _ _ ⟨h1, h2⟩ => ⟨h1, by rw [h2]; exact h, by rw [h2]; exact KeepP.refl _ _⟩
  look := fun W h => (lookNumber_none B W h.1).mono fun _ _ ⟨h1, h2⟩ => ⟨h1, by rw [h2]; exact ⟨rfl, rfl, rfl, Nat.le_refl _, fun _ _ _ => rfl⟩⟩
  keep := fun _ W W' st' h k hl => ⟨(World.cell?_of_block (w := W) (a := ⟨B, 2, none⟩) (k.block B h.2 (fun e => (hl B e).2.2.2 rfl))).trans h.1, Nat.lt_of_lt_of_le h.2 k.size⟩
  low := fun _ e => e.elim
/-- No list of this kind. -/
def noneInt (S B H : Nat) : Kind S B H 54 66 78 (fun _ => False) where
  K := fun _ W => W.cell? ⟨B, 3, none⟩ = some (.slice none 0 0) ∧ B < W.heap.size
  fill := fun W h => (fillInt_none B W h.1).mono fun _ _ ⟨h1, h2⟩ => ⟨h1, by rw [h2]; exact h, by rw [h2]; exact KeepP.refl _ _⟩
  grow := fun W h _ => (growInt_none B W h.1).mono fun _ _ ⟨h1, h2⟩ => ⟨h1, by rw [h2]; exact h, by rw [h2]; exact KeepP.refl _ _⟩
  look := fun W h => (lookInt_none B W h.1).mono fun _ _ ⟨h1, h2⟩ => ⟨h1, by rw [h2]; exact ⟨rfl, rfl, rfl, Nat.le_refl _, fun _ _ _ => rfl⟩⟩
  keep := fun _ W W' st' h k hl => ⟨(World.cell?_of_block (w := W) (a := ⟨B, 3, none⟩) (k.block B h.2 (fun e => (hl B e).2.2.2 rfl))).trans h.1, Nat.lt_of_lt_of_le h.2 k.size⟩
  low := fun _ e => e.elim
/-- No list of this kind. -/
def noneText (S B H : Nat) : Kind S B H 55 67 79 (fun _ => False) where
  K := fun _ W => W.cell? ⟨B, 4, none⟩ = some (.slice none 0 0) ∧ B < W.heap.size
  fill := fun W h => (fillText_none B W h.1).mono fun _ _ ⟨h1, h2⟩ => ⟨h1, by rw [h2]; exact h, by rw [h2]; exact KeepP.refl _ _⟩
  grow := fun W h _ => (growText_none B W h.1).mono fun _ _ ⟨h1, h2⟩ => ⟨h1, by rw [h2]; exact h, by rw [h2]; exact KeepP.refl _ _⟩
  look := fun W h => (lookText_none B W h.1).mono fun _ _ ⟨h1, h2⟩ => ⟨h1, by rw [h2]; exact ⟨rfl, rfl, rfl, Nat.le_refl _, fun _ _ _ => rfl⟩⟩
  keep := fun _ W W' st' h k hl => ⟨(World.cell?_of_block (w := W) (a := ⟨B, 4, none⟩) (k.block B h.2 (fun e => (hl B e).2.2.2 rfl))).trans h.1, Nat.lt_of_lt_of_le h.2 k.size⟩
  low := fun _ e => e.elim
/-- No list of this kind. -/
def noneBlob (S B H : Nat) : Kind S B H 56 68 80 (fun _ => False) where
  K := fun _ W => W.cell? ⟨B, 5, none⟩ = some (.slice none 0 0) ∧ B < W.heap.size
  fill := fun W h => (fillBlob_none B W h.1).mono fun _ _ ⟨h1, h2⟩ => ⟨h1, by rw [h2]; exact h, by rw [h2]; exact KeepP.refl _ _⟩
  grow := fun W h _ => (growBlob_none B W h.1).mono fun _ _ ⟨h1, h2⟩ => ⟨h1, by rw [h2]; exact h, by rw [h2]; exact KeepP.refl _ _⟩
  look := fun W h => (lookBlob_none B W h.1).mono fun _ _ ⟨h1, h2⟩ => ⟨h1, by rw [h2]; exact ⟨rfl, rfl, rfl, Nat.le_refl _, fun _ _ _ => rfl⟩⟩
  keep := fun _ W W' st' h k hl => ⟨(World.cell?_of_block (w := W) (a := ⟨B, 5, none⟩) (k.block B h.2 (fun e => (hl B e).2.2.2 rfl))).trans h.1, Nat.lt_of_lt_of_le h.2 k.size⟩
  low := fun _ e => e.elim
/-- No list of this kind. -/
def noneRange (S B H : Nat) : Kind S B H 57 69 81 (fun _ => False) where
  K := fun _ W => W.cell? ⟨B, 6, none⟩ = some (.slice none 0 0) ∧ B < W.heap.size
  fill := fun W h => (fillRange_none B W h.1).mono fun _ _ ⟨h1, h2⟩ => ⟨h1, by rw [h2]; exact h, by rw [h2]; exact KeepP.refl _ _⟩
  grow := fun W h _ => (growRange_none B W h.1).mono fun _ _ ⟨h1, h2⟩ => ⟨h1, by rw [h2]; exact h, by rw [h2]; exact KeepP.refl _ _⟩
  look := fun W h => (lookRange_none B W h.1).mono fun _ _ ⟨h1, h2⟩ => ⟨h1, by rw [h2]; exact ⟨rfl, rfl, rfl, Nat.le_refl _, fun _ _ _ => rfl⟩⟩
  keep := fun _ W W' st' h k hl => ⟨(World.cell?_of_block (w := W) (a := ⟨B, 6, none⟩) (k.block B h.2 (fun e => (hl B e).2.2.2 rfl))).trans h.1, Nat.lt_of_lt_of_le h.2 k.size⟩
  low := fun _ e => e.elim
/-- No list of this kind. -/
def noneFrame (S B H : Nat) : Kind S B H 58 70 82 (fun _ => False) where
  K := fun _ W => W.cell? ⟨B, 7, none⟩ = some (.slice none 0 0) ∧ B < W.heap.size
  fill := fun W h => (fillFrame_none B W h.1).mono fun _ _ ⟨h1, h2⟩ => ⟨h1, by rw [h2]; exact h, by rw [h2]; exact KeepP.refl _ _⟩
  grow := fun W h _ => (growFrame_none B W h.1).mono fun _ _ ⟨h1, h2⟩ => ⟨h1, by rw [h2]; exact h, by rw [h2]; exact KeepP.refl _ _⟩
  look := fun W h => (lookFrame_none B W h.1).mono fun _ _ ⟨h1, h2⟩ => ⟨h1, by rw [h2]; exact ⟨rfl, rfl, rfl, Nat.le_refl _, fun _ _ _ => rfl⟩⟩
  keep := fun _ W W' st' h k hl => ⟨(World.cell?_of_block (w := W) (a := ⟨B, 7, none⟩) (k.block B h.2 (fun e => (hl B e).2.2.2 rfl))).trans h.1, Nat.lt_of_lt_of_le h.2 k.size⟩
  low := fun _ e => e.elim
/-- No list of this kind. -/
def noneField (S B H : Nat) : Kind S B H 59 71 83 (fun _ => False) where
  K := fun _ W => W.cell? ⟨B, 8, none⟩ = some (.slice none 0 0) ∧ B < W.heap.size
  fill := fun W h => (fillField_none B W h.1).mono fun _ _ ⟨h1, h2⟩ => ⟨h1, by rw [h2]; exact h, by rw [h2]; exact KeepP.refl _ _⟩
  grow := fun W h _ => (growField_none B W h.1).mono fun _ _ ⟨h1, h2⟩ => ⟨h1, by rw [h2]; exact h, by rw [h2]; exact KeepP.refl _ _⟩
  look := fun W h => (lookField_none B W h.1).mono fun _ _ ⟨h1, h2⟩ => ⟨h1, by rw [h2]; exact ⟨rfl, rfl, rfl, Nat.le_refl _, fun _ _ _ => rfl⟩⟩
  keep := fun _ W W' st' h k hl => ⟨(World.cell?_of_block (w := W) (a := ⟨B, 8, none⟩) (k.block B h.2 (fun e => (hl B e).2.2.2 rfl))).trans h.1, Nat.lt_of_lt_of_le h.2 k.size⟩
  low := fun _ e => e.elim
/-- No list of this kind. -/
def noneMessage (S B H : Nat) : Kind S B H 60 72 84 (fun _ => False) where
  K := fun _ W => W.cell? ⟨B, 9, none⟩ = some (.slice none 0 0) ∧ B < W.heap.size
  fill := fun W h => (fillMessage_none B W h.1).mono fun _ _ ⟨h1, h2⟩ => ⟨h1, by rw [h2]; exact h, by rw [h2]; exact KeepP.refl _ _⟩
  grow := fun W h _ => (growMessage_none B W h.1).mono fun _ _ ⟨h1, h2⟩ => ⟨h1, by rw [h2]; exact h, by rw [h2]; exact KeepP.refl _ _⟩
  look := fun W h => (lookMessage_none B W h.1).mono fun _ _ ⟨h1, h2⟩ => ⟨h1, by rw [h2]; exact ⟨rfl, rfl, rfl, Nat.le_refl _, fun _ _ _ => rfl⟩⟩
  keep := fun _ W W' st' h k hl => ⟨(World.cell?_of_block (w := W) (a := ⟨B, 9, none⟩) (k.block B h.2 (fun e => (hl B e).2.2.2 rfl))).trans h.1, Nat.lt_of_lt_of_le h.2 k.size⟩
  low := fun _ e => e.elim
/-- No list of this kind. -/
def noneRule (S B H : Nat) : Kind S B H 61 73 85 (fun _ => False) where
  K := fun _ W => W.cell? ⟨B, 10, none⟩ = some (.slice none 0 0) ∧ B < W.heap.size
  fill := fun W h => (fillRule_none B W h.1).mono fun _ _ ⟨h1, h2⟩ => ⟨h1, by rw [h2]; exact h, by rw [h2]; exact KeepP.refl _ _⟩
  grow := fun W h _ => (growRule_none B W h.1).mono fun _ _ ⟨h1, h2⟩ => ⟨h1, by rw [h2]; exact h, by rw [h2]; exact KeepP.refl _ _⟩
  look := fun W h => (lookRule_none B W h.1).mono fun _ _ ⟨h1, h2⟩ => ⟨h1, by rw [h2]; exact ⟨rfl, rfl, rfl, Nat.le_refl _, fun _ _ _ => rfl⟩⟩
  keep := fun _ W W' st' h k hl => ⟨(World.cell?_of_block (w := W) (a := ⟨B, 10, none⟩) (k.block B h.2 (fun e => (hl B e).2.2.2 rfl))).trans h.1, Nat.lt_of_lt_of_le h.2 k.size⟩
  low := fun _ e => e.elim
/-- No list of this kind. -/
def noneEvent (S B H : Nat) : Kind S B H 62 74 86 (fun _ => False) where
  K := fun _ W => W.cell? ⟨B, 11, none⟩ = some (.slice none 0 0) ∧ B < W.heap.size
  fill := fun W h => (fillEvent_none B W h.1).mono fun _ _ ⟨h1, h2⟩ => ⟨h1, by rw [h2]; exact h, by rw [h2]; exact KeepP.refl _ _⟩
  grow := fun W h _ => (growEvent_none B W h.1).mono fun _ _ ⟨h1, h2⟩ => ⟨h1, by rw [h2]; exact h, by rw [h2]; exact KeepP.refl _ _⟩
  look := fun W h => (lookEvent_none B W h.1).mono fun _ _ ⟨h1, h2⟩ => ⟨h1, by rw [h2]; exact ⟨rfl, rfl, rfl, Nat.le_refl _, fun _ _ _ => rfl⟩⟩
  keep := fun _ W W' st' h k hl => ⟨(World.cell?_of_block (w := W) (a := ⟨B, 11, none⟩) (k.block B h.2 (fun e => (hl B e).2.2.2 rfl))).trans h.1, Nat.lt_of_lt_of_le h.2 k.size⟩
  low := fun _ e => e.elim
/-- No list of this kind. -/
def noneReply (S B H : Nat) : Kind S B H 63 75 87 (fun _ => False) where
  K := fun _ W => W.cell? ⟨B, 12, none⟩ = some (.slice none 0 0) ∧ B < W.heap.size
  fill := fun W h => (fillReply_none B W h.1).mono fun _ _ ⟨h1, h2⟩ => ⟨h1, by rw [h2]; exact h, by rw [h2]; exact KeepP.refl _ _⟩
  grow := fun W h _ => (growReply_none B W h.1).mono fun _ _ ⟨h1, h2⟩ => ⟨h1, by rw [h2]; exact h, by rw [h2]; exact KeepP.refl _ _⟩
  look := fun W h => (lookReply_none B W h.1).mono fun _ _ ⟨h1, h2⟩ => ⟨h1, by rw [h2]; exact ⟨rfl, rfl, rfl, Nat.le_refl _, fun _ _ _ => rfl⟩⟩
  keep := fun _ W W' st' h k hl => ⟨(World.cell?_of_block (w := W) (a := ⟨B, 12, none⟩) (k.block B h.2 (fun e => (hl B e).2.2.2 rfl))).trans h.1, Nat.lt_of_lt_of_le h.2 k.size⟩
  low := fun _ e => e.elim
/-- The blocks that a kind writes, by its place in the book. -/
def stOf (s1 s2 s3 s4 s5 s6 s7 s8 s9 s10 s11 s12 : Nat → Prop) : Nat → Nat → Prop
  | 1 => s1
  | 2 => s2
  | 3 => s3
  | 4 => s4
  | 5 => s5
  | 6 => s6
  | 7 => s7
  | 8 => s8
  | 9 => s9
  | 10 => s10
  | 11 => s11
  | 12 => s12
  | _ => fun _ => False
/-- The state of a Book: what state each kind is in. -/
structure A12 {S B H : Nat} {s1 s2 s3 s4 s5 s6 s7 s8 s9 s10 s11 s12 : Nat → Prop} (k1 : Kind S B H 52 64 76 s1) (k2 : Kind S B H 53 65 77 s2) (k3 : Kind S B H 54 66 78 s3) (k4 : Kind S B H 55 67 79 s4) (k5 : Kind S B H 56 68 80 s5) (k6 : Kind S B H 57 69 81 s6) (k7 : Kind S B H 58 70 82 s7) (k8 : Kind S B H 59 71 83 s8) (k9 : Kind S B H 60 72 84 s9) (k10 : Kind S B H 61 73 85 s10) (k11 : Kind S B H 62 74 86 s11) (k12 : Kind S B H 63 75 87 s12) (w0 : World) (i1 i2 i3 i4 i5 i6 i7 i8 i9 i10 i11 i12 : Nat) (W : World) : Prop where
  a1 : k1.K i1 W
  a2 : k2.K i2 W
  a3 : k3.K i3 W
  a4 : k4.K i4 W
  a5 : k5.K i5 W
  a6 : k6.K i6 W
  a7 : k7.K i7 W
  a8 : k8.K i8 W
  a9 : k9.K i9 W
  a10 : k10.K i10 W
  a11 : k11.K i11 W
  a12 : k12.K i12 W
  bB : B < W.heap.size
  hH : H ≤ W.heap.size
  sS : S ≤ W.heap.size
  below : KeepP (fun b => ∃ j, 1 ≤ j ∧ j ≤ 12 ∧ stOf s1 s2 s3 s4 s5 s6 s7 s8 s9 s10 s11 s12 j b) w0 W
section
variable {S B H : Nat} {s1 s2 s3 s4 s5 s6 s7 s8 s9 s10 s11 s12 : Nat → Prop} {k1 : Kind S B H 52 64 76 s1} {k2 : Kind S B H 53 65 77 s2} {k3 : Kind S B H 54 66 78 s3} {k4 : Kind S B H 55 67 79 s4} {k5 : Kind S B H 56 68 80 s5} {k6 : Kind S B H 57 69 81 s6} {k7 : Kind S B H 58 70 82 s7} {k8 : Kind S B H 59 71 83 s8} {k9 : Kind S B H 60 72 84 s9} {k10 : Kind S B H 61 73 85 s10} {k11 : Kind S B H 62 74 86 s11} {k12 : Kind S B H 63 75 87 s12} {w0 W W' : World} {i1 i2 i3 i4 i5 i6 i7 i8 i9 i10 i11 i12 : Nat}
theorem A12.on1 (a : A12 k1 k2 k3 k4 k5 k6 k7 k8 k9 k10 k11 k12 w0 i1 i2 i3 i4 i5 i6 i7 i8 i9 i10 i11 i12 W) (dis : ∀ i j, i ≠ j → ∀ b, stOf s1 s2 s3 s4 s5 s6 s7 s8 s9 s10 s11 s12 i b → ¬ stOf s1 s2 s3 s4 s5 s6 s7 s8 s9 s10 s11 s12 j b) (k : KeepP s1 W W') {i' : Nat} (h : k1.K i' W') : A12 k1 k2 k3 k4 k5 k6 k7 k8 k9 k10 k11 k12 w0 i' i2 i3 i4 i5 i6 i7 i8 i9 i10 i11 i12 W' :=
  ⟨h, k2.keep _ _ _ _ a.a2 k (fun b e => ⟨(k1.low b e).1, (k1.low b e).2.1, dis 1 2 (by decide) b e, (k1.low b e).2.2⟩), k3.keep _ _ _ _ a.a3 k (fun b e => ⟨(k1.low b e).1, (k1.low b e).2.1, dis 1 3 (by decide) b e, (k1.low b e).2.2⟩), k4.keep _ _ _ _ a.a4 k (fun b e => ⟨(k1.low b e).1, (k1.low b e).2.1, dis 1 4 (by decide) b e, (k1.low b e).2.2⟩), k5.keep _ _ _ _ a.a5 k (fun b e => ⟨(k1.low b e).1, (k1.low b e).2.1, dis 1 5 (by decide) b e, (k1.low b e).2.2⟩), k6.keep _ _ _ _ a.a6 k (fun b e => ⟨(k1.low b e).1, (k1.low b e).2.1, dis 1 6 (by decide) b e, (k1.low b e).2.2⟩), k7.keep _ _ _ _ a.a7 k (fun b e => ⟨(k1.low b e).1, (k1.low b e).2.1, dis 1 7 (by decide) b e, (k1.low b e).2.2⟩), k8.keep _ _ _ _ a.a8 k (fun b e => ⟨(k1.low b e).1, (k1.low b e).2.1, dis 1 8 (by decide) b e, (k1.low b e).2.2⟩), k9.keep _ _ _ _ a.a9 k (fun b e => ⟨(k1.low b e).1, (k1.low b e).2.1, dis 1 9 (by decide) b e, (k1.low b e).2.2⟩), k10.keep _ _ _ _ a.a10 k (fun b e => ⟨(k1.low b e).1, (k1.low b e).2.1, dis 1 10 (by decide) b e, (k1.low b e).2.2⟩), k11.keep _ _ _ _ a.a11 k (fun b e => ⟨(k1.low b e).1, (k1.low b e).2.1, dis 1 11 (by decide) b e, (k1.low b e).2.2⟩), k12.keep _ _ _ _ a.a12 k (fun b e => ⟨(k1.low b e).1, (k1.low b e).2.1, dis 1 12 (by decide) b e, (k1.low b e).2.2⟩), Nat.lt_of_lt_of_le a.bB k.size, Nat.le_trans a.hH k.size, Nat.le_trans a.sS k.size, keep_trans a.below (keep_mono k fun b e => ⟨1, by decide, by decide, e⟩)⟩
theorem A12.on2 (a : A12 k1 k2 k3 k4 k5 k6 k7 k8 k9 k10 k11 k12 w0 i1 i2 i3 i4 i5 i6 i7 i8 i9 i10 i11 i12 W) (dis : ∀ i j, i ≠ j → ∀ b, stOf s1 s2 s3 s4 s5 s6 s7 s8 s9 s10 s11 s12 i b → ¬ stOf s1 s2 s3 s4 s5 s6 s7 s8 s9 s10 s11 s12 j b) (k : KeepP s2 W W') {i' : Nat} (h : k2.K i' W') : A12 k1 k2 k3 k4 k5 k6 k7 k8 k9 k10 k11 k12 w0 i1 i' i3 i4 i5 i6 i7 i8 i9 i10 i11 i12 W' :=
  ⟨k1.keep _ _ _ _ a.a1 k (fun b e => ⟨(k2.low b e).1, (k2.low b e).2.1, dis 2 1 (by decide) b e, (k2.low b e).2.2⟩), h, k3.keep _ _ _ _ a.a3 k (fun b e => ⟨(k2.low b e).1, (k2.low b e).2.1, dis 2 3 (by decide) b e, (k2.low b e).2.2⟩), k4.keep _ _ _ _ a.a4 k (fun b e => ⟨(k2.low b e).1, (k2.low b e).2.1, dis 2 4 (by decide) b e, (k2.low b e).2.2⟩), k5.keep _ _ _ _ a.a5 k (fun b e => ⟨(k2.low b e).1, (k2.low b e).2.1, dis 2 5 (by decide) b e, (k2.low b e).2.2⟩), k6.keep _ _ _ _ a.a6 k (fun b e => ⟨(k2.low b e).1, (k2.low b e).2.1, dis 2 6 (by decide) b e, (k2.low b e).2.2⟩), k7.keep _ _ _ _ a.a7 k (fun b e => ⟨(k2.low b e).1, (k2.low b e).2.1, dis 2 7 (by decide) b e, (k2.low b e).2.2⟩), k8.keep _ _ _ _ a.a8 k (fun b e => ⟨(k2.low b e).1, (k2.low b e).2.1, dis 2 8 (by decide) b e, (k2.low b e).2.2⟩), k9.keep _ _ _ _ a.a9 k (fun b e => ⟨(k2.low b e).1, (k2.low b e).2.1, dis 2 9 (by decide) b e, (k2.low b e).2.2⟩), k10.keep _ _ _ _ a.a10 k (fun b e => ⟨(k2.low b e).1, (k2.low b e).2.1, dis 2 10 (by decide) b e, (k2.low b e).2.2⟩), k11.keep _ _ _ _ a.a11 k (fun b e => ⟨(k2.low b e).1, (k2.low b e).2.1, dis 2 11 (by decide) b e, (k2.low b e).2.2⟩), k12.keep _ _ _ _ a.a12 k (fun b e => ⟨(k2.low b e).1, (k2.low b e).2.1, dis 2 12 (by decide) b e, (k2.low b e).2.2⟩), Nat.lt_of_lt_of_le a.bB k.size, Nat.le_trans a.hH k.size, Nat.le_trans a.sS k.size, keep_trans a.below (keep_mono k fun b e => ⟨2, by decide, by decide, e⟩)⟩
theorem A12.on3 (a : A12 k1 k2 k3 k4 k5 k6 k7 k8 k9 k10 k11 k12 w0 i1 i2 i3 i4 i5 i6 i7 i8 i9 i10 i11 i12 W) (dis : ∀ i j, i ≠ j → ∀ b, stOf s1 s2 s3 s4 s5 s6 s7 s8 s9 s10 s11 s12 i b → ¬ stOf s1 s2 s3 s4 s5 s6 s7 s8 s9 s10 s11 s12 j b) (k : KeepP s3 W W') {i' : Nat} (h : k3.K i' W') : A12 k1 k2 k3 k4 k5 k6 k7 k8 k9 k10 k11 k12 w0 i1 i2 i' i4 i5 i6 i7 i8 i9 i10 i11 i12 W' :=
  ⟨k1.keep _ _ _ _ a.a1 k (fun b e => ⟨(k3.low b e).1, (k3.low b e).2.1, dis 3 1 (by decide) b e, (k3.low b e).2.2⟩), k2.keep _ _ _ _ a.a2 k (fun b e => ⟨(k3.low b e).1, (k3.low b e).2.1, dis 3 2 (by decide) b e, (k3.low b e).2.2⟩), h, k4.keep _ _ _ _ a.a4 k (fun b e => ⟨(k3.low b e).1, (k3.low b e).2.1, dis 3 4 (by decide) b e, (k3.low b e).2.2⟩), k5.keep _ _ _ _ a.a5 k (fun b e => ⟨(k3.low b e).1, (k3.low b e).2.1, dis 3 5 (by decide) b e, (k3.low b e).2.2⟩), k6.keep _ _ _ _ a.a6 k (fun b e => ⟨(k3.low b e).1, (k3.low b e).2.1, dis 3 6 (by decide) b e, (k3.low b e).2.2⟩), k7.keep _ _ _ _ a.a7 k (fun b e => ⟨(k3.low b e).1, (k3.low b e).2.1, dis 3 7 (by decide) b e, (k3.low b e).2.2⟩), k8.keep _ _ _ _ a.a8 k (fun b e => ⟨(k3.low b e).1, (k3.low b e).2.1, dis 3 8 (by decide) b e, (k3.low b e).2.2⟩), k9.keep _ _ _ _ a.a9 k (fun b e => ⟨(k3.low b e).1, (k3.low b e).2.1, dis 3 9 (by decide) b e, (k3.low b e).2.2⟩), k10.keep _ _ _ _ a.a10 k (fun b e => ⟨(k3.low b e).1, (k3.low b e).2.1, dis 3 10 (by decide) b e, (k3.low b e).2.2⟩), k11.keep _ _ _ _ a.a11 k (fun b e => ⟨(k3.low b e).1, (k3.low b e).2.1, dis 3 11 (by decide) b e, (k3.low b e).2.2⟩), k12.keep _ _ _ _ a.a12 k (fun b e => ⟨(k3.low b e).1, (k3.low b e).2.1, dis 3 12 (by decide) b e, (k3.low b e).2.2⟩), Nat.lt_of_lt_of_le a.bB k.size, Nat.le_trans a.hH k.size, Nat.le_trans a.sS k.size, keep_trans a.below (keep_mono k fun b e => ⟨3, by decide, by decide, e⟩)⟩
theorem A12.on4 (a : A12 k1 k2 k3 k4 k5 k6 k7 k8 k9 k10 k11 k12 w0 i1 i2 i3 i4 i5 i6 i7 i8 i9 i10 i11 i12 W) (dis : ∀ i j, i ≠ j → ∀ b, stOf s1 s2 s3 s4 s5 s6 s7 s8 s9 s10 s11 s12 i b → ¬ stOf s1 s2 s3 s4 s5 s6 s7 s8 s9 s10 s11 s12 j b) (k : KeepP s4 W W') {i' : Nat} (h : k4.K i' W') : A12 k1 k2 k3 k4 k5 k6 k7 k8 k9 k10 k11 k12 w0 i1 i2 i3 i' i5 i6 i7 i8 i9 i10 i11 i12 W' :=
  ⟨k1.keep _ _ _ _ a.a1 k (fun b e => ⟨(k4.low b e).1, (k4.low b e).2.1, dis 4 1 (by decide) b e, (k4.low b e).2.2⟩), k2.keep _ _ _ _ a.a2 k (fun b e => ⟨(k4.low b e).1, (k4.low b e).2.1, dis 4 2 (by decide) b e, (k4.low b e).2.2⟩), k3.keep _ _ _ _ a.a3 k (fun b e => ⟨(k4.low b e).1, (k4.low b e).2.1, dis 4 3 (by decide) b e, (k4.low b e).2.2⟩), h, k5.keep _ _ _ _ a.a5 k (fun b e => ⟨(k4.low b e).1, (k4.low b e).2.1, dis 4 5 (by decide) b e, (k4.low b e).2.2⟩), k6.keep _ _ _ _ a.a6 k (fun b e => ⟨(k4.low b e).1, (k4.low b e).2.1, dis 4 6 (by decide) b e, (k4.low b e).2.2⟩), k7.keep _ _ _ _ a.a7 k (fun b e => ⟨(k4.low b e).1, (k4.low b e).2.1, dis 4 7 (by decide) b e, (k4.low b e).2.2⟩), k8.keep _ _ _ _ a.a8 k (fun b e => ⟨(k4.low b e).1, (k4.low b e).2.1, dis 4 8 (by decide) b e, (k4.low b e).2.2⟩), k9.keep _ _ _ _ a.a9 k (fun b e => ⟨(k4.low b e).1, (k4.low b e).2.1, dis 4 9 (by decide) b e, (k4.low b e).2.2⟩), k10.keep _ _ _ _ a.a10 k (fun b e => ⟨(k4.low b e).1, (k4.low b e).2.1, dis 4 10 (by decide) b e, (k4.low b e).2.2⟩), k11.keep _ _ _ _ a.a11 k (fun b e => ⟨(k4.low b e).1, (k4.low b e).2.1, dis 4 11 (by decide) b e, (k4.low b e).2.2⟩), k12.keep _ _ _ _ a.a12 k (fun b e => ⟨(k4.low b e).1, (k4.low b e).2.1, dis 4 12 (by decide) b e, (k4.low b e).2.2⟩), Nat.lt_of_lt_of_le a.bB k.size, Nat.le_trans a.hH k.size, Nat.le_trans a.sS k.size, keep_trans a.below (keep_mono k fun b e => ⟨4, by decide, by decide, e⟩)⟩
theorem A12.on5 (a : A12 k1 k2 k3 k4 k5 k6 k7 k8 k9 k10 k11 k12 w0 i1 i2 i3 i4 i5 i6 i7 i8 i9 i10 i11 i12 W) (dis : ∀ i j, i ≠ j → ∀ b, stOf s1 s2 s3 s4 s5 s6 s7 s8 s9 s10 s11 s12 i b → ¬ stOf s1 s2 s3 s4 s5 s6 s7 s8 s9 s10 s11 s12 j b) (k : KeepP s5 W W') {i' : Nat} (h : k5.K i' W') : A12 k1 k2 k3 k4 k5 k6 k7 k8 k9 k10 k11 k12 w0 i1 i2 i3 i4 i' i6 i7 i8 i9 i10 i11 i12 W' :=
  ⟨k1.keep _ _ _ _ a.a1 k (fun b e => ⟨(k5.low b e).1, (k5.low b e).2.1, dis 5 1 (by decide) b e, (k5.low b e).2.2⟩), k2.keep _ _ _ _ a.a2 k (fun b e => ⟨(k5.low b e).1, (k5.low b e).2.1, dis 5 2 (by decide) b e, (k5.low b e).2.2⟩), k3.keep _ _ _ _ a.a3 k (fun b e => ⟨(k5.low b e).1, (k5.low b e).2.1, dis 5 3 (by decide) b e, (k5.low b e).2.2⟩), k4.keep _ _ _ _ a.a4 k (fun b e => ⟨(k5.low b e).1, (k5.low b e).2.1, dis 5 4 (by decide) b e, (k5.low b e).2.2⟩), h, k6.keep _ _ _ _ a.a6 k (fun b e => ⟨(k5.low b e).1, (k5.low b e).2.1, dis 5 6 (by decide) b e, (k5.low b e).2.2⟩), k7.keep _ _ _ _ a.a7 k (fun b e => ⟨(k5.low b e).1, (k5.low b e).2.1, dis 5 7 (by decide) b e, (k5.low b e).2.2⟩), k8.keep _ _ _ _ a.a8 k (fun b e => ⟨(k5.low b e).1, (k5.low b e).2.1, dis 5 8 (by decide) b e, (k5.low b e).2.2⟩), k9.keep _ _ _ _ a.a9 k (fun b e => ⟨(k5.low b e).1, (k5.low b e).2.1, dis 5 9 (by decide) b e, (k5.low b e).2.2⟩), k10.keep _ _ _ _ a.a10 k (fun b e => ⟨(k5.low b e).1, (k5.low b e).2.1, dis 5 10 (by decide) b e, (k5.low b e).2.2⟩), k11.keep _ _ _ _ a.a11 k (fun b e => ⟨(k5.low b e).1, (k5.low b e).2.1, dis 5 11 (by decide) b e, (k5.low b e).2.2⟩), k12.keep _ _ _ _ a.a12 k (fun b e => ⟨(k5.low b e).1, (k5.low b e).2.1, dis 5 12 (by decide) b e, (k5.low b e).2.2⟩), Nat.lt_of_lt_of_le a.bB k.size, Nat.le_trans a.hH k.size, Nat.le_trans a.sS k.size, keep_trans a.below (keep_mono k fun b e => ⟨5, by decide, by decide, e⟩)⟩
theorem A12.on6 (a : A12 k1 k2 k3 k4 k5 k6 k7 k8 k9 k10 k11 k12 w0 i1 i2 i3 i4 i5 i6 i7 i8 i9 i10 i11 i12 W) (dis : ∀ i j, i ≠ j → ∀ b, stOf s1 s2 s3 s4 s5 s6 s7 s8 s9 s10 s11 s12 i b → ¬ stOf s1 s2 s3 s4 s5 s6 s7 s8 s9 s10 s11 s12 j b) (k : KeepP s6 W W') {i' : Nat} (h : k6.K i' W') : A12 k1 k2 k3 k4 k5 k6 k7 k8 k9 k10 k11 k12 w0 i1 i2 i3 i4 i5 i' i7 i8 i9 i10 i11 i12 W' :=
  ⟨k1.keep _ _ _ _ a.a1 k (fun b e => ⟨(k6.low b e).1, (k6.low b e).2.1, dis 6 1 (by decide) b e, (k6.low b e).2.2⟩), k2.keep _ _ _ _ a.a2 k (fun b e => ⟨(k6.low b e).1, (k6.low b e).2.1, dis 6 2 (by decide) b e, (k6.low b e).2.2⟩), k3.keep _ _ _ _ a.a3 k (fun b e => ⟨(k6.low b e).1, (k6.low b e).2.1, dis 6 3 (by decide) b e, (k6.low b e).2.2⟩), k4.keep _ _ _ _ a.a4 k (fun b e => ⟨(k6.low b e).1, (k6.low b e).2.1, dis 6 4 (by decide) b e, (k6.low b e).2.2⟩), k5.keep _ _ _ _ a.a5 k (fun b e => ⟨(k6.low b e).1, (k6.low b e).2.1, dis 6 5 (by decide) b e, (k6.low b e).2.2⟩), h, k7.keep _ _ _ _ a.a7 k (fun b e => ⟨(k6.low b e).1, (k6.low b e).2.1, dis 6 7 (by decide) b e, (k6.low b e).2.2⟩), k8.keep _ _ _ _ a.a8 k (fun b e => ⟨(k6.low b e).1, (k6.low b e).2.1, dis 6 8 (by decide) b e, (k6.low b e).2.2⟩), k9.keep _ _ _ _ a.a9 k (fun b e => ⟨(k6.low b e).1, (k6.low b e).2.1, dis 6 9 (by decide) b e, (k6.low b e).2.2⟩), k10.keep _ _ _ _ a.a10 k (fun b e => ⟨(k6.low b e).1, (k6.low b e).2.1, dis 6 10 (by decide) b e, (k6.low b e).2.2⟩), k11.keep _ _ _ _ a.a11 k (fun b e => ⟨(k6.low b e).1, (k6.low b e).2.1, dis 6 11 (by decide) b e, (k6.low b e).2.2⟩), k12.keep _ _ _ _ a.a12 k (fun b e => ⟨(k6.low b e).1, (k6.low b e).2.1, dis 6 12 (by decide) b e, (k6.low b e).2.2⟩), Nat.lt_of_lt_of_le a.bB k.size, Nat.le_trans a.hH k.size, Nat.le_trans a.sS k.size, keep_trans a.below (keep_mono k fun b e => ⟨6, by decide, by decide, e⟩)⟩
theorem A12.on7 (a : A12 k1 k2 k3 k4 k5 k6 k7 k8 k9 k10 k11 k12 w0 i1 i2 i3 i4 i5 i6 i7 i8 i9 i10 i11 i12 W) (dis : ∀ i j, i ≠ j → ∀ b, stOf s1 s2 s3 s4 s5 s6 s7 s8 s9 s10 s11 s12 i b → ¬ stOf s1 s2 s3 s4 s5 s6 s7 s8 s9 s10 s11 s12 j b) (k : KeepP s7 W W') {i' : Nat} (h : k7.K i' W') : A12 k1 k2 k3 k4 k5 k6 k7 k8 k9 k10 k11 k12 w0 i1 i2 i3 i4 i5 i6 i' i8 i9 i10 i11 i12 W' :=
  ⟨k1.keep _ _ _ _ a.a1 k (fun b e => ⟨(k7.low b e).1, (k7.low b e).2.1, dis 7 1 (by decide) b e, (k7.low b e).2.2⟩), k2.keep _ _ _ _ a.a2 k (fun b e => ⟨(k7.low b e).1, (k7.low b e).2.1, dis 7 2 (by decide) b e, (k7.low b e).2.2⟩), k3.keep _ _ _ _ a.a3 k (fun b e => ⟨(k7.low b e).1, (k7.low b e).2.1, dis 7 3 (by decide) b e, (k7.low b e).2.2⟩), k4.keep _ _ _ _ a.a4 k (fun b e => ⟨(k7.low b e).1, (k7.low b e).2.1, dis 7 4 (by decide) b e, (k7.low b e).2.2⟩), k5.keep _ _ _ _ a.a5 k (fun b e => ⟨(k7.low b e).1, (k7.low b e).2.1, dis 7 5 (by decide) b e, (k7.low b e).2.2⟩), k6.keep _ _ _ _ a.a6 k (fun b e => ⟨(k7.low b e).1, (k7.low b e).2.1, dis 7 6 (by decide) b e, (k7.low b e).2.2⟩), h, k8.keep _ _ _ _ a.a8 k (fun b e => ⟨(k7.low b e).1, (k7.low b e).2.1, dis 7 8 (by decide) b e, (k7.low b e).2.2⟩), k9.keep _ _ _ _ a.a9 k (fun b e => ⟨(k7.low b e).1, (k7.low b e).2.1, dis 7 9 (by decide) b e, (k7.low b e).2.2⟩), k10.keep _ _ _ _ a.a10 k (fun b e => ⟨(k7.low b e).1, (k7.low b e).2.1, dis 7 10 (by decide) b e, (k7.low b e).2.2⟩), k11.keep _ _ _ _ a.a11 k (fun b e => ⟨(k7.low b e).1, (k7.low b e).2.1, dis 7 11 (by decide) b e, (k7.low b e).2.2⟩), k12.keep _ _ _ _ a.a12 k (fun b e => ⟨(k7.low b e).1, (k7.low b e).2.1, dis 7 12 (by decide) b e, (k7.low b e).2.2⟩), Nat.lt_of_lt_of_le a.bB k.size, Nat.le_trans a.hH k.size, Nat.le_trans a.sS k.size, keep_trans a.below (keep_mono k fun b e => ⟨7, by decide, by decide, e⟩)⟩
theorem A12.on8 (a : A12 k1 k2 k3 k4 k5 k6 k7 k8 k9 k10 k11 k12 w0 i1 i2 i3 i4 i5 i6 i7 i8 i9 i10 i11 i12 W) (dis : ∀ i j, i ≠ j → ∀ b, stOf s1 s2 s3 s4 s5 s6 s7 s8 s9 s10 s11 s12 i b → ¬ stOf s1 s2 s3 s4 s5 s6 s7 s8 s9 s10 s11 s12 j b) (k : KeepP s8 W W') {i' : Nat} (h : k8.K i' W') : A12 k1 k2 k3 k4 k5 k6 k7 k8 k9 k10 k11 k12 w0 i1 i2 i3 i4 i5 i6 i7 i' i9 i10 i11 i12 W' :=
  ⟨k1.keep _ _ _ _ a.a1 k (fun b e => ⟨(k8.low b e).1, (k8.low b e).2.1, dis 8 1 (by decide) b e, (k8.low b e).2.2⟩), k2.keep _ _ _ _ a.a2 k (fun b e => ⟨(k8.low b e).1, (k8.low b e).2.1, dis 8 2 (by decide) b e, (k8.low b e).2.2⟩), k3.keep _ _ _ _ a.a3 k (fun b e => ⟨(k8.low b e).1, (k8.low b e).2.1, dis 8 3 (by decide) b e, (k8.low b e).2.2⟩), k4.keep _ _ _ _ a.a4 k (fun b e => ⟨(k8.low b e).1, (k8.low b e).2.1, dis 8 4 (by decide) b e, (k8.low b e).2.2⟩), k5.keep _ _ _ _ a.a5 k (fun b e => ⟨(k8.low b e).1, (k8.low b e).2.1, dis 8 5 (by decide) b e, (k8.low b e).2.2⟩), k6.keep _ _ _ _ a.a6 k (fun b e => ⟨(k8.low b e).1, (k8.low b e).2.1, dis 8 6 (by decide) b e, (k8.low b e).2.2⟩), k7.keep _ _ _ _ a.a7 k (fun b e => ⟨(k8.low b e).1, (k8.low b e).2.1, dis 8 7 (by decide) b e, (k8.low b e).2.2⟩), h, k9.keep _ _ _ _ a.a9 k (fun b e => ⟨(k8.low b e).1, (k8.low b e).2.1, dis 8 9 (by decide) b e, (k8.low b e).2.2⟩), k10.keep _ _ _ _ a.a10 k (fun b e => ⟨(k8.low b e).1, (k8.low b e).2.1, dis 8 10 (by decide) b e, (k8.low b e).2.2⟩), k11.keep _ _ _ _ a.a11 k (fun b e => ⟨(k8.low b e).1, (k8.low b e).2.1, dis 8 11 (by decide) b e, (k8.low b e).2.2⟩), k12.keep _ _ _ _ a.a12 k (fun b e => ⟨(k8.low b e).1, (k8.low b e).2.1, dis 8 12 (by decide) b e, (k8.low b e).2.2⟩), Nat.lt_of_lt_of_le a.bB k.size, Nat.le_trans a.hH k.size, Nat.le_trans a.sS k.size, keep_trans a.below (keep_mono k fun b e => ⟨8, by decide, by decide, e⟩)⟩
theorem A12.on9 (a : A12 k1 k2 k3 k4 k5 k6 k7 k8 k9 k10 k11 k12 w0 i1 i2 i3 i4 i5 i6 i7 i8 i9 i10 i11 i12 W) (dis : ∀ i j, i ≠ j → ∀ b, stOf s1 s2 s3 s4 s5 s6 s7 s8 s9 s10 s11 s12 i b → ¬ stOf s1 s2 s3 s4 s5 s6 s7 s8 s9 s10 s11 s12 j b) (k : KeepP s9 W W') {i' : Nat} (h : k9.K i' W') : A12 k1 k2 k3 k4 k5 k6 k7 k8 k9 k10 k11 k12 w0 i1 i2 i3 i4 i5 i6 i7 i8 i' i10 i11 i12 W' :=
  ⟨k1.keep _ _ _ _ a.a1 k (fun b e => ⟨(k9.low b e).1, (k9.low b e).2.1, dis 9 1 (by decide) b e, (k9.low b e).2.2⟩), k2.keep _ _ _ _ a.a2 k (fun b e => ⟨(k9.low b e).1, (k9.low b e).2.1, dis 9 2 (by decide) b e, (k9.low b e).2.2⟩), k3.keep _ _ _ _ a.a3 k (fun b e => ⟨(k9.low b e).1, (k9.low b e).2.1, dis 9 3 (by decide) b e, (k9.low b e).2.2⟩), k4.keep _ _ _ _ a.a4 k (fun b e => ⟨(k9.low b e).1, (k9.low b e).2.1, dis 9 4 (by decide) b e, (k9.low b e).2.2⟩), k5.keep _ _ _ _ a.a5 k (fun b e => ⟨(k9.low b e).1, (k9.low b e).2.1, dis 9 5 (by decide) b e, (k9.low b e).2.2⟩), k6.keep _ _ _ _ a.a6 k (fun b e => ⟨(k9.low b e).1, (k9.low b e).2.1, dis 9 6 (by decide) b e, (k9.low b e).2.2⟩), k7.keep _ _ _ _ a.a7 k (fun b e => ⟨(k9.low b e).1, (k9.low b e).2.1, dis 9 7 (by decide) b e, (k9.low b e).2.2⟩), k8.keep _ _ _ _ a.a8 k (fun b e => ⟨(k9.low b e).1, (k9.low b e).2.1, dis 9 8 (by decide) b e, (k9.low b e).2.2⟩), h, k10.keep _ _ _ _ a.a10 k (fun b e => ⟨(k9.low b e).1, (k9.low b e).2.1, dis 9 10 (by decide) b e, (k9.low b e).2.2⟩), k11.keep _ _ _ _ a.a11 k (fun b e => ⟨(k9.low b e).1, (k9.low b e).2.1, dis 9 11 (by decide) b e, (k9.low b e).2.2⟩), k12.keep _ _ _ _ a.a12 k (fun b e => ⟨(k9.low b e).1, (k9.low b e).2.1, dis 9 12 (by decide) b e, (k9.low b e).2.2⟩), Nat.lt_of_lt_of_le a.bB k.size, Nat.le_trans a.hH k.size, Nat.le_trans a.sS k.size, keep_trans a.below (keep_mono k fun b e => ⟨9, by decide, by decide, e⟩)⟩
theorem A12.on10 (a : A12 k1 k2 k3 k4 k5 k6 k7 k8 k9 k10 k11 k12 w0 i1 i2 i3 i4 i5 i6 i7 i8 i9 i10 i11 i12 W) (dis : ∀ i j, i ≠ j → ∀ b, stOf s1 s2 s3 s4 s5 s6 s7 s8 s9 s10 s11 s12 i b → ¬ stOf s1 s2 s3 s4 s5 s6 s7 s8 s9 s10 s11 s12 j b) (k : KeepP s10 W W') {i' : Nat} (h : k10.K i' W') : A12 k1 k2 k3 k4 k5 k6 k7 k8 k9 k10 k11 k12 w0 i1 i2 i3 i4 i5 i6 i7 i8 i9 i' i11 i12 W' :=
  ⟨k1.keep _ _ _ _ a.a1 k (fun b e => ⟨(k10.low b e).1, (k10.low b e).2.1, dis 10 1 (by decide) b e, (k10.low b e).2.2⟩), k2.keep _ _ _ _ a.a2 k (fun b e => ⟨(k10.low b e).1, (k10.low b e).2.1, dis 10 2 (by decide) b e, (k10.low b e).2.2⟩), k3.keep _ _ _ _ a.a3 k (fun b e => ⟨(k10.low b e).1, (k10.low b e).2.1, dis 10 3 (by decide) b e, (k10.low b e).2.2⟩), k4.keep _ _ _ _ a.a4 k (fun b e => ⟨(k10.low b e).1, (k10.low b e).2.1, dis 10 4 (by decide) b e, (k10.low b e).2.2⟩), k5.keep _ _ _ _ a.a5 k (fun b e => ⟨(k10.low b e).1, (k10.low b e).2.1, dis 10 5 (by decide) b e, (k10.low b e).2.2⟩), k6.keep _ _ _ _ a.a6 k (fun b e => ⟨(k10.low b e).1, (k10.low b e).2.1, dis 10 6 (by decide) b e, (k10.low b e).2.2⟩), k7.keep _ _ _ _ a.a7 k (fun b e => ⟨(k10.low b e).1, (k10.low b e).2.1, dis 10 7 (by decide) b e, (k10.low b e).2.2⟩), k8.keep _ _ _ _ a.a8 k (fun b e => ⟨(k10.low b e).1, (k10.low b e).2.1, dis 10 8 (by decide) b e, (k10.low b e).2.2⟩), k9.keep _ _ _ _ a.a9 k (fun b e => ⟨(k10.low b e).1, (k10.low b e).2.1, dis 10 9 (by decide) b e, (k10.low b e).2.2⟩), h, k11.keep _ _ _ _ a.a11 k (fun b e => ⟨(k10.low b e).1, (k10.low b e).2.1, dis 10 11 (by decide) b e, (k10.low b e).2.2⟩), k12.keep _ _ _ _ a.a12 k (fun b e => ⟨(k10.low b e).1, (k10.low b e).2.1, dis 10 12 (by decide) b e, (k10.low b e).2.2⟩), Nat.lt_of_lt_of_le a.bB k.size, Nat.le_trans a.hH k.size, Nat.le_trans a.sS k.size, keep_trans a.below (keep_mono k fun b e => ⟨10, by decide, by decide, e⟩)⟩
theorem A12.on11 (a : A12 k1 k2 k3 k4 k5 k6 k7 k8 k9 k10 k11 k12 w0 i1 i2 i3 i4 i5 i6 i7 i8 i9 i10 i11 i12 W) (dis : ∀ i j, i ≠ j → ∀ b, stOf s1 s2 s3 s4 s5 s6 s7 s8 s9 s10 s11 s12 i b → ¬ stOf s1 s2 s3 s4 s5 s6 s7 s8 s9 s10 s11 s12 j b) (k : KeepP s11 W W') {i' : Nat} (h : k11.K i' W') : A12 k1 k2 k3 k4 k5 k6 k7 k8 k9 k10 k11 k12 w0 i1 i2 i3 i4 i5 i6 i7 i8 i9 i10 i' i12 W' :=
  ⟨k1.keep _ _ _ _ a.a1 k (fun b e => ⟨(k11.low b e).1, (k11.low b e).2.1, dis 11 1 (by decide) b e, (k11.low b e).2.2⟩), k2.keep _ _ _ _ a.a2 k (fun b e => ⟨(k11.low b e).1, (k11.low b e).2.1, dis 11 2 (by decide) b e, (k11.low b e).2.2⟩), k3.keep _ _ _ _ a.a3 k (fun b e => ⟨(k11.low b e).1, (k11.low b e).2.1, dis 11 3 (by decide) b e, (k11.low b e).2.2⟩), k4.keep _ _ _ _ a.a4 k (fun b e => ⟨(k11.low b e).1, (k11.low b e).2.1, dis 11 4 (by decide) b e, (k11.low b e).2.2⟩), k5.keep _ _ _ _ a.a5 k (fun b e => ⟨(k11.low b e).1, (k11.low b e).2.1, dis 11 5 (by decide) b e, (k11.low b e).2.2⟩), k6.keep _ _ _ _ a.a6 k (fun b e => ⟨(k11.low b e).1, (k11.low b e).2.1, dis 11 6 (by decide) b e, (k11.low b e).2.2⟩), k7.keep _ _ _ _ a.a7 k (fun b e => ⟨(k11.low b e).1, (k11.low b e).2.1, dis 11 7 (by decide) b e, (k11.low b e).2.2⟩), k8.keep _ _ _ _ a.a8 k (fun b e => ⟨(k11.low b e).1, (k11.low b e).2.1, dis 11 8 (by decide) b e, (k11.low b e).2.2⟩), k9.keep _ _ _ _ a.a9 k (fun b e => ⟨(k11.low b e).1, (k11.low b e).2.1, dis 11 9 (by decide) b e, (k11.low b e).2.2⟩), k10.keep _ _ _ _ a.a10 k (fun b e => ⟨(k11.low b e).1, (k11.low b e).2.1, dis 11 10 (by decide) b e, (k11.low b e).2.2⟩), h, k12.keep _ _ _ _ a.a12 k (fun b e => ⟨(k11.low b e).1, (k11.low b e).2.1, dis 11 12 (by decide) b e, (k11.low b e).2.2⟩), Nat.lt_of_lt_of_le a.bB k.size, Nat.le_trans a.hH k.size, Nat.le_trans a.sS k.size, keep_trans a.below (keep_mono k fun b e => ⟨11, by decide, by decide, e⟩)⟩
theorem A12.on12 (a : A12 k1 k2 k3 k4 k5 k6 k7 k8 k9 k10 k11 k12 w0 i1 i2 i3 i4 i5 i6 i7 i8 i9 i10 i11 i12 W) (dis : ∀ i j, i ≠ j → ∀ b, stOf s1 s2 s3 s4 s5 s6 s7 s8 s9 s10 s11 s12 i b → ¬ stOf s1 s2 s3 s4 s5 s6 s7 s8 s9 s10 s11 s12 j b) (k : KeepP s12 W W') {i' : Nat} (h : k12.K i' W') : A12 k1 k2 k3 k4 k5 k6 k7 k8 k9 k10 k11 k12 w0 i1 i2 i3 i4 i5 i6 i7 i8 i9 i10 i11 i' W' :=
  ⟨k1.keep _ _ _ _ a.a1 k (fun b e => ⟨(k12.low b e).1, (k12.low b e).2.1, dis 12 1 (by decide) b e, (k12.low b e).2.2⟩), k2.keep _ _ _ _ a.a2 k (fun b e => ⟨(k12.low b e).1, (k12.low b e).2.1, dis 12 2 (by decide) b e, (k12.low b e).2.2⟩), k3.keep _ _ _ _ a.a3 k (fun b e => ⟨(k12.low b e).1, (k12.low b e).2.1, dis 12 3 (by decide) b e, (k12.low b e).2.2⟩), k4.keep _ _ _ _ a.a4 k (fun b e => ⟨(k12.low b e).1, (k12.low b e).2.1, dis 12 4 (by decide) b e, (k12.low b e).2.2⟩), k5.keep _ _ _ _ a.a5 k (fun b e => ⟨(k12.low b e).1, (k12.low b e).2.1, dis 12 5 (by decide) b e, (k12.low b e).2.2⟩), k6.keep _ _ _ _ a.a6 k (fun b e => ⟨(k12.low b e).1, (k12.low b e).2.1, dis 12 6 (by decide) b e, (k12.low b e).2.2⟩), k7.keep _ _ _ _ a.a7 k (fun b e => ⟨(k12.low b e).1, (k12.low b e).2.1, dis 12 7 (by decide) b e, (k12.low b e).2.2⟩), k8.keep _ _ _ _ a.a8 k (fun b e => ⟨(k12.low b e).1, (k12.low b e).2.1, dis 12 8 (by decide) b e, (k12.low b e).2.2⟩), k9.keep _ _ _ _ a.a9 k (fun b e => ⟨(k12.low b e).1, (k12.low b e).2.1, dis 12 9 (by decide) b e, (k12.low b e).2.2⟩), k10.keep _ _ _ _ a.a10 k (fun b e => ⟨(k12.low b e).1, (k12.low b e).2.1, dis 12 10 (by decide) b e, (k12.low b e).2.2⟩), k11.keep _ _ _ _ a.a11 k (fun b e => ⟨(k12.low b e).1, (k12.low b e).2.1, dis 12 11 (by decide) b e, (k12.low b e).2.2⟩), h, Nat.lt_of_lt_of_le a.bB k.size, Nat.le_trans a.hH k.size, Nat.le_trans a.sS k.size, keep_trans a.below (keep_mono k fun b e => ⟨12, by decide, by decide, e⟩)⟩
theorem A12.on0 (a : A12 k1 k2 k3 k4 k5 k6 k7 k8 k9 k10 k11 k12 w0 i1 i2 i3 i4 i5 i6 i7 i8 i9 i10 i11 i12 W) (g : W.grownBy W' none) : A12 k1 k2 k3 k4 k5 k6 k7 k8 k9 k10 k11 k12 w0 i1 i2 i3 i4 i5 i6 i7 i8 i9 i10 i11 i12 W' := by
  have k : KeepP (fun _ => False) W W' := ⟨g.os, g.tape, g.output, g.size, fun b hb _ => g.block b hb (by simp)⟩
  exact ⟨k1.keep _ _ _ _ a.a1 k (fun b e => e.elim), k2.keep _ _ _ _ a.a2 k (fun b e => e.elim), k3.keep _ _ _ _ a.a3 k (fun b e => e.elim), k4.keep _ _ _ _ a.a4 k (fun b e => e.elim), k5.keep _ _ _ _ a.a5 k (fun b e => e.elim), k6.keep _ _ _ _ a.a6 k (fun b e => e.elim), k7.keep _ _ _ _ a.a7 k (fun b e => e.elim), k8.keep _ _ _ _ a.a8 k (fun b e => e.elim), k9.keep _ _ _ _ a.a9 k (fun b e => e.elim), k10.keep _ _ _ _ a.a10 k (fun b e => e.elim), k11.keep _ _ _ _ a.a11 k (fun b e => e.elim), k12.keep _ _ _ _ a.a12 k (fun b e => e.elim), Nat.lt_of_lt_of_le a.bB k.size, Nat.le_trans a.hH k.size, Nat.le_trans a.sS k.size, keep_trans a.below (keep_mono k fun b e => e.elim)⟩
end
set_option maxRecDepth 20000 in
set_option maxHeartbeats 2000000 in
/-- Apart answers true, and writes what belongs to the book alone. -/
theorem apart_all {S B H : Nat} {s1 s2 s3 s4 s5 s6 s7 s8 s9 s10 s11 s12 : Nat → Prop} (k1 : Kind S B H 52 64 76 s1) (k2 : Kind S B H 53 65 77 s2) (k3 : Kind S B H 54 66 78 s3) (k4 : Kind S B H 55 67 79 s4) (k5 : Kind S B H 56 68 80 s5) (k6 : Kind S B H 57 69 81 s6) (k7 : Kind S B H 58 70 82 s7) (k8 : Kind S B H 59 71 83 s8) (k9 : Kind S B H 60 72 84 s9) (k10 : Kind S B H 61 73 85 s10) (k11 : Kind S B H 62 74 86 s11) (k12 : Kind S B H 63 75 87 s12) (dis : ∀ i j, i ≠ j → ∀ b, stOf s1 s2 s3 s4 s5 s6 s7 s8 s9 s10 s11 s12 i b → ¬ stOf s1 s2 s3 s4 s5 s6 s7 s8 s9 s10 s11 s12 j b) (w0 W : World) (a : A12 k1 k2 k3 k4 k5 k6 k7 k8 k9 k10 k11 k12 w0 0 0 0 0 0 0 0 0 0 0 0 0 W) :
    Calls Tryz.prog 30 #[.pointer (some ⟨B, 0, none⟩)] W fun e w' => e = .returned (.bool true) ∧ KeepP (fun b => ∃ j, 1 ≤ j ∧ j ≤ 12 ∧ stOf s1 s2 s3 s4 s5 s6 s7 s8 s9 s10 s11 s12 j b) w0 w' := by
  have DI := veil dis
  have A0 := veil a
  clear dis a
  go_enter Tryz.func30, Tryz.ntmps30
  go_wp2_with fail
  refine (k1.fill W A0.out.a1).mono ?_
  rintro e1 w1 ⟨rfl, h1, q1⟩
  have A1 := veil (A0.out.on1 DI.out q1 h1)
  clear A0 h1 q1
  go_wp2_with fail
  refine (k2.fill w1 A1.out.a2).mono ?_
  rintro e2 w2 ⟨rfl, h2, q2⟩
  have A2 := veil (A1.out.on2 DI.out q2 h2)
  clear A1 h2 q2
  go_wp2_with fail
  refine (k3.fill w2 A2.out.a3).mono ?_
  rintro e3 w3 ⟨rfl, h3, q3⟩
  have A3 := veil (A2.out.on3 DI.out q3 h3)
  clear A2 h3 q3
  go_wp2_with fail
  refine (k4.fill w3 A3.out.a4).mono ?_
  rintro e4 w4 ⟨rfl, h4, q4⟩
  have A4 := veil (A3.out.on4 DI.out q4 h4)
  clear A3 h4 q4
  go_wp2_with fail
  refine (k5.fill w4 A4.out.a5).mono ?_
  rintro e5 w5 ⟨rfl, h5, q5⟩
  have A5 := veil (A4.out.on5 DI.out q5 h5)
  clear A4 h5 q5
  go_wp2_with fail
  refine (k6.fill w5 A5.out.a6).mono ?_
  rintro e6 w6 ⟨rfl, h6, q6⟩
  have A6 := veil (A5.out.on6 DI.out q6 h6)
  clear A5 h6 q6
  go_wp2_with fail
  refine (k7.fill w6 A6.out.a7).mono ?_
  rintro e7 w7 ⟨rfl, h7, q7⟩
  have A7 := veil (A6.out.on7 DI.out q7 h7)
  clear A6 h7 q7
  go_wp2_with fail
  refine (k8.fill w7 A7.out.a8).mono ?_
  rintro e8 w8 ⟨rfl, h8, q8⟩
  have A8 := veil (A7.out.on8 DI.out q8 h8)
  clear A7 h8 q8
  go_wp2_with fail
  refine (k9.fill w8 A8.out.a9).mono ?_
  rintro e9 w9 ⟨rfl, h9, q9⟩
  have A9 := veil (A8.out.on9 DI.out q9 h9)
  clear A8 h9 q9
  go_wp2_with fail
  refine (k10.fill w9 A9.out.a10).mono ?_
  rintro e10 w10 ⟨rfl, h10, q10⟩
  have A10 := veil (A9.out.on10 DI.out q10 h10)
  clear A9 h10 q10
  go_wp2_with fail
  refine (k11.fill w10 A10.out.a11).mono ?_
  rintro e11 w11 ⟨rfl, h11, q11⟩
  have A11 := veil (A10.out.on11 DI.out q11 h11)
  clear A10 h11 q11
  go_wp2_with fail
  refine (k12.fill w11 A11.out.a12).mono ?_
  rintro e12 w12 ⟨rfl, h12, q12⟩
  have A12 := veil (A11.out.on12 DI.out q12 h12)
  clear A11 h12 q12
  go_wp2_with fail
  refine (k1.grow w12 A12.out.a1 A12.out.hH).mono ?_
  rintro e13 w13 ⟨rfl, h13, q13⟩
  have A13 := veil (A12.out.on1 DI.out q13 h13)
  clear A12 h13 q13
  go_wp2_with fail
  refine (k2.grow w13 A13.out.a2 A13.out.hH).mono ?_
  rintro e14 w14 ⟨rfl, h14, q14⟩
  have A14 := veil (A13.out.on2 DI.out q14 h14)
  clear A13 h14 q14
  go_wp2_with fail
  refine (k3.grow w14 A14.out.a3 A14.out.hH).mono ?_
  rintro e15 w15 ⟨rfl, h15, q15⟩
  have A15 := veil (A14.out.on3 DI.out q15 h15)
  clear A14 h15 q15
  go_wp2_with fail
  refine (k4.grow w15 A15.out.a4 A15.out.hH).mono ?_
  rintro e16 w16 ⟨rfl, h16, q16⟩
  have A16 := veil (A15.out.on4 DI.out q16 h16)
  clear A15 h16 q16
  go_wp2_with fail
  refine (k5.grow w16 A16.out.a5 A16.out.hH).mono ?_
  rintro e17 w17 ⟨rfl, h17, q17⟩
  have A17 := veil (A16.out.on5 DI.out q17 h17)
  clear A16 h17 q17
  go_wp2_with fail
  refine (k6.grow w17 A17.out.a6 A17.out.hH).mono ?_
  rintro e18 w18 ⟨rfl, h18, q18⟩
  have A18 := veil (A17.out.on6 DI.out q18 h18)
  clear A17 h18 q18
  go_wp2_with fail
  refine (k7.grow w18 A18.out.a7 A18.out.hH).mono ?_
  rintro e19 w19 ⟨rfl, h19, q19⟩
  have A19 := veil (A18.out.on7 DI.out q19 h19)
  clear A18 h19 q19
  go_wp2_with fail
  refine (k8.grow w19 A19.out.a8 A19.out.hH).mono ?_
  rintro e20 w20 ⟨rfl, h20, q20⟩
  have A20 := veil (A19.out.on8 DI.out q20 h20)
  clear A19 h20 q20
  go_wp2_with fail
  refine (k9.grow w20 A20.out.a9 A20.out.hH).mono ?_
  rintro e21 w21 ⟨rfl, h21, q21⟩
  have A21 := veil (A20.out.on9 DI.out q21 h21)
  clear A20 h21 q21
  go_wp2_with fail
  refine (k10.grow w21 A21.out.a10 A21.out.hH).mono ?_
  rintro e22 w22 ⟨rfl, h22, q22⟩
  have A22 := veil (A21.out.on10 DI.out q22 h22)
  clear A21 h22 q22
  go_wp2_with fail
  refine (k11.grow w22 A22.out.a11 A22.out.hH).mono ?_
  rintro e23 w23 ⟨rfl, h23, q23⟩
  have A23 := veil (A22.out.on11 DI.out q23 h23)
  clear A22 h23 q23
  go_wp2_with fail
  refine (k12.grow w23 A23.out.a12 A23.out.hH).mono ?_
  rintro e24 w24 ⟨rfl, h24, q24⟩
  have A24 := veil (A23.out.on12 DI.out q24 h24)
  clear A23 h24 q24
  go_wp2_with fail
  refine (k1.look w24 A24.out.a1).mono ?_
  rintro e25 w25 ⟨rfl, g25⟩
  have A25 := veil (A24.out.on0 g25)
  clear A24 g25
  go_wp2_with fail
  refine (k2.look w25 A25.out.a2).mono ?_
  rintro e26 w26 ⟨rfl, g26⟩
  have A26 := veil (A25.out.on0 g26)
  clear A25 g26
  go_wp2_with fail
  refine (k3.look w26 A26.out.a3).mono ?_
  rintro e27 w27 ⟨rfl, g27⟩
  have A27 := veil (A26.out.on0 g27)
  clear A26 g27
  go_wp2_with fail
  refine (k4.look w27 A27.out.a4).mono ?_
  rintro e28 w28 ⟨rfl, g28⟩
  have A28 := veil (A27.out.on0 g28)
  clear A27 g28
  go_wp2_with fail
  refine (k5.look w28 A28.out.a5).mono ?_
  rintro e29 w29 ⟨rfl, g29⟩
  have A29 := veil (A28.out.on0 g29)
  clear A28 g29
  go_wp2_with fail
  refine (k6.look w29 A29.out.a6).mono ?_
  rintro e30 w30 ⟨rfl, g30⟩
  have A30 := veil (A29.out.on0 g30)
  clear A29 g30
  go_wp2_with fail
  refine (k7.look w30 A30.out.a7).mono ?_
  rintro e31 w31 ⟨rfl, g31⟩
  have A31 := veil (A30.out.on0 g31)
  clear A30 g31
  go_wp2_with fail
  refine (k8.look w31 A31.out.a8).mono ?_
  rintro e32 w32 ⟨rfl, g32⟩
  have A32 := veil (A31.out.on0 g32)
  clear A31 g32
  go_wp2_with fail
  refine (k9.look w32 A32.out.a9).mono ?_
  rintro e33 w33 ⟨rfl, g33⟩
  have A33 := veil (A32.out.on0 g33)
  clear A32 g33
  go_wp2_with fail
  refine (k10.look w33 A33.out.a10).mono ?_
  rintro e34 w34 ⟨rfl, g34⟩
  have A34 := veil (A33.out.on0 g34)
  clear A33 g34
  go_wp2_with fail
  refine (k11.look w34 A34.out.a11).mono ?_
  rintro e35 w35 ⟨rfl, g35⟩
  have A35 := veil (A34.out.on0 g35)
  clear A34 g35
  go_wp2_with fail
  refine (k12.look w35 A35.out.a12).mono ?_
  rintro e36 w36 ⟨rfl, g36⟩
  have A36 := veil (A35.out.on0 g36)
  clear A35 g36
  go_wp2_with fail
  go_ret
  exact ⟨rfl, A36.out.below⟩
end Go.Proofs.YtehadfidenejdaaGreatDoor.Bw

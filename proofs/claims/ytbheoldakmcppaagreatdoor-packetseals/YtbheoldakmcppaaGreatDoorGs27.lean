/-
  Out of ChaIn, ChaXor, ChaXorL.
-/
import Derived.Test.YtbheoldakmcppaaGreatDoorGsHkIn
import Derived.Test.YtbheoldakmcppaaGreatDoorGs31
import Derived.Test.YtbheoldakmcppaaGreatDoorGsChaLoop
import Derived.Test.YtbheoldakmcppaaGreatDoorGs7

/-! A region inside a fence that draws its order: many operations that only read, one that makes a block. Written by mkquiet2.py. -/
namespace Go.Proofs.YtbheoldakmcppaaGreatDoor
open Go Go.RowKit

set_option maxHeartbeats 1000000 in
theorem quiet_xor {F : Fence} {n : Nat} {P : Program} {ops : Array Oper} {Q : Exit → Act → World → Prop} {W W' : World} (tm : Value → Value → Value → Value → Value → Value → Value → Value → Value → Act) (l : Bool → Bool → Bool → Bool → Bool → Bool → Bool → Bool → Bool → Array Bool) (x0 x1 x2 x3 x4 x5 x6 x7 x8 : Value)
    (l0 : ∀ c1 c2 c3 c4 c5 c6 c7 c8, (l false c1 c2 c3 c4 c5 c6 c7 c8).setIfInBounds 0 true = l true c1 c2 c3 c4 c5 c6 c7 c8)
    (l1 : ∀ c0 c2 c3 c4 c5 c6 c7 c8, (l c0 false c2 c3 c4 c5 c6 c7 c8).setIfInBounds 1 true = l c0 true c2 c3 c4 c5 c6 c7 c8)
    (l2 : ∀ c0 c1 c3 c4 c5 c6 c7 c8, (l c0 c1 false c3 c4 c5 c6 c7 c8).setIfInBounds 2 true = l c0 c1 true c3 c4 c5 c6 c7 c8)
    (l3 : ∀ c0 c1 c2 c4 c5 c6 c7 c8, (l c0 c1 c2 false c4 c5 c6 c7 c8).setIfInBounds 3 true = l c0 c1 c2 true c4 c5 c6 c7 c8)
    (l4 : ∀ c0 c1 c2 c3 c5 c6 c7 c8, (l c0 c1 c2 c3 false c5 c6 c7 c8).setIfInBounds 4 true = l c0 c1 c2 c3 true c5 c6 c7 c8)
    (l5 : ∀ c0 c1 c2 c3 c4 c6 c7 c8, (l c0 c1 c2 c3 c4 false c6 c7 c8).setIfInBounds 5 true = l c0 c1 c2 c3 c4 true c6 c7 c8)
    (l6 : ∀ c0 c1 c2 c3 c4 c5 c7 c8, (l c0 c1 c2 c3 c4 c5 false c7 c8).setIfInBounds 6 true = l c0 c1 c2 c3 c4 c5 true c7 c8)
    (l7 : ∀ c0 c1 c2 c3 c4 c5 c6 c8, (l c0 c1 c2 c3 c4 c5 c6 false c8).setIfInBounds 7 true = l c0 c1 c2 c3 c4 c5 c6 true c8)
    (l8 : ∀ c0 c1 c2 c3 c4 c5 c6 c7, (l c0 c1 c2 c3 c4 c5 c6 c7 false).setIfInBounds 8 true = l c0 c1 c2 c3 c4 c5 c6 c7 true)
    (s0 : ∀ y1 y2 y3 y4 y5 y6 y7 y8 (K : Act → World → Prop), K (tm x0 y1 y2 y3 y4 y5 y6 y7 y8) W → wpOpIn F n P ops Q 0 K (tm undef y1 y2 y3 y4 y5 y6 y7 y8) W)
    (s1 : ∀ y0 y2 y3 y4 y5 y6 y7 y8 (K : Act → World → Prop), K (tm y0 x1 y2 y3 y4 y5 y6 y7 y8) W → wpOpIn F n P ops Q 1 K (tm y0 undef y2 y3 y4 y5 y6 y7 y8) W)
    (s2 : ∀ y0 y1 y3 y4 y5 y6 y7 y8 (K : Act → World → Prop), K (tm y0 y1 x2 y3 y4 y5 y6 y7 y8) W → wpOpIn F n P ops Q 2 K (tm y0 y1 undef y3 y4 y5 y6 y7 y8) W)
    (s3 : ∀ y0 y1 y4 y5 y6 y7 y8 (K : Act → World → Prop), K (tm y0 y1 x2 x3 y4 y5 y6 y7 y8) W → wpOpIn F n P ops Q 3 K (tm y0 y1 x2 undef y4 y5 y6 y7 y8) W)
    (s4 : ∀ y0 y2 y5 y6 y7 y8 (K : Act → World → Prop), K (tm y0 x1 y2 x3 x4 y5 y6 y7 y8) W → wpOpIn F n P ops Q 4 K (tm y0 x1 y2 x3 undef y5 y6 y7 y8) W)
    (s5 : ∀ y0 y1 y2 y3 y6 y7 y8 (K : Act → World → Prop), K (tm y0 y1 y2 y3 x4 x5 y6 y7 y8) W → wpOpIn F n P ops Q 5 K (tm y0 y1 y2 y3 x4 undef y6 y7 y8) W)
    (s6 : ∀ y0 y1 y2 y3 y4 y5 y7 y8 (K : Act → World → Prop), K (tm y0 y1 y2 y3 y4 y5 x6 y7 y8) W → wpOpIn F n P ops Q 6 K (tm y0 y1 y2 y3 y4 y5 undef y7 y8) W)
    (s7 : ∀ y0 y1 y2 y3 y4 y8 (K : Act → World → Prop), K (tm y0 y1 y2 y3 y4 x5 x6 x7 y8) W → wpOpIn F n P ops Q 7 K (tm y0 y1 y2 y3 y4 x5 x6 undef y8) W)
    (s8 : ∀ y0 y1 y2 y3 y4 y5 y6 (K : Act → World → Prop), K (tm y0 y1 y2 y3 y4 y5 y6 x7 x8) W' → wpOpIn F n P ops Q 8 K (tm y0 y1 y2 y3 y4 y5 y6 x7 undef) W)
    (t0 : ∀ y1 y2 y3 y4 y5 y6 y7 y8 (K : Act → World → Prop), K (tm x0 y1 y2 y3 y4 y5 y6 y7 y8) W' → wpOpIn F n P ops Q 0 K (tm undef y1 y2 y3 y4 y5 y6 y7 y8) W')
    (r011111111 : Region.ready .any ops (l false true true true true true true true true) = [0])
    (r111111110 : Region.ready .any ops (l true true true true true true true true false) = [8])
    (r011111110 : Region.ready .any ops (l false true true true true true true true false) = [0, 8])
    (r111111100 : Region.ready .any ops (l true true true true true true true false false) = [7])
    (r011111100 : Region.ready .any ops (l false true true true true true true false false) = [0, 7])
    (r111110100 : Region.ready .any ops (l true true true true true false true false false) = [5])
    (r111111000 : Region.ready .any ops (l true true true true true true false false false) = [6])
    (r011110100 : Region.ready .any ops (l false true true true true false true false false) = [0, 5])
    (r011111000 : Region.ready .any ops (l false true true true true true false false false) = [0, 6])
    (r111100100 : Region.ready .any ops (l true true true true false false true false false) = [4])
    (r111110000 : Region.ready .any ops (l true true true true true false false false false) = [5, 6])
    (r011100100 : Region.ready .any ops (l false true true true false false true false false) = [0, 4])
    (r011110000 : Region.ready .any ops (l false true true true true false false false false) = [0, 5, 6])
    (r101100100 : Region.ready .any ops (l true false true true false false true false false) = [1])
    (r111000100 : Region.ready .any ops (l true true true false false false true false false) = [3])
    (r111100000 : Region.ready .any ops (l true true true true false false false false false) = [4, 6])
    (r001100100 : Region.ready .any ops (l false false true true false false true false false) = [0, 1])
    (r011000100 : Region.ready .any ops (l false true true false false false true false false) = [0, 3])
    (r011100000 : Region.ready .any ops (l false true true true false false false false false) = [0, 4, 6])
    (r101000100 : Region.ready .any ops (l true false true false false false true false false) = [1, 3])
    (r101100000 : Region.ready .any ops (l true false true true false false false false false) = [1, 6])
    (r110000100 : Region.ready .any ops (l true true false false false false true false false) = [2])
    (r111000000 : Region.ready .any ops (l true true true false false false false false false) = [3, 6])
    (r001000100 : Region.ready .any ops (l false false true false false false true false false) = [0, 1, 3])
    (r001100000 : Region.ready .any ops (l false false true true false false false false false) = [0, 1, 6])
    (r010000100 : Region.ready .any ops (l false true false false false false true false false) = [0, 2])
    (r011000000 : Region.ready .any ops (l false true true false false false false false false) = [0, 3, 6])
    (r100000100 : Region.ready .any ops (l true false false false false false true false false) = [1, 2])
    (r101000000 : Region.ready .any ops (l true false true false false false false false false) = [1, 3, 6])
    (r110000000 : Region.ready .any ops (l true true false false false false false false false) = [2, 6])
    (r000000100 : Region.ready .any ops (l false false false false false false true false false) = [0, 1, 2])
    (r001000000 : Region.ready .any ops (l false false true false false false false false false) = [0, 1, 3, 6])
    (r010000000 : Region.ready .any ops (l false true false false false false false false false) = [0, 2, 6])
    (r100000000 : Region.ready .any ops (l true false false false false false false false false) = [1, 2, 6])
    (r000000000 : Region.ready .any ops (l false false false false false false false false false) = [0, 1, 2, 6])
    (f : Nat) (hend : wpAnyIn F n P .any ops Q f (l true true true true true true true true true) (tm x0 x1 x2 x3 x4 x5 x6 x7 x8) W') : wpAnyIn F n P .any ops Q (f + 9) (l false false false false false false false false false) (tm undef undef undef undef undef undef undef undef undef) W := by
  have q111111111 := hend
  have q011111111 : wpAnyIn F n P .any ops Q (f + 1) (l false true true true true true true true true) (tm undef x1 x2 x3 x4 x5 x6 x7 x8) W' := by
    refine I_all r011111111 (by simp) (fun j hj => ?_)
    obtain rfl : j = 0 := by simpa using hj
    refine t0 _ _ _ _ _ _ _ _ _ ?_
    rw [l0]
    exact q111111111
  have q111111110 : wpAnyIn F n P .any ops Q (f + 1) (l true true true true true true true true false) (tm x0 x1 x2 x3 x4 x5 x6 x7 undef) W := by
    refine I_all r111111110 (by simp) (fun j hj => ?_)
    obtain rfl : j = 8 := by simpa using hj
    refine s8 _ _ _ _ _ _ _ _ ?_
    rw [l8]
    exact q111111111
  have q011111110 : wpAnyIn F n P .any ops Q (f + 2) (l false true true true true true true true false) (tm undef x1 x2 x3 x4 x5 x6 x7 undef) W := by
    refine I_all r011111110 (by simp) (fun j hj => ?_)
    rcases (by simpa using hj : j = 0 ∨ j = 8) with rfl | rfl
    · refine s0 _ _ _ _ _ _ _ _ _ ?_
      rw [l0]
      exact q111111110
    · refine s8 _ _ _ _ _ _ _ _ ?_
      rw [l8]
      exact q011111111
  have q111111100 : wpAnyIn F n P .any ops Q (f + 2) (l true true true true true true true false false) (tm x0 x1 x2 x3 x4 x5 x6 undef undef) W := by
    refine I_all r111111100 (by simp) (fun j hj => ?_)
    obtain rfl : j = 7 := by simpa using hj
    refine s7 _ _ _ _ _ _ _ ?_
    rw [l7]
    exact q111111110
  have q011111100 : wpAnyIn F n P .any ops Q (f + 3) (l false true true true true true true false false) (tm undef x1 x2 x3 x4 x5 x6 undef undef) W := by
    refine I_all r011111100 (by simp) (fun j hj => ?_)
    rcases (by simpa using hj : j = 0 ∨ j = 7) with rfl | rfl
    · refine s0 _ _ _ _ _ _ _ _ _ ?_
      rw [l0]
      exact q111111100
    · refine s7 _ _ _ _ _ _ _ ?_
      rw [l7]
      exact q011111110
  have q111110100 : wpAnyIn F n P .any ops Q (f + 3) (l true true true true true false true false false) (tm x0 x1 x2 x3 x4 undef x6 undef undef) W := by
    refine I_all r111110100 (by simp) (fun j hj => ?_)
    obtain rfl : j = 5 := by simpa using hj
    refine s5 _ _ _ _ _ _ _ _ ?_
    rw [l5]
    exact q111111100
  have q111111000 : wpAnyIn F n P .any ops Q (f + 3) (l true true true true true true false false false) (tm x0 x1 x2 x3 x4 x5 undef undef undef) W := by
    refine I_all r111111000 (by simp) (fun j hj => ?_)
    obtain rfl : j = 6 := by simpa using hj
    refine s6 _ _ _ _ _ _ _ _ _ ?_
    rw [l6]
    exact q111111100
  have q011110100 : wpAnyIn F n P .any ops Q (f + 4) (l false true true true true false true false false) (tm undef x1 x2 x3 x4 undef x6 undef undef) W := by
    refine I_all r011110100 (by simp) (fun j hj => ?_)
    rcases (by simpa using hj : j = 0 ∨ j = 5) with rfl | rfl
    · refine s0 _ _ _ _ _ _ _ _ _ ?_
      rw [l0]
      exact q111110100
    · refine s5 _ _ _ _ _ _ _ _ ?_
      rw [l5]
      exact q011111100
  have q011111000 : wpAnyIn F n P .any ops Q (f + 4) (l false true true true true true false false false) (tm undef x1 x2 x3 x4 x5 undef undef undef) W := by
    refine I_all r011111000 (by simp) (fun j hj => ?_)
    rcases (by simpa using hj : j = 0 ∨ j = 6) with rfl | rfl
    · refine s0 _ _ _ _ _ _ _ _ _ ?_
      rw [l0]
      exact q111111000
    · refine s6 _ _ _ _ _ _ _ _ _ ?_
      rw [l6]
      exact q011111100
  have q111100100 : wpAnyIn F n P .any ops Q (f + 4) (l true true true true false false true false false) (tm x0 x1 x2 x3 undef undef x6 undef undef) W := by
    refine I_all r111100100 (by simp) (fun j hj => ?_)
    obtain rfl : j = 4 := by simpa using hj
    refine s4 _ _ _ _ _ _ _ ?_
    rw [l4]
    exact q111110100
  have q111110000 : wpAnyIn F n P .any ops Q (f + 4) (l true true true true true false false false false) (tm x0 x1 x2 x3 x4 undef undef undef undef) W := by
    refine I_all r111110000 (by simp) (fun j hj => ?_)
    rcases (by simpa using hj : j = 5 ∨ j = 6) with rfl | rfl
    · refine s5 _ _ _ _ _ _ _ _ ?_
      rw [l5]
      exact q111111000
    · refine s6 _ _ _ _ _ _ _ _ _ ?_
      rw [l6]
      exact q111110100
  have q011100100 : wpAnyIn F n P .any ops Q (f + 5) (l false true true true false false true false false) (tm undef x1 x2 x3 undef undef x6 undef undef) W := by
    refine I_all r011100100 (by simp) (fun j hj => ?_)
    rcases (by simpa using hj : j = 0 ∨ j = 4) with rfl | rfl
    · refine s0 _ _ _ _ _ _ _ _ _ ?_
      rw [l0]
      exact q111100100
    · refine s4 _ _ _ _ _ _ _ ?_
      rw [l4]
      exact q011110100
  have q011110000 : wpAnyIn F n P .any ops Q (f + 5) (l false true true true true false false false false) (tm undef x1 x2 x3 x4 undef undef undef undef) W := by
    refine I_all r011110000 (by simp) (fun j hj => ?_)
    rcases (by simpa using hj : j = 0 ∨ j = 5 ∨ j = 6) with rfl | rfl | rfl
    · refine s0 _ _ _ _ _ _ _ _ _ ?_
      rw [l0]
      exact q111110000
    · refine s5 _ _ _ _ _ _ _ _ ?_
      rw [l5]
      exact q011111000
    · refine s6 _ _ _ _ _ _ _ _ _ ?_
      rw [l6]
      exact q011110100
  have q101100100 : wpAnyIn F n P .any ops Q (f + 5) (l true false true true false false true false false) (tm x0 undef x2 x3 undef undef x6 undef undef) W := by
    refine I_all r101100100 (by simp) (fun j hj => ?_)
    obtain rfl : j = 1 := by simpa using hj
    refine s1 _ _ _ _ _ _ _ _ _ ?_
    rw [l1]
    exact q111100100
  have q111000100 : wpAnyIn F n P .any ops Q (f + 5) (l true true true false false false true false false) (tm x0 x1 x2 undef undef undef x6 undef undef) W := by
    refine I_all r111000100 (by simp) (fun j hj => ?_)
    obtain rfl : j = 3 := by simpa using hj
    refine s3 _ _ _ _ _ _ _ _ ?_
    rw [l3]
    exact q111100100
  have q111100000 : wpAnyIn F n P .any ops Q (f + 5) (l true true true true false false false false false) (tm x0 x1 x2 x3 undef undef undef undef undef) W := by
    refine I_all r111100000 (by simp) (fun j hj => ?_)
    rcases (by simpa using hj : j = 4 ∨ j = 6) with rfl | rfl
    · refine s4 _ _ _ _ _ _ _ ?_
      rw [l4]
      exact q111110000
    · refine s6 _ _ _ _ _ _ _ _ _ ?_
      rw [l6]
      exact q111100100
  have q001100100 : wpAnyIn F n P .any ops Q (f + 6) (l false false true true false false true false false) (tm undef undef x2 x3 undef undef x6 undef undef) W := by
    refine I_all r001100100 (by simp) (fun j hj => ?_)
    rcases (by simpa using hj : j = 0 ∨ j = 1) with rfl | rfl
    · refine s0 _ _ _ _ _ _ _ _ _ ?_
      rw [l0]
      exact q101100100
    · refine s1 _ _ _ _ _ _ _ _ _ ?_
      rw [l1]
      exact q011100100
  have q011000100 : wpAnyIn F n P .any ops Q (f + 6) (l false true true false false false true false false) (tm undef x1 x2 undef undef undef x6 undef undef) W := by
    refine I_all r011000100 (by simp) (fun j hj => ?_)
    rcases (by simpa using hj : j = 0 ∨ j = 3) with rfl | rfl
    · refine s0 _ _ _ _ _ _ _ _ _ ?_
      rw [l0]
      exact q111000100
    · refine s3 _ _ _ _ _ _ _ _ ?_
      rw [l3]
      exact q011100100
  have q011100000 : wpAnyIn F n P .any ops Q (f + 6) (l false true true true false false false false false) (tm undef x1 x2 x3 undef undef undef undef undef) W := by
    refine I_all r011100000 (by simp) (fun j hj => ?_)
    rcases (by simpa using hj : j = 0 ∨ j = 4 ∨ j = 6) with rfl | rfl | rfl
    · refine s0 _ _ _ _ _ _ _ _ _ ?_
      rw [l0]
      exact q111100000
    · refine s4 _ _ _ _ _ _ _ ?_
      rw [l4]
      exact q011110000
    · refine s6 _ _ _ _ _ _ _ _ _ ?_
      rw [l6]
      exact q011100100
  have q101000100 : wpAnyIn F n P .any ops Q (f + 6) (l true false true false false false true false false) (tm x0 undef x2 undef undef undef x6 undef undef) W := by
    refine I_all r101000100 (by simp) (fun j hj => ?_)
    rcases (by simpa using hj : j = 1 ∨ j = 3) with rfl | rfl
    · refine s1 _ _ _ _ _ _ _ _ _ ?_
      rw [l1]
      exact q111000100
    · refine s3 _ _ _ _ _ _ _ _ ?_
      rw [l3]
      exact q101100100
  have q101100000 : wpAnyIn F n P .any ops Q (f + 6) (l true false true true false false false false false) (tm x0 undef x2 x3 undef undef undef undef undef) W := by
    refine I_all r101100000 (by simp) (fun j hj => ?_)
    rcases (by simpa using hj : j = 1 ∨ j = 6) with rfl | rfl
    · refine s1 _ _ _ _ _ _ _ _ _ ?_
      rw [l1]
      exact q111100000
    · refine s6 _ _ _ _ _ _ _ _ _ ?_
      rw [l6]
      exact q101100100
  have q110000100 : wpAnyIn F n P .any ops Q (f + 6) (l true true false false false false true false false) (tm x0 x1 undef undef undef undef x6 undef undef) W := by
    refine I_all r110000100 (by simp) (fun j hj => ?_)
    obtain rfl : j = 2 := by simpa using hj
    refine s2 _ _ _ _ _ _ _ _ _ ?_
    rw [l2]
    exact q111000100
  have q111000000 : wpAnyIn F n P .any ops Q (f + 6) (l true true true false false false false false false) (tm x0 x1 x2 undef undef undef undef undef undef) W := by
    refine I_all r111000000 (by simp) (fun j hj => ?_)
    rcases (by simpa using hj : j = 3 ∨ j = 6) with rfl | rfl
    · refine s3 _ _ _ _ _ _ _ _ ?_
      rw [l3]
      exact q111100000
    · refine s6 _ _ _ _ _ _ _ _ _ ?_
      rw [l6]
      exact q111000100
  have q001000100 : wpAnyIn F n P .any ops Q (f + 7) (l false false true false false false true false false) (tm undef undef x2 undef undef undef x6 undef undef) W := by
    refine I_all r001000100 (by simp) (fun j hj => ?_)
    rcases (by simpa using hj : j = 0 ∨ j = 1 ∨ j = 3) with rfl | rfl | rfl
    · refine s0 _ _ _ _ _ _ _ _ _ ?_
      rw [l0]
      exact q101000100
    · refine s1 _ _ _ _ _ _ _ _ _ ?_
      rw [l1]
      exact q011000100
    · refine s3 _ _ _ _ _ _ _ _ ?_
      rw [l3]
      exact q001100100
  have q001100000 : wpAnyIn F n P .any ops Q (f + 7) (l false false true true false false false false false) (tm undef undef x2 x3 undef undef undef undef undef) W := by
    refine I_all r001100000 (by simp) (fun j hj => ?_)
    rcases (by simpa using hj : j = 0 ∨ j = 1 ∨ j = 6) with rfl | rfl | rfl
    · refine s0 _ _ _ _ _ _ _ _ _ ?_
      rw [l0]
      exact q101100000
    · refine s1 _ _ _ _ _ _ _ _ _ ?_
      rw [l1]
      exact q011100000
    · refine s6 _ _ _ _ _ _ _ _ _ ?_
      rw [l6]
      exact q001100100
  have q010000100 : wpAnyIn F n P .any ops Q (f + 7) (l false true false false false false true false false) (tm undef x1 undef undef undef undef x6 undef undef) W := by
    refine I_all r010000100 (by simp) (fun j hj => ?_)
    rcases (by simpa using hj : j = 0 ∨ j = 2) with rfl | rfl
    · refine s0 _ _ _ _ _ _ _ _ _ ?_
      rw [l0]
      exact q110000100
    · refine s2 _ _ _ _ _ _ _ _ _ ?_
      rw [l2]
      exact q011000100
  have q011000000 : wpAnyIn F n P .any ops Q (f + 7) (l false true true false false false false false false) (tm undef x1 x2 undef undef undef undef undef undef) W := by
    refine I_all r011000000 (by simp) (fun j hj => ?_)
    rcases (by simpa using hj : j = 0 ∨ j = 3 ∨ j = 6) with rfl | rfl | rfl
    · refine s0 _ _ _ _ _ _ _ _ _ ?_
      rw [l0]
      exact q111000000
    · refine s3 _ _ _ _ _ _ _ _ ?_
      rw [l3]
      exact q011100000
    · refine s6 _ _ _ _ _ _ _ _ _ ?_
      rw [l6]
      exact q011000100
  have q100000100 : wpAnyIn F n P .any ops Q (f + 7) (l true false false false false false true false false) (tm x0 undef undef undef undef undef x6 undef undef) W := by
    refine I_all r100000100 (by simp) (fun j hj => ?_)
    rcases (by simpa using hj : j = 1 ∨ j = 2) with rfl | rfl
    · refine s1 _ _ _ _ _ _ _ _ _ ?_
      rw [l1]
      exact q110000100
    · refine s2 _ _ _ _ _ _ _ _ _ ?_
      rw [l2]
      exact q101000100
  have q101000000 : wpAnyIn F n P .any ops Q (f + 7) (l true false true false false false false false false) (tm x0 undef x2 undef undef undef undef undef undef) W := by
    refine I_all r101000000 (by simp) (fun j hj => ?_)
    rcases (by simpa using hj : j = 1 ∨ j = 3 ∨ j = 6) with rfl | rfl | rfl
    · refine s1 _ _ _ _ _ _ _ _ _ ?_
      rw [l1]
      exact q111000000
    · refine s3 _ _ _ _ _ _ _ _ ?_
      rw [l3]
      exact q101100000
    · refine s6 _ _ _ _ _ _ _ _ _ ?_
      rw [l6]
      exact q101000100
  have q110000000 : wpAnyIn F n P .any ops Q (f + 7) (l true true false false false false false false false) (tm x0 x1 undef undef undef undef undef undef undef) W := by
    refine I_all r110000000 (by simp) (fun j hj => ?_)
    rcases (by simpa using hj : j = 2 ∨ j = 6) with rfl | rfl
    · refine s2 _ _ _ _ _ _ _ _ _ ?_
      rw [l2]
      exact q111000000
    · refine s6 _ _ _ _ _ _ _ _ _ ?_
      rw [l6]
      exact q110000100
  have q000000100 : wpAnyIn F n P .any ops Q (f + 8) (l false false false false false false true false false) (tm undef undef undef undef undef undef x6 undef undef) W := by
    refine I_all r000000100 (by simp) (fun j hj => ?_)
    rcases (by simpa using hj : j = 0 ∨ j = 1 ∨ j = 2) with rfl | rfl | rfl
    · refine s0 _ _ _ _ _ _ _ _ _ ?_
      rw [l0]
      exact q100000100
    · refine s1 _ _ _ _ _ _ _ _ _ ?_
      rw [l1]
      exact q010000100
    · refine s2 _ _ _ _ _ _ _ _ _ ?_
      rw [l2]
      exact q001000100
  have q001000000 : wpAnyIn F n P .any ops Q (f + 8) (l false false true false false false false false false) (tm undef undef x2 undef undef undef undef undef undef) W := by
    refine I_all r001000000 (by simp) (fun j hj => ?_)
    rcases (by simpa using hj : j = 0 ∨ j = 1 ∨ j = 3 ∨ j = 6) with rfl | rfl | rfl | rfl
    · refine s0 _ _ _ _ _ _ _ _ _ ?_
      rw [l0]
      exact q101000000
    · refine s1 _ _ _ _ _ _ _ _ _ ?_
      rw [l1]
      exact q011000000
    · refine s3 _ _ _ _ _ _ _ _ ?_
      rw [l3]
      exact q001100000
    · refine s6 _ _ _ _ _ _ _ _ _ ?_
      rw [l6]
      exact q001000100
  have q010000000 : wpAnyIn F n P .any ops Q (f + 8) (l false true false false false false false false false) (tm undef x1 undef undef undef undef undef undef undef) W := by
    refine I_all r010000000 (by simp) (fun j hj => ?_)
    rcases (by simpa using hj : j = 0 ∨ j = 2 ∨ j = 6) with rfl | rfl | rfl
    · refine s0 _ _ _ _ _ _ _ _ _ ?_
      rw [l0]
      exact q110000000
    · refine s2 _ _ _ _ _ _ _ _ _ ?_
      rw [l2]
      exact q011000000
    · refine s6 _ _ _ _ _ _ _ _ _ ?_
      rw [l6]
      exact q010000100
  have q100000000 : wpAnyIn F n P .any ops Q (f + 8) (l true false false false false false false false false) (tm x0 undef undef undef undef undef undef undef undef) W := by
    refine I_all r100000000 (by simp) (fun j hj => ?_)
    rcases (by simpa using hj : j = 1 ∨ j = 2 ∨ j = 6) with rfl | rfl | rfl
    · refine s1 _ _ _ _ _ _ _ _ _ ?_
      rw [l1]
      exact q110000000
    · refine s2 _ _ _ _ _ _ _ _ _ ?_
      rw [l2]
      exact q101000000
    · refine s6 _ _ _ _ _ _ _ _ _ ?_
      rw [l6]
      exact q100000100
  have q000000000 : wpAnyIn F n P .any ops Q (f + 9) (l false false false false false false false false false) (tm undef undef undef undef undef undef undef undef undef) W := by
    refine I_all r000000000 (by simp) (fun j hj => ?_)
    rcases (by simpa using hj : j = 0 ∨ j = 1 ∨ j = 2 ∨ j = 6) with rfl | rfl | rfl | rfl
    · refine s0 _ _ _ _ _ _ _ _ _ ?_
      rw [l0]
      exact q100000000
    · refine s1 _ _ _ _ _ _ _ _ _ ?_
      rw [l1]
      exact q010000000
    · refine s2 _ _ _ _ _ _ _ _ _ ?_
      rw [l2]
      exact q001000000
    · refine s6 _ _ _ _ _ _ _ _ _ ?_
      rw [l6]
      exact q000000100
  exact q000000000
end Go.Proofs.YtbheoldakmcppaaGreatDoor

/-! What chacha.Xor answers. -/
namespace Go.Proofs.YtbheoldakmcppaaGreatDoor
open Go Go.RowKit Go.Shelf
attribute [local go_sem] Oper.semAt_some

/-- Too many bytes, or too few counts. -/
def Great (count : Wd) (n : Nat) : Prop := 1048576 < n ∨ (4294967296 : Int) - u count < (((n + 63) / 64 : Nat) : Int)

set_option maxRecDepth 100000 in
set_option maxHeartbeats 1000000 in
theorem xor_ok (key : List By) (count : Wd) (nonce : List By) (hk : key.length = 32) (hn : nonce.length = 12) (b : SL) (w : World) (hg : Glob w) (hb : b.Ok w) (hl : b.len ≤ 1048576) (hc : (((b.len + 63) / 64 : Nat) : Int) ≤ 4294967296 - u count) :
    Calls Tryz.prog 119 #[.agg (bs key), .int .u32 (u count), .agg (bs nonce), .slice b.a b.len b.cap] w fun e w' => ∃ g, e = .returned (.tuple #[.slice (some ⟨g, 0, none⟩) b.len b.len, .int .i64 0]) ∧ w'.ownsRow w.heap.size 5 1 (.slice (some ⟨g, 0, none⟩) b.len b.len) b.len (vb (xorL key count nonce b.b)) ∧ Below w.heap.size w w' := by
  obtain ⟨i0, hi, hz0, hz1, hz2⟩ := info_parts (P := Tryz.prog) (e := 5) (z := .int .u8 0) (size := 1) (bytes := 1) (by kernel_rfl)
  have HK := veil hk
  have HN := veil hn
  have HG := veil hg
  have HB := veil hb
  have hbl := hb.hb
  clear hk hn hg hb
  have hl1 : decide ((1048576 : Int) < (b.len : Int)) = false := by rw [decide_eq_false_iff_not]; omega
  have hc1 : decide ((4294967296 : Int) - u count < ((b.len : Int) + 63) / 64) = false := by rw [decide_eq_false_iff_not]; omega
  have u0 := u_nn count
  have u1 := u_le count
  have r0 : Row (((w.alloc (.cells (bs key) 78)).alloc (.cells (bs nonce) 76)).alloc (.cells #[.slice b.a b.len b.cap] 22)) w.heap.size 78 (bs key) := ((Row.new _ _ _).alloc _).alloc _
  have r1 : Row (((w.alloc (.cells (bs key) 78)).alloc (.cells (bs nonce) 76)).alloc (.cells #[.slice b.a b.len b.cap] 22)) (w.heap.size + 1) 76 (bs nonce) := (Row.new1 _ _ _ _).alloc _
  have r2 : Row (((w.alloc (.cells (bs key) 78)).alloc (.cells (bs nonce) 76)).alloc (.cells #[.slice b.a b.len b.cap] 22)) (w.heap.size + 1 + 1) 22 #[.slice b.a b.len b.cap] := Row.new2 _ _ _ _ _
  have b0 : Below w.heap.size w (((w.alloc (.cells (bs key) 78)).alloc (.cells (bs nonce) 76)).alloc (.cells #[.slice b.a b.len b.cap] 22)) := (((Below.refl _ w).alloc (Nat.le_refl _) _).alloc (by simp) _).alloc (by simp; omega) _
  have hsz0 : (((w.alloc (.cells (bs key) 78)).alloc (.cells (bs nonce) 76)).alloc (.cells #[.slice b.a b.len b.cap] 22)).heap.size = w.heap.size + 3 := by simp
  have c2 : (((w.alloc (.cells (bs key) 78)).alloc (.cells (bs nonce) 76)).alloc (.cells #[.slice b.a b.len b.cap] 22)).cell? ⟨w.heap.size + 1 + 1, 0, none⟩ = some (.slice b.a b.len b.cap) := r2.cell 0
  refine (callsIn_wide (n := 4)).1 ?_
  refine callsIn_of_wp_marks Tryz.func119 rfl trivial ?_ rfl
  simp only [Tryz.ntmps119, List.size_toArray, List.length_cons, List.length_nil, Nat.reduceAdd, Nat.reduceSub, Array.replicate_succ, Array.replicate_zero, List.push_toArray, List.append_toArray, List.nil_append, List.cons_append]
  gi_wp2_with fail
  refine ⟨trivial, (callsIn_wide.2 (blocksOf_any b.len hl _)).mono ?_⟩
  rintro e1 w1 ⟨rfl, hw⟩
  rw [hw]
  clear hw w1
  gi_wp2_with fail
  refine ⟨trivial, (callsIn_wide.2 (countsLeft_any count _)).mono ?_⟩
  rintro e1 w1 ⟨rfl, hw⟩
  rw [hw]
  clear hw w1
  generalize ((w.alloc (.cells (bs key) 78)).alloc (.cells (bs nonce) 76)).alloc (.cells #[.slice b.a b.len b.cap] 22) = W0 at *
  have hkz : (bs key).size = 32 := by rw [bs_size, HK.out]
  have hnz : (bs nonce).size = 12 := by rw [bs_size, HN.out]
  gi_wp2_with (first
    | (gi_at_make; refine wpListIn_make_own _ rfl _ _ 22 rfl (w.heap.size + 3) 5 i0 (.int .u8 0) 1 Tryz.underlying22 hi hz0 hz1 .i64 .i64 (b.len : Int) b.len rfl rfl rfl (by rw [hz2]; omega) (by unfold maxLen; omega) (by omega) ?_; intro w1 hown1 hgrow1)
    | (with_reducible (show wpListIn _ _ _ _ _ (⟨_, Op.load 78 _, _, _, _, _⟩ :: _) _ _)
       have q02 : Row (w1.alloc (.cells #[.slice (some ⟨w.heap.size + 3, 0, none⟩) 0 b.len] 22)) w.heap.size 78 (bs key) := Row.alloc ((hgrow1.block w.heap.size (by omega) (fun e => by cases e)).trans r0) _
       refine load_rowIn rfl 78 _ rfl w.heap.size rfl _ _ q02 32 5 Tryz.underlying78 (by kernel_rfl) hkz ?_
       clear q02)
    | (with_reducible (show wpListIn _ _ _ _ _ (⟨_, Op.load 76 _, _, _, _, _⟩ :: _) _ _)
       have q12 : Row (w1.alloc (.cells #[.slice (some ⟨w.heap.size + 3, 0, none⟩) 0 b.len] 22)) (w.heap.size + 1) 76 (bs nonce) := Row.alloc ((hgrow1.block (w.heap.size + 1) (by omega) (fun e => by cases e)).trans r1) _
       have q22 : (w1.alloc (.cells #[.slice (some ⟨w.heap.size + 3, 0, none⟩) 0 b.len] 22)).cell? ⟨w.heap.size + 1 + 1, 0, none⟩ = some (.slice b.a b.len b.cap) := (Row.alloc ((hgrow1.block (w.heap.size + 1 + 1) (by omega) (fun e => by cases e)).trans r2) _).cell 0
       refine load_rowIn rfl 76 _ rfl (w.heap.size + 1) rfl _ _ q12 12 5 Tryz.underlying76 (by kernel_rfl) hnz ?_
       clear q12))
  have hW0sz : w.heap.size + 3 ≤ w1.heap.size := by have := hgrow1.size; omega
  have hb1 : Below w.heap.size w w1 := b0.grown hgrow1 (by omega) (fun j e => by cases e)
  have r01 : Row w1 w.heap.size 78 (bs key) := (hgrow1.block w.heap.size (by omega) (fun e => by cases e)).trans r0
  have r11 : Row w1 (w.heap.size + 1) 76 (bs nonce) := (hgrow1.block (w.heap.size + 1) (by omega) (fun e => by cases e)).trans r1
  have r21 : Row w1 (w.heap.size + 1 + 1) 22 #[.slice b.a b.len b.cap] := (hgrow1.block (w.heap.size + 1 + 1) (by omega) (fun e => by cases e)).trans r2
  rw [hsz0] at hown1
  have hgt1 : w.heap.size + 3 < w1.heap.size := (hown1.lt (w.heap.size + 3) rfl).2
  have bel2 : Below w.heap.size w (w1.alloc (.cells #[.slice (some ⟨w.heap.size + 3, 0, none⟩) 0 b.len] 22)) := hb1.alloc hb1.size _
  have r02 := r01.alloc (.cells #[.slice (some ⟨w.heap.size + 3, 0, none⟩) 0 b.len] 22)
  have r12 := r11.alloc (.cells #[.slice (some ⟨w.heap.size + 3, 0, none⟩) 0 b.len] 22)
  have r22 := r21.alloc (.cells #[.slice (some ⟨w.heap.size + 3, 0, none⟩) 0 b.len] 22)
  have rT2 : Row (w1.alloc (.cells #[.slice (some ⟨w.heap.size + 3, 0, none⟩) 0 b.len] 22)) w1.heap.size 22 #[.slice (some ⟨w.heap.size + 3, 0, none⟩) 0 b.len] := Row.new _ _ _
  have own2 := hown1.alloc (.cells #[.slice (some ⟨w.heap.size + 3, 0, none⟩) 0 b.len] 22)
  have hsz2 : (w1.alloc (.cells #[.slice (some ⟨w.heap.size + 3, 0, none⟩) 0 b.len] 22)).heap.size = w1.heap.size + 1 := by simp
  generalize w1.alloc (.cells #[.slice (some ⟨w.heap.size + 3, 0, none⟩) 0 b.len] 22) = W2 at *
  clear hown1 hgrow1 r01 r11 r21 hb1 b0 r0 r1 r2 c2 hsz0
  refine ⟨trivial, (stream_in 3 key count nonce (b.len : Int) W2).mono ?_⟩
  rintro e4 W4 ⟨rfl, hw4⟩
--{
  have rK4 : Row W4 W2.heap.size 78 (bs key) := by rw [hw4]; exact (((Row.new _ _ _).alloc _).alloc _).alloc _
  have rC4 : Row W4 (W2.heap.size + 1) 91 #[.int .u32 (u count)] := by rw [hw4]; exact ((Row.new1 _ _ _ _).alloc _).alloc _
  have rN4 : Row W4 (W2.heap.size + 1 + 1) 76 (bs nonce) := by rw [hw4]; exact (Row.new2 _ _ _ _ _).alloc _
  have rZ4 : Row W4 (W2.heap.size + 1 + 1 + 1) 3 #[.int .i64 (b.len : Int)] := by rw [hw4]; exact Row.new3 _ _ _ _ _ _
  have hb4 : Below W2.heap.size W2 W4 := by rw [hw4]; exact ((((Below.refl _ W2).alloc (Nat.le_refl _) _).alloc (by simp) _).alloc (by simp; omega) _).alloc (by simp; omega) _
  have hs4 : W4.heap.size = W2.heap.size + 4 := by rw [hw4]; simp
  clear hw4 q22
  have hbelW := bel2.trans (hb4.mono bel2.size)
  have rTW := rT2.below hb4 rT2.lt
  have r22W := r22.below hb4 r22.lt
  have ownW : W4.ownsRow (w.heap.size + 3) 5 1 (.slice (some ⟨w.heap.size + 3, 0, none⟩) 0 b.len) 0 [] := own2.kept (row := none) ⟨hb4.os, hb4.tape, hb4.output, hb4.size, fun j hj _ => hb4.block j hj⟩ (Classical.em _)
  have hbW := HB.out.below hbelW
  have hgW := HG.out.below hbelW (Nat.le_refl _)
  have hgl := HG.out.lt
  have hbg : 0 < b.len → b.g < w.heap.size := HB.out.lt
  clear bel2 r02 r12 r22 rT2 own2
  have hIB : ∀ (pre : List By) (W V : World), (Row W w1.heap.size 22 #[.slice (some ⟨w.heap.size + 3, 0, none⟩) pre.length b.len] ∧ OwnB W (w.heap.size + 3) (w.heap.size + 3) pre.length b.len (zipX b.b pre) ∧ Row W (w.heap.size + 1 + 1) 22 #[.slice b.a b.len b.cap] ∧ b.Ok W ∧ Below w.heap.size w W) → Below W4.heap.size W V → (Row V w1.heap.size 22 #[.slice (some ⟨w.heap.size + 3, 0, none⟩) pre.length b.len] ∧ OwnB V (w.heap.size + 3) (w.heap.size + 3) pre.length b.len (zipX b.b pre) ∧ Row V (w.heap.size + 1 + 1) 22 #[.slice b.a b.len b.cap] ∧ b.Ok V ∧ Below w.heap.size w V) :=
    fun pre W V h hb => ⟨h.1.below hb (by omega), h.2.1.same (hb.block _ (by omega)), h.2.2.1.below hb (by omega), h.2.2.2.1.below' hb (fun p => by have := hbg p; omega), h.2.2.2.2.trans (hb.mono (by omega))⟩
  have HSZ2 := veil hsz2
  have HS4 := veil hs4
  clear hsz2 hs4
  gi_wp2_with fail
  have hsz2 := HSZ2.out
  have hs4 := HS4.out
  refine rangeFunc_tellsN (F := Fence.wide) (n := 4) rfl (by decide) (gf := 171) (lb := #[.pointer (some ⟨W2.heap.size + 1 + 1 + 1, 0, none⟩), .pointer (some ⟨W2.heap.size, 0, none⟩), .pointer (some ⟨W2.heap.size + 1, 0, none⟩), .pointer (some ⟨W2.heap.size + 1 + 1, 0, none⟩)]) rfl trivial (enters_of Tryz.func171 (by kernel_rfl) rfl) (encs := encY) (fun _ => rfl) (fun j => j = w1.heap.size ∨ j = w.heap.size + 3) (fun j hj => by omega) (sbTo key count nonce b.len)
    (stream_tells (4 - 1) (by decide) W2.heap.size (W2.heap.size + 1) (W2.heap.size + 1 + 1) (W2.heap.size + 1 + 1 + 1) (fun j => j = w1.heap.size ∨ j = w.heap.size + 3) key count nonce HK.out HN.out b.len hl W4 rK4 rC4 rN4 rZ4 hgW (fun j hj => by omega) (by omega) (by omega) (by omega) (by omega) (by omega) (by omega))
    (fun pre W => Row W w1.heap.size 22 #[.slice (some ⟨w.heap.size + 3, 0, none⟩) pre.length b.len] ∧ OwnB W (w.heap.size + 3) (w.heap.size + 3) pre.length b.len (zipX b.b pre) ∧ Row W (w.heap.size + 1 + 1) 22 #[.slice b.a b.len b.cap] ∧ b.Ok W ∧ Below w.heap.size w W)
    hIB ⟨rTW, ⟨rfl, ownW⟩, r22W, hbW, hbelW⟩
    (fun x => { tmps := #[.agg (bs key), .int .u32 (u count), .agg (bs nonce), .slice b.a b.len b.cap, .pointer (some ⟨w.heap.size, 0, none⟩), undef, .pointer (some ⟨w.heap.size + 1, 0, none⟩), .pointer (some ⟨w.heap.size + 1 + 1, 0, none⟩), .slice none 0 0, .int .i64 0, .pointer (some ⟨w1.heap.size, 0, none⟩), .int .u8 (v8 x), .slice b.a b.len b.cap, .int .i64 (b.len : Int), .bool false, .bool false, .slice b.a b.len b.cap, .int .i64 (b.len : Int), .int .u64 (((b.len : Int) + 63) / 64), .int .u32 (u count), .int .u64 (4294967296 - u count), .bool false, .bool false, .slice b.a b.len b.cap, .int .i64 (b.len : Int), .slice (some ⟨w.heap.size + 3, 0, none⟩) 0 b.len, .agg (bs key), .int .u32 (u count), .agg (bs nonce), .slice b.a b.len b.cap, .int .i64 (b.len : Int), .func (.func 171) #[] #[.pointer (some ⟨W2.heap.size + 1 + 1 + 1, 0, none⟩), .pointer (some ⟨W2.heap.size, 0, none⟩), .pointer (some ⟨W2.heap.size + 1, 0, none⟩), .pointer (some ⟨W2.heap.size + 1 + 1, 0, none⟩)], .int .u8 (v8 x), undef, undef, undef, undef, undef, undef, undef, undef, undef, undef, undef], defers := [] }) ?assign ?body ?done
  case assign =>
    clear hsz2 hs4
    intro l x V K hK
    unfold encY
    go_simp
    gi_wp2_with fail
    exact hK
  case body =>
    rintro l pre x V hL ⟨hT, hO, hBb, hbo, hbel⟩
    rw [sbTo_length] at hL
    clear hsz2 hs4
    have HSN := veil (zipX_snoc b.b pre x)
    have HLS : Hid ((pre ++ [x]).length = pre.length + 1) := show _ = _ by simp
    have HO := veil hO
    have HBO := veil hbo
    obtain ⟨n, hn⟩ : ∃ n, n = pre.length := ⟨_, rfl⟩
    rw [← hn] at hT hO HO HLS hL HSN
    have hn2 := veil hn
    clear hn hO hbo
    have HBA : Hid (b.a = some ⟨b.g, b.off, none⟩) := show _ = _ from HBO.out.at_ (by omega)
    have hbc := HBO.out.cell n hL
    gi_wp2_with fail
    refine wpIn_region_any (by kernel_rfl) ?_
    have hba := HBA.out
    have hTd : Row { V with drawn := V.drawn + 1 } w1.heap.size 22 #[.slice (some ⟨w.heap.size + 3, 0, none⟩) n b.len] := hT
    have hBd : Row { V with drawn := V.drawn + 1 } (w.heap.size + 1 + 1) 22 #[.slice b.a b.len b.cap] := hBb
    have hOd : OwnB { V with drawn := V.drawn + 1 } (w.heap.size + 3) (w.heap.size + 3) n b.len (zipX b.b pre) := HO.out.same rfl
    have hod : b.Ok { V with drawn := V.drawn + 1 } := HBO.out.same (fun _ => rfl) (Nat.le_refl _)
    have hKd : KeepP (fun j => j = w1.heap.size ∨ j = w.heap.size + 3) V { V with drawn := V.drawn + 1 } := ⟨rfl, rfl, rfl, Nat.le_refl _, fun _ _ _ => rfl⟩
    have hbd : Below w.heap.size w { V with drawn := V.drawn + 1 } := hbel.drew
    have hcd : ({ V with drawn := V.drawn + 1 } : World).cell? ⟨b.g, b.off + n, none⟩ = some (.int .u8 (v8 (gb b.b n))) := hbc
    clear hT hBb hbel hbc HO HBO
    generalize ({ V with drawn := V.drawn + 1 } : World) = Vd at *
    have cT' : Vd.cell? ⟨w1.heap.size, 0, none⟩ = some (.slice (some ⟨w.heap.size + 3, 0, none⟩) n b.len) := hTd.cell 0
    have cB' : Vd.cell? ⟨w.heap.size + 1 + 1, 0, none⟩ = some (.slice b.a b.len b.cap) := hBd.cell 0
    have hpn : (0 : Int) ≤ (n : Int) ∧ (n : Int) < (b.len : Int) := by omega
    have hX := bxb (gb b.b n) x
    rw [hba] at cB'
    have hlt1 := hTd.lt
    obtain ⟨V1, hV1⟩ : ∃ V1, V1 = Vd.alloc (.cells #[.int .u8 (v8 (xb (gb b.b n) x))] 5) := ⟨_, rfl⟩
    have hbV1 : Below Vd.heap.size Vd V1 := by rw [hV1]; exact (Below.refl _ Vd).alloc (Nat.le_refl _) _
    have rV1 : Row V1 Vd.heap.size 5 (bs [xb (gb b.b n) x]) := by rw [hV1]; exact Row.new _ _ _
    have cT1 : V1.cell? ⟨w1.heap.size, 0, none⟩ = some (.slice (some ⟨w.heap.size + 3, 0, none⟩) n b.len) := (hbV1.cell (p := ⟨w1.heap.size, 0, none⟩) hlt1).trans cT'
    refine quiet_xor (W := Vd) (W' := V1) (fun x33 x34 x35 x36 x37 x38 x39 x40 x41 => { tmps := #[.agg (bs key), .int .u32 (u count), .agg (bs nonce), .slice b.a b.len b.cap, .pointer (some ⟨w.heap.size, 0, none⟩), undef, .pointer (some ⟨w.heap.size + 1, 0, none⟩), .pointer (some ⟨w.heap.size + 1 + 1, 0, none⟩), .slice none 0 0, .int .i64 0, .pointer (some ⟨w1.heap.size, 0, none⟩), .int .u8 (v8 x), .slice b.a b.len b.cap, .int .i64 (b.len : Int), .bool false, .bool false, .slice b.a b.len b.cap, .int .i64 (b.len : Int), .int .u64 (((b.len : Int) + 63) / 64), .int .u32 (u count), .int .u64 (4294967296 - u count), .bool false, .bool false, .slice b.a b.len b.cap, .int .i64 (b.len : Int), .slice (some ⟨w.heap.size + 3, 0, none⟩) 0 b.len, .agg (bs key), .int .u32 (u count), .agg (bs nonce), .slice b.a b.len b.cap, .int .i64 (b.len : Int), .func (.func 171) #[] #[.pointer (some ⟨W2.heap.size + 1 + 1 + 1, 0, none⟩), .pointer (some ⟨W2.heap.size, 0, none⟩), .pointer (some ⟨W2.heap.size + 1, 0, none⟩), .pointer (some ⟨W2.heap.size + 1 + 1, 0, none⟩)], .int .u8 (v8 x), x33, x34, x35, x36, x37, x38, x39, x40, x41, undef, undef], defers := [] })
      (fun c0 c1 c2 c3 c4 c5 c6 c7 c8 => #[c0, c1, c2, c3, c4, c5, c6, c7, c8, false, false]) (.slice (some ⟨w.heap.size + 3, 0, none⟩) n b.len) (.slice (some ⟨b.g, b.off, none⟩) b.len b.cap) (.slice (some ⟨w.heap.size + 3, 0, none⟩) n b.len) (.int .i64 (n : Int)) (.pointer (some ⟨b.g, b.off + n, none⟩)) (.int .u8 (v8 (gb b.b n))) (.int .u8 (v8 x)) (.int .u8 (v8 (xb (gb b.b n) x))) (.slice (some ⟨Vd.heap.size, 0, none⟩) 1 1)
      (fun _ _ _ _ _ _ _ _ => rfl) (fun _ _ _ _ _ _ _ _ => rfl) (fun _ _ _ _ _ _ _ _ => rfl) (fun _ _ _ _ _ _ _ _ => rfl) (fun _ _ _ _ _ _ _ _ => rfl) (fun _ _ _ _ _ _ _ _ => rfl) (fun _ _ _ _ _ _ _ _ => rfl) (fun _ _ _ _ _ _ _ _ => rfl) (fun _ _ _ _ _ _ _ _ => rfl) ?s0 ?s1 ?s2 ?s3 ?s4 ?s5 ?s6 ?s7 ?s8 ?t0 (by kernel_rfl) (by kernel_rfl) (by kernel_rfl) (by kernel_rfl) (by kernel_rfl) (by kernel_rfl) (by kernel_rfl) (by kernel_rfl) (by kernel_rfl) (by kernel_rfl) (by kernel_rfl) (by kernel_rfl) (by kernel_rfl) (by kernel_rfl) (by kernel_rfl) (by kernel_rfl) (by kernel_rfl) (by kernel_rfl) (by kernel_rfl) (by kernel_rfl) (by kernel_rfl) (by kernel_rfl) (by kernel_rfl) (by kernel_rfl) (by kernel_rfl) (by kernel_rfl) (by kernel_rfl) (by kernel_rfl) (by kernel_rfl) (by kernel_rfl) (by kernel_rfl) (by kernel_rfl) (by kernel_rfl) (by kernel_rfl) (by kernel_rfl) 2 ?fin
    case s0 =>
      intros
      exact OI_value rfl rfl rfl (by intro c h; cases h) (.slice (some ⟨w.heap.size + 3, 0, none⟩) n b.len) Vd (by go_simp) (by assumption)
    case s1 =>
      intros
      exact OI_value rfl rfl rfl (by intro c h; cases h) (.slice (some ⟨b.g, b.off, none⟩) b.len b.cap) Vd (by go_simp) (by assumption)
    case s2 =>
      intros
      exact OI_value rfl rfl rfl (by intro c h; cases h) (.slice (some ⟨w.heap.size + 3, 0, none⟩) n b.len) Vd (by go_simp) (by assumption)
    case s3 =>
      intros
      exact OI_value rfl rfl (about_builtin _ _ _ rfl) (by intro c h; cases h) (.int .i64 (n : Int)) Vd (by go_simp) (by assumption)
    case s4 =>
      intros
      exact OI_value rfl rfl rfl (by intro c h; cases h) (.pointer (some ⟨b.g, b.off + n, none⟩)) Vd (by go_simp) (by assumption)
    case s5 =>
      intros
      exact OI_value rfl rfl rfl (by intro c h; cases h) (.int .u8 (v8 (gb b.b n))) Vd (by go_simp) (by assumption)
    case s6 =>
      intros
      exact OI_value rfl rfl rfl (by intro c h; cases h) (.int .u8 (v8 x)) Vd (by go_simp) (by assumption)
    case s7 =>
      intros
      exact OI_value rfl rfl rfl (by intro c h; cases h) (.int .u8 (v8 (xb (gb b.b n) x))) Vd (by go_simp) (by assumption)
    case t0 =>
      intros
      exact OI_value rfl rfl rfl (by intro c h; cases h) (.slice (some ⟨w.heap.size + 3, 0, none⟩) n b.len) V1 (by go_simp) (by assumption)
    case s8 =>
      intros
      exact OI_value rfl rfl rfl (by intro c h; cases h) (.slice (some ⟨Vd.heap.size, 0, none⟩) 1 1) V1 (by rw [hV1]; go_simp) (by assumption)
    case fin =>
      have hsz2 := HSZ2.out
      have hs4 := HS4.out
      have hO1 : OwnB V1 (w.heap.size + 3) (w.heap.size + 3) n b.len (zipX b.b pre) := hOd.same (hbV1.block _ hOd.lt.2)
      have hT1 : Row V1 w1.heap.size 22 #[.slice (some ⟨w.heap.size + 3, 0, none⟩) n b.len] := hTd.below hbV1 hTd.lt
      have hB1 : Row V1 (w.heap.size + 1 + 1) 22 #[.slice b.a b.len b.cap] := hBd.below hbV1 hBd.lt
      have hnews : ∀ j u, (vb [xb (gb b.b n) x])[j]? = some u → V1.cell? ((⟨Vd.heap.size, 0, none⟩ : Addr).add j) = some u := fun j u hu => by
        obtain ⟨h1, rfl⟩ := vb_get' _ j u hu
        rw [add_off]
        exact rV1.cellB h1
      obtain ⟨V2, hr2, own3, hg2⟩ := run_append_fits (P := Tryz.prog) V1 (w.heap.size + 3) 22 22 5 i0 1 Tryz.underlying22 hi hz1 (w.heap.size + 3) n b.len (vb (zipX b.b pre)) hO1.row ⟨Vd.heap.size, 0, none⟩ 1 1 (vb [xb (gb b.b n) x]) (by rw [vb_length]; rfl) hnews (vb_one _) (by omega)
      have hT2 : Row V2 w1.heap.size 22 #[.slice (some ⟨w.heap.size + 3, 0, none⟩) n b.len] := (hg2.block _ hT1.lt (fun e => by injection e with e; omega)).trans hT1
      have hB2 : Row V2 (w.heap.size + 1 + 1) 22 #[.slice b.a b.len b.cap] := (hg2.block _ hB1.lt (fun e => by injection e with e; omega)).trans hB1
      have cT2 : V2.cell? ⟨w1.heap.size, 0, none⟩ = some (.slice (some ⟨w.heap.size + 3, 0, none⟩) n b.len) := hT2.cell 0
      have fT2 := hT2.frozen 0
      have hbd1 : Below w.heap.size w V1 := hbd.trans (hbV1.mono hbd.size)
      have hb2 : Below w.heap.size w V2 := hbd1.grown hg2 hbd1.size (fun j e => by injection e with e; omega)
      have ho2 : b.Ok V2 := (hod.below hbV1).same (fun p => hg2.block _ (by have := hbg p; have := hbd1.size; omega) (fun e => by injection e with e; have := hbg p; omega)) hg2.size
      refine I_one 9 (by kernel_rfl) (OI_value rfl rfl (about_builtin _ _ _ rfl) (by intro c h; cases h) (.slice (some ⟨w.heap.size + 3, 0, none⟩) (n + 1) b.len) V2 (exec_append _ _ _ _ rfl _ _ rfl rfl _ V2 hr2) ?_)
      refine I_one 10 (by kernel_rfl) (OI_skip rfl rfl rfl (by intro c h; cases h) (V2.setCell ⟨w1.heap.size, 0, none⟩ (.slice (some ⟨w.heap.size + 3, 0, none⟩) (n + 1) b.len)) (by go_simp) ?_)
      refine I_done (by kernel_rfl) ?_ _
      have hO2 : OwnB V2 (w.heap.size + 3) (w.heap.size + 3) (n + 1) b.len (zipX b.b pre ++ [xb (gb b.b n) x]) := ⟨by rw [List.length_append, hOd.len]; rfl, by rw [vb_append]; exact own3⟩
      refine ⟨rfl, ((hKd.trans (KeepP.of_below hbV1)).trans (KeepP.grown (.inr rfl) hg2)).trans (KeepP.setCell (.inl rfl) V2 0 _), ?_⟩
      rw [HLS.out, HSN.out]
      refine ⟨hT2.set 0 _, hO2.other (by omega) _ _, hB2.other (by show w.heap.size + 1 + 1 ≠ w1.heap.size; omega) _, ho2.same (fun p => Below.heap_setCell V2 _ _ _ (by have := hbg p; show b.g ≠ w1.heap.size; omega)) (by simp [World.setCell]), hb2.setCell (p := ⟨w1.heap.size, 0, none⟩) (by show w.heap.size ≤ w1.heap.size; omega) _⟩
  case done =>
    rintro D V hD ⟨hT, hO, hBb, hbo, hbel⟩ hDd
    have hex : zipX b.b (sbTo key count nonce b.len) = xorL key count nonce b.b := by unfold xorL; rw [hbl]
    rw [hex, sbTo_length] at hO
    rw [sbTo_length] at hT
    have cT : V.cell? ⟨w1.heap.size, 0, none⟩ = some (.slice (some ⟨w.heap.size + 3, 0, none⟩) b.len b.len) := hT.cell 0
    have hO' := veil hO
    clear hO hT hBb hbo
    have hlt4 : D < V.heap.size := (Array.getElem?_eq_some_iff.1 hDd).1
    have kp : Below D V (V.putObj D (.deferred none)) := below_putObj _ (Nat.le_refl _) (by omega)
    gi_wp2_with fail
    refine ⟨by simp, .inl ⟨_, _, rfl, run_takeDeferred hDd, ?_⟩⟩
    exact ⟨_, results_tmp2 rfl _ _ _, w.heap.size + 3, rfl, own_low ((hO'.out.same (kp.block _ (by omega))).row) (by omega), hbel.trans (kp.mono (by omega))⟩
end Go.Proofs.YtbheoldakmcppaaGreatDoor

/-! What chacha.Xor answers, at any bytes. -/
namespace Go.Proofs.YtbheoldakmcppaaGreatDoor
open Go Go.RowKit

end Go.Proofs.YtbheoldakmcppaaGreatDoor

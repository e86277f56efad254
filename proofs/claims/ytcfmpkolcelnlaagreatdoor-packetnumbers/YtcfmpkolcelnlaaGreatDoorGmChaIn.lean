/-
  A region inside a fence that draws its order: many operations that only read, one that makes a block. Written by mkquiet2.py.
-/
import Derived.Test.YtcfmpkolcelnlaaGreatDoorGmHkIn
namespace Go.Proofs.YtcfmpkolcelnlaaGreatDoor
open Go Go.RowKit

set_option maxHeartbeats 1000000 in
theorem quiet_xor {F : Fence} {n : Nat} {P : Program} {ops : Array Oper} {Q : Exit → Act → World → Prop} {W W' : World} (tm : Value → Value → Value → Value → Value → Value → Value → Value → Value → Act) (l : Bool → Bool → Bool → Bool → Bool → Bool → Bool → Bool → Bool → Array Bool) (x0 x1 x2 x3 x4 x5 x6 x7 x8 : Value)
    (l0 : ∀ c1 c2 c3 c4 c5 c6 c7 c8, (l false c1 c2 c3 c4 c5 c6 c7 c8).setIfInBounds 0 true = l true c1 c2 c3 c4 c5 c6 c7 c8)
    (l1 : ∀ c0 c2 c3 c4 c5 c6 c7 c8, (l c0 false c2 c3 c4 c5 c6 c7 c8).setIfInBounds 1 true = l c0 true c2 c3 c4 c5 c6 c7 c8)
    (l2 : ∀ c0 c1 c3 c4 c5 c6 c7 c8, (l c0 c1 false c3 c4 c5 c6 c7 c8).setIfInBounds 2 true = l c0 c1 true c3 c4 c5 c6 c7 c8)
    (l3 : ∀ c0 c1 c2 c4 c5 c6 c7 c8, (l c0 c1 c2 false c4 c5 c6 c7 c8).setIfInBounds 3 true = l c0 c1 c2 true c4 c5 c6 c7 c8)
    (l4 : ∀ c0 c1 c2 c3 c5 c6 c7 c8, (l c0 c1 c2 c3 false c5 c6 c7 c8).setIfInBounds 4 true = l c0 c1 c2 c3 true c5 c6 c7 c8)
    (l5 : ∀ c0 c1 c2 c3 c4 c6 c7 c8, (l c0 c1 c2 c3 c4 false c6 c7 c8).setIfInBounds 5 true = l c0 c1 c2 c3 c4 true c6 c7 c8)
    (l6 : ∀ c0 c1 c2 c3 c4 c5 c7 c8, (l c0 c1 c2 c3 c4 c5 false c7 c8).setIfInBounds 6 true = l c0 c1 c2 c3 c4 c5 true c7 c8)
    (l7 : ∀ c0 c1 c2 c3 c4 c5 c6 c8, (l c0 c1 c2 c3 c4 c5 c6 false c8).setIfInBounds 7 true = l c0 c1 c2 c3 c4 c5 c6 true c8)
    (l8 : ∀ c0 c1 c2 c3 c4 c5 c6 c7, (l c0 c1 c2 c3 c4 c5 c6 c7 false).setIfInBounds 8 true = l c0 c1 c2 c3 c4 c5 c6 c7 true)
    (s0 : ∀ y1 y2 y3 y4 y5 y6 y7 y8 (K : Act → World → Prop), K (tm x0 y1 y2 y3 y4 y5 y6 y7 y8) W → wpOpIn F n P ops Q 0 K (tm undef y1 y2 y3 y4 y5 y6 y7 y8) W)
    (s1 : ∀ y0 y2 y3 y4 y5 y6 y7 y8 (K : Act → World → Prop), K (tm y0 x1 y2 y3 y4 y5 y6 y7 y8) W → wpOpIn F n P ops Q 1 K (tm y0 undef y2 y3 y4 y5 y6 y7 y8) W)
    (s2 : ∀ y0 y1 y3 y4 y5 y6 y7 y8 (K : Act → World → Prop), K (tm y0 y1 x2 y3 y4 y5 y6 y7 y8) W → wpOpIn F n P ops Q 2 K (tm y0 y1 undef y3 y4 y5 y6 y7 y8) W)
    (s3 : ∀ y0 y1 y4 y5 y6 y7 y8 (K : Act → World → Prop), K (tm y0 y1 x2 x3 y4 y5 y6 y7 y8) W → wpOpIn F n P ops Q 3 K (tm y0 y1 x2 undef y4 y5 y6 y7 y8) W)
    (s4 : ∀ y0 y2 y5 y6 y7 y8 (K : Act → World → Prop), K (tm y0 x1 y2 x3 x4 y5 y6 y7 y8) W → wpOpIn F n P ops Q 4 K (tm y0 x1 y2 x3 undef y5 y6 y7 y8) W)
    (s5 : ∀ y0 y1 y2 y3 y6 y7 y8 (K : Act → World → Prop), K (tm y0 y1 y2 y3 x4 x5 y6 y7 y8) W → wpOpIn F n P ops Q 5 K (tm y0 y1 y2 y3 x4 undef y6 y7 y8) W)
    (s6 : ∀ y0 y1 y2 y3 y4 y5 y7 y8 (K : Act → World → Prop), K (tm y0 y1 y2 y3 y4 y5 x6 y7 y8) W → wpOpIn F n P ops Q 6 K (tm y0 y1 y2 y3 y4 y5 undef y7 y8) W)
    (s7 : ∀ y0 y1 y2 y3 y4 y8 (K : Act → World → Prop), K (tm y0 y1 y2 y3 y4 x5 x6 x7 y8) W → wpOpIn F n P ops Q 7 K (tm y0 y1 y2 y3 y4 x5 x6 undef y8) W)
    (s8 : ∀ y0 y1 y2 y3 y4 y5 y6 (K : Act → World → Prop), K (tm y0 y1 y2 y3 y4 y5 y6 x7 x8) W' → wpOpIn F n P ops Q 8 K (tm y0 y1 y2 y3 y4 y5 y6 x7 undef) W)
    (t0 : ∀ y1 y2 y3 y4 y5 y6 y7 y8 (K : Act → World → Prop), K (tm x0 y1 y2 y3 y4 y5 y6 y7 y8) W' → wpOpIn F n P ops Q 0 K (tm undef y1 y2 y3 y4 y5 y6 y7 y8) W')
    (r011111111 : Region.ready .any ops (l false true true true true true true true true) = [0])
    (r111111110 : Region.ready .any ops (l true true true true true true true true false) = [8])
    (r011111110 : Region.ready .any ops (l false true true true true true true true false) = [0, 8])
    (r111111100 : Region.ready .any ops (l true true true true true true true false false) = [7])
    (r011111100 : Region.ready .any ops (l false true true true true true true false false) = [0, 7])
    (r111110100 : Region.ready .any ops (l true true true true true false true false false) = [5])
    (r111111000 : Region.ready .any ops (l true true true true true true false false false) = [6])
    (r011110100 : Region.ready .any ops (l false true true true true false true false false) = [0, 5])
    (r011111000 : Region.ready .any ops (l false true true true true true false false false) = [0, 6])
    (r111100100 : Region.ready .any ops (l true true true true false false true false false) = [4])
    (r111110000 : Region.ready .any ops (l true true true true true false false false false) = [5, 6])
    (r011100100 : Region.ready .any ops (l false true true true false false true false false) = [0, 4])
    (r011110000 : Region.ready .any ops (l false true true true true false false false false) = [0, 5, 6])
    (r101100100 : Region.ready .any ops (l true false true true false false true false false) = [1])
    (r111000100 : Region.ready .any ops (l true true true false false false true false false) = [3])
    (r111100000 : Region.ready .any ops (l true true true true false false false false false) = [4, 6])
    (r001100100 : Region.ready .any ops (l false false true true false false true false false) = [0, 1])
    (r011000100 : Region.ready .any ops (l false true true false false false true false false) = [0, 3])
    (r011100000 : Region.ready .any ops (l false true true true false false false false false) = [0, 4, 6])
    (r101000100 : Region.ready .any ops (l true false true false false false true false false) = [1, 3])
    (r101100000 : Region.ready .any ops (l true false true true false false false false false) = [1, 6])
    (r110000100 : Region.ready .any ops (l true true false false false false true false false) = [2])
    (r111000000 : Region.ready .any ops (l true true true false false false false false false) = [3, 6])
    (r001000100 : Region.ready .any ops (l false false true false false false true false false) = [0, 1, 3])
    (r001100000 : Region.ready .any ops (l false false true true false false false false false) = [0, 1, 6])
    (r010000100 : Region.ready .any ops (l false true false false false false true false false) = [0, 2])
    (r011000000 : Region.ready .any ops (l false true true false false false false false false) = [0, 3, 6])
    (r100000100 : Region.ready .any ops (l true false false false false false true false false) = [1, 2])
    (r101000000 : Region.ready .any ops (l true false true false false false false false false) = [1, 3, 6])
    (r110000000 : Region.ready .any ops (l true true false false false false false false false) = [2, 6])
    (r000000100 : Region.ready .any ops (l false false false false false false true false false) = [0, 1, 2])
    (r001000000 : Region.ready .any ops (l false false true false false false false false false) = [0, 1, 3, 6])
    (r010000000 : Region.ready .any ops (l false true false false false false false false false) = [0, 2, 6])
    (r100000000 : Region.ready .any ops (l true false false false false false false false false) = [1, 2, 6])
    (r000000000 : Region.ready .any ops (l false false false false false false false false false) = [0, 1, 2, 6])
    (f : Nat) (hend : wpAnyIn F n P .any ops Q f (l true true true true true true true true true) (tm x0 x1 x2 x3 x4 x5 x6 x7 x8) W') : wpAnyIn F n P .any ops Q (f + 9) (l false false false false false false false false false) (tm undef undef undef undef undef undef undef undef undef) W := by
  have q111111111 := hend
  have q011111111 : wpAnyIn F n P .any ops Q (f + 1) (l false true true true true true true true true) (tm undef x1 x2 x3 x4 x5 x6 x7 x8) W' := by
    refine I_all r011111111 (by simp) (fun j hj => ?_)
    obtain rfl : j = 0 := by simpa using hj
    refine t0 _ _ _ _ _ _ _ _ _ ?_
    rw [l0]
    exact q111111111
  have q111111110 : wpAnyIn F n P .any ops Q (f + 1) (l true true true true true true true true false) (tm x0 x1 x2 x3 x4 x5 x6 x7 undef) W := by
    refine I_all r111111110 (by simp) (fun j hj => ?_)
    obtain rfl : j = 8 := by simpa using hj
    refine s8 _ _ _ _ _ _ _ _ ?_
    rw [l8]
    exact q111111111
  have q011111110 : wpAnyIn F n P .any ops Q (f + 2) (l false true true true true true true true false) (tm undef x1 x2 x3 x4 x5 x6 x7 undef) W := by
    refine I_all r011111110 (by simp) (fun j hj => ?_)
    rcases (by simpa using hj : j = 0 ∨ j = 8) with rfl | rfl
    · refine s0 _ _ _ _ _ _ _ _ _ ?_
      rw [l0]
      exact q111111110
    · refine s8 _ _ _ _ _ _ _ _ ?_
      rw [l8]
      exact q011111111
  have q111111100 : wpAnyIn F n P .any ops Q (f + 2) (l true true true true true true true false false) (tm x0 x1 x2 x3 x4 x5 x6 undef undef) W := by
    refine I_all r111111100 (by simp) (fun j hj => ?_)
    obtain rfl : j = 7 := by simpa using hj
    refine s7 _ _ _ _ _ _ _ ?_
    rw [l7]
    exact q111111110
  have q011111100 : wpAnyIn F n P .any ops Q (f + 3) (l false true true true true true true false false) (tm undef x1 x2 x3 x4 x5 x6 undef undef) W := by
    refine I_all r011111100 (by simp) (fun j hj => ?_)
    rcases (by simpa using hj : j = 0 ∨ j = 7) with rfl | rfl
    · refine s0 _ _ _ _ _ _ _ _ _ ?_
      rw [l0]
      exact q111111100
    · refine s7 _ _ _ _ _ _ _ ?_
      rw [l7]
      exact q011111110
  have q111110100 : wpAnyIn F n P .any ops Q (f + 3) (l true true true true true false true false false) (tm x0 x1 x2 x3 x4 undef x6 undef undef) W := by
    refine I_all r111110100 (by simp) (fun j hj => ?_)
    obtain rfl : j = 5 := by simpa using hj
    refine s5 _ _ _ _ _ _ _ _ ?_
    rw [l5]
    exact q111111100
  have q111111000 : wpAnyIn F n P .any ops Q (f + 3) (l true true true true true true false false false) (tm x0 x1 x2 x3 x4 x5 undef undef undef) W := by
    refine I_all r111111000 (by simp) (fun j hj => ?_)
    obtain rfl : j = 6 := by simpa using hj
    refine s6 _ _ _ _ _ _ _ _ _ ?_
    rw [l6]
    exact q111111100
  have q011110100 : wpAnyIn F n P .any ops Q (f + 4) (l false true true true true false true false false) (tm undef x1 x2 x3 x4 undef x6 undef undef) W := by
    refine I_all r011110100 (by simp) (fun j hj => ?_)
    rcases (by simpa using hj : j = 0 ∨ j = 5) with rfl | rfl
    · refine s0 _ _ _ _ _ _ _ _ _ ?_
      rw [l0]
      exact q111110100
    · refine s5 _ _ _ _ _ _ _ _ ?_
      rw [l5]
      exact q011111100
  have q011111000 : wpAnyIn F n P .any ops Q (f + 4) (l false true true true true true false false false) (tm undef x1 x2 x3 x4 x5 undef undef undef) W := by
    refine I_all r011111000 (by simp) (fun j hj => ?_)
    rcases (by simpa using hj : j = 0 ∨ j = 6) with rfl | rfl
    · refine s0 _ _ _ _ _ _ _ _ _ ?_
      rw [l0]
      exact q111111000
    · refine s6 _ _ _ _ _ _ _ _ _ ?_
      rw [l6]
      exact q011111100
  have q111100100 : wpAnyIn F n P .any ops Q (f + 4) (l true true true true false false true false false) (tm x0 x1 x2 x3 undef undef x6 undef undef) W := by
    refine I_all r111100100 (by simp) (fun j hj => ?_)
    obtain rfl : j = 4 := by simpa using hj
    refine s4 _ _ _ _ _ _ _ ?_
    rw [l4]
    exact q111110100
  have q111110000 : wpAnyIn F n P .any ops Q (f + 4) (l true true true true true false false false false) (tm x0 x1 x2 x3 x4 undef undef undef undef) W := by
    refine I_all r111110000 (by simp) (fun j hj => ?_)
    rcases (by simpa using hj : j = 5 ∨ j = 6) with rfl | rfl
    · refine s5 _ _ _ _ _ _ _ _ ?_
      rw [l5]
      exact q111111000
    · refine s6 _ _ _ _ _ _ _ _ _ ?_
      rw [l6]
      exact q111110100
  have q011100100 : wpAnyIn F n P .any ops Q (f + 5) (l false true true true false false true false false) (tm undef x1 x2 x3 undef undef x6 undef undef) W := by
    refine I_all r011100100 (by simp) (fun j hj => ?_)
    rcases (by simpa using hj : j = 0 ∨ j = 4) with rfl | rfl
    · refine s0 _ _ _ _ _ _ _ _ _ ?_
      rw [l0]
      exact q111100100
    · refine s4 _ _ _ _ _ _ _ ?_
      rw [l4]
      exact q011110100
  have q011110000 : wpAnyIn F n P .any ops Q (f + 5) (l false true true true true false false false false) (tm undef x1 x2 x3 x4 undef undef undef undef) W := by
    refine I_all r011110000 (by simp) (fun j hj => ?_)
    rcases (by simpa using hj : j = 0 ∨ j = 5 ∨ j = 6) with rfl | rfl | rfl
    · refine s0 _ _ _ _ _ _ _ _ _ ?_
      rw [l0]
      exact q111110000
    · refine s5 _ _ _ _ _ _ _ _ ?_
      rw [l5]
      exact q011111000
    · refine s6 _ _ _ _ _ _ _ _ _ ?_
      rw [l6]
      exact q011110100
  have q101100100 : wpAnyIn F n P .any ops Q (f + 5) (l true false true true false false true false false) (tm x0 undef x2 x3 undef undef x6 undef undef) W := by
    refine I_all r101100100 (by simp) (fun j hj => ?_)
    obtain rfl : j = 1 := by simpa using hj
    refine s1 _ _ _ _ _ _ _ _ _ ?_
    rw [l1]
    exact q111100100
  have q111000100 : wpAnyIn F n P .any ops Q (f + 5) (l true true true false false false true false false) (tm x0 x1 x2 undef undef undef x6 undef undef) W := by
    refine I_all r111000100 (by simp) (fun j hj => ?_)
    obtain rfl : j = 3 := by simpa using hj
    refine s3 _ _ _ _ _ _ _ _ ?_
    rw [l3]
    exact q111100100
  have q111100000 : wpAnyIn F n P .any ops Q (f + 5) (l true true true true false false false false false) (tm x0 x1 x2 x3 undef undef undef undef undef) W := by
    refine I_all r111100000 (by simp) (fun j hj => ?_)
    rcases (by simpa using hj : j = 4 ∨ j = 6) with rfl | rfl
    · refine s4 _ _ _ _ _ _ _ ?_
      rw [l4]
      exact q111110000
    · refine s6 _ _ _ _ _ _ _ _ _ ?_
      rw [l6]
      exact q111100100
  have q001100100 : wpAnyIn F n P .any ops Q (f + 6) (l false false true true false false true false false) (tm undef undef x2 x3 undef undef x6 undef undef) W := by
    refine I_all r001100100 (by simp) (fun j hj => ?_)
    rcases (by simpa using hj : j = 0 ∨ j = 1) with rfl | rfl
    · refine s0 _ _ _ _ _ _ _ _ _ ?_
      rw [l0]
      exact q101100100
    · refine s1 _ _ _ _ _ _ _ _ _ ?_
      rw [l1]
      exact q011100100
  have q011000100 : wpAnyIn F n P .any ops Q (f + 6) (l false true true false false false true false false) (tm undef x1 x2 undef undef undef x6 undef undef) W := by
    refine I_all r011000100 (by simp) (fun j hj => ?_)
    rcases (by simpa using hj : j = 0 ∨ j = 3) with rfl | rfl
    · refine s0 _ _ _ _ _ _ _ _ _ ?_
      rw [l0]
      exact q111000100
    · refine s3 _ _ _ _ _ _ _ _ ?_
      rw [l3]
      exact q011100100
  have q011100000 : wpAnyIn F n P .any ops Q (f + 6) (l false true true true false false false false false) (tm undef x1 x2 x3 undef undef undef undef undef) W := by
    refine I_all r011100000 (by simp) (fun j hj => ?_)
    rcases (by simpa using hj : j = 0 ∨ j = 4 ∨ j = 6) with rfl | rfl | rfl
    · refine s0 _ _ _ _ _ _ _ _ _ ?_
      rw [l0]
      exact q111100000
    · refine s4 _ _ _ _ _ _ _ ?_
      rw [l4]
      exact q011110000
    · refine s6 _ _ _ _ _ _ _ _ _ ?_
      rw [l6]
      exact q011100100
  have q101000100 : wpAnyIn F n P .any ops Q (f + 6) (l true false true false false false true false false) (tm x0 undef x2 undef undef undef x6 undef undef) W := by
    refine I_all r101000100 (by simp) (fun j hj => ?_)
    rcases (by simpa using hj : j = 1 ∨ j = 3) with rfl | rfl
    · refine s1 _ _ _ _ _ _ _ _ _ ?_
      rw [l1]
      exact q111000100
    · refine s3 _ _ _ _ _ _ _ _ ?_
      rw [l3]
      exact q101100100
  have q101100000 : wpAnyIn F n P .any ops Q (f + 6) (l true false true true false false false false false) (tm x0 undef x2 x3 undef undef undef undef undef) W := by
    refine I_all r101100000 (by simp) (fun j hj => ?_)
    rcases (by simpa using hj : j = 1 ∨ j = 6) with rfl | rfl
    · refine s1 _ _ _ _ _ _ _ _ _ ?_
      rw [l1]
      exact q111100000
    · refine s6 _ _ _ _ _ _ _ _ _ ?_
      rw [l6]
      exact q101100100
  have q110000100 : wpAnyIn F n P .any ops Q (f + 6) (l true true false false false false true false false) (tm x0 x1 undef undef undef undef x6 undef undef) W := by
    refine I_all r110000100 (by simp) (fun j hj => ?_)
    obtain rfl : j = 2 := by simpa using hj
    refine s2 _ _ _ _ _ _ _ _ _ ?_
    rw [l2]
    exact q111000100
  have q111000000 : wpAnyIn F n P .any ops Q (f + 6) (l true true true false false false false false false) (tm x0 x1 x2 undef undef undef undef undef undef) W := by
    refine I_all r111000000 (by simp) (fun j hj => ?_)
    rcases (by simpa using hj : j = 3 ∨ j = 6) with rfl | rfl
    · refine s3 _ _ _ _ _ _ _ _ ?_
      rw [l3]
      exact q111100000
    · refine s6 _ _ _ _ _ _ _ _ _ ?_
      rw [l6]
      exact q111000100
  have q001000100 : wpAnyIn F n P .any ops Q (f + 7) (l false false true false false false true false false) (tm undef undef x2 undef undef undef x6 undef undef) W := by
    refine I_all r001000100 (by simp) (fun j hj => ?_)
    rcases (by simpa using hj : j = 0 ∨ j = 1 ∨ j = 3) with rfl | rfl | rfl
    · refine s0 _ _ _ _ _ _ _ _ _ ?_
      rw [l0]
      exact q101000100
    · refine s1 _ _ _ _ _ _ _ _ _ ?_
      rw [l1]
      exact q011000100
    · refine s3 _ _ _ _ _ _ _ _ ?_
      rw [l3]
      exact q001100100
  have q001100000 : wpAnyIn F n P .any ops Q (f + 7) (l false false true true false false false false false) (tm undef undef x2 x3 undef undef undef undef undef) W := by
    refine I_all r001100000 (by simp) (fun j hj => ?_)
    rcases (by simpa using hj : j = 0 ∨ j = 1 ∨ j = 6) with rfl | rfl | rfl
    · refine s0 _ _ _ _ _ _ _ _ _ ?_
      rw [l0]
      exact q101100000
    · refine s1 _ _ _ _ _ _ _ _ _ ?_
      rw [l1]
      exact q011100000
    · refine s6 _ _ _ _ _ _ _ _ _ ?_
      rw [l6]
      exact q001100100
  have q010000100 : wpAnyIn F n P .any ops Q (f + 7) (l false true false false false false true false false) (tm undef x1 undef undef undef undef x6 undef undef) W := by
    refine I_all r010000100 (by simp) (fun j hj => ?_)
    rcases (by simpa using hj : j = 0 ∨ j = 2) with rfl | rfl
    · refine s0 _ _ _ _ _ _ _ _ _ ?_
      rw [l0]
      exact q110000100
    · refine s2 _ _ _ _ _ _ _ _ _ ?_
      rw [l2]
      exact q011000100
  have q011000000 : wpAnyIn F n P .any ops Q (f + 7) (l false true true false false false false false false) (tm undef x1 x2 undef undef undef undef undef undef) W := by
    refine I_all r011000000 (by simp) (fun j hj => ?_)
    rcases (by simpa using hj : j = 0 ∨ j = 3 ∨ j = 6) with rfl | rfl | rfl
    · refine s0 _ _ _ _ _ _ _ _ _ ?_
      rw [l0]
      exact q111000000
    · refine s3 _ _ _ _ _ _ _ _ ?_
      rw [l3]
      exact q011100000
    · refine s6 _ _ _ _ _ _ _ _ _ ?_
      rw [l6]
      exact q011000100
  have q100000100 : wpAnyIn F n P .any ops Q (f + 7) (l true false false false false false true false false) (tm x0 undef undef undef undef undef x6 undef undef) W := by
    refine I_all r100000100 (by simp) (fun j hj => ?_)
    rcases (by simpa using hj : j = 1 ∨ j = 2) with rfl | rfl
    · refine s1 _ _ _ _ _ _ _ _ _ ?_
      rw [l1]
      exact q110000100
    · refine s2 _ _ _ _ _ _ _ _ _ ?_
      rw [l2]
      exact q101000100
  have q101000000 : wpAnyIn F n P .any ops Q (f + 7) (l true false true false false false false false false) (tm x0 undef x2 undef undef undef undef undef undef) W := by
    refine I_all r101000000 (by simp) (fun j hj => ?_)
    rcases (by simpa using hj : j = 1 ∨ j = 3 ∨ j = 6) with rfl | rfl | rfl
    · refine s1 _ _ _ _ _ _ _ _ _ ?_
      rw [l1]
      exact q111000000
    · refine s3 _ _ _ _ _ _ _ _ ?_
      rw [l3]
      exact q101100000
    · refine s6 _ _ _ _ _ _ _ _ _ ?_
      rw [l6]
      exact q101000100
  have q110000000 : wpAnyIn F n P .any ops Q (f + 7) (l true true false false false false false false false) (tm x0 x1 undef undef undef undef undef undef undef) W := by
    refine I_all r110000000 (by simp) (fun j hj => ?_)
    rcases (by simpa using hj : j = 2 ∨ j = 6) with rfl | rfl
    · refine s2 _ _ _ _ _ _ _ _ _ ?_
      rw [l2]
      exact q111000000
    · refine s6 _ _ _ _ _ _ _ _ _ ?_
      rw [l6]
      exact q110000100
  have q000000100 : wpAnyIn F n P .any ops Q (f + 8) (l false false false false false false true false false) (tm undef undef undef undef undef undef x6 undef undef) W := by
    refine I_all r000000100 (by simp) (fun j hj => ?_)
    rcases (by simpa using hj : j = 0 ∨ j = 1 ∨ j = 2) with rfl | rfl | rfl
    · refine s0 _ _ _ _ _ _ _ _ _ ?_
      rw [l0]
      exact q100000100
    · refine s1 _ _ _ _ _ _ _ _ _ ?_
      rw [l1]
      exact q010000100
    · refine s2 _ _ _ _ _ _ _ _ _ ?_
      rw [l2]
      exact q001000100
  have q001000000 : wpAnyIn F n P .any ops Q (f + 8) (l false false true false false false false false false) (tm undef undef x2 undef undef undef undef undef undef) W := by
    refine I_all r001000000 (by simp) (fun j hj => ?_)
    rcases (by simpa using hj : j = 0 ∨ j = 1 ∨ j = 3 ∨ j = 6) with rfl | rfl | rfl | rfl
    · refine s0 _ _ _ _ _ _ _ _ _ ?_
      rw [l0]
      exact q101000000
    · refine s1 _ _ _ _ _ _ _ _ _ ?_
      rw [l1]
      exact q011000000
    · refine s3 _ _ _ _ _ _ _ _ ?_
      rw [l3]
      exact q001100000
    · refine s6 _ _ _ _ _ _ _ _ _ ?_
      rw [l6]
      exact q001000100
  have q010000000 : wpAnyIn F n P .any ops Q (f + 8) (l false true false false false false false false false) (tm undef x1 undef undef undef undef undef undef undef) W := by
    refine I_all r010000000 (by simp) (fun j hj => ?_)
    rcases (by simpa using hj : j = 0 ∨ j = 2 ∨ j = 6) with rfl | rfl | rfl
    · refine s0 _ _ _ _ _ _ _ _ _ ?_
      rw [l0]
      exact q110000000
    · refine s2 _ _ _ _ _ _ _ _ _ ?_
      rw [l2]
      exact q011000000
    · refine s6 _ _ _ _ _ _ _ _ _ ?_
      rw [l6]
      exact q010000100
  have q100000000 : wpAnyIn F n P .any ops Q (f + 8) (l true false false false false false false false false) (tm x0 undef undef undef undef undef undef undef undef) W := by
    refine I_all r100000000 (by simp) (fun j hj => ?_)
    rcases (by simpa using hj : j = 1 ∨ j = 2 ∨ j = 6) with rfl | rfl | rfl
    · refine s1 _ _ _ _ _ _ _ _ _ ?_
      rw [l1]
      exact q110000000
    · refine s2 _ _ _ _ _ _ _ _ _ ?_
      rw [l2]
      exact q101000000
    · refine s6 _ _ _ _ _ _ _ _ _ ?_
      rw [l6]
      exact q100000100
  have q000000000 : wpAnyIn F n P .any ops Q (f + 9) (l false false false false false false false false false) (tm undef undef undef undef undef undef undef undef undef) W := by
    refine I_all r000000000 (by simp) (fun j hj => ?_)
    rcases (by simpa using hj : j = 0 ∨ j = 1 ∨ j = 2 ∨ j = 6) with rfl | rfl | rfl | rfl
    · refine s0 _ _ _ _ _ _ _ _ _ ?_
      rw [l0]
      exact q100000000
    · refine s1 _ _ _ _ _ _ _ _ _ ?_
      rw [l1]
      exact q010000000
    · refine s2 _ _ _ _ _ _ _ _ _ ?_
      rw [l2]
      exact q001000000
    · refine s6 _ _ _ _ _ _ _ _ _ ?_
      rw [l6]
      exact q000000100
  exact q000000000
end Go.Proofs.YtcfmpkolcelnlaaGreatDoor

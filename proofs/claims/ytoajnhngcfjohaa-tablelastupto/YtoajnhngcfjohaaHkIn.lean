/-
  A region inside a fence that draws its order: operations that come up alone, and many that only read. Written by mkquiet.py.
-/
import Derived.Test.YtoajnhngcfjohaaShaIn
import Derived.OrdersIn
namespace Go.Proofs.Ytoajnhngcfjohaa
open Go Go.RowKit

section
variable {F : Fence} {n : Nat} {P : Program} {ops : Array Oper} {Q : Exit → Act → World → Prop} {md : Region.Mode} {fuel : Nat} {listed : Array Bool} {a : Act} {w : World}
theorem I_all {rs : List Nat} (hr : Region.ready md ops listed = rs) (hne : rs ≠ [])
    (h : ∀ i ∈ rs, wpOpIn F n P ops Q i (wpAnyIn F n P md ops Q fuel (listed.setIfInBounds i true)) a w) : wpAnyIn F n P md ops Q (fuel + 1) listed a w :=
  ⟨fun h0 => absurd (hr ▸ h0) hne, hr ▸ h⟩
theorem I_one (i : Nat) (hr : Region.ready md ops listed = [i]) (h : wpOpIn F n P ops Q i (wpAnyIn F n P md ops Q fuel (listed.setIfInBounds i true)) a w) : wpAnyIn F n P md ops Q (fuel + 1) listed a w :=
  I_all hr (by simp) (fun j hj => by obtain rfl : j = i := by simpa using hj
                                     exact h)
theorem I_done (hr : Region.ready md ops listed = []) (h : Q .normal a w) : ∀ fuel, wpAnyIn F n P md ops Q fuel listed a w
  | 0 => ⟨hr, h⟩
  | _ + 1 => ⟨fun _ => h, by rw [hr]; simp⟩
theorem about_builtin {o : Oper} (b : Builtin) (args : Array Operand) (tys : Array TypeId) (ho : o.op = .call { callee := .builtin b, args := args, argTypes := tys }) : o.about P w a.eval = none := by
  unfold Oper.about
  simp only [ho, resolve, Sem.run_pure]
  rfl
theorem OI_value {o : Oper} {i : Nat} {K : Act → World → Prop} (hi : ops[i]? = some o) (hw : Region.wanted o (yielded ops a.tmps) = true) (hab : o.about P w a.eval = none) (hd : ∀ c, o.op ≠ .defer c) (v : Value) (w' : World)
    (he : (execOp a.eval o).run P w = .ok (.value v) w') (h : K (a.put o.dst v) w') : wpOpIn F n P ops Q i K a w := by
  unfold wpOpIn
  simp only [hi, hw, if_true]
  unfold Oper.wpIn
  refine ⟨fun f hf => (by rw [hab] at hf; cases hf), ?_⟩
  rw [Oper.semAt_eq _ _ _ hd, he]
  exact h
theorem OI_skip {o : Oper} {i : Nat} {K : Act → World → Prop} (hi : ops[i]? = some o) (hw : Region.wanted o (yielded ops a.tmps) = true) (hab : o.about P w a.eval = none) (hd : ∀ c, o.op ≠ .defer c) (w' : World)
    (he : (execOp a.eval o).run P w = .ok .skip w') (h : K (a.put o.dst undef) w') : wpOpIn F n P ops Q i K a w := by
  unfold wpOpIn
  simp only [hi, hw, if_true]
  unfold Oper.wpIn
  refine ⟨fun f hf => (by rw [hab] at hf; cases hf), ?_⟩
  rw [Oper.semAt_eq _ _ _ hd, he]
  exact h
theorem OI_call {o : Oper} {i : Nat} {K : Act → World → Prop} (hi : ops[i]? = some o) (hw : Region.wanted o (yielded ops a.tmps) = true) (hd : ∀ c, o.op ≠ .defer c) (f : Nat) (args : Array Value) (hab : ∀ g, o.about P w a.eval = some g → F.fn g)
    (he : (execOp a.eval o).run P w = .ok (.enter f args) w) (hn : 1 ≤ n) (hc : CallsIn F (n - 1) P f args w fun e w' => ∃ v, e = .returned v ∧ K (a.put o.dst v) w') : wpOpIn F n P ops Q i K a w := by
  unfold wpOpIn
  simp only [hi, hw, if_true]
  unfold Oper.wpIn
  refine ⟨hab, ?_⟩
  rw [Oper.semAt_eq _ _ _ hd, he]
  exact ⟨fun _ => hn, hc.mono (by rintro e w' ⟨v, rfl, h⟩; exact h)⟩
end

set_option maxHeartbeats 1000000 in
theorem quiet_told {F : Fence} {n : Nat} {P : Program} {ops : Array Oper} {Q : Exit → Act → World → Prop} {W : World} (tm : Value → Value → Value → Value → Value → Value → Value → Act) (l : Bool → Bool → Bool → Bool → Bool → Bool → Bool → Array Bool) (x0 x1 x2 x3 x4 x5 x6 : Value)
    (l0 : ∀ c1 c2 c3 c4 c5 c6, (l false c1 c2 c3 c4 c5 c6).setIfInBounds 0 true = l true c1 c2 c3 c4 c5 c6)
    (l1 : ∀ c0 c2 c3 c4 c5 c6, (l c0 false c2 c3 c4 c5 c6).setIfInBounds 1 true = l c0 true c2 c3 c4 c5 c6)
    (l2 : ∀ c0 c1 c3 c4 c5 c6, (l c0 c1 false c3 c4 c5 c6).setIfInBounds 2 true = l c0 c1 true c3 c4 c5 c6)
    (l3 : ∀ c0 c1 c2 c4 c5 c6, (l c0 c1 c2 false c4 c5 c6).setIfInBounds 3 true = l c0 c1 c2 true c4 c5 c6)
    (l4 : ∀ c0 c1 c2 c3 c5 c6, (l c0 c1 c2 c3 false c5 c6).setIfInBounds 4 true = l c0 c1 c2 c3 true c5 c6)
    (l5 : ∀ c0 c1 c2 c3 c4 c6, (l c0 c1 c2 c3 c4 false c6).setIfInBounds 5 true = l c0 c1 c2 c3 c4 true c6)
    (l6 : ∀ c0 c1 c2 c3 c4 c5, (l c0 c1 c2 c3 c4 c5 false).setIfInBounds 6 true = l c0 c1 c2 c3 c4 c5 true)
    (s0 : ∀ y1 y2 y3 y4 y5 y6 (K : Act → World → Prop), K (tm x0 y1 y2 y3 y4 y5 y6) W → wpOpIn F n P ops Q 0 K (tm undef y1 y2 y3 y4 y5 y6) W)
    (s1 : ∀ y0 y2 y3 y4 y5 y6 (K : Act → World → Prop), K (tm y0 x1 y2 y3 y4 y5 y6) W → wpOpIn F n P ops Q 1 K (tm y0 undef y2 y3 y4 y5 y6) W)
    (s2 : ∀ y0 y1 y3 y4 y5 y6 (K : Act → World → Prop), K (tm y0 y1 x2 y3 y4 y5 y6) W → wpOpIn F n P ops Q 2 K (tm y0 y1 undef y3 y4 y5 y6) W)
    (s3 : ∀ y0 y1 y4 y5 y6 (K : Act → World → Prop), K (tm y0 y1 x2 x3 y4 y5 y6) W → wpOpIn F n P ops Q 3 K (tm y0 y1 x2 undef y4 y5 y6) W)
    (s4 : ∀ y0 y2 y5 y6 (K : Act → World → Prop), K (tm y0 x1 y2 x3 x4 y5 y6) W → wpOpIn F n P ops Q 4 K (tm y0 x1 y2 x3 undef y5 y6) W)
    (s5 : ∀ y0 y1 y2 y3 y6 (K : Act → World → Prop), K (tm y0 y1 y2 y3 x4 x5 y6) W → wpOpIn F n P ops Q 5 K (tm y0 y1 y2 y3 x4 undef y6) W)
    (s6 : ∀ y0 y1 y2 y3 y4 (K : Act → World → Prop), K (tm y0 y1 y2 y3 y4 x5 x6) W → wpOpIn F n P ops Q 6 K (tm y0 y1 y2 y3 y4 x5 undef) W)
    (r0111111 : Region.ready .any ops (l false true true true true true true) = [0])
    (r1111110 : Region.ready .any ops (l true true true true true true false) = [6])
    (r0111110 : Region.ready .any ops (l false true true true true true false) = [0, 6])
    (r1111100 : Region.ready .any ops (l true true true true true false false) = [5])
    (r0111100 : Region.ready .any ops (l false true true true true false false) = [0, 5])
    (r1111000 : Region.ready .any ops (l true true true true false false false) = [4])
    (r0111000 : Region.ready .any ops (l false true true true false false false) = [0, 4])
    (r1011000 : Region.ready .any ops (l true false true true false false false) = [1])
    (r1110000 : Region.ready .any ops (l true true true false false false false) = [3])
    (r0011000 : Region.ready .any ops (l false false true true false false false) = [0, 1])
    (r0110000 : Region.ready .any ops (l false true true false false false false) = [0, 3])
    (r1010000 : Region.ready .any ops (l true false true false false false false) = [1, 3])
    (r1100000 : Region.ready .any ops (l true true false false false false false) = [2])
    (r0010000 : Region.ready .any ops (l false false true false false false false) = [0, 1, 3])
    (r0100000 : Region.ready .any ops (l false true false false false false false) = [0, 2])
    (r1000000 : Region.ready .any ops (l true false false false false false false) = [1, 2])
    (r0000000 : Region.ready .any ops (l false false false false false false false) = [0, 1, 2])
    (f : Nat) (hend : wpAnyIn F n P .any ops Q f (l true true true true true true true) (tm x0 x1 x2 x3 x4 x5 x6) W) : wpAnyIn F n P .any ops Q (f + 7) (l false false false false false false false) (tm undef undef undef undef undef undef undef) W := by
  have q1111111 := hend
  have q0111111 : wpAnyIn F n P .any ops Q (f + 1) (l false true true true true true true) (tm undef x1 x2 x3 x4 x5 x6) W := by
    refine I_all r0111111 (by simp) (fun j hj => ?_)
    obtain rfl : j = 0 := by simpa using hj
    refine s0 _ _ _ _ _ _ _ ?_
    rw [l0]
    exact q1111111
  have q1111110 : wpAnyIn F n P .any ops Q (f + 1) (l true true true true true true false) (tm x0 x1 x2 x3 x4 x5 undef) W := by
    refine I_all r1111110 (by simp) (fun j hj => ?_)
    obtain rfl : j = 6 := by simpa using hj
    refine s6 _ _ _ _ _ _ ?_
    rw [l6]
    exact q1111111
  have q0111110 : wpAnyIn F n P .any ops Q (f + 2) (l false true true true true true false) (tm undef x1 x2 x3 x4 x5 undef) W := by
    refine I_all r0111110 (by simp) (fun j hj => ?_)
    rcases (by simpa using hj : j = 0 ∨ j = 6) with rfl | rfl
    · refine s0 _ _ _ _ _ _ _ ?_
      rw [l0]
      exact q1111110
    · refine s6 _ _ _ _ _ _ ?_
      rw [l6]
      exact q0111111
  have q1111100 : wpAnyIn F n P .any ops Q (f + 2) (l true true true true true false false) (tm x0 x1 x2 x3 x4 undef undef) W := by
    refine I_all r1111100 (by simp) (fun j hj => ?_)
    obtain rfl : j = 5 := by simpa using hj
    refine s5 _ _ _ _ _ _ ?_
    rw [l5]
    exact q1111110
  have q0111100 : wpAnyIn F n P .any ops Q (f + 3) (l false true true true true false false) (tm undef x1 x2 x3 x4 undef undef) W := by
    refine I_all r0111100 (by simp) (fun j hj => ?_)
    rcases (by simpa using hj : j = 0 ∨ j = 5) with rfl | rfl
    · refine s0 _ _ _ _ _ _ _ ?_
      rw [l0]
      exact q1111100
    · refine s5 _ _ _ _ _ _ ?_
      rw [l5]
      exact q0111110
  have q1111000 : wpAnyIn F n P .any ops Q (f + 3) (l true true true true false false false) (tm x0 x1 x2 x3 undef undef undef) W := by
    refine I_all r1111000 (by simp) (fun j hj => ?_)
    obtain rfl : j = 4 := by simpa using hj
    refine s4 _ _ _ _ _ ?_
    rw [l4]
    exact q1111100
  have q0111000 : wpAnyIn F n P .any ops Q (f + 4) (l false true true true false false false) (tm undef x1 x2 x3 undef undef undef) W := by
    refine I_all r0111000 (by simp) (fun j hj => ?_)
    rcases (by simpa using hj : j = 0 ∨ j = 4) with rfl | rfl
    · refine s0 _ _ _ _ _ _ _ ?_
      rw [l0]
      exact q1111000
    · refine s4 _ _ _ _ _ ?_
      rw [l4]
      exact q0111100
  have q1011000 : wpAnyIn F n P .any ops Q (f + 4) (l true false true true false false false) (tm x0 undef x2 x3 undef undef undef) W := by
    refine I_all r1011000 (by simp) (fun j hj => ?_)
    obtain rfl : j = 1 := by simpa using hj
    refine s1 _ _ _ _ _ _ _ ?_
    rw [l1]
    exact q1111000
  have q1110000 : wpAnyIn F n P .any ops Q (f + 4) (l true true true false false false false) (tm x0 x1 x2 undef undef undef undef) W := by
    refine I_all r1110000 (by simp) (fun j hj => ?_)
    obtain rfl : j = 3 := by simpa using hj
    refine s3 _ _ _ _ _ _ ?_
    rw [l3]
    exact q1111000
  have q0011000 : wpAnyIn F n P .any ops Q (f + 5) (l false false true true false false false) (tm undef undef x2 x3 undef undef undef) W := by
    refine I_all r0011000 (by simp) (fun j hj => ?_)
    rcases (by simpa using hj : j = 0 ∨ j = 1) with rfl | rfl
    · refine s0 _ _ _ _ _ _ _ ?_
      rw [l0]
      exact q1011000
    · refine s1 _ _ _ _ _ _ _ ?_
      rw [l1]
      exact q0111000
  have q0110000 : wpAnyIn F n P .any ops Q (f + 5) (l false true true false false false false) (tm undef x1 x2 undef undef undef undef) W := by
    refine I_all r0110000 (by simp) (fun j hj => ?_)
    rcases (by simpa using hj : j = 0 ∨ j = 3) with rfl | rfl
    · refine s0 _ _ _ _ _ _ _ ?_
      rw [l0]
      exact q1110000
    · refine s3 _ _ _ _ _ _ ?_
      rw [l3]
      exact q0111000
  have q1010000 : wpAnyIn F n P .any ops Q (f + 5) (l true false true false false false false) (tm x0 undef x2 undef undef undef undef) W := by
    refine I_all r1010000 (by simp) (fun j hj => ?_)
    rcases (by simpa using hj : j = 1 ∨ j = 3) with rfl | rfl
    · refine s1 _ _ _ _ _ _ _ ?_
      rw [l1]
      exact q1110000
    · refine s3 _ _ _ _ _ _ ?_
      rw [l3]
      exact q1011000
  have q1100000 : wpAnyIn F n P .any ops Q (f + 5) (l true true false false false false false) (tm x0 x1 undef undef undef undef undef) W := by
    refine I_all r1100000 (by simp) (fun j hj => ?_)
    obtain rfl : j = 2 := by simpa using hj
    refine s2 _ _ _ _ _ _ _ ?_
    rw [l2]
    exact q1110000
  have q0010000 : wpAnyIn F n P .any ops Q (f + 6) (l false false true false false false false) (tm undef undef x2 undef undef undef undef) W := by
    refine I_all r0010000 (by simp) (fun j hj => ?_)
    rcases (by simpa using hj : j = 0 ∨ j = 1 ∨ j = 3) with rfl | rfl | rfl
    · refine s0 _ _ _ _ _ _ _ ?_
      rw [l0]
      exact q1010000
    · refine s1 _ _ _ _ _ _ _ ?_
      rw [l1]
      exact q0110000
    · refine s3 _ _ _ _ _ _ ?_
      rw [l3]
      exact q0011000
  have q0100000 : wpAnyIn F n P .any ops Q (f + 6) (l false true false false false false false) (tm undef x1 undef undef undef undef undef) W := by
    refine I_all r0100000 (by simp) (fun j hj => ?_)
    rcases (by simpa using hj : j = 0 ∨ j = 2) with rfl | rfl
    · refine s0 _ _ _ _ _ _ _ ?_
      rw [l0]
      exact q1100000
    · refine s2 _ _ _ _ _ _ _ ?_
      rw [l2]
      exact q0110000
  have q1000000 : wpAnyIn F n P .any ops Q (f + 6) (l true false false false false false false) (tm x0 undef undef undef undef undef undef) W := by
    refine I_all r1000000 (by simp) (fun j hj => ?_)
    rcases (by simpa using hj : j = 1 ∨ j = 2) with rfl | rfl
    · refine s1 _ _ _ _ _ _ _ ?_
      rw [l1]
      exact q1100000
    · refine s2 _ _ _ _ _ _ _ ?_
      rw [l2]
      exact q1010000
  have q0000000 : wpAnyIn F n P .any ops Q (f + 7) (l false false false false false false false) (tm undef undef undef undef undef undef undef) W := by
    refine I_all r0000000 (by simp) (fun j hj => ?_)
    rcases (by simpa using hj : j = 0 ∨ j = 1 ∨ j = 2) with rfl | rfl | rfl
    · refine s0 _ _ _ _ _ _ _ ?_
      rw [l0]
      exact q1000000
    · refine s1 _ _ _ _ _ _ _ ?_
      rw [l1]
      exact q0100000
    · refine s2 _ _ _ _ _ _ _ ?_
      rw [l2]
      exact q0010000
  exact q0000000
end Go.Proofs.Ytoajnhngcfjohaa

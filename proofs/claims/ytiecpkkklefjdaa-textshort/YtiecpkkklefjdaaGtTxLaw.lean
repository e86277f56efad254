/-
  What text.Put and text.Get answer, in one word each; Beyond of two.
-/
import Derived.Test.YtiecpkkklefjdaaGtTxGet
namespace Go.Proofs.Ytiecpkkklefjdaa
open Go Go.RowKit

/-- What Put answers, as a slice. -/
theorem xput_sl (first B M : Int) (s : ByteArray) (w : World) (h : Tx.Bt B M) (f0 : 0 ≤ first) (f1 : first ≤ 255) (hf : first % (2 * M + 2) = 0) (hs : s.size ≤ 65536) :
    Calls Try.prog 14 #[.int .u8 first, .int .i64 B, .string s] w fun e w' => ∃ p : SL, e = .returned (.tuple #[.slice p.a p.len p.cap, .int .i64 0]) ∧ p.Ok w' ∧ p.b = Tx.putX first M (bOf s) ∧ p.len = (Tx.putX first M (bOf s)).length ∧ w'.ownsRow w.heap.size 5 1 (.slice p.a p.len p.cap) p.len (vb p.b) ∧ Below w.heap.size w w' := by
  refine (xput_any first B M s w h f0 f1 hf hs).mono ?_
  rintro e w' ⟨v, rfl, ho, hb⟩
  obtain ⟨p, h1, h2, h3, h4, _⟩ := SL.of_own ho
  have h1' : Value.slice p.a p.len p.cap = v := h1
  subst h1'
  exact ⟨p, rfl, h4, h3, h2, by rw [h3, h2]; rw [h2] at ho; exact ho, hb⟩
/-- It may be put, or it is refused. -/
theorem xput_cases (first B : Int) (s : ByteArray) (f0 : 0 ≤ first) (f1 : first ≤ 255) (hs : s.size ≤ 9223372036854775807) : (∃ M, Tx.Bt B M ∧ first % (2 * M + 2) = 0 ∧ s.size ≤ 65536) ∨
    ∃ E : Int, (E = 1 ∨ E = 3 ∧ 65536 < s.size) ∧ ∀ w, Calls Try.prog 14 #[.int .u8 first, .int .i64 B, .string s] w fun e w' => e = .returned (.tuple #[.slice none 0 0, .int .i64 E]) ∧ Below w.heap.size w w' := by
  by_cases hb : 2 ≤ B ∧ B ≤ 8
  · obtain ⟨M, hM⟩ := Tx.Bt.of B hb.1 hb.2
    by_cases hf : first % (2 * M + 2) = 0
    · by_cases hl : s.size ≤ 65536
      · exact .inl ⟨M, hM, hf, hl⟩
      · exact .inr ⟨3, .inr ⟨rfl, by omega⟩, fun w => xput_limit first B M s w hM f0 f1 hf (by omega) hs⟩
    · exact .inr ⟨1, .inl rfl, fun w => xput_first first B M s w hM f0 f1 hf⟩
  · exact .inr ⟨1, .inl rfl, fun w => xput_bits first B s w (by omega)⟩

set_option maxRecDepth 20000 in
set_option maxHeartbeats 1000000 in
theorem beyond_pair (w : World) (N M : Nat) (hN : N ≤ 9223372036854775807) (hM : M ≤ 140737488355328) : Calls Try.prog 8 #[.slice (some ⟨w.heap.size, 0, none⟩) 2 2] (w.alloc (.cells #[.int .i64 (N : Int), .int .i64 (M : Int)] 3)) fun e w' => e = .returned (.bool (decide (1048576 < N + M))) ∧ Below w.heap.size w w' := by
  have r : Row (w.alloc (.cells #[.int .i64 (N : Int), .int .i64 (M : Int)] 3)) w.heap.size 3 #[.int .i64 (N : Int), .int .i64 (M : Int)] := Row.new _ _ _
  have c0 : (w.alloc (.cells #[.int .i64 (N : Int), .int .i64 (M : Int)] 3)).cell? ⟨w.heap.size, 0, none⟩ = some (.int .i64 (N : Int)) := r.cell 0
  have c1 : (w.alloc (.cells #[.int .i64 (N : Int), .int .i64 (M : Int)] 3)).cell? ⟨w.heap.size, 1, none⟩ = some (.int .i64 (M : Int)) := r.cell 1
  have HB := veil (show Below w.heap.size w (w.alloc (.cells #[.int .i64 (N : Int), .int .i64 (M : Int)] 3)) from (Below.refl _ w).alloc (Nat.le_refl _) _)
  clear r
  generalize (w.alloc (.cells #[.int .i64 (N : Int), .int .i64 (M : Int)] 3)) = w0 at *
  generalize w.heap.size = g at *
  have hw0 : IntKind.i64.wrap (N : Int) = (N : Int) := by rw [IntKind.wrap_i64]; omega
  by_cases h1 : 1048576 < N
  · have d1 : decide ((1048576 : Int) < (N : Int)) = true := decide_eq_true (by omega)
    have HD := veil (show decide (1048576 < N + M) = true from decide_eq_true (by omega))
    go_enter Try.func8, Try.ntmps8
    go_wp2
    refine wp_loop_rounds 1 ?_
    rw [rounds_succ]
    go_wp2
    go_ret
    exact ⟨by rw [HD.out]; rfl, HB.out⟩
  · have d1 : decide ((1048576 : Int) < (N : Int)) = false := decide_eq_false (by omega)
    have hw1 : IntKind.i64.wrap ((N : Int) + (M : Int)) = (N : Int) + (M : Int) := by rw [IntKind.wrap_i64]; omega
    by_cases h2 : 1048576 < N + M
    · have d2 : decide ((1048576 : Int) < (N : Int) + (M : Int)) = true := decide_eq_true (by omega)
      have HD := veil (show decide (1048576 < N + M) = true from decide_eq_true (by omega))
      go_enter Try.func8, Try.ntmps8
      go_wp2
      refine wp_loop_rounds 2 ?_
      rw [rounds_succ]
      go_wp2
      rw [rounds_succ]
      go_wp2
      go_ret
      exact ⟨by rw [HD.out]; rfl, HB.out⟩
    · have d2 : decide ((1048576 : Int) < (N : Int) + (M : Int)) = false := decide_eq_false (by omega)
      have HD := veil (show decide (1048576 < N + M) = false from decide_eq_false (by omega))
      go_enter Try.func8, Try.ntmps8
      go_wp2
      refine wp_loop_rounds 3 ?_
      rw [rounds_succ]
      go_wp2
      rw [rounds_succ]
      go_wp2
      rw [rounds_succ]
      go_wp2
      go_ret
      exact ⟨by rw [HD.out]; rfl, HB.out⟩
end Go.Proofs.Ytiecpkkklefjdaa

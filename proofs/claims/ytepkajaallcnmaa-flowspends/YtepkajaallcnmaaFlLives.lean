/-
  The law's mark: what the chapter's credit answers.
-/
import Derived.Test.YtepkajaallcnmaaFlRaise
import Derived.Test.YtepkajaallcnmaaFlOffer
namespace Go.Proofs.Ytepkajaallcnmaa
open Go Go.RowKit

theorem spend_v1 (w : World) : Calls Try.prog 8 #[.agg #[.int .u64 10, .int .u64 3], .int .u64 7] w fun e w' => e = .returned (.tuple #[.agg #[.int .u64 10, .int .u64 10], .int .i64 0]) ∧ Below w.heap.size w w' := spend_any 10 3 7 w (by decide)
theorem spend_v2 (w : World) : Calls Try.prog 8 #[.agg #[.int .u64 10, .int .u64 3], .int .u64 8] w fun e w' => e = .returned (.tuple #[.agg #[.int .u64 0, .int .u64 0], .int .i64 7]) ∧ Below w.heap.size w w' := spend_any 10 3 8 w (by decide)
theorem offer_v1 (w : World) : Calls Try.prog 11 #[.agg #[.int .u64 10, .int .u64 3], .int .u64 5, .int .u64 10] w fun e w' => e = .returned (.tuple #[.int .u64 15, .bool true]) ∧ Below w.heap.size w w' := offer_any 10 3 5 10 w (by decide) (by decide)
theorem offer_v2 (w : World) : Calls Try.prog 11 #[.agg #[.int .u64 10, .int .u64 3], .int .u64 4, .int .u64 10] w fun e w' => e = .returned (.tuple #[.int .u64 0, .bool false]) ∧ Below w.heap.size w w' := offer_any 10 3 4 10 w (by decide) (by decide)
theorem left_v (w : World) : Calls Try.prog 17 #[.agg #[.int .u64 3, .int .u64 10]] w fun e w' => e = .returned (.int .u64 0) ∧ Below w.heap.size w w' := left_any 3 10 w

set_option maxRecDepth 20000 in
set_option maxHeartbeats 1000000 in
theorem lives_any (w : World) : Calls Try.prog 19 #[] w fun e w' => e = .returned (.bool true) ∧ Below w.heap.size w w' := by
  go_enter Try.func19, Try.ntmps19
  go_wp2_with fail
  refine (spend_v1 w).mono ?_
  rintro e1 w1 ⟨rfl, hb1⟩
  have B1 := veil hb1
  clear hb1
  go_wp2_with fail
  have b2 := B1.out.alloc B1.out.size (.cells #[.int .u64 10, .int .u64 10] 24)
  have r2 : Row (w1.alloc (.cells #[.int .u64 10, .int .u64 10] 24)) w1.heap.size 24 #[.int .u64 10, .int .u64 10] := Row.new _ _ _
  have hg : w1.heap.size < (w1.alloc (.cells #[.int .u64 10, .int .u64 10] 24)).heap.size := by simp
  generalize w1.alloc (.cells #[.int .u64 10, .int .u64 10] 24) = w2 at *
  generalize w1.heap.size = g at *
  refine (spend_v2 w2).mono ?_
  rintro e3 w3 ⟨rfl, hb3⟩
  have B3 := veil (b2.trans (hb3.mono b2.size))
  have R3 := veil (r2.below hb3 hg)
  clear b2 r2 hb3 hg B1
  go_wp2_with fail
  have b4 := B3.out.alloc B3.out.size (.cells #[.int .u64 0, .int .u64 0] 24)
  have r4 := R3.out.alloc (.cells #[.int .u64 0, .int .u64 0] 24)
  generalize w3.alloc (.cells #[.int .u64 0, .int .u64 0] 24) = w4 at *
  generalize w3.heap.size = g3 at *
  refine (offer_v1 w4).mono ?_
  rintro e5 w5 ⟨rfl, hb5⟩
  have B5 := veil (b4.trans (hb5.mono b4.size))
  have R5 := veil (r4.below hb5 r4.lt)
  clear b4 r4 hb5 B3 R3
  go_wp2_with fail
  refine (offer_v2 w5).mono ?_
  rintro e6 w6 ⟨rfl, hb6⟩
  have B6 := veil (B5.out.trans (hb6.mono B5.out.size))
  have r6 := R5.out.below hb6 R5.out.lt
  have c0 : w6.cell? ⟨g, 0, none⟩ = some (.int .u64 10) := r6.cell 0
  have c1 : w6.cell? ⟨g, 1, none⟩ = some (.int .u64 10) := r6.cell 1
  clear r6 B5 R5 hb6
  go_wp2_with fail
  refine (left_v w6).mono ?_
  rintro e7 w7 ⟨rfl, hb7⟩
  have B7 := veil (B6.out.trans (hb7.mono B6.out.size))
  clear hb7 B6 c0 c1
  go_wp2_with fail
  go_ret
  exact ⟨rfl, B7.out⟩
end Go.Proofs.Ytepkajaallcnmaa

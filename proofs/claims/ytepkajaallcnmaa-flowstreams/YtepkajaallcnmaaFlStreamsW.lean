/-
  FlowStreams: the walk.
-/
import Derived.Test.YtepkajaallcnmaaFlLives
import Derived.Test.YtepkajaallcnmaaFlIds
namespace Go.Proofs.Ytepkajaallcnmaa
open Go Go.RowKit

set_option maxRecDepth 20000 in
set_option maxHeartbeats 1000000 in
theorem streams_walk (x : Nat) (s o : Bool) (w : World) (hx : x < 18446744073709551616) :
    Calls Try.prog 4 #[.int .u64 (x : Int), .bool s, .bool o] w fun e w' => e = .returned (.bool true) ∧ Below w.heap.size w w' := by
  have A1 := veil (fun w => stream_any x w hx)
  have A2 := veil (fun w => refStream_any x w hx)
  have A3 := veil (fun w => id_any s o x w hx)
  have A4 := veil (fun w => refId_any s o x w hx)
  generalize b0 x = c0 at *
  generalize b1 x = c1 at *
  generalize x / 4 = q at *
  generalize idN s o x = i at *
  generalize idE x = E at *
  clear hx
  go_enter Try.func4, Try.ntmps4
  go_wp2_with fail
  refine (A1.out _).mono ?_
  rintro e1 w1 ⟨rfl, hw⟩
  obtain rfl := hw.symm
  clear A1
  go_wp2_with fail
  refine (A2.out _).mono ?_
  rintro e2 w2 ⟨rfl, hw⟩
  obtain rfl := hw.symm
  clear A2
  go_wp2_with fail
  refine (A3.out _).mono ?_
  rintro e3 w3 ⟨rfl, hw⟩
  obtain rfl := hw.symm
  clear A3
  go_wp2_with fail
  refine (A4.out _).mono ?_
  rintro e4 w4 ⟨rfl, hw⟩
  obtain rfl := hw.symm
  clear A4
  go_wp2_with fail
  refine (lives_any _).mono ?_
  rintro e5 w5 ⟨rfl, hb5⟩
  have B5 := veil hb5
  clear hb5
  go_wp2_with fail
  go_ret
  exact ⟨rfl, B5.out⟩
end Go.Proofs.Ytepkajaallcnmaa

/-
  Numbers that came in.
-/
import Derived.Test.YtoajnhngcfjohaaGq1
namespace Go.Proofs.Ytoajnhngcfjohaa
open Go Go.ChangeShapes Go.WideShapes Go.ChangeAt Go.RowKit

set_option maxRecDepth 100000
section
variable {H : Type} {enc : TypeId × Value → H} {W : World} {base : Nat} {v : Value} {d : DataW H} {ps : List MemPlace}
theorem open_i64t (hval : Value.okWide Try.prog W .any base 3 v) (h0 : DataW.Trod enc Try.prog W 0 (fun _ => true) true 3 v d ps) : ∃ z : Int, v = .int .i64 z ∧ -9223372036854775808 ≤ z ∧ z < 9223372036854775808 := by
  obtain ⟨a, rfl, _, _, hw⟩ := open_int Try.underlying3 hval h0
  have hb := bounds_i64 hw
  exact ⟨a, rfl, hb.1, by omega⟩
end
end Go.Proofs.Ytoajnhngcfjohaa

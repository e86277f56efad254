/-
  Numbers and bools that came in.
-/
import Derived.Test.YtmekhhabkljffaaChaLift
namespace Go.Proofs.Ytmekhhabkljffaa
open Go Go.ChangeShapes Go.WideShapes Go.ChangeAt Go.RowKit

section
variable {H : Type} {enc : TypeId × Value → H} {W : World} {base : Nat} {v : Value} {d : DataW H} {ps : List MemPlace}
theorem open_u16 (hval : Value.okWide Try.prog W .any base 30 v) (h0 : DataW.Trod enc Try.prog W 0 (fun _ => true) true 30 v d ps) : ∃ n : Nat, v = .int .u16 (n : Int) ∧ n < 65536 := by
  obtain ⟨a, rfl, _, _, hw⟩ := open_int Try.underlying30 hval h0
  have hb := bounds_u16 hw
  exact ⟨a.toNat, by rw [Int.toNat_of_nonneg hb.1], by omega⟩
theorem open_b (hval : Value.okWide Try.prog W .any base 4 v) (h0 : DataW.Trod enc Try.prog W 0 (fun _ => true) true 4 v d ps) : ∃ b : Bool, v = .bool b := by
  obtain ⟨b, rfl, _, _⟩ := open_bool Try.underlying4 hval h0
  exact ⟨b, rfl⟩
end
end Go.Proofs.Ytmekhhabkljffaa

/-
  Numbers that came in.
-/
import Derived.Test.YtohoieleakieeaaGeLgRow
import Derived.Test.YtohoieleakieeaaGeShaLiftA
import Derived.SizedLaws
import Derived.OpenShut
namespace Go.Proofs.Ytohoieleakieeaa
open Go Go.ChangeShapes Go.WideShapes Go.ChangeAt Go.RowKit

section
variable {H : Type} {enc : TypeId × Value → H} {W : World} {base : Nat} {v : Value} {d : DataW H} {ps : List MemPlace}
set_option maxRecDepth 20000 in
theorem open_u16 (hval : Value.okWide Try.prog W .any base 40 v) (h0 : DataW.Trod enc Try.prog W 0 (fun _ => true) true 40 v d ps) : ∃ n : Nat, v = .int .u16 (n : Int) ∧ n < 65536 := by
  obtain ⟨a, rfl, _, _, hw⟩ := open_int Try.underlying40 hval h0
  have hb := bounds_u16 hw
  exact ⟨a.toNat, by rw [Int.toNat_of_nonneg hb.1], by omega⟩
set_option maxRecDepth 20000 in
theorem open_u8 (hval : Value.okWide Try.prog W .any base 5 v) (h0 : DataW.Trod enc Try.prog W 0 (fun _ => true) true 5 v d ps) : ∃ n : Nat, v = .int .u8 (n : Int) ∧ n < 256 := by
  obtain ⟨a, rfl, _, _, hw⟩ := open_int Try.underlying5 hval h0
  have hb := bounds_u8 hw
  exact ⟨a.toNat, by rw [Int.toNat_of_nonneg hb.1], by omega⟩
end
end Go.Proofs.Ytohoieleakieeaa

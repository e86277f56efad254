/-
  Texts and bytes that came in.
-/
import Derived.Test.YtdieodhfkmnbcaaGreatDoorGpChaLift
import Derived.ChangeMaps5
namespace Go.Proofs.YtdieodhfkmnbcaaGreatDoor
open Go Go.ChangeShapes Go.WideShapes Go.ChangeAt Go.RowKit

set_option maxRecDepth 100000
section
variable {H : Type} {enc : TypeId × Value → H} {W : World} {base : Nat} {v : Value} {d : DataW H} {ps : List MemPlace}
theorem open_u8 (hval : Value.okWide Tryz.prog W .any base 5 v) (h0 : DataW.Trod enc Tryz.prog W 0 (fun _ => true) true 5 v d ps) : ∃ n : Nat, v = .int .u8 (n : Int) ∧ n < 256 := by
  obtain ⟨a, rfl, _, _, hw⟩ := open_int Tryz.underlying5 hval h0
  have hb := bounds_u8 hw
  exact ⟨a.toNat, by rw [Int.toNat_of_nonneg hb.1], by omega⟩
theorem open_str (hval : Value.okWide Tryz.prog W .any base 9 v) (h0 : DataW.Trod enc Tryz.prog W 0 (fun _ => true) true 9 v d ps) : ∃ s : ByteArray, v = .string s ∧ s.size ≤ 9223372036854775807 := by
  obtain ⟨s, rfl, _, _, hs⟩ := ChangeMaps.open_string Tryz.underlying9 hval h0
  exact ⟨s, rfl, hs⟩
end
end Go.Proofs.YtdieodhfkmnbcaaGreatDoor

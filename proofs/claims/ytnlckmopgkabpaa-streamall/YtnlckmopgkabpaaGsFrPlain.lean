/-
  Frames as bytes, on lists: what was put is got; what was got may be put; what is cut off is short. No program in sight.
-/
import Derived.Test.YtnlckmopgkabpaaGs1
namespace Go.Proofs.Ytnlckmopgkabpaa.Fr
open Go

/-! ### Numbers -/
/-! ### Reading -/
def R (α : Type) : Type := List By → Except Nat (α × List By)
/-! ### Frames -/
structure Frame where
  kind : Nat
  stream : Nat
  offset : Nat
  limit : Nat
  code : Nat
  fin : Bool
  data : List By
  ranges : List (Nat × Nat)
def f0 : Frame := ⟨0, 0, 0, 0, 0, false, [], []⟩
/-! ### What was put is got -/
/-! ### All frames -/
def more (f : Frame) : Frame := { f with limit := f.limit + 1 }
/-! What is read gets less. -/
/-! What was put is got. -/
/-! ### What was got may be put -/
/-! ### The last byte is missing -/
/-! ### An answer -/
end Go.Proofs.Ytnlckmopgkabpaa.Fr

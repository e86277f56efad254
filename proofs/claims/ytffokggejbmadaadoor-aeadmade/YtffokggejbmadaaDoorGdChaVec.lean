/-
  Bytes that the document fixes: no program in sight.
-/
import Derived.Test.YtffokggejbmadaaDoorGd2
namespace Go.Proofs.YtffokggejbmadaaDoor
open Go

def twoS (s : List Wd) : Nat → List Wd
  | 0 => s
  | k + 1 => quart (twoS s k) (qi k 0) (qi k 1) (qi k 2) (qi k 3)
theorem twoS_eq (s : List Wd) : ∀ k, twoTo s k = twoS s k
  | 0 => twoTo_zero s
  | k + 1 => by rw [twoTo_succ, twoS, twoS_eq s k]
def roundsS (s : List Wd) : Nat → List Wd
  | 0 => s
  | k + 1 => twoS (roundsS s k) 8
theorem roundsS_eq (s : List Wd) : ∀ k, roundsL s k = roundsS s k
  | 0 => roundsL_zero s
  | k + 1 => by rw [roundsL_succ, twoL, twoS_eq, roundsS, roundsS_eq s k]
def kZ : List By := List.replicate 32 0
def nZ : List By := List.replicate 12 0
def kU : List By := (List.range 32).map fun i => BitVec.ofNat 8 i
def nU : List By := [0, 0, 0, 9, 0, 0, 0, 74, 0, 0, 0, 0]
def endS (key : List By) (count : Wd) (nonce : List By) : List Wd := sumL16 (roundsS (stateL key count nonce) 10) (stateL key count nonce)
theorem blockL_S (key : List By) (count : Wd) (nonce : List By) : blockL key count nonce = bytesL (endS key count nonce) := by
  unfold blockL endS
  rw [roundsS_eq]
set_option maxRecDepth 100000 in
theorem endZ : gw (endS kZ 0#32 nZ) 0 = 2917185654#32 ∧ gw (endS kZ 0#32 nZ) 1 = 2419978656#32 := by decide +kernel
set_option maxRecDepth 100000 in
theorem endU : gw (endS kU 1#32 nU) 15 = 1312575650#32 := by decide +kernel
end Go.Proofs.YtffokggejbmadaaDoor

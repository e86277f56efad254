/-
  Keys and tags, on lists: no program in sight.
-/
import Derived.Test.YtholddbmnlnkkaaPlAlive
namespace Go.Proofs.Ytholddbmnlnkkaa
open Go Go.RowKit

def nilS : SL := ⟨none, 0, 0, 0, 0, []⟩
theorem nilS_ok (w : World) : nilS.Ok w := ⟨rfl, Nat.le_refl _, fun _ => ⟨rfl, rfl⟩, fun h => absurd h (Nat.lt_irrefl _), fun h => absurd h (Nat.lt_irrefl _), fun _ h => absurd h (Nat.not_lt_zero _)⟩
theorem rN_congr {key bare : List By} (h : ∀ i, i < 16 → gb bare i = gb key i) : rN bare = rN key := by
  unfold rN
  refine leK_congr 16 (fun i hi => ?_)
  rw [clL_get _ _ hi, clL_get _ _ hi]
  unfold clB
  rw [h i hi]
theorem sN_of {key half : List By} (hk : key.length = 32) (h : ∀ i, i < 16 → gb half i = gb key (16 + i)) : sN key = leK half 16 := by
  unfold sN leN
  rw [show ((key.drop 16).take 16).length = 16 by rw [List.length_take, List.length_drop, hk]; rfl]
  refine leK_congr 16 (fun i hi => ?_)
  rw [gb_cut _ _ _ _ hi, h i hi]
theorem leK_zeros (k : Nat) (b : List By) (h : ∀ i, i < k → gb b i = 0) : leK b k = 0 := by
  induction k with
  | zero => rfl
  | succ k ih =>
    rw [show leK b (k + 1) = leK b k + (gb b k).toNat * 256 ^ k from rfl, ih (fun i hi => h i (by omega)), h k (by omega)]
    simp
theorem sN_zero {bare : List By} (hk : bare.length = 32) (h : ∀ i, i < 16 → gb bare (16 + i) = 0) : sN bare = 0 := by
  unfold sN leN
  rw [show ((bare.drop 16).take 16).length = 16 by rw [List.length_take, List.length_drop, hk]; rfl]
  exact leK_zeros 16 _ (fun i hi => by rw [gb_cut _ _ _ _ hi, h i hi])
end Go.Proofs.Ytholddbmnlnkkaa

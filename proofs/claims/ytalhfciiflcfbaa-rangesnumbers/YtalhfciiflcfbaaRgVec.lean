/-
  Some sets, spelled. No program in sight.
-/
import Derived.Test.YtalhfciiflcfbaaRgLaws
namespace Go.Proofs.Ytalhfciiflcfbaa.Rg
open Go Fr

theorem vec_add {a : List (Nat × Nat)} {e : Int} (h : Comb orB [(1, 3), (7, 9)] [(4, 6)] a e) : a = [(1, 9)] ∧ e = 0 :=
  comb_unique h (comb_same ⟨by decide, by decide, by decide, by decide, by decide, by decide⟩ ⟨by decide, by decide, by decide⟩ ⟨by decide, by decide, by decide⟩ fun n => by
    rw [Bool.eq_iff_iff]; simp [hasL, orB]; omega)
theorem vec_cut {a : List (Nat × Nat)} {e : Int} (h : Comb butB [(1, 9)] [(4, 6)] a e) : a = [(1, 3), (7, 9)] ∧ e = 0 :=
  comb_unique h (comb_same ⟨by decide, by decide, by decide⟩ ⟨by decide, by decide, by decide⟩ ⟨by decide, by decide, by decide, by decide, by decide, by decide⟩ fun n => by
    rw [Bool.eq_iff_iff]; simp [hasL, butB]; omega)
theorem vec_meet {a : List (Nat × Nat)} {e : Int} (h : Comb andB [(1, 5), (8, 9)] [(4, 8)] a e) : a = [(4, 5), (8, 8)] ∧ e = 0 :=
  comb_unique h (comb_same ⟨by decide, by decide, by decide, by decide, by decide, by decide⟩ ⟨by decide, by decide, by decide⟩ ⟨by decide, by decide, by decide, by decide, by decide, by decide⟩ fun n => by
    rw [Bool.eq_iff_iff]; simp [hasL, andB]; omega)
theorem vec_no {a : List (Nat × Nat)} {e : Int} (h : Comb orB [] [(2, 1)] a e) : e = 1 := (comb_err h).2.1.2 fun y => absurd y.2.2.1 (by decide)
theorem vec_set : setOk [(1, 3), (7, 9)] := ⟨by decide, by decide, by decide, by decide, by decide, by decide⟩
theorem vec_none : ¬ setOk [(1, 3), (4, 5)] := fun h => absurd h.2.2.2.1 (by decide)
end Go.Proofs.Ytalhfciiflcfbaa.Rg

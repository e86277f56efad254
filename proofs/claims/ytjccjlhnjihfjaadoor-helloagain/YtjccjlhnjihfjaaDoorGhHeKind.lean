/-
  Which kinds of greetings there are, and what they have.
-/
import Derived.Test.YtjccjlhnjihfjaaDoorGhHeCells
import Derived.Test.YtjccjlhnjihfjaaDoorGh9
import Derived.Test.YtjccjlhnjihfjaaDoorGh11
import Derived.WalkKit
namespace Go.Proofs.YtjccjlhnjihfjaaDoor
open Go Go.RowKit

theorem v8_beq (k c : By) : (k == c) = (v8 k == v8 c) := by
  by_cases h : k = c
  · subst h; simp
  · rw [beq_eq_false_iff_ne.2 h]
    exact (beq_eq_false_iff_ne.2 fun e => h (v8_inj e)).symm
theorem opn_v8 (k : By) : He.opn k = ((v8 k == 1) || (v8 k == 2)) := by
  unfold He.opn
  rw [v8_beq, v8_beq]
  rfl
theorem prv_v8 (k : By) : He.prv k = ((v8 k == 2) || (v8 k == 3)) := by
  unfold He.prv
  rw [v8_beq, v8_beq]
  rfl
theorem opens_any (k : By) (w : World) : Calls Tryd.prog 24 #[.int .u8 (v8 k)] w fun e w' => e = .returned (.bool (He.opn k)) ∧ w' = w := by
  have e := opn_v8 k
  cases h1 : (v8 k == 1) <;> cases h2 : (v8 k == 2) <;> rw [h1, h2] at e <;> rw [e] <;> clear e
  all_goals
    go_enter Tryd.func24, Tryd.ntmps24
    go_wp2_with fail
    go_ret
    exact ⟨rfl, rfl⟩
theorem proves_any (k : By) (w : World) : Calls Tryd.prog 26 #[.int .u8 (v8 k)] w fun e w' => e = .returned (.bool (He.prv k)) ∧ w' = w := by
  have e := prv_v8 k
  cases h1 : (v8 k == 2) <;> cases h2 : (v8 k == 3) <;> rw [h1, h2] at e <;> rw [e] <;> clear e
  all_goals
    go_enter Tryd.func26, Tryd.ntmps26
    go_wp2_with fail
    go_ret
    exact ⟨rfl, rfl⟩
theorem isKind_any (k : By) (w : World) : Calls Tryd.prog 21 #[.int .u8 (v8 k)] w fun e w' => e = .returned (.bool (He.isK k)) ∧ w' = w := by
  have HO := opens_any k w
  have HP := proves_any k w
  unfold He.isK
  cases h1 : He.opn k <;> cases h2 : He.prv k <;> rw [h1] at HO <;> rw [h2] at HP
  all_goals
    have H1 := veil HO
    have H2 := veil HP
    clear HO HP h1 h2
    go_enter Tryd.func21, Tryd.ntmps21
    go_wp2_with fail
    refine H1.out.mono ?_
    rintro e1 w1 ⟨rfl, hw1⟩
    obtain rfl := hw1.symm
    go_wp2_with fail
  · refine H2.out.mono ?_
    rintro e2 w2 ⟨rfl, hw2⟩
    obtain rfl := hw2.symm
    go_wp2_with fail
    go_ret
    exact ⟨rfl, rfl⟩
  · refine H2.out.mono ?_
    rintro e2 w2 ⟨rfl, hw2⟩
    obtain rfl := hw2.symm
    go_wp2_with fail
    go_ret
    exact ⟨rfl, rfl⟩
  · go_ret
    exact ⟨rfl, rfl⟩
  · go_ret
    exact ⟨rfl, rfl⟩
end Go.Proofs.YtjccjlhnjihfjaaDoor

/-
  The fixed fields of the program: the same as the document's.
-/
import Derived.Test.YtoajnhngcfjohaaGq4
import Derived.Test.YtoajnhngcfjohaaGq1
namespace Go.Proofs.Ytoajnhngcfjohaa
open Go Go.RowKit

namespace Tb
theorem fixF_len : (fds fixL).toArray.size = 198 := by
  rw [List.size_toArray, fds_length, fixL_length]
theorem result_arr {P : Program} {fn : Func} {p : Tmp} {ty : TypeId} (h : fn.results = #[.cell p ty]) (tmps : Array Value) (w : World) (g : Nat) (t : TypeId) (cs : Array Value) (hg : Row w g t cs) (n m : Nat) (e : TypeId)
    (hp : tmps.getD p undef = .pointer (some ⟨g, 0, none⟩)) (hu : P.underlying ty = some (.array n e)) (hi : (P.info? ty).map (·.size) = some m) (hc : cs.size = m) :
    (results fn tmps).run P w = .ok (.agg cs) w :=
  results_cell_row h tmps w g t cs (0, 0) _ hp hg hu rfl (by rw [hc]; exact hi)
set_option maxRecDepth 100000 in
set_option maxHeartbeats 4000000 in
theorem tab_fixed (w : World) : Calls Try.prog 26 #[] w fun e w' => e = .returned (.agg (fds fixL).toArray) ∧ Below w.heap.size w w' := by
  obtain ⟨X, hX⟩ : ∃ X, (fds fixL).toArray = X := ⟨_, rfl⟩
  have hlen : X.size = 198 := by rw [← hX]; exact fixF_len
  have h1 : X.all Value.oneCell' = true := by
    rw [← hX, Array.all_eq_true_iff_forall_mem]
    intro u hu
    exact fds_one _ u (by simpa using hu)
  go_enter Try.func26, Try.ntmps26
  go_wp2_with (first
    | (with_reducible (show wpList _ _ _ (⟨some 0, Op.alloc _, _, _, _, _⟩ :: _) _ _)
       refine wpL_valP rfl (.pointer (some ⟨w.heap.size, 0, none⟩)) (w.alloc (.cells (fds (List.replicate 99 fd0)).toArray 52)) (by as_aux_lemma => kernel_rfl) ?_)
    | (with_reducible (show wpList _ _ _ (⟨some 100, Op.build _ _, _, _, _, _⟩ :: _) _ _)
       refine wpL_valP rfl (.agg X) (w.alloc (.cells (fds (List.replicate 99 fd0)).toArray 52)) (by rw [← hX]; as_aux_lemma => kernel_rfl) ?_)
    | (with_reducible (show wpList _ _ _ (⟨_, Op.store _ _ _, _, _, _, _⟩ :: _) _ _)
       refine store_row rfl 52 _ _ rfl w.heap.size X rfl rfl 52 _ (Row.new _ _ _) 198 (by kernel_rfl) rfl hlen h1 ?_))
  rw [hX]
  exact bodyPost_ret (result_arr rfl _ _ w.heap.size _ X ((Row.new w _ _).put X) 99 198 _ rfl Try.underlying52 (by kernel_rfl) hlen) rfl ⟨rfl, bSetRow ((Below.refl w.heap.size w).alloc (Nat.le_refl _) _) (Nat.le_refl _) _⟩
end Tb
end Go.Proofs.Ytoajnhngcfjohaa

/-
  The fixed fields, out of the document's own list.
-/
import Derived.Test.YtoajnhngcfjohaaTbRow
import Derived.Test.YtoajnhngcfjohaaRows
namespace Go.Proofs.Ytoajnhngcfjohaa
open Go Go.RowKit

namespace Tb
/-- The operations of a function's region. -/
def regOf (id : Nat) : Code → Option (Array Oper)
  | .region k ops _ => if k = id then some ops else none
  | .seq a b => (regOf id a).orElse fun _ => regOf id b
  | .cond _ a b => (regOf id a).orElse fun _ => regOf id b
  | .block _ a => regOf id a
  | .loop a => regOf id a
  | .scope a => regOf id a
  | _ => none
noncomputable def opsOf (id : Nat) (f : Func) : Array Oper := (f.body.bind (regOf id)).getD #[]
/-- The field that an operation builds. -/
def fdOf (o : Oper) : Option Fd :=
  match o.op with
  | .build _ ps =>
    match ps.toList with
    | [(0, .const (.string a)), (1, .const (.string b))] => some (a, b)
    | _ => none
  | _ => none
/-- The fixed fields. -/
noncomputable def fixL : List Fd := (opsOf 1 Try.f27).toList.filterMap fdOf
theorem fixL_length : fixL.length = 99 := by kernel_rfl
set_option maxRecDepth 100000 in
set_option maxHeartbeats 4000000 in
theorem ref_fixed (w : World) : Calls Try.prog 27 #[] w fun e w' => e = .returned (.slice (some ⟨w.heap.size, 0, none⟩) 99 99) ∧ w' = w.alloc (.cells (fds fixL).toArray 23) := by
  go_enter Try.func27, Try.ntmps27
  go_wp2_with (with_reducible (show wpList _ _ _ (⟨some 100, Op.buildSlice _ _ _, _, _, _, _⟩ :: _) _ _)
               refine wpL_valP rfl (.slice (some ⟨w.heap.size, 0, none⟩) 99 99) (w.alloc (.cells (fds fixL).toArray 23)) (by as_aux_lemma => kernel_rfl) ?_)
  go_ret
  exact ⟨rfl, rfl⟩
end Tb
end Go.Proofs.Ytoajnhngcfjohaa

/-
  Fields compared.
-/
import Derived.Test.YtoajnhngcfjohaaGqTbFx
import Derived.Laws.StructEq
namespace Go.Proofs.Ytoajnhngcfjohaa
open Go Go.RowKit

namespace Tb
theorem fieldsF : (Try.prog.fieldsOf 23).toList = [{ name := "Name", type := 9, offset := 0, embedded := false, tag := "", pkgPath := "", byteOffset := 0 }, { name := "Value", type := 9, offset := 1, embedded := false, tag := "", pkgPath := "", byteOffset := 16 }] := by kernel_rfl
def eqF (f g : Fd) : Bool := f.1.toList == g.1.toList && f.2.toList == g.2.toList
theorem eqF_has (f g : Fd) : eqF f g = hasF f g := by
  unfold eqF hasF
  rw [Bool.eq_iff_iff]
  simp only [Bool.and_eq_true, beq_iff_eq]
  constructor <;> rintro ⟨h1, h2⟩ <;> exact ⟨h1.symm, h2.symm⟩
theorem eq_fd (w : World) (f g : Fd) : (Op.equalIn 10000 23 (.agg f.cells) (.agg g.cells)).run Try.prog w = .ok (eqF f g) w := by
  have p0 : ∀ f : Fd, (part 9 f.cells 0).run Try.prog w = .ok (.string f.1) w := by
    intro f
    simp [part, isAgg, run_underlying Try.underlying9, Fd.cells]
  have p1 : ∀ f : Fd, (part 9 f.cells 1).run Try.prog w = .ok (.string f.2) w := by
    intro f
    simp [part, isAgg, run_underlying Try.underlying9, Fd.cells]
  rw [run_equalIn_struct w 9999 23 f.cells g.cells (by kernel_rfl) (by kernel_rfl), fieldsF]
  have e1 := run_equalIn_string w 9998 9 f.1 g.1 Try.underlying9
  have e2 := run_equalIn_string w 9998 9 f.2 g.2 Try.underlying9
  have n1 : ("Name" ≠ "_") := by decide
  have n2 : ("Value" ≠ "_") := by decide
  simp only [Op.eqFields, n1, n2, ne_eq, not_false_eq_true, if_true, Sem.run_bind, p0, p1, Result.andThen_ok, e1, e2, Sem.run_ite, Sem.run_pure]
  unfold eqF
  cases f.1.toList == g.1.toList <;> cases f.2.toList == g.2.toList <;> simp
section
variable {a : Act} {o : Oper}
theorem exec_eqlF (x y : Operand) (t' : TypeId) (f g : Fd) (ho : o.op = .binOp .eql 23 x y t') (hx : a.eval x = .agg f.cells) (hy : a.eval y = .agg g.cells) (w : World) :
    (execOp a.eval o).run Try.prog w = .ok (.value (.bool (eqF f g))) w := by
  have h1 := run_eqGuard_agg (P := Try.prog) w .eql 23 x y f.cells g.cells (by kernel_rfl)
  unfold execOp
  simp only [ho, hx, hy, Sem.run_bind, h1, Result.andThen_ok, run_eql_struct, eq_fd w f g, Sem.run_pure]
theorem quiet_eqlF {C : World → Prop} {K : Act → Prop} (x y : Operand) (t' : TypeId) (f g : Fd) (ho : o.op = .binOp .eql 23 x y t') (hx : a.eval x = .agg f.cells) (hy : a.eval y = .agg g.cells) (hk : K (a.put o.dst (.bool (eqF f g)))) : o.quiet Try.prog a C K :=
  ⟨_, fun w _ => by unfold Oper.quietAt; rw [exec_eqlF x y t' f g ho hx hy w]; exact ⟨rfl, rfl⟩, hk⟩
end
end Tb
end Go.Proofs.Ytoajnhngcfjohaa

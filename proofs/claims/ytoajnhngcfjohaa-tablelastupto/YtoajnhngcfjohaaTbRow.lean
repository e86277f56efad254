/-
  Lists of fields that a call made: how they grow.
-/
import Derived.Test.YtoajnhngcfjohaaTbMem
import Derived.Test.YtoajnhngcfjohaaLgToolT
namespace Go.Proofs.Ytoajnhngcfjohaa
open Go Go.RowKit

namespace Tb
theorem wpL_valP {P : Program} {ops : Array Oper} {rest : List Oper} {o : Oper} {a : Act} {w : World} {Q : Exit → Act → World → Prop} (hgd : o.guard = none) (v : Value) (w' : World) (he : (execOp a.eval o).run P w = .ok (.value v) w')
    (k : wpList P ops Q rest (a.put o.dst v) w') : wpList P ops Q (o :: rest) a w :=
  wpList_plain hgd fun _ hK => by
    unfold Oper.wp
    rw [he]
    exact hK _ _ k
/-- The cells of a list of fields. -/
def fds : List Fd → List Value
  | [] => []
  | f :: l => f.cells.toList ++ fds l
theorem fds_append : ∀ (l m : List Fd), fds (l ++ m) = fds l ++ fds m
  | [], m => rfl
  | x :: l, m => by
    show x.cells.toList ++ fds (l ++ m) = _
    rw [fds_append l m, ← List.append_assoc]
    rfl
theorem fds_one : ∀ (l : List Fd), ∀ u ∈ fds l, u.oneCell' = true
  | [], u, hu => by cases hu
  | x :: l, u, hu => by
    rcases List.mem_append.1 hu with h | h
    · simp [Fd.cells] at h
      rcases h with rfl | rfl <;> rfl
    · exact fds_one l u h
theorem fds_get : ∀ (l : List Fd) (j : Nat) (x : Fd) (i : Nat), l[j]? = some x → i < 2 → (fds l)[j * 2 + i]? = x.cells.toList[i]?
  | [], j, x, i, h, _ => by simp at h
  | y :: l, 0, x, i, h, hi => by
    simp at h
    subst h
    show (y.cells.toList ++ fds l)[0 * 2 + i]? = _
    rw [List.getElem?_append_left (by show 0 * 2 + i < 2; omega), show 0 * 2 + i = i by omega]
  | y :: l, j + 1, x, i, h, hi => by
    rw [List.getElem?_cons_succ] at h
    show (y.cells.toList ++ fds l)[(j + 1) * 2 + i]? = _
    rw [List.getElem?_append_right (by show 2 ≤ _; omega), show (j + 1) * 2 + i - y.cells.toList.length = j * 2 + i by show (j + 1) * 2 + i - 2 = _; omega]
    exact fds_get l j x i h hi
theorem Try.infoFieldP : (Try.prog.info? 23).map (fun i => (i.zero, i.size, i.bytes)) = some (some (.agg fd0.cells), 2, 32) := by kernel_rfl
theorem fdP_info : ∃ i0, Try.prog.info? 23 = some i0 ∧ i0.zero = some (.agg fd0.cells) ∧ i0.size = 2 ∧ i0.bytes = 32 := by
  have h := Try.infoFieldP
  cases hq : Try.prog.info? 23 with
  | none => rw [hq] at h; cases h
  | some i =>
    rw [hq] at h
    simp only [Option.map_some, Option.some.injEq, Prod.mk.injEq] at h
    exact ⟨i, rfl, h.1, h.2.1, h.2.2⟩
theorem fds_length : ∀ (l : List Fd), (fds l).length = l.length * 2
  | [] => rfl
  | x :: l => by
    show (x.cells.toList ++ fds l).length = _
    rw [List.length_append, fds_length l, List.length_cons]
    show 2 + _ = _
    omega
/-- Fields are appended: m of them, which lie at a place of their own, or amid another list. -/
theorem fds_append_from (w : World) (ty : TypeId) (v : Value) (l : List Fd) (h : RowO w 23 2 v l.length (fds l)) (hl : l.length ≤ 100000) (xs : List Fd) (p : Addr) (c : Nat) (hx : xs.length ≤ 100000)
    (hc : ∀ j u, (fds xs)[j]? = some u → w.cell? (p.add j) = some u) :
    ∃ v' w', (Builtin.append_ #[49, 49] ty #[v, .slice (some p) xs.length c]).run Try.prog w = .ok v' w' ∧ RowO w' 23 2 v' (l ++ xs).length (fds (l ++ xs)) ∧
      (v'.ownBlock = v.ownBlock ∧ v.ownBlock ≠ none ∧ w.grownBy w' v.ownBlock ∨ w.grownBy w' none ∧ (∀ k, v'.ownBlock = some k → k = w.heap.size)) := by
  obtain ⟨i0, h1, h2, h3, h4⟩ := fdP_info
  rw [List.length_append, fds_append]
  exact run_append_O (P := Try.prog) w 49 ty 23 i0 _ 2 32 Try.underlying49 h1 h2 h3 h4 rfl (by decide) v l.length (fds l) h p xs.length c (fds xs) (fds_length _) hc (fds_one _) (by unfold maxLen; omega) (by omega)
end Tb
end Go.Proofs.Ytoajnhngcfjohaa

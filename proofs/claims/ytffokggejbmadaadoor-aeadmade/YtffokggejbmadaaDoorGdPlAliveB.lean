/-
  Rows as slices; a row built behind a guard.
-/
import Derived.Test.YtffokggejbmadaaDoorGdPlVec
import Derived.Test.YtffokggejbmadaaDoorGdShaUndPlain
import Derived.Lib.SlBytesConst
import Derived.Laws.OwnMore
namespace Go.Proofs.YtffokggejbmadaaDoor
open Go Go.RowKit

def z32 : List By := List.replicate 32 0
theorem rowF_ok {w : World} {g n : Nat} {t : TypeId} {b : List By} {fr : Nat × Nat} (h : w.heap[g]? = some (.cells (bs b) t fr)) (hn : b.length = n) : (rowN g n b).Ok w := by
  subst hn
  refine ⟨rfl, Nat.le_refl _, fun e => by simp [rowN] at e, fun _ => rfl, fun _ => (Array.getElem?_eq_some_iff.1 h).1, fun j hj => ?_⟩
  show w.cell? ⟨g, 0 + j, none⟩ = _
  rw [Nat.zero_add, cell_of_row w g j (bs b) t fr h]
  exact bs_get b j hj

theorem build_rowG {P : Program} {ops : Array Oper} {rest : List Oper} {o : Oper} {a : Act} {w : World} {Q : Exit → Act → World → Prop} (hgd : Region.wanted o (yielded ops a.tmps) = true) (t : TypeId) (parts : Array (Nat × Operand)) (ho : o.op = .build t parts)
    (cs : Array Value) (hb : P.built t (parts.map fun (i, x) => (i, a.eval x)).toList = some cs) (h : wpList P ops Q rest (a.put o.dst (.agg cs)) w) : wpList P ops Q (o :: rest) a w :=
  wpList_wanted hgd fun _ hK => wp_build t parts ho (by rw [hb]; rfl) (by rw [hb]; exact hK _ _ h)
theorem own_sl {w : World} {base : Nat} {v : Value} {n : Nat} {xs : List By} (h : w.ownsRow base 5 1 v n (vb xs)) : ∃ s : SL, v = .slice s.a s.len s.cap ∧ s.len = n ∧ s.b = xs ∧ s.Ok w := by
  obtain ⟨s, h1, h2, h3, h4, _⟩ := SL.of_own h
  exact ⟨s, h1.symm, h2, h3, h4⟩

end Go.Proofs.YtffokggejbmadaaDoor

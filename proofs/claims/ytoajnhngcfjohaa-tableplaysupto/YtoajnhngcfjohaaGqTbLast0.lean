/-
  What a table and a list of its own are, as fields come: plainly, and in memory.
-/
import Derived.Test.YtoajnhngcfjohaaGqTbLiv
namespace Go.Proofs.Ytoajnhngcfjohaa
open Go Go.RowKit

namespace Tb
def tot : List Fd → Nat
  | [] => 0
  | f :: l => f.1.size + f.2.size + 1 + tot l
theorem tot_append : ∀ (a b : List Fd), tot (a ++ b) = tot a + tot b
  | [], b => by simp [tot]
  | f :: a, b => by simp only [List.cons_append, tot, tot_append a b]; omega
theorem tot_take_succ {l : List Fd} {k : Nat} {g : Fd} (h : l[k]? = some g) : tot (l.take (k + 1)) = tot (l.take k) + (g.1.size + g.2.size + 1) := by
  rw [List.take_add_one, h]
  simp only [Option.toList_some, tot_append, tot]
theorem tot_take_le (l : List Fd) (k : Nat) : tot (l.take k) ≤ tot l := by
  have h := tot_append (l.take k) (l.drop k)
  rw [List.take_append_drop] at h
  omega
theorem tot_length : ∀ (l : List Fd), l.length ≤ tot l
  | [] => Nat.le_refl _
  | f :: l => by have := tot_length l; simp only [List.length_cons, tot]; omega
/-- A table, and the list of all that came. -/
structure LT (w : World) (h r : Nat) (T : Tab) (C : List Fd) (v : Value) (wr : World) : Prop where
  pt : ∃ A p q, PtOk wr h T A p q
  room : T.room = r
  fine : T.Fine
  of : T.Of C
  row : RowO wr 23 2 v C.length (fds C)
  own : ∀ b, v.ownBlock = some b → w.heap.size ≤ b ∧ b ≠ h
  hh : w.heap.size ≤ h
  bel : Below w.heap.size w wr
section
variable {w wr w' : World} {h r : Nat} {T : Tab} {C : List Fd} {v : Value}
theorem LT.below (x : LT w h r T C v wr) (hb : Below wr.heap.size wr w') : LT w h r T C v w' := by
  obtain ⟨A, p, q, hp⟩ := x.pt
  exact ⟨⟨A, p, q, hp.below hb⟩, x.room, x.fine, x.of, x.row.below hb, x.own, x.hh, x.bel.trans (hb.mono x.bel.size)⟩
theorem LT.new {A : List Fd} {p q : Nat} (hr : r ≤ 4096) (x : PtOk w' h ⟨r, 0, []⟩ A p q) (hb : Below w.heap.size w w') (hh : w.heap.size ≤ h) : LT w h r ⟨r, 0, []⟩ [] (.slice none 0 0) w' :=
  ⟨⟨A, p, q, x⟩, rfl, ⟨hr, Nat.zero_le _⟩, ⟨Nat.zero_le _, rfl⟩, RowO.nil _ _ _, fun b hb => by simp [Value.ownBlock] at hb, hh, hb⟩
/-- A field came. -/
theorem LT.add {A : List Fd} {p q : Nat} {f : Fd} (x : LT w h r T C v wr) (hf : ¬ T.room < sz f) (hp : PtOk w' h (T.add f) A p q) (hk : KeepP (fun k => k = h) wr w') :
    (∃ A p q, PtOk w' h (T.add f) A p q) ∧ (T.add f).room = r ∧ (T.add f).Fine ∧ (T.add f).Of (C ++ [f]) ∧ RowO w' 23 2 v C.length (fds C) ∧ Below w.heap.size w w' := by
  refine ⟨⟨A, p, q, hp⟩, ?_, x.fine.add f, x.of.add f hf, x.row.same fun b hb => hk.block b (x.row.lt b hb) (x.own b hb).2, x.bel.trans (hk.below (by rintro k rfl; exact x.hh) x.bel.size)⟩
  unfold Tab.add
  rw [if_neg hf]
  exact x.room
end
end Tb
end Go.Proofs.Ytoajnhngcfjohaa

/-
  What a table and a list of its own are, as fields come: plainly, and in memory.
-/
import Derived.Test.YtoajnhngcfjohaaTbLiv
namespace Go.Proofs.Ytoajnhngcfjohaa
open Go Go.RowKit

namespace Tb
def tot : List Fd → Nat
  | [] => 0
  | f :: l => f.1.size + f.2.size + 1 + tot l
theorem tot_append : ∀ (a b : List Fd), tot (a ++ b) = tot a + tot b
  | [], b => by simp [tot]
  | f :: a, b => by simp only [List.cons_append, tot, tot_append a b]; omega
theorem tot_take_succ {l : List Fd} {k : Nat} {g : Fd} (h : l[k]? = some g) : tot (l.take (k + 1)) = tot (l.take k) + (g.1.size + g.2.size + 1) := by
  rw [List.take_add_one, h]
  simp only [Option.toList_some, tot_append, tot]
theorem tot_take_le (l : List Fd) (k : Nat) : tot (l.take k) ≤ tot l := by
  have h := tot_append (l.take k) (l.drop k)
  rw [List.take_append_drop] at h
  omega
theorem tot_length : ∀ (l : List Fd), l.length ≤ tot l
  | [] => Nat.le_refl _
  | f :: l => by have := tot_length l; simp only [List.length_cons, tot]; omega
theorem gfd_get {l : List Fd} {j : Nat} (h : j < l.length) : l[j]? = some (gfd l j) := by
  unfold gfd
  rw [List.getElem?_eq_getElem h]
  rfl
def fitsB (r : Nat) (f : Fd) : Bool := decide (sz f ≤ r)
/-- A table, and the list of all that came. -/
structure LT (w : World) (h r : Nat) (T : Tab) (C : List Fd) (v : Value) (wr : World) : Prop where
  pt : ∃ A p q, PtOk wr h T A p q
  room : T.room = r
  fine : T.Fine
  of : T.Of C
  row : RowO wr 23 2 v C.length (fds C)
  own : ∀ b, v.ownBlock = some b → w.heap.size ≤ b ∧ b ≠ h
  hh : w.heap.size ≤ h
  bel : Below w.heap.size w wr
section
variable {w wr w' : World} {h r : Nat} {T : Tab} {C : List Fd} {v : Value}
theorem LT.below (x : LT w h r T C v wr) (hb : Below wr.heap.size wr w') : LT w h r T C v w' := by
  obtain ⟨A, p, q, hp⟩ := x.pt
  exact ⟨⟨A, p, q, hp.below hb⟩, x.room, x.fine, x.of, x.row.below hb, x.own, x.hh, x.bel.trans (hb.mono x.bel.size)⟩
theorem LT.new {A : List Fd} {p q : Nat} (hr : r ≤ 4096) (x : PtOk w' h ⟨r, 0, []⟩ A p q) (hb : Below w.heap.size w w') (hh : w.heap.size ≤ h) : LT w h r ⟨r, 0, []⟩ [] (.slice none 0 0) w' :=
  ⟨⟨A, p, q, x⟩, rfl, ⟨hr, Nat.zero_le _⟩, ⟨Nat.zero_le _, rfl⟩, RowO.nil _ _ _, fun b hb => by simp [Value.ownBlock] at hb, hh, hb⟩
/-- A field came. -/
theorem LT.add {A : List Fd} {p q : Nat} {f : Fd} (x : LT w h r T C v wr) (hf : ¬ T.room < sz f) (hp : PtOk w' h (T.add f) A p q) (hk : KeepP (fun k => k = h) wr w') :
    (∃ A p q, PtOk w' h (T.add f) A p q) ∧ (T.add f).room = r ∧ (T.add f).Fine ∧ (T.add f).Of (C ++ [f]) ∧ RowO w' 23 2 v C.length (fds C) ∧ Below w.heap.size w w' := by
  refine ⟨⟨A, p, q, hp⟩, ?_, x.fine.add f, x.of.add f hf, x.row.same fun b hb => hk.block b (x.row.lt b hb) (x.own b hb).2, x.bel.trans (hk.below (by rintro k rfl; exact x.hh) x.bel.size)⟩
  unfold Tab.add
  rw [if_neg hf]
  exact x.room
theorem LT.stay {A : List Fd} {p q : Nat} (x : LT w h r T C v wr) (hp : PtOk w' h T A p q) (hk : KeepP (fun k => k = h) wr w') : LT w h r T C v w' :=
  ⟨⟨A, p, q, hp⟩, x.room, x.fine, x.of, x.row.same fun b hb => hk.block b (x.row.lt b hb) (x.own b hb).2, x.own, x.hh, x.bel.trans (hk.below (by rintro k rfl; exact x.hh) x.bel.size)⟩
/-- A field came, and is appended. -/
theorem LT.app {w1 w2 : World} {A : List Fd} {p q : Nat} {f : Fd} (x : LT w h r T C v wr) (hf : ¬ T.room < sz f) (hp : PtOk w1 h (T.add f) A p q) (hk : KeepP (fun k => k = h) wr w1) (hb : Below w1.heap.size w1 w2) (hC : C.length ≤ 100000) (ty : TypeId) (pa : Addr)
    (hc : ∀ j u, (fds [f])[j]? = some u → w2.cell? (pa.add j) = some u) (c : Nat) :
    ∃ v' w3, (Builtin.append_ #[49, 49] ty #[v, .slice (some pa) 1 c]).run Try.prog w2 = .ok v' w3 ∧ LT w h r (T.add f) (C ++ [f]) v' w3 := by
  obtain ⟨⟨A', p', q', hp'⟩, a2, a3, a4, a5, a6⟩ := x.add hf hp hk
  have r2 := a5.below hb
  have b2 := a6.trans (hb.mono a6.size)
  obtain ⟨v', w3, h1, h2, h3⟩ := fds_append_from w2 ty v C r2 hC [f] pa c (by simp) hc
  refine ⟨v', w3, h1, ?_⟩
  have hlt : h < w2.heap.size := Nat.lt_of_lt_of_le (Row.lt hp'.row) hb.size
  rcases h3 with ⟨e1, e2, e3⟩ | ⟨e1, e2⟩
  · obtain ⟨b, hbv⟩ : ∃ b, v.ownBlock = some b := by
      cases hq : v.ownBlock with
      | none => exact absurd hq e2
      | some b => exact ⟨b, rfl⟩
    rw [hbv] at e3
    have hob := x.own b hbv
    have hkk : KeepP (fun k => k = b) w2 w3 := KeepP.grown (st := fun k => k = b) rfl e3
    refine ⟨⟨A', p', q', (hp'.below hb).same (hkk.block h hlt fun e => hob.2 e.symm)⟩, a2, a3, a4, h2, fun d hd => x.own d (by rw [← e1]; exact hd), x.hh, b2.trans (hkk.below (by rintro k rfl; exact hob.1) b2.size)⟩
  · have hkk : KeepP (fun _ => False) w2 w3 := ⟨e1.os, e1.tape, e1.output, e1.size, fun k hk _ => e1.block k hk (by intro q; cases q)⟩
    refine ⟨⟨A', p', q', (hp'.below hb).same (hkk.block h hlt fun e => e)⟩, a2, a3, a4, h2, fun d hd => ?_, x.hh, b2.trans (hkk.below (fun k e => e.elim) b2.size)⟩
    have := e2 d hd
    subst this
    exact ⟨b2.size, by omega⟩
end
theorem tab_newE {w W : World} (m : Nat) (hm : m ≤ 4096) (hb : Below w.heap.size w W) : Calls Try.prog 12 #[.int .i64 (m : Int)] W fun e w' => ∃ h, e = .returned (.tuple #[.pointer (some ⟨h, 0, none⟩), .int .i64 0]) ∧ LT w h m ⟨m, 0, []⟩ [] (.slice none 0 0) w' := by
  refine (tab_new m hm W).mono ?_
  rintro e w' ⟨rfl, h1, h2⟩
  exact ⟨_, rfl, LT.new hm h1 (hb.trans (h2.mono hb.size)) hb.size⟩
theorem filter_take_succ {l : List Fd} {k : Nat} {g : Fd} (p : Fd → Bool) (h : l[k]? = some g) : (l.take (k + 1)).filter p = (l.take k).filter p ++ (if p g then [g] else []) := by
  rw [List.take_add_one, h]
  simp only [Option.toList_some, List.filter_append]
  cases hp : p g <;> simp [hp]
theorem filter_take_len {l : List Fd} {k : Nat} (p : Fd → Bool) : ((l.take k).filter p).length ≤ k :=
  Nat.le_trans (List.length_filter_le _ _) (by rw [List.length_take]; omega)
end Tb
end Go.Proofs.Ytoajnhngcfjohaa

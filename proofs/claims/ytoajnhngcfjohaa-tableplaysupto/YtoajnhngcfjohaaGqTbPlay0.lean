/-
  The program's table and the document's, side by side.
-/
import Derived.Test.YtoajnhngcfjohaaGqTbActs
import Derived.Test.YtoajnhngcfjohaaGqTbRGet
import Derived.Test.YtoajnhngcfjohaaGqTbLiv
namespace Go.Proofs.Ytoajnhngcfjohaa
open Go Go.RowKit

namespace Tb
structure BT (w : World) (h1 : Nat) (T1 : Tab) (h2 : Nat) (T2 : Tab) (v : Value) (wr : World) : Prop where
  pt : ∃ A p q, PtOk wr h1 T1 A p q
  rt : RtOk wr h2 T2 v
  hh1 : w.heap.size ≤ h1
  hh2 : w.heap.size ≤ h2
  own : ∀ k, v.ownBlock = some k → w.heap.size ≤ k
  bel : Below w.heap.size w wr
section
variable {w wr w' : World} {h1 h2 : Nat} {T1 T2 : Tab} {v v' : Value}
theorem BT.below (x : BT w h1 T1 h2 T2 v wr) (hb : Below wr.heap.size wr w') : BT w h1 T1 h2 T2 v w' := by
  obtain ⟨A, p, q, hp⟩ := x.pt
  exact ⟨⟨A, p, q, hp.below hb⟩, x.rt.below hb, x.hh1, x.hh2, x.own, x.bel.trans (hb.mono x.bel.size)⟩
theorem BT.prog {T : Tab} {A : List Fd} {p q : Nat} (x : BT w h1 T1 h2 T2 v wr) (hp : PtOk w' h1 T A p q) (hk : KeepP (fun k => k = h1) wr w') : BT w h1 T h2 T2 v w' := by
  obtain ⟨A0, p0, q0, hp0⟩ := x.pt
  obtain ⟨n1, n2⟩ := x.rt.other hp0.row
  exact ⟨⟨A, p, q, hp⟩, ⟨(hk.block h2 x.rt.row.lt (fun e => n1 e.symm)).trans x.rt.row, x.rt.own.same fun k hk' => hk.block k (x.rt.own.lt k hk') (n2 k hk'), x.rt.sz, x.rt.wb⟩, x.hh1, x.hh2, x.own,
    x.bel.trans (hk.below (by rintro k rfl; exact x.hh1) x.bel.size)⟩
theorem BT.ref {T : Tab} (x : BT w h1 T1 h2 T2 v wr) (s : RtStep wr h2 T v w' v') : BT w h1 T1 h2 T v' w' := by
  obtain ⟨A, p, q, hp⟩ := x.pt
  obtain ⟨n1, n2⟩ := x.rt.other hp.row
  refine ⟨⟨A, p, q, hp.same (s.keep.block h1 hp.row.lt ?_)⟩, s.ok, x.hh1, x.hh2, ?_, x.bel.trans (s.keep.below ?_ x.bel.size)⟩
  · rintro (e | e)
    · exact n1 e
    · exact n2 h1 e rfl
  · intro k hk
    rcases s.own k hk with e | e
    · exact x.own k e
    · exact Nat.le_trans x.bel.size e
  · rintro k (rfl | e)
    · exact x.hh2
    · exact x.own k e
/-- An act's own memory is another one. -/
theorem BT.apart {bx : Nat} {cs : Array Value} (x : BT w h1 T1 h2 T2 v wr) (hr : Row wr bx 32 cs) : bx ≠ h1 ∧ bx ≠ h2 ∧ ∀ k, v.ownBlock = some k → k ≠ bx := by
  obtain ⟨A, p, q, hp⟩ := x.pt
  refine ⟨?_, ?_, ?_⟩
  · rintro rfl
    have h1 := hr.symm.trans hp.row
    simp at h1
  · rintro rfl
    have h1 := hr.symm.trans x.rt.row
    simp at h1
  · rintro k hk rfl
    rcases x.rt.own.2 with ⟨rfl, _⟩ | ⟨g, o, cap, cur, rfl, hg, _⟩
    · simp [Value.ownBlock] at hk
    · simp [Value.ownBlock] at hk
      subst hk
      have h1 := hg.symm.trans hr
      simp at h1
end
theorem both_new {w W : World} (m : Nat) (hm : m ≤ 4096) (hb : Below w.heap.size w W) : Calls Try.prog 12 #[.int .i64 (m : Int)] W fun e w' => ∃ h1 A p q, e = .returned (.tuple #[.pointer (some ⟨h1, 0, none⟩), .int .i64 0]) ∧ PtOk w' h1 ⟨m, 0, []⟩ A p q ∧ w.heap.size ≤ h1 ∧ Below w.heap.size w w' := by
  refine (tab_new m hm W).mono ?_
  rintro e w' ⟨rfl, a1, a2⟩
  exact ⟨_, _, _, _, rfl, a1, hb.size, hb.trans (a2.mono hb.size)⟩
theorem both_ref {w W : World} {h1 m : Nat} {A : List Fd} {p q : Nat} (hm : m ≤ 4096) (hp : PtOk W h1 ⟨m, 0, []⟩ A p q) (h1w : w.heap.size ≤ h1) (hb : Below w.heap.size w W) : Calls Try.prog 13 #[.int .i64 (m : Int)] W fun e w' => ∃ h2 v, e = .returned (.tuple #[.pointer (some ⟨h2, 0, none⟩), .int .i64 0]) ∧ BT w h1 ⟨m, 0, []⟩ h2 ⟨m, 0, []⟩ v w' := by
  refine (ref_new m W hm).mono ?_
  rintro e w' ⟨rfl, a1, a2⟩
  exact ⟨_, _, rfl, ⟨A, p, q, hp.below a2⟩, a1, h1w, hb.size, fun k hk => by simp [Value.ownBlock] at hk, hb.trans (a2.mono hb.size)⟩
theorem fdsOf_get {l : List TA} {k : Nat} {a : TA} (h : l[k]? = some a) : (fdsOf l)[k]? = some a.f := by
  unfold fdsOf
  rw [List.getElem?_map, h]
  rfl
theorem came_add (t : Tab) (f : Fd) : (t.add f).came ≤ t.came + 1 := by
  unfold Tab.add
  split
  · omega
  · have := less_came t (sz f)
    unfold Tab.came at *
    simp only [List.length_append, List.length_singleton]
    omega
theorem came_room (t : Tab) (n : Int) : (t.setRoom n).came = t.came := by
  unfold Tab.setRoom
  split
  · rfl
  · exact less_came _ 0
end Tb
end Go.Proofs.Ytoajnhngcfjohaa

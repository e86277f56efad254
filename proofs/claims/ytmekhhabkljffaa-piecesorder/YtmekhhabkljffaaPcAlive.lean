/-
  Take once more, with its answer as a slice; and what the statements' own word alive answers.
-/
import Derived.Test.YtmekhhabkljffaaPcTake
import Derived.Test.YtmekhhabkljffaaChaSame
import Derived.Lib.SlBytesConst
namespace Go.Proofs.Ytmekhhabkljffaa
open Go Go.RowKit Go.Maps Go.Shelf

theorem take_sl (S : PS) (g m N : Nat) (w : World) (h : PcOk w g m S) (hN : N ≤ 9223372036854775807) :
    Calls Try.prog 10 #[.pointer (some ⟨g, 0, none⟩), .int .i64 (N : Int)] w fun e w' => ∃ s : SL, e = .returned (.tuple #[.slice s.a s.len s.cap, .bool (Pc.ended (Pc.takeS S N)), .int .i64 0]) ∧
      ((s.len = (Pc.takeL S.f S.read N).length ∧ s.b = Pc.takeL S.f S.read N) ∧ s.Ok w' ∧ (0 < s.len → w.heap.size ≤ s.g)) ∧ PcOk w' g m (Pc.takeS S N) ∧ KeepP (Two g m) w w' := by
  refine (take_yes S g m N w h hN).mono ?_
  rintro e w' ⟨v, rfl, h1, h2, h3⟩
  obtain ⟨s, e1, e2, e3, e4, e5⟩ := SL.of_own h1
  subst e1
  exact ⟨s, rfl, ⟨⟨e2, e3⟩, e4, fun h => e5 (by omega)⟩, h2, h3⟩
theorem SL.Ok.keepP {w w' : World} {s : SL} {st : Nat → Prop} (h : s.Ok w) (k : KeepP st w w') (hs : 0 < s.len → ¬ st s.g) : s.Ok w' := h.same (fun p => k.block _ (h.lt p) (hs p)) k.size
theorem two_not {g m k B : Nat} (hg : g < B) (hm : m < B) (hk : B ≤ k) : ¬ Two g m k := fun e => by unfold Two at e; omega
theorem KeepP.two_below {g m B : Nat} {w w' : World} (h : KeepP (Two g m) w w') (hg : B ≤ g) (hm : B ≤ m) (hB : B ≤ w.heap.size) : Below B w w' := h.below (fun k e => by unfold Two at e; omega) hB

/-- Bytes that are written out. -/
def litS (g : Nat) (C : List By) : SL := ⟨some ⟨g, 0, none⟩, C.length, C.length, g, 0, C⟩
theorem lit_conv (w : World) (C : List By) (cs : Array Value) (hcs : cs = bs C) : ∃ W, (convert 22 22 (.slice (some ⟨w.heap.size, 0, none⟩) C.length C.length)).run Try.prog (w.alloc (.cells cs 5)) = .ok (.slice (some ⟨w.heap.size, 0, none⟩) C.length C.length) W ∧ Below w.heap.size w W ∧ (litS w.heap.size C).Ok W := by
  subst hcs
  refine ⟨_, Lib.run_convert_bytes_const (P := Try.prog) w 22 5 (bs C) C.length C.length Try.underlying22 Try.underlying5, (Below.refl _ w).alloc (Nat.le_refl _) _, rfl, Nat.le_refl _, (fun e => by cases e), fun _ => rfl, fun _ => by simp [litS], fun j hj => ?_⟩
  have h := cell_of_row (w.alloc (.cells (bs C) 5 ((bs C).size, (bs C).size + 1))) w.heap.size j (bs C) 5 ((bs C).size, (bs C).size + 1) (heap_alloc_new w _)
  show World.cell? _ ⟨w.heap.size, 0 + j, none⟩ = _
  rw [Nat.zero_add, h]
  exact bs_get C j hj

namespace Pc
/-- The same as takeL, by structural recursion, to be reckoned. -/
def takeK (f : Nat → Option By) : Nat → Nat → List By
  | 0, _ => []
  | n + 1, r => match f r with
    | none => []
    | some x => x :: takeK f n (r + 1)
theorem take_eq (f : Nat → Option By) : ∀ (n r : Nat), takeL f r n = takeK f n r
  | 0, r => take_zero f r
  | n + 1, r => by
    cases h : f r with
    | none => rw [take_none h]; simp [takeK, h]
    | some x => rw [take_some h, take_eq f n (r + 1)]; simp [takeK, h]
def a1 : PS := put (newS 8) 3 [100, 101] false
def a2 : PS := put a1 0 [97, 98, 99, 88] false
def a3 : PS := mid a2 5
def a4 : PS := put a3 4 [90, 102] true
def a5 : PS := mid a4 1
theorem al1 : putE (newS 8) 3 2 false = 0 := by decide +kernel
theorem al2 : putE a1 0 4 false = 0 := by decide +kernel
theorem al3 : takeL a2.f a2.read 9 = [97, 98, 99, 100, 101] := by rw [take_eq]; decide +kernel
theorem al3' : takeS a2 9 = a3 := by unfold takeS; rw [al3]; rfl
theorem al3e : ended a3 = false := by decide +kernel
theorem al4 : putE a3 4 2 true = 0 := by decide +kernel
theorem al5 : takeL a4.f a4.read 9 = [102] := by rw [take_eq]; decide +kernel
theorem al5' : takeS a4 9 = a5 := by unfold takeS; rw [al5]; rfl
theorem al5e : ended a5 = true := by decide +kernel
theorem al6 : putE a5 6 1 false = 8 := by decide +kernel
end Pc
end Go.Proofs.Ytmekhhabkljffaa

/-
  Take once more, with its answer as a slice; and what the statements' own word alive answers.
-/
import Derived.Test.YtnlckmopgkabpaaGsPcTake
import Derived.Test.YtnlckmopgkabpaaGs7
import Derived.Lib.SlBytesConst
namespace Go.Proofs.Ytnlckmopgkabpaa
open Go Go.RowKit Go.Maps Go.Shelf

theorem take_sl (S : PS) (g m N : Nat) (w : World) (h : PcOk w g m S) (hN : N ≤ 9223372036854775807) :
    Calls Try.prog 14 #[.pointer (some ⟨g, 0, none⟩), .int .i64 (N : Int)] w fun e w' => ∃ s : SL, e = .returned (.tuple #[.slice s.a s.len s.cap, .bool (Pc.ended (Pc.takeS S N)), .int .i64 0]) ∧
      ((s.len = (Pc.takeL S.f S.read N).length ∧ s.b = Pc.takeL S.f S.read N) ∧ s.Ok w' ∧ (0 < s.len → w.heap.size ≤ s.g)) ∧ PcOk w' g m (Pc.takeS S N) ∧ KeepP (Two g m) w w' := by
  refine (take_yes S g m N w h hN).mono ?_
  rintro e w' ⟨v, rfl, h1, h2, h3⟩
  obtain ⟨s, e1, e2, e3, e4, e5⟩ := SL.of_own h1
  subst e1
  exact ⟨s, rfl, ⟨⟨e2, e3⟩, e4, fun h => e5 (by omega)⟩, h2, h3⟩
/-- Bytes that are written out. -/
def litS (g : Nat) (C : List By) : SL := ⟨some ⟨g, 0, none⟩, C.length, C.length, g, 0, C⟩
theorem lit_conv (w : World) (C : List By) (cs : Array Value) (hcs : cs = bs C) : ∃ W, (convert 22 22 (.slice (some ⟨w.heap.size, 0, none⟩) C.length C.length)).run Try.prog (w.alloc (.cells cs 5)) = .ok (.slice (some ⟨w.heap.size, 0, none⟩) C.length C.length) W ∧ Below w.heap.size w W ∧ (litS w.heap.size C).Ok W := by
  subst hcs
  refine ⟨_, Lib.run_convert_bytes_const (P := Try.prog) w 22 5 (bs C) C.length C.length Try.underlying22 Try.underlying5, (Below.refl _ w).alloc (Nat.le_refl _) _, rfl, Nat.le_refl _, (fun e => by cases e), fun _ => rfl, fun _ => by simp [litS], fun j hj => ?_⟩
  have h := cell_of_row (w.alloc (.cells (bs C) 5 ((bs C).size, (bs C).size + 1))) w.heap.size j (bs C) 5 ((bs C).size, (bs C).size + 1) (heap_alloc_new w _)
  show World.cell? _ ⟨w.heap.size, 0 + j, none⟩ = _
  rw [Nat.zero_add, h]
  exact bs_get C j hj

namespace Pc
def a1 : PS := put (newS 8) 3 [100, 101] false
def a2 : PS := put a1 0 [97, 98, 99, 88] false
def a3 : PS := mid a2 5
def a4 : PS := put a3 4 [90, 102] true
def a5 : PS := mid a4 1
end Pc
end Go.Proofs.Ytnlckmopgkabpaa

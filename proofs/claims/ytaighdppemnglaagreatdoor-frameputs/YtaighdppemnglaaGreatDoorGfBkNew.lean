/-
  An empty Book of several kinds; a list of bytes or of ranges is told to it. Written by mkbkw.py.
-/
import Derived.Test.YtaighdppemnglaaGreatDoorGfBkHold
namespace Go.Proofs.YtaighdppemnglaaGreatDoor.Ba
open Go Go.RowKit
open Go.Proofs.YtaighdppemnglaaGreatDoor.Bq (OwnB own_keepP below_keepP keep_grown keep_below Sep)

theorem new_cell (W : World) (t : TypeId) : ∀ j, 1 ≤ j → j < 13 → (W.alloc (.cells #[.int .i64 0, .slice none 0 0, .slice none 0 0, .slice none 0 0, .slice none 0 0, .slice none 0 0, .slice none 0 0, .slice none 0 0, .slice none 0 0, .slice none 0 0, .slice none 0 0, .slice none 0 0, .slice none 0 0] t)).cell? ⟨W.heap.size, j, none⟩ = some (.slice none 0 0) := fun j h1 h2 => by
  have : j = 1 ∨ j = 2 ∨ j = 3 ∨ j = 4 ∨ j = 5 ∨ j = 6 ∨ j = 7 ∨ j = 8 ∨ j = 9 ∨ j = 10 ∨ j = 11 ∨ j = 12 := by omega
  rcases this with rfl | rfl | rfl | rfl | rfl | rfl | rfl | rfl | rfl | rfl | rfl | rfl <;> simp
theorem new_count (W : World) (t : TypeId) : (W.alloc (.cells #[.int .i64 0, .slice none 0 0, .slice none 0 0, .slice none 0 0, .slice none 0 0, .slice none 0 0, .slice none 0 0, .slice none 0 0, .slice none 0 0, .slice none 0 0, .slice none 0 0, .slice none 0 0, .slice none 0 0] t)).cell? ⟨W.heap.size, 0, none⟩ = some (.int .i64 ((0 : Nat) : Int)) := by simp
theorem new_frozen (W : World) (t : TypeId) (j : Nat) : (W.alloc (.cells #[.int .i64 0, .slice none 0 0, .slice none 0 0, .slice none 0 0, .slice none 0 0, .slice none 0 0, .slice none 0 0, .slice none 0 0, .slice none 0 0, .slice none 0 0, .slice none 0 0, .slice none 0 0, .slice none 0 0] t)).frozen? ⟨W.heap.size, j, none⟩ = false := World.frozen?_alloc_new _ _ _ _
/-- An empty book holds nothing of any kind. -/
theorem Hd.new (S : Nat) (W : World) (t : TypeId) (j HT T z : Nat) (h1 : 1 ≤ j) (h2 : j < 13) (E : Nat → Value) (nu N : Nat → Nat) (F : Nat → List Value) : Hd S W.heap.size j HT T z 0 (.slice none 0 0) E nu N F (W.alloc (.cells #[.int .i64 0, .slice none 0 0, .slice none 0 0, .slice none 0 0, .slice none 0 0, .slice none 0 0, .slice none 0 0, .slice none 0 0, .slice none 0 0, .slice none 0 0, .slice none 0 0, .slice none 0 0, .slice none 0 0] t)) :=
  ⟨new_cell W t j h1 h2, fun _ => rfl, World.ownsRow_nil _ _ _ _, fun k e => (by cases e), fun i hi => absurd hi (Nat.not_lt_zero _), fun i hi => absurd hi (Nat.not_lt_zero _), fun i j hi => absurd hi (Nat.not_lt_zero _)⟩

set_option maxRecDepth 20000 in
theorem toldBytes (S B nn m : Nat) (V : Value) (es : List Value) (W : World) (al : Option Addr) (nl cl : Nat) (hm : m ≤ 3000000) (hnn : nn ≤ 5000000) (hn : W.cell? ⟨B, 0, none⟩ = some (.int .i64 (nn : Int))) (hb : W.cell? ⟨B, 1, none⟩ = some V) (hfz : ∀ q, W.frozen? ⟨B, q, none⟩ = false) (hbB : B < W.heap.size) (hSW : S ≤ W.heap.size) (ent : W.ownsRow S 95 3 V m es) (hVB : ∀ k, V.ownBlock = some k → B < k) :
    Calls Tryz.prog 15 #[.pointer (some ⟨B, 0, none⟩), .slice al nl cl] W fun e w' => e = .returned (.tuple #[]) ∧ ∃ g c, Told S B 1 95 nn m V (.slice al nl cl) es W w' g c := by
  have HC := veil (tellByte S B nn m V es W al nl cl hm hnn hn hb hfz hbB hSW ent hVB)
  clear hn hb hfz ent hVB
  go_enter Tryz.func15, Tryz.ntmps15
  go_wp2_with fail
  refine HC.out.mono ?_
  rintro e w' ⟨rfl, h⟩
  go_wp2_with fail
  go_end0
  exact ⟨rfl, h⟩

set_option maxRecDepth 20000 in
theorem toldRanges (S B nn m : Nat) (V : Value) (es : List Value) (W : World) (al : Option Addr) (nl cl : Nat) (hm : m ≤ 3000000) (hnn : nn ≤ 5000000) (hn : W.cell? ⟨B, 0, none⟩ = some (.int .i64 (nn : Int))) (hb : W.cell? ⟨B, 6, none⟩ = some V) (hfz : ∀ q, W.frozen? ⟨B, q, none⟩ = false) (hbB : B < W.heap.size) (hSW : S ≤ W.heap.size) (ent : W.ownsRow S 112 3 V m es) (hVB : ∀ k, V.ownBlock = some k → B < k) :
    Calls Tryz.prog 89 #[.pointer (some ⟨B, 0, none⟩), .slice al nl cl] W fun e w' => e = .returned (.tuple #[]) ∧ ∃ g c, Told S B 6 112 nn m V (.slice al nl cl) es W w' g c := by
  have HC := veil (tellRange S B nn m V es W al nl cl hm hnn hn hb hfz hbB hSW ent hVB)
  clear hn hb hfz ent hVB
  go_enter Tryz.func89, Tryz.ntmps89
  go_wp2_with fail
  refine HC.out.mono ?_
  rintro e w' ⟨rfl, h⟩
  go_wp2_with fail
  go_end0
  exact ⟨rfl, h⟩
end Go.Proofs.YtaighdppemnglaaGreatDoor.Ba

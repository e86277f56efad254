/-
  The closure that adds bytes to those that it holds.
-/
import Derived.Test.YtjccjlhnjihfjaaDoorGhHeEq
import Derived.Test.YtjccjlhnjihfjaaDoorGhHeAs
namespace Go.Proofs.YtjccjlhnjihfjaaDoor
open Go Go.RowKit

/-- The cell B holds the bytes xs, in a row of the call's own. -/
def Gat (B : Nat) (xs : List By) (W : World) : Prop := ∃ v, Row W B 28 #[v] ∧ W.ownsRow (B + 1) 5 1 v xs.length (vb xs)
theorem Gat.below {B : Nat} {xs : List By} {W W' : World} (h : Gat B xs W) (hb : Below W.heap.size W W') : Gat B xs W' := by
  obtain ⟨v, h1, h2⟩ := h
  exact ⟨v, h1.below hb h1.lt, own_below h2 hb⟩
theorem Gat.lt {B : Nat} {xs : List By} {W : World} (h : Gat B xs W) : B < W.heap.size := by
  obtain ⟨v, h1, _⟩ := h
  exact h1.lt
theorem Gat.new (w : World) : Gat w.heap.size [] (w.alloc (.cells #[.slice none 0 0] 28)) :=
  ⟨_, Row.new _ _ _, World.ownsRow_nil _ _ _ _⟩

set_option maxRecDepth 20000 in
set_option maxHeartbeats 4000000 in
theorem add_any (B : Nat) (xs : List By) (q : SL) (w : World) (hg : Gat B xs w) (hq : q.Ok w) (hl : xs.length + q.len ≤ 8388608) :
    Calls Tryd.prog 23 #[.slice q.a q.len q.cap, .pointer (some ⟨B, 0, none⟩)] w fun e w' => e = .returned (.tuple #[]) ∧ Gat B (xs ++ q.b) w' ∧ Below B w w' := by
  obtain ⟨i0, hi, hz0, hz1, hz2⟩ := info_parts (P := Tryd.prog) (e := 5) (z := .int .u8 0) (size := 1) (bytes := 1) (by kernel_rfl)
  obtain ⟨v, hr, ho⟩ := hg
  have hB := hr.lt
  have c0 : w.cell? ⟨B, 0, none⟩ = some v := hr.cell 0
  have z0 := hr.frozen 0
  have HO := veil ho
  have HR := veil hr
  have HQ := veil hq
  clear ho hr hq
  go_enter Tryd.func23, Tryd.ntmps23
  go_wp2_with (with_reducible (show wpList _ _ _ (⟨some 5, Op.call _, _, _, _, _⟩ :: _) _ _)
               refine append_sl rfl _ _ 28 rfl (B + 1) i0 Tryd.underlying28 hi hz0 hz1 hz2 v xs.length xs rfl HO.out q HQ.out rfl hl (by omega) ?_
               intro v1 w1 hown1 hgrow1
               obtain ⟨a1, cp1, rfl⟩ := own_shapeF hown1
               have hne : some B ≠ v.ownBlock := fun e => by
                 have := (HO.out.lt B e.symm).1
                 omega
               have r1 : Row w1 B 28 #[v] := (hgrow1.block B hB hne).trans HR.out
               have c1 : w1.cell? ⟨B, 0, none⟩ = some v := r1.cell 0
               have z1 := r1.frozen 0
               have R1 := veil (r1.set 0 (.slice a1 (xs.length + q.len) cp1))
               have O1 := veil (show (w1.setCell ⟨B, 0, none⟩ (.slice a1 (xs.length + q.len) cp1)).ownsRow (B + 1) 5 1 (.slice a1 (xs.length + q.len) cp1) (xs.length + q.len) (vb (xs ++ q.b)) from hown1.kept (row := some B) (grown_set (grown_refl _ _)) (.inr fun e => by
                 have := (hown1.lt B e).1
                 omega))
               have B1 := veil (show Below B w (w1.setCell ⟨B, 0, none⟩ (.slice a1 (xs.length + q.len) cp1)) from ⟨hgrow1.os, hgrow1.tape, hgrow1.output, by simp [World.setCell]; exact hgrow1.size, fun k hk => by
                 refine (Below.heap_setCell _ _ _ _ (show k ≠ B by omega)).trans (hgrow1.block k (by omega) fun e => ?_)
                 have := (HO.out.lt k e.symm).1
                 omega⟩)
               clear hown1 hgrow1 hne r1)
  go_end0
  refine ⟨rfl, ⟨_, R1.out, ?_⟩, B1.out⟩
  rw [show (xs ++ q.b).length = xs.length + q.len by rw [List.length_append, HQ.out.hb]]
  exact O1.out
end Go.Proofs.YtjccjlhnjihfjaaDoor

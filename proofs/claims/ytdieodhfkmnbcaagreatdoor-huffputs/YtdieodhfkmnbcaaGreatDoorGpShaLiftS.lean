/-
  A slice of bytes that came in, as the walks ask it.
-/
import Derived.Test.YtdieodhfkmnbcaaGreatDoorGpShaLiftA
import Derived.Test.YtdieodhfkmnbcaaGreatDoorGp1
namespace Go.Proofs.YtdieodhfkmnbcaaGreatDoor
open Go Go.ChangeShapes Go.WideShapes Go.ChangeAt Go.RowKit

structure IsRowB (w : World) (a : Option Addr) (len cap g off : Nat) (b : List By) : Prop where
  hlen : b.length = len
  hmost : len ≤ 9223372036854775807
  hcap : len ≤ cap
  hnil : a = none → len = 0 ∧ cap = 0
  at_ : 0 < len → a = some ⟨g, off, none⟩
  hlt : 0 < len → g < w.heap.size
  hcell : ∀ j : Nat, j < len → w.cell? ⟨g, off + j, none⟩ = some (.int .u8 (v8 (gb b j)))

theorem isRowB_of {w : World} {a : Option Addr} {len cap : Nat} (h : (a = none ∧ len = 0 ∧ cap = 0) ∨ ∃ (x : Addr) (zs : List Int), a = some x ∧ len ≤ cap ∧ cap ≤ maxLen ∧ zs.length = cap ∧ (∀ i, i < zs.length → w.cell? (x.add i) = some (.int .u8 (zs.getD i 0))) ∧ ∀ n ∈ zs, (Lit.int .u8 n).wf = true) :
    ∃ g off b, IsRowB w a len cap g off b := by
  rcases h with ⟨rfl, rfl, rfl⟩ | ⟨x, zs, rfl, hl, hm, hz, hc, hw⟩
  · exact ⟨0, 0, [], rfl, by omega, Nat.le_refl _, fun _ => ⟨rfl, rfl⟩, fun h => by omega, fun h => by omega, fun j h => by omega⟩
  · unfold maxLen at hm
    obtain ⟨g, off, spot⟩ := x
    have hlen : ((zs.take len).map fun z => (BitVec.ofNat 8 z.toNat : By)).length = len := by rw [List.length_map, List.length_take]; omega
    have hsp : 0 < len → spot = none := fun h0 => by
      have hc0 := hc 0 (by omega)
      simpa [Addr.add] using World.cell?_spot hc0
    have hcell : ∀ j : Nat, j < len → w.cell? ⟨g, off + j, none⟩ = some (.int .u8 (v8 (gb ((zs.take len).map fun z => (BitVec.ofNat 8 z.toNat : By)) j))) := fun j hj => by
      obtain rfl := hsp (by omega)
      have h1 := hc j (by omega)
      rw [add_at] at h1
      rw [h1]
      have hjz : j < zs.length := by omega
      have hmem : zs[j]'hjz ∈ zs := List.getElem_mem hjz
      have hb := bounds_u8 (hw _ hmem)
      unfold gb v8
      rw [List.getElem?_map, List.getElem?_take_of_lt hj, List.getElem?_eq_getElem hjz, List.getD_eq_getElem?_getD, List.getElem?_eq_getElem hjz]
      simp only [Option.map_some, Option.getD_some, BitVec.toNat_ofNat]
      congr 2
      omega
    refine ⟨g, off, (zs.take len).map fun z => (BitVec.ofNat 8 z.toNat : By), hlen, by omega, hl, fun h => (by cases h), fun h => by rw [hsp h], fun h => ?_, hcell⟩
    have h1 := hcell 0 h
    rcases Nat.lt_or_ge g w.heap.size with h2 | h2
    · exact h2
    · exfalso
      simp [World.cell?, Array.getElem?_eq_none h2] at h1
end Go.Proofs.YtdieodhfkmnbcaaGreatDoor

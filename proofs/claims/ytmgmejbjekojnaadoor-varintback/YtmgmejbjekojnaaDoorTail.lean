/-
  Bytes behind a row of the call's own; fewer of them.
-/
import Derived.Test.YtmgmejbjekojnaaDoorPutAny
import Derived.Laws.AppendOwnNone
namespace Go.Proofs.YtmgmejbjekojnaaDoor
open Go.RowKit

theorem add_none (b off j : Nat) : (⟨b, off, none⟩ : Addr).add j = ⟨b, off + j, none⟩ := by
  unfold Addr.add
  split
  · rename_i h; rw [h]; rfl
  · rfl

theorem Lies.news {w : World} {ad : Addr} {zs : List Int} (h : Lies w (some ad) zs) : ∀ j u, (zs.map (Value.int .u8))[j]? = some u → w.cell? (ad.add j) = some u := by
  intro j u hu
  rcases h with h | ⟨b, off, e, _, hc⟩
  · rw [h] at hu; simp at hu
  · cases e
    have hj : j < zs.length := by
      rcases Nat.lt_or_ge j zs.length with h | h
      · exact h
      · rw [List.getElem?_eq_none (by simpa using h)] at hu; cases hu
    rw [add_none, hc j hj]
    rw [List.getElem?_map] at hu
    simpa [hj] using hu

theorem one_cells (zs : List Int) : ∀ u ∈ zs.map (Value.int .u8), u.oneCell' = true := by
  intro u hu
  obtain ⟨z, _, rfl⟩ := List.mem_map.1 hu
  rfl

theorem Lies.take {w : World} {a : Option Addr} {zs : List Int} (h : Lies w a zs) (k : Nat) : Lies w a (zs.take k) := by
  rcases h with h | ⟨b, off, rfl, hlt, hc⟩
  · exact .inl (by rw [h]; simp)
  · refine .inr ⟨b, off, rfl, hlt, fun j hj => ?_⟩
    have hj2 : j < zs.length ∧ j < k := by rw [List.length_take] at hj; omega
    rw [hc j hj2.1, List.getElem?_take_of_lt hj2.2]

theorem bytes_take {zs : List Int} (k : Nat) (h : ∀ j : Nat, 0 ≤ zs[j]?.getD 0 ∧ zs[j]?.getD 0 ≤ 255) : ∀ j : Nat, 0 ≤ (zs.take k)[j]?.getD 0 ∧ (zs.take k)[j]?.getD 0 ≤ 255 := by
  intro j
  by_cases hj : j < k
  · rw [List.getElem?_take_of_lt hj]; exact h j
  · rw [List.getElem?_eq_none (by rw [List.length_take]; omega)]; decide

theorem bytes_append {xs ys : List Int} (h : ∀ j : Nat, 0 ≤ xs[j]?.getD 0 ∧ xs[j]?.getD 0 ≤ 255) (h2 : ∀ j : Nat, 0 ≤ ys[j]?.getD 0 ∧ ys[j]?.getD 0 ≤ 255) : ∀ j : Nat, 0 ≤ (xs ++ ys)[j]?.getD 0 ∧ (xs ++ ys)[j]?.getD 0 ≤ 255 := by
  intro j
  by_cases hj : j < xs.length
  · rw [List.getElem?_append_left hj]; exact h j
  · rw [List.getElem?_append_right (by omega)]; exact h2 _

/-- What an append leaves. -/
theorem own_more {base : Nat} {w : World} {v : Value} {n : Nat} {xs ys : List Int} (hn : xs.length + ys.length = n) (hp : 0 < n) (h : w.ownsRow base 5 1 v n (xs.map (Value.int .u8) ++ ys.map (Value.int .u8))) : ∃ g cap, v = .slice (some ⟨g, 0, none⟩) n cap ∧ n ≤ cap ∧ Owns base w g n cap (xs ++ ys) := by
  obtain ⟨k, rfl⟩ : ∃ k, n = k + 1 := ⟨n - 1, by omega⟩
  obtain ⟨g, cap, rfl⟩ := ownsRow_succ h
  have hcap : k + 1 ≤ cap := by
    rcases h.2 with ⟨e, _⟩ | ⟨g', cap', cur, e, _, _, h4, _⟩
    · cases e
    · cases e; exact h4
  exact ⟨g, cap, rfl, hcap, by rw [List.length_append]; exact hn, by rw [List.map_append]; exact h⟩
end Go.Proofs.YtmgmejbjekojnaaDoor

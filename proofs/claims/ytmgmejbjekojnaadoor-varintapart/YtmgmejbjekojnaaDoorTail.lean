/-
  Bytes behind a row of the call's own; fewer of them.
-/
import Derived.Test.YtmgmejbjekojnaaDoorPutAny
import Derived.Laws.AppendOwnNone
import Derived.Deep.RegionLaw
namespace Go.Proofs.YtmgmejbjekojnaaDoor
open Go.RowKit

theorem add_none (b off j : Nat) : (⟨b, off, none⟩ : Addr).add j = ⟨b, off + j, none⟩ := by
  unfold Addr.add
  split
  · rename_i h; rw [h]; rfl
  · rfl

theorem Lies.news {w : World} {ad : Addr} {zs : List Int} (h : Lies w (some ad) zs) : ∀ j u, (zs.map (Value.int .u8))[j]? = some u → w.cell? (ad.add j) = some u := by
  intro j u hu
  rcases h with h | ⟨b, off, e, _, hc⟩
  · rw [h] at hu; simp at hu
  · cases e
    have hj : j < zs.length := by
      rcases Nat.lt_or_ge j zs.length with h | h
      · exact h
      · rw [List.getElem?_eq_none (by simpa using h)] at hu; cases hu
    rw [add_none, hc j hj]
    rw [List.getElem?_map] at hu
    simpa [hj] using hu

theorem one_cells (zs : List Int) : ∀ u ∈ zs.map (Value.int .u8), u.oneCell' = true := by
  intro u hu
  obtain ⟨z, _, rfl⟩ := List.mem_map.1 hu
  rfl

theorem Lies.take {w : World} {a : Option Addr} {zs : List Int} (h : Lies w a zs) (k : Nat) : Lies w a (zs.take k) := by
  rcases h with h | ⟨b, off, rfl, hlt, hc⟩
  · exact .inl (by rw [h]; simp)
  · refine .inr ⟨b, off, rfl, hlt, fun j hj => ?_⟩
    have hj2 : j < zs.length ∧ j < k := by rw [List.length_take] at hj; omega
    rw [hc j hj2.1, List.getElem?_take_of_lt hj2.2]

theorem bytes_take {zs : List Int} (k : Nat) (h : ∀ j : Nat, 0 ≤ zs[j]?.getD 0 ∧ zs[j]?.getD 0 ≤ 255) : ∀ j : Nat, 0 ≤ (zs.take k)[j]?.getD 0 ∧ (zs.take k)[j]?.getD 0 ≤ 255 := by
  intro j
  by_cases hj : j < k
  · rw [List.getElem?_take_of_lt hj]; exact h j
  · rw [List.getElem?_eq_none (by rw [List.length_take]; omega)]; decide

theorem bytes_append {xs ys : List Int} (h : ∀ j : Nat, 0 ≤ xs[j]?.getD 0 ∧ xs[j]?.getD 0 ≤ 255) (h2 : ∀ j : Nat, 0 ≤ ys[j]?.getD 0 ∧ ys[j]?.getD 0 ≤ 255) : ∀ j : Nat, 0 ≤ (xs ++ ys)[j]?.getD 0 ∧ (xs ++ ys)[j]?.getD 0 ≤ 255 := by
  intro j
  by_cases hj : j < xs.length
  · rw [List.getElem?_append_left hj]; exact h j
  · rw [List.getElem?_append_right (by omega)]; exact h2 _

/-- What an append leaves. -/
theorem own_more {base : Nat} {w : World} {v : Value} {n : Nat} {xs ys : List Int} (hn : xs.length + ys.length = n) (hp : 0 < n) (h : w.ownsRow base 5 1 v n (xs.map (Value.int .u8) ++ ys.map (Value.int .u8))) : ∃ g cap, v = .slice (some ⟨g, 0, none⟩) n cap ∧ n ≤ cap ∧ Owns base w g n cap (xs ++ ys) := by
  obtain ⟨k, rfl⟩ : ∃ k, n = k + 1 := ⟨n - 1, by omega⟩
  obtain ⟨g, cap, rfl⟩ := ownsRow_succ h
  have hcap : k + 1 ≤ cap := by
    rcases h.2 with ⟨e, _⟩ | ⟨g', cap', cur, e, _, _, h4, _⟩
    · cases e
    · cases e; exact h4
  exact ⟨g, cap, rfl, hcap, by rw [List.length_append]; exact hn, by rw [List.map_append]; exact h⟩

/-- 'append(b, more...)' onto a row of the call's own: whatever 'more' is. -/
theorem wp_append_bytes {o : Oper} {a : Act} {w : World} {K : Act → World → Prop} {Q : Exit → Act → World → Prop} (s x : Operand)
    (ho : o.op = .call { callee := .builtin .append, args := #[s, x], argTypes := #[22, 22] }) (base g L pc : Nat) (pn : List Int) (hs : a.eval s = .slice (some ⟨g, 0, none⟩) L pc) (hown : Owns base w g L pc pn) (hp : 0 < L)
    (ad : Option Addr) (len cap : Nat) (zs : List Int) (hx : a.eval x = .slice ad len cap) (hnil : ad = none → len = 0 ∧ cap = 0) (hLies : Lies w ad zs) (hz : zs.length = len) (hb : L + len ≤ 140737488355328) (hbase : base ≤ w.heap.size)
    (h : ∀ g' cap' w', Owns base w' g' (L + len) cap' (pn ++ zs) → w.grownBy w' (some g) → K (a.put o.dst (.slice (some ⟨g', 0, none⟩) (L + len) cap')) w') : o.wp Tryd.prog a w K Q := by
  obtain ⟨i0, hi, hz0, hz1, hz2⟩ := info_parts Tryd.infoByte
  cases ad with
  | none =>
    obtain ⟨rfl, rfl⟩ := hnil rfl
    obtain rfl : zs = [] := List.eq_nil_of_length_eq_zero hz
    have hrun := run_append_owned_none (P := Tryd.prog) (w := w) base 22 o.type 5 i0 1 Tryd.underlying22 hi _ L _ hown.2
    unfold Oper.wp
    simp [execOp, ho, resolve, invoke, builtin, hs, hx, hrun, Result.andThen]
    exact h g pc w (by rw [List.append_nil]; exact hown) (World.grownBy.refl _ _)
  | some ad =>
    refine wp_append_own w s x 22 ho base 5 i0 (.int .u8 0) 1 1 Tryd.underlying22 hi hz0 hz1 hz2 rfl (by decide) _ L _ hs hown.2 ad len cap (zs.map (Value.int .u8)) hx (by rw [List.length_map, hz, Nat.mul_one]) hLies.news (one_cells zs) (by unfold maxLen; omega) (by omega) hbase ?_
    intro v' w' h1 h2 _
    obtain ⟨g', cap', rfl, _, h4⟩ := own_more (by rw [hown.1, hz]) (by omega) h1
    exact h g' cap' w' h4 h2

theorem step_append_bytes {ops : Array Oper} {o : Oper} {a : Act} {w : World} {K : Act → World → Prop} {Q : Exit → Act → World → Prop} {E : Prop} (hgd : o.guard = none) (s x : Operand)
    (ho : o.op = .call { callee := .builtin .append, args := #[s, x], argTypes := #[22, 22] }) (base g L pc : Nat) (pn : List Int) (hs : a.eval s = .slice (some ⟨g, 0, none⟩) L pc) (hown : Owns base w g L pc pn) (hp : 0 < L)
    (ad : Option Addr) (len cap : Nat) (zs : List Int) (hx : a.eval x = .slice ad len cap) (hnil : ad = none → len = 0 ∧ cap = 0) (hLies : Lies w ad zs) (hz : zs.length = len) (hb : L + len ≤ 140737488355328) (hbase : base ≤ w.heap.size)
    (h : ∀ g' cap' w', Owns base w' g' (L + len) cap' (pn ++ zs) → w.grownBy w' (some g) → K (a.put o.dst (.slice (some ⟨g', 0, none⟩) (L + len) cap')) w') :
    if Region.wanted o (yielded ops a.tmps) = true then Oper.wp Tryd.prog o a w K Q else E := by
  have hw : Region.wanted o (yielded ops a.tmps) = true := by simp [Region.wanted, hgd]
  rw [if_pos hw]
  exact wp_append_bytes s x ho base g L pc pn hs hown hp ad len cap zs hx hnil hLies hz hb hbase h
end Go.Proofs.YtmgmejbjekojnaaDoor

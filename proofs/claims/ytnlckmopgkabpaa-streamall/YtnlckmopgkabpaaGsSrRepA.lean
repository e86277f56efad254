/-
  slices.Replace, at any place.
-/
import Derived.Test.YtnlckmopgkabpaaGs9
namespace Go.Proofs.Ytnlckmopgkabpaa
open Go Go.RowKit

namespace Sr
/-- slices.Replace of some runs: at any place. -/
theorem rep_any (w : World) {v : Value} {n i j : Nat} {l : List (Nat × Nat)} (h : RowO w 60 2 v n (vr l)) (hl : l.length = n) (hn : n ≤ 1073741824) (hi : i < j) (hj : j ≤ n)
    {sa : Option Addr} {m c : Nat} {vs : List (Nat × Nat)} (hlv : vs.length = m) (hv : RowO w 60 2 (.slice sa m c) m (vr vs)) (hne : ∀ k, (Value.slice sa m c).ownBlock = some k → v.ownBlock ≠ some k) (hm : m ≤ 1073741824) :
    Calls Try.prog 37 #[v, .int .i64 (i : Int), .int .i64 (j : Int), .slice sa m c] w fun e w' =>
      ∃ v', e = .returned v' ∧ RowO w' 60 2 v' (i + m + (n - j)) (vr (l.take i ++ vs ++ l.drop j)) ∧ KeepP (fun b => v.ownBlock = some b) w w' ∧ Stay v v' w := by
  obtain ⟨va, vc, rfl, hnc, hcm⟩ := h.shape
  rcases h.2 with ⟨h3, rfl⟩ | ⟨g, o, cap, cur, h3, h4, h5, h6, h7, h8⟩
  · omega
  · injection h3 with e1 e2 e3
    subst e1 e3
    have hvs : VS w g sa m c vs := ⟨hlv, hv, fun k hk e => hne k hk (by rw [e]; rfl)⟩
    have kb : ∀ {W W' : World}, KeepP (fun k => k = g) W W' → KeepP (fun b => (Value.slice (some ⟨g, o, none⟩) n vc).ownBlock = some b) W W' := fun h => h.mono (fun k e => by rw [e]; rfl)
    by_cases hjn : j = n
    · subst hjn
      rw [Nat.sub_self, Nat.add_zero, List.drop_eq_nil_of_le (by omega), List.append_nil]
      by_cases hroom : i + m ≤ vc
      · refine (rep_tail w h hl (by omega) hvs hroom).mono ?_
        rintro e' w' ⟨v', rfl, a1, a2, a3⟩
        exact ⟨v', rfl, a1, kb a2, fun k hk => by rw [a3] at hk; exact .inl hk⟩
      · refine (rep_tail_grow w h hl hn (by omega) hvs hm (by omega)).mono ?_
        rintro e' w' ⟨v', rfl, a1, a2, a3⟩
        exact ⟨v', rfl, a1, kb a2, a3⟩
    · by_cases hroom : i + m + (n - j) ≤ vc
      · by_cases hlow : i + m ≤ j
        · refine (rep_low w h hl hn hi (by omega) hvs hm hroom hlow).mono ?_
          rintro e' w' ⟨v', rfl, a1, a2, a3⟩
          exact ⟨v', rfl, a1, kb a2, fun k hk => by rw [a3] at hk; exact .inl hk⟩
        · refine (rep_high w h hl hn hi (by omega) hvs hm hroom (by omega)).mono ?_
          rintro e' w' ⟨v', rfl, a1, a2, a3⟩
          exact ⟨v', rfl, a1, kb a2, fun k hk => by rw [a3] at hk; exact .inl hk⟩
      · refine (rep_grow w h hl hn hi (by omega) hvs hm (by omega)).mono ?_
        rintro e' w' ⟨v', rfl, a1, a2, a3⟩
        exact ⟨v', rfl, a1, kb a2, fun k hk => by rw [a3] at hk; injection hk with hk; exact .inr (by omega)⟩
end Sr
end Go.Proofs.Ytnlckmopgkabpaa

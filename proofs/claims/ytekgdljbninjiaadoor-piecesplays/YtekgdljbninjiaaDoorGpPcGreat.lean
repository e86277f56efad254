/-
  Whether operations are more than is gone through.
-/
import Derived.Test.YtekgdljbninjiaaDoorGpPcMemO
import Derived.BigQuiet
namespace Go.Proofs.YtekgdljbninjiaaDoor
open Go Go.RowKit

theorem OL.Ok.cells {w : World} {s : OL} (h : s.Ok w) {j : Nat} (hj : j < s.len) : w.cell? ⟨s.g, s.off + j * 4, none⟩ = some (.int .u64 ((go s.l j).at_ : Int)) ∧ w.cell? ⟨s.g, s.off + j * 4 + 1, none⟩ = some (.slice (go s.l j).b.a (go s.l j).b.len (go s.l j).b.cap) ∧ w.cell? ⟨s.g, s.off + j * 4 + 2, none⟩ = some (.bool (go s.l j).last) ∧ w.cell? ⟨s.g, s.off + j * 4 + 3, none⟩ = some (.int .i64 (go s.l j).take) :=
  ⟨h.cell j hj 0 _ rfl, h.cell j hj 1 _ rfl, h.cell j hj 2 _ rfl, h.cell j hj 3 _ rfl⟩
set_option maxRecDepth 20000 in
set_option maxHeartbeats 1000000 in
theorem great_any (s : OL) (w : World) (h : s.Ok w) (hl : s.len ≤ 140737488355328) (hb : ∀ j, j < s.len → (go s.l j).b.len ≤ 140737488355328) :
    Calls Tryd.prog 4 #[.slice s.a s.len s.cap] w fun e w' => (e = .returned (.bool true) ∨ e = .returned (.bool false) ∧ s.len ≤ 100000 ∧ ∀ j, j < s.len → (go s.l j).b.len ≤ 100000) ∧ w' = w := by
  have HP := veil h
  have HBL := veil hb
  have HLL := veil hl
  clear h hb hl
  go_enter Tryd.func4, Tryd.ntmps4
  go_wp2_with fail
  go_loopw [3, 4] (fun nv iv wr => ∃ k N : Nat, k ≤ s.len ∧ iv = .int .i64 (k : Int) ∧ nv = .int .i64 (N : Int) ∧ N ≤ 281474976710656 ∧ s.len ≤ N ∧ (∀ j, j < k → (go s.l j).b.len ≤ N) ∧ w = wr)
    (fun _ iv _ => s.len - (intOf iv).toNat)
  case atStart => exact ⟨0, s.len, Nat.zero_le _, rfl, rfl, by have := HLL.out; omega, Nat.le_refl _, fun j hj => absurd hj (Nat.not_lt_zero _), rfl⟩
  case round =>
    obtain ⟨k, N, hk, rfl, rfl, hN, hlN, hall, hw⟩ := hrel
    subst hw
    by_cases hlt : k < s.len
    · by_cases hn : N ≤ 100000
      · have e1 : s.a = some ⟨s.g, s.off, none⟩ := HP.out.at_ (by omega)
        obtain ⟨_, c1, _, _⟩ := HP.out.cells hlt
        have hbl := HBL.out k hlt
        obtain ⟨L, hL⟩ : ∃ L, L = (go s.l k).b.len := ⟨_, rfl⟩
        rw [← hL] at c1 hbl
        have HS := veil (show ∀ j, j < k + 1 → (go s.l j).b.len ≤ N + L from fun j hj => by
          rcases Nat.lt_or_ge j k with e | e
          · have := hall j e; omega
          · obtain rfl : j = k := by omega
            omega)
        have hw1 : IntKind.i64.wrap ((N : Int) + (L : Int)) = ((N + L : Nat) : Int) := by rw [IntKind.wrap_i64]; omega
        have hw2 : IntKind.i64.wrap ((k : Int) + 1) = ((k + 1 : Nat) : Int) := by rw [IntKind.wrap_i64]; have := HLL.out; omega
        have HA := veil hlN
        clear hall hL hlN
        rw [e1]
        generalize (go s.l k).b.a = ba at *
        generalize (go s.l k).b.cap = bc at *
        go_wp2
        go_roundw
        case rel => exact ⟨k + 1, N + L, hlt, by go_num, by go_num, by omega, by have := HA.out; omega, HS.out, trivial⟩
        case measure => simp [intOf]; omega
      · have HH := veil hn
        clear hall
        go_wp2
        go_ret
        exact ⟨.inl (by congr 1), rfl⟩
    · obtain rfl : s.len = k := by omega
      by_cases hn : N ≤ 100000
      · have HS := veil (show s.len ≤ 100000 ∧ ∀ j, j < s.len → (go s.l j).b.len ≤ 100000 from ⟨by omega, fun j hj => by have := hall j hj; omega⟩)
        clear hall
        go_wp2
        go_ret
        exact ⟨.inr ⟨by congr 1; simp; try omega, HS.out⟩, rfl⟩
      · clear hall
        go_wp2
        go_ret
        exact ⟨.inl (by congr 1; simp; try omega), rfl⟩
end Go.Proofs.YtekgdljbninjiaaDoor

/-
  The document's search among the fixed fields.
-/
import Derived.Test.YtoajnhngcfjohaaTbFix
namespace Go.Proofs.Ytoajnhngcfjohaa
open Go Go.RowKit

namespace Tb
theorem fds_get2 {l : List Fd} {j : Nat} {g : Fd} (h : l[j]? = some g) : (fds l)[j * 2]? = some (.string g.1) ∧ (fds l)[j * 2 + 1]? = some (.string g.2) :=
  ⟨by have := fds_get l j g 0 h (by omega); rw [Nat.add_zero] at this; exact this, by have := fds_get l j g 1 h (by omega); exact this⟩
/-- Does a field bear a name? -/
def hasN (f : Fd) : Fd → Bool := fun g => g.1.toList == f.1.toList
def hasF (f : Fd) : Fd → Bool := fun g => g.1.toList == f.1.toList && g.2.toList == f.2.toList
set_option maxRecDepth 100000 in
set_option maxHeartbeats 4000000 in
theorem ref_find (f : Fd) (w : World) : Calls Try.prog 10 #[.agg f.cells] w fun e w' => e = .returned (.tuple #[.int .i64 (firstI (hasF f) fixL 0), .int .i64 (firstI (hasN f) fixL 0)]) ∧ Below w.heap.size w w' := by
  obtain ⟨fa, fb⟩ := f
  go_enter Try.func10, Try.ntmps10
  go_wp2_with fail
  refine (ref_fixed _).mono ?_
  rintro e1 w1 ⟨rfl, hw1⟩
  have hb1 : Below w.heap.size w w1 := by
    rw [hw1]
    exact ((Below.refl w.heap.size w).alloc (Nat.le_refl _) _).alloc (by simp) _
  have hR : Row w1 (w.alloc (.cells (Fd.cells (fa, fb)) 23)).heap.size 23 (fds fixL).toArray := by rw [hw1]; exact Row.new _ _ _
  have hF : Row w1 w.heap.size 23 (Fd.cells (fa, fb)) := by rw [hw1]; exact (Row.new w _ _).alloc _
  have HB := veil hb1
  have HR := veil hR
  have HF := veil hF
  clear hb1 hR hF hw1
  generalize (w.alloc (.cells (Fd.cells (fa, fb)) 23)).heap.size = b1 at *
  generalize hb0 : w.heap.size = b0 at *
  have hL := fixL_length
  go_wp2_with fail
  go_loopw [5, 6, 7] (fun wv nv iv wr => ∃ (k : Nat) (j X Y : Int), k ≤ 99 ∧ iv = .int .i64 j ∧ j = (k : Int) - 1 ∧ wv = .int .i64 X ∧ nv = .int .i64 Y ∧ firstI (hasF (fa, fb)) (fixL.drop k) k = X ∧ firstI (hasN (fa, fb)) (fixL.drop k) k = Y ∧ ∃ m, wr = w1.drewN m)
    (fun _ _ iv _ => (intOf iv + 1).toNat)
  case atStart => exact ⟨99, 98, -1, -1, Nat.le_refl _, rfl, rfl, rfl, rfl, by rw [← hL, List.drop_length]; rfl, by rw [← hL, List.drop_length]; rfl, 0, rfl⟩
  case round =>
    obtain ⟨k, j, X, Y, hk, rfl, hj, rfl, rfl, hX, hY, m, rfl⟩ := hrel
    rcases Nat.eq_zero_or_pos k with h0 | h0
    · subst h0
      obtain rfl : j = -1 := by omega
      clear hj hk
      have HX := veil hX
      have HY := veil hY
      clear hX hY hL
      go_wp2_with fail
      go_ret2
      exact ⟨by rw [← HX.out, ← HY.out]; rfl, by rw [hb0]; exact HB.out.trans (below_drewN (Below.refl _ _) m)⟩
    · obtain ⟨q, rfl⟩ : ∃ q, k = q + 1 := ⟨k - 1, by omega⟩
      obtain rfl : j = (q : Int) := by omega
      clear hj
      obtain ⟨g, hg⟩ : ∃ g, fixL[q]? = some g := ⟨_, List.getElem?_eq_getElem (by omega)⟩
      have d1 := firstI_drop (p := hasF (fa, fb)) hg
      have d2 := firstI_drop (p := hasN (fa, fb)) hg
      have hs := fds_get2 hg
      have x0 : w1.cell? ⟨b1, q * 2, none⟩ = some (.string g.1) := (HR.out.cell (q * 2)).trans (by simpa using hs.1)
      have x1 : w1.cell? ⟨b1, q * 2 + 1, none⟩ = some (.string g.2) := (HR.out.cell (q * 2 + 1)).trans (by simpa using hs.2)
      have y0 : w1.cell? ⟨b0, 0, none⟩ = some (.string fa) := HF.out.cell 0
      have y1 : w1.cell? ⟨b0, 1, none⟩ = some (.string fb) := HF.out.cell 1
      have bq : (q : Int) < 99 := by omega
      have z0 : (0 : Int) ≤ (q : Int) := by omega
      have w5 : IntKind.i64.wrap ((q : Int) - 1) = (q : Int) - 1 := by rw [IntKind.wrap_i64]; omega
      rw [hX] at d1
      rw [hY] at d2
      have e1 : hasN (fa, fb) g = (g.1.toList == fa.toList) := rfl
      have e2 : hasF (fa, fb) g = (g.1.toList == fa.toList && g.2.toList == fb.toList) := rfl
      have D1 := veil d1
      have D2 := veil d2
      have hg' := veil hg
      clear hs hX hY d1 d2 hg hL
      cases hn : (g.1.toList == fa.toList)
      · have D3 := veil (show firstI (hasF (fa, fb)) (fixL.drop q) q = X from by rw [D1.out, e2, hn]; rfl)
        have D4 := veil (show firstI (hasN (fa, fb)) (fixL.drop q) q = Y from by rw [D2.out, e1, hn]; rfl)
        clear D1 D2 e1 e2
        go_wp2_with fail
        go_quiet (fail)
        go_wp2_with fail
        go_roundw
        case rel => exact ⟨q, (q : Int) - 1, X, Y, by omega, (by first | rfl | go_num), rfl, rfl, rfl, D3.out, D4.out, _, rfl⟩
        case measure => show ((q : Int) - 1 + 1).toNat < ((q : Int) + 1).toNat; omega
      · have D4 := veil (show firstI (hasN (fa, fb)) (fixL.drop q) q = (q : Int) from by rw [D2.out, e1, hn]; rfl)
        cases hv : (g.2.toList == fb.toList)
        · have D3 := veil (show firstI (hasF (fa, fb)) (fixL.drop q) q = X from by rw [D1.out, e2, hn, hv]; rfl)
          clear D1 D2 e1 e2
          go_wp2_with fail
          go_quiet (fail)
          go_wp2_with fail
          go_quiet (fail)
          go_wp2_with fail
          go_roundw
          case rel => exact ⟨q, (q : Int) - 1, X, (q : Int), by omega, (by first | rfl | go_num), rfl, rfl, rfl, D3.out, D4.out, _, rfl⟩
          case measure => show ((q : Int) - 1 + 1).toNat < ((q : Int) + 1).toNat; omega
        · have D3 := veil (show firstI (hasF (fa, fb)) (fixL.drop q) q = (q : Int) from by rw [D1.out, e2, hn, hv]; rfl)
          clear D1 D2 e1 e2
          go_wp2_with fail
          go_quiet (fail)
          go_wp2_with fail
          go_quiet (fail)
          go_wp2_with fail
          go_roundw
          case rel => exact ⟨q, (q : Int) - 1, (q : Int), (q : Int), by omega, (by first | rfl | go_num), rfl, rfl, rfl, D3.out, D4.out, _, rfl⟩
          case measure => show ((q : Int) - 1 + 1).toNat < ((q : Int) + 1).toNat; omega
end Tb
end Go.Proofs.Ytoajnhngcfjohaa

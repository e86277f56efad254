/-
  What chacha.Xor answers, at any bytes.
-/
import Derived.Test.YtffokggejbmadaaGreatDoorGzChaXor
namespace Go.Proofs.YtffokggejbmadaaGreatDoor
open Go Go.RowKit

set_option maxRecDepth 20000 in
set_option maxHeartbeats 400000 in
theorem xor_limit (key : List By) (count : Wd) (nonce : List By) (b : SL) (w : World) (h : Great count b.len) :
    Calls Tryz.prog 65 #[.agg (bs key), .int .u32 (u count), .agg (bs nonce), .slice b.a b.len b.cap] w fun e w' => e = .returned (.tuple #[.slice none 0 0, .int .i64 3]) ∧ Below w.heap.size w w' := by
  have HH := (show Hid (Great count b.len) from h)
  clear h
  have b0 : Below w.heap.size w (((w.alloc (.cells (bs key) 49)).alloc (.cells (bs nonce) 50)).alloc (.cells #[.slice b.a b.len b.cap] 22)) := (((Below.refl _ w).alloc (Nat.le_refl _) _).alloc (by simp) _).alloc (by simp; omega) _
  have c2 : (((w.alloc (.cells (bs key) 49)).alloc (.cells (bs nonce) 50)).alloc (.cells #[.slice b.a b.len b.cap] 22)).cell? ⟨w.heap.size + 1 + 1, 0, none⟩ = some (.slice b.a b.len b.cap) := (Row.new2 w _ _ 22 _).cell 0
  have hb0 := veil b0
  clear b0
  go_enter Tryz.func65, Tryz.ntmps65
  by_cases h1 : (1048576 : Int) < (b.len : Int)
  · go_wp2_with fail
    go_ret2
    exact ⟨rfl, hb0.out⟩
  · have hl1 : decide ((1048576 : Int) < (b.len : Int)) = false := by rw [decide_eq_false_iff_not]; exact h1
    have h2 : decide ((4294967296 : Int) - u count < ((b.len : Int) + 63) / 64) = true := by
      rw [decide_eq_true_iff]
      rcases HH.out with h | h <;> omega
    go_wp2_with fail
    refine (blocksOf_any b.len (by omega) _).mono ?_
    rintro e1 w1 ⟨rfl, hw⟩
    rw [hw]
    clear hw w1
    go_wp2_with fail
    refine (countsLeft_any count _).mono ?_
    rintro e1 w1 ⟨rfl, hw⟩
    rw [hw]
    clear hw w1
    go_wp2_with fail
    go_ret2
    exact ⟨rfl, hb0.out⟩

/-- Whether Xor answers, in one shape: the answer, and its error. -/
theorem xor_cases (key : List By) (count : Wd) (nonce : List By) (hk : key.length = 32) (hn : nonce.length = 12) (b : SL) (w : World) (hg : Glob w) (hb : b.Ok w) :
    (Great count b.len ∧ Calls Tryz.prog 65 #[.agg (bs key), .int .u32 (u count), .agg (bs nonce), .slice b.a b.len b.cap] w fun e w' => e = .returned (.tuple #[.slice none 0 0, .int .i64 3]) ∧ Below w.heap.size w w') ∨
    (¬ Great count b.len ∧ Calls Tryz.prog 65 #[.agg (bs key), .int .u32 (u count), .agg (bs nonce), .slice b.a b.len b.cap] w fun e w' => ∃ g, e = .returned (.tuple #[.slice (some ⟨g, 0, none⟩) b.len b.len, .int .i64 0]) ∧ w'.ownsRow w.heap.size 5 1 (.slice (some ⟨g, 0, none⟩) b.len b.len) b.len (vb (xorL key count nonce b.b)) ∧ Below w.heap.size w w') := by
  by_cases h : Great count b.len
  · exact .inl ⟨h, xor_limit key count nonce b w h⟩
  · refine .inr ⟨h, xor_ok key count nonce hk hn b w hg hb ?_ ?_⟩
    · unfold Great at h; omega
    · unfold Great at h; omega
end Go.Proofs.YtffokggejbmadaaGreatDoor

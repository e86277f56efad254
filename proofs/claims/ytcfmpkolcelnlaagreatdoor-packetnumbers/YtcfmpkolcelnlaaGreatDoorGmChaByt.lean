/-
  What chacha.bytesOf answers.
-/
import Derived.Test.YtcfmpkolcelnlaaGreatDoorRows
import Derived.Test.YtcfmpkolcelnlaaGreatDoorGm2
namespace Go.Proofs.YtcfmpkolcelnlaaGreatDoor
open Go Go.RowKit
set_option maxRecDepth 20000 in
set_option maxHeartbeats 400000 in
theorem chaBytesOf_any (s : List Wd) (hs : s.length = 16) (w : World) :
    Calls Tryz.prog 166 #[.agg (ws s)] w fun e w' => e = .returned (.agg (bs (bytesL s))) ∧ Below w.heap.size w w' := by
  have HS : Hid (s.length = 16) := hs
  clear hs
  go_enter Tryz.func166, Tryz.ntmps166
  go_wp2
  go_loopw [5] (fun i wr => ∃ k : Nat, k ≤ 64 ∧ i = .int .i64 k ∧ Row wr w.heap.size 235 (ws s) ∧ Row wr (w.heap.size + 1) 216 (bs (List.replicate 64 0)) ∧ Row wr (w.heap.size + 1 + 1) 216 (bs ((bytesL s).take k ++ List.replicate (64 - k) 0)) ∧ Below w.heap.size w wr)
    (fun i _ => 64 - (intOf i).toNat)
  case atStart =>
    exact ⟨0, by omega, rfl, ((Row.new _ _ _).alloc _).alloc _, (Row.new1 _ _ _ (bs (List.replicate 64 0))).alloc _, Row.new2 _ _ _ _ (bs (List.replicate 64 0)), (((Below.refl _ w).alloc (Nat.le_refl _) _).alloc (by simp) _).alloc (by simp; omega) _⟩
  case round =>
    obtain ⟨k, hk, rfl, r0, r1, r2, hbel⟩ := hrel
    by_cases hlt : k < 64
    · obtain ⟨q, r, hr, rfl⟩ : ∃ q r, r < 4 ∧ k = 4 * q + r := ⟨k / 4, k % 4, by omega, by omega⟩
      have c0 := r0.cellW (j := q) (by rw [HS.out]; omega)
      have hu0 := u_nn (gw s q)
      have hu1 := u_le (gw s q)
      obtain ⟨v, hv⟩ : ∃ v, wr.cell? ⟨w.heap.size + 1 + 1, 4 * q + r, none⟩ = some v := ⟨_, r2.cellB (by simp [bytesL_length]; omega)⟩
      have f2 := r2.frozen (4 * q + r)
      have e1 : (4 * (q : Int) + (r : Int)) / 4 = (q : Int) := by omega
      have e2 : (4 * (q : Int) + (r : Int)) % 4 = (r : Int) := by omega
      have HG := fill_set (bytesL s) 0 (4 * q + r) 64 (bytesL_length s) hlt _ (bytesL_get s (4 * q + r) hlt)
      rw [show (4 * q + r) / 4 = q by omega, show (4 * q + r) % 4 = r by omega] at HG
      have HG' : Hid (((bytesL s).take (4 * q + r) ++ List.replicate (64 - (4 * q + r)) 0).set (4 * q + r) (loOf (gw s q) r) = (bytesL s).take (4 * q + r + 1) ++ List.replicate (64 - (4 * q + r + 1)) 0) := HG
      clear HG
      go_wp2
      go_roundw
      case rel =>
        have ew : u (gw s q) / 2 ^ (8 * r) % 256 = v8 (loOf (gw s q) r) := by rw [wsr]; exact v8_loOf _ _
        rw [ew]
        refine ⟨4 * q + r + 1, by omega, by go_num, r0.other (by show w.heap.size ≠ w.heap.size + 1 + 1; omega) _, r1.other (by show w.heap.size + 1 ≠ w.heap.size + 1 + 1; omega) _, ?_, hbel.setCell (p := ⟨w.heap.size + 1 + 1, 4 * q + r, none⟩) (by show w.heap.size ≤ w.heap.size + 1 + 1; omega) _⟩
        have := r2.set (4 * q + r) (.int .u8 (v8 (loOf (gw s q) r)))
        rw [bs_set, HG'.out] at this
        exact this
      case measure => simp [intOf]; omega
    · obtain rfl : k = 64 := by omega
      have r3 : Row wr (w.heap.size + 1 + 1) 216 (bs (bytesL s)) := by
        have := r2
        rw [List.take_of_length_le (by rw [bytesL_length]; omega)] at this
        simpa using this
      clear r2
      go_wp2_with (first
        | (refine load_row rfl 216 _ rfl (w.heap.size + 1 + 1) rfl _ _ r3 64 5 Tryz.underlying216 (by kernel_rfl) (by rw [bs_size, bytesL_length]) ?_)
        | (refine store_row rfl 216 _ _ rfl (w.heap.size + 1) (bs (bytesL s)) rfl rfl _ _ r1 64 (by kernel_rfl) (by rw [bs_size, List.length_replicate]) (by rw [bs_size, bytesL_length]) (bs_one _) ?_))
      refine bodyPost_ret (result_row rfl _ _ (w.heap.size + 1) _ _ (r1.put _) 64 5 rfl Tryz.underlying216 (by kernel_rfl) (by rw [bs_size, bytesL_length])) rfl ⟨rfl, bSetRow hbel (by omega) _⟩
end Go.Proofs.YtcfmpkolcelnlaaGreatDoor

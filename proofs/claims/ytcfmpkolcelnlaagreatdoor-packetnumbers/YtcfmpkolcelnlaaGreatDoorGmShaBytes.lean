/-
  What sha.asBytes answers.
-/
import Derived.Test.YtcfmpkolcelnlaaGreatDoorRows
import Derived.Test.YtcfmpkolcelnlaaGreatDoorGm1
namespace Go.Proofs.YtcfmpkolcelnlaaGreatDoor
open Go.RowKit
set_option maxRecDepth 20000 in
set_option maxHeartbeats 400000 in
theorem asBytes_any (s : List Wd) (hs : s.length = 8) (w : World) :
    Calls Tryz.prog 215 #[.agg (ws s)] w fun e w' => e = .returned (.agg (bs (sumB s))) ∧ Below w.heap.size w w' := by
  have HS : Hid (s.length = 8) := hs
  clear hs
  go_enter Tryz.func215, Tryz.ntmps215
  go_wp2
  go_loopw [5] (fun i wr => ∃ k : Nat, k ≤ 32 ∧ i = .int .i64 k ∧ Row wr w.heap.size 288 (ws s) ∧ Row wr (w.heap.size + 1) 112 (bs (List.replicate 32 0)) ∧ Row wr (w.heap.size + 1 + 1) 112 (bs ((sumB s).take k ++ List.replicate (32 - k) 0)) ∧ Below w.heap.size w wr)
    (fun i _ => 32 - (intOf i).toNat)
  case atStart =>
    refine ⟨0, by omega, rfl, ((Row.new _ _ _).alloc _).alloc _, ?_, ?_, ?_⟩
    · have := (Row.new (w.alloc (.cells (ws s) 288)) 112 (bs (List.replicate 32 0))).alloc (.cells (bs (List.replicate 32 0)) 112)
      rw [World.size_alloc] at this
      exact this
    · have := Row.new ((w.alloc (.cells (ws s) 288)).alloc (.cells (bs (List.replicate 32 0)) 112)) 112 (bs (List.replicate 32 0))
      simp only [World.size_alloc] at this
      exact this
    · exact (((Below.refl _ w).alloc (Nat.le_refl _) _).alloc (by simp) _).alloc (by simp; omega) _
  case round =>
    obtain ⟨k, hk, rfl, r0, r1, r2, hbel⟩ := hrel
    by_cases hlt : k < 32
    · obtain ⟨q, r, hr, rfl⟩ : ∃ q r, r < 4 ∧ k = 4 * q + r := ⟨k / 4, k % 4, by omega, by omega⟩
      have c0 := r0.cellW (j := q) (by rw [HS.out]; omega)
      have hu0 := u_nn (gw s q)
      have hu1 := u_le (gw s q)
      obtain ⟨v, hv⟩ : ∃ v, wr.cell? ⟨w.heap.size + 1 + 1, 4 * q + r, none⟩ = some v := ⟨_, r2.cellB (by simp [sumB_length]; omega)⟩
      have f2 := r2.frozen (4 * q + r)
      have e1 : (4 * (q : Int) + (r : Int)) / 4 = (q : Int) := by omega
      have e2 : (4 * (q : Int) + (r : Int)) % 4 = (r : Int) := by omega
      go_wp2
      go_roundw
      case rel =>
        have ew : u (gw s q) / 2 ^ (24 - 8 * r) % 256 = v8 (byteOf (gw s q) r) := by rw [wsr]; exact v8_byteOf _ _
        rw [ew]
        refine ⟨4 * q + r + 1, by omega, by go_num, r0.other (by show w.heap.size ≠ w.heap.size + 1 + 1; omega) _, r1.other (by show w.heap.size + 1 ≠ w.heap.size + 1 + 1; omega) _, ?_, hbel.setCell (p := ⟨w.heap.size + 1 + 1, 4 * q + r, none⟩) (by show w.heap.size ≤ w.heap.size + 1 + 1; omega) _⟩
        have := r2.set (4 * q + r) (.int .u8 (v8 (byteOf (gw s q) r)))
        rw [bs_set, fill_set (sumB s) 0 (4 * q + r) 32 (sumB_length s) hlt _ (by rw [sumB_get s _ hlt, show (4 * q + r) / 4 = q by omega, show (4 * q + r) % 4 = r by omega])] at this
        exact this
      case measure => simp [intOf]; omega
    · obtain rfl : k = 32 := by omega
      have r3 : Row wr (w.heap.size + 1 + 1) 112 (bs (sumB s)) := by
        have := r2
        rw [List.take_of_length_le (by rw [sumB_length]; omega)] at this
        simpa using this
      clear r2
      go_wp2_with (first
        | (refine load_row rfl 112 _ rfl (w.heap.size + 1 + 1) rfl _ _ r3 32 5 Tryz.underlying112 (by kernel_rfl) (by rw [bs_size, sumB_length]) ?_)
        | (refine store_row rfl 112 _ _ rfl (w.heap.size + 1) (bs (sumB s)) rfl rfl _ _ r1 32 (by kernel_rfl) (by rw [bs_size, List.length_replicate]) (by rw [bs_size, sumB_length]) (bs_one _) ?_))
      refine bodyPost_ret (result_row rfl _ _ (w.heap.size + 1) _ _ (r1.put _) 32 5 rfl Tryz.underlying112 (by kernel_rfl) (by rw [bs_size, sumB_length])) rfl ⟨rfl, bSetRow hbel (by omega) _⟩
end Go.Proofs.YtcfmpkolcelnlaaGreatDoor

/-
  What Len answers.
-/
import Derived.Test.YtiecpkkklefjdaaGreatDoorGuHfSizes
import Derived.Test.YtiecpkkklefjdaaGreatDoorGuHfStr
namespace Go.Proofs.YtiecpkkklefjdaaGreatDoor
open Go Go.RowKit

set_option maxRecDepth 20000 in
set_option maxHeartbeats 1000000 in
theorem len_any (s : ByteArray) (hl : s.size ≤ 4194304) (w : World) : Calls Tryz.prog 12 #[.string s] w fun e w' => e = .returned (.int .i64 (Hf.packN (Hf.txt (bOf s)) : Int)) ∧ Below w.heap.size w w' := by
  have hs0 := size_sizes
  have hz0 := zero_sizes
  have h1 : (ia Hf.szL).size = 257 := by rw [ia_size, Hf.sz_len]
  have h2 := ia_one Hf.szL
  have h0 := zI_size
  go_enter Tryz.func12, Tryz.ntmps12
  go_wp2_with fail
  refine (wordSizes_any w).mono ?_
  rintro e1 w1 ⟨rfl, hb1⟩
  go_wp2_with (first
    | (with_reducible (show wpList _ _ _ (⟨_, Op.alloc 56, _, _, _, _⟩ :: _) _ _)
       refine alloc_rowH rfl 56 rfl (ia zI) hz0 ?_)
    | (with_reducible (show wpList _ _ _ (⟨_, Op.store 56 _ _, _, _, _, _⟩ :: _) _ _)
       refine store_new (w := w1) rfl 56 _ _ rfl w1.heap.size (ia Hf.szL) rfl rfl 56 (ia zI) rfl 257 hs0 h0 h1 h2 ?_))
  have R : Row (w1.alloc (.cells (ia Hf.szL) 56)) w1.heap.size 56 (ia Hf.szL) := Row.new _ _ _
  have b2 := hb1.alloc hb1.size (.cells (ia Hf.szL) 56)
  generalize (w1.alloc (.cells (ia Hf.szL) 56)) = w2 at *
  generalize w1.heap.size = B at *
  have HL := veil (bOf_length s)
  go_loopw [4, 9] (fun m i wr => ∃ k N : Nat, k ≤ s.size ∧ i = .int .i64 k ∧ m = .int .i64 N ∧ N = (Hf.txt ((bOf s).take k)).length ∧ w2 = wr)
    (fun _ i _ => s.size - (intOf i).toNat)
  case atStart => exact ⟨0, 0, by omega, rfl, rfl, rfl, rfl⟩
  case round =>
    obtain ⟨k, N, hk, rfl, rfl, hN, rfl⟩ := hrel
    have hle := Hf.txt_length_le ((bOf s).take k)
    rw [← hN, List.length_take, HL.out] at hle
    by_cases hlt : k < s.size
    · have hix := fun W => run_strIx (P := Tryz.prog) Tryz.underlying9 s k hlt W
      have hx := (gb (bOf s) k).isLt
      have e8 : v8 (gb (bOf s) k) = ((gb (bOf s) k).toNat : Int) := rfl
      have HT := veil (txt_take (bOf s) (k := k) (by rw [HL.out]; exact hlt))
      have hw := Hf.word_ok (i := (gb (bOf s) k).toNat) (by omega)
      have HN := veil hN
      rw [e8] at hix
      generalize (gb (bOf s) k).toNat = x at *
      have c := R.cellI (j := x) (by rw [Hf.sz_len]; omega)
      rw [Hf.gn_sz] at c
      have h30 := hw.2.1
      clear hw hN e8
      go_wp2
      go_roundw
      case rel => exact ⟨k + 1, N + Hf.sz x, by omega, by go_num, by go_num, by rw [HT.out, List.length_append, Hf.wb_length, ← HN.out], by first | trivial | rfl⟩
      case measure => simp [intOf]; omega
    · obtain rfl : k = s.size := by omega
      rw [List.take_of_length_le (by rw [HL.out]; omega)] at hN
      have HN := veil hN
      have hle2 : N ≤ 125829120 := by omega
      clear hN hle hlt
      go_wp2
      go_ret
      refine ⟨?_, b2⟩
      unfold Hf.packN
      rw [← HN.out]
      rfl
end Go.Proofs.YtiecpkkklefjdaaGreatDoor

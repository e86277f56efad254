/-
  What firsts answers.
-/
import Derived.Test.YtiecpkkklefjdaaGreatDoorGuHfSizes
import Derived.Test.YtiecpkkklefjdaaGreatDoorGuHfTab
import Derived.Test.YtiecpkkklefjdaaGreatDoorGu1
import Derived.Test.YtiecpkkklefjdaaGreatDoorGuHfLoop
import Derived.Deep.QuietTactic
import Derived.BigQuiet
import Derived.BigRegion
namespace Go.Proofs.YtiecpkkklefjdaaGreatDoor
open Go Go.RowKit

theorem zero_firsts : (Tryz.prog.info? 159).map (·.zero) = some (some (.agg (ua zU))) := by kernel_rfl
theorem size_firsts : (Tryz.prog.info? 159).map (·.size) = some 31 := by kernel_rfl

set_option maxRecDepth 20000 in
set_option maxHeartbeats 1000000 in
theorem firsts_any (w : World) : Calls Tryz.prog 103 #[.agg (ia Hf.szL)] w fun e w' => e = .returned (.agg (ua Hf.firstL)) ∧ Below w.heap.size w w' := by
  have hs := size_firsts
  have hz := zero_firsts
  have hs0 := size_sizes
  have h1 : (ia Hf.szL).size = 257 := by rw [ia_size, Hf.sz_len]
  have R0 : Row (w.alloc (.cells (ia Hf.szL) 56)) w.heap.size 56 (ia Hf.szL) := Row.new _ _ _
  go_enter Tryz.func103, Tryz.ntmps103
  go_wp2_with (first
    | (with_reducible (show wpList _ _ _ (⟨_, Op.alloc 159, _, _, _, _⟩ :: _) _ _)
       refine alloc_rowH rfl 159 rfl (ua zU) hz ?_)
    | (with_reducible (show wpList _ _ _ (⟨_, Op.load 56 _, _, _, _, _⟩ :: _) _ _)
       refine load_row rfl 56 _ rfl w.heap.size rfl _ _ ((R0.alloc _).alloc _) 257 3 Tryz.underlying56 hs0 h1 ?_))
  go_loopw [9] (fun i wr => ∃ k : Nat, k ≤ 257 ∧ i = .int .i64 k ∧ Row wr (w.heap.size + 1) 159 (ua zU) ∧ Row wr (w.heap.size + 1 + 1) 159 (ua (Hf.manyTo k)) ∧ Below w.heap.size w wr ∧ wr.heap.size = w.heap.size + 1 + 1 + 1)
    (fun i _ => 257 - (intOf i).toNat)
  case atStart =>
    refine ⟨0, by omega, rfl, ?_, ?_, ?_, ?_⟩
    · exact (Row.new1 _ _ _ _).alloc _
    · exact Row.new2 _ _ _ _ _
    · exact (((Below.refl _ w).alloc (Nat.le_refl _) _).alloc (by simp) _).alloc (by simp; omega) _
    · simp
  case round =>
    clear R0
    obtain ⟨k, hk, rfl, r1, r2, hbel, hsz⟩ := hrel
    by_cases hlt : k < 257
    · have hg := ia_get Hf.szL k (by rw [Hf.sz_len]; exact hlt)
      rw [Hf.gn_sz] at hg
      have hix := fun W => run_index (P := Tryz.prog) 56 3 257 _ (ia Hf.szL) k _ Tryz.underlying56 Tryz.underlying3 rfl (by kernel_rfl) hlt hg W
      have hsk := Hf.sz_le hlt
      have hml := Hf.manyTo_length k
      have c2 := r2.cellU (j := Hf.sz k) (by rw [hml]; omega)
      have f2 := r2.frozen (Hf.sz k)
      have hle := Hf.manyTo_le k (Hf.sz k)
      have HN := veil (Hf.manyTo_next hlt)
      clear hg hml
      generalize Hf.sz k = s at *
      go_wp2
      go_roundw
      case rel =>
        refine ⟨k + 1, by omega, by go_num, r1.other (by show w.heap.size + 1 ≠ w.heap.size + 1 + 1; omega) _, ?_, hbel.setCell (p := ⟨w.heap.size + 1 + 1, s, none⟩) (by show w.heap.size ≤ w.heap.size + 1 + 1; omega) _, ?_⟩
        · have := r2.set s (.int .u32 ((gn (Hf.manyTo k) s + 1 : Nat) : Int))
          rw [ua_set] at this
          rw [HN.out]
          exact this
        · simpa [World.setCell] using hsz
      case measure => simp [intOf]; omega
    · obtain rfl : k = 257 := by omega
      rw [Hf.manyTo_last] at r2
      clear hlt hk
      go_wp2_with (first
        | (with_reducible (show wpList _ _ _ (⟨_, Op.alloc 159, _, _, _, _⟩ :: _) _ _)
           refine alloc_rowH rfl 159 rfl (ua zU) hz ?_))
      go_loopw [7] (fun i wr => ∃ k : Nat, 1 ≤ k ∧ k ≤ 31 ∧ i = .int .i64 k ∧ Row wr (w.heap.size + 1) 159 (ua zU) ∧ Row wr (w.heap.size + 1 + 1) 159 (ua Hf.cntL) ∧ Row wr (w.heap.size + 1 + 1 + 1) 159 (ua (Hf.firstL.take k ++ List.replicate (31 - k) 0)) ∧ Below w.heap.size w wr)
        (fun i _ => 31 - (intOf i).toNat)
      case atStart =>
        refine ⟨1, by omega, by omega, rfl, r1.alloc _, r2.alloc _, ?_, hbel.alloc (by omega) _⟩
        have := Row.new wr 159 (ua zU)
        rw [hsz] at this
        exact this
      case round =>
        clear r1 r2 hbel hsz
        obtain ⟨k, hk1, hk, rfl, r1, r2, r3, hbel⟩ := hrel
        by_cases hlt : k < 31
        · have hfl : (Hf.firstL.take k ++ List.replicate (31 - k) 0).length = 31 := by rw [List.length_append, List.length_take, List.length_replicate, Hf.first_len]; omega
          have hgk : gn (Hf.firstL.take k ++ List.replicate (31 - k) 0) (k - 1) = gn Hf.firstL (k - 1) := by
            unfold gn
            rw [List.getElem?_append_left (by rw [List.length_take, Hf.first_len]; omega), List.getElem?_take, if_pos (by omega)]
          have c3 := r3.cellU (j := k - 1) (by rw [hfl]; omega)
          rw [hgk] at c3
          have c2 := r2.cellU (j := k - 1) (by rw [Hf.cnt_len]; omega)
          obtain ⟨v, hv⟩ : ∃ v, wr.cell? ⟨w.heap.size + 1 + 1 + 1, k, none⟩ = some v := ⟨_, r3.cellU (by rw [hfl]; omega)⟩
          have f3 := r3.frozen k
          have hfs := Hf.first_set (n := k - 1) (by omega)
          rw [show k - 1 + 1 = k by omega] at hfs
          have hle := Hf.first_le k
          obtain ⟨q, rfl⟩ : ∃ q, k = q + 1 := ⟨k - 1, by omega⟩
          rw [show q + 1 - 1 = q by omega] at *
          have HG := veil (fill_set Hf.firstL 0 (q + 1) 31 Hf.first_len hlt (gn Hf.firstL (q + 1)) (by unfold gn; rw [List.getElem?_eq_getElem (by rw [Hf.first_len]; exact hlt)]; rfl))
          have HF := veil hfs
          have hA : 2 * (gn Hf.firstL q + gn Hf.cntL q) ≤ 1073741820 := by omega
          clear hgk hfl hfs hle
          generalize gn Hf.firstL q = A at *
          generalize gn Hf.cntL q = C at *
          go_wp2_with fail
          go_region
          go_wp2
          go_roundw
          case rel =>
            have e2 : ((A : Int) + (C : Int)) * 2 = ((2 * (A + C) : Nat) : Int) := by omega
            rw [e2]
            refine ⟨q + 1 + 1, by omega, by omega, by go_num, r1.other (by show w.heap.size + 1 ≠ w.heap.size + 1 + 1 + 1; omega) _, r2.other (by show w.heap.size + 1 + 1 ≠ w.heap.size + 1 + 1 + 1; omega) _, ?_, (hbel.setCell (p := ⟨w.heap.size + 1 + 1 + 1, q + 1, none⟩) (by show w.heap.size ≤ w.heap.size + 1 + 1 + 1; omega) _).drew⟩
            have := r3.set (q + 1) (.int .u32 ((2 * (A + C) : Nat) : Int))
            rw [ua_set] at this
            rw [← HG.out, HF.out]
            exact this
          case measure => simp [intOf]; omega
        · obtain rfl : k = 31 := by omega
          have r4 : Row wr (w.heap.size + 1 + 1 + 1) 159 (ua Hf.firstL) := by
            have := r3
            rw [List.take_of_length_le (by rw [Hf.first_len]; omega)] at this
            simpa using this
          have h4 : (ua Hf.firstL).size = 31 := by rw [ua_size, Hf.first_len]
          have h5 := ua_one Hf.firstL
          have h6 : (ua zU).size = 31 := zU_size
          clear r3 hlt hk hk1
          go_wp2_with (first
            | (with_reducible (show wpList _ _ _ (⟨_, Op.load 159 _, _, _, _, _⟩ :: _) _ _)
               refine load_row rfl 159 _ rfl (w.heap.size + 1 + 1 + 1) rfl _ _ r4 31 65 Tryz.underlying159 hs h4 ?_)
            | (with_reducible (show wpList _ _ _ (⟨_, Op.store 159 _ _, _, _, _, _⟩ :: _) _ _)
               refine store_row rfl 159 _ _ rfl (w.heap.size + 1) (ua Hf.firstL) rfl rfl _ _ r1 31 hs h6 h4 h5 ?_))
          refine bodyPost_ret (result_row rfl _ _ (w.heap.size + 1) _ _ (r1.put _) 31 65 rfl Tryz.underlying159 hs h4) rfl ⟨rfl, bSetRow hbel (by omega) _⟩
end Go.Proofs.YtiecpkkklefjdaaGreatDoor

/-
  What words answers.
-/
import Derived.Test.YtiecpkkklefjdaaGreatDoorGuHfFirsts
namespace Go.Proofs.YtiecpkkklefjdaaGreatDoor
open Go Go.RowKit

theorem zero_words : (Tryz.prog.info? 152).map (·.zero) = some (some (.agg (wa zW))) := by kernel_rfl
theorem size_words : (Tryz.prog.info? 152).map (·.size) = some 514 := by kernel_rfl

set_option maxRecDepth 20000 in
set_option maxHeartbeats 1000000 in
theorem words_any (w : World) : Calls Tryz.prog 98 #[] w fun e w' => e = .returned (.agg (wa Hf.wordsL)) ∧ Below w.heap.size w w' := by
  have hs := size_firsts
  have hz := zero_firsts
  have hs0 := size_sizes
  have hz0 := zero_sizes
  have hs1 := size_words
  have hz1 := zero_words
  have h1 : (ia Hf.szL).size = 257 := by rw [ia_size, Hf.sz_len]
  have h2 := ia_one Hf.szL
  have h0 : (ia zI).size = 257 := zI_size
  go_enter Tryz.func98, Tryz.ntmps98
  go_wp2_with (first
    | (with_reducible (show wpList _ _ _ (⟨_, Op.alloc 152, _, _, _, _⟩ :: _) _ _)
       refine alloc_rowH rfl 152 rfl (wa zW) hz1 ?_))
  have R0 : Row (w.alloc (.cells (wa zW) 152)) w.heap.size 152 (wa zW) := Row.new _ _ _
  have b0 : Below w.heap.size w (w.alloc (.cells (wa zW) 152)) := (Below.refl _ w).alloc (Nat.le_refl _) _
  generalize (w.alloc (.cells (wa zW) 152)) = w0 at *
  refine (wordSizes_any w0).mono ?_
  rintro e1 w1 ⟨rfl, hb1⟩
  have R1 := R0.below hb1 R0.lt
  have b1 := b0.trans (hb1.mono b0.size)
  clear R0 b0 hb1
  go_wp2_with (first
    | (with_reducible (show wpList _ _ _ (⟨_, Op.alloc 56, _, _, _, _⟩ :: _) _ _)
       refine alloc_rowH rfl 56 rfl (ia zI) hz0 ?_)
    | (with_reducible (show wpList _ _ _ (⟨_, Op.store 56 _ _, _, _, _, _⟩ :: _) _ _)
       refine store_new (w := w1) rfl 56 _ _ rfl w1.heap.size (ia Hf.szL) rfl rfl 56 (ia zI) rfl 257 hs0 h0 h1 h2 ?_)
    | (with_reducible (show wpList _ _ _ (⟨_, Op.load 56 _, _, _, _, _⟩ :: _) _ _)
       refine load_row rfl 56 _ rfl w1.heap.size rfl _ _ (Row.new w1 56 (ia Hf.szL)) 257 3 Tryz.underlying56 hs0 h1 ?_))
  have R2 := R1.alloc (.cells (ia Hf.szL) 56)
  have S2 : Row (w1.alloc (.cells (ia Hf.szL) 56)) w1.heap.size 56 (ia Hf.szL) := Row.new _ _ _
  have b2 := b1.alloc b1.size (.cells (ia Hf.szL) 56)
  have z1 := b1.size
  generalize (w1.alloc (.cells (ia Hf.szL) 56)) = w2 at *
  refine (firsts_any w2).mono ?_
  rintro e3 w3 ⟨rfl, hb3⟩
  have R3 := R2.below hb3 R2.lt
  have S3 := S2.below hb3 S2.lt
  have b3 := b2.trans (hb3.mono b2.size)
  have z3 := b3.size
  have n0 : w1.heap.size < w3.heap.size := S3.lt
  have n1 : w.heap.size < w3.heap.size := R3.lt
  have n2 : w.heap.size < w1.heap.size := R1.lt
  clear R2 S2 b2 hb3 R1 b1
  have h3 : (ua Hf.firstL).size = 31 := by rw [ua_size, Hf.first_len]
  have h4 := ua_one Hf.firstL
  have h5 : (ua zU).size = 31 := zU_size
  go_wp2_with (first
    | (with_reducible (show wpList _ _ _ (⟨_, Op.alloc 159, _, _, _, _⟩ :: _) _ _)
       refine alloc_rowH rfl 159 rfl (ua zU) hz ?_)
    | (with_reducible (show wpList _ _ _ (⟨_, Op.store 159 _ _, _, _, _, _⟩ :: _) _ _)
       refine store_new (w := w3) rfl 159 _ _ rfl w3.heap.size (ua Hf.firstL) rfl rfl 159 (ua zU) rfl 31 hs h5 h3 h4 ?_)
    | (with_reducible (show wpList _ _ _ (⟨_, Op.alloc 152, _, _, _, _⟩ :: _) _ _)
       refine alloc_rowH rfl 152 rfl (wa zW) hz1 ?_)
    | (with_reducible (show wpList _ _ _ (⟨_, Op.load 56 _, _, _, _, _⟩ :: _) _ _)
       refine load_row rfl 56 _ rfl w1.heap.size rfl _ _ ((S3.alloc _).alloc _) 257 3 Tryz.underlying56 hs0 h1 ?_))
  have R4 := (R3.alloc (.cells (ua Hf.firstL) 159)).alloc (.cells (wa zW) 152)
  have T4 : Row ((w3.alloc (.cells (ua Hf.firstL) 159)).alloc (.cells (wa zW) 152)) w3.heap.size 159 (ua Hf.firstL) := (Row.new _ _ _).alloc _
  have U4 : Row ((w3.alloc (.cells (ua Hf.firstL) 159)).alloc (.cells (wa zW) 152)) (w3.heap.size + 1) 152 (wa zW) := Row.new1 _ _ _ _
  have b4 := (b3.alloc z3 (.cells (ua Hf.firstL) 159)).alloc (by rw [World.size_alloc]; omega) (.cells (wa zW) 152)
  generalize ((w3.alloc (.cells (ua Hf.firstL) 159)).alloc (.cells (wa zW) 152)) = w4 at *
  clear R3 S3 b3
  generalize w3.heap.size = B at *
  generalize w1.heap.size = C at *
  go_loopw [10] (fun i wr => ∃ k : Nat, k ≤ 257 ∧ i = .int .i64 k ∧ Row wr w.heap.size 152 (wa zW) ∧ Row wr B 159 (ua (Hf.nextTo k)) ∧ Row wr (B + 1) 152 (wa (Hf.wordsL.take k ++ List.replicate (257 - k) (0, 0))) ∧ Below w.heap.size w wr)
    (fun i _ => 257 - (intOf i).toNat)
  case atStart => exact ⟨0, by omega, rfl, R4, T4, U4, b4⟩
  case round =>
    clear R4 T4 U4 b4
    obtain ⟨k, hk, rfl, r1, r2, r3, hbel⟩ := hrel
    by_cases hlt : k < 257
    · have hg := ia_get Hf.szL k (by rw [Hf.sz_len]; exact hlt)
      rw [Hf.gn_sz] at hg
      have hix := fun W => run_index (P := Tryz.prog) 56 3 257 _ (ia Hf.szL) k _ Tryz.underlying56 Tryz.underlying3 rfl (by kernel_rfl) hlt hg W
      have hsk := Hf.sz_le hlt
      have hml := Hf.nextTo_length k
      have hwl : (Hf.wordsL.take k ++ List.replicate (257 - k) ((0, 0) : Nat × Nat)).length = 257 := by rw [List.length_append, List.length_take, List.length_replicate, Hf.wordsL_length]; omega
      have c2 := r2.cellU (j := Hf.sz k) (by rw [hml]; omega)
      have c2b := (r2.other (a := ⟨B + 1, k * 2, none⟩) (by show B ≠ B + 1; omega) (.int .i64 (Hf.sz k : Int))).other (a := ⟨B + 1, k * 2 + 1, none⟩) (by show B ≠ B + 1; omega) (.int .u32 (gn (Hf.nextTo k) (Hf.sz k) : Int))
      have f2 := r2.frozen (Hf.sz k)
      have c30 := r3.cellP0 (j := k) (by rw [hwl]; exact hlt)
      have c31 := r3.cellP1 (j := k) (by rw [hwl]; exact hlt)
      have f30 := r3.frozen (k * 2)
      have f31 := r3.frozen (k * 2 + 1)
      have hle := Hf.nextTo_le k (Hf.sz k)
      have HN := veil (Hf.nextTo_next hlt)
      have HV := veil (Hf.val_is hlt)
      have HG := veil (fill_set Hf.wordsL (0, 0) k 257 Hf.wordsL_length hlt _ (Hf.wordsL_get hlt))
      have HL := veil hwl
      clear hg hml hwl c2b
      generalize Hf.sz k = s at *
      go_wp2
      go_roundw
      case rel =>
        refine ⟨k + 1, by omega, by go_num, ((r1.other (by show w.heap.size ≠ B + 1; omega) _).other (by show w.heap.size ≠ B + 1; omega) _).other (by show w.heap.size ≠ B; omega) _, ?_, ?_, ((hbel.setCell (p := ⟨B + 1, k * 2, none⟩) (by show w.heap.size ≤ B + 1; omega) _).setCell (p := ⟨B + 1, k * 2 + 1, none⟩) (by show w.heap.size ≤ B + 1; omega) _).setCell (p := ⟨B, s, none⟩) (by show w.heap.size ≤ B; omega) _⟩
        · have := ((r2.other (a := ⟨B + 1, k * 2, none⟩) (by show B ≠ B + 1; omega) (.int .i64 (s : Int))).other (a := ⟨B + 1, k * 2 + 1, none⟩) (by show B ≠ B + 1; omega) (.int .u32 (gn (Hf.nextTo k) s : Int))).set s (.int .u32 ((gn (Hf.nextTo k) s + 1 : Nat) : Int))
          rw [ua_set] at this
          rw [HN.out]
          exact this
        · have := ((r3.set (k * 2) (.int .i64 ((s, Hf.val k).1 : Int))).set (k * 2 + 1) (.int .u32 ((s, Hf.val k).2 : Int))).other (a := ⟨B, s, none⟩) (by show B + 1 ≠ B; omega) (.int .u32 ((gn (Hf.nextTo k) s : Int) + 1))
          rw [wa_set _ _ _ (by rw [HL.out]; exact hlt), HG.out] at this
          simp only [HV.out] at this
          exact this
      case measure => simp [intOf]; omega
    · obtain rfl : k = 257 := by omega
      have r4 : Row wr (B + 1) 152 (wa Hf.wordsL) := by
        have := r3
        rw [List.take_of_length_le (by rw [Hf.wordsL_length]; omega)] at this
        simpa using this
      have h6 : (wa Hf.wordsL).size = 514 := by rw [wa_size, Hf.wordsL_length]
      have h7 := wa_one Hf.wordsL
      have h8 := zW_size
      clear r3 hlt hk
      go_wp2_with (first
        | (with_reducible (show wpList _ _ _ (⟨_, Op.load 152 _, _, _, _, _⟩ :: _) _ _)
           refine wpList_load_row rfl 152 _ rfl (B + 1) rfl 152 (wa Hf.wordsL) (0, 0) _ r4 Tryz.underlying152 rfl (by rw [h6]; exact hs1) ?_)
        | (with_reducible (show wpList _ _ _ (⟨_, Op.store 152 _ _, _, _, _, _⟩ :: _) _ _)
           refine store_row rfl 152 _ _ rfl w.heap.size (wa Hf.wordsL) rfl rfl _ _ r1 514 hs1 h8 h6 h7 ?_))
      refine bodyPost_ret (results_cell_row rfl _ _ w.heap.size 152 _ (0, 0) _ rfl (r1.put _) Tryz.underlying152 rfl (by rw [h6]; exact hs1)) rfl ⟨rfl, bSetRow hbel (by omega) _⟩
end Go.Proofs.YtiecpkkklefjdaaGreatDoor

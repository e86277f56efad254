/-
  What numbers answers.
-/
import Derived.Test.YtiecpkkklefjdaaGtHfMap
namespace Go.Proofs.Ytiecpkkklefjdaa
open Go Go.RowKit Go.Maps

theorem make_hint (w : World) : (Instr.makeMap 88 (some (.int .i64 257))).run Try.prog w = .ok (.map (some w.heap.size)) (w.alloc (.map #[] 0)) := by
  simp [Instr.makeMap, run_underlying Try.underlying88, asInt, asIntOf]
theorem wa_part {xs : List (Nat × Nat)} {k : Nat} (h : k < xs.length) : (wa xs).extract (k * 2) (k * 2 + 2) = #[.int .i64 ((gp xs k).1 : Int), .int .u32 ((gp xs k).2 : Int)] := by
  have h0 : (wa xs)[k * 2]? = some (.int .i64 ((gp xs k).1 : Int)) := by rw [wa, List.getElem?_toArray, Nat.mul_comm]; exact wl_get0 xs k h
  have h1 : (wa xs)[k * 2 + 1]? = some (.int .u32 ((gp xs k).2 : Int)) := by rw [wa, List.getElem?_toArray, Nat.mul_comm]; exact wl_get1 xs k h
  have hs : k * 2 + 2 ≤ (wa xs).size := by rw [wa_size]; omega
  apply Array.ext_getElem?
  intro i
  rw [Array.getElem?_extract]
  match i with
  | 0 => rw [if_pos (by omega), Nat.add_zero, h0]; rfl
  | 1 => rw [if_pos (by omega), h1]; rfl
  | i + 2 => rw [if_neg (by omega)]; rfl
theorem run_indexW {k : Nat} (h : k < 257) (W : World) : (Instr.index 83 (.agg (wa Hf.wordsL)) (.int .i64 (k : Int))).run Try.prog W = .ok (.agg #[.int .i64 (Hf.sz k : Int), .int .u32 (Hf.val k : Int)]) W := by
  have hsz : (sizeOf 81).run Try.prog W = .ok 2 W := by kernel_rfl
  have hp := wa_part (xs := Hf.wordsL) (k := k) (by rw [Hf.wordsL_length]; exact h)
  have hg : gp Hf.wordsL k = (Hf.sz k, Hf.val k) := by unfold gp; rw [Hf.wordsL_get h]; rfl
  rw [hg] at hp
  simp [Instr.index, asIntOf, run_underlying Try.underlying83, h, hsz, part, hp]

set_option maxRecDepth 20000 in
set_option maxHeartbeats 1000000 in
theorem numbers_any (w : World) : Calls Try.prog 50 #[] w fun e w' => ∃ m, e = .returned (.map (some m)) ∧ MapW w' m Hf.sym 257 ∧ w.heap.size ≤ m ∧ Below w.heap.size w w' := by
  have hmm := make_hint w
  go_enter Try.func50, Try.ntmps50
  go_wp2_with fail
  have M0 := MapW.new w
  have b0 : Below w.heap.size w (w.alloc (.map #[] 0)) := (Below.refl _ w).alloc (Nat.le_refl _) _
  generalize (w.alloc (.map #[] 0)) = w0 at *
  refine (words_any w0).mono ?_
  rintro e1 w1 ⟨rfl, hb1⟩
  have M1 := M0.same (hb1.block _ M0.lt)
  rw [← symTo_zero] at M1
  have b1 := b0.trans (hb1.mono b0.size)
  clear M0 b0 hb1 hmm
  go_wp2_with fail
  go_loopw [6] (fun v wr => ∃ k : Nat, k ≤ 257 ∧ v = .int .i64 (k : Int) ∧ MapW wr w.heap.size (symTo k) k ∧ Below w.heap.size w wr)
    (fun v _ => 257 - (intOf v).toNat)
  case atStart => exact ⟨0, by omega, rfl, M1, b1⟩
  case round =>
    clear M1 b1
    obtain ⟨k, hk, rfl, hM, hb⟩ := hrel
    by_cases hlt : k < 257
    · have hix := fun W => run_indexW hlt W
      have hwk := Hf.word_ok hlt
      have hvk : Hf.val k < 4294967296 := by
        have := Hf.nextTo_le k (Hf.sz k)
        rw [← Hf.val_is hlt] at this
        omega
      have bm := hb.alloc hb.size (.cells #[.int .i64 (Hf.sz k : Int), .int .u32 (Hf.val k : Int)] 81)
      have hM1 := hM.same (Below.heap_alloc wr (.cells #[.int .i64 (Hf.sz k : Int), .int .u32 (Hf.val k : Int)] 81) _ hM.lt)
      obtain ⟨w2, hrun, M2, G2⟩ := hM1.store (n := Hf.sz k) (v := Hf.val k) ⟨by omega, hvk⟩ (by unfold maxLen; omega) (i := k) (by omega) (symTo_no hlt) (symTo_new hlt) (fun a b h => symTo_other a b h)
      have HM2 := veil M2
      have HB2 := veil (bm.grown G2 bm.size (fun q e => by injection e with e; subst e; exact Nat.le_refl _))
      clear hM hb hwk hvk M2 G2 hM1 bm
      generalize Hf.sz k = s at *
      generalize Hf.val k = x at *
      go_wp2
      go_roundw
      case rel => exact ⟨k + 1, by omega, by go_num, HM2.out, HB2.out⟩
      case measure => simp [intOf]; omega
    · obtain rfl : k = 257 := by omega
      rw [symTo_all] at hM
      have HM := veil hM
      clear hM hlt hk
      go_wp2
      go_ret
      exact ⟨_, rfl, HM.out, Nat.le_refl _, hb⟩
end Go.Proofs.Ytiecpkkklefjdaa

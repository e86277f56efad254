/-
  The law of the places of the fixed fields.
-/
import Derived.Test.YtoajnhngcfjohaaTbLiv
namespace Go.Proofs.Ytoajnhngcfjohaa
open Go Go.RowKit

namespace Tb
def nsv : ByteArray := ⟨#[110, 111, 32, 115, 117, 99, 104, 32, 118, 97, 108, 117, 101]⟩
theorem fix_uniq : (List.range 99).all (fun q => firstI (hasF (gfd fixL q)) fixL 0 == (q : Int)) = true := by kernel_rfl
theorem fix_nsv : fixL.all (fun g => !(g.2.toList == nsv.toList)) = true := by kernel_rfl
theorem fix_find {q : Nat} {f : Fd} (h : fixL[q]? = some f) : firstI (hasF f) fixL 0 = (q : Int) ∧ firstI (hasF (f.1, nsv)) fixL 0 = -1 ∧
    ∃ n g, n ≤ q ∧ firstI (hasN f) fixL 0 = ((n : Nat) : Int) ∧ fixL[n]? = some g ∧ (g.1.toList == f.1.toList) = true := by
  have hq : q < 99 := by have := (List.getElem?_eq_some_iff.1 h).1; rw [fixL_length] at this; exact this
  have hg : gfd fixL q = f := by unfold gfd; rw [h]; rfl
  refine ⟨?_, firstI_none fun g hg => ?_, ?_⟩
  · have := List.all_eq_true.1 fix_uniq q (List.mem_range.2 hq)
    rw [hg] at this
    exact eq_of_beq this
  · have := List.all_eq_true.1 fix_nsv g hg
    unfold hasF
    simp only [Bool.not_eq_true'] at this
    rw [this, Bool.and_false]
  · rcases firstI_cases (hasN f) fixL 0 with ⟨_, h2⟩ | ⟨n, g, h1, h2, h3, h4⟩
    · have := h2 f (List.mem_of_getElem? h)
      unfold hasN at this
      simp at this
    · refine ⟨n, g, Nat.le_of_not_lt fun e => ?_, by rw [h4, Nat.zero_add], h1, h2⟩
      have := h3 q f e h
      unfold hasN at this
      simp at this
set_option maxRecDepth 100000 in
set_option maxHeartbeats 4000000 in
theorem law_finds (i : Int) (w : World) : Calls Try.prog 6 #[.int .i64 i] w fun e w' => e = .returned (.bool true) ∧ Below w.heap.size w w' := by
  by_cases h0 : 0 ≤ i ∧ i < 99
  · obtain ⟨q, rfl⟩ : ∃ q : Nat, i = (q : Int) := ⟨i.toNat, by omega⟩
    obtain ⟨⟨fa, fb⟩, hf⟩ : ∃ f, fixL[q]? = some f := ⟨_, List.getElem?_eq_getElem (by rw [fixL_length]; omega)⟩
    obtain ⟨a1, a2, n, ⟨ga, gb⟩, a3, a4, a5, a6⟩ := fix_find hf
    have hFix : ∀ (k : Nat) (f : Fd), fixL[k]? = some f → ∀ W, Calls Try.prog 7 #[.int .i64 (k : Int)] W fun e w' => e = .returned (.tuple #[.agg f.cells, .bool true]) ∧ Below W.heap.size W w' := by
      intro k f hk W
      have hk9 : k < 99 := by have := (List.getElem?_eq_some_iff.1 hk).1; rw [fixL_length] at this; exact this
      have hB : inB (k : Int) = true := decide_eq_true (by omega)
      have hG : fixI (k : Int) = f := by unfold fixI; rw [if_pos hB]; unfold gfd; rw [Int.toNat_natCast, hk]; rfl
      have := tab_fix (k : Int) W
      rw [hG, hB] at this
      exact this
    have h1 : ∀ W, Calls Try.prog 7 #[.int .i64 (q : Int)] W fun e w' => e = .returned (.tuple #[.agg #[.string fa, .string fb], .bool true]) ∧ Below W.heap.size W w' := hFix q (fa, fb) hf
    have h2 : ∀ W, Calls Try.prog 7 #[.int .i64 (n : Int)] W fun e w' => e = .returned (.tuple #[.agg #[.string ga, .string gb], .bool true]) ∧ Below W.heap.size W w' := hFix n (ga, gb) a5
    have h3 : ∀ W, Calls Try.prog 9 #[.agg #[.string fa, .string fb]] W fun e w' => e = .returned (.tuple #[.int .i64 (q : Int), .int .i64 (n : Int)]) ∧ Below W.heap.size W w' := by
      intro W
      have := tab_find (fa, fb) W
      rw [a1, a4] at this
      exact this
    have h4 : ∀ W, Calls Try.prog 9 #[.agg #[.string fa, .string nsv]] W fun e w' => e = .returned (.tuple #[.int .i64 (-1), .int .i64 (n : Int)]) ∧ Below W.heap.size W w' := by
      intro W
      have := tab_find (fa, nsv) W
      have e : hasN (fa, nsv) = hasN (fa, fb) := rfl
      rw [a2, e, a4] at this
      exact this
    have a6 : (ga.toList == fa.toList) = true := a6
    unfold nsv at h4
    have n1 : (0 : Int) ≤ (n : Int) := by omega
    have n2 : (n : Int) ≤ (q : Int) := by omega
    clear hFix hf a1 a2 a3 a4 a5 h0
    go_enter Try.func6, Try.ntmps6
    go_upto_region 2 with (go_at_call 7; with_reducible refine (h1 _).mono ?_; rintro e1 w2 ⟨rfl, hb⟩)
    have HB := veil (hb.alloc hb.size (.cells #[.string fa, .string fb] 23))
    have HF := veil (Row.new w2 23 #[.string fa, .string fb])
    clear hb
    generalize w2.heap.size = b1 at *
    generalize w2.alloc (.cells #[.string fa, .string fb] 23) = w3 at *
    have x0 : w3.cell? ⟨b1, 0, none⟩ = some (.string fa) := HF.out.cell 0
    have x1 : w3.cell? ⟨b1, 1, none⟩ = some (.string fb) := HF.out.cell 1
    go_upto_region 5 with (go_at_call 9; with_reducible refine (h3 _).mono ?_; rintro e1 w4 ⟨rfl, hb⟩)
    have HB := veil (HB.out.trans (hb.mono HB.out.size))
    have HF := veil (Row.below HF.out hb (Row.lt HF.out))
    clear hb x0 x1
    go_upto_region 6 with (go_at_call 7; with_reducible refine (h2 _).mono ?_; rintro e1 w5 ⟨rfl, hb⟩)
    have HB := veil (HB.out.trans ((hb.alloc hb.size (.cells #[.string ga, .string gb] 23)).mono HB.out.size))
    have HF := veil (Row.below HF.out (hb.alloc hb.size (.cells #[.string ga, .string gb] 23)) (Row.lt HF.out))
    have HG := veil (Row.new w5 23 #[.string ga, .string gb])
    clear hb
    generalize w5.heap.size = b2 at *
    generalize w5.alloc (.cells #[.string ga, .string gb] 23) = w6 at *
    have x0 : w6.cell? ⟨b1, 0, none⟩ = some (.string fa) := HF.out.cell 0
    go_upto_region 7 with (go_at_call 9; with_reducible refine (h4 _).mono ?_; rintro e1 w7 ⟨rfl, hb⟩)
    have HB := veil (HB.out.trans (hb.mono HB.out.size))
    have HF := veil (Row.below HF.out hb (Row.lt HF.out))
    have HG := veil (Row.below HG.out hb (Row.lt HG.out))
    clear hb x0
    have x0 : w7.cell? ⟨b1, 0, none⟩ = some (.string fa) := HF.out.cell 0
    have y0 : w7.cell? ⟨b2, 0, none⟩ = some (.string ga) := HG.out.cell 0
    go_wp2_with (go_at_call 11; refine (lives_any _).mono ?_; rintro e1 w8 ⟨rfl, hb⟩)
    go_ret
    exact ⟨rfl, HB.out.trans (hb.mono HB.out.size)⟩
  · have hB : inB i = false := decide_eq_false h0
    have hG : fixI i = fd0 := by unfold fixI; rw [if_neg (by rw [hB]; decide)]
    have h1 : ∀ W, Calls Try.prog 7 #[.int .i64 i] W fun e w' => e = .returned (.tuple #[.agg #[.string ⟨#[]⟩, .string ⟨#[]⟩], .bool false]) ∧ Below W.heap.size W w' := by
      intro W
      have := tab_fix i W
      rw [hG, hB] at this
      exact this
    clear hB hG
    have hrest : i < 0 ∨ (¬ i < 0 ∧ 98 < i) := by omega
    rcases hrest with h2 | ⟨h2, h3⟩
    · have n2 : decide (i < 0) = true := by simp; omega
      clear h0
      go_enter Try.func6, Try.ntmps6
      go_upto_region 2 with (go_at_call 7; refine (h1 _).mono ?_; rintro e1 w2 ⟨rfl, hb⟩)
      have HB := veil (hb.alloc hb.size (.cells #[.string ⟨#[]⟩, .string ⟨#[]⟩] 23))
      clear hb
      generalize w2.alloc (.cells #[.string ⟨#[]⟩, .string ⟨#[]⟩] 23) = w3 at *
      go_wp2_with (go_at_call 11; refine (lives_any _).mono ?_; rintro e1 w8 ⟨rfl, hb⟩)
      go_ret
      exact ⟨rfl, HB.out.trans (hb.mono HB.out.size)⟩
    · have n2 : decide (i < 0) = false := by simp; omega
      have n3 : decide (98 < i) = true := by simp; omega
      clear h0
      go_enter Try.func6, Try.ntmps6
      go_upto_region 2 with (go_at_call 7; refine (h1 _).mono ?_; rintro e1 w2 ⟨rfl, hb⟩)
      have HB := veil (hb.alloc hb.size (.cells #[.string ⟨#[]⟩, .string ⟨#[]⟩] 23))
      clear hb
      generalize w2.alloc (.cells #[.string ⟨#[]⟩, .string ⟨#[]⟩] 23) = w3 at *
      go_wp2_with (go_at_call 11; refine (lives_any _).mono ?_; rintro e1 w8 ⟨rfl, hb⟩)
      go_ret
      exact ⟨rfl, HB.out.trans (hb.mono HB.out.size)⟩
end Tb
end Go.Proofs.Ytoajnhngcfjohaa

/-
  The law of the fixed fields.
-/
import Derived.Test.YtoajnhngcfjohaaTbLiv
namespace Go.Proofs.Ytoajnhngcfjohaa
open Go Go.RowKit

namespace Tb
set_option maxRecDepth 100000 in
set_option maxHeartbeats 4000000 in
theorem law_fixed (i : Int) (f : Fd) (w : World) : Calls Try.prog 3 #[.int .i64 i, .agg f.cells] w fun e w' => e = .returned (.bool true) ∧ Below w.heap.size w w' := by
  obtain ⟨fa, fb⟩ := f
  obtain ⟨B, hB⟩ : ∃ B, inB i = B := ⟨_, rfl⟩
  obtain ⟨⟨ga, gb⟩, hG⟩ : ∃ G, fixI i = G := ⟨_, rfl⟩
  obtain ⟨I, hI⟩ : ∃ I, firstI (hasF (fa, fb)) fixL 0 = I := ⟨_, rfl⟩
  obtain ⟨J, hJ⟩ : ∃ J, firstI (hasN (fa, fb)) fixL 0 = J := ⟨_, rfl⟩
  have h1 : ∀ W, Calls Try.prog 7 #[.int .i64 i] W fun e w' => e = .returned (.tuple #[.agg #[.string ga, .string gb], .bool B]) ∧ Below W.heap.size W w' := by
    intro W
    have := tab_fix i W
    rw [hG, hB] at this
    exact this
  have h2 : ∀ W, Calls Try.prog 8 #[.int .i64 i] W fun e w' => e = .returned (.tuple #[.agg #[.string ga, .string gb], .bool B]) ∧ Below W.heap.size W w' := by
    intro W
    have := ref_fix i W
    rw [hG, hB] at this
    exact this
  have h3 : ∀ W, Calls Try.prog 9 #[.agg #[.string fa, .string fb]] W fun e w' => e = .returned (.tuple #[.int .i64 I, .int .i64 J]) ∧ Below W.heap.size W w' := by
    intro W
    have := tab_find (fa, fb) W
    rw [hI, hJ] at this
    exact this
  have h4 : ∀ W, Calls Try.prog 10 #[.agg #[.string fa, .string fb]] W fun e w' => e = .returned (.tuple #[.int .i64 I, .int .i64 J]) ∧ Below W.heap.size W w' := by
    intro W
    have := ref_find (fa, fb) W
    rw [hI, hJ] at this
    exact this
  clear hB hG hI hJ
  show Calls Try.prog 3 #[.int .i64 i, .agg #[.string fa, .string fb]] w _
  go_enter Try.func3, Try.ntmps3
  go_upto_region 1 with fail
  have HB := veil ((Below.refl w.heap.size w).alloc (Nat.le_refl _) (.cells #[.string fa, .string fb] 23))
  have HF := veil (Row.new w 23 #[.string fa, .string fb])
  generalize hb0 : w.heap.size = b0 at *
  generalize w.alloc (.cells #[.string fa, .string fb] 23) = w1 at *
  go_upto_region 2 with (go_at_call 7; refine (h1 _).mono ?_; rintro e1 w2 ⟨rfl, hb⟩)
  have HB := veil (HB.out.trans ((hb.alloc hb.size (.cells #[.string ga, .string gb] 23)).mono (hb0 ▸ HB.out.size)))
  have HF := veil (Row.below HF.out (hb.alloc hb.size (.cells #[.string ga, .string gb] 23)) (Row.lt HF.out))
  have HP := veil (Row.new w2 23 #[.string ga, .string gb])
  clear hb
  generalize w2.heap.size = b1 at *
  generalize w2.alloc (.cells #[.string ga, .string gb] 23) = w3 at *
  go_upto_region 3 with (go_at_call 8; refine (h2 _).mono ?_; rintro e1 w4 ⟨rfl, hb⟩)
  have HB := veil (HB.out.trans ((hb.alloc hb.size (.cells #[.string ga, .string gb] 23)).mono (hb0 ▸ HB.out.size)))
  have HF := veil (Row.below HF.out (hb.alloc hb.size (.cells #[.string ga, .string gb] 23)) (Row.lt HF.out))
  have HP := veil (Row.below HP.out (hb.alloc hb.size (.cells #[.string ga, .string gb] 23)) (Row.lt HP.out))
  have HQ := veil (Row.new w4 23 #[.string ga, .string gb])
  clear hb
  generalize w4.heap.size = b2 at *
  generalize w4.alloc (.cells #[.string ga, .string gb] 23) = w5 at *
  have x0 : w5.cell? ⟨b0, 0, none⟩ = some (.string fa) := HF.out.cell 0
  have x1 : w5.cell? ⟨b0, 1, none⟩ = some (.string fb) := HF.out.cell 1
  go_upto_region 4 with (go_at_call 9; refine (h3 _).mono ?_; rintro e1 w6 ⟨rfl, hb⟩)
  have HB := veil (HB.out.trans (hb.mono (hb0 ▸ HB.out.size)))
  have HF := veil (Row.below HF.out hb (Row.lt HF.out))
  have HP := veil (Row.below HP.out hb (Row.lt HP.out))
  have HQ := veil (Row.below HQ.out hb (Row.lt HQ.out))
  clear hb x0 x1
  have x0 : w6.cell? ⟨b0, 0, none⟩ = some (.string fa) := HF.out.cell 0
  have x1 : w6.cell? ⟨b0, 1, none⟩ = some (.string fb) := HF.out.cell 1
  go_upto_region 5 with (go_at_call 10; refine (h4 _).mono ?_; rintro e1 w7 ⟨rfl, hb⟩)
  have HB := veil (HB.out.trans (hb.mono (hb0 ▸ HB.out.size)))
  have HP := veil (Row.below HP.out hb (Row.lt HP.out))
  have HQ := veil (Row.below HQ.out hb (Row.lt HQ.out))
  clear hb x0 x1
  have p0 : w7.cell? ⟨b1, 0, none⟩ = some (.string ga) := HP.out.cell 0
  have p1 : w7.cell? ⟨b1, 1, none⟩ = some (.string gb) := HP.out.cell 1
  have q0 : w7.cell? ⟨b2, 0, none⟩ = some (.string ga) := HQ.out.cell 0
  have q1 : w7.cell? ⟨b2, 1, none⟩ = some (.string gb) := HQ.out.cell 1
  go_wp2_with (go_at_call 11; refine (lives_any _).mono ?_; rintro e1 w8 ⟨rfl, hb⟩)
  go_ret
  exact ⟨rfl, by rw [hb0]; exact HB.out.trans (hb.mono (hb0 ▸ HB.out.size))⟩
end Tb
end Go.Proofs.Ytoajnhngcfjohaa

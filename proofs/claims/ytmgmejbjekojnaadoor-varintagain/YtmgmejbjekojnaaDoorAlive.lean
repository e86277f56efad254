/-
  What alive answers.
-/
import Derived.Test.YtmgmejbjekojnaaDoorPutAny
import Derived.Test.YtmgmejbjekojnaaDoorGetPrefix
namespace Go.Proofs.YtmgmejbjekojnaaDoor
open Go.RowKit

theorem Lens.step {w w' : World} (h : Lens w) (hb : Below w.heap.size w w') : Lens w' := by
  have hp : 0 < w.heap.size := by
    rcases Nat.eq_zero_or_pos w.heap.size with h0 | h0
    · have := h.1
      simp [World.cell?, h0] at this
    · exact h0
  exact ⟨(hb.cell (p := ⟨0, 0, none⟩) hp).trans h.1, (hb.cell (p := ⟨0, 1, none⟩) hp).trans h.2.1, (hb.cell (p := ⟨0, 2, none⟩) hp).trans h.2.2.1, (hb.cell (p := ⟨0, 3, none⟩) hp).trans h.2.2.2⟩

/-- A new row of bytes, written out. -/
theorem lies_new (w : World) (zs : List Int) : Lies (w.alloc (.cells (zs.map (Value.int .u8)).toArray 5)) (some ⟨w.heap.size, 0, none⟩) zs := by
  by_cases h : zs = []
  · exact .inl h
  · refine .inr ⟨w.heap.size, 0, rfl, by simp, fun j hj => ?_⟩
    rw [World.cell?_alloc_at _ _ _ _ rfl, Nat.zero_add, List.getElem?_toArray, List.getElem?_map]
    simp [hj]

theorem below_new (w : World) (o : Obj) : Below w.heap.size w (w.alloc o) := (Below.refl _ w).alloc (Nat.le_refl _) _

theorem put_lit (n : Int) (zs : List Int) (K : Nat) (w : World) (hz : putL n = zs) (hk : zs.length = K) (h0 : 0 ≤ n) (h1 : n < 4611686018427387904) (hL : Lens w) :
    Calls Tryd.prog 15 #[.int .u64 n] w fun e w' => ∃ g, e = .returned (.tuple #[.slice (some ⟨g, 0, none⟩) K K, .int .i64 0]) ∧ Lies w' (some ⟨g, 0, none⟩) zs ∧ Below w.heap.size w w' := by
  have h := put_own n w h0 h1 hL
  rw [hz, hk] at h
  exact h.mono fun e w' ⟨g, a1, a2, a3⟩ => ⟨g, a1, a2.lies, a3⟩

theorem putp_lit (first b M n : Int) (zs : List Int) (K : Nat) (w : World) (hz : putP first M n = zs) (hk : zs.length = K) (h : IsMask b M) (hf0 : 0 ≤ first) (hf1 : first ≤ 255) (h0 : 0 ≤ n) (hn : n ≤ 4611686018427387903) (hf : first % (M + 1) = 0) :
    Calls Tryd.prog 16 #[.int .u8 first, .int .i64 b, .int .u64 n] w fun e w' => ∃ g cap, e = .returned (.tuple #[.slice (some ⟨g, 0, none⟩) K cap, .int .i64 0]) ∧ Lies w' (some ⟨g, 0, none⟩) zs ∧ Below w.heap.size w w' := by
  have h2 := putp_own first b M n w h hf0 hf1 h0 hn hf
  rw [hz, hk] at h2
  exact h2.mono fun e w' ⟨g, cap, a1, a2, a3⟩ => ⟨g, cap, a1, a2.lies, a3⟩

theorem bytes_lit (zs : List Int) (h : ∀ c ∈ zs, 0 ≤ c ∧ c ≤ 255) : ∀ j : Nat, 0 ≤ zs[j]?.getD 0 ∧ zs[j]?.getD 0 ≤ 255 := by
  intro j
  by_cases hj : j < zs.length
  · rw [List.getElem?_eq_getElem hj]; exact h _ (List.getElem_mem hj)
  · rw [List.getElem?_eq_none (by omega)]; decide

theorem getV_lit : getV [64, 37] = .tuple #[.int .u64 37, .int .i64 2, .int .i64 0] := by
  have h : getR [64, 37] = (37, 2, 0) := by decide
  unfold getV; rw [h]; rfl
theorem getPV_lit : getPV 31 [234] = .tuple #[.int .u8 224, .int .u64 10, .int .i64 1, .int .i64 0] := by
  have h : getP 31 [234] = (224, 10, 1, 0) := by decide
  unfold getPV; rw [h]
theorem isMask5 : IsMask 5 31 := by unfold IsMask; omega

set_option maxHeartbeats 4000000 in
theorem alive_any (w : World) (hL : Lens w) :
    Calls Tryd.prog 14 #[] w fun e w' => e = .returned (.bool true) ∧ Below w.heap.size w w' := by
  have HL : Hid (Lens w) := hL
  clear hL
  go_enter Tryd.func14, Tryd.ntmps14
  go_wp2_with fail
  refine (put_lit 15293 [123, 189] 2 w (by decide) rfl (by decide) (by decide) HL.out).mono ?_
  rintro e1 w1 ⟨g1, rfl, ho1, hb1⟩
  have HL1 : Hid (Lens w1) := HL.out.step hb1
  have HA1 : Hid (Lies w1 (some ⟨g1, 0, none⟩) [123, 189]) := ho1
  have HB1 : Hid (Below w.heap.size w w1) := hb1
  clear ho1 hb1
  go_wp2_with fail
  refine (put_lit 151288809941952652 [194, 25, 124, 94, 255, 20, 232, 140] 8 w1 (by decide) rfl (by decide) (by decide) HL1.out).mono ?_
  rintro e2 w2 ⟨g2, rfl, ho2, hb2⟩
  have hb3 := below_new w2 (.cells #[.int .u8 64, .int .u8 37] 5)
  have HL3 : Hid (Lens (w2.alloc (.cells #[.int .u8 64, .int .u8 37] 5))) := (HL1.out.step hb2).step hb3
  have HA3 : Hid (Lies (w2.alloc (.cells #[.int .u8 64, .int .u8 37] 5)) (some ⟨g1, 0, none⟩) [123, 189]) := (HA1.out.belowL hb2).belowL hb3
  have HC3 : Hid (Lies (w2.alloc (.cells #[.int .u8 64, .int .u8 37] 5)) (some ⟨g2, 0, none⟩) [194, 25, 124, 94, 255, 20, 232, 140]) := ho2.belowL hb3
  have HN3 : Hid (Lies (w2.alloc (.cells #[.int .u8 64, .int .u8 37] 5)) (some ⟨w2.heap.size, 0, none⟩) [64, 37]) := lies_new w2 [64, 37]
  have HB3 : Hid (Below w.heap.size w (w2.alloc (.cells #[.int .u8 64, .int .u8 37] 5))) := (HB1.out.trans (hb2.mono HB1.out.size)).trans (hb3.mono (HB1.out.trans (hb2.mono HB1.out.size)).size)
  clear ho2 hb2 HL1 HA1 HB1 hb3
  go_wp2_with fail
  refine (get_any _ 2 2 [64, 37] _ rfl (by decide) (by decide) HN3.out (bytes_lit _ (by decide)) HL3.out).mono ?_
  rintro e3 w3 ⟨rfl, hw3⟩
  obtain rfl := hw3.symm
  rw [getV_lit]
  go_wp2_with fail
  refine (putp_lit 0 5 31 1337 [31, 154, 10] 3 _ (by decide) rfl isMask5 (by decide) (by decide) (by decide) (by decide) (by decide)).mono ?_
  rintro e4 w4 ⟨g4, c4, rfl, ho4, hb4⟩
  have hb5 := below_new w4 (.cells #[.int .u8 234] 5)
  have HL5 : Hid (Lens (w4.alloc (.cells #[.int .u8 234] 5))) := (HL3.out.step hb4).step hb5
  have HA5 : Hid (Lies (w4.alloc (.cells #[.int .u8 234] 5)) (some ⟨g1, 0, none⟩) [123, 189]) := (HA3.out.belowL hb4).belowL hb5
  have HC5 : Hid (Lies (w4.alloc (.cells #[.int .u8 234] 5)) (some ⟨g2, 0, none⟩) [194, 25, 124, 94, 255, 20, 232, 140]) := (HC3.out.belowL hb4).belowL hb5
  have HD5 : Hid (Lies (w4.alloc (.cells #[.int .u8 234] 5)) (some ⟨g4, 0, none⟩) [31, 154, 10]) := ho4.belowL hb5
  have HN5 : Hid (Lies (w4.alloc (.cells #[.int .u8 234] 5)) (some ⟨w4.heap.size, 0, none⟩) [234]) := lies_new w4 [234]
  have HB5 : Hid (Below w.heap.size w (w4.alloc (.cells #[.int .u8 234] 5))) := (HB3.out.trans (hb4.mono HB3.out.size)).trans (hb5.mono (HB3.out.trans (hb4.mono HB3.out.size)).size)
  clear ho4 hb4 hb5 HL3 HA3 HC3 HN3 HB3
  go_wp2_with fail
  refine (getp_any _ 1 1 [234] 5 31 _ isMask5 rfl (by decide) (by decide) HN5.out (bytes_lit _ (by decide))).mono ?_
  rintro e6 w6 ⟨rfl, hb6⟩
  rw [getPV_lit]
  have HL6 : Hid (Lens w6) := HL5.out.step hb6
  have HA6 : Hid (Lies w6 (some ⟨g1, 0, none⟩) [123, 189]) := HA5.out.belowL hb6
  have HC6 : Hid (Lies w6 (some ⟨g2, 0, none⟩) [194, 25, 124, 94, 255, 20, 232, 140]) := HC5.out.belowL hb6
  have HD6 : Hid (Lies w6 (some ⟨g4, 0, none⟩) [31, 154, 10]) := HD5.out.belowL hb6
  have HB6 : Hid (Below w.heap.size w w6) := HB5.out.trans (hb6.mono HB5.out.size)
  clear hb6 HL5 HA5 HC5 HD5 HN5 HB5
  go_wp2_with fail
  refine (put_no 4611686018427387904 w6 (by decide)).mono ?_
  rintro e7 w7 ⟨rfl, hw7⟩
  obtain rfl := hw7.symm
  go_wp2_with fail
  have hn8 := below_new w6 (.cells #[.int .u8 123, .int .u8 189] 5)
  refine (same_any _ _ 2 2 2 [123, 189] [123, 189] (w6.alloc (.cells #[.int .u8 123, .int .u8 189] 5)) rfl rfl (by decide) ((HA6.out).belowL hn8) (lies_new w6 [123, 189])).mono ?_
  rintro e8 w8 ⟨rfl, hs8⟩
  have HE8 : Hid (Below w6.heap.size w6 w8) := hn8.trans (hs8.mono hn8.size)
  clear hn8 hs8
  have HC8 : Hid (Lies w8 (some ⟨g2, 0, none⟩) [194, 25, 124, 94, 255, 20, 232, 140]) := HC6.out.belowL HE8.out
  have HD8 : Hid (Lies w8 (some ⟨g4, 0, none⟩) [31, 154, 10]) := HD6.out.belowL HE8.out
  have HB8 : Hid (Below w.heap.size w w8) := HB6.out.trans (HE8.out.mono HB6.out.size)
  clear HC6 HD6 HB6 HA6 HL6 HE8
  go_wp2_with fail
  have hn9 := below_new w8 (.cells #[.int .u8 194, .int .u8 25, .int .u8 124, .int .u8 94, .int .u8 255, .int .u8 20, .int .u8 232, .int .u8 140] 5)
  refine (same_any _ _ 8 8 8 [194, 25, 124, 94, 255, 20, 232, 140] [194, 25, 124, 94, 255, 20, 232, 140] (w8.alloc (.cells #[.int .u8 194, .int .u8 25, .int .u8 124, .int .u8 94, .int .u8 255, .int .u8 20, .int .u8 232, .int .u8 140] 5)) rfl rfl (by decide) ((HC8.out).belowL hn9) (lies_new w8 [194, 25, 124, 94, 255, 20, 232, 140])).mono ?_
  rintro e9 w9 ⟨rfl, hs9⟩
  have HE9 : Hid (Below w8.heap.size w8 w9) := hn9.trans (hs9.mono hn9.size)
  clear hn9 hs9
  have HD9 : Hid (Lies w9 (some ⟨g4, 0, none⟩) [31, 154, 10]) := HD8.out.belowL HE9.out
  have HB9 : Hid (Below w.heap.size w w9) := HB8.out.trans (HE9.out.mono HB8.out.size)
  clear HC8 HD8 HB8 HE9
  go_wp2_with fail
  have hn10 := below_new w9 (.cells #[.int .u8 31, .int .u8 154, .int .u8 10] 5)
  refine (same_any _ _ 3 c4 3 [31, 154, 10] [31, 154, 10] (w9.alloc (.cells #[.int .u8 31, .int .u8 154, .int .u8 10] 5)) rfl rfl (by decide) ((HD9.out).belowL hn10) (lies_new w9 [31, 154, 10])).mono ?_
  rintro e10 w10 ⟨rfl, hs10⟩
  have HE10 : Hid (Below w9.heap.size w9 w10) := hn10.trans (hs10.mono hn10.size)
  clear hn10 hs10
  go_wp2
  go_ret
  exact ⟨rfl, HB9.out.trans (HE10.out.mono HB9.out.size)⟩
end Go.Proofs.YtmgmejbjekojnaaDoor

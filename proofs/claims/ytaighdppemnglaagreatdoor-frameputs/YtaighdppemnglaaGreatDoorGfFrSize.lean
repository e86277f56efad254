/-
  How great frames are, as the statements ask it: FrameSize, FramesSize, Beyond.
-/
import Derived.Test.YtaighdppemnglaaGreatDoorGf5
namespace Go.Proofs.YtaighdppemnglaaGreatDoor
open Go Go.RowKit

theorem bytes_size (a : Option Addr) (n c : Nat) (w : World) : Calls Tryz.prog 73 #[.slice a n c] w fun e w' => e = .returned (.int .i64 (n : Int)) ∧ w' = w := by
  go_enter Tryz.func73, Tryz.ntmps73
  go_wp2_with fail
  go_ret
  exact ⟨rfl, rfl⟩
theorem ranges_size (a : Option Addr) (n c : Nat) (w : World) : Calls Tryz.prog 74 #[.slice a n c] w fun e w' => e = .returned (.int .i64 (n : Int)) ∧ w' = w := by
  go_enter Tryz.func74, Tryz.ntmps74
  go_wp2_with fail
  go_ret
  exact ⟨rfl, rfl⟩
set_option maxRecDepth 20000 in
set_option maxHeartbeats 1000000 in
theorem frame_size (f : FrM) (w : World) (hd : f.data.len ≤ 140737488355328) (hr : f.ranges.len ≤ 140737488355328) :
    Calls Tryz.prog 22 #[.agg f.cells] w fun e w' => (∃ N : Nat, e = .returned (.int .i64 (N : Int)) ∧ N ≤ 281474976710657 ∧ (N ≤ 1048576 → f.data.len ≤ 1048576 ∧ f.ranges.len ≤ 1048576)) ∧ Below w.heap.size w w' := by
  obtain ⟨k, st, of, li, co, fi, da, ra⟩ := f
  simp only at hd hr ⊢
  have r0 : Row (w.alloc (.cells (FrM.mk k st of li co fi da ra).cells 37)) w.heap.size 37 (FrM.mk k st of li co fi da ra).cells := Row.new _ _ _
  have b0 : Below w.heap.size w (w.alloc (.cells (FrM.mk k st of li co fi da ra).cells 37)) := (Below.refl _ w).alloc (Nat.le_refl _) _
  obtain ⟨c0, c1, c2, c3, c4, c5, c6, c7⟩ := fr_cells r0
  simp only at c0 c1 c2 c3 c4 c5 c6 c7
  have HB0 := veil b0
  clear r0 b0
  have w1 : IntKind.i64.wrap (1 + (da.len : Int)) = 1 + (da.len : Int) := by rw [IntKind.wrap_i64]; omega
  by_cases h1 : 1 + da.len ≤ 1048576
  · have f1 : decide (1 + (da.len : Int) ≤ 1048576) = true := by simp; omega
    have w2 : IntKind.i64.wrap (1 + (da.len : Int) + (ra.len : Int)) = 1 + (da.len : Int) + (ra.len : Int) := by rw [IntKind.wrap_i64]; omega
    have HR := veil (show ∃ N : Nat, Ending.returned (.int .i64 (1 + (da.len : Int) + (ra.len : Int))) = .returned (.int .i64 (N : Int)) ∧ N ≤ 281474976710657 ∧ (N ≤ 1048576 → da.len ≤ 1048576 ∧ ra.len ≤ 1048576) from ⟨1 + da.len + ra.len, by congr 2, by omega, by omega⟩)
    clear h1
    go_enter Tryz.func22, Tryz.ntmps22
    go_wp2_with fail
    refine (bytes_size _ _ _ _).mono ?_
    rintro e1 w1 ⟨rfl, rfl⟩
    go_wp2_with fail
    refine (ranges_size _ _ _ _).mono ?_
    rintro e2 w2 ⟨rfl, rfl⟩
    go_wp2_with fail
    go_ret
    exact ⟨HR.out, HB0.out⟩
  · have f1 : decide (1 + (da.len : Int) ≤ 1048576) = false := by simp; omega
    have HR := veil (show ∃ N : Nat, Ending.returned (.int .i64 (1 + (da.len : Int))) = .returned (.int .i64 (N : Int)) ∧ N ≤ 281474976710657 ∧ (N ≤ 1048576 → da.len ≤ 1048576 ∧ ra.len ≤ 1048576) from ⟨1 + da.len, by congr 2, by omega, by omega⟩)
    clear h1
    go_enter Tryz.func22, Tryz.ntmps22
    go_wp2_with fail
    refine (bytes_size _ _ _ _).mono ?_
    rintro e1 w1 ⟨rfl, rfl⟩
    go_wp2_with fail
    go_ret
    exact ⟨HR.out, HB0.out⟩

set_option maxRecDepth 20000 in
set_option maxHeartbeats 2000000 in
theorem frames_size (s : FS) (w : World) (hs : s.Ok w) (hl : s.len ≤ 140737488355328) (hd : ∀ j, j < s.len → (gf s.l j).data.len ≤ 140737488355328 ∧ (gf s.l j).ranges.len ≤ 140737488355328) :
    Calls Tryz.prog 6 #[.slice s.a s.len s.cap] w fun e w' => (∃ N : Nat, e = .returned (.int .i64 (N : Int)) ∧ N ≤ 1000000000000000 ∧ (N ≤ 1048576 → s.len ≤ 1048576 ∧ ∀ j, j < s.len → (gf s.l j).data.len ≤ 1048576 ∧ (gf s.l j).ranges.len ≤ 1048576)) ∧ Below w.heap.size w w' := by
  obtain ⟨a, len, cap, g, off, l⟩ := s
  have HP := veil hs
  have HD := veil hd
  clear hs hd
  simp only at hl HD ⊢
  go_enter Tryz.func6, Tryz.ntmps6
  go_wp2_with fail
  go_loopw [3, 4] (fun v i wr => ∃ (k N : Nat), k ≤ len ∧ i = .int .i64 (k : Int) ∧ v = .int .i64 (N : Int) ∧ (len ≤ N ∧ N ≤ 500000000000000) ∧ (N ≤ 1048576 → ∀ j, j < k → (gf l j).data.len ≤ 1048576 ∧ (gf l j).ranges.len ≤ 1048576) ∧ Below w.heap.size w wr)
    (fun _ i _ => len - (intOf i).toNat)
  case atStart => exact ⟨0, len, Nat.zero_le _, rfl, rfl, ⟨Nat.le_refl _, by omega⟩, fun _ j hj => absurd hj (Nat.not_lt_zero _), Below.refl _ _⟩
  case round =>
    obtain ⟨k, N, hk, rfl, rfl, ⟨hN1, hN2⟩, hJ, hbel⟩ := hrel
    have HJ := veil hJ
    have HB := veil hbel
    by_cases hlt : k < len
    · have hd0 : decide ((k : Int) < (len : Int)) = true := by simp; omega
      have hd0n : decide (k < len) = true := by simp; omega
      by_cases hm : N ≤ 1048576
      · have f1 : decide ((N : Int) ≤ 1048576) = true := by simp; omega
        have f1n : decide (N ≤ 1048576) = true := by simp; omega
        have e1 : a = some ⟨g, off, none⟩ := HP.out.at_ (show 0 < len by omega)
        subst e1
        have hc := (HP.out.below hbel).cell k hlt
        have hdk := HD.out k hlt
        obtain ⟨K, ek⟩ : ∃ K, K = gf l k := ⟨_, rfl⟩
        simp only at hc
        rw [← ek] at hc hdk
        obtain ⟨kk, st, of, li, co, fi, da, ra⟩ := K
        have a0 := hc 0 _ rfl
        have a1 := hc 1 _ rfl
        have a2 := hc 2 _ rfl
        have a3 := hc 3 _ rfl
        have a4 := hc 4 _ rfl
        have a5 := hc 5 _ rfl
        have a6 := hc 6 _ rfl
        have a7 := hc 7 _ rfl
        simp only [Nat.add_zero] at a0 a1 a2 a3 a4 a5 a6 a7
        have EK := veil ek
        clear hc ek hJ hbel
        go_wp2_with fail
        clear a0 a1 a2 a3 a4 a5 a6 a7
        refine (frame_size ⟨kk, st, of, li, co, fi, da, ra⟩ wr hdk.1 hdk.2).mono ?_
        rintro e2 w2 ⟨⟨M, rfl, hM1, hM2⟩, hb2⟩
        have B2 := veil (HB.out.trans (hb2.mono HB.out.size))
        have hw : IntKind.i64.wrap ((N : Int) + (M : Int)) = ((N + M : Nat) : Int) := by rw [IntKind.wrap_i64]; omega
        have J2 := veil (show N + M ≤ 1048576 → ∀ j, j < k + 1 → (gf l j).data.len ≤ 1048576 ∧ (gf l j).ranges.len ≤ 1048576 by
          intro h j hj
          rcases Nat.lt_or_ge j k with q | q
          · exact HJ.out (by omega) j q
          · obtain rfl : j = k := by omega
            rw [← EK.out]
            exact hM2 (by omega))
        have hb3 : N + M ≤ 500000000000000 := by omega
        have hb4 : len ≤ N + M := by omega
        clear hM2 hb2 HJ EK
        go_wp2_with fail
        go_roundw
        case rel => exact ⟨k + 1, N + M, by omega, by go_num, by go_num, ⟨hb4, hb3⟩, J2.out, B2.out⟩
        case measure => simp [intOf]; omega
      · have f1 : decide ((N : Int) ≤ 1048576) = false := by simp; omega
        have f1n : decide (N ≤ 1048576) = false := by simp; omega
        have HR := veil (show ∃ M : Nat, Ending.returned (.int .i64 (N : Int)) = .returned (.int .i64 (M : Int)) ∧ M ≤ 1000000000000000 ∧ (M ≤ 1048576 → len ≤ 1048576 ∧ ∀ j, j < len → (gf l j).data.len ≤ 1048576 ∧ (gf l j).ranges.len ≤ 1048576) from ⟨N, rfl, by omega, fun h => absurd h hm⟩)
        clear hJ hbel hm
        go_wp2_with fail
        go_ret
        exact ⟨HR.out, HB.out⟩
    · obtain rfl : len = k := by omega
      have hd0 : decide ((len : Int) < (len : Int)) = false := by simp
      have hd0n : decide (len < len) = false := by simp
      have HR := veil (show ∃ M : Nat, Ending.returned (.int .i64 (N : Int)) = .returned (.int .i64 (M : Int)) ∧ M ≤ 1000000000000000 ∧ (M ≤ 1048576 → len ≤ 1048576 ∧ ∀ j, j < len → (gf l j).data.len ≤ 1048576 ∧ (gf l j).ranges.len ≤ 1048576) from ⟨N, rfl, by omega, fun h => ⟨by omega, HJ.out h⟩⟩)
      clear hJ hbel
      go_wp2_with fail
      go_ret
      exact ⟨HR.out, HB.out⟩
end Go.Proofs.YtaighdppemnglaaGreatDoor

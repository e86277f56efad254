/-
  Out of FrSize, FrBeyond.
-/
import Derived.Test.YtnngeojhlfkdiabDoorGc5

/-! How great frames are, as the statements ask it: FrameSize, FramesSize, Beyond. -/
namespace Go.Proofs.YtnngeojhlfkdiabDoor
open Go Go.RowKit

theorem bytes_size (a : Option Addr) (n c : Nat) (w : World) : Calls Tryd.prog 16 #[.slice a n c] w fun e w' => e = .returned (.int .i64 (n : Int)) ∧ w' = w := by
  go_enter Tryd.func16, Tryd.ntmps16
  go_wp2_with fail
  go_ret
  exact ⟨rfl, rfl⟩
theorem ranges_size (a : Option Addr) (n c : Nat) (w : World) : Calls Tryd.prog 17 #[.slice a n c] w fun e w' => e = .returned (.int .i64 (n : Int)) ∧ w' = w := by
  go_enter Tryd.func17, Tryd.ntmps17
  go_wp2_with fail
  go_ret
  exact ⟨rfl, rfl⟩
set_option maxRecDepth 20000 in
set_option maxHeartbeats 1000000 in
theorem frame_size (f : FrM) (w : World) (hd : f.data.len ≤ 140737488355328) (hr : f.ranges.len ≤ 140737488355328) :
    Calls Tryd.prog 11 #[.agg f.cells] w fun e w' => (∃ N : Nat, e = .returned (.int .i64 (N : Int)) ∧ N ≤ 281474976710657 ∧ (N ≤ 1048576 → f.data.len ≤ 1048576 ∧ f.ranges.len ≤ 1048576)) ∧ Below w.heap.size w w' := by
  obtain ⟨k, st, of, li, co, fi, da, ra⟩ := f
  simp only at hd hr ⊢
  have r0 : Row (w.alloc (.cells (FrM.mk k st of li co fi da ra).cells 31)) w.heap.size 31 (FrM.mk k st of li co fi da ra).cells := Row.new _ _ _
  have b0 : Below w.heap.size w (w.alloc (.cells (FrM.mk k st of li co fi da ra).cells 31)) := (Below.refl _ w).alloc (Nat.le_refl _) _
  obtain ⟨c0, c1, c2, c3, c4, c5, c6, c7⟩ := fr_cells r0
  simp only at c0 c1 c2 c3 c4 c5 c6 c7
  have HB0 := veil b0
  clear r0 b0
  have w1 : IntKind.i64.wrap (1 + (da.len : Int)) = 1 + (da.len : Int) := by rw [IntKind.wrap_i64]; omega
  by_cases h1 : 1 + da.len ≤ 1048576
  · have f1 : decide (1 + (da.len : Int) ≤ 1048576) = true := by simp; omega
    have w2 : IntKind.i64.wrap (1 + (da.len : Int) + (ra.len : Int)) = 1 + (da.len : Int) + (ra.len : Int) := by rw [IntKind.wrap_i64]; omega
    have HR := veil (show ∃ N : Nat, Ending.returned (.int .i64 (1 + (da.len : Int) + (ra.len : Int))) = .returned (.int .i64 (N : Int)) ∧ N ≤ 281474976710657 ∧ (N ≤ 1048576 → da.len ≤ 1048576 ∧ ra.len ≤ 1048576) from ⟨1 + da.len + ra.len, by congr 2, by omega, by omega⟩)
    clear h1
    go_enter Tryd.func11, Tryd.ntmps11
    go_wp2_with fail
    refine (bytes_size _ _ _ _).mono ?_
    rintro e1 w1 ⟨rfl, rfl⟩
    go_wp2_with fail
    refine (ranges_size _ _ _ _).mono ?_
    rintro e2 w2 ⟨rfl, rfl⟩
    go_wp2_with fail
    go_ret
    exact ⟨HR.out, HB0.out⟩
  · have f1 : decide (1 + (da.len : Int) ≤ 1048576) = false := by simp; omega
    have HR := veil (show ∃ N : Nat, Ending.returned (.int .i64 (1 + (da.len : Int))) = .returned (.int .i64 (N : Int)) ∧ N ≤ 281474976710657 ∧ (N ≤ 1048576 → da.len ≤ 1048576 ∧ ra.len ≤ 1048576) from ⟨1 + da.len, by congr 2, by omega, by omega⟩)
    clear h1
    go_enter Tryd.func11, Tryd.ntmps11
    go_wp2_with fail
    refine (bytes_size _ _ _ _).mono ?_
    rintro e1 w1 ⟨rfl, rfl⟩
    go_wp2_with fail
    go_ret
    exact ⟨HR.out, HB0.out⟩

set_option maxRecDepth 20000 in
set_option maxHeartbeats 2000000 in
theorem frames_size (s : FS) (w : World) (hs : s.Ok w) (hl : s.len ≤ 140737488355328) (hd : ∀ j, j < s.len → (gf s.l j).data.len ≤ 140737488355328 ∧ (gf s.l j).ranges.len ≤ 140737488355328) :
    Calls Tryd.prog 6 #[.slice s.a s.len s.cap] w fun e w' => (∃ N : Nat, e = .returned (.int .i64 (N : Int)) ∧ N ≤ 1000000000000000 ∧ (N ≤ 1048576 → s.len ≤ 1048576 ∧ ∀ j, j < s.len → (gf s.l j).data.len ≤ 1048576 ∧ (gf s.l j).ranges.len ≤ 1048576)) ∧ Below w.heap.size w w' := by
  obtain ⟨a, len, cap, g, off, l⟩ := s
  have HP := veil hs
  have HD := veil hd
  clear hs hd
  simp only at hl HD ⊢
  go_enter Tryd.func6, Tryd.ntmps6
  go_wp2_with fail
  go_loopw [3, 4] (fun v i wr => ∃ (k N : Nat), k ≤ len ∧ i = .int .i64 (k : Int) ∧ v = .int .i64 (N : Int) ∧ (len ≤ N ∧ N ≤ 500000000000000) ∧ (N ≤ 1048576 → ∀ j, j < k → (gf l j).data.len ≤ 1048576 ∧ (gf l j).ranges.len ≤ 1048576) ∧ Below w.heap.size w wr)
    (fun _ i _ => len - (intOf i).toNat)
  case atStart => exact ⟨0, len, Nat.zero_le _, rfl, rfl, ⟨Nat.le_refl _, by omega⟩, fun _ j hj => absurd hj (Nat.not_lt_zero _), Below.refl _ _⟩
  case round =>
    obtain ⟨k, N, hk, rfl, rfl, ⟨hN1, hN2⟩, hJ, hbel⟩ := hrel
    have HJ := veil hJ
    have HB := veil hbel
    by_cases hlt : k < len
    · have hd0 : decide ((k : Int) < (len : Int)) = true := by simp; omega
      have hd0n : decide (k < len) = true := by simp; omega
      by_cases hm : N ≤ 1048576
      · have f1 : decide ((N : Int) ≤ 1048576) = true := by simp; omega
        have f1n : decide (N ≤ 1048576) = true := by simp; omega
        have e1 : a = some ⟨g, off, none⟩ := HP.out.at_ (show 0 < len by omega)
        subst e1
        have hc := (HP.out.below hbel).cell k hlt
        have hdk := HD.out k hlt
        obtain ⟨K, ek⟩ : ∃ K, K = gf l k := ⟨_, rfl⟩
        simp only at hc
        rw [← ek] at hc hdk
        obtain ⟨kk, st, of, li, co, fi, da, ra⟩ := K
        have a0 := hc 0 _ rfl
        have a1 := hc 1 _ rfl
        have a2 := hc 2 _ rfl
        have a3 := hc 3 _ rfl
        have a4 := hc 4 _ rfl
        have a5 := hc 5 _ rfl
        have a6 := hc 6 _ rfl
        have a7 := hc 7 _ rfl
        simp only [Nat.add_zero] at a0 a1 a2 a3 a4 a5 a6 a7
        have EK := veil ek
        clear hc ek hJ hbel
        go_wp2_with fail
        clear a0 a1 a2 a3 a4 a5 a6 a7
        refine (frame_size ⟨kk, st, of, li, co, fi, da, ra⟩ wr hdk.1 hdk.2).mono ?_
        rintro e2 w2 ⟨⟨M, rfl, hM1, hM2⟩, hb2⟩
        have B2 := veil (HB.out.trans (hb2.mono HB.out.size))
        have hw : IntKind.i64.wrap ((N : Int) + (M : Int)) = ((N + M : Nat) : Int) := by rw [IntKind.wrap_i64]; omega
        have J2 := veil (show N + M ≤ 1048576 → ∀ j, j < k + 1 → (gf l j).data.len ≤ 1048576 ∧ (gf l j).ranges.len ≤ 1048576 by
          intro h j hj
          rcases Nat.lt_or_ge j k with q | q
          · exact HJ.out (by omega) j q
          · obtain rfl : j = k := by omega
            rw [← EK.out]
            exact hM2 (by omega))
        have hb3 : N + M ≤ 500000000000000 := by omega
        have hb4 : len ≤ N + M := by omega
        clear hM2 hb2 HJ EK
        go_wp2_with fail
        go_roundw
        case rel => exact ⟨k + 1, N + M, by omega, by go_num, by go_num, ⟨hb4, hb3⟩, J2.out, B2.out⟩
        case measure => simp [intOf]; omega
      · have f1 : decide ((N : Int) ≤ 1048576) = false := by simp; omega
        have f1n : decide (N ≤ 1048576) = false := by simp; omega
        have HR := veil (show ∃ M : Nat, Ending.returned (.int .i64 (N : Int)) = .returned (.int .i64 (M : Int)) ∧ M ≤ 1000000000000000 ∧ (M ≤ 1048576 → len ≤ 1048576 ∧ ∀ j, j < len → (gf l j).data.len ≤ 1048576 ∧ (gf l j).ranges.len ≤ 1048576) from ⟨N, rfl, by omega, fun h => absurd h hm⟩)
        clear hJ hbel hm
        go_wp2_with fail
        go_ret
        exact ⟨HR.out, HB.out⟩
    · obtain rfl : len = k := by omega
      have hd0 : decide ((len : Int) < (len : Int)) = false := by simp
      have hd0n : decide (len < len) = false := by simp
      have HR := veil (show ∃ M : Nat, Ending.returned (.int .i64 (N : Int)) = .returned (.int .i64 (M : Int)) ∧ M ≤ 1000000000000000 ∧ (M ≤ 1048576 → len ≤ 1048576 ∧ ∀ j, j < len → (gf l j).data.len ≤ 1048576 ∧ (gf l j).ranges.len ≤ 1048576) from ⟨N, rfl, by omega, fun h => ⟨by omega, HJ.out h⟩⟩)
      clear hJ hbel
      go_wp2_with fail
      go_ret
      exact ⟨HR.out, HB.out⟩
end Go.Proofs.YtnngeojhlfkdiabDoor

/-! Beyond: whether numbers together are more than MaxBytes. -/
namespace Go.Proofs.YtnngeojhlfkdiabDoor
open Go Go.RowKit

set_option maxRecDepth 20000 in
set_option maxHeartbeats 1000000 in
theorem beyond_any (g n : Nat) (v : Nat → Nat) (w : World) (hn : n ≤ 1000) (hc : ∀ j, j < n → w.cell? ⟨g, j, none⟩ = some (.int .i64 (v j : Int))) (hv : ∀ j, j < n → v j ≤ 1000000000000000) :
    Calls Tryd.prog 5 #[.slice (some ⟨g, 0, none⟩) n n] w fun e w' => (∃ b, e = .returned (.bool b) ∧ (b = false → ∀ j, j < n → v j ≤ 1048576)) ∧ w' = w := by
  have HC := veil hc
  have HV := veil hv
  clear hc hv
  go_enter Tryd.func5, Tryd.ntmps5
  go_wp2_with fail
  go_loopw [3, 4] (fun s i wr => ∃ (k N : Nat), k ≤ n ∧ i = .int .i64 (k : Int) ∧ s = .int .i64 (N : Int) ∧ N ≤ 1048576 ∧ (∀ j, j < k → v j ≤ N) ∧ wr = w)
    (fun _ i _ => n - (intOf i).toNat)
  case atStart => exact ⟨0, 0, Nat.zero_le _, rfl, rfl, Nat.zero_le _, fun j hj => absurd hj (Nat.not_lt_zero _), rfl⟩
  case round =>
    obtain ⟨k, N, hk, rfl, rfl, hN, hJ, rfl⟩ := hrel
    have HJ := veil hJ
    clear hJ
    by_cases hlt : k < n
    · have hd0 : decide ((k : Int) < (n : Int)) = true := by simp; omega
      have hd0n : decide (k < n) = true := by simp; omega
      have hck := HC.out k hlt
      have hvk := HV.out k hlt
      have hw : IntKind.i64.wrap ((N : Int) + (v k : Int)) = (N : Int) + (v k : Int) := by rw [IntKind.wrap_i64]; omega
      by_cases hb : 1048576 < N + v k
      · have f1 : decide ((1048576 : Int) < (N : Int) + (v k : Int)) = true := decide_eq_true (by omega)
        go_wp2_with fail
        go_ret
        exact ⟨⟨true, rfl, fun e => by cases e⟩, rfl⟩
      · have f1 : decide ((1048576 : Int) < (N : Int) + (v k : Int)) = false := decide_eq_false (by omega)
        have J2 := veil (show ∀ j, j < k + 1 → v j ≤ N + v k by
          intro j hj
          rcases Nat.lt_or_ge j k with q | q
          · have := HJ.out j q; omega
          · obtain rfl : j = k := by omega
            omega)
        go_wp2_with fail
        go_roundw
        case rel => exact ⟨k + 1, N + v k, by omega, by go_num, by go_num, by omega, J2.out, by trivial⟩
        case measure => simp [intOf]; omega
    · have hd0 : decide ((k : Int) < (n : Int)) = false := by simp; omega
      have hd0n : decide (k < n) = false := by simp; omega
      have HR := veil (show ∀ j, j < n → v j ≤ 1048576 from fun j hj => by have := HJ.out j (by omega); omega)
      go_wp2_with fail
      go_ret
      exact ⟨⟨false, rfl, fun _ => HR.out⟩, rfl⟩
theorem beyond_one (w : World) (N : Nat) (hN : N ≤ 1000000000000000) : Calls Tryd.prog 5 #[.slice (some ⟨w.heap.size, 0, none⟩) 1 1] (w.alloc (.cells #[.int .i64 (N : Int)] 3)) fun e w' => (∃ b, e = .returned (.bool b) ∧ (b = false → N ≤ 1048576)) ∧ Below w.heap.size w w' := by
  have r : Row (w.alloc (.cells #[.int .i64 (N : Int)] 3)) w.heap.size 3 #[.int .i64 (N : Int)] := Row.new _ _ _
  refine (beyond_any w.heap.size 1 (fun _ => N) _ (by decide) (fun j hj => ?_) (fun _ _ => hN)).mono ?_
  · obtain rfl : j = 0 := by omega
    exact r.cell 0
  · rintro e w' ⟨⟨b, rfl, h⟩, rfl⟩
    exact ⟨⟨b, rfl, fun hb => h hb 0 (by decide)⟩, (Below.refl _ w).alloc (Nat.le_refl _) _⟩
theorem beyond_two (w : World) (N M : Nat) (hN : N ≤ 1000000000000000) (hM : M ≤ 1000000000000000) : Calls Tryd.prog 5 #[.slice (some ⟨w.heap.size, 0, none⟩) 2 2] (w.alloc (.cells #[.int .i64 (N : Int), .int .i64 (M : Int)] 3)) fun e w' => (∃ b, e = .returned (.bool b) ∧ (b = false → N ≤ 1048576 ∧ M ≤ 1048576)) ∧ Below w.heap.size w w' := by
  have r : Row (w.alloc (.cells #[.int .i64 (N : Int), .int .i64 (M : Int)] 3)) w.heap.size 3 #[.int .i64 (N : Int), .int .i64 (M : Int)] := Row.new _ _ _
  refine (beyond_any w.heap.size 2 (fun j => if j = 0 then N else M) _ (by decide) (fun j hj => ?_) (fun j _ => ?_)).mono ?_
  · obtain rfl | rfl : j = 0 ∨ j = 1 := by omega
    · exact r.cell 0
    · exact r.cell 1
  · show (if j = 0 then N else M) ≤ _
    split <;> omega
  · rintro e w' ⟨⟨b, rfl, h⟩, rfl⟩
    exact ⟨⟨b, rfl, fun hb => ⟨h hb 0 (by decide), h hb 1 (by decide)⟩⟩, (Below.refl _ w).alloc (Nat.le_refl _) _⟩
end Go.Proofs.YtnngeojhlfkdiabDoor

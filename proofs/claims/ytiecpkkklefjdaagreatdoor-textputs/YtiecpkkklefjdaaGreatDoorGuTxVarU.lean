/-
  The document's PutPrefix.
-/
import Derived.Test.YtiecpkkklefjdaaGreatDoorGuTxVarW
namespace Go.Proofs.YtiecpkkklefjdaaGreatDoor.Vi

section
open Go.RowKit

set_option maxHeartbeats 2000000 in
theorem most_any (b M : Int) (w : World) (h : IsMask b M) :
    Calls Tryz.prog 66 #[.int .i64 b] w fun e w' => e = .returned (.int .u64 M) ∧ w' = w := by
  unfold IsMask at h
  rcases h with ⟨rfl, rfl⟩ | ⟨rfl, rfl⟩ | ⟨rfl, rfl⟩ | ⟨rfl, rfl⟩ | ⟨rfl, rfl⟩ | ⟨rfl, rfl⟩ | ⟨rfl, rfl⟩ | ⟨rfl, rfl⟩
  · go_enter Tryz.func66, Tryz.ntmps66
    go_wp2
    refine wp_loop_rounds 2 ?_
    rw [rounds_succ]
    go_wp2
    rw [rounds_succ]
    go_wp2
    go_ret
    exact ⟨rfl, rfl⟩
  · go_enter Tryz.func66, Tryz.ntmps66
    go_wp2
    refine wp_loop_rounds 3 ?_
    rw [rounds_succ]
    go_wp2
    rw [rounds_succ]
    go_wp2
    rw [rounds_succ]
    go_wp2
    go_ret
    exact ⟨rfl, rfl⟩
  · go_enter Tryz.func66, Tryz.ntmps66
    go_wp2
    refine wp_loop_rounds 4 ?_
    rw [rounds_succ]
    go_wp2
    rw [rounds_succ]
    go_wp2
    rw [rounds_succ]
    go_wp2
    rw [rounds_succ]
    go_wp2
    go_ret
    exact ⟨rfl, rfl⟩
  · go_enter Tryz.func66, Tryz.ntmps66
    go_wp2
    refine wp_loop_rounds 5 ?_
    rw [rounds_succ]
    go_wp2
    rw [rounds_succ]
    go_wp2
    rw [rounds_succ]
    go_wp2
    rw [rounds_succ]
    go_wp2
    rw [rounds_succ]
    go_wp2
    go_ret
    exact ⟨rfl, rfl⟩
  · go_enter Tryz.func66, Tryz.ntmps66
    go_wp2
    refine wp_loop_rounds 6 ?_
    rw [rounds_succ]
    go_wp2
    rw [rounds_succ]
    go_wp2
    rw [rounds_succ]
    go_wp2
    rw [rounds_succ]
    go_wp2
    rw [rounds_succ]
    go_wp2
    rw [rounds_succ]
    go_wp2
    go_ret
    exact ⟨rfl, rfl⟩
  · go_enter Tryz.func66, Tryz.ntmps66
    go_wp2
    refine wp_loop_rounds 7 ?_
    rw [rounds_succ]
    go_wp2
    rw [rounds_succ]
    go_wp2
    rw [rounds_succ]
    go_wp2
    rw [rounds_succ]
    go_wp2
    rw [rounds_succ]
    go_wp2
    rw [rounds_succ]
    go_wp2
    rw [rounds_succ]
    go_wp2
    go_ret
    exact ⟨rfl, rfl⟩
  · go_enter Tryz.func66, Tryz.ntmps66
    go_wp2
    refine wp_loop_rounds 8 ?_
    rw [rounds_succ]
    go_wp2
    rw [rounds_succ]
    go_wp2
    rw [rounds_succ]
    go_wp2
    rw [rounds_succ]
    go_wp2
    rw [rounds_succ]
    go_wp2
    rw [rounds_succ]
    go_wp2
    rw [rounds_succ]
    go_wp2
    rw [rounds_succ]
    go_wp2
    go_ret
    exact ⟨rfl, rfl⟩
  · go_enter Tryz.func66, Tryz.ntmps66
    go_wp2
    refine wp_loop_rounds 9 ?_
    rw [rounds_succ]
    go_wp2
    rw [rounds_succ]
    go_wp2
    rw [rounds_succ]
    go_wp2
    rw [rounds_succ]
    go_wp2
    rw [rounds_succ]
    go_wp2
    rw [rounds_succ]
    go_wp2
    rw [rounds_succ]
    go_wp2
    rw [rounds_succ]
    go_wp2
    rw [rounds_succ]
    go_wp2
    go_ret
    exact ⟨rfl, rfl⟩
end

section
open Go.RowKit
set_option maxHeartbeats 1000000 in
theorem refp_bits (first b n : Int) (w : World) (h : b < 1 ∨ 8 < b) :
    Calls Tryz.prog 21 #[.int .u8 first, .int .i64 b, .int .u64 n] w fun e w' => e = .returned (.tuple #[.slice none 0 0, .int .i64 1]) ∧ w' = w := by
  rcases h with h | h
  · go_enter Tryz.func21, Tryz.ntmps21
    go_wp2
    go_ret2
    exact ⟨rfl, rfl⟩
  · have h1 : ¬ b < 1 := by omega
    go_enter Tryz.func21, Tryz.ntmps21
    go_wp2
    go_ret2
    exact ⟨rfl, rfl⟩

set_option maxHeartbeats 1000000 in
theorem refp_large (first b n : Int) (w : World) (h0 : 1 ≤ b) (h1 : b ≤ 8) (hn : 4611686018427387903 < n) :
    Calls Tryz.prog 21 #[.int .u8 first, .int .i64 b, .int .u64 n] w fun e w' => e = .returned (.tuple #[.slice none 0 0, .int .i64 1]) ∧ w' = w := by
  go_enter Tryz.func21, Tryz.ntmps21
  go_wp2
  go_ret2
  exact ⟨rfl, rfl⟩

set_option maxHeartbeats 1000000 in
theorem refp_first (first b M n : Int) (w : World) (h : IsMask b M) (hf0 : 0 ≤ first) (hf1 : first ≤ 255) (hn : n ≤ 4611686018427387903) (hf : first % (M + 1) ≠ 0) :
    Calls Tryz.prog 21 #[.int .u8 first, .int .i64 b, .int .u64 n] w fun e w' => e = .returned (.tuple #[.slice none 0 0, .int .i64 1]) ∧ w' = w := by
  have hbd := h.bd
  have hand := h.and64 first hf0 hf1
  have hne : (first % (M + 1) != 0) = true := by simpa using hf
  have H : Hid (IsMask b M) := h
  clear h
  go_enter Tryz.func21, Tryz.ntmps21
  go_wp2_with fail
  refine (most_any _ M _ H.out).mono ?_
  rintro e1 w1 ⟨rfl, hw1⟩
  obtain rfl := hw1.symm
  go_wp2
  go_ret2
  exact ⟨rfl, rfl⟩

set_option maxHeartbeats 1000000 in
theorem refp_short (first b M n : Int) (w : World) (h : IsMask b M) (hf0 : 0 ≤ first) (hf1 : first ≤ 255) (hn : 0 ≤ n) (hf : first % (M + 1) = 0) (hs : n < M) :
    Calls Tryz.prog 21 #[.int .u8 first, .int .i64 b, .int .u64 n] w fun e w' => e = .returned (.tuple #[.slice (some ⟨w.heap.size, 0, none⟩) 1 1, .int .i64 0]) ∧ w' = w.alloc (.cells #[.int .u8 (first + n)] 5) := by
  have hbd := h.bd
  have hand := h.and64 first hf0 hf1
  have hor := h.or8 first n hf0 hf1 hf hn (by omega)
  rw [hf] at hand
  have H : Hid (IsMask b M) := h
  clear h hf
  go_enter Tryz.func21, Tryz.ntmps21
  go_wp2_with fail
  refine (most_any _ M _ H.out).mono ?_
  rintro e1 w1 ⟨rfl, hw1⟩
  obtain rfl := hw1.symm
  go_wp2
  go_ret2
  exact ⟨rfl, rfl⟩

set_option maxRecDepth 20000 in
set_option maxHeartbeats 4000000 in
theorem refp_long (first b M n : Int) (w : World) (h : IsMask b M) (hf0 : 0 ≤ first) (hf1 : first ≤ 255) (hn : n ≤ 4611686018427387903) (hf : first % (M + 1) = 0) (hs : M ≤ n) :
    Calls Tryz.prog 21 #[.int .u8 first, .int .i64 b, .int .u64 n] w fun e w' => ∃ g c, e = .returned (.tuple #[.slice (some ⟨g, 0, none⟩) ((first + M) :: sev 9 (n - M)).length c, .int .i64 0]) ∧ Owns w.heap.size w' g ((first + M) :: sev 9 (n - M)).length c ((first + M) :: sev 9 (n - M)) ∧ Below w.heap.size w w' := by
  obtain ⟨i0, hi, hz0, hz1, hz2⟩ := info_parts Tryz.infoByte
  have hbd := h.bd
  have hand := h.and64 first hf0 hf1
  have hor := h.or8 first M hf0 hf1 hf (by omega) (by omega)
  rw [hf] at hand
  have H : Hid (IsMask b M) := h
  clear h hf
  go_enter Tryz.func21, Tryz.ntmps21
  go_wp2_with fail
  refine (most_any _ M _ H.out).mono ?_
  rintro e1 w1 ⟨rfl, hw1⟩
  obtain rfl := hw1.symm
  go_wp2_with fail
  have hO0 := own_lit w [first + M] (show 1 ≤ maxLen by decide)
  have hB0 := (Below.refl w.heap.size w).alloc (Nat.le_refl _) (.cells #[.int .u8 (first + M)] 5)
  go_loopw [2, 9] (fun p t wr => ∃ (pre : List Int) (f : Nat) (r : Int) (g c : Nat), p = .int .u64 r ∧ t = .slice (some ⟨g, 0, none⟩) (pre.length + 1) c ∧ 0 ≤ r ∧ r < 4611686018427387904 ∧ pre.length + f = 9 ∧ r < pw f ∧ sev 9 (n - M) = pre ++ sev f r ∧ Owns w.heap.size wr g (pre.length + 1) c ((first + M) :: pre) ∧ Below w.heap.size w wr)
    (fun p _ _ => (intOf p).toNat)
  case atStart => exact ⟨[], 9, n - M, w.heap.size, 1, rfl, rfl, by omega, by omega, rfl, by rw [pw_nine]; omega, rfl, hO0, hB0⟩
  case round =>
    obtain ⟨pre, f, r, g, c, rfl, rfl, hr0, hr1, hf, hr2, hsv, hown, hbel⟩ := hrel
    have HS : Hid (sev 9 (n - M) = pre ++ sev f r) := hsv
    have HO : Hid (Owns w.heap.size wr g (pre.length + 1) c ((first + M) :: pre)) := hown
    have HB : Hid (Below w.heap.size w wr) := hbel
    have hsz := hbel.size
    obtain ⟨K, hK⟩ : ∃ K, pre.length = K := ⟨_, rfl⟩
    have HK : Hid (pre.length = K) := hK
    rw [hK] at HO hf ⊢
    clear hsv hown hbel hK hO0 hB0
    by_cases hlt : r < 128
    · go_wp2_with (at_builtin; refine wpList_append_own _ rfl _ _ 23 rfl w.heap.size 5 i0 (.int .u8 0) 1 1 Tryz.underlying23 hi hz0 hz1 hz2 rfl (by decide) _ _ _ rfl (HO.out.2.alloc _) ⟨wr.heap.size, 0, none⟩ 1 1 [.int .u8 r] rfl rfl (cell_one_new _ _ _) (by simp [Value.oneCell']) (by unfold maxLen; omega) (by omega) (by simp; omega) ?_; intro v' w1 hown' hgrow _)
      obtain ⟨g', c', rfl⟩ := ownsRow_succ hown'
      have HB1 : Hid (Below w.heap.size w w1) := (HB.out.alloc HB.out.size _).grown hgrow (by simp; omega) (fun k e => by
        have := (HO.out.2.alloc (.cells #[.int .u8 r] 5)).lt k e
        exact this.1)
      have hfin : sev 9 (n - M) = pre ++ [r] := by rw [HS.out, sev_last f r hlt]
      have HO1 : Hid (Owns w.heap.size w1 g' (K + 1 + 1) c' ((first + M) :: sev 9 (n - M))) := by
        rw [hfin]
        refine ⟨by simp [HK.out], ?_⟩
        have := hown'
        simpa using this
      have hlen : (sev 9 (n - M)).length + 1 = K + 1 + 1 := by rw [hfin]; simp [HK.out]
      rw [hlen]
      clear hown' hgrow hfin hlen
      go_ret2
      exact ⟨g', c', rfl, HO1.out, HB1.out⟩
    · cases f with
      | zero => have : r < 64 := hr2; omega
      | succ f =>
      have hpw : r < 128 * pw f := hr2
      have hsn := sev_more f r (by omega)
      have hn1 : sev 9 (n - M) = (pre ++ [r % 128 + 128]) ++ sev f (r / 128) := by rw [HS.out, hsn]; simp
      have HN : Hid (sev 9 (n - M) = (pre ++ [r % 128 + 128]) ++ sev f (r / 128)) := hn1
      have HP : Hid (r / 128 < pw f) := by show r / 128 < pw f; omega
      clear hsn HS hr2 hn1 hpw
      go_wp2_with (at_builtin; refine wpList_append_own _ rfl _ _ 23 rfl w.heap.size 5 i0 (.int .u8 0) 1 1 Tryz.underlying23 hi hz0 hz1 hz2 rfl (by decide) _ _ _ rfl (HO.out.2.alloc _) ⟨wr.heap.size, 0, none⟩ 1 1 [.int .u8 (r % 128 + 128)] rfl rfl (cell_one_new _ _ _) (by simp [Value.oneCell']) (by unfold maxLen; omega) (by omega) (by simp; omega) ?_; intro v' w1 hown' hgrow _)
      obtain ⟨g', c', rfl⟩ := ownsRow_succ hown'
      have HB1 : Hid (Below w.heap.size w w1) := (HB.out.alloc HB.out.size _).grown hgrow (by simp; omega) (fun k e => by
        have := (HO.out.2.alloc (.cells #[.int .u8 (r % 128 + 128)] 5)).lt k e
        exact this.1)
      have HO1 : Hid (Owns w.heap.size w1 g' (K + 1 + 1) c' ((first + M) :: (pre ++ [r % 128 + 128]))) := by
        refine ⟨by simp [HK.out], ?_⟩
        have := hown'
        simpa using this
      have hl2 : (pre ++ [r % 128 + 128]).length = K + 1 := by simp [HK.out]
      have HL2 : Hid ((pre ++ [r % 128 + 128]).length = K + 1) := hl2
      clear hown' hgrow hl2
      go_wp2_with fail
      go_roundw
      case rel =>
        refine ⟨pre ++ [r % 128 + 128], f, r / 128, g', c', rfl, ?_, by omega, by omega, by rw [HL2.out]; omega, HP.out, HN.out, ?_, HB1.out⟩
        · rw [HL2.out]
        · rw [HL2.out]; exact HO1.out
      case measure => simp [intOf]; omega

theorem refp_own (first b M n : Int) (w : World) (h : IsMask b M) (hf0 : 0 ≤ first) (hf1 : first ≤ 255) (h0 : 0 ≤ n) (hn : n ≤ 4611686018427387903) (hf : first % (M + 1) = 0) :
    Calls Tryz.prog 21 #[.int .u8 first, .int .i64 b, .int .u64 n] w fun e w' => ∃ g cap, e = .returned (.tuple #[.slice (some ⟨g, 0, none⟩) (putP first M n).length cap, .int .i64 0]) ∧ Owns w.heap.size w' g (putP first M n).length cap (putP first M n) ∧ Below w.heap.size w w' := by
  by_cases hs : n < M
  · have e : putP first M n = [first + n] := by unfold putP; rw [if_pos hs]
    have ho := own_lit w [first + n] (show 1 ≤ maxLen by decide)
    rw [e]
    exact (refp_short first b M n w h hf0 hf1 h0 hf hs).mono fun e' w' ⟨a1, a2⟩ => ⟨_, _, a1, by rw [a2]; exact ho, by rw [a2]; exact (Below.refl _ w).alloc (Nat.le_refl _) _⟩
  · have e : putP first M n = (first + M) :: sev 9 (n - M) := by unfold putP; rw [if_neg hs]
    rw [e]
    exact refp_long first b M n w h hf0 hf1 hn hf (by omega)
end

end Go.Proofs.YtiecpkkklefjdaaGreatDoor.Vi

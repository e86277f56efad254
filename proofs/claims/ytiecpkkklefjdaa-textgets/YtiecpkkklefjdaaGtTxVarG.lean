/-
  The document's GetPrefix.
-/
import Derived.Test.YtiecpkkklefjdaaGtTxVarW
namespace Go.Proofs.Ytiecpkkklefjdaa.Vi

section
open Go.RowKit

set_option maxHeartbeats 2000000 in
theorem most_any (b M : Int) (w : World) (h : IsMask b M) :
    Calls Try.prog 39 #[.int .i64 b] w fun e w' => e = .returned (.int .u64 M) ∧ w' = w := by
  unfold IsMask at h
  rcases h with ⟨rfl, rfl⟩ | ⟨rfl, rfl⟩ | ⟨rfl, rfl⟩ | ⟨rfl, rfl⟩ | ⟨rfl, rfl⟩ | ⟨rfl, rfl⟩ | ⟨rfl, rfl⟩ | ⟨rfl, rfl⟩
  · go_enter Try.func39, Try.ntmps39
    go_wp2
    refine wp_loop_rounds 2 ?_
    rw [rounds_succ]
    go_wp2
    rw [rounds_succ]
    go_wp2
    go_ret
    exact ⟨rfl, rfl⟩
  · go_enter Try.func39, Try.ntmps39
    go_wp2
    refine wp_loop_rounds 3 ?_
    rw [rounds_succ]
    go_wp2
    rw [rounds_succ]
    go_wp2
    rw [rounds_succ]
    go_wp2
    go_ret
    exact ⟨rfl, rfl⟩
  · go_enter Try.func39, Try.ntmps39
    go_wp2
    refine wp_loop_rounds 4 ?_
    rw [rounds_succ]
    go_wp2
    rw [rounds_succ]
    go_wp2
    rw [rounds_succ]
    go_wp2
    rw [rounds_succ]
    go_wp2
    go_ret
    exact ⟨rfl, rfl⟩
  · go_enter Try.func39, Try.ntmps39
    go_wp2
    refine wp_loop_rounds 5 ?_
    rw [rounds_succ]
    go_wp2
    rw [rounds_succ]
    go_wp2
    rw [rounds_succ]
    go_wp2
    rw [rounds_succ]
    go_wp2
    rw [rounds_succ]
    go_wp2
    go_ret
    exact ⟨rfl, rfl⟩
  · go_enter Try.func39, Try.ntmps39
    go_wp2
    refine wp_loop_rounds 6 ?_
    rw [rounds_succ]
    go_wp2
    rw [rounds_succ]
    go_wp2
    rw [rounds_succ]
    go_wp2
    rw [rounds_succ]
    go_wp2
    rw [rounds_succ]
    go_wp2
    rw [rounds_succ]
    go_wp2
    go_ret
    exact ⟨rfl, rfl⟩
  · go_enter Try.func39, Try.ntmps39
    go_wp2
    refine wp_loop_rounds 7 ?_
    rw [rounds_succ]
    go_wp2
    rw [rounds_succ]
    go_wp2
    rw [rounds_succ]
    go_wp2
    rw [rounds_succ]
    go_wp2
    rw [rounds_succ]
    go_wp2
    rw [rounds_succ]
    go_wp2
    rw [rounds_succ]
    go_wp2
    go_ret
    exact ⟨rfl, rfl⟩
  · go_enter Try.func39, Try.ntmps39
    go_wp2
    refine wp_loop_rounds 8 ?_
    rw [rounds_succ]
    go_wp2
    rw [rounds_succ]
    go_wp2
    rw [rounds_succ]
    go_wp2
    rw [rounds_succ]
    go_wp2
    rw [rounds_succ]
    go_wp2
    rw [rounds_succ]
    go_wp2
    rw [rounds_succ]
    go_wp2
    rw [rounds_succ]
    go_wp2
    go_ret
    exact ⟨rfl, rfl⟩
  · go_enter Try.func39, Try.ntmps39
    go_wp2
    refine wp_loop_rounds 9 ?_
    rw [rounds_succ]
    go_wp2
    rw [rounds_succ]
    go_wp2
    rw [rounds_succ]
    go_wp2
    rw [rounds_succ]
    go_wp2
    rw [rounds_succ]
    go_wp2
    rw [rounds_succ]
    go_wp2
    rw [rounds_succ]
    go_wp2
    rw [rounds_succ]
    go_wp2
    rw [rounds_succ]
    go_wp2
    go_ret
    exact ⟨rfl, rfl⟩

set_option maxHeartbeats 1000000 in
theorem refgetp_bits (a : Option Addr) (len cap : Nat) (b : Int) (w : World) (h : b < 1 ∨ 8 < b) :
    Calls Try.prog 21 #[.int .i64 b, .slice a len cap] w fun e w' => e = .returned (.tuple #[.int .u8 0, .int .u64 0, .int .i64 0, .int .i64 1]) ∧ w' = w := by
  rcases h with h | h
  · have h1 : decide (b < 1) = true := by simp; omega
    go_enter Try.func21, Try.ntmps21
    go_wp2
    exact bodyPost_ret (v := .tuple #[.int .u8 0, .int .u64 0, .int .i64 0, .int .i64 1]) (by simp [results, Try.results21, go_sem]) rfl ⟨rfl, rfl⟩
  · have h1 : decide (b < 1) = false := by simp; omega
    have h2 : decide (8 < b) = true := by simp; omega
    go_enter Try.func21, Try.ntmps21
    go_wp2
    exact bodyPost_ret (v := .tuple #[.int .u8 0, .int .u64 0, .int .i64 0, .int .i64 1]) (by simp [results, Try.results21, go_sem]) rfl ⟨rfl, rfl⟩

set_option maxHeartbeats 1000000 in
theorem refgetp_none (a : Option Addr) (cap : Nat) (b : Int) (w : World) (h0 : 1 ≤ b) (h1 : b ≤ 8) :
    Calls Try.prog 21 #[.int .i64 b, .slice a 0 cap] w fun e w' => e = .returned (.tuple #[.int .u8 0, .int .u64 0, .int .i64 0, .int .i64 4]) ∧ w' = w := by
  have h2 : decide (b < 1) = false := by simp; omega
  have h3 : decide (8 < b) = false := by simp; omega
  go_enter Try.func21, Try.ntmps21
  go_wp2
  exact bodyPost_ret (v := .tuple #[.int .u8 0, .int .u64 0, .int .i64 0, .int .i64 4]) (by simp [results, Try.results21, go_sem]) rfl ⟨rfl, rfl⟩

set_option maxHeartbeats 1000000 in
theorem refgetp_one (b0 off len cap : Nat) (z b M : Int) (w : World) (h : IsMask b M) (hl : len ≤ 1073741824) (hp : 0 < len) (hc : w.cell? ⟨b0, off, none⟩ = some (.int .u8 z)) (hz0 : 0 ≤ z) (hz1 : z ≤ 255) (hk : z % (M + 1) < M) :
    Calls Try.prog 21 #[.int .i64 b, .slice (some ⟨b0, off, none⟩) len cap] w fun e w' => e = .returned (.tuple #[.int .u8 (z - z % (M + 1)), .int .u64 (z % (M + 1)), .int .i64 1, .int .i64 0]) ∧ w' = w := by
  have hbd := h.bd
  have hand := h.and64 z hz0 hz1
  have hne : ((len : Int) == 0) = false := by simp; omega
  have hle := h.le z hz0
  have hmod0 := Int.emod_nonneg z (show M + 1 ≠ 0 by omega)
  have h2 : decide (b < 1) = false := by simp; omega
  have h3 : decide (8 < b) = false := by simp; omega
  have H : Hid (IsMask b M) := h
  clear h
  generalize z % (M + 1) = k at *
  go_enter Try.func21, Try.ntmps21
  go_wp2_with fail
  refine (most_any _ M _ H.out).mono ?_
  rintro e1 w1 ⟨rfl, hw1⟩
  obtain rfl := hw1.symm
  go_wp2
  exact bodyPost_ret (v := .tuple #[.int .u8 (z - k), .int .u64 k, .int .i64 1, .int .i64 0]) (by simp [results, Try.results21, go_sem]) rfl ⟨rfl, rfl⟩
end

section
open Go.RowKit

theorem val7_drop (l : List Int) (i : Nat) (h : i < l.length) : val7 (l.drop i) = l[i]?.getD 0 % 128 + 128 * val7 (l.drop (i + 1)) := by
  rw [List.drop_eq_getElem_cons h, val7]
  simp [h]

/-- What stands behind counts 128 times at least. -/
theorem val7_grows : ∀ (i : Nat) (l : List Int), 128 * val7 (l.drop (i + 1)) ≤ val7 l
  | i, [] => by simp [val7]
  | 0, c :: r => by
    have := Int.emod_nonneg c (show (128 : Int) ≠ 0 by decide)
    simp only [List.drop_succ_cons, List.drop_zero, val7]
    omega
  | i + 1, c :: r => by
    have h := val7_grows i r
    have h2 := (val7_bound r).1
    have := Int.emod_nonneg c (show (128 : Int) ≠ 0 by decide)
    simp only [List.drop_succ_cons, val7]
    omega

theorem getPV_form {M : Int} {zs : List Int} (hp : 0 < zs.length) (hk : ¬ zs[0]?.getD 0 % (M + 1) < M) (h : 10 ≤ cnt (zs.drop 1)) : getPV M zs = .tuple #[.int .u8 0, .int .u64 0, .int .i64 0, .int .i64 5] := by
  unfold getPV getP; rw [if_neg (by omega), if_neg hk, if_pos h]
theorem getPV_short {M : Int} {zs : List Int} (hp : 0 < zs.length) (hk : ¬ zs[0]?.getD 0 % (M + 1) < M) (h : cnt (zs.drop 1) < 10) (h2 : cnt (zs.drop 1) = (zs.drop 1).length) : getPV M zs = .tuple #[.int .u8 0, .int .u64 0, .int .i64 0, .int .i64 4] := by
  unfold getPV getP; rw [if_neg (by omega), if_neg hk, if_neg (by omega), if_pos h2]
theorem getPV_limit {M : Int} {zs : List Int} (hp : 0 < zs.length) (hk : ¬ zs[0]?.getD 0 % (M + 1) < M) {k : Nat} (h : cnt (zs.drop 1) = k) (h1 : k < 10) (h2 : k < (zs.drop 1).length) (h3 : 4611686018427387903 < val7 ((zs.drop 1).take (k + 1)) + M) : getPV M zs = .tuple #[.int .u8 0, .int .u64 0, .int .i64 0, .int .i64 3] := by
  unfold getPV getP; rw [h, if_neg (by omega), if_neg hk, if_neg (by omega), if_neg (by omega), if_pos h3]
theorem getPV_ok {M : Int} {zs : List Int} (hp : 0 < zs.length) (hk : ¬ zs[0]?.getD 0 % (M + 1) < M) {k : Nat} (h : cnt (zs.drop 1) = k) (h1 : k < 10) (h2 : k < (zs.drop 1).length) (h3 : ¬ 4611686018427387903 < val7 ((zs.drop 1).take (k + 1)) + M) : getPV M zs = .tuple #[.int .u8 (zs[0]?.getD 0 - zs[0]?.getD 0 % (M + 1)), .int .u64 (val7 ((zs.drop 1).take (k + 1)) + M), .int .i64 ((k : Int) + 2), .int .i64 0] := by
  unfold getPV getP; rw [h, if_neg (by omega), if_neg hk, if_neg (by omega), if_neg (by omega), if_neg h3]

set_option maxHeartbeats 4000000 in
theorem refgetp_more (b0 off len cap : Nat) (zs : List Int) (z b M : Int) (w : World) (h : IsMask b M) (hzl : zs.length = len) (hl : len ≤ 1073741824) (hp : 0 < len) (hc : ∀ j : Nat, j < len → w.cell? ⟨b0, off + j, none⟩ = some (.int .u8 (zs[j]?.getD 0))) (hb : ∀ j : Nat, 0 ≤ zs[j]?.getD 0 ∧ zs[j]?.getD 0 ≤ 255) (hz : zs[0]?.getD 0 = z) (hk : ¬ z % (M + 1) < M) :
    Calls Try.prog 21 #[.int .i64 b, .slice (some ⟨b0, off, none⟩) len cap] w fun e w' => e = .returned (getPV M zs) ∧ w' = w := by
  have hbd := h.bd
  have hz0 : 0 ≤ z ∧ z ≤ 255 := by rw [← hz]; exact hb 0
  have hand := h.and64 z hz0.1 hz0.2
  have hle := h.le z hz0.1
  have hkM : z % (M + 1) = M := by have := Int.emod_lt_of_pos z (show 0 < M + 1 by omega); omega
  rw [hkM] at hand hle
  have hne : ((len : Int) == 0) = false := by simp; omega
  have hc0 : w.cell? ⟨b0, off, none⟩ = some (.int .u8 z) := by rw [← hz]; exact hc 0 hp
  have g2 : decide (b < 1) = false := by simp; omega
  have g3 : decide (8 < b) = false := by simp; omega
  have H : Hid (IsMask b M) := h
  have hkk : ¬ zs[0]?.getD 0 % (M + 1) < M := by rw [hz]; exact hk
  have HF := getPV_form (M := M) (zs := zs) (by omega) hkk
  have HSh := getPV_short (M := M) (zs := zs) (by omega) hkk
  have HLi := fun k => getPV_limit (M := M) (zs := zs) (by omega) hkk (k := k)
  have HOk := fun k => getPV_ok (M := M) (zs := zs) (by omega) hkk (k := k)
  rw [hz, hkM] at HOk
  have hdl : (zs.drop 1).length = len - 1 := by rw [List.length_drop, hzl]
  have hcr : ∀ j : Nat, j < len - 1 → w.cell? ⟨b0, off + (j + 1), none⟩ = some (.int .u8 ((zs.drop 1)[j]?.getD 0)) := fun j hj => by rw [drop_at]; exact hc (j + 1) (by omega)
  have hbr : ∀ j : Nat, 0 ≤ (zs.drop 1)[j]?.getD 0 ∧ (zs.drop 1)[j]?.getD 0 ≤ 255 := fun j => by rw [drop_at]; exact hb (j + 1)
  have HG : Hid (zs.drop 1 = zs.drop 1) := rfl
  clear h hk hkM hc hb hz hzl hkk HG
  generalize hV : getPV M zs = V at *
  clear hV
  generalize zs.drop 1 = rs at *
  have HDL : Hid (rs.length = len - 1) := hdl
  rw [hdl] at HSh HLi HOk
  have HHF : Hid (10 ≤ cnt rs → V = .tuple #[.int .u8 0, .int .u64 0, .int .i64 0, .int .i64 5]) := HF
  have HHS : Hid (cnt rs < 10 → cnt rs = len - 1 → V = .tuple #[.int .u8 0, .int .u64 0, .int .i64 0, .int .i64 4]) := HSh
  have HHL : Hid (∀ k, cnt rs = k → k < 10 → k < len - 1 → 4611686018427387903 < val7 (rs.take (k + 1)) + M → V = .tuple #[.int .u8 0, .int .u64 0, .int .i64 0, .int .i64 3]) := HLi
  have HHO : Hid (∀ k, cnt rs = k → k < 10 → k < len - 1 → ¬ 4611686018427387903 < val7 (rs.take (k + 1)) + M → V = .tuple #[.int .u8 (z - M), .int .u64 (val7 (rs.take (k + 1)) + M), .int .i64 ((k : Int) + 2), .int .i64 0]) := HOk
  clear HF HSh HLi HOk hdl
  go_enter Try.func21, Try.ntmps21
  go_wp2_with fail
  refine (most_any _ M _ H.out).mono ?_
  rintro e1 w1 ⟨rfl, hw1⟩
  obtain rfl := hw1.symm
  clear hw1
  go_wp2
  go_loop [11] (fun i => ∃ k : Nat, k + 1 ≤ len ∧ k ≤ 10 ∧ i = .int .i64 (k + 1 : Nat) ∧ ∀ j, j < k → 128 ≤ rs[j]?.getD 0) (fun i => len - (intOf i).toNat)
  case atStart => exact ⟨0, by omega, by omega, rfl, fun j hj => absurd hj (Nat.not_lt_zero _)⟩
  case round =>
    obtain ⟨k, hk1, hk10, rfl, hall⟩ := hrel
    have HA : Hid (∀ j, j < k → 128 ≤ rs[j]?.getD 0) := hall
    clear hall
    by_cases hlt : k + 1 < len
    · have d1 : decide ((k : Int) + 1 < (len : Int)) = true := by simp; omega
      by_cases hk9 : k = 10
      · subst hk9
        have d2 : decide ((10 : Int) + 1 ≤ 10) = false := by decide
        have HV : Hid (V = .tuple #[.int .u8 0, .int .u64 0, .int .i64 0, .int .i64 5]) := HHF.out (cnt_ge rs 10 (by rw [HDL.out]; omega) HA.out)
        clear HHF HHS HHL HHO
        go_wp2
        exact bodyPost_ret (v := .tuple #[.int .u8 0, .int .u64 0, .int .i64 0, .int .i64 5]) (by simp [results, Try.results21, go_sem]) rfl ⟨by rw [HV.out], rfl⟩
      · have d2 : decide ((k : Int) + 1 ≤ 10) = true := by simp; omega
        have hcx : w.cell? ⟨b0, off + (k + 1), none⟩ = some (.int .u8 (rs[k]?.getD 0)) := hcr k (by omega)
        by_cases h128 : 128 ≤ rs[k]?.getD 0
        · have HN : Hid (∀ j, j < k + 1 → 128 ≤ rs[j]?.getD 0) := fun j hj => by
            rcases Nat.lt_or_ge j k with h | h
            · exact HA.out j h
            · have : j = k := by omega
              rw [this]; exact h128
          clear HHF HHS HHL HHO hcr hbr HA
          generalize rs[k]?.getD 0 = c at *
          go_wp2
          go_round
          case rel => exact ⟨k + 1, by omega, by omega, by go_num, HN.out⟩
          case measure => simp [intOf]; omega
        · have HC : Hid (cnt rs = k) := cnt_eq rs k (by rw [HDL.out]; omega) HA.out (by omega)
          have n1 : ¬ ((10 : Int) < (k : Int) + 1) := by omega
          have n2 : (((k : Int) + 1) == (len : Int)) = false := by simp; omega
          have HO := HHO.out k HC.out (by omega) (by omega)
          have HLm := HHL.out k HC.out (by omega) (by omega)
          have hlt2 : (rs.take (k + 1)).length = k + 1 := by rw [List.length_take, HDL.out]; omega
          have HG := fun j => val7_grows j (rs.take (k + 1))
          have HD := fun j (hj : j < k + 1) => val7_drop (rs.take (k + 1)) j (by rw [hlt2]; exact hj)
          have HE : val7 ((rs.take (k + 1)).drop (k + 1)) = 0 := by rw [List.drop_eq_nil_of_le (by omega)]; rfl
          have HT : ∀ j, j < k + 1 → (rs.take (k + 1))[j]?.getD 0 = rs[j]?.getD 0 := fun j hj => by rw [List.getElem?_take_of_lt hj]
          have HHO2 : Hid (¬ 4611686018427387903 < val7 (rs.take (k + 1)) + M → V = .tuple #[.int .u8 (z - M), .int .u64 (val7 (rs.take (k + 1)) + M), .int .i64 ((k : Int) + 2), .int .i64 0]) := fun hx => HO (by omega)
          have HHL2 : Hid (4611686018427387903 < val7 (rs.take (k + 1)) + M → V = .tuple #[.int .u8 0, .int .u64 0, .int .i64 0, .int .i64 3]) := HLm
          have HHG : Hid (∀ j, 128 * val7 ((rs.take (k + 1)).drop (j + 1)) ≤ val7 (rs.take (k + 1))) := HG
          have HHD : Hid (∀ j, j < k + 1 → val7 ((rs.take (k + 1)).drop j) = rs[j]?.getD 0 % 128 + 128 * val7 ((rs.take (k + 1)).drop (j + 1))) := fun j hj => by rw [← HT j hj]; exact HD j hj
          have HHE : Hid (val7 ((rs.take (k + 1)).drop (k + 1)) = 0) := HE
          have HZ0 : Hid (val7 ((rs.take (k + 1)).drop 0) = val7 (rs.take (k + 1))) := by show val7 ((rs.take (k + 1)).drop 0) = val7 (rs.take (k + 1)); rw [List.drop_zero]
          clear HHF HHS HHL HHO HA HO HLm HG HD HE HT hlt2 HC
          go_wp2
          go_loop [9, 12] (fun q i => ∃ (j : Nat) (N : Int), j ≤ k + 1 ∧ i = .int .i64 j ∧ q = .int .u64 N ∧ N = val7 ((rs.take (k + 1)).drop j) ∧ 0 ≤ N ∧ N ≤ 4611686018427387903) (fun _ i => (intOf i).toNat)
          case atStart => exact ⟨k + 1, 0, Nat.le_refl _, by go_num, rfl, HHE.out.symm, by decide, by decide⟩
          case round =>
            obtain ⟨j, N, hj, rfl, rfl, hN, hN0, hN1⟩ := hrel
            have HN : Hid (N = val7 ((rs.take (k + 1)).drop j)) := hN
            clear hN
            cases j with
            | zero =>
              have hNv : N = val7 (rs.take (k + 1)) := HN.out.trans HZ0.out
              by_cases hlim : 4611686018427387903 - M < N
              · have HV : Hid (V = .tuple #[.int .u8 0, .int .u64 0, .int .i64 0, .int .i64 3]) := HHL2.out (by omega)
                clear HHO2 HHL2 HHG HHD HHE HZ0 HN hNv hcr hbr
                go_wp2
                exact bodyPost_ret (v := .tuple #[.int .u8 0, .int .u64 0, .int .i64 0, .int .i64 3]) (by simp [results, Try.results21, go_sem]) rfl ⟨by rw [HV.out], rfl⟩
              · have HV : Hid (V = .tuple #[.int .u8 (z - M), .int .u64 (N + M), .int .i64 ((k : Int) + 2), .int .i64 0]) := by
                  have := HHO2.out (by omega)
                  rw [← hNv] at this
                  exact this
                clear HHO2 HHL2 HHG HHD HHE HZ0 HN hNv hcr hbr
                go_wp2
                exact bodyPost_ret (v := .tuple #[.int .u8 (z - M), .int .u64 (N + M), .int .i64 ((k : Int) + 1 + 1), .int .i64 0]) (by simp [results, Try.results21, go_sem]) rfl ⟨by rw [HV.out, show (k : Int) + 2 = (k : Int) + 1 + 1 by omega], rfl⟩
            | succ i =>
              by_cases hlim : 36028797018963967 < N
              · have HV : Hid (V = .tuple #[.int .u8 0, .int .u64 0, .int .i64 0, .int .i64 3]) := HHL2.out (by have h1 := HHG.out i; rw [← HN.out] at h1; omega)
                clear HHO2 HHL2 HHG HHD HHE HZ0 HN hcr hbr
                go_wp2
                exact bodyPost_ret (v := .tuple #[.int .u8 0, .int .u64 0, .int .i64 0, .int .i64 3]) (by simp [results, Try.results21, go_sem]) rfl ⟨by rw [HV.out], rfl⟩
              · have hcx2 : w.cell? ⟨b0, off + (i + 1), none⟩ = some (.int .u8 (rs[i]?.getD 0)) := hcr i (by omega)
                have hbi := hbr i
                have HN2 : Hid (128 * N + rs[i]?.getD 0 % 128 = val7 ((rs.take (k + 1)).drop i)) := by
                  show 128 * N + rs[i]?.getD 0 % 128 = val7 ((rs.take (k + 1)).drop i)
                  rw [HHD.out i (by omega), ← HN.out]; omega
                clear HHO2 HHL2 HHG HHD HHE HZ0 HN hcr hbr hcx
                generalize rs[i]?.getD 0 = c at *
                go_wp2
                go_round
                case rel => exact ⟨i, 128 * N + c % 128, by omega, by go_num, rfl, HN2.out, by omega, by omega⟩
                case measure => simp [intOf]
    · have hkl : k + 1 = len := by omega
      have d1 : decide ((k : Int) + 1 < (len : Int)) = false := by simp; omega
      by_cases hk9 : k = 10
      · have HV : Hid (V = .tuple #[.int .u8 0, .int .u64 0, .int .i64 0, .int .i64 5]) := HHF.out (cnt_ge rs 10 (by rw [HDL.out]; omega) (fun j hj => HA.out j (by omega)))
        clear HHF HHS HHL HHO HA hcr hbr
        subst hk9
        go_wp2
        exact bodyPost_ret (v := .tuple #[.int .u8 0, .int .u64 0, .int .i64 0, .int .i64 5]) (by simp [results, Try.results21, go_sem]) rfl ⟨by rw [HV.out], rfl⟩
      · have hcg := cnt_ge rs k (by rw [HDL.out]; omega) HA.out
        have hcl := cnt_le rs
        rw [HDL.out] at hcl
        have HV : Hid (V = .tuple #[.int .u8 0, .int .u64 0, .int .i64 0, .int .i64 4]) := HHS.out (by omega) (by omega)
        have n1 : ¬ ((10 : Int) < (k : Int) + 1) := by omega
        have n2 : (((k : Int) + 1) == (len : Int)) = true := by simp; omega
        clear HHF HHS HHL HHO HA hcr hbr hcg hcl
        go_wp2
        exact bodyPost_ret (v := .tuple #[.int .u8 0, .int .u64 0, .int .i64 0, .int .i64 4]) (by simp [results, Try.results21, go_sem]) rfl ⟨by rw [HV.out], rfl⟩

/-- The document's GetPrefix, at any bytes, bits from 1 to 8. -/
theorem refgetp_any (a : Option Addr) (len cap : Nat) (zs : List Int) (b M : Int) (w : World) (h : IsMask b M) (hz : zs.length = len) (hl : len ≤ 1073741824) (hLies : Lies w a zs) (hb : ∀ j : Nat, 0 ≤ zs[j]?.getD 0 ∧ zs[j]?.getD 0 ≤ 255) :
    Calls Try.prog 21 #[.int .i64 b, .slice a len cap] w fun e w' => e = .returned (getPV M zs) ∧ w' = w := by
  have hbd := h.bd
  by_cases hp : len = 0
  · subst hp
    have hv : getPV M zs = .tuple #[.int .u8 0, .int .u64 0, .int .i64 0, .int .i64 4] := by unfold getPV getP; rw [if_pos hz]
    rw [hv]
    exact refgetp_none a cap b w hbd.1 hbd.2.1
  rcases hLies with h0 | ⟨b0, off, rfl, hbn, hc⟩
  · rw [h0] at hz; exact absurd hz.symm hp
  rw [hz] at hc
  by_cases hk : zs[0]?.getD 0 % (M + 1) < M
  · have hv : getPV M zs = .tuple #[.int .u8 (zs[0]?.getD 0 - zs[0]?.getD 0 % (M + 1)), .int .u64 (zs[0]?.getD 0 % (M + 1)), .int .i64 1, .int .i64 0] := by unfold getPV getP; rw [if_neg (by omega), if_pos hk]
    rw [hv]
    exact refgetp_one b0 off len cap _ b M w h hl (by omega) (by exact hc 0 (by omega)) (hb 0).1 (hb 0).2 hk
  · exact refgetp_more b0 off len cap zs _ b M w h hz hl (by omega) hc hb rfl hk
end

end Go.Proofs.Ytiecpkkklefjdaa.Vi

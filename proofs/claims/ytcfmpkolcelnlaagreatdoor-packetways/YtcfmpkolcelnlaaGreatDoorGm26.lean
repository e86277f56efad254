/-
  Out of PkNumW, PkWaysW.
-/
import Derived.Test.YtcfmpkolcelnlaaGreatDoorGm25
import Derived.Test.YtcfmpkolcelnlaaGreatDoorGm20

/-! PacketNumbers: the walk. -/
namespace Go.Proofs.YtcfmpkolcelnlaaGreatDoor
open Go Go.RowKit

set_option maxRecDepth 20000 in
set_option maxHeartbeats 1000000 in
theorem numbers_walk (x : Nat) (n a : Int) (w : World) (hg : Glob w) (hx : x < 18446744073709551616) (h1 : -9223372036854775808 ≤ a) (h2 : a ≤ 9223372036854775807) :
    Calls Tryz.prog 3 #[.int .u64 (x : Int), .int .i64 n, .int .i64 a] w fun e w' => e = .returned (.bool true) ∧ Below w.heap.size w w' := by
  have SC := veil (fun w => short_any x a w hx h1 h2)
  have LC := veil (fun w => long_any x n a w hx h1 h2)
  have RS := veil (fun w => refShort_any x a w hx h1 h2)
  have RL := veil (fun w => refLong_any x n a w)
  have VC := veil (lives13 w hg)
  generalize shortN x a = N at *
  generalize shortE x a = E at *
  generalize longN x n a = M at *
  generalize longE x n a = F at *
  clear hg hx h1 h2
  go_enter Tryz.func3, Tryz.ntmps3
  go_wp2_with fail
  refine (SC.out _).mono ?_
  rintro e1 w1 ⟨rfl, hw1⟩
  obtain rfl : w1 = w := hw1
  go_wp2_with fail
  refine (LC.out _).mono ?_
  rintro e2 w2 ⟨rfl, hw2⟩
  obtain rfl : w2 = w1 := hw2
  go_wp2_with fail
  refine (RS.out _).mono ?_
  rintro e3 w3 ⟨rfl, hw3⟩
  obtain rfl : w3 = w2 := hw3
  go_wp2_with fail
  refine (RL.out _).mono ?_
  rintro e4 w4 ⟨rfl, hw4⟩
  obtain rfl : w4 = w3 := hw4
  go_wp2_with fail
  refine VC.out.mono ?_
  rintro e5 w5 ⟨rfl, hb5⟩
  have B5 := veil hb5
  clear hb5
  go_wp2_with fail
  go_ret
  exact ⟨rfl, B5.out⟩
end Go.Proofs.YtcfmpkolcelnlaaGreatDoor

/-! PacketWays: the walk. Written by mkways.py. -/
namespace Go.Proofs.YtcfmpkolcelnlaaGreatDoor
open Go Go.RowKit

theorem short_zero {x : Nat} {a : Int} (h : shortE x a ≠ 0) : shortN x a = 0 := by
  unfold shortE at h
  unfold shortN
  split
  · rfl
  · rename_i hc
    rw [if_neg hc] at h
    split at h
    · exact absurd rfl h
    · unfold needN
      rw [if_neg (by omega), if_neg (by omega), if_neg (by omega), if_neg (by omega)]
theorem short_fine {x : Nat} {a : Int} (h : shortE x a = 0) : x ≤ 4611686018427387903 ∧ behindN a ≤ x ∧ x - behindN a + 1 ≤ 2147483648 ∧ shortN x a = needN (x - behindN a + 1) := by
  unfold shortE at h
  unfold shortN
  split at h
  · cases h
  · rename_i hc
    rw [if_neg hc]
    split at h
    · rename_i h2
      exact ⟨by omega, by omega, h2, rfl⟩
    · cases h
/-- Found again. -/
theorem ways_found {x k W B q R : Nat} {c : Int} (hx : x ≤ 4611686018427387903) (hB : B ≤ x) (hW : x - B + 1 = W) (hWb : W ≤ 2147483648) (hk1 : needN W ≤ k) (hk4 : k ≤ 4) (hR : 256 ^ k = R) (hq : q < W) (hc : c = (B : Int) - 1 + q) : longN (x % R) k c = x ∧ longE (x % R) k c = 0 := by
  obtain ⟨n1, n4, hn⟩ := needN_ways hWb
  have hb : behindN c = B + q := by
    unfold behindN
    split <;> omega
  have hp := pow_more hk1
  rw [hR] at hp
  have hev : R % 2 = 0 := by
    obtain ⟨j, rfl⟩ : ∃ j, k = j + 1 := ⟨k - 1, by omega⟩
    rw [← hR, Nat.pow_succ]
    omega
  have hR4 : R ≤ 4294967296 := by rw [← hR]; exact pow_more (m := 4) hk4
  have hR0 : 0 < R := by rw [← hR]; exact Nat.pow_pos (by decide)
  have hC : longC (x % R) R (B + q) = x := longC_ways hR0 hev (by omega) (by omega) hx hR4
  have hok : longOk (x % R) k c := by
    refine ⟨⟨by omega, by omega⟩, ?_, by omega⟩
    rw [Int.toNat_natCast, hR]
    exact Nat.mod_lt _ hR0
  have hl := long_fine hok (by rw [Int.toNat_natCast, hR, hb, hC]; exact hx)
  rw [Int.toNat_natCast, hR, hb, hC] at hl
  exact hl
theorem bits_mod (x k : Nat) (hk : k ≤ 4) (hx : x < 18446744073709551616) : bits .and .u64 (x : Int) (((256 ^ k : Nat) : Int) - 1) = ((x % 256 ^ k : Nat) : Int) := by
  have hp : (256 : Nat) ^ k = 2 ^ (8 * k) := by rw [Nat.pow_mul]
  have h1 : 1 ≤ 2 ^ (8 * k) := Nat.one_le_two_pow
  have h4 : 2 ^ (8 * k) ≤ 4294967296 := by rw [← hp]; exact pow_more (m := 4) hk
  have e : (((256 ^ k : Nat) : Int) - 1) = ((2 ^ (8 * k) - 1 : Nat) : Int) := by rw [hp]; omega
  rw [e, hp, ← Nat.and_two_pow_sub_one_eq_mod]
  show IntKind.u64.wrap ((BitVec.ofInt 64 (x : Int) &&& BitVec.ofInt 64 ((2 ^ (8 * k) - 1 : Nat) : Int)).toNat : Int) = _
  rw [BitVec.ofInt_natCast, BitVec.ofInt_natCast, BitVec.toNat_and, BitVec.toNat_ofNat, BitVec.toNat_ofNat, Nat.mod_eq_of_lt (by omega), Nat.mod_eq_of_lt (by omega)]
  have hle : x &&& (2 ^ (8 * k) - 1) ≤ x := Nat.and_le_left
  show ((_ : Nat) : Int) % (18446744073709551616 : Int) = _
  exact Int.emod_eq_of_lt (by omega) (by omega)
abbrev wayC (x : Nat) (a : Int) (m r : Nat) : Array Value := #[.int .u64 (x : Int), .int .i64 a, .int .u8 (m : Int), .int .u64 (r : Int)]

set_option maxRecDepth 20000 in
set_option maxHeartbeats 2000000 in
theorem ways_walk (x : Nat) (a : Int) (m r : Nat) (w : World) (hg : Glob w) (hx : x < 18446744073709551616) (h1 : -9223372036854775808 ≤ a) (h2 : a ≤ 9223372036854775807) (hm : m < 256) (hr : r < 18446744073709551616) :
    Calls Tryz.prog 7 #[.agg (wayC x a m r)] w fun e w' => e = .returned (.bool true) ∧ Below w.heap.size w w' := by
  have b0 : Below w.heap.size w (w.alloc (.cells (wayC x a m r) 71)) := (Below.refl _ w).alloc (Nat.le_refl _) _
  have r0 : Row (w.alloc (.cells (wayC x a m r) 71)) w.heap.size 71 (wayC x a m r) := Row.new _ _ _
  have c0 := r0.cell 0
  have c1 := r0.cell 1
  have c2 := r0.cell 2
  have c3 := r0.cell 3
  have SC := veil (fun w => short_any x a w hx h1 h2)
  have VC := veil (lives13 _ (hg.below b0 (Nat.le_refl _)))
  have B0 := veil b0
  clear hg b0 r0
  by_cases hE : shortE x a = 0
  · obtain ⟨hxm, hBx, hWb, hNe⟩ := short_fine hE
    rw [hE, hNe] at SC
    have hB : behindN a = if a < 0 then 0 else a.toNat + 1 := rfl
    obtain ⟨B, hBd⟩ : ∃ B, behindN a = B := ⟨_, rfl⟩
    rw [hBd] at hBx hWb SC hB
    obtain ⟨W, hW⟩ : ∃ W, x - B + 1 = W := ⟨_, rfl⟩
    rw [hW] at hWb SC
    obtain ⟨n1, n4, _⟩ := needN_ways hWb
    obtain ⟨N, hN⟩ : ∃ N, needN W = N := ⟨_, rfl⟩
    rw [hN] at SC n1 n4
    have hq : r % W < W := Nat.mod_lt _ (by omega)
    obtain ⟨q, hqd⟩ : ∃ q, r % W = q := ⟨_, rfl⟩
    rw [hqd] at hq
    have hqi : (r : Int) % (W : Int) = (q : Int) := by rw [← hqd, Int.natCast_emod]
    obtain ⟨m4, hm4⟩ : ∃ m4, m % 4 = m4 := ⟨_, rfl⟩
    have hm4i : (m : Int) % 4 = (m4 : Int) := by omega
    have hm4l : m4 < 4 := by omega
    have key : ∀ k : Nat, (N + m4 ≤ 4 ∧ k = N + m4 ∨ 4 < N + m4 ∧ k = 4) → ∀ c : Int, c = (B : Int) - 1 + q → ∃ R T8 : Nat, (8 : Int) * (k : Int) = (T8 : Int) ∧ T8 < 64 ∧ IntKind.u64.wrap (2 ^ T8) = (R : Int) ∧ 1 ≤ R ∧ R ≤ 4294967296 ∧ bits .and .u64 (x : Int) ((R : Int) - 1) = (x : Int) % (R : Int) ∧ (∀ w, Calls Tryz.prog 9 #[.int .u64 ((x : Int) % (R : Int)), .int .i64 (k : Int), .int .i64 c] w fun e w' => e = .returned (.tuple #[.int .u64 (x : Int), .int .i64 0]) ∧ w' = w) := by
      intro k hk c hc
      have hf := ways_found (k := k) (R := 256 ^ k) (c := c) hxm hBx hW hWb (by rw [hN]; omega) (by omega) rfl hq hc
      have hR0 : 1 ≤ 256 ^ k := Nat.pow_pos (by decide)
      have hR4 : 256 ^ k ≤ 4294967296 := pow_more (m := 4) (by omega)
      refine ⟨256 ^ k, 8 * k, by omega, by omega, ?_, hR0, hR4, (bits_mod x k (by omega) hx).trans (Int.natCast_emod _ _), fun w => ?_⟩
      · have e : ((2 : Int) ^ (8 * k)) = ((256 ^ k : Nat) : Int) := by
          rw [Int.pow_mul]
          simp
        rw [e]
        show ((_ : Nat) : Int) % (18446744073709551616 : Int) = _
        exact Int.emod_eq_of_lt (by omega) (by omega)
      · have := long_any (x % 256 ^ k) k c w (Nat.lt_of_le_of_lt (Nat.mod_le _ _) hx) (by omega) (by omega)
        rw [hf.1, hf.2, Int.natCast_emod] at this
        exact this
    have KEY := veil key
    have HW := veil hW
    have HQ := veil hqd
    clear hE hNe hBd hN key hqd hW hm4
    by_cases ha : a < 0
    · rw [if_pos ha] at hB
      subst hB
      have hWx : W = x + 1 := by have := HW.out; omega
      by_cases hmin : N + m4 ≤ 4
      · obtain ⟨K, hK⟩ : ∃ K, N + m4 = K := ⟨_, rfl⟩
        have hKi : (N : Int) + (m4 : Int) = (K : Int) := by omega
        have hK4 : K ≤ 4 := by omega
        obtain ⟨R, T8, hmul, h64, hshl, hR1, hR4, hand, LC⟩ := KEY.out K (.inl ⟨hmin, hK.symm⟩) (-1 + q : Int) (by omega)
        have LC := veil LC
        have hW1 : 1 ≤ W := by have := HW.out; omega
        have hd0 : decide (a < 0) = true := decide_eq_true ha
        have hsubw : IntKind.u64.wrap ((x : Int) - IntKind.u64.wrap (-1)) = (W : Int) := by
          show ((x : Int) - (-1) % (18446744073709551616 : Int)) % (18446744073709551616 : Int) = (W : Int)
          omega
        clear hWx
        go_enter Tryz.func7, Tryz.ntmps7
        go_wp2_with fail
        refine (SC.out _).mono ?_
        rintro e1 w1 ⟨rfl, hw1⟩
        obtain rfl := hw1
        go_wp2_with fail
        refine (LC.out _).mono ?_
        rintro e2 w2 ⟨rfl, hw2⟩
        obtain rfl := hw2
        go_wp2_with fail
        refine VC.out.mono ?_
        rintro e5 w5 ⟨rfl, hb5⟩
        have B5 := veil (B0.out.trans (hb5.mono B0.out.size))
        clear hb5 c0 c1 c2 c3
        go_wp2_with fail
        go_ret
        exact ⟨rfl, B5.out⟩
      · have hmin2 : 4 < N + m4 := by omega
        obtain ⟨R, T8, hmul, h64, hshl, hR1, hR4, hand, LC⟩ := KEY.out 4 (.inr ⟨hmin2, rfl⟩) (-1 + q : Int) (by omega)
        have LC := veil LC
        have hW1 : 1 ≤ W := by have := HW.out; omega
        have hmul' : (8 : Int) * 4 = (T8 : Int) := hmul
        obtain rfl : T8 = 32 := by omega
        have hRi : (4294967296 : Int) = (R : Int) := hshl
        obtain rfl : R = 4294967296 := by omega
        have hand' : bits .and .u64 (x : Int) 4294967295 = (x : Int) % 4294967296 := hand
        have LC : Hid (∀ w, Calls Tryz.prog 9 #[.int .u64 ((x : Int) % 4294967296), .int .i64 4, .int .i64 (-1 + q : Int)] w fun e w' => e = .returned (.tuple #[.int .u64 (x : Int), .int .i64 0]) ∧ w' = w) := LC.out
        clear hshl hmul hmul' hRi hR1 hR4 hand
        have hd0 : decide (a < 0) = true := decide_eq_true ha
        have hsubw : IntKind.u64.wrap ((x : Int) - IntKind.u64.wrap (-1)) = (W : Int) := by
          show ((x : Int) - (-1) % (18446744073709551616 : Int)) % (18446744073709551616 : Int) = (W : Int)
          omega
        clear hWx
        go_enter Tryz.func7, Tryz.ntmps7
        go_wp2_with fail
        refine (SC.out _).mono ?_
        rintro e1 w1 ⟨rfl, hw1⟩
        obtain rfl := hw1
        go_wp2_with fail
        refine (LC.out _).mono ?_
        rintro e2 w2 ⟨rfl, hw2⟩
        obtain rfl := hw2
        go_wp2_with fail
        refine VC.out.mono ?_
        rintro e5 w5 ⟨rfl, hb5⟩
        have B5 := veil (B0.out.trans (hb5.mono B0.out.size))
        clear hb5 c0 c1 c2 c3
        go_wp2_with fail
        go_ret
        exact ⟨rfl, B5.out⟩
    · obtain ⟨b, rfl⟩ : ∃ b : Nat, a = b := ⟨a.toNat, by omega⟩
      have hBb : B = b + 1 := by rw [hB, if_neg ha]; rfl
      have hWx : (x : Int) - (b : Int) = (W : Int) := by have := HW.out; omega
      clear hB
      by_cases hmin : N + m4 ≤ 4
      · obtain ⟨K, hK⟩ : ∃ K, N + m4 = K := ⟨_, rfl⟩
        have hKi : (N : Int) + (m4 : Int) = (K : Int) := by omega
        have hK4 : K ≤ 4 := by omega
        obtain ⟨R, T8, hmul, h64, hshl, hR1, hR4, hand, LC⟩ := KEY.out K (.inl ⟨hmin, hK.symm⟩) ((b : Int) + q) (by omega)
        have LC := veil LC
        have hW1 : 1 ≤ W := by have := HW.out; omega
        clear hBb
        go_enter Tryz.func7, Tryz.ntmps7
        go_wp2_with fail
        refine (SC.out _).mono ?_
        rintro e1 w1 ⟨rfl, hw1⟩
        obtain rfl := hw1
        go_wp2_with fail
        refine (LC.out _).mono ?_
        rintro e2 w2 ⟨rfl, hw2⟩
        obtain rfl := hw2
        go_wp2_with fail
        refine VC.out.mono ?_
        rintro e5 w5 ⟨rfl, hb5⟩
        have B5 := veil (B0.out.trans (hb5.mono B0.out.size))
        clear hb5 c0 c1 c2 c3
        go_wp2_with fail
        go_ret
        exact ⟨rfl, B5.out⟩
      · have hmin2 : 4 < N + m4 := by omega
        obtain ⟨R, T8, hmul, h64, hshl, hR1, hR4, hand, LC⟩ := KEY.out 4 (.inr ⟨hmin2, rfl⟩) ((b : Int) + q) (by omega)
        have LC := veil LC
        have hW1 : 1 ≤ W := by have := HW.out; omega
        have hmul' : (8 : Int) * 4 = (T8 : Int) := hmul
        obtain rfl : T8 = 32 := by omega
        have hRi : (4294967296 : Int) = (R : Int) := hshl
        obtain rfl : R = 4294967296 := by omega
        have hand' : bits .and .u64 (x : Int) 4294967295 = (x : Int) % 4294967296 := hand
        have LC : Hid (∀ w, Calls Tryz.prog 9 #[.int .u64 ((x : Int) % 4294967296), .int .i64 4, .int .i64 ((b : Int) + q)] w fun e w' => e = .returned (.tuple #[.int .u64 (x : Int), .int .i64 0]) ∧ w' = w) := LC.out
        clear hshl hmul hmul' hRi hR1 hR4 hand
        clear hBb
        go_enter Tryz.func7, Tryz.ntmps7
        go_wp2_with fail
        refine (SC.out _).mono ?_
        rintro e1 w1 ⟨rfl, hw1⟩
        obtain rfl := hw1
        go_wp2_with fail
        refine (LC.out _).mono ?_
        rintro e2 w2 ⟨rfl, hw2⟩
        obtain rfl := hw2
        go_wp2_with fail
        refine VC.out.mono ?_
        rintro e5 w5 ⟨rfl, hb5⟩
        have B5 := veil (B0.out.trans (hb5.mono B0.out.size))
        clear hb5 c0 c1 c2 c3
        go_wp2_with fail
        go_ret
        exact ⟨rfl, B5.out⟩
  · rw [short_zero hE] at SC
    generalize shortE x a = E at *
    have hne : (E != 0) = true := by simpa using hE
    clear hE
    go_enter Tryz.func7, Tryz.ntmps7
    go_wp2_with fail
    refine (SC.out _).mono ?_
    rintro e1 w1 ⟨rfl, hw1⟩
    obtain rfl := hw1
    go_wp2_with fail
    refine VC.out.mono ?_
    rintro e5 w5 ⟨rfl, hb5⟩
    have B5 := veil (B0.out.trans (hb5.mono B0.out.size))
    clear hb5 c0 c1 c2 c3
    go_wp2_with fail
    go_ret
    exact ⟨rfl, B5.out⟩
end Go.Proofs.YtcfmpkolcelnlaaGreatDoor

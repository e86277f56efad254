/-
  Out of PkNum, PkShort, PkLong.
-/
import Derived.Test.YtbheoldakmcppaaGreatDoorGs1
import Derived.Test.YtbheoldakmcppaaGreatDoorGsHkIn
import Derived.Test.YtbheoldakmcppaaGreatDoorGs4
import Derived.Test.YtbheoldakmcppaaGreatDoorRows

/-! Packets' numbers, told in few bytes: no program in sight. -/
namespace Go.Proofs.YtbheoldakmcppaaGreatDoor
open Go

/-- The number that follows. -/
def behindN (a : Int) : Nat := if a < 0 then 0 else a.toNat + 1
def longC (t w e : Nat) : Nat := if e / w * w + t + w / 2 ≤ e ∧ e / w * w + t < 4611686018427387904 - w then e / w * w + t + w else if e + w / 2 < e / w * w + t ∧ w ≤ e / w * w + t then e / w * w + t - w else e / w * w + t
def longOk (t : Nat) (n a : Int) : Prop := (1 ≤ n ∧ n ≤ 4) ∧ t < 256 ^ n.toNat ∧ a ≤ 4611686018427387903
instance (t : Nat) (n a : Int) : Decidable (longOk t n a) := by unfold longOk; infer_instance
def longE (t : Nat) (n a : Int) : Int := if longOk t n a then (if longC t (256 ^ n.toNat) (behindN a) ≤ 4611686018427387903 then 0 else 3) else 1
def longN (t : Nat) (n a : Int) : Nat := if longOk t n a then (if longC t (256 ^ n.toNat) (behindN a) ≤ 4611686018427387903 then longC t (256 ^ n.toNat) (behindN a) else 0) else 0
theorem pow_more {n m : Nat} (h : n ≤ m) : 256 ^ n ≤ 256 ^ m := Nat.pow_le_pow_right (by decide) h
theorem andNot_low (e k : Nat) (h : k < 64) (he : e < 2 ^ 64) : (BitVec.ofNat 64 e &&& ~~~ (BitVec.ofNat 64 (2 ^ k - 1))).toNat = e / 2 ^ k * 2 ^ k := by
  apply Nat.eq_of_testBit_eq
  intro i
  rw [Nat.testBit_mul_two_pow, Nat.testBit_div_two_pow, BitVec.testBit_toNat, BitVec.getLsbD_and, BitVec.getLsbD_not, BitVec.getLsbD_ofNat, BitVec.getLsbD_ofNat, Nat.testBit_two_pow_sub_one]
  by_cases hi : i < 64
  · by_cases hk : k ≤ i
    · simp [hi, hk, Nat.sub_add_cancel hk, show ¬ i < k by omega]
    · simp [hi, hk, show i < k by omega]
  · have h1 : e.testBit i = false := Nat.testBit_lt_two_pow (Nat.lt_of_lt_of_le he (Nat.pow_le_pow_right (by decide) (by omega)))
    have h2 : k ≤ i := by omega
    simp [hi, h1, h2, Nat.sub_add_cancel h2]
theorem or_low (q t k : Nat) (h : t < 2 ^ k) : q * 2 ^ k ||| t = q * 2 ^ k + t := by
  rw [Nat.mul_comm, Nat.two_pow_add_eq_or_of_lt h]
end Go.Proofs.YtbheoldakmcppaaGreatDoor

/-! How many bytes a number needs, and which number so many bytes tell: what packet.Short, packet.Long answer, and the document's. -/
namespace Go.Proofs.YtbheoldakmcppaaGreatDoor
open Go Go.RowKit

set_option maxRecDepth 20000 in
theorem behind_any (a : Int) (w : World) (h1 : -9223372036854775808 ≤ a) (h2 : a ≤ 9223372036854775807) :
    Calls Tryz.prog 139 #[.int .i64 a] w fun e w' => e = .returned (.int .u64 (behindN a : Int)) ∧ w' = w := by
  by_cases h : a < 0
  · go_enter Tryz.func139, Tryz.ntmps139
    go_wp2_with fail
    go_ret
    refine ⟨?_, rfl⟩
    unfold behindN
    rw [if_pos h]
    rfl
  · obtain ⟨n, rfl⟩ : ∃ n : Nat, a = n := ⟨a.toNat, by omega⟩
    go_enter Tryz.func139, Tryz.ntmps139
    go_wp2_with fail
    go_ret
    refine ⟨?_, rfl⟩
    unfold behindN
    rw [if_neg (by omega)]
    rfl
set_option maxRecDepth 20000 in
theorem reach_any (n : Nat) (w : World) (h1 : 1 ≤ n) (h2 : n ≤ 4) :
    Calls Tryz.prog 138 #[.int .i64 (n : Int)] w fun e w' => e = .returned (.int .u64 ((256 ^ n : Nat) : Int)) ∧ w' = w := by
  have h : n = 1 ∨ n = 2 ∨ n = 3 ∨ n = 4 := by omega
  rcases h with rfl | rfl | rfl | rfl
  all_goals
    go_enter Tryz.func138, Tryz.ntmps138
    go_wp2_with fail
    go_ret
    exact ⟨rfl, rfl⟩
set_option maxRecDepth 20000 in
theorem maySize_any (n : Int) (w : World) :
    Calls Tryz.prog 19 #[.int .i64 n] w fun e w' => e = .returned (.bool (decide (1 ≤ n) && decide (n ≤ 4))) ∧ w' = w := by
  by_cases h : 1 ≤ n
  · go_enter Tryz.func19, Tryz.ntmps19
    go_wp2_with fail
    go_ret
    exact ⟨by rw [decide_eq_true (show (1 : Int) ≤ n by omega), Bool.true_and]; rfl, rfl⟩
  · go_enter Tryz.func19, Tryz.ntmps19
    go_wp2_with fail
    go_ret
    exact ⟨by rw [decide_eq_false (show ¬ (1 : Int) ≤ n by omega), Bool.false_and]; rfl, rfl⟩

end Go.Proofs.YtbheoldakmcppaaGreatDoor

/-! Which number so many bytes tell: what packet.Long answers. -/
namespace Go.Proofs.YtbheoldakmcppaaGreatDoor
open Go Go.RowKit

theorem long_arg {t : Nat} {n a : Int} (h : ¬ longOk t n a) : longN t n a = 0 ∧ longE t n a = 1 := by
  unfold longN longE
  rw [if_neg h, if_neg h]
  exact ⟨rfl, rfl⟩
theorem long_far {t : Nat} {n a : Int} (h : longOk t n a) (h2 : 4611686018427387903 < longC t (256 ^ n.toNat) (behindN a)) : longN t n a = 0 ∧ longE t n a = 3 := by
  unfold longN longE
  rw [if_pos h, if_pos h, if_neg (by omega), if_neg (by omega)]
  exact ⟨rfl, rfl⟩
theorem long_fine {t : Nat} {n a : Int} (h : longOk t n a) (h2 : longC t (256 ^ n.toNat) (behindN a) ≤ 4611686018427387903) : longN t n a = longC t (256 ^ n.toNat) (behindN a) ∧ longE t n a = 0 := by
  unfold longN longE
  rw [if_pos h, if_pos h, if_pos h2, if_pos h2]
  exact ⟨rfl, rfl⟩
theorem bits_andNot (B k : Nat) (hk : k ≤ 4) (hB : B < 18446744073709551616) : bits .andNot .u64 (B : Int) (((256 ^ k : Nat) : Int) - 1) = ((B / 256 ^ k * 256 ^ k : Nat) : Int) := by
  have hp : (256 : Nat) ^ k = 2 ^ (8 * k) := by rw [Nat.pow_mul]
  have h1 : 1 ≤ 2 ^ (8 * k) := Nat.one_le_two_pow
  have e : (((256 ^ k : Nat) : Int) - 1) = ((2 ^ (8 * k) - 1 : Nat) : Int) := by rw [hp]; omega
  have h := andNot_low B (8 * k) (by omega) (by omega)
  rw [e, hp, ← h]
  have hlt : (BitVec.ofNat 64 B &&& ~~~BitVec.ofNat 64 (2 ^ (8 * k) - 1)).toNat < 2 ^ 64 := BitVec.isLt _
  show IntKind.u64.wrap ((BitVec.ofInt 64 (B : Int) &&& ~~~ BitVec.ofInt 64 ((2 ^ (8 * k) - 1 : Nat) : Int)).toNat : Int) = _
  rw [BitVec.ofInt_natCast, BitVec.ofInt_natCast]
  show ((_ : Nat) : Int) % (18446744073709551616 : Int) = _
  exact Int.emod_eq_of_lt (by omega) (by omega)
theorem bits_orLow (q t k : Nat) (ht : t < 256 ^ k) (hB : q * 256 ^ k + t < 18446744073709551616) : bits .or .u64 ((q * 256 ^ k : Nat) : Int) (t : Int) = ((q * 256 ^ k + t : Nat) : Int) := by
  have hp : (256 : Nat) ^ k = 2 ^ (8 * k) := by rw [Nat.pow_mul]
  rw [hp] at ht hB ⊢
  rw [← or_low q t (8 * k) ht]
  rw [← or_low q t (8 * k) ht] at hB
  show IntKind.u64.wrap ((BitVec.ofInt 64 ((q * 2 ^ (8 * k) : Nat) : Int) ||| BitVec.ofInt 64 (t : Int)).toNat : Int) = _
  rw [BitVec.ofInt_natCast, BitVec.ofInt_natCast, BitVec.toNat_or, BitVec.toNat_ofNat, BitVec.toNat_ofNat, ← Nat.or_mod_two_pow, Nat.mod_eq_of_lt (by omega)]
  show ((_ : Nat) : Int) % (18446744073709551616 : Int) = _
  exact Int.emod_eq_of_lt (by omega) (by omega)

set_option maxRecDepth 20000 in
set_option maxHeartbeats 1000000 in
theorem long_bad (t : Nat) (n a : Int) (w : World) (_ht : t < 18446744073709551616) (h : ¬ longOk t n a) :
    Calls Tryz.prog 113 #[.int .u64 (t : Int), .int .i64 n, .int .i64 a] w fun e w' => e = .returned (.tuple #[.int .u64 0, .int .i64 1]) ∧ w' = w := by
  by_cases hn : 1 ≤ n ∧ n ≤ 4
  · have hms : (decide (1 ≤ n) && decide (n ≤ 4)) = true := by rw [decide_eq_true hn.1, decide_eq_true hn.2]; rfl
    obtain ⟨k, rfl⟩ : ∃ k : Nat, n = k := ⟨n.toNat, by omega⟩
    have mc := fun w => maySize_any k w
    have rc := fun w => reach_any k w (by omega) (by omega)
    rw [hms] at mc
    have hR2 : 256 ^ k ≤ 4294967296 := pow_more (m := 4) (by omega)
    unfold longOk at h
    rw [Int.toNat_natCast] at h
    generalize 256 ^ k = R at *
    have MC := veil mc
    have RC := veil rc
    clear mc rc hms
    have h' : R ≤ t ∨ 4611686018427387903 < a := by omega
    clear h hn
    by_cases hr : R ≤ t
    · go_enter Tryz.func113, Tryz.ntmps113
      go_wp2_with fail
      refine (MC.out w).mono ?_
      rintro e1 w1 ⟨rfl, rfl⟩
      go_wp2_with fail
      refine (RC.out _).mono ?_
      rintro e1 w1 ⟨rfl, rfl⟩
      go_wp2_with fail
      go_ret2
      exact ⟨rfl, rfl⟩
    · have ha : 4611686018427387903 < a := by omega
      clear h'
      go_enter Tryz.func113, Tryz.ntmps113
      go_wp2_with fail
      refine (MC.out w).mono ?_
      rintro e1 w1 ⟨rfl, rfl⟩
      go_wp2_with fail
      refine (RC.out _).mono ?_
      rintro e1 w1 ⟨rfl, rfl⟩
      go_wp2_with fail
      go_ret2
      exact ⟨rfl, rfl⟩
  · have hms : (decide (1 ≤ n) && decide (n ≤ 4)) = false := by
      by_cases h1 : 1 ≤ n
      · rw [decide_eq_false (show ¬ n ≤ 4 by omega), Bool.and_false]
      · rw [decide_eq_false h1, Bool.false_and]
    have mc := fun w => maySize_any n w
    rw [hms] at mc
    have MC := veil mc
    clear mc hms h hn
    go_enter Tryz.func113, Tryz.ntmps113
    go_wp2_with fail
    refine (MC.out w).mono ?_
    rintro e1 w1 ⟨rfl, rfl⟩
    go_wp2_with fail
    go_ret2
    exact ⟨rfl, rfl⟩

set_option maxRecDepth 20000 in
set_option maxHeartbeats 2000000 in
theorem long_any (t : Nat) (n a : Int) (w : World) (ht : t < 18446744073709551616) (h1 : -9223372036854775808 ≤ a) (h2 : a ≤ 9223372036854775807) :
    Calls Tryz.prog 113 #[.int .u64 (t : Int), .int .i64 n, .int .i64 a] w fun e w' => e = .returned (.tuple #[.int .u64 (longN t n a : Int), .int .i64 (longE t n a)]) ∧ w' = w := by
  by_cases h : longOk t n a
  · have hok := h
    unfold longOk at h
    obtain ⟨⟨hn1, hn4⟩, htw, hac⟩ := h
    obtain ⟨k, rfl⟩ : ∃ k : Nat, n = k := ⟨n.toNat, by omega⟩
    have hms : (decide (1 ≤ (k : Int)) && decide ((k : Int) ≤ 4)) = true := by rw [decide_eq_true hn1, decide_eq_true hn4]; rfl
    have mc := fun w => maySize_any k w
    rw [hms] at mc
    have rc := fun w => reach_any k w (by omega) (by omega)
    have bc := fun w => behind_any a w h1 h2
    have hB : behindN a ≤ 4611686018427387904 := by unfold behindN; split <;> omega
    have hR : 256 ^ k ≤ 4294967296 := pow_more (m := 4) (by omega)
    have hR1 : 256 ≤ 256 ^ k := by have := pow_more (n := 1) (m := k) (by omega); simpa using this
    rw [Int.toNat_natCast] at htw
    have hQle : behindN a / 256 ^ k * 256 ^ k ≤ behindN a := Nat.div_mul_le_self _ _
    have e1 := bits_andNot (behindN a) k (by omega) (by omega)
    have e2 := bits_orLow (behindN a / 256 ^ k) t k htw (by omega)
    have hl1 := @long_far t k a hok
    have hl2 := @long_fine t k a hok
    have hev : 256 ^ k = 2 * (256 ^ k / 2) := by
      obtain ⟨j, rfl⟩ : ∃ j, k = j + 1 := ⟨k - 1, by omega⟩
      rw [Nat.pow_succ]
      omega
    unfold longC at hl1 hl2
    rw [Int.toNat_natCast] at hl1 hl2
    generalize behindN a / 256 ^ k * 256 ^ k = Q at *
    generalize behindN a = B at *
    generalize 256 ^ k = R at *
    generalize longN t k a = N at *
    generalize longE t k a = E at *
    obtain ⟨H, hH⟩ : ∃ H, R / 2 = H := ⟨_, rfl⟩
    have hdiv : (R : Int) / 2 = (H : Int) := by omega
    rw [hH] at hl1 hl2 hev
    have MC := veil mc
    have RC := veil rc
    have BC := veil bc
    obtain ⟨C, hC⟩ : ∃ C, Q + t = C := ⟨_, rfl⟩
    rw [hC] at hl1 hl2 e2
    obtain ⟨X, hX⟩ : ∃ X, (if C + H ≤ B ∧ C < 4611686018427387904 - R then C + R else if B + H < C ∧ R ≤ C then C - R else C) = X := ⟨_, rfl⟩
    rw [hX] at hl1 hl2
    have HL1 := veil hl1
    have HL2 := veil hl2
    have HX := veil hX
    have hgd : decide ((4611686018427387903 : Int) < a) = false := decide_eq_false (by omega)
    have hrt : decide (R ≤ t) = false := decide_eq_false (by omega)
    have hCl : C < 4611686022722355200 := by omega
    have HC := veil hC
    have HH := veil hH
    have HV := veil hev
    clear mc rc bc hl1 hl2 hms hok hn1 hn4 hac hC hH h1 h2 hQle hX hev
    go_enter Tryz.func113, Tryz.ntmps113
    go_wp2_with fail
    refine (MC.out w).mono ?_
    rintro e1 w1 ⟨rfl, rfl⟩
    go_wp2_with fail
    refine (RC.out _).mono ?_
    rintro e1 w1 ⟨rfl, rfl⟩
    go_wp2_with fail
    refine (RC.out _).mono ?_
    rintro e1 w1 ⟨rfl, rfl⟩
    go_wp2_with fail
    refine (BC.out _).mono ?_
    rintro e1 w1 ⟨rfl, rfl⟩
    go_wp2_with fail
    all_goals
      go_ret2
      have hx := HX.out
      have hl1 := HL1.out
      have hl2 := HL2.out
      refine ⟨?_, rfl⟩
      rcases Nat.lt_or_ge 4611686018427387903 X with c | c
      · obtain ⟨rfl, rfl⟩ := hl1 c
        split at hx
        · first | rfl | (exfalso; omega)
        · split at hx
          · first | rfl | (exfalso; omega)
          · first | rfl | (exfalso; omega)
      · obtain ⟨rfl, rfl⟩ := hl2 c
        split at hx
        · subst hx
          first | rfl | (exfalso; omega)
        · split at hx
          · first | (exfalso; omega) | (subst hx; rw [show ((C - R : Nat) : Int) = (C : Int) - (R : Int) from by omega]; rfl)
          · subst hx
            first | rfl | (exfalso; omega)
  · obtain ⟨e1, e2⟩ := long_arg h
    rw [e1, e2]
    exact long_bad t n a w ht h
end Go.Proofs.YtbheoldakmcppaaGreatDoor

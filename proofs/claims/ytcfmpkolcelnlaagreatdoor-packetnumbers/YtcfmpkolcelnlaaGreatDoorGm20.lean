/-
  Out of PkNum, PkShort, PkLong, PkRefS, PkRefL.
-/
import Derived.Test.YtcfmpkolcelnlaaGreatDoorGm1
import Derived.Test.YtcfmpkolcelnlaaGreatDoorGmHkIn
import Derived.Test.YtcfmpkolcelnlaaGreatDoorGm4
import Derived.Test.YtcfmpkolcelnlaaGreatDoorRows

/-! Packets' numbers, told in few bytes: no program in sight. -/
namespace Go.Proofs.YtcfmpkolcelnlaaGreatDoor
open Go

/-- The number that follows. -/
def behindN (a : Int) : Nat := if a < 0 then 0 else a.toNat + 1
/-- How many bytes a number needs, by its way; 0: too far. -/
def needN (way : Nat) : Nat := if way ≤ 128 then 1 else if way ≤ 32768 then 2 else if way ≤ 8388608 then 3 else if way ≤ 2147483648 then 4 else 0
def shortE (x : Nat) (a : Int) : Int := if 4611686018427387903 < x ∨ x < behindN a then 1 else if x - behindN a + 1 ≤ 2147483648 then 0 else 3
def shortN (x : Nat) (a : Int) : Nat := if 4611686018427387903 < x ∨ x < behindN a then 0 else needN (x - behindN a + 1)
def longC (t w e : Nat) : Nat := if e / w * w + t + w / 2 ≤ e ∧ e / w * w + t < 4611686018427387904 - w then e / w * w + t + w else if e + w / 2 < e / w * w + t ∧ w ≤ e / w * w + t then e / w * w + t - w else e / w * w + t
def longOk (t : Nat) (n a : Int) : Prop := (1 ≤ n ∧ n ≤ 4) ∧ t < 256 ^ n.toNat ∧ a ≤ 4611686018427387903
instance (t : Nat) (n a : Int) : Decidable (longOk t n a) := by unfold longOk; infer_instance
def longE (t : Nat) (n a : Int) : Int := if longOk t n a then (if longC t (256 ^ n.toNat) (behindN a) ≤ 4611686018427387903 then 0 else 3) else 1
def longN (t : Nat) (n a : Int) : Nat := if longOk t n a then (if longC t (256 ^ n.toNat) (behindN a) ≤ 4611686018427387903 then longC t (256 ^ n.toNat) (behindN a) else 0) else 0
theorem longC_ways {x w e : Nat} (hw : 0 < w) (hw2 : w % 2 = 0) (h1 : e ≤ x) (h2 : x - e < w / 2) (hx : x ≤ 4611686018427387903) (hw3 : w ≤ 4294967296) : longC (x % w) w e = x := by
  have d1 := Nat.div_add_mod e w
  have d2 := Nat.div_add_mod x w
  have m1 := Nat.mod_lt e hw
  have m2 := Nat.mod_lt x hw
  have hle : e / w ≤ x / w := Nat.div_le_div_right h1
  have hle2 : x / w ≤ e / w + 1 := by
    have : x / w ≤ (e + w) / w := Nat.div_le_div_right (by omega)
    rwa [Nat.add_div_right e hw] at this
  unfold longC
  have c1 : e / w * w = w * (e / w) := Nat.mul_comm _ _
  rcases Nat.lt_or_ge (e / w) (x / w) with h | h
  · have hq : x / w = e / w + 1 := by omega
    have : w * (x / w) = w * (e / w) + w := by rw [hq, Nat.mul_add, Nat.mul_one]
    rw [if_pos (by omega)]
    omega
  · have hq : x / w = e / w := by omega
    rw [hq] at d2
    rw [if_neg (by omega), if_neg (by omega)]
    omega
theorem needN_ways {way : Nat} (h : way ≤ 2147483648) : 1 ≤ needN way ∧ needN way ≤ 4 ∧ way ≤ 256 ^ needN way / 2 := by
  unfold needN
  split
  · exact ⟨by omega, by omega, by omega⟩
  · split
    · exact ⟨by omega, by omega, by omega⟩
    · split
      · exact ⟨by omega, by omega, by omega⟩
      · exact ⟨by omega, by omega, by omega⟩
theorem pow_more {n m : Nat} (h : n ≤ m) : 256 ^ n ≤ 256 ^ m := Nat.pow_le_pow_right (by decide) h
theorem andNot_low (e k : Nat) (h : k < 64) (he : e < 2 ^ 64) : (BitVec.ofNat 64 e &&& ~~~ (BitVec.ofNat 64 (2 ^ k - 1))).toNat = e / 2 ^ k * 2 ^ k := by
  apply Nat.eq_of_testBit_eq
  intro i
  rw [Nat.testBit_mul_two_pow, Nat.testBit_div_two_pow, BitVec.testBit_toNat, BitVec.getLsbD_and, BitVec.getLsbD_not, BitVec.getLsbD_ofNat, BitVec.getLsbD_ofNat, Nat.testBit_two_pow_sub_one]
  by_cases hi : i < 64
  · by_cases hk : k ≤ i
    · simp [hi, hk, Nat.sub_add_cancel hk, show ¬ i < k by omega]
    · simp [hi, hk, show i < k by omega]
  · have h1 : e.testBit i = false := Nat.testBit_lt_two_pow (Nat.lt_of_lt_of_le he (Nat.pow_le_pow_right (by decide) (by omega)))
    have h2 : k ≤ i := by omega
    simp [hi, h1, h2, Nat.sub_add_cancel h2]
theorem or_low (q t k : Nat) (h : t < 2 ^ k) : q * 2 ^ k ||| t = q * 2 ^ k + t := by
  rw [Nat.mul_comm, Nat.two_pow_add_eq_or_of_lt h]
end Go.Proofs.YtcfmpkolcelnlaaGreatDoor

/-! How many bytes a number needs, and which number so many bytes tell: what packet.Short, packet.Long answer, and the document's. -/
namespace Go.Proofs.YtcfmpkolcelnlaaGreatDoor
open Go Go.RowKit

set_option maxRecDepth 20000 in
theorem behind_any (a : Int) (w : World) (h1 : -9223372036854775808 ≤ a) (h2 : a ≤ 9223372036854775807) :
    Calls Tryz.prog 29 #[.int .i64 a] w fun e w' => e = .returned (.int .u64 (behindN a : Int)) ∧ w' = w := by
  by_cases h : a < 0
  · go_enter Tryz.func29, Tryz.ntmps29
    go_wp2_with fail
    go_ret
    refine ⟨?_, rfl⟩
    unfold behindN
    rw [if_pos h]
    rfl
  · obtain ⟨n, rfl⟩ : ∃ n : Nat, a = n := ⟨a.toNat, by omega⟩
    go_enter Tryz.func29, Tryz.ntmps29
    go_wp2_with fail
    go_ret
    refine ⟨?_, rfl⟩
    unfold behindN
    rw [if_neg (by omega)]
    rfl
set_option maxRecDepth 20000 in
theorem reach_any (n : Nat) (w : World) (h1 : 1 ≤ n) (h2 : n ≤ 4) :
    Calls Tryz.prog 30 #[.int .i64 (n : Int)] w fun e w' => e = .returned (.int .u64 ((256 ^ n : Nat) : Int)) ∧ w' = w := by
  have h : n = 1 ∨ n = 2 ∨ n = 3 ∨ n = 4 := by omega
  rcases h with rfl | rfl | rfl | rfl
  all_goals
    go_enter Tryz.func30, Tryz.ntmps30
    go_wp2_with fail
    go_ret
    exact ⟨rfl, rfl⟩
set_option maxRecDepth 20000 in
theorem maySize_any (n : Int) (w : World) :
    Calls Tryz.prog 31 #[.int .i64 n] w fun e w' => e = .returned (.bool (decide (1 ≤ n) && decide (n ≤ 4))) ∧ w' = w := by
  by_cases h : 1 ≤ n
  · go_enter Tryz.func31, Tryz.ntmps31
    go_wp2_with fail
    go_ret
    exact ⟨by rw [decide_eq_true (show (1 : Int) ≤ n by omega), Bool.true_and]; rfl, rfl⟩
  · go_enter Tryz.func31, Tryz.ntmps31
    go_wp2_with fail
    go_ret
    exact ⟨by rw [decide_eq_false (show ¬ (1 : Int) ≤ n by omega), Bool.false_and]; rfl, rfl⟩

theorem short_arg {x : Nat} {a : Int} (h : 4611686018427387903 < x ∨ x < behindN a) : shortN x a = 0 ∧ shortE x a = 1 := by
  unfold shortN shortE
  rw [if_pos h, if_pos h]
  exact ⟨rfl, rfl⟩
theorem short_way {x : Nat} {a : Int} (h : ¬ (4611686018427387903 < x ∨ x < behindN a)) : shortN x a = needN (x - behindN a + 1) ∧ shortE x a = if x - behindN a + 1 ≤ 2147483648 then 0 else 3 := by
  unfold shortN shortE
  rw [if_neg h, if_neg h]
  exact ⟨rfl, rfl⟩
theorem need_at {W k : Nat} (h1 : 1 ≤ k) (h2 : k ≤ 4) (hb : ∀ j, 1 ≤ j → j < k → 256 ^ j / 2 < W) (h : W ≤ 256 ^ k / 2) : needN W = k ∧ W ≤ 2147483648 := by
  have hk : k = 1 ∨ k = 2 ∨ k = 3 ∨ k = 4 := by omega
  unfold needN
  rcases hk with rfl | rfl | rfl | rfl
  · rw [if_pos (by omega)]
    exact ⟨rfl, by omega⟩
  · have := hb 1 (by omega) (by omega)
    rw [if_neg (by omega), if_pos (by omega)]
    exact ⟨rfl, by omega⟩
  · have := hb 1 (by omega) (by omega)
    have := hb 2 (by omega) (by omega)
    rw [if_neg (by omega), if_neg (by omega), if_pos (by omega)]
    exact ⟨rfl, by omega⟩
  · have := hb 1 (by omega) (by omega)
    have := hb 2 (by omega) (by omega)
    have := hb 3 (by omega) (by omega)
    rw [if_neg (by omega), if_neg (by omega), if_neg (by omega), if_pos (by omega)]
    exact ⟨rfl, by omega⟩
theorem need_no {W : Nat} (hb : ∀ j, 1 ≤ j → j < 5 → 256 ^ j / 2 < W) : needN W = 0 ∧ ¬ W ≤ 2147483648 := by
  have h1 := hb 1 (by omega) (by omega)
  have h2 := hb 2 (by omega) (by omega)
  have h3 := hb 3 (by omega) (by omega)
  have h4 := hb 4 (by omega) (by omega)
  unfold needN
  rw [if_neg (by omega), if_neg (by omega), if_neg (by omega), if_neg (by omega)]
  exact ⟨rfl, by omega⟩

set_option maxRecDepth 20000 in
set_option maxHeartbeats 1000000 in
theorem short_any (x : Nat) (a : Int) (w : World) (hx : x < 18446744073709551616) (h1 : -9223372036854775808 ≤ a) (h2 : a ≤ 9223372036854775807) :
    Calls Tryz.prog 8 #[.int .u64 (x : Int), .int .i64 a] w fun e w' => e = .returned (.tuple #[.int .i64 (shortN x a : Int), .int .i64 (shortE x a)]) ∧ w' = w := by
  have hB : behindN a ≤ 9223372036854775808 := by unfold behindN; split <;> omega
  have HA := veil (And.intro h1 h2)
  clear h1 h2
  have bc := fun w => behind_any a w HA.out.1 HA.out.2
  by_cases hc : 4611686018427387903 < x ∨ x < behindN a
  · obtain ⟨e1, e2⟩ := short_arg hc
    rw [e1, e2]
    clear e1 e2
    generalize behindN a = B at *
    have BC := veil bc
    clear bc
    by_cases hg : 4611686018427387903 < x
    · go_enter Tryz.func8, Tryz.ntmps8
      go_wp2_with fail
      refine (BC.out w).mono ?_
      rintro e1 w1 ⟨rfl, rfl⟩
      go_wp2_with fail
      go_ret2
      exact ⟨rfl, rfl⟩
    · have hl : x < B := by omega
      clear hc
      go_enter Tryz.func8, Tryz.ntmps8
      go_wp2_with fail
      refine (BC.out w).mono ?_
      rintro e1 w1 ⟨rfl, rfl⟩
      go_wp2_with fail
      go_ret2
      exact ⟨rfl, rfl⟩
  · obtain ⟨e1, e2⟩ := short_way hc
    rw [e1, e2]
    clear e1 e2
    generalize behindN a = B at *
    have BC := veil bc
    clear bc
    have hg : x ≤ 4611686018427387903 := by omega
    have hl : B ≤ x := by omega
    obtain ⟨W, hW⟩ : ∃ W, x - B + 1 = W := ⟨_, rfl⟩
    have hsub : (x : Int) - (B : Int) + 1 = (W : Int) := by omega
    have hW2 : W < 18446744073709551616 := by omega
    rw [hW]
    obtain ⟨N, hN⟩ : ∃ N, needN W = N := ⟨_, rfl⟩
    obtain ⟨E, hE⟩ : ∃ E : Int, (if W ≤ 2147483648 then 0 else 3) = E := ⟨_, rfl⟩
    rw [hN, hE]
    have HN := veil hN
    have HE := veil hE
    have hgd : decide ((4611686018427387903 : Int) < (x : Int)) = false := decide_eq_false (by omega)
    have hld : decide (x < B) = false := decide_eq_false (by omega)
    clear hc hW hN hE
    go_enter Tryz.func8, Tryz.ntmps8
    go_wp2_with fail
    refine (BC.out w).mono ?_
    rintro e1 w1 ⟨rfl, rfl⟩
    go_wp2_with fail
    go_loopw [8] (fun i wr => ∃ k : Nat, 1 ≤ k ∧ k ≤ 5 ∧ i = .int .i64 (k : Int) ∧ (∀ j, 1 ≤ j → j < k → 256 ^ j / 2 < W) ∧ wr = w1)
      (fun i _ => 5 - (intOf i).toNat)
    case atStart => exact ⟨1, by omega, by omega, rfl, fun j h1 h2 => by omega, rfl⟩
    case round =>
      obtain ⟨k, hk1, hk5, rfl, hb, rfl⟩ := hrel
      have HB := veil hb
      clear hb
      by_cases hlt : k ≤ 4
      · obtain ⟨R, hR⟩ : ∃ R, 256 ^ k = R := ⟨_, rfl⟩
        have rc := fun w => reach_any k w hk1 hlt
        rw [hR] at rc
        have RC := veil rc
        clear rc
        have hR2 : R < 18446744073709551616 := by
          rw [← hR]
          exact Nat.lt_of_le_of_lt (pow_more hlt) (by decide)
        obtain ⟨R2, hq⟩ : ∃ R2 : Nat, R2 = R / 2 := ⟨_, rfl⟩
        have hq2 : (R : Int) / 2 = (R2 : Int) := by omega
        have HQ := veil hq
        clear hq
        have HR := veil hR
        clear hR
        go_wp2_with fail
        refine (RC.out _).mono ?_
        rintro e2 w2 ⟨rfl, rfl⟩
        by_cases hw : W ≤ R2
        · obtain ⟨n1, n2⟩ := need_at hk1 hlt HB.out (by rw [HR.out, ← HQ.out]; exact hw)
          obtain rfl : k = N := n1.symm.trans HN.out
          obtain rfl : (0 : Int) = E := (if_pos n2).symm.trans HE.out
          clear n1 n2
          go_wp2_with fail
          go_ret2
          exact ⟨rfl, rfl⟩
        · go_wp2_with fail
          go_roundw
          case rel => exact ⟨k + 1, by omega, by omega, by go_num, fun j h1 h2 => by
            by_cases e : j = k
            · rw [e, HR.out, ← HQ.out]; omega
            · exact HB.out j h1 (by omega), by first | trivial | rfl⟩
          case measure => simp only [intOf]; omega
      · obtain rfl : k = 5 := by omega
        obtain ⟨n1, n2⟩ := need_no HB.out
        obtain rfl : 0 = N := n1.symm.trans HN.out
        obtain rfl : (3 : Int) = E := (if_neg n2).symm.trans HE.out
        clear n1 n2
        go_wp2_with fail
        go_ret2
        exact ⟨rfl, rfl⟩
end Go.Proofs.YtcfmpkolcelnlaaGreatDoor

/-! Which number so many bytes tell: what packet.Long answers. -/
namespace Go.Proofs.YtcfmpkolcelnlaaGreatDoor
open Go Go.RowKit

theorem long_arg {t : Nat} {n a : Int} (h : ¬ longOk t n a) : longN t n a = 0 ∧ longE t n a = 1 := by
  unfold longN longE
  rw [if_neg h, if_neg h]
  exact ⟨rfl, rfl⟩
theorem long_far {t : Nat} {n a : Int} (h : longOk t n a) (h2 : 4611686018427387903 < longC t (256 ^ n.toNat) (behindN a)) : longN t n a = 0 ∧ longE t n a = 3 := by
  unfold longN longE
  rw [if_pos h, if_pos h, if_neg (by omega), if_neg (by omega)]
  exact ⟨rfl, rfl⟩
theorem long_fine {t : Nat} {n a : Int} (h : longOk t n a) (h2 : longC t (256 ^ n.toNat) (behindN a) ≤ 4611686018427387903) : longN t n a = longC t (256 ^ n.toNat) (behindN a) ∧ longE t n a = 0 := by
  unfold longN longE
  rw [if_pos h, if_pos h, if_pos h2, if_pos h2]
  exact ⟨rfl, rfl⟩
theorem bits_andNot (B k : Nat) (hk : k ≤ 4) (hB : B < 18446744073709551616) : bits .andNot .u64 (B : Int) (((256 ^ k : Nat) : Int) - 1) = ((B / 256 ^ k * 256 ^ k : Nat) : Int) := by
  have hp : (256 : Nat) ^ k = 2 ^ (8 * k) := by rw [Nat.pow_mul]
  have h1 : 1 ≤ 2 ^ (8 * k) := Nat.one_le_two_pow
  have e : (((256 ^ k : Nat) : Int) - 1) = ((2 ^ (8 * k) - 1 : Nat) : Int) := by rw [hp]; omega
  have h := andNot_low B (8 * k) (by omega) (by omega)
  rw [e, hp, ← h]
  have hlt : (BitVec.ofNat 64 B &&& ~~~BitVec.ofNat 64 (2 ^ (8 * k) - 1)).toNat < 2 ^ 64 := BitVec.isLt _
  show IntKind.u64.wrap ((BitVec.ofInt 64 (B : Int) &&& ~~~ BitVec.ofInt 64 ((2 ^ (8 * k) - 1 : Nat) : Int)).toNat : Int) = _
  rw [BitVec.ofInt_natCast, BitVec.ofInt_natCast]
  show ((_ : Nat) : Int) % (18446744073709551616 : Int) = _
  exact Int.emod_eq_of_lt (by omega) (by omega)
theorem bits_orLow (q t k : Nat) (ht : t < 256 ^ k) (hB : q * 256 ^ k + t < 18446744073709551616) : bits .or .u64 ((q * 256 ^ k : Nat) : Int) (t : Int) = ((q * 256 ^ k + t : Nat) : Int) := by
  have hp : (256 : Nat) ^ k = 2 ^ (8 * k) := by rw [Nat.pow_mul]
  rw [hp] at ht hB ⊢
  rw [← or_low q t (8 * k) ht]
  rw [← or_low q t (8 * k) ht] at hB
  show IntKind.u64.wrap ((BitVec.ofInt 64 ((q * 2 ^ (8 * k) : Nat) : Int) ||| BitVec.ofInt 64 (t : Int)).toNat : Int) = _
  rw [BitVec.ofInt_natCast, BitVec.ofInt_natCast, BitVec.toNat_or, BitVec.toNat_ofNat, BitVec.toNat_ofNat, ← Nat.or_mod_two_pow, Nat.mod_eq_of_lt (by omega)]
  show ((_ : Nat) : Int) % (18446744073709551616 : Int) = _
  exact Int.emod_eq_of_lt (by omega) (by omega)

set_option maxRecDepth 20000 in
set_option maxHeartbeats 1000000 in
theorem long_bad (t : Nat) (n a : Int) (w : World) (_ht : t < 18446744073709551616) (h : ¬ longOk t n a) :
    Calls Tryz.prog 9 #[.int .u64 (t : Int), .int .i64 n, .int .i64 a] w fun e w' => e = .returned (.tuple #[.int .u64 0, .int .i64 1]) ∧ w' = w := by
  by_cases hn : 1 ≤ n ∧ n ≤ 4
  · have hms : (decide (1 ≤ n) && decide (n ≤ 4)) = true := by rw [decide_eq_true hn.1, decide_eq_true hn.2]; rfl
    obtain ⟨k, rfl⟩ : ∃ k : Nat, n = k := ⟨n.toNat, by omega⟩
    have mc := fun w => maySize_any k w
    have rc := fun w => reach_any k w (by omega) (by omega)
    rw [hms] at mc
    have hR2 : 256 ^ k ≤ 4294967296 := pow_more (m := 4) (by omega)
    unfold longOk at h
    rw [Int.toNat_natCast] at h
    generalize 256 ^ k = R at *
    have MC := veil mc
    have RC := veil rc
    clear mc rc hms
    have h' : R ≤ t ∨ 4611686018427387903 < a := by omega
    clear h hn
    by_cases hr : R ≤ t
    · go_enter Tryz.func9, Tryz.ntmps9
      go_wp2_with fail
      refine (MC.out w).mono ?_
      rintro e1 w1 ⟨rfl, rfl⟩
      go_wp2_with fail
      refine (RC.out _).mono ?_
      rintro e1 w1 ⟨rfl, rfl⟩
      go_wp2_with fail
      go_ret2
      exact ⟨rfl, rfl⟩
    · have ha : 4611686018427387903 < a := by omega
      clear h'
      go_enter Tryz.func9, Tryz.ntmps9
      go_wp2_with fail
      refine (MC.out w).mono ?_
      rintro e1 w1 ⟨rfl, rfl⟩
      go_wp2_with fail
      refine (RC.out _).mono ?_
      rintro e1 w1 ⟨rfl, rfl⟩
      go_wp2_with fail
      go_ret2
      exact ⟨rfl, rfl⟩
  · have hms : (decide (1 ≤ n) && decide (n ≤ 4)) = false := by
      by_cases h1 : 1 ≤ n
      · rw [decide_eq_false (show ¬ n ≤ 4 by omega), Bool.and_false]
      · rw [decide_eq_false h1, Bool.false_and]
    have mc := fun w => maySize_any n w
    rw [hms] at mc
    have MC := veil mc
    clear mc hms h hn
    go_enter Tryz.func9, Tryz.ntmps9
    go_wp2_with fail
    refine (MC.out w).mono ?_
    rintro e1 w1 ⟨rfl, rfl⟩
    go_wp2_with fail
    go_ret2
    exact ⟨rfl, rfl⟩

set_option maxRecDepth 20000 in
set_option maxHeartbeats 2000000 in
theorem long_any (t : Nat) (n a : Int) (w : World) (ht : t < 18446744073709551616) (h1 : -9223372036854775808 ≤ a) (h2 : a ≤ 9223372036854775807) :
    Calls Tryz.prog 9 #[.int .u64 (t : Int), .int .i64 n, .int .i64 a] w fun e w' => e = .returned (.tuple #[.int .u64 (longN t n a : Int), .int .i64 (longE t n a)]) ∧ w' = w := by
  by_cases h : longOk t n a
  · have hok := h
    unfold longOk at h
    obtain ⟨⟨hn1, hn4⟩, htw, hac⟩ := h
    obtain ⟨k, rfl⟩ : ∃ k : Nat, n = k := ⟨n.toNat, by omega⟩
    have hms : (decide (1 ≤ (k : Int)) && decide ((k : Int) ≤ 4)) = true := by rw [decide_eq_true hn1, decide_eq_true hn4]; rfl
    have mc := fun w => maySize_any k w
    rw [hms] at mc
    have rc := fun w => reach_any k w (by omega) (by omega)
    have bc := fun w => behind_any a w h1 h2
    have hB : behindN a ≤ 4611686018427387904 := by unfold behindN; split <;> omega
    have hR : 256 ^ k ≤ 4294967296 := pow_more (m := 4) (by omega)
    have hR1 : 256 ≤ 256 ^ k := by have := pow_more (n := 1) (m := k) (by omega); simpa using this
    rw [Int.toNat_natCast] at htw
    have hQle : behindN a / 256 ^ k * 256 ^ k ≤ behindN a := Nat.div_mul_le_self _ _
    have e1 := bits_andNot (behindN a) k (by omega) (by omega)
    have e2 := bits_orLow (behindN a / 256 ^ k) t k htw (by omega)
    have hl1 := @long_far t k a hok
    have hl2 := @long_fine t k a hok
    have hev : 256 ^ k = 2 * (256 ^ k / 2) := by
      obtain ⟨j, rfl⟩ : ∃ j, k = j + 1 := ⟨k - 1, by omega⟩
      rw [Nat.pow_succ]
      omega
    unfold longC at hl1 hl2
    rw [Int.toNat_natCast] at hl1 hl2
    generalize behindN a / 256 ^ k * 256 ^ k = Q at *
    generalize behindN a = B at *
    generalize 256 ^ k = R at *
    generalize longN t k a = N at *
    generalize longE t k a = E at *
    obtain ⟨H, hH⟩ : ∃ H, R / 2 = H := ⟨_, rfl⟩
    have hdiv : (R : Int) / 2 = (H : Int) := by omega
    rw [hH] at hl1 hl2 hev
    have MC := veil mc
    have RC := veil rc
    have BC := veil bc
    obtain ⟨C, hC⟩ : ∃ C, Q + t = C := ⟨_, rfl⟩
    rw [hC] at hl1 hl2 e2
    obtain ⟨X, hX⟩ : ∃ X, (if C + H ≤ B ∧ C < 4611686018427387904 - R then C + R else if B + H < C ∧ R ≤ C then C - R else C) = X := ⟨_, rfl⟩
    rw [hX] at hl1 hl2
    have HL1 := veil hl1
    have HL2 := veil hl2
    have HX := veil hX
    have hgd : decide ((4611686018427387903 : Int) < a) = false := decide_eq_false (by omega)
    have hrt : decide (R ≤ t) = false := decide_eq_false (by omega)
    have hCl : C < 4611686022722355200 := by omega
    have HC := veil hC
    have HH := veil hH
    have HV := veil hev
    clear mc rc bc hl1 hl2 hms hok hn1 hn4 hac hC hH h1 h2 hQle hX hev
    go_enter Tryz.func9, Tryz.ntmps9
    go_wp2_with fail
    refine (MC.out w).mono ?_
    rintro e1 w1 ⟨rfl, rfl⟩
    go_wp2_with fail
    refine (RC.out _).mono ?_
    rintro e1 w1 ⟨rfl, rfl⟩
    go_wp2_with fail
    refine (RC.out _).mono ?_
    rintro e1 w1 ⟨rfl, rfl⟩
    go_wp2_with fail
    refine (BC.out _).mono ?_
    rintro e1 w1 ⟨rfl, rfl⟩
    go_wp2_with fail
    all_goals
      go_ret2
      have hx := HX.out
      have hl1 := HL1.out
      have hl2 := HL2.out
      refine ⟨?_, rfl⟩
      rcases Nat.lt_or_ge 4611686018427387903 X with c | c
      · obtain ⟨rfl, rfl⟩ := hl1 c
        split at hx
        · first | rfl | (exfalso; omega)
        · split at hx
          · first | rfl | (exfalso; omega)
          · first | rfl | (exfalso; omega)
      · obtain ⟨rfl, rfl⟩ := hl2 c
        split at hx
        · subst hx
          first | rfl | (exfalso; omega)
        · split at hx
          · first | (exfalso; omega) | (subst hx; rw [show ((C - R : Nat) : Int) = (C : Int) - (R : Int) from by omega]; rfl)
          · subst hx
            first | rfl | (exfalso; omega)
  · obtain ⟨e1, e2⟩ := long_arg h
    rw [e1, e2]
    exact long_bad t n a w ht h
end Go.Proofs.YtcfmpkolcelnlaaGreatDoor

/-! How many bytes a number needs, and which number so many bytes tell: the document's Short and Long. -/
namespace Go.Proofs.YtcfmpkolcelnlaaGreatDoor
open Go Go.RowKit

set_option maxRecDepth 20000 in
set_option maxHeartbeats 1000000 in
theorem refShort_any (x : Nat) (a : Int) (w : World) (hx : x < 18446744073709551616) (h1 : -9223372036854775808 ≤ a) (h2 : a ≤ 9223372036854775807) :
    Calls Tryz.prog 10 #[.int .u64 (x : Int), .int .i64 a] w fun e w' => e = .returned (.tuple #[.int .i64 (shortN x a : Int), .int .i64 (shortE x a)]) ∧ w' = w := by
  by_cases hc : 4611686018427387903 < x ∨ x < behindN a
  · obtain ⟨e1, e2⟩ := short_arg hc
    rw [e1, e2]
    clear e1 e2
    by_cases hg : 4611686018427387903 < x
    · go_enter Tryz.func10, Tryz.ntmps10
      go_wp2_with fail
      go_ret2
      exact ⟨rfl, rfl⟩
    · have ha : 0 ≤ a := by unfold behindN at hc; split at hc <;> omega
      obtain ⟨m, rfl⟩ : ∃ m : Nat, a = m := ⟨a.toNat, by omega⟩
      have hl : x ≤ m := by unfold behindN at hc; split at hc <;> omega
      clear hc
      go_enter Tryz.func10, Tryz.ntmps10
      go_wp2_with fail
      go_ret2
      exact ⟨rfl, rfl⟩
  · obtain ⟨e1, e2⟩ := short_way hc
    rw [e1, e2]
    clear e1 e2
    have hg : x ≤ 4611686018427387903 := by omega
    have hgd : decide ((4611686018427387903 : Int) < (x : Int)) = false := decide_eq_false (by omega)
    obtain ⟨W, hW⟩ : ∃ W, x - behindN a + 1 = W := ⟨_, rfl⟩
    have hW2 : W < 18446744073709551616 := by omega
    rw [hW]
    obtain ⟨N, hN⟩ : ∃ N, needN W = N := ⟨_, rfl⟩
    obtain ⟨E, hE⟩ : ∃ E : Int, (if W ≤ 2147483648 then 0 else 3) = E := ⟨_, rfl⟩
    rw [hN, hE]
    have HN := veil hN
    have HE := veil hE
    clear hN hE
    by_cases ha : a < 0
    · have hWx : (x : Int) + 1 = (W : Int) := by unfold behindN at hW; rw [if_pos ha] at hW; omega
      have hsg : decide (0 ≤ a) = false := decide_eq_false (by omega)
      clear hc hW
      go_enter Tryz.func10, Tryz.ntmps10
      go_wp2_with fail
      go_loopw [7] (fun i wr => ∃ k : Nat, 1 ≤ k ∧ k ≤ 5 ∧ i = .int .i64 (k : Int) ∧ (∀ j, 1 ≤ j → j < k → 256 ^ j / 2 < W) ∧ wr = w)
        (fun i _ => 5 - (intOf i).toNat)
      case atStart => exact ⟨1, by omega, by omega, rfl, fun j h1 h2 => by omega, rfl⟩
      case round =>
        obtain ⟨k, hk1, hk5, rfl, hb, rfl⟩ := hrel
        have HB := veil hb
        clear hb
        have hkc : k = 1 ∨ k = 2 ∨ k = 3 ∨ k = 4 ∨ k = 5 := by omega
        rcases hkc with rfl | rfl | rfl | rfl | rfl
        · by_cases hw : W ≤ 128
          · obtain ⟨n1, n2⟩ := need_at (k := 1) (by omega) (by omega) HB.out (by omega)
            obtain rfl : 1 = N := n1.symm.trans HN.out
            obtain rfl : (0 : Int) = E := (if_pos n2).symm.trans HE.out
            clear n1 n2
            go_wp2_with fail
            go_ret2
            exact ⟨rfl, rfl⟩
          · go_wp2_with fail
            go_roundw
            case rel => exact ⟨2, by omega, by omega, by go_num, fun j h1 h2 => by
              by_cases e : j = 1
              · rw [e]; omega
              · exact HB.out j h1 (by omega), by first | trivial | rfl⟩
            case measure => simp only [intOf]; omega
        · by_cases hw : W ≤ 32768
          · obtain ⟨n1, n2⟩ := need_at (k := 2) (by omega) (by omega) HB.out (by omega)
            obtain rfl : 2 = N := n1.symm.trans HN.out
            obtain rfl : (0 : Int) = E := (if_pos n2).symm.trans HE.out
            clear n1 n2
            go_wp2_with fail
            go_ret2
            exact ⟨rfl, rfl⟩
          · go_wp2_with fail
            go_roundw
            case rel => exact ⟨3, by omega, by omega, by go_num, fun j h1 h2 => by
              by_cases e : j = 2
              · rw [e]; omega
              · exact HB.out j h1 (by omega), by first | trivial | rfl⟩
            case measure => simp only [intOf]; omega
        · by_cases hw : W ≤ 8388608
          · obtain ⟨n1, n2⟩ := need_at (k := 3) (by omega) (by omega) HB.out (by omega)
            obtain rfl : 3 = N := n1.symm.trans HN.out
            obtain rfl : (0 : Int) = E := (if_pos n2).symm.trans HE.out
            clear n1 n2
            go_wp2_with fail
            go_ret2
            exact ⟨rfl, rfl⟩
          · go_wp2_with fail
            go_roundw
            case rel => exact ⟨4, by omega, by omega, by go_num, fun j h1 h2 => by
              by_cases e : j = 3
              · rw [e]; omega
              · exact HB.out j h1 (by omega), by first | trivial | rfl⟩
            case measure => simp only [intOf]; omega
        · by_cases hw : W ≤ 2147483648
          · obtain ⟨n1, n2⟩ := need_at (k := 4) (by omega) (by omega) HB.out (by omega)
            obtain rfl : 4 = N := n1.symm.trans HN.out
            obtain rfl : (0 : Int) = E := (if_pos n2).symm.trans HE.out
            clear n1 n2
            go_wp2_with fail
            go_ret2
            exact ⟨rfl, rfl⟩
          · go_wp2_with fail
            go_roundw
            case rel => exact ⟨5, by omega, by omega, by go_num, fun j h1 h2 => by
              by_cases e : j = 4
              · rw [e]; omega
              · exact HB.out j h1 (by omega), by first | trivial | rfl⟩
            case measure => simp only [intOf]; omega
        · obtain ⟨n1, n2⟩ := need_no HB.out
          obtain rfl : 0 = N := n1.symm.trans HN.out
          obtain rfl : (3 : Int) = E := (if_neg n2).symm.trans HE.out
          clear n1 n2
          go_wp2_with fail
          go_ret2
          exact ⟨rfl, rfl⟩
    · obtain ⟨m, rfl⟩ : ∃ m : Nat, a = m := ⟨a.toNat, by omega⟩
      have hbm : behindN m = m + 1 := by unfold behindN; rw [if_neg (by omega)]; rfl
      have hWx : (x : Int) - (m : Int) = (W : Int) := by omega
      have hmx : decide (x ≤ m) = false := decide_eq_false (by omega)
      have hmx2 : m < x := by omega
      clear hc hW hbm ha
      go_enter Tryz.func10, Tryz.ntmps10
      go_wp2_with fail
      go_loopw [7] (fun i wr => ∃ k : Nat, 1 ≤ k ∧ k ≤ 5 ∧ i = .int .i64 (k : Int) ∧ (∀ j, 1 ≤ j → j < k → 256 ^ j / 2 < W) ∧ wr = w)
        (fun i _ => 5 - (intOf i).toNat)
      case atStart => exact ⟨1, by omega, by omega, rfl, fun j h1 h2 => by omega, rfl⟩
      case round =>
        obtain ⟨k, hk1, hk5, rfl, hb, rfl⟩ := hrel
        have HB := veil hb
        clear hb
        have hkc : k = 1 ∨ k = 2 ∨ k = 3 ∨ k = 4 ∨ k = 5 := by omega
        rcases hkc with rfl | rfl | rfl | rfl | rfl
        · by_cases hw : W ≤ 128
          · obtain ⟨n1, n2⟩ := need_at (k := 1) (by omega) (by omega) HB.out (by omega)
            obtain rfl : 1 = N := n1.symm.trans HN.out
            obtain rfl : (0 : Int) = E := (if_pos n2).symm.trans HE.out
            clear n1 n2
            go_wp2_with fail
            go_ret2
            exact ⟨rfl, rfl⟩
          · go_wp2_with fail
            go_roundw
            case rel => exact ⟨2, by omega, by omega, by go_num, fun j h1 h2 => by
              by_cases e : j = 1
              · rw [e]; omega
              · exact HB.out j h1 (by omega), by first | trivial | rfl⟩
            case measure => simp only [intOf]; omega
        · by_cases hw : W ≤ 32768
          · obtain ⟨n1, n2⟩ := need_at (k := 2) (by omega) (by omega) HB.out (by omega)
            obtain rfl : 2 = N := n1.symm.trans HN.out
            obtain rfl : (0 : Int) = E := (if_pos n2).symm.trans HE.out
            clear n1 n2
            go_wp2_with fail
            go_ret2
            exact ⟨rfl, rfl⟩
          · go_wp2_with fail
            go_roundw
            case rel => exact ⟨3, by omega, by omega, by go_num, fun j h1 h2 => by
              by_cases e : j = 2
              · rw [e]; omega
              · exact HB.out j h1 (by omega), by first | trivial | rfl⟩
            case measure => simp only [intOf]; omega
        · by_cases hw : W ≤ 8388608
          · obtain ⟨n1, n2⟩ := need_at (k := 3) (by omega) (by omega) HB.out (by omega)
            obtain rfl : 3 = N := n1.symm.trans HN.out
            obtain rfl : (0 : Int) = E := (if_pos n2).symm.trans HE.out
            clear n1 n2
            go_wp2_with fail
            go_ret2
            exact ⟨rfl, rfl⟩
          · go_wp2_with fail
            go_roundw
            case rel => exact ⟨4, by omega, by omega, by go_num, fun j h1 h2 => by
              by_cases e : j = 3
              · rw [e]; omega
              · exact HB.out j h1 (by omega), by first | trivial | rfl⟩
            case measure => simp only [intOf]; omega
        · by_cases hw : W ≤ 2147483648
          · obtain ⟨n1, n2⟩ := need_at (k := 4) (by omega) (by omega) HB.out (by omega)
            obtain rfl : 4 = N := n1.symm.trans HN.out
            obtain rfl : (0 : Int) = E := (if_pos n2).symm.trans HE.out
            clear n1 n2
            go_wp2_with fail
            go_ret2
            exact ⟨rfl, rfl⟩
          · go_wp2_with fail
            go_roundw
            case rel => exact ⟨5, by omega, by omega, by go_num, fun j h1 h2 => by
              by_cases e : j = 4
              · rw [e]; omega
              · exact HB.out j h1 (by omega), by first | trivial | rfl⟩
            case measure => simp only [intOf]; omega
        · obtain ⟨n1, n2⟩ := need_no HB.out
          obtain rfl : 0 = N := n1.symm.trans HN.out
          obtain rfl : (3 : Int) = E := (if_neg n2).symm.trans HE.out
          clear n1 n2
          go_wp2_with fail
          go_ret2
          exact ⟨rfl, rfl⟩
end Go.Proofs.YtcfmpkolcelnlaaGreatDoor

/-! Which number so many bytes tell: the document's Long. -/
namespace Go.Proofs.YtcfmpkolcelnlaaGreatDoor
open Go Go.RowKit

set_option maxRecDepth 20000 in
set_option maxHeartbeats 1000000 in
theorem refLong_bad (t : Nat) (n a : Int) (w : World) (h : ¬ longOk t n a) :
    Calls Tryz.prog 11 #[.int .u64 (t : Int), .int .i64 n, .int .i64 a] w fun e w' => e = .returned (.tuple #[.int .u64 0, .int .i64 1]) ∧ w' = w := by
  by_cases hn1 : n < 1
  · clear h
    go_enter Tryz.func11, Tryz.ntmps11
    go_wp2_with fail
    go_ret2
    exact ⟨rfl, rfl⟩
  · by_cases hn4 : 4 < n
    · clear h
      go_enter Tryz.func11, Tryz.ntmps11
      go_wp2_with fail
      go_ret2
      exact ⟨rfl, rfl⟩
    · have hk : n = 1 ∨ n = 2 ∨ n = 3 ∨ n = 4 := by omega
      clear hn1 hn4
      rcases hk with rfl | rfl | rfl | rfl
      · have h' : 256 ≤ t ∨ 4611686018427387903 < a := by
          unfold longOk at h
          rw [show (256 : Nat) ^ (1 : Int).toNat = 256 from rfl] at h
          omega
        clear h
        by_cases hr' : 256 ≤ t
        · have hr : (256 : Int) ≤ (t : Int) := by omega
          clear hr' h'
          go_enter Tryz.func11, Tryz.ntmps11
          go_wp2_with fail
          go_ret2
          exact ⟨rfl, rfl⟩
        · have ha : 4611686018427387903 < a := by omega
          have hr : (t : Int) < 256 := by omega
          clear h' hr'
          go_enter Tryz.func11, Tryz.ntmps11
          go_wp2_with fail
          go_ret2
          exact ⟨rfl, rfl⟩
      · have h' : 65536 ≤ t ∨ 4611686018427387903 < a := by
          unfold longOk at h
          rw [show (256 : Nat) ^ (2 : Int).toNat = 65536 from rfl] at h
          omega
        clear h
        by_cases hr' : 65536 ≤ t
        · have hr : (65536 : Int) ≤ (t : Int) := by omega
          clear hr' h'
          go_enter Tryz.func11, Tryz.ntmps11
          go_wp2_with fail
          go_ret2
          exact ⟨rfl, rfl⟩
        · have ha : 4611686018427387903 < a := by omega
          have hr : (t : Int) < 65536 := by omega
          clear h' hr'
          go_enter Tryz.func11, Tryz.ntmps11
          go_wp2_with fail
          go_ret2
          exact ⟨rfl, rfl⟩
      · have h' : 16777216 ≤ t ∨ 4611686018427387903 < a := by
          unfold longOk at h
          rw [show (256 : Nat) ^ (3 : Int).toNat = 16777216 from rfl] at h
          omega
        clear h
        by_cases hr' : 16777216 ≤ t
        · have hr : (16777216 : Int) ≤ (t : Int) := by omega
          clear hr' h'
          go_enter Tryz.func11, Tryz.ntmps11
          go_wp2_with fail
          go_ret2
          exact ⟨rfl, rfl⟩
        · have ha : 4611686018427387903 < a := by omega
          have hr : (t : Int) < 16777216 := by omega
          clear h' hr'
          go_enter Tryz.func11, Tryz.ntmps11
          go_wp2_with fail
          go_ret2
          exact ⟨rfl, rfl⟩
      · have h' : 4294967296 ≤ t ∨ 4611686018427387903 < a := by
          unfold longOk at h
          rw [show (256 : Nat) ^ (4 : Int).toNat = 4294967296 from rfl] at h
          omega
        clear h
        by_cases hr' : 4294967296 ≤ t
        · have hr : (4294967296 : Int) ≤ (t : Int) := by omega
          clear hr' h'
          go_enter Tryz.func11, Tryz.ntmps11
          go_wp2_with fail
          go_ret2
          exact ⟨rfl, rfl⟩
        · have ha : 4611686018427387903 < a := by omega
          have hr : (t : Int) < 4294967296 := by omega
          clear h' hr'
          go_enter Tryz.func11, Tryz.ntmps11
          go_wp2_with fail
          go_ret2
          exact ⟨rfl, rfl⟩

theorem ret_two {x y : Int} {v : Value} (h : x = y) : Ending.returned (.tuple #[.int .u64 x, v]) = Ending.returned (.tuple #[.int .u64 y, v]) := by rw [h]

set_option maxRecDepth 20000 in
set_option maxHeartbeats 1000000 in
theorem refLong_n (t k : Nat) (a : Int) (B N X : Nat) (E : Int) (w : World) (hk1 : 1 ≤ k) (hk4 : k ≤ 4) (ht : t < 256 ^ k) (ha : a < 0) (hB : B = 0)
    (hX : longC t (256 ^ k) B = X) (hl1 : 4611686018427387903 < X → N = 0 ∧ E = 3) (hl2 : X ≤ 4611686018427387903 → N = X ∧ E = 0) :
    Calls Tryz.prog 11 #[.int .u64 (t : Int), .int .i64 (k : Int), .int .i64 a] w fun e w' => e = .returned (.tuple #[.int .u64 (N : Int), .int .i64 E]) ∧ w' = w := by
  obtain ⟨T8, hT⟩ : ∃ T8 : Nat, 8 * k = T8 := ⟨_, rfl⟩
  have hmul : (8 : Int) * (k : Int) = (T8 : Int) := by omega
  have h64 : T8 < 64 := by omega
  have hR : 256 ^ k ≤ 4294967296 := pow_more (m := 4) (by omega)
  have hR1 : 256 ≤ 256 ^ k := by have := pow_more (n := 1) (m := k) (by omega); simpa using this
  have hshl : IntKind.u64.wrap (2 ^ T8) = ((256 ^ k : Nat) : Int) := by
    have e : ((2 : Int) ^ T8) = ((256 ^ k : Nat) : Int) := by
      rw [← hT, Int.pow_mul]
      simp
    rw [e]
    show ((_ : Nat) : Int) % (18446744073709551616 : Int) = _
    exact Int.emod_eq_of_lt (by omega) (by omega)
  have hk1d : decide ((k : Int) < 1) = false := decide_eq_false (by omega)
  have hk4d : decide ((4 : Int) < (k : Int)) = false := decide_eq_false (by omega)
  have hsg : decide (0 ≤ a) = false := decide_eq_false (by omega)
  subst hB
  unfold longC at hX
  rw [Nat.zero_div, Nat.zero_mul, Nat.zero_add] at hX
  generalize 256 ^ k = R at *
  obtain ⟨H, hH⟩ : ∃ H, R / 2 = H := ⟨_, rfl⟩
  have hdiv : (R : Int) / 2 = (H : Int) := by omega
  rw [hH] at hX
  have hrt : decide (R ≤ t) = false := decide_eq_false (by omega)
  have HX := veil hX
  have HL1 := veil hl1
  have HL2 := veil hl2
  clear hl1 hl2 hX hH hT
  go_enter Tryz.func11, Tryz.ntmps11
  go_wp2_with fail
  all_goals
    go_ret2
    have hx := HX.out
    have hl1 := HL1.out
    have hl2 := HL2.out
    refine ⟨?_, rfl⟩
    rcases Nat.lt_or_ge 4611686018427387903 X with c | c
    · obtain ⟨rfl, rfl⟩ := hl1 c
      clear hl1 hl2
      split at hx
      · first | rfl | (exfalso; omega)
      · split at hx
        · first | rfl | (exfalso; omega)
        · first | rfl | (exfalso; omega)
    · obtain ⟨rfl, rfl⟩ := hl2 c
      clear hl1 hl2
      split at hx
      · first | (exfalso; omega) | exact ret_two (by omega)
      · split at hx
        · first | (exfalso; omega) | exact ret_two (by omega)
        · first | (exfalso; omega) | exact ret_two (by omega)

set_option maxRecDepth 20000 in
set_option maxHeartbeats 1000000 in
theorem refLong_p (t k : Nat) (a : Int) (B N X : Nat) (E : Int) (w : World) (hk1 : 1 ≤ k) (hk4 : k ≤ 4) (ht : t < 256 ^ k) (ha : 0 ≤ a) (hB : (B : Int) = a + 1) (hac : a ≤ 4611686018427387903)
    (hX : longC t (256 ^ k) B = X) (hl1 : 4611686018427387903 < X → N = 0 ∧ E = 3) (hl2 : X ≤ 4611686018427387903 → N = X ∧ E = 0) :
    Calls Tryz.prog 11 #[.int .u64 (t : Int), .int .i64 (k : Int), .int .i64 a] w fun e w' => e = .returned (.tuple #[.int .u64 (N : Int), .int .i64 E]) ∧ w' = w := by
  obtain ⟨T8, hT⟩ : ∃ T8 : Nat, 8 * k = T8 := ⟨_, rfl⟩
  have hmul : (8 : Int) * (k : Int) = (T8 : Int) := by omega
  have h64 : T8 < 64 := by omega
  have hR : 256 ^ k ≤ 4294967296 := pow_more (m := 4) (by omega)
  have hR1 : 256 ≤ 256 ^ k := by have := pow_more (n := 1) (m := k) (by omega); simpa using this
  have hshl : IntKind.u64.wrap (2 ^ T8) = ((256 ^ k : Nat) : Int) := by
    have e : ((2 : Int) ^ T8) = ((256 ^ k : Nat) : Int) := by
      rw [← hT, Int.pow_mul]
      simp
    rw [e]
    show ((_ : Nat) : Int) % (18446744073709551616 : Int) = _
    exact Int.emod_eq_of_lt (by omega) (by omega)
  have hk1d : decide ((k : Int) < 1) = false := decide_eq_false (by omega)
  have hk4d : decide ((4 : Int) < (k : Int)) = false := decide_eq_false (by omega)
  obtain ⟨m, rfl⟩ : ∃ m : Nat, a = m := ⟨a.toNat, by omega⟩
  obtain rfl : B = m + 1 := by omega
  have hQle : (m + 1) / 256 ^ k * 256 ^ k ≤ m + 1 := Nat.div_mul_le_self _ _
  have hq : ((m : Int) + 1) / ((256 ^ k : Nat) : Int) * ((256 ^ k : Nat) : Int) = (((m + 1) / 256 ^ k * 256 ^ k : Nat) : Int) := by
    rw [Int.natCast_mul, Int.natCast_ediv]
    rfl
  unfold longC at hX
  generalize (m + 1) / 256 ^ k * 256 ^ k = Q at *
  generalize 256 ^ k = R at *
  obtain ⟨H, hH⟩ : ∃ H, R / 2 = H := ⟨_, rfl⟩
  have hdiv : (R : Int) / 2 = (H : Int) := by omega
  rw [hH] at hX
  have hrt : decide (R ≤ t) = false := decide_eq_false (by omega)
  have HX := veil hX
  have HL1 := veil hl1
  have HL2 := veil hl2
  clear hl1 hl2 hX hH hT
  go_enter Tryz.func11, Tryz.ntmps11
  go_wp2_with fail
  all_goals
    go_ret2
    have hx := HX.out
    have hl1 := HL1.out
    have hl2 := HL2.out
    refine ⟨?_, rfl⟩
    rcases Nat.lt_or_ge 4611686018427387903 X with c | c
    · obtain ⟨rfl, rfl⟩ := hl1 c
      clear hl1 hl2
      split at hx
      · first | rfl | (exfalso; omega)
      · split at hx
        · first | rfl | (exfalso; omega)
        · first | rfl | (exfalso; omega)
    · obtain ⟨rfl, rfl⟩ := hl2 c
      clear hl1 hl2
      split at hx
      · first | (exfalso; omega) | exact ret_two (by omega)
      · split at hx
        · first | (exfalso; omega) | exact ret_two (by omega)
        · first | (exfalso; omega) | exact ret_two (by omega)

theorem refLong_any (t : Nat) (n a : Int) (w : World) :
    Calls Tryz.prog 11 #[.int .u64 (t : Int), .int .i64 n, .int .i64 a] w fun e w' => e = .returned (.tuple #[.int .u64 (longN t n a : Int), .int .i64 (longE t n a)]) ∧ w' = w := by
  by_cases h : longOk t n a
  · have hl1 := long_far h
    have hl2 := long_fine h
    unfold longOk at h
    obtain ⟨⟨hn1, hn4⟩, htw, hac⟩ := h
    obtain ⟨k, rfl⟩ : ∃ k : Nat, n = k := ⟨n.toNat, by omega⟩
    rw [Int.toNat_natCast] at htw
    by_cases ha : a < 0
    · have hB : behindN a = 0 := by unfold behindN; rw [if_pos ha]
      exact refLong_n t k a _ _ _ _ w (by omega) (by omega) htw ha hB rfl hl1 hl2
    · have hB : ((behindN a : Nat) : Int) = a + 1 := by unfold behindN; rw [if_neg ha]; omega
      exact refLong_p t k a _ _ _ _ w (by omega) (by omega) htw (by omega) hB hac rfl hl1 hl2
  · obtain ⟨e1, e2⟩ := long_arg h
    rw [e1, e2]
    exact refLong_bad t n a w h
end Go.Proofs.YtcfmpkolcelnlaaGreatDoor

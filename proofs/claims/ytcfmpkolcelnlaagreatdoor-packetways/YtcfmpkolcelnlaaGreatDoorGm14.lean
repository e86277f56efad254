/-
  Out of ShaMul, ShaRoots.
-/
import Derived.Test.YtcfmpkolcelnlaaGreatDoorRows
import Derived.WalkKit
import Derived.WalkSpells
import Derived.WalkLawsBesides
import Derived.Laws.MathBits
import Derived.Test.YtcfmpkolcelnlaaGreatDoorGm1

/-! What math/bits.Mul64, sha.cube and sha.isAbove answer. -/
namespace Go.Proofs.YtcfmpkolcelnlaaGreatDoor
open Go Go.RowKit

theorem tup2u {a b a' b' : Int} (h1 : a = a') (h2 : b = b') : Ending.returned (.tuple #[.int .u64 a, .int .u64 b]) = .returned (.tuple #[.int .u64 a', .int .u64 b']) := by rw [h1, h2]
theorem mul64_eq (x y : Int) (hx0 : 0 ≤ x) (hx : x < 18446744073709551616) (hy0 : 0 ≤ y) (hy : y < 18446744073709551616) :
    IntKind.u64.wrap (IntKind.u64.wrap (IntKind.u64.wrap (x / 4294967296 * (y / 4294967296)) + IntKind.u64.wrap (IntKind.u64.wrap (x / 4294967296 * (y % 4294967296)) + IntKind.u64.wrap (x % 4294967296 * (y % 4294967296)) / 4294967296) / 4294967296) +
      IntKind.u64.wrap (bits BinOp.and IntKind.u64 (IntKind.u64.wrap (IntKind.u64.wrap (x / 4294967296 * (y % 4294967296)) + IntKind.u64.wrap (x % 4294967296 * (y % 4294967296)) / 4294967296)) 4294967295 + IntKind.u64.wrap (x % 4294967296 * (y / 4294967296))) / 4294967296) = x * y / 18446744073709551616 := by
  simp only [IntKind.wrap_u64]
  rw [and_low32 _ (by omega) (by omega)]
  exact mul64_arith x y hx0 hx hy0 hy

set_option maxHeartbeats 400000 in
theorem mul64_any (x y : Int) (w : World) (hx0 : 0 ≤ x) (hx : x < 18446744073709551616) (hy0 : 0 ≤ y) (hy : y < 18446744073709551616) :
    Calls Tryz.prog 227 #[.int .u64 x, .int .u64 y] w fun e w' => e = .returned (.tuple #[.int .u64 (x * y / 18446744073709551616), .int .u64 (x * y % 18446744073709551616)]) ∧ w' = w := by
  have hmask := and_low32
  go_enter Tryz.func227, Tryz.ntmps227
  go_wp2
  go_ret2
  exact ⟨tup2u (mul64_eq x y hx0 hx hy0 hy) (IntKind.wrap_u64 _), rfl⟩

/-- A cube, by its higher and its lower 64 bits. -/
theorem cube_arith (x : Int) (h0 : 0 ≤ x) (h1 : x ≤ 34359738368) :
    (IntKind.u64.wrap (x * x / 18446744073709551616 * x) + (x * x % 18446744073709551616) * x / 18446744073709551616 = x * x * x / 18446744073709551616) ∧ (x * x % 18446744073709551616) * x % 18446744073709551616 = x * x * x % 18446744073709551616 ∧ 0 ≤ x * x * x / 18446744073709551616 ∧ x * x * x / 18446744073709551616 < 18446744073709551616 := by
  have b1 : x * x ≤ 34359738368 * 34359738368 := Int.mul_le_mul h1 h1 h0 (by omega)
  have b0 : 0 ≤ x * x := Int.mul_nonneg h0 h0
  have c1 : x * x * x ≤ 34359738368 * 34359738368 * 34359738368 := Int.mul_le_mul b1 h1 h0 (by omega)
  have c0 : 0 ≤ x * x * x := Int.mul_nonneg b0 h0
  have hq0 : 0 ≤ x * x / 18446744073709551616 := by omega
  have hq1 : x * x / 18446744073709551616 ≤ 64 := by omega
  have e : x * x * x = (x * x / 18446744073709551616 * x) * 18446744073709551616 + (x * x % 18446744073709551616) * x := by
    have aux : ∀ q r : Int, x * x = q * 18446744073709551616 + r → x * x * x = q * x * 18446744073709551616 + r * x := fun q r h => by rw [h, Int.add_mul, Int.mul_right_comm]
    exact aux _ _ (by omega)
  have d1 : x * x / 18446744073709551616 * x ≤ 64 * 34359738368 := Int.mul_le_mul hq1 h1 h0 (by omega)
  have d0 : 0 ≤ x * x / 18446744073709551616 * x := Int.mul_nonneg hq0 h0
  rw [IntKind.wrap_u64]
  generalize x * x / 18446744073709551616 * x = A at *
  generalize x * x % 18446744073709551616 * x = B at *
  generalize x * x * x = C at *
  omega

set_option maxHeartbeats 400000 in
theorem cube_any (x : Int) (w : World) (h0 : 0 ≤ x) (h1 : x ≤ 34359738368) :
    Calls Tryz.prog 224 #[.int .u64 x] w fun e w' => e = .returned (.tuple #[.int .u64 (x * x * x / 18446744073709551616), .int .u64 (x * x * x % 18446744073709551616)]) ∧ w' = w := by
  obtain ⟨e1, e2, e3, e4⟩ := cube_arith x h0 h1
  have E2 : Hid ((x * x % 18446744073709551616) * x % 18446744073709551616 = x * x * x % 18446744073709551616) := e2
  have E1 : Hid (IntKind.u64.wrap (IntKind.u64.wrap (x * x / 18446744073709551616 * x) + (x * x % 18446744073709551616) * x / 18446744073709551616) = x * x * x / 18446744073709551616) := show IntKind.u64.wrap _ = _ by rw [e1, IntKind.wrap_u64]; omega
  clear e1 e2 e3 e4
  go_enter Tryz.func224, Tryz.ntmps224
  go_wp2_with fail
  refine (mul64_any x x _ (by omega) (by omega) (by omega) (by omega)).mono ?_
  rintro r w1 ⟨rfl, hw⟩
  rw [hw]; clear hw
  go_wp2_with fail
  refine (mul64_any (x * x % 18446744073709551616) x _ (by omega) (by omega) (by omega) (by omega)).mono ?_
  rintro r w1 ⟨rfl, hw⟩
  rw [hw]; clear hw
  go_wp2
  go_ret2
  exact ⟨tup2u E1.out E2.out, rfl⟩

/-- Is the number of 128 bits above n with 64 bits 0 behind it? -/
def aboveB (h l n : Int) : Bool := decide (n < h ∨ h = n ∧ 0 < l)
theorem aboveB_iff (c n : Int) (_h0 : 0 ≤ c) : aboveB (c / 18446744073709551616) (c % 18446744073709551616) n = decide (n * 18446744073709551616 < c) := by
  unfold aboveB
  congr 1
  apply propext
  omega

set_option maxHeartbeats 400000 in
theorem isAbove_any (h l n : Int) (w : World) (hl : 0 ≤ l) :
    Calls Tryz.prog 225 #[.int .u64 h, .int .u64 l, .int .u64 n] w fun e w' => e = .returned (.bool (aboveB h l n)) ∧ w' = w := by
  by_cases h1 : n < h
  · have hd : decide (n < h) = true := decide_eq_true h1
    have he : aboveB h l n = true := decide_eq_true (.inl h1)
    rw [he]
    clear he
    go_enter Tryz.func225, Tryz.ntmps225
    go_wp2
    go_ret
    exact ⟨rfl, rfl⟩
  · have hd : decide (n < h) = false := decide_eq_false h1
    by_cases h2 : h = n
    · subst h2
      by_cases h3 : 0 < l
      · have he : aboveB h l h = true := decide_eq_true (.inr ⟨rfl, h3⟩)
        have hd3 : decide (0 < l) = true := decide_eq_true h3
        rw [he]
        clear he
        go_enter Tryz.func225, Tryz.ntmps225
        go_wp2
        go_ret
        exact ⟨rfl, rfl⟩
      · have he : aboveB h l h = false := decide_eq_false (by omega)
        have hd3 : decide (0 < l) = false := decide_eq_false h3
        rw [he]
        clear he
        go_enter Tryz.func225, Tryz.ntmps225
        go_wp2
        go_ret
        exact ⟨rfl, rfl⟩
    · have he : aboveB h l n = false := decide_eq_false (by omega)
      have hb : (h == n) = false := by simp [h2]
      rw [he]
      clear he
      go_enter Tryz.func225, Tryz.ntmps225
      go_wp2
      go_ret
      exact ⟨rfl, rfl⟩
end Go.Proofs.YtcfmpkolcelnlaaGreatDoor

/-! What sha.greatest finds, by either closure: the greatest number that is not too great. -/
namespace Go.Proofs.YtcfmpkolcelnlaaGreatDoor
open Go Go.RowKit

/-- Is x above the cube root of p, both with 32 bits behind the point; above its square root? -/
def tooC (p x : Int) : Bool := decide (p * 79228162514264337593543950336 < x * x * x)
def tooS (p x : Int) : Bool := decide (p * 18446744073709551616 < x * x)
theorem tooC_eq (p x : Int) (h0 : 0 ≤ x) : aboveB (x * x * x / 18446744073709551616) (x * x * x % 18446744073709551616) (p * 4294967296) = tooC p x := by
  rw [aboveB_iff _ _ (Int.mul_nonneg (Int.mul_nonneg h0 h0) h0)]
  unfold tooC
  congr 1
  apply propext
  omega
theorem tooS_eq (p x : Int) (h0 : 0 ≤ x) : aboveB (x * x / 18446744073709551616) (x * x % 18446744073709551616) p = tooS p x := by
  rw [aboveB_iff _ _ (Int.mul_nonneg h0 h0)]
  rfl

set_option maxHeartbeats 400000 in
theorem cubeClosure_any (p x : Int) (g : Nat) (w : World) (h0 : 0 ≤ x) (h1 : x ≤ 34359738368) (hp0 : 0 ≤ p) (hp : p ≤ 1000) (hc : w.cell? ⟨g, 0, none⟩ = some (.int .u64 p)) :
    Calls Tryz.prog 223 #[.int .u64 x, .pointer (some ⟨g, 0, none⟩)] w fun e w' => e = .returned (.bool (tooC p x)) ∧ w' = w := by
  have HT : Hid (aboveB (x * x * x / 18446744073709551616) (x * x * x % 18446744073709551616) (p * 4294967296) = tooC p x) := tooC_eq p x h0
  go_enter Tryz.func223, Tryz.ntmps223
  go_wp2_with fail
  refine (cube_any x _ h0 h1).mono ?_
  rintro r w1 ⟨rfl, hw⟩
  rw [hw]; clear hw
  go_wp2_with fail
  refine (isAbove_any (x * x * x / 18446744073709551616) (x * x * x % 18446744073709551616) (p * 4294967296) _ (by omega)).mono ?_
  rintro r w1 ⟨rfl, hw⟩
  rw [hw, HT.out]; clear hw
  go_wp2
  go_ret
  exact ⟨rfl, rfl⟩

set_option maxHeartbeats 400000 in
theorem squareClosure_any (xs : List Nat) (i : Nat) (x : Int) (g g' : Nat) (w : World) (h0 : 0 ≤ x) (h1 : x ≤ 34359738368) (hi : i < 64) (hl : xs.length = 64) (hr : Row w g 299 (ns xs)) (hc : w.cell? ⟨g', 0, none⟩ = some (.int .i64 (i : Int))) :
    Calls Tryz.prog 226 #[.int .u64 x, .pointer (some ⟨g, 0, none⟩), .pointer (some ⟨g', 0, none⟩)] w fun e w' => e = .returned (.bool (tooS (gn xs i : Int) x)) ∧ w' = w := by
  have HT : Hid (aboveB (x * x / 18446744073709551616) (x * x % 18446744073709551616) (gn xs i : Int) = tooS (gn xs i : Int) x) := tooS_eq _ x h0
  have hcx := hr.cellN (j := i) (by rw [hl]; exact hi)
  clear hl
  generalize (gn xs i : Int) = p at *
  go_enter Tryz.func226, Tryz.ntmps226
  go_wp2_with fail
  refine (mul64_any x x _ (by omega) (by omega) (by omega) (by omega)).mono ?_
  rintro r w1 ⟨rfl, hw⟩
  rw [hw]; clear hw
  go_wp2_with fail
  refine (isAbove_any (x * x / 18446744073709551616) (x * x % 18446744073709551616) p _ (by omega)).mono ?_
  rintro r w1 ⟨rfl, hw⟩
  rw [hw, HT.out]; clear hw
  go_wp2
  go_ret
  exact ⟨rfl, rfl⟩

theorem hide {p : Prop} (h : p) : Hid p := h

set_option maxHeartbeats 400000 in
theorem greatestC (p : Int) (g : Nat) (w : World) (hp0 : 0 ≤ p) (hp : p ≤ 1000) (hc : w.cell? ⟨g, 0, none⟩ = some (.int .u64 p)) (hT0 : (tooC p) 0 = false) (hT1 : (tooC p) 34359738368 = true) :
    Calls Tryz.prog 222 #[.func (.func 223) #[] #[.pointer (some ⟨g, 0, none⟩)]] w fun e w' => ∃ r : Int, e = .returned (.int .u64 r) ∧ 0 ≤ r ∧ r < 34359738368 ∧ (tooC p) r = false ∧ (tooC p) (r + 1) = true ∧ w' = w := by
  have HC : Hid (∀ x : Int, 0 ≤ x → x ≤ 34359738368 → Calls Tryz.prog 223 (#[.int .u64 x] ++ #[.pointer (some ⟨g, 0, none⟩)]) w fun e w' => e = .returned (.bool ((tooC p) x)) ∧ w' = w) := fun x h0 h1 => cubeClosure_any p x g w h0 h1 hp0 hp hc
  have H0 : Hid ((tooC p) 0 = false) := hT0
  have H1 : Hid ((tooC p) 34359738368 = true) := hT1
  generalize (tooC p) = T at *
  clear hT0 hT1
  go_enter Tryz.func222, Tryz.ntmps222
  go_wp2
  go_loop [3, 4] (fun a b => ∃ f t : Int, a = .int .u64 f ∧ b = .int .u64 t ∧ 0 ≤ f ∧ f < t ∧ t ≤ 34359738368 ∧ Hid (T f = false) ∧ Hid (T t = true)) (fun a b => (intOf b - intOf a).toNat)
  case atStart => exact ⟨0, 34359738368, rfl, rfl, by omega, by omega, by omega, H0, H1⟩
  case round =>
    obtain ⟨f, t, rfl, rfl, hf0, hft, ht, Hf, Ht⟩ := hrel
    by_cases hgt : 1 < t - f
    · have HM := HC.out (f + (t - f) / 2) (by omega) (by omega)
      simp only [List.append_toArray, List.cons_append, List.nil_append] at HM
      cases hb : T (f + (t - f) / 2) with
      | false =>
        have HF : Hid (T (f + (t - f) / 2) = false) := hb
        rw [hb] at HM
        have HM' := hide HM
        clear hb HM
        go_wp2_with fail
        refine HM'.out.mono ?_
        rintro r w1 ⟨rfl, hw⟩
        rw [hw]; clear hw
        go_wp2
        go_round
        case rel => exact ⟨f + (t - f) / 2, t, rfl, rfl, by omega, by omega, ht, HF, Ht⟩
        case measure => simp [intOf]; omega
      | true =>
        have HF : Hid (T (f + (t - f) / 2) = true) := hb
        rw [hb] at HM
        have HM' := hide HM
        clear hb HM
        go_wp2_with fail
        refine HM'.out.mono ?_
        rintro r w1 ⟨rfl, hw⟩
        rw [hw]; clear hw
        go_wp2
        go_round
        case rel => exact ⟨f, f + (t - f) / 2, rfl, rfl, hf0, by omega, by omega, Hf, HF⟩
        case measure => simp [intOf]; omega
    · have ht1 : Hid (t = f + 1) := show t = f + 1 by omega
      go_wp2
      go_ret
      exact ⟨f, rfl, hf0, by omega, Hf.out, by rw [← ht1.out]; exact Ht.out, rfl⟩

set_option maxHeartbeats 400000 in
theorem greatestS (xs : List Nat) (i g g' : Nat) (w : World) (hi : i < 64) (hl : xs.length = 64) (hr : Row w g 299 (ns xs)) (hc : w.cell? ⟨g', 0, none⟩ = some (.int .i64 (i : Int))) (hT0 : (tooS (gn xs i : Int)) 0 = false) (hT1 : (tooS (gn xs i : Int)) 34359738368 = true) :
    Calls Tryz.prog 222 #[.func (.func 226) #[] #[.pointer (some ⟨g, 0, none⟩), .pointer (some ⟨g', 0, none⟩)]] w fun e w' => ∃ r : Int, e = .returned (.int .u64 r) ∧ 0 ≤ r ∧ r < 34359738368 ∧ (tooS (gn xs i : Int)) r = false ∧ (tooS (gn xs i : Int)) (r + 1) = true ∧ w' = w := by
  have HC : Hid (∀ x : Int, 0 ≤ x → x ≤ 34359738368 → Calls Tryz.prog 226 (#[.int .u64 x] ++ #[.pointer (some ⟨g, 0, none⟩), .pointer (some ⟨g', 0, none⟩)]) w fun e w' => e = .returned (.bool ((tooS (gn xs i : Int)) x)) ∧ w' = w) := fun x h0 h1 => squareClosure_any xs i x g g' w h0 h1 hi hl hr hc
  have H0 : Hid ((tooS (gn xs i : Int)) 0 = false) := hT0
  have H1 : Hid ((tooS (gn xs i : Int)) 34359738368 = true) := hT1
  generalize (tooS (gn xs i : Int)) = T at *
  clear hT0 hT1
  go_enter Tryz.func222, Tryz.ntmps222
  go_wp2
  go_loop [3, 4] (fun a b => ∃ f t : Int, a = .int .u64 f ∧ b = .int .u64 t ∧ 0 ≤ f ∧ f < t ∧ t ≤ 34359738368 ∧ Hid (T f = false) ∧ Hid (T t = true)) (fun a b => (intOf b - intOf a).toNat)
  case atStart => exact ⟨0, 34359738368, rfl, rfl, by omega, by omega, by omega, H0, H1⟩
  case round =>
    obtain ⟨f, t, rfl, rfl, hf0, hft, ht, Hf, Ht⟩ := hrel
    by_cases hgt : 1 < t - f
    · have HM := HC.out (f + (t - f) / 2) (by omega) (by omega)
      simp only [List.append_toArray, List.cons_append, List.nil_append] at HM
      cases hb : T (f + (t - f) / 2) with
      | false =>
        have HF : Hid (T (f + (t - f) / 2) = false) := hb
        rw [hb] at HM
        have HM' := hide HM
        clear hb HM
        go_wp2_with fail
        refine HM'.out.mono ?_
        rintro r w1 ⟨rfl, hw⟩
        rw [hw]; clear hw
        go_wp2
        go_round
        case rel => exact ⟨f + (t - f) / 2, t, rfl, rfl, by omega, by omega, ht, HF, Ht⟩
        case measure => simp [intOf]; omega
      | true =>
        have HF : Hid (T (f + (t - f) / 2) = true) := hb
        rw [hb] at HM
        have HM' := hide HM
        clear hb HM
        go_wp2_with fail
        refine HM'.out.mono ?_
        rintro r w1 ⟨rfl, hw⟩
        rw [hw]; clear hw
        go_wp2
        go_round
        case rel => exact ⟨f, f + (t - f) / 2, rfl, rfl, hf0, by omega, by omega, Hf, HF⟩
        case measure => simp [intOf]; omega
    · have ht1 : Hid (t = f + 1) := show t = f + 1 by omega
      go_wp2
      go_ret
      exact ⟨f, rfl, hf0, by omega, Hf.out, by rw [← ht1.out]; exact Ht.out, rfl⟩
end Go.Proofs.YtcfmpkolcelnlaaGreatDoor

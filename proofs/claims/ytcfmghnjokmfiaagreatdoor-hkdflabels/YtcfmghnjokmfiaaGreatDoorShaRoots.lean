/-
  What sha.greatest finds, by either closure: the greatest number that is not too great.
-/
import Derived.Test.YtcfmghnjokmfiaaGreatDoorShaMul
import Derived.Test.YtcfmghnjokmfiaaGreatDoorShaArr
namespace Go.Proofs.YtcfmghnjokmfiaaGreatDoor
open Go Go.RowKit

/-- Is x above the cube root of p, both with 32 bits behind the point; above its square root? -/
def tooC (p x : Int) : Bool := decide (p * 79228162514264337593543950336 < x * x * x)
def tooS (p x : Int) : Bool := decide (p * 18446744073709551616 < x * x)
theorem tooC_eq (p x : Int) (h0 : 0 ≤ x) : aboveB (x * x * x / 18446744073709551616) (x * x * x % 18446744073709551616) (p * 4294967296) = tooC p x := by
  rw [aboveB_iff _ _ (Int.mul_nonneg (Int.mul_nonneg h0 h0) h0)]
  unfold tooC
  congr 1
  apply propext
  omega
theorem tooS_eq (p x : Int) (h0 : 0 ≤ x) : aboveB (x * x / 18446744073709551616) (x * x % 18446744073709551616) p = tooS p x := by
  rw [aboveB_iff _ _ (Int.mul_nonneg h0 h0)]
  rfl

set_option maxHeartbeats 400000 in
theorem cubeClosure_any (p x : Int) (g : Nat) (w : World) (h0 : 0 ≤ x) (h1 : x ≤ 34359738368) (hp0 : 0 ≤ p) (hp : p ≤ 1000) (hc : w.cell? ⟨g, 0, none⟩ = some (.int .u64 p)) :
    Calls Tryz.prog 104 #[.int .u64 x, .pointer (some ⟨g, 0, none⟩)] w fun e w' => e = .returned (.bool (tooC p x)) ∧ w' = w := by
  have HT : Hid (aboveB (x * x * x / 18446744073709551616) (x * x * x % 18446744073709551616) (p * 4294967296) = tooC p x) := tooC_eq p x h0
  go_enter Tryz.func104, Tryz.ntmps104
  go_wp2_with fail
  refine (cube_any x _ h0 h1).mono ?_
  rintro r w1 ⟨rfl, hw⟩
  rw [hw]; clear hw
  go_wp2_with fail
  refine (isAbove_any (x * x * x / 18446744073709551616) (x * x * x % 18446744073709551616) (p * 4294967296) _ (by omega)).mono ?_
  rintro r w1 ⟨rfl, hw⟩
  rw [hw, HT.out]; clear hw
  go_wp2
  go_ret
  exact ⟨rfl, rfl⟩

set_option maxHeartbeats 400000 in
theorem squareClosure_any (xs : List Nat) (i : Nat) (x : Int) (g g' : Nat) (w : World) (h0 : 0 ≤ x) (h1 : x ≤ 34359738368) (hi : i < 64) (hl : xs.length = 64) (hr : Row w g 160 (ns xs)) (hc : w.cell? ⟨g', 0, none⟩ = some (.int .i64 (i : Int))) :
    Calls Tryz.prog 107 #[.int .u64 x, .pointer (some ⟨g, 0, none⟩), .pointer (some ⟨g', 0, none⟩)] w fun e w' => e = .returned (.bool (tooS (gn xs i : Int) x)) ∧ w' = w := by
  have HT : Hid (aboveB (x * x / 18446744073709551616) (x * x % 18446744073709551616) (gn xs i : Int) = tooS (gn xs i : Int) x) := tooS_eq _ x h0
  have hcx := hr.cellN (j := i) (by rw [hl]; exact hi)
  clear hl
  generalize (gn xs i : Int) = p at *
  go_enter Tryz.func107, Tryz.ntmps107
  go_wp2_with fail
  refine (mul64_any x x _ (by omega) (by omega) (by omega) (by omega)).mono ?_
  rintro r w1 ⟨rfl, hw⟩
  rw [hw]; clear hw
  go_wp2_with fail
  refine (isAbove_any (x * x / 18446744073709551616) (x * x % 18446744073709551616) p _ (by omega)).mono ?_
  rintro r w1 ⟨rfl, hw⟩
  rw [hw, HT.out]; clear hw
  go_wp2
  go_ret
  exact ⟨rfl, rfl⟩

theorem hide {p : Prop} (h : p) : Hid p := h

set_option maxHeartbeats 400000 in
theorem greatestC (p : Int) (g : Nat) (w : World) (hp0 : 0 ≤ p) (hp : p ≤ 1000) (hc : w.cell? ⟨g, 0, none⟩ = some (.int .u64 p)) (hT0 : (tooC p) 0 = false) (hT1 : (tooC p) 34359738368 = true) :
    Calls Tryz.prog 103 #[.func (.func 104) #[] #[.pointer (some ⟨g, 0, none⟩)]] w fun e w' => ∃ r : Int, e = .returned (.int .u64 r) ∧ 0 ≤ r ∧ r < 34359738368 ∧ (tooC p) r = false ∧ (tooC p) (r + 1) = true ∧ w' = w := by
  have HC : Hid (∀ x : Int, 0 ≤ x → x ≤ 34359738368 → Calls Tryz.prog 104 (#[.int .u64 x] ++ #[.pointer (some ⟨g, 0, none⟩)]) w fun e w' => e = .returned (.bool ((tooC p) x)) ∧ w' = w) := fun x h0 h1 => cubeClosure_any p x g w h0 h1 hp0 hp hc
  have H0 : Hid ((tooC p) 0 = false) := hT0
  have H1 : Hid ((tooC p) 34359738368 = true) := hT1
  generalize (tooC p) = T at *
  clear hT0 hT1
  go_enter Tryz.func103, Tryz.ntmps103
  go_wp2
  go_loop [3, 4] (fun a b => ∃ f t : Int, a = .int .u64 f ∧ b = .int .u64 t ∧ 0 ≤ f ∧ f < t ∧ t ≤ 34359738368 ∧ Hid (T f = false) ∧ Hid (T t = true)) (fun a b => (intOf b - intOf a).toNat)
  case atStart => exact ⟨0, 34359738368, rfl, rfl, by omega, by omega, by omega, H0, H1⟩
  case round =>
    obtain ⟨f, t, rfl, rfl, hf0, hft, ht, Hf, Ht⟩ := hrel
    by_cases hgt : 1 < t - f
    · have HM := HC.out (f + (t - f) / 2) (by omega) (by omega)
      simp only [List.append_toArray, List.cons_append, List.nil_append] at HM
      cases hb : T (f + (t - f) / 2) with
      | false =>
        have HF : Hid (T (f + (t - f) / 2) = false) := hb
        rw [hb] at HM
        have HM' := hide HM
        clear hb HM
        go_wp2_with fail
        refine HM'.out.mono ?_
        rintro r w1 ⟨rfl, hw⟩
        rw [hw]; clear hw
        go_wp2
        go_round
        case rel => exact ⟨f + (t - f) / 2, t, rfl, rfl, by omega, by omega, ht, HF, Ht⟩
        case measure => simp [intOf]; omega
      | true =>
        have HF : Hid (T (f + (t - f) / 2) = true) := hb
        rw [hb] at HM
        have HM' := hide HM
        clear hb HM
        go_wp2_with fail
        refine HM'.out.mono ?_
        rintro r w1 ⟨rfl, hw⟩
        rw [hw]; clear hw
        go_wp2
        go_round
        case rel => exact ⟨f, f + (t - f) / 2, rfl, rfl, hf0, by omega, by omega, Hf, HF⟩
        case measure => simp [intOf]; omega
    · have ht1 : Hid (t = f + 1) := show t = f + 1 by omega
      go_wp2
      go_ret
      exact ⟨f, rfl, hf0, by omega, Hf.out, by rw [← ht1.out]; exact Ht.out, rfl⟩

set_option maxHeartbeats 400000 in
theorem greatestS (xs : List Nat) (i g g' : Nat) (w : World) (hi : i < 64) (hl : xs.length = 64) (hr : Row w g 160 (ns xs)) (hc : w.cell? ⟨g', 0, none⟩ = some (.int .i64 (i : Int))) (hT0 : (tooS (gn xs i : Int)) 0 = false) (hT1 : (tooS (gn xs i : Int)) 34359738368 = true) :
    Calls Tryz.prog 103 #[.func (.func 107) #[] #[.pointer (some ⟨g, 0, none⟩), .pointer (some ⟨g', 0, none⟩)]] w fun e w' => ∃ r : Int, e = .returned (.int .u64 r) ∧ 0 ≤ r ∧ r < 34359738368 ∧ (tooS (gn xs i : Int)) r = false ∧ (tooS (gn xs i : Int)) (r + 1) = true ∧ w' = w := by
  have HC : Hid (∀ x : Int, 0 ≤ x → x ≤ 34359738368 → Calls Tryz.prog 107 (#[.int .u64 x] ++ #[.pointer (some ⟨g, 0, none⟩), .pointer (some ⟨g', 0, none⟩)]) w fun e w' => e = .returned (.bool ((tooS (gn xs i : Int)) x)) ∧ w' = w) := fun x h0 h1 => squareClosure_any xs i x g g' w h0 h1 hi hl hr hc
  have H0 : Hid ((tooS (gn xs i : Int)) 0 = false) := hT0
  have H1 : Hid ((tooS (gn xs i : Int)) 34359738368 = true) := hT1
  generalize (tooS (gn xs i : Int)) = T at *
  clear hT0 hT1
  go_enter Tryz.func103, Tryz.ntmps103
  go_wp2
  go_loop [3, 4] (fun a b => ∃ f t : Int, a = .int .u64 f ∧ b = .int .u64 t ∧ 0 ≤ f ∧ f < t ∧ t ≤ 34359738368 ∧ Hid (T f = false) ∧ Hid (T t = true)) (fun a b => (intOf b - intOf a).toNat)
  case atStart => exact ⟨0, 34359738368, rfl, rfl, by omega, by omega, by omega, H0, H1⟩
  case round =>
    obtain ⟨f, t, rfl, rfl, hf0, hft, ht, Hf, Ht⟩ := hrel
    by_cases hgt : 1 < t - f
    · have HM := HC.out (f + (t - f) / 2) (by omega) (by omega)
      simp only [List.append_toArray, List.cons_append, List.nil_append] at HM
      cases hb : T (f + (t - f) / 2) with
      | false =>
        have HF : Hid (T (f + (t - f) / 2) = false) := hb
        rw [hb] at HM
        have HM' := hide HM
        clear hb HM
        go_wp2_with fail
        refine HM'.out.mono ?_
        rintro r w1 ⟨rfl, hw⟩
        rw [hw]; clear hw
        go_wp2
        go_round
        case rel => exact ⟨f + (t - f) / 2, t, rfl, rfl, by omega, by omega, ht, HF, Ht⟩
        case measure => simp [intOf]; omega
      | true =>
        have HF : Hid (T (f + (t - f) / 2) = true) := hb
        rw [hb] at HM
        have HM' := hide HM
        clear hb HM
        go_wp2_with fail
        refine HM'.out.mono ?_
        rintro r w1 ⟨rfl, hw⟩
        rw [hw]; clear hw
        go_wp2
        go_round
        case rel => exact ⟨f, f + (t - f) / 2, rfl, rfl, hf0, by omega, by omega, Hf, HF⟩
        case measure => simp [intOf]; omega
    · have ht1 : Hid (t = f + 1) := show t = f + 1 by omega
      go_wp2
      go_ret
      exact ⟨f, rfl, hf0, by omega, Hf.out, by rw [← ht1.out]; exact Ht.out, rfl⟩
end Go.Proofs.YtcfmghnjokmfiaaGreatDoor

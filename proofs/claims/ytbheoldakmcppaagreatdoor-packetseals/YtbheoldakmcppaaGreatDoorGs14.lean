/-
  Out of ShaPrimesW, ShaMul, ShaRoots, ShaWords.
-/
import Derived.Test.YtbheoldakmcppaaGreatDoorRows
import Derived.Test.YtbheoldakmcppaaGreatDoorGs1
import Derived.WalkMore
import Derived.WalkKit
import Derived.WalkSpells
import Derived.WalkLawsBesides
import Derived.Laws.MathBits
import Derived.Deep.RegionWith
import Derived.BigRegion
import Derived.Deep.DrawnRows

/-! What sha.primes answers. -/
namespace Go.Proofs.YtbheoldakmcppaaGreatDoor
open Go Go.RowKit

set_option maxRecDepth 20000 in
set_option maxHeartbeats 400000 in
theorem primes_any (w : World) :
    Calls Tryz.prog 210 #[] w fun e w' => e = .returned (.agg (ns P64)) ∧ Below w.heap.size w w' := by
  go_enter Tryz.func210, Tryz.ntmps210
  go_wp2
  go_step3
  go_wp2
  go_step3
  go_wp2
  go_loopw [2, 3] (fun cv nv wr => ∃ n c : Nat, 2 ≤ n ∧ n ≤ 312 ∧ Hid (cntB n = c) ∧ c ≤ 64 ∧ cv = .int .i64 c ∧ nv = .int .u64 n ∧ Row wr w.heap.size 284 (ns (List.replicate 64 0)) ∧ Row wr (w.heap.size + 1) 284 (ns (foundR c)) ∧ Below w.heap.size w wr)
    (fun _ nv _ => 400 - (intOf nv).toNat)
  case atStart =>
    refine ⟨2, 0, by omega, by omega, show cntB 2 = 0 by decide +kernel, by omega, rfl, rfl, (Row.new _ _ (ns (List.replicate 64 0))).alloc _, Row.new1 _ _ _ (ns (List.replicate 64 0)), ((Below.refl _ w).alloc (Nat.le_refl _) _).alloc (by simp) _⟩
  case round =>
    obtain ⟨n, c, hn2, hn, HC, hc64, rfl, rfl, r0, r1, hbel⟩ := hrel
    by_cases hlt : c < 64
    · have hn1 : n < 312 := by
        have h := (cntB_all n (by omega) hn2).2
        have := HC.out
        omega
      have HA : Hid ((comp n = true → cntB (n + 1) = cntB n) ∧ (comp n = false → cntB (n + 1) = cntB n + 1 ∧ P64[cntB n]? = some n)) := comp_all n hn1 hn2
      have hcc : (0 : Int) ≤ (c : Int) ∧ (c : Int) ≤ 64 := by omega
      have hd : decide ((c : Int) < 64) = true := by simp; omega
      go_wp2
      go_loop [13] (fun jv => ∃ j : Nat, j ≤ c ∧ jv = .int .i64 j ∧ Hid (∀ i, i < j → n % gn P64 i ≠ 0)) (fun jv => c - (intOf jv).toNat)
      case atStart => exact ⟨0, Nat.zero_le _, rfl, fun i hi => by omega⟩
      case round =>
        obtain ⟨j, hj, rfl, HN⟩ := hrel
        by_cases hjc : j < c
        · have hcx := r1.cellN (j := j) (by rw [foundR_length c hc64]; omega)
          rw [foundR_get c j hc64 hjc] at hcx
          obtain ⟨hp0, hp1⟩ := P64_bd j (by omega)
          have HY : Hid (n % gn P64 j = 0 → cntB (n + 1) = c) := fun h => by rw [(HA.out.1 (comp_yes n j (by rw [HC.out]; exact hjc) h)), HC.out]
          have HX : Hid (n % gn P64 j ≠ 0 → ∀ i, i < j + 1 → n % gn P64 i ≠ 0) := fun h i hi => by
            rcases Nat.lt_or_ge i j with h' | h'
            · exact HN.out i h'
            · rw [show i = j by omega]; exact h
          generalize gn P64 j = p at *
          have hdj : decide ((j : Int) < (c : Int)) = true := by simp; omega
          by_cases hz : n % p = 0
          · have hb : (((n : Int) % (p : Int)) == 0) = true := by rw [beq_iff_eq]; omega
            have HZ : Hid (cntB (n + 1) = c) := HY.out hz
            clear hz
            go_wp2
            go_roundw
            case rel => exact ⟨n + 1, c, by omega, by omega, HZ, hc64, rfl, by go_num, r0, r1, hbel⟩
            case measure => simp [intOf]; omega
          · have hb : (((n : Int) % (p : Int)) == 0) = false := by rw [beq_eq_false_iff_ne]; omega
            have HZ : Hid (∀ i, i < j + 1 → n % gn P64 i ≠ 0) := HX.out hz
            clear hz
            go_wp2
            go_round
            case rel => exact ⟨j + 1, by omega, by go_num, HZ⟩
            case measure => simp [intOf]; omega
        · obtain ⟨hz1, hz2⟩ := HA.out.2 (comp_no n (fun i hi => HN.out i (by have := HC.out; omega)))
          rw [HC.out] at hz1 hz2
          have HZ : Hid (cntB (n + 1) = c + 1) := hz1
          have HP : Hid ((foundR c).set c n = foundR (c + 1)) := foundR_set c n hlt hz2
          obtain ⟨v, hv⟩ : ∃ v, wr.cell? ⟨w.heap.size + 1, c, none⟩ = some v := ⟨_, r1.cellN (by rw [foundR_length c hc64]; omega)⟩
          have f1 := r1.frozen c
          clear hz1 hz2
          go_wp2
          go_roundw
          case rel =>
            refine ⟨n + 1, c + 1, by omega, by omega, HZ, by omega, by go_num, by go_num, r0.other (by show w.heap.size ≠ w.heap.size + 1; omega) _, ?_, hbel.setCell (p := ⟨w.heap.size + 1, c, none⟩) (by show w.heap.size ≤ w.heap.size + 1; omega) _⟩
            have := r1.set c (.int .u64 (n : Int))
            rw [ns_set, HP.out] at this
            exact this
          case measure => simp [intOf]; omega
    · rw [show c = 64 by omega, foundR_all] at r1
      have hd : decide ((c : Int) < 64) = false := by simp; omega
      go_wp2_with (first
        | (with_reducible (show wpList _ _ _ (⟨_, Op.load 284 _, _, _, _, _⟩ :: _) _ _)
           refine load_row rfl 284 _ rfl (w.heap.size + 1) rfl _ _ r1 64 23 Tryz.underlying284 (by kernel_rfl) (by rw [ns_size, P64_length]) ?_)
        | (with_reducible (show wpList _ _ _ (⟨_, Op.store 284 _ _, _, _, _, _⟩ :: _) _ _)
           refine store_row rfl 284 _ _ rfl w.heap.size (ns P64) rfl rfl _ _ r0 64 (by kernel_rfl) (by rw [ns_size, List.length_replicate]) (by rw [ns_size, P64_length]) (ns_one _) ?_))
      rw [Exit.noGoto_ret]
      refine bodyPost_ret (result_row rfl _ _ w.heap.size _ _ (r0.put _) 64 23 rfl Tryz.underlying284 (by kernel_rfl) (by rw [ns_size, P64_length])) rfl ⟨rfl, bSetRow hbel (Nat.le_refl _) _⟩
end Go.Proofs.YtbheoldakmcppaaGreatDoor

/-! What math/bits.Mul64, sha.cube and sha.isAbove answer. -/
namespace Go.Proofs.YtbheoldakmcppaaGreatDoor
open Go Go.RowKit

theorem tup2u {a b a' b' : Int} (h1 : a = a') (h2 : b = b') : Ending.returned (.tuple #[.int .u64 a, .int .u64 b]) = .returned (.tuple #[.int .u64 a', .int .u64 b']) := by rw [h1, h2]
theorem mul64_eq (x y : Int) (hx0 : 0 ≤ x) (hx : x < 18446744073709551616) (hy0 : 0 ≤ y) (hy : y < 18446744073709551616) :
    IntKind.u64.wrap (IntKind.u64.wrap (IntKind.u64.wrap (x / 4294967296 * (y / 4294967296)) + IntKind.u64.wrap (IntKind.u64.wrap (x / 4294967296 * (y % 4294967296)) + IntKind.u64.wrap (x % 4294967296 * (y % 4294967296)) / 4294967296) / 4294967296) +
      IntKind.u64.wrap (bits BinOp.and IntKind.u64 (IntKind.u64.wrap (IntKind.u64.wrap (x / 4294967296 * (y % 4294967296)) + IntKind.u64.wrap (x % 4294967296 * (y % 4294967296)) / 4294967296)) 4294967295 + IntKind.u64.wrap (x % 4294967296 * (y / 4294967296))) / 4294967296) = x * y / 18446744073709551616 := by
  simp only [IntKind.wrap_u64]
  rw [and_low32 _ (by omega) (by omega)]
  exact mul64_arith x y hx0 hx hy0 hy

set_option maxHeartbeats 400000 in
theorem mul64_any (x y : Int) (w : World) (hx0 : 0 ≤ x) (hx : x < 18446744073709551616) (hy0 : 0 ≤ y) (hy : y < 18446744073709551616) :
    Calls Tryz.prog 216 #[.int .u64 x, .int .u64 y] w fun e w' => e = .returned (.tuple #[.int .u64 (x * y / 18446744073709551616), .int .u64 (x * y % 18446744073709551616)]) ∧ w' = w := by
  have hmask := and_low32
  go_enter Tryz.func216, Tryz.ntmps216
  go_wp2
  go_ret2
  exact ⟨tup2u (mul64_eq x y hx0 hx hy0 hy) (IntKind.wrap_u64 _), rfl⟩

/-- A cube, by its higher and its lower 64 bits. -/
theorem cube_arith (x : Int) (h0 : 0 ≤ x) (h1 : x ≤ 34359738368) :
    (IntKind.u64.wrap (x * x / 18446744073709551616 * x) + (x * x % 18446744073709551616) * x / 18446744073709551616 = x * x * x / 18446744073709551616) ∧ (x * x % 18446744073709551616) * x % 18446744073709551616 = x * x * x % 18446744073709551616 ∧ 0 ≤ x * x * x / 18446744073709551616 ∧ x * x * x / 18446744073709551616 < 18446744073709551616 := by
  have b1 : x * x ≤ 34359738368 * 34359738368 := Int.mul_le_mul h1 h1 h0 (by omega)
  have b0 : 0 ≤ x * x := Int.mul_nonneg h0 h0
  have c1 : x * x * x ≤ 34359738368 * 34359738368 * 34359738368 := Int.mul_le_mul b1 h1 h0 (by omega)
  have c0 : 0 ≤ x * x * x := Int.mul_nonneg b0 h0
  have hq0 : 0 ≤ x * x / 18446744073709551616 := by omega
  have hq1 : x * x / 18446744073709551616 ≤ 64 := by omega
  have e : x * x * x = (x * x / 18446744073709551616 * x) * 18446744073709551616 + (x * x % 18446744073709551616) * x := by
    have aux : ∀ q r : Int, x * x = q * 18446744073709551616 + r → x * x * x = q * x * 18446744073709551616 + r * x := fun q r h => by rw [h, Int.add_mul, Int.mul_right_comm]
    exact aux _ _ (by omega)
  have d1 : x * x / 18446744073709551616 * x ≤ 64 * 34359738368 := Int.mul_le_mul hq1 h1 h0 (by omega)
  have d0 : 0 ≤ x * x / 18446744073709551616 * x := Int.mul_nonneg hq0 h0
  rw [IntKind.wrap_u64]
  generalize x * x / 18446744073709551616 * x = A at *
  generalize x * x % 18446744073709551616 * x = B at *
  generalize x * x * x = C at *
  omega

set_option maxHeartbeats 400000 in
theorem cube_any (x : Int) (w : World) (h0 : 0 ≤ x) (h1 : x ≤ 34359738368) :
    Calls Tryz.prog 213 #[.int .u64 x] w fun e w' => e = .returned (.tuple #[.int .u64 (x * x * x / 18446744073709551616), .int .u64 (x * x * x % 18446744073709551616)]) ∧ w' = w := by
  obtain ⟨e1, e2, e3, e4⟩ := cube_arith x h0 h1
  have E2 : Hid ((x * x % 18446744073709551616) * x % 18446744073709551616 = x * x * x % 18446744073709551616) := e2
  have E1 : Hid (IntKind.u64.wrap (IntKind.u64.wrap (x * x / 18446744073709551616 * x) + (x * x % 18446744073709551616) * x / 18446744073709551616) = x * x * x / 18446744073709551616) := show IntKind.u64.wrap _ = _ by rw [e1, IntKind.wrap_u64]; omega
  clear e1 e2 e3 e4
  go_enter Tryz.func213, Tryz.ntmps213
  go_wp2_with fail
  refine (mul64_any x x _ (by omega) (by omega) (by omega) (by omega)).mono ?_
  rintro r w1 ⟨rfl, hw⟩
  rw [hw]; clear hw
  go_wp2_with fail
  refine (mul64_any (x * x % 18446744073709551616) x _ (by omega) (by omega) (by omega) (by omega)).mono ?_
  rintro r w1 ⟨rfl, hw⟩
  rw [hw]; clear hw
  go_wp2
  go_ret2
  exact ⟨tup2u E1.out E2.out, rfl⟩

/-- Is the number of 128 bits above n with 64 bits 0 behind it? -/
def aboveB (h l n : Int) : Bool := decide (n < h ∨ h = n ∧ 0 < l)
theorem aboveB_iff (c n : Int) (_h0 : 0 ≤ c) : aboveB (c / 18446744073709551616) (c % 18446744073709551616) n = decide (n * 18446744073709551616 < c) := by
  unfold aboveB
  congr 1
  apply propext
  omega

set_option maxHeartbeats 400000 in
theorem isAbove_any (h l n : Int) (w : World) (hl : 0 ≤ l) :
    Calls Tryz.prog 214 #[.int .u64 h, .int .u64 l, .int .u64 n] w fun e w' => e = .returned (.bool (aboveB h l n)) ∧ w' = w := by
  by_cases h1 : n < h
  · have hd : decide (n < h) = true := decide_eq_true h1
    have he : aboveB h l n = true := decide_eq_true (.inl h1)
    rw [he]
    clear he
    go_enter Tryz.func214, Tryz.ntmps214
    go_wp2
    go_ret
    exact ⟨rfl, rfl⟩
  · have hd : decide (n < h) = false := decide_eq_false h1
    by_cases h2 : h = n
    · subst h2
      by_cases h3 : 0 < l
      · have he : aboveB h l h = true := decide_eq_true (.inr ⟨rfl, h3⟩)
        have hd3 : decide (0 < l) = true := decide_eq_true h3
        rw [he]
        clear he
        go_enter Tryz.func214, Tryz.ntmps214
        go_wp2
        go_ret
        exact ⟨rfl, rfl⟩
      · have he : aboveB h l h = false := decide_eq_false (by omega)
        have hd3 : decide (0 < l) = false := decide_eq_false h3
        rw [he]
        clear he
        go_enter Tryz.func214, Tryz.ntmps214
        go_wp2
        go_ret
        exact ⟨rfl, rfl⟩
    · have he : aboveB h l n = false := decide_eq_false (by omega)
      have hb : (h == n) = false := by simp [h2]
      rw [he]
      clear he
      go_enter Tryz.func214, Tryz.ntmps214
      go_wp2
      go_ret
      exact ⟨rfl, rfl⟩
end Go.Proofs.YtbheoldakmcppaaGreatDoor

/-! What sha.greatest finds, by either closure: the greatest number that is not too great. -/
namespace Go.Proofs.YtbheoldakmcppaaGreatDoor
open Go Go.RowKit

/-- Is x above the cube root of p, both with 32 bits behind the point; above its square root? -/
def tooC (p x : Int) : Bool := decide (p * 79228162514264337593543950336 < x * x * x)
def tooS (p x : Int) : Bool := decide (p * 18446744073709551616 < x * x)
theorem tooC_eq (p x : Int) (h0 : 0 ≤ x) : aboveB (x * x * x / 18446744073709551616) (x * x * x % 18446744073709551616) (p * 4294967296) = tooC p x := by
  rw [aboveB_iff _ _ (Int.mul_nonneg (Int.mul_nonneg h0 h0) h0)]
  unfold tooC
  congr 1
  apply propext
  omega
theorem tooS_eq (p x : Int) (h0 : 0 ≤ x) : aboveB (x * x / 18446744073709551616) (x * x % 18446744073709551616) p = tooS p x := by
  rw [aboveB_iff _ _ (Int.mul_nonneg h0 h0)]
  rfl

set_option maxHeartbeats 400000 in
theorem cubeClosure_any (p x : Int) (g : Nat) (w : World) (h0 : 0 ≤ x) (h1 : x ≤ 34359738368) (hp0 : 0 ≤ p) (hp : p ≤ 1000) (hc : w.cell? ⟨g, 0, none⟩ = some (.int .u64 p)) :
    Calls Tryz.prog 212 #[.int .u64 x, .pointer (some ⟨g, 0, none⟩)] w fun e w' => e = .returned (.bool (tooC p x)) ∧ w' = w := by
  have HT : Hid (aboveB (x * x * x / 18446744073709551616) (x * x * x % 18446744073709551616) (p * 4294967296) = tooC p x) := tooC_eq p x h0
  go_enter Tryz.func212, Tryz.ntmps212
  go_wp2_with fail
  refine (cube_any x _ h0 h1).mono ?_
  rintro r w1 ⟨rfl, hw⟩
  rw [hw]; clear hw
  go_wp2_with fail
  refine (isAbove_any (x * x * x / 18446744073709551616) (x * x * x % 18446744073709551616) (p * 4294967296) _ (by omega)).mono ?_
  rintro r w1 ⟨rfl, hw⟩
  rw [hw, HT.out]; clear hw
  go_wp2
  go_ret
  exact ⟨rfl, rfl⟩

set_option maxHeartbeats 400000 in
theorem squareClosure_any (xs : List Nat) (i : Nat) (x : Int) (g g' : Nat) (w : World) (h0 : 0 ≤ x) (h1 : x ≤ 34359738368) (hi : i < 64) (hl : xs.length = 64) (hr : Row w g 284 (ns xs)) (hc : w.cell? ⟨g', 0, none⟩ = some (.int .i64 (i : Int))) :
    Calls Tryz.prog 215 #[.int .u64 x, .pointer (some ⟨g, 0, none⟩), .pointer (some ⟨g', 0, none⟩)] w fun e w' => e = .returned (.bool (tooS (gn xs i : Int) x)) ∧ w' = w := by
  have HT : Hid (aboveB (x * x / 18446744073709551616) (x * x % 18446744073709551616) (gn xs i : Int) = tooS (gn xs i : Int) x) := tooS_eq _ x h0
  have hcx := hr.cellN (j := i) (by rw [hl]; exact hi)
  clear hl
  generalize (gn xs i : Int) = p at *
  go_enter Tryz.func215, Tryz.ntmps215
  go_wp2_with fail
  refine (mul64_any x x _ (by omega) (by omega) (by omega) (by omega)).mono ?_
  rintro r w1 ⟨rfl, hw⟩
  rw [hw]; clear hw
  go_wp2_with fail
  refine (isAbove_any (x * x / 18446744073709551616) (x * x % 18446744073709551616) p _ (by omega)).mono ?_
  rintro r w1 ⟨rfl, hw⟩
  rw [hw, HT.out]; clear hw
  go_wp2
  go_ret
  exact ⟨rfl, rfl⟩

theorem hide {p : Prop} (h : p) : Hid p := h

set_option maxHeartbeats 400000 in
theorem greatestC (p : Int) (g : Nat) (w : World) (hp0 : 0 ≤ p) (hp : p ≤ 1000) (hc : w.cell? ⟨g, 0, none⟩ = some (.int .u64 p)) (hT0 : (tooC p) 0 = false) (hT1 : (tooC p) 34359738368 = true) :
    Calls Tryz.prog 211 #[.func (.func 212) #[] #[.pointer (some ⟨g, 0, none⟩)]] w fun e w' => ∃ r : Int, e = .returned (.int .u64 r) ∧ 0 ≤ r ∧ r < 34359738368 ∧ (tooC p) r = false ∧ (tooC p) (r + 1) = true ∧ w' = w := by
  have HC : Hid (∀ x : Int, 0 ≤ x → x ≤ 34359738368 → Calls Tryz.prog 212 (#[.int .u64 x] ++ #[.pointer (some ⟨g, 0, none⟩)]) w fun e w' => e = .returned (.bool ((tooC p) x)) ∧ w' = w) := fun x h0 h1 => cubeClosure_any p x g w h0 h1 hp0 hp hc
  have H0 : Hid ((tooC p) 0 = false) := hT0
  have H1 : Hid ((tooC p) 34359738368 = true) := hT1
  generalize (tooC p) = T at *
  clear hT0 hT1
  go_enter Tryz.func211, Tryz.ntmps211
  go_wp2
  go_loop [3, 4] (fun a b => ∃ f t : Int, a = .int .u64 f ∧ b = .int .u64 t ∧ 0 ≤ f ∧ f < t ∧ t ≤ 34359738368 ∧ Hid (T f = false) ∧ Hid (T t = true)) (fun a b => (intOf b - intOf a).toNat)
  case atStart => exact ⟨0, 34359738368, rfl, rfl, by omega, by omega, by omega, H0, H1⟩
  case round =>
    obtain ⟨f, t, rfl, rfl, hf0, hft, ht, Hf, Ht⟩ := hrel
    by_cases hgt : 1 < t - f
    · have HM := HC.out (f + (t - f) / 2) (by omega) (by omega)
      simp only [List.append_toArray, List.cons_append, List.nil_append] at HM
      cases hb : T (f + (t - f) / 2) with
      | false =>
        have HF : Hid (T (f + (t - f) / 2) = false) := hb
        rw [hb] at HM
        have HM' := hide HM
        clear hb HM
        go_wp2_with fail
        refine HM'.out.mono ?_
        rintro r w1 ⟨rfl, hw⟩
        rw [hw]; clear hw
        go_wp2
        go_round
        case rel => exact ⟨f + (t - f) / 2, t, rfl, rfl, by omega, by omega, ht, HF, Ht⟩
        case measure => simp [intOf]; omega
      | true =>
        have HF : Hid (T (f + (t - f) / 2) = true) := hb
        rw [hb] at HM
        have HM' := hide HM
        clear hb HM
        go_wp2_with fail
        refine HM'.out.mono ?_
        rintro r w1 ⟨rfl, hw⟩
        rw [hw]; clear hw
        go_wp2
        go_round
        case rel => exact ⟨f, f + (t - f) / 2, rfl, rfl, hf0, by omega, by omega, Hf, HF⟩
        case measure => simp [intOf]; omega
    · have ht1 : Hid (t = f + 1) := show t = f + 1 by omega
      go_wp2
      go_ret
      exact ⟨f, rfl, hf0, by omega, Hf.out, by rw [← ht1.out]; exact Ht.out, rfl⟩

set_option maxHeartbeats 400000 in
theorem greatestS (xs : List Nat) (i g g' : Nat) (w : World) (hi : i < 64) (hl : xs.length = 64) (hr : Row w g 284 (ns xs)) (hc : w.cell? ⟨g', 0, none⟩ = some (.int .i64 (i : Int))) (hT0 : (tooS (gn xs i : Int)) 0 = false) (hT1 : (tooS (gn xs i : Int)) 34359738368 = true) :
    Calls Tryz.prog 211 #[.func (.func 215) #[] #[.pointer (some ⟨g, 0, none⟩), .pointer (some ⟨g', 0, none⟩)]] w fun e w' => ∃ r : Int, e = .returned (.int .u64 r) ∧ 0 ≤ r ∧ r < 34359738368 ∧ (tooS (gn xs i : Int)) r = false ∧ (tooS (gn xs i : Int)) (r + 1) = true ∧ w' = w := by
  have HC : Hid (∀ x : Int, 0 ≤ x → x ≤ 34359738368 → Calls Tryz.prog 215 (#[.int .u64 x] ++ #[.pointer (some ⟨g, 0, none⟩), .pointer (some ⟨g', 0, none⟩)]) w fun e w' => e = .returned (.bool ((tooS (gn xs i : Int)) x)) ∧ w' = w) := fun x h0 h1 => squareClosure_any xs i x g g' w h0 h1 hi hl hr hc
  have H0 : Hid ((tooS (gn xs i : Int)) 0 = false) := hT0
  have H1 : Hid ((tooS (gn xs i : Int)) 34359738368 = true) := hT1
  generalize (tooS (gn xs i : Int)) = T at *
  clear hT0 hT1
  go_enter Tryz.func211, Tryz.ntmps211
  go_wp2
  go_loop [3, 4] (fun a b => ∃ f t : Int, a = .int .u64 f ∧ b = .int .u64 t ∧ 0 ≤ f ∧ f < t ∧ t ≤ 34359738368 ∧ Hid (T f = false) ∧ Hid (T t = true)) (fun a b => (intOf b - intOf a).toNat)
  case atStart => exact ⟨0, 34359738368, rfl, rfl, by omega, by omega, by omega, H0, H1⟩
  case round =>
    obtain ⟨f, t, rfl, rfl, hf0, hft, ht, Hf, Ht⟩ := hrel
    by_cases hgt : 1 < t - f
    · have HM := HC.out (f + (t - f) / 2) (by omega) (by omega)
      simp only [List.append_toArray, List.cons_append, List.nil_append] at HM
      cases hb : T (f + (t - f) / 2) with
      | false =>
        have HF : Hid (T (f + (t - f) / 2) = false) := hb
        rw [hb] at HM
        have HM' := hide HM
        clear hb HM
        go_wp2_with fail
        refine HM'.out.mono ?_
        rintro r w1 ⟨rfl, hw⟩
        rw [hw]; clear hw
        go_wp2
        go_round
        case rel => exact ⟨f + (t - f) / 2, t, rfl, rfl, by omega, by omega, ht, HF, Ht⟩
        case measure => simp [intOf]; omega
      | true =>
        have HF : Hid (T (f + (t - f) / 2) = true) := hb
        rw [hb] at HM
        have HM' := hide HM
        clear hb HM
        go_wp2_with fail
        refine HM'.out.mono ?_
        rintro r w1 ⟨rfl, hw⟩
        rw [hw]; clear hw
        go_wp2
        go_round
        case rel => exact ⟨f, f + (t - f) / 2, rfl, rfl, hf0, by omega, by omega, Hf, HF⟩
        case measure => simp [intOf]; omega
    · have ht1 : Hid (t = f + 1) := show t = f + 1 by omega
      go_wp2
      go_ret
      exact ⟨f, rfl, hf0, by omega, Hf.out, by rw [← ht1.out]; exact Ht.out, rfl⟩
end Go.Proofs.YtbheoldakmcppaaGreatDoor

/-! What sha.cubeWords and sha.squareWords answer. -/
namespace Go.Proofs.YtbheoldakmcppaaGreatDoor
open Go Go.RowKit

theorem root_word (c : Nat) : (c : Int) % 4294967296 = u (BitVec.ofNat 32 c) := by
  unfold u
  rw [BitVec.toNat_ofNat]
  omega

/-- What the halving of a prime's cube root comes to. -/
theorem cube_found (j : Nat) (hj : j < 64) (r : Int) (h0 : 0 ≤ r) (h1 : tooC (gn P64 j : Int) r = false) (h2 : tooC (gn P64 j : Int) (r + 1) = true) : r % 4294967296 = u (gw KW j) := by
  obtain ⟨c, rfl⟩ := Int.eq_ofNat_of_zero_le h0
  have k1 := of_decide_eq_false h1
  have k2 := of_decide_eq_true h2
  have e1 : c * c * c ≤ gn P64 j * 79228162514264337593543950336 := by
    have : ((c * c * c : Nat) : Int) = (c : Int) * (c : Int) * (c : Int) := by simp
    omega
  have e2 : gn P64 j * 79228162514264337593543950336 < (c + 1) * (c + 1) * (c + 1) := by
    have : (((c + 1) * (c + 1) * (c + 1) : Nat) : Int) = ((c : Int) + 1) * ((c : Int) + 1) * ((c : Int) + 1) := by simp
    omega
  rw [cube_root_one j c hj e1 e2, (cubeRoots_ok j hj).2.2]
  exact root_word _
theorem square_found (j : Nat) (hj : j < 8) (r : Int) (h0 : 0 ≤ r) (h1 : tooS (gn P64 j : Int) r = false) (h2 : tooS (gn P64 j : Int) (r + 1) = true) : r % 4294967296 = u (gw HW j) := by
  obtain ⟨c, rfl⟩ := Int.eq_ofNat_of_zero_le h0
  have k1 := of_decide_eq_false h1
  have k2 := of_decide_eq_true h2
  have e1 : c * c ≤ gn P64 j * 18446744073709551616 := by
    have : ((c * c : Nat) : Int) = (c : Int) * (c : Int) := by simp
    omega
  have e2 : gn P64 j * 18446744073709551616 < (c + 1) * (c + 1) := by
    have : (((c + 1) * (c + 1) : Nat) : Int) = ((c : Int) + 1) * ((c : Int) + 1) := by simp
    omega
  rw [square_root_one j c hj e1 e2, (squareRoots_ok j hj).2.2]
  exact root_word _
theorem KW_get (k : Nat) (h : k < 64) : KW[k]? = some (gw KW k) := by unfold gw; rw [List.getElem?_eq_getElem (by rw [KW_length]; exact h)]; rfl
theorem HW_get (k : Nat) (h : k < 8) : HW[k]? = some (gw HW k) := by unfold gw; rw [List.getElem?_eq_getElem (by rw [HW_length]; exact h)]; rfl
theorem tooC_ends (j : Nat) (hj : j < 64) : tooC (gn P64 j : Int) 0 = false ∧ tooC (gn P64 j : Int) 34359738368 = true := by
  have := P64_bd j hj
  exact ⟨decide_eq_false (by omega), decide_eq_true (by omega)⟩
theorem tooS_ends (j : Nat) (hj : j < 8) : tooS (gn P64 j : Int) 0 = false ∧ tooS (gn P64 j : Int) 34359738368 = true := by
  have := P64_bd8 j hj
  exact ⟨decide_eq_false (by omega), decide_eq_true (by omega)⟩

/-- greatest, at a prime. -/
theorem cubeG (k : Nat) (hk : k < 64) (g : Nat) (w : World) (hc : w.cell? ⟨g, 0, none⟩ = some (.int .u64 (gn P64 k : Int))) :
    Calls Tryz.prog 211 #[.func (.func 212) #[] #[.pointer (some ⟨g, 0, none⟩)]] w fun e w' => ∃ r : Int, e = .returned (.int .u64 r) ∧ 0 ≤ r ∧ r < 34359738368 ∧ Hid (r % 4294967296 = u (gw KW k)) ∧ w' = w := by
  have hp := P64_bd k hk
  refine (greatestC (gn P64 k : Int) g w (by omega) (by omega) hc (tooC_ends k hk).1 (tooC_ends k hk).2).mono ?_
  rintro e w' ⟨r, rfl, h0, h1, h2, h3, rfl⟩
  exact ⟨r, rfl, h0, h1, cube_found k hk r h0 h2 h3, rfl⟩
theorem squareG (k : Nat) (hk : k < 8) (g g' : Nat) (w : World) (hr : Row w g 284 (ns P64)) (hc : w.cell? ⟨g', 0, none⟩ = some (.int .i64 (k : Int))) :
    Calls Tryz.prog 211 #[.func (.func 215) #[] #[.pointer (some ⟨g, 0, none⟩), .pointer (some ⟨g', 0, none⟩)]] w fun e w' => ∃ r : Int, e = .returned (.int .u64 r) ∧ 0 ≤ r ∧ r < 34359738368 ∧ Hid (r % 4294967296 = u (gw HW k)) ∧ w' = w := by
  refine (greatestS P64 k g g' w (by omega) P64_length hr hc (tooS_ends k hk).1 (tooS_ends k hk).2).mono ?_
  rintro e w' ⟨r, rfl, h0, h1, h2, h3, rfl⟩
  exact ⟨r, rfl, h0, h1, square_found k hk r h0 h2 h3, rfl⟩

set_option maxRecDepth 20000 in
set_option maxHeartbeats 400000 in
theorem cubeWords_any (w : World) :
    Calls Tryz.prog 203 #[] w fun e w' => e = .returned (.agg (ws KW)) ∧ Below w.heap.size w w' := by
  have hmf : ∀ (fn : Fn) (first cap : Array Value) (w : World), (Instr.makeFunc fn first cap).run Tryz.prog w = .ok (.func fn first cap) w := fun _ _ _ _ => rfl
  go_enter Tryz.func203, Tryz.ntmps203
  go_wp2_with fail
  refine (primes_any _).mono ?_
  rintro e1 w1 ⟨rfl, hb1⟩
  have q0 : Row w1 w.heap.size 274 (ws (List.replicate 64 0)) := Row.below ((Row.new _ _ (ws (List.replicate 64 0))).alloc _) hb1 (by simp; omega)
  have q1 : Row w1 (w.heap.size + 1) 274 (ws (List.replicate 64 0)) := Row.below (Row.new1 _ _ _ (ws (List.replicate 64 0))) hb1 (by simp)
  have hbel1 : Below w.heap.size w w1 := (((Below.refl _ w).alloc (Nat.le_refl _) _).alloc (by simp) _).trans (hb1.mono (by simp; omega))
  clear hb1
  go_wp2
  go_loopw [5] (fun i wr => ∃ k : Nat, k ≤ 64 ∧ i = .int .i64 k ∧ Row wr w.heap.size 274 (ws (List.replicate 64 0)) ∧ Row wr (w.heap.size + 1) 274 (ws (KW.take k ++ List.replicate (64 - k) 0)) ∧ Below w.heap.size w wr)
    (fun i _ => 64 - (intOf i).toNat)
  case atStart => exact ⟨0, by omega, rfl, q0, by simpa using q1, hbel1⟩
  case round =>
    clear q0 q1 hbel1
    obtain ⟨k, hk, rfl, r0, r1, hbel⟩ := hrel
    by_cases hlt : k < 64
    · have hix := fun W => run_index (P := Tryz.prog) 284 23 64 _ (ns P64) k _ Tryz.underlying284 Tryz.underlying23 rfl (by kernel_rfl) hlt (ns_get P64 k (by rw [P64_length]; exact hlt)) W
      have HG := hide (fill_set KW 0 k 64 KW_length hlt _ (KW_get k hlt))
      have HQ := hide (cubeG k hlt)
      obtain ⟨v, hv⟩ : ∃ v, wr.cell? ⟨w.heap.size + 1, k, none⟩ = some v := ⟨_, r1.cellW (by simp [KW_length]; omega)⟩
      have f1 := r1.frozen k
      have hl1 := r1.lt
      have hd : decide ((k : Int) < 64) = true := by simp; omega
      generalize gn P64 k = p at *
      go_wp2_with fail
      refine (HQ.out _ _ (by simp)).mono ?_
      rintro e1 w2 ⟨r, rfl, h0, h1, hf, hw⟩
      rw [hw]
      clear hw HQ hix
      go_wp2
      go_roundw
      case rel =>
        rw [hf.out]
        refine ⟨k + 1, by omega, by go_num, (r0.other (by show w.heap.size ≠ w.heap.size + 1; omega) _).alloc _, ?_, (hbel.setCell (p := ⟨w.heap.size + 1, k, none⟩) (by show w.heap.size ≤ w.heap.size + 1; omega) _).alloc (by have := hbel.size; simpa using this) _⟩
        have := r1.set k (.int .u32 (u (gw KW k)))
        rw [ws_set, HG.out] at this
        exact this.alloc _
      case measure => simp [intOf]; omega
    · have r2 : Row wr (w.heap.size + 1) 274 (ws KW) := by
        have := r1
        rw [show k = 64 by omega, List.take_of_length_le (by rw [KW_length]; exact Nat.le_refl _)] at this
        simpa using this
      clear r1
      go_wp2_with (first
        | (with_reducible (show wpList _ _ _ (⟨_, Op.load 274 _, _, _, _, _⟩ :: _) _ _)
           refine load_row rfl 274 _ rfl (w.heap.size + 1) rfl _ _ r2 64 91 Tryz.underlying274 (by kernel_rfl) (by rw [ws_size, KW_length]) ?_)
        | (with_reducible (show wpList _ _ _ (⟨_, Op.store 274 _ _, _, _, _, _⟩ :: _) _ _)
           refine store_row rfl 274 _ _ rfl w.heap.size (ws KW) rfl rfl _ _ r0 64 (by kernel_rfl) (by rw [ws_size, List.length_replicate]) (by rw [ws_size, KW_length]) (ws_one _) ?_))
      refine bodyPost_ret (result_row rfl _ _ w.heap.size _ _ (r0.put _) 64 91 rfl Tryz.underlying274 (by kernel_rfl) (by rw [ws_size, KW_length])) rfl ⟨rfl, bSetRow hbel (Nat.le_refl _) _⟩

set_option maxRecDepth 20000 in
set_option maxHeartbeats 400000 in
theorem squareWords_any (w : World) :
    Calls Tryz.prog 204 #[] w fun e w' => e = .returned (.agg (ws HW)) ∧ Below w.heap.size w w' := by
  have hmf : ∀ (fn : Fn) (first cap : Array Value) (w : World), (Instr.makeFunc fn first cap).run Tryz.prog w = .ok (.func fn first cap) w := fun _ _ _ _ => rfl
  go_enter Tryz.func204, Tryz.ntmps204
  go_wp2_with fail
  refine (primes_any _).mono ?_
  rintro e1 w1 ⟨rfl, hb1⟩
  have q0 : Row w1 w.heap.size 276 (ws (List.replicate 8 0)) := Row.below ((Row.new _ _ (ws (List.replicate 8 0))).alloc _) hb1 (by simp; omega)
  have q1 : Row w1 (w.heap.size + 1) 276 (ws (List.replicate 8 0)) := Row.below (Row.new1 _ _ _ (ws (List.replicate 8 0))) hb1 (by simp)
  have hbel1 : Below w.heap.size w w1 := (((Below.refl _ w).alloc (Nat.le_refl _) _).alloc (by simp) _).trans (hb1.mono (by simp; omega))
  have hsz : w.heap.size + 2 ≤ w1.heap.size := by have := hb1.size; simpa using this
  clear hb1
  go_wp2_with (with_reducible (show wpList _ _ _ (⟨_, Op.store 284 _ _, _, _, _, _⟩ :: _) _ _)
               refine store_new (w := w1) rfl 284 _ _ rfl w1.heap.size (ns P64) rfl rfl _ _ rfl 64 (by kernel_rfl) (by rfl) (by rw [ns_size, P64_length]) (ns_one _) ?_)
  go_loopw [5] (fun i wr => ∃ k : Nat, k ≤ 8 ∧ i = .int .i64 k ∧ Row wr w.heap.size 276 (ws (List.replicate 8 0)) ∧ Row wr (w.heap.size + 1) 276 (ws (HW.take k ++ List.replicate (8 - k) 0)) ∧ Row wr w1.heap.size 284 (ns P64) ∧ Below w.heap.size w wr)
    (fun i _ => 8 - (intOf i).toNat)
  case atStart => exact ⟨0, by omega, rfl, q0.alloc _, by simpa using q1.alloc _, Row.new _ _ _, hbel1.alloc hbel1.size _⟩
  case round =>
    clear q0 q1 hbel1
    obtain ⟨k, hk, rfl, r0, r1, r3, hbel⟩ := hrel
    by_cases hlt : k < 8
    · have HG := hide (fill_set HW 0 k 8 HW_length hlt _ (HW_get k hlt))
      have HQ := hide (squareG k hlt)
      obtain ⟨v, hv⟩ : ∃ v, wr.cell? ⟨w.heap.size + 1, k, none⟩ = some v := ⟨_, r1.cellW (by simp [HW_length]; omega)⟩
      have f1 := r1.frozen k
      have hl1 := r1.lt
      have hd : decide ((k : Int) < 8) = true := by simp; omega
      have hk0 : (0 : Int) ≤ (k : Int) ∧ (k : Int) < 8 := by omega
      go_wp2
      go_region_with (go_at_call 211; refine (HQ.out w1.heap.size wr.heap.size _ (by exact (r3.alloc _).drew) (by simp)).mono ?_; rintro e1 w2 ⟨r, rfl, h0, h1, hf, hw⟩; rw [hw]; clear hw)
      all_goals
        have hwr : IntKind.u32.wrap r = u (gw HW k) := by rw [IntKind.wrap_u32', hf.out]
        simp only [hwr]
        clear hwr
        go_wp2
        go_roundw
        case rel =>
          refine ⟨k + 1, by omega, by go_num, ((r0.other (by show w.heap.size ≠ w.heap.size + 1; omega) _).alloc _).drew, ?_, ((r3.other (by show w1.heap.size ≠ w.heap.size + 1; omega) _).alloc _).drew, ((hbel.setCell (p := ⟨w.heap.size + 1, k, none⟩) (by show w.heap.size ≤ w.heap.size + 1; omega) _).alloc (by have := hbel.size; simpa using this) _).drew⟩
          have := r1.set k (.int .u32 (u (gw HW k)))
          rw [ws_set, HG.out] at this
          exact (this.alloc _).drew
        case measure => simp [intOf]; omega
    · have r2 : Row wr (w.heap.size + 1) 276 (ws HW) := by
        have := r1
        rw [show k = 8 by omega, List.take_of_length_le (by rw [HW_length]; exact Nat.le_refl _)] at this
        simpa using this
      clear r1
      go_wp2_with (first
        | (with_reducible (show wpList _ _ _ (⟨_, Op.load 276 _, _, _, _, _⟩ :: _) _ _)
           refine load_row rfl 276 _ rfl (w.heap.size + 1) rfl _ _ r2 8 91 Tryz.underlying276 (by kernel_rfl) (by rw [ws_size, HW_length]) ?_)
        | (with_reducible (show wpList _ _ _ (⟨_, Op.store 276 _ _, _, _, _, _⟩ :: _) _ _)
           refine store_row rfl 276 _ _ rfl w.heap.size (ws HW) rfl rfl _ _ r0 8 (by kernel_rfl) (by rw [ws_size, List.length_replicate]) (by rw [ws_size, HW_length]) (ws_one _) ?_))
      refine bodyPost_ret (result_row rfl _ _ w.heap.size _ _ (r0.put _) 8 91 rfl Tryz.underlying276 (by kernel_rfl) (by rw [ws_size, HW_length])) rfl ⟨rfl, bSetRow hbel (Nat.le_refl _) _⟩
end Go.Proofs.YtbheoldakmcppaaGreatDoor

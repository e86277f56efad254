/-
  Out of ShaPrimesW, ShaMul, ShaRoots, ShaWords, ShaRot, ShaTurn, ShaSchedule, ShaFurtherW, ShaBytes, ShaSum, ShaChPlain, ChaSl, HkSl.
-/
import Derived.Test.YtjccjlhnjihfjaaDoorRows
import Derived.Test.YtjccjlhnjihfjaaDoorGh1
import Derived.WalkMore
import Derived.WalkKit
import Derived.WalkSpells
import Derived.WalkLawsBesides
import Derived.Laws.MathBits
import Derived.Deep.RegionWith
import Derived.BigRegion
import Derived.Deep.DrawnRows
import Derived.Deep.QuietTactic
import Derived.BigQuiet
import Derived.Laws.AppendOwn
import Derived.Laws.AppendOwnNone
import Derived.OwnWalk
import Derived.RangeFuncBox
import Derived.Maps.AppendAt
import Derived.Below
import Derived.Lib.AppendZeros

/-! What sha.primes answers. -/
namespace Go.Proofs.YtjccjlhnjihfjaaDoor
open Go Go.RowKit

set_option maxRecDepth 20000 in
set_option maxHeartbeats 400000 in
theorem primes_any (w : World) :
    Calls Tryd.prog 131 #[] w fun e w' => e = .returned (.agg (ns P64)) ∧ Below w.heap.size w w' := by
  go_enter Tryd.func131, Tryd.ntmps131
  go_wp2
  go_step3
  go_wp2
  go_step3
  go_wp2
  go_loopw [2, 3] (fun cv nv wr => ∃ n c : Nat, 2 ≤ n ∧ n ≤ 312 ∧ Hid (cntB n = c) ∧ c ≤ 64 ∧ cv = .int .i64 c ∧ nv = .int .u64 n ∧ Row wr w.heap.size 189 (ns (List.replicate 64 0)) ∧ Row wr (w.heap.size + 1) 189 (ns (foundR c)) ∧ Below w.heap.size w wr)
    (fun _ nv _ => 400 - (intOf nv).toNat)
  case atStart =>
    refine ⟨2, 0, by omega, by omega, show cntB 2 = 0 by decide +kernel, by omega, rfl, rfl, (Row.new _ _ (ns (List.replicate 64 0))).alloc _, Row.new1 _ _ _ (ns (List.replicate 64 0)), ((Below.refl _ w).alloc (Nat.le_refl _) _).alloc (by simp) _⟩
  case round =>
    obtain ⟨n, c, hn2, hn, HC, hc64, rfl, rfl, r0, r1, hbel⟩ := hrel
    by_cases hlt : c < 64
    · have hn1 : n < 312 := by
        have h := (cntB_all n (by omega) hn2).2
        have := HC.out
        omega
      have HA : Hid ((comp n = true → cntB (n + 1) = cntB n) ∧ (comp n = false → cntB (n + 1) = cntB n + 1 ∧ P64[cntB n]? = some n)) := comp_all n hn1 hn2
      have hcc : (0 : Int) ≤ (c : Int) ∧ (c : Int) ≤ 64 := by omega
      have hd : decide ((c : Int) < 64) = true := by simp; omega
      go_wp2
      go_loop [13] (fun jv => ∃ j : Nat, j ≤ c ∧ jv = .int .i64 j ∧ Hid (∀ i, i < j → n % gn P64 i ≠ 0)) (fun jv => c - (intOf jv).toNat)
      case atStart => exact ⟨0, Nat.zero_le _, rfl, fun i hi => by omega⟩
      case round =>
        obtain ⟨j, hj, rfl, HN⟩ := hrel
        by_cases hjc : j < c
        · have hcx := r1.cellN (j := j) (by rw [foundR_length c hc64]; omega)
          rw [foundR_get c j hc64 hjc] at hcx
          obtain ⟨hp0, hp1⟩ := P64_bd j (by omega)
          have HY : Hid (n % gn P64 j = 0 → cntB (n + 1) = c) := fun h => by rw [(HA.out.1 (comp_yes n j (by rw [HC.out]; exact hjc) h)), HC.out]
          have HX : Hid (n % gn P64 j ≠ 0 → ∀ i, i < j + 1 → n % gn P64 i ≠ 0) := fun h i hi => by
            rcases Nat.lt_or_ge i j with h' | h'
            · exact HN.out i h'
            · rw [show i = j by omega]; exact h
          generalize gn P64 j = p at *
          have hdj : decide ((j : Int) < (c : Int)) = true := by simp; omega
          by_cases hz : n % p = 0
          · have hb : (((n : Int) % (p : Int)) == 0) = true := by rw [beq_iff_eq]; omega
            have HZ : Hid (cntB (n + 1) = c) := HY.out hz
            clear hz
            go_wp2
            go_roundw
            case rel => exact ⟨n + 1, c, by omega, by omega, HZ, hc64, rfl, by go_num, r0, r1, hbel⟩
            case measure => simp [intOf]; omega
          · have hb : (((n : Int) % (p : Int)) == 0) = false := by rw [beq_eq_false_iff_ne]; omega
            have HZ : Hid (∀ i, i < j + 1 → n % gn P64 i ≠ 0) := HX.out hz
            clear hz
            go_wp2
            go_round
            case rel => exact ⟨j + 1, by omega, by go_num, HZ⟩
            case measure => simp [intOf]; omega
        · obtain ⟨hz1, hz2⟩ := HA.out.2 (comp_no n (fun i hi => HN.out i (by have := HC.out; omega)))
          rw [HC.out] at hz1 hz2
          have HZ : Hid (cntB (n + 1) = c + 1) := hz1
          have HP : Hid ((foundR c).set c n = foundR (c + 1)) := foundR_set c n hlt hz2
          obtain ⟨v, hv⟩ : ∃ v, wr.cell? ⟨w.heap.size + 1, c, none⟩ = some v := ⟨_, r1.cellN (by rw [foundR_length c hc64]; omega)⟩
          have f1 := r1.frozen c
          clear hz1 hz2
          go_wp2
          go_roundw
          case rel =>
            refine ⟨n + 1, c + 1, by omega, by omega, HZ, by omega, by go_num, by go_num, r0.other (by show w.heap.size ≠ w.heap.size + 1; omega) _, ?_, hbel.setCell (p := ⟨w.heap.size + 1, c, none⟩) (by show w.heap.size ≤ w.heap.size + 1; omega) _⟩
            have := r1.set c (.int .u64 (n : Int))
            rw [ns_set, HP.out] at this
            exact this
          case measure => simp [intOf]; omega
    · rw [show c = 64 by omega, foundR_all] at r1
      have hd : decide ((c : Int) < 64) = false := by simp; omega
      go_wp2_with (first
        | (with_reducible (show wpList _ _ _ (⟨_, Op.load 189 _, _, _, _, _⟩ :: _) _ _)
           refine load_row rfl 189 _ rfl (w.heap.size + 1) rfl _ _ r1 64 24 Tryd.underlying189 (by kernel_rfl) (by rw [ns_size, P64_length]) ?_)
        | (with_reducible (show wpList _ _ _ (⟨_, Op.store 189 _ _, _, _, _, _⟩ :: _) _ _)
           refine store_row rfl 189 _ _ rfl w.heap.size (ns P64) rfl rfl _ _ r0 64 (by kernel_rfl) (by rw [ns_size, List.length_replicate]) (by rw [ns_size, P64_length]) (ns_one _) ?_))
      rw [Exit.noGoto_ret]
      refine bodyPost_ret (result_row rfl _ _ w.heap.size _ _ (r0.put _) 64 24 rfl Tryd.underlying189 (by kernel_rfl) (by rw [ns_size, P64_length])) rfl ⟨rfl, bSetRow hbel (Nat.le_refl _) _⟩
end Go.Proofs.YtjccjlhnjihfjaaDoor

/-! What math/bits.Mul64, sha.cube and sha.isAbove answer. -/
namespace Go.Proofs.YtjccjlhnjihfjaaDoor
open Go Go.RowKit

theorem tup2u {a b a' b' : Int} (h1 : a = a') (h2 : b = b') : Ending.returned (.tuple #[.int .u64 a, .int .u64 b]) = .returned (.tuple #[.int .u64 a', .int .u64 b']) := by rw [h1, h2]
theorem mul64_eq (x y : Int) (hx0 : 0 ≤ x) (hx : x < 18446744073709551616) (hy0 : 0 ≤ y) (hy : y < 18446744073709551616) :
    IntKind.u64.wrap (IntKind.u64.wrap (IntKind.u64.wrap (x / 4294967296 * (y / 4294967296)) + IntKind.u64.wrap (IntKind.u64.wrap (x / 4294967296 * (y % 4294967296)) + IntKind.u64.wrap (x % 4294967296 * (y % 4294967296)) / 4294967296) / 4294967296) +
      IntKind.u64.wrap (bits BinOp.and IntKind.u64 (IntKind.u64.wrap (IntKind.u64.wrap (x / 4294967296 * (y % 4294967296)) + IntKind.u64.wrap (x % 4294967296 * (y % 4294967296)) / 4294967296)) 4294967295 + IntKind.u64.wrap (x % 4294967296 * (y / 4294967296))) / 4294967296) = x * y / 18446744073709551616 := by
  simp only [IntKind.wrap_u64]
  rw [and_low32 _ (by omega) (by omega)]
  exact mul64_arith x y hx0 hx hy0 hy

set_option maxHeartbeats 400000 in
theorem mul64_any (x y : Int) (w : World) (hx0 : 0 ≤ x) (hx : x < 18446744073709551616) (hy0 : 0 ≤ y) (hy : y < 18446744073709551616) :
    Calls Tryd.prog 137 #[.int .u64 x, .int .u64 y] w fun e w' => e = .returned (.tuple #[.int .u64 (x * y / 18446744073709551616), .int .u64 (x * y % 18446744073709551616)]) ∧ w' = w := by
  have hmask := and_low32
  go_enter Tryd.func137, Tryd.ntmps137
  go_wp2
  go_ret2
  exact ⟨tup2u (mul64_eq x y hx0 hx hy0 hy) (IntKind.wrap_u64 _), rfl⟩

/-- A cube, by its higher and its lower 64 bits. -/
theorem cube_arith (x : Int) (h0 : 0 ≤ x) (h1 : x ≤ 34359738368) :
    (IntKind.u64.wrap (x * x / 18446744073709551616 * x) + (x * x % 18446744073709551616) * x / 18446744073709551616 = x * x * x / 18446744073709551616) ∧ (x * x % 18446744073709551616) * x % 18446744073709551616 = x * x * x % 18446744073709551616 ∧ 0 ≤ x * x * x / 18446744073709551616 ∧ x * x * x / 18446744073709551616 < 18446744073709551616 := by
  have b1 : x * x ≤ 34359738368 * 34359738368 := Int.mul_le_mul h1 h1 h0 (by omega)
  have b0 : 0 ≤ x * x := Int.mul_nonneg h0 h0
  have c1 : x * x * x ≤ 34359738368 * 34359738368 * 34359738368 := Int.mul_le_mul b1 h1 h0 (by omega)
  have c0 : 0 ≤ x * x * x := Int.mul_nonneg b0 h0
  have hq0 : 0 ≤ x * x / 18446744073709551616 := by omega
  have hq1 : x * x / 18446744073709551616 ≤ 64 := by omega
  have e : x * x * x = (x * x / 18446744073709551616 * x) * 18446744073709551616 + (x * x % 18446744073709551616) * x := by
    have aux : ∀ q r : Int, x * x = q * 18446744073709551616 + r → x * x * x = q * x * 18446744073709551616 + r * x := fun q r h => by rw [h, Int.add_mul, Int.mul_right_comm]
    exact aux _ _ (by omega)
  have d1 : x * x / 18446744073709551616 * x ≤ 64 * 34359738368 := Int.mul_le_mul hq1 h1 h0 (by omega)
  have d0 : 0 ≤ x * x / 18446744073709551616 * x := Int.mul_nonneg hq0 h0
  rw [IntKind.wrap_u64]
  generalize x * x / 18446744073709551616 * x = A at *
  generalize x * x % 18446744073709551616 * x = B at *
  generalize x * x * x = C at *
  omega

set_option maxHeartbeats 400000 in
theorem cube_any (x : Int) (w : World) (h0 : 0 ≤ x) (h1 : x ≤ 34359738368) :
    Calls Tryd.prog 134 #[.int .u64 x] w fun e w' => e = .returned (.tuple #[.int .u64 (x * x * x / 18446744073709551616), .int .u64 (x * x * x % 18446744073709551616)]) ∧ w' = w := by
  obtain ⟨e1, e2, e3, e4⟩ := cube_arith x h0 h1
  have E2 : Hid ((x * x % 18446744073709551616) * x % 18446744073709551616 = x * x * x % 18446744073709551616) := e2
  have E1 : Hid (IntKind.u64.wrap (IntKind.u64.wrap (x * x / 18446744073709551616 * x) + (x * x % 18446744073709551616) * x / 18446744073709551616) = x * x * x / 18446744073709551616) := show IntKind.u64.wrap _ = _ by rw [e1, IntKind.wrap_u64]; omega
  clear e1 e2 e3 e4
  go_enter Tryd.func134, Tryd.ntmps134
  go_wp2_with fail
  refine (mul64_any x x _ (by omega) (by omega) (by omega) (by omega)).mono ?_
  rintro r w1 ⟨rfl, hw⟩
  rw [hw]; clear hw
  go_wp2_with fail
  refine (mul64_any (x * x % 18446744073709551616) x _ (by omega) (by omega) (by omega) (by omega)).mono ?_
  rintro r w1 ⟨rfl, hw⟩
  rw [hw]; clear hw
  go_wp2
  go_ret2
  exact ⟨tup2u E1.out E2.out, rfl⟩

/-- Is the number of 128 bits above n with 64 bits 0 behind it? -/
def aboveB (h l n : Int) : Bool := decide (n < h ∨ h = n ∧ 0 < l)
theorem aboveB_iff (c n : Int) (_h0 : 0 ≤ c) : aboveB (c / 18446744073709551616) (c % 18446744073709551616) n = decide (n * 18446744073709551616 < c) := by
  unfold aboveB
  congr 1
  apply propext
  omega

set_option maxHeartbeats 400000 in
theorem isAbove_any (h l n : Int) (w : World) (hl : 0 ≤ l) :
    Calls Tryd.prog 135 #[.int .u64 h, .int .u64 l, .int .u64 n] w fun e w' => e = .returned (.bool (aboveB h l n)) ∧ w' = w := by
  by_cases h1 : n < h
  · have hd : decide (n < h) = true := decide_eq_true h1
    have he : aboveB h l n = true := decide_eq_true (.inl h1)
    rw [he]
    clear he
    go_enter Tryd.func135, Tryd.ntmps135
    go_wp2
    go_ret
    exact ⟨rfl, rfl⟩
  · have hd : decide (n < h) = false := decide_eq_false h1
    by_cases h2 : h = n
    · subst h2
      by_cases h3 : 0 < l
      · have he : aboveB h l h = true := decide_eq_true (.inr ⟨rfl, h3⟩)
        have hd3 : decide (0 < l) = true := decide_eq_true h3
        rw [he]
        clear he
        go_enter Tryd.func135, Tryd.ntmps135
        go_wp2
        go_ret
        exact ⟨rfl, rfl⟩
      · have he : aboveB h l h = false := decide_eq_false (by omega)
        have hd3 : decide (0 < l) = false := decide_eq_false h3
        rw [he]
        clear he
        go_enter Tryd.func135, Tryd.ntmps135
        go_wp2
        go_ret
        exact ⟨rfl, rfl⟩
    · have he : aboveB h l n = false := decide_eq_false (by omega)
      have hb : (h == n) = false := by simp [h2]
      rw [he]
      clear he
      go_enter Tryd.func135, Tryd.ntmps135
      go_wp2
      go_ret
      exact ⟨rfl, rfl⟩
end Go.Proofs.YtjccjlhnjihfjaaDoor

/-! What sha.greatest finds, by either closure: the greatest number that is not too great. -/
namespace Go.Proofs.YtjccjlhnjihfjaaDoor
open Go Go.RowKit

/-- Is x above the cube root of p, both with 32 bits behind the point; above its square root? -/
def tooC (p x : Int) : Bool := decide (p * 79228162514264337593543950336 < x * x * x)
def tooS (p x : Int) : Bool := decide (p * 18446744073709551616 < x * x)
theorem tooC_eq (p x : Int) (h0 : 0 ≤ x) : aboveB (x * x * x / 18446744073709551616) (x * x * x % 18446744073709551616) (p * 4294967296) = tooC p x := by
  rw [aboveB_iff _ _ (Int.mul_nonneg (Int.mul_nonneg h0 h0) h0)]
  unfold tooC
  congr 1
  apply propext
  omega
theorem tooS_eq (p x : Int) (h0 : 0 ≤ x) : aboveB (x * x / 18446744073709551616) (x * x % 18446744073709551616) p = tooS p x := by
  rw [aboveB_iff _ _ (Int.mul_nonneg h0 h0)]
  rfl

set_option maxHeartbeats 400000 in
theorem cubeClosure_any (p x : Int) (g : Nat) (w : World) (h0 : 0 ≤ x) (h1 : x ≤ 34359738368) (hp0 : 0 ≤ p) (hp : p ≤ 1000) (hc : w.cell? ⟨g, 0, none⟩ = some (.int .u64 p)) :
    Calls Tryd.prog 133 #[.int .u64 x, .pointer (some ⟨g, 0, none⟩)] w fun e w' => e = .returned (.bool (tooC p x)) ∧ w' = w := by
  have HT : Hid (aboveB (x * x * x / 18446744073709551616) (x * x * x % 18446744073709551616) (p * 4294967296) = tooC p x) := tooC_eq p x h0
  go_enter Tryd.func133, Tryd.ntmps133
  go_wp2_with fail
  refine (cube_any x _ h0 h1).mono ?_
  rintro r w1 ⟨rfl, hw⟩
  rw [hw]; clear hw
  go_wp2_with fail
  refine (isAbove_any (x * x * x / 18446744073709551616) (x * x * x % 18446744073709551616) (p * 4294967296) _ (by omega)).mono ?_
  rintro r w1 ⟨rfl, hw⟩
  rw [hw, HT.out]; clear hw
  go_wp2
  go_ret
  exact ⟨rfl, rfl⟩

set_option maxHeartbeats 400000 in
theorem squareClosure_any (xs : List Nat) (i : Nat) (x : Int) (g g' : Nat) (w : World) (h0 : 0 ≤ x) (h1 : x ≤ 34359738368) (hi : i < 64) (hl : xs.length = 64) (hr : Row w g 189 (ns xs)) (hc : w.cell? ⟨g', 0, none⟩ = some (.int .i64 (i : Int))) :
    Calls Tryd.prog 136 #[.int .u64 x, .pointer (some ⟨g, 0, none⟩), .pointer (some ⟨g', 0, none⟩)] w fun e w' => e = .returned (.bool (tooS (gn xs i : Int) x)) ∧ w' = w := by
  have HT : Hid (aboveB (x * x / 18446744073709551616) (x * x % 18446744073709551616) (gn xs i : Int) = tooS (gn xs i : Int) x) := tooS_eq _ x h0
  have hcx := hr.cellN (j := i) (by rw [hl]; exact hi)
  clear hl
  generalize (gn xs i : Int) = p at *
  go_enter Tryd.func136, Tryd.ntmps136
  go_wp2_with fail
  refine (mul64_any x x _ (by omega) (by omega) (by omega) (by omega)).mono ?_
  rintro r w1 ⟨rfl, hw⟩
  rw [hw]; clear hw
  go_wp2_with fail
  refine (isAbove_any (x * x / 18446744073709551616) (x * x % 18446744073709551616) p _ (by omega)).mono ?_
  rintro r w1 ⟨rfl, hw⟩
  rw [hw, HT.out]; clear hw
  go_wp2
  go_ret
  exact ⟨rfl, rfl⟩

theorem hide {p : Prop} (h : p) : Hid p := h

set_option maxHeartbeats 400000 in
theorem greatestC (p : Int) (g : Nat) (w : World) (hp0 : 0 ≤ p) (hp : p ≤ 1000) (hc : w.cell? ⟨g, 0, none⟩ = some (.int .u64 p)) (hT0 : (tooC p) 0 = false) (hT1 : (tooC p) 34359738368 = true) :
    Calls Tryd.prog 132 #[.func (.func 133) #[] #[.pointer (some ⟨g, 0, none⟩)]] w fun e w' => ∃ r : Int, e = .returned (.int .u64 r) ∧ 0 ≤ r ∧ r < 34359738368 ∧ (tooC p) r = false ∧ (tooC p) (r + 1) = true ∧ w' = w := by
  have HC : Hid (∀ x : Int, 0 ≤ x → x ≤ 34359738368 → Calls Tryd.prog 133 (#[.int .u64 x] ++ #[.pointer (some ⟨g, 0, none⟩)]) w fun e w' => e = .returned (.bool ((tooC p) x)) ∧ w' = w) := fun x h0 h1 => cubeClosure_any p x g w h0 h1 hp0 hp hc
  have H0 : Hid ((tooC p) 0 = false) := hT0
  have H1 : Hid ((tooC p) 34359738368 = true) := hT1
  generalize (tooC p) = T at *
  clear hT0 hT1
  go_enter Tryd.func132, Tryd.ntmps132
  go_wp2
  go_loop [3, 4] (fun a b => ∃ f t : Int, a = .int .u64 f ∧ b = .int .u64 t ∧ 0 ≤ f ∧ f < t ∧ t ≤ 34359738368 ∧ Hid (T f = false) ∧ Hid (T t = true)) (fun a b => (intOf b - intOf a).toNat)
  case atStart => exact ⟨0, 34359738368, rfl, rfl, by omega, by omega, by omega, H0, H1⟩
  case round =>
    obtain ⟨f, t, rfl, rfl, hf0, hft, ht, Hf, Ht⟩ := hrel
    by_cases hgt : 1 < t - f
    · have HM := HC.out (f + (t - f) / 2) (by omega) (by omega)
      simp only [List.append_toArray, List.cons_append, List.nil_append] at HM
      cases hb : T (f + (t - f) / 2) with
      | false =>
        have HF : Hid (T (f + (t - f) / 2) = false) := hb
        rw [hb] at HM
        have HM' := hide HM
        clear hb HM
        go_wp2_with fail
        refine HM'.out.mono ?_
        rintro r w1 ⟨rfl, hw⟩
        rw [hw]; clear hw
        go_wp2
        go_round
        case rel => exact ⟨f + (t - f) / 2, t, rfl, rfl, by omega, by omega, ht, HF, Ht⟩
        case measure => simp [intOf]; omega
      | true =>
        have HF : Hid (T (f + (t - f) / 2) = true) := hb
        rw [hb] at HM
        have HM' := hide HM
        clear hb HM
        go_wp2_with fail
        refine HM'.out.mono ?_
        rintro r w1 ⟨rfl, hw⟩
        rw [hw]; clear hw
        go_wp2
        go_round
        case rel => exact ⟨f, f + (t - f) / 2, rfl, rfl, hf0, by omega, by omega, Hf, HF⟩
        case measure => simp [intOf]; omega
    · have ht1 : Hid (t = f + 1) := show t = f + 1 by omega
      go_wp2
      go_ret
      exact ⟨f, rfl, hf0, by omega, Hf.out, by rw [← ht1.out]; exact Ht.out, rfl⟩

set_option maxHeartbeats 400000 in
theorem greatestS (xs : List Nat) (i g g' : Nat) (w : World) (hi : i < 64) (hl : xs.length = 64) (hr : Row w g 189 (ns xs)) (hc : w.cell? ⟨g', 0, none⟩ = some (.int .i64 (i : Int))) (hT0 : (tooS (gn xs i : Int)) 0 = false) (hT1 : (tooS (gn xs i : Int)) 34359738368 = true) :
    Calls Tryd.prog 132 #[.func (.func 136) #[] #[.pointer (some ⟨g, 0, none⟩), .pointer (some ⟨g', 0, none⟩)]] w fun e w' => ∃ r : Int, e = .returned (.int .u64 r) ∧ 0 ≤ r ∧ r < 34359738368 ∧ (tooS (gn xs i : Int)) r = false ∧ (tooS (gn xs i : Int)) (r + 1) = true ∧ w' = w := by
  have HC : Hid (∀ x : Int, 0 ≤ x → x ≤ 34359738368 → Calls Tryd.prog 136 (#[.int .u64 x] ++ #[.pointer (some ⟨g, 0, none⟩), .pointer (some ⟨g', 0, none⟩)]) w fun e w' => e = .returned (.bool ((tooS (gn xs i : Int)) x)) ∧ w' = w) := fun x h0 h1 => squareClosure_any xs i x g g' w h0 h1 hi hl hr hc
  have H0 : Hid ((tooS (gn xs i : Int)) 0 = false) := hT0
  have H1 : Hid ((tooS (gn xs i : Int)) 34359738368 = true) := hT1
  generalize (tooS (gn xs i : Int)) = T at *
  clear hT0 hT1
  go_enter Tryd.func132, Tryd.ntmps132
  go_wp2
  go_loop [3, 4] (fun a b => ∃ f t : Int, a = .int .u64 f ∧ b = .int .u64 t ∧ 0 ≤ f ∧ f < t ∧ t ≤ 34359738368 ∧ Hid (T f = false) ∧ Hid (T t = true)) (fun a b => (intOf b - intOf a).toNat)
  case atStart => exact ⟨0, 34359738368, rfl, rfl, by omega, by omega, by omega, H0, H1⟩
  case round =>
    obtain ⟨f, t, rfl, rfl, hf0, hft, ht, Hf, Ht⟩ := hrel
    by_cases hgt : 1 < t - f
    · have HM := HC.out (f + (t - f) / 2) (by omega) (by omega)
      simp only [List.append_toArray, List.cons_append, List.nil_append] at HM
      cases hb : T (f + (t - f) / 2) with
      | false =>
        have HF : Hid (T (f + (t - f) / 2) = false) := hb
        rw [hb] at HM
        have HM' := hide HM
        clear hb HM
        go_wp2_with fail
        refine HM'.out.mono ?_
        rintro r w1 ⟨rfl, hw⟩
        rw [hw]; clear hw
        go_wp2
        go_round
        case rel => exact ⟨f + (t - f) / 2, t, rfl, rfl, by omega, by omega, ht, HF, Ht⟩
        case measure => simp [intOf]; omega
      | true =>
        have HF : Hid (T (f + (t - f) / 2) = true) := hb
        rw [hb] at HM
        have HM' := hide HM
        clear hb HM
        go_wp2_with fail
        refine HM'.out.mono ?_
        rintro r w1 ⟨rfl, hw⟩
        rw [hw]; clear hw
        go_wp2
        go_round
        case rel => exact ⟨f, f + (t - f) / 2, rfl, rfl, hf0, by omega, by omega, Hf, HF⟩
        case measure => simp [intOf]; omega
    · have ht1 : Hid (t = f + 1) := show t = f + 1 by omega
      go_wp2
      go_ret
      exact ⟨f, rfl, hf0, by omega, Hf.out, by rw [← ht1.out]; exact Ht.out, rfl⟩
end Go.Proofs.YtjccjlhnjihfjaaDoor

/-! What sha.cubeWords and sha.squareWords answer. -/
namespace Go.Proofs.YtjccjlhnjihfjaaDoor
open Go Go.RowKit

theorem root_word (c : Nat) : (c : Int) % 4294967296 = u (BitVec.ofNat 32 c) := by
  unfold u
  rw [BitVec.toNat_ofNat]
  omega

/-- What the halving of a prime's cube root comes to. -/
theorem cube_found (j : Nat) (hj : j < 64) (r : Int) (h0 : 0 ≤ r) (h1 : tooC (gn P64 j : Int) r = false) (h2 : tooC (gn P64 j : Int) (r + 1) = true) : r % 4294967296 = u (gw KW j) := by
  obtain ⟨c, rfl⟩ := Int.eq_ofNat_of_zero_le h0
  have k1 := of_decide_eq_false h1
  have k2 := of_decide_eq_true h2
  have e1 : c * c * c ≤ gn P64 j * 79228162514264337593543950336 := by
    have : ((c * c * c : Nat) : Int) = (c : Int) * (c : Int) * (c : Int) := by simp
    omega
  have e2 : gn P64 j * 79228162514264337593543950336 < (c + 1) * (c + 1) * (c + 1) := by
    have : (((c + 1) * (c + 1) * (c + 1) : Nat) : Int) = ((c : Int) + 1) * ((c : Int) + 1) * ((c : Int) + 1) := by simp
    omega
  rw [cube_root_one j c hj e1 e2, (cubeRoots_ok j hj).2.2]
  exact root_word _
theorem square_found (j : Nat) (hj : j < 8) (r : Int) (h0 : 0 ≤ r) (h1 : tooS (gn P64 j : Int) r = false) (h2 : tooS (gn P64 j : Int) (r + 1) = true) : r % 4294967296 = u (gw HW j) := by
  obtain ⟨c, rfl⟩ := Int.eq_ofNat_of_zero_le h0
  have k1 := of_decide_eq_false h1
  have k2 := of_decide_eq_true h2
  have e1 : c * c ≤ gn P64 j * 18446744073709551616 := by
    have : ((c * c : Nat) : Int) = (c : Int) * (c : Int) := by simp
    omega
  have e2 : gn P64 j * 18446744073709551616 < (c + 1) * (c + 1) := by
    have : (((c + 1) * (c + 1) : Nat) : Int) = ((c : Int) + 1) * ((c : Int) + 1) := by simp
    omega
  rw [square_root_one j c hj e1 e2, (squareRoots_ok j hj).2.2]
  exact root_word _
theorem KW_get (k : Nat) (h : k < 64) : KW[k]? = some (gw KW k) := by unfold gw; rw [List.getElem?_eq_getElem (by rw [KW_length]; exact h)]; rfl
theorem HW_get (k : Nat) (h : k < 8) : HW[k]? = some (gw HW k) := by unfold gw; rw [List.getElem?_eq_getElem (by rw [HW_length]; exact h)]; rfl
theorem tooC_ends (j : Nat) (hj : j < 64) : tooC (gn P64 j : Int) 0 = false ∧ tooC (gn P64 j : Int) 34359738368 = true := by
  have := P64_bd j hj
  exact ⟨decide_eq_false (by omega), decide_eq_true (by omega)⟩
theorem tooS_ends (j : Nat) (hj : j < 8) : tooS (gn P64 j : Int) 0 = false ∧ tooS (gn P64 j : Int) 34359738368 = true := by
  have := P64_bd8 j hj
  exact ⟨decide_eq_false (by omega), decide_eq_true (by omega)⟩

/-- greatest, at a prime. -/
theorem cubeG (k : Nat) (hk : k < 64) (g : Nat) (w : World) (hc : w.cell? ⟨g, 0, none⟩ = some (.int .u64 (gn P64 k : Int))) :
    Calls Tryd.prog 132 #[.func (.func 133) #[] #[.pointer (some ⟨g, 0, none⟩)]] w fun e w' => ∃ r : Int, e = .returned (.int .u64 r) ∧ 0 ≤ r ∧ r < 34359738368 ∧ Hid (r % 4294967296 = u (gw KW k)) ∧ w' = w := by
  have hp := P64_bd k hk
  refine (greatestC (gn P64 k : Int) g w (by omega) (by omega) hc (tooC_ends k hk).1 (tooC_ends k hk).2).mono ?_
  rintro e w' ⟨r, rfl, h0, h1, h2, h3, rfl⟩
  exact ⟨r, rfl, h0, h1, cube_found k hk r h0 h2 h3, rfl⟩
theorem squareG (k : Nat) (hk : k < 8) (g g' : Nat) (w : World) (hr : Row w g 189 (ns P64)) (hc : w.cell? ⟨g', 0, none⟩ = some (.int .i64 (k : Int))) :
    Calls Tryd.prog 132 #[.func (.func 136) #[] #[.pointer (some ⟨g, 0, none⟩), .pointer (some ⟨g', 0, none⟩)]] w fun e w' => ∃ r : Int, e = .returned (.int .u64 r) ∧ 0 ≤ r ∧ r < 34359738368 ∧ Hid (r % 4294967296 = u (gw HW k)) ∧ w' = w := by
  refine (greatestS P64 k g g' w (by omega) P64_length hr hc (tooS_ends k hk).1 (tooS_ends k hk).2).mono ?_
  rintro e w' ⟨r, rfl, h0, h1, h2, h3, rfl⟩
  exact ⟨r, rfl, h0, h1, square_found k hk r h0 h2 h3, rfl⟩

set_option maxRecDepth 20000 in
set_option maxHeartbeats 400000 in
theorem cubeWords_any (w : World) :
    Calls Tryd.prog 123 #[] w fun e w' => e = .returned (.agg (ws KW)) ∧ Below w.heap.size w w' := by
  have hmf : ∀ (fn : Fn) (first cap : Array Value) (w : World), (Instr.makeFunc fn first cap).run Tryd.prog w = .ok (.func fn first cap) w := fun _ _ _ _ => rfl
  go_enter Tryd.func123, Tryd.ntmps123
  go_wp2_with fail
  refine (primes_any _).mono ?_
  rintro e1 w1 ⟨rfl, hb1⟩
  have q0 : Row w1 w.heap.size 180 (ws (List.replicate 64 0)) := Row.below ((Row.new _ _ (ws (List.replicate 64 0))).alloc _) hb1 (by simp; omega)
  have q1 : Row w1 (w.heap.size + 1) 180 (ws (List.replicate 64 0)) := Row.below (Row.new1 _ _ _ (ws (List.replicate 64 0))) hb1 (by simp)
  have hbel1 : Below w.heap.size w w1 := (((Below.refl _ w).alloc (Nat.le_refl _) _).alloc (by simp) _).trans (hb1.mono (by simp; omega))
  clear hb1
  go_wp2
  go_loopw [5] (fun i wr => ∃ k : Nat, k ≤ 64 ∧ i = .int .i64 k ∧ Row wr w.heap.size 180 (ws (List.replicate 64 0)) ∧ Row wr (w.heap.size + 1) 180 (ws (KW.take k ++ List.replicate (64 - k) 0)) ∧ Below w.heap.size w wr)
    (fun i _ => 64 - (intOf i).toNat)
  case atStart => exact ⟨0, by omega, rfl, q0, by simpa using q1, hbel1⟩
  case round =>
    clear q0 q1 hbel1
    obtain ⟨k, hk, rfl, r0, r1, hbel⟩ := hrel
    by_cases hlt : k < 64
    · have hix := fun W => run_index (P := Tryd.prog) 189 24 64 _ (ns P64) k _ Tryd.underlying189 Tryd.underlying24 rfl (by kernel_rfl) hlt (ns_get P64 k (by rw [P64_length]; exact hlt)) W
      have HG := hide (fill_set KW 0 k 64 KW_length hlt _ (KW_get k hlt))
      have HQ := hide (cubeG k hlt)
      obtain ⟨v, hv⟩ : ∃ v, wr.cell? ⟨w.heap.size + 1, k, none⟩ = some v := ⟨_, r1.cellW (by simp [KW_length]; omega)⟩
      have f1 := r1.frozen k
      have hl1 := r1.lt
      have hd : decide ((k : Int) < 64) = true := by simp; omega
      generalize gn P64 k = p at *
      go_wp2_with fail
      refine (HQ.out _ _ (by simp)).mono ?_
      rintro e1 w2 ⟨r, rfl, h0, h1, hf, hw⟩
      rw [hw]
      clear hw HQ hix
      go_wp2
      go_roundw
      case rel =>
        rw [hf.out]
        refine ⟨k + 1, by omega, by go_num, (r0.other (by show w.heap.size ≠ w.heap.size + 1; omega) _).alloc _, ?_, (hbel.setCell (p := ⟨w.heap.size + 1, k, none⟩) (by show w.heap.size ≤ w.heap.size + 1; omega) _).alloc (by have := hbel.size; simpa using this) _⟩
        have := r1.set k (.int .u32 (u (gw KW k)))
        rw [ws_set, HG.out] at this
        exact this.alloc _
      case measure => simp [intOf]; omega
    · have r2 : Row wr (w.heap.size + 1) 180 (ws KW) := by
        have := r1
        rw [show k = 64 by omega, List.take_of_length_le (by rw [KW_length]; exact Nat.le_refl _)] at this
        simpa using this
      clear r1
      go_wp2_with (first
        | (with_reducible (show wpList _ _ _ (⟨_, Op.load 180 _, _, _, _, _⟩ :: _) _ _)
           refine load_row rfl 180 _ rfl (w.heap.size + 1) rfl _ _ r2 64 176 Tryd.underlying180 (by kernel_rfl) (by rw [ws_size, KW_length]) ?_)
        | (with_reducible (show wpList _ _ _ (⟨_, Op.store 180 _ _, _, _, _, _⟩ :: _) _ _)
           refine store_row rfl 180 _ _ rfl w.heap.size (ws KW) rfl rfl _ _ r0 64 (by kernel_rfl) (by rw [ws_size, List.length_replicate]) (by rw [ws_size, KW_length]) (ws_one _) ?_))
      refine bodyPost_ret (result_row rfl _ _ w.heap.size _ _ (r0.put _) 64 176 rfl Tryd.underlying180 (by kernel_rfl) (by rw [ws_size, KW_length])) rfl ⟨rfl, bSetRow hbel (Nat.le_refl _) _⟩

set_option maxRecDepth 20000 in
set_option maxHeartbeats 400000 in
theorem squareWords_any (w : World) :
    Calls Tryd.prog 124 #[] w fun e w' => e = .returned (.agg (ws HW)) ∧ Below w.heap.size w w' := by
  have hmf : ∀ (fn : Fn) (first cap : Array Value) (w : World), (Instr.makeFunc fn first cap).run Tryd.prog w = .ok (.func fn first cap) w := fun _ _ _ _ => rfl
  go_enter Tryd.func124, Tryd.ntmps124
  go_wp2_with fail
  refine (primes_any _).mono ?_
  rintro e1 w1 ⟨rfl, hb1⟩
  have q0 : Row w1 w.heap.size 177 (ws (List.replicate 8 0)) := Row.below ((Row.new _ _ (ws (List.replicate 8 0))).alloc _) hb1 (by simp; omega)
  have q1 : Row w1 (w.heap.size + 1) 177 (ws (List.replicate 8 0)) := Row.below (Row.new1 _ _ _ (ws (List.replicate 8 0))) hb1 (by simp)
  have hbel1 : Below w.heap.size w w1 := (((Below.refl _ w).alloc (Nat.le_refl _) _).alloc (by simp) _).trans (hb1.mono (by simp; omega))
  have hsz : w.heap.size + 2 ≤ w1.heap.size := by have := hb1.size; simpa using this
  clear hb1
  go_wp2_with (with_reducible (show wpList _ _ _ (⟨_, Op.store 189 _ _, _, _, _, _⟩ :: _) _ _)
               refine store_new (w := w1) rfl 189 _ _ rfl w1.heap.size (ns P64) rfl rfl _ _ rfl 64 (by kernel_rfl) (by rfl) (by rw [ns_size, P64_length]) (ns_one _) ?_)
  go_loopw [5] (fun i wr => ∃ k : Nat, k ≤ 8 ∧ i = .int .i64 k ∧ Row wr w.heap.size 177 (ws (List.replicate 8 0)) ∧ Row wr (w.heap.size + 1) 177 (ws (HW.take k ++ List.replicate (8 - k) 0)) ∧ Row wr w1.heap.size 189 (ns P64) ∧ Below w.heap.size w wr)
    (fun i _ => 8 - (intOf i).toNat)
  case atStart => exact ⟨0, by omega, rfl, q0.alloc _, by simpa using q1.alloc _, Row.new _ _ _, hbel1.alloc hbel1.size _⟩
  case round =>
    clear q0 q1 hbel1
    obtain ⟨k, hk, rfl, r0, r1, r3, hbel⟩ := hrel
    by_cases hlt : k < 8
    · have HG := hide (fill_set HW 0 k 8 HW_length hlt _ (HW_get k hlt))
      have HQ := hide (squareG k hlt)
      obtain ⟨v, hv⟩ : ∃ v, wr.cell? ⟨w.heap.size + 1, k, none⟩ = some v := ⟨_, r1.cellW (by simp [HW_length]; omega)⟩
      have f1 := r1.frozen k
      have hl1 := r1.lt
      have hd : decide ((k : Int) < 8) = true := by simp; omega
      have hk0 : (0 : Int) ≤ (k : Int) ∧ (k : Int) < 8 := by omega
      go_wp2
      go_region_with (go_at_call 132; refine (HQ.out w1.heap.size wr.heap.size _ (by exact (r3.alloc _).drew) (by simp)).mono ?_; rintro e1 w2 ⟨r, rfl, h0, h1, hf, hw⟩; rw [hw]; clear hw)
      all_goals
        have hwr : IntKind.u32.wrap r = u (gw HW k) := by rw [IntKind.wrap_u32', hf.out]
        simp only [hwr]
        clear hwr
        go_wp2
        go_roundw
        case rel =>
          refine ⟨k + 1, by omega, by go_num, ((r0.other (by show w.heap.size ≠ w.heap.size + 1; omega) _).alloc _).drew, ?_, ((r3.other (by show w1.heap.size ≠ w.heap.size + 1; omega) _).alloc _).drew, ((hbel.setCell (p := ⟨w.heap.size + 1, k, none⟩) (by show w.heap.size ≤ w.heap.size + 1; omega) _).alloc (by have := hbel.size; simpa using this) _).drew⟩
          have := r1.set k (.int .u32 (u (gw HW k)))
          rw [ws_set, HG.out] at this
          exact (this.alloc _).drew
        case measure => simp [intOf]; omega
    · have r2 : Row wr (w.heap.size + 1) 177 (ws HW) := by
        have := r1
        rw [show k = 8 by omega, List.take_of_length_le (by rw [HW_length]; exact Nat.le_refl _)] at this
        simpa using this
      clear r1
      go_wp2_with (first
        | (with_reducible (show wpList _ _ _ (⟨_, Op.load 177 _, _, _, _, _⟩ :: _) _ _)
           refine load_row rfl 177 _ rfl (w.heap.size + 1) rfl _ _ r2 8 176 Tryd.underlying177 (by kernel_rfl) (by rw [ws_size, HW_length]) ?_)
        | (with_reducible (show wpList _ _ _ (⟨_, Op.store 177 _ _, _, _, _, _⟩ :: _) _ _)
           refine store_row rfl 177 _ _ rfl w.heap.size (ws HW) rfl rfl _ _ r0 8 (by kernel_rfl) (by rw [ws_size, List.length_replicate]) (by rw [ws_size, HW_length]) (ws_one _) ?_))
      refine bodyPost_ret (result_row rfl _ _ w.heap.size _ _ (r0.put _) 8 176 rfl Tryd.underlying177 (by kernel_rfl) (by rw [ws_size, HW_length])) rfl ⟨rfl, bSetRow hbel (Nat.le_refl _) _⟩
end Go.Proofs.YtjccjlhnjihfjaaDoor

/-!  -/
namespace Go.Proofs.YtjccjlhnjihfjaaDoor
open Go.RowKit

set_option maxHeartbeats 400000 in
theorem rot_any (x : Wd) (n : Int) (w : World) (h0 : 1 ≤ n) (h1 : n ≤ 31) :
    Calls Tryd.prog 151 #[.int .u32 (u x), .int .i64 (-n)] w fun e w' => e = .returned (.int .u32 (u (rr x n.toNat))) ∧ w' = w := by
  have hx0 := u_nn x
  have hx1 := u_le x
  have ha := and31 n h0 h1
  have hs1 := wsl x (32 - n.toNat)
  have hs2 := wsr x n.toNat
  have hb := bo (sl x (32 - n.toNat)) (sr x n.toNat)
  rw [rr_comm] at hb
  have e1 : (32 - n).toNat = 32 - n.toNat := by omega
  have e2 : (32 : Int) - (32 - n) = n := by omega
  go_enter Tryd.func151, Tryd.ntmps151
  go_wp2
  go_ret
  exact ⟨rfl, rfl⟩

set_option maxHeartbeats 400000 in
theorem right_any (x : Wd) (n : Int) (w : World) (h0 : 1 ≤ n) (h1 : n ≤ 31) :
    Calls Tryd.prog 145 #[.int .u32 (u x), .int .i64 n] w fun e w' => e = .returned (.int .u32 (u (rr x n.toNat))) ∧ w' = w := by
  go_enter Tryd.func145, Tryd.ntmps145
  go_wp2_with fail
  refine (rot_any x n _ h0 h1).mono ?_
  rintro e w' ⟨rfl, rfl⟩
  go_wp2
  go_ret
  exact ⟨rfl, rfl⟩

end Go.Proofs.YtjccjlhnjihfjaaDoor

/-! What sha.turn answers. -/
namespace Go.Proofs.YtjccjlhnjihfjaaDoor
open Go.RowKit
set_option maxRecDepth 20000 in
set_option maxHeartbeats 400000 in
theorem turn_eight (a b c d e f g h kw : Wd) (w : World) :
    Calls Tryd.prog 140 #[.agg #[.int .u32 (u a), .int .u32 (u b), .int .u32 (u c), .int .u32 (u d), .int .u32 (u e), .int .u32 (u f), .int .u32 (u g), .int .u32 (u h)], .int .u32 (u kw)] w fun r w' => r = .returned (.agg (ws (turnL [a, b, c, d, e, f, g, h] kw))) ∧ Below w.heap.size w w' := by
  have hx := bx
  have ha := ba
  have ho := bo
  have hn := bnot
  have hp := wadd
  have hch := ch_or
  have hmj := maj_or
  go_enter Tryd.func140, Tryd.ntmps140
  go_wp2
  go_quiet (fail)
  go_wp2_with fail
  refine (right_any e 6 _ (by omega) (by omega)).mono ?_
  rintro e1 w1 ⟨rfl, hw⟩
  rw [hw]; clear hw
  go_wp2_with fail
  refine (right_any e 11 _ (by omega) (by omega)).mono ?_
  rintro e1 w1 ⟨rfl, hw⟩
  rw [hw]; clear hw
  go_wp2_with fail
  refine (right_any e 25 _ (by omega) (by omega)).mono ?_
  rintro e1 w1 ⟨rfl, hw⟩
  rw [hw]; clear hw
  go_wp2_with fail
  refine (right_any a 2 _ (by omega) (by omega)).mono ?_
  rintro e1 w1 ⟨rfl, hw⟩
  rw [hw]; clear hw
  go_wp2_with fail
  refine (right_any a 13 _ (by omega) (by omega)).mono ?_
  rintro e1 w1 ⟨rfl, hw⟩
  rw [hw]; clear hw
  go_wp2_with fail
  refine (right_any a 22 _ (by omega) (by omega)).mono ?_
  rintro e1 w1 ⟨rfl, hw⟩
  rw [hw]; clear hw
  go_wp2
  refine bodyPost_ret (v := .agg (ws (turnL [a, b, c, d, e, f, g, h] kw))) ?_ rfl ⟨rfl, ?_⟩
  · simp [results, Tryd.results140, go_sem, ws, turnL, gw, T1, T2, S1, S0]
  · exact ((((((((below_drewN (((Below.refl _ w).alloc (Nat.le_refl _) _).alloc (by simp) _) _).setCell (p := ⟨w.heap.size + 1, 0, none⟩) (Nat.le_succ _) _).setCell (p := ⟨w.heap.size + 1, 1, none⟩) (Nat.le_succ _) _).setCell (p := ⟨w.heap.size + 1, 2, none⟩) (Nat.le_succ _) _).setCell (p := ⟨w.heap.size + 1, 3, none⟩) (Nat.le_succ _) _).setCell (p := ⟨w.heap.size + 1, 4, none⟩) (Nat.le_succ _) _).setCell (p := ⟨w.heap.size + 1, 5, none⟩) (Nat.le_succ _) _).setCell (p := ⟨w.heap.size + 1, 6, none⟩) (Nat.le_succ _) _).setCell (p := ⟨w.heap.size + 1, 7, none⟩) (Nat.le_succ _) _

/-- sha.turn, its answer written out. -/
theorem turn_exp (a b c d e f g h kw : Wd) (w : World) :
    Calls Tryd.prog 140 #[.agg #[.int .u32 (u a), .int .u32 (u b), .int .u32 (u c), .int .u32 (u d), .int .u32 (u e), .int .u32 (u f), .int .u32 (u g), .int .u32 (u h)], .int .u32 (u kw)] w fun r w' =>
      r = .returned (.agg #[.int .u32 (u (ad (T1 e f g h kw) (T2 a b c))), .int .u32 (u a), .int .u32 (u b), .int .u32 (u c), .int .u32 (u (ad d (T1 e f g h kw))), .int .u32 (u e), .int .u32 (u f), .int .u32 (u g)]) ∧ Below w.heap.size w w' :=
  turn_eight a b c d e f g h kw w

end Go.Proofs.YtjccjlhnjihfjaaDoor

/-! What sha.schedule answers. -/
namespace Go.Proofs.YtjccjlhnjihfjaaDoor
open Go.RowKit
set_option maxRecDepth 20000 in
set_option maxHeartbeats 400000 in
theorem schedule_any (b : List By) (hb : b.length = 64) (w : World) :
    Calls Tryd.prog 139 #[.agg (bs b)] w fun e w' => e = .returned (.agg (ws (sched b))) ∧ Below w.heap.size w w' := by
  have HB : Hid (b.length = 64) := hb
  clear hb
  have R0 : Row (w.alloc (.cells (bs b) 162)) w.heap.size 162 (bs b) := Row.new _ _ _
  go_enter Tryd.func139, Tryd.ntmps139
  go_wp2_with (refine load_row rfl 162 _ rfl w.heap.size rfl _ _ ((R0.alloc _).alloc _) 64 5 Tryd.underlying162 (by kernel_rfl) (by rw [bs_size, HB.out]) ?_)
  go_loopw [12] (fun i wr => ∃ k : Nat, k ≤ 64 ∧ i = .int .i64 k ∧ Row wr (w.heap.size + 1) 180 (ws (List.replicate 64 0)) ∧ Row wr (w.heap.size + 1 + 1) 180 (ws (parts b k)) ∧ Below w.heap.size w wr)
    (fun i _ => 64 - (intOf i).toNat)
  case atStart =>
    refine ⟨0, by omega, rfl, ?_, ?_, ?_⟩
    · have := (Row.new (w.alloc (.cells (bs b) 162)) 180 (ws (List.replicate 64 0))).alloc (.cells (ws (List.replicate 64 0)) 180)
      rw [World.size_alloc] at this
      exact this
    · have := Row.new ((w.alloc (.cells (bs b) 162)).alloc (.cells (ws (List.replicate 64 0)) 180)) 180 (ws (List.replicate 64 0))
      simp only [World.size_alloc] at this
      rw [parts_zero]
      exact this
    · exact (((Below.refl _ w).alloc (Nat.le_refl _) _).alloc (by simp) _).alloc (by simp; omega) _
  case round =>
    clear R0
    obtain ⟨k, hk, rfl, r1, r2, hbel⟩ := hrel
    by_cases hlt : k < 64
    · have hg := bs_get b k (by rw [HB.out]; exact hlt)
      rw [v8_ex] at hg
      have hix := fun W => run_index (P := Tryd.prog) 162 5 64 _ (bs b) k _ Tryd.underlying162 Tryd.underlying5 rfl (by kernel_rfl) hlt hg W
      clear hg
      have hc0 := u_nn (ex (gb b k))
      have hc1 : u (ex (gb b k)) ≤ 255 := by rw [← v8_ex]; exact v8_le _
      have c2 := r2.cellW (j := k / 4) (by rw [parts_length]; omega)
      have f2 := r2.frozen (k / 4)
      have h8 := wsl (gw (parts b k) (k / 4)) 8
      have ho := bo (sl (gw (parts b k) (k / 4)) 8) (ex (gb b k))
      go_wp2
      go_roundw
      case rel =>
        rw [show (256 : Int) = 2 ^ 8 by decide, h8, ho]
        refine ⟨k + 1, by omega, by go_num, r1.other (by show w.heap.size + 1 ≠ w.heap.size + 1 + 1; omega) _, ?_, hbel.setCell (p := ⟨w.heap.size + 1 + 1, k / 4, none⟩) (by show w.heap.size ≤ w.heap.size + 1 + 1; omega) _⟩
        have := r2.set (k / 4) (.int .u32 (u (oo (sl (gw (parts b k) (k / 4)) 8) (ex (gb b k)))))
        rw [ws_set, parts_step b k HB.out hlt] at this
        exact this
      case measure => simp [intOf]; omega
    · have r3 := r2
      rw [show k = 64 by omega, ← schedR_zero] at r3
      have hd : decide ((k : Int) < 64) = false := by simp; omega
      clear r2
      go_wp2
      go_loopw [6] (fun i wr => ∃ t : Nat, 16 ≤ t ∧ t ≤ 64 ∧ i = .int .i64 t ∧ Row wr (w.heap.size + 1) 180 (ws (List.replicate 64 0)) ∧ Row wr (w.heap.size + 1 + 1) 180 (ws (schedR b (t - 16))) ∧ Below w.heap.size w wr)
        (fun i _ => 64 - (intOf i).toNat)
      case atStart => exact ⟨16, by omega, by omega, rfl, r1, r3, hbel⟩
      case round =>
        clear r1 r3 hbel
        obtain ⟨t, ht0, ht, rfl, r1, r2, hbel⟩ := hrel
        by_cases hlt : t < 64
        · have hlen : (schedR b (t - 16)).length = 64 := schedR_length b _ (by omega)
          have c2 := r2.cellW (j := t - 2) (by rw [hlen]; omega)
          have c15 := r2.cellW (j := t - 15) (by rw [hlen]; omega)
          have c7 := r2.cellW (j := t - 7) (by rw [hlen]; omega)
          have c16 := r2.cellW (j := t - 16) (by rw [hlen]; omega)
          obtain ⟨v, hv⟩ : ∃ v, wr.cell? ⟨w.heap.size + 1 + 1, t, none⟩ = some v := ⟨_, r2.cellW (by rw [hlen]; omega)⟩
          have f2 := r2.frozen t
          have hst : Hid ((schedR b (t - 16)).set t (ad (ad (ad (s1 (gw (schedR b (t - 16)) (t - 2))) (gw (schedR b (t - 16)) (t - 7))) (s0 (gw (schedR b (t - 16)) (t - 15)))) (gw (schedR b (t - 16)) (t - 16))) = schedR b (t + 1 - 16)) := by
            have := schedR_step b (t - 16) (by omega)
            rw [show 16 + (t - 16) = t by omega, show t - 16 + 1 = t + 1 - 16 by omega] at this
            exact this
          generalize gw (schedR b (t - 16)) (t - 2) = x2 at *
          generalize gw (schedR b (t - 16)) (t - 7) = x7 at *
          generalize gw (schedR b (t - 16)) (t - 15) = x15 at *
          generalize gw (schedR b (t - 16)) (t - 16) = x16 at *
          clear hlen
          have h10 : u x2 / 1024 = u (sr x2 10) := wsr x2 10
          have h3 : u x15 / 8 = u (sr x15 3) := wsr x15 3
          have hx1 := bx (rr x2 17) (rr x2 19)
          have hx2 : bits .xor .u32 (u (xr (rr x2 17) (rr x2 19))) (u (sr x2 10)) = u (s1 x2) := bx _ _
          have hx3 := bx (rr x15 7) (rr x15 18)
          have hx4 : bits .xor .u32 (u (xr (rr x15 7) (rr x15 18))) (u (sr x15 3)) = u (s0 x15) := bx _ _
          have hp1 := wadd (s1 x2) x7
          have hp2 := wadd (ad (s1 x2) x7) (s0 x15)
          have hp3 := wadd (ad (ad (s1 x2) x7) (s0 x15)) x16
          go_wp2
          go_quiet (fail)
          go_wp2_with fail
          refine (right_any x2 17 _ (by omega) (by omega)).mono ?_
          rintro e1 w1 ⟨rfl, hw⟩
          rw [hw]; clear hw
          go_wp2_with fail
          refine (right_any x2 19 _ (by omega) (by omega)).mono ?_
          rintro e1 w1 ⟨rfl, hw⟩
          rw [hw]; clear hw
          go_wp2_with fail
          refine (right_any x15 7 _ (by omega) (by omega)).mono ?_
          rintro e1 w1 ⟨rfl, hw⟩
          rw [hw]; clear hw
          go_wp2_with fail
          refine (right_any x15 18 _ (by omega) (by omega)).mono ?_
          rintro e1 w1 ⟨rfl, hw⟩
          rw [hw]; clear hw
          have hw7 : IntKind.i64.wrap ((t : Int) - 7) = (t : Int) - 7 := by rw [IntKind.wrap_i64]; omega
          have hw16 : IntKind.i64.wrap ((t : Int) - 16) = (t : Int) - 16 := by rw [IntKind.wrap_i64]; omega
          have hq7 : ((t : Int) - 7).toNat = t - 7 := by omega
          have hq16 : ((t : Int) - 16).toNat = t - 16 := by omega
          have hl7 : (0 : Int) ≤ (t : Int) - 7 ∧ (t : Int) - 7 < 64 := by omega
          have hl16 : (0 : Int) ≤ (t : Int) - 16 ∧ (t : Int) - 16 < 64 := by omega
          have hlt' : (0 : Int) ≤ (t : Int) ∧ (t : Int) < 64 := by omega
          go_wp2
          go_region
          all_goals go_wp2
          all_goals
            go_roundw
            case rel =>
              refine ⟨t + 1, by omega, by omega, by go_num, r1.other (by show w.heap.size + 1 ≠ w.heap.size + 1 + 1; omega) _, ?_, (below_drewN hbel _).setCell (p := ⟨w.heap.size + 1 + 1, t, none⟩) (by show w.heap.size ≤ w.heap.size + 1 + 1; omega) _⟩
              have := r2.set t (.int .u32 (u (ad (ad (ad (s1 x2) x7) (s0 x15)) x16)))
              rw [ws_set, hst.out] at this
              exact this
            case measure => simp [intOf]; omega
        · obtain rfl : t = 64 := by omega
          have r3 := r2
          rw [schedR_all] at r3
          clear r2
          go_wp2_with (first
            | (refine load_row rfl 180 _ rfl (w.heap.size + 1 + 1) rfl _ _ r3 64 176 Tryd.underlying180 (by kernel_rfl) (by rw [ws_size, sched_length]) ?_)
            | (refine store_row rfl 180 _ _ rfl (w.heap.size + 1) (ws (sched b)) rfl rfl _ _ r1 64 (by kernel_rfl) (by rw [ws_size, List.length_replicate]) (by rw [ws_size, sched_length]) (ws_one _) ?_))
          refine bodyPost_ret (result_row rfl _ _ (w.heap.size + 1) _ _ (r1.put _) 64 176 rfl Tryd.underlying180 (by kernel_rfl) (by rw [ws_size, sched_length])) rfl ⟨rfl, bSetRow hbel (by omega) _⟩
end Go.Proofs.YtjccjlhnjihfjaaDoor

/-! What sha.further answers. -/
namespace Go.Proofs.YtjccjlhnjihfjaaDoor
open Go.RowKit
attribute [local go_sem ↓] Go.wp_at_zero Go.wp_at_succ

set_option maxRecDepth 20000 in
set_option maxHeartbeats 400000 in
theorem further_any (s k : List Wd) (b : List By) (hs : s.length = 8) (hk : k.length = 64) (hb : b.length = 64) (w : World) :
    Calls Tryd.prog 126 #[.agg (ws s), .agg (ws k), .agg (bs b)] w fun e w' => e = .returned (.agg (ws (furtherL s k b))) ∧ Below w.heap.size w w' := by
  have HS : Hid (s.length = 8) := hs
  have HK : Hid (k.length = 64) := hk
  have HB : Hid (b.length = 64) := hb
  clear hs hk hb
  have q2 : ∀ o, Row ((((w.alloc (.cells (ws s) 177)).alloc (.cells (ws k) 180)).alloc (.cells (bs b) 162)).alloc o) (w.heap.size + 1 + 1) 162 (bs b) := fun o => (Row.new2 _ _ _ _ _).alloc o
  go_enter Tryd.func126, Tryd.ntmps126
  go_wp2_with (refine load_row rfl 162 _ rfl (w.heap.size + 1 + 1) rfl _ _ (q2 _) 64 5 Tryd.underlying162 (by kernel_rfl) (by rw [bs_size, HB.out]) ?_)
  refine (schedule_any b HB.out _).mono ?_
  rintro e1 w1 ⟨rfl, hb1⟩
  have q0 : Row w1 w.heap.size 177 (ws s) := Row.below ((((Row.new _ _ _).alloc _).alloc _).alloc _) hb1 (by simp; omega)
  have q1 : Row w1 (w.heap.size + 1) 180 (ws k) := Row.below (((Row.new1 _ _ _ _).alloc _).alloc _) hb1 (by simp)
  have q3 : Row w1 (w.heap.size + 1 + 1 + 1) 177 (ws (List.replicate 8 0)) := Row.below (Row.new3 _ _ _ _ _ _) hb1 (by simp)
  have hbel1 : Below w.heap.size w w1 := (((((Below.refl _ w).alloc (Nat.le_refl _) _).alloc (by simp) _).alloc (by simp; omega) _).alloc (by simp; omega) _).trans (hb1.mono (by simp; omega))
  have hsz : w.heap.size + 4 ≤ w1.heap.size := by have := hb1.size; simp at this; omega
  clear hb1 q2
  have q0' := q0.alloc (.cells (ws (sched b)) 180)
  go_wp2_with (first
    | (with_reducible (show wpList _ _ _ (⟨_, Op.store 180 _ _, _, _, _, _⟩ :: _) _ _)
       refine store_new (w := w1) rfl 180 _ _ rfl w1.heap.size (ws (sched b)) rfl rfl _ _ rfl 64 (by kernel_rfl) (by rfl) (by rw [ws_size, sched_length]) (ws_one _) ?_)
    | (with_reducible (show wpList _ _ _ (⟨_, Op.load 177 _, _, _, _, _⟩ :: _) _ _)
       refine load_row rfl 177 _ rfl w.heap.size rfl _ _ q0' 8 176 Tryd.underlying177 (by kernel_rfl) (by rw [ws_size, HS.out]) ?_)
    | (with_reducible (show wpList _ _ _ (⟨_, Op.store 177 _ _, _, _, _, _⟩ :: _) _ _)
       refine store_new (w := w1.alloc (.cells (ws (sched b)) 180)) rfl 177 _ _ rfl (w1.heap.size + 1) (ws s) rfl rfl _ _ (by simp) 8 (by kernel_rfl) (by rfl) (by rw [ws_size, HS.out]) (ws_one _) ?_))
  go_loopw [14] (fun i wr => ∃ t : Nat, t ≤ 64 ∧ i = .int .i64 t ∧ Row wr w.heap.size 177 (ws s) ∧ Row wr (w.heap.size + 1) 180 (ws k) ∧ Row wr (w.heap.size + 1 + 1 + 1) 177 (ws (List.replicate 8 0)) ∧ Row wr w1.heap.size 180 (ws (sched b)) ∧ Row wr (w1.heap.size + 1) 177 (ws (roundsTo s k (sched b) t)) ∧ Below w.heap.size w wr)
    (fun i _ => 64 - (intOf i).toNat)
  case atStart => exact ⟨0, by omega, rfl, q0'.alloc _, (q1.alloc _).alloc _, (q3.alloc _).alloc _, (Row.new _ _ _).alloc _, Row.new1 _ _ _ _, (hbel1.alloc hbel1.size _).alloc (by have := hbel1.size; simp; omega) _⟩
  case round =>
    clear q0 q1 q3 q0' hbel1
    obtain ⟨t, ht, rfl, r0, r1, r3, r4, r5, hbel⟩ := hrel
    by_cases hlt : t < 64
    · obtain ⟨a, b', c, d, e, f, g, h, he⟩ := eight (roundsTo_length s k (sched b) HS.out t)
      have HE : Hid (roundsTo s k (sched b) (t + 1) = turnL [a, b', c, d, e, f, g, h] (ad (gw k t) (gw (sched b) t))) := show roundsTo s k (sched b) (t + 1) = _ by rw [roundsTo, he]
      rw [he] at r5
      have hg5 := r5.lt
      have ck := r1.cellW (j := t) (by rw [HK.out]; exact hlt)
      have cw := r4.cellW (j := t) (by rw [sched_length]; exact hlt)
      generalize gw k t = x at *
      generalize gw (sched b) t = y at *
      have c0 : wr.cell? ⟨w1.heap.size + 1, 0, none⟩ = some (.int .u32 (u a)) := r5.cellW (j := 0) (by simp)
      have c1 : wr.cell? ⟨w1.heap.size + 1, 1, none⟩ = some (.int .u32 (u b')) := r5.cellW (j := 1) (by simp)
      have c2 : wr.cell? ⟨w1.heap.size + 1, 2, none⟩ = some (.int .u32 (u c)) := r5.cellW (j := 2) (by simp)
      have c3 : wr.cell? ⟨w1.heap.size + 1, 3, none⟩ = some (.int .u32 (u d)) := r5.cellW (j := 3) (by simp)
      have c4 : wr.cell? ⟨w1.heap.size + 1, 4, none⟩ = some (.int .u32 (u e)) := r5.cellW (j := 4) (by simp)
      have c5 : wr.cell? ⟨w1.heap.size + 1, 5, none⟩ = some (.int .u32 (u f)) := r5.cellW (j := 5) (by simp)
      have c6 : wr.cell? ⟨w1.heap.size + 1, 6, none⟩ = some (.int .u32 (u g)) := r5.cellW (j := 6) (by simp)
      have c7 : wr.cell? ⟨w1.heap.size + 1, 7, none⟩ = some (.int .u32 (u h)) := r5.cellW (j := 7) (by simp)
      have f5 := fun j => r5.frozen j
      have hp := wadd x y
      have ht0 : (0 : Int) ≤ (t : Int) ∧ (t : Int) < 64 := by omega
      clear he
      go_wp2
      go_region_with (go_at_call 140; refine (turn_exp a b' c d e f g h (ad x y) _).mono ?_; rintro e1 w2 ⟨rfl, hb2⟩; obtain ⟨hc2, hf2⟩ := bcell hb2; have d0 := (hc2 (w1.heap.size + 1) 0 hg5).trans c0; have d1 := (hc2 (w1.heap.size + 1) 1 hg5).trans c1; have d2 := (hc2 (w1.heap.size + 1) 2 hg5).trans c2; have d3 := (hc2 (w1.heap.size + 1) 3 hg5).trans c3; have d4 := (hc2 (w1.heap.size + 1) 4 hg5).trans c4; have d5 := (hc2 (w1.heap.size + 1) 5 hg5).trans c5; have d6 := (hc2 (w1.heap.size + 1) 6 hg5).trans c6; have d7 := (hc2 (w1.heap.size + 1) 7 hg5).trans c7; have d8 := fun j => (hf2 (w1.heap.size + 1) j hg5).trans (f5 j); clear hc2 hf2)
      all_goals go_wp2
      all_goals
        go_roundw
        case rel =>
          have hb2' : Below w.heap.size w w2 := hbel.drew.trans (hb2.mono (by have := hbel.size; exact this))
          have s0 := r0.drew.below hb2 r0.lt
          have s1 := r1.drew.below hb2 r1.lt
          have s3 := r3.drew.below hb2 r3.lt
          have s4 := r4.drew.below hb2 r4.lt
          have s5 := r5.drew.below hb2 r5.lt
          refine ⟨t + 1, by omega, by go_num, put8_other s0 (by omega) _ _ _ _ _ _ _ _, put8_other s1 (by omega) _ _ _ _ _ _ _ _, put8_other s3 (by omega) _ _ _ _ _ _ _ _, put8_other s4 (by omega) _ _ _ _ _ _ _ _, ?_, put8_below hb2' (by omega) _ _ _ _ _ _ _ _⟩
          rw [HE.out]
          exact put8_row s5 (by rw [ws_size]; rfl) _ _ _ _ _ _ _ _
        case measure => simp [intOf]; omega
    · have hd : decide ((t : Int) < 64) = false := by simp; omega
      rw [show t = 64 by omega] at r5
      have hn : Hid ((roundsTo s k (sched b) 64).length = 8) := roundsTo_length s k (sched b) HS.out 64
      have HF : Hid (furtherL s k b = sumS s (roundsTo s k (sched b) 64)) := rfl
      generalize roundsTo s k (sched b) 64 = n at *
      clear r1 r4
      go_wp2
      go_loopw [27] (fun i wr => ∃ t : Nat, t ≤ 8 ∧ i = .int .i64 t ∧ Row wr w.heap.size 177 (ws (mix (sumS s n) s t)) ∧ Row wr (w.heap.size + 1 + 1 + 1) 177 (ws (List.replicate 8 0)) ∧ Row wr (w1.heap.size + 1) 177 (ws n) ∧ Below w.heap.size w wr)
        (fun i _ => 8 - (intOf i).toNat)
      case atStart => exact ⟨0, by omega, rfl, by rw [mix_zero]; exact r0, r3, r5, hbel⟩
      case round =>
        clear r0 r3 r5 hbel
        obtain ⟨i, hi, rfl, r0, r3, r5, hbel⟩ := hrel
        by_cases hlt : i < 8
        · have c0 := r0.cellW (j := i) (by rw [mix_length _ _ i 8 (sumS_length s n) HS.out hi]; exact hlt)
          rw [gw_mix _ _ i 8 (sumS_length s n) hlt] at c0
          have c5 := r5.cellW (j := i) (by rw [hn.out]; exact hlt)
          have f0 := r0.frozen i
          have hst : Hid ((mix (sumS s n) s i).set i (ad (gw s i) (gw n i)) = mix (sumS s n) s (i + 1)) := mix_set _ _ i 8 (sumS_length s n) HS.out hlt _ (sumS_get s n i hlt)
          generalize gw s i = x at *
          generalize gw n i = y at *
          have hp := wadd x y
          have hi0 : (0 : Int) ≤ (i : Int) ∧ (i : Int) < 8 := by omega
          go_wp2
          go_region
          all_goals go_wp2
          all_goals
            go_roundw
            case rel =>
              refine ⟨i + 1, by omega, by go_num, ?_, r3.other (by show w.heap.size + 1 + 1 + 1 ≠ w.heap.size; omega) _, r5.other (by show w1.heap.size + 1 ≠ w.heap.size; omega) _, hbel.drew.setCell (p := ⟨w.heap.size, i, none⟩) (Nat.le_refl _) _⟩
              have := r0.set i (.int .u32 (u (ad x y)))
              rw [ws_set, hst.out] at this
              exact this
            case measure => simp [intOf]; omega
        · rw [show i = 8 by omega, mix_all _ _ 8 (sumS_length s n) HS.out, ← HF.out] at r0
          go_wp2_with (first
            | (with_reducible (show wpList _ _ _ (⟨_, Op.load 177 _, _, _, _, _⟩ :: _) _ _)
               refine load_row rfl 177 _ rfl w.heap.size rfl _ _ r0 8 176 Tryd.underlying177 (by kernel_rfl) (by rw [ws_size, furtherL_length]) ?_)
            | (with_reducible (show wpList _ _ _ (⟨_, Op.store 177 _ _, _, _, _, _⟩ :: _) _ _)
               refine store_row rfl 177 _ _ rfl (w.heap.size + 1 + 1 + 1) (ws (furtherL s k b)) rfl rfl _ _ r3 8 (by kernel_rfl) (by rw [ws_size, List.length_replicate]) (by rw [ws_size, furtherL_length]) (ws_one _) ?_))
          refine bodyPost_ret (result_row rfl _ _ (w.heap.size + 1 + 1 + 1) _ _ (r3.put _) 8 176 rfl Tryd.underlying177 (by kernel_rfl) (by rw [ws_size, furtherL_length])) rfl ⟨rfl, bSetRow hbel (by omega) _⟩
end Go.Proofs.YtjccjlhnjihfjaaDoor

/-! What sha.asBytes answers. -/
namespace Go.Proofs.YtjccjlhnjihfjaaDoor
open Go.RowKit
set_option maxRecDepth 20000 in
set_option maxHeartbeats 400000 in
theorem asBytes_any (s : List Wd) (hs : s.length = 8) (w : World) :
    Calls Tryd.prog 127 #[.agg (ws s)] w fun e w' => e = .returned (.agg (bs (sumB s))) ∧ Below w.heap.size w w' := by
  have HS : Hid (s.length = 8) := hs
  clear hs
  go_enter Tryd.func127, Tryd.ntmps127
  go_wp2
  go_loopw [5] (fun i wr => ∃ k : Nat, k ≤ 32 ∧ i = .int .i64 k ∧ Row wr w.heap.size 177 (ws s) ∧ Row wr (w.heap.size + 1) 23 (bs (List.replicate 32 0)) ∧ Row wr (w.heap.size + 1 + 1) 23 (bs ((sumB s).take k ++ List.replicate (32 - k) 0)) ∧ Below w.heap.size w wr)
    (fun i _ => 32 - (intOf i).toNat)
  case atStart =>
    refine ⟨0, by omega, rfl, ((Row.new _ _ _).alloc _).alloc _, ?_, ?_, ?_⟩
    · have := (Row.new (w.alloc (.cells (ws s) 177)) 23 (bs (List.replicate 32 0))).alloc (.cells (bs (List.replicate 32 0)) 23)
      rw [World.size_alloc] at this
      exact this
    · have := Row.new ((w.alloc (.cells (ws s) 177)).alloc (.cells (bs (List.replicate 32 0)) 23)) 23 (bs (List.replicate 32 0))
      simp only [World.size_alloc] at this
      exact this
    · exact (((Below.refl _ w).alloc (Nat.le_refl _) _).alloc (by simp) _).alloc (by simp; omega) _
  case round =>
    obtain ⟨k, hk, rfl, r0, r1, r2, hbel⟩ := hrel
    by_cases hlt : k < 32
    · obtain ⟨q, r, hr, rfl⟩ : ∃ q r, r < 4 ∧ k = 4 * q + r := ⟨k / 4, k % 4, by omega, by omega⟩
      have c0 := r0.cellW (j := q) (by rw [HS.out]; omega)
      have hu0 := u_nn (gw s q)
      have hu1 := u_le (gw s q)
      obtain ⟨v, hv⟩ : ∃ v, wr.cell? ⟨w.heap.size + 1 + 1, 4 * q + r, none⟩ = some v := ⟨_, r2.cellB (by simp [sumB_length]; omega)⟩
      have f2 := r2.frozen (4 * q + r)
      have e1 : (4 * (q : Int) + (r : Int)) / 4 = (q : Int) := by omega
      have e2 : (4 * (q : Int) + (r : Int)) % 4 = (r : Int) := by omega
      go_wp2
      go_roundw
      case rel =>
        have ew : u (gw s q) / 2 ^ (24 - 8 * r) % 256 = v8 (byteOf (gw s q) r) := by rw [wsr]; exact v8_byteOf _ _
        rw [ew]
        refine ⟨4 * q + r + 1, by omega, by go_num, r0.other (by show w.heap.size ≠ w.heap.size + 1 + 1; omega) _, r1.other (by show w.heap.size + 1 ≠ w.heap.size + 1 + 1; omega) _, ?_, hbel.setCell (p := ⟨w.heap.size + 1 + 1, 4 * q + r, none⟩) (by show w.heap.size ≤ w.heap.size + 1 + 1; omega) _⟩
        have := r2.set (4 * q + r) (.int .u8 (v8 (byteOf (gw s q) r)))
        rw [bs_set, fill_set (sumB s) 0 (4 * q + r) 32 (sumB_length s) hlt _ (by rw [sumB_get s _ hlt, show (4 * q + r) / 4 = q by omega, show (4 * q + r) % 4 = r by omega])] at this
        exact this
      case measure => simp [intOf]; omega
    · obtain rfl : k = 32 := by omega
      have r3 : Row wr (w.heap.size + 1 + 1) 23 (bs (sumB s)) := by
        have := r2
        rw [List.take_of_length_le (by rw [sumB_length]; omega)] at this
        simpa using this
      clear r2
      go_wp2_with (first
        | (refine load_row rfl 23 _ rfl (w.heap.size + 1 + 1) rfl _ _ r3 32 5 Tryd.underlying23 (by kernel_rfl) (by rw [bs_size, sumB_length]) ?_)
        | (refine store_row rfl 23 _ _ rfl (w.heap.size + 1) (bs (sumB s)) rfl rfl _ _ r1 32 (by kernel_rfl) (by rw [bs_size, List.length_replicate]) (by rw [bs_size, sumB_length]) (bs_one _) ?_))
      refine bodyPost_ret (result_row rfl _ _ (w.heap.size + 1) _ _ (r1.put _) 32 5 rfl Tryd.underlying23 (by kernel_rfl) (by rw [bs_size, sumB_length])) rfl ⟨rfl, bSetRow hbel (by omega) _⟩
end Go.Proofs.YtjccjlhnjihfjaaDoor

/-! What sha.Sum answers. -/
namespace Go.Proofs.YtjccjlhnjihfjaaDoor
open Go Go.RowKit Go.Shelf
attribute [local go_sem] Oper.semAt_some

def z8w : List Wd := List.replicate 8 0
def z64w : List Wd := List.replicate 64 0
theorem setRow_alloc1 (w : World) (c c' : Array Value) (t : TypeId) (o : Obj) : ((w.alloc (.cells c t)).alloc o).setRow w.heap.size c' = (w.alloc (.cells c' t)).alloc o := by
  have e : ((w.heap.push (.cells c t)).push o).modify w.heap.size (fun | .cells _ elem frozen => .cells c' elem frozen | o => o) = (w.heap.push (.cells c' t)).push o := by
    apply Array.ext_getElem?
    intro i
    rw [Array.getElem?_modify]
    by_cases hi : w.heap.size = i
    · subst hi
      simp [Array.getElem?_push]
    · rw [if_neg hi]
      simp only [Array.getElem?_push, Array.size_push]
      split
      · rfl
      · split
        · omega
        · rfl
  simp only [World.setRow, World.alloc]
  congr 1

set_option maxHeartbeats 400000 in
theorem blocks_in (F : Fence) (n : Nat) (h5 : F.fn 125) (hro : F.round = none) (a : Option Addr) (len cap : Nat) (w : World) :
    CallsIn F n Tryd.prog 125 #[.slice a len cap] w fun e w' => e = .returned (.func (.func 138) #[] #[.pointer (some ⟨w.heap.size, 0, none⟩)]) ∧ w' = w.alloc (.cells #[.slice a len cap] 28) := by
  refine callsIn_of_wp Tryd.func125 rfl h5 ?_ hro
  simp only [Tryd.ntmps125, List.size_toArray, List.length_cons, List.length_nil, Nat.reduceAdd, Nat.reduceSub, Array.replicate_succ, Array.replicate_zero, List.push_toArray, List.append_toArray, List.nil_append, List.cons_append]
  gi_wp2
  go_ret
  exact ⟨rfl, rfl⟩

theorem blocks_tells (F : Fence) (n : Nat) (h6 : F.fn 138) (hro : F.round = none) (hn : 1 ≤ n) (Bn st g off : Nat) (a : Option Addr) (len cap : Nat) (b : List By) (hb : b.length = len) (hl : len ≤ 1048576) (hcap : len ≤ cap) (ha : 0 < len → a = some ⟨g, off, none⟩) (hgs : 0 < len → g ≠ st) (hBs : Bn ≠ st)
    (w : World) (hBn : w.cell? ⟨Bn, 0, none⟩ = some (.slice a len cap)) (hBl : Bn < w.heap.size) (hst : st < w.heap.size) (hgl : 0 < len → g < w.heap.size) (hc : ∀ j : Nat, j < len → w.cell? ⟨g, off + j, none⟩ = some (.int .u8 (v8 (gb b j)))) :
    Tells F n Tryd.prog 138 #[.pointer (some ⟨Bn, 0, none⟩)] encB st (blkTo b (nb b)) w := fun l J W hW hJ hY h0 =>
  blocks1_in F n h6 hro hn l Bn st g off a len cap b hb hl hcap ha hgs hBs J W ((hW.cell (p := ⟨Bn, 0, none⟩) hBl).trans hBn) (Nat.lt_of_lt_of_le hBl hW.size) (Nat.lt_of_lt_of_le hst hW.size) (fun h => Nat.lt_of_lt_of_le (hgl h) hW.size)
    (fun j hj => (hW.cell (p := ⟨g, off + j, none⟩) (hgl (by omega))).trans (hc j hj)) hJ hY h0

set_option maxRecDepth 100000 in
set_option maxHeartbeats 1000000 in
theorem sum_any (g off : Nat) (a : Option Addr) (len cap : Nat) (b : List By) (w : World) (hb : b.length = len) (hl : len ≤ 1048576) (hcap : len ≤ cap) (ha : 0 < len → a = some ⟨g, off, none⟩) (hgl : 0 < len → g < w.heap.size) (hc : ∀ j : Nat, j < len → w.cell? ⟨g, off + j, none⟩ = some (.int .u8 (v8 (gb b j)))) :
    Calls Tryd.prog 118 #[.slice a len cap] w fun e w' => e = .returned (.tuple #[.agg (bs (sumL b)), .int .i64 0]) ∧ Below w.heap.size w w' := by
  have HB := veil hb
  have HA := veil ha
  have HGL := veil hgl
  have HC := veil hc
  clear hb ha hgl hc
  have hgt : ¬ ((1048576 : Int) < (len : Int)) := by omega
  refine (callsIn_wide (n := 4)).1 ?_
  refine callsIn_of_wp_marks Tryd.func118 rfl trivial ?_ rfl
  simp only [Tryd.ntmps118, List.size_toArray, List.length_cons, List.length_nil, Nat.reduceAdd, Nat.reduceSub, Array.replicate_succ, Array.replicate_zero, List.push_toArray, List.append_toArray, List.nil_append, List.cons_append]
  gi_wp2_with (with_reducible (show wpListIn _ _ _ _ _ (⟨_, Op.alloc 23, _, _, _, _⟩ :: _) _ _)
               refine alloc_rowIn rfl 23 rfl (bs z32) (by kernel_rfl) ?_)
  refine ⟨trivial, (callsIn_wide.2 (cubeWords_any _)).mono ?_⟩
  rintro e1 w1 ⟨rfl, hb1⟩
  have q0 : Row w1 w.heap.size 23 (bs z32) := Row.below (Row.new _ _ _) hb1 (by simp)
  have hbel1 : Below w.heap.size w w1 := ((Below.refl _ w).alloc (Nat.le_refl _) _).trans (hb1.mono (by simp))
  clear hb1
  gi_wp2_with fail
  refine ⟨trivial, (callsIn_wide.2 (squareWords_any _)).mono ?_⟩
  rintro e2 w2 ⟨rfl, hb2⟩
  have q1 := q0.below hb2 q0.lt
  have hbel2 := hbel1.trans (hb2.mono hbel1.size)
  clear hb2 hbel1 q0
  have hs2 := q1.lt
  have rA : Row ((w2.alloc (.cells (ws z64w) 180)).alloc (.cells (ws z8w) 177)) w2.heap.size 180 (ws z64w) := (Row.new _ _ _).alloc _
  have hrA := setRow_alloc1 w2 (ws z64w) (ws KW) 180 (.cells (ws z8w) 177)
  gi_wp2_with (first
    | (with_reducible (show wpListIn _ _ _ _ _ (⟨_, Op.alloc 180, _, _, _, _⟩ :: _) _ _)
       refine alloc_rowIn rfl 180 rfl (ws z64w) (by kernel_rfl) ?_)
    | (with_reducible (show wpListIn _ _ _ _ _ (⟨_, Op.alloc 177, _, _, _, _⟩ :: _) _ _)
       refine alloc_rowIn rfl 177 rfl (ws z8w) (by kernel_rfl) ?_)
    | (with_reducible (show wpListIn _ _ _ _ _ (⟨_, Op.store 180 _ _, _, _, _, _⟩ :: _) _ _)
       refine store_rowIn rfl 180 _ _ rfl w2.heap.size (ws KW) rfl rfl _ _ rA 64 (by kernel_rfl) (by rfl) (by rw [ws_size, KW_length]) (ws_one _) ?_
       rw [hrA])
    | (with_reducible (show wpListIn _ _ _ _ _ (⟨_, Op.store 177 _ _, _, _, _, _⟩ :: _) _ _)
       refine store_newIn (w := w2.alloc (.cells (ws KW) 180)) (by rfl) 177 _ _ (by rfl) (w2.alloc (.cells (ws z64w) 180)).heap.size (ws HW) (by rfl) (by rfl) 177 (ws z8w) (by simp) 8 (by kernel_rfl) (by rfl) (by rw [ws_size, HW_length]) (ws_one _) ?_))
  refine ⟨trivial, (blocks_in _ _ trivial rfl _ _ _ _).mono ?_⟩
  rintro e3 w3 ⟨rfl, hw⟩
  rw [hw]
  clear hw
  gi_wp2
  clear rA hrA
  obtain ⟨W0, hW0⟩ : ∃ W0, W0 = ((w2.alloc (.cells (ws KW) 180)).alloc (.cells (ws HW) 177)).alloc (.cells #[.slice a len cap] 28) := ⟨_, rfl⟩
  rw [← hW0]
  have hs0 : W0.heap.size = w2.heap.size + 3 := by rw [hW0]; simp
  have RK : Row W0 w2.heap.size 180 (ws KW) := by rw [hW0]; exact ((Row.new _ _ _).alloc _).alloc _
  have RS : Row W0 (w2.heap.size + 1) 177 (ws HW) := by rw [hW0]; exact (Row.new1 _ _ _ _).alloc _
  have R0 : Row W0 w.heap.size 23 (bs z32) := by rw [hW0]; exact ((q1.alloc _).alloc _).alloc _
  have CB : W0.cell? ⟨w2.heap.size + 1 + 1, 0, none⟩ = some (.slice a len cap) := by
    rw [hW0, (Row.new2 w2 _ _ 28 #[.slice a len cap]).cell 0]
    rfl
  have hbel0 : Below w.heap.size w W0 := by
    rw [hW0]
    exact ((hbel2.alloc hbel2.size _).alloc (by have := hbel2.size; simp; omega) _).alloc (by have := hbel2.size; simp; omega) _
  have hw2 := hbel2.size
  clear hW0 hbel2 q1
  refine rangeFunc_tells (F := Fence.wide) (n := 4) rfl (by decide) (gf := 138) (lb := #[.pointer (some ⟨w2.heap.size + 1 + 1, 0, none⟩)]) rfl trivial (enters_of Tryd.func138 (by kernel_rfl) rfl) (encs := encB) (fun _ => rfl) (w2.heap.size + 1) (by omega) (blkTo b (nb b))
    (blocks_tells Fence.wide (4 - 1) trivial rfl (by decide) (w2.heap.size + 1 + 1) (w2.heap.size + 1) g off a len cap b HB.out hl hcap HA.out (fun h => by have := HGL.out h; omega) (by omega) W0 CB (by omega) (by omega) (fun h => by have := HGL.out h; omega) (fun j hj => (hbel0.cell (p := ⟨g, off + j, none⟩) (HGL.out (by omega))).trans (HC.out j hj)))
    (fun pre W => Row W (w2.heap.size + 1) 177 (ws (chain HW pre)) ∧ Row W w2.heap.size 180 (ws KW) ∧ Row W w.heap.size 23 (bs z32) ∧ Below w.heap.size w W)
    (fun s A B h hb => ⟨h.1.below hb (by omega), h.2.1.below hb (by omega), h.2.2.1.below hb (by omega), h.2.2.2.trans (hb.mono (by omega))⟩) ⟨RS, RK, R0, hbel0⟩
    (fun x bk => { tmps := #[.slice a len cap, undef, .pointer (some ⟨w.heap.size, 0, none⟩), .int .i64 0, .pointer (some ⟨w2.heap.size, 0, none⟩), .pointer (some ⟨w2.heap.size + 1, 0, none⟩), .pointer (some ⟨bk, 0, none⟩), .slice a len cap, .int .i64 (len : Int), .bool false, undef, .agg (ws KW), .agg (ws HW), .slice a len cap, .func (.func 138) #[] #[.pointer (some ⟨w2.heap.size + 1 + 1, 0, none⟩)], .agg (bs x.1), undef, undef, undef, undef, undef, undef], defers := [] })
    (fun x bk W => Row W bk 162 (bs x.1)) (fun x bk W W' h e => e.trans h) ?assign ?body ?done
  case assign =>
    intro l x W K hK
    unfold encB
    have hx := x.2
    have hx64 : (bs x.1).size = 64 := by rw [bs_size, hx]
    clear hx
    go_simp
    gi_wp2_with (first
      | (with_reducible (show wpListIn _ _ _ _ _ (⟨_, Op.alloc 162, _, _, _, _⟩ :: _) _ _)
         refine alloc_rowIn rfl 162 rfl (bs zB) (by kernel_rfl) ?_)
      | (with_reducible (show wpListIn _ _ _ _ _ (⟨_, Op.store 162 _ _, _, _, _, _⟩ :: _) _ _)
         refine store_newIn (w := W) (by rfl) 162 _ _ (by rfl) W.heap.size (bs x.1) (by rfl) (by rfl) 162 (bs zB) (by rfl) 64 (by kernel_rfl) (by rfl) hx64 (bs_one _) ?_))
    exact hK _ ((Below.refl _ W).alloc (Nat.le_refl _) _) (by simp) (Row.new _ _ _)
  case body =>
    rintro l pre x bk W ⟨hS, hK, h0, hbel⟩ hx hbk hlt
    have hx64 : (bs x.1).size = 64 := by rw [bs_size, x.2]
    have hc8 := veil (chain_length HW HW_length pre)
    gi_wp2_with (first
      | (with_reducible (show wpListIn _ _ _ _ _ (⟨_, Op.load 177 _, _, _, _, _⟩ :: _) _ _)
         refine load_rowIn rfl 177 _ rfl (w2.heap.size + 1) rfl _ _ hS 8 176 Tryd.underlying177 (by kernel_rfl) (by rw [ws_size, hc8.out]) ?_)
      | (with_reducible (show wpListIn _ _ _ _ _ (⟨_, Op.load 180 _, _, _, _, _⟩ :: _) _ _)
         refine load_rowIn rfl 180 _ rfl w2.heap.size rfl _ _ hK 64 176 Tryd.underlying180 (by kernel_rfl) (by rw [ws_size, KW_length]) ?_)
      | (with_reducible (show wpListIn _ _ _ _ _ (⟨_, Op.load 162 _, _, _, _, _⟩ :: _) _ _)
         refine load_rowIn rfl 162 _ rfl bk rfl _ _ hx 64 5 Tryd.underlying162 (by kernel_rfl) hx64 ?_))
    refine ⟨trivial, (CallsIn.inRound l (callsIn_wide.2 (further_any (chain HW pre) KW x.1 hc8.out KW_length x.2 W))).mono ?_⟩
    rintro e W1 ⟨rfl, hb1⟩
    have k1 := hS.below hb1 hS.lt
    gi_wp2_with (with_reducible (show wpListIn _ _ _ _ _ (⟨_, Op.store 177 _ _, _, _, _, _⟩ :: _) _ _)
                 refine store_rowIn rfl 177 _ _ rfl (w2.heap.size + 1) (ws (furtherL (chain HW pre) KW x.1)) rfl rfl _ _ k1 8 (by kernel_rfl) (by rw [ws_size, hc8.out]) (by rw [ws_size, furtherL_length]) (ws_one _) ?_)
    refine ⟨(Keep1.of_below hb1).trans (Keep1.setRow _ _ _), by rw [chain_snoc]; exact k1.put _, (hK.below hb1 hK.lt).putOther (by omega) _, (h0.below hb1 h0.lt).putOther (by omega) _, bSetRow (hbel.trans (hb1.mono hbel.size)) (by omega) _⟩
  case done =>
    rintro D W hD ⟨hS, hK, h0, hbel⟩ hDd
    have hc8 := veil (chain_length HW HW_length (blkTo b (nb b)))
    have HSum : Hid (sumL b = sumB (chain HW (blkTo b (nb b)))) := rfl
    gi_wp2_with (with_reducible (show wpListIn _ _ _ _ _ (⟨_, Op.load 177 _, _, _, _, _⟩ :: _) _ _)
                 refine load_rowIn rfl 177 _ rfl (w2.heap.size + 1) rfl _ _ hS 8 176 Tryd.underlying177 (by kernel_rfl) (by rw [ws_size, hc8.out]) ?_)
    refine ⟨trivial, (callsIn_wide.2 (asBytes_any (chain HW (blkTo b (nb b))) hc8.out W)).mono ?_⟩
    rintro e W1 ⟨rfl, hb1⟩
    rw [← HSum.out]
    have k0 := h0.below hb1 h0.lt
    have kD : W1.heap[D]? = some (.deferred (some [])) := (hb1.block D (Array.getElem?_eq_some_iff.1 hDd).1).trans hDd
    have kb := hbel.trans (hb1.mono hbel.size)
    gi_wp2_with (with_reducible (show wpListIn _ _ _ _ _ (⟨_, Op.store 23 _ _, _, _, _, _⟩ :: _) _ _)
                 refine store_rowIn rfl 23 _ _ rfl w.heap.size (bs (sumL b)) rfl rfl _ _ k0 32 (by kernel_rfl) (by rfl) (by rw [bs_size, sumL_length]) (bs_one _) ?_)
    have kD2 : (W1.setRow w.heap.size (bs (sumL b))).heap[D]? = some (.deferred (some [])) := (setRow_other _ _ _ _ (by omega)).trans kD
    have k3 := k0.put (bs (sumL b))
    have kb3 := bSetRow kb (Nat.le_refl _) (bs (sumL b))
    generalize W1.setRow w.heap.size (bs (sumL b)) = W4 at *
    have hlt4 : D < W4.heap.size := (Array.getElem?_eq_some_iff.1 kD2).1
    have kp : Below D W4 (W4.putObj D (.deferred none)) := below_putObj _ (Nat.le_refl _) (by omega)
    refine ⟨by simp, .inl ⟨_, _, rfl, run_takeDeferred kD2, ?_⟩⟩
    exact ⟨_, result_row_tmp rfl _ _ w.heap.size _ _ (k3.below kp (by omega)) 32 5 (.int .i64 0) rfl rfl Tryd.underlying23 (by kernel_rfl) (by rw [bs_size, sumL_length]), rfl, kb3.trans (kp.mono (by omega))⟩
end Go.Proofs.YtjccjlhnjihfjaaDoor

/-! Bytes appended to a row of the call's own. -/
namespace Go.Proofs.YtjccjlhnjihfjaaDoor
open Go Go.RowKit

/-- The cells of bytes, as a list. -/
def vb (b : List By) : List Value := b.map fun c => .int .u8 (v8 c)
theorem vb_length (b : List By) : (vb b).length = b.length := by simp [vb]
theorem vb_append (a b : List By) : vb (a ++ b) = vb a ++ vb b := by simp [vb]
theorem vb_get (b : List By) (j : Nat) (h : j < b.length) : (vb b)[j]? = some (.int .u8 (v8 (gb b j))) := by
  unfold vb gb
  rw [List.getElem?_map, List.getElem?_eq_getElem h]
  rfl
theorem vb_get' (b : List By) (j : Nat) (u : Value) (h : (vb b)[j]? = some u) : j < b.length ∧ u = .int .u8 (v8 (gb b j)) := by
  have hj : j < b.length := by
    rcases Nat.lt_or_ge j b.length with h1 | h1
    · exact h1
    · rw [List.getElem?_eq_none (by rw [vb_length]; exact h1)] at h; cases h
  rw [vb_get b j hj] at h
  exact ⟨hj, (Option.some.inj h).symm⟩
theorem vb_one (b : List By) : ∀ u ∈ vb b, u.oneCell' = true := by
  intro u hu
  unfold vb at hu
  obtain ⟨c, _, rfl⟩ := List.mem_map.1 hu
  rfl
def slen : Value → Nat
  | .slice _ n _ => n
  | _ => 0

/-- A row of the call's own, at least one byte. -/
structure OwnB (w : World) (base g n cap : Nat) (b : List By) : Prop where
  len : b.length = n
  row : w.ownsRow base 5 1 (.slice (some ⟨g, 0, none⟩) n cap) n (vb b)
theorem add_off (g j : Nat) : (⟨g, 0, none⟩ : Addr).add j = ⟨g, j, none⟩ := by
  unfold Addr.add
  split
  · rename_i h; rw [h]
  · simp
theorem OwnB.cell {w : World} {base g n cap : Nat} {b : List By} (h : OwnB w base g n cap b) {j : Nat} (hj : j < n) : w.cell? ⟨g, j, none⟩ = some (.int .u8 (v8 (gb b j))) := by
  have := h.row.cells (g := g) rfl j _ (vb_get b j (by rw [h.len]; exact hj))
  rw [add_off] at this
  exact this
theorem OwnB.lt {w : World} {base g n cap : Nat} {b : List By} (h : OwnB w base g n cap b) : base ≤ g ∧ g < w.heap.size := h.row.lt g rfl
theorem OwnB.same {w w' : World} {base g n cap : Nat} {b : List By} (h : OwnB w base g n cap b) (hh : w'.heap[g]? = w.heap[g]?) : OwnB w' base g n cap b := ⟨h.len, by
  obtain ⟨h1, h2⟩ := h.row
  refine ⟨h1, ?_⟩
  rcases h2 with ⟨h3, h4⟩ | ⟨g', c', cur, h3, h4, h5, h6⟩
  · exact .inl ⟨h3, h4⟩
  · refine .inr ⟨g', c', cur, h3, h4, ?_, h6⟩
    rw [← h5]
    have e : g' = g := by injection h3 with e1; injection e1 with e2; injection e2 with e3; exact e3.symm
    subst e
    exact hh⟩
theorem OwnB.below {w w' : World} {base g n cap : Nat} {b : List By} (h : OwnB w base g n cap b) (hb : Below w.heap.size w w') : OwnB w' base g n cap b := by
  have hg := h.lt.2
  obtain ⟨_, _, _, _, hh⟩ := hb
  exact h.same (hh g hg)
theorem OwnB.other {w : World} {base g n cap : Nat} {b : List By} (h : OwnB w base g n cap b) {g' : Nat} (hg : g ≠ g') (j : Nat) (v : Value) : OwnB (w.setCell ⟨g', j, none⟩ v) base g n cap b :=
  h.same (Below.heap_setCell _ _ _ g hg)
theorem OwnB.putOther {w : World} {base g n cap : Nat} {b : List By} (h : OwnB w base g n cap b) {g' : Nat} (hg : g ≠ g') (cs : Array Value) : OwnB (w.setRow g' cs) base g n cap b :=
  h.same (by simp only [World.setRow, Array.getElem?_modify]; rw [if_neg (fun e => hg e.symm)])

section
variable {P : Program} {ops : Array Oper} {rest : List Oper} {o : Oper} {a : Act} {w : World} {Q : Exit → Act → World → Prop}
/-- What came in is appended, nil or not. -/
theorem append_in (hgd : o.guard = none) (s x : Operand) (t : TypeId) (ho : o.op = .call { callee := .builtin .append, args := #[s, x], argTypes := #[t, t] })
    (base : Nat) (i : TypeInfo) (ht : P.underlying t = some (.slice 5)) (hi : P.info? 5 = some i) (hz : i.zero = some (.int .u8 0)) (hsize : i.size = 1) (hby : i.bytes = 1)
    (hs : a.eval s = .slice none 0 0) (ad : Option Addr) (g off len cap : Nat) (b : List By) (hb : b.length = len) (hl : len ≤ 2097152) (hx : a.eval x = .slice ad len cap)
    (hn : ad = none → len = 0 ∧ cap = 0) (ha : 0 < len → ad = some ⟨g, off, none⟩) (hc : ∀ j : Nat, j < len → w.cell? ⟨g, off + j, none⟩ = some (.int .u8 (v8 (gb b j)))) (hbase : base ≤ w.heap.size)
    (h : ∀ v' w', w'.ownsRow base 5 1 v' len (vb b) → w.grownBy w' none → wpList P ops Q rest (a.put o.dst v') w') : wpList P ops Q (o :: rest) a w := by
  cases ad with
  | none =>
    obtain ⟨rfl, rfl⟩ := hn rfl
    obtain rfl : b = [] := List.eq_nil_of_length_eq_zero hb
    exact wpList_append_own_none hgd s x t ho base 5 i 1 ht hi _ 0 [] hs (World.ownsRow_nil _ _ _ _) hx (h _ _ (World.ownsRow_nil _ _ _ _) (World.grownBy.refl _ _))
  | some ad =>
    refine wpList_append_own w hgd s x t ho base 5 i (.int .u8 0) 1 1 ht hi hz hsize hby rfl (by decide) _ 0 [] hs (World.ownsRow_nil _ _ _ _) ad len cap (vb b) hx (by rw [vb_length, hb, Nat.mul_one]) ?_ (vb_one b) (by unfold maxLen; omega) (by omega) hbase ?_
    · intro j u hj
      obtain ⟨h1, rfl⟩ := vb_get' b j u hj
      have e := ha (by omega)
      injection e with e
      subst e
      rw [add_at]
      exact hc j (by omega)
    · intro v' w' h1 h2 _
      rw [Nat.zero_add] at h1
      exact h v' w' h1 h2
end
end Go.Proofs.YtjccjlhnjihfjaaDoor

/-! Slices of bytes, as the walks ask them. Written by mkcha.py. -/
namespace Go.Proofs.YtjccjlhnjihfjaaDoor
open Go Go.RowKit

/-- A slice of bytes, and what lies in it. -/
structure SL where
  a : Option Addr
  len : Nat
  cap : Nat
  g : Nat
  off : Nat
  b : List By
def SL.v (s : SL) : Value := .slice s.a s.len s.cap
structure SL.Ok (w : World) (s : SL) : Prop where
  hb : s.b.length = s.len
  hcap : s.len ≤ s.cap
  nil : s.a = none → s.len = 0 ∧ s.cap = 0
  at_ : 0 < s.len → s.a = some ⟨s.g, s.off, none⟩
  lt : 0 < s.len → s.g < w.heap.size
  cell : ∀ j : Nat, j < s.len → w.cell? ⟨s.g, s.off + j, none⟩ = some (.int .u8 (v8 (gb s.b j)))
theorem SL.Ok.same {w w' : World} {s : SL} (h : s.Ok w) (hs : 0 < s.len → w'.heap[s.g]? = w.heap[s.g]?) (hz : w.heap.size ≤ w'.heap.size) : s.Ok w' :=
  ⟨h.hb, h.hcap, h.nil, h.at_, fun p => Nat.lt_of_lt_of_le (h.lt p) hz, fun j hj => (World.cell?_of_block (a := ⟨s.g, s.off + j, none⟩) (hs (by omega))).trans (h.cell j hj)⟩
theorem SL.Ok.below {w w' : World} {s : SL} (h : s.Ok w) (hb : Below w.heap.size w w') : s.Ok w' := h.same (fun p => hb.block _ (h.lt p)) hb.size
theorem SL.Ok.below' {B : Nat} {w w' : World} {s : SL} (h : s.Ok w) (hb : Below B w w') (hB : 0 < s.len → s.g < B) : s.Ok w' := h.same (fun p => hb.block _ (hB p)) hb.size
theorem SL.Ok.alloc {w : World} {s : SL} (h : s.Ok w) (o : Obj) : s.Ok (w.alloc o) := h.below ((Below.refl _ w).alloc (Nat.le_refl _) o)

/-- A whole row of bytes, as a slice. -/
def rowS (g : Nat) (b : List By) : SL := ⟨some ⟨g, 0, none⟩, b.length, b.length, g, 0, b⟩
theorem rowS_ok {w : World} {g : Nat} {t : TypeId} {b : List By} (h : Row w g t (bs b)) : (rowS g b).Ok w :=
  ⟨rfl, Nat.le_refl _, fun e => by simp [rowS] at e, fun _ => rfl, fun _ => h.lt, fun j hj => by
    show w.cell? ⟨g, 0 + j, none⟩ = _
    rw [Nat.zero_add]; exact h.cellB hj⟩

/-- A row of the call's own, as a slice. -/
theorem SL.of_own {w : World} {base : Nat} {v : Value} {n : Nat} {xs : List By} (h : w.ownsRow base 5 1 v n (vb xs)) : ∃ s : SL, s.v = v ∧ s.len = n ∧ s.b = xs ∧ s.Ok w ∧ (0 < n → base ≤ s.g) := by
  have hl : xs.length = n := by have := h.1; rw [vb_length] at this; omega
  rcases h.2 with ⟨rfl, rfl⟩ | ⟨g, cap, cur, rfl, hg, hh, hn, _, _, _⟩
  · exact ⟨⟨none, 0, 0, 0, 0, xs⟩, rfl, rfl, rfl, ⟨hl, Nat.le_refl _, fun _ => ⟨rfl, rfl⟩, fun p => absurd p (Nat.lt_irrefl _), fun p => absurd p (Nat.lt_irrefl _), fun j hj => absurd hj (Nat.not_lt_zero _)⟩, fun p => absurd p (Nat.lt_irrefl _)⟩
  · refine ⟨⟨some ⟨g, 0, none⟩, n, cap, g, 0, xs⟩, rfl, rfl, rfl, ⟨hl, hn, fun e => (by simp at e), fun _ => rfl, fun _ => (Array.getElem?_eq_some_iff.1 hh).1, fun j hj => ?_⟩, fun _ => hg⟩
    have := h.cells (g := g) rfl j _ (vb_get xs j (by rw [hl]; exact hj))
    rw [add_off] at this
    rw [Nat.zero_add]
    exact this

section
variable {P : Program} {ops : Array Oper} {rest : List Oper} {o : Oper} {a : Act} {w : World} {Q : Exit → Act → World → Prop}
/-- What came in is appended to a row of the call's own. -/
theorem append_sl (hgd : o.guard = none) (s x : Operand) (t : TypeId) (ho : o.op = .call { callee := .builtin .append, args := #[s, x], argTypes := #[t, t] })
    (base : Nat) (i : TypeInfo) (ht : P.underlying t = some (.slice 5)) (hi : P.info? 5 = some i) (hz : i.zero = some (.int .u8 0)) (hsize : i.size = 1) (hby : i.bytes = 1)
    (v : Value) (n : Nat) (xs : List By) (hs : a.eval s = v) (hown : w.ownsRow base 5 1 v n (vb xs)) (q : SL) (hq : q.Ok w) (hx : a.eval x = .slice q.a q.len q.cap) (hl : n + q.len ≤ 8388608) (hbase : base ≤ w.heap.size)
    (h : ∀ v' w', w'.ownsRow base 5 1 v' (n + q.len) (vb (xs ++ q.b)) → w.grownBy w' v.ownBlock → wpList P ops Q rest (a.put o.dst v') w') : wpList P ops Q (o :: rest) a w := by
  obtain ⟨ad, len, cap, g, off, b⟩ := q
  cases ad with
  | none =>
    obtain ⟨h1, h2⟩ := hq.nil rfl
    simp only at h1 h2
    subst h1 h2
    have hb0 : b = [] := List.eq_nil_of_length_eq_zero hq.hb
    subst hb0
    refine wpList_append_own_none hgd s x t ho base 5 i 1 ht hi v n (vb xs) hs hown hx (h _ _ ?_ ⟨rfl, rfl, rfl, Nat.le_refl _, fun _ _ _ => rfl⟩)
    simpa using hown
  | some ad =>
    have hb : b.length = len := hq.hb
    refine wpList_append_own w hgd s x t ho base 5 i (.int .u8 0) 1 1 ht hi hz hsize hby rfl (by decide) v n (vb xs) hs hown ad len cap (vb b) hx (by rw [vb_length, hb, Nat.mul_one]) ?_ (vb_one b) (by unfold maxLen; simp only at hl; omega) (by simp only at hl; omega) hbase ?_
    · intro j u hj
      obtain ⟨h1, rfl⟩ := vb_get' b j u hj
      have e := hq.at_ (show 0 < len by omega)
      simp only at e
      injection e with e
      subst e
      rw [add_at]
      exact hq.cell j (show j < len by omega)
    · intro v' w' h1 h2 _
      rw [← vb_append] at h1
      exact h v' w' h1 h2
end
theorem own_low {w : World} {B B' n : Nat} {e : TypeId} {v : Value} {xs : List Value} (h : w.ownsRow B e 1 v n xs) (hB : B' ≤ B) : w.ownsRow B' e 1 v n xs := by
  obtain ⟨h1, h2⟩ := h
  refine ⟨h1, ?_⟩
  rcases h2 with h2 | ⟨g, c, cur, h3, h4, h5⟩
  · exact .inl h2
  · exact .inr ⟨g, c, cur, h3, Nat.le_trans hB h4, h5⟩
theorem own_below {w w' : World} {B n : Nat} {e : TypeId} {v : Value} {xs : List Value} (h : w.ownsRow B e 1 v n xs) (hb : Below w.heap.size w w') : w'.ownsRow B e 1 v n xs :=
  h.kept (row := none) ⟨hb.os, hb.tape, hb.output, hb.size, fun k hk _ => hb.block k hk⟩ (Classical.em _)
def rowN (g n : Nat) (b : List By) : SL := ⟨some ⟨g, 0, none⟩, n, n, g, 0, b⟩
theorem rowN_ok {w : World} {g n : Nat} {t : TypeId} {b : List By} (h : Row w g t (bs b)) (hn : b.length = n) : (rowN g n b).Ok w := by
  subst hn
  exact rowS_ok h
section
variable {P : Program} {a : Act} {w : World}
theorem exec_append {o : Oper} (s x : Operand) (t1 t2 : TypeId) (ho : o.op = .call { callee := .builtin .append, args := #[s, x], argTypes := #[t1, t2] }) (vs vx : Value) (hs : a.eval s = vs) (hx : a.eval x = vx)
    (v : Value) (w' : World) (hr : (Builtin.append_ #[t1, t2] o.type #[vs, vx]).run P w = .ok v w') : (execOp a.eval o).run P w = .ok (.value v) w' := by
  unfold execOp
  simp only [ho, resolve, invoke, builtin, Sem.run_bind, Sem.run_pure, Result.andThen_ok, List.map_toArray, List.map_cons, List.map_nil, hs, hx, hr]
end
end Go.Proofs.YtjccjlhnjihfjaaDoor

/-! Slices of bytes as they come in, joined one behind the other: slices.Grow, slices.Concat, hkdf.sumOf. -/
namespace Go.Proofs.YtjccjlhnjihfjaaDoor
open Go Go.RowKit

set_option maxHeartbeats 1000000 in
/-- Room for more, from none. -/
theorem grow_any (n : Nat) (w : World) (hn : n ≤ 4194304) :
    Calls Tryd.prog 117 #[.slice none 0 0, .int .i64 n] w fun e w' => ∃ v, e = .returned v ∧ w'.ownsRow w.heap.size 5 1 v 0 (vb []) ∧ Below w.heap.size w w' := by
  obtain ⟨i0, hi, hz0, hz1, hz2⟩ := info_parts (P := Tryd.prog) (e := 5) (z := .int .u8 0) (size := 1) (bytes := 1) (by kernel_rfl)
  have h1 : ¬ ((n : Int) < 0) := by omega
  by_cases h0 : 0 < n
  · have hrz : ∀ ty, (Builtin.append_ #[28, 3] ty #[.slice none 0 0, .int .i64 (n : Int)]).run Tryd.prog w = _ := fun ty =>
      Lib.run_append_nil_zeros w 28 3 ty 5 i0 (.int .u8 0) .i64 .i64 Tryd.underlying28 (by kernel_rfl) hi hz0 n h0 (by omega) (by omega) (by rw [hz2]; omega)
    have hG : n ≤ grownCap w n 0 5 := grownCap_ge ..
    have hGm : grownCap w n 0 5 ≤ maxLen := grownCap_le_maxLen w n 0 5 (by unfold maxLen; omega)
    have hG63 : grownCap w n 0 5 ≤ 9223372036854775807 := hGm
    generalize grownCap w n 0 5 = G at *
    have h4 : (n : Int) > 0 := by omega
    go_enter Tryd.func117, Tryd.ntmps117
    go_wp2_with (at_builtin; refine Lib.wpList_append_run _ rfl _ _ _ _ rfl _ _ rfl rfl _ _ (hrz _) ?_)
    go_ret
    refine ⟨_, rfl, World.ownsRow_made w.drew _ G (Nat.le_refl _) hGm ?_, ((Below.refl _ w).drew).alloc (Nat.le_refl _) _⟩
    rw [Array.size_append, size_zeroCells, size_zeroCells]
    show n * 1 + (G - n) * 1 = G * 1
    omega
  · obtain rfl : n = 0 := by omega
    go_enter Tryd.func117, Tryd.ntmps117
    go_wp2_with fail
    go_ret
    exact ⟨_, rfl, World.ownsRow_nil _ _ _ _, Below.refl _ _⟩

/-- Bytes, one behind the other. -/
def joinB (ls : List SL) : List By := (ls.map (·.b)).flatten
theorem joinB_take {ls : List SL} {k : Nat} {s : SL} (h : ls[k]? = some s) : joinB (ls.take (k + 1)) = joinB (ls.take k) ++ s.b := by
  unfold joinB
  rw [List.take_add_one, h]
  simp
theorem joinB_le (ls : List SL) (k : Nat) : (joinB (ls.take k)).length ≤ (joinB ls).length := by
  have : joinB ls = joinB (ls.take k) ++ joinB (ls.drop k) := by
    unfold joinB
    rw [← List.flatten_append, ← List.map_append, List.take_append_drop]
  rw [this, List.length_append]
  omega

set_option maxRecDepth 20000 in
set_option maxHeartbeats 1000000 in
theorem concat_any (L o m c : Nat) (ls : List SL) (w : World) (hm : ls.length = m) (hm2 : m ≤ 1000) (hok : ∀ s ∈ ls, s.Ok w) (htot : (joinB ls).length ≤ 4194304) (hL : L < w.heap.size)
    (hc : ∀ (j : Nat) (s : SL), ls[j]? = some s → w.cell? ⟨L, o + j, none⟩ = some (.slice s.a s.len s.cap)) :
    Calls Tryd.prog 110 #[.slice (some ⟨L, o, none⟩) m c] w fun e w' => ∃ s : SL, e = .returned (.slice s.a s.len s.cap) ∧ s.Ok w' ∧ s.b = joinB ls ∧ Below w.heap.size w w' := by
  obtain ⟨i0, hi, hz0, hz1, hz2⟩ := info_parts (P := Tryd.prog) (e := 5) (z := .int .u8 0) (size := 1) (bytes := 1) (by kernel_rfl)
  have HM := veil hm
  have HOK := veil hok
  have HC := veil hc
  clear hm hok hc
  go_enter Tryd.func110, Tryd.ntmps110
  go_wp2_with fail
  go_loopw [3, 11] (fun sz i wr => ∃ k N : Nat, k ≤ m ∧ i = .int .i64 k ∧ N = (joinB (ls.take k)).length ∧ sz = .int .i64 N ∧ w = wr)
    (fun _ i _ => m - (intOf i).toNat)
  case atStart => exact ⟨0, 0, Nat.zero_le _, rfl, rfl, rfl, rfl⟩
  case round =>
    obtain ⟨k, N, hk, rfl, hN, rfl, hw⟩ := hrel
    subst hw
    by_cases hlt : k < m
    · obtain ⟨s, hs⟩ : ∃ s, ls[k]? = some s := ⟨_, List.getElem?_eq_getElem (by rw [HM.out]; exact hlt)⟩
      have hcx := HC.out k s hs
      have hle := joinB_le ls (k + 1)
      have hj := joinB_take hs
      have hsb := (HOK.out s (List.mem_of_getElem? hs)).hb
      rw [hj, List.length_append, hsb, ← hN] at hle
      have hN2 : N + s.len = (joinB (ls.take (k + 1))).length := by rw [hj, List.length_append, hsb, ← hN]
      have hNN := veil hN2
      have hneg : ¬ ((N : Int) + (s.len : Int) < 0) := by omega
      clear hj hN hN2 hsb hs
      obtain ⟨sa, sl, sc, sg, so, sb⟩ := s
      simp only at *
      go_wp2_with fail
      go_roundw
      case rel => exact ⟨k + 1, N + sl, by omega, by go_num, hNN.out, by go_num, by first | trivial | rfl⟩
      case measure => simp only [intOf]; omega
    · obtain rfl : m = k := by omega
      rw [List.take_of_length_le (by rw [HM.out]; exact Nat.le_refl _)] at hN
      clear hlt hk
      have hNle : N ≤ 4194304 := by omega
      clear hN
      go_wp2_with fail
      refine (grow_any N _ (by omega)).mono ?_
      rintro e1 w1 ⟨v, rfl, hown, hb1⟩
      have hs1 := hb1.size
      have HOWN := veil hown
      have HB1 := veil hb1
      clear hown hb1
      go_wp2_with fail
      go_loopw [6, 27] (fun v i wr => ∃ k N : Nat, k ≤ m ∧ i = .int .i64 k ∧ N = (joinB (ls.take k)).length ∧ wr.ownsRow w.heap.size 5 1 v N (vb (joinB (ls.take k))) ∧ Below w.heap.size w wr)
        (fun _ i _ => m - (intOf i).toNat)
      case atStart => exact ⟨0, 0, Nat.zero_le _, rfl, rfl, HOWN.out, HB1.out⟩
      case round =>
        clear HOWN HB1
        obtain ⟨k, N', hk, rfl, hN', hown, hbel⟩ := hrel
        by_cases hlt : k < m
        · obtain ⟨s, hs⟩ : ∃ s, ls[k]? = some s := ⟨_, List.getElem?_eq_getElem (by rw [HM.out]; exact hlt)⟩
          have hcx := (hbel.cell (p := ⟨L, o + k, none⟩) hL).trans (HC.out k s hs)
          have hle := joinB_le ls (k + 1)
          have hj := joinB_take hs
          have hok1 := HOK.out s (List.mem_of_getElem? hs)
          have hok2 := veil (hok1.below hbel)
          have hsb := hok1.hb
          rw [hj, List.length_append, hsb, ← hN'] at hle
          have hN2 : N' + s.len = (joinB (ls.take (k + 1))).length := by rw [hj, List.length_append, hsb, ← hN']
          have hNN := veil hN2
          have HJ := veil hj
          have HOWN := veil hown
          have HB1 := veil hbel
          have hsz := hbel.size
          clear hj hN' hN2 hsb hs hok1 hown hbel
          go_wp2_with (with_reducible (show wpList _ _ _ (⟨some 33, Op.call _, _, _, _, _⟩ :: _) _ _)
                       refine append_sl rfl _ _ 28 rfl w.heap.size i0 Tryd.underlying28 hi hz0 hz1 hz2 _ N' _ rfl HOWN.out s hok2.out rfl (by omega) hsz ?_
                       intro v3 w3 hown3 hgrow3)
          have hb3 : Below w.heap.size w w3 := HB1.out.grown hgrow3 hsz (fun q e => (HOWN.out.lt q e).1)
          rw [← HJ.out] at hown3
          go_wp2_with fail
          go_roundw
          case rel => exact ⟨k + 1, N' + s.len, by omega, by go_num, hNN.out, hown3, hb3⟩
          case measure => simp only [intOf]; omega
        · obtain rfl : m = k := by omega
          rw [List.take_of_length_le (by rw [HM.out]; exact Nat.le_refl _)] at hown
          obtain ⟨s, hv, hsl, hsb, hok, _⟩ := SL.of_own hown
          clear hown
          go_wp2_with fail
          go_ret
          exact ⟨s, by rw [← hv]; rfl, hok, hsb, hbel⟩
end Go.Proofs.YtjccjlhnjihfjaaDoor

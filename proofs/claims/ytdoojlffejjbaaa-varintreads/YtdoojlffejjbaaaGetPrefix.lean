/-
  What varint.GetPrefix answers.
-/
import Derived.Test.YtdoojlffejjbaaaSevMath
import Derived.Test.YtdoojlffejjbaaaBits
namespace Go.Proofs.Ytdoojlffejjbaaa
open Go.RowKit

set_option maxHeartbeats 1000000 in
theorem getp_bits (a : Option Addr) (len cap : Nat) (b : Int) (w : World) (h : b < 1 ∨ 8 < b) :
    Calls Try.prog 6 #[.int .i64 b, .slice a len cap] w fun e w' => e = .returned (.tuple #[.int .u8 0, .int .u64 0, .int .i64 0, .int .i64 1]) ∧ w' = w := by
  go_enter Try.func6, Try.ntmps6
  go_wp2_with fail
  refine (mayBe_no _ _ h).mono ?_
  rintro e1 w1 ⟨rfl, rfl⟩
  go_wp2
  exact bodyPost_ret (v := .tuple #[.int .u8 0, .int .u64 0, .int .i64 0, .int .i64 1]) (by simp [results, Try.results6, go_sem]) rfl ⟨rfl, rfl⟩

set_option maxHeartbeats 1000000 in
theorem getp_none (a : Option Addr) (cap : Nat) (b : Int) (w : World) (h0 : 1 ≤ b) (h1 : b ≤ 8) :
    Calls Try.prog 6 #[.int .i64 b, .slice a 0 cap] w fun e w' => e = .returned (.tuple #[.int .u8 0, .int .u64 0, .int .i64 0, .int .i64 4]) ∧ w' = w := by
  go_enter Try.func6, Try.ntmps6
  go_wp2_with fail
  refine (mayBe_yes _ _ h0 h1).mono ?_
  rintro e1 w1 ⟨rfl, rfl⟩
  go_wp2
  exact bodyPost_ret (v := .tuple #[.int .u8 0, .int .u64 0, .int .i64 0, .int .i64 4]) (by simp [results, Try.results6, go_sem]) rfl ⟨rfl, rfl⟩

set_option maxHeartbeats 1000000 in
theorem getp_one (b0 off len cap : Nat) (z b M : Int) (w : World) (h : IsMask b M) (hl : len ≤ 1073741824) (hp : 0 < len) (hc : w.cell? ⟨b0, off, none⟩ = some (.int .u8 z)) (hz0 : 0 ≤ z) (hz1 : z ≤ 255) (hk : z % (M + 1) < M) :
    Calls Try.prog 6 #[.int .i64 b, .slice (some ⟨b0, off, none⟩) len cap] w fun e w' => e = .returned (.tuple #[.int .u8 (z - z % (M + 1)), .int .u64 (z % (M + 1)), .int .i64 1, .int .i64 0]) ∧ Below w.heap.size w w' := by
  have hbd := h.bd
  have hand := h.and64 z hz0 hz1
  have hnot := h.andNot8 z hz0 hz1
  have hne : ((len : Int) == 0) = false := by simp; omega
  have hpl : (0 : Int) < (len : Int) := by omega
  have hM : IntKind.u8.wrap M = M := by rw [IntKind.wrap_u8']; omega
  have H : Hid (IsMask b M) := h
  clear h
  generalize z % (M + 1) = k at *
  generalize z - k = ab at *
  go_enter Try.func6, Try.ntmps6
  go_wp2_with fail
  refine (mayBe_yes _ _ hbd.1 hbd.2.1).mono ?_
  rintro e1 w1 ⟨rfl, hw1⟩
  obtain rfl := hw1.symm
  go_wp2_with fail
  refine (ones_any _ M _ H.out).mono ?_
  rintro e1 w1 ⟨rfl, hw1⟩
  obtain rfl := hw1.symm
  go_wp2
  go_region
  all_goals go_wp2
  all_goals exact bodyPost_ret (v := .tuple #[.int .u8 ab, .int .u64 k, .int .i64 1, .int .i64 0]) (by simp [results, Try.results6, go_sem]) rfl ⟨rfl, (Below.refl _ _).drew⟩

/-- What stands behind the first byte. -/
theorem drop_at (zs : List Int) (j : Nat) : (zs.drop 1)[j]?.getD 0 = zs[j + 1]?.getD 0 := by
  rw [List.getElem?_drop, Nat.add_comm]

theorem getPV_more {M : Int} {zs : List Int} {r0 r1 r2 : Int} (hM : 1 ≤ M ∧ M ≤ 255) (hp : 0 < zs.length) (hk : ¬ zs[0]?.getD 0 % (M + 1) < M)
    (h : (r2 = 5 ∧ 10 ≤ cnt (zs.drop 1)) ∨ (r2 = 4 ∧ cnt (zs.drop 1) = (zs.drop 1).length ∧ cnt (zs.drop 1) < 10) ∨ (r2 = 3 ∧ cnt (zs.drop 1) < (zs.drop 1).length ∧ cnt (zs.drop 1) < 10 ∧ 4611686018427387903 < val7 ((zs.drop 1).take (cnt (zs.drop 1) + 1))) ∨
    (r2 = 0 ∧ cnt (zs.drop 1) < (zs.drop 1).length ∧ cnt (zs.drop 1) < 10 ∧ r0 = val7 ((zs.drop 1).take (cnt (zs.drop 1) + 1)) ∧ 0 ≤ r0 ∧ r0 < 9223372036854775808 ∧ r1 = (cnt (zs.drop 1) : Int) + 1)) :
    ((r2 ≠ 0 ∧ 3 ≤ r2 ∧ r2 ≤ 5) ∧ getPV M zs = .tuple #[.int .u8 0, .int .u64 0, .int .i64 0, .int .i64 r2]) ∨
    ((r2 = 0 ∧ 0 ≤ r0 ∧ r0 < 9223372036854775808 ∧ 1 ≤ r1 ∧ r1 ≤ 10) ∧ 4611686018427387903 - M < r0 ∧ getPV M zs = .tuple #[.int .u8 0, .int .u64 0, .int .i64 0, .int .i64 3]) ∨
    ((r2 = 0 ∧ 0 ≤ r0 ∧ r0 < 9223372036854775808 ∧ 1 ≤ r1 ∧ r1 ≤ 10) ∧ r0 ≤ 4611686018427387903 - M ∧ getPV M zs = .tuple #[.int .u8 (zs[0]?.getD 0 - zs[0]?.getD 0 % (M + 1)), .int .u64 (M + r0), .int .i64 (1 + r1), .int .i64 0]) := by
  unfold getPV getP
  rw [if_neg (by omega), if_neg hk]
  rcases h with ⟨rfl, h1⟩ | ⟨rfl, h1, h2⟩ | ⟨rfl, h1, h2, h3⟩ | ⟨rfl, h1, h2, h3, h4, h5, rfl⟩
  · rw [if_pos h1]; exact .inl ⟨by decide, rfl⟩
  · rw [if_neg (by omega), if_pos h1]; exact .inl ⟨by decide, rfl⟩
  · rw [if_neg (by omega), if_neg (by omega), if_pos (by omega)]; exact .inl ⟨by decide, rfl⟩
  · rw [if_neg (by omega), if_neg (by omega), ← h3]
    by_cases hlim : 4611686018427387903 < r0 + M
    · rw [if_pos hlim]
      exact .inr (.inl ⟨⟨rfl, h4, h5, by omega, by omega⟩, by omega, rfl⟩)
    · rw [if_neg hlim]
      refine .inr (.inr ⟨⟨rfl, h4, h5, by omega, by omega⟩, by omega, ?_⟩)
      rw [Int.add_comm r0 M, show (cnt (zs.drop 1) : Int) + 2 = 1 + ((cnt (zs.drop 1) : Int) + 1) by omega]

set_option maxHeartbeats 4000000 in
theorem getp_more (b0 off len cap : Nat) (zs : List Int) (z b M : Int) (w : World) (h : IsMask b M) (hzl : zs.length = len) (hl : len ≤ 1073741824) (hcap : len ≤ cap) (hp : 0 < len) (hbn : b0 < w.heap.size) (hc : ∀ j : Nat, j < len → w.cell? ⟨b0, off + j, none⟩ = some (.int .u8 (zs[j]?.getD 0))) (hb : ∀ j : Nat, 0 ≤ zs[j]?.getD 0 ∧ zs[j]?.getD 0 ≤ 255) (hz : zs[0]?.getD 0 = z) (hk : ¬ z % (M + 1) < M) :
    Calls Try.prog 6 #[.int .i64 b, .slice (some ⟨b0, off, none⟩) len cap] w fun e w' => e = .returned (getPV M zs) ∧ Below w.heap.size w w' := by
  have hbd := h.bd
  have hz0 : 0 ≤ z ∧ z ≤ 255 := by rw [← hz]; exact hb 0
  have hand := h.and64 z hz0.1 hz0.2
  have hnot := h.andNot8 z hz0.1 hz0.2
  have hkM : z % (M + 1) = M := by have := Int.emod_lt_of_pos z (show 0 < M + 1 by omega); omega
  rw [hkM] at hand hnot
  have hne : ((len : Int) == 0) = false := by simp; omega
  have hpl : (0 : Int) < (len : Int) := by omega
  have hM : IntKind.u8.wrap M = M := by rw [IntKind.wrap_u8']; omega
  have hc0 : w.cell? ⟨b0, off, none⟩ = some (.int .u8 z) := by rw [← hz]; exact hc 0 hp
  have H : Hid (IsMask b M) := h
  have hbr : ∀ j : Nat, 0 ≤ (zs.drop 1)[j]?.getD 0 ∧ (zs.drop 1)[j]?.getD 0 ≤ 255 := fun j => by rw [drop_at]; exact hb (j + 1)
  have HS := fun r0 r1 r2 (hr : SevRes (zs.drop 1) r0 r1 r2) => getPV_more (M := M) (zs := zs) ⟨hbd.2.2.1, hbd.2.2.2⟩ (by rw [hzl]; exact hp) (by rw [hz]; exact hk) (sev_spec _ hbr _ _ _ hr)
  rw [hz, hkM] at HS
  have HL : Hid ((zs.drop 1).length = len - 1) := by show (zs.drop 1).length = len - 1; rw [List.length_drop, hzl]
  have HC : Hid (∀ j : Nat, j < len - 1 → w.cell? ⟨b0, off + 1 + j, none⟩ = some (.int .u8 ((zs.drop 1)[j]?.getD 0))) := fun j hj => by
    rw [drop_at]; have := hc (j + 1) (by omega); rw [show off + (j + 1) = off + 1 + j by omega] at this; exact this
  clear h hk hkM hc hb hz hzl
  by_cases hc1 : cap = 1
  · obtain rfl : cap = 1 := hc1
    obtain rfl : len = 1 := by omega
    go_enter Try.func6, Try.ntmps6
    go_wp2_with fail
    refine (mayBe_yes _ _ hbd.1 hbd.2.1).mono ?_
    rintro e1 w1 ⟨rfl, hw1⟩
    obtain rfl := hw1.symm
    go_wp2_with fail
    refine (ones_any _ M _ H.out).mono ?_
    rintro e1 w1 ⟨rfl, hw1⟩
    obtain rfl := hw1.symm
    go_wp2
    go_region
    go_wp2_with fail
    refine (getSevens_any b0 off 0 0 (zs.drop 1) w.drew HL.out (by omega) hbn hbr (fun j hj => absurd hj (by omega))).mono ?_
    rintro e1 w1 ⟨r0, r1, r2, rfl, hres, hbel⟩
    have hbw : Below w.heap.size w w1 := ((Below.refl _ w).drew).trans hbel
    have HH := HS r0 r1 r2 hres
    clear HS hres hbr hbel
    rcases HH with ⟨hr, hv⟩ | ⟨hr, hlim, hv⟩ | ⟨hr, hlim, hv⟩
    · have hn2 : (r2 != 0) = true := by simpa using hr.1
      have HVV : Hid (getPV M zs = .tuple #[.int .u8 0, .int .u64 0, .int .i64 0, .int .i64 r2]) := hv
      clear hv
      go_wp2
      exact bodyPost_ret (v := .tuple #[.int .u8 0, .int .u64 0, .int .i64 0, .int .i64 r2]) (by simp [results, Try.results6, go_sem]) rfl ⟨by rw [HVV.out], hbw⟩
    · obtain ⟨rfl, hr0, hr1, hr2, hr3⟩ := hr
      have HVV : Hid (getPV M zs = .tuple #[.int .u8 0, .int .u64 0, .int .i64 0, .int .i64 3]) := hv
      clear hv
      go_wp2
      exact bodyPost_ret (v := .tuple #[.int .u8 0, .int .u64 0, .int .i64 0, .int .i64 3]) (by simp [results, Try.results6, go_sem]) rfl ⟨by rw [HVV.out], hbw⟩
    · obtain ⟨rfl, hr0, hr1, hr2, hr3⟩ := hr
      have HVV : Hid (getPV M zs = .tuple #[.int .u8 (z - M), .int .u64 (M + r0), .int .i64 (1 + r1), .int .i64 0]) := hv
      clear hv
      go_wp2
      exact bodyPost_ret (v := .tuple #[.int .u8 (z - M), .int .u64 (M + r0), .int .i64 (1 + r1), .int .i64 0]) (by simp [results, Try.results6, go_sem]) rfl ⟨by rw [HVV.out], hbw⟩
  · go_enter Try.func6, Try.ntmps6
    go_wp2_with fail
    refine (mayBe_yes _ _ hbd.1 hbd.2.1).mono ?_
    rintro e1 w1 ⟨rfl, hw1⟩
    obtain rfl := hw1.symm
    go_wp2_with fail
    refine (ones_any _ M _ H.out).mono ?_
    rintro e1 w1 ⟨rfl, hw1⟩
    obtain rfl := hw1.symm
    go_wp2
    go_region
    go_wp2_with fail
    refine (getSevens_any b0 (off + 1) (len - 1) (cap - 1) (zs.drop 1) w.drew HL.out (by omega) hbn hbr (fun j hj => HC.out j hj)).mono ?_
    rintro e1 w1 ⟨r0, r1, r2, rfl, hres, hbel⟩
    have hbw : Below w.heap.size w w1 := ((Below.refl _ w).drew).trans hbel
    have HH := HS r0 r1 r2 hres
    clear HS hres hbr hbel
    rcases HH with ⟨hr, hv⟩ | ⟨hr, hlim, hv⟩ | ⟨hr, hlim, hv⟩
    · have hn2 : (r2 != 0) = true := by simpa using hr.1
      have HVV : Hid (getPV M zs = .tuple #[.int .u8 0, .int .u64 0, .int .i64 0, .int .i64 r2]) := hv
      clear hv
      go_wp2
      exact bodyPost_ret (v := .tuple #[.int .u8 0, .int .u64 0, .int .i64 0, .int .i64 r2]) (by simp [results, Try.results6, go_sem]) rfl ⟨by rw [HVV.out], hbw⟩
    · obtain ⟨rfl, hr0, hr1, hr2, hr3⟩ := hr
      have HVV : Hid (getPV M zs = .tuple #[.int .u8 0, .int .u64 0, .int .i64 0, .int .i64 3]) := hv
      clear hv
      go_wp2
      exact bodyPost_ret (v := .tuple #[.int .u8 0, .int .u64 0, .int .i64 0, .int .i64 3]) (by simp [results, Try.results6, go_sem]) rfl ⟨by rw [HVV.out], hbw⟩
    · obtain ⟨rfl, hr0, hr1, hr2, hr3⟩ := hr
      have HVV : Hid (getPV M zs = .tuple #[.int .u8 (z - M), .int .u64 (M + r0), .int .i64 (1 + r1), .int .i64 0]) := hv
      clear hv
      go_wp2
      exact bodyPost_ret (v := .tuple #[.int .u8 (z - M), .int .u64 (M + r0), .int .i64 (1 + r1), .int .i64 0]) (by simp [results, Try.results6, go_sem]) rfl ⟨by rw [HVV.out], hbw⟩

/-- varint.GetPrefix, at any bytes, bits from 1 to 8. -/
theorem getp_any (a : Option Addr) (len cap : Nat) (zs : List Int) (b M : Int) (w : World) (h : IsMask b M) (hz : zs.length = len) (hl : len ≤ 1073741824) (hcap : len ≤ cap) (hLies : Lies w a zs) (hb : ∀ j : Nat, 0 ≤ zs[j]?.getD 0 ∧ zs[j]?.getD 0 ≤ 255) :
    Calls Try.prog 6 #[.int .i64 b, .slice a len cap] w fun e w' => e = .returned (getPV M zs) ∧ Below w.heap.size w w' := by
  have hbd := h.bd
  by_cases hp : len = 0
  · subst hp
    have hv : getPV M zs = .tuple #[.int .u8 0, .int .u64 0, .int .i64 0, .int .i64 4] := by unfold getPV getP; rw [if_pos hz]
    rw [hv]
    exact (getp_none a cap b w hbd.1 hbd.2.1).mono fun e w' ⟨h1, h2⟩ => ⟨h1, by rw [h2]; exact Below.refl _ _⟩
  rcases hLies with h0 | ⟨b0, off, rfl, hbn, hc⟩
  · rw [h0] at hz; exact absurd hz.symm hp
  rw [hz] at hc
  by_cases hk : zs[0]?.getD 0 % (M + 1) < M
  · have hv : getPV M zs = .tuple #[.int .u8 (zs[0]?.getD 0 - zs[0]?.getD 0 % (M + 1)), .int .u64 (zs[0]?.getD 0 % (M + 1)), .int .i64 1, .int .i64 0] := by unfold getPV getP; rw [if_neg (by omega), if_pos hk]
    rw [hv]
    exact getp_one b0 off len cap _ b M w h hl (by omega) (by exact hc 0 (by omega)) (hb 0).1 (hb 0).2 hk
  · exact getp_more b0 off len cap zs _ b M w h hz hl hcap (by omega) hbn hc hb rfl hk
end Go.Proofs.Ytdoojlffejjbaaa

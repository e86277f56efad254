/-
  Where each packet is answered by itself: the walk.
-/
import Derived.Test.YtohoieleakieeaaGeLgLives
import Derived.Test.YtohoieleakieeaaGeLgEven
namespace Go.Proofs.Ytohoieleakieeaa
open Go Go.RowKit

theorem bel_keep {g : Nat} {v : Value} {w A C : World} (h : Below w.heap.size w A) (k : KeepL g v A C) (hg : w.heap.size ≤ g) (hv : ∀ q, v.ownBlock = some q → w.heap.size ≤ q) : Below w.heap.size w C :=
  h.trans (k.below (fun q hq => hq.elim (fun e => by omega) (fun e => hv q e)) h.size)
set_option maxRecDepth 20000 in
set_option maxHeartbeats 2000000 in
theorem even_walk (n took size : Nat) (w : World) (hn : n < 256) (ht : took < 256) (hs : size < 65536) :
    Calls Try.prog 4 #[.int .u8 (n : Int), .int .u8 (took : Int), .int .u16 (size : Int)] w fun e w' => e = .returned (.bool true) ∧ Below w.heap.size w w' := by
  obtain ⟨z, hz⟩ : ∃ z, 1 + size % 1200 = z := ⟨_, rfl⟩
  obtain ⟨z0, hz0⟩ : ∃ z0, size % 1200 = z0 := ⟨_, rfl⟩
  obtain ⟨M, hM⟩ : ∃ M, n % 100 = M := ⟨_, rfl⟩
  have a1 : IntKind.i64.wrap (size : Int) = (size : Int) := by rw [IntKind.wrap_i64]; omega
  have a2 : Int.tmod (size : Int) 1200 = (z0 : Int) := by rw [Int.tmod_eq_emod_of_nonneg (by omega)]; omega
  have a3 : IntKind.i64.wrap (z0 : Int) = (z0 : Int) := by rw [IntKind.wrap_i64]; omega
  have a4 : IntKind.i64.wrap (1 + (z0 : Int)) = (z : Int) := by rw [IntKind.wrap_i64]; omega
  have a5 : IntKind.i64.wrap (n : Int) = (n : Int) := by rw [IntKind.wrap_i64]; omega
  have a6 : Int.tmod (n : Int) 100 = (M : Int) := by rw [Int.tmod_eq_emod_of_nonneg (by omega)]; omega
  have a7 : IntKind.i64.wrap (M : Int) = (M : Int) := by rw [IntKind.wrap_i64]; omega
  have hz1 : 1 ≤ z := by omega
  have hz2 : z ≤ 1200 := by omega
  have hM2 : M ≤ 99 := by omega
  have b1 : IntKind.u64.wrap (took : Int) = (took : Int) := by rw [IntKind.wrap_u64]; omega
  have HZ1 := veil hz1
  have HZ2 := veil hz2
  have HT := veil (show took ≤ 255 by omega)
  clear hz hz0 hM hn hs ht hz1 hz2
  go_enter Try.func4, Try.ntmps4
  go_wp2_with fail
  refine (led_new w).mono ?_
  rintro e0 w0 ⟨g, rfl, hg, hL0, hb0⟩
  have HL0 := veil hL0
  have HB0 := veil hb0
  have HGW := veil hg
  clear hg hL0 hb0
  go_wp2_with fail
  clear a1 a2 a3 a4 a5 a6 a7
  go_loopw [10] (fun iv wr => ∃ (k : Nat) (v : Value) (s : Lg.Led), k ≤ M ∧ iv = .int .i64 k ∧ LOk k wr g v s ∧ Lg.Even k took z s ∧ Below w.heap.size w wr ∧ (∀ q, v.ownBlock = some q → w.heap.size ≤ q))
    (fun iv _ => M - (intOf iv).toNat)
  case atStart => exact ⟨0, _, _, Nat.zero_le _, rfl, HL0.out, Lg.Even.zero _ _, HB0.out, (fun q h => by cases h)⟩
  case round =>
    obtain ⟨k, v, s, hk, rfl, hL, hE, hbel, hv⟩ := hrel
    by_cases hlt : k < M
    · have c1 : IntKind.u64.wrap (k : Int) = (k : Int) := by rw [IntKind.wrap_u64]; omega
      obtain ⟨t, ht⟩ : ∃ t : Nat, t = k * 1000 := ⟨_, rfl⟩
      have c2 : IntKind.u64.wrap ((k : Int) * 1000) = (t : Int) := by rw [IntKind.wrap_u64]; omega
      obtain ⟨t2, ht2⟩ : ∃ t2 : Nat, t2 = t + took := ⟨_, rfl⟩
      have c3 : IntKind.u64.wrap ((t : Int) + (took : Int)) = (t2 : Int) := by have := HT.out; rw [IntKind.wrap_u64]; omega
      have d1 : decide ((k : Int) < (M : Int)) = true := by simp; omega
      have d2 : decide (k < M) = true := by simp; omega
      have hk100 : k < 100 := by omega
      have hSE := hE.sentE hk100 HT.out HZ1.out HZ2.out
      obtain ⟨A1, A2, A3, A4, A5, A6⟩ := hE.answer hk100 HT.out HZ1.out HZ2.out
      rw [← ht] at hSE A1 A2 A3 A4 A5 A6
      rw [← ht2] at A1 A2 A3 A4 A5 A6
      have SC := veil (led_sent hL (by omega) k (z : Int) t true)
      rw [hSE] at SC
      have HA1 := veil A1
      have HA2 := veil A2
      have HA3 := veil A3
      have HA4 := veil A4
      have HA5 := veil A5
      have HA6 := veil A6
      have HB := veil hbel
      have HV := veil hv
      have HLt := veil hlt
      have HK := veil (show k < 18446744073709551616 by omega)
      have HM2 := veil hM2
      clear hL hE hbel hv ht ht2 hSE A1 A2 A3 A4 A5 A6 hlt hk hk100
      generalize Lg.sent s k (z : Int) t true = s1 at *
      go_wp2_with fail
      refine SC.out.mono ?_
      rintro e1 w1 ⟨rfl, v1, hL1, hk1, hs1⟩
      have B1 : Below w.heap.size w w1 := bel_keep HB.out hk1 HGW.out HV.out
      have V1 : ∀ q, v1.ownBlock = some q → w.heap.size ≤ q := fun q hq => (hs1 q hq).elim (HV.out q) (fun e => by have := HB.out.size; omega)
      have L1 := hL1.below ((Below.refl _ w1).alloc (Nat.le_refl _) (.cells #[.int .u64 (k : Int), .int .u64 (k : Int)] 42))
      have B2 : Below w.heap.size w (w1.alloc (.cells #[.int .u64 (k : Int), .int .u64 (k : Int)] 42)) := B1.alloc B1.size _
      have hgl := hL1.ld.lt
      have hvl := hL1.ld.way.lt
      have AC := veil (led_answer L1 (by have := HM2.out; have := HLt.out; omega) ⟨some ⟨w1.heap.size, 0, none⟩, 1, 1, w1.heap.size, 0, [(k, k)]⟩ (one_range w1 k k HK.out HK.out) (fun _ => ⟨show w1.heap.size ≠ g by omega, fun q => by have h9 : w1.heap.size < w1.heap.size := hvl _ q; omega⟩) 0 t2)
      simp only at AC
      rw [HA1.out, HA2.out, HA3.out] at AC
      have HB2 := veil B2
      have HV1 := veil V1
      clear hL1 hk1 hs1 B1 V1 L1 B2 hgl hvl SC
      go_wp2_with fail
      refine AC.out.mono ?_
      rintro e2 w2 ⟨u1, u2, v2, rfl, o1, o2, _, hL2, hk2, hv2⟩
      obtain ⟨ga, ca, rfl⟩ : ∃ ga ca, u1 = .slice (some ⟨ga, 0, none⟩) 1 ca := by
        rcases o1.2 with ⟨_, q⟩ | ⟨ga, ca, cur, q, _⟩
        · cases q
        · exact ⟨ga, ca, q⟩
      obtain ⟨a2, c9, rfl⟩ := own_shape15 o2
      have x0 : w2.cell? ⟨ga, 0, none⟩ = some (.int .u64 (k : Int)) := o1.cells (g := ga) rfl 0 _ rfl
      have B3 : Below w.heap.size w w2 := bel_keep HB2.out hk2 HGW.out HV1.out
      have V2 : ∀ q, v2.ownBlock = some q → w.heap.size ≤ q := fun q hq => by rw [hv2] at hq; exact HV1.out q hq
      have TC := veil (times_any g v2 _ w2 hL2.ld hL2.win)
      have hme := HA4.out.meas HA6.out
      rw [show (ml (Lg.answer s1 [(k, k)] 0 t2)).lat = took from HA5.out, show (ml (Lg.answer s1 [(k, k)] 0 t2)).smo = took from hme.1, show (ml (Lg.answer s1 [(k, k)] 0 t2)).lea = took from hme.2] at TC
      unfold tmC at TC
      have HL2 := veil hL2
      have HB3 := veil B3
      have HV2 := veil V2
      clear o1 o2 hk2 hv2 hL2 B3 V2 AC hme c1 c2 c3
      have c1 : IntKind.u64.wrap (k : Int) = (k : Int) := by have := HK.out; rw [IntKind.wrap_u64]; omega
      go_wp2_with fail
      refine TC.out.mono ?_
      rintro e3 w3 ⟨rfl, hb3⟩
      have HL3 := veil (HL2.out.below hb3)
      have HB4 := veil (show Below w.heap.size w w3 from HB3.out.trans (hb3.mono HB3.out.size))
      clear hb3 x0 TC
      generalize (ml (Lg.answer s1 [(k, k)] 0 t2)).var = vr at *
      have hlt := HLt.out
      go_wp2
      go_roundw
      case rel => exact ⟨k + 1, v2, _, by have := HLt.out; omega, by go_num, HL3.out.below ((Below.refl _ w3).alloc (Nat.le_refl _) _), HA4.out, HB4.out.alloc HB4.out.size _, HV2.out⟩
      case measure => have := HLt.out; simp [intOf]; omega
    · obtain rfl : k = M := by omega
      have RC := veil (room_any g v _ wr hL.ld hL.win)
      have AW := veil (away_any g v _ wr hL.ld hL.win)
      rw [show (ml s).win = 12000 + k * z from hE.win] at RC
      rw [show (ml s).ask = 0 from by show Lg.away s = 0; unfold Lg.away; rw [hE.way]; rfl] at AW
      have hkz : k * z ≤ 99 * 1200 := Nat.mul_le_mul hM2 HZ2.out
      obtain ⟨y, hy⟩ : ∃ y, k * z = y := ⟨_, rfl⟩
      rw [hy] at RC hkz
      have hyi : (k : Int) * (z : Int) = (y : Int) := by rw [← hy]; push_cast; rfl
      have f1 : IntKind.i64.wrap ((k : Int) * (z : Int)) = (y : Int) := by rw [hyi, IntKind.wrap_i64]; omega
      obtain ⟨y2, hy2⟩ : ∃ y2, 12000 + y = y2 := ⟨_, rfl⟩
      have f2 : IntKind.i64.wrap (12000 + (y : Int)) = (y2 : Int) := by rw [IntKind.wrap_i64]; omega
      rw [hy2] at RC
      have HB := veil hbel
      clear hL hE hbel hv hlt hk hkz hy hy2 hyi
      go_wp2_with fail
      refine RC.out.mono ?_
      rintro e1 w1 ⟨rfl, rfl⟩
      go_wp2_with fail
      refine AW.out.mono ?_
      rintro e2 w2 ⟨rfl, rfl⟩
      go_wp2_with fail
      refine (lives_any w2).mono ?_
      rintro e3 w3 ⟨rfl, hb3⟩
      have HB3 := veil (show Below w.heap.size w w3 from HB.out.trans (hb3.mono HB.out.size))
      clear hb3
      go_wp2
      go_ret
      exact ⟨rfl, HB3.out⟩
end Go.Proofs.Ytohoieleakieeaa

/-
  HuffBack, walked.
-/
import Derived.Test.YtdieodhfkmnbcaaHfAlive
namespace Go.Proofs.Ytdieodhfkmnbcaa
open Go Go.RowKit

set_option maxRecDepth 20000 in
set_option maxHeartbeats 2000000 in
theorem back_walk (s : ByteArray) (w : World) (hs : s.size ≤ 9223372036854775807) : Calls Try.prog 4 #[.string s] w fun e w' => e = .returned (.bool true) ∧ Below w.heap.size w w' := by
  go_enter Try.func4, Try.ntmps4
  go_wp2_with fail
  refine (alive_any w).mono ?_
  rintro e1 w1 ⟨rfl, hb1⟩
  go_wp2_with fail
  refine (beyond_len w1 s.size hs).mono ?_
  rintro e2 w2 ⟨rfl, hb2⟩
  have b2 := hb1.trans (hb2.mono hb1.size)
  clear hb1 hb2
  by_cases hbig : 1048576 < s.size
  · rw [decide_eq_true hbig]
    go_wp2_with fail
    refine (alive_any w2).mono ?_
    rintro e3 w3 ⟨rfl, hb3⟩
    go_wp2_with fail
    go_ret
    exact ⟨rfl, b2.trans (hb3.mono b2.size)⟩
  · rw [decide_eq_false hbig]
    go_wp2_with fail
    by_cases hlim : 65536 < s.size
    · refine (put_limit s hlim hs w2).mono ?_
      rintro e3 w3 ⟨rfl, rfl⟩
      have hI : (s.size : Int) > 65536 := by omega
      go_wp2_with fail
      go_ret
      exact ⟨rfl, b2⟩
    · refine (put_sl s (by omega) w2).mono ?_
      rintro e3 w3 ⟨p, rfl, hp, hpb, hpl, hpm, hb3⟩
      have b3 := b2.trans (hb3.mono b2.size)
      have HP := veil hp
      have HPB := veil hpb
      have HPL := veil hpl
      clear hp hpb hpl hb3 b2
      go_wp2_with fail
      refine (get_any p w3 HP.out (by omega)).mono ?_
      rintro e4 w4 ⟨s', E, rfl, hc, hb4⟩
      have b4 := b3.trans (hb4.mono b3.size)
      have hcc : E = 0 ∧ s' = s := by
        rw [HPB.out, Hf.get_put] at hc
        rcases hc with ⟨h, _⟩ | ⟨t, h1, h2, h3⟩
        · cases h
        · injection h1 with h1
          refine ⟨h2, bOf_inj ?_⟩
          rw [h3, bOf_strOf, ← h1]
      obtain ⟨rfl, rfl⟩ := hcc
      clear hc hb4 b3
      go_wp2_with fail
      refine (len_any s' (by omega) w4).mono ?_
      rintro e5 w5 ⟨rfl, hb5⟩
      have b5 := b4.trans (hb5.mono b4.size)
      have hT := Hf.txt_length_le (bOf s')
      rw [bOf_length] at hT
      have hN : Hf.packN (Hf.txt (bOf s')) = p.len := HPL.out.symm
      have hlo : 5 * s'.size ≤ 8 * p.len := by rw [← hN]; unfold Hf.packN; omega
      have hhi : 8 * p.len ≤ 30 * s'.size + 7 := by rw [← hN]; unfold Hf.packN; omega
      rw [hN]
      have f0 : ((p.len : Int) == (p.len : Int)) = true := by simp
      have f1 : decide ((8 : Int) * (p.len : Int) ≥ 5 * (s'.size : Int)) = true := by simp; omega
      have f2 : decide ((8 : Int) * (p.len : Int) ≤ 30 * (s'.size : Int) + 7) = true := by simp; omega
      clear hb5 b4 hT hN
      go_wp2_with fail
      go_ret
      exact ⟨rfl, b5⟩
end Go.Proofs.Ytdieodhfkmnbcaa

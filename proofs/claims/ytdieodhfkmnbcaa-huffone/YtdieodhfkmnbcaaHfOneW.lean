/-
  HuffOne, walked.
-/
import Derived.Test.YtdieodhfkmnbcaaHfAlive
namespace Go.Proofs.Ytdieodhfkmnbcaa
open Go Go.RowKit

set_option maxRecDepth 20000 in
set_option maxHeartbeats 2000000 in
theorem one_walk (q : SL) (w : World) (hq : q.Ok w) (hs : q.len ≤ 140737488355328) : Calls Try.prog 5 #[.slice q.a q.len q.cap] w fun e w' => e = .returned (.bool true) ∧ Below w.heap.size w w' := by
  have HQ := veil hq
  clear hq
  go_enter Try.func5, Try.ntmps5
  go_wp2_with fail
  refine (alive_any w).mono ?_
  rintro e1 w1 ⟨rfl, hb1⟩
  go_wp2_with fail
  refine (beyond_len w1 q.len (by omega)).mono ?_
  rintro e2 w2 ⟨rfl, hb2⟩
  have b2 := hb1.trans (hb2.mono hb1.size)
  clear hb1 hb2
  by_cases hbig : 1048576 < q.len
  · rw [decide_eq_true hbig]
    go_wp2_with fail
    refine (alive_any w2).mono ?_
    rintro e3 w3 ⟨rfl, hb3⟩
    go_wp2_with fail
    go_ret
    exact ⟨rfl, b2.trans (hb3.mono b2.size)⟩
  · rw [decide_eq_false hbig]
    go_wp2_with fail
    refine (get_any q w2 (HQ.out.below b2) (by omega)).mono ?_
    rintro e3 w3 ⟨s, E, rfl, hc, hb3⟩
    have b3 := b2.trans (hb3.mono b2.size)
    clear hb3 b2
    rcases hc with ⟨hno, rfl, rfl⟩ | ⟨t, ht, rfl, rfl⟩
    · clear hno
      go_wp2_with fail
      go_ret
      exact ⟨rfl, b3⟩
    · have HT := veil ht
      clear ht
      have hbo := bOf_strOf t
      have HBO := veil hbo
      generalize strOf t = s at *
      clear hbo
      go_wp2_with fail
      by_cases hlim : 65536 < s.size
      · have hsl : s.size ≤ 9223372036854775807 := by
          have h1 := Hf.put_get HT.out
          have h2 := congrArg List.length h1
          rw [packL_length, HQ.out.hb] at h2
          have h3 := Hf.txt_length_le t
          have h4 := bOf_length s
          rw [HBO.out] at h4
          unfold Hf.packN at h2
          omega
        refine (put_limit s hlim hsl w3).mono ?_
        rintro e4 w4 ⟨rfl, rfl⟩
        have hI : (s.size : Int) > 65536 := by omega
        go_wp2_with fail
        go_ret
        exact ⟨rfl, b3⟩
      · refine (put_sl s (by omega) w3).mono ?_
        rintro e4 w4 ⟨p, rfl, hp, hpb, hpl, hpm, hb4⟩
        have b4 := b3.trans (hb4.mono b3.size)
        have HP := veil hp
        have HPB := veil hpb
        clear hp hpb hpl hb4 b3
        go_wp2_with fail
        refine (same_bool q p w4 (HQ.out.below b4) HP.out (by omega) (by omega)).mono ?_
        rintro e5 w5 ⟨rfl, hb5⟩
        have HD := veil (show decide (q.b = p.b) = true from decide_eq_true (by rw [HPB.out, HBO.out, Hf.put_get HT.out]))
        rw [HD.out]
        have b5 := b4.trans (hb5.mono b4.size)
        go_wp2_with fail
        go_ret
        exact ⟨rfl, b5⟩
end Go.Proofs.Ytdieodhfkmnbcaa

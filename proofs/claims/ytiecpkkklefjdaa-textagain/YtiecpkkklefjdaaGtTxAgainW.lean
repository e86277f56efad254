/-
  TextAgain, walked.
-/
import Derived.Test.YtiecpkkklefjdaaGtTxAlive
namespace Go.Proofs.Ytiecpkkklefjdaa
open Go Go.RowKit

set_option maxRecDepth 20000 in
set_option maxHeartbeats 2000000 in
theorem again_walk (B : Int) (q : SL) (w : World) (hq : q.Ok w) (hs : q.len ≤ 140737488355328) : Calls Try.prog 7 #[.int .i64 B, .slice q.a q.len q.cap] w fun e w' => e = .returned (.bool true) ∧ Below w.heap.size w w' := by
  have HQ := veil hq
  have hqb : q.b.length = q.len := hq.hb
  clear hq
  go_enter Try.func7, Try.ntmps7
  go_wp2_with fail
  refine (alive_any w).mono ?_
  rintro e1 w1 ⟨rfl, b1⟩
  go_wp2_with fail
  refine (beyond_len w1 q.len (by omega)).mono ?_
  rintro e2 w2 ⟨rfl, hb2⟩
  have b2 := b1.trans (hb2.mono b1.size)
  clear hb2 b1
  by_cases hbig : 1048576 < q.len
  · rw [decide_eq_true hbig]
    go_wp2_with fail
    refine (alive_any w2).mono ?_
    rintro e3 w3 ⟨rfl, hb3⟩
    go_wp2_with fail
    go_ret
    exact ⟨rfl, b2.trans (hb3.mono b2.size)⟩
  · rw [decide_eq_false hbig]
    by_cases hb : 2 ≤ B ∧ B ≤ 8
    · obtain ⟨M, hM⟩ := Tx.Bt.of B hb.1 hb.2
      have HM := veil hM
      rcases Tx.getX_cases hM q.b with ⟨E, h1, h2, h3⟩ | ⟨a, s, n, h1, h2, h3, h4, h5, h6, h7⟩
      · have hg := xget_any q B M w2 hM (HQ.out.below b2) (by omega)
        rw [getXV_no h1] at hg
        have hne : (E != 0) = true := by simp; omega
        clear h1 hM
        go_wp2_with fail
        refine hg.mono ?_
        rintro e3 w3 ⟨rfl, hb3⟩
        have b3 := b2.trans (hb3.mono b2.size)
        clear hg hb3 b2
        go_wp2_with fail
        go_ret
        exact ⟨rfl, b3⟩
      · have hg := xget_any q B M w2 hM (HQ.out.below b2) (by omega)
        rw [getXV_of h1] at hg
        have H4 := veil h4
        have hsz : (strOf s).size ≤ 65536 := by rw [strOf_size]; exact h5
        have hback := Tx.get_put hM h2 h3 h4 h5 []
        rw [List.append_nil] at hback
        have HBK := veil (getXV_of hback)
        obtain ⟨L, hL⟩ : ∃ L, L = (Tx.putX a M s).length := ⟨_, rfl⟩
        have HL := veil hL
        rw [← hL] at h7
        rw [hqb] at h6
        clear h1 hM hback h5 hL
        go_wp2_with fail
        refine hg.mono ?_
        rintro e3 w3 ⟨rfl, hb3⟩
        have b3 := b2.trans (hb3.mono b2.size)
        clear hg hb3 b2 h4
        go_wp2_with fail
        refine (xput_sl a B M (strOf s) w3 HM.out h2 h3 H4.out hsz).mono ?_
        rintro e4 w4 ⟨p, rfl, hp, hpb, hpl, ho, hb4⟩
        rw [bOf_strOf] at hpb hpl
        have HPL := veil (show p.len = L from hpl.trans HL.out.symm)
        have HP := veil hp
        have HPB := veil hpb
        have b4 := b3.trans (hb4.mono b3.size)
        clear hp hpb hpl ho hb4 b3
        go_wp2_with fail
        refine (xget_any p B M w4 HM.out HP.out (by have := HPL.out; omega)).mono ?_
        rintro e5 w5 ⟨rfl, hb5⟩
        rw [HPB.out, HBK.out, ← HL.out]
        have b5 := b4.trans (hb5.mono b4.size)
        clear hb5 b4
        rw [HPL.out]
        have f1 : (a == a) = true := by simp
        have f2 : ((L : Int) == (L : Int)) = true := by simp
        have f3 : decide ((n : Int) ≤ (q.len : Int)) = true := decide_eq_true (by omega)
        have f4 : decide ((L : Int) ≤ (n : Int)) = true := decide_eq_true (by omega)
        go_wp2_with fail
        go_ret
        exact ⟨rfl, b5⟩
    · go_wp2_with fail
      refine (xget_bits q.a q.len q.cap B w2 (by omega)).mono ?_
      rintro e3 w3 ⟨rfl, hw3⟩
      obtain rfl := hw3.symm
      clear hb
      go_wp2_with fail
      go_ret
      exact ⟨rfl, b2⟩
end Go.Proofs.Ytiecpkkklefjdaa

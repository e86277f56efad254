/-
  FrameAgain, walked.
-/
import Derived.Test.YtjhgelhdhdcmfaaDoorGfFrAliveW
import Derived.Test.YtjhgelhdhdcmfaaDoorGfFrPutL
import Derived.Test.YtjhgelhdhdcmfaaDoorGf10
import Derived.Test.YtjhgelhdhdcmfaaDoorGf9
namespace Go.Proofs.YtjhgelhdhdcmfaaDoor
open Go Go.RowKit

set_option maxRecDepth 20000 in
set_option maxHeartbeats 400000 in
theorem again_walk (s : SL) (w : World) (hs : s.Ok w) (ht : 0 < s.len → s.Told) (hl : s.len ≤ 140737488355328) (hL : Lens w) (hN : Named w) :
    Calls Tryd.prog 4 #[.slice s.a s.len s.cap] w fun e w' => e = .returned (.bool true) ∧ Below w.heap.size w w' := by
  have HS := veil hs
  have HT := veil ht
  have HL := veil hL
  have HN := veil hN
  clear hs ht hL hN
  go_enter Tryd.func4, Tryd.ntmps4
  go_wp2_with fail
  refine (alive_any w HL.out HN.out).mono ?_
  rintro e1 w1 ⟨rfl, bel1⟩
  have B1 := veil bel1
  clear bel1
  go_wp2_with fail
  refine (beyond_one w1 s.len (by omega)).mono ?_
  rintro e3 W3 ⟨⟨b, rfl, hb⟩, bel3⟩
  have B3 := veil (B1.out.trans (bel3.mono B1.out.size))
  clear bel3 B1
  cases b
  · have hl3 := hb rfl
    clear hb
    go_wp2_with fail
    refine (get_any7 s W3 (HS.out.below B3.out) HT.out (HL.out.step B3.out)).mono ?_
    rintro x4 w4 ⟨hp, bel4⟩
    have B4 := veil (B3.out.trans (bel4.mono B3.out.size))
    clear bel4 B3
    rcases hp with ⟨e, h1, rfl⟩ | ⟨fs, h1, rfl, h3, ⟨h4, h5⟩, _⟩
    · rcases Fr.get_errs h1 with rfl | rfl | rfl
      · clear h1
        go_wp2_with fail
        go_ret
        exact ⟨rfl, B4.out⟩
      · clear h1
        go_wp2_with fail
        go_ret
        exact ⟨rfl, B4.out⟩
      · clear h1
        go_wp2_with fail
        go_ret
        exact ⟨rfl, B4.out⟩
    · have HG := veil h1
      have HF := veil (show fs.Ok w4 from h3)
      have HF5 := veil h5
      clear h1 h3 h5
      go_wp2_with fail
      refine (put_any7 fs w4 HF.out (by omega) (fun j hj => by have := (HF5.out j hj).1; omega) (HL.out.step B4.out) (HN.out.step B4.out)).mono ?_
      rintro e5 w5 ⟨⟨q, hqo, hqt, hq⟩, bel5⟩
      have B5 := veil (B4.out.trans (bel5.mono B4.out.size))
      have HQ := veil hqo
      have HQT := veil hqt
      have HF' := veil (HF.out.below bel5)
      clear bel5 B4 hqo hqt HF
      rcases hq with ⟨rfl, h0, h1, h2, h3, h4', h5⟩ | ⟨rfl, h0, _, _⟩ | ⟨rfl, h0, q0, qb⟩
      · have HG2 := veil (show Fr.getAll q.b = .ok fs.fr by
          rw [h1]
          refine Fr.get_put fs.fr h2 h3 h4' ?_
          have := HQ.out.hb
          rw [h1] at this
          omega)
        clear h0 h1 h2 h3 h4' h5
        go_wp2_with fail
        refine (get_any7 q w5 HQ.out (fun _ => HQT.out) (HL.out.step B5.out)).mono ?_
        rintro x6 w6 ⟨hp, bel6⟩
        have B6 := veil (B5.out.trans (bel6.mono B5.out.size))
        have HF6 := veil (HF'.out.below bel6)
        clear bel6
        rcases hp with ⟨e, h1, _⟩ | ⟨fz, h1, rfl, h3, _, _⟩
        · exfalso
          rw [HG2.out] at h1
          cases h1
        · have HE := veil (show fs.fr = fz.fr by rw [HG2.out] at h1; injection h1)
          have HZ := veil (show fz.Ok w6 from h3)
          clear h1 h3 HG HG2
          go_wp2_with fail
          refine (same_frames fs fz w6 HF6.out HZ.out HE.out (by omega) (fun j hj => by have := HF5.out j hj; omega)).mono ?_
          rintro e7 w7 ⟨rfl, bel7⟩
          have B7 := veil (B6.out.trans (bel7.mono B6.out.size))
          clear bel7
          go_wp2_with fail
          go_ret
          exact ⟨rfl, B7.out⟩
      · exfalso
        obtain ⟨k1, k2, _⟩ := Fr.get_told HG.out
        rw [putE] at h0
        rw [if_pos ⟨k1, k2⟩] at h0
        split at h0
        · cases h0
        · split at h0 <;> cases h0
      · have hlong : 1000000 < s.len := by
          obtain ⟨k1, k2, k3, k4, _⟩ := Fr.get_told HG.out
          have hsl := HS.out.hb
          rcases Nat.lt_or_ge 1048576 (Fr.putAll fs.fr).length with hx | hx
          · omega
          · rw [putE_ok ⟨k1, k2⟩ (by omega) (by omega)] at h0
            cases h0
        have f1 : decide ((1000000 : Int) < (s.len : Int)) = true := decide_eq_true (by omega)
        have GQ := veil (show Calls Tryd.prog 11 #[.slice q.a 0 q.cap] w5 fun x w' => GetPost w5 q.b x w' ∧ Below w5.heap.size w5 w' by
          have := get_any7 q w5 HQ.out (fun _ => HQT.out) (HL.out.step B5.out)
          rw [q0] at this
          exact this)
        clear h0 q0 HQ HQT
        go_wp2_with fail
        refine GQ.out.mono ?_
        rintro x6 w6 ⟨hp, bel6⟩
        have B6 := veil (B5.out.trans (bel6.mono B5.out.size))
        clear bel6
        rcases hp with ⟨e, h1, rfl⟩ | ⟨fz, h1, rfl, _⟩
        · clear h1
          go_wp2_with fail
          go_ret
          exact ⟨rfl, B6.out⟩
        · clear h1
          go_wp2_with fail
          go_ret
          exact ⟨rfl, B6.out⟩
  · clear hb
    go_wp2_with fail
    refine (alive_any W3 (HL.out.step B3.out) (HN.out.step B3.out)).mono ?_
    rintro e4 w4 ⟨rfl, bel4⟩
    have B4 := veil (B3.out.trans (bel4.mono B3.out.size))
    clear bel4
    go_wp2_with fail
    go_ret
    exact ⟨rfl, B4.out⟩
end Go.Proofs.YtjhgelhdhdcmfaaDoor

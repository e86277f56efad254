/-
  FrameBack, walked.
-/
import Derived.Test.YtjhgelhdhdcmfaaDoorGfFrAliveW
import Derived.Test.YtjhgelhdhdcmfaaDoorGfFrPutL
import Derived.Test.YtjhgelhdhdcmfaaDoorGf10
namespace Go.Proofs.YtjhgelhdhdcmfaaDoor
open Go Go.RowKit

set_option maxRecDepth 20000 in
set_option maxHeartbeats 400000 in
theorem back_walk (s : FS) (w : World) (hs : s.Ok w) (hl : s.len ≤ 140737488355328) (hd : ∀ j, j < s.len → (gf s.l j).data.len ≤ 140737488355328 ∧ (gf s.l j).ranges.len ≤ 140737488355328) (hL : Lens w) (hN : Named w) :
    Calls Tryd.prog 3 #[.slice s.a s.len s.cap] w fun e w' => e = .returned (.bool true) ∧ Below w.heap.size w w' := by
  have HS := veil hs
  have HD := veil hd
  have HL := veil hL
  have HN := veil hN
  clear hs hd hL hN
  go_enter Tryd.func3, Tryd.ntmps3
  go_wp2_with fail
  refine (alive_any w HL.out HN.out).mono ?_
  rintro e1 w1 ⟨rfl, bel1⟩
  have B1 := veil bel1
  clear bel1
  go_wp2_with fail
  refine (frames_size s w1 (HS.out.below B1.out) hl HD.out).mono ?_
  rintro e2 w2 ⟨⟨N, rfl, hN1, hN2⟩, bel2⟩
  have B2 := veil (B1.out.trans (bel2.mono B1.out.size))
  have HN2 := veil hN2
  clear bel2 hN2 B1
  go_wp2_with fail
  refine (beyond_one w2 N hN1).mono ?_
  rintro e3 W3 ⟨⟨b, rfl, hb⟩, bel3⟩
  have B3 := veil (B2.out.trans (bel3.mono B2.out.size))
  clear bel3 B2
  cases b
  · have hN3 := HN2.out (hb rfl)
    have HD3 := veil hN3.2
    have hl3 := hN3.1
    clear hb HN2 hN3 hN1
    go_wp2_with fail
    refine (put_any7 s W3 (HS.out.below B3.out) (by omega) (fun j hj => by have := (HD3.out j hj).1; omega) (HL.out.step B3.out) (HN.out.step B3.out)).mono ?_
    rintro e4 w4 ⟨⟨q, hqo, hqt, hq⟩, bel4⟩
    have B4 := veil (B3.out.trans (bel4.mono B3.out.size))
    have HQ := veil hqo
    have HT := veil hqt
    clear bel4 B3 hqo hqt
    rcases hq with ⟨rfl, h0, h1, h2, h3, h4, h5⟩ | ⟨rfl, h0, _, _⟩ | ⟨rfl, h0, _, _⟩
    · have HG := veil (show Fr.getAll q.b = .ok s.fr by
        rw [h1]
        refine Fr.get_put s.fr h2 h3 h4 ?_
        have := HQ.out.hb
        rw [h1] at this
        omega)
      clear h0 h1 h2 h3 h4 h5
      go_wp2_with fail
      refine (get_any7 q w4 HQ.out (fun _ => HT.out) (HL.out.step B4.out)).mono ?_
      rintro x5 w5 ⟨hp, bel5⟩
      have B5 := veil (B4.out.trans (bel5.mono B4.out.size))
      clear bel5
      rcases hp with ⟨e, h1, _⟩ | ⟨fs, h1, rfl, h3, ⟨h4, h5⟩, _⟩
      · exfalso
        rw [HG.out] at h1
        cases h1
      · have HE := veil (show fs.fr = s.fr by rw [HG.out] at h1; injection h1 with h1; exact h1.symm)
        have HF := veil (show fs.Ok w5 from h3)
        have HF5 := veil h5
        clear h1 h3 h5 HG
        go_wp2_with fail
        refine (same_frames fs s w5 HF.out (HS.out.below B5.out) HE.out (by omega) (fun j hj => by have := HF5.out j hj; omega)).mono ?_
        rintro e6 w6 ⟨rfl, bel6⟩
        have B6 := veil (B5.out.trans (bel6.mono B5.out.size))
        clear bel6
        go_wp2_with fail
        go_ret
        exact ⟨rfl, B6.out⟩
    · clear h0
      go_wp2_with fail
      go_ret
      exact ⟨rfl, B4.out⟩
    · clear h0
      go_wp2_with fail
      go_ret
      exact ⟨rfl, B4.out⟩
  · clear hb HN2
    go_wp2_with fail
    refine (alive_any W3 (HL.out.step B3.out) (HN.out.step B3.out)).mono ?_
    rintro e4 w4 ⟨rfl, bel4⟩
    have B4 := veil (B3.out.trans (bel4.mono B3.out.size))
    clear bel4
    go_wp2_with fail
    go_ret
    exact ⟨rfl, B4.out⟩
end Go.Proofs.YtjhgelhdhdcmfaaDoor

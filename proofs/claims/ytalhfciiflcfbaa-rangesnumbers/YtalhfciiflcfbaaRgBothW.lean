/-
  RangesBoth, walked.
-/
import Derived.Test.YtalhfciiflcfbaaRgAlive
import Derived.Test.YtalhfciiflcfbaaRgHasC
namespace Go.Proofs.Ytalhfciiflcfbaa
open Go Go.RowKit Go.Shelf

theorem small_comb {rule : Bool → Bool → Bool} {a b : List (Nat × Nat)} {E : Int} {o : RL} {w : World} (h : o.Ok w) (hc : Rg.Comb rule a b o.l E) : o.len ≤ 8388608 := by rw [← h.hb]; exact Nat.le_trans (Rg.comb_small hc) (by decide)
theorem small_set8 {o : RL} {w : World} (h : o.Ok w) (hs : Rg.setOk o.l) : o.len ≤ 1048576 := by rw [← h.hb]; exact Nat.le_trans hs.1 (by decide)
theorem check_yes {s : RL} {w : World} (h : s.Ok w) (hs : Rg.setOk s.l) : Calls Try.prog 8 #[.slice s.a s.len s.cap] w fun e w' => e = .returned (.bool true) ∧ Below w.heap.size w w' := by
  refine (rg_check s w h).mono ?_
  rintro e w' ⟨⟨rfl, _⟩ | ⟨_, h⟩, hb⟩
  · exact ⟨rfl, hb⟩
  · exact absurd hs h
theorem check_no {s : RL} {w : World} (h : s.Ok w) (hs : ¬ Rg.setOk s.l) : Calls Try.prog 8 #[.slice s.a s.len s.cap] w fun e w' => e = .returned (.bool false) ∧ Below w.heap.size w w' := by
  refine (rg_check s w h).mono ?_
  rintro e w' ⟨⟨_, h⟩ | ⟨rfl, _⟩, hb⟩
  · exact absurd h hs
  · exact ⟨rfl, hb⟩

set_option maxRecDepth 100000 in
set_option maxHeartbeats 4000000 in
theorem both_walk (s t : RL) (n : Nat) (w : World) (hs : s.Ok w) (ht : t.Ok w) :
    Calls Try.prog 5 #[.slice s.a s.len s.cap, .slice t.a t.len t.cap, .int .u64 (n : Int)] w fun e w' => e = .returned (.bool true) ∧ Below w.heap.size w w' := by
  have OS := veil hs
  have OT := veil ht
  clear hs ht
  have HB0 := veil (Below.refl w.heap.size w)
  go_enter Try.func5, Try.ntmps5
  go_wp2_with fail
  refine (rg_meet s t w OS.out OT.out).mono ?_
  rintro e1 w1 ⟨o1, E1, rfl, hc1, ha1, hb1⟩
  have HB1 := veil (HB0.out.trans (hb1.mono HB0.out.size))
  have OSq := veil (OS.out.below hb1)
  clear OS
  have OS := OSq
  clear OSq
  have OTq := veil (OT.out.below hb1)
  clear OT
  have OT := OTq
  clear OTq
  have OA := veil ha1.ok
  have CA := veil hc1
  clear ha1 hc1
  clear hb1 HB0
  go_wp2_with fail
  refine (rg_meet t s w1 OT.out OS.out).mono ?_
  rintro e2 w2 ⟨o2, E2, rfl, hc2, ha2, hb2⟩
  have HB2 := veil (HB1.out.trans (hb2.mono HB1.out.size))
  have OSq := veil (OS.out.below hb2)
  clear OS
  have OS := OSq
  clear OSq
  have OTq := veil (OT.out.below hb2)
  clear OT
  have OT := OTq
  clear OTq
  have OAq := veil (OA.out.below hb2)
  clear OA
  have OA := OAq
  clear OAq
  have OB := veil ha2.ok
  have CB := veil hc2
  clear ha2 hc2
  clear hb2 HB1
  obtain ⟨hl2, he2⟩ := Rg.meet_swap CA.out CB.out
  have LB := veil hl2
  subst he2
  clear hl2
  have fd : (E1 != E1) = false := by simp
  have MA := veil (small_comb OA.out CA.out)
  go_wp2_with fail
  refine (alive_any w2).mono ?_
  rintro e3 w3 ⟨rfl, hb3⟩
  have HB3 := veil (HB2.out.trans (hb3.mono HB2.out.size))
  have OSq := veil (OS.out.below hb3)
  clear OS
  have OS := OSq
  clear OSq
  have OTq := veil (OT.out.below hb3)
  clear OT
  have OT := OTq
  clear OTq
  have OAq := veil (OA.out.below hb3)
  clear OA
  have OA := OAq
  clear OAq
  have OBq := veil (OB.out.below hb3)
  clear OB
  have OB := OBq
  clear OBq
  clear hb3 HB2
  go_wp2_with fail
  refine (same_rl o1 o2 w3 OA.out OB.out LB.out MA.out).mono ?_
  rintro e4 w4 ⟨rfl, hb4⟩
  have HB4 := veil (HB3.out.trans (hb4.mono HB3.out.size))
  have OSq := veil (OS.out.below hb4)
  clear OS
  have OS := OSq
  clear OSq
  have OTq := veil (OT.out.below hb4)
  clear OT
  have OT := OTq
  clear OTq
  have OAq := veil (OA.out.below hb4)
  clear OA
  have OA := OAq
  clear OAq
  have OBq := veil (OB.out.below hb4)
  clear OB
  have OB := OBq
  clear OBq
  clear hb4 HB3
  by_cases he : E1 = 0
  · subst he
    have KA := veil (Rg.comb_ok CA.out)
    have SS := veil KA.out.1.1
    go_wp2_with fail
    refine (check_yes OA.out KA.out.2.1).mono ?_
    rintro e5 w5 ⟨rfl, hb5⟩
    have HB5 := veil (HB4.out.trans (hb5.mono HB4.out.size))
    have OSq := veil (OS.out.below hb5)
    clear OS
    have OS := OSq
    clear OSq
    have OTq := veil (OT.out.below hb5)
    clear OT
    have OT := OTq
    clear OTq
    have OAq := veil (OA.out.below hb5)
    clear OA
    have OA := OAq
    clear OAq
    have OBq := veil (OB.out.below hb5)
    clear OB
    have OB := OBq
    clear OBq
    clear hb5 HB4
    go_wp2_with fail
    cases hv : Rg.hasL s.l n
    · have HV := veil hv
      have HA := veil (rg_has o1 n w5 OA.out (small_set8 OA.out KA.out.2.1))
      rw [show Rg.hasL o1.l n = false by rw [KA.out.2.2 n, hv]; rfl] at HA
      clear hv
      refine (HA.out).mono ?_
      rintro e6 w6 ⟨rfl, hb6⟩
      have HB6 := veil (HB5.out.trans (hb6.mono HB5.out.size))
      have OSq := veil (OS.out.below hb6)
      clear OS
      have OS := OSq
      clear OSq
      have OTq := veil (OT.out.below hb6)
      clear OT
      have OT := OTq
      clear OTq
      have OAq := veil (OA.out.below hb6)
      clear OA
      have OA := OAq
      clear OAq
      have OBq := veil (OB.out.below hb6)
      clear OB
      have OB := OBq
      clear OBq
      clear HA
      clear hb6 HB5
      go_wp2_with fail
      have HS := veil (rg_has s n w6 OS.out (small_set8 OS.out KA.out.1.1))
      rw [HV.out] at HS
      refine (HS.out).mono ?_
      rintro e7 w7 ⟨rfl, hb7⟩
      have HB7 := veil (HB6.out.trans (hb7.mono HB6.out.size))
      have OSq := veil (OS.out.below hb7)
      clear OS
      have OS := OSq
      clear OSq
      have OTq := veil (OT.out.below hb7)
      clear OT
      have OT := OTq
      clear OTq
      have OAq := veil (OA.out.below hb7)
      clear OA
      have OA := OAq
      clear OAq
      have OBq := veil (OB.out.below hb7)
      clear OB
      have OB := OBq
      clear OBq
      clear HS
      clear hb7 HB6
      go_wp2_with fail
      refine (rg_meet s s w7 OS.out OS.out).mono ?_
      rintro e8 w8 ⟨o8, E8, rfl, hc8, ha8, hb8⟩
      have HB8 := veil (HB7.out.trans (hb8.mono HB7.out.size))
      have OSq := veil (OS.out.below hb8)
      clear OS
      have OS := OSq
      clear OSq
      have OTq := veil (OT.out.below hb8)
      clear OT
      have OT := OTq
      clear OTq
      have OAq := veil (OA.out.below hb8)
      clear OA
      have OA := OAq
      clear OAq
      have OBq := veil (OB.out.below hb8)
      clear OB
      have OB := OBq
      clear OBq
      have OD := veil ha8.ok
      have CD := veil hc8
      clear ha8 hc8
      clear hb8 HB7
      obtain ⟨rfl, hl8⟩ := (Rg.meet_self CD.out).1 SS.out
      have LD := veil hl8
      have MD := veil (small_comb OD.out CD.out)
      clear hl8
      go_wp2_with fail
      refine (check_yes OS.out SS.out).mono ?_
      rintro e9 w9 ⟨rfl, hb9⟩
      have HB9 := veil (HB8.out.trans (hb9.mono HB8.out.size))
      have OSq := veil (OS.out.below hb9)
      clear OS
      have OS := OSq
      clear OSq
      have OTq := veil (OT.out.below hb9)
      clear OT
      have OT := OTq
      clear OTq
      have OAq := veil (OA.out.below hb9)
      clear OA
      have OA := OAq
      clear OAq
      have OBq := veil (OB.out.below hb9)
      clear OB
      have OB := OBq
      clear OBq
      have ODq := veil (OD.out.below hb9)
      clear OD
      have OD := ODq
      clear ODq
      clear hb9 HB8
      go_wp2_with fail
      refine (check_yes OS.out SS.out).mono ?_
      rintro e10 w10 ⟨rfl, hb10⟩
      have HB10 := veil (HB9.out.trans (hb10.mono HB9.out.size))
      have OSq := veil (OS.out.below hb10)
      clear OS
      have OS := OSq
      clear OSq
      have OTq := veil (OT.out.below hb10)
      clear OT
      have OT := OTq
      clear OTq
      have OAq := veil (OA.out.below hb10)
      clear OA
      have OA := OAq
      clear OAq
      have OBq := veil (OB.out.below hb10)
      clear OB
      have OB := OBq
      clear OBq
      have ODq := veil (OD.out.below hb10)
      clear OD
      have OD := ODq
      clear ODq
      clear hb10 HB9
      go_wp2_with fail
      refine (same_rl o8 s w10 OD.out OS.out LD.out MD.out).mono ?_
      rintro e11 w11 ⟨rfl, hb11⟩
      have HB11 := veil (HB10.out.trans (hb11.mono HB10.out.size))
      have OSq := veil (OS.out.below hb11)
      clear OS
      have OS := OSq
      clear OSq
      have OTq := veil (OT.out.below hb11)
      clear OT
      have OT := OTq
      clear OTq
      have OAq := veil (OA.out.below hb11)
      clear OA
      have OA := OAq
      clear OAq
      have OBq := veil (OB.out.below hb11)
      clear OB
      have OB := OBq
      clear OBq
      have ODq := veil (OD.out.below hb11)
      clear OD
      have OD := ODq
      clear ODq
      clear hb11 HB10
      go_wp2
      go_ret
      exact ⟨rfl, HB11.out⟩
    · have HV := veil hv
      have HA := veil (rg_has o1 n w5 OA.out (small_set8 OA.out KA.out.2.1))
      rw [show Rg.hasL o1.l n = Rg.hasL t.l n by rw [KA.out.2.2 n, hv]; rfl] at HA
      clear hv
      refine (HA.out).mono ?_
      rintro e6 w6 ⟨rfl, hb6⟩
      have HB6 := veil (HB5.out.trans (hb6.mono HB5.out.size))
      have OSq := veil (OS.out.below hb6)
      clear OS
      have OS := OSq
      clear OSq
      have OTq := veil (OT.out.below hb6)
      clear OT
      have OT := OTq
      clear OTq
      have OAq := veil (OA.out.below hb6)
      clear OA
      have OA := OAq
      clear OAq
      have OBq := veil (OB.out.below hb6)
      clear OB
      have OB := OBq
      clear OBq
      clear HA
      clear hb6 HB5
      go_wp2_with fail
      have HS := veil (rg_has s n w6 OS.out (small_set8 OS.out KA.out.1.1))
      rw [HV.out] at HS
      refine (HS.out).mono ?_
      rintro e7 w7 ⟨rfl, hb7⟩
      have HB7 := veil (HB6.out.trans (hb7.mono HB6.out.size))
      have OSq := veil (OS.out.below hb7)
      clear OS
      have OS := OSq
      clear OSq
      have OTq := veil (OT.out.below hb7)
      clear OT
      have OT := OTq
      clear OTq
      have OAq := veil (OA.out.below hb7)
      clear OA
      have OA := OAq
      clear OAq
      have OBq := veil (OB.out.below hb7)
      clear OB
      have OB := OBq
      clear OBq
      clear HS
      clear hb7 HB6
      go_wp2_with fail
      refine (rg_has t n w7 OT.out (small_set8 OT.out KA.out.1.2)).mono ?_
      rintro e8 w8 ⟨rfl, hb8⟩
      have HB8 := veil (HB7.out.trans (hb8.mono HB7.out.size))
      have OSq := veil (OS.out.below hb8)
      clear OS
      have OS := OSq
      clear OSq
      have OTq := veil (OT.out.below hb8)
      clear OT
      have OT := OTq
      clear OTq
      have OAq := veil (OA.out.below hb8)
      clear OA
      have OA := OAq
      clear OAq
      have OBq := veil (OB.out.below hb8)
      clear OB
      have OB := OBq
      clear OBq
      clear hb8 HB7
      have fh : (Rg.hasL t.l n != Rg.hasL t.l n) = false := by simp
      go_wp2_with fail
      refine (rg_meet s s w8 OS.out OS.out).mono ?_
      rintro e9 w9 ⟨o9, E9, rfl, hc9, ha9, hb9⟩
      have HB9 := veil (HB8.out.trans (hb9.mono HB8.out.size))
      have OSq := veil (OS.out.below hb9)
      clear OS
      have OS := OSq
      clear OSq
      have OTq := veil (OT.out.below hb9)
      clear OT
      have OT := OTq
      clear OTq
      have OAq := veil (OA.out.below hb9)
      clear OA
      have OA := OAq
      clear OAq
      have OBq := veil (OB.out.below hb9)
      clear OB
      have OB := OBq
      clear OBq
      have OD := veil ha9.ok
      have CD := veil hc9
      clear ha9 hc9
      clear hb9 HB8
      obtain ⟨rfl, hl9⟩ := (Rg.meet_self CD.out).1 SS.out
      have LD := veil hl9
      have MD := veil (small_comb OD.out CD.out)
      clear hl9
      go_wp2_with fail
      refine (check_yes OS.out SS.out).mono ?_
      rintro e10 w10 ⟨rfl, hb10⟩
      have HB10 := veil (HB9.out.trans (hb10.mono HB9.out.size))
      have OSq := veil (OS.out.below hb10)
      clear OS
      have OS := OSq
      clear OSq
      have OTq := veil (OT.out.below hb10)
      clear OT
      have OT := OTq
      clear OTq
      have OAq := veil (OA.out.below hb10)
      clear OA
      have OA := OAq
      clear OAq
      have OBq := veil (OB.out.below hb10)
      clear OB
      have OB := OBq
      clear OBq
      have ODq := veil (OD.out.below hb10)
      clear OD
      have OD := ODq
      clear ODq
      clear hb10 HB9
      go_wp2_with fail
      refine (check_yes OS.out SS.out).mono ?_
      rintro e11 w11 ⟨rfl, hb11⟩
      have HB11 := veil (HB10.out.trans (hb11.mono HB10.out.size))
      have OSq := veil (OS.out.below hb11)
      clear OS
      have OS := OSq
      clear OSq
      have OTq := veil (OT.out.below hb11)
      clear OT
      have OT := OTq
      clear OTq
      have OAq := veil (OA.out.below hb11)
      clear OA
      have OA := OAq
      clear OAq
      have OBq := veil (OB.out.below hb11)
      clear OB
      have OB := OBq
      clear OBq
      have ODq := veil (OD.out.below hb11)
      clear OD
      have OD := ODq
      clear ODq
      clear hb11 HB10
      go_wp2_with fail
      refine (same_rl o9 s w11 OD.out OS.out LD.out MD.out).mono ?_
      rintro e12 w12 ⟨rfl, hb12⟩
      have HB12 := veil (HB11.out.trans (hb12.mono HB11.out.size))
      have OSq := veil (OS.out.below hb12)
      clear OS
      have OS := OSq
      clear OSq
      have OTq := veil (OT.out.below hb12)
      clear OT
      have OT := OTq
      clear OTq
      have OAq := veil (OA.out.below hb12)
      clear OA
      have OA := OAq
      clear OAq
      have OBq := veil (OB.out.below hb12)
      clear OB
      have OB := OBq
      clear OBq
      have ODq := veil (OD.out.below hb12)
      clear OD
      have OD := ODq
      clear ODq
      clear hb12 HB11
      go_wp2
      go_ret
      exact ⟨rfl, HB12.out⟩
  · have fe : (E1 == 0) = false := by simpa using he
    clear he
    go_wp2_with fail
    by_cases hss : Rg.setOk s.l
    · have SS := veil hss
      clear hss
      refine (rg_meet s s w4 OS.out OS.out).mono ?_
      rintro e5 w5 ⟨o5, E5, rfl, hc5, ha5, hb5⟩
      have HB5 := veil (HB4.out.trans (hb5.mono HB4.out.size))
      have OSq := veil (OS.out.below hb5)
      clear OS
      have OS := OSq
      clear OSq
      have OTq := veil (OT.out.below hb5)
      clear OT
      have OT := OTq
      clear OTq
      have OAq := veil (OA.out.below hb5)
      clear OA
      have OA := OAq
      clear OAq
      have OBq := veil (OB.out.below hb5)
      clear OB
      have OB := OBq
      clear OBq
      have OD := veil ha5.ok
      have CD := veil hc5
      clear ha5 hc5
      clear hb5 HB4
      obtain ⟨rfl, hl5⟩ := (Rg.meet_self CD.out).1 SS.out
      have LD := veil hl5
      have MD := veil (small_comb OD.out CD.out)
      clear hl5
      go_wp2_with fail
      refine (check_yes OS.out SS.out).mono ?_
      rintro e6 w6 ⟨rfl, hb6⟩
      have HB6 := veil (HB5.out.trans (hb6.mono HB5.out.size))
      have OSq := veil (OS.out.below hb6)
      clear OS
      have OS := OSq
      clear OSq
      have OTq := veil (OT.out.below hb6)
      clear OT
      have OT := OTq
      clear OTq
      have OAq := veil (OA.out.below hb6)
      clear OA
      have OA := OAq
      clear OAq
      have OBq := veil (OB.out.below hb6)
      clear OB
      have OB := OBq
      clear OBq
      have ODq := veil (OD.out.below hb6)
      clear OD
      have OD := ODq
      clear ODq
      clear hb6 HB5
      go_wp2_with fail
      refine (check_yes OS.out SS.out).mono ?_
      rintro e7 w7 ⟨rfl, hb7⟩
      have HB7 := veil (HB6.out.trans (hb7.mono HB6.out.size))
      have OSq := veil (OS.out.below hb7)
      clear OS
      have OS := OSq
      clear OSq
      have OTq := veil (OT.out.below hb7)
      clear OT
      have OT := OTq
      clear OTq
      have OAq := veil (OA.out.below hb7)
      clear OA
      have OA := OAq
      clear OAq
      have OBq := veil (OB.out.below hb7)
      clear OB
      have OB := OBq
      clear OBq
      have ODq := veil (OD.out.below hb7)
      clear OD
      have OD := ODq
      clear ODq
      clear hb7 HB6
      go_wp2_with fail
      refine (same_rl o5 s w7 OD.out OS.out LD.out MD.out).mono ?_
      rintro e8 w8 ⟨rfl, hb8⟩
      have HB8 := veil (HB7.out.trans (hb8.mono HB7.out.size))
      have OSq := veil (OS.out.below hb8)
      clear OS
      have OS := OSq
      clear OSq
      have OTq := veil (OT.out.below hb8)
      clear OT
      have OT := OTq
      clear OTq
      have OAq := veil (OA.out.below hb8)
      clear OA
      have OA := OAq
      clear OAq
      have OBq := veil (OB.out.below hb8)
      clear OB
      have OB := OBq
      clear OBq
      have ODq := veil (OD.out.below hb8)
      clear OD
      have OD := ODq
      clear ODq
      clear hb8 HB7
      go_wp2
      go_ret
      exact ⟨rfl, HB8.out⟩
    · have SS := veil hss
      clear hss
      refine (rg_meet s s w4 OS.out OS.out).mono ?_
      rintro e5 w5 ⟨o5, E5, rfl, hc5, ha5, hb5⟩
      have HB5 := veil (HB4.out.trans (hb5.mono HB4.out.size))
      have OSq := veil (OS.out.below hb5)
      clear OS
      have OS := OSq
      clear OSq
      have OTq := veil (OT.out.below hb5)
      clear OT
      have OT := OTq
      clear OTq
      have OAq := veil (OA.out.below hb5)
      clear OA
      have OA := OAq
      clear OAq
      have OBq := veil (OB.out.below hb5)
      clear OB
      have OB := OBq
      clear OBq
      have OD := veil ha5.ok
      have CD := veil hc5
      clear ha5 hc5
      clear hb5 HB4
      obtain rfl := (Rg.meet_self CD.out).2 SS.out
      go_wp2_with fail
      refine (check_no OS.out SS.out).mono ?_
      rintro e6 w6 ⟨rfl, hb6⟩
      have HB6 := veil (HB5.out.trans (hb6.mono HB5.out.size))
      have OSq := veil (OS.out.below hb6)
      clear OS
      have OS := OSq
      clear OSq
      have OTq := veil (OT.out.below hb6)
      clear OT
      have OT := OTq
      clear OTq
      have OAq := veil (OA.out.below hb6)
      clear OA
      have OA := OAq
      clear OAq
      have OBq := veil (OB.out.below hb6)
      clear OB
      have OB := OBq
      clear OBq
      have ODq := veil (OD.out.below hb6)
      clear OD
      have OD := ODq
      clear ODq
      clear hb6 HB5
      go_wp2
      go_ret
      exact ⟨rfl, HB6.out⟩
end Go.Proofs.Ytalhfciiflcfbaa

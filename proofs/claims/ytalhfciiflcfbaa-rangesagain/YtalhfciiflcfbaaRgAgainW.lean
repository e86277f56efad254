/-
  RangesAgain, walked.
-/
import Derived.Test.YtalhfciiflcfbaaRgAlive
namespace Go.Proofs.Ytalhfciiflcfbaa
open Go Go.RowKit Go.Shelf

theorem small_ok {o : RL} {w : World} (h : o.Ok w) (hs : Rg.setOk o.l) : o.len ≤ 8388608 := by rw [← h.hb]; exact Nat.le_trans hs.1 (by decide)

set_option maxRecDepth 100000 in
set_option maxHeartbeats 4000000 in
theorem again_walk (s : RL) (x y : Nat) (w : World) (hs : s.Ok w) (hx : x < 18446744073709551616) (hy : y < 18446744073709551616) :
    Calls Try.prog 4 #[.slice s.a s.len s.cap, .agg #[.int .u64 (x : Int), .int .u64 (y : Int)]] w fun e w' => e = .returned (.bool true) ∧ Below w.heap.size w w' := by
  have HB0 := veil ((Below.refl w.heap.size w).alloc (Nat.le_refl _) (.cells #[.int .u64 (x : Int), .int .u64 (y : Int)] 25))
  have OS := veil (hs.below HB0.out)
  have RB : Hid (Row (w.alloc (.cells #[.int .u64 (x : Int), .int .u64 (y : Int)] 25)) w.heap.size 25 #[.int .u64 (x : Int), .int .u64 (y : Int)]) := Row.new _ _ _
  have RBc0 := RB.out.cell 0
  have RBc1 := RB.out.cell 1
  clear hs
  go_enter Try.func4, Try.ntmps4
  go_wp2_with fail
  generalize (w.alloc (.cells #[.int .u64 (x : Int), .int .u64 (y : Int)] 25)) = v0 at *
  refine (rg_add s x y v0 OS.out hx hy).mono ?_
  rintro e1 w1 ⟨o1, E1, rfl, hc1, ha1, hb1⟩
  have HB1 := veil (HB0.out.trans (hb1.mono HB0.out.size))
  have OSq := veil (OS.out.below hb1)
  clear OS
  have OS := OSq
  clear OSq
  have RBq := veil (RB.out.below hb1 RB.out.lt)
  clear RB
  have RB := RBq
  clear RBq
  clear RBc0
  clear RBc1
  have RBc0 := RB.out.cell 0
  have RBc1 := RB.out.cell 1
  have OA := veil ha1.ok
  have CA := veil hc1
  clear ha1 hc1
  clear hb1 HB0
  go_wp2_with fail
  refine (rg_cut s x y w1 OS.out hx hy).mono ?_
  rintro e2 w2 ⟨o2, E2, rfl, hc2, ha2, hb2⟩
  have HB2 := veil (HB1.out.trans (hb2.mono HB1.out.size))
  have OSq := veil (OS.out.below hb2)
  clear OS
  have OS := OSq
  clear OSq
  have OAq := veil (OA.out.below hb2)
  clear OA
  have OA := OAq
  clear OAq
  have RBq := veil (RB.out.below hb2 RB.out.lt)
  clear RB
  have RB := RBq
  clear RBq
  clear RBc0
  clear RBc1
  have RBc0 := RB.out.cell 0
  have RBc1 := RB.out.cell 1
  have OB := veil ha2.ok
  have CB := veil hc2
  clear ha2 hc2
  clear hb2 HB1
  go_wp2_with fail
  refine (alive_any w2).mono ?_
  rintro e3 w3 ⟨rfl, hb3⟩
  have HB3 := veil (HB2.out.trans (hb3.mono HB2.out.size))
  have OSq := veil (OS.out.below hb3)
  clear OS
  have OS := OSq
  clear OSq
  have OAq := veil (OA.out.below hb3)
  clear OA
  have OA := OAq
  clear OAq
  have OBq := veil (OB.out.below hb3)
  clear OB
  have OB := OBq
  clear OBq
  have RBq := veil (RB.out.below hb3 RB.out.lt)
  clear RB
  have RB := RBq
  clear RBq
  clear RBc0
  clear RBc1
  have RBc0 := RB.out.cell 0
  have RBc1 := RB.out.cell 1
  clear hb3 HB2
  by_cases he : E1 = 0
  · subst he
    go_wp2_with fail
    refine (rg_add o1 x y w3 OA.out hx hy).mono ?_
    rintro e4 w4 ⟨o4, E4, rfl, hc4, ha4, hb4⟩
    have HB4 := veil (HB3.out.trans (hb4.mono HB3.out.size))
    have OSq := veil (OS.out.below hb4)
    clear OS
    have OS := OSq
    clear OSq
    have OAq := veil (OA.out.below hb4)
    clear OA
    have OA := OAq
    clear OAq
    have OBq := veil (OB.out.below hb4)
    clear OB
    have OB := OBq
    clear OBq
    have RBq := veil (RB.out.below hb4 RB.out.lt)
    clear RB
    have RB := RBq
    clear RBq
    clear RBc0
    clear RBc1
    have RBc0 := RB.out.cell 0
    have RBc1 := RB.out.cell 1
    have OC := veil ha4.ok
    have CC := veil hc4
    clear ha4 hc4
    clear hb4 HB3
    obtain ⟨rfl, hl4⟩ := Rg.add_again CA.out CC.out
    have L4 := veil hl4
    have M4 := veil (small_ok OC.out (by rw [hl4]; exact (Rg.comb_ok CA.out).2.1))
    clear hl4
    go_wp2_with fail
    refine (same_rl o4 o1 w4 OC.out OA.out L4.out M4.out).mono ?_
    rintro e5 w5 ⟨rfl, hb5⟩
    have HB5 := veil (HB4.out.trans (hb5.mono HB4.out.size))
    have OSq := veil (OS.out.below hb5)
    clear OS
    have OS := OSq
    clear OSq
    have OAq := veil (OA.out.below hb5)
    clear OA
    have OA := OAq
    clear OAq
    have OBq := veil (OB.out.below hb5)
    clear OB
    have OB := OBq
    clear OBq
    have OCq := veil (OC.out.below hb5)
    clear OC
    have OC := OCq
    clear OCq
    have RBq := veil (RB.out.below hb5 RB.out.lt)
    clear RB
    have RB := RBq
    clear RBq
    clear RBc0
    clear RBc1
    have RBc0 := RB.out.cell 0
    have RBc1 := RB.out.cell 1
    clear hb5 HB4
    go_wp2_with fail
    refine (rg_cut o1 x y w5 OA.out hx hy).mono ?_
    rintro e6 w6 ⟨o6, E6, rfl, hc6, ha6, hb6⟩
    have HB6 := veil (HB5.out.trans (hb6.mono HB5.out.size))
    have OSq := veil (OS.out.below hb6)
    clear OS
    have OS := OSq
    clear OSq
    have OAq := veil (OA.out.below hb6)
    clear OA
    have OA := OAq
    clear OAq
    have OBq := veil (OB.out.below hb6)
    clear OB
    have OB := OBq
    clear OBq
    have OCq := veil (OC.out.below hb6)
    clear OC
    have OC := OCq
    clear OCq
    have RBq := veil (RB.out.below hb6 RB.out.lt)
    clear RB
    have RB := RBq
    clear RBq
    clear RBc0
    clear RBc1
    have RBc0 := RB.out.cell 0
    have RBc1 := RB.out.cell 1
    have OD := veil ha6.ok
    have CD := veil hc6
    clear ha6 hc6
    clear hb6 HB5
    obtain ⟨hh6, hl6⟩ := Rg.add_cut CA.out CB.out CD.out
    subst hh6
    have L6 := veil hl6
    clear hl6
    have fd : (E6 != E6) = false := by simp
    by_cases hf : E6 = 0
    · subst hf
      have ML6 := veil (small_ok OD.out (Rg.comb_ok CD.out).2.1)
      go_wp2_with fail
      refine (same_rl o6 o2 w6 OD.out OB.out L6.out ML6.out).mono ?_
      rintro e7 w7 ⟨rfl, hb7⟩
      have HB7 := veil (HB6.out.trans (hb7.mono HB6.out.size))
      have OSq := veil (OS.out.below hb7)
      clear OS
      have OS := OSq
      clear OSq
      have OAq := veil (OA.out.below hb7)
      clear OA
      have OA := OAq
      clear OAq
      have OBq := veil (OB.out.below hb7)
      clear OB
      have OB := OBq
      clear OBq
      have OCq := veil (OC.out.below hb7)
      clear OC
      have OC := OCq
      clear OCq
      have ODq := veil (OD.out.below hb7)
      clear OD
      have OD := ODq
      clear ODq
      have RBq := veil (RB.out.below hb7 RB.out.lt)
      clear RB
      have RB := RBq
      clear RBq
      clear RBc0
      clear RBc1
      have RBc0 := RB.out.cell 0
      have RBc1 := RB.out.cell 1
      clear hb7 HB6
      go_wp2_with fail
      refine (rg_cut o2 x y w7 OB.out hx hy).mono ?_
      rintro e8 w8 ⟨o8, E8, rfl, hc8, ha8, hb8⟩
      have HB8 := veil (HB7.out.trans (hb8.mono HB7.out.size))
      have OSq := veil (OS.out.below hb8)
      clear OS
      have OS := OSq
      clear OSq
      have OAq := veil (OA.out.below hb8)
      clear OA
      have OA := OAq
      clear OAq
      have OBq := veil (OB.out.below hb8)
      clear OB
      have OB := OBq
      clear OBq
      have OCq := veil (OC.out.below hb8)
      clear OC
      have OC := OCq
      clear OCq
      have ODq := veil (OD.out.below hb8)
      clear OD
      have OD := ODq
      clear ODq
      have RBq := veil (RB.out.below hb8 RB.out.lt)
      clear RB
      have RB := RBq
      clear RBq
      clear RBc0
      clear RBc1
      have RBc0 := RB.out.cell 0
      have RBc1 := RB.out.cell 1
      have OE := veil ha8.ok
      have CE := veil hc8
      clear ha8 hc8
      clear hb8 HB7
      obtain ⟨rfl, hl8⟩ := Rg.cut_again CB.out CE.out
      have L8 := veil hl8
      have M8 := veil (small_ok OE.out (by rw [hl8]; exact (Rg.comb_ok CB.out).2.1))
      clear hl8
      go_wp2_with fail
      refine (same_rl o8 o2 w8 OE.out OB.out L8.out M8.out).mono ?_
      rintro e9 w9 ⟨rfl, hb9⟩
      have HB9 := veil (HB8.out.trans (hb9.mono HB8.out.size))
      have OSq := veil (OS.out.below hb9)
      clear OS
      have OS := OSq
      clear OSq
      have OAq := veil (OA.out.below hb9)
      clear OA
      have OA := OAq
      clear OAq
      have OBq := veil (OB.out.below hb9)
      clear OB
      have OB := OBq
      clear OBq
      have OCq := veil (OC.out.below hb9)
      clear OC
      have OC := OCq
      clear OCq
      have ODq := veil (OD.out.below hb9)
      clear OD
      have OD := ODq
      clear ODq
      have OEq := veil (OE.out.below hb9)
      clear OE
      have OE := OEq
      clear OEq
      have RBq := veil (RB.out.below hb9 RB.out.lt)
      clear RB
      have RB := RBq
      clear RBq
      clear RBc0
      clear RBc1
      have RBc0 := RB.out.cell 0
      have RBc1 := RB.out.cell 1
      clear hb9 HB8
      go_wp2
      go_ret
      exact ⟨rfl, HB9.out⟩
    · have ff : (E6 == 0) = false := by simpa using hf
      clear hf
      go_wp2
      go_ret
      exact ⟨rfl, HB6.out⟩
  · have fe : (E1 == 0) = false := by simpa using he
    clear he
    by_cases hf : E2 = 0
    · subst hf
      go_wp2_with fail
      refine (rg_cut o2 x y w3 OB.out hx hy).mono ?_
      rintro e4 w4 ⟨o4, E4, rfl, hc4, ha4, hb4⟩
      have HB4 := veil (HB3.out.trans (hb4.mono HB3.out.size))
      have OSq := veil (OS.out.below hb4)
      clear OS
      have OS := OSq
      clear OSq
      have OAq := veil (OA.out.below hb4)
      clear OA
      have OA := OAq
      clear OAq
      have OBq := veil (OB.out.below hb4)
      clear OB
      have OB := OBq
      clear OBq
      have RBq := veil (RB.out.below hb4 RB.out.lt)
      clear RB
      have RB := RBq
      clear RBq
      clear RBc0
      clear RBc1
      have RBc0 := RB.out.cell 0
      have RBc1 := RB.out.cell 1
      have OE := veil ha4.ok
      have CE := veil hc4
      clear ha4 hc4
      clear hb4 HB3
      obtain ⟨rfl, hl4⟩ := Rg.cut_again CB.out CE.out
      have L4 := veil hl4
      have M4 := veil (small_ok OE.out (by rw [hl4]; exact (Rg.comb_ok CB.out).2.1))
      clear hl4
      go_wp2_with fail
      refine (same_rl o4 o2 w4 OE.out OB.out L4.out M4.out).mono ?_
      rintro e5 w5 ⟨rfl, hb5⟩
      have HB5 := veil (HB4.out.trans (hb5.mono HB4.out.size))
      have OSq := veil (OS.out.below hb5)
      clear OS
      have OS := OSq
      clear OSq
      have OAq := veil (OA.out.below hb5)
      clear OA
      have OA := OAq
      clear OAq
      have OBq := veil (OB.out.below hb5)
      clear OB
      have OB := OBq
      clear OBq
      have OEq := veil (OE.out.below hb5)
      clear OE
      have OE := OEq
      clear OEq
      have RBq := veil (RB.out.below hb5 RB.out.lt)
      clear RB
      have RB := RBq
      clear RBq
      clear RBc0
      clear RBc1
      have RBc0 := RB.out.cell 0
      have RBc1 := RB.out.cell 1
      clear hb5 HB4
      go_wp2
      go_ret
      exact ⟨rfl, HB5.out⟩
    · have ff : (E2 == 0) = false := by simpa using hf
      clear hf
      go_wp2
      go_ret
      exact ⟨rfl, HB3.out⟩
end Go.Proofs.Ytalhfciiflcfbaa

/-
  RangesHas, walked.
-/
import Derived.Test.YtalhfciiflcfbaaRgBothW
namespace Go.Proofs.Ytalhfciiflcfbaa
open Go Go.RowKit Go.Shelf

set_option maxRecDepth 100000 in
set_option maxHeartbeats 4000000 in
theorem has_walk (s : RL) (x y n : Nat) (w : World) (hs : s.Ok w) (hx : x < 18446744073709551616) (hy : y < 18446744073709551616) (hsz : s.len ≤ 140737488355328) :
    Calls Try.prog 3 #[.slice s.a s.len s.cap, .agg #[.int .u64 (x : Int), .int .u64 (y : Int)], .int .u64 (n : Int)] w fun e w' => e = .returned (.bool true) ∧ Below w.heap.size w w' := by
  have HB0 := veil ((Below.refl w.heap.size w).alloc (Nat.le_refl _) (.cells #[.int .u64 (x : Int), .int .u64 (y : Int)] 25))
  have OS := veil (hs.below HB0.out)
  have HLN := veil hs.hb
  have RB : Hid (Row (w.alloc (.cells #[.int .u64 (x : Int), .int .u64 (y : Int)] 25)) w.heap.size 25 #[.int .u64 (x : Int), .int .u64 (y : Int)]) := Row.new _ _ _
  have RBc0 := RB.out.cell 0
  have RBc1 := RB.out.cell 1
  clear hs
  go_enter Try.func3, Try.ntmps3
  go_wp2_with fail
  generalize (w.alloc (.cells #[.int .u64 (x : Int), .int .u64 (y : Int)] 25)) = v0 at *
  refine (alive_any v0).mono ?_
  rintro e1 w1 ⟨rfl, hb1⟩
  have HB1 := veil (HB0.out.trans (hb1.mono HB0.out.size))
  have OSq := veil (OS.out.below hb1)
  clear OS
  have OS := OSq
  clear OSq
  have RBq := veil (RB.out.below hb1 RB.out.lt)
  clear RB
  have RB := RBq
  clear RBq
  clear RBc0
  clear RBc1
  have RBc0 := RB.out.cell 0
  have RBc1 := RB.out.cell 1
  clear hb1 HB0
  by_cases h100 : 100 < s.len
  · have f100 : decide ((100 : Int) < (s.len : Int)) = true := by simp; omega
    have f100n : decide (100 < s.len) = true := by simp; omega
    have HNO := veil (show ¬ Rg.setOk s.l from fun h => by have := h.1; rw [HLN.out] at this; omega)
    clear h100
    go_wp2_with fail
    refine (alive_any w1).mono ?_
    rintro e2 w2 ⟨rfl, hb2⟩
    have HB2 := veil (HB1.out.trans (hb2.mono HB1.out.size))
    have OSq := veil (OS.out.below hb2)
    clear OS
    have OS := OSq
    clear OSq
    have RBq := veil (RB.out.below hb2 RB.out.lt)
    clear RB
    have RB := RBq
    clear RBq
    clear RBc0
    clear RBc1
    have RBc0 := RB.out.cell 0
    have RBc1 := RB.out.cell 1
    clear hb2 HB1
    go_wp2_with fail
    refine (check_no OS.out HNO.out).mono ?_
    rintro e3 w3 ⟨rfl, hb3⟩
    have HB3 := veil (HB2.out.trans (hb3.mono HB2.out.size))
    have OSq := veil (OS.out.below hb3)
    clear OS
    have OS := OSq
    clear OSq
    have RBq := veil (RB.out.below hb3 RB.out.lt)
    clear RB
    have RB := RBq
    clear RBq
    clear RBc0
    clear RBc1
    have RBc0 := RB.out.cell 0
    have RBc1 := RB.out.cell 1
    clear hb3 HB2
    go_wp2
    go_ret
    exact ⟨rfl, HB3.out⟩
  · have f100 : decide ((100 : Int) < (s.len : Int)) = false := by simp; omega
    have f100n : decide (100 < s.len) = false := by simp; omega
    have hs2 : s.len ≤ 1048576 := by omega
    clear h100 hsz
    by_cases hi1 : x ≤ n
    · by_cases hi2 : n ≤ y
      · have i1 : decide ((x : Int) ≤ (n : Int)) = true := by simp; omega
        have i1n : decide (x ≤ n) = true := by simp; omega
        have i2 : decide ((n : Int) ≤ (y : Int)) = true := by simp; omega
        have i2n : decide (n ≤ y) = true := by simp; omega
        have HI := veil (show Rg.hasL [(x, y)] n = true by rw [Rg.hasL_one, decide_eq_true hi1, decide_eq_true hi2]; rfl)
        clear hi1 hi2
        go_wp2_with fail
        refine (rg_add s x y w1 OS.out hx hy).mono ?_
        rintro e2 w2 ⟨o2, E2, rfl, hc2, ha2, hb2⟩
        have HB2 := veil (HB1.out.trans (hb2.mono HB1.out.size))
        have OSq := veil (OS.out.below hb2)
        clear OS
        have OS := OSq
        clear OSq
        have RBq := veil (RB.out.below hb2 RB.out.lt)
        clear RB
        have RB := RBq
        clear RBq
        clear RBc0
        clear RBc1
        have RBc0 := RB.out.cell 0
        have RBc1 := RB.out.cell 1
        have OA := veil ha2.ok
        have CA := veil hc2
        clear ha2 hc2
        clear hb2 HB1
        go_wp2_with fail
        refine (rg_cut s x y w2 OS.out hx hy).mono ?_
        rintro e3 w3 ⟨o3, E3, rfl, hc3, ha3, hb3⟩
        have HB3 := veil (HB2.out.trans (hb3.mono HB2.out.size))
        have OSq := veil (OS.out.below hb3)
        clear OS
        have OS := OSq
        clear OSq
        have OAq := veil (OA.out.below hb3)
        clear OA
        have OA := OAq
        clear OAq
        have RBq := veil (RB.out.below hb3 RB.out.lt)
        clear RB
        have RB := RBq
        clear RBq
        clear RBc0
        clear RBc1
        have RBc0 := RB.out.cell 0
        have RBc1 := RB.out.cell 1
        have OB := veil ha3.ok
        have CB := veil hc3
        clear ha3 hc3
        clear hb3 HB2
        have HEA := veil (Rg.comb_err CA.out)
        have HEB := veil (Rg.comb_err CB.out)
        by_cases hok : Rg.setOk s.l ∧ Rg.setOk [(x, y)]
        · have HOKS := veil hok.1
          have ob := (Rg.setOk_one x y).1 hok.2
          have g1 : decide ((y : Int) < (x : Int)) = false := by simp; omega
          have g1n : decide (y < x) = false := by simp; omega
          have g2 : decide ((4611686018427387903 : Int) < (y : Int)) = false := by simp; omega
          have g2n : decide (4611686018427387903 < y) = false := by simp; omega
          have hea : E2 = 0 ∨ E2 = 6 := by
            rcases HEA.out.1 with h | h | h
            · exact .inl h
            · exact absurd hok (HEA.out.2.1.1 h)
            · exact .inr h
          have heb : E3 = 0 ∨ E3 = 6 := by
            rcases HEB.out.1 with h | h | h
            · exact .inl h
            · exact absurd hok (HEB.out.2.1.1 h)
            · exact .inr h
          clear ob hok HEA HEB
          rcases hea with rfl | rfl <;> rcases heb with rfl | rfl
          · go_wp2_with fail
            have KA := veil (Rg.comb_ok CA.out)
            refine (check_yes OA.out KA.out.2.1).mono ?_
            rintro e4 w4 ⟨rfl, hb4⟩
            have HB4 := veil (HB3.out.trans (hb4.mono HB3.out.size))
            have OSq := veil (OS.out.below hb4)
            clear OS
            have OS := OSq
            clear OSq
            have OAq := veil (OA.out.below hb4)
            clear OA
            have OA := OAq
            clear OAq
            have OBq := veil (OB.out.below hb4)
            clear OB
            have OB := OBq
            clear OBq
            have RBq := veil (RB.out.below hb4 RB.out.lt)
            clear RB
            have RB := RBq
            clear RBq
            clear RBc0
            clear RBc1
            have RBc0 := RB.out.cell 0
            have RBc1 := RB.out.cell 1
            clear hb4 HB3
            go_wp2_with fail
            have HA := veil (rg_has o2 n w4 OA.out (small_set8 OA.out KA.out.2.1))
            rw [show Rg.hasL o2.l n = true by rw [KA.out.2.2 n, HI.out]; unfold Rg.orB; simp] at HA
            refine (HA.out).mono ?_
            rintro e5 w5 ⟨rfl, hb5⟩
            have HB5 := veil (HB4.out.trans (hb5.mono HB4.out.size))
            have OSq := veil (OS.out.below hb5)
            clear OS
            have OS := OSq
            clear OSq
            have OAq := veil (OA.out.below hb5)
            clear OA
            have OA := OAq
            clear OAq
            have OBq := veil (OB.out.below hb5)
            clear OB
            have OB := OBq
            clear OBq
            have RBq := veil (RB.out.below hb5 RB.out.lt)
            clear RB
            have RB := RBq
            clear RBq
            clear RBc0
            clear RBc1
            have RBc0 := RB.out.cell 0
            have RBc1 := RB.out.cell 1
            clear HA
            clear hb5 HB4
            go_wp2_with fail
            have KB := veil (Rg.comb_ok CB.out)
            refine (check_yes OB.out KB.out.2.1).mono ?_
            rintro e6 w6 ⟨rfl, hb6⟩
            have HB6 := veil (HB5.out.trans (hb6.mono HB5.out.size))
            have OSq := veil (OS.out.below hb6)
            clear OS
            have OS := OSq
            clear OSq
            have OAq := veil (OA.out.below hb6)
            clear OA
            have OA := OAq
            clear OAq
            have OBq := veil (OB.out.below hb6)
            clear OB
            have OB := OBq
            clear OBq
            have RBq := veil (RB.out.below hb6 RB.out.lt)
            clear RB
            have RB := RBq
            clear RBq
            clear RBc0
            clear RBc1
            have RBc0 := RB.out.cell 0
            have RBc1 := RB.out.cell 1
            clear hb6 HB5
            go_wp2_with fail
            have HA := veil (rg_has o3 n w6 OB.out (small_set8 OB.out KB.out.2.1))
            rw [show Rg.hasL o3.l n = false by rw [KB.out.2.2 n, HI.out]; unfold Rg.butB; simp] at HA
            refine (HA.out).mono ?_
            rintro e7 w7 ⟨rfl, hb7⟩
            have HB7 := veil (HB6.out.trans (hb7.mono HB6.out.size))
            have OSq := veil (OS.out.below hb7)
            clear OS
            have OS := OSq
            clear OSq
            have OAq := veil (OA.out.below hb7)
            clear OA
            have OA := OAq
            clear OAq
            have OBq := veil (OB.out.below hb7)
            clear OB
            have OB := OBq
            clear OBq
            have RBq := veil (RB.out.below hb7 RB.out.lt)
            clear RB
            have RB := RBq
            clear RBq
            clear RBc0
            clear RBc1
            have RBc0 := RB.out.cell 0
            have RBc1 := RB.out.cell 1
            clear HA
            clear hb7 HB6
            go_wp2_with fail
            refine (check_yes OS.out HOKS.out).mono ?_
            rintro e8 w8 ⟨rfl, hb8⟩
            have HB8 := veil (HB7.out.trans (hb8.mono HB7.out.size))
            have OSq := veil (OS.out.below hb8)
            clear OS
            have OS := OSq
            clear OSq
            have OAq := veil (OA.out.below hb8)
            clear OA
            have OA := OAq
            clear OAq
            have OBq := veil (OB.out.below hb8)
            clear OB
            have OB := OBq
            clear OBq
            have RBq := veil (RB.out.below hb8 RB.out.lt)
            clear RB
            have RB := RBq
            clear RBq
            clear RBc0
            clear RBc1
            have RBc0 := RB.out.cell 0
            have RBc1 := RB.out.cell 1
            clear hb8 HB7
            go_wp2
            go_ret
            exact ⟨rfl, HB8.out⟩
          · go_wp2_with fail
            have KA := veil (Rg.comb_ok CA.out)
            refine (check_yes OA.out KA.out.2.1).mono ?_
            rintro e4 w4 ⟨rfl, hb4⟩
            have HB4 := veil (HB3.out.trans (hb4.mono HB3.out.size))
            have OSq := veil (OS.out.below hb4)
            clear OS
            have OS := OSq
            clear OSq
            have OAq := veil (OA.out.below hb4)
            clear OA
            have OA := OAq
            clear OAq
            have OBq := veil (OB.out.below hb4)
            clear OB
            have OB := OBq
            clear OBq
            have RBq := veil (RB.out.below hb4 RB.out.lt)
            clear RB
            have RB := RBq
            clear RBq
            clear RBc0
            clear RBc1
            have RBc0 := RB.out.cell 0
            have RBc1 := RB.out.cell 1
            clear hb4 HB3
            go_wp2_with fail
            have HA := veil (rg_has o2 n w4 OA.out (small_set8 OA.out KA.out.2.1))
            rw [show Rg.hasL o2.l n = true by rw [KA.out.2.2 n, HI.out]; unfold Rg.orB; simp] at HA
            refine (HA.out).mono ?_
            rintro e5 w5 ⟨rfl, hb5⟩
            have HB5 := veil (HB4.out.trans (hb5.mono HB4.out.size))
            have OSq := veil (OS.out.below hb5)
            clear OS
            have OS := OSq
            clear OSq
            have OAq := veil (OA.out.below hb5)
            clear OA
            have OA := OAq
            clear OAq
            have OBq := veil (OB.out.below hb5)
            clear OB
            have OB := OBq
            clear OBq
            have RBq := veil (RB.out.below hb5 RB.out.lt)
            clear RB
            have RB := RBq
            clear RBq
            clear RBc0
            clear RBc1
            have RBc0 := RB.out.cell 0
            have RBc1 := RB.out.cell 1
            clear HA
            clear hb5 HB4
            go_wp2_with fail
            refine (check_yes OS.out HOKS.out).mono ?_
            rintro e6 w6 ⟨rfl, hb6⟩
            have HB6 := veil (HB5.out.trans (hb6.mono HB5.out.size))
            have OSq := veil (OS.out.below hb6)
            clear OS
            have OS := OSq
            clear OSq
            have OAq := veil (OA.out.below hb6)
            clear OA
            have OA := OAq
            clear OAq
            have OBq := veil (OB.out.below hb6)
            clear OB
            have OB := OBq
            clear OBq
            have RBq := veil (RB.out.below hb6 RB.out.lt)
            clear RB
            have RB := RBq
            clear RBq
            clear RBc0
            clear RBc1
            have RBc0 := RB.out.cell 0
            have RBc1 := RB.out.cell 1
            clear hb6 HB5
            go_wp2
            go_ret
            exact ⟨rfl, HB6.out⟩
          · go_wp2_with fail
            have KB := veil (Rg.comb_ok CB.out)
            refine (check_yes OB.out KB.out.2.1).mono ?_
            rintro e4 w4 ⟨rfl, hb4⟩
            have HB4 := veil (HB3.out.trans (hb4.mono HB3.out.size))
            have OSq := veil (OS.out.below hb4)
            clear OS
            have OS := OSq
            clear OSq
            have OAq := veil (OA.out.below hb4)
            clear OA
            have OA := OAq
            clear OAq
            have OBq := veil (OB.out.below hb4)
            clear OB
            have OB := OBq
            clear OBq
            have RBq := veil (RB.out.below hb4 RB.out.lt)
            clear RB
            have RB := RBq
            clear RBq
            clear RBc0
            clear RBc1
            have RBc0 := RB.out.cell 0
            have RBc1 := RB.out.cell 1
            clear hb4 HB3
            go_wp2_with fail
            have HA := veil (rg_has o3 n w4 OB.out (small_set8 OB.out KB.out.2.1))
            rw [show Rg.hasL o3.l n = false by rw [KB.out.2.2 n, HI.out]; unfold Rg.butB; simp] at HA
            refine (HA.out).mono ?_
            rintro e5 w5 ⟨rfl, hb5⟩
            have HB5 := veil (HB4.out.trans (hb5.mono HB4.out.size))
            have OSq := veil (OS.out.below hb5)
            clear OS
            have OS := OSq
            clear OSq
            have OAq := veil (OA.out.below hb5)
            clear OA
            have OA := OAq
            clear OAq
            have OBq := veil (OB.out.below hb5)
            clear OB
            have OB := OBq
            clear OBq
            have RBq := veil (RB.out.below hb5 RB.out.lt)
            clear RB
            have RB := RBq
            clear RBq
            clear RBc0
            clear RBc1
            have RBc0 := RB.out.cell 0
            have RBc1 := RB.out.cell 1
            clear HA
            clear hb5 HB4
            go_wp2_with fail
            refine (check_yes OS.out HOKS.out).mono ?_
            rintro e6 w6 ⟨rfl, hb6⟩
            have HB6 := veil (HB5.out.trans (hb6.mono HB5.out.size))
            have OSq := veil (OS.out.below hb6)
            clear OS
            have OS := OSq
            clear OSq
            have OAq := veil (OA.out.below hb6)
            clear OA
            have OA := OAq
            clear OAq
            have OBq := veil (OB.out.below hb6)
            clear OB
            have OB := OBq
            clear OBq
            have RBq := veil (RB.out.below hb6 RB.out.lt)
            clear RB
            have RB := RBq
            clear RBq
            clear RBc0
            clear RBc1
            have RBc0 := RB.out.cell 0
            have RBc1 := RB.out.cell 1
            clear hb6 HB5
            go_wp2
            go_ret
            exact ⟨rfl, HB6.out⟩
          · go_wp2_with fail
            refine (check_yes OS.out HOKS.out).mono ?_
            rintro e4 w4 ⟨rfl, hb4⟩
            have HB4 := veil (HB3.out.trans (hb4.mono HB3.out.size))
            have OSq := veil (OS.out.below hb4)
            clear OS
            have OS := OSq
            clear OSq
            have OAq := veil (OA.out.below hb4)
            clear OA
            have OA := OAq
            clear OAq
            have OBq := veil (OB.out.below hb4)
            clear OB
            have OB := OBq
            clear OBq
            have RBq := veil (RB.out.below hb4 RB.out.lt)
            clear RB
            have RB := RBq
            clear RBq
            clear RBc0
            clear RBc1
            have RBc0 := RB.out.cell 0
            have RBc1 := RB.out.cell 1
            clear hb4 HB3
            go_wp2
            go_ret
            exact ⟨rfl, HB4.out⟩
        · obtain rfl : E2 = 1 := HEA.out.2.1.2 hok
          obtain rfl : E3 = 1 := HEB.out.2.1.2 hok
          clear HEA HEB
          go_wp2_with fail
          by_cases hss : Rg.setOk s.l
          · have SS := veil hss
            by_cases h1 : y < x
            · have g1 : decide ((y : Int) < (x : Int)) = true := by simp; omega
              have g1n : decide (y < x) = true := by simp; omega
              clear h1 hok hss
              refine (check_yes OS.out SS.out).mono ?_
              rintro e4 w4 ⟨rfl, hb4⟩
              have HB4 := veil (HB3.out.trans (hb4.mono HB3.out.size))
              have OSq := veil (OS.out.below hb4)
              clear OS
              have OS := OSq
              clear OSq
              have OAq := veil (OA.out.below hb4)
              clear OA
              have OA := OAq
              clear OAq
              have OBq := veil (OB.out.below hb4)
              clear OB
              have OB := OBq
              clear OBq
              have RBq := veil (RB.out.below hb4 RB.out.lt)
              clear RB
              have RB := RBq
              clear RBq
              clear RBc0
              clear RBc1
              have RBc0 := RB.out.cell 0
              have RBc1 := RB.out.cell 1
              clear hb4 HB3
              go_wp2
              go_ret
              exact ⟨rfl, HB4.out⟩
            · have g1 : decide ((y : Int) < (x : Int)) = false := by simp; omega
              have g1n : decide (y < x) = false := by simp; omega
              have hgt : 4611686018427387903 < y := by
                apply Classical.byContradiction
                intro hn
                exact hok ⟨hss, (Rg.setOk_one x y).2 ⟨by omega, by omega⟩⟩
              have g2 : decide ((4611686018427387903 : Int) < (y : Int)) = true := by simp; omega
              have g2n : decide (4611686018427387903 < y) = true := by simp; omega
              clear hgt
              clear h1 hok hss
              refine (check_yes OS.out SS.out).mono ?_
              rintro e4 w4 ⟨rfl, hb4⟩
              have HB4 := veil (HB3.out.trans (hb4.mono HB3.out.size))
              have OSq := veil (OS.out.below hb4)
              clear OS
              have OS := OSq
              clear OSq
              have OAq := veil (OA.out.below hb4)
              clear OA
              have OA := OAq
              clear OAq
              have OBq := veil (OB.out.below hb4)
              clear OB
              have OB := OBq
              clear OBq
              have RBq := veil (RB.out.below hb4 RB.out.lt)
              clear RB
              have RB := RBq
              clear RBq
              clear RBc0
              clear RBc1
              have RBc0 := RB.out.cell 0
              have RBc1 := RB.out.cell 1
              clear hb4 HB3
              go_wp2
              go_ret
              exact ⟨rfl, HB4.out⟩
          · have SS := veil hss
            clear hss hok
            refine (check_no OS.out SS.out).mono ?_
            rintro e4 w4 ⟨rfl, hb4⟩
            have HB4 := veil (HB3.out.trans (hb4.mono HB3.out.size))
            have OSq := veil (OS.out.below hb4)
            clear OS
            have OS := OSq
            clear OSq
            have OAq := veil (OA.out.below hb4)
            clear OA
            have OA := OAq
            clear OAq
            have OBq := veil (OB.out.below hb4)
            clear OB
            have OB := OBq
            clear OBq
            have RBq := veil (RB.out.below hb4 RB.out.lt)
            clear RB
            have RB := RBq
            clear RBq
            clear RBc0
            clear RBc1
            have RBc0 := RB.out.cell 0
            have RBc1 := RB.out.cell 1
            clear hb4 HB3
            go_wp2
            go_ret
            exact ⟨rfl, HB4.out⟩
      · have i1 : decide ((x : Int) ≤ (n : Int)) = true := by simp; omega
        have i1n : decide (x ≤ n) = true := by simp; omega
        have i2 : decide ((n : Int) ≤ (y : Int)) = false := by simp; omega
        have i2n : decide (n ≤ y) = false := by simp; omega
        have HI := veil (show Rg.hasL [(x, y)] n = false by rw [Rg.hasL_one, decide_eq_true hi1, decide_eq_false hi2]; rfl)
        clear hi1 hi2
        go_wp2_with fail
        refine (rg_add s x y w1 OS.out hx hy).mono ?_
        rintro e2 w2 ⟨o2, E2, rfl, hc2, ha2, hb2⟩
        have HB2 := veil (HB1.out.trans (hb2.mono HB1.out.size))
        have OSq := veil (OS.out.below hb2)
        clear OS
        have OS := OSq
        clear OSq
        have RBq := veil (RB.out.below hb2 RB.out.lt)
        clear RB
        have RB := RBq
        clear RBq
        clear RBc0
        clear RBc1
        have RBc0 := RB.out.cell 0
        have RBc1 := RB.out.cell 1
        have OA := veil ha2.ok
        have CA := veil hc2
        clear ha2 hc2
        clear hb2 HB1
        go_wp2_with fail
        refine (rg_cut s x y w2 OS.out hx hy).mono ?_
        rintro e3 w3 ⟨o3, E3, rfl, hc3, ha3, hb3⟩
        have HB3 := veil (HB2.out.trans (hb3.mono HB2.out.size))
        have OSq := veil (OS.out.below hb3)
        clear OS
        have OS := OSq
        clear OSq
        have OAq := veil (OA.out.below hb3)
        clear OA
        have OA := OAq
        clear OAq
        have RBq := veil (RB.out.below hb3 RB.out.lt)
        clear RB
        have RB := RBq
        clear RBq
        clear RBc0
        clear RBc1
        have RBc0 := RB.out.cell 0
        have RBc1 := RB.out.cell 1
        have OB := veil ha3.ok
        have CB := veil hc3
        clear ha3 hc3
        clear hb3 HB2
        have HEA := veil (Rg.comb_err CA.out)
        have HEB := veil (Rg.comb_err CB.out)
        by_cases hok : Rg.setOk s.l ∧ Rg.setOk [(x, y)]
        · have HOKS := veil hok.1
          have ob := (Rg.setOk_one x y).1 hok.2
          have g1 : decide ((y : Int) < (x : Int)) = false := by simp; omega
          have g1n : decide (y < x) = false := by simp; omega
          have g2 : decide ((4611686018427387903 : Int) < (y : Int)) = false := by simp; omega
          have g2n : decide (4611686018427387903 < y) = false := by simp; omega
          have hea : E2 = 0 ∨ E2 = 6 := by
            rcases HEA.out.1 with h | h | h
            · exact .inl h
            · exact absurd hok (HEA.out.2.1.1 h)
            · exact .inr h
          have heb : E3 = 0 ∨ E3 = 6 := by
            rcases HEB.out.1 with h | h | h
            · exact .inl h
            · exact absurd hok (HEB.out.2.1.1 h)
            · exact .inr h
          clear ob hok HEA HEB
          rcases hea with rfl | rfl <;> rcases heb with rfl | rfl
          · go_wp2_with fail
            have KA := veil (Rg.comb_ok CA.out)
            refine (check_yes OA.out KA.out.2.1).mono ?_
            rintro e4 w4 ⟨rfl, hb4⟩
            have HB4 := veil (HB3.out.trans (hb4.mono HB3.out.size))
            have OSq := veil (OS.out.below hb4)
            clear OS
            have OS := OSq
            clear OSq
            have OAq := veil (OA.out.below hb4)
            clear OA
            have OA := OAq
            clear OAq
            have OBq := veil (OB.out.below hb4)
            clear OB
            have OB := OBq
            clear OBq
            have RBq := veil (RB.out.below hb4 RB.out.lt)
            clear RB
            have RB := RBq
            clear RBq
            clear RBc0
            clear RBc1
            have RBc0 := RB.out.cell 0
            have RBc1 := RB.out.cell 1
            clear hb4 HB3
            go_wp2_with fail
            have HA := veil (rg_has o2 n w4 OA.out (small_set8 OA.out KA.out.2.1))
            rw [show Rg.hasL o2.l n = Rg.hasL s.l n by rw [KA.out.2.2 n, HI.out]; unfold Rg.orB; simp] at HA
            refine (HA.out).mono ?_
            rintro e5 w5 ⟨rfl, hb5⟩
            have HB5 := veil (HB4.out.trans (hb5.mono HB4.out.size))
            have OSq := veil (OS.out.below hb5)
            clear OS
            have OS := OSq
            clear OSq
            have OAq := veil (OA.out.below hb5)
            clear OA
            have OA := OAq
            clear OAq
            have OBq := veil (OB.out.below hb5)
            clear OB
            have OB := OBq
            clear OBq
            have RBq := veil (RB.out.below hb5 RB.out.lt)
            clear RB
            have RB := RBq
            clear RBq
            clear RBc0
            clear RBc1
            have RBc0 := RB.out.cell 0
            have RBc1 := RB.out.cell 1
            clear HA
            clear hb5 HB4
            go_wp2_with fail
            refine (rg_has s n w5 OS.out hs2).mono ?_
            rintro e6 w6 ⟨rfl, hb6⟩
            have HB6 := veil (HB5.out.trans (hb6.mono HB5.out.size))
            have OSq := veil (OS.out.below hb6)
            clear OS
            have OS := OSq
            clear OSq
            have OAq := veil (OA.out.below hb6)
            clear OA
            have OA := OAq
            clear OAq
            have OBq := veil (OB.out.below hb6)
            clear OB
            have OB := OBq
            clear OBq
            have RBq := veil (RB.out.below hb6 RB.out.lt)
            clear RB
            have RB := RBq
            clear RBq
            clear RBc0
            clear RBc1
            have RBc0 := RB.out.cell 0
            have RBc1 := RB.out.cell 1
            clear hb6 HB5
            have fh : (Rg.hasL s.l n != Rg.hasL s.l n) = false := by simp
            go_wp2_with fail
            have KB := veil (Rg.comb_ok CB.out)
            refine (check_yes OB.out KB.out.2.1).mono ?_
            rintro e7 w7 ⟨rfl, hb7⟩
            have HB7 := veil (HB6.out.trans (hb7.mono HB6.out.size))
            have OSq := veil (OS.out.below hb7)
            clear OS
            have OS := OSq
            clear OSq
            have OAq := veil (OA.out.below hb7)
            clear OA
            have OA := OAq
            clear OAq
            have OBq := veil (OB.out.below hb7)
            clear OB
            have OB := OBq
            clear OBq
            have RBq := veil (RB.out.below hb7 RB.out.lt)
            clear RB
            have RB := RBq
            clear RBq
            clear RBc0
            clear RBc1
            have RBc0 := RB.out.cell 0
            have RBc1 := RB.out.cell 1
            clear hb7 HB6
            go_wp2_with fail
            have HA := veil (rg_has o3 n w7 OB.out (small_set8 OB.out KB.out.2.1))
            rw [show Rg.hasL o3.l n = Rg.hasL s.l n by rw [KB.out.2.2 n, HI.out]; unfold Rg.butB; simp] at HA
            refine (HA.out).mono ?_
            rintro e8 w8 ⟨rfl, hb8⟩
            have HB8 := veil (HB7.out.trans (hb8.mono HB7.out.size))
            have OSq := veil (OS.out.below hb8)
            clear OS
            have OS := OSq
            clear OSq
            have OAq := veil (OA.out.below hb8)
            clear OA
            have OA := OAq
            clear OAq
            have OBq := veil (OB.out.below hb8)
            clear OB
            have OB := OBq
            clear OBq
            have RBq := veil (RB.out.below hb8 RB.out.lt)
            clear RB
            have RB := RBq
            clear RBq
            clear RBc0
            clear RBc1
            have RBc0 := RB.out.cell 0
            have RBc1 := RB.out.cell 1
            clear HA
            clear hb8 HB7
            go_wp2_with fail
            refine (rg_has s n w8 OS.out hs2).mono ?_
            rintro e9 w9 ⟨rfl, hb9⟩
            have HB9 := veil (HB8.out.trans (hb9.mono HB8.out.size))
            have OSq := veil (OS.out.below hb9)
            clear OS
            have OS := OSq
            clear OSq
            have OAq := veil (OA.out.below hb9)
            clear OA
            have OA := OAq
            clear OAq
            have OBq := veil (OB.out.below hb9)
            clear OB
            have OB := OBq
            clear OBq
            have RBq := veil (RB.out.below hb9 RB.out.lt)
            clear RB
            have RB := RBq
            clear RBq
            clear RBc0
            clear RBc1
            have RBc0 := RB.out.cell 0
            have RBc1 := RB.out.cell 1
            clear hb9 HB8
            go_wp2_with fail
            refine (check_yes OS.out HOKS.out).mono ?_
            rintro e10 w10 ⟨rfl, hb10⟩
            have HB10 := veil (HB9.out.trans (hb10.mono HB9.out.size))
            have OSq := veil (OS.out.below hb10)
            clear OS
            have OS := OSq
            clear OSq
            have OAq := veil (OA.out.below hb10)
            clear OA
            have OA := OAq
            clear OAq
            have OBq := veil (OB.out.below hb10)
            clear OB
            have OB := OBq
            clear OBq
            have RBq := veil (RB.out.below hb10 RB.out.lt)
            clear RB
            have RB := RBq
            clear RBq
            clear RBc0
            clear RBc1
            have RBc0 := RB.out.cell 0
            have RBc1 := RB.out.cell 1
            clear hb10 HB9
            go_wp2
            go_ret
            exact ⟨rfl, HB10.out⟩
          · go_wp2_with fail
            have KA := veil (Rg.comb_ok CA.out)
            refine (check_yes OA.out KA.out.2.1).mono ?_
            rintro e4 w4 ⟨rfl, hb4⟩
            have HB4 := veil (HB3.out.trans (hb4.mono HB3.out.size))
            have OSq := veil (OS.out.below hb4)
            clear OS
            have OS := OSq
            clear OSq
            have OAq := veil (OA.out.below hb4)
            clear OA
            have OA := OAq
            clear OAq
            have OBq := veil (OB.out.below hb4)
            clear OB
            have OB := OBq
            clear OBq
            have RBq := veil (RB.out.below hb4 RB.out.lt)
            clear RB
            have RB := RBq
            clear RBq
            clear RBc0
            clear RBc1
            have RBc0 := RB.out.cell 0
            have RBc1 := RB.out.cell 1
            clear hb4 HB3
            go_wp2_with fail
            have HA := veil (rg_has o2 n w4 OA.out (small_set8 OA.out KA.out.2.1))
            rw [show Rg.hasL o2.l n = Rg.hasL s.l n by rw [KA.out.2.2 n, HI.out]; unfold Rg.orB; simp] at HA
            refine (HA.out).mono ?_
            rintro e5 w5 ⟨rfl, hb5⟩
            have HB5 := veil (HB4.out.trans (hb5.mono HB4.out.size))
            have OSq := veil (OS.out.below hb5)
            clear OS
            have OS := OSq
            clear OSq
            have OAq := veil (OA.out.below hb5)
            clear OA
            have OA := OAq
            clear OAq
            have OBq := veil (OB.out.below hb5)
            clear OB
            have OB := OBq
            clear OBq
            have RBq := veil (RB.out.below hb5 RB.out.lt)
            clear RB
            have RB := RBq
            clear RBq
            clear RBc0
            clear RBc1
            have RBc0 := RB.out.cell 0
            have RBc1 := RB.out.cell 1
            clear HA
            clear hb5 HB4
            go_wp2_with fail
            refine (rg_has s n w5 OS.out hs2).mono ?_
            rintro e6 w6 ⟨rfl, hb6⟩
            have HB6 := veil (HB5.out.trans (hb6.mono HB5.out.size))
            have OSq := veil (OS.out.below hb6)
            clear OS
            have OS := OSq
            clear OSq
            have OAq := veil (OA.out.below hb6)
            clear OA
            have OA := OAq
            clear OAq
            have OBq := veil (OB.out.below hb6)
            clear OB
            have OB := OBq
            clear OBq
            have RBq := veil (RB.out.below hb6 RB.out.lt)
            clear RB
            have RB := RBq
            clear RBq
            clear RBc0
            clear RBc1
            have RBc0 := RB.out.cell 0
            have RBc1 := RB.out.cell 1
            clear hb6 HB5
            have fh : (Rg.hasL s.l n != Rg.hasL s.l n) = false := by simp
            go_wp2_with fail
            refine (check_yes OS.out HOKS.out).mono ?_
            rintro e7 w7 ⟨rfl, hb7⟩
            have HB7 := veil (HB6.out.trans (hb7.mono HB6.out.size))
            have OSq := veil (OS.out.below hb7)
            clear OS
            have OS := OSq
            clear OSq
            have OAq := veil (OA.out.below hb7)
            clear OA
            have OA := OAq
            clear OAq
            have OBq := veil (OB.out.below hb7)
            clear OB
            have OB := OBq
            clear OBq
            have RBq := veil (RB.out.below hb7 RB.out.lt)
            clear RB
            have RB := RBq
            clear RBq
            clear RBc0
            clear RBc1
            have RBc0 := RB.out.cell 0
            have RBc1 := RB.out.cell 1
            clear hb7 HB6
            go_wp2
            go_ret
            exact ⟨rfl, HB7.out⟩
          · go_wp2_with fail
            have KB := veil (Rg.comb_ok CB.out)
            refine (check_yes OB.out KB.out.2.1).mono ?_
            rintro e4 w4 ⟨rfl, hb4⟩
            have HB4 := veil (HB3.out.trans (hb4.mono HB3.out.size))
            have OSq := veil (OS.out.below hb4)
            clear OS
            have OS := OSq
            clear OSq
            have OAq := veil (OA.out.below hb4)
            clear OA
            have OA := OAq
            clear OAq
            have OBq := veil (OB.out.below hb4)
            clear OB
            have OB := OBq
            clear OBq
            have RBq := veil (RB.out.below hb4 RB.out.lt)
            clear RB
            have RB := RBq
            clear RBq
            clear RBc0
            clear RBc1
            have RBc0 := RB.out.cell 0
            have RBc1 := RB.out.cell 1
            clear hb4 HB3
            go_wp2_with fail
            have HA := veil (rg_has o3 n w4 OB.out (small_set8 OB.out KB.out.2.1))
            rw [show Rg.hasL o3.l n = Rg.hasL s.l n by rw [KB.out.2.2 n, HI.out]; unfold Rg.butB; simp] at HA
            refine (HA.out).mono ?_
            rintro e5 w5 ⟨rfl, hb5⟩
            have HB5 := veil (HB4.out.trans (hb5.mono HB4.out.size))
            have OSq := veil (OS.out.below hb5)
            clear OS
            have OS := OSq
            clear OSq
            have OAq := veil (OA.out.below hb5)
            clear OA
            have OA := OAq
            clear OAq
            have OBq := veil (OB.out.below hb5)
            clear OB
            have OB := OBq
            clear OBq
            have RBq := veil (RB.out.below hb5 RB.out.lt)
            clear RB
            have RB := RBq
            clear RBq
            clear RBc0
            clear RBc1
            have RBc0 := RB.out.cell 0
            have RBc1 := RB.out.cell 1
            clear HA
            clear hb5 HB4
            go_wp2_with fail
            refine (rg_has s n w5 OS.out hs2).mono ?_
            rintro e6 w6 ⟨rfl, hb6⟩
            have HB6 := veil (HB5.out.trans (hb6.mono HB5.out.size))
            have OSq := veil (OS.out.below hb6)
            clear OS
            have OS := OSq
            clear OSq
            have OAq := veil (OA.out.below hb6)
            clear OA
            have OA := OAq
            clear OAq
            have OBq := veil (OB.out.below hb6)
            clear OB
            have OB := OBq
            clear OBq
            have RBq := veil (RB.out.below hb6 RB.out.lt)
            clear RB
            have RB := RBq
            clear RBq
            clear RBc0
            clear RBc1
            have RBc0 := RB.out.cell 0
            have RBc1 := RB.out.cell 1
            clear hb6 HB5
            have fh : (Rg.hasL s.l n != Rg.hasL s.l n) = false := by simp
            go_wp2_with fail
            refine (check_yes OS.out HOKS.out).mono ?_
            rintro e7 w7 ⟨rfl, hb7⟩
            have HB7 := veil (HB6.out.trans (hb7.mono HB6.out.size))
            have OSq := veil (OS.out.below hb7)
            clear OS
            have OS := OSq
            clear OSq
            have OAq := veil (OA.out.below hb7)
            clear OA
            have OA := OAq
            clear OAq
            have OBq := veil (OB.out.below hb7)
            clear OB
            have OB := OBq
            clear OBq
            have RBq := veil (RB.out.below hb7 RB.out.lt)
            clear RB
            have RB := RBq
            clear RBq
            clear RBc0
            clear RBc1
            have RBc0 := RB.out.cell 0
            have RBc1 := RB.out.cell 1
            clear hb7 HB6
            go_wp2
            go_ret
            exact ⟨rfl, HB7.out⟩
          · go_wp2_with fail
            refine (check_yes OS.out HOKS.out).mono ?_
            rintro e4 w4 ⟨rfl, hb4⟩
            have HB4 := veil (HB3.out.trans (hb4.mono HB3.out.size))
            have OSq := veil (OS.out.below hb4)
            clear OS
            have OS := OSq
            clear OSq
            have OAq := veil (OA.out.below hb4)
            clear OA
            have OA := OAq
            clear OAq
            have OBq := veil (OB.out.below hb4)
            clear OB
            have OB := OBq
            clear OBq
            have RBq := veil (RB.out.below hb4 RB.out.lt)
            clear RB
            have RB := RBq
            clear RBq
            clear RBc0
            clear RBc1
            have RBc0 := RB.out.cell 0
            have RBc1 := RB.out.cell 1
            clear hb4 HB3
            go_wp2
            go_ret
            exact ⟨rfl, HB4.out⟩
        · obtain rfl : E2 = 1 := HEA.out.2.1.2 hok
          obtain rfl : E3 = 1 := HEB.out.2.1.2 hok
          clear HEA HEB
          go_wp2_with fail
          by_cases hss : Rg.setOk s.l
          · have SS := veil hss
            by_cases h1 : y < x
            · have g1 : decide ((y : Int) < (x : Int)) = true := by simp; omega
              have g1n : decide (y < x) = true := by simp; omega
              clear h1 hok hss
              refine (check_yes OS.out SS.out).mono ?_
              rintro e4 w4 ⟨rfl, hb4⟩
              have HB4 := veil (HB3.out.trans (hb4.mono HB3.out.size))
              have OSq := veil (OS.out.below hb4)
              clear OS
              have OS := OSq
              clear OSq
              have OAq := veil (OA.out.below hb4)
              clear OA
              have OA := OAq
              clear OAq
              have OBq := veil (OB.out.below hb4)
              clear OB
              have OB := OBq
              clear OBq
              have RBq := veil (RB.out.below hb4 RB.out.lt)
              clear RB
              have RB := RBq
              clear RBq
              clear RBc0
              clear RBc1
              have RBc0 := RB.out.cell 0
              have RBc1 := RB.out.cell 1
              clear hb4 HB3
              go_wp2
              go_ret
              exact ⟨rfl, HB4.out⟩
            · have g1 : decide ((y : Int) < (x : Int)) = false := by simp; omega
              have g1n : decide (y < x) = false := by simp; omega
              have hgt : 4611686018427387903 < y := by
                apply Classical.byContradiction
                intro hn
                exact hok ⟨hss, (Rg.setOk_one x y).2 ⟨by omega, by omega⟩⟩
              have g2 : decide ((4611686018427387903 : Int) < (y : Int)) = true := by simp; omega
              have g2n : decide (4611686018427387903 < y) = true := by simp; omega
              clear hgt
              clear h1 hok hss
              refine (check_yes OS.out SS.out).mono ?_
              rintro e4 w4 ⟨rfl, hb4⟩
              have HB4 := veil (HB3.out.trans (hb4.mono HB3.out.size))
              have OSq := veil (OS.out.below hb4)
              clear OS
              have OS := OSq
              clear OSq
              have OAq := veil (OA.out.below hb4)
              clear OA
              have OA := OAq
              clear OAq
              have OBq := veil (OB.out.below hb4)
              clear OB
              have OB := OBq
              clear OBq
              have RBq := veil (RB.out.below hb4 RB.out.lt)
              clear RB
              have RB := RBq
              clear RBq
              clear RBc0
              clear RBc1
              have RBc0 := RB.out.cell 0
              have RBc1 := RB.out.cell 1
              clear hb4 HB3
              go_wp2
              go_ret
              exact ⟨rfl, HB4.out⟩
          · have SS := veil hss
            clear hss hok
            refine (check_no OS.out SS.out).mono ?_
            rintro e4 w4 ⟨rfl, hb4⟩
            have HB4 := veil (HB3.out.trans (hb4.mono HB3.out.size))
            have OSq := veil (OS.out.below hb4)
            clear OS
            have OS := OSq
            clear OSq
            have OAq := veil (OA.out.below hb4)
            clear OA
            have OA := OAq
            clear OAq
            have OBq := veil (OB.out.below hb4)
            clear OB
            have OB := OBq
            clear OBq
            have RBq := veil (RB.out.below hb4 RB.out.lt)
            clear RB
            have RB := RBq
            clear RBq
            clear RBc0
            clear RBc1
            have RBc0 := RB.out.cell 0
            have RBc1 := RB.out.cell 1
            clear hb4 HB3
            go_wp2
            go_ret
            exact ⟨rfl, HB4.out⟩
    · have i1 : decide ((x : Int) ≤ (n : Int)) = false := by simp; omega
      have i1n : decide (x ≤ n) = false := by simp; omega
      have HI := veil (show Rg.hasL [(x, y)] n = false by rw [Rg.hasL_one, decide_eq_false hi1]; rfl)
      clear hi1
      go_wp2_with fail
      refine (rg_add s x y w1 OS.out hx hy).mono ?_
      rintro e2 w2 ⟨o2, E2, rfl, hc2, ha2, hb2⟩
      have HB2 := veil (HB1.out.trans (hb2.mono HB1.out.size))
      have OSq := veil (OS.out.below hb2)
      clear OS
      have OS := OSq
      clear OSq
      have RBq := veil (RB.out.below hb2 RB.out.lt)
      clear RB
      have RB := RBq
      clear RBq
      clear RBc0
      clear RBc1
      have RBc0 := RB.out.cell 0
      have RBc1 := RB.out.cell 1
      have OA := veil ha2.ok
      have CA := veil hc2
      clear ha2 hc2
      clear hb2 HB1
      go_wp2_with fail
      refine (rg_cut s x y w2 OS.out hx hy).mono ?_
      rintro e3 w3 ⟨o3, E3, rfl, hc3, ha3, hb3⟩
      have HB3 := veil (HB2.out.trans (hb3.mono HB2.out.size))
      have OSq := veil (OS.out.below hb3)
      clear OS
      have OS := OSq
      clear OSq
      have OAq := veil (OA.out.below hb3)
      clear OA
      have OA := OAq
      clear OAq
      have RBq := veil (RB.out.below hb3 RB.out.lt)
      clear RB
      have RB := RBq
      clear RBq
      clear RBc0
      clear RBc1
      have RBc0 := RB.out.cell 0
      have RBc1 := RB.out.cell 1
      have OB := veil ha3.ok
      have CB := veil hc3
      clear ha3 hc3
      clear hb3 HB2
      have HEA := veil (Rg.comb_err CA.out)
      have HEB := veil (Rg.comb_err CB.out)
      by_cases hok : Rg.setOk s.l ∧ Rg.setOk [(x, y)]
      · have HOKS := veil hok.1
        have ob := (Rg.setOk_one x y).1 hok.2
        have g1 : decide ((y : Int) < (x : Int)) = false := by simp; omega
        have g1n : decide (y < x) = false := by simp; omega
        have g2 : decide ((4611686018427387903 : Int) < (y : Int)) = false := by simp; omega
        have g2n : decide (4611686018427387903 < y) = false := by simp; omega
        have hea : E2 = 0 ∨ E2 = 6 := by
          rcases HEA.out.1 with h | h | h
          · exact .inl h
          · exact absurd hok (HEA.out.2.1.1 h)
          · exact .inr h
        have heb : E3 = 0 ∨ E3 = 6 := by
          rcases HEB.out.1 with h | h | h
          · exact .inl h
          · exact absurd hok (HEB.out.2.1.1 h)
          · exact .inr h
        clear ob hok HEA HEB
        rcases hea with rfl | rfl <;> rcases heb with rfl | rfl
        · go_wp2_with fail
          have KA := veil (Rg.comb_ok CA.out)
          refine (check_yes OA.out KA.out.2.1).mono ?_
          rintro e4 w4 ⟨rfl, hb4⟩
          have HB4 := veil (HB3.out.trans (hb4.mono HB3.out.size))
          have OSq := veil (OS.out.below hb4)
          clear OS
          have OS := OSq
          clear OSq
          have OAq := veil (OA.out.below hb4)
          clear OA
          have OA := OAq
          clear OAq
          have OBq := veil (OB.out.below hb4)
          clear OB
          have OB := OBq
          clear OBq
          have RBq := veil (RB.out.below hb4 RB.out.lt)
          clear RB
          have RB := RBq
          clear RBq
          clear RBc0
          clear RBc1
          have RBc0 := RB.out.cell 0
          have RBc1 := RB.out.cell 1
          clear hb4 HB3
          go_wp2_with fail
          have HA := veil (rg_has o2 n w4 OA.out (small_set8 OA.out KA.out.2.1))
          rw [show Rg.hasL o2.l n = Rg.hasL s.l n by rw [KA.out.2.2 n, HI.out]; unfold Rg.orB; simp] at HA
          refine (HA.out).mono ?_
          rintro e5 w5 ⟨rfl, hb5⟩
          have HB5 := veil (HB4.out.trans (hb5.mono HB4.out.size))
          have OSq := veil (OS.out.below hb5)
          clear OS
          have OS := OSq
          clear OSq
          have OAq := veil (OA.out.below hb5)
          clear OA
          have OA := OAq
          clear OAq
          have OBq := veil (OB.out.below hb5)
          clear OB
          have OB := OBq
          clear OBq
          have RBq := veil (RB.out.below hb5 RB.out.lt)
          clear RB
          have RB := RBq
          clear RBq
          clear RBc0
          clear RBc1
          have RBc0 := RB.out.cell 0
          have RBc1 := RB.out.cell 1
          clear HA
          clear hb5 HB4
          go_wp2_with fail
          refine (rg_has s n w5 OS.out hs2).mono ?_
          rintro e6 w6 ⟨rfl, hb6⟩
          have HB6 := veil (HB5.out.trans (hb6.mono HB5.out.size))
          have OSq := veil (OS.out.below hb6)
          clear OS
          have OS := OSq
          clear OSq
          have OAq := veil (OA.out.below hb6)
          clear OA
          have OA := OAq
          clear OAq
          have OBq := veil (OB.out.below hb6)
          clear OB
          have OB := OBq
          clear OBq
          have RBq := veil (RB.out.below hb6 RB.out.lt)
          clear RB
          have RB := RBq
          clear RBq
          clear RBc0
          clear RBc1
          have RBc0 := RB.out.cell 0
          have RBc1 := RB.out.cell 1
          clear hb6 HB5
          have fh : (Rg.hasL s.l n != Rg.hasL s.l n) = false := by simp
          go_wp2_with fail
          have KB := veil (Rg.comb_ok CB.out)
          refine (check_yes OB.out KB.out.2.1).mono ?_
          rintro e7 w7 ⟨rfl, hb7⟩
          have HB7 := veil (HB6.out.trans (hb7.mono HB6.out.size))
          have OSq := veil (OS.out.below hb7)
          clear OS
          have OS := OSq
          clear OSq
          have OAq := veil (OA.out.below hb7)
          clear OA
          have OA := OAq
          clear OAq
          have OBq := veil (OB.out.below hb7)
          clear OB
          have OB := OBq
          clear OBq
          have RBq := veil (RB.out.below hb7 RB.out.lt)
          clear RB
          have RB := RBq
          clear RBq
          clear RBc0
          clear RBc1
          have RBc0 := RB.out.cell 0
          have RBc1 := RB.out.cell 1
          clear hb7 HB6
          go_wp2_with fail
          have HA := veil (rg_has o3 n w7 OB.out (small_set8 OB.out KB.out.2.1))
          rw [show Rg.hasL o3.l n = Rg.hasL s.l n by rw [KB.out.2.2 n, HI.out]; unfold Rg.butB; simp] at HA
          refine (HA.out).mono ?_
          rintro e8 w8 ⟨rfl, hb8⟩
          have HB8 := veil (HB7.out.trans (hb8.mono HB7.out.size))
          have OSq := veil (OS.out.below hb8)
          clear OS
          have OS := OSq
          clear OSq
          have OAq := veil (OA.out.below hb8)
          clear OA
          have OA := OAq
          clear OAq
          have OBq := veil (OB.out.below hb8)
          clear OB
          have OB := OBq
          clear OBq
          have RBq := veil (RB.out.below hb8 RB.out.lt)
          clear RB
          have RB := RBq
          clear RBq
          clear RBc0
          clear RBc1
          have RBc0 := RB.out.cell 0
          have RBc1 := RB.out.cell 1
          clear HA
          clear hb8 HB7
          go_wp2_with fail
          refine (rg_has s n w8 OS.out hs2).mono ?_
          rintro e9 w9 ⟨rfl, hb9⟩
          have HB9 := veil (HB8.out.trans (hb9.mono HB8.out.size))
          have OSq := veil (OS.out.below hb9)
          clear OS
          have OS := OSq
          clear OSq
          have OAq := veil (OA.out.below hb9)
          clear OA
          have OA := OAq
          clear OAq
          have OBq := veil (OB.out.below hb9)
          clear OB
          have OB := OBq
          clear OBq
          have RBq := veil (RB.out.below hb9 RB.out.lt)
          clear RB
          have RB := RBq
          clear RBq
          clear RBc0
          clear RBc1
          have RBc0 := RB.out.cell 0
          have RBc1 := RB.out.cell 1
          clear hb9 HB8
          go_wp2_with fail
          refine (check_yes OS.out HOKS.out).mono ?_
          rintro e10 w10 ⟨rfl, hb10⟩
          have HB10 := veil (HB9.out.trans (hb10.mono HB9.out.size))
          have OSq := veil (OS.out.below hb10)
          clear OS
          have OS := OSq
          clear OSq
          have OAq := veil (OA.out.below hb10)
          clear OA
          have OA := OAq
          clear OAq
          have OBq := veil (OB.out.below hb10)
          clear OB
          have OB := OBq
          clear OBq
          have RBq := veil (RB.out.below hb10 RB.out.lt)
          clear RB
          have RB := RBq
          clear RBq
          clear RBc0
          clear RBc1
          have RBc0 := RB.out.cell 0
          have RBc1 := RB.out.cell 1
          clear hb10 HB9
          go_wp2
          go_ret
          exact ⟨rfl, HB10.out⟩
        · go_wp2_with fail
          have KA := veil (Rg.comb_ok CA.out)
          refine (check_yes OA.out KA.out.2.1).mono ?_
          rintro e4 w4 ⟨rfl, hb4⟩
          have HB4 := veil (HB3.out.trans (hb4.mono HB3.out.size))
          have OSq := veil (OS.out.below hb4)
          clear OS
          have OS := OSq
          clear OSq
          have OAq := veil (OA.out.below hb4)
          clear OA
          have OA := OAq
          clear OAq
          have OBq := veil (OB.out.below hb4)
          clear OB
          have OB := OBq
          clear OBq
          have RBq := veil (RB.out.below hb4 RB.out.lt)
          clear RB
          have RB := RBq
          clear RBq
          clear RBc0
          clear RBc1
          have RBc0 := RB.out.cell 0
          have RBc1 := RB.out.cell 1
          clear hb4 HB3
          go_wp2_with fail
          have HA := veil (rg_has o2 n w4 OA.out (small_set8 OA.out KA.out.2.1))
          rw [show Rg.hasL o2.l n = Rg.hasL s.l n by rw [KA.out.2.2 n, HI.out]; unfold Rg.orB; simp] at HA
          refine (HA.out).mono ?_
          rintro e5 w5 ⟨rfl, hb5⟩
          have HB5 := veil (HB4.out.trans (hb5.mono HB4.out.size))
          have OSq := veil (OS.out.below hb5)
          clear OS
          have OS := OSq
          clear OSq
          have OAq := veil (OA.out.below hb5)
          clear OA
          have OA := OAq
          clear OAq
          have OBq := veil (OB.out.below hb5)
          clear OB
          have OB := OBq
          clear OBq
          have RBq := veil (RB.out.below hb5 RB.out.lt)
          clear RB
          have RB := RBq
          clear RBq
          clear RBc0
          clear RBc1
          have RBc0 := RB.out.cell 0
          have RBc1 := RB.out.cell 1
          clear HA
          clear hb5 HB4
          go_wp2_with fail
          refine (rg_has s n w5 OS.out hs2).mono ?_
          rintro e6 w6 ⟨rfl, hb6⟩
          have HB6 := veil (HB5.out.trans (hb6.mono HB5.out.size))
          have OSq := veil (OS.out.below hb6)
          clear OS
          have OS := OSq
          clear OSq
          have OAq := veil (OA.out.below hb6)
          clear OA
          have OA := OAq
          clear OAq
          have OBq := veil (OB.out.below hb6)
          clear OB
          have OB := OBq
          clear OBq
          have RBq := veil (RB.out.below hb6 RB.out.lt)
          clear RB
          have RB := RBq
          clear RBq
          clear RBc0
          clear RBc1
          have RBc0 := RB.out.cell 0
          have RBc1 := RB.out.cell 1
          clear hb6 HB5
          have fh : (Rg.hasL s.l n != Rg.hasL s.l n) = false := by simp
          go_wp2_with fail
          refine (check_yes OS.out HOKS.out).mono ?_
          rintro e7 w7 ⟨rfl, hb7⟩
          have HB7 := veil (HB6.out.trans (hb7.mono HB6.out.size))
          have OSq := veil (OS.out.below hb7)
          clear OS
          have OS := OSq
          clear OSq
          have OAq := veil (OA.out.below hb7)
          clear OA
          have OA := OAq
          clear OAq
          have OBq := veil (OB.out.below hb7)
          clear OB
          have OB := OBq
          clear OBq
          have RBq := veil (RB.out.below hb7 RB.out.lt)
          clear RB
          have RB := RBq
          clear RBq
          clear RBc0
          clear RBc1
          have RBc0 := RB.out.cell 0
          have RBc1 := RB.out.cell 1
          clear hb7 HB6
          go_wp2
          go_ret
          exact ⟨rfl, HB7.out⟩
        · go_wp2_with fail
          have KB := veil (Rg.comb_ok CB.out)
          refine (check_yes OB.out KB.out.2.1).mono ?_
          rintro e4 w4 ⟨rfl, hb4⟩
          have HB4 := veil (HB3.out.trans (hb4.mono HB3.out.size))
          have OSq := veil (OS.out.below hb4)
          clear OS
          have OS := OSq
          clear OSq
          have OAq := veil (OA.out.below hb4)
          clear OA
          have OA := OAq
          clear OAq
          have OBq := veil (OB.out.below hb4)
          clear OB
          have OB := OBq
          clear OBq
          have RBq := veil (RB.out.below hb4 RB.out.lt)
          clear RB
          have RB := RBq
          clear RBq
          clear RBc0
          clear RBc1
          have RBc0 := RB.out.cell 0
          have RBc1 := RB.out.cell 1
          clear hb4 HB3
          go_wp2_with fail
          have HA := veil (rg_has o3 n w4 OB.out (small_set8 OB.out KB.out.2.1))
          rw [show Rg.hasL o3.l n = Rg.hasL s.l n by rw [KB.out.2.2 n, HI.out]; unfold Rg.butB; simp] at HA
          refine (HA.out).mono ?_
          rintro e5 w5 ⟨rfl, hb5⟩
          have HB5 := veil (HB4.out.trans (hb5.mono HB4.out.size))
          have OSq := veil (OS.out.below hb5)
          clear OS
          have OS := OSq
          clear OSq
          have OAq := veil (OA.out.below hb5)
          clear OA
          have OA := OAq
          clear OAq
          have OBq := veil (OB.out.below hb5)
          clear OB
          have OB := OBq
          clear OBq
          have RBq := veil (RB.out.below hb5 RB.out.lt)
          clear RB
          have RB := RBq
          clear RBq
          clear RBc0
          clear RBc1
          have RBc0 := RB.out.cell 0
          have RBc1 := RB.out.cell 1
          clear HA
          clear hb5 HB4
          go_wp2_with fail
          refine (rg_has s n w5 OS.out hs2).mono ?_
          rintro e6 w6 ⟨rfl, hb6⟩
          have HB6 := veil (HB5.out.trans (hb6.mono HB5.out.size))
          have OSq := veil (OS.out.below hb6)
          clear OS
          have OS := OSq
          clear OSq
          have OAq := veil (OA.out.below hb6)
          clear OA
          have OA := OAq
          clear OAq
          have OBq := veil (OB.out.below hb6)
          clear OB
          have OB := OBq
          clear OBq
          have RBq := veil (RB.out.below hb6 RB.out.lt)
          clear RB
          have RB := RBq
          clear RBq
          clear RBc0
          clear RBc1
          have RBc0 := RB.out.cell 0
          have RBc1 := RB.out.cell 1
          clear hb6 HB5
          have fh : (Rg.hasL s.l n != Rg.hasL s.l n) = false := by simp
          go_wp2_with fail
          refine (check_yes OS.out HOKS.out).mono ?_
          rintro e7 w7 ⟨rfl, hb7⟩
          have HB7 := veil (HB6.out.trans (hb7.mono HB6.out.size))
          have OSq := veil (OS.out.below hb7)
          clear OS
          have OS := OSq
          clear OSq
          have OAq := veil (OA.out.below hb7)
          clear OA
          have OA := OAq
          clear OAq
          have OBq := veil (OB.out.below hb7)
          clear OB
          have OB := OBq
          clear OBq
          have RBq := veil (RB.out.below hb7 RB.out.lt)
          clear RB
          have RB := RBq
          clear RBq
          clear RBc0
          clear RBc1
          have RBc0 := RB.out.cell 0
          have RBc1 := RB.out.cell 1
          clear hb7 HB6
          go_wp2
          go_ret
          exact ⟨rfl, HB7.out⟩
        · go_wp2_with fail
          refine (check_yes OS.out HOKS.out).mono ?_
          rintro e4 w4 ⟨rfl, hb4⟩
          have HB4 := veil (HB3.out.trans (hb4.mono HB3.out.size))
          have OSq := veil (OS.out.below hb4)
          clear OS
          have OS := OSq
          clear OSq
          have OAq := veil (OA.out.below hb4)
          clear OA
          have OA := OAq
          clear OAq
          have OBq := veil (OB.out.below hb4)
          clear OB
          have OB := OBq
          clear OBq
          have RBq := veil (RB.out.below hb4 RB.out.lt)
          clear RB
          have RB := RBq
          clear RBq
          clear RBc0
          clear RBc1
          have RBc0 := RB.out.cell 0
          have RBc1 := RB.out.cell 1
          clear hb4 HB3
          go_wp2
          go_ret
          exact ⟨rfl, HB4.out⟩
      · obtain rfl : E2 = 1 := HEA.out.2.1.2 hok
        obtain rfl : E3 = 1 := HEB.out.2.1.2 hok
        clear HEA HEB
        go_wp2_with fail
        by_cases hss : Rg.setOk s.l
        · have SS := veil hss
          by_cases h1 : y < x
          · have g1 : decide ((y : Int) < (x : Int)) = true := by simp; omega
            have g1n : decide (y < x) = true := by simp; omega
            clear h1 hok hss
            refine (check_yes OS.out SS.out).mono ?_
            rintro e4 w4 ⟨rfl, hb4⟩
            have HB4 := veil (HB3.out.trans (hb4.mono HB3.out.size))
            have OSq := veil (OS.out.below hb4)
            clear OS
            have OS := OSq
            clear OSq
            have OAq := veil (OA.out.below hb4)
            clear OA
            have OA := OAq
            clear OAq
            have OBq := veil (OB.out.below hb4)
            clear OB
            have OB := OBq
            clear OBq
            have RBq := veil (RB.out.below hb4 RB.out.lt)
            clear RB
            have RB := RBq
            clear RBq
            clear RBc0
            clear RBc1
            have RBc0 := RB.out.cell 0
            have RBc1 := RB.out.cell 1
            clear hb4 HB3
            go_wp2
            go_ret
            exact ⟨rfl, HB4.out⟩
          · have g1 : decide ((y : Int) < (x : Int)) = false := by simp; omega
            have g1n : decide (y < x) = false := by simp; omega
            have hgt : 4611686018427387903 < y := by
              apply Classical.byContradiction
              intro hn
              exact hok ⟨hss, (Rg.setOk_one x y).2 ⟨by omega, by omega⟩⟩
            have g2 : decide ((4611686018427387903 : Int) < (y : Int)) = true := by simp; omega
            have g2n : decide (4611686018427387903 < y) = true := by simp; omega
            clear hgt
            clear h1 hok hss
            refine (check_yes OS.out SS.out).mono ?_
            rintro e4 w4 ⟨rfl, hb4⟩
            have HB4 := veil (HB3.out.trans (hb4.mono HB3.out.size))
            have OSq := veil (OS.out.below hb4)
            clear OS
            have OS := OSq
            clear OSq
            have OAq := veil (OA.out.below hb4)
            clear OA
            have OA := OAq
            clear OAq
            have OBq := veil (OB.out.below hb4)
            clear OB
            have OB := OBq
            clear OBq
            have RBq := veil (RB.out.below hb4 RB.out.lt)
            clear RB
            have RB := RBq
            clear RBq
            clear RBc0
            clear RBc1
            have RBc0 := RB.out.cell 0
            have RBc1 := RB.out.cell 1
            clear hb4 HB3
            go_wp2
            go_ret
            exact ⟨rfl, HB4.out⟩
        · have SS := veil hss
          clear hss hok
          refine (check_no OS.out SS.out).mono ?_
          rintro e4 w4 ⟨rfl, hb4⟩
          have HB4 := veil (HB3.out.trans (hb4.mono HB3.out.size))
          have OSq := veil (OS.out.below hb4)
          clear OS
          have OS := OSq
          clear OSq
          have OAq := veil (OA.out.below hb4)
          clear OA
          have OA := OAq
          clear OAq
          have OBq := veil (OB.out.below hb4)
          clear OB
          have OB := OBq
          clear OBq
          have RBq := veil (RB.out.below hb4 RB.out.lt)
          clear RB
          have RB := RBq
          clear RBq
          clear RBc0
          clear RBc1
          have RBc0 := RB.out.cell 0
          have RBc1 := RB.out.cell 1
          clear hb4 HB3
          go_wp2
          go_ret
          exact ⟨rfl, HB4.out⟩
end Go.Proofs.Ytalhfciiflcfbaa

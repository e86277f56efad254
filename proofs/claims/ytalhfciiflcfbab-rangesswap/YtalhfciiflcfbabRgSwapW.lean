/-
  RangesSwap, walked.
-/
import Derived.Test.YtalhfciiflcfbabRgAlive
namespace Go.Proofs.Ytalhfciiflcfbab
open Go Go.RowKit Go.Shelf

theorem small_comb {rule : Bool → Bool → Bool} {a b : List (Nat × Nat)} {E : Int} {o : RL} {w : World} (h : o.Ok w) (hc : Rg.Comb rule a b o.l E) : o.len ≤ 8388608 := by rw [← h.hb]; exact Nat.le_trans (Rg.comb_small hc) (by decide)
set_option maxRecDepth 100000 in
set_option maxHeartbeats 4000000 in
theorem swap_walk (s : RL) (x y u v : Nat) (w : World) (hs : s.Ok w) (hx : x < 18446744073709551616) (hy : y < 18446744073709551616) (hu : u < 18446744073709551616) (hv : v < 18446744073709551616) :
    Calls Try.prog 3 #[.slice s.a s.len s.cap, .agg #[.int .u64 (x : Int), .int .u64 (y : Int)], .agg #[.int .u64 (u : Int), .int .u64 (v : Int)]] w fun e w' => e = .returned (.bool true) ∧ Below w.heap.size w w' := by
  have HB0 := veil (((Below.refl w.heap.size w).alloc (Nat.le_refl _) (.cells #[.int .u64 (x : Int), .int .u64 (y : Int)] 25)).alloc (by simp) (.cells #[.int .u64 (u : Int), .int .u64 (v : Int)] 25))
  have OS := veil (hs.below HB0.out)
  have RB : Hid (Row ((w.alloc (.cells #[.int .u64 (x : Int), .int .u64 (y : Int)] 25)).alloc (.cells #[.int .u64 (u : Int), .int .u64 (v : Int)] 25)) w.heap.size 25 #[.int .u64 (x : Int), .int .u64 (y : Int)]) := (Row.new _ _ _).alloc _
  have RC : Hid (Row ((w.alloc (.cells #[.int .u64 (x : Int), .int .u64 (y : Int)] 25)).alloc (.cells #[.int .u64 (u : Int), .int .u64 (v : Int)] 25)) (w.heap.size + 1) 25 #[.int .u64 (u : Int), .int .u64 (v : Int)]) := Row.new1 _ _ _ _
  have RBc0 := RB.out.cell 0
  have RBc1 := RB.out.cell 1
  have RCc0 := RC.out.cell 0
  have RCc1 := RC.out.cell 1
  clear hs
  go_enter Try.func3, Try.ntmps3
  go_wp2_with fail
  generalize ((w.alloc (.cells #[.int .u64 (x : Int), .int .u64 (y : Int)] 25)).alloc (.cells #[.int .u64 (u : Int), .int .u64 (v : Int)] 25)) = v0 at *
  refine (rg_add s x y v0 OS.out hx hy).mono ?_
  rintro e1 w1 ⟨o1, E1, rfl, hc1, ha1, hb1⟩
  have HB1 := veil (HB0.out.trans (hb1.mono HB0.out.size))
  have OSq := veil (OS.out.below hb1)
  clear OS
  have OS := OSq
  clear OSq
  have RBq := veil (RB.out.below hb1 RB.out.lt)
  clear RB
  have RB := RBq
  clear RBq
  clear RBc0
  clear RBc1
  have RBc0 := RB.out.cell 0
  have RBc1 := RB.out.cell 1
  have RCq := veil (RC.out.below hb1 RC.out.lt)
  clear RC
  have RC := RCq
  clear RCq
  clear RCc0
  clear RCc1
  have RCc0 := RC.out.cell 0
  have RCc1 := RC.out.cell 1
  have OA := veil ha1.ok
  have CA := veil hc1
  clear ha1 hc1
  clear hb1 HB0
  go_wp2_with fail
  refine (rg_add s u v w1 OS.out hu hv).mono ?_
  rintro e2 w2 ⟨o2, E2, rfl, hc2, ha2, hb2⟩
  have HB2 := veil (HB1.out.trans (hb2.mono HB1.out.size))
  have OSq := veil (OS.out.below hb2)
  clear OS
  have OS := OSq
  clear OSq
  have OAq := veil (OA.out.below hb2)
  clear OA
  have OA := OAq
  clear OAq
  have RBq := veil (RB.out.below hb2 RB.out.lt)
  clear RB
  have RB := RBq
  clear RBq
  clear RBc0
  clear RBc1
  have RBc0 := RB.out.cell 0
  have RBc1 := RB.out.cell 1
  have RCq := veil (RC.out.below hb2 RC.out.lt)
  clear RC
  have RC := RCq
  clear RCq
  clear RCc0
  clear RCc1
  have RCc0 := RC.out.cell 0
  have RCc1 := RC.out.cell 1
  have OB := veil ha2.ok
  have CB := veil hc2
  clear ha2 hc2
  clear hb2 HB1
  go_wp2_with fail
  refine (alive_any w2).mono ?_
  rintro e3 w3 ⟨rfl, hb3⟩
  have HB3 := veil (HB2.out.trans (hb3.mono HB2.out.size))
  have OSq := veil (OS.out.below hb3)
  clear OS
  have OS := OSq
  clear OSq
  have OAq := veil (OA.out.below hb3)
  clear OA
  have OA := OAq
  clear OAq
  have OBq := veil (OB.out.below hb3)
  clear OB
  have OB := OBq
  clear OBq
  have RBq := veil (RB.out.below hb3 RB.out.lt)
  clear RB
  have RB := RBq
  clear RBq
  clear RBc0
  clear RBc1
  have RBc0 := RB.out.cell 0
  have RBc1 := RB.out.cell 1
  have RCq := veil (RC.out.below hb3 RC.out.lt)
  clear RC
  have RC := RCq
  clear RCq
  clear RCc0
  clear RCc1
  have RCc0 := RC.out.cell 0
  have RCc1 := RC.out.cell 1
  clear hb3 HB2
  by_cases he : E1 = 0
  · by_cases hf : E2 = 0
    · subst he hf
      go_wp2_with fail
      refine (rg_add o1 u v w3 OA.out hu hv).mono ?_
      rintro e4 w4 ⟨o4, E4, rfl, hc4, ha4, hb4⟩
      have HB4 := veil (HB3.out.trans (hb4.mono HB3.out.size))
      have OSq := veil (OS.out.below hb4)
      clear OS
      have OS := OSq
      clear OSq
      have OAq := veil (OA.out.below hb4)
      clear OA
      have OA := OAq
      clear OAq
      have OBq := veil (OB.out.below hb4)
      clear OB
      have OB := OBq
      clear OBq
      have RBq := veil (RB.out.below hb4 RB.out.lt)
      clear RB
      have RB := RBq
      clear RBq
      clear RBc0
      clear RBc1
      have RBc0 := RB.out.cell 0
      have RBc1 := RB.out.cell 1
      have RCq := veil (RC.out.below hb4 RC.out.lt)
      clear RC
      have RC := RCq
      clear RCq
      clear RCc0
      clear RCc1
      have RCc0 := RC.out.cell 0
      have RCc1 := RC.out.cell 1
      have OC := veil ha4.ok
      have CC := veil hc4
      clear ha4 hc4
      clear hb4 HB3
      go_wp2_with fail
      refine (rg_add o2 x y w4 OB.out hx hy).mono ?_
      rintro e5 w5 ⟨o5, E5, rfl, hc5, ha5, hb5⟩
      have HB5 := veil (HB4.out.trans (hb5.mono HB4.out.size))
      have OSq := veil (OS.out.below hb5)
      clear OS
      have OS := OSq
      clear OSq
      have OAq := veil (OA.out.below hb5)
      clear OA
      have OA := OAq
      clear OAq
      have OBq := veil (OB.out.below hb5)
      clear OB
      have OB := OBq
      clear OBq
      have OCq := veil (OC.out.below hb5)
      clear OC
      have OC := OCq
      clear OCq
      have RBq := veil (RB.out.below hb5 RB.out.lt)
      clear RB
      have RB := RBq
      clear RBq
      clear RBc0
      clear RBc1
      have RBc0 := RB.out.cell 0
      have RBc1 := RB.out.cell 1
      have RCq := veil (RC.out.below hb5 RC.out.lt)
      clear RC
      have RC := RCq
      clear RCq
      clear RCc0
      clear RCc1
      have RCc0 := RC.out.cell 0
      have RCc1 := RC.out.cell 1
      have OD := veil ha5.ok
      have CD := veil hc5
      clear ha5 hc5
      clear hb5 HB4
      obtain ⟨hl, hg⟩ := Rg.add_swap CA.out CB.out CC.out CD.out
      subst hg
      have LL := veil hl
      have ML := veil (small_comb OC.out CC.out)
      clear hl
      have fd : (E4 == E4) = true := by simp
      go_wp2_with fail
      refine (same_rl o4 o5 w5 OC.out OD.out LL.out ML.out).mono ?_
      rintro e6 w6 ⟨rfl, hb6⟩
      have HB6 := veil (HB5.out.trans (hb6.mono HB5.out.size))
      have OSq := veil (OS.out.below hb6)
      clear OS
      have OS := OSq
      clear OSq
      have OAq := veil (OA.out.below hb6)
      clear OA
      have OA := OAq
      clear OAq
      have OBq := veil (OB.out.below hb6)
      clear OB
      have OB := OBq
      clear OBq
      have OCq := veil (OC.out.below hb6)
      clear OC
      have OC := OCq
      clear OCq
      have ODq := veil (OD.out.below hb6)
      clear OD
      have OD := ODq
      clear ODq
      have RBq := veil (RB.out.below hb6 RB.out.lt)
      clear RB
      have RB := RBq
      clear RBq
      clear RBc0
      clear RBc1
      have RBc0 := RB.out.cell 0
      have RBc1 := RB.out.cell 1
      have RCq := veil (RC.out.below hb6 RC.out.lt)
      clear RC
      have RC := RCq
      clear RCq
      clear RCc0
      clear RCc1
      have RCc0 := RC.out.cell 0
      have RCc1 := RC.out.cell 1
      clear hb6 HB5
      go_wp2
      go_ret
      exact ⟨rfl, HB6.out⟩
    · subst he
      have ff : (E2 != 0) = true := by simpa using hf
      clear hf
      go_wp2_with fail
      refine (alive_any w3).mono ?_
      rintro e4 w4 ⟨rfl, hb4⟩
      have HB4 := veil (HB3.out.trans (hb4.mono HB3.out.size))
      have OSq := veil (OS.out.below hb4)
      clear OS
      have OS := OSq
      clear OSq
      have OAq := veil (OA.out.below hb4)
      clear OA
      have OA := OAq
      clear OAq
      have OBq := veil (OB.out.below hb4)
      clear OB
      have OB := OBq
      clear OBq
      have RBq := veil (RB.out.below hb4 RB.out.lt)
      clear RB
      have RB := RBq
      clear RBq
      clear RBc0
      clear RBc1
      have RBc0 := RB.out.cell 0
      have RBc1 := RB.out.cell 1
      have RCq := veil (RC.out.below hb4 RC.out.lt)
      clear RC
      have RC := RCq
      clear RCq
      clear RCc0
      clear RCc1
      have RCc0 := RC.out.cell 0
      have RCc1 := RC.out.cell 1
      clear hb4 HB3
      go_wp2
      go_ret
      exact ⟨rfl, HB4.out⟩
  · have fe : (E1 != 0) = true := by simpa using he
    clear he
    go_wp2_with fail
    refine (alive_any w3).mono ?_
    rintro e4 w4 ⟨rfl, hb4⟩
    have HB4 := veil (HB3.out.trans (hb4.mono HB3.out.size))
    have OSq := veil (OS.out.below hb4)
    clear OS
    have OS := OSq
    clear OSq
    have OAq := veil (OA.out.below hb4)
    clear OA
    have OA := OAq
    clear OAq
    have OBq := veil (OB.out.below hb4)
    clear OB
    have OB := OBq
    clear OBq
    have RBq := veil (RB.out.below hb4 RB.out.lt)
    clear RB
    have RB := RBq
    clear RBq
    clear RBc0
    clear RBc1
    have RBc0 := RB.out.cell 0
    have RBc1 := RB.out.cell 1
    have RCq := veil (RC.out.below hb4 RC.out.lt)
    clear RC
    have RC := RCq
    clear RCq
    clear RCc0
    clear RCc1
    have RCc0 := RC.out.cell 0
    have RCc1 := RC.out.cell 1
    clear hb4 HB3
    go_wp2
    go_ret
    exact ⟨rfl, HB4.out⟩
end Go.Proofs.Ytalhfciiflcfbab

/-
  RangesMeets, walked. Written by mkmeet8.py.
-/
import Derived.Test.YtalhfciiflcfbaaGreatDoorRgChangesW
import Derived.Test.YtalhfciiflcfbaaGreatDoorRgKeep
import Derived.Test.YtalhfciiflcfbaaGreatDoorRgHasC
import Derived.Test.YtalhfciiflcfbaaGreatDoorRgRefH
namespace Go.Proofs.YtalhfciiflcfbaaGreatDoor
open Go Go.RowKit Go.Shelf

set_option maxRecDepth 100000 in
set_option maxHeartbeats 2000000 in
theorem meets_walk (s t : RL) (n : Int) (w : World) (hs : s.Ok w) (ht : t.Ok w) (hn1 : -9223372036854775808 ≤ n) (hn2 : n ≤ 9223372036854775807) (hsl : s.len ≤ 1000000000000000) (htl : t.len ≤ 1000000000000000) :
    Calls Tryz.prog 4 #[.slice s.a s.len s.cap, .slice t.a t.len t.cap, .int .i64 n] w fun e w' => e = .returned (.bool true) ∧ Below w.heap.size w w' := by
  have HSB := veil hs.hb
  have HSM := veil hs.small
  have HTB := veil ht.hb
  have HTM := veil ht.small
  obtain ⟨un, hun⟩ : ∃ un : Nat, IntKind.u64.wrap n = (un : Int) := ⟨(IntKind.u64.wrap n).toNat, by rw [IntKind.wrap_u64]; omega⟩
  have HB0 := veil (Below.refl w.heap.size w)
  have OS := veil hs
  have OT := veil ht
  have HN1 := veil hn1
  have HN2 := veil hn2
  clear hs ht hn1 hn2
  go_enter Tryz.func4, Tryz.ntmps4
  go_wp2_with fail
  refine (beyond_two w s.len t.len hsl htl).mono ?_
  rintro e1 w1 ⟨⟨b, rfl, hbn⟩, hb1⟩
  have HB1 := veil (HB0.out.trans (hb1.mono HB0.out.size))
  have OSq := veil (OS.out.below hb1)
  clear OS
  have OS := OSq
  clear OSq
  have OTq := veil (OT.out.below hb1)
  clear OT
  have OT := OTq
  clear OTq
  have HZ1 := veil hb1.size
  clear hb1 HB0
  cases b with
  | true =>
    go_wp2_with fail
    go_ret
    exact ⟨rfl, HB1.out⟩
  | false =>
  have hsm := (hbn rfl).1
  have htm := (hbn rfl).2
  clear hbn
  go_wp2_with fail
  refine (twin_rl s w1 OS.out hsm).mono ?_
  rintro e2 w2 ⟨rfl, hown, hb2⟩
  have HB2 := veil (HB1.out.trans (hb2.mono HB1.out.size))
  have OSq := veil (OS.out.below hb2)
  clear OS
  have OS := OSq
  clear OSq
  have OTq := veil (OT.out.below hb2)
  clear OT
  have OT := OTq
  clear OTq
  have TTP := veil (TwinR.of_own hown)
  have AP := veil (twin_ans hown HSB.out HSM.out)
  have IP := veil (fun k e => AP.out.own.lt k e)
  have HZ2 := veil hb2.size
  clear hown
  clear hb2 HB1
  go_wp2_with fail
  refine (twin_rl t w2 OT.out htm).mono ?_
  rintro e3 w3 ⟨rfl, hown, hb3⟩
  have HB3 := veil (HB2.out.trans (hb3.mono HB2.out.size))
  have OSq := veil (OS.out.below hb3)
  clear OS
  have OS := OSq
  clear OSq
  have OTq := veil (OT.out.below hb3)
  clear OT
  have OT := OTq
  clear OTq
  have TTPq := veil (TTP.out.below hb3)
  clear TTP
  have TTP := TTPq
  clear TTPq
  have APq := veil (AP.out.below hb3)
  clear AP
  have AP := APq
  clear APq
  have TTQ := veil (TwinR.of_own hown)
  have AQ := veil (twin_ans hown HTB.out HTM.out)
  have IQ := veil (fun k e => AQ.out.own.lt k e)
  have HZ3 := veil hb3.size
  clear hown
  clear hb3 HB2
  go_wp2_with fail
  clear HSB HSM HTB HTM
  refine (rg_meet ⟨some ⟨w1.heap.size, 0, none⟩, s.len, s.len + 1, w1.heap.size, 0, s.l⟩ ⟨some ⟨w2.heap.size, 0, none⟩, t.len, t.len + 1, w2.heap.size, 0, t.l⟩ w3 AP.out.ok AQ.out.ok).mono ?_
  rintro e4 w4 ⟨o4, E4, rfl, hc4, ha4, hb4⟩
  have HB4 := veil (HB3.out.trans (hb4.mono HB3.out.size))
  have OSq := veil (OS.out.below hb4)
  clear OS
  have OS := OSq
  clear OSq
  have OTq := veil (OT.out.below hb4)
  clear OT
  have OT := OTq
  clear OTq
  have TTPq := veil (TTP.out.below hb4)
  clear TTP
  have TTP := TTPq
  clear TTPq
  have APq := veil (AP.out.below hb4)
  clear AP
  have AP := APq
  clear APq
  have TTQq := veil (TTQ.out.below hb4)
  clear TTQ
  have TTQ := TTQq
  clear TTQq
  have AQq := veil (AQ.out.below hb4)
  clear AQ
  have AQ := AQq
  clear AQq
  have A1 := veil ha4
  have C1 := veil hc4
  have I1 := veil (fun k e => ha4.own.lt k e)
  have N1 := veil (show o4.len ≤ 64 by rw [← ha4.ok.hb]; exact comb_len hc4)
  have HZ4 := veil hb4.size
  clear ha4 hc4
  clear hb4 HB3
  go_wp2_with fail
  refine (rg_keep ⟨some ⟨w1.heap.size, 0, none⟩, s.len, s.len + 1, w1.heap.size, 0, s.l⟩ n w4 AP.out.ok HN1.out HN2.out).mono ?_
  rintro e5 w5 ⟨o5, E5, rfl, hc5, ha5, hb5⟩
  have HB5 := veil (HB4.out.trans (hb5.mono HB4.out.size))
  have OSq := veil (OS.out.below hb5)
  clear OS
  have OS := OSq
  clear OSq
  have OTq := veil (OT.out.below hb5)
  clear OT
  have OT := OTq
  clear OTq
  have TTPq := veil (TTP.out.below hb5)
  clear TTP
  have TTP := TTPq
  clear TTPq
  have APq := veil (AP.out.below hb5)
  clear AP
  have AP := APq
  clear APq
  have TTQq := veil (TTQ.out.below hb5)
  clear TTQ
  have TTQ := TTQq
  clear TTQq
  have AQq := veil (AQ.out.below hb5)
  clear AQ
  have AQ := AQq
  clear AQq
  have A1q := veil (A1.out.below hb5)
  clear A1
  have A1 := A1q
  clear A1q
  have A2 := veil ha5
  have C2 := veil hc5
  have I2 := veil (fun k e => ha5.own.lt k e)
  have N2 := veil (show o5.len ≤ 64 by rw [← ha5.ok.hb]; exact keep_len hc5)
  have HZ5 := veil hb5.size
  clear ha5 hc5
  clear hb5 HB4
  go_wp2_with fail
  refine (rg_keep ⟨some ⟨w1.heap.size, 0, none⟩, s.len, s.len + 1, w1.heap.size, 0, s.l⟩ n w5 AP.out.ok HN1.out HN2.out).mono ?_
  rintro e6 w6 ⟨o6, E6, rfl, hc6, ha6, hb6⟩
  have HB6 := veil (HB5.out.trans (hb6.mono HB5.out.size))
  have OSq := veil (OS.out.below hb6)
  clear OS
  have OS := OSq
  clear OSq
  have OTq := veil (OT.out.below hb6)
  clear OT
  have OT := OTq
  clear OTq
  have TTPq := veil (TTP.out.below hb6)
  clear TTP
  have TTP := TTPq
  clear TTPq
  have APq := veil (AP.out.below hb6)
  clear AP
  have AP := APq
  clear APq
  have TTQq := veil (TTQ.out.below hb6)
  clear TTQ
  have TTQ := TTQq
  clear TTQq
  have AQq := veil (AQ.out.below hb6)
  clear AQ
  have AQ := AQq
  clear AQq
  have A1q := veil (A1.out.below hb6)
  clear A1
  have A1 := A1q
  clear A1q
  have A2q := veil (A2.out.below hb6)
  clear A2
  have A2 := A2q
  clear A2q
  have A3 := veil ha6
  have C3 := veil hc6
  have I3 := veil (fun k e => ha6.own.lt k e)
  have N3 := veil (show o6.len ≤ 64 by rw [← ha6.ok.hb]; exact keep_len hc6)
  have HZ6 := veil hb6.size
  clear ha6 hc6
  clear hb6 HB5
  go_wp2_with fail
  refine (ref_meet8 s t w6 OS.out OT.out).mono ?_
  rintro e7 w7 ⟨o7, E7, rfl, hc7, ha7, hb7⟩
  have HB7 := veil (HB6.out.trans (hb7.mono HB6.out.size))
  have OSq := veil (OS.out.below hb7)
  clear OS
  have OS := OSq
  clear OSq
  have OTq := veil (OT.out.below hb7)
  clear OT
  have OT := OTq
  clear OTq
  have TTPq := veil (TTP.out.below hb7)
  clear TTP
  have TTP := TTPq
  clear TTPq
  have APq := veil (AP.out.below hb7)
  clear AP
  have AP := APq
  clear APq
  have TTQq := veil (TTQ.out.below hb7)
  clear TTQ
  have TTQ := TTQq
  clear TTQq
  have AQq := veil (AQ.out.below hb7)
  clear AQ
  have AQ := AQq
  clear AQq
  have A1q := veil (A1.out.below hb7)
  clear A1
  have A1 := A1q
  clear A1q
  have A2q := veil (A2.out.below hb7)
  clear A2
  have A2 := A2q
  clear A2q
  have A3q := veil (A3.out.below hb7)
  clear A3
  have A3 := A3q
  clear A3q
  have A4 := veil ha7
  have C4 := veil hc7
  have I4 := veil (fun k e => ha7.own.lt k e)
  have N4 := veil (show o7.len ≤ 64 by rw [← ha7.ok.hb]; exact comb_len hc7)
  have HZ7 := veil hb7.size
  clear ha7 hc7
  clear hb7 HB6
  go_wp2_with fail
  refine (ref_keep8 s n w7 OS.out HN1.out HN2.out).mono ?_
  rintro e8 w8 ⟨o8, E8, rfl, hc8, ha8, hb8⟩
  have HB8 := veil (HB7.out.trans (hb8.mono HB7.out.size))
  have OSq := veil (OS.out.below hb8)
  clear OS
  have OS := OSq
  clear OSq
  have OTq := veil (OT.out.below hb8)
  clear OT
  have OT := OTq
  clear OTq
  have TTPq := veil (TTP.out.below hb8)
  clear TTP
  have TTP := TTPq
  clear TTPq
  have APq := veil (AP.out.below hb8)
  clear AP
  have AP := APq
  clear APq
  have TTQq := veil (TTQ.out.below hb8)
  clear TTQ
  have TTQ := TTQq
  clear TTQq
  have AQq := veil (AQ.out.below hb8)
  clear AQ
  have AQ := AQq
  clear AQq
  have A1q := veil (A1.out.below hb8)
  clear A1
  have A1 := A1q
  clear A1q
  have A2q := veil (A2.out.below hb8)
  clear A2
  have A2 := A2q
  clear A2q
  have A3q := veil (A3.out.below hb8)
  clear A3
  have A3 := A3q
  clear A3q
  have A4q := veil (A4.out.below hb8)
  clear A4
  have A4 := A4q
  clear A4q
  have A5 := veil ha8
  have C5 := veil hc8
  have HZ8 := veil hb8.size
  clear ha8 hc8
  clear hb8 HB7
  obtain ⟨q14, rE14⟩ := Rg.comb_unique C1.out C4.out
  obtain ⟨q25, rE25⟩ := keep_unique C2.out C5.out
  subst rE14 rE25
  have Q14 := veil q14
  have Q25 := veil q25
  have hee1 : (E4 != E4) = false := by simp
  have hee2 : (E5 != E5) = false := by simp
  clear q14 q25 C1 C2 C3 C4 C5 HN1 HN2
  go_wp2_with fail
  refine (same_rl o4 o7 w8 A1.out.ok A4.out.ok Q14.out (by have := N1.out; omega)).mono ?_
  rintro e9 w9 ⟨rfl, hb9⟩
  have HB9 := veil (HB8.out.trans (hb9.mono HB8.out.size))
  have OSq := veil (OS.out.below hb9)
  clear OS
  have OS := OSq
  clear OSq
  have OTq := veil (OT.out.below hb9)
  clear OT
  have OT := OTq
  clear OTq
  have TTPq := veil (TTP.out.below hb9)
  clear TTP
  have TTP := TTPq
  clear TTPq
  have APq := veil (AP.out.below hb9)
  clear AP
  have AP := APq
  clear APq
  have TTQq := veil (TTQ.out.below hb9)
  clear TTQ
  have TTQ := TTQq
  clear TTQq
  have AQq := veil (AQ.out.below hb9)
  clear AQ
  have AQ := AQq
  clear AQq
  have A1q := veil (A1.out.below hb9)
  clear A1
  have A1 := A1q
  clear A1q
  have A2q := veil (A2.out.below hb9)
  clear A2
  have A2 := A2q
  clear A2q
  have A3q := veil (A3.out.below hb9)
  clear A3
  have A3 := A3q
  clear A3q
  have A4q := veil (A4.out.below hb9)
  clear A4
  have A4 := A4q
  clear A4q
  have A5q := veil (A5.out.below hb9)
  clear A5
  have A5 := A5q
  clear A5q
  clear hb9 HB8
  go_wp2_with fail
  clear A4 Q14
  refine (same_rl o5 o8 w9 A2.out.ok A5.out.ok Q25.out (by have := N2.out; omega)).mono ?_
  rintro e10 w10 ⟨rfl, hb10⟩
  have HB10 := veil (HB9.out.trans (hb10.mono HB9.out.size))
  have OSq := veil (OS.out.below hb10)
  clear OS
  have OS := OSq
  clear OSq
  have OTq := veil (OT.out.below hb10)
  clear OT
  have OT := OTq
  clear OTq
  have TTPq := veil (TTP.out.below hb10)
  clear TTP
  have TTP := TTPq
  clear TTPq
  have APq := veil (AP.out.below hb10)
  clear AP
  have AP := APq
  clear APq
  have TTQq := veil (TTQ.out.below hb10)
  clear TTQ
  have TTQ := TTQq
  clear TTQq
  have AQq := veil (AQ.out.below hb10)
  clear AQ
  have AQ := AQq
  clear AQq
  have A1q := veil (A1.out.below hb10)
  clear A1
  have A1 := A1q
  clear A1q
  have A2q := veil (A2.out.below hb10)
  clear A2
  have A2 := A2q
  clear A2q
  have A3q := veil (A3.out.below hb10)
  clear A3
  have A3 := A3q
  clear A3q
  have A5q := veil (A5.out.below hb10)
  clear A5
  have A5 := A5q
  clear A5q
  clear hb10 HB9
  go_wp2_with fail
  clear A5 Q25
  refine (left_rl s w1.heap.size w10 OS.out hsm TTP.out).mono ?_
  rintro e11 w11 ⟨rfl, hb11⟩
  have HB11 := veil (HB10.out.trans (hb11.mono HB10.out.size))
  have OSq := veil (OS.out.below hb11)
  clear OS
  have OS := OSq
  clear OSq
  have OTq := veil (OT.out.below hb11)
  clear OT
  have OT := OTq
  clear OTq
  have TTPq := veil (TTP.out.below hb11)
  clear TTP
  have TTP := TTPq
  clear TTPq
  have APq := veil (AP.out.below hb11)
  clear AP
  have AP := APq
  clear APq
  have TTQq := veil (TTQ.out.below hb11)
  clear TTQ
  have TTQ := TTQq
  clear TTQq
  have AQq := veil (AQ.out.below hb11)
  clear AQ
  have AQ := AQq
  clear AQq
  have A1q := veil (A1.out.below hb11)
  clear A1
  have A1 := A1q
  clear A1q
  have A2q := veil (A2.out.below hb11)
  clear A2
  have A2 := A2q
  clear A2q
  have A3q := veil (A3.out.below hb11)
  clear A3
  have A3 := A3q
  clear A3q
  clear hb11 HB10
  go_wp2_with fail
  clear TTP
  refine (left_rl t w2.heap.size w11 OT.out htm TTQ.out).mono ?_
  rintro e12 w12 ⟨rfl, hb12⟩
  have HB12 := veil (HB11.out.trans (hb12.mono HB11.out.size))
  have OSq := veil (OS.out.below hb12)
  clear OS
  have OS := OSq
  clear OSq
  have OTq := veil (OT.out.below hb12)
  clear OT
  have OT := OTq
  clear OTq
  have APq := veil (AP.out.below hb12)
  clear AP
  have AP := APq
  clear APq
  have TTQq := veil (TTQ.out.below hb12)
  clear TTQ
  have TTQ := TTQq
  clear TTQq
  have AQq := veil (AQ.out.below hb12)
  clear AQ
  have AQ := AQq
  clear AQq
  have A1q := veil (A1.out.below hb12)
  clear A1
  have A1 := A1q
  clear A1q
  have A2q := veil (A2.out.below hb12)
  clear A2
  have A2 := A2q
  clear A2q
  have A3q := veil (A3.out.below hb12)
  clear A3
  have A3 := A3q
  clear A3q
  clear hb12 HB11
  clear TTQ OT
  obtain ⟨bh, hbh⟩ : ∃ b : Bool, Rg.hasL s.l un = b := ⟨_, rfl⟩
  have hbb : (bh != bh) = false := by cases bh <;> rfl
  have HBH := veil hbh
  clear hbh
  go_wp2_with fail
  refine (rg_has ⟨some ⟨w1.heap.size, 0, none⟩, s.len, s.len + 1, w1.heap.size, 0, s.l⟩ un w12 AP.out.ok hsm).mono ?_
  rintro e13 w13 ⟨hre, hb13⟩
  have HB13 := veil (HB12.out.trans (hb13.mono HB12.out.size))
  have OSq := veil (OS.out.below hb13)
  clear OS
  have OS := OSq
  clear OSq
  have APq := veil (AP.out.below hb13)
  clear AP
  have AP := APq
  clear APq
  have AQq := veil (AQ.out.below hb13)
  clear AQ
  have AQ := AQq
  clear AQq
  have A1q := veil (A1.out.below hb13)
  clear A1
  have A1 := A1q
  clear A1q
  have A2q := veil (A2.out.below hb13)
  clear A2
  have A2 := A2q
  clear A2q
  have A3q := veil (A3.out.below hb13)
  clear A3
  have A3 := A3q
  clear A3q
  clear hb13 HB12
  obtain rfl : e13 = .returned (.bool bh) := by rw [← HBH.out]; exact hre
  clear hre
  go_wp2_with fail
  refine (ref_has8 s un w13 OS.out hsm).mono ?_
  rintro e14 w14 ⟨hre, hb14⟩
  have HB14 := veil (HB13.out.trans (hb14.mono HB13.out.size))
  have OSq := veil (OS.out.below hb14)
  clear OS
  have OS := OSq
  clear OSq
  have APq := veil (AP.out.below hb14)
  clear AP
  have AP := APq
  clear APq
  have AQq := veil (AQ.out.below hb14)
  clear AQ
  have AQ := AQq
  clear AQq
  have A1q := veil (A1.out.below hb14)
  clear A1
  have A1 := A1q
  clear A1q
  have A2q := veil (A2.out.below hb14)
  clear A2
  have A2 := A2q
  clear A2q
  have A3q := veil (A3.out.below hb14)
  clear A3
  have A3 := A3q
  clear A3q
  clear hb14 HB13
  obtain rfl : e14 = .returned (.bool bh) := by rw [← HBH.out]; exact hre
  clear hre OS
  go_wp2_with fail
  have HBk := veil (Bo.Bk.new w.heap.size (fun _ => .slice none 0 0) (fun _ => 0) (fun _ => []) w w14 HB14.out.size HB14.out 46)
  have P0 := veil ((own_low2 AP.out.own (show w.heap.size ≤ _ by have := HZ1.out; have := HZ2.out; have := HZ3.out; have := HZ4.out; have := HZ5.out; have := HZ6.out; have := HZ7.out; have := HZ8.out; omega)).alloc (.cells #[.int .i64 0, .slice none 0 0, .slice none 0 0, .slice none 0 0, .slice none 0 0, .slice none 0 0, .slice none 0 0, .slice none 0 0, .slice none 0 0, .slice none 0 0, .slice none 0 0, .slice none 0 0, .slice none 0 0] 46))
  have L0 := veil (fun z e => (AP.out.own.lt z e).2)
  have P1 := veil ((own_low2 AQ.out.own (show w.heap.size ≤ _ by have := HZ1.out; have := HZ2.out; have := HZ3.out; have := HZ4.out; have := HZ5.out; have := HZ6.out; have := HZ7.out; have := HZ8.out; omega)).alloc (.cells #[.int .i64 0, .slice none 0 0, .slice none 0 0, .slice none 0 0, .slice none 0 0, .slice none 0 0, .slice none 0 0, .slice none 0 0, .slice none 0 0, .slice none 0 0, .slice none 0 0, .slice none 0 0, .slice none 0 0] 46))
  have L1 := veil (fun z e => (AQ.out.own.lt z e).2)
  have P2 := veil ((own_low2 A1.out.own (show w.heap.size ≤ _ by have := HZ1.out; have := HZ2.out; have := HZ3.out; have := HZ4.out; have := HZ5.out; have := HZ6.out; have := HZ7.out; have := HZ8.out; omega)).alloc (.cells #[.int .i64 0, .slice none 0 0, .slice none 0 0, .slice none 0 0, .slice none 0 0, .slice none 0 0, .slice none 0 0, .slice none 0 0, .slice none 0 0, .slice none 0 0, .slice none 0 0, .slice none 0 0, .slice none 0 0] 46))
  have L2 := veil (fun z e => (A1.out.own.lt z e).2)
  have P3 := veil ((own_low2 A2.out.own (show w.heap.size ≤ _ by have := HZ1.out; have := HZ2.out; have := HZ3.out; have := HZ4.out; have := HZ5.out; have := HZ6.out; have := HZ7.out; have := HZ8.out; omega)).alloc (.cells #[.int .i64 0, .slice none 0 0, .slice none 0 0, .slice none 0 0, .slice none 0 0, .slice none 0 0, .slice none 0 0, .slice none 0 0, .slice none 0 0, .slice none 0 0, .slice none 0 0, .slice none 0 0, .slice none 0 0] 46))
  have L3 := veil (fun z e => (A2.out.own.lt z e).2)
  have P4 := veil ((own_low2 A3.out.own (show w.heap.size ≤ _ by have := HZ1.out; have := HZ2.out; have := HZ3.out; have := HZ4.out; have := HZ5.out; have := HZ6.out; have := HZ7.out; have := HZ8.out; omega)).alloc (.cells #[.int .i64 0, .slice none 0 0, .slice none 0 0, .slice none 0 0, .slice none 0 0, .slice none 0 0, .slice none 0 0, .slice none 0 0, .slice none 0 0, .slice none 0 0, .slice none 0 0, .slice none 0 0, .slice none 0 0] 46))
  have L4 := veil (fun z e => (A3.out.own.lt z e).2)
  refine (Bo.ranges_any w.heap.size w14.heap.size 0 _ _ _ _ w _ (.slice (some ⟨w1.heap.size, 0, none⟩) s.len (s.len + 1)) s.len _ (by decide) HBk.out P0.out L0.out (fun i hi => absurd hi (Nat.not_lt_zero _))).mono ?_
  rintro eb0 wb0 ⟨rfl, V0, bk0, hold0⟩
  have HK0 := veil bk0
  have P1q := veil (hold0 _ _ _ P1.out L1.out)
  clear P1
  have P1 := P1q
  clear P1q
  have P2q := veil (hold0 _ _ _ P2.out L2.out)
  clear P2
  have P2 := P2q
  clear P2q
  have P3q := veil (hold0 _ _ _ P3.out L3.out)
  clear P3
  have P3 := P3q
  clear P3q
  have P4q := veil (hold0 _ _ _ P4.out L4.out)
  clear P4
  have P4 := P4q
  clear P4q
  clear bk0 hold0
  have HA1 : ∀ i, i < 1 → ((Bo.upd (fun _ => Value.slice none 0 0) 0 (Value.slice (some ⟨w1.heap.size, 0, none⟩) s.len (s.len + 1))) i).ownBlock = none ∨ ((Bo.upd (fun _ => Value.slice none 0 0) 0 (Value.slice (some ⟨w1.heap.size, 0, none⟩) s.len (s.len + 1))) i).ownBlock ≠ (Value.slice (some ⟨w2.heap.size, 0, none⟩) t.len (t.len + 1)).ownBlock := by
    intro i hi
    have : i = 0 := by omega
    obtain rfl := this
    exact own_sep IP.out IQ.out (by have := HZ1.out; have := HZ2.out; have := HZ3.out; have := HZ4.out; have := HZ5.out; have := HZ6.out; have := HZ7.out; have := HZ8.out; omega)
  go_wp2_with fail
  refine (Bo.ranges_any w.heap.size w14.heap.size 1 _ _ _ _ w _ (.slice (some ⟨w2.heap.size, 0, none⟩) t.len (t.len + 1)) t.len _ (by decide) HK0.out P1.out L1.out (fun i hi => HA1 i hi)).mono ?_
  rintro eb1 wb1 ⟨rfl, V1, bk1, hold1⟩
  have HK1 := veil bk1
  have P2q := veil (hold1 _ _ _ P2.out L2.out)
  clear P2
  have P2 := P2q
  clear P2q
  have P3q := veil (hold1 _ _ _ P3.out L3.out)
  clear P3
  have P3 := P3q
  clear P3q
  have P4q := veil (hold1 _ _ _ P4.out L4.out)
  clear P4
  have P4 := P4q
  clear P4q
  clear bk1 hold1
  have HA2 : ∀ i, i < 2 → ((Bo.upd (Bo.upd (fun _ => Value.slice none 0 0) 0 (Value.slice (some ⟨w1.heap.size, 0, none⟩) s.len (s.len + 1))) 1 (Value.slice (some ⟨w2.heap.size, 0, none⟩) t.len (t.len + 1))) i).ownBlock = none ∨ ((Bo.upd (Bo.upd (fun _ => Value.slice none 0 0) 0 (Value.slice (some ⟨w1.heap.size, 0, none⟩) s.len (s.len + 1))) 1 (Value.slice (some ⟨w2.heap.size, 0, none⟩) t.len (t.len + 1))) i).ownBlock ≠ (Value.slice o4.a o4.len o4.cap).ownBlock := by
    intro i hi
    have : i = 0 ∨ i = 1 := by omega
    rcases this with rfl | rfl
    · exact own_sep IP.out I1.out (by have := HZ1.out; have := HZ2.out; have := HZ3.out; have := HZ4.out; have := HZ5.out; have := HZ6.out; have := HZ7.out; have := HZ8.out; omega)
    · exact own_sep IQ.out I1.out (by have := HZ1.out; have := HZ2.out; have := HZ3.out; have := HZ4.out; have := HZ5.out; have := HZ6.out; have := HZ7.out; have := HZ8.out; omega)
  go_wp2_with fail
  refine (Bo.ranges_any w.heap.size w14.heap.size 2 _ _ _ _ w _ (.slice o4.a o4.len o4.cap) o4.len _ (by decide) HK1.out P2.out L2.out (fun i hi => HA2 i hi)).mono ?_
  rintro eb2 wb2 ⟨rfl, V2, bk2, hold2⟩
  have HK2 := veil bk2
  have P3q := veil (hold2 _ _ _ P3.out L3.out)
  clear P3
  have P3 := P3q
  clear P3q
  have P4q := veil (hold2 _ _ _ P4.out L4.out)
  clear P4
  have P4 := P4q
  clear P4q
  clear bk2 hold2
  have HA3 : ∀ i, i < 3 → ((Bo.upd (Bo.upd (Bo.upd (fun _ => Value.slice none 0 0) 0 (Value.slice (some ⟨w1.heap.size, 0, none⟩) s.len (s.len + 1))) 1 (Value.slice (some ⟨w2.heap.size, 0, none⟩) t.len (t.len + 1))) 2 (Value.slice o4.a o4.len o4.cap)) i).ownBlock = none ∨ ((Bo.upd (Bo.upd (Bo.upd (fun _ => Value.slice none 0 0) 0 (Value.slice (some ⟨w1.heap.size, 0, none⟩) s.len (s.len + 1))) 1 (Value.slice (some ⟨w2.heap.size, 0, none⟩) t.len (t.len + 1))) 2 (Value.slice o4.a o4.len o4.cap)) i).ownBlock ≠ (Value.slice o5.a o5.len o5.cap).ownBlock := by
    intro i hi
    have : i = 0 ∨ i = 1 ∨ i = 2 := by omega
    rcases this with rfl | rfl | rfl
    · exact own_sep IP.out I2.out (by have := HZ1.out; have := HZ2.out; have := HZ3.out; have := HZ4.out; have := HZ5.out; have := HZ6.out; have := HZ7.out; have := HZ8.out; omega)
    · exact own_sep IQ.out I2.out (by have := HZ1.out; have := HZ2.out; have := HZ3.out; have := HZ4.out; have := HZ5.out; have := HZ6.out; have := HZ7.out; have := HZ8.out; omega)
    · exact own_sep I1.out I2.out (by have := HZ1.out; have := HZ2.out; have := HZ3.out; have := HZ4.out; have := HZ5.out; have := HZ6.out; have := HZ7.out; have := HZ8.out; omega)
  go_wp2_with fail
  refine (Bo.ranges_any w.heap.size w14.heap.size 3 _ _ _ _ w _ (.slice o5.a o5.len o5.cap) o5.len _ (by decide) HK2.out P3.out L3.out (fun i hi => HA3 i hi)).mono ?_
  rintro eb3 wb3 ⟨rfl, V3, bk3, hold3⟩
  have HK3 := veil bk3
  have P4q := veil (hold3 _ _ _ P4.out L4.out)
  clear P4
  have P4 := P4q
  clear P4q
  clear bk3 hold3
  have HA4 : ∀ i, i < 4 → ((Bo.upd (Bo.upd (Bo.upd (Bo.upd (fun _ => Value.slice none 0 0) 0 (Value.slice (some ⟨w1.heap.size, 0, none⟩) s.len (s.len + 1))) 1 (Value.slice (some ⟨w2.heap.size, 0, none⟩) t.len (t.len + 1))) 2 (Value.slice o4.a o4.len o4.cap)) 3 (Value.slice o5.a o5.len o5.cap)) i).ownBlock = none ∨ ((Bo.upd (Bo.upd (Bo.upd (Bo.upd (fun _ => Value.slice none 0 0) 0 (Value.slice (some ⟨w1.heap.size, 0, none⟩) s.len (s.len + 1))) 1 (Value.slice (some ⟨w2.heap.size, 0, none⟩) t.len (t.len + 1))) 2 (Value.slice o4.a o4.len o4.cap)) 3 (Value.slice o5.a o5.len o5.cap)) i).ownBlock ≠ (Value.slice o6.a o6.len o6.cap).ownBlock := by
    intro i hi
    have : i = 0 ∨ i = 1 ∨ i = 2 ∨ i = 3 := by omega
    rcases this with rfl | rfl | rfl | rfl
    · exact own_sep IP.out I3.out (by have := HZ1.out; have := HZ2.out; have := HZ3.out; have := HZ4.out; have := HZ5.out; have := HZ6.out; have := HZ7.out; have := HZ8.out; omega)
    · exact own_sep IQ.out I3.out (by have := HZ1.out; have := HZ2.out; have := HZ3.out; have := HZ4.out; have := HZ5.out; have := HZ6.out; have := HZ7.out; have := HZ8.out; omega)
    · exact own_sep I1.out I3.out (by have := HZ1.out; have := HZ2.out; have := HZ3.out; have := HZ4.out; have := HZ5.out; have := HZ6.out; have := HZ7.out; have := HZ8.out; omega)
    · exact own_sep I2.out I3.out (by have := HZ1.out; have := HZ2.out; have := HZ3.out; have := HZ4.out; have := HZ5.out; have := HZ6.out; have := HZ7.out; have := HZ8.out; omega)
  go_wp2_with fail
  refine (Bo.ranges_any w.heap.size w14.heap.size 4 _ _ _ _ w _ (.slice o6.a o6.len o6.cap) o6.len _ (by decide) HK3.out P4.out L4.out (fun i hi => HA4 i hi)).mono ?_
  rintro eb4 wb4 ⟨rfl, V4, bk4, hold4⟩
  have HK4 := veil bk4
  clear bk4 hold4
  go_wp2_with fail
  refine (apart_five w.heap.size w14.heap.size s.len t.len o4.len o5.len o6.len (.slice (some ⟨w1.heap.size, 0, none⟩) s.len (s.len + 1)) (.slice (some ⟨w2.heap.size, 0, none⟩) t.len (t.len + 1)) (.slice o4.a o4.len o4.cap) (.slice o5.a o5.len o5.cap) (.slice o6.a o6.len o6.cap) _ _ _ _ _ _ _ _ _ w wb4 (by omega) (by omega) (by have := N1.out; omega) (by have := N2.out; omega) (by have := N3.out; omega) HK4.out).mono ?_
  rintro e15 w15 ⟨rfl, hb15⟩
  go_wp2_with fail
  go_ret
  exact ⟨rfl, hb15⟩
end Go.Proofs.YtalhfciiflcfbaaGreatDoor

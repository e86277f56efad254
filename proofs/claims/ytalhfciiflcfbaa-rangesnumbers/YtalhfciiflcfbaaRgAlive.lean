/-
  What the statements' own word alive answers.
-/
import Derived.Test.YtalhfciiflcfbaaRgAdd
import Derived.Test.YtalhfciiflcfbaaRgVec
import Derived.Test.YtalhfciiflcfbaaRgSame
namespace Go.Proofs.Ytalhfciiflcfbaa
open Go Go.RowKit Go.Shelf

theorem lit1 {W : World} {g x y : Nat} {t : TypeId} (r : Row W g t #[.int .u64 (x : Int), .int .u64 (y : Int)]) (hx : x < 18446744073709551616) (hy : y < 18446744073709551616) : RL.Ok W ⟨some ⟨g, 0, none⟩, 1, 1, g, 0, [(x, y)]⟩ := by
  refine ⟨rfl, Nat.le_refl _, (fun e => by cases e), fun _ => rfl, fun _ => r.lt, fun j hj => ?_, fun j => ?_⟩
  · obtain rfl : j = 0 := by simp only at hj; omega
    exact ⟨r.cell 0, r.cell 1⟩
  · match j with
    | 0 => exact ⟨hx, hy⟩
    | j + 1 => simp [gr]
theorem lit2 {W : World} {g x y u v : Nat} {t : TypeId} (r : Row W g t #[.int .u64 (x : Int), .int .u64 (y : Int), .int .u64 (u : Int), .int .u64 (v : Int)]) (hx : x < 18446744073709551616) (hy : y < 18446744073709551616) (hu : u < 18446744073709551616) (hv : v < 18446744073709551616) : RL.Ok W ⟨some ⟨g, 0, none⟩, 2, 2, g, 0, [(x, y), (u, v)]⟩ := by
  refine ⟨rfl, Nat.le_refl _, (fun e => by cases e), fun _ => rfl, fun _ => r.lt, fun j hj => ?_, fun j => ?_⟩
  · simp only at hj
    match j, hj with
    | 0, _ => exact ⟨r.cell 0, r.cell 1⟩
    | 1, _ => exact ⟨r.cell 2, r.cell 3⟩
    | j + 2, h => omega
  · match j with
    | 0 => exact ⟨hx, hy⟩
    | 1 => exact ⟨hu, hv⟩
    | j + 2 => simp [gr]
theorem nil_rl (W : World) : RL.Ok W ⟨none, 0, 0, 0, 0, []⟩ := (ans_nil 0 W).ok

set_option maxRecDepth 20000 in
set_option maxHeartbeats 400000 in
theorem rgl_any (x y : Int) (w : World) : Calls Try.prog 14 #[.int .u64 x, .int .u64 y] w fun e w' => e = .returned (.agg #[.int .u64 x, .int .u64 y]) ∧ Below w.heap.size w w' := by
  have r0 : Row (w.alloc (.cells #[.int .u64 x, .int .u64 y] 25)) w.heap.size 25 #[.int .u64 x, .int .u64 y] := Row.new _ _ _
  have HB := veil (show Below w.heap.size w (w.alloc (.cells #[.int .u64 x, .int .u64 y] 25)) from (Below.refl _ w).alloc (Nat.le_refl _) _)
  go_enter Try.func14, Try.ntmps14
  go_wp2
  exact bodyPost_ret (results_cell_row rfl _ _ w.heap.size _ _ (0, 0) _ rfl r0 Try.underlying25 rfl (by kernel_rfl)) rfl ⟨rfl, HB.out⟩

set_option maxRecDepth 100000 in
set_option maxHeartbeats 4000000 in
theorem alive_any (w : World) : Calls Try.prog 7 #[] w fun e w' => e = .returned (.bool true) ∧ Below w.heap.size w w' := by
  have HB0 := veil (Below.refl w.heap.size w)
  go_enter Try.func7, Try.ntmps7
  go_wp2_with fail
  refine (rgl_any 1 3 _).mono ?_
  rintro e1 w1 ⟨rfl, hb1⟩
  have HB1 := veil (HB0.out.trans (hb1.mono HB0.out.size))
  clear hb1 HB0
  go_wp2_with fail
  refine (rgl_any 7 9 _).mono ?_
  rintro e2 w2 ⟨rfl, hb2⟩
  have HB2 := veil (HB1.out.trans (hb2.mono HB1.out.size))
  clear hb2 HB1
  go_wp2_with fail
  have L1 : Hid (RL.Ok (w2.alloc (.cells #[.int .u64 1, .int .u64 3, .int .u64 7, .int .u64 9] 25)) ⟨some ⟨w2.heap.size, 0, none⟩, 2, 2, w2.heap.size, 0, [(1, 3), (7, 9)]⟩) := lit2 (Row.new _ _ _) (by decide) (by decide) (by decide) (by decide)
  have HB2a := veil (HB2.out.alloc HB2.out.size (.cells #[.int .u64 1, .int .u64 3, .int .u64 7, .int .u64 9] 25))
  clear HB2
  have HB2 := HB2a
  clear HB2a
  generalize w2.heap.size = g1 at *
  generalize (w2.alloc (.cells #[.int .u64 1, .int .u64 3, .int .u64 7, .int .u64 9] 25)) = v1 at *
  refine (rgl_any 4 6 _).mono ?_
  rintro e3 w3 ⟨rfl, hb3⟩
  have HB3 := veil (HB2.out.trans (hb3.mono HB2.out.size))
  have L1q := veil (L1.out.below hb3)
  clear L1
  have L1 := L1q
  clear L1q
  clear hb3 HB2
  go_wp2_with fail
  refine (rg_add ⟨some ⟨g1, 0, none⟩, 2, 2, g1, 0, [(1, 3), (7, 9)]⟩ 4 6 _ L1.out (by decide) (by decide)).mono ?_
  rintro e4 w4 ⟨o4, E4, rfl, hc4, ha4, hb4⟩
  obtain ⟨hv4, rfl⟩ := Rg.vec_add hc4
  have VA := veil hv4
  have OA := veil ha4.ok
  clear hv4
  have HB4 := veil (HB3.out.trans (hb4.mono HB3.out.size))
  have L1q := veil (L1.out.below hb4)
  clear L1
  have L1 := L1q
  clear L1q
  clear hb4 HB3 hc4 ha4
  clear L1
  go_wp2_with fail
  refine (rgl_any 1 9 _).mono ?_
  rintro e5 w5 ⟨rfl, hb5⟩
  have HB5 := veil (HB4.out.trans (hb5.mono HB4.out.size))
  have OAq := veil (OA.out.below hb5)
  clear OA
  have OA := OAq
  clear OAq
  clear hb5 HB4
  go_wp2_with fail
  have L2 : Hid (RL.Ok (w5.alloc (.cells #[.int .u64 1, .int .u64 9] 25)) ⟨some ⟨w5.heap.size, 0, none⟩, 1, 1, w5.heap.size, 0, [(1, 9)]⟩) := lit1 (Row.new _ _ _) (by decide) (by decide)
  have HB5a := veil (HB5.out.alloc HB5.out.size (.cells #[.int .u64 1, .int .u64 9] 25))
  have OAq := veil (OA.out.below ((Below.refl _ w5).alloc (Nat.le_refl _) (.cells #[.int .u64 1, .int .u64 9] 25)))
  clear OA
  have OA := OAq
  clear OAq
  clear HB5
  have HB5 := HB5a
  clear HB5a
  generalize w5.heap.size = g2 at *
  generalize (w5.alloc (.cells #[.int .u64 1, .int .u64 9] 25)) = v2 at *
  refine (rgl_any 4 6 _).mono ?_
  rintro e6 w6 ⟨rfl, hb6⟩
  have HB6 := veil (HB5.out.trans (hb6.mono HB5.out.size))
  have OAq := veil (OA.out.below hb6)
  clear OA
  have OA := OAq
  clear OAq
  have L2q := veil (L2.out.below hb6)
  clear L2
  have L2 := L2q
  clear L2q
  clear hb6 HB5
  go_wp2_with fail
  refine (rg_cut ⟨some ⟨g2, 0, none⟩, 1, 1, g2, 0, [(1, 9)]⟩ 4 6 _ L2.out (by decide) (by decide)).mono ?_
  rintro e7 w7 ⟨o7, E7, rfl, hc7, ha7, hb7⟩
  obtain ⟨hv7, rfl⟩ := Rg.vec_cut hc7
  have VB := veil hv7
  have OB := veil ha7.ok
  clear hv7
  have HB7 := veil (HB6.out.trans (hb7.mono HB6.out.size))
  have OAq := veil (OA.out.below hb7)
  clear OA
  have OA := OAq
  clear OAq
  have L2q := veil (L2.out.below hb7)
  clear L2
  have L2 := L2q
  clear L2q
  clear hb7 HB6 hc7 ha7
  clear L2
  go_wp2_with fail
  refine (rgl_any 1 5 _).mono ?_
  rintro e8 w8 ⟨rfl, hb8⟩
  have HB8 := veil (HB7.out.trans (hb8.mono HB7.out.size))
  have OAq := veil (OA.out.below hb8)
  clear OA
  have OA := OAq
  clear OAq
  have OBq := veil (OB.out.below hb8)
  clear OB
  have OB := OBq
  clear OBq
  clear hb8 HB7
  go_wp2_with fail
  refine (rgl_any 8 9 _).mono ?_
  rintro e9 w9 ⟨rfl, hb9⟩
  have HB9 := veil (HB8.out.trans (hb9.mono HB8.out.size))
  have OAq := veil (OA.out.below hb9)
  clear OA
  have OA := OAq
  clear OAq
  have OBq := veil (OB.out.below hb9)
  clear OB
  have OB := OBq
  clear OBq
  clear hb9 HB8
  go_wp2_with fail
  have L3 : Hid (RL.Ok (w9.alloc (.cells #[.int .u64 1, .int .u64 5, .int .u64 8, .int .u64 9] 25)) ⟨some ⟨w9.heap.size, 0, none⟩, 2, 2, w9.heap.size, 0, [(1, 5), (8, 9)]⟩) := lit2 (Row.new _ _ _) (by decide) (by decide) (by decide) (by decide)
  have HB9a := veil (HB9.out.alloc HB9.out.size (.cells #[.int .u64 1, .int .u64 5, .int .u64 8, .int .u64 9] 25))
  have OAq := veil (OA.out.below ((Below.refl _ w9).alloc (Nat.le_refl _) (.cells #[.int .u64 1, .int .u64 5, .int .u64 8, .int .u64 9] 25)))
  clear OA
  have OA := OAq
  clear OAq
  have OBq := veil (OB.out.below ((Below.refl _ w9).alloc (Nat.le_refl _) (.cells #[.int .u64 1, .int .u64 5, .int .u64 8, .int .u64 9] 25)))
  clear OB
  have OB := OBq
  clear OBq
  clear HB9
  have HB9 := HB9a
  clear HB9a
  generalize w9.heap.size = g3 at *
  generalize (w9.alloc (.cells #[.int .u64 1, .int .u64 5, .int .u64 8, .int .u64 9] 25)) = v3 at *
  refine (rgl_any 4 8 _).mono ?_
  rintro e10 w10 ⟨rfl, hb10⟩
  have HB10 := veil (HB9.out.trans (hb10.mono HB9.out.size))
  have OAq := veil (OA.out.below hb10)
  clear OA
  have OA := OAq
  clear OAq
  have OBq := veil (OB.out.below hb10)
  clear OB
  have OB := OBq
  clear OBq
  have L3q := veil (L3.out.below hb10)
  clear L3
  have L3 := L3q
  clear L3q
  clear hb10 HB9
  go_wp2_with fail
  have L4 : Hid (RL.Ok (w10.alloc (.cells #[.int .u64 4, .int .u64 8] 25)) ⟨some ⟨w10.heap.size, 0, none⟩, 1, 1, w10.heap.size, 0, [(4, 8)]⟩) := lit1 (Row.new _ _ _) (by decide) (by decide)
  have HB10a := veil (HB10.out.alloc HB10.out.size (.cells #[.int .u64 4, .int .u64 8] 25))
  have OAq := veil (OA.out.below ((Below.refl _ w10).alloc (Nat.le_refl _) (.cells #[.int .u64 4, .int .u64 8] 25)))
  clear OA
  have OA := OAq
  clear OAq
  have OBq := veil (OB.out.below ((Below.refl _ w10).alloc (Nat.le_refl _) (.cells #[.int .u64 4, .int .u64 8] 25)))
  clear OB
  have OB := OBq
  clear OBq
  have L3q := veil (L3.out.below ((Below.refl _ w10).alloc (Nat.le_refl _) (.cells #[.int .u64 4, .int .u64 8] 25)))
  clear L3
  have L3 := L3q
  clear L3q
  clear HB10
  have HB10 := HB10a
  clear HB10a
  generalize w10.heap.size = g4 at *
  generalize (w10.alloc (.cells #[.int .u64 4, .int .u64 8] 25)) = v4 at *
  refine (rg_meet ⟨some ⟨g3, 0, none⟩, 2, 2, g3, 0, [(1, 5), (8, 9)]⟩ ⟨some ⟨g4, 0, none⟩, 1, 1, g4, 0, [(4, 8)]⟩ _ L3.out L4.out).mono ?_
  rintro e11 w11 ⟨o11, E11, rfl, hc11, ha11, hb11⟩
  obtain ⟨hv11, rfl⟩ := Rg.vec_meet hc11
  have VC := veil hv11
  have OC := veil ha11.ok
  clear hv11
  have HB11 := veil (HB10.out.trans (hb11.mono HB10.out.size))
  have OAq := veil (OA.out.below hb11)
  clear OA
  have OA := OAq
  clear OAq
  have OBq := veil (OB.out.below hb11)
  clear OB
  have OB := OBq
  clear OBq
  have L3q := veil (L3.out.below hb11)
  clear L3
  have L3 := L3q
  clear L3q
  have L4q := veil (L4.out.below hb11)
  clear L4
  have L4 := L4q
  clear L4q
  clear hb11 HB10 hc11 ha11
  clear L3 L4
  go_wp2_with fail
  refine (rgl_any 2 1 _).mono ?_
  rintro e12 w12 ⟨rfl, hb12⟩
  have HB12 := veil (HB11.out.trans (hb12.mono HB11.out.size))
  have OAq := veil (OA.out.below hb12)
  clear OA
  have OA := OAq
  clear OAq
  have OBq := veil (OB.out.below hb12)
  clear OB
  have OB := OBq
  clear OBq
  have OCq := veil (OC.out.below hb12)
  clear OC
  have OC := OCq
  clear OCq
  clear hb12 HB11
  go_wp2_with fail
  refine (rg_add ⟨none, 0, 0, 0, 0, []⟩ 2 1 _ (nil_rl _) (by decide) (by decide)).mono ?_
  rintro e13 w13 ⟨o13, E13, rfl, hc13, ha13, hb13⟩
  obtain rfl := Rg.vec_no hc13
  have HB13 := veil (HB12.out.trans (hb13.mono HB12.out.size))
  have OAq := veil (OA.out.below hb13)
  clear OA
  have OA := OAq
  clear OAq
  have OBq := veil (OB.out.below hb13)
  clear OB
  have OB := OBq
  clear OBq
  have OCq := veil (OC.out.below hb13)
  clear OC
  have OC := OCq
  clear OCq
  clear hb13 HB12 hc13 ha13
  go_wp2_with fail
  refine (rgl_any 1 9 _).mono ?_
  rintro e14 w14 ⟨rfl, hb14⟩
  have HB14 := veil (HB13.out.trans (hb14.mono HB13.out.size))
  have OAq := veil (OA.out.below hb14)
  clear OA
  have OA := OAq
  clear OAq
  have OBq := veil (OB.out.below hb14)
  clear OB
  have OB := OBq
  clear OBq
  have OCq := veil (OC.out.below hb14)
  clear OC
  have OC := OCq
  clear OCq
  clear hb14 HB13
  go_wp2_with fail
  have L5 : Hid (RL.Ok (w14.alloc (.cells #[.int .u64 1, .int .u64 9] 25)) ⟨some ⟨w14.heap.size, 0, none⟩, 1, 1, w14.heap.size, 0, [(1, 9)]⟩) := lit1 (Row.new _ _ _) (by decide) (by decide)
  have HB14a := veil (HB14.out.alloc HB14.out.size (.cells #[.int .u64 1, .int .u64 9] 25))
  have OAq := veil (OA.out.below ((Below.refl _ w14).alloc (Nat.le_refl _) (.cells #[.int .u64 1, .int .u64 9] 25)))
  clear OA
  have OA := OAq
  clear OAq
  have OBq := veil (OB.out.below ((Below.refl _ w14).alloc (Nat.le_refl _) (.cells #[.int .u64 1, .int .u64 9] 25)))
  clear OB
  have OB := OBq
  clear OBq
  have OCq := veil (OC.out.below ((Below.refl _ w14).alloc (Nat.le_refl _) (.cells #[.int .u64 1, .int .u64 9] 25)))
  clear OC
  have OC := OCq
  clear OCq
  clear HB14
  have HB14 := HB14a
  clear HB14a
  generalize w14.heap.size = g5 at *
  generalize (w14.alloc (.cells #[.int .u64 1, .int .u64 9] 25)) = v5 at *
  refine (same_rl o4 ⟨some ⟨g5, 0, none⟩, 1, 1, g5, 0, [(1, 9)]⟩ v5 OA.out L5.out VA.out (by rw [← OA.out.hb, VA.out]; decide)).mono ?_
  rintro e15 w15 ⟨rfl, hb15⟩
  have HB15 := veil (HB14.out.trans (hb15.mono HB14.out.size))
  have OAq := veil (OA.out.below hb15)
  clear OA
  have OA := OAq
  clear OAq
  have OBq := veil (OB.out.below hb15)
  clear OB
  have OB := OBq
  clear OBq
  have OCq := veil (OC.out.below hb15)
  clear OC
  have OC := OCq
  clear OCq
  have L5q := veil (L5.out.below hb15)
  clear L5
  have L5 := L5q
  clear L5q
  clear hb15 HB14
  clear L5 OA
  go_wp2_with fail
  refine (rgl_any 1 3 _).mono ?_
  rintro e16 w16 ⟨rfl, hb16⟩
  have HB16 := veil (HB15.out.trans (hb16.mono HB15.out.size))
  have OBq := veil (OB.out.below hb16)
  clear OB
  have OB := OBq
  clear OBq
  have OCq := veil (OC.out.below hb16)
  clear OC
  have OC := OCq
  clear OCq
  clear hb16 HB15
  go_wp2_with fail
  refine (rgl_any 7 9 _).mono ?_
  rintro e17 w17 ⟨rfl, hb17⟩
  have HB17 := veil (HB16.out.trans (hb17.mono HB16.out.size))
  have OBq := veil (OB.out.below hb17)
  clear OB
  have OB := OBq
  clear OBq
  have OCq := veil (OC.out.below hb17)
  clear OC
  have OC := OCq
  clear OCq
  clear hb17 HB16
  go_wp2_with fail
  have L6 : Hid (RL.Ok (w17.alloc (.cells #[.int .u64 1, .int .u64 3, .int .u64 7, .int .u64 9] 25)) ⟨some ⟨w17.heap.size, 0, none⟩, 2, 2, w17.heap.size, 0, [(1, 3), (7, 9)]⟩) := lit2 (Row.new _ _ _) (by decide) (by decide) (by decide) (by decide)
  have HB17a := veil (HB17.out.alloc HB17.out.size (.cells #[.int .u64 1, .int .u64 3, .int .u64 7, .int .u64 9] 25))
  have OBq := veil (OB.out.below ((Below.refl _ w17).alloc (Nat.le_refl _) (.cells #[.int .u64 1, .int .u64 3, .int .u64 7, .int .u64 9] 25)))
  clear OB
  have OB := OBq
  clear OBq
  have OCq := veil (OC.out.below ((Below.refl _ w17).alloc (Nat.le_refl _) (.cells #[.int .u64 1, .int .u64 3, .int .u64 7, .int .u64 9] 25)))
  clear OC
  have OC := OCq
  clear OCq
  clear HB17
  have HB17 := HB17a
  clear HB17a
  generalize w17.heap.size = g6 at *
  generalize (w17.alloc (.cells #[.int .u64 1, .int .u64 3, .int .u64 7, .int .u64 9] 25)) = v6 at *
  refine (same_rl o7 ⟨some ⟨g6, 0, none⟩, 2, 2, g6, 0, [(1, 3), (7, 9)]⟩ v6 OB.out L6.out VB.out (by rw [← OB.out.hb, VB.out]; decide)).mono ?_
  rintro e18 w18 ⟨rfl, hb18⟩
  have HB18 := veil (HB17.out.trans (hb18.mono HB17.out.size))
  have OBq := veil (OB.out.below hb18)
  clear OB
  have OB := OBq
  clear OBq
  have OCq := veil (OC.out.below hb18)
  clear OC
  have OC := OCq
  clear OCq
  have L6q := veil (L6.out.below hb18)
  clear L6
  have L6 := L6q
  clear L6q
  clear hb18 HB17
  clear L6
  go_wp2_with fail
  refine (rgl_any 4 5 _).mono ?_
  rintro e19 w19 ⟨rfl, hb19⟩
  have HB19 := veil (HB18.out.trans (hb19.mono HB18.out.size))
  have OBq := veil (OB.out.below hb19)
  clear OB
  have OB := OBq
  clear OBq
  have OCq := veil (OC.out.below hb19)
  clear OC
  have OC := OCq
  clear OCq
  clear hb19 HB18
  go_wp2_with fail
  refine (rgl_any 8 8 _).mono ?_
  rintro e20 w20 ⟨rfl, hb20⟩
  have HB20 := veil (HB19.out.trans (hb20.mono HB19.out.size))
  have OBq := veil (OB.out.below hb20)
  clear OB
  have OB := OBq
  clear OBq
  have OCq := veil (OC.out.below hb20)
  clear OC
  have OC := OCq
  clear OCq
  clear hb20 HB19
  go_wp2_with fail
  have L7 : Hid (RL.Ok (w20.alloc (.cells #[.int .u64 4, .int .u64 5, .int .u64 8, .int .u64 8] 25)) ⟨some ⟨w20.heap.size, 0, none⟩, 2, 2, w20.heap.size, 0, [(4, 5), (8, 8)]⟩) := lit2 (Row.new _ _ _) (by decide) (by decide) (by decide) (by decide)
  have HB20a := veil (HB20.out.alloc HB20.out.size (.cells #[.int .u64 4, .int .u64 5, .int .u64 8, .int .u64 8] 25))
  have OBq := veil (OB.out.below ((Below.refl _ w20).alloc (Nat.le_refl _) (.cells #[.int .u64 4, .int .u64 5, .int .u64 8, .int .u64 8] 25)))
  clear OB
  have OB := OBq
  clear OBq
  have OCq := veil (OC.out.below ((Below.refl _ w20).alloc (Nat.le_refl _) (.cells #[.int .u64 4, .int .u64 5, .int .u64 8, .int .u64 8] 25)))
  clear OC
  have OC := OCq
  clear OCq
  clear HB20
  have HB20 := HB20a
  clear HB20a
  generalize w20.heap.size = g7 at *
  generalize (w20.alloc (.cells #[.int .u64 4, .int .u64 5, .int .u64 8, .int .u64 8] 25)) = v7 at *
  refine (same_rl o11 ⟨some ⟨g7, 0, none⟩, 2, 2, g7, 0, [(4, 5), (8, 8)]⟩ v7 OC.out L7.out VC.out (by rw [← OC.out.hb, VC.out]; decide)).mono ?_
  rintro e21 w21 ⟨rfl, hb21⟩
  have HB21 := veil (HB20.out.trans (hb21.mono HB20.out.size))
  have OBq := veil (OB.out.below hb21)
  clear OB
  have OB := OBq
  clear OBq
  have OCq := veil (OC.out.below hb21)
  clear OC
  have OC := OCq
  clear OCq
  have L7q := veil (L7.out.below hb21)
  clear L7
  have L7 := L7q
  clear L7q
  clear hb21 HB20
  clear L7 OC
  go_wp2_with fail
  refine (rg_check o7 w21 OB.out).mono ?_
  rintro e22 w22 ⟨hc22, hb22⟩
  have HB22 := veil (HB21.out.trans (hb22.mono HB21.out.size))
  obtain rfl : e22 = .returned (.bool true) := by
    rcases hc22 with ⟨h, _⟩ | ⟨_, h⟩
    · exact h
    · exact absurd (by rw [VB.out]; exact Rg.vec_set) h
  clear hb22 HB21 hc22
  go_wp2_with fail
  refine (rgl_any 1 3 _).mono ?_
  rintro e23 w23 ⟨rfl, hb23⟩
  have HB23 := veil (HB22.out.trans (hb23.mono HB22.out.size))
  clear hb23 HB22
  go_wp2_with fail
  refine (rgl_any 4 5 _).mono ?_
  rintro e24 w24 ⟨rfl, hb24⟩
  have HB24 := veil (HB23.out.trans (hb24.mono HB23.out.size))
  clear hb24 HB23
  go_wp2_with fail
  have L8 : Hid (RL.Ok (w24.alloc (.cells #[.int .u64 1, .int .u64 3, .int .u64 4, .int .u64 5] 25)) ⟨some ⟨w24.heap.size, 0, none⟩, 2, 2, w24.heap.size, 0, [(1, 3), (4, 5)]⟩) := lit2 (Row.new _ _ _) (by decide) (by decide) (by decide) (by decide)
  have HB24a := veil (HB24.out.alloc HB24.out.size (.cells #[.int .u64 1, .int .u64 3, .int .u64 4, .int .u64 5] 25))
  clear HB24
  have HB24 := HB24a
  clear HB24a
  generalize w24.heap.size = g8 at *
  generalize (w24.alloc (.cells #[.int .u64 1, .int .u64 3, .int .u64 4, .int .u64 5] 25)) = v8 at *
  refine (rg_check ⟨some ⟨g8, 0, none⟩, 2, 2, g8, 0, [(1, 3), (4, 5)]⟩ v8 L8.out).mono ?_
  rintro e25 w25 ⟨hc25, hb25⟩
  have HB25 := veil (HB24.out.trans (hb25.mono HB24.out.size))
  obtain rfl : e25 = .returned (.bool false) := by
    rcases hc25 with ⟨_, h⟩ | ⟨h, _⟩
    · exact absurd h Rg.vec_none
    · exact h
  clear hb25 HB24 hc25
  go_wp2
  go_ret
  exact ⟨rfl, HB25.out⟩
end Go.Proofs.Ytalhfciiflcfbaa

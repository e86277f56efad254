/-
  FlowCredits: the walk. Written by mkflc.py.
-/
import Derived.Test.YtepkajaallcnmaaFlTool
namespace Go.Proofs.Ytepkajaallcnmaa
open Go Go.RowKit

set_option maxRecDepth 20000 in
set_option maxHeartbeats 4000000 in
theorem credits_walk (l u n m : Nat) (w : World) (_hl : l < 18446744073709551616) (_hu : u < 18446744073709551616) (hn : n < 18446744073709551616) (hm : m < 18446744073709551616) :
    Calls Try.prog 3 #[.agg (crd (l, u)), .int .u64 (n : Int), .int .u64 (m : Int)] w fun e w' => e = .returned (.bool true) ∧ Below w.heap.size w w' := by
  obtain ⟨⟨A0, A1⟩, hA⟩ : ∃ x, spendO l u n = x := ⟨_, rfl⟩
  obtain ⟨⟨B0, B1⟩, hB⟩ : ∃ x, raiseO l u n = x := ⟨_, rfl⟩
  obtain ⟨⟨D0, D1⟩, hD⟩ : ∃ x, cameO l u n = x := ⟨_, rfl⟩
  obtain ⟨EA, hEA⟩ : ∃ x, spendE l u n = x := ⟨_, rfl⟩
  obtain ⟨EB, hEB⟩ : ∃ x, raiseE l u n = x := ⟨_, rfl⟩
  obtain ⟨ED, hED⟩ : ∃ x, cameE l u n = x := ⟨_, rfl⟩
  obtain ⟨O, hO⟩ : ∃ x, offerO l u n m = x := ⟨_, rfl⟩
  obtain ⟨OB, hOB⟩ : ∃ x, offerB l u n m = x := ⟨_, rfl⟩
  obtain ⟨L, hL⟩ : ∃ x, leftC l u = x := ⟨_, rfl⟩
  have S1 : Hid (∀ w, Calls Try.prog 8 #[.agg #[.int .u64 (l : Int), .int .u64 (u : Int)], .int .u64 (n : Int)] w fun e w' => e = .returned (.tuple #[.agg #[.int .u64 (A0 : Int), .int .u64 (A1 : Int)], .int .i64 EA]) ∧ Below w.heap.size w w') := fun w => by
    have h := spend_any l u n w hn
    rw [hA, hEA] at h
    exact h
  have S2 : Hid (∀ w, Calls Try.prog 12 #[.agg #[.int .u64 (l : Int), .int .u64 (u : Int)], .int .u64 (n : Int)] w fun e w' => e = .returned (.tuple #[.agg #[.int .u64 (A0 : Int), .int .u64 (A1 : Int)], .int .i64 EA]) ∧ Below w.heap.size w w') := fun w => by
    have h := refSpend_any l u n w hn
    rw [hA, hEA] at h
    exact h
  have R1 : Hid (∀ w, Calls Try.prog 9 #[.agg #[.int .u64 (l : Int), .int .u64 (u : Int)], .int .u64 (n : Int)] w fun e w' => e = .returned (.tuple #[.agg #[.int .u64 (B0 : Int), .int .u64 (B1 : Int)], .int .i64 EB]) ∧ Below w.heap.size w w') := fun w => by
    have h := raise_any l u n w hn
    rw [hB, hEB] at h
    exact h
  have R2 : Hid (∀ w, Calls Try.prog 14 #[.agg #[.int .u64 (l : Int), .int .u64 (u : Int)], .int .u64 (n : Int)] w fun e w' => e = .returned (.tuple #[.agg #[.int .u64 (B0 : Int), .int .u64 (B1 : Int)], .int .i64 EB]) ∧ Below w.heap.size w w') := fun w => by
    have h := refRaise_any l u n w hn
    rw [hB, hEB] at h
    exact h
  have C1 : Hid (∀ w, Calls Try.prog 10 #[.agg #[.int .u64 (l : Int), .int .u64 (u : Int)], .int .u64 (n : Int)] w fun e w' => e = .returned (.tuple #[.agg #[.int .u64 (D0 : Int), .int .u64 (D1 : Int)], .int .i64 ED]) ∧ Below w.heap.size w w') := fun w => by
    have h := came_any l u n w hn
    rw [hD, hED] at h
    exact h
  have C2 : Hid (∀ w, Calls Try.prog 15 #[.agg #[.int .u64 (l : Int), .int .u64 (u : Int)], .int .u64 (n : Int)] w fun e w' => e = .returned (.tuple #[.agg #[.int .u64 (D0 : Int), .int .u64 (D1 : Int)], .int .i64 ED]) ∧ Below w.heap.size w w') := fun w => by
    have h := refCame_any l u n w hn
    rw [hD, hED] at h
    exact h
  have O1 : Hid (∀ w, Calls Try.prog 11 #[.agg #[.int .u64 (l : Int), .int .u64 (u : Int)], .int .u64 (n : Int), .int .u64 (m : Int)] w fun e w' => e = .returned (.tuple #[.int .u64 (O : Int), .bool OB]) ∧ Below w.heap.size w w') := fun w => by
    have h := offer_any l u n m w hn hm
    rw [hO, hOB] at h
    exact h
  have O2 : Hid (∀ w, Calls Try.prog 16 #[.agg #[.int .u64 (l : Int), .int .u64 (u : Int)], .int .u64 (n : Int), .int .u64 (m : Int)] w fun e w' => e = .returned (.tuple #[.int .u64 (O : Int), .bool OB]) ∧ Below w.heap.size w w') := fun w => by
    have h := refOffer_any l u n m w hn hm
    rw [hO, hOB] at h
    exact h
  have L1 : Hid (∀ w, Calls Try.prog 17 #[.agg #[.int .u64 (l : Int), .int .u64 (u : Int)]] w fun e w' => e = .returned (.int .u64 (L : Int)) ∧ Below w.heap.size w w') := fun w => by
    have h := left_any l u w
    rw [hL] at h
    exact h
  have L2 : Hid (∀ w, Calls Try.prog 18 #[.agg #[.int .u64 (l : Int), .int .u64 (u : Int)]] w fun e w' => e = .returned (.int .u64 (L : Int)) ∧ Below w.heap.size w w') := fun w => by
    have h := refLeft_any l u w
    rw [hL] at h
    exact h
  clear hA hB hD hEA hEB hED hO hOB hL hn hm
  have rc : Row (w.alloc (.cells (crd (l, u)) 24)) w.heap.size 24 #[.int .u64 (l : Int), .int .u64 (u : Int)] := Row.new _ _ _
  have bc : Below w.heap.size w (w.alloc (.cells (crd (l, u)) 24)) := (Below.refl _ w).alloc (Nat.le_refl _) _
  have c0 : (w.alloc (.cells (crd (l, u)) 24)).cell? ⟨w.heap.size, 0, none⟩ = some (.int .u64 (l : Int)) := rc.cell 0
  have c1 : (w.alloc (.cells (crd (l, u)) 24)).cell? ⟨w.heap.size, 1, none⟩ = some (.int .u64 (u : Int)) := rc.cell 1
  have HC0 := veil rc
  have E0 := veil bc
  clear rc bc
  go_enter Try.func3, Try.ntmps3
  go_wp2_with fail
  generalize w.alloc (.cells (crd (l, u)) 24) = v0 at *
  obtain ⟨g, hg⟩ : ∃ g, w.heap.size = g := ⟨_, rfl⟩
  have HG := veil hg
  rw [hg] at HC0 c0 c1
  rw [hg]
  clear hg
  refine (S1.out v0).mono ?_
  rintro e1 w1 ⟨rfl, hb1⟩
  have HC1 := veil ((HC0.out.below hb1 HC0.out.lt).alloc (.cells #[.int .u64 (A0 : Int), .int .u64 (A1 : Int)] 24))
  have HA1 := veil (Row.new w1 24 #[.int .u64 (A0 : Int), .int .u64 (A1 : Int)])
  have e1 := E0.out.trans (hb1.mono E0.out.size)
  have E1 := veil (e1.alloc e1.size (.cells #[.int .u64 (A0 : Int), .int .u64 (A1 : Int)] 24))
  clear e1
  clear hb1 c0 c1 HC0 E0
  have c0 : (w1.alloc (.cells #[.int .u64 (A0 : Int), .int .u64 (A1 : Int)] 24)).cell? ⟨g, 0, none⟩ = some (.int .u64 (l : Int)) := HC1.out.cell 0
  have c1 : (w1.alloc (.cells #[.int .u64 (A0 : Int), .int .u64 (A1 : Int)] 24)).cell? ⟨g, 1, none⟩ = some (.int .u64 (u : Int)) := HC1.out.cell 1
  go_wp2_with fail
  generalize (w1.alloc (.cells #[.int .u64 (A0 : Int), .int .u64 (A1 : Int)] 24)) = v1 at *
  generalize w1.heap.size = gA at *
  refine (R1.out v1).mono ?_
  rintro e2 w2 ⟨rfl, hb2⟩
  have HC2 := veil ((HC1.out.below hb2 HC1.out.lt).alloc (.cells #[.int .u64 (B0 : Int), .int .u64 (B1 : Int)] 24))
  have HA2 := veil ((HA1.out.below hb2 HA1.out.lt).alloc (.cells #[.int .u64 (B0 : Int), .int .u64 (B1 : Int)] 24))
  have HB2 := veil (Row.new w2 24 #[.int .u64 (B0 : Int), .int .u64 (B1 : Int)])
  have e2 := E1.out.trans (hb2.mono E1.out.size)
  have E2 := veil (e2.alloc e2.size (.cells #[.int .u64 (B0 : Int), .int .u64 (B1 : Int)] 24))
  clear e2
  clear hb2 c0 c1 HC1 HA1 E1
  have c0 : (w2.alloc (.cells #[.int .u64 (B0 : Int), .int .u64 (B1 : Int)] 24)).cell? ⟨g, 0, none⟩ = some (.int .u64 (l : Int)) := HC2.out.cell 0
  have c1 : (w2.alloc (.cells #[.int .u64 (B0 : Int), .int .u64 (B1 : Int)] 24)).cell? ⟨g, 1, none⟩ = some (.int .u64 (u : Int)) := HC2.out.cell 1
  go_wp2_with fail
  generalize (w2.alloc (.cells #[.int .u64 (B0 : Int), .int .u64 (B1 : Int)] 24)) = v2 at *
  generalize w2.heap.size = gB at *
  refine (C1.out v2).mono ?_
  rintro e3 w3 ⟨rfl, hb3⟩
  have HC3 := veil ((HC2.out.below hb3 HC2.out.lt).alloc (.cells #[.int .u64 (D0 : Int), .int .u64 (D1 : Int)] 24))
  have HA3 := veil ((HA2.out.below hb3 HA2.out.lt).alloc (.cells #[.int .u64 (D0 : Int), .int .u64 (D1 : Int)] 24))
  have HB3 := veil ((HB2.out.below hb3 HB2.out.lt).alloc (.cells #[.int .u64 (D0 : Int), .int .u64 (D1 : Int)] 24))
  have HD3 := veil (Row.new w3 24 #[.int .u64 (D0 : Int), .int .u64 (D1 : Int)])
  have e3 := E2.out.trans (hb3.mono E2.out.size)
  have E3 := veil (e3.alloc e3.size (.cells #[.int .u64 (D0 : Int), .int .u64 (D1 : Int)] 24))
  clear e3
  clear hb3 c0 c1 HC2 HA2 HB2 E2
  have c0 : (w3.alloc (.cells #[.int .u64 (D0 : Int), .int .u64 (D1 : Int)] 24)).cell? ⟨g, 0, none⟩ = some (.int .u64 (l : Int)) := HC3.out.cell 0
  have c1 : (w3.alloc (.cells #[.int .u64 (D0 : Int), .int .u64 (D1 : Int)] 24)).cell? ⟨g, 1, none⟩ = some (.int .u64 (u : Int)) := HC3.out.cell 1
  go_wp2_with fail
  generalize (w3.alloc (.cells #[.int .u64 (D0 : Int), .int .u64 (D1 : Int)] 24)) = v3 at *
  generalize w3.heap.size = gD at *
  refine (O1.out v3).mono ?_
  rintro e4 w4 ⟨rfl, hb4⟩
  have HC4 := veil (HC3.out.below hb4 HC3.out.lt)
  have HA4 := veil (HA3.out.below hb4 HA3.out.lt)
  have HB4 := veil (HB3.out.below hb4 HB3.out.lt)
  have HD4 := veil (HD3.out.below hb4 HD3.out.lt)
  have E4 := veil (E3.out.trans (hb4.mono E3.out.size))
  clear hb4 c0 c1 HC3 HA3 HB3 HD3 E3
  have c0 : w4.cell? ⟨g, 0, none⟩ = some (.int .u64 (l : Int)) := HC4.out.cell 0
  have c1 : w4.cell? ⟨g, 1, none⟩ = some (.int .u64 (u : Int)) := HC4.out.cell 1
  go_wp2_with fail
  refine (of_any l u w4).mono ?_
  rintro e5 w5 ⟨rfl, hb5⟩
  have HC5 := veil (HC4.out.below hb5 HC4.out.lt)
  have HA5 := veil (HA4.out.below hb5 HA4.out.lt)
  have HB5 := veil (HB4.out.below hb5 HB4.out.lt)
  have HD5 := veil (HD4.out.below hb5 HD4.out.lt)
  have E5 := veil (E4.out.trans (hb5.mono E4.out.size))
  clear hb5 c0 c1 HC4 HA4 HB4 HD4 E4
  have c0 : w5.cell? ⟨g, 0, none⟩ = some (.int .u64 (l : Int)) := HC5.out.cell 0
  have c1 : w5.cell? ⟨g, 1, none⟩ = some (.int .u64 (u : Int)) := HC5.out.cell 1
  go_wp2_with fail
  refine (S2.out w5).mono ?_
  rintro e6 w6 ⟨rfl, hb6⟩
  have HC6 := veil ((HC5.out.below hb6 HC5.out.lt).alloc (.cells #[.int .u64 (A0 : Int), .int .u64 (A1 : Int)] 30))
  have HA6 := veil ((HA5.out.below hb6 HA5.out.lt).alloc (.cells #[.int .u64 (A0 : Int), .int .u64 (A1 : Int)] 30))
  have HB6 := veil ((HB5.out.below hb6 HB5.out.lt).alloc (.cells #[.int .u64 (A0 : Int), .int .u64 (A1 : Int)] 30))
  have HD6 := veil ((HD5.out.below hb6 HD5.out.lt).alloc (.cells #[.int .u64 (A0 : Int), .int .u64 (A1 : Int)] 30))
  have HP6 := veil (Row.new w6 30 #[.int .u64 (A0 : Int), .int .u64 (A1 : Int)])
  have e6 := E5.out.trans (hb6.mono E5.out.size)
  have E6 := veil (e6.alloc e6.size (.cells #[.int .u64 (A0 : Int), .int .u64 (A1 : Int)] 30))
  clear e6
  clear hb6 c0 c1 HC5 HA5 HB5 HD5 E5
  have c0 : (w6.alloc (.cells #[.int .u64 (A0 : Int), .int .u64 (A1 : Int)] 30)).cell? ⟨g, 0, none⟩ = some (.int .u64 (l : Int)) := HC6.out.cell 0
  have c1 : (w6.alloc (.cells #[.int .u64 (A0 : Int), .int .u64 (A1 : Int)] 30)).cell? ⟨g, 1, none⟩ = some (.int .u64 (u : Int)) := HC6.out.cell 1
  go_wp2_with fail
  generalize (w6.alloc (.cells #[.int .u64 (A0 : Int), .int .u64 (A1 : Int)] 30)) = v6 at *
  generalize w6.heap.size = gP at *
  refine (of_any l u v6).mono ?_
  rintro e7 w7 ⟨rfl, hb7⟩
  have HC7 := veil (HC6.out.below hb7 HC6.out.lt)
  have HA7 := veil (HA6.out.below hb7 HA6.out.lt)
  have HB7 := veil (HB6.out.below hb7 HB6.out.lt)
  have HD7 := veil (HD6.out.below hb7 HD6.out.lt)
  have HP7 := veil (HP6.out.below hb7 HP6.out.lt)
  have E7 := veil (E6.out.trans (hb7.mono E6.out.size))
  clear hb7 c0 c1 HC6 HA6 HB6 HD6 HP6 E6
  have c0 : w7.cell? ⟨g, 0, none⟩ = some (.int .u64 (l : Int)) := HC7.out.cell 0
  have c1 : w7.cell? ⟨g, 1, none⟩ = some (.int .u64 (u : Int)) := HC7.out.cell 1
  go_wp2_with fail
  refine (R2.out w7).mono ?_
  rintro e8 w8 ⟨rfl, hb8⟩
  have HC8 := veil ((HC7.out.below hb8 HC7.out.lt).alloc (.cells #[.int .u64 (B0 : Int), .int .u64 (B1 : Int)] 30))
  have HA8 := veil ((HA7.out.below hb8 HA7.out.lt).alloc (.cells #[.int .u64 (B0 : Int), .int .u64 (B1 : Int)] 30))
  have HB8 := veil ((HB7.out.below hb8 HB7.out.lt).alloc (.cells #[.int .u64 (B0 : Int), .int .u64 (B1 : Int)] 30))
  have HD8 := veil ((HD7.out.below hb8 HD7.out.lt).alloc (.cells #[.int .u64 (B0 : Int), .int .u64 (B1 : Int)] 30))
  have HP8 := veil ((HP7.out.below hb8 HP7.out.lt).alloc (.cells #[.int .u64 (B0 : Int), .int .u64 (B1 : Int)] 30))
  have HQ8 := veil (Row.new w8 30 #[.int .u64 (B0 : Int), .int .u64 (B1 : Int)])
  have e8 := E7.out.trans (hb8.mono E7.out.size)
  have E8 := veil (e8.alloc e8.size (.cells #[.int .u64 (B0 : Int), .int .u64 (B1 : Int)] 30))
  clear e8
  clear hb8 c0 c1 HC7 HA7 HB7 HD7 HP7 E7
  have c0 : (w8.alloc (.cells #[.int .u64 (B0 : Int), .int .u64 (B1 : Int)] 30)).cell? ⟨g, 0, none⟩ = some (.int .u64 (l : Int)) := HC8.out.cell 0
  have c1 : (w8.alloc (.cells #[.int .u64 (B0 : Int), .int .u64 (B1 : Int)] 30)).cell? ⟨g, 1, none⟩ = some (.int .u64 (u : Int)) := HC8.out.cell 1
  go_wp2_with fail
  generalize (w8.alloc (.cells #[.int .u64 (B0 : Int), .int .u64 (B1 : Int)] 30)) = v8 at *
  generalize w8.heap.size = gQ at *
  refine (of_any l u v8).mono ?_
  rintro e9 w9 ⟨rfl, hb9⟩
  have HC9 := veil (HC8.out.below hb9 HC8.out.lt)
  have HA9 := veil (HA8.out.below hb9 HA8.out.lt)
  have HB9 := veil (HB8.out.below hb9 HB8.out.lt)
  have HD9 := veil (HD8.out.below hb9 HD8.out.lt)
  have HP9 := veil (HP8.out.below hb9 HP8.out.lt)
  have HQ9 := veil (HQ8.out.below hb9 HQ8.out.lt)
  have E9 := veil (E8.out.trans (hb9.mono E8.out.size))
  clear hb9 c0 c1 HC8 HA8 HB8 HD8 HP8 HQ8 E8
  have c0 : w9.cell? ⟨g, 0, none⟩ = some (.int .u64 (l : Int)) := HC9.out.cell 0
  have c1 : w9.cell? ⟨g, 1, none⟩ = some (.int .u64 (u : Int)) := HC9.out.cell 1
  go_wp2_with fail
  refine (C2.out w9).mono ?_
  rintro e10 w10 ⟨rfl, hb10⟩
  have HC10 := veil ((HC9.out.below hb10 HC9.out.lt).alloc (.cells #[.int .u64 (D0 : Int), .int .u64 (D1 : Int)] 30))
  have HA10 := veil ((HA9.out.below hb10 HA9.out.lt).alloc (.cells #[.int .u64 (D0 : Int), .int .u64 (D1 : Int)] 30))
  have HB10 := veil ((HB9.out.below hb10 HB9.out.lt).alloc (.cells #[.int .u64 (D0 : Int), .int .u64 (D1 : Int)] 30))
  have HD10 := veil ((HD9.out.below hb10 HD9.out.lt).alloc (.cells #[.int .u64 (D0 : Int), .int .u64 (D1 : Int)] 30))
  have HP10 := veil ((HP9.out.below hb10 HP9.out.lt).alloc (.cells #[.int .u64 (D0 : Int), .int .u64 (D1 : Int)] 30))
  have HQ10 := veil ((HQ9.out.below hb10 HQ9.out.lt).alloc (.cells #[.int .u64 (D0 : Int), .int .u64 (D1 : Int)] 30))
  have HR10 := veil (Row.new w10 30 #[.int .u64 (D0 : Int), .int .u64 (D1 : Int)])
  have e10 := E9.out.trans (hb10.mono E9.out.size)
  have E10 := veil (e10.alloc e10.size (.cells #[.int .u64 (D0 : Int), .int .u64 (D1 : Int)] 30))
  clear e10
  clear hb10 c0 c1 HC9 HA9 HB9 HD9 HP9 HQ9 E9
  have c0 : (w10.alloc (.cells #[.int .u64 (D0 : Int), .int .u64 (D1 : Int)] 30)).cell? ⟨g, 0, none⟩ = some (.int .u64 (l : Int)) := HC10.out.cell 0
  have c1 : (w10.alloc (.cells #[.int .u64 (D0 : Int), .int .u64 (D1 : Int)] 30)).cell? ⟨g, 1, none⟩ = some (.int .u64 (u : Int)) := HC10.out.cell 1
  go_wp2_with fail
  generalize (w10.alloc (.cells #[.int .u64 (D0 : Int), .int .u64 (D1 : Int)] 30)) = v10 at *
  generalize w10.heap.size = gR at *
  refine (of_any l u v10).mono ?_
  rintro e11 w11 ⟨rfl, hb11⟩
  have HC11 := veil (HC10.out.below hb11 HC10.out.lt)
  have HA11 := veil (HA10.out.below hb11 HA10.out.lt)
  have HB11 := veil (HB10.out.below hb11 HB10.out.lt)
  have HD11 := veil (HD10.out.below hb11 HD10.out.lt)
  have HP11 := veil (HP10.out.below hb11 HP10.out.lt)
  have HQ11 := veil (HQ10.out.below hb11 HQ10.out.lt)
  have HR11 := veil (HR10.out.below hb11 HR10.out.lt)
  have E11 := veil (E10.out.trans (hb11.mono E10.out.size))
  clear hb11 c0 c1 HC10 HA10 HB10 HD10 HP10 HQ10 HR10 E10
  have c0 : w11.cell? ⟨g, 0, none⟩ = some (.int .u64 (l : Int)) := HC11.out.cell 0
  have c1 : w11.cell? ⟨g, 1, none⟩ = some (.int .u64 (u : Int)) := HC11.out.cell 1
  go_wp2_with fail
  refine (O2.out w11).mono ?_
  rintro e12 w12 ⟨rfl, hb12⟩
  have HC12 := veil (HC11.out.below hb12 HC11.out.lt)
  have HA12 := veil (HA11.out.below hb12 HA11.out.lt)
  have HB12 := veil (HB11.out.below hb12 HB11.out.lt)
  have HD12 := veil (HD11.out.below hb12 HD11.out.lt)
  have HP12 := veil (HP11.out.below hb12 HP11.out.lt)
  have HQ12 := veil (HQ11.out.below hb12 HQ11.out.lt)
  have HR12 := veil (HR11.out.below hb12 HR11.out.lt)
  have E12 := veil (E11.out.trans (hb12.mono E11.out.size))
  clear hb12 c0 c1 HC11 HA11 HB11 HD11 HP11 HQ11 HR11 E11
  have c0 : w12.cell? ⟨g, 0, none⟩ = some (.int .u64 (l : Int)) := HC12.out.cell 0
  have c1 : w12.cell? ⟨g, 1, none⟩ = some (.int .u64 (u : Int)) := HC12.out.cell 1
  go_wp2_with fail
  clear c0 c1
  have KC : Hid (∀ W, Below w12.heap.size w12 W → W.cell? ⟨g, 0, none⟩ = some (.int .u64 (l : Int)) ∧ W.cell? ⟨g, 1, none⟩ = some (.int .u64 (u : Int)) ∧ W.cell? ⟨gA, 0, none⟩ = some (.int .u64 (A0 : Int)) ∧ W.cell? ⟨gA, 1, none⟩ = some (.int .u64 (A1 : Int)) ∧ W.cell? ⟨gB, 0, none⟩ = some (.int .u64 (B0 : Int)) ∧ W.cell? ⟨gB, 1, none⟩ = some (.int .u64 (B1 : Int)) ∧ W.cell? ⟨gD, 0, none⟩ = some (.int .u64 (D0 : Int)) ∧ W.cell? ⟨gD, 1, none⟩ = some (.int .u64 (D1 : Int)) ∧ W.cell? ⟨gP, 0, none⟩ = some (.int .u64 (A0 : Int)) ∧ W.cell? ⟨gP, 1, none⟩ = some (.int .u64 (A1 : Int)) ∧ W.cell? ⟨gQ, 0, none⟩ = some (.int .u64 (B0 : Int)) ∧ W.cell? ⟨gQ, 1, none⟩ = some (.int .u64 (B1 : Int)) ∧ W.cell? ⟨gR, 0, none⟩ = some (.int .u64 (D0 : Int)) ∧ W.cell? ⟨gR, 1, none⟩ = some (.int .u64 (D1 : Int))) := fun W hW => ⟨(HC12.out.below hW HC12.out.lt).cell 0, (HC12.out.below hW HC12.out.lt).cell 1, (HA12.out.below hW HA12.out.lt).cell 0, (HA12.out.below hW HA12.out.lt).cell 1, (HB12.out.below hW HB12.out.lt).cell 0, (HB12.out.below hW HB12.out.lt).cell 1, (HD12.out.below hW HD12.out.lt).cell 0, (HD12.out.below hW HD12.out.lt).cell 1, (HP12.out.below hW HP12.out.lt).cell 0, (HP12.out.below hW HP12.out.lt).cell 1, (HQ12.out.below hW HQ12.out.lt).cell 0, (HQ12.out.below hW HQ12.out.lt).cell 1, (HR12.out.below hW HR12.out.lt).cell 0, (HR12.out.below hW HR12.out.lt).cell 1⟩
  obtain ⟨k0, k1, k2, k3, k4, k5, k6, k7, k8, k9, k10, k11, k12, k13⟩ := KC.out w12 (Below.refl _ _)
  go_region_held3 (fun w' => w'.cell? ⟨g, 0, none⟩ = some (.int .u64 (l : Int)) ∧ w'.cell? ⟨g, 1, none⟩ = some (.int .u64 (u : Int)) ∧ w'.cell? ⟨gA, 0, none⟩ = some (.int .u64 (A0 : Int)) ∧ w'.cell? ⟨gA, 1, none⟩ = some (.int .u64 (A1 : Int)) ∧ w'.cell? ⟨gB, 0, none⟩ = some (.int .u64 (B0 : Int)) ∧ w'.cell? ⟨gB, 1, none⟩ = some (.int .u64 (B1 : Int)) ∧ w'.cell? ⟨gD, 0, none⟩ = some (.int .u64 (D0 : Int)) ∧ w'.cell? ⟨gD, 1, none⟩ = some (.int .u64 (D1 : Int)) ∧ w'.cell? ⟨gP, 0, none⟩ = some (.int .u64 (A0 : Int)) ∧ w'.cell? ⟨gP, 1, none⟩ = some (.int .u64 (A1 : Int)) ∧ w'.cell? ⟨gQ, 0, none⟩ = some (.int .u64 (B0 : Int)) ∧ w'.cell? ⟨gQ, 1, none⟩ = some (.int .u64 (B1 : Int)) ∧ w'.cell? ⟨gR, 0, none⟩ = some (.int .u64 (D0 : Int)) ∧ w'.cell? ⟨gR, 1, none⟩ = some (.int .u64 (D1 : Int))) (first | exact KC.out _ d7.out | exact KC.out _ d6.out | exact KC.out _ d5.out | exact KC.out _ d4.out | exact KC.out _ d3.out | exact KC.out _ d2.out | exact KC.out _ d1.out | exact KC.out _ (Below.refl _ _) | go_keep) (first
    | (have hd9 := d6; clear hd9; refine step_callG (by kernel_rfl) 19 #[] (by kernel_rfl) ?_; refine (lives_any _).mono ?_; rintro e9 w9 ⟨rfl, hb9⟩; have d7 := veil (d6.out.trans (hb9.mono d6.out.size)); clear hb9; refine ⟨_, rfl, ?_⟩)
    | (have hd9 := d5; clear hd9; refine step_callG (by kernel_rfl) 18 #[.agg #[.int .u64 (l : Int), .int .u64 (u : Int)]] (by kernel_rfl) ?_; refine (L2.out _).mono ?_; rintro e9 w9 ⟨rfl, hb9⟩; have d6 := veil (d5.out.trans (hb9.mono d5.out.size)); clear hb9; refine ⟨_, rfl, ?_⟩)
    | (have hd9 := d4; clear hd9; refine step_callG (by kernel_rfl) 13 #[.agg #[.int .u64 (l : Int), .int .u64 (u : Int)]] (by kernel_rfl) ?_; refine (of_any l u _).mono ?_; rintro e9 w9 ⟨rfl, hb9⟩; have d5 := veil (d4.out.trans (hb9.mono d4.out.size)); clear hb9; refine ⟨_, rfl, ?_⟩)
    | (have hd9 := d3; clear hd9; refine step_callG (by kernel_rfl) 17 #[.agg #[.int .u64 (l : Int), .int .u64 (u : Int)]] (by kernel_rfl) ?_; refine (L1.out _).mono ?_; rintro e9 w9 ⟨rfl, hb9⟩; have d4 := veil (d3.out.trans (hb9.mono d3.out.size)); clear hb9; refine ⟨_, rfl, ?_⟩)
    | (have hd9 := d2; clear hd9; refine step_callG (by kernel_rfl) 13 #[.agg #[.int .u64 (D0 : Int), .int .u64 (D1 : Int)]] (by kernel_rfl) ?_; refine (of_any D0 D1 _).mono ?_; rintro e9 w9 ⟨rfl, hb9⟩; have d3 := veil (d2.out.trans (hb9.mono d2.out.size)); clear hb9; refine ⟨_, rfl, ?_⟩)
    | (have hd9 := d1; clear hd9; refine step_callG (by kernel_rfl) 13 #[.agg #[.int .u64 (B0 : Int), .int .u64 (B1 : Int)]] (by kernel_rfl) ?_; refine (of_any B0 B1 _).mono ?_; rintro e9 w9 ⟨rfl, hb9⟩; have d2 := veil (d1.out.trans (hb9.mono d1.out.size)); clear hb9; refine ⟨_, rfl, ?_⟩)
    | (refine step_callG (by kernel_rfl) 13 #[.agg #[.int .u64 (A0 : Int), .int .u64 (A1 : Int)]] (by kernel_rfl) ?_; refine (of_any A0 A1 _).mono ?_; rintro e9 w9 ⟨rfl, hb9⟩; have d1 := veil (((Below.refl _ w12).drew).trans hb9); clear hb9; refine ⟨_, rfl, ?_⟩))
  have B14 := veil (E12.out.trans (d7.out.mono E12.out.size))
  clear d1 d2 d3 d4 d5 d6 d7 k0 k1 k2 k3 k4 k5 k6 k7 k8 k9 k10 k11 k12 k13 KC
  go_wp2_with fail
  go_ret
  exact ⟨rfl, B14.out⟩
end Go.Proofs.Ytepkajaallcnmaa

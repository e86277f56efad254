/-
  VarintApart: no number's bytes begin another number's, of either kind.
  For every two numbers, every byte and number of bits above them, where varint.lengths holds what its own initialiser lays (the card ties it).
-/
import Derived.Test.YtmgmejbjekojnaaDoorAlive
import Derived.Test.YtmgmejbjekojnaaDoorTail
import Derived.Test.YtmgmejbjekojnaaDoorApartMath
import Derived.Test.YtmgmejbjekojnaaDoorPutCases
import Derived.Test.YtmgmejbjekojnaaDoorLift
import Derived.Lib.SmallJoins
import Derived.Deep.RegionHeld3
namespace Go.Proofs.YtmgmejbjekojnaaDoor
open Go.ChangeShapes Go.WideShapes Go.ChangeAt Go.RowKit

set_option maxHeartbeats 20000000 in
theorem apart_walk (n m first b : Int) (w : World) (hn0 : 0 ≤ n) (hm0 : 0 ≤ m) (f0 : 0 ≤ first) (f1 : first ≤ 255) (hL : Lens w) :
    Calls Tryd.prog 8 #[.int .u64 n, .int .u64 m, .agg #[.int .u8 first, .int .i64 b]] w fun e w' => e = .returned (.bool true) ∧ Below w.heap.size w w' := by
  have hb0 := below_new w (.cells #[.int .u8 first, .int .i64 b] 37)
  have HL0 : Hid (Lens (w.alloc (.cells #[.int .u8 first, .int .i64 b] 37))) := hL.step hb0
  clear hL
  go_enter Tryd.func8, Tryd.ntmps8
  go_wp2_with fail
  refine (alive_any _ HL0.out).mono ?_
  rintro e1 w1 ⟨rfl, hb1⟩
  have hcf1 : w1.cell? ⟨w.heap.size, 0, none⟩ = some (.int .u8 first) := (hb1.cell (p := ⟨w.heap.size, 0, none⟩) (by simp)).trans (by simp)
  have hcb1 : w1.cell? ⟨w.heap.size, 1, none⟩ = some (.int .i64 b) := (hb1.cell (p := ⟨w.heap.size, 1, none⟩) (by simp)).trans (by simp)
  have hsz1 : w.heap.size < w1.heap.size := by have := hb1.size; simp at this; omega
  have HB1 : Hid (Below w.heap.size w w1) := hb0.trans (hb1.mono hb0.size)
  have HL1 : Hid (Lens w1) := HL0.out.step hb1
  clear hb0 hb1 HL0
  go_wp2_with fail
  by_cases hn : n < 4611686018427387904
  · refine (put_own n w1 hn0 hn HL1.out).mono ?_
    rintro e2 w2 ⟨g2, rfl, ho2, hb2⟩
    have HL2 : Hid (Lens w2) := HL1.out.step hb2
    have hla2 := ho2.lies
    clear ho2
    go_wp2_with fail
    by_cases hm : m < 4611686018427387904
    · refine (put_own m w2 hm0 hm HL2.out).mono ?_
      rintro e3 w3 ⟨g3, rfl, ho3, hb3⟩
      have HA : Hid (Lies w3 (some ⟨g2, 0, none⟩) (putL n)) := hla2.belowL hb3
      have HC : Hid (Lies w3 (some ⟨g3, 0, none⟩) (putL m)) := ho3.lies
      have hb13 : Below w1.heap.size w1 w3 := hb2.trans (hb3.mono hb2.size)
      have hp1 := putL_len n
      have hp2 := putL_len m
      have HCut := fun k hk => cut_same (xs := putL n) (ys := putL m) (k := k) (n := n) (m := m) hk (putL_begins n m hn0 hn hm0 hm) (putL_begins m n hm0 hm hn0 hn) (fun e => by rw [e])
      clear hla2 ho3 hb2 hb3
      generalize putL n = pn at *
      generalize putL m = pm at *
      obtain ⟨A, hA⟩ : ∃ A, pn.length = A := ⟨_, rfl⟩
      obtain ⟨B, hB⟩ : ∃ B, pm.length = B := ⟨_, rfl⟩
      have HLA : Hid (pn.length = A) := hA
      have HLB : Hid (pm.length = B) := hB
      rw [hA] at hp1 HCut ⊢
      rw [hB] at hp2 HCut ⊢
      clear hA hB
      have HSm : Hid (∀ k, ((A ≤ B ∧ k = A) ∨ (B ≤ A ∧ k = B)) → ∀ wx, Below w3.heap.size w3 wx → Calls Tryd.prog 18 #[.slice (some ⟨g2, 0, none⟩) k A, .slice (some ⟨g3, 0, none⟩) k B] wx fun e w' => e = .returned (.bool (n == m)) ∧ Below wx.heap.size wx w') := by
        intro k hk wx hwx
        rw [← HCut k hk]
        exact same_any _ _ k A B (pn.take k) (pm.take k) wx (by rw [List.length_take, HLA.out]; omega) (by rw [List.length_take, HLB.out]; omega) (by omega) ((HA.out.belowL hwx).take _) ((HC.out.belowL hwx).take _)
      clear HCut HA HC
      have q1 : (0 : Int) ≤ (A : Int) := by omega
      have q2 : (0 : Int) ≤ (B : Int) := by omega
      by_cases hAB : A ≤ B
      · have q3 : (A : Int) ≤ (B : Int) := by omega
        go_wp2
        go_region_held3 (fun _ => True) (trivial) (first | (go_at_call 18; refine (HSm.out A (.inl ⟨hAB, rfl⟩) _ ?_).mono ?_; exact (Below.refl _ _).drew; rintro e4 w4 ⟨rfl, hb4⟩))
        have hb14 : Below w1.heap.size w1 w4 := (hb13.drew).trans (hb4.mono hb13.size)
        have hcfq : w4.cell? ⟨w.heap.size, 0, none⟩ = some (.int .u8 first) := (hb14.cell (p := ⟨w.heap.size, 0, none⟩) hsz1).trans hcf1
        have hcbq : w4.cell? ⟨w.heap.size, 1, none⟩ = some (.int .i64 b) := (hb14.cell (p := ⟨w.heap.size, 1, none⟩) hsz1).trans hcb1
        have HBq : Hid (Below w.heap.size w w4) := HB1.out.trans (hb14.mono HB1.out.size)
        have hszq : w.heap.size < w4.heap.size := Nat.lt_of_lt_of_le hsz1 hb14.size
        clear HSm hb13 hb14 hb4 HL2 HL1 hcf1 hcb1 HB1
        go_wp2_with fail
        rcases putp_cases first b n f0 f1 hn0 with ⟨M, hMn⟩ | hbad
        · refine (putp_own first b M n w4 hMn.mask f0 f1 hn0 hMn.n1 hMn.fm).mono ?_
          rintro e5 w5 ⟨g5, c5, rfl, ho5, hb5⟩
          have hcf5 : w5.cell? ⟨w.heap.size, 0, none⟩ = some (.int .u8 first) := (hb5.cell (p := ⟨w.heap.size, 0, none⟩) hszq).trans hcfq
          have hcb5 : w5.cell? ⟨w.heap.size, 1, none⟩ = some (.int .i64 b) := (hb5.cell (p := ⟨w.heap.size, 1, none⟩) hszq).trans hcbq
          have HB5 : Hid (Below w.heap.size w w5) := HBq.out.trans (hb5.mono HBq.out.size)
          have HO5 : Hid (Owns w4.heap.size w5 g5 (putP first M n).length c5 (putP first M n)) := ho5
          have HMn : Hid (MayPut first b M n) := hMn
          have hM1 := hMn.mask.bd
          clear ho5 hb5 hMn hcfq hcbq
          go_wp2_with fail
          by_cases hm2 : m ≤ 4611686018427387903
          · have HMm : Hid (MayPut first b M m) := ⟨HMn.out.mask, f0, f1, HMn.out.fm, hm0, hm2⟩
            refine (putp_own first b M m w5 HMn.out.mask f0 f1 hm0 hm2 HMn.out.fm).mono ?_
            rintro e6 w6 ⟨g6, c6, rfl, ho6, hb6⟩
            have HA6 : Hid (Lies w6 (some ⟨g5, 0, none⟩) (putP first M n)) := HO5.out.lies.belowL hb6
            have HC6 : Hid (Lies w6 (some ⟨g6, 0, none⟩) (putP first M m)) := ho6.lies
            have hc5 : (putP first M n).length ≤ c5 := HO5.out.cap
            have hc6 : (putP first M m).length ≤ c6 := ho6.cap
            have HB6 : Hid (Below w.heap.size w w6) := HB5.out.trans (hb6.mono HB5.out.size)
            have hl1 := putP_len first M n
            have hl2 := putP_len first M m
            have HCut2 := fun k hk => cut_same (xs := putP first M n) (ys := putP first M m) (k := k) (n := n) (m := m) hk (putP_begins HMn.out HMm.out) (putP_begins HMm.out HMn.out) (fun e => by rw [e])
            clear ho6 hb6 HO5 HB5 HMn HMm
            generalize putP first M n = qn at *
            generalize putP first M m = qm at *
            obtain ⟨C, hC⟩ : ∃ C, qn.length = C := ⟨_, rfl⟩
            obtain ⟨D, hD⟩ : ∃ D, qm.length = D := ⟨_, rfl⟩
            have HLC : Hid (qn.length = C) := hC
            have HLD : Hid (qm.length = D) := hD
            rw [hC] at hl1 hc5 HCut2 ⊢
            rw [hD] at hl2 hc6 HCut2 ⊢
            clear hC hD
            have HS2 : Hid (∀ k, ((C ≤ D ∧ k = C) ∨ (D ≤ C ∧ k = D)) → ∀ wx, Below w6.heap.size w6 wx → Calls Tryd.prog 18 #[.slice (some ⟨g5, 0, none⟩) k c5, .slice (some ⟨g6, 0, none⟩) k c6] wx fun e w' => e = .returned (.bool (n == m)) ∧ Below wx.heap.size wx w') := by
              intro k hk wx hwx
              rw [← HCut2 k hk]
              exact same_any _ _ k c5 c6 (qn.take k) (qm.take k) wx (by rw [List.length_take, HLC.out]; omega) (by rw [List.length_take, HLD.out]; omega) (by omega) ((HA6.out.belowL hwx).take _) ((HC6.out.belowL hwx).take _)
            clear HCut2 HA6 HC6
            have r1 : (0 : Int) ≤ (C : Int) := by omega
            have r2 : (0 : Int) ≤ (D : Int) := by omega
            have r3 : (C : Int) ≤ (c5 : Int) := by omega
            have r4 : (D : Int) ≤ (c6 : Int) := by omega
            by_cases hCD : C ≤ D
            · have r5 : (C : Int) ≤ (D : Int) := by omega
              have r6 : (C : Int) ≤ (c6 : Int) := by omega
              have HSn := HS2.out C (.inl ⟨hCD, rfl⟩)
              clear HS2
              go_wp2
              go_region_held3 (fun _ => True) (trivial) (first | (go_at_call 18; refine (HSn _ ?_).mono ?_; exact (Below.refl _ _).drew; rintro e7 w7 ⟨rfl, hb7⟩))
              go_wp2
              go_ret
              exact ⟨rfl, (HB6.out.drew).trans (hb7.mono HB6.out.size)⟩
            · have r5 : (D : Int) < (C : Int) := by omega
              have r6 : (D : Int) ≤ (c5 : Int) := by omega
              have HSn := HS2.out D (.inr ⟨by omega, rfl⟩)
              clear HS2
              go_wp2
              go_region_held3 (fun _ => True) (trivial) (first | (go_at_call 18; refine (HSn _ ?_).mono ?_; exact (Below.refl _ _).drew; rintro e7 w7 ⟨rfl, hb7⟩))
              go_wp2
              go_ret
              exact ⟨rfl, (HB6.out.drew).trans (hb7.mono HB6.out.size)⟩
          · refine (putp_large first b m w5 hM1.1 hM1.2.1 (by omega)).mono ?_
            rintro e6 w6 ⟨rfl, hw6⟩
            obtain rfl := hw6.symm
            go_wp2
            go_ret
            exact ⟨rfl, HB5.out⟩
        · refine (hbad w4).mono ?_
          rintro e5 w5 ⟨rfl, hw5⟩
          obtain rfl := hw5.symm
          clear hbad
          go_wp2_with fail
          rcases putp_cases first b m f0 f1 hm0 with ⟨M, hMm⟩ | hbad
          · refine (putp_own first b M m w4 hMm.mask f0 f1 hm0 hMm.n1 hMm.fm).mono ?_
            rintro e6 w6 ⟨g6, c6, rfl, ho6, hb6⟩
            go_wp2
            go_ret
            exact ⟨rfl, HBq.out.trans (hb6.mono HBq.out.size)⟩
          · refine (hbad w4).mono ?_
            rintro e6 w6 ⟨rfl, hw6⟩
            obtain rfl := hw6.symm
            go_wp2
            go_ret
            exact ⟨rfl, HBq.out⟩
      · have q3 : (B : Int) < (A : Int) := by omega
        have q4 : (B : Int) ≤ (A : Int) := by omega
        go_wp2
        go_region_held3 (fun _ => True) (trivial) (first | (go_at_call 18; refine (HSm.out B (.inr ⟨by omega, rfl⟩) _ ?_).mono ?_; exact (Below.refl _ _).drew; rintro e4 w4 ⟨rfl, hb4⟩))
        have hb14 : Below w1.heap.size w1 w4 := (hb13.drew).trans (hb4.mono hb13.size)
        have hcfq : w4.cell? ⟨w.heap.size, 0, none⟩ = some (.int .u8 first) := (hb14.cell (p := ⟨w.heap.size, 0, none⟩) hsz1).trans hcf1
        have hcbq : w4.cell? ⟨w.heap.size, 1, none⟩ = some (.int .i64 b) := (hb14.cell (p := ⟨w.heap.size, 1, none⟩) hsz1).trans hcb1
        have HBq : Hid (Below w.heap.size w w4) := HB1.out.trans (hb14.mono HB1.out.size)
        have hszq : w.heap.size < w4.heap.size := Nat.lt_of_lt_of_le hsz1 hb14.size
        clear HSm hb13 hb14 hb4 HL2 HL1 hcf1 hcb1 HB1
        go_wp2_with fail
        rcases putp_cases first b n f0 f1 hn0 with ⟨M, hMn⟩ | hbad
        · refine (putp_own first b M n w4 hMn.mask f0 f1 hn0 hMn.n1 hMn.fm).mono ?_
          rintro e5 w5 ⟨g5, c5, rfl, ho5, hb5⟩
          have hcf5 : w5.cell? ⟨w.heap.size, 0, none⟩ = some (.int .u8 first) := (hb5.cell (p := ⟨w.heap.size, 0, none⟩) hszq).trans hcfq
          have hcb5 : w5.cell? ⟨w.heap.size, 1, none⟩ = some (.int .i64 b) := (hb5.cell (p := ⟨w.heap.size, 1, none⟩) hszq).trans hcbq
          have HB5 : Hid (Below w.heap.size w w5) := HBq.out.trans (hb5.mono HBq.out.size)
          have HO5 : Hid (Owns w4.heap.size w5 g5 (putP first M n).length c5 (putP first M n)) := ho5
          have HMn : Hid (MayPut first b M n) := hMn
          have hM1 := hMn.mask.bd
          clear ho5 hb5 hMn hcfq hcbq
          go_wp2_with fail
          by_cases hm2 : m ≤ 4611686018427387903
          · have HMm : Hid (MayPut first b M m) := ⟨HMn.out.mask, f0, f1, HMn.out.fm, hm0, hm2⟩
            refine (putp_own first b M m w5 HMn.out.mask f0 f1 hm0 hm2 HMn.out.fm).mono ?_
            rintro e6 w6 ⟨g6, c6, rfl, ho6, hb6⟩
            have HA6 : Hid (Lies w6 (some ⟨g5, 0, none⟩) (putP first M n)) := HO5.out.lies.belowL hb6
            have HC6 : Hid (Lies w6 (some ⟨g6, 0, none⟩) (putP first M m)) := ho6.lies
            have hc5 : (putP first M n).length ≤ c5 := HO5.out.cap
            have hc6 : (putP first M m).length ≤ c6 := ho6.cap
            have HB6 : Hid (Below w.heap.size w w6) := HB5.out.trans (hb6.mono HB5.out.size)
            have hl1 := putP_len first M n
            have hl2 := putP_len first M m
            have HCut2 := fun k hk => cut_same (xs := putP first M n) (ys := putP first M m) (k := k) (n := n) (m := m) hk (putP_begins HMn.out HMm.out) (putP_begins HMm.out HMn.out) (fun e => by rw [e])
            clear ho6 hb6 HO5 HB5 HMn HMm
            generalize putP first M n = qn at *
            generalize putP first M m = qm at *
            obtain ⟨C, hC⟩ : ∃ C, qn.length = C := ⟨_, rfl⟩
            obtain ⟨D, hD⟩ : ∃ D, qm.length = D := ⟨_, rfl⟩
            have HLC : Hid (qn.length = C) := hC
            have HLD : Hid (qm.length = D) := hD
            rw [hC] at hl1 hc5 HCut2 ⊢
            rw [hD] at hl2 hc6 HCut2 ⊢
            clear hC hD
            have HS2 : Hid (∀ k, ((C ≤ D ∧ k = C) ∨ (D ≤ C ∧ k = D)) → ∀ wx, Below w6.heap.size w6 wx → Calls Tryd.prog 18 #[.slice (some ⟨g5, 0, none⟩) k c5, .slice (some ⟨g6, 0, none⟩) k c6] wx fun e w' => e = .returned (.bool (n == m)) ∧ Below wx.heap.size wx w') := by
              intro k hk wx hwx
              rw [← HCut2 k hk]
              exact same_any _ _ k c5 c6 (qn.take k) (qm.take k) wx (by rw [List.length_take, HLC.out]; omega) (by rw [List.length_take, HLD.out]; omega) (by omega) ((HA6.out.belowL hwx).take _) ((HC6.out.belowL hwx).take _)
            clear HCut2 HA6 HC6
            have r1 : (0 : Int) ≤ (C : Int) := by omega
            have r2 : (0 : Int) ≤ (D : Int) := by omega
            have r3 : (C : Int) ≤ (c5 : Int) := by omega
            have r4 : (D : Int) ≤ (c6 : Int) := by omega
            by_cases hCD : C ≤ D
            · have r5 : (C : Int) ≤ (D : Int) := by omega
              have r6 : (C : Int) ≤ (c6 : Int) := by omega
              have HSn := HS2.out C (.inl ⟨hCD, rfl⟩)
              clear HS2
              go_wp2
              go_region_held3 (fun _ => True) (trivial) (first | (go_at_call 18; refine (HSn _ ?_).mono ?_; exact (Below.refl _ _).drew; rintro e7 w7 ⟨rfl, hb7⟩))
              go_wp2
              go_ret
              exact ⟨rfl, (HB6.out.drew).trans (hb7.mono HB6.out.size)⟩
            · have r5 : (D : Int) < (C : Int) := by omega
              have r6 : (D : Int) ≤ (c5 : Int) := by omega
              have HSn := HS2.out D (.inr ⟨by omega, rfl⟩)
              clear HS2
              go_wp2
              go_region_held3 (fun _ => True) (trivial) (first | (go_at_call 18; refine (HSn _ ?_).mono ?_; exact (Below.refl _ _).drew; rintro e7 w7 ⟨rfl, hb7⟩))
              go_wp2
              go_ret
              exact ⟨rfl, (HB6.out.drew).trans (hb7.mono HB6.out.size)⟩
          · refine (putp_large first b m w5 hM1.1 hM1.2.1 (by omega)).mono ?_
            rintro e6 w6 ⟨rfl, hw6⟩
            obtain rfl := hw6.symm
            go_wp2
            go_ret
            exact ⟨rfl, HB5.out⟩
        · refine (hbad w4).mono ?_
          rintro e5 w5 ⟨rfl, hw5⟩
          obtain rfl := hw5.symm
          clear hbad
          go_wp2_with fail
          rcases putp_cases first b m f0 f1 hm0 with ⟨M, hMm⟩ | hbad
          · refine (putp_own first b M m w4 hMm.mask f0 f1 hm0 hMm.n1 hMm.fm).mono ?_
            rintro e6 w6 ⟨g6, c6, rfl, ho6, hb6⟩
            go_wp2
            go_ret
            exact ⟨rfl, HBq.out.trans (hb6.mono HBq.out.size)⟩
          · refine (hbad w4).mono ?_
            rintro e6 w6 ⟨rfl, hw6⟩
            obtain rfl := hw6.symm
            go_wp2
            go_ret
            exact ⟨rfl, HBq.out⟩
    · refine (put_no m w2 (by omega)).mono ?_
      rintro e3 w3 ⟨rfl, hw3⟩
      obtain rfl := hw3.symm
      have hcfq : w2.cell? ⟨w.heap.size, 0, none⟩ = some (.int .u8 first) := (hb2.cell (p := ⟨w.heap.size, 0, none⟩) hsz1).trans hcf1
      have hcbq : w2.cell? ⟨w.heap.size, 1, none⟩ = some (.int .i64 b) := (hb2.cell (p := ⟨w.heap.size, 1, none⟩) hsz1).trans hcb1
      have HBq : Hid (Below w.heap.size w w2) := HB1.out.trans (hb2.mono HB1.out.size)
      have hszq : w.heap.size < w2.heap.size := Nat.lt_of_lt_of_le hsz1 hb2.size
      clear hla2 hb2 HL2 HL1 hcf1 hcb1 HB1
      go_wp2_with fail
      rcases putp_cases first b n f0 f1 hn0 with ⟨M, hMn⟩ | hbad
      · refine (putp_own first b M n w2 hMn.mask f0 f1 hn0 hMn.n1 hMn.fm).mono ?_
        rintro e5 w5 ⟨g5, c5, rfl, ho5, hb5⟩
        have hcf5 : w5.cell? ⟨w.heap.size, 0, none⟩ = some (.int .u8 first) := (hb5.cell (p := ⟨w.heap.size, 0, none⟩) hszq).trans hcfq
        have hcb5 : w5.cell? ⟨w.heap.size, 1, none⟩ = some (.int .i64 b) := (hb5.cell (p := ⟨w.heap.size, 1, none⟩) hszq).trans hcbq
        have HB5 : Hid (Below w.heap.size w w5) := HBq.out.trans (hb5.mono HBq.out.size)
        have HO5 : Hid (Owns w2.heap.size w5 g5 (putP first M n).length c5 (putP first M n)) := ho5
        have HMn : Hid (MayPut first b M n) := hMn
        have hM1 := hMn.mask.bd
        clear ho5 hb5 hMn hcfq hcbq
        go_wp2_with fail
        by_cases hm2 : m ≤ 4611686018427387903
        · omega
        · refine (putp_large first b m w5 hM1.1 hM1.2.1 (by omega)).mono ?_
          rintro e6 w6 ⟨rfl, hw6⟩
          obtain rfl := hw6.symm
          go_wp2
          go_ret
          exact ⟨rfl, HB5.out⟩
      · refine (hbad w2).mono ?_
        rintro e5 w5 ⟨rfl, hw5⟩
        obtain rfl := hw5.symm
        clear hbad
        go_wp2_with fail
        rcases putp_cases first b m f0 f1 hm0 with ⟨M, hMm⟩ | hbad
        · refine (putp_own first b M m w2 hMm.mask f0 f1 hm0 hMm.n1 hMm.fm).mono ?_
          rintro e6 w6 ⟨g6, c6, rfl, ho6, hb6⟩
          go_wp2
          go_ret
          exact ⟨rfl, HBq.out.trans (hb6.mono HBq.out.size)⟩
        · refine (hbad w2).mono ?_
          rintro e6 w6 ⟨rfl, hw6⟩
          obtain rfl := hw6.symm
          go_wp2
          go_ret
          exact ⟨rfl, HBq.out⟩
  · refine (put_no n w1 (by omega)).mono ?_
    rintro e2 w2 ⟨rfl, hw2⟩
    obtain rfl := hw2.symm
    go_wp2_with fail
    by_cases hm : m < 4611686018427387904
    · refine (put_own m w1 hm0 hm HL1.out).mono ?_
      rintro e3 w3 ⟨g3, rfl, ho3, hb3⟩
      have hcfq : w3.cell? ⟨w.heap.size, 0, none⟩ = some (.int .u8 first) := (hb3.cell (p := ⟨w.heap.size, 0, none⟩) hsz1).trans hcf1
      have hcbq : w3.cell? ⟨w.heap.size, 1, none⟩ = some (.int .i64 b) := (hb3.cell (p := ⟨w.heap.size, 1, none⟩) hsz1).trans hcb1
      have HBq : Hid (Below w.heap.size w w3) := HB1.out.trans (hb3.mono HB1.out.size)
      have hszq : w.heap.size < w3.heap.size := Nat.lt_of_lt_of_le hsz1 hb3.size
      clear ho3 hb3 HL1 hcf1 hcb1 HB1
      go_wp2_with fail
      rcases putp_cases first b n f0 f1 hn0 with ⟨M, hMn⟩ | hbad
      · refine (putp_own first b M n w3 hMn.mask f0 f1 hn0 hMn.n1 hMn.fm).mono ?_
        rintro e5 w5 ⟨g5, c5, rfl, ho5, hb5⟩
        have hcf5 : w5.cell? ⟨w.heap.size, 0, none⟩ = some (.int .u8 first) := (hb5.cell (p := ⟨w.heap.size, 0, none⟩) hszq).trans hcfq
        have hcb5 : w5.cell? ⟨w.heap.size, 1, none⟩ = some (.int .i64 b) := (hb5.cell (p := ⟨w.heap.size, 1, none⟩) hszq).trans hcbq
        have HB5 : Hid (Below w.heap.size w w5) := HBq.out.trans (hb5.mono HBq.out.size)
        have HO5 : Hid (Owns w3.heap.size w5 g5 (putP first M n).length c5 (putP first M n)) := ho5
        have HMn : Hid (MayPut first b M n) := hMn
        have hM1 := hMn.mask.bd
        clear ho5 hb5 hMn hcfq hcbq
        go_wp2_with fail
        by_cases hm2 : m ≤ 4611686018427387903
        · have HMm : Hid (MayPut first b M m) := ⟨HMn.out.mask, f0, f1, HMn.out.fm, hm0, hm2⟩
          refine (putp_own first b M m w5 HMn.out.mask f0 f1 hm0 hm2 HMn.out.fm).mono ?_
          rintro e6 w6 ⟨g6, c6, rfl, ho6, hb6⟩
          have HA6 : Hid (Lies w6 (some ⟨g5, 0, none⟩) (putP first M n)) := HO5.out.lies.belowL hb6
          have HC6 : Hid (Lies w6 (some ⟨g6, 0, none⟩) (putP first M m)) := ho6.lies
          have hc5 : (putP first M n).length ≤ c5 := HO5.out.cap
          have hc6 : (putP first M m).length ≤ c6 := ho6.cap
          have HB6 : Hid (Below w.heap.size w w6) := HB5.out.trans (hb6.mono HB5.out.size)
          have hl1 := putP_len first M n
          have hl2 := putP_len first M m
          have HCut2 := fun k hk => cut_same (xs := putP first M n) (ys := putP first M m) (k := k) (n := n) (m := m) hk (putP_begins HMn.out HMm.out) (putP_begins HMm.out HMn.out) (fun e => by rw [e])
          clear ho6 hb6 HO5 HB5 HMn HMm
          generalize putP first M n = qn at *
          generalize putP first M m = qm at *
          obtain ⟨C, hC⟩ : ∃ C, qn.length = C := ⟨_, rfl⟩
          obtain ⟨D, hD⟩ : ∃ D, qm.length = D := ⟨_, rfl⟩
          have HLC : Hid (qn.length = C) := hC
          have HLD : Hid (qm.length = D) := hD
          rw [hC] at hl1 hc5 HCut2 ⊢
          rw [hD] at hl2 hc6 HCut2 ⊢
          clear hC hD
          have HS2 : Hid (∀ k, ((C ≤ D ∧ k = C) ∨ (D ≤ C ∧ k = D)) → ∀ wx, Below w6.heap.size w6 wx → Calls Tryd.prog 18 #[.slice (some ⟨g5, 0, none⟩) k c5, .slice (some ⟨g6, 0, none⟩) k c6] wx fun e w' => e = .returned (.bool (n == m)) ∧ Below wx.heap.size wx w') := by
            intro k hk wx hwx
            rw [← HCut2 k hk]
            exact same_any _ _ k c5 c6 (qn.take k) (qm.take k) wx (by rw [List.length_take, HLC.out]; omega) (by rw [List.length_take, HLD.out]; omega) (by omega) ((HA6.out.belowL hwx).take _) ((HC6.out.belowL hwx).take _)
          clear HCut2 HA6 HC6
          have r1 : (0 : Int) ≤ (C : Int) := by omega
          have r2 : (0 : Int) ≤ (D : Int) := by omega
          have r3 : (C : Int) ≤ (c5 : Int) := by omega
          have r4 : (D : Int) ≤ (c6 : Int) := by omega
          by_cases hCD : C ≤ D
          · have r5 : (C : Int) ≤ (D : Int) := by omega
            have r6 : (C : Int) ≤ (c6 : Int) := by omega
            have HSn := HS2.out C (.inl ⟨hCD, rfl⟩)
            clear HS2
            go_wp2
            go_region_held3 (fun _ => True) (trivial) (first | (go_at_call 18; refine (HSn _ ?_).mono ?_; exact (Below.refl _ _).drew; rintro e7 w7 ⟨rfl, hb7⟩))
            go_wp2
            go_ret
            exact ⟨rfl, (HB6.out.drew).trans (hb7.mono HB6.out.size)⟩
          · have r5 : (D : Int) < (C : Int) := by omega
            have r6 : (D : Int) ≤ (c5 : Int) := by omega
            have HSn := HS2.out D (.inr ⟨by omega, rfl⟩)
            clear HS2
            go_wp2
            go_region_held3 (fun _ => True) (trivial) (first | (go_at_call 18; refine (HSn _ ?_).mono ?_; exact (Below.refl _ _).drew; rintro e7 w7 ⟨rfl, hb7⟩))
            go_wp2
            go_ret
            exact ⟨rfl, (HB6.out.drew).trans (hb7.mono HB6.out.size)⟩
        · refine (putp_large first b m w5 hM1.1 hM1.2.1 (by omega)).mono ?_
          rintro e6 w6 ⟨rfl, hw6⟩
          obtain rfl := hw6.symm
          go_wp2
          go_ret
          exact ⟨rfl, HB5.out⟩
      · refine (hbad w3).mono ?_
        rintro e5 w5 ⟨rfl, hw5⟩
        obtain rfl := hw5.symm
        clear hbad
        go_wp2_with fail
        rcases putp_cases first b m f0 f1 hm0 with ⟨M, hMm⟩ | hbad
        · refine (putp_own first b M m w3 hMm.mask f0 f1 hm0 hMm.n1 hMm.fm).mono ?_
          rintro e6 w6 ⟨g6, c6, rfl, ho6, hb6⟩
          go_wp2
          go_ret
          exact ⟨rfl, HBq.out.trans (hb6.mono HBq.out.size)⟩
        · refine (hbad w3).mono ?_
          rintro e6 w6 ⟨rfl, hw6⟩
          obtain rfl := hw6.symm
          go_wp2
          go_ret
          exact ⟨rfl, HBq.out⟩
    · refine (put_no m w1 (by omega)).mono ?_
      rintro e3 w3 ⟨rfl, hw3⟩
      obtain rfl := hw3.symm
      have hcfq := hcf1
      have hcbq := hcb1
      have HBq := HB1
      have hszq := hsz1
      clear HL1 hcf1 hcb1 HB1
      go_wp2_with fail
      rcases putp_cases first b n f0 f1 hn0 with ⟨M, hMn⟩ | hbad
      · refine (putp_own first b M n w1 hMn.mask f0 f1 hn0 hMn.n1 hMn.fm).mono ?_
        rintro e5 w5 ⟨g5, c5, rfl, ho5, hb5⟩
        have hcf5 : w5.cell? ⟨w.heap.size, 0, none⟩ = some (.int .u8 first) := (hb5.cell (p := ⟨w.heap.size, 0, none⟩) hszq).trans hcfq
        have hcb5 : w5.cell? ⟨w.heap.size, 1, none⟩ = some (.int .i64 b) := (hb5.cell (p := ⟨w.heap.size, 1, none⟩) hszq).trans hcbq
        have HB5 : Hid (Below w.heap.size w w5) := HBq.out.trans (hb5.mono HBq.out.size)
        have HO5 : Hid (Owns w1.heap.size w5 g5 (putP first M n).length c5 (putP first M n)) := ho5
        have HMn : Hid (MayPut first b M n) := hMn
        have hM1 := hMn.mask.bd
        clear ho5 hb5 hMn hcfq hcbq
        go_wp2_with fail
        by_cases hm2 : m ≤ 4611686018427387903
        · omega
        · refine (putp_large first b m w5 hM1.1 hM1.2.1 (by omega)).mono ?_
          rintro e6 w6 ⟨rfl, hw6⟩
          obtain rfl := hw6.symm
          go_wp2
          go_ret
          exact ⟨rfl, HB5.out⟩
      · refine (hbad w1).mono ?_
        rintro e5 w5 ⟨rfl, hw5⟩
        obtain rfl := hw5.symm
        clear hbad
        go_wp2_with fail
        rcases putp_cases first b m f0 f1 hm0 with ⟨M, hMm⟩ | hbad
        · refine (putp_own first b M m w1 hMm.mask f0 f1 hm0 hMm.n1 hMm.fm).mono ?_
          rintro e6 w6 ⟨g6, c6, rfl, ho6, hb6⟩
          go_wp2
          go_ret
          exact ⟨rfl, HBq.out.trans (hb6.mono HBq.out.size)⟩
        · refine (hbad w1).mono ?_
          rintro e6 w6 ⟨rfl, hw6⟩
          obtain rfl := hw6.symm
          go_wp2
          go_ret
          exact ⟨rfl, HBq.out⟩
/-! ### The row -/
set_option maxRecDepth 100000 in
theorem apart_lifted (os : Os) (started : os.Started) (H : Type) (enc : TypeId × Value → H) :
    ReturnsInHanded {} Tryd.checked os 8 .any (fun w args => (Rows.varintApartSpec.pre enc Tryd.prog Tryd.f8 [] false w args ∧ laidMetH Tryd.prog laid1 w) ∧ sizedMet enc Tryd.prog Tryd.f8 (OpenSpec.ofChange Rows.varintApartSpec) false w args)
      (Rows.varintApartSpec.post enc Tryd.prog Tryd.f8 false true false false) := by
  refine returnsInHanded_of_change_and (C := Tryd.checked) (X := fun w _ => laidMetH Tryd.prog laid1 w) (fun _ _ _ hh h => h.of_heap hh) own started (by kernel_rfl) Tryd.func8
    (ChangeSpec.witness_shaped (enc := enc) (C := Tryd.checked) (os := os) (X := fun w _ => laidMetH Tryd.prog laid1 w) false (World.doorLaid Tryd.prog 400 os) #[.int .u64 0, .int .u64 0, .agg #[.int .u8 0, .int .i64 0]] 8 rfl (World.shaped_of_RefB (by kernel_rfl) (by kernel_rfl)) (by kernel_rfl) (by kernel_rfl) (by kernel_rfl) (door_met os _)) ?_
  intro W base args ds gs before hval0 hW _ _ hL _
  have hval : ∀ (j : Nat) t v, Tryd.f8.params[j]? = some t → args[j]? = some v → Value.okWide Tryd.prog W .any base t v := hval0
  have hW' := hW
  obtain ⟨p, q, hA0, hV, rfl, hfz, hnd⟩ := hW
  have hA : DataW.TrodAll enc Tryd.prog W 0 (fun _ => true) true Tryd.f8.params.toList args.toList ds p := hA0
  rw [Tryd.params8] at hA hval
  obtain ⟨v0, vs0, d0, ds0, p0, q0, hargs, rfl, rfl, h0, r0⟩ := trodAll_cons hA
  obtain ⟨v1, vs1, d1, ds1, p1, q1, rfl, rfl, rfl, h1, r1⟩ := trodAll_cons r0
  obtain ⟨v2, vs2, d2, ds2, p2, q2, rfl, rfl, rfl, h2, r2⟩ := trodAll_cons r1
  obtain ⟨rfl, rfl, rfl⟩ := trodAll_nil r2
  obtain rfl : args = #[v0, v1, v2] := by cases args; simp_all
  obtain ⟨rfl, rfl⟩ := trodVars_none hV
  obtain ⟨a0, rfl, rfl, rfl, w0⟩ := open_int Tryd.underlying25 (hval 0 25 v0 rfl rfl) h0
  have bd0 := bounds_u64 w0
  obtain ⟨a1, rfl, rfl, rfl, w1⟩ := open_int Tryd.underlying25 (hval 1 25 v1 rfl rfl) h1
  have bd1 := bounds_u64 w1
  have k2 := h2
  have lt2 : ∀ x ∈ p2, x.block < W.heap.size := by obtain ⟨m, hm⟩ := k2; exact DataW.trod_lt m _ _ _ hm
  obtain ⟨c20, c21, y20, y21, m2, rfl, rfl, rfl, hy20, hy21⟩ := Joins.open_agg2 Tryd.underlying37 (by kernel_rfl) (show Tryd.prog.cellsOf 37 = 2 by kernel_rfl) (hval 2 37 v2 rfl rfl) h2
  obtain ⟨first2, f20, rfl, wf2⟩ := DataW.trod_int Tryd.underlying5 hy20
  obtain ⟨bits2, f21, rfl, wb2⟩ := DataW.trod_int Tryd.underlying3 hy21
  simp at f20 f21
  subst f20 f21
  have bf2 := bounds_u8 wf2
  clear hA0 hval0
  simp only [List.append_nil] at hW'
  refine (apart_walk a0 a1 first2 bits2 W bd0.1 bd1.1 bf2.1 bf2.2 (of_laid hL)).mono fun e W' ⟨he, bel⟩ => ?_
  subst he
  exact ⟨_, rfl, _, _, _, [], _, [], hW', trodAll_mk1 (shut_bool Tryd.underlying4 _), (trodAll_cons_mk (shut_int Tryd.underlying25 w0) (trodAll_cons_mk (shut_int Tryd.underlying25 w1) (trodAll_cons_mk (Below.trod laidOut (by kernel_rfl) (of_decide_eq_true (by kernel_rfl)) k2 bel lt2) trodAll_mk0))), rfl, bel.frame _, fun h => by cases h⟩

theorem apart_holds : Rows.VarintApartSaid :=
  OpenClaim.holds_of_wide 8 Tryd.f8 rfl rfl rfl rfl rfl rfl rfl ⟨rfl, rfl, rfl, rfl, rfl⟩ rfl rfl rfl rfl rfl (by kernel_rfl) Tryd.func8 (by kernel_rfl)
    (of_decide_eq_true (by kernel_rfl)) (by unfold Func.isWrapper; first | (rw [if_pos (by decide +kernel)]; kernel_rfl) | (rw [if_neg (by decide +kernel)]; exact ⟨rfl, rfl⟩))
    (fun os started H enc _ => apart_lifted os started H enc)

theorem varintApart_card : Rows.VarintApartCardSaid :=
  Claim7.holds_tied_plain_at .later [] [.data] true (true, "6827b3b49ff6a28c02ae14668346ec4938934fd8076c44a8f347ad44f629ef54") false
    apart_holds (fun _ h => by cases h) (by kernel_rfl) (fun _ h => by cases h) varintApart_row_tie rfl ⟨rfl, rfl⟩ (by kernel_rfl) rfl
    (fun f fn hf hfn => by
      obtain rfl : f = 8 := Option.some.inj ((show Tryd.prog.funcNamed "mailcoach/mailcoachlaw01.VarintApart" = some 8 by kernel_rfl).symm.trans hf) |>.symm
      obtain rfl : fn = Tryd.f8 := (Option.some.inj (Tryd.func8.symm.trans hfn)).symm
      exact ⟨by kernel_rfl, fun j t ht => by
        rw [Tryd.params8] at ht
        have hm : t ∈ [25, 25, 37] := by simpa using Array.mem_of_getElem? ht
        have hall : ([25, 25, 37].all fun u => !Tryd.prog.wantsStandIn u) = true := by kernel_rfl
        exact (show Tryd.prog.wantsStandIn t = false by simpa using List.all_eq_true.1 hall t hm)⟩)
    (by kernel_rfl)
#print axioms varintApart_card
end Go.Proofs.YtmgmejbjekojnaaDoor

/-
  Out of LrSame, LrNums.
-/
import Derived.Test.YtohoieleakieeaaGreatDoorGl18
import Derived.Test.YtohoieleakieeaaGreatDoorGl15
import Derived.BigQuiet

/-! The statement's same: two ledgers that are alike. -/
namespace Go.Proofs.YtohoieleakieeaaGreatDoor
open Go Go.RowKit

theorem away_zero {l : List Lg.Pk} (h : ∀ p ∈ l, 1 ≤ p.size) : (Lg.asksB l = false → Lg.asum l = 0) ∧ (Lg.asksB l = true → 0 < Lg.asum l) := by
  induction l with
  | nil => exact ⟨fun _ => rfl, fun q => by cases q⟩
  | cons p l ih =>
    have h1 := h p (List.mem_cons_self ..)
    obtain ⟨i1, i2⟩ := ih (fun q hq => h q (List.mem_cons_of_mem _ hq))
    rw [Lg.asum_cons]
    unfold Lg.asksB at *
    rw [List.any_cons]
    cases hp : p.asks
    · simp only [Bool.false_or]
      exact ⟨fun q => by rw [i1 q]; rfl, fun q => by have := i2 q; simp only [Bool.false_eq_true, if_false]; omega⟩
    · simp only [Bool.true_or]
      exact ⟨(fun q => by cases q), (fun _ => by simp only [if_true]; omega)⟩
theorem led_when {c : Nat} {w : World} {g : Nat} {v : Value} {s : Lg.Led} (h : LOk c w g v s) :
    Calls Tryz.prog 20 #[.pointer (some ⟨g, 0, none⟩)] w fun e w' => e = .returned (.tuple #[.int .u64 (Lg.whenN s : Int), .bool (Lg.asksB s.way)]) ∧ Below w.heap.size w w' := by
  have hz := away_zero (fun p hp => (h.fit.size p hp).1)
  have e0 : (ml s).ask = Lg.asum s.way := rfl
  cases ha : Lg.asksB s.way with
  | false =>
    refine (when_none g v (ml s) w h.ld h.win (e0.trans (hz.1 ha))).mono ?_
    rintro e w' ⟨rfl, rfl⟩
    have : Lg.whenN s = 0 := by unfold Lg.whenN; rw [ha]; rfl
    rw [this]
    exact ⟨rfl, Below.refl _ _⟩
  | true =>
    obtain ⟨p, l, hw⟩ : ∃ p l, s.way = p :: l := by
      cases hw : s.way with
      | nil => rw [hw] at ha; cases ha
      | cons p l => exact ⟨p, l, rfl⟩
    have hp : p ∈ s.way := by rw [hw]; exact List.mem_cons_self ..
    refine (when_some g v (ml s) w h.ld h.win (by rw [e0]; exact hz.2 ha) p l hw h.fit.lat h.fit.smo h.fit.var h.fit.asked (Nat.le_trans (h.fit.time p hp) h.fit.now)).mono ?_
    rintro e w' ⟨rfl, hb⟩
    refine ⟨?_, hb⟩
    have e1 : Lg.whenN s = (if p.num < (ml s).front then p.time + patN (ml s).lat (ml s).smo else (ml s).asked + waitN (ml s).smo (ml s).var) := by
      unfold Lg.whenN
      rw [ha, if_pos rfl]
      have f1 : Lg.firstB s = (s.fronted && decide (p.num < s.front)) := by unfold Lg.firstB; rw [hw]
      have f2 : Lg.firstT s = p.time := by unfold Lg.firstT; rw [hw]
      rw [f1, f2]
      show _ = if p.num < (if s.fronted then s.front else 0) then _ else _
      cases s.fronted
      · simp only [Bool.false_and, Bool.false_eq_true, if_false, Nat.not_lt_zero]; rfl
      · simp only [Bool.true_and, decide_eq_true_eq, if_true]; rfl
    rw [e1]

set_option maxRecDepth 20000 in
set_option maxHeartbeats 2000000 in
theorem same_led {c : Nat} {w : World} {g h : Nat} {v u : Value} {s : Lg.Led} (hL : LOk c w g v s) (hR : RdOk w h u s) (hc : c ≤ 2000) (hr : Lg.Rise s) :
    Calls Tryz.prog 18 #[.pointer (some ⟨g, 0, none⟩), .pointer (some ⟨h, 0, none⟩)] w fun e w' => e = .returned (.bool true) ∧ Below w.heap.size w w' := by
  have HL := veil hL
  have HR := veil hR
  have HC := veil hc
  have HRI := veil hr
  have TC := veil (times_any g v (ml s) w hL.ld hL.win)
  rw [show (ml s).lat = s.latest from rfl, show (ml s).smo = s.smooth from rfl, show (ml s).var = s.vary from rfl, show (ml s).lea = s.least from rfl] at TC
  obtain ⟨T1, hT1⟩ : ∃ x, s.latest = x := ⟨_, rfl⟩
  obtain ⟨T2, hT2⟩ : ∃ x, s.smooth = x := ⟨_, rfl⟩
  obtain ⟨T3, hT3⟩ : ∃ x, s.vary = x := ⟨_, rfl⟩
  obtain ⟨T4, hT4⟩ : ∃ x, s.least = x := ⟨_, rfl⟩
  rw [hT1, hT2, hT3, hT4] at TC
  have HT1 := veil hT1
  have HT2 := veil hT2
  have HT3 := veil hT3
  have HT4 := veil hT4
  clear hL hR hc hr hT1 hT2 hT3 hT4
  go_enter Tryz.func18, Tryz.ntmps18
  go_wp2_with fail
  refine TC.out.mono ?_
  rintro e1 w1 ⟨rfl, hb1⟩
  unfold tmC
  have HB1 := veil hb1
  clear hb1 TC
  go_wp2_with fail
  have hb2 : Below w.heap.size w (w1.alloc (.cells #[.int .u64 (T1 : Int), .int .u64 (T2 : Int), .int .u64 (T3 : Int), .int .u64 (T4 : Int)] 66)) := HB1.out.alloc HB1.out.size _
  have R1 := veil (show Row (w1.alloc (.cells #[.int .u64 (T1 : Int), .int .u64 (T2 : Int), .int .u64 (T3 : Int), .int .u64 (T4 : Int)] 66)) w1.heap.size 66 #[.int .u64 (T1 : Int), .int .u64 (T2 : Int), .int .u64 (T3 : Int), .int .u64 (T4 : Int)] from Row.new _ _ _)
  obtain ⟨b1, hb1⟩ : ∃ b1, b1 = w1.heap.size := ⟨_, rfl⟩
  obtain ⟨w2, hw2⟩ : ∃ w2, w2 = w1.alloc (.cells #[.int .u64 (T1 : Int), .int .u64 (T2 : Int), .int .u64 (T3 : Int), .int .u64 (T4 : Int)] 66) := ⟨_, rfl⟩
  rw [← hw2, ← hb1] at R1
  rw [← hw2] at hb2
  rw [← hw2, ← hb1]
  clear hw2 hb1 HB1
  have HB2 := veil hb2
  have TD := veil (refTimes_any h u s w2 (HR.out.below hb2))
  rw [HT1.out, HT2.out, HT3.out, HT4.out] at TD
  unfold tmC at TD
  clear hb2
  refine TD.out.mono ?_
  rintro e3 w3 ⟨rfl, hb3⟩
  have r3 := R1.out.below hb3 R1.out.lt
  have hB3 := HB2.out.trans (hb3.mono HB2.out.size)
  clear TD R1 HB2 hb3
  have WC := veil (fun W (hW : Below w.heap.size w W) => led_when (HL.out.below hW))
  have WD := veil (fun W (hW : Below w.heap.size w W) => refWhen_any h u s c W (HR.out.below hW) HL.out.fit HC.out HRI.out)
  have XC := veil (fun W (hW : Below w.heap.size w W) => ledWait_any g v (ml s) W (HL.out.below hW).ld HL.out.win HL.out.fit.smo HL.out.fit.var)
  have XD := veil (fun W (hW : Below w.heap.size w W) => refWait_any h u s W (HR.out.below hW) HL.out.fit.smo HL.out.fit.var)
  have YC := veil (fun W (hW : Below w.heap.size w W) => room_any g v (ml s) W (HL.out.below hW).ld HL.out.win)
  have YD := veil (fun W (hW : Below w.heap.size w W) => refRoom_any h u s W (HR.out.below hW))
  have ZC := veil (fun W (hW : Below w.heap.size w W) => away_any g v (ml s) W (HL.out.below hW).ld HL.out.win)
  have ZD := veil (fun W (hW : Below w.heap.size w W) => refAway_any h u s c W (HR.out.below hW) HL.out.fit HC.out)
  rw [show waitN (ml s).smo (ml s).var = Lg.wait s from rfl] at XC
  rw [show (ml s).win = s.win from rfl] at YC
  rw [show (ml s).ask = Lg.away s from rfl] at ZC
  generalize Lg.whenN s = tw at *
  generalize Lg.asksB s.way = ta at *
  generalize Lg.wait s = tx at *
  obtain ⟨ty, hty⟩ : ∃ ty, s.win = ty := ⟨_, rfl⟩
  rw [hty] at YC YD
  generalize Lg.away s = tz at *
  have HTY := veil hty
  clear hty HTY HL HR HC HRI HT1 HT2 HT3 HT4
  go_wp2_with fail
  have hb4 : Below w.heap.size w (w3.alloc (.cells #[.int .u64 (T1 : Int), .int .u64 (T2 : Int), .int .u64 (T3 : Int), .int .u64 (T4 : Int)] 71)) := hB3.alloc hB3.size _
  have r4 := r3.below ((Below.refl _ w3).alloc (Nat.le_refl _) (.cells #[.int .u64 (T1 : Int), .int .u64 (T2 : Int), .int .u64 (T3 : Int), .int .u64 (T4 : Int)] 71)) r3.lt
  have q4 : Row (w3.alloc (.cells #[.int .u64 (T1 : Int), .int .u64 (T2 : Int), .int .u64 (T3 : Int), .int .u64 (T4 : Int)] 71)) w3.heap.size 71 #[.int .u64 (T1 : Int), .int .u64 (T2 : Int), .int .u64 (T3 : Int), .int .u64 (T4 : Int)] := Row.new _ _ _
  obtain ⟨b3, hb3⟩ : ∃ b3, b3 = w3.heap.size := ⟨_, rfl⟩
  obtain ⟨w4, hw4⟩ : ∃ w4, w4 = w3.alloc (.cells #[.int .u64 (T1 : Int), .int .u64 (T2 : Int), .int .u64 (T3 : Int), .int .u64 (T4 : Int)] 71) := ⟨_, rfl⟩
  rw [← hw4, ← hb3] at q4
  rw [← hw4] at r4 hb4
  rw [← hw4, ← hb3]
  clear hw4 hb3 hB3 r3
  refine (WC.out w4 hb4).mono ?_
  rintro e5 w5 ⟨rfl, hb5⟩
  have r5 := r4.below hb5 r4.lt
  have q5 := q4.below hb5 q4.lt
  have h5 := hb4.trans (hb5.mono hb4.size)
  clear r4 q4 hb4 hb5 WC
  go_wp2_with fail
  refine (WD.out w5 h5).mono ?_
  rintro e6 w6 ⟨rfl, hb6⟩
  have r6 := r5.below hb6 r5.lt
  have q6 := q5.below hb6 q5.lt
  have h6 := h5.trans (hb6.mono h5.size)
  clear r5 q5 h5 hb6 WD
  have a0 : w6.cell? ⟨b1, 0, none⟩ = some (.int .u64 (T1 : Int)) := r6.cell 0
  have a1 : w6.cell? ⟨b1, 1, none⟩ = some (.int .u64 (T2 : Int)) := r6.cell 1
  have a2 : w6.cell? ⟨b1, 2, none⟩ = some (.int .u64 (T3 : Int)) := r6.cell 2
  have a3 : w6.cell? ⟨b1, 3, none⟩ = some (.int .u64 (T4 : Int)) := r6.cell 3
  have d0 : w6.cell? ⟨b3, 0, none⟩ = some (.int .u64 (T1 : Int)) := q6.cell 0
  have d1 : w6.cell? ⟨b3, 1, none⟩ = some (.int .u64 (T2 : Int)) := q6.cell 1
  have d2 : w6.cell? ⟨b3, 2, none⟩ = some (.int .u64 (T3 : Int)) := q6.cell 2
  have d3 : w6.cell? ⟨b3, 3, none⟩ = some (.int .u64 (T4 : Int)) := q6.cell 3
  have H6 := veil h6
  clear r6 q6 h6
  have ee : ∀ x : Nat, ((x : Int) == (x : Int)) = true := fun x => by simp
  go_wp2_with fail
  refine (XC.out w6 H6.out).mono ?_
  rintro e7 w7 ⟨rfl, hb7⟩
  have H7 := veil (H6.out.trans (hb7.mono H6.out.size))
  clear hb7 XC
  go_wp2_with fail
  refine (XD.out w7 H7.out).mono ?_
  rintro e8 w8 ⟨rfl, hb8⟩
  have H8 := veil (H7.out.trans (hb8.mono H7.out.size))
  clear hb8 XD
  go_wp2_with fail
  refine (YC.out w8 H8.out).mono ?_
  rintro e9 w9 ⟨rfl, rfl⟩
  go_wp2_with fail
  refine (YD.out w9 H8.out).mono ?_
  rintro e9 w9 ⟨rfl, rfl⟩
  go_wp2_with fail
  refine (ZC.out w9 H8.out).mono ?_
  rintro e9 w9 ⟨rfl, rfl⟩
  go_wp2_with fail
  refine (ZD.out w9 H8.out).mono ?_
  rintro e9 w9 ⟨rfl, rfl⟩
  go_wp2
  go_ret
  exact ⟨rfl, H8.out⟩
end Go.Proofs.YtohoieleakieeaaGreatDoor

/-! The statements' SameNumbers, of like numbers. -/
namespace Go.Proofs.YtohoieleakieeaaGreatDoor
open Go Go.RowKit

set_option maxRecDepth 20000 in
set_option maxHeartbeats 1000000 in
theorem same_nums (base base' : Nat) (v u : Value) (l : List Nat) (w : World) (h : w.ownsRow base 23 1 v l.length (vnum l)) (h' : w.ownsRow base' 23 1 u l.length (vnum l)) (hl : l.length ≤ 100000) :
    Calls Tryz.prog 12 #[v, u] w fun e w' => e = .returned (.bool true) ∧ Below w.heap.size w w' := by
  obtain ⟨a, cap, rfl⟩ := own_shape15 h
  obtain ⟨a', cap', rfl⟩ := own_shape15 h'
  obtain ⟨m, hm⟩ : ∃ m, l.length = m := ⟨_, rfl⟩
  rw [hm] at h h' ⊢
  have H := veil h
  have H' := veil h'
  have HM := veil hm
  have hm5 : m ≤ 100000 := by rw [← hm]; exact hl
  have n1 : ((m : Int) != (m : Int)) = false := by simp
  clear h h' hm hl
  go_enter Tryz.func12, Tryz.ntmps12
  go_wp2_with fail
  go_loopw [5] (fun iv wr => ∃ k : Nat, k ≤ m ∧ iv = .int .i64 k ∧ Below w.heap.size w wr)
    (fun iv _ => m - (intOf iv).toNat)
  case atStart => exact ⟨0, Nat.zero_le _, rfl, Below.refl _ _⟩
  case round =>
    obtain ⟨k, hk, rfl, hbel⟩ := hrel
    by_cases hlt : k < m
    · have hkl : k < l.length := by rw [HM.out]; exact hlt
      obtain ⟨x, hget⟩ : ∃ x, l[k]? = some x := ⟨_, List.getElem?_eq_getElem hkl⟩
      obtain ⟨g, rfl⟩ : ∃ g, a = some ⟨g, 0, none⟩ := by
        rcases H.out.2 with ⟨_, q⟩ | ⟨g, c, cur, q, _⟩
        · omega
        · injection q with q; exact ⟨g, q⟩
      obtain ⟨g', rfl⟩ : ∃ g', a' = some ⟨g', 0, none⟩ := by
        rcases H'.out.2 with ⟨_, q⟩ | ⟨g, c, cur, q, _⟩
        · omega
        · injection q with q; exact ⟨g, q⟩
      have cx := H.out.cells (g := g) rfl k (.int .u64 (x : Int)) (by unfold vnum; rw [List.getElem?_map, hget]; rfl)
      have cy := H'.out.cells (g := g') rfl k (.int .u64 (x : Int)) (by unfold vnum; rw [List.getElem?_map, hget]; rfl)
      rw [Addr.add_mid, Nat.zero_add] at cx cy
      have cx := (hbel.cell (p := ⟨g, k, none⟩) (H.out.lt g rfl).2).trans cx
      have cy := (hbel.cell (p := ⟨g', k, none⟩) (H'.out.lt g' rfl).2).trans cy
      have n2 : ((x : Int) != (x : Int)) = false := by simp
      have HLt := veil hlt
      have HB := veil hbel
      have b1 : (k : Int) < (m : Int) := by omega
      clear hget hkl hbel
      go_wp2_with fail
      go_region
      go_wp2
      go_roundw
      case rel => exact ⟨k + 1, by have := HLt.out; omega, by go_num, HB.out.drew⟩
      case measure => have := HLt.out; simp [intOf]; omega
    · obtain rfl : k = m := by omega
      have HB := veil hbel
      clear hbel
      go_wp2
      go_ret
      exact ⟨rfl, HB.out⟩
end Go.Proofs.YtohoieleakieeaaGreatDoor

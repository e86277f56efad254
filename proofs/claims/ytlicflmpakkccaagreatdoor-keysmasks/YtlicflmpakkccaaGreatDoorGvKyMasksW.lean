/-
  KeysMasks: the walk.
-/
import Derived.Test.YtlicflmpakkccaaGreatDoorGv16
import Derived.Test.YtlicflmpakkccaaGreatDoorGvKyTell
import Derived.Test.YtlicflmpakkccaaGreatDoorGv10
import Derived.Test.YtlicflmpakkccaaGreatDoorGvKyLives
namespace Go.Proofs.YtlicflmpakkccaaGreatDoor
open Go Go.RowKit

theorem sl_of_roww {w : World} {base n : Nat} {v : Value} {xs : List By} (h : RowW w base 5 1 v n (vb xs)) : ∃ p : SL, v = .slice p.a p.len p.cap ∧ p.len = n ∧ p.b = xs ∧ p.Ok w := by
  have hl : xs.length = n := by have := h.1; rw [vb_length] at this; omega
  rcases h.2 with ⟨rfl, rfl⟩ | ⟨g, c, cur, rfl, _⟩
  · exact ⟨nilK, rfl, rfl, (List.eq_nil_of_length_eq_zero hl).symm, nilK_ok _⟩
  · exact ⟨⟨some ⟨g, 0, none⟩, n, c, g, 0, xs⟩, rfl, rfl, rfl, sl_of_wide h⟩
theorem roww_apart {W0 W1 : World} {B n m : Nat} {e f : TypeId} {u v : Value} {xs ys : List Value} (h : RowW W0 B e 1 u n xs) (k : RowW W1 W0.heap.size f 1 v m ys) : u.ownBlock = none ∨ u.ownBlock ≠ v.ownBlock := by
  cases q : u.ownBlock with
  | none => exact .inl rfl
  | some z =>
    right
    intro e2
    have := (h.lt z q).2
    have := (k.lt z e2.symm).1
    omega
theorem roww_nil (w : World) (B : Nat) : RowW w B 5 1 (.slice none 0 0) 0 (vb []) := RowW.of_own (World.ownsRow_nil _ _ _ _)
theorem roww_of_row {w : World} {S g n : Nat} {t : TypeId} {b : List By} (h : Row w g t (bs b)) (hg : S ≤ g) (hn : n ≤ b.length) (h9 : n ≤ 64) : RowW w S 5 1 (.slice (some ⟨g, 0, none⟩) n n) n (vb (b.take n)) :=
  ⟨by rw [vb_length, List.length_take]; omega, .inr ⟨g, n, bs b, rfl, hg, ⟨t, h⟩, Nat.le_refl _, by unfold maxLen; omega, by rw [bs_size]; omega, by
    rw [Nat.mul_one]
    unfold bs vb
    rw [List.map_take]⟩⟩

/-- What Nonce and the document's Nonce answer, in one shape. -/
theorem nonce_cases (ib : List By) (n : Nat) : ∃ (xs : List By) (n0 : Nat) (E : Int), n0 ≤ 64 ∧
    (∀ (q : SL) (w : World), q.Ok w → q.b = ib → Calls Tryz.prog 20 #[.slice q.a q.len q.cap, .int .u64 (n : Int)] w fun e w' => ∃ a d, e = .returned (.tuple #[.slice a n0 d, .int .i64 E]) ∧ RowW w' w.heap.size 5 1 (.slice a n0 d) n0 (vb xs) ∧ Below w.heap.size w w') ∧
    (∀ (q : SL) (w : World), q.Ok w → q.b = ib → Calls Tryz.prog 22 #[.slice q.a q.len q.cap, .int .u64 (n : Int)] w fun e w' => ∃ z : SL, e = .returned (.tuple #[.slice z.a z.len z.cap, .int .i64 E]) ∧ z.Ok w' ∧ z.b = xs ∧ Below w.heap.size w w') := by
  by_cases h : ib.length ≠ 12 ∨ 4611686018427387903 < n
  · refine ⟨[], 0, 1, by decide, fun q w hq e1 => ?_, fun q w hq e1 => ?_⟩
    · exact (nonce_bad q n w (by rw [← hq.hb, e1]; exact h)).mono fun e w' ⟨a1, a2⟩ => ⟨none, 0, a1, roww_nil _ _, by rw [a2]; exact Below.refl _ _⟩
    · exact (refNonce_bad q n w (by rw [← hq.hb, e1]; exact h)).mono fun e w' ⟨a1, a2⟩ => ⟨nilK, a1, nilK_ok _, rfl, by rw [a2]; exact Below.refl _ _⟩
  · have h2 : ib.length = 12 ∧ n ≤ 4611686018427387903 := by omega
    refine ⟨nonceL ib n, 12, 0, by decide, fun q w hq e1 => ?_, fun q w hq e1 => ?_⟩
    · refine (nonce_any q n w hq (by rw [← hq.hb, e1]; exact h2.1) h2.2).mono fun e w' ⟨g, a1, hg, r, hb⟩ => ?_
      rw [e1] at r
      have hr := roww_of_row (n := 12) r hg (by rw [nonceL_length]; exact Nat.le_refl _) (by decide)
      rw [List.take_of_length_le (by rw [nonceL_length]; exact Nat.le_refl _)] at hr
      exact ⟨_, _, a1, hr, hb⟩
    · refine (refNonce_any q n w hq (by rw [← hq.hb, e1]; exact h2.1) h2.2).mono fun e w' ⟨z, a1, a2, a3, a4⟩ => ?_
      rw [e1] at a3
      exact ⟨z, a1, a2, a3, a4⟩
theorem mask_cases (kb sb : List By) : ∃ (xs : List By) (n0 : Nat) (E : Int), n0 ≤ 64 ∧
    (∀ (k s : SL) (w : World), Glob w → k.Ok w → s.Ok w → k.b = kb → s.b = sb → Calls Tryz.prog 21 #[.slice k.a k.len k.cap, .slice s.a s.len s.cap] w fun e w' => ∃ a d, e = .returned (.tuple #[.slice a n0 d, .int .i64 E]) ∧ RowW w' w.heap.size 5 1 (.slice a n0 d) n0 (vb xs) ∧ Below w.heap.size w w') ∧
    (∀ (k s : SL) (w : World), k.Ok w → s.Ok w → k.b = kb → s.b = sb → Calls Tryz.prog 23 #[.slice k.a k.len k.cap, .slice s.a s.len s.cap] w fun e w' => ∃ z : SL, e = .returned (.tuple #[.slice z.a z.len z.cap, .int .i64 E]) ∧ z.Ok w' ∧ z.b = xs ∧ Below w.heap.size w w') := by
  by_cases h : kb.length ≠ 32 ∨ sb.length ≠ 16
  · refine ⟨[], 0, 1, by decide, fun k s w hg hk hs e1 e2 => ?_, fun k s w hk hs e1 e2 => ?_⟩
    · exact (mask_bad k s w (by rw [← hk.hb, ← hs.hb, e1, e2]; exact h)).mono fun e w' ⟨a1, a2⟩ => ⟨none, 0, a1, roww_nil _ _, by rw [a2]; exact Below.refl _ _⟩
    · exact (refMask_bad k s w (by rw [← hk.hb, ← hs.hb, e1, e2]; exact h)).mono fun e w' ⟨a1, a2⟩ => ⟨nilK, a1, nilK_ok _, rfl, by rw [a2]; exact Below.refl _ _⟩
  · have h2 : kb.length = 32 ∧ sb.length = 16 := by omega
    refine ⟨maskL kb sb, 5, 0, by decide, fun k s w hg hk hs e1 e2 => ?_, fun k s w hk hs e1 e2 => ?_⟩
    · refine (mask_any k s w hg hk hs (by rw [← hk.hb, e1]; exact h2.1) (by rw [← hs.hb, e2]; exact h2.2)).mono fun e w' ⟨g, a1, hg, r, hb⟩ => ?_
      rw [e1, e2] at r
      have hr := roww_of_row (n := 5) r hg (by rw [blockL_length]; decide) (by decide)
      exact ⟨_, _, a1, hr, hb⟩
    · refine (refMask_any k s w hk hs (by rw [← hk.hb, e1]; exact h2.1) (by rw [← hs.hb, e2]; exact h2.2)).mono fun e w' ⟨z, a1, a2, a3, a4⟩ => ?_
      rw [e1, e2] at a3
      exact ⟨z, a1, a2, a3, a4⟩

abbrev twoC (x y : SL) : Array Value := #[.slice x.a x.len x.cap, .slice y.a y.len y.cap]

set_option maxRecDepth 20000 in
set_option maxHeartbeats 4000000 in
theorem masks_walk (i x y : SL) (n : Nat) (w : World) (hg : Glob w) (hi : i.Ok w) (hx : x.Ok w) (hy : y.Ok w) (li : i.len ≤ 140737488351232) (lx : x.len ≤ 140737488351232) (ly : y.len ≤ 140737488351232) :
    Calls Tryz.prog 5 #[.slice i.a i.len i.cap, .int .u64 (n : Int), .agg (twoC x y)] w fun e w' => e = .returned (.bool true) ∧ Below w.heap.size w w' := by
  obtain ⟨xs, n0, E, l0, hN, hM⟩ := nonce_cases i.b n
  obtain ⟨ys, m0, F, l1, hP, hQ⟩ := mask_cases x.b y.b
  obtain ⟨W0, hW0⟩ : ∃ W, W = w.alloc (.cells (twoC x y) 54) := ⟨_, rfl⟩
  have b0 : Below w.heap.size w W0 := by rw [hW0]; exact (Below.refl _ w).alloc (Nat.le_refl _) _
  have r0 : Row W0 w.heap.size 54 (twoC x y) := by rw [hW0]; exact Row.new _ _ _
  have HN := veil hN
  have HM := veil hM
  have HP := veil hP
  have HQ := veil hQ
  have HG := veil hg
  have I0 := veil (hi.below b0)
  have X0 := veil (hx.below b0)
  have Y0 := veil (hy.below b0)
  have LI := veil li
  have LX := veil lx
  have LY := veil ly
  have hib := veil hi.hb
  have hxb := veil hx.hb
  have hyb := veil hy.hb
  have L0 := veil l0
  have L1 := veil l1
  have R0 := veil r0
  have B0 := veil b0
  have hee : (E != E) = false := by simp
  have hff : (F != F) = false := by simp
  clear hN hM hP hQ hg hi hx hy li lx ly l0 l1 r0 b0
  go_enter Tryz.func5, Tryz.ntmps5
  go_wp2_with fail
  show Calls _ _ _ (w.alloc (.cells (twoC x y) 54)) _
  rw [← hW0]
  clear hW0
  refine (twin_own i W0 I0.out LI.out).mono ?_
  rintro e1 w1 ⟨gi, rfl, ht, ho, hb⟩
  have I1 := veil (I0.out.below hb)
  have X1 := veil (X0.out.below hb)
  have Y1 := veil (Y0.out.below hb)
  have R1 := veil (R0.out.below hb R0.out.lt)
  have B1 := veil (B0.out.trans (hb.mono B0.out.size))
  clear I0 X0 Y0 R0
  have TI1 := veil ht
  have OI1 := veil (RowW.of_own ho)
  have c0 : w1.cell? ⟨w.heap.size, 0, none⟩ = some (.slice x.a x.len x.cap) := R1.out.cell 0
  clear ht ho hb
  go_wp2_with fail
  refine (twin_own x w1 X1.out LX.out).mono ?_
  rintro e2 w2 ⟨gx, rfl, ht, ho, hb⟩
  have aix := veil (roww_apart OI1.out (RowW.of_own ho))
  have I2 := veil (I1.out.below hb)
  have X2 := veil (X1.out.below hb)
  have Y2 := veil (Y1.out.below hb)
  have R2 := veil (R1.out.below hb R1.out.lt)
  have B2 := veil (B1.out.trans (hb.mono B1.out.size))
  have TI2 := veil (TI1.out.below hb)
  have OI2 := veil (OI1.out.below hb)
  clear I1 X1 Y1 R1 TI1 OI1
  have TX2 := veil ht
  have OX2 := veil (RowW.of_own ho)
  clear c0
  have c1 : w2.cell? ⟨w.heap.size, 1, none⟩ = some (.slice y.a y.len y.cap) := R2.out.cell 1
  clear ht ho hb
  go_wp2_with fail
  refine (twin_own y w2 Y2.out LY.out).mono ?_
  rintro e3 w3 ⟨gy, rfl, ht, ho, hb⟩
  have aiy := veil (roww_apart OI2.out (RowW.of_own ho))
  have axy := veil (roww_apart OX2.out (RowW.of_own ho))
  have I3 := veil (I2.out.below hb)
  have X3 := veil (X2.out.below hb)
  have Y3 := veil (Y2.out.below hb)
  have R3 := veil (R2.out.below hb R2.out.lt)
  have B3 := veil (B2.out.trans (hb.mono B2.out.size))
  have TI3 := veil (TI2.out.below hb)
  have OI3 := veil (OI2.out.below hb)
  have TX3 := veil (TX2.out.below hb)
  have OX3 := veil (OX2.out.below hb)
  clear I2 X2 Y2 R2 TI2 OI2 TX2 OX2
  have TY3 := veil ht
  have OY3 := veil (RowW.of_own ho)
  clear c1 ht ho hb
  go_wp2_with fail
  refine (HN.out (twinS gi i.len i.b) w3 (TI3.out.ok hib.out) rfl).mono ?_
  rintro e4 w4 ⟨a1, d1, rfl, ho, hb⟩
  have ai1 := veil (roww_apart OI3.out ho)
  have ax1 := veil (roww_apart OX3.out ho)
  have ay1 := veil (roww_apart OY3.out ho)
  have I4 := veil (I3.out.below hb)
  have X4 := veil (X3.out.below hb)
  have Y4 := veil (Y3.out.below hb)
  have R4 := veil (R3.out.below hb R3.out.lt)
  have B4 := veil (B3.out.trans (hb.mono B3.out.size))
  have TI4 := veil (TI3.out.below hb)
  have OI4 := veil (OI3.out.below hb)
  have TX4 := veil (TX3.out.below hb)
  have OX4 := veil (OX3.out.below hb)
  have TY4 := veil (TY3.out.below hb)
  have OY4 := veil (OY3.out.below hb)
  clear I3 X3 Y3 R3 TI3 OI3 TX3 OX3 TY3 OY3
  have OA4 := veil ho
  clear ho hb
  go_wp2_with fail
  refine (HP.out (twinS gx x.len x.b) (twinS gy y.len y.b) w4 (HG.out.below B4.out (Nat.le_refl _)) (TX4.out.ok hxb.out) (TY4.out.ok hyb.out) rfl rfl).mono ?_
  rintro e5 w5 ⟨a2, d2, rfl, ho, hb⟩
  have ai2 := veil (roww_apart OI4.out ho)
  have ax2 := veil (roww_apart OX4.out ho)
  have ay2 := veil (roww_apart OY4.out ho)
  have a12 := veil (roww_apart OA4.out ho)
  have I5 := veil (I4.out.below hb)
  have X5 := veil (X4.out.below hb)
  have Y5 := veil (Y4.out.below hb)
  have R5 := veil (R4.out.below hb R4.out.lt)
  have B5 := veil (B4.out.trans (hb.mono B4.out.size))
  have TI5 := veil (TI4.out.below hb)
  have OI5 := veil (OI4.out.below hb)
  have TX5 := veil (TX4.out.below hb)
  have OX5 := veil (OX4.out.below hb)
  have TY5 := veil (TY4.out.below hb)
  have OY5 := veil (OY4.out.below hb)
  have OA5 := veil (OA4.out.below hb)
  clear I4 X4 Y4 R4 TI4 OI4 TX4 OX4 TY4 OY4 OA4
  have OB5 := veil ho
  clear ho hb
  go_wp2_with fail
  refine (HM.out i w5 I5.out rfl).mono ?_
  rintro e6 w6 ⟨p, rfl, hp, hpb, hb⟩
  have I6 := veil (I5.out.below hb)
  have X6 := veil (X5.out.below hb)
  have Y6 := veil (Y5.out.below hb)
  have R6 := veil (R5.out.below hb R5.out.lt)
  have B6 := veil (B5.out.trans (hb.mono B5.out.size))
  have TI6 := veil (TI5.out.below hb)
  have OI6 := veil (OI5.out.below hb)
  have TX6 := veil (TX5.out.below hb)
  have OX6 := veil (OX5.out.below hb)
  have TY6 := veil (TY5.out.below hb)
  have OY6 := veil (OY5.out.below hb)
  have OA6 := veil (OA5.out.below hb)
  have OB6 := veil (OB5.out.below hb)
  clear I5 X5 Y5 R5 TI5 OI5 TX5 OX5 TY5 OY5 OA5 OB5
  have QP6 := veil hp
  have EP := veil hpb
  clear hp hpb hb
  have c0 : w6.cell? ⟨w.heap.size, 0, none⟩ = some (.slice x.a x.len x.cap) := R6.out.cell 0
  have c1 : w6.cell? ⟨w.heap.size, 1, none⟩ = some (.slice y.a y.len y.cap) := R6.out.cell 1
  go_wp2_with fail
  refine (HQ.out x y w6 X6.out Y6.out rfl rfl).mono ?_
  rintro e7 w7 ⟨q, rfl, hq, hqb, hb⟩
  have I7 := veil (I6.out.below hb)
  have X7 := veil (X6.out.below hb)
  have Y7 := veil (Y6.out.below hb)
  have R7 := veil (R6.out.below hb R6.out.lt)
  have B7 := veil (B6.out.trans (hb.mono B6.out.size))
  have TI7 := veil (TI6.out.below hb)
  have OI7 := veil (OI6.out.below hb)
  have TX7 := veil (TX6.out.below hb)
  have OX7 := veil (OX6.out.below hb)
  have TY7 := veil (TY6.out.below hb)
  have OY7 := veil (OY6.out.below hb)
  have OA7 := veil (OA6.out.below hb)
  have OB7 := veil (OB6.out.below hb)
  have QP7 := veil (QP6.out.below hb)
  clear I6 X6 Y6 R6 TI6 OI6 TX6 OX6 TY6 OY6 OA6 OB6 QP6
  have QQ7 := veil hq
  have EQ := veil hqb
  clear hq hqb hb c0 c1
  have HS1 : Hid (Calls Tryz.prog 10 #[.slice a1 n0 d1, .slice p.a p.len p.cap] w7 fun e w' => e = .returned (.bool true) ∧ Below w7.heap.size w7 w') := by
    obtain ⟨z, hv, hl, hb, hok⟩ := sl_of_roww OA7.out
    rw [hv]
    have := L0.out
    exact same_yesK z p w7 hok QP7.out (by omega) (by rw [hb, EP.out])
  have HS2 : Hid (∀ W, Below w7.heap.size w7 W → Calls Tryz.prog 10 #[.slice a2 m0 d2, .slice q.a q.len q.cap] W fun e w' => e = .returned (.bool true) ∧ Below W.heap.size W w') := fun W hW => by
    obtain ⟨z, hv, hl, hb, hok⟩ := sl_of_roww OB7.out
    rw [hv]
    have := L1.out
    exact same_yesK z q W (hok.below hW) (QQ7.out.below hW) (by omega) (by rw [hb, EQ.out])
  go_wp2_with fail
  refine HS1.out.mono ?_
  rintro e8 w8 ⟨rfl, hb⟩
  have C8 := veil hb
  clear hb HS1
  go_wp2_with fail
  refine (HS2.out w8 C8.out).mono ?_
  rintro e9 w9 ⟨rfl, hb⟩
  have C9 := veil (C8.out.trans (hb.mono C8.out.size))
  clear hb HS2 C8
  go_wp2_with fail
  refine (left_sl i gi w9 (I7.out.below C9.out) LI.out (TI7.out.below C9.out)).mono ?_
  rintro e10 w10 ⟨rfl, hb⟩
  have C10 := veil (C9.out.trans (hb.mono C9.out.size))
  clear hb C9
  have c0 : w10.cell? ⟨w.heap.size, 0, none⟩ = some (.slice x.a x.len x.cap) := (R7.out.below C10.out R7.out.lt).cell 0
  go_wp2_with fail
  refine (left_sl x gx w10 (X7.out.below C10.out) LX.out (TX7.out.below C10.out)).mono ?_
  rintro e11 w11 ⟨rfl, hb⟩
  have C11 := veil (C10.out.trans (hb.mono C10.out.size))
  clear hb C10 c0
  have c1 : w11.cell? ⟨w.heap.size, 1, none⟩ = some (.slice y.a y.len y.cap) := (R7.out.below C11.out R7.out.lt).cell 1
  go_wp2_with fail
  refine (left_sl y gy w11 (Y7.out.below C11.out) LY.out (TY7.out.below C11.out)).mono ?_
  rintro e12 w12 ⟨rfl, hb⟩
  have C12 := veil (C11.out.trans (hb.mono C11.out.size))
  have B12 := veil (B7.out.trans (C12.out.mono B7.out.size))
  have RI := veil ((OI7.out.below C12.out).low B0.out.size)
  have RX := veil ((OX7.out.below C12.out).low B1.out.size)
  have RY := veil ((OY7.out.below C12.out).low B2.out.size)
  have RA := veil ((OA7.out.below C12.out).low B3.out.size)
  have RB := veil ((OB7.out.below C12.out).low B4.out.size)
  have KB0 := veil (KB.new w.heap.size w w12 B12.out.size B12.out 42)
  clear hb C11 C12 c1 I7 X7 Y7 R7 TI7 OI7 TX7 OX7 TY7 OY7 OA7 OB7 QP7 QQ7 B0 B1 B2 B3 B4 B5 B6 B7
  go_wp2_with fail
  refine (KB0.out.tell (.slice (some ⟨gi, 0, none⟩) i.len (i.len + 1)) i.len _ (by simp) (RI.out.alloc _) (fun k e => (RI.out.lt k e).2) (fun p hp => by simp at hp)).mono ?_
  rintro e13 w13 ⟨rfl, kb, hh⟩
  have KB1 := veil kb
  have HH1 := veil ((Holds.alloc w.heap.size w12.heap.size w12 (.cells bookZ 42)).trans hh)
  clear kb hh KB0
  go_wp2_with fail
  refine (KB1.out.tell (.slice (some ⟨gx, 0, none⟩) x.len (x.len + 1)) x.len _ (by simp) (HH1.out _ _ _ RX.out (fun k e => (RX.out.lt k e).2)) (fun k e => (RX.out.lt k e).2) (fun p hp => by
      simp only [List.nil_append, List.mem_cons, List.not_mem_nil, or_false] at hp
      subst hp
      exact aix.out)).mono ?_
  rintro e14 w14 ⟨rfl, kb, hh⟩
  have KB2 := veil kb
  have HH2 := veil (HH1.out.trans hh)
  clear kb hh KB1 HH1
  go_wp2_with fail
  refine (KB2.out.tell (.slice (some ⟨gy, 0, none⟩) y.len (y.len + 1)) y.len _ (by simp) (HH2.out _ _ _ RY.out (fun k e => (RY.out.lt k e).2)) (fun k e => (RY.out.lt k e).2) (fun p hp => by
      simp only [List.nil_append, List.cons_append, List.mem_cons, List.not_mem_nil, or_false] at hp
      rcases hp with rfl | rfl
      · exact aiy.out
      · exact axy.out)).mono ?_
  rintro e15 w15 ⟨rfl, kb, hh⟩
  have KB3 := veil kb
  have HH3 := veil (HH2.out.trans hh)
  clear kb hh KB2 HH2
  go_wp2_with fail
  refine (KB3.out.tell (.slice a1 n0 d1) n0 _ (by simp) (HH3.out _ _ _ RA.out (fun k e => (RA.out.lt k e).2)) (fun k e => (RA.out.lt k e).2) (fun p hp => by
      simp only [List.nil_append, List.cons_append, List.mem_cons, List.not_mem_nil, or_false] at hp
      rcases hp with rfl | rfl | rfl
      · exact ai1.out
      · exact ax1.out
      · exact ay1.out)).mono ?_
  rintro e16 w16 ⟨rfl, kb, hh⟩
  have KB4 := veil kb
  have HH4 := veil (HH3.out.trans hh)
  clear kb hh KB3 HH3
  go_wp2_with fail
  refine (KB4.out.tell (.slice a2 m0 d2) m0 _ (by simp) (HH4.out _ _ _ RB.out (fun k e => (RB.out.lt k e).2)) (fun k e => (RB.out.lt k e).2) (fun p hp => by
      simp only [List.nil_append, List.cons_append, List.mem_cons, List.not_mem_nil, or_false] at hp
      rcases hp with rfl | rfl | rfl | rfl
      · exact ai2.out
      · exact ax2.out
      · exact ay2.out
      · exact a12.out)).mono ?_
  rintro e17 w17 ⟨rfl, kb, hh⟩
  have KB5 := veil kb
  have HH5 := veil (HH4.out.trans hh)
  clear kb hh KB4 HH4
  go_wp2_with fail
  refine (KB5.out.apart (by simp) (by simp) (fun p hp => by
    simp only [List.nil_append, List.cons_append, List.mem_cons, List.not_mem_nil, or_false] at hp
    have h1 := LI.out
    have h2 := LX.out
    have h3 := LY.out
    have h4 := L0.out
    have h5 := L1.out
    rcases hp with rfl | rfl | rfl | rfl | rfl
    · show i.len ≤ _; omega
    · show x.len ≤ _; omega
    · show y.len ≤ _; omega
    · show n0 ≤ _; omega
    · show m0 ≤ _; omega)).mono ?_
  rintro e18 w18 ⟨rfl, hb⟩
  have B18 := veil hb
  clear hb KB5
  go_wp2_with fail
  refine (lives_any w18 (HG.out.below B18.out (Nat.le_refl _))).mono ?_
  rintro e19 w19 ⟨rfl, hb⟩
  have B19 := veil (B18.out.trans (hb.mono B18.out.size))
  clear hb
  go_wp2_with fail
  go_ret
  exact ⟨rfl, B19.out⟩
end Go.Proofs.YtlicflmpakkccaaGreatDoor

/-
  The law's alive, walked.
-/
import Derived.Test.YtjhgelhdhdcmfaaDoorGfFrAlive
import Derived.Lib.SlBytesConst
namespace Go.Proofs.YtjhgelhdhdcmfaaDoor
open Go Go.RowKit

def aM1 (g : Nat) : FrM := ⟨3, 0, 0, 5, 0, false, ⟨none, 0, 0, 0, 0, []⟩, ⟨some ⟨g, 0, none⟩, 2, 2, g, 0, [(1, 3), (7, 9)]⟩⟩
def aM2 (g : Nat) : FrM := ⟨7, 4, 0, 0, 0, true, ⟨some ⟨g, 0, none⟩, 2, 2, g, 0, [97, 98]⟩, ⟨none, 0, 0, 0, 0, []⟩⟩
def aM3 : FrM := ⟨2, 0, 0, 1, 0, false, ⟨none, 0, 0, 0, 0, []⟩, ⟨none, 0, 0, 0, 0, []⟩⟩
theorem rowF_ok {w : World} {g n : Nat} {t : TypeId} {b : List By} {fr : Nat × Nat} (h : w.heap[g]? = some (.cells (bs b) t fr)) (hn : b.length = n) : (rowN g n b).Ok w := by
  subst hn
  refine ⟨rfl, Nat.le_refl _, fun e => by simp [rowN] at e, fun _ => rfl, fun _ => (Array.getElem?_eq_some_iff.1 h).1, fun j hj => ?_⟩
  show w.cell? ⟨g, 0 + j, none⟩ = _
  rw [Nat.zero_add, cell_of_row w g j (bs b) t fr h]
  exact bs_get b j hj
theorem heap_new7 (w : World) (o : Obj) : (w.alloc o).heap[w.heap.size]? = some o := _root_.Go.heap_alloc_new w o
theorem nilS_ok7 (w : World) : (⟨none, 0, 0, 0, 0, []⟩ : SL).Ok w := ⟨rfl, Nat.le_refl _, fun _ => ⟨rfl, rfl⟩, fun h => absurd h (Nat.lt_irrefl _), fun h => absurd h (Nat.lt_irrefl _), fun _ h => absurd h (Nat.not_lt_zero _)⟩
theorem nilR_ok7 (w : World) : (⟨none, 0, 0, 0, 0, []⟩ : RL).Ok w := ⟨rfl, Nat.le_refl _, fun _ => ⟨rfl, rfl⟩, fun h => absurd h (Nat.lt_irrefl _), fun h => absurd h (Nat.lt_irrefl _), fun _ h => absurd h (Nat.not_lt_zero _), fun j => by simp [gr]⟩
theorem aM1_ok {w : World} {g : Nat} {t : TypeId} (h : Row w g t #[.int .u64 1, .int .u64 3, .int .u64 7, .int .u64 9]) : (aM1 g).Ok w := by
  refine ⟨nilS_ok7 w, ⟨rfl, Nat.le_refl _, fun e => (by cases e), fun _ => rfl, fun _ => h.lt, fun j hj => ?_, fun j => ?_⟩, show 3 < 256 by decide, show 0 < 18446744073709551616 by decide, show 0 < 18446744073709551616 by decide, show 5 < 18446744073709551616 by decide, show 0 < 18446744073709551616 by decide⟩
  · have hj2 : j < 2 := hj
    obtain rfl | rfl : j = 0 ∨ j = 1 := by omega
    · exact ⟨h.cell 0, h.cell 1⟩
    · exact ⟨h.cell 2, h.cell 3⟩
  · rcases j with _ | _ | j <;> exact ⟨by simp [gr, aM1], by simp [gr, aM1]⟩
theorem aM2_ok {w : World} {g : Nat} (h : (rowN g 2 [97, 98]).Ok w) : (aM2 g).Ok w :=
  ⟨h, nilR_ok7 w, show 7 < 256 by decide, show 4 < 18446744073709551616 by decide, show 0 < 18446744073709551616 by decide, show 0 < 18446744073709551616 by decide, show 0 < 18446744073709551616 by decide⟩
theorem aM3_ok (w : World) : aM3.Ok w := ⟨nilS_ok7 w, nilR_ok7 w, by decide, by decide, by decide, by decide, by decide⟩

theorem al1 (w : World) (hL : Lens w) (hN : Named w) : Calls Tryd.prog 10 #[.slice (some ⟨w.heap.size + 1, 0, none⟩) 1 1] ((w.alloc (.cells #[.int .u64 1, .int .u64 3, .int .u64 7, .int .u64 9] 44)).alloc (.cells (aM1 w.heap.size).cells 39))
    fun e w' => ∃ s : SL, e = .returned (.tuple #[.slice s.a s.len s.cap, .int .i64 0]) ∧ s.len = 7 ∧ s.b = [2, 9, 5, 1, 2, 2, 2] ∧ s.Ok w' ∧ Below w.heap.size w w' := by
  have b0 : Below w.heap.size w ((w.alloc (.cells #[.int .u64 1, .int .u64 3, .int .u64 7, .int .u64 9] 44)).alloc (.cells (aM1 w.heap.size).cells 39)) := ((Below.refl _ w).alloc (Nat.le_refl _) _).alloc (by simp) _
  refine (put_one (w.heap.size + 1) (aM1 w.heap.size) _ (Row.new1 _ _ _ _) (aM1_ok ((Row.new _ _ _).alloc _)) (show (0 : Nat) ≤ 4000000 by decide) (hL.step b0) (hN.step b0)).mono ?_
  rintro e w' ⟨s, rfl, hl, hb, hok, _, hbel⟩
  have e1 : putE [(aM1 w.heap.size).fr] = 0 := a_e1
  have e2 : putO [(aM1 w.heap.size).fr] = [2, 9, 5, 1, 2, 2, 2] := a_o1
  rw [e2] at hl hb
  rw [e1]
  exact ⟨s, rfl, hl, hb, hok, b0.trans (hbel.mono b0.size)⟩
theorem al2 (w : World) (g : Nat) (h : (rowN g 2 [97, 98]).Ok w) (hL : Lens w) (hN : Named w) : Calls Tryd.prog 10 #[.slice (some ⟨w.heap.size, 0, none⟩) 1 1] (w.alloc (.cells (aM2 g).cells 39))
    fun e w' => ∃ s : SL, e = .returned (.tuple #[.slice s.a s.len s.cap, .int .i64 0]) ∧ s.len = 5 ∧ s.b = [11, 4, 2, 97, 98] ∧ s.Ok w' ∧ Below w.heap.size w w' := by
  have b0 : Below w.heap.size w (w.alloc (.cells (aM2 g).cells 39)) := (Below.refl _ w).alloc (Nat.le_refl _) _
  refine (put_one w.heap.size (aM2 g) _ (Row.new _ _ _) (aM2_ok (h.alloc _)) (show (2 : Nat) ≤ 4000000 by decide) (hL.step b0) (hN.step b0)).mono ?_
  rintro e w' ⟨s, rfl, hl, hb, hok, _, hbel⟩
  have e1 : putE [(aM2 g).fr] = 0 := a_e2
  have e2 : putO [(aM2 g).fr] = [11, 4, 2, 97, 98] := a_o2
  rw [e2] at hl hb
  rw [e1]
  exact ⟨s, rfl, hl, hb, hok, b0.trans (hbel.mono b0.size)⟩
theorem al3 (w : World) (hL : Lens w) (hN : Named w) : Calls Tryd.prog 10 #[.slice (some ⟨w.heap.size, 0, none⟩) 1 1] (w.alloc (.cells aM3.cells 39))
    fun e w' => ∃ v : Value, e = .returned (.tuple #[v, .int .i64 1]) ∧ Below w.heap.size w w' := by
  have b0 : Below w.heap.size w (w.alloc (.cells aM3.cells 39)) := (Below.refl _ w).alloc (Nat.le_refl _) _
  refine (put_one w.heap.size aM3 _ (Row.new _ _ _) (aM3_ok _) (show (0 : Nat) ≤ 4000000 by decide) (hL.step b0) (hN.step b0)).mono ?_
  rintro e w' ⟨s, rfl, hl, hb, hok, _, hbel⟩
  have e1 : putE [aM3.fr] = 1 := a_e3
  rw [e1]
  exact ⟨_, rfl, b0.trans (hbel.mono b0.size)⟩

set_option maxRecDepth 20000 in
set_option maxHeartbeats 400000 in
theorem alive_any (w : World) (hL : Lens w) (hN : Named w) : Calls Tryd.prog 7 #[] w fun e w' => e = .returned (.bool true) ∧ Below w.heap.size w w' := by
  have HL := veil hL
  have HN := veil hN
  clear hL hN
  go_enter Tryd.func7, Tryd.ntmps7
  go_wp2_with fail
  refine (al1 w HL.out HN.out).mono ?_
  rintro e1 w1 ⟨s1, rfl, hl1, hb1, hok1, bel1⟩
  have B1 := veil bel1
  have S1 := veil (show s1.b = [2, 9, 5, 1, 2, 2, 2] ∧ s1.Ok w1 ∧ s1.len = 7 from ⟨hb1, hok1, hl1⟩)
  clear hl1 hb1 hok1 bel1
  have hc1 := Lib.run_convert_bytes_const (P := Tryd.prog) w1 26 5 #[.int .u8 97, .int .u8 98] 2 2 Tryd.underlying26 Tryd.underlying5
  obtain ⟨W1, hW1⟩ : ∃ W1, W1 = w1.alloc (.cells #[.int .u8 97, .int .u8 98] 5 ((#[.int .u8 97, .int .u8 98] : Array Value).size, (#[.int .u8 97, .int .u8 98] : Array Value).size + 1)) := ⟨_, rfl⟩
  rw [← hW1] at hc1
  have BW := veil (show Below w1.heap.size w1 W1 by rw [hW1]; exact (Below.refl _ w1).alloc (Nat.le_refl _) _)
  have RW := veil (show (rowN w1.heap.size 2 [97, 98]).Ok W1 from rowF_ok (t := 5) (by rw [hW1]; exact heap_new7 w1 _) rfl)
  clear hW1
  go_wp2_with fail
  refine (al2 W1 w1.heap.size RW.out ((HL.out.step B1.out).step BW.out) ((HN.out.step B1.out).step BW.out)).mono ?_
  rintro e2 w2 ⟨s2, rfl, hl2, hb2, hok2, bel2'⟩
  have bel2 := BW.out.trans (bel2'.mono BW.out.size)
  clear bel2' hc1 BW RW
  have B2 := veil (B1.out.trans (bel2.mono B1.out.size))
  have S1' := veil (show s1.b = [2, 9, 5, 1, 2, 2, 2] ∧ s1.Ok w2 ∧ s1.len = 7 from ⟨S1.out.1, S1.out.2.1.below bel2, S1.out.2.2⟩)
  have S2 := veil (show s2.b = [11, 4, 2, 97, 98] ∧ s2.Ok w2 ∧ s2.len = 5 from ⟨hb2, hok2, hl2⟩)
  clear hl2 hb2 hok2 bel2 S1 B1
  have A3 := veil (show Below w2.heap.size w2 (w2.alloc (.cells #[.int .u8 1, .int .u8 0, .int .u8 0, .int .u8 0] 5)) from (Below.refl _ w2).alloc (Nat.le_refl _) _)
  go_wp2_with fail
  refine (get_two w2.heap.size _ _ (Row.new _ _ _) ((HL.out.step B2.out).step A3.out)).mono ?_
  rintro e3 w3 ⟨⟨G, off, c, F0, F1, rfl, f0, f1, hG, r0, r1⟩, bel3⟩
  have B23 := veil (A3.out.trans (bel3.mono A3.out.size))
  have B3 := veil (B2.out.trans (B23.out.mono B2.out.size))
  have S13 := veil (show s1.b = [2, 9, 5, 1, 2, 2, 2] ∧ s1.Ok w3 ∧ s1.len = 7 from ⟨S1'.out.1, S1'.out.2.1.below B23.out, S1'.out.2.2⟩)
  have S23 := veil (show s2.b = [11, 4, 2, 97, 98] ∧ s2.Ok w3 ∧ s2.len = 5 from ⟨S2.out.1, S2.out.2.1.below B23.out, S2.out.2.2⟩)
  have FF := veil (show (F0.fr = ⟨2, 0, 0, 0, 0, false, [], []⟩ ∧ F1.fr = ⟨1, 0, 0, 3, 0, false, [], []⟩) ∧ G < w3.heap.size ∧ w3.rangeAt G off F0.cells.toList ∧ w3.rangeAt G (off + 8) F1.cells.toList from ⟨⟨f0, f1⟩, hG, r0, r1⟩)
  clear f0 f1 hG r0 r1 bel3 B23 B2 S1' S2 A3
  have A4 := veil (show Below w3.heap.size w3 (w3.alloc (.cells #[.int .u8 3] 5)) from (Below.refl _ w3).alloc (Nat.le_refl _) _)
  go_wp2_with fail
  refine (get_bad w3.heap.size 1 [3] 5 _ _ (Row.new _ _ _) rfl ((HL.out.step B3.out).step A4.out) a_g2).mono ?_
  rintro e4 w4 ⟨rfl, bel4⟩
  have B34 := veil (A4.out.trans (bel4.mono A4.out.size))
  clear bel4 A4
  have A5 := veil (show Below w4.heap.size w4 (w4.alloc (.cells #[.int .u8 4, .int .u8 1] 5)) from (Below.refl _ w4).alloc (Nat.le_refl _) _)
  go_wp2_with fail
  refine (get_bad w4.heap.size 2 [4, 1] 4 _ _ (Row.new _ _ _) rfl (((HL.out.step B3.out).step B34.out).step A5.out) a_g3).mono ?_
  rintro e5 w5 ⟨rfl, bel5⟩
  have B35 := veil (B34.out.trans ((A5.out.trans (bel5.mono A5.out.size)).mono B34.out.size))
  clear bel5 A5 B34
  go_wp2_with fail
  refine (al3 w5 ((HL.out.step B3.out).step B35.out) ((HN.out.step B3.out).step B35.out)).mono ?_
  rintro e6 w6 ⟨v6, rfl, bel6⟩
  have B36 := veil (B35.out.trans (bel6.mono B35.out.size))
  clear bel6 B35
  have B6 := veil (B3.out.trans (B36.out.mono B3.out.size))
  have S16 := veil (show s1.b = [2, 9, 5, 1, 2, 2, 2] ∧ s1.Ok w6 ∧ s1.len = 7 from ⟨S13.out.1, S13.out.2.1.below B36.out, S13.out.2.2⟩)
  have S26 := veil (show s2.b = [11, 4, 2, 97, 98] ∧ s2.Ok w6 ∧ s2.len = 5 from ⟨S23.out.1, S23.out.2.1.below B36.out, S23.out.2.2⟩)
  have A7 := veil (show Below w6.heap.size w6 (w6.alloc (.cells #[.int .u8 2, .int .u8 9, .int .u8 5, .int .u8 1, .int .u8 2, .int .u8 2, .int .u8 2] 5)) from (Below.refl _ w6).alloc (Nat.le_refl _) _)
  go_wp2_with fail
  refine (same_sl s1 (rowN w6.heap.size 7 [2, 9, 5, 1, 2, 2, 2]) _ (S16.out.2.1.below A7.out) (rowN_ok (Row.new _ _ _) rfl) S16.out.1 (by have := S16.out.2.2; omega)).mono ?_
  rintro e7 w7 ⟨rfl, bel7⟩
  have B67 := veil (A7.out.trans (bel7.mono A7.out.size))
  clear bel7 A7
  have A8 := veil (show Below w7.heap.size w7 (w7.alloc (.cells #[.int .u8 11, .int .u8 4, .int .u8 2, .int .u8 97, .int .u8 98] 5)) from (Below.refl _ w7).alloc (Nat.le_refl _) _)
  go_wp2_with fail
  refine (same_sl s2 (rowN w7.heap.size 5 [11, 4, 2, 97, 98]) _ ((S26.out.2.1.below B67.out).below A8.out) (rowN_ok (Row.new _ _ _) rfl) S26.out.1 (by have := S26.out.2.2; omega)).mono ?_
  rintro e8 w8 ⟨rfl, bel8⟩
  have B68 := veil (B67.out.trans ((A8.out.trans (bel8.mono A8.out.size)).mono B67.out.size))
  have B38 := veil (B36.out.trans (B68.out.mono B36.out.size))
  clear bel8 A8 B67 S13 S23 S16 S26
  obtain ⟨k0, st0, of0, li0, co0, fi0, da0, ra0⟩ := F0
  obtain ⟨k1, st1, of1, li1, co1, fi1, da1, ra1⟩ := F1
  obtain ⟨⟨f0, f1⟩, hG, r0, r1⟩ := FF.out
  obtain ⟨rfl, rfl, rfl, rfl, rfl, rfl, _, _⟩ := Fr.Frame.mk.inj f0
  obtain ⟨rfl, rfl, rfl, rfl, rfl, rfl, _, _⟩ := Fr.Frame.mk.inj f1
  have R0 := veil (show w8.rangeAt G off (FrM.mk 2 0 0 0 0 false da0 ra0).cells.toList from fun i v hv => (B38.out.cell (p := ⟨G, off + i, none⟩) hG).trans (r0 i v hv))
  have R1 := veil (show w8.rangeAt G (off + 8) (FrM.mk 1 0 0 3 0 false da1 ra1).cells.toList from fun i v hv => (B38.out.cell (p := ⟨G, off + 8 + i, none⟩) hG).trans (r1 i v hv))
  have G8 := veil (show G < w8.heap.size from Nat.lt_of_lt_of_le hG B38.out.size)
  have B8 := veil (B6.out.trans (B68.out.mono B6.out.size))
  clear FF f0 f1 hG r0 r1 B38 B68 B6 B3 B36
  have a0 : w8.cell? ⟨G, off, none⟩ = _ := R0.out 0 _ rfl
  have a1 := R0.out 1 _ rfl
  have a2 := R0.out 2 _ rfl
  have a3 := R0.out 3 _ rfl
  have a4 := R0.out 4 _ rfl
  have a5 := R0.out 5 _ rfl
  have a6 := R0.out 6 _ rfl
  have a7 := R0.out 7 _ rfl
  have b3 : w8.cell? ⟨G, off + 11, none⟩ = _ := R1.out 3 _ rfl
  simp only at a0 a1 a2 a3 a4 a5 a6 a7 b3
  go_wp2_with fail
  refine (fr_eliciting (FrM.mk 2 0 0 0 0 false da0 ra0) w8 (show 2 < 256 by decide)).mono ?_
  rintro e9 w9 ⟨rfl, bel9⟩
  rw [show elicits (FrM.mk 2 0 0 0 0 false da0 ra0).kind = true from rfl]
  have R9 := veil (show w9.rangeAt G (off + 8) (FrM.mk 1 0 0 3 0 false da1 ra1).cells.toList from fun i v hv => (bel9.cell (p := ⟨G, off + 8 + i, none⟩) G8.out).trans (R1.out i v hv))
  have B9 := veil (B8.out.trans (bel9.mono B8.out.size))
  clear a0 a1 a2 a3 a4 a5 a6 a7 b3 bel9 R0 R1 B8 G8
  have a0 : w9.cell? ⟨G, off + 8, none⟩ = _ := R9.out 0 _ rfl
  have a1 : w9.cell? ⟨G, off + 8 + 1, none⟩ = _ := R9.out 1 _ rfl
  have a2 : w9.cell? ⟨G, off + 8 + 2, none⟩ = _ := R9.out 2 _ rfl
  have a3 : w9.cell? ⟨G, off + 8 + 3, none⟩ = _ := R9.out 3 _ rfl
  have a4 : w9.cell? ⟨G, off + 8 + 4, none⟩ = _ := R9.out 4 _ rfl
  have a5 : w9.cell? ⟨G, off + 8 + 5, none⟩ = _ := R9.out 5 _ rfl
  have a6 : w9.cell? ⟨G, off + 8 + 6, none⟩ = _ := R9.out 6 _ rfl
  have a7 : w9.cell? ⟨G, off + 8 + 7, none⟩ = _ := R9.out 7 _ rfl
  simp only at a0 a1 a2 a3 a4 a5 a6 a7
  go_wp2_with fail
  refine (fr_eliciting (FrM.mk 1 0 0 3 0 false da1 ra1) w9 (show 1 < 256 by decide)).mono ?_
  rintro e10 w10 ⟨rfl, bel10⟩
  rw [show elicits (FrM.mk 1 0 0 3 0 false da1 ra1).kind = false from rfl]
  have B10 := veil (B9.out.trans (bel10.mono B9.out.size))
  clear a0 a1 a2 a3 a4 a5 a6 a7 bel10 R9 B9
  go_wp2_with fail
  go_ret
  exact ⟨rfl, B10.out⟩
end Go.Proofs.YtjhgelhdhdcmfaaDoor

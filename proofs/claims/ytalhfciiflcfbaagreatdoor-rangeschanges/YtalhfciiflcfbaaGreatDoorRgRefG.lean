/-
  What the document's Add, Cut and Meet answer.
-/
import Derived.Test.YtalhfciiflcfbaaGreatDoorRgRefF
namespace Go.Proofs.YtalhfciiflcfbaaGreatDoor
open Go Go.RowKit Go.Shelf

theorem litR {W : World} {g x y : Nat} {t : TypeId} (r : Row W g t #[.int .u64 (x : Int), .int .u64 (y : Int)]) (hx : x < 18446744073709551616) (hy : y < 18446744073709551616) : RL.Ok W ⟨some ⟨g, 0, none⟩, 1, 1, g, 0, [(x, y)]⟩ := by
  refine ⟨rfl, Nat.le_refl _, (fun e => by cases e), fun _ => rfl, fun _ => r.lt, fun j hj => ?_, fun j => ?_⟩
  · obtain rfl : j = 0 := by simp only at hj; omega
    exact ⟨r.cell 0, r.cell 1⟩
  · match j with
    | 0 => exact ⟨hx, hy⟩
    | j + 1 => simp [gr]

set_option maxRecDepth 20000 in
set_option maxHeartbeats 2000000 in
theorem ref_add8 (s : RL) (x y : Nat) (w : World) (hs : s.Ok w) (hx : x < 18446744073709551616) (hy : y < 18446744073709551616) :
    Calls Tryz.prog 9 #[.slice s.a s.len s.cap, .agg #[.int .u64 (x : Int), .int .u64 (y : Int)]] w fun e w' => ∃ (o : RL) (E : Int), e = .returned (.tuple #[.slice o.a o.len o.cap, .int .i64 E]) ∧ Rg.Comb Rg.orB s.l [(x, y)] o.l E ∧ AnsR w.heap.size w' o ∧ Below w.heap.size w w' := by
  have B0 := veil ((Below.refl w.heap.size w).alloc (Nat.le_refl _) (.cells #[.int .u64 (x : Int), .int .u64 (y : Int)] 25))
  have HS := veil (hs.below B0.out)
  have RB : Hid (Row (w.alloc (.cells #[.int .u64 (x : Int), .int .u64 (y : Int)] 25)) w.heap.size 25 #[.int .u64 (x : Int), .int .u64 (y : Int)]) := Row.new _ _ _
  have c0 := RB.out.cell 0
  have c1 := RB.out.cell 1
  clear hs
  go_enter Tryz.func9, Tryz.ntmps9
  go_wp2_with fail
  generalize (w.alloc (.cells #[.int .u64 (x : Int), .int .u64 (y : Int)] 25)) = v0 at *
  refine (ref_check8 s v0 HS.out).mono ?_
  rintro e1 w1 ⟨hc1, hb1⟩
  have B1 := veil (B0.out.trans (hb1.mono B0.out.size))
  have HS1 := veil (HS.out.below hb1)
  have RB1 := veil (RB.out.below hb1 RB.out.lt)
  clear c0 c1 hb1 HS RB B0
  rcases hc1 with ⟨rfl, hset⟩ | ⟨rfl, hset⟩
  · have c0 := RB1.out.cell 0
    have c1 := RB1.out.cell 1
    have HSET := veil hset
    clear hset
    go_wp2_with fail
    refine (ref_may8 x y w1).mono ?_
    rintro e2 w2 ⟨rfl, hb2⟩
    have B2 := veil (B1.out.trans (hb2.mono B1.out.size))
    have HS2 := veil (HS1.out.below hb2)
    have RB2 := veil (RB1.out.below hb2 RB1.out.lt)
    clear c0 c1 hb2 HS1 RB1 B1
    cases hm : (decide (x ≤ y) && decide (y ≤ 4611686018427387903))
    · have HN := veil (show Rg.Comb Rg.orB s.l [(x, y)] [] 1 from .inl ⟨(fun h => by
        have := (Rg.setOk_one x y).1 h.2
        rw [decide_eq_true this.1, decide_eq_true this.2] at hm
        cases hm), rfl, rfl⟩)
      clear hm
      go_wp2_with fail
      go_ret2
      exact ⟨⟨none, 0, 0, 0, 0, []⟩, 1, rfl, HN.out, ans_nil _ _, B2.out⟩
    · have HOK := veil (show Rg.setOk [(x, y)] by
        simp only [Bool.and_eq_true, decide_eq_true_eq] at hm
        exact (Rg.setOk_one x y).2 hm)
      have c0 := RB2.out.cell 0
      have c1 := RB2.out.cell 1
      clear hm
      go_wp2_with fail
      have B3 := veil (B2.out.alloc B2.out.size (.cells #[.int .u64 (x : Int), .int .u64 (y : Int)] 25))
      have O1 : Hid (RL.Ok (w2.alloc (.cells #[.int .u64 (x : Int), .int .u64 (y : Int)] 25)) ⟨some ⟨w2.heap.size, 0, none⟩, 1, 1, w2.heap.size, 0, [(x, y)]⟩) := litR (Row.new _ _ _) hx hy
      refine (ref_both8 0 (by decide) s ⟨some ⟨w2.heap.size, 0, none⟩, 1, 1, w2.heap.size, 0, [(x, y)]⟩ _ (HS2.out.below ((Below.refl _ w2).alloc (Nat.le_refl _) _)) O1.out HSET.out HOK.out).mono ?_
      rintro e3 w3 ⟨o, E, rfl, hc, ha, hb3⟩
      have HC : Hid (Rg.Comb Rg.orB s.l [(x, y)] o.l E) := hc
      have HA := veil (ha.low B3.out.size)
      have HB3 := veil (B3.out.trans (hb3.mono B3.out.size))
      clear hc ha hb3 c0 c1
      go_wp2_with fail
      go_ret2
      exact ⟨o, E, rfl, HC.out, HA.out, HB3.out⟩
  · have HN := veil (show Rg.Comb Rg.orB s.l [(x, y)] [] 1 from .inl ⟨fun h => hset h.1, rfl, rfl⟩)
    clear hset
    go_wp2_with fail
    go_ret2
    exact ⟨⟨none, 0, 0, 0, 0, []⟩, 1, rfl, HN.out, ans_nil _ _, B1.out⟩

set_option maxRecDepth 20000 in
set_option maxHeartbeats 2000000 in
theorem ref_cut8 (s : RL) (x y : Nat) (w : World) (hs : s.Ok w) (hx : x < 18446744073709551616) (hy : y < 18446744073709551616) :
    Calls Tryz.prog 10 #[.slice s.a s.len s.cap, .agg #[.int .u64 (x : Int), .int .u64 (y : Int)]] w fun e w' => ∃ (o : RL) (E : Int), e = .returned (.tuple #[.slice o.a o.len o.cap, .int .i64 E]) ∧ Rg.Comb Rg.butB s.l [(x, y)] o.l E ∧ AnsR w.heap.size w' o ∧ Below w.heap.size w w' := by
  have B0 := veil ((Below.refl w.heap.size w).alloc (Nat.le_refl _) (.cells #[.int .u64 (x : Int), .int .u64 (y : Int)] 25))
  have HS := veil (hs.below B0.out)
  have RB : Hid (Row (w.alloc (.cells #[.int .u64 (x : Int), .int .u64 (y : Int)] 25)) w.heap.size 25 #[.int .u64 (x : Int), .int .u64 (y : Int)]) := Row.new _ _ _
  have c0 := RB.out.cell 0
  have c1 := RB.out.cell 1
  clear hs
  go_enter Tryz.func10, Tryz.ntmps10
  go_wp2_with fail
  generalize (w.alloc (.cells #[.int .u64 (x : Int), .int .u64 (y : Int)] 25)) = v0 at *
  refine (ref_check8 s v0 HS.out).mono ?_
  rintro e1 w1 ⟨hc1, hb1⟩
  have B1 := veil (B0.out.trans (hb1.mono B0.out.size))
  have HS1 := veil (HS.out.below hb1)
  have RB1 := veil (RB.out.below hb1 RB.out.lt)
  clear c0 c1 hb1 HS RB B0
  rcases hc1 with ⟨rfl, hset⟩ | ⟨rfl, hset⟩
  · have c0 := RB1.out.cell 0
    have c1 := RB1.out.cell 1
    have HSET := veil hset
    clear hset
    go_wp2_with fail
    refine (ref_may8 x y w1).mono ?_
    rintro e2 w2 ⟨rfl, hb2⟩
    have B2 := veil (B1.out.trans (hb2.mono B1.out.size))
    have HS2 := veil (HS1.out.below hb2)
    have RB2 := veil (RB1.out.below hb2 RB1.out.lt)
    clear c0 c1 hb2 HS1 RB1 B1
    cases hm : (decide (x ≤ y) && decide (y ≤ 4611686018427387903))
    · have HN := veil (show Rg.Comb Rg.butB s.l [(x, y)] [] 1 from .inl ⟨(fun h => by
        have := (Rg.setOk_one x y).1 h.2
        rw [decide_eq_true this.1, decide_eq_true this.2] at hm
        cases hm), rfl, rfl⟩)
      clear hm
      go_wp2_with fail
      go_ret2
      exact ⟨⟨none, 0, 0, 0, 0, []⟩, 1, rfl, HN.out, ans_nil _ _, B2.out⟩
    · have HOK := veil (show Rg.setOk [(x, y)] by
        simp only [Bool.and_eq_true, decide_eq_true_eq] at hm
        exact (Rg.setOk_one x y).2 hm)
      have c0 := RB2.out.cell 0
      have c1 := RB2.out.cell 1
      clear hm
      go_wp2_with fail
      have B3 := veil (B2.out.alloc B2.out.size (.cells #[.int .u64 (x : Int), .int .u64 (y : Int)] 25))
      have O1 : Hid (RL.Ok (w2.alloc (.cells #[.int .u64 (x : Int), .int .u64 (y : Int)] 25)) ⟨some ⟨w2.heap.size, 0, none⟩, 1, 1, w2.heap.size, 0, [(x, y)]⟩) := litR (Row.new _ _ _) hx hy
      refine (ref_both8 1 (by decide) s ⟨some ⟨w2.heap.size, 0, none⟩, 1, 1, w2.heap.size, 0, [(x, y)]⟩ _ (HS2.out.below ((Below.refl _ w2).alloc (Nat.le_refl _) _)) O1.out HSET.out HOK.out).mono ?_
      rintro e3 w3 ⟨o, E, rfl, hc, ha, hb3⟩
      have HC : Hid (Rg.Comb Rg.butB s.l [(x, y)] o.l E) := hc
      have HA := veil (ha.low B3.out.size)
      have HB3 := veil (B3.out.trans (hb3.mono B3.out.size))
      clear hc ha hb3 c0 c1
      go_wp2_with fail
      go_ret2
      exact ⟨o, E, rfl, HC.out, HA.out, HB3.out⟩
  · have HN := veil (show Rg.Comb Rg.butB s.l [(x, y)] [] 1 from .inl ⟨fun h => hset h.1, rfl, rfl⟩)
    clear hset
    go_wp2_with fail
    go_ret2
    exact ⟨⟨none, 0, 0, 0, 0, []⟩, 1, rfl, HN.out, ans_nil _ _, B1.out⟩

set_option maxRecDepth 20000 in
set_option maxHeartbeats 2000000 in
theorem ref_meet8 (s t : RL) (w : World) (hs : s.Ok w) (ht : t.Ok w) :
    Calls Tryz.prog 19 #[.slice s.a s.len s.cap, .slice t.a t.len t.cap] w fun e w' => ∃ (o : RL) (E : Int), e = .returned (.tuple #[.slice o.a o.len o.cap, .int .i64 E]) ∧ Rg.Comb Rg.andB s.l t.l o.l E ∧ AnsR w.heap.size w' o ∧ Below w.heap.size w w' := by
  have HS := veil hs
  have HT := veil ht
  clear hs ht
  go_enter Tryz.func19, Tryz.ntmps19
  go_wp2_with fail
  refine (ref_check8 s w HS.out).mono ?_
  rintro e1 w1 ⟨hc1, hb1⟩
  have B1 := veil hb1
  clear hb1
  rcases hc1 with ⟨rfl, hset⟩ | ⟨rfl, hset⟩
  · have HSET := veil hset
    clear hset
    go_wp2_with fail
    refine (ref_check8 t w1 (HT.out.below B1.out)).mono ?_
    rintro e2 w2 ⟨hc2, hb2⟩
    have B2 := veil (B1.out.trans (hb2.mono B1.out.size))
    clear hb2 B1
    rcases hc2 with ⟨rfl, hset2⟩ | ⟨rfl, hset2⟩
    · have HSET2 := veil hset2
      clear hset2
      go_wp2_with fail
      refine (ref_both8 2 (by decide) s t w2 (HS.out.below B2.out) (HT.out.below B2.out) HSET.out HSET2.out).mono ?_
      rintro e3 w3 ⟨o, E, rfl, hc, ha, hb3⟩
      have HC : Hid (Rg.Comb Rg.andB s.l t.l o.l E) := hc
      have HA := veil (ha.low B2.out.size)
      have HB3 := veil (B2.out.trans (hb3.mono B2.out.size))
      clear hc ha hb3
      go_wp2_with fail
      go_ret2
      exact ⟨o, E, rfl, HC.out, HA.out, HB3.out⟩
    · have HN := veil (show Rg.Comb Rg.andB s.l t.l [] 1 from .inl ⟨fun h => hset2 h.2, rfl, rfl⟩)
      clear hset2
      go_wp2_with fail
      go_ret2
      exact ⟨⟨none, 0, 0, 0, 0, []⟩, 1, rfl, HN.out, ans_nil _ _, B2.out⟩
  · have HN := veil (show Rg.Comb Rg.andB s.l t.l [] 1 from .inl ⟨fun h => hset h.1, rfl, rfl⟩)
    clear hset
    go_wp2_with fail
    go_ret2
    exact ⟨⟨none, 0, 0, 0, 0, []⟩, 1, rfl, HN.out, ans_nil _ _, B1.out⟩
end Go.Proofs.YtalhfciiflcfbaaGreatDoor

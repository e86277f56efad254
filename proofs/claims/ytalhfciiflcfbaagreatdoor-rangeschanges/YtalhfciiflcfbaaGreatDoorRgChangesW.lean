/-
  RangesChanges, walked. Written by mkchg8.py.
-/
import Derived.Test.YtalhfciiflcfbaaGreatDoorRgAdd
import Derived.Test.YtalhfciiflcfbaaGreatDoorRgSame
import Derived.Test.YtalhfciiflcfbaaGreatDoorRgRefG
import Derived.Test.YtalhfciiflcfbaaGreatDoorRgBookZ
import Derived.Test.YtalhfciiflcfbaaGreatDoorFrLeftR
namespace Go.Proofs.YtalhfciiflcfbaaGreatDoor
open Go Go.RowKit Go.Shelf

set_option maxRecDepth 20000 in
set_option maxHeartbeats 1000000 in
theorem beyond_any (g n : Nat) (v : Nat → Nat) (w : World) (hn : n ≤ 1000) (hc : ∀ j, j < n → w.cell? ⟨g, j, none⟩ = some (.int .i64 (v j : Int))) (hv : ∀ j, j < n → v j ≤ 1000000000000000) :
    Calls Tryz.prog 5 #[.slice (some ⟨g, 0, none⟩) n n] w fun e w' => (∃ b, e = .returned (.bool b) ∧ (b = false → ∀ j, j < n → v j ≤ 1048576)) ∧ w' = w := by
  have HC := veil hc
  have HV := veil hv
  clear hc hv
  go_enter Tryz.func5, Tryz.ntmps5
  go_wp2_with fail
  go_loopw [3, 4] (fun s i wr => ∃ (k N : Nat), k ≤ n ∧ i = .int .i64 (k : Int) ∧ s = .int .i64 (N : Int) ∧ N ≤ 1048576 ∧ (∀ j, j < k → v j ≤ N) ∧ wr = w)
    (fun _ i _ => n - (intOf i).toNat)
  case atStart => exact ⟨0, 0, Nat.zero_le _, rfl, rfl, Nat.zero_le _, fun j hj => absurd hj (Nat.not_lt_zero _), rfl⟩
  case round =>
    obtain ⟨k, N, hk, rfl, rfl, hN, hJ, rfl⟩ := hrel
    have HJ := veil hJ
    clear hJ
    by_cases hlt : k < n
    · have hd0 : decide ((k : Int) < (n : Int)) = true := by simp; omega
      have hd0n : decide (k < n) = true := by simp; omega
      have hck := HC.out k hlt
      have hvk := HV.out k hlt
      have hw : IntKind.i64.wrap ((N : Int) + (v k : Int)) = (N : Int) + (v k : Int) := by rw [IntKind.wrap_i64]; omega
      by_cases hb : 1048576 < N + v k
      · have f1 : decide ((1048576 : Int) < (N : Int) + (v k : Int)) = true := decide_eq_true (by omega)
        go_wp2_with fail
        go_ret
        exact ⟨⟨true, rfl, fun e => by cases e⟩, rfl⟩
      · have f1 : decide ((1048576 : Int) < (N : Int) + (v k : Int)) = false := decide_eq_false (by omega)
        have J2 := veil (show ∀ j, j < k + 1 → v j ≤ N + v k by
          intro j hj
          rcases Nat.lt_or_ge j k with q | q
          · have := HJ.out j q; omega
          · obtain rfl : j = k := by omega
            omega)
        go_wp2_with fail
        go_roundw
        case rel => exact ⟨k + 1, N + v k, by omega, by go_num, by go_num, by omega, J2.out, by trivial⟩
        case measure => simp [intOf]; omega
    · have hd0 : decide ((k : Int) < (n : Int)) = false := by simp; omega
      have hd0n : decide (k < n) = false := by simp; omega
      have HR := veil (show ∀ j, j < n → v j ≤ 1048576 from fun j hj => by have := HJ.out j (by omega); omega)
      go_wp2_with fail
      go_ret
      exact ⟨⟨false, rfl, fun _ => HR.out⟩, rfl⟩
theorem beyond_one (w : World) (N : Nat) (hN : N ≤ 1000000000000000) : Calls Tryz.prog 5 #[.slice (some ⟨w.heap.size, 0, none⟩) 1 1] (w.alloc (.cells #[.int .i64 (N : Int)] 3)) fun e w' => (∃ b, e = .returned (.bool b) ∧ (b = false → N ≤ 1048576)) ∧ Below w.heap.size w w' := by
  have r : Row (w.alloc (.cells #[.int .i64 (N : Int)] 3)) w.heap.size 3 #[.int .i64 (N : Int)] := Row.new _ _ _
  refine (beyond_any w.heap.size 1 (fun _ => N) _ (by decide) (fun j hj => ?_) (fun _ _ => hN)).mono ?_
  · obtain rfl : j = 0 := by omega
    exact r.cell 0
  · rintro e w' ⟨⟨b, rfl, h⟩, rfl⟩
    exact ⟨⟨b, rfl, fun hb => h hb 0 (by decide)⟩, (Below.refl _ w).alloc (Nat.le_refl _) _⟩
theorem beyond_two (w : World) (N M : Nat) (hN : N ≤ 1000000000000000) (hM : M ≤ 1000000000000000) : Calls Tryz.prog 5 #[.slice (some ⟨w.heap.size, 0, none⟩) 2 2] (w.alloc (.cells #[.int .i64 (N : Int), .int .i64 (M : Int)] 3)) fun e w' => (∃ b, e = .returned (.bool b) ∧ (b = false → N ≤ 1048576 ∧ M ≤ 1048576)) ∧ Below w.heap.size w w' := by
  have r : Row (w.alloc (.cells #[.int .i64 (N : Int), .int .i64 (M : Int)] 3)) w.heap.size 3 #[.int .i64 (N : Int), .int .i64 (M : Int)] := Row.new _ _ _
  refine (beyond_any w.heap.size 2 (fun j => if j = 0 then N else M) _ (by decide) (fun j hj => ?_) (fun j _ => ?_)).mono ?_
  · obtain rfl | rfl : j = 0 ∨ j = 1 := by omega
    · exact r.cell 0
    · exact r.cell 1
  · show (if j = 0 then N else M) ≤ _
    split <;> omega
  · rintro e w' ⟨⟨b, rfl, h⟩, rfl⟩
    exact ⟨⟨b, rfl, fun hb => ⟨h hb 0 (by decide), h hb 1 (by decide)⟩⟩, (Below.refl _ w).alloc (Nat.le_refl _) _⟩
theorem own_sep {v u : Value} {a b c d : Nat} (h1 : ∀ k, v.ownBlock = some k → a ≤ k ∧ k < b) (h2 : ∀ k, u.ownBlock = some k → c ≤ k ∧ k < d) (h : b ≤ c) : v.ownBlock = none ∨ v.ownBlock ≠ u.ownBlock := by
  cases e : v.ownBlock with
  | none => exact .inl rfl
  | some z =>
    right
    intro e2
    have := (h1 z e).2
    have := (h2 z e2.symm).1
    omega
theorem beyond_at (w : World) (g N : Nat) (hN : N ≤ 1000000000000000) (hg : g = w.heap.size) : Calls Tryz.prog 5 #[.slice (some ⟨g, 0, none⟩) 1 1] (w.alloc (.cells #[.int .i64 (N : Int)] 3)) fun e w' => (∃ b, e = .returned (.bool b) ∧ (b = false → N ≤ 1048576)) ∧ Below w.heap.size w w' := by
  subst hg
  exact beyond_one w N hN
theorem comb_len {rule : Bool → Bool → Bool} {a b o : List (Nat × Nat)} {E : Int} (h : Rg.Comb rule a b o E) : o.length ≤ 64 := by
  rcases h with ⟨_, rfl, _⟩ | ⟨_, u, _, _, hc⟩
  · simp
  · rcases hc with ⟨g, rfl, _⟩ | ⟨_, rfl, _⟩
    · exact g
    · simp
theorem twin_ans {W : World} {g base : Nat} {s : RL} (h : W.ownsRow base 25 2 (.slice (some ⟨g, 0, none⟩) (s.len + 1) (s.len + 1)) (s.len + 1) (vr (s.l ++ [(77, 0)]))) (hb : s.l.length = s.len) (hsm : ∀ j, (gr s.l j).1 < 18446744073709551616 ∧ (gr s.l j).2 < 18446744073709551616) : AnsR base W ⟨some ⟨g, 0, none⟩, s.len, s.len + 1, g, 0, s.l⟩ := by
  have t := TwinR.of_own h
  refine ⟨⟨hb, Nat.le_succ _, fun e => (by cases e), fun _ => rfl, fun _ => t.lt, fun j hj => ?_, hsm⟩, ?_⟩
  · have := t.cell j (by rw [hb]; exact hj)
    rw [Nat.zero_add]
    exact this
  · have := Bo.own_prefix h
    rw [← hb, List.take_left' rfl, hb] at this
    exact this
theorem apart_five (S B : Nat) (n0 n1 n2 n3 n4 : Nat) (v0 v1 v2 v3 v4 : Value) (V : Value) (E : Nat → Value) (N : Nat → Nat) (X : Nat → List (Nat × Nat)) (x0 x1 x2 x3 x4 : List (Nat × Nat)) (w0 W : World) (h0 : n0 ≤ 5000000) (h1 : n1 ≤ 5000000) (h2 : n2 ≤ 5000000) (h3 : n3 ≤ 5000000) (h4 : n4 ≤ 5000000)
    (bk : Bo.Bk S B 5 5 V (Bo.upd (Bo.upd (Bo.upd (Bo.upd (Bo.upd E 0 v0) 1 v1) 2 v2) 3 v3) 4 v4) (Bo.upd (Bo.upd (Bo.upd (Bo.upd (Bo.upd N 0 n0) 1 n1) 2 n2) 3 n3) 4 n4) (Bo.upd (Bo.upd (Bo.upd (Bo.upd (Bo.upd X 0 x0) 1 x1) 2 x2) 3 x3) 4 x4) w0 W) :
    Calls Tryz.prog 16 #[.pointer (some ⟨B, 0, none⟩)] W fun e w' => e = .returned (.bool true) ∧ Below S w0 w' :=
  Bo.apart_book S B 5 V _ _ _ w0 W (by decide) (by decide) (fun i hi => by
    have : i = 0 ∨ i = 1 ∨ i = 2 ∨ i = 3 ∨ i = 4 := by omega
    rcases this with rfl | rfl | rfl | rfl | rfl
    · exact h0
    · exact h1
    · exact h2
    · exact h3
    · exact h4) bk

set_option maxRecDepth 100000 in
set_option maxHeartbeats 2000000 in
theorem changes_walk (s : RL) (x y : Nat) (w : World) (hs : s.Ok w) (hx : x < 18446744073709551616) (hy : y < 18446744073709551616) (hsl : s.len ≤ 1000000000000000) :
    Calls Tryz.prog 3 #[.slice s.a s.len s.cap, .agg #[.int .u64 (x : Int), .int .u64 (y : Int)]] w fun e w' => e = .returned (.bool true) ∧ Below w.heap.size w w' := by
  have HSB := veil hs.hb
  have HSM := veil hs.small
  have HB0 := veil ((Below.refl w.heap.size w).alloc (Nat.le_refl _) (.cells #[.int .u64 (x : Int), .int .u64 (y : Int)] 25))
  have OS := veil (hs.below HB0.out)
  have RB : Hid (Row (w.alloc (.cells #[.int .u64 (x : Int), .int .u64 (y : Int)] 25)) w.heap.size 25 #[.int .u64 (x : Int), .int .u64 (y : Int)]) := Row.new _ _ _
  have RBc0 := RB.out.cell 0
  have RBc1 := RB.out.cell 1
  have HZ0 := veil HB0.out.size
  clear hs
  go_enter Tryz.func3, Tryz.ntmps3
  go_wp2_with fail
  have hv0 : w.heap.size + 1 = (w.alloc (.cells #[.int .u64 (x : Int), .int .u64 (y : Int)] 25)).heap.size := by simp
  generalize (w.alloc (.cells #[.int .u64 (x : Int), .int .u64 (y : Int)] 25)) = v0 at *
  refine (beyond_at v0 (w.heap.size + 1) s.len hsl hv0).mono ?_
  rintro e1 w1 ⟨⟨b, rfl, hbn⟩, hb1⟩
  have HB1 := veil (HB0.out.trans (hb1.mono HB0.out.size))
  have OSq := veil (OS.out.below hb1)
  clear OS
  have OS := OSq
  clear OSq
  have RBq := veil (RB.out.below hb1 RB.out.lt)
  clear RB
  have RB := RBq
  clear RBq
  clear RBc0
  clear RBc1
  have RBc0 := RB.out.cell 0
  have RBc1 := RB.out.cell 1
  have HZ1 := veil hb1.size
  clear hb1 HB0
  cases b with
  | true =>
    go_wp2_with fail
    go_ret
    exact ⟨rfl, HB1.out⟩
  | false =>
  have hsm := hbn rfl
  clear hbn
  go_wp2_with fail
  refine (twin_rl s w1 OS.out hsm).mono ?_
  rintro e2 w2 ⟨rfl, hown, hb2⟩
  have HB2 := veil (HB1.out.trans (hb2.mono HB1.out.size))
  have OSq := veil (OS.out.below hb2)
  clear OS
  have OS := OSq
  clear OSq
  have RBq := veil (RB.out.below hb2 RB.out.lt)
  clear RB
  have RB := RBq
  clear RBq
  clear RBc0
  clear RBc1
  have RBc0 := RB.out.cell 0
  have RBc1 := RB.out.cell 1
  have TT := veil (TwinR.of_own hown)
  have AT := veil (twin_ans hown HSB.out HSM.out)
  have IT := veil (fun k e => AT.out.own.lt k e)
  have HZ2 := veil hb2.size
  clear hown
  clear hb2 HB1
  go_wp2_with fail
  refine (rg_add ⟨some ⟨w1.heap.size, 0, none⟩, s.len, s.len + 1, w1.heap.size, 0, s.l⟩ x y w2 AT.out.ok hx hy).mono ?_
  rintro e3 w3 ⟨o3, E3, rfl, hc3, ha3, hb3⟩
  have HB3 := veil (HB2.out.trans (hb3.mono HB2.out.size))
  have OSq := veil (OS.out.below hb3)
  clear OS
  have OS := OSq
  clear OSq
  have TTq := veil (TT.out.below hb3)
  clear TT
  have TT := TTq
  clear TTq
  have ATq := veil (AT.out.below hb3)
  clear AT
  have AT := ATq
  clear ATq
  have RBq := veil (RB.out.below hb3 RB.out.lt)
  clear RB
  have RB := RBq
  clear RBq
  clear RBc0
  clear RBc1
  have RBc0 := RB.out.cell 0
  have RBc1 := RB.out.cell 1
  have A1 := veil ha3
  have C1 := veil hc3
  have I1 := veil (fun k e => ha3.own.lt k e)
  have N1 := veil (show o3.len ≤ 64 by rw [← ha3.ok.hb]; exact comb_len hc3)
  have HZ3 := veil hb3.size
  clear ha3 hc3
  clear hb3 HB2
  go_wp2_with fail
  refine (rg_add ⟨some ⟨w1.heap.size, 0, none⟩, s.len, s.len + 1, w1.heap.size, 0, s.l⟩ x y w3 AT.out.ok hx hy).mono ?_
  rintro e4 w4 ⟨o4, E4, rfl, hc4, ha4, hb4⟩
  have HB4 := veil (HB3.out.trans (hb4.mono HB3.out.size))
  have OSq := veil (OS.out.below hb4)
  clear OS
  have OS := OSq
  clear OSq
  have TTq := veil (TT.out.below hb4)
  clear TT
  have TT := TTq
  clear TTq
  have ATq := veil (AT.out.below hb4)
  clear AT
  have AT := ATq
  clear ATq
  have A1q := veil (A1.out.below hb4)
  clear A1
  have A1 := A1q
  clear A1q
  have RBq := veil (RB.out.below hb4 RB.out.lt)
  clear RB
  have RB := RBq
  clear RBq
  clear RBc0
  clear RBc1
  have RBc0 := RB.out.cell 0
  have RBc1 := RB.out.cell 1
  have A2 := veil ha4
  have C2 := veil hc4
  have I2 := veil (fun k e => ha4.own.lt k e)
  have N2 := veil (show o4.len ≤ 64 by rw [← ha4.ok.hb]; exact comb_len hc4)
  have HZ4 := veil hb4.size
  clear ha4 hc4
  clear hb4 HB3
  go_wp2_with fail
  refine (rg_cut ⟨some ⟨w1.heap.size, 0, none⟩, s.len, s.len + 1, w1.heap.size, 0, s.l⟩ x y w4 AT.out.ok hx hy).mono ?_
  rintro e5 w5 ⟨o5, E5, rfl, hc5, ha5, hb5⟩
  have HB5 := veil (HB4.out.trans (hb5.mono HB4.out.size))
  have OSq := veil (OS.out.below hb5)
  clear OS
  have OS := OSq
  clear OSq
  have TTq := veil (TT.out.below hb5)
  clear TT
  have TT := TTq
  clear TTq
  have ATq := veil (AT.out.below hb5)
  clear AT
  have AT := ATq
  clear ATq
  have A1q := veil (A1.out.below hb5)
  clear A1
  have A1 := A1q
  clear A1q
  have A2q := veil (A2.out.below hb5)
  clear A2
  have A2 := A2q
  clear A2q
  have RBq := veil (RB.out.below hb5 RB.out.lt)
  clear RB
  have RB := RBq
  clear RBq
  clear RBc0
  clear RBc1
  have RBc0 := RB.out.cell 0
  have RBc1 := RB.out.cell 1
  have A3 := veil ha5
  have C3 := veil hc5
  have I3 := veil (fun k e => ha5.own.lt k e)
  have N3 := veil (show o5.len ≤ 64 by rw [← ha5.ok.hb]; exact comb_len hc5)
  have HZ5 := veil hb5.size
  clear ha5 hc5
  clear hb5 HB4
  go_wp2_with fail
  refine (rg_cut ⟨some ⟨w1.heap.size, 0, none⟩, s.len, s.len + 1, w1.heap.size, 0, s.l⟩ x y w5 AT.out.ok hx hy).mono ?_
  rintro e6 w6 ⟨o6, E6, rfl, hc6, ha6, hb6⟩
  have HB6 := veil (HB5.out.trans (hb6.mono HB5.out.size))
  have OSq := veil (OS.out.below hb6)
  clear OS
  have OS := OSq
  clear OSq
  have TTq := veil (TT.out.below hb6)
  clear TT
  have TT := TTq
  clear TTq
  have ATq := veil (AT.out.below hb6)
  clear AT
  have AT := ATq
  clear ATq
  have A1q := veil (A1.out.below hb6)
  clear A1
  have A1 := A1q
  clear A1q
  have A2q := veil (A2.out.below hb6)
  clear A2
  have A2 := A2q
  clear A2q
  have A3q := veil (A3.out.below hb6)
  clear A3
  have A3 := A3q
  clear A3q
  have RBq := veil (RB.out.below hb6 RB.out.lt)
  clear RB
  have RB := RBq
  clear RBq
  clear RBc0
  clear RBc1
  have RBc0 := RB.out.cell 0
  have RBc1 := RB.out.cell 1
  have A4 := veil ha6
  have C4 := veil hc6
  have I4 := veil (fun k e => ha6.own.lt k e)
  have N4 := veil (show o6.len ≤ 64 by rw [← ha6.ok.hb]; exact comb_len hc6)
  have HZ6 := veil hb6.size
  clear ha6 hc6
  clear hb6 HB5
  go_wp2_with fail
  refine (ref_add8 s x y w6 OS.out hx hy).mono ?_
  rintro e7 w7 ⟨o7, E7, rfl, hc7, ha7, hb7⟩
  have HB7 := veil (HB6.out.trans (hb7.mono HB6.out.size))
  have OSq := veil (OS.out.below hb7)
  clear OS
  have OS := OSq
  clear OSq
  have TTq := veil (TT.out.below hb7)
  clear TT
  have TT := TTq
  clear TTq
  have ATq := veil (AT.out.below hb7)
  clear AT
  have AT := ATq
  clear ATq
  have A1q := veil (A1.out.below hb7)
  clear A1
  have A1 := A1q
  clear A1q
  have A2q := veil (A2.out.below hb7)
  clear A2
  have A2 := A2q
  clear A2q
  have A3q := veil (A3.out.below hb7)
  clear A3
  have A3 := A3q
  clear A3q
  have A4q := veil (A4.out.below hb7)
  clear A4
  have A4 := A4q
  clear A4q
  have RBq := veil (RB.out.below hb7 RB.out.lt)
  clear RB
  have RB := RBq
  clear RBq
  clear RBc0
  clear RBc1
  have RBc0 := RB.out.cell 0
  have RBc1 := RB.out.cell 1
  have A5 := veil ha7
  have C5 := veil hc7
  have I5 := veil (fun k e => ha7.own.lt k e)
  have N5 := veil (show o7.len ≤ 64 by rw [← ha7.ok.hb]; exact comb_len hc7)
  have HZ7 := veil hb7.size
  clear ha7 hc7
  clear hb7 HB6
  go_wp2_with fail
  refine (ref_cut8 s x y w7 OS.out hx hy).mono ?_
  rintro e8 w8 ⟨o8, E8, rfl, hc8, ha8, hb8⟩
  have HB8 := veil (HB7.out.trans (hb8.mono HB7.out.size))
  have OSq := veil (OS.out.below hb8)
  clear OS
  have OS := OSq
  clear OSq
  have TTq := veil (TT.out.below hb8)
  clear TT
  have TT := TTq
  clear TTq
  have ATq := veil (AT.out.below hb8)
  clear AT
  have AT := ATq
  clear ATq
  have A1q := veil (A1.out.below hb8)
  clear A1
  have A1 := A1q
  clear A1q
  have A2q := veil (A2.out.below hb8)
  clear A2
  have A2 := A2q
  clear A2q
  have A3q := veil (A3.out.below hb8)
  clear A3
  have A3 := A3q
  clear A3q
  have A4q := veil (A4.out.below hb8)
  clear A4
  have A4 := A4q
  clear A4q
  have A5q := veil (A5.out.below hb8)
  clear A5
  have A5 := A5q
  clear A5q
  have RBq := veil (RB.out.below hb8 RB.out.lt)
  clear RB
  have RB := RBq
  clear RBq
  clear RBc0
  clear RBc1
  have RBc0 := RB.out.cell 0
  have RBc1 := RB.out.cell 1
  have A6 := veil ha8
  have C6 := veil hc8
  have I6 := veil (fun k e => ha8.own.lt k e)
  have N6 := veil (show o8.len ≤ 64 by rw [← ha8.ok.hb]; exact comb_len hc8)
  have HZ8 := veil hb8.size
  clear ha8 hc8
  clear hb8 HB7
  clear RB RBc0 RBc1 HSB HSM hx hy
  obtain ⟨q15, rE15⟩ := Rg.comb_unique C1.out C5.out
  obtain ⟨q36, rE36⟩ := Rg.comb_unique C3.out C6.out
  subst rE15 rE36
  have Q15 := veil q15
  have Q36 := veil q36
  have hee1 : (E3 != E3) = false := by simp
  have hee3 : (E5 != E5) = false := by simp
  clear q15 q36 C1 C2 C3 C4 C5 C6
  go_wp2_with fail
  refine (same_rl o3 o7 w8 A1.out.ok A5.out.ok Q15.out (by have := N1.out; omega)).mono ?_
  rintro e9 w9 ⟨rfl, hb9⟩
  have HB9 := veil (HB8.out.trans (hb9.mono HB8.out.size))
  have OSq := veil (OS.out.below hb9)
  clear OS
  have OS := OSq
  clear OSq
  have TTq := veil (TT.out.below hb9)
  clear TT
  have TT := TTq
  clear TTq
  have ATq := veil (AT.out.below hb9)
  clear AT
  have AT := ATq
  clear ATq
  have A1q := veil (A1.out.below hb9)
  clear A1
  have A1 := A1q
  clear A1q
  have A2q := veil (A2.out.below hb9)
  clear A2
  have A2 := A2q
  clear A2q
  have A3q := veil (A3.out.below hb9)
  clear A3
  have A3 := A3q
  clear A3q
  have A4q := veil (A4.out.below hb9)
  clear A4
  have A4 := A4q
  clear A4q
  have A5q := veil (A5.out.below hb9)
  clear A5
  have A5 := A5q
  clear A5q
  have A6q := veil (A6.out.below hb9)
  clear A6
  have A6 := A6q
  clear A6q
  have HZ9 := veil hb9.size
  clear hb9 HB8
  go_wp2_with fail
  clear A5 Q15
  refine (same_rl o5 o8 w9 A3.out.ok A6.out.ok Q36.out (by have := N3.out; omega)).mono ?_
  rintro e10 w10 ⟨rfl, hb10⟩
  have HB10 := veil (HB9.out.trans (hb10.mono HB9.out.size))
  have OSq := veil (OS.out.below hb10)
  clear OS
  have OS := OSq
  clear OSq
  have TTq := veil (TT.out.below hb10)
  clear TT
  have TT := TTq
  clear TTq
  have ATq := veil (AT.out.below hb10)
  clear AT
  have AT := ATq
  clear ATq
  have A1q := veil (A1.out.below hb10)
  clear A1
  have A1 := A1q
  clear A1q
  have A2q := veil (A2.out.below hb10)
  clear A2
  have A2 := A2q
  clear A2q
  have A3q := veil (A3.out.below hb10)
  clear A3
  have A3 := A3q
  clear A3q
  have A4q := veil (A4.out.below hb10)
  clear A4
  have A4 := A4q
  clear A4q
  have A6q := veil (A6.out.below hb10)
  clear A6
  have A6 := A6q
  clear A6q
  have HZ10 := veil hb10.size
  clear hb10 HB9
  go_wp2_with fail
  clear A6 Q36
  refine (left_rl s w1.heap.size w10 OS.out hsm TT.out).mono ?_
  rintro e11 w11 ⟨rfl, hb11⟩
  have HB11 := veil (HB10.out.trans (hb11.mono HB10.out.size))
  have OSq := veil (OS.out.below hb11)
  clear OS
  have OS := OSq
  clear OSq
  have TTq := veil (TT.out.below hb11)
  clear TT
  have TT := TTq
  clear TTq
  have ATq := veil (AT.out.below hb11)
  clear AT
  have AT := ATq
  clear ATq
  have A1q := veil (A1.out.below hb11)
  clear A1
  have A1 := A1q
  clear A1q
  have A2q := veil (A2.out.below hb11)
  clear A2
  have A2 := A2q
  clear A2q
  have A3q := veil (A3.out.below hb11)
  clear A3
  have A3 := A3q
  clear A3q
  have A4q := veil (A4.out.below hb11)
  clear A4
  have A4 := A4q
  clear A4q
  have HZ11 := veil hb11.size
  clear hb11 HB10
  go_wp2_with fail
  clear TT
  refine (rg_check ⟨some ⟨w1.heap.size, 0, none⟩, s.len, s.len + 1, w1.heap.size, 0, s.l⟩ w11 AT.out.ok).mono ?_
  rintro e12 w12 ⟨hck, hb12⟩
  have HB12 := veil (HB11.out.trans (hb12.mono HB11.out.size))
  have OSq := veil (OS.out.below hb12)
  clear OS
  have OS := OSq
  clear OSq
  have ATq := veil (AT.out.below hb12)
  clear AT
  have AT := ATq
  clear ATq
  have A1q := veil (A1.out.below hb12)
  clear A1
  have A1 := A1q
  clear A1q
  have A2q := veil (A2.out.below hb12)
  clear A2
  have A2 := A2q
  clear A2q
  have A3q := veil (A3.out.below hb12)
  clear A3
  have A3 := A3q
  clear A3q
  have A4q := veil (A4.out.below hb12)
  clear A4
  have A4 := A4q
  clear A4q
  have HZ12 := veil hb12.size
  clear hb12 HB11
  obtain ⟨b, hbs⟩ : ∃ b : Bool, e12 = .returned (.bool b) ∧ (b = true ↔ Rg.setOk s.l) := by
    rcases hck with ⟨h, h2⟩ | ⟨h, h2⟩
    · exact ⟨true, h, by simpa using h2⟩
    · exact ⟨false, h, by simpa using h2⟩
  obtain ⟨rfl, hbs⟩ := hbs
  have HBS := veil hbs
  have hbb : (b != b) = false := by cases b <;> rfl
  clear hck hbs
  go_wp2_with fail
  refine (ref_check8 s w12 OS.out).mono ?_
  rintro e13 w13 ⟨hck2, hb13⟩
  have HB13 := veil (HB12.out.trans (hb13.mono HB12.out.size))
  have OSq := veil (OS.out.below hb13)
  clear OS
  have OS := OSq
  clear OSq
  have ATq := veil (AT.out.below hb13)
  clear AT
  have AT := ATq
  clear ATq
  have A1q := veil (A1.out.below hb13)
  clear A1
  have A1 := A1q
  clear A1q
  have A2q := veil (A2.out.below hb13)
  clear A2
  have A2 := A2q
  clear A2q
  have A3q := veil (A3.out.below hb13)
  clear A3
  have A3 := A3q
  clear A3q
  have A4q := veil (A4.out.below hb13)
  clear A4
  have A4 := A4q
  clear A4q
  have HZ13 := veil hb13.size
  clear hb13 HB12
  obtain rfl : e13 = .returned (.bool b) := by
    have := HBS.out
    rcases hck2 with ⟨h, h2⟩ | ⟨h, h2⟩
    · rw [h, this.2 h2]
    · rw [h]
      cases b
      · rfl
      · exact absurd (this.1 rfl) h2
  clear hck2 HBS OS
  go_wp2_with fail
  have HBk := veil (Bo.Bk.new w.heap.size (fun _ => .slice none 0 0) (fun _ => 0) (fun _ => []) w w13 HB13.out.size HB13.out 46)
  have P0 := veil ((own_low2 AT.out.own (show w.heap.size ≤ _ by have := HZ0.out; have := HZ1.out; have := HZ2.out; have := HZ3.out; have := HZ4.out; have := HZ5.out; have := HZ6.out; have := HZ7.out; have := HZ8.out; omega)).alloc (.cells #[.int .i64 0, .slice none 0 0, .slice none 0 0, .slice none 0 0, .slice none 0 0, .slice none 0 0, .slice none 0 0, .slice none 0 0, .slice none 0 0, .slice none 0 0, .slice none 0 0, .slice none 0 0, .slice none 0 0] 46))
  have L0 := veil (fun z e => (AT.out.own.lt z e).2)
  have P1 := veil ((own_low2 A1.out.own (show w.heap.size ≤ _ by have := HZ0.out; have := HZ1.out; have := HZ2.out; have := HZ3.out; have := HZ4.out; have := HZ5.out; have := HZ6.out; have := HZ7.out; have := HZ8.out; omega)).alloc (.cells #[.int .i64 0, .slice none 0 0, .slice none 0 0, .slice none 0 0, .slice none 0 0, .slice none 0 0, .slice none 0 0, .slice none 0 0, .slice none 0 0, .slice none 0 0, .slice none 0 0, .slice none 0 0, .slice none 0 0] 46))
  have L1 := veil (fun z e => (A1.out.own.lt z e).2)
  have P2 := veil ((own_low2 A2.out.own (show w.heap.size ≤ _ by have := HZ0.out; have := HZ1.out; have := HZ2.out; have := HZ3.out; have := HZ4.out; have := HZ5.out; have := HZ6.out; have := HZ7.out; have := HZ8.out; omega)).alloc (.cells #[.int .i64 0, .slice none 0 0, .slice none 0 0, .slice none 0 0, .slice none 0 0, .slice none 0 0, .slice none 0 0, .slice none 0 0, .slice none 0 0, .slice none 0 0, .slice none 0 0, .slice none 0 0, .slice none 0 0] 46))
  have L2 := veil (fun z e => (A2.out.own.lt z e).2)
  have P3 := veil ((own_low2 A3.out.own (show w.heap.size ≤ _ by have := HZ0.out; have := HZ1.out; have := HZ2.out; have := HZ3.out; have := HZ4.out; have := HZ5.out; have := HZ6.out; have := HZ7.out; have := HZ8.out; omega)).alloc (.cells #[.int .i64 0, .slice none 0 0, .slice none 0 0, .slice none 0 0, .slice none 0 0, .slice none 0 0, .slice none 0 0, .slice none 0 0, .slice none 0 0, .slice none 0 0, .slice none 0 0, .slice none 0 0, .slice none 0 0] 46))
  have L3 := veil (fun z e => (A3.out.own.lt z e).2)
  have P4 := veil ((own_low2 A4.out.own (show w.heap.size ≤ _ by have := HZ0.out; have := HZ1.out; have := HZ2.out; have := HZ3.out; have := HZ4.out; have := HZ5.out; have := HZ6.out; have := HZ7.out; have := HZ8.out; omega)).alloc (.cells #[.int .i64 0, .slice none 0 0, .slice none 0 0, .slice none 0 0, .slice none 0 0, .slice none 0 0, .slice none 0 0, .slice none 0 0, .slice none 0 0, .slice none 0 0, .slice none 0 0, .slice none 0 0, .slice none 0 0] 46))
  have L4 := veil (fun z e => (A4.out.own.lt z e).2)
  refine (Bo.ranges_any w.heap.size w13.heap.size 0 _ _ _ _ w _ (.slice (some ⟨w1.heap.size, 0, none⟩) s.len (s.len + 1)) s.len _ (by decide) HBk.out P0.out L0.out (fun i hi => absurd hi (Nat.not_lt_zero _))).mono ?_
  rintro eb0 wb0 ⟨rfl, V0, bk0, hold0⟩
  have HK0 := veil bk0
  have P1q := veil (hold0 _ _ _ P1.out L1.out)
  clear P1
  have P1 := P1q
  clear P1q
  have P2q := veil (hold0 _ _ _ P2.out L2.out)
  clear P2
  have P2 := P2q
  clear P2q
  have P3q := veil (hold0 _ _ _ P3.out L3.out)
  clear P3
  have P3 := P3q
  clear P3q
  have P4q := veil (hold0 _ _ _ P4.out L4.out)
  clear P4
  have P4 := P4q
  clear P4q
  clear bk0 hold0
  have HA1 : ∀ i, i < 1 → ((Bo.upd (fun _ => Value.slice none 0 0) 0 (Value.slice (some ⟨w1.heap.size, 0, none⟩) s.len (s.len + 1))) i).ownBlock = none ∨ ((Bo.upd (fun _ => Value.slice none 0 0) 0 (Value.slice (some ⟨w1.heap.size, 0, none⟩) s.len (s.len + 1))) i).ownBlock ≠ (Value.slice o3.a o3.len o3.cap).ownBlock := by
    intro i hi
    have : i = 0 := by omega
    obtain rfl := this
    exact own_sep IT.out I1.out (by have := HZ0.out; have := HZ1.out; have := HZ2.out; have := HZ3.out; have := HZ4.out; have := HZ5.out; have := HZ6.out; have := HZ7.out; have := HZ8.out; omega)
  go_wp2_with fail
  refine (Bo.ranges_any w.heap.size w13.heap.size 1 _ _ _ _ w _ (.slice o3.a o3.len o3.cap) o3.len _ (by decide) HK0.out P1.out L1.out (fun i hi => HA1 i hi)).mono ?_
  rintro eb1 wb1 ⟨rfl, V1, bk1, hold1⟩
  have HK1 := veil bk1
  have P2q := veil (hold1 _ _ _ P2.out L2.out)
  clear P2
  have P2 := P2q
  clear P2q
  have P3q := veil (hold1 _ _ _ P3.out L3.out)
  clear P3
  have P3 := P3q
  clear P3q
  have P4q := veil (hold1 _ _ _ P4.out L4.out)
  clear P4
  have P4 := P4q
  clear P4q
  clear bk1 hold1
  have HA2 : ∀ i, i < 2 → ((Bo.upd (Bo.upd (fun _ => Value.slice none 0 0) 0 (Value.slice (some ⟨w1.heap.size, 0, none⟩) s.len (s.len + 1))) 1 (Value.slice o3.a o3.len o3.cap)) i).ownBlock = none ∨ ((Bo.upd (Bo.upd (fun _ => Value.slice none 0 0) 0 (Value.slice (some ⟨w1.heap.size, 0, none⟩) s.len (s.len + 1))) 1 (Value.slice o3.a o3.len o3.cap)) i).ownBlock ≠ (Value.slice o4.a o4.len o4.cap).ownBlock := by
    intro i hi
    have : i = 0 ∨ i = 1 := by omega
    rcases this with rfl | rfl
    · exact own_sep IT.out I2.out (by have := HZ0.out; have := HZ1.out; have := HZ2.out; have := HZ3.out; have := HZ4.out; have := HZ5.out; have := HZ6.out; have := HZ7.out; have := HZ8.out; omega)
    · exact own_sep I1.out I2.out (by have := HZ0.out; have := HZ1.out; have := HZ2.out; have := HZ3.out; have := HZ4.out; have := HZ5.out; have := HZ6.out; have := HZ7.out; have := HZ8.out; omega)
  go_wp2_with fail
  refine (Bo.ranges_any w.heap.size w13.heap.size 2 _ _ _ _ w _ (.slice o4.a o4.len o4.cap) o4.len _ (by decide) HK1.out P2.out L2.out (fun i hi => HA2 i hi)).mono ?_
  rintro eb2 wb2 ⟨rfl, V2, bk2, hold2⟩
  have HK2 := veil bk2
  have P3q := veil (hold2 _ _ _ P3.out L3.out)
  clear P3
  have P3 := P3q
  clear P3q
  have P4q := veil (hold2 _ _ _ P4.out L4.out)
  clear P4
  have P4 := P4q
  clear P4q
  clear bk2 hold2
  have HA3 : ∀ i, i < 3 → ((Bo.upd (Bo.upd (Bo.upd (fun _ => Value.slice none 0 0) 0 (Value.slice (some ⟨w1.heap.size, 0, none⟩) s.len (s.len + 1))) 1 (Value.slice o3.a o3.len o3.cap)) 2 (Value.slice o4.a o4.len o4.cap)) i).ownBlock = none ∨ ((Bo.upd (Bo.upd (Bo.upd (fun _ => Value.slice none 0 0) 0 (Value.slice (some ⟨w1.heap.size, 0, none⟩) s.len (s.len + 1))) 1 (Value.slice o3.a o3.len o3.cap)) 2 (Value.slice o4.a o4.len o4.cap)) i).ownBlock ≠ (Value.slice o5.a o5.len o5.cap).ownBlock := by
    intro i hi
    have : i = 0 ∨ i = 1 ∨ i = 2 := by omega
    rcases this with rfl | rfl | rfl
    · exact own_sep IT.out I3.out (by have := HZ0.out; have := HZ1.out; have := HZ2.out; have := HZ3.out; have := HZ4.out; have := HZ5.out; have := HZ6.out; have := HZ7.out; have := HZ8.out; omega)
    · exact own_sep I1.out I3.out (by have := HZ0.out; have := HZ1.out; have := HZ2.out; have := HZ3.out; have := HZ4.out; have := HZ5.out; have := HZ6.out; have := HZ7.out; have := HZ8.out; omega)
    · exact own_sep I2.out I3.out (by have := HZ0.out; have := HZ1.out; have := HZ2.out; have := HZ3.out; have := HZ4.out; have := HZ5.out; have := HZ6.out; have := HZ7.out; have := HZ8.out; omega)
  go_wp2_with fail
  refine (Bo.ranges_any w.heap.size w13.heap.size 3 _ _ _ _ w _ (.slice o5.a o5.len o5.cap) o5.len _ (by decide) HK2.out P3.out L3.out (fun i hi => HA3 i hi)).mono ?_
  rintro eb3 wb3 ⟨rfl, V3, bk3, hold3⟩
  have HK3 := veil bk3
  have P4q := veil (hold3 _ _ _ P4.out L4.out)
  clear P4
  have P4 := P4q
  clear P4q
  clear bk3 hold3
  have HA4 : ∀ i, i < 4 → ((Bo.upd (Bo.upd (Bo.upd (Bo.upd (fun _ => Value.slice none 0 0) 0 (Value.slice (some ⟨w1.heap.size, 0, none⟩) s.len (s.len + 1))) 1 (Value.slice o3.a o3.len o3.cap)) 2 (Value.slice o4.a o4.len o4.cap)) 3 (Value.slice o5.a o5.len o5.cap)) i).ownBlock = none ∨ ((Bo.upd (Bo.upd (Bo.upd (Bo.upd (fun _ => Value.slice none 0 0) 0 (Value.slice (some ⟨w1.heap.size, 0, none⟩) s.len (s.len + 1))) 1 (Value.slice o3.a o3.len o3.cap)) 2 (Value.slice o4.a o4.len o4.cap)) 3 (Value.slice o5.a o5.len o5.cap)) i).ownBlock ≠ (Value.slice o6.a o6.len o6.cap).ownBlock := by
    intro i hi
    have : i = 0 ∨ i = 1 ∨ i = 2 ∨ i = 3 := by omega
    rcases this with rfl | rfl | rfl | rfl
    · exact own_sep IT.out I4.out (by have := HZ0.out; have := HZ1.out; have := HZ2.out; have := HZ3.out; have := HZ4.out; have := HZ5.out; have := HZ6.out; have := HZ7.out; have := HZ8.out; omega)
    · exact own_sep I1.out I4.out (by have := HZ0.out; have := HZ1.out; have := HZ2.out; have := HZ3.out; have := HZ4.out; have := HZ5.out; have := HZ6.out; have := HZ7.out; have := HZ8.out; omega)
    · exact own_sep I2.out I4.out (by have := HZ0.out; have := HZ1.out; have := HZ2.out; have := HZ3.out; have := HZ4.out; have := HZ5.out; have := HZ6.out; have := HZ7.out; have := HZ8.out; omega)
    · exact own_sep I3.out I4.out (by have := HZ0.out; have := HZ1.out; have := HZ2.out; have := HZ3.out; have := HZ4.out; have := HZ5.out; have := HZ6.out; have := HZ7.out; have := HZ8.out; omega)
  go_wp2_with fail
  refine (Bo.ranges_any w.heap.size w13.heap.size 4 _ _ _ _ w _ (.slice o6.a o6.len o6.cap) o6.len _ (by decide) HK3.out P4.out L4.out (fun i hi => HA4 i hi)).mono ?_
  rintro eb4 wb4 ⟨rfl, V4, bk4, hold4⟩
  have HK4 := veil bk4
  clear bk4 hold4
  go_wp2_with fail
  refine (apart_five w.heap.size w13.heap.size s.len o3.len o4.len o5.len o6.len (.slice (some ⟨w1.heap.size, 0, none⟩) s.len (s.len + 1)) (.slice o3.a o3.len o3.cap) (.slice o4.a o4.len o4.cap) (.slice o5.a o5.len o5.cap) (.slice o6.a o6.len o6.cap) _ _ _ _ _ _ _ _ _ w wb4 (by omega) (by have := N1.out; omega) (by have := N2.out; omega) (by have := N3.out; omega) (by have := N4.out; omega) HK4.out).mono ?_
  rintro e15 w15 ⟨rfl, hb15⟩
  go_wp2_with fail
  go_ret
  exact ⟨rfl, hb15⟩
end Go.Proofs.YtalhfciiflcfbaaGreatDoor

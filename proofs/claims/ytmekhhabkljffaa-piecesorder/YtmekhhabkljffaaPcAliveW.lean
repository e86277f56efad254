/-
  What the statements' own word alive answers. Written by mkalive9.py.
-/
import Derived.Test.YtmekhhabkljffaaPcAlive
namespace Go.Proofs.Ytmekhhabkljffaa
open Go Go.RowKit Go.Maps Go.Shelf

theorem put_to (S S' : PS) (g m p : Nat) (s : SL) (last : Bool) (w : World) (E : Int) (h : PcOk w g m S) (hs : s.Ok w) (hl : s.len ≤ 4611686018427387903) (hE : (Pc.putE S p s.len last : Int) = E) (hS : Pc.put S p s.b last = S') (p' : Int) (hp : p' = (p : Int)) :
    Calls Try.prog 9 #[.pointer (some ⟨g, 0, none⟩), .int .u64 p', .slice s.a s.len s.cap, .bool last] w fun e w' => e = .returned (.int .i64 E) ∧ PcOk w' g m S' ∧ KeepP (Two g m) w w' := by
  subst hE hS hp
  exact put_any S g m p s last w h hs hl
theorem take_to (S S' : PS) (g m N : Nat) (w : World) (L : List By) (en : Bool) (h : PcOk w g m S) (hN : N ≤ 9223372036854775807) (hL : Pc.takeL S.f S.read N = L) (hS : Pc.takeS S N = S') (hE : Pc.ended S' = en) (n' : Int) (hn : n' = (N : Int)) :
    Calls Try.prog 10 #[.pointer (some ⟨g, 0, none⟩), .int .i64 n'] w fun e w' => ∃ s : SL, e = .returned (.tuple #[.slice s.a s.len s.cap, .bool en, .int .i64 0]) ∧
      ((s.len = L.length ∧ s.b = L) ∧ s.Ok w' ∧ (0 < s.len → w.heap.size ≤ s.g)) ∧ PcOk w' g m S' ∧ KeepP (Two g m) w w' := by
  subst hL hE hS hn
  exact take_sl S g m N w h hN
theorem new_to (r : Nat) (w : World) (hr : r ≤ 1048576) (n' : Int) (hn : n' = (r : Int)) :
    Calls Try.prog 8 #[.int .i64 n'] w fun e w' => ∃ g m, e = .returned (.tuple #[.pointer (some ⟨g, 0, none⟩), .int .i64 0]) ∧ PcOk w' g m (Pc.newS r) ∧ w.heap.size ≤ g ∧ w.heap.size ≤ m ∧ Below w.heap.size w w' := by
  subst hn
  exact new_any r w hr

set_option maxRecDepth 20000 in
set_option maxHeartbeats 2000000 in
theorem alive_any (w : World) : Calls Try.prog 7 #[] w fun e w' => e = .returned (.bool true) ∧ Below w.heap.size w w' := by
  go_enter Try.func7, Try.ntmps7
  go_wp2_with fail
  refine (new_to 8 w (by decide) 8 rfl).mono ?_
  rintro e1 w1 ⟨g, m, rfl, hp1, hg, hm, hb1⟩
  have HG := veil (show w.heap.size ≤ g ∧ w.heap.size ≤ m from ⟨hg, hm⟩)
  have P1 := veil hp1
  have B1 := veil hb1
  clear hp1 hb1 hg hm
  have P1' := P1
  clear P1
  have P1 := P1'
  clear P1'
  obtain ⟨V1, hc1, bv1, lv1⟩ := lit_conv w1 [100, 101] #[.int .u8 100, .int .u8 101] rfl
  rw [show ([100, 101] : List By).length = 2 from rfl] at hc1
  have BV1 := veil bv1
  have LV1 := veil lv1
  clear bv1 lv1
  go_wp2_with fail
  refine (put_to (Pc.newS 8) Pc.a1 g m 3 (litS w1.heap.size [100, 101]) false V1 0 (P1.out.below BV1.out) LV1.out (by show 2 ≤ _; decide) (by show (Pc.putE _ 3 2 false : Int) = _; rw [Pc.al1]; rfl) rfl 3 rfl).mono ?_
  rintro e2 w2 ⟨rfl, hp2, hk2⟩
  have P2 := veil hp2
  have B2 := veil ((B1.out.trans (BV1.out.mono B1.out.size)).trans (hk2.two_below (B := w.heap.size) HG.out.1 HG.out.2 (Nat.le_trans B1.out.size BV1.out.size)))
  clear hp2 hk2 hc1 P1 B1 BV1 LV1
  obtain ⟨V2, hc2, bv2, lv2⟩ := lit_conv w2 [97, 98, 99, 88] #[.int .u8 97, .int .u8 98, .int .u8 99, .int .u8 88] rfl
  rw [show ([97, 98, 99, 88] : List By).length = 4 from rfl] at hc2
  have BV2 := veil bv2
  have LV2 := veil lv2
  clear bv2 lv2
  go_wp2_with fail
  refine (put_to Pc.a1 Pc.a2 g m 0 (litS w2.heap.size [97, 98, 99, 88]) false V2 0 (P2.out.below BV2.out) LV2.out (by show 4 ≤ _; decide) (by show (Pc.putE _ 0 4 false : Int) = _; rw [Pc.al2]; rfl) rfl 0 rfl).mono ?_
  rintro e3 w3 ⟨rfl, hp3, hk3⟩
  have P3 := veil hp3
  have B3 := veil ((B2.out.trans (BV2.out.mono B2.out.size)).trans (hk3.two_below (B := w.heap.size) HG.out.1 HG.out.2 (Nat.le_trans B2.out.size BV2.out.size)))
  clear hp3 hk3 hc2 P2 B2 BV2 LV2
  go_wp2_with fail
  refine (take_to Pc.a2 Pc.a3 g m 9 w3 [97, 98, 99, 100, 101] false P3.out (by decide) Pc.al3 Pc.al3' Pc.al3e 9 rfl).mono ?_
  rintro e4 w4 ⟨sa, rfl, hx4, hp4, hk4⟩
  have P4 := veil hp4
  have B4 := veil (B3.out.trans (hk4.two_below (B := w.heap.size) HG.out.1 HG.out.2 B3.out.size))
  have Xsa := veil (show (sa.len = _ ∧ sa.b = _) ∧ sa.Ok w4 ∧ (0 < sa.len → ¬ Two g m sa.g) from ⟨hx4.1, hx4.2.1, fun h => two_not P3.out.row.lt P3.out.map.lt (hx4.2.2 h)⟩)
  clear hp4 hk4 hx4 P3 B3
  obtain ⟨V4, hc4, bv4, lv4⟩ := lit_conv w4 [90, 102] #[.int .u8 90, .int .u8 102] rfl
  rw [show ([90, 102] : List By).length = 2 from rfl] at hc4
  have BV4 := veil bv4
  have LV4 := veil lv4
  clear bv4 lv4
  go_wp2_with fail
  refine (put_to Pc.a3 Pc.a4 g m 4 (litS w4.heap.size [90, 102]) true V4 0 (P4.out.below BV4.out) LV4.out (by show 2 ≤ _; decide) (by show (Pc.putE _ 4 2 true : Int) = _; rw [Pc.al4]; rfl) rfl 4 rfl).mono ?_
  rintro e5 w5 ⟨rfl, hp5, hk5⟩
  have P5 := veil hp5
  have B5 := veil ((B4.out.trans (BV4.out.mono B4.out.size)).trans (hk5.two_below (B := w.heap.size) HG.out.1 HG.out.2 (Nat.le_trans B4.out.size BV4.out.size)))
  have Xsa' := veil (show (sa.len = _ ∧ sa.b = _) ∧ sa.Ok w5 ∧ (0 < sa.len → ¬ Two g m sa.g) from ⟨Xsa.out.1, (Xsa.out.2.1.below BV4.out).keepP hk5 Xsa.out.2.2, Xsa.out.2.2⟩)
  clear Xsa
  have Xsa := Xsa'
  clear Xsa'
  clear hp5 hk5 hc4 P4 B4 BV4 LV4
  go_wp2_with fail
  refine (take_to Pc.a4 Pc.a5 g m 9 w5 [102] true P5.out (by decide) Pc.al5 Pc.al5' Pc.al5e 9 rfl).mono ?_
  rintro e6 w6 ⟨sb, rfl, hx6, hp6, hk6⟩
  have P6 := veil hp6
  have B6 := veil (B5.out.trans (hk6.two_below (B := w.heap.size) HG.out.1 HG.out.2 B5.out.size))
  have Xsa' := veil (show (sa.len = _ ∧ sa.b = _) ∧ sa.Ok w6 ∧ (0 < sa.len → ¬ Two g m sa.g) from ⟨Xsa.out.1, Xsa.out.2.1.keepP hk6 Xsa.out.2.2, Xsa.out.2.2⟩)
  clear Xsa
  have Xsa := Xsa'
  clear Xsa'
  have Xsb := veil (show (sb.len = _ ∧ sb.b = _) ∧ sb.Ok w6 ∧ (0 < sb.len → ¬ Two g m sb.g) from ⟨hx6.1, hx6.2.1, fun h => two_not P5.out.row.lt P5.out.map.lt (hx6.2.2 h)⟩)
  clear hp6 hk6 hx6 P5 B5
  obtain ⟨V6, hc6, bv6, lv6⟩ := lit_conv w6 [103] #[.int .u8 103] rfl
  rw [show ([103] : List By).length = 1 from rfl] at hc6
  have BV6 := veil bv6
  have LV6 := veil lv6
  clear bv6 lv6
  go_wp2_with fail
  refine (put_to Pc.a5 Pc.a5 g m 6 (litS w6.heap.size [103]) false V6 8 (P6.out.below BV6.out) LV6.out (by show 1 ≤ _; decide) (by show (Pc.putE _ 6 1 false : Int) = _; rw [Pc.al6]; rfl) (by show (if Pc.putE _ 6 1 false = 0 then _ else _) = _; rw [Pc.al6]; rfl) 6 rfl).mono ?_
  rintro e7 w7 ⟨rfl, hp7, hk7⟩
  have P7 := veil hp7
  have B7 := veil ((B6.out.trans (BV6.out.mono B6.out.size)).trans (hk7.two_below (B := w.heap.size) HG.out.1 HG.out.2 (Nat.le_trans B6.out.size BV6.out.size)))
  have Xsa' := veil (show (sa.len = _ ∧ sa.b = _) ∧ sa.Ok w7 ∧ (0 < sa.len → ¬ Two g m sa.g) from ⟨Xsa.out.1, (Xsa.out.2.1.below BV6.out).keepP hk7 Xsa.out.2.2, Xsa.out.2.2⟩)
  clear Xsa
  have Xsa := Xsa'
  clear Xsa'
  have Xsb' := veil (show (sb.len = _ ∧ sb.b = _) ∧ sb.Ok w7 ∧ (0 < sb.len → ¬ Two g m sb.g) from ⟨Xsb.out.1, (Xsb.out.2.1.below BV6.out).keepP hk7 Xsb.out.2.2, Xsb.out.2.2⟩)
  clear Xsb
  have Xsb := Xsb'
  clear Xsb'
  clear hp7 hk7 hc6 P6 B6 BV6 LV6
  go_wp2_with fail
  refine (new_no (-1) w7 (.inl (by decide))).mono ?_
  rintro e20 w20 ⟨rfl, rfl⟩
  obtain ⟨VA, hcA, bvA, lvA⟩ := lit_conv w20 [97, 98, 99, 100, 101] #[.int .u8 97, .int .u8 98, .int .u8 99, .int .u8 100, .int .u8 101] rfl
  rw [show ([97, 98, 99, 100, 101] : List By).length = 5 from rfl] at hcA
  have BVA := veil bvA
  have LVA := veil lvA
  clear bvA lvA
  go_wp2_with fail
  refine (same_sl sa (litS w20.heap.size [97, 98, 99, 100, 101]) VA (Xsa.out.2.1.below BVA.out) LVA.out Xsa.out.1.2 (by rw [Xsa.out.1.1]; decide)).mono ?_
  rintro e21 w21 ⟨rfl, hb21⟩
  have B21 := veil (BVA.out.trans (hb21.mono BVA.out.size))
  clear hb21 hcA LVA BVA
  obtain ⟨VB, hcB, bvB, lvB⟩ := lit_conv w21 [102] #[.int .u8 102] rfl
  rw [show ([102] : List By).length = 1 from rfl] at hcB
  have BVB := veil bvB
  have LVB := veil lvB
  clear bvB lvB
  go_wp2_with fail
  refine (same_sl sb (litS w21.heap.size [102]) VB ((Xsb.out.2.1.below B21.out).below BVB.out) LVB.out Xsb.out.1.2 (by rw [Xsb.out.1.1]; decide)).mono ?_
  rintro e22 w22 ⟨rfl, hb22⟩
  have B22 := veil (BVB.out.trans (hb22.mono BVB.out.size))
  clear hb22 hcB LVB BVB
  go_wp2_with fail
  go_ret
  exact ⟨rfl, (B7.out.trans (B21.out.mono B7.out.size)).trans (B22.out.mono (Nat.le_trans B7.out.size B21.out.size))⟩
end Go.Proofs.Ytmekhhabkljffaa

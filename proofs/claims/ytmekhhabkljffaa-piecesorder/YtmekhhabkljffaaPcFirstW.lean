/-
  PiecesFirst: the first bytes stay.
-/
import Derived.Test.YtmekhhabkljffaaPcAliveW
namespace Go.Proofs.Ytmekhhabkljffaa
open Go Go.RowKit Go.Maps Go.Shelf

theorem sl_drop {w : World} {s : SL} (h : s.Ok w) (m : Nat) (hm : m ≤ s.len) : (SL.mk (some ⟨s.g, s.off + m, none⟩) (s.len - m) (s.cap - m) s.g (s.off + m) (s.b.drop m)).Ok w :=
  ⟨by show (s.b.drop m).length = s.len - m; rw [List.length_drop, h.hb], by have := h.hcap; show s.len - m ≤ s.cap - m; omega, fun e => by simp at e, fun _ => rfl, fun p => h.lt (by have : 0 < s.len - m := p; omega), fun j hj => by
    have hj' : j < s.len - m := hj
    have := h.cell (m + j) (by omega)
    show w.cell? ⟨s.g, s.off + m + j, none⟩ = some (.int .u8 (v8 (gb (s.b.drop m) j)))
    rw [Nat.add_assoc, this]
    unfold gb
    rw [List.getElem?_drop]⟩
theorem sl_take {w : World} {s : SL} (h : s.Ok w) (m : Nat) (hm : m ≤ s.len) : (SL.mk s.a m s.cap s.g s.off (s.b.take m)).Ok w :=
  ⟨by show (s.b.take m).length = m; rw [List.length_take, h.hb]; omega, Nat.le_trans hm h.hcap, fun e => ⟨by have := (h.nil e).1; show m = 0; omega, (h.nil e).2⟩, fun p => h.at_ (Nat.lt_of_lt_of_le p hm), fun p => h.lt (Nat.lt_of_lt_of_le p hm), fun j hj => by
    have hj' : j < m := hj
    rw [show (SL.mk s.a m s.cap s.g s.off (s.b.take m)).off = s.off from rfl]
    refine (h.cell j (by omega)).trans ?_
    show _ = some (Value.int .u8 (v8 (gb (s.b.take m) j)))
    unfold gb
    rw [List.getElem?_take, if_pos hj']⟩

namespace Pc
theorem putE_easy {S : PS} {p n : Nat} {last : Bool} (h1 : p + n ≤ 4611686018427387903) (h2 : S.known = true → p + n ≤ S.come) (h3 : last = true → S.come ≤ p + n) (h4 : p + n ≤ S.read + S.room) : putE S p n last = 0 := by
  unfold putE
  rw [if_neg (by omega), if_neg, if_neg (by omega)]
  rintro (⟨a, b⟩ | ⟨a, b⟩)
  · have := h2 a; omega
  · have := h3 a; omega
theorem put_eq {S : PS} {p : Nat} {b : List By} {last : Bool} (h : putE S p b.length last = 0) : put S p b last = putS S p b last := if_pos h
/-- What comes first stays. -/
theorem first_take (a b : List By) (k : Nat) (ha : a.length ≤ 1000) (hb : b.length ≤ 1000) (hk : k < a.length) :
    takeL (put (put (newS 3000) 0 a false) k b false).f (put (put (newS 3000) 0 a false) k b false).read 3000 = a ++ b.drop (a.length - k) := by
  have e1 : putE (newS 3000) 0 a.length false = 0 := putE_easy (by omega) (fun h => by cases h) (fun h => by cases h) (by show _ ≤ 0 + 3000; omega)
  rw [put_eq e1]
  have e2 : putE (putS (newS 3000) 0 a false) k b.length false = 0 := putE_easy (by omega) (fun h => by cases h) (fun h => by cases h) (by show _ ≤ 0 + 3000; omega)
  rw [put_eq e2]
  have f1 : ∀ j, (putS (newS 3000) 0 a false).f j = if j < a.length then some (gb a j) else none := fun j => by
    show holdK (fun _ => none) (max 0 0) (0 + a.length) 0 a j = _
    unfold holdK
    by_cases h : j < a.length
    · rw [if_pos ⟨by omega, by omega, rfl⟩, if_pos h]; rfl
    · rw [if_neg (by omega), if_neg h]
  have f2 : ∀ j, (putS (putS (newS 3000) 0 a false) k b false).f j = if j < a.length then some (gb a j) else if j < k + b.length then some (gb b (j - k)) else none := fun j => by
    show holdK (putS (newS 3000) 0 a false).f (max k 0) (k + b.length) k b j = _
    unfold holdK
    rw [f1]
    by_cases h : j < a.length
    · rw [if_pos h, if_neg (by simp), if_pos h]
    · rw [if_neg h, if_neg h]
      by_cases h2 : j < k + b.length
      · rw [if_pos ⟨by omega, h2, rfl⟩, if_pos h2]
      · rw [if_neg (by omega), if_neg h2]
  have hl : (a ++ b.drop (a.length - k)).length = a.length + (b.length - (a.length - k)) := by rw [List.length_append, List.length_drop]
  refine take_of (fun j hj => ?_) (by omega) (.inr ?_)
  · show (putS (putS (newS 3000) 0 a false) k b false).f (0 + j) = _
    rw [Nat.zero_add, f2]
    by_cases h : j < a.length
    · rw [if_pos h]; unfold gb; rw [List.getElem?_append_left h]
    · rw [if_neg h, if_pos (by omega)]
      unfold gb
      rw [List.getElem?_append_right (by omega), List.getElem?_drop, show a.length - k + (j - a.length) = j - k by omega]
  · show (putS (putS (newS 3000) 0 a false) k b false).f (0 + (a ++ b.drop (a.length - k)).length) = _
    rw [f2, if_neg (by omega), if_neg (by omega)]
end Pc

set_option maxRecDepth 20000 in
set_option maxHeartbeats 2000000 in
theorem first_any (sa sb : SL) (at_ : Nat) (w : World) (ha : sa.Ok w) (hb : sb.Ok w) (hat : at_ < 65536) :
    Calls Try.prog 5 #[.slice sa.a sa.len sa.cap, .slice sb.a sb.len sb.cap, .int .u16 (at_ : Int)] w fun e w' => e = .returned (.bool true) ∧ Below w.heap.size w w' := by
  have HA := veil ha
  have HB := veil hb
  by_cases h1 : sa.len > 1000
  · have d1 : (sa.len : Int) > 1000 := by omega
    clear h1 ha hb hat
    go_enter Try.func5, Try.ntmps5
    go_wp2_with fail
    refine (alive_any w).mono ?_
    rintro e1 w1 ⟨rfl, hb1⟩
    have B1 := veil hb1
    clear hb1
    go_wp2_with fail
    refine (alive_any w1).mono ?_
    rintro e2 w2 ⟨rfl, hb2⟩
    have B2 := veil (B1.out.trans (hb2.mono B1.out.size))
    clear hb2
    go_wp2_with fail
    go_ret
    exact ⟨rfl, B2.out⟩
  by_cases h2 : sb.len > 1000
  · have d1 : ¬ ((sa.len : Int) > 1000) := by omega
    have d2 : (sb.len : Int) > 1000 := by omega
    clear h1 h2 ha hb hat
    go_enter Try.func5, Try.ntmps5
    go_wp2_with fail
    refine (alive_any w).mono ?_
    rintro e1 w1 ⟨rfl, hb1⟩
    have B1 := veil hb1
    clear hb1
    go_wp2_with fail
    refine (alive_any w1).mono ?_
    rintro e2 w2 ⟨rfl, hb2⟩
    have B2 := veil (B1.out.trans (hb2.mono B1.out.size))
    clear hb2
    go_wp2_with fail
    go_ret
    exact ⟨rfl, B2.out⟩
  by_cases h3 : sa.len = 0
  · have d1 : ¬ ((sa.len : Int) > 1000) := by omega
    have d2 : ¬ ((sb.len : Int) > 1000) := by omega
    have d3 : ((sa.len : Int) == 0) = true := by rw [h3]; rfl
    clear h1 h2 h3 ha hb hat
    go_enter Try.func5, Try.ntmps5
    go_wp2_with fail
    refine (alive_any w).mono ?_
    rintro e1 w1 ⟨rfl, hb1⟩
    have B1 := veil hb1
    clear hb1
    go_wp2_with fail
    refine (alive_any w1).mono ?_
    rintro e2 w2 ⟨rfl, hb2⟩
    have B2 := veil (B1.out.trans (hb2.mono B1.out.size))
    clear hb2
    go_wp2_with fail
    go_ret
    exact ⟨rfl, B2.out⟩
  have d1 : ¬ ((sa.len : Int) > 1000) := by omega
  have d2 : ¬ ((sb.len : Int) > 1000) := by omega
  have d3 : ((sa.len : Int) == 0) = false := by simp; omega
  obtain ⟨k, hk0⟩ : ∃ k, k = at_ % sa.len := ⟨_, rfl⟩
  have hkl : k < sa.len := by rw [hk0]; exact Nat.mod_lt _ (by omega)
  have hw0 : IntKind.i64.wrap (at_ : Int) = (at_ : Int) := by rw [IntKind.wrap_i64]; omega
  have hrem : Int.tmod (at_ : Int) (sa.len : Int) = (k : Int) := by rw [hk0]; exact (Int.ofNat_tmod _ _).symm
  have hw1 : IntKind.u64.wrap (k : Int) = (k : Int) := by rw [IntKind.wrap_u64]; omega
  have HL := veil (show sa.len ≤ 1000 ∧ sb.len ≤ 1000 ∧ k < sa.len from ⟨by omega, by omega, hkl⟩)
  clear h1 h2 h3 ha hb hat hk0
  go_enter Try.func5, Try.ntmps5
  go_wp2_with fail
  refine (alive_any w).mono ?_
  rintro e1 w1 ⟨rfl, hb1⟩
  have B1 := veil hb1
  clear hb1
  go_wp2_with fail
  refine (new_to 3000 w1 (by decide) 3000 rfl).mono ?_
  rintro e2 w2 ⟨g, m, rfl, hp2, hg, hm, hb2⟩
  have HG := veil (show w.heap.size ≤ g ∧ w.heap.size ≤ m from ⟨Nat.le_trans B1.out.size hg, Nat.le_trans B1.out.size hm⟩)
  have P2 := veil hp2
  have B2 := veil (B1.out.trans (hb2.mono B1.out.size))
  clear hp2 hb2 hg hm B1
  go_wp2_with fail
  refine (put_to (Pc.newS 3000) _ g m 0 sa false w2 0 P2.out (HA.out.below B2.out) (by have := HL.out; omega) (by rw [Pc.putE_easy (by have := HL.out; omega) (fun h => by cases h) (fun h => by cases h) (by have := HL.out; show _ ≤ 0 + 3000; omega)]; rfl) rfl 0 rfl).mono ?_
  rintro e3 w3 ⟨rfl, hp3, hk3⟩
  have P3 := veil hp3
  have B3 := veil (B2.out.trans (hk3.two_below (B := w.heap.size) HG.out.1 HG.out.2 B2.out.size))
  clear hp3 hk3 P2 B2
  go_wp2_with fail
  have E1 : Hid (Pc.putE (Pc.newS 3000) 0 sa.b.length false = 0) := Pc.putE_easy (by rw [HA.out.hb]; have := HL.out; omega) (fun h => by cases h) (fun h => by cases h) (by rw [HA.out.hb]; have := HL.out; show _ ≤ 0 + 3000; omega)
  refine (put_to (Pc.put (Pc.newS 3000) 0 sa.b false) _ g m k sb false w3 0 P3.out (HB.out.below B3.out) (by have := HL.out; omega) (by rw [Pc.put_eq E1.out, Pc.putE_easy (by have := HL.out; omega) (fun h => by cases h) (fun h => by cases h) (by have := HL.out; show _ ≤ 0 + 3000; omega)]; rfl) rfl (k : Int) rfl).mono ?_
  rintro e4 w4 ⟨rfl, hp4, hk4⟩
  have P4 := veil hp4
  have B4 := veil (B3.out.trans (hk4.two_below (B := w.heap.size) HG.out.1 HG.out.2 B3.out.size))
  clear hp4 hk4 P3 B3
  obtain ⟨i0, hi, hz0, hz1, hz2⟩ := info_parts (P := Try.prog) (e := 5) (z := .int .u8 0) (size := 1) (bytes := 1) (by kernel_rfl)
  have HFT := veil (Pc.first_take sa.b sb.b k (by rw [HA.out.hb]; exact HL.out.1) (by rw [HB.out.hb]; exact HL.out.2.1) (by rw [HA.out.hb]; exact HL.out.2.2))
  have hw2 : IntKind.i64.wrap ((k : Int) + (sb.len : Int)) = (k : Int) + (sb.len : Int) := by have := HL.out; rw [IntKind.wrap_i64]; omega
  have hw3 : IntKind.i64.wrap ((sa.len : Int) - (k : Int)) = ((sa.len - k : Nat) : Int) := by have := HL.out; rw [IntKind.wrap_i64]; omega
  by_cases hkb : k + sb.len > sa.len
  · have d4 : (k : Int) + (sb.len : Int) > (sa.len : Int) := by omega
    have hsb : sb.a = some ⟨sb.g, sb.off, none⟩ := HB.out.at_ (by have := HL.out; omega)
    have hlo1 : sa.len - k < sb.len := by omega
    have hlo2 : sb.len ≤ sb.cap := HB.out.hcap
    rw [hsb]
    have HB4 := veil ((HB.out.below B4.out))
    go_wp2_with (first
      | (at_builtin
         refine append_sl rfl _ _ 22 rfl w4.heap.size i0 Try.underlying22 hi hz0 hz1 hz2 _ 0 [] rfl (World.ownsRow_nil _ _ _ _) sa (HA.out.below B4.out) rfl (by have := HL.out; omega) (Nat.le_refl _) ?_
         intro v5 w5 hown5 hgr5
         have HO5 := veil hown5
         have HG5 := veil hgr5
         clear hown5 hgr5)
      | (at_builtin
         refine Hid.out ?_))
    refine show wpList _ _ _ _ _ _ from ?_
    have B5 : Hid (Below w4.heap.size w4 w5) := (Below.refl _ _).grown HG5.out (Nat.le_refl _) (fun k e => by cases e)
    refine append_sl rfl _ _ 22 rfl w4.heap.size i0 Try.underlying22 hi hz0 hz1 hz2 _ (0 + sa.len) ([] ++ sa.b) rfl HO5.out (SL.mk (some ⟨sb.g, sb.off + (sa.len - k), none⟩) (sb.len - (sa.len - k)) (sb.cap - (sa.len - k)) sb.g (sb.off + (sa.len - k)) (sb.b.drop (sa.len - k))) (sl_drop ((HB.out.below B4.out).below B5.out) (sa.len - k) (by omega)) rfl (by have := HL.out; show 0 + sa.len + (sb.len - (sa.len - k)) ≤ _; omega) B5.out.size ?_
    intro v6 w6 hown6 hgr6
    obtain ⟨sy, hy1, hy2, hy3, hy4, hy5⟩ := SL.of_own hown6
    have B6 : Hid (Below w4.heap.size w4 w6) := B5.out.grown hgr6 B5.out.size (fun k e => (own_slice8 HO5.out).choose_spec.choose_spec.2 k e)
    have P6 := veil (P4.out.below B6.out)
    have HY := veil (show sy.b = sa.b ++ sb.b.drop (sa.b.length - k) ∧ sy.Ok w6 ∧ (0 < sy.len → w4.heap.size ≤ sy.g) from ⟨by rw [hy3, HA.out.hb]; rfl, hy4, fun h => hy5 (by omega)⟩)
    have BB := veil (B4.out.trans (B6.out.mono B4.out.size))
    subst hy1
    unfold SL.v
    clear hown6 hgr6 hy2 hy3 hy4 hy5
    go_wp2_with fail
    refine (take_to _ _ g m 3000 _ (sa.b ++ sb.b.drop (sa.b.length - k)) (Pc.ended (Pc.takeS (Pc.put (Pc.put (Pc.newS 3000) 0 sa.b false) k sb.b false) 3000)) P6.out (by decide) HFT.out rfl rfl 3000 rfl).mono ?_
    rintro e8 w8 ⟨sx, rfl, hx8, hp8, hk8⟩
    have HX8 := veil hx8
    have HKK := veil hk8
    clear hx8 hp8 hk8
    generalize (Pc.ended (Pc.takeS (Pc.put (Pc.put (Pc.newS 3000) 0 sa.b false) k sb.b false) 3000)) = en at *
    go_wp2_with fail
    refine (same_sl sx sy w8 HX8.out.2.1 (HY.out.2.1.keepP HKK.out (fun h => two_not P4.out.row.lt P4.out.map.lt (HY.out.2.2 h))) (by rw [HX8.out.1.2, HY.out.1]) (by rw [HX8.out.1.1]; have := HL.out; rw [List.length_append, List.length_drop, HA.out.hb, HB.out.hb]; omega)).mono ?_
    rintro e9 w9 ⟨rfl, hb9⟩
    have B9 := veil ((BB.out.trans (HKK.out.two_below (B := w.heap.size) HG.out.1 HG.out.2 BB.out.size)).trans (hb9.mono (Nat.le_trans BB.out.size HKK.out.size)))
    clear hb9
    go_wp2_with fail
    go_ret
    exact ⟨rfl, B9.out⟩
  · have d4 : ¬ ((k : Int) + (sb.len : Int) > (sa.len : Int)) := by omega
    have HKB := veil hkb
    clear hkb
    go_wp2_with (first
      | (at_builtin
         refine append_sl rfl _ _ 22 rfl w4.heap.size i0 Try.underlying22 hi hz0 hz1 hz2 _ 0 [] rfl (World.ownsRow_nil _ _ _ _) sa (HA.out.below B4.out) rfl (by have := HL.out; omega) (Nat.le_refl _) ?_
         intro v5 w5 hown5 hgr5
         have HO5 := veil hown5
         have HG5 := veil hgr5
         clear hown5 hgr5)
      | fail)
    have B5 : Hid (Below w4.heap.size w4 w5) := (Below.refl _ _).grown HG5.out (Nat.le_refl _) (fun k e => by cases e)
    have hown6 := HO5.out
    obtain ⟨sy, hy1, hy2, hy3, hy4, hy5⟩ := SL.of_own hown6
    have P6 := veil (P4.out.below B5.out)
    have HY := veil (show sy.b = sa.b ++ sb.b.drop (sa.b.length - k) ∧ sy.Ok w5 ∧ (0 < sy.len → w4.heap.size ≤ sy.g) from ⟨by rw [hy3, HA.out.hb, List.drop_eq_nil_of_le (by rw [HB.out.hb]; have := HKB.out; omega)]; simp, hy4, fun h => hy5 (by omega)⟩)
    have BB := veil (B4.out.trans (B5.out.mono B4.out.size))
    subst hy1
    unfold SL.v
    clear hown6 HO5 hy2 hy3 hy4 hy5
    refine (take_to _ _ g m 3000 _ (sa.b ++ sb.b.drop (sa.b.length - k)) (Pc.ended (Pc.takeS (Pc.put (Pc.put (Pc.newS 3000) 0 sa.b false) k sb.b false) 3000)) P6.out (by decide) HFT.out rfl rfl 3000 rfl).mono ?_
    rintro e8 w8 ⟨sx, rfl, hx8, hp8, hk8⟩
    have HX8 := veil hx8
    have HKK := veil hk8
    clear hx8 hp8 hk8
    generalize (Pc.ended (Pc.takeS (Pc.put (Pc.put (Pc.newS 3000) 0 sa.b false) k sb.b false) 3000)) = en at *
    go_wp2_with fail
    refine (same_sl sx sy w8 HX8.out.2.1 (HY.out.2.1.keepP HKK.out (fun h => two_not P4.out.row.lt P4.out.map.lt (HY.out.2.2 h))) (by rw [HX8.out.1.2, HY.out.1]) (by rw [HX8.out.1.1]; have := HL.out; rw [List.length_append, List.length_drop, HA.out.hb, HB.out.hb]; omega)).mono ?_
    rintro e9 w9 ⟨rfl, hb9⟩
    have B9 := veil ((BB.out.trans (HKK.out.two_below (B := w.heap.size) HG.out.1 HG.out.2 BB.out.size)).trans (hb9.mono (Nat.le_trans BB.out.size HKK.out.size)))
    clear hb9
    go_wp2_with fail
    go_ret
    exact ⟨rfl, B9.out⟩

theorem first_walk (sa sb : SL) (at_ : Nat) (w : World) (ha : sa.Ok w) (_ : sa.len ≤ 140737488355328) (hb : sb.Ok w) (_ : sb.len ≤ 140737488355328) (hat : at_ < 65536) :
    Calls Try.prog 5 #[.slice sa.a sa.len sa.cap, .slice sb.a sb.len sb.cap, .int .u16 (at_ : Int)] w fun e w' => e = .returned (.bool true) ∧ Below w.heap.size w w' := first_any sa sb at_ w ha hb hat
end Go.Proofs.Ytmekhhabkljffaa

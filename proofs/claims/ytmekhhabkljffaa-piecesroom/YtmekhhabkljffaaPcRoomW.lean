/-
  PiecesRoom: never more is held than there is room for, and what has room is taken.
-/
import Derived.Test.YtmekhhabkljffaaPcAliveW
import Derived.Test.YtmekhhabkljffaaPcGreat
namespace Go.Proofs.Ytmekhhabkljffaa
open Go Go.RowKit Go.Maps Go.Shelf

namespace Pc
theorem putE_open {S : PS} (hk : S.known = false) {p n : Nat} (h : p + n ≤ 4611686018427387903) : putE S p n false = if p + n ≤ S.read + S.room then 0 else 6 := by
  unfold putE
  rw [if_neg (by omega), if_neg (by rw [hk]; simp)]
  by_cases c : p + n ≤ S.read + S.room
  · rw [if_neg (by omega), if_pos c]
  · rw [if_pos (by omega), if_neg c]
theorem put_open {S : PS} (hk : S.known = false) (p : Nat) (b : List By) : (put S p b false).known = false ∧ (put S p b false).room = S.room ∧ (put S p b false).read = S.read := by
  unfold put
  split
  · exact ⟨by show (S.known || false) = false; rw [hk]; rfl, rfl, rfl⟩
  · exact ⟨hk, rfl, rfl⟩
end Pc

/-- Between two rounds. -/
structure RoomI (w : World) (g m r : Nat) (wr : World) : Prop where
  ok : ∃ S, PcOk wr g m S ∧ S.room = r ∧ S.known = false
  bel : Below w.heap.size w wr

set_option maxRecDepth 20000 in
set_option maxHeartbeats 1000000 in
theorem room_any (r : Nat) (s : OL) (w : World) (hr : r < 65536) (h : s.Ok w) (hl : s.len ≤ 140737488355328) (hb : ∀ j, j < s.len → (go s.l j).b.len ≤ 140737488355328) :
    Calls Try.prog 4 #[.int .u16 (r : Int), .slice s.a s.len s.cap] w fun e w' => e = .returned (.bool true) ∧ Below w.heap.size w w' := by
  have HS := veil h
  have HGR := veil (fun w' (hb' : Below w.heap.size w w') => great_any s w' (h.below hb') hl hb)
  clear h hl hb
  by_cases h1 : s.len > 300
  · have d1 : (s.len : Int) > 300 := by omega
    clear h1 hr HGR HS
    go_enter Try.func4, Try.ntmps4
    go_wp2_with fail
    refine (alive_any w).mono ?_
    rintro e1 w1 ⟨rfl, hb1⟩
    have B1 := veil hb1
    clear hb1
    go_wp2_with fail
    refine (alive_any w1).mono ?_
    rintro e2 w2 ⟨rfl, hb2⟩
    have B2 := veil (B1.out.trans (hb2.mono B1.out.size))
    clear hb2
    go_wp2_with fail
    go_ret
    exact ⟨rfl, B2.out⟩
  have d1 : ¬ ((s.len : Int) > 300) := by omega
  have hw0 : IntKind.i64.wrap (r : Int) = (r : Int) := by rw [IntKind.wrap_i64]; omega
  have hw1 : IntKind.u64.wrap (r : Int) = (r : Int) := by rw [IntKind.wrap_u64]; omega
  go_enter Try.func4, Try.ntmps4
  go_wp2_with fail
  refine (alive_any w).mono ?_
  rintro e1 w1 ⟨rfl, hb1⟩
  have B1 := veil hb1
  clear hb1
  go_wp2_with fail
  refine (HGR.out w1 B1.out).mono ?_
  rintro e2 w2 ⟨rfl | ⟨rfl, hall⟩, rfl⟩
  · go_wp2_with fail
    refine (alive_any w2).mono ?_
    rintro e3 w3 ⟨rfl, hb3⟩
    have B3 := veil (B1.out.trans (hb3.mono B1.out.size))
    clear hb3
    go_wp2_with fail
    go_ret
    exact ⟨rfl, B3.out⟩
  have HALL := veil hall.2
  clear hall
  go_wp2_with fail
  refine (new_to r w2 (by omega) (r : Int) rfl).mono ?_
  rintro e3 w3 ⟨g, m, rfl, hp3, hg, hm, hb3⟩
  have HG := veil (show w.heap.size ≤ g ∧ w.heap.size ≤ m from ⟨Nat.le_trans B1.out.size hg, Nat.le_trans B1.out.size hm⟩)
  have HI := veil (show RoomI w g m r w3 from ⟨⟨_, hp3, rfl, rfl⟩, B1.out.trans (hb3.mono B1.out.size)⟩)
  clear hp3 hb3 hg hm B1 HGR
  go_wp2_with fail
  have HL3 := veil h1
  clear h1
  go_loopw [7] (fun iv wr => ∃ k : Nat, k ≤ s.len ∧ iv = .int .i64 (k : Int) ∧ RoomI w g m r wr)
    (fun iv _ => s.len - (intOf iv).toNat)
  case atStart => exact ⟨0, Nat.zero_le _, rfl, HI.out⟩
  case round =>
    obtain ⟨k, hk, rfl, ⟨S, hok, hroom, hkn⟩, hbel⟩ := hrel
    by_cases hlt : k < s.len
    · have e1 : s.a = some ⟨s.g, s.off, none⟩ := HS.out.at_ (by omega)
      have hSr := HS.out.below hbel
      obtain ⟨c0, c1, c2, c3⟩ := hSr.cells hlt
      have hop := hSr.each k hlt
      have hbl := HALL.out k hlt
      generalize go s.l k = op at *
      obtain ⟨at_, sb, lst, tk⟩ := op
      simp only at c0 c1 c2 c3 hbl
      have HOP := veil hop
      have HOK := veil hok
      have HRM := veil hroom
      have HKN := veil hkn
      have HBE := veil hbel
      clear hSr hop hok hroom hkn hbel
      rw [e1]
      have hw2 : IntKind.i64.wrap ((k : Int) + 1) = ((k + 1 : Nat) : Int) := by rw [IntKind.wrap_i64]; have := HL3.out; omega
      have R0 : Hid (Row (wr.alloc (.cells #[.int .u64 (at_ : Int), .slice sb.a sb.len sb.cap, .bool lst, .int .i64 tk] 43)) wr.heap.size 43 #[.int .u64 (at_ : Int), .slice sb.a sb.len sb.cap, .bool lst, .int .i64 tk]) := Row.new _ _ _
      have B0 : Hid (Below wr.heap.size wr (wr.alloc (.cells #[.int .u64 (at_ : Int), .slice sb.a sb.len sb.cap, .bool lst, .int .i64 tk] 43))) := (Below.refl _ _).alloc (Nat.le_refl _) _
      have HLT := veil (show g < wr.heap.size ∧ m < wr.heap.size from ⟨HOK.out.row.lt, HOK.out.map.lt⟩)
      by_cases ht : tk < 0
      · have d2 : ¬ (tk ≥ 0) := by omega
        by_cases ha : at_ ≤ 1099511627776
        · have d3 : (at_ : Int) ≤ 1099511627776 := by omega
          have hbl0 : IntKind.u64.wrap (sb.len : Int) = (sb.len : Int) := by rw [IntKind.wrap_u64]; omega
          obtain ⟨q, hq⟩ : ∃ q, q = at_ + sb.len := ⟨_, rfl⟩
          have hwq : IntKind.u64.wrap ((at_ : Int) + (sb.len : Int)) = (q : Int) := by rw [IntKind.wrap_u64]; omega
          have HE := veil (Pc.putE_open HKN.out (p := at_) (n := sb.len) (by omega))
          have HPO := veil (Pc.put_open HKN.out at_ sb.b)
          have HQ := veil hq
          have hrd : S.read ≤ 4611686018427387903 := by have := HOK.out.fine.rc; have := HOK.out.fine.come; omega
          obtain ⟨q2, hq2⟩ : ∃ q2, q2 = S.read + r := ⟨_, rfl⟩
          have hwr : IntKind.u64.wrap ((S.read : Int) + (r : Int)) = (q2 : Int) := by rw [IntKind.wrap_u64]; omega
          have HQ2 := veil hq2
          have hsl : sb.len ≤ 4611686018427387903 := by omega
          clear ht ha hq hq2 hrd
          go_wp2_with fail
          generalize (wr.alloc (.cells #[.int .u64 (at_ : Int), .slice sb.a sb.len sb.cap, .bool lst, .int .i64 tk] 43)) = wz at *
          refine (put_any S g m at_ sb false wz (HOK.out.below B0.out) (HOP.out.b.below B0.out) hsl).mono ?_
          rintro e4 w4 ⟨rfl, hp4, hk4⟩
          have P4 := veil (show PcOk w4 g m (Pc.put S at_ sb.b false) ∧ (Pc.put S at_ sb.b false).room = r ∧ (Pc.put S at_ sb.b false).known = false from ⟨hp4, HPO.out.2.1.trans HRM.out, HPO.out.1⟩)
          have B4 := veil (HBE.out.trans ((B0.out.mono HBE.out.size).trans (hk4.two_below (B := w.heap.size) HG.out.1 HG.out.2 (Nat.le_trans HBE.out.size B0.out.size))))
          have R4 := veil (hk4.row R0.out (by have := HLT.out; unfold Two; omega))
          have z0 := R4.out.cell 0
          have z1 := R4.out.cell 1
          clear hp4 hk4
          have hEV := HE.out
          rw [HRM.out, ← HQ.out, ← HQ2.out] at hEV
          have HRD := veil (show ∀ nq, Calls Try.prog 12 #[.pointer (some ⟨g, 0, none⟩)] (w4.drewN nq) fun e w'' => e = .returned (.int .u64 (S.read : Int)) ∧ ∃ m', w'' = w4.drewN m' from fun nq => by
            refine (pcread_any _ g m _ (P4.out.1.below (below_drewN (Below.refl _ _) nq))).mono ?_
            rintro e w' ⟨rfl, rfl⟩
            exact ⟨by rw [HPO.out.2.2], nq, rfl⟩)
          by_cases hfit : q ≤ q2
          · have hE0 : (Pc.putE S at_ sb.len false : Int) = 0 := by rw [hEV, if_pos hfit]; rfl
            rw [hE0]
            have dq : (q : Int) ≤ (q2 : Int) := by omega
            clear hEV hE0
            go_wp2_with fail
            go_quiet (exact HRD.out _)
            have PD := veil (show PcOk (w4.drewN nq) g m (Pc.put S at_ sb.b false) ∧ _ from ⟨P4.out.1.below (below_drewN (Below.refl _ _) nq), P4.out.2⟩)
            have BD := veil (below_drewN B4.out nq)
            generalize w4.drewN nq = wd at *
            go_wp2_with fail
            refine (pcheld_any (Pc.put S at_ sb.b false) g m wd PD.out.1).mono ?_
            rintro e9 w9 ⟨rfl, rfl⟩
            have HHL := veil (Pc.held_le (Pc.put S at_ sb.b false))
            have hh : ¬ ((Pc.heldN (Pc.put S at_ sb.b false) : Int) > (r : Int)) := by have := HHL.out; have := PD.out.2.1; omega
            have HP9 := veil PD.out
            have HB9 := veil BD.out
            clear HHL
            generalize Pc.heldN (Pc.put S at_ sb.b false) = hN at *
            go_wp2
            go_roundw
            case rel => exact ⟨k + 1, hlt, by go_num, ⟨_, HP9.out⟩, HB9.out⟩
            case measure => simp [intOf]; omega
          · have hE0 : (Pc.putE S at_ sb.len false : Int) = 6 := by rw [hEV, if_neg hfit]; rfl
            rw [hE0]
            have dq : ¬ ((q : Int) ≤ (q2 : Int)) := by omega
            clear hEV hE0
            go_wp2_with fail
            go_quiet (exact HRD.out _)
            have PD := veil (show PcOk (w4.drewN nq) g m (Pc.put S at_ sb.b false) ∧ _ from ⟨P4.out.1.below (below_drewN (Below.refl _ _) nq), P4.out.2⟩)
            have BD := veil (below_drewN B4.out nq)
            generalize w4.drewN nq = wd at *
            go_wp2_with fail
            refine (pcheld_any (Pc.put S at_ sb.b false) g m wd PD.out.1).mono ?_
            rintro e9 w9 ⟨rfl, rfl⟩
            have HHL := veil (Pc.held_le (Pc.put S at_ sb.b false))
            have hh : ¬ ((Pc.heldN (Pc.put S at_ sb.b false) : Int) > (r : Int)) := by have := HHL.out; have := PD.out.2.1; omega
            have HP9 := veil PD.out
            have HB9 := veil BD.out
            clear HHL
            generalize Pc.heldN (Pc.put S at_ sb.b false) = hN at *
            go_wp2
            go_roundw
            case rel => exact ⟨k + 1, hlt, by go_num, ⟨_, HP9.out⟩, HB9.out⟩
            case measure => simp [intOf]; omega
        · have d3 : ¬ ((at_ : Int) ≤ 1099511627776) := by omega
          clear ht ha
          go_wp2_with fail
          have PD := veil (show PcOk (wr.alloc (.cells #[.int .u64 (at_ : Int), .slice sb.a sb.len sb.cap, .bool lst, .int .i64 tk] 43)) g m S ∧ S.room = r ∧ S.known = false from ⟨HOK.out.below B0.out, HRM.out, HKN.out⟩)
          have BD := veil (HBE.out.trans (B0.out.mono HBE.out.size))
          generalize (wr.alloc (.cells #[.int .u64 (at_ : Int), .slice sb.a sb.len sb.cap, .bool lst, .int .i64 tk] 43)) = wz at *
          go_wp2_with fail
          refine (pcheld_any S g m wz PD.out.1).mono ?_
          rintro e9 w9 ⟨rfl, rfl⟩
          have HHL := veil (Pc.held_le S)
          have hh : ¬ ((Pc.heldN S : Int) > (r : Int)) := by have := HHL.out; have := PD.out.2.1; omega
          have HP9 := veil PD.out
          have HB9 := veil BD.out
          clear HHL
          generalize Pc.heldN S = hN at *
          go_wp2
          go_roundw
          case rel => exact ⟨k + 1, hlt, by go_num, ⟨_, HP9.out⟩, HB9.out⟩
          case measure => simp [intOf]; omega
      · have d2 : tk ≥ 0 := by omega
        obtain ⟨N, hN⟩ : ∃ N : Nat, tk = (N : Int) := ⟨tk.toNat, by omega⟩
        have hN2 : N ≤ 9223372036854775807 := by have := HOP.out.hi; simp only [hN] at this; omega
        clear ht
        subst hN
        go_wp2_with fail
        generalize (wr.alloc (.cells #[.int .u64 (at_ : Int), .slice sb.a sb.len sb.cap, .bool lst, .int .i64 (N : Int)] 43)) = wz at *
        refine (take_to S _ g m N wz _ _ (HOK.out.below B0.out) hN2 rfl rfl rfl (N : Int) rfl).mono ?_
        rintro e4 w4 ⟨sx, rfl, _, hp4, hk4⟩
        have P4 := veil (show PcOk w4 g m (Pc.takeS S N) ∧ (Pc.takeS S N).room = r ∧ (Pc.takeS S N).known = false from ⟨hp4, HRM.out, HKN.out⟩)
        have B4 := veil (HBE.out.trans ((B0.out.mono HBE.out.size).trans (hk4.two_below (B := w.heap.size) HG.out.1 HG.out.2 (Nat.le_trans HBE.out.size B0.out.size))))
        clear hp4 hk4
        generalize Pc.ended (Pc.takeS S N) = en at *
        go_wp2_with fail
        refine (pcheld_any (Pc.takeS S N) g m w4 P4.out.1).mono ?_
        rintro e9 w9 ⟨rfl, rfl⟩
        have HHL := veil (Pc.held_le (Pc.takeS S N))
        have hh : ¬ ((Pc.heldN (Pc.takeS S N) : Int) > (r : Int)) := by have := HHL.out; have := P4.out.2.1; omega
        have HP9 := veil P4.out
        have HB9 := veil B4.out
        clear HHL
        generalize Pc.heldN (Pc.takeS S N) = hN at *
        go_wp2
        go_roundw
        case rel => exact ⟨k + 1, hlt, by go_num, ⟨_, HP9.out⟩, HB9.out⟩
        case measure => simp [intOf]; omega
    · obtain rfl : s.len = k := by omega
      have HBE := veil hbel
      clear hok hroom hkn hbel
      go_wp2
      go_ret
      exact ⟨rfl, HBE.out⟩

theorem room_walk (r : Nat) (s : OL) (w : World) (hr : r < 65536) (h : s.Ok w) (hl : s.len ≤ 140737488355328 ∧ ∀ j, j < s.len → (go s.l j).b.len ≤ 140737488355328) :
    Calls Try.prog 4 #[.int .u16 (r : Int), .slice s.a s.len s.cap] w fun e w' => e = .returned (.bool true) ∧ Below w.heap.size w w' := room_any r s w hr h hl.1 hl.2
end Go.Proofs.Ytmekhhabkljffaa

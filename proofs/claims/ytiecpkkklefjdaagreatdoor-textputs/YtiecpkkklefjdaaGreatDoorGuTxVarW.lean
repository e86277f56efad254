/-
  varint.PutPrefix and varint.GetPrefix.
-/
import Derived.Test.YtiecpkkklefjdaaGreatDoorRows
import Derived.WalkKit
import Derived.WalkSpells
import Derived.WalkLawsBesides
import Derived.Test.YtiecpkkklefjdaaGreatDoorGuTxVarP
import Derived.RangeFuncNested
import Derived.RangeFuncBox
import Derived.RangeFuncBound
import Derived.RangeFuncCalls
import Derived.RangeFuncLeaves
import Derived.Shelf.Abstract
import Derived.Shelf.RegionOpen
import Derived.OwnWalkIn
import Derived.TacticsInMore
import Derived.LoopNIn
import Derived.LoopIn
import Derived.Maps.AppendAt
namespace Go.Proofs.YtiecpkkklefjdaaGreatDoor.Vi

section
open Go.RowKit
/-- Where bytes lie that are read: they are none, or a row of cells. -/
def Lies (w : World) (a : Option Addr) (zs : List Int) : Prop :=
  zs = [] ∨ ∃ b off, a = some ⟨b, off, none⟩ ∧ b < w.heap.size ∧ ∀ j : Nat, j < zs.length → w.cell? ⟨b, off + j, none⟩ = some (.int .u8 (zs[j]?.getD 0))

theorem Tryz.infoByte : (Tryz.prog.info? 5).map (fun i => (i.zero, i.size, i.bytes)) = some (some (.int .u8 0), 1, 1) := by kernel_rfl
end

section
open Go.RowKit
theorem Lies.belowL {w w' : World} {a : Option Addr} {zs : List Int} (h : Lies w a zs) (hb : Below w.heap.size w w') : Lies w' a zs := by
  rcases h with h | ⟨b, off, rfl, hlt, hc⟩
  · exact .inl h
  · exact .inr ⟨b, off, rfl, Nat.lt_of_lt_of_le hlt hb.size, fun j hj => (hb.cell (p := ⟨b, off + j, none⟩) hlt).trans (hc j hj)⟩

theorem Lies.at {w : World} {a : Option Addr} {zs : List Int} (h : Lies w a zs) {k : Nat} (hk : k < zs.length) : ∃ b off, a = some ⟨b, off, none⟩ ∧ w.cell? ⟨b, off + k, none⟩ = some (.int .u8 (zs[k]?.getD 0)) := by
  rcases h with h | ⟨b, off, rfl, _, hc⟩
  · rw [h] at hk; exact absurd hk (Nat.not_lt_zero _)
  · exact ⟨b, off, rfl, hc k hk⟩
end

section
open Go.RowKit

set_option maxHeartbeats 400000 in
theorem mayBe_yes (b : Int) (w : World) (h0 : 1 ≤ b) (h1 : b ≤ 8) :
    Calls Tryz.prog 91 #[.int .i64 b] w fun e w' => e = .returned (.bool true) ∧ w' = w := by
  go_enter Tryz.func91, Tryz.ntmps91
  go_wp2
  go_ret
  exact ⟨rfl, rfl⟩

set_option maxHeartbeats 400000 in
theorem mayBe_no (b : Int) (w : World) (h : b < 1 ∨ 8 < b) :
    Calls Tryz.prog 91 #[.int .i64 b] w fun e w' => e = .returned (.bool false) ∧ w' = w := by
  rcases h with h | h
  · have h2 : decide (1 ≤ b) = false := by simp; omega
    go_enter Tryz.func91, Tryz.ntmps91
    go_wp2
    go_ret
    exact ⟨rfl, rfl⟩
  · have h2 : decide (1 ≤ b) = true := by simp; omega
    have h3 : decide (b ≤ 8) = false := by simp; omega
    go_enter Tryz.func91, Tryz.ntmps91
    go_wp2
    go_ret
    exact ⟨rfl, rfl⟩

set_option maxHeartbeats 1000000 in
theorem ones_any (b M : Int) (w : World) (h : IsMask b M) :
    Calls Tryz.prog 92 #[.int .i64 b] w fun e w' => e = .returned (.int .u64 M) ∧ w' = w := by
  unfold IsMask at h
  rcases h with ⟨rfl, rfl⟩ | ⟨rfl, rfl⟩ | ⟨rfl, rfl⟩ | ⟨rfl, rfl⟩ | ⟨rfl, rfl⟩ | ⟨rfl, rfl⟩ | ⟨rfl, rfl⟩ | ⟨rfl, rfl⟩
  all_goals
    go_enter Tryz.func92, Tryz.ntmps92
    go_wp2
    go_ret
    exact ⟨rfl, rfl⟩
end

section
open Go.RowKit Go.Shelf
attribute [local go_sem] Oper.semAt_some

set_option maxRecDepth 100000 in
set_option maxHeartbeats 1000000 in
theorem sevens1_in (F : Fence) (n : Nat) (h6 : F.fn 100) (hro : F.round = none) (hn : 1 ≤ n) (l Bn n₀ : Nat) (m : Int) (hm0 : 0 ≤ m) (hm1 : m < 4611686018427387904) (J Jx : List Int → World → Prop)
    (hY : ∀ pre x W, J pre W → pre.length < 10 → YieldAt F (n - 1) Tryz.prog l #[.int .u8 x] W fun e W' =>
      (e = .returned (.bool true) ∧ J (pre ++ [x]) W' ∧ Below n₀ W W') ∨ (e = .returned (.bool false) ∧ Jx (pre ++ [x]) W'))
    (W : World) (hBn : W.cell? ⟨Bn, 0, none⟩ = some (.int .u64 m)) (h0 : J [] W) :
    CallsIn F n Tryz.prog 100 #[.func (.yield l) #[] #[], .pointer (some ⟨Bn, 0, none⟩)] W fun e W' => (∃ v, e = .returned v) ∧
      ((∃ ys, ys = sev 9 m ∧ J ys W') ∨ (∃ pre, True ∧ Jx pre W')) := by
  refine callsIn_of_wp Tryz.func100 rfl h6 ?_ hro
  simp only [Tryz.ntmps100, List.size_toArray, List.length_cons, List.length_nil, Nat.reduceAdd, Nat.reduceSub, Array.replicate_succ, Array.replicate_zero, List.push_toArray, List.append_toArray, List.nil_append, List.cons_append]
  gi_wp2
  gi_loopw [3] (fun p wr => ∃ (pre : List Int) (f : Nat) (r : Int), p = .int .u64 r ∧ 0 ≤ r ∧ r < 4611686018427387904 ∧ pre.length + f = 9 ∧ r < pw f ∧ sev 9 m = pre ++ sev f r ∧ J pre wr)
    (fun p _ => (intOf p).toNat)
  case atStart =>
    exact ⟨[], 9, m, rfl, hm0, hm1, rfl, by rw [pw_nine]; omega, rfl, h0⟩
  case round =>
    obtain ⟨pre, f, r, rfl, hr0, hr1, hf, hr2, hs, hJs⟩ := hrel
    have HS : Hid (sev 9 m = pre ++ sev f r) := hs
    clear hs
    by_cases hlt : r < 128
    · obtain ⟨fn, tmps, assign, body, hy, hR⟩ := hY pre r wr hJs (by omega)
      gi_wp2
      refine hR.mono ?_
      have hfin : sev 9 m = pre ++ [r] := by rw [HS.out, sev_last f r hlt]
      rintro e W3 (⟨rfl, hJ3, hk3⟩ | ⟨rfl, hJx3⟩)
      · gi_wp2
        go_end0
        exact ⟨⟨_, rfl⟩, .inl ⟨_, hfin.symm, hJ3⟩⟩
      · gi_wp2
        go_end0
        exact ⟨⟨_, rfl⟩, .inr ⟨_, trivial, hJx3⟩⟩
    · cases f with
      | zero => have : r < 64 := hr2; omega
      | succ f =>
      have hor := or128 r hr0
      have hpw : r < 128 * pw f := hr2
      have hsn := sev_more f r (by omega)
      have hn1 : sev 9 m = (pre ++ [r % 128 + 128]) ++ sev f (r / 128) := by rw [HS.out, hsn]; simp
      have HN : Hid (sev 9 m = (pre ++ [r % 128 + 128]) ++ sev f (r / 128)) := hn1
      clear hsn HS hr2 hn1
      obtain ⟨fn, tmps, assign, body, hy, hR⟩ := hY pre (r % 128 + 128) wr hJs (by omega)
      gi_wp2
      refine hR.mono ?_
      rintro e W3 (⟨rfl, hJ3, hk3⟩ | ⟨rfl, hJx3⟩)
      · gi_wp2
        go_roundw
        case rel => exact ⟨pre ++ [r % 128 + 128], f, r / 128, rfl, by omega, by omega, by simp; omega, by omega, HN.out, hJ3⟩
        case measure => simp [intOf]; omega
      · gi_wp2
        refine bodyPost_ret (results_none rfl _ _ _) rfl ?_
        exact ⟨⟨_, rfl⟩, .inr ⟨_, trivial, hJx3⟩⟩

set_option maxHeartbeats 1000000 in
theorem sevens_in (F : Fence) (n : Nat) (h5 : F.fn 93) (hro : F.round = none) (m : Int) (w : World) :
    CallsIn F n Tryz.prog 93 #[.int .u64 m] w fun e w' => e = .returned (.func (.func 100) #[] #[.pointer (some ⟨w.heap.size, 0, none⟩)]) ∧ w' = w.alloc (.cells #[.int .u64 m] 54) := by
  refine callsIn_of_wp Tryz.func93 rfl h5 ?_ hro
  simp only [Tryz.ntmps93, List.size_toArray, List.length_cons, List.length_nil, Nat.reduceAdd, Nat.reduceSub, Array.replicate_succ, Array.replicate_zero, List.push_toArray, List.append_toArray, List.nil_append, List.cons_append]
  gi_wp2
  go_ret
  exact ⟨rfl, rfl⟩

theorem sevens_stops (F : Fence) (n : Nat) (h6 : F.fn 100) (hro : F.round = none) (hn : 1 ≤ n) (Bn n₀ : Nat) (m : Int) (hm0 : 0 ≤ m) (hm1 : m < 4611686018427387904) (w : World) (hBn : Bn < w.heap.size)
    (hc : w.cell? ⟨Bn, 0, none⟩ = some (.int .u64 m)) :
    SeqStopsK F n Tryz.prog 100 #[.pointer (some ⟨Bn, 0, none⟩)] (fun x : Int => #[Value.int .u8 x]) (Below n₀) (fun ys => ys = sev 9 m) (fun _ => True) 10 w := fun l J Jx W hW _ _ hY h0 =>
  sevens1_in F n h6 hro hn l Bn n₀ m hm0 hm1 J Jx hY W ((hW.cell (p := ⟨Bn, 0, none⟩) hBn).trans hc) h0
end

section
open Go.RowKit Go.Shelf
attribute [local go_sem] Oper.semAt_some

set_option maxHeartbeats 1000000 in
theorem putp_bits (first b n : Int) (w : World) (h : b < 1 ∨ 8 < b) :
    Calls Tryz.prog 60 #[.int .u8 first, .int .i64 b, .int .u64 n] w fun e w' => e = .returned (.tuple #[.slice none 0 0, .int .i64 1]) ∧ w' = w := by
  go_enter Tryz.func60, Tryz.ntmps60
  go_wp2_with fail
  refine (mayBe_no _ _ h).mono ?_
  rintro e1 w1 ⟨rfl, rfl⟩
  go_wp2
  go_ret2
  exact ⟨rfl, rfl⟩

set_option maxHeartbeats 1000000 in
theorem putp_large (first b n : Int) (w : World) (h0 : 1 ≤ b) (h1 : b ≤ 8) (hn : 4611686018427387903 < n) :
    Calls Tryz.prog 60 #[.int .u8 first, .int .i64 b, .int .u64 n] w fun e w' => e = .returned (.tuple #[.slice none 0 0, .int .i64 1]) ∧ w' = w := by
  go_enter Tryz.func60, Tryz.ntmps60
  go_wp2_with fail
  refine (mayBe_yes _ _ h0 h1).mono ?_
  rintro e1 w1 ⟨rfl, rfl⟩
  go_wp2
  go_ret2
  exact ⟨rfl, rfl⟩

set_option maxHeartbeats 1000000 in
theorem putp_first (first b M n : Int) (w : World) (h : IsMask b M) (hf0 : 0 ≤ first) (hf1 : first ≤ 255) (hn : n ≤ 4611686018427387903) (hf : first % (M + 1) ≠ 0) :
    Calls Tryz.prog 60 #[.int .u8 first, .int .i64 b, .int .u64 n] w fun e w' => e = .returned (.tuple #[.slice none 0 0, .int .i64 1]) ∧ w' = w := by
  have hbd := h.bd
  have hand := h.and64 first hf0 hf1
  have hne : (first % (M + 1) != 0) = true := by simpa using hf
  have H : Hid (IsMask b M) := h
  clear h
  go_enter Tryz.func60, Tryz.ntmps60
  go_wp2_with fail
  refine (mayBe_yes _ _ hbd.1 hbd.2.1).mono ?_
  rintro e1 w1 ⟨rfl, rfl⟩
  go_wp2_with fail
  refine (ones_any _ M _ H.out).mono ?_
  rintro e1 w1 ⟨rfl, rfl⟩
  go_wp2
  go_ret2
  exact ⟨rfl, rfl⟩

set_option maxHeartbeats 1000000 in
theorem putp_short (first b M n : Int) (w : World) (h : IsMask b M) (hf0 : 0 ≤ first) (hf1 : first ≤ 255) (hn : 0 ≤ n) (hf : first % (M + 1) = 0) (hs : n < M) :
    Calls Tryz.prog 60 #[.int .u8 first, .int .i64 b, .int .u64 n] w fun e w' => e = .returned (.tuple #[.slice (some ⟨w.heap.size, 0, none⟩) 1 1, .int .i64 0]) ∧ w' = w.alloc (.cells #[.int .u8 (first + n)] 5) := by
  have hbd := h.bd
  have hand := h.and64 first hf0 hf1
  have hor := h.or8 first n hf0 hf1 hf hn (by omega)
  rw [hf] at hand
  have H : Hid (IsMask b M) := h
  clear h hf
  go_enter Tryz.func60, Tryz.ntmps60
  go_wp2_with fail
  refine (mayBe_yes _ _ hbd.1 hbd.2.1).mono ?_
  rintro e1 w1 ⟨rfl, rfl⟩
  go_wp2_with fail
  refine (ones_any _ M _ H.out).mono ?_
  rintro e1 w1 ⟨rfl, rfl⟩
  go_wp2
  go_ret2
  exact ⟨rfl, rfl⟩

set_option maxRecDepth 100000 in
set_option maxHeartbeats 2000000 in
theorem putp_long (first b M n : Int) (w : World) (h : IsMask b M) (hf0 : 0 ≤ first) (hf1 : first ≤ 255) (hn : n ≤ 4611686018427387903) (hf : first % (M + 1) = 0) (hs : M ≤ n) :
    Calls Tryz.prog 60 #[.int .u8 first, .int .i64 b, .int .u64 n] w fun e W' => ∃ v, e = .returned (.tuple #[v, .int .i64 0]) ∧
      W'.ownsRow w.heap.size 5 1 v ((sev 9 (n - M)).length + 1) ((((first + M) :: sev 9 (n - M))).map (Value.int .u8)) ∧ Below w.heap.size w W' := by
  have hbd := h.bd
  have hand := h.and64 first hf0 hf1
  have hor := h.or8 first M hf0 hf1 hf (by omega) (by omega)
  rw [hf] at hand
  have H : Hid (IsMask b M) := h
  clear h hf
  obtain ⟨i0, hi, hz0, hz1, hz2⟩ := info_parts Tryz.infoByte
  refine (callsIn_wide (n := 4)).1 ?_
  refine callsIn_of_wp_marks Tryz.func60 rfl trivial ?_ rfl
  simp only [Tryz.ntmps60, List.size_toArray, List.length_cons, List.length_nil, Nat.reduceAdd, Nat.reduceSub, Array.replicate_succ, Array.replicate_zero, List.push_toArray, List.append_toArray, List.nil_append, List.cons_append]
  gi_wp2_with fail
  refine ⟨trivial, (callsIn_wide.2 (mayBe_yes _ _ hbd.1 hbd.2.1)).mono ?_⟩
  rintro e1 w1 ⟨rfl, hw1⟩
  obtain rfl := hw1.symm
  gi_wp2_with fail
  refine ⟨trivial, (callsIn_wide.2 (ones_any _ M _ H.out)).mono ?_⟩
  rintro e1 w1 ⟨rfl, hw1⟩
  obtain rfl := hw1.symm
  gi_wp2_with fail
  refine ⟨trivial, (sevens_in _ _ trivial rfl _ _).mono ?_⟩
  rintro e1 w1 ⟨rfl, rfl⟩
  gi_wp2
  have bR := World.ownsRow_lit (base := w.heap.size) (e := 5) (size := 1) w #[.int .u8 (first + M)] 1 (Nat.le_refl _) (by decide) rfl
  have bO := Boxed.new (w.alloc (.cells #[.int .u8 (first + M)] 5)) 23 (.slice (some ⟨w.heap.size, 0, none⟩) 1 1)
  rw [World.size_alloc] at bO
  have bN := Boxed.new ((w.alloc (.cells #[.int .u8 (first + M)] 5)).alloc (.cells #[.slice (some ⟨w.heap.size, 0, none⟩) 1 1] 23)) 54 (.int .u64 (n - M))
  rw [World.size_alloc, World.size_alloc] at bN
  have hB0 : Below w.heap.size w (((w.alloc (.cells #[.int .u8 (first + M)] 5)).alloc (.cells #[.slice (some ⟨w.heap.size, 0, none⟩) 1 1] 23)).alloc (.cells #[.int .u64 (n - M)] 54)) := (((Below.refl _ w).alloc (Nat.le_refl _) _).alloc (by simp) _).alloc (by simp; omega) _
  have hbytes : i0.bytes = 1 := hz2
  refine wpIn_rangeFunc_ownG rfl (by decide) (gf := 100) (lb := #[.pointer (some ⟨w.heap.size + 1 + 1, 0, none⟩)]) rfl trivial (enters_of Tryz.func100 (by kernel_rfl) rfl)
    (sevens_stops Fence.wide (4 - 1) trivial rfl (by decide) (w.heap.size + 1 + 1) w.heap.size (n - M) (by omega) (by omega) _ (by simp) bN.cell) belowK_t (belowK_b (by simp; omega)) (Below.refl _ _) (fun _ => rfl)
    (fun pre W => (∃ v, Boxed W (w.heap.size + 1) 23 v ∧ W.ownsRow w.heap.size 5 1 v (pre.length + 1) (((first + M) :: pre).map (Value.int .u8)) ∧ True) ∧ Below w.heap.size w W)
    (fun _ _ _ => False)
    (OwnFrom.and (Own.from (holdsRow_own w.heap.size (w.heap.size + 1) 23 5 1 (fun pre : List Int => pre.length + 1) (fun pre => ((first + M) :: pre).map (Value.int .u8)) (fun _ _ => True)) _) (ownFrom_below (Nat.le_refl _) (by simp; omega)))
    (fun _ _ _ _ _ hs _ _ => hs)
    ⟨⟨_, bO.alloc _, by simpa using (bR.alloc _).alloc _, trivial⟩, hB0⟩
    (fun x => { tmps := #[.int .u8 first, .int .i64 b, .int .u64 n, undef, undef, undef, .slice none 0 0, .int .i64 0, .int .u64 M, .pointer (some ⟨w.heap.size + 1, 0, none⟩), .int .u8 x, .int .i64 b, .bool true, .bool false, .bool false, .int .u64 n, .bool (decide (4611686018427387903 < n)), .bool (decide (4611686018427387903 < n)), .int .i64 b, .int .u64 M, .int .u8 first, .int .u64 first, .int .u64 M, .int .u64 0, .bool false, .int .u64 n, .int .u64 M, .bool (decide (n < M)), undef, undef, undef, undef, undef, .int .u8 first, .int .u64 M, .int .u8 M, .int .u8 (first + M), .slice (some ⟨w.heap.size, 0, none⟩) 1 1, .int .u64 n, .int .u64 M, .int .u64 (n - M), .func (.func 100) #[] #[.pointer (some ⟨w.heap.size + 1 + 1, 0, none⟩)], .int .u8 x, undef, undef, undef, undef, undef], defers := [] }) ?assign ?body ?done ?stop
  case assign =>
    intro l x W K hK
    gi_wp2
    exact hK
  case body =>
    rintro l pre x W ⟨⟨v, hv, hrow, _⟩, hB⟩ hlt
    obtain ⟨g, cap, rfl⟩ := ownsRow_succ hrow
    have hc := hv.cell
    clear bR bO bN hB0
    gi_wp2_with (gi_at_builtin; refine wpListIn_append_own _ rfl _ _ 23 rfl w.heap.size 5 i0 (.int .u8 0) 1 1 Tryz.underlying23 hi hz0 hz1 hz2 rfl (by decide) _ _ _ rfl (hrow.alloc _) ⟨W.heap.size, 0, none⟩ 1 1 [.int .u8 x] rfl rfl (cell_one_new _ _ _) (by simp [Value.oneCell']) (by unfold maxLen; omega) (by omega) (by have := hB.size; simp; omega) ?_; intro v' w1 hown' hgrow _; obtain ⟨g', cap', rfl⟩ := ownsRow_succ hown'; obtain ⟨hv1, hv2, hr2, hk2, hb2⟩ := hv.appended (by decide) hrow hB.size (by omega) hown' hgrow; have hc1 := hv1.cell; have hf1 := hv1.frozen)
    exact ⟨hk2.from _, hb2, ⟨_, hv2, by simpa using hr2, trivial⟩, hB.trans hb2⟩
  case done =>
    rintro D ys W hD rfl ⟨⟨v, hv, hrow, _⟩, hB⟩ hK
    obtain ⟨g, cap, rfl⟩ := ownsRow_succ hrow
    have hc := hv.cell
    gi_wp2
    refine ⟨by simp, .inl ⟨_, _, rfl, run_takeDeferred hK, ?_⟩⟩
    exact ⟨_, results_tmp2 rfl _ _ _, _, rfl, ownsRow_putObj hrow _ hK rfl, hB.trans (belowK_b (w := w) (Nat.le_refl _) W D _ _ (by simp at hD; omega) hK rfl rfl)⟩
  case stop =>
    rintro D c pre W _ _ h _
    exact h.elim
end

section
open Go.RowKit
/-- A row of bytes of the call's own, all of it taken. -/
def Owns (base : Nat) (w : World) (g len cap : Nat) (zs : List Int) : Prop :=
  zs.length = len ∧ w.ownsRow base 5 1 (.slice (some ⟨g, 0, none⟩) len cap) len (zs.map (Value.int .u8))

theorem Owns.lies {base : Nat} {w : World} {g len cap : Nat} {zs : List Int} (h : Owns base w g len cap zs) : Lies w (some ⟨g, 0, none⟩) zs := by
  obtain ⟨h1, h2⟩ := h
  obtain ⟨_, h4⟩ := h2.lt g rfl
  refine .inr ⟨g, 0, rfl, h4, fun j hj => ?_⟩
  rw [Nat.zero_add, h2.cellAt j (by omega), List.getElem?_map]
  simp [hj]

theorem Owns.cap {base : Nat} {w : World} {g len cap : Nat} {zs : List Int} (h : Owns base w g len cap zs) : len ≤ cap := by
  rcases h.2.2 with ⟨e, _⟩ | ⟨g', cap', cur, e, _, _, h4, _⟩
  · cases e
  · cases e; exact h4

theorem Owns.step {base : Nat} {w w' : World} {g len cap : Nat} {zs : List Int} (h : Owns base w g len cap zs) (hb : Below w.heap.size w w') : Owns base w' g len cap zs := by
  obtain ⟨h1, h2, h3⟩ := h
  refine ⟨h1, h2, ?_⟩
  rcases h3 with ⟨e, _⟩ | ⟨g', cap', cur, e, h5, h6, h7⟩
  · cases e
  · exact .inr ⟨g', cap', cur, e, h5, (hb.block g' (Array.getElem?_eq_some_iff.1 h6).1).trans h6, h7⟩
end

section
open Go.RowKit
theorem own_lit (w : World) (zs : List Int) (h : zs.length ≤ maxLen) : Owns w.heap.size (w.alloc (.cells (zs.map (Value.int .u8)).toArray 5)) w.heap.size zs.length zs.length zs := by
  refine ⟨rfl, ?_⟩
  have := World.ownsRow_lit (base := w.heap.size) (e := 5) (size := 1) w (zs.map (Value.int .u8)).toArray zs.length (Nat.le_refl _) h (by simp)
  simpa using this
end

section
open Go.RowKit
theorem putP_len (first M n : Int) : 1 ≤ (putP first M n).length ∧ (putP first M n).length ≤ 11 := by
  unfold putP
  split
  · simp
  · have := sev_len 9 (n - M); simp only [List.length_cons]; omega

theorem putp_own (first b M n : Int) (w : World) (h : IsMask b M) (hf0 : 0 ≤ first) (hf1 : first ≤ 255) (h0 : 0 ≤ n) (hn : n ≤ 4611686018427387903) (hf : first % (M + 1) = 0) :
    Calls Tryz.prog 60 #[.int .u8 first, .int .i64 b, .int .u64 n] w fun e w' => ∃ g cap, e = .returned (.tuple #[.slice (some ⟨g, 0, none⟩) (putP first M n).length cap, .int .i64 0]) ∧ Owns w.heap.size w' g (putP first M n).length cap (putP first M n) ∧ Below w.heap.size w w' := by
  by_cases hs : n < M
  · have e : putP first M n = [first + n] := by unfold putP; rw [if_pos hs]
    have ho := own_lit w [first + n] (show 1 ≤ maxLen by decide)
    rw [e]
    exact (putp_short first b M n w h hf0 hf1 h0 hf hs).mono fun e' w' ⟨a1, a2⟩ => ⟨_, _, a1, by rw [a2]; exact ho, by rw [a2]; exact (Below.refl _ w).alloc (Nat.le_refl _) _⟩
  · have e : putP first M n = (first + M) :: sev 9 (n - M) := by unfold putP; rw [if_neg hs]
    rw [e]
    refine (putp_long first b M n w h hf0 hf1 hn hf (by omega)).mono fun e' w' ⟨v, a1, a2, a3⟩ => ?_
    obtain ⟨g, cap, rfl⟩ := ownsRow_succ a2
    exact ⟨g, cap, a1, ⟨rfl, a2⟩, a3⟩
end

section
open Go.RowKit
/-- What GetPrefix answers: what stands above, the number, how many bytes, the error. -/
def getP (M : Int) (zs : List Int) : Int × Int × Int × Int :=
  if zs.length = 0 then (0, 0, 0, 4)
  else if zs[0]?.getD 0 % (M + 1) < M then (zs[0]?.getD 0 - zs[0]?.getD 0 % (M + 1), zs[0]?.getD 0 % (M + 1), 1, 0)
  else if 10 ≤ cnt (zs.drop 1) then (0, 0, 0, 5)
  else if cnt (zs.drop 1) = (zs.drop 1).length then (0, 0, 0, 4)
  else if 4611686018427387903 < val7 ((zs.drop 1).take (cnt (zs.drop 1) + 1)) + M then (0, 0, 0, 3)
  else (zs[0]?.getD 0 - zs[0]?.getD 0 % (M + 1), val7 ((zs.drop 1).take (cnt (zs.drop 1) + 1)) + M, (cnt (zs.drop 1) : Int) + 2, 0)

def getPV (M : Int) (zs : List Int) : Value := .tuple #[.int .u8 (getP M zs).1, .int .u64 (getP M zs).2.1, .int .i64 (getP M zs).2.2.1, .int .i64 (getP M zs).2.2.2]
end

end Go.Proofs.YtiecpkkklefjdaaGreatDoor.Vi

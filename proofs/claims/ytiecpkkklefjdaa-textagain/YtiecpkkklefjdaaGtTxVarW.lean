/-
  varint.PutPrefix and varint.GetPrefix.
-/
import Derived.Test.YtiecpkkklefjdaaRows
import Derived.WalkKit
import Derived.WalkSpells
import Derived.WalkLawsBesides
import Derived.Test.YtiecpkkklefjdaaGtTxVarP
import Derived.RangeFuncNested
import Derived.RangeFuncBox
import Derived.RangeFuncBound
import Derived.RangeFuncCalls
import Derived.RangeFuncLeaves
import Derived.Shelf.Abstract
import Derived.Shelf.RegionOpen
import Derived.OwnWalkIn
import Derived.TacticsInMore
import Derived.LoopNIn
import Derived.LoopIn
import Derived.Maps.AppendAt
namespace Go.Proofs.Ytiecpkkklefjdaa.Vi

section
open Go.RowKit
/-- Where bytes lie that are read: they are none, or a row of cells. -/
def Lies (w : World) (a : Option Addr) (zs : List Int) : Prop :=
  zs = [] ∨ ∃ b off, a = some ⟨b, off, none⟩ ∧ b < w.heap.size ∧ ∀ j : Nat, j < zs.length → w.cell? ⟨b, off + j, none⟩ = some (.int .u8 (zs[j]?.getD 0))

theorem Try.infoByte : (Try.prog.info? 5).map (fun i => (i.zero, i.size, i.bytes)) = some (some (.int .u8 0), 1, 1) := by kernel_rfl
end

section
open Go.RowKit
theorem Lies.belowL {w w' : World} {a : Option Addr} {zs : List Int} (h : Lies w a zs) (hb : Below w.heap.size w w') : Lies w' a zs := by
  rcases h with h | ⟨b, off, rfl, hlt, hc⟩
  · exact .inl h
  · exact .inr ⟨b, off, rfl, Nat.lt_of_lt_of_le hlt hb.size, fun j hj => (hb.cell (p := ⟨b, off + j, none⟩) hlt).trans (hc j hj)⟩

theorem Lies.at {w : World} {a : Option Addr} {zs : List Int} (h : Lies w a zs) {k : Nat} (hk : k < zs.length) : ∃ b off, a = some ⟨b, off, none⟩ ∧ w.cell? ⟨b, off + k, none⟩ = some (.int .u8 (zs[k]?.getD 0)) := by
  rcases h with h | ⟨b, off, rfl, _, hc⟩
  · rw [h] at hk; exact absurd hk (Nat.not_lt_zero _)
  · exact ⟨b, off, rfl, hc k hk⟩
end

section
open Go.RowKit

set_option maxHeartbeats 400000 in
theorem mayBe_yes (b : Int) (w : World) (h0 : 1 ≤ b) (h1 : b ≤ 8) :
    Calls Try.prog 30 #[.int .i64 b] w fun e w' => e = .returned (.bool true) ∧ w' = w := by
  go_enter Try.func30, Try.ntmps30
  go_wp2
  go_ret
  exact ⟨rfl, rfl⟩

set_option maxHeartbeats 400000 in
theorem mayBe_no (b : Int) (w : World) (h : b < 1 ∨ 8 < b) :
    Calls Try.prog 30 #[.int .i64 b] w fun e w' => e = .returned (.bool false) ∧ w' = w := by
  rcases h with h | h
  · have h2 : decide (1 ≤ b) = false := by simp; omega
    go_enter Try.func30, Try.ntmps30
    go_wp2
    go_ret
    exact ⟨rfl, rfl⟩
  · have h2 : decide (1 ≤ b) = true := by simp; omega
    have h3 : decide (b ≤ 8) = false := by simp; omega
    go_enter Try.func30, Try.ntmps30
    go_wp2
    go_ret
    exact ⟨rfl, rfl⟩

set_option maxHeartbeats 1000000 in
theorem ones_any (b M : Int) (w : World) (h : IsMask b M) :
    Calls Try.prog 31 #[.int .i64 b] w fun e w' => e = .returned (.int .u64 M) ∧ w' = w := by
  unfold IsMask at h
  rcases h with ⟨rfl, rfl⟩ | ⟨rfl, rfl⟩ | ⟨rfl, rfl⟩ | ⟨rfl, rfl⟩ | ⟨rfl, rfl⟩ | ⟨rfl, rfl⟩ | ⟨rfl, rfl⟩ | ⟨rfl, rfl⟩
  all_goals
    go_enter Try.func31, Try.ntmps31
    go_wp2
    go_ret
    exact ⟨rfl, rfl⟩
end

section
open Go.RowKit Go.Shelf
attribute [local go_sem] Oper.semAt_some

set_option maxRecDepth 100000 in
set_option maxHeartbeats 1000000 in
theorem sevens1_in (F : Fence) (n : Nat) (h6 : F.fn 43) (hro : F.round = none) (hn : 1 ≤ n) (l Bn n₀ : Nat) (m : Int) (hm0 : 0 ≤ m) (hm1 : m < 4611686018427387904) (J Jx : List Int → World → Prop)
    (hY : ∀ pre x W, J pre W → pre.length < 10 → YieldAt F (n - 1) Try.prog l #[.int .u8 x] W fun e W' =>
      (e = .returned (.bool true) ∧ J (pre ++ [x]) W' ∧ Below n₀ W W') ∨ (e = .returned (.bool false) ∧ Jx (pre ++ [x]) W'))
    (W : World) (hBn : W.cell? ⟨Bn, 0, none⟩ = some (.int .u64 m)) (h0 : J [] W) :
    CallsIn F n Try.prog 43 #[.func (.yield l) #[] #[], .pointer (some ⟨Bn, 0, none⟩)] W fun e W' => (∃ v, e = .returned v) ∧
      ((∃ ys, ys = sev 9 m ∧ J ys W') ∨ (∃ pre, True ∧ Jx pre W')) := by
  refine callsIn_of_wp Try.func43 rfl h6 ?_ hro
  simp only [Try.ntmps43, List.size_toArray, List.length_cons, List.length_nil, Nat.reduceAdd, Nat.reduceSub, Array.replicate_succ, Array.replicate_zero, List.push_toArray, List.append_toArray, List.nil_append, List.cons_append]
  gi_wp2
  gi_loopw [3] (fun p wr => ∃ (pre : List Int) (f : Nat) (r : Int), p = .int .u64 r ∧ 0 ≤ r ∧ r < 4611686018427387904 ∧ pre.length + f = 9 ∧ r < pw f ∧ sev 9 m = pre ++ sev f r ∧ J pre wr)
    (fun p _ => (intOf p).toNat)
  case atStart =>
    exact ⟨[], 9, m, rfl, hm0, hm1, rfl, by rw [pw_nine]; omega, rfl, h0⟩
  case round =>
    obtain ⟨pre, f, r, rfl, hr0, hr1, hf, hr2, hs, hJs⟩ := hrel
    have HS : Hid (sev 9 m = pre ++ sev f r) := hs
    clear hs
    by_cases hlt : r < 128
    · obtain ⟨fn, tmps, assign, body, hy, hR⟩ := hY pre r wr hJs (by omega)
      gi_wp2
      refine hR.mono ?_
      have hfin : sev 9 m = pre ++ [r] := by rw [HS.out, sev_last f r hlt]
      rintro e W3 (⟨rfl, hJ3, hk3⟩ | ⟨rfl, hJx3⟩)
      · gi_wp2
        go_end0
        exact ⟨⟨_, rfl⟩, .inl ⟨_, hfin.symm, hJ3⟩⟩
      · gi_wp2
        go_end0
        exact ⟨⟨_, rfl⟩, .inr ⟨_, trivial, hJx3⟩⟩
    · cases f with
      | zero => have : r < 64 := hr2; omega
      | succ f =>
      have hor := or128 r hr0
      have hpw : r < 128 * pw f := hr2
      have hsn := sev_more f r (by omega)
      have hn1 : sev 9 m = (pre ++ [r % 128 + 128]) ++ sev f (r / 128) := by rw [HS.out, hsn]; simp
      have HN : Hid (sev 9 m = (pre ++ [r % 128 + 128]) ++ sev f (r / 128)) := hn1
      clear hsn HS hr2 hn1
      obtain ⟨fn, tmps, assign, body, hy, hR⟩ := hY pre (r % 128 + 128) wr hJs (by omega)
      gi_wp2
      refine hR.mono ?_
      rintro e W3 (⟨rfl, hJ3, hk3⟩ | ⟨rfl, hJx3⟩)
      · gi_wp2
        go_roundw
        case rel => exact ⟨pre ++ [r % 128 + 128], f, r / 128, rfl, by omega, by omega, by simp; omega, by omega, HN.out, hJ3⟩
        case measure => simp [intOf]; omega
      · gi_wp2
        refine bodyPost_ret (results_none rfl _ _ _) rfl ?_
        exact ⟨⟨_, rfl⟩, .inr ⟨_, trivial, hJx3⟩⟩

set_option maxHeartbeats 1000000 in
theorem sevens_in (F : Fence) (n : Nat) (h5 : F.fn 32) (hro : F.round = none) (m : Int) (w : World) :
    CallsIn F n Try.prog 32 #[.int .u64 m] w fun e w' => e = .returned (.func (.func 43) #[] #[.pointer (some ⟨w.heap.size, 0, none⟩)]) ∧ w' = w.alloc (.cells #[.int .u64 m] 39) := by
  refine callsIn_of_wp Try.func32 rfl h5 ?_ hro
  simp only [Try.ntmps32, List.size_toArray, List.length_cons, List.length_nil, Nat.reduceAdd, Nat.reduceSub, Array.replicate_succ, Array.replicate_zero, List.push_toArray, List.append_toArray, List.nil_append, List.cons_append]
  gi_wp2
  go_ret
  exact ⟨rfl, rfl⟩

theorem sevens_stops (F : Fence) (n : Nat) (h6 : F.fn 43) (hro : F.round = none) (hn : 1 ≤ n) (Bn n₀ : Nat) (m : Int) (hm0 : 0 ≤ m) (hm1 : m < 4611686018427387904) (w : World) (hBn : Bn < w.heap.size)
    (hc : w.cell? ⟨Bn, 0, none⟩ = some (.int .u64 m)) :
    SeqStopsK F n Try.prog 43 #[.pointer (some ⟨Bn, 0, none⟩)] (fun x : Int => #[Value.int .u8 x]) (Below n₀) (fun ys => ys = sev 9 m) (fun _ => True) 10 w := fun l J Jx W hW _ _ hY h0 =>
  sevens1_in F n h6 hro hn l Bn n₀ m hm0 hm1 J Jx hY W ((hW.cell (p := ⟨Bn, 0, none⟩) hBn).trans hc) h0
end

section
open Go.RowKit Go.Shelf
attribute [local go_sem] Oper.semAt_some

set_option maxHeartbeats 1000000 in
theorem putp_bits (first b n : Int) (w : World) (h : b < 1 ∨ 8 < b) :
    Calls Try.prog 15 #[.int .u8 first, .int .i64 b, .int .u64 n] w fun e w' => e = .returned (.tuple #[.slice none 0 0, .int .i64 1]) ∧ w' = w := by
  go_enter Try.func15, Try.ntmps15
  go_wp2_with fail
  refine (mayBe_no _ _ h).mono ?_
  rintro e1 w1 ⟨rfl, rfl⟩
  go_wp2
  go_ret2
  exact ⟨rfl, rfl⟩

set_option maxHeartbeats 1000000 in
theorem putp_large (first b n : Int) (w : World) (h0 : 1 ≤ b) (h1 : b ≤ 8) (hn : 4611686018427387903 < n) :
    Calls Try.prog 15 #[.int .u8 first, .int .i64 b, .int .u64 n] w fun e w' => e = .returned (.tuple #[.slice none 0 0, .int .i64 1]) ∧ w' = w := by
  go_enter Try.func15, Try.ntmps15
  go_wp2_with fail
  refine (mayBe_yes _ _ h0 h1).mono ?_
  rintro e1 w1 ⟨rfl, rfl⟩
  go_wp2
  go_ret2
  exact ⟨rfl, rfl⟩

set_option maxHeartbeats 1000000 in
theorem putp_first (first b M n : Int) (w : World) (h : IsMask b M) (hf0 : 0 ≤ first) (hf1 : first ≤ 255) (hn : n ≤ 4611686018427387903) (hf : first % (M + 1) ≠ 0) :
    Calls Try.prog 15 #[.int .u8 first, .int .i64 b, .int .u64 n] w fun e w' => e = .returned (.tuple #[.slice none 0 0, .int .i64 1]) ∧ w' = w := by
  have hbd := h.bd
  have hand := h.and64 first hf0 hf1
  have hne : (first % (M + 1) != 0) = true := by simpa using hf
  have H : Hid (IsMask b M) := h
  clear h
  go_enter Try.func15, Try.ntmps15
  go_wp2_with fail
  refine (mayBe_yes _ _ hbd.1 hbd.2.1).mono ?_
  rintro e1 w1 ⟨rfl, rfl⟩
  go_wp2_with fail
  refine (ones_any _ M _ H.out).mono ?_
  rintro e1 w1 ⟨rfl, rfl⟩
  go_wp2
  go_ret2
  exact ⟨rfl, rfl⟩

set_option maxHeartbeats 1000000 in
theorem putp_short (first b M n : Int) (w : World) (h : IsMask b M) (hf0 : 0 ≤ first) (hf1 : first ≤ 255) (hn : 0 ≤ n) (hf : first % (M + 1) = 0) (hs : n < M) :
    Calls Try.prog 15 #[.int .u8 first, .int .i64 b, .int .u64 n] w fun e w' => e = .returned (.tuple #[.slice (some ⟨w.heap.size, 0, none⟩) 1 1, .int .i64 0]) ∧ w' = w.alloc (.cells #[.int .u8 (first + n)] 5) := by
  have hbd := h.bd
  have hand := h.and64 first hf0 hf1
  have hor := h.or8 first n hf0 hf1 hf hn (by omega)
  rw [hf] at hand
  have H : Hid (IsMask b M) := h
  clear h hf
  go_enter Try.func15, Try.ntmps15
  go_wp2_with fail
  refine (mayBe_yes _ _ hbd.1 hbd.2.1).mono ?_
  rintro e1 w1 ⟨rfl, rfl⟩
  go_wp2_with fail
  refine (ones_any _ M _ H.out).mono ?_
  rintro e1 w1 ⟨rfl, rfl⟩
  go_wp2
  go_ret2
  exact ⟨rfl, rfl⟩

set_option maxRecDepth 100000 in
set_option maxHeartbeats 2000000 in
theorem putp_long (first b M n : Int) (w : World) (h : IsMask b M) (hf0 : 0 ≤ first) (hf1 : first ≤ 255) (hn : n ≤ 4611686018427387903) (hf : first % (M + 1) = 0) (hs : M ≤ n) :
    Calls Try.prog 15 #[.int .u8 first, .int .i64 b, .int .u64 n] w fun e W' => ∃ v, e = .returned (.tuple #[v, .int .i64 0]) ∧
      W'.ownsRow w.heap.size 5 1 v ((sev 9 (n - M)).length + 1) ((((first + M) :: sev 9 (n - M))).map (Value.int .u8)) ∧ Below w.heap.size w W' := by
  have hbd := h.bd
  have hand := h.and64 first hf0 hf1
  have hor := h.or8 first M hf0 hf1 hf (by omega) (by omega)
  rw [hf] at hand
  have H : Hid (IsMask b M) := h
  clear h hf
  obtain ⟨i0, hi, hz0, hz1, hz2⟩ := info_parts Try.infoByte
  refine (callsIn_wide (n := 4)).1 ?_
  refine callsIn_of_wp_marks Try.func15 rfl trivial ?_ rfl
  simp only [Try.ntmps15, List.size_toArray, List.length_cons, List.length_nil, Nat.reduceAdd, Nat.reduceSub, Array.replicate_succ, Array.replicate_zero, List.push_toArray, List.append_toArray, List.nil_append, List.cons_append]
  gi_wp2_with fail
  refine ⟨trivial, (callsIn_wide.2 (mayBe_yes _ _ hbd.1 hbd.2.1)).mono ?_⟩
  rintro e1 w1 ⟨rfl, hw1⟩
  obtain rfl := hw1.symm
  gi_wp2_with fail
  refine ⟨trivial, (callsIn_wide.2 (ones_any _ M _ H.out)).mono ?_⟩
  rintro e1 w1 ⟨rfl, hw1⟩
  obtain rfl := hw1.symm
  gi_wp2_with fail
  refine ⟨trivial, (sevens_in _ _ trivial rfl _ _).mono ?_⟩
  rintro e1 w1 ⟨rfl, rfl⟩
  gi_wp2
  have bR := World.ownsRow_lit (base := w.heap.size) (e := 5) (size := 1) w #[.int .u8 (first + M)] 1 (Nat.le_refl _) (by decide) rfl
  have bO := Boxed.new (w.alloc (.cells #[.int .u8 (first + M)] 5)) 22 (.slice (some ⟨w.heap.size, 0, none⟩) 1 1)
  rw [World.size_alloc] at bO
  have bN := Boxed.new ((w.alloc (.cells #[.int .u8 (first + M)] 5)).alloc (.cells #[.slice (some ⟨w.heap.size, 0, none⟩) 1 1] 22)) 39 (.int .u64 (n - M))
  rw [World.size_alloc, World.size_alloc] at bN
  have hB0 : Below w.heap.size w (((w.alloc (.cells #[.int .u8 (first + M)] 5)).alloc (.cells #[.slice (some ⟨w.heap.size, 0, none⟩) 1 1] 22)).alloc (.cells #[.int .u64 (n - M)] 39)) := (((Below.refl _ w).alloc (Nat.le_refl _) _).alloc (by simp) _).alloc (by simp; omega) _
  have hbytes : i0.bytes = 1 := hz2
  refine wpIn_rangeFunc_ownG rfl (by decide) (gf := 43) (lb := #[.pointer (some ⟨w.heap.size + 1 + 1, 0, none⟩)]) rfl trivial (enters_of Try.func43 (by kernel_rfl) rfl)
    (sevens_stops Fence.wide (4 - 1) trivial rfl (by decide) (w.heap.size + 1 + 1) w.heap.size (n - M) (by omega) (by omega) _ (by simp) bN.cell) belowK_t (belowK_b (by simp; omega)) (Below.refl _ _) (fun _ => rfl)
    (fun pre W => (∃ v, Boxed W (w.heap.size + 1) 22 v ∧ W.ownsRow w.heap.size 5 1 v (pre.length + 1) (((first + M) :: pre).map (Value.int .u8)) ∧ True) ∧ Below w.heap.size w W)
    (fun _ _ _ => False)
    (OwnFrom.and (Own.from (holdsRow_own w.heap.size (w.heap.size + 1) 22 5 1 (fun pre : List Int => pre.length + 1) (fun pre => ((first + M) :: pre).map (Value.int .u8)) (fun _ _ => True)) _) (ownFrom_below (Nat.le_refl _) (by simp; omega)))
    (fun _ _ _ _ _ hs _ _ => hs)
    ⟨⟨_, bO.alloc _, by simpa using (bR.alloc _).alloc _, trivial⟩, hB0⟩
    (fun x => { tmps := #[.int .u8 first, .int .i64 b, .int .u64 n, undef, undef, undef, .slice none 0 0, .int .i64 0, .int .u64 M, .pointer (some ⟨w.heap.size + 1, 0, none⟩), .int .u8 x, .int .i64 b, .bool true, .bool false, .bool false, .int .u64 n, .bool (decide (4611686018427387903 < n)), .bool (decide (4611686018427387903 < n)), .int .i64 b, .int .u64 M, .int .u8 first, .int .u64 first, .int .u64 M, .int .u64 0, .bool false, .int .u64 n, .int .u64 M, .bool (decide (n < M)), undef, undef, undef, undef, undef, .int .u8 first, .int .u64 M, .int .u8 M, .int .u8 (first + M), .slice (some ⟨w.heap.size, 0, none⟩) 1 1, .int .u64 n, .int .u64 M, .int .u64 (n - M), .func (.func 43) #[] #[.pointer (some ⟨w.heap.size + 1 + 1, 0, none⟩)], .int .u8 x, undef, undef, undef, undef, undef], defers := [] }) ?assign ?body ?done ?stop
  case assign =>
    intro l x W K hK
    gi_wp2
    exact hK
  case body =>
    rintro l pre x W ⟨⟨v, hv, hrow, _⟩, hB⟩ hlt
    obtain ⟨g, cap, rfl⟩ := ownsRow_succ hrow
    have hc := hv.cell
    clear bR bO bN hB0
    gi_wp2_with (gi_at_builtin; refine wpListIn_append_own _ rfl _ _ 22 rfl w.heap.size 5 i0 (.int .u8 0) 1 1 Try.underlying22 hi hz0 hz1 hz2 rfl (by decide) _ _ _ rfl (hrow.alloc _) ⟨W.heap.size, 0, none⟩ 1 1 [.int .u8 x] rfl rfl (cell_one_new _ _ _) (by simp [Value.oneCell']) (by unfold maxLen; omega) (by omega) (by have := hB.size; simp; omega) ?_; intro v' w1 hown' hgrow _; obtain ⟨g', cap', rfl⟩ := ownsRow_succ hown'; obtain ⟨hv1, hv2, hr2, hk2, hb2⟩ := hv.appended (by decide) hrow hB.size (by omega) hown' hgrow; have hc1 := hv1.cell; have hf1 := hv1.frozen)
    exact ⟨hk2.from _, hb2, ⟨_, hv2, by simpa using hr2, trivial⟩, hB.trans hb2⟩
  case done =>
    rintro D ys W hD rfl ⟨⟨v, hv, hrow, _⟩, hB⟩ hK
    obtain ⟨g, cap, rfl⟩ := ownsRow_succ hrow
    have hc := hv.cell
    gi_wp2
    refine ⟨by simp, .inl ⟨_, _, rfl, run_takeDeferred hK, ?_⟩⟩
    exact ⟨_, results_tmp2 rfl _ _ _, _, rfl, ownsRow_putObj hrow _ hK rfl, hB.trans (belowK_b (w := w) (Nat.le_refl _) W D _ _ (by simp at hD; omega) hK rfl rfl)⟩
  case stop =>
    rintro D c pre W _ _ h _
    exact h.elim
end

section
open Go.RowKit
/-- A row of bytes of the call's own, all of it taken. -/
def Owns (base : Nat) (w : World) (g len cap : Nat) (zs : List Int) : Prop :=
  zs.length = len ∧ w.ownsRow base 5 1 (.slice (some ⟨g, 0, none⟩) len cap) len (zs.map (Value.int .u8))

theorem Owns.lies {base : Nat} {w : World} {g len cap : Nat} {zs : List Int} (h : Owns base w g len cap zs) : Lies w (some ⟨g, 0, none⟩) zs := by
  obtain ⟨h1, h2⟩ := h
  obtain ⟨_, h4⟩ := h2.lt g rfl
  refine .inr ⟨g, 0, rfl, h4, fun j hj => ?_⟩
  rw [Nat.zero_add, h2.cellAt j (by omega), List.getElem?_map]
  simp [hj]

theorem Owns.cap {base : Nat} {w : World} {g len cap : Nat} {zs : List Int} (h : Owns base w g len cap zs) : len ≤ cap := by
  rcases h.2.2 with ⟨e, _⟩ | ⟨g', cap', cur, e, _, _, h4, _⟩
  · cases e
  · cases e; exact h4

theorem Owns.step {base : Nat} {w w' : World} {g len cap : Nat} {zs : List Int} (h : Owns base w g len cap zs) (hb : Below w.heap.size w w') : Owns base w' g len cap zs := by
  obtain ⟨h1, h2, h3⟩ := h
  refine ⟨h1, h2, ?_⟩
  rcases h3 with ⟨e, _⟩ | ⟨g', cap', cur, e, h5, h6, h7⟩
  · cases e
  · exact .inr ⟨g', cap', cur, e, h5, (hb.block g' (Array.getElem?_eq_some_iff.1 h6).1).trans h6, h7⟩
end

section
open Go.RowKit
theorem own_lit (w : World) (zs : List Int) (h : zs.length ≤ maxLen) : Owns w.heap.size (w.alloc (.cells (zs.map (Value.int .u8)).toArray 5)) w.heap.size zs.length zs.length zs := by
  refine ⟨rfl, ?_⟩
  have := World.ownsRow_lit (base := w.heap.size) (e := 5) (size := 1) w (zs.map (Value.int .u8)).toArray zs.length (Nat.le_refl _) h (by simp)
  simpa using this
end

section
open Go.RowKit
theorem putP_len (first M n : Int) : 1 ≤ (putP first M n).length ∧ (putP first M n).length ≤ 11 := by
  unfold putP
  split
  · simp
  · have := sev_len 9 (n - M); simp only [List.length_cons]; omega

theorem putp_own (first b M n : Int) (w : World) (h : IsMask b M) (hf0 : 0 ≤ first) (hf1 : first ≤ 255) (h0 : 0 ≤ n) (hn : n ≤ 4611686018427387903) (hf : first % (M + 1) = 0) :
    Calls Try.prog 15 #[.int .u8 first, .int .i64 b, .int .u64 n] w fun e w' => ∃ g cap, e = .returned (.tuple #[.slice (some ⟨g, 0, none⟩) (putP first M n).length cap, .int .i64 0]) ∧ Owns w.heap.size w' g (putP first M n).length cap (putP first M n) ∧ Below w.heap.size w w' := by
  by_cases hs : n < M
  · have e : putP first M n = [first + n] := by unfold putP; rw [if_pos hs]
    have ho := own_lit w [first + n] (show 1 ≤ maxLen by decide)
    rw [e]
    exact (putp_short first b M n w h hf0 hf1 h0 hf hs).mono fun e' w' ⟨a1, a2⟩ => ⟨_, _, a1, by rw [a2]; exact ho, by rw [a2]; exact (Below.refl _ w).alloc (Nat.le_refl _) _⟩
  · have e : putP first M n = (first + M) :: sev 9 (n - M) := by unfold putP; rw [if_neg hs]
    rw [e]
    refine (putp_long first b M n w h hf0 hf1 hn hf (by omega)).mono fun e' w' ⟨v, a1, a2, a3⟩ => ?_
    obtain ⟨g, cap, rfl⟩ := ownsRow_succ a2
    exact ⟨g, cap, a1, ⟨rfl, a2⟩, a3⟩
end

section
open Go.RowKit Go.Shelf
attribute [local go_sem] Oper.semAt_some

/-- A place below ten, a byte: whatever pair is told. -/
def ixOf (x : Nat × Int) : Nat := x.1 % 10
def byOf (x : Nat × Int) : Int := x.2 % 256
theorem ixOf_lt (x : Nat × Int) : ixOf x < 10 := Nat.mod_lt _ (by decide)
theorem byOf_bd (x : Nat × Int) : 0 ≤ byOf x ∧ byOf x ≤ 255 := by unfold byOf; omega
theorem ixOf_mk (k : Nat) (c : Int) (h : k < 10) : ixOf (k, c) = k := Nat.mod_eq_of_lt h
theorem byOf_mk (k : Nat) (c : Int) (h0 : 0 ≤ c) (h1 : c ≤ 255) : byOf (k, c) = c := by show c % 256 = c; omega

/-- What is told of a place and a byte. -/
def enc2 (x : Nat × Int) : Array Value := #[.int .i64 (ixOf x : Int), .int .u8 (byOf x)]

/-- The first k places with their bytes. -/
def upto (zs : List Int) (k : Nat) : List (Nat × Int) := (List.range k).map fun j => (j, zs[j]?.getD 0)

theorem upto_succ (zs : List Int) (k : Nat) : upto zs (k + 1) = upto zs k ++ [(k, zs[k]?.getD 0)] := by
  unfold upto; rw [List.range_succ]; simp
theorem upto_length (zs : List Int) (k : Nat) : (upto zs k).length = k := by simp [upto]

/-- All that is told. -/
def Told (zs : List Int) (ys : List (Nat × Int)) : Prop :=
  ∃ K, ys = upto zs K ∧ K ≤ zs.length ∧ K ≤ 10 ∧ (K = zs.length ∨ K = 10 ∨ ∃ j, K = j + 1 ∧ zs[j]?.getD 0 < 128)

set_option maxRecDepth 100000 in
set_option maxHeartbeats 2000000 in
theorem coming1_in (F : Fence) (n : Nat) (h6 : F.fn 58) (hro : F.round = none) (hn : 1 ≤ n) (l Bn n₀ b off len cap : Nat) (zs : List Int) (hz : zs.length = len) (hl : len ≤ 1073741824) (hbn : b < n₀) (hb : ∀ j : Nat, 0 ≤ zs[j]?.getD 0 ∧ zs[j]?.getD 0 ≤ 255) (J Jx : List (Nat × Int) → World → Prop)
    (hY : ∀ pre x W, J pre W → pre.length < 10 → YieldAt F (n - 1) Try.prog l (enc2 x) W fun e W' =>
      (e = .returned (.bool true) ∧ J (pre ++ [x]) W' ∧ Below n₀ W W') ∨ (e = .returned (.bool false) ∧ Jx (pre ++ [x]) W'))
    (W : World) (hBn : W.cell? ⟨Bn, 0, none⟩ = some (.slice (some ⟨b, off, none⟩) len cap)) (hc : ∀ j : Nat, j < len → W.cell? ⟨b, off + j, none⟩ = some (.int .u8 (zs[j]?.getD 0))) (h0 : J [] W) :
    CallsIn F n Try.prog 58 #[.func (.yield l) #[] #[], .pointer (some ⟨Bn, 0, none⟩)] W fun e W' => (∃ v, e = .returned v) ∧
      ((∃ ys, Told zs ys ∧ J ys W') ∨ (∃ pre, (∃ k, k ≤ len ∧ k ≤ 10 ∧ pre = upto zs k) ∧ Jx pre W')) := by
  have HZ : Hid (zs.length = len) := hz
  clear hz
  refine callsIn_of_wp Try.func58 rfl h6 ?_ hro
  simp only [Try.ntmps58, List.size_toArray, List.length_cons, List.length_nil, Nat.reduceAdd, Nat.reduceSub, Array.replicate_succ, Array.replicate_zero, List.push_toArray, List.append_toArray, List.nil_append, List.cons_append]
  gi_wp2
  gi_loopw [7] (fun i wr => ∃ k : Nat, i = .int .i64 k ∧ k ≤ len ∧ k ≤ 10 ∧ J (upto zs k) wr ∧ Below n₀ W wr)
    (fun i _ => len - (intOf i).toNat)
  case atStart =>
    exact ⟨0, rfl, Nat.zero_le _, by omega, h0, Below.refl _ _⟩
  case round =>
    obtain ⟨k, rfl, hk, hk10, hJs, hbel⟩ := hrel
    by_cases hlt : k < len
    · have hcx : wr.cell? ⟨b, off + k, none⟩ = some (.int .u8 (zs[k]?.getD 0)) := (hbel.cell (by exact hbn)).trans (hc k hlt)
      have hbk := hb k
      by_cases hk9 : k = 10
      · subst hk9
        gi_wp2
        refine ⟨fun _ h => (by cases h), ?_⟩
        gi_wp2
        refine bodyPost_ret (results_none rfl _ _ _) rfl ?_
        exact ⟨⟨_, rfl⟩, .inl ⟨_, ⟨10, rfl, by rw [HZ.out]; omega, by omega, .inr (.inl rfl)⟩, hJs⟩⟩
      · have hne : ((k : Int) == 10) = false := by simp; omega
        obtain ⟨fn, tmps, assign, body, hy, hR⟩ := hY (upto zs k) (k, zs[k]?.getD 0) wr hJs (by rw [upto_length]; omega)
        unfold enc2 at hy
        rw [ixOf_mk _ _ (by omega), byOf_mk _ _ hbk.1 hbk.2] at hy
        rw [← upto_succ] at hR
        by_cases hc128 : zs[k]?.getD 0 < 128
        · have H128 : Hid (zs[k]?.getD 0 < 128) := hc128
          have HC : Hid (∀ j : Nat, j < len → W.cell? ⟨b, off + j, none⟩ = some (.int .u8 (zs[j]?.getD 0))) := hc
          clear hc
          gi_wp2
          refine hR.mono ?_
          rintro e W3 (⟨rfl, hJ3, hk3⟩ | ⟨rfl, hJx3⟩)
          · gi_wp2
            refine bodyPost_ret (results_none rfl _ _ _) rfl ?_
            exact ⟨⟨_, rfl⟩, .inl ⟨_, ⟨k + 1, rfl, by rw [HZ.out]; omega, by omega, .inr (.inr ⟨k, rfl, H128.out⟩)⟩, hJ3⟩⟩
          · gi_wp2
            refine bodyPost_ret (results_none rfl _ _ _) rfl ?_
            exact ⟨⟨_, rfl⟩, .inr ⟨_, ⟨k + 1, by omega, by omega, rfl⟩, hJx3⟩⟩
        · have HC : Hid (∀ j : Nat, j < len → W.cell? ⟨b, off + j, none⟩ = some (.int .u8 (zs[j]?.getD 0))) := hc
          clear hc
          gi_wp2
          refine hR.mono ?_
          rintro e W3 (⟨rfl, hJ3, hk3⟩ | ⟨rfl, hJx3⟩)
          · gi_wp2
            go_roundw
            case rel => exact ⟨k + 1, by go_num, by omega, by omega, hJ3, hbel.trans hk3⟩
            case measure => simp [intOf]; omega
          · gi_wp2
            refine bodyPost_ret (results_none rfl _ _ _) rfl ?_
            exact ⟨⟨_, rfl⟩, .inr ⟨_, ⟨k + 1, by omega, by omega, rfl⟩, hJx3⟩⟩
    · gi_wp2
      go_end0
      have hkl : k = len := by omega
      exact ⟨⟨_, rfl⟩, .inl ⟨_, ⟨k, rfl, by rw [HZ.out]; omega, hk10, .inl (by rw [HZ.out]; exact hkl)⟩, hJs⟩⟩

set_option maxHeartbeats 1000000 in
theorem coming_in (F : Fence) (n : Nat) (h5 : F.fn 49) (hro : F.round = none) (a : Option Addr) (len cap : Nat) (w : World) :
    CallsIn F n Try.prog 49 #[.slice a len cap] w fun e w' => e = .returned (.func (.func 58) #[] #[.pointer (some ⟨w.heap.size, 0, none⟩)]) ∧ w' = w.alloc (.cells #[.slice a len cap] 22) := by
  refine callsIn_of_wp Try.func49 rfl h5 ?_ hro
  simp only [Try.ntmps49, List.size_toArray, List.length_cons, List.length_nil, Nat.reduceAdd, Nat.reduceSub, Array.replicate_succ, Array.replicate_zero, List.push_toArray, List.append_toArray, List.nil_append, List.cons_append]
  gi_wp2
  go_ret
  exact ⟨rfl, rfl⟩

theorem coming_stops (F : Fence) (n : Nat) (h6 : F.fn 58) (hro : F.round = none) (hn : 1 ≤ n) (Bn n₀ b off len cap : Nat) (zs : List Int) (hz : zs.length = len) (hl : len ≤ 1073741824) (hbn : b < n₀) (hb : ∀ j : Nat, 0 ≤ zs[j]?.getD 0 ∧ zs[j]?.getD 0 ≤ 255) (w : World) (hBn : Bn < w.heap.size) (hn₀ : n₀ ≤ w.heap.size)
    (hcB : w.cell? ⟨Bn, 0, none⟩ = some (.slice (some ⟨b, off, none⟩) len cap)) (hc : ∀ j : Nat, j < len → w.cell? ⟨b, off + j, none⟩ = some (.int .u8 (zs[j]?.getD 0))) :
    SeqStopsK F n Try.prog 58 #[.pointer (some ⟨Bn, 0, none⟩)] enc2 (Below n₀) (Told zs) (fun pre => ∃ k, k ≤ len ∧ k ≤ 10 ∧ pre = upto zs k) 10 w := fun l J Jx W hW _ _ hY h0 =>
  coming1_in F n h6 hro hn l Bn n₀ b off len cap zs hz hl hbn hb J Jx hY W ((hW.cell (p := ⟨Bn, 0, none⟩) hBn).trans hcB) (fun j hj => (hW.cell (p := ⟨b, off + j, none⟩) (Nat.lt_of_lt_of_le hbn hn₀)).trans (hc j hj)) h0
end

section
open Go.RowKit Go.Shelf
attribute [local go_sem] Oper.semAt_some

theorem shl7 (p : Int) (i : Nat) (h : i < 10) : Op.shift .shl .u64 p .i64 (7 * (i : Int)) = pure (.int .u64 (IntKind.u64.wrap (p * 2 ^ (7 * i)))) := by
  rw [shift_shl_u64 (x := p) (yk := .i64) (y := 7 * (i : Int)) (by omega) (by omega), show (7 * (i : Int)).toNat = 7 * i by omega]
theorem shr7 (p : Int) (i : Nat) (h : i < 10) : Op.shift .shr .u64 p .i64 (7 * (i : Int)) = pure (.int .u64 (p / 2 ^ (7 * i))) := by
  rw [shift_shr_u64 (x := p) (yk := .i64) (y := 7 * (i : Int)) (by omega) (by omega), show (7 * (i : Int)).toNat = 7 * i by omega]
theorem wrap7 (i : Nat) (h : i < 10) : IntKind.i64.wrap (7 * (i : Int)) = 7 * (i : Int) := by rw [IntKind.wrap_i64]; omega

/-- What is joined, one by one. -/
def orN (l : List (Nat × Int)) : Int := l.foldl (fun n x => bits .or .u64 n (IntKind.u64.wrap (byOf x % 128 * 2 ^ (7 * ixOf x)))) 0
theorem orN_snoc (l : List (Nat × Int)) (x : Nat × Int) : orN (l ++ [x]) = bits .or .u64 (orN l) (IntKind.u64.wrap (byOf x % 128 * 2 ^ (7 * ixOf x))) := by simp [orN]

/-- What is answered where the last byte came. -/
def SevOut (l : List (Nat × Int)) (x : Nat × Int) (r0 r1 r2 : Int) : Prop :=
  (4611686018427387903 / 2 ^ (7 * ixOf x) < byOf x % 128 ∧ r0 = 0 ∧ r1 = 0 ∧ r2 = 3) ∨ (byOf x % 128 ≤ 4611686018427387903 / 2 ^ (7 * ixOf x) ∧ r0 = orN (l ++ [x]) ∧ r1 = (ixOf x : Int) + 1 ∧ r2 = 0)

theorem boxed_drew {W : World} {B : Nat} {t : TypeId} {v : Value} (h : Boxed W B t v) : Boxed W.drew B t v := h

theorem gs_more {W w : World} {S : Nat} {v3 v0 v1 v2 : Value} (u : Value) (b3 : Boxed W (S + 1 + 1 + 1) 39 v3) (b0 : Boxed W S 39 v0) (b1 : Boxed W (S + 1) 3 v1) (b2 : Boxed W (S + 1 + 1) 25 v2) (hB : Below S w W) :
    KeepsOthers W (W.setCell ⟨S + 1 + 1 + 1, 0, none⟩ u).drew ∧ Below S W (W.setCell ⟨S + 1 + 1 + 1, 0, none⟩ u).drew ∧ Boxed (W.setCell ⟨S + 1 + 1 + 1, 0, none⟩ u).drew (S + 1 + 1 + 1) 39 u ∧ Boxed (W.setCell ⟨S + 1 + 1 + 1, 0, none⟩ u).drew S 39 v0 ∧ Boxed (W.setCell ⟨S + 1 + 1 + 1, 0, none⟩ u).drew (S + 1) 3 v1 ∧ Boxed (W.setCell ⟨S + 1 + 1 + 1, 0, none⟩ u).drew (S + 1 + 1) 25 v2 ∧ Below S w (W.setCell ⟨S + 1 + 1 + 1, 0, none⟩ u).drew :=
  ⟨(KeepsOthers.setCell _ _ _).trans (KeepsOthers.drew _), ((Below.refl S W).setCell (p := ⟨S + 1 + 1 + 1, 0, none⟩) (by show S ≤ S + 1 + 1 + 1; omega) _).drew, boxed_drew (b3.set u), boxed_drew (b0.other (by omega) u), boxed_drew (b1.other (by omega) u), boxed_drew (b2.other (by omega) u), (hB.setCell (p := ⟨S + 1 + 1 + 1, 0, none⟩) (by show S ≤ S + 1 + 1 + 1; omega) _).drew⟩

theorem gs_ret {W w : World} {S : Nat} {v0 v1 v2 : Value} (u r0 r1 r2 : Value) (b0 : Boxed W S 39 v0) (b1 : Boxed W (S + 1) 3 v1) (b2 : Boxed W (S + 1 + 1) 25 v2) (hB : Below S w W) {W' : World} (hW : W' = ((((W.setCell ⟨S + 1 + 1 + 1, 0, none⟩ u).setCell ⟨S, 0, none⟩ r0).setCell ⟨S + 1, 0, none⟩ r1).setCell ⟨S + 1 + 1, 0, none⟩ r2).drew) :
    KeepsOthers W W' ∧ Boxed W' S 39 r0 ∧ Boxed W' (S + 1) 3 r1 ∧ Boxed W' (S + 1 + 1) 25 r2 ∧ Below S w W' := by
  subst hW
  refine ⟨((((KeepsOthers.setCell _ _ _).trans (KeepsOthers.setCell _ _ _)).trans (KeepsOthers.setCell _ _ _)).trans (KeepsOthers.setCell _ _ _)).trans (KeepsOthers.drew _), boxed_drew ((((b0.other (by omega) u).set r0).other (by omega) r1).other (by omega) r2), boxed_drew ((((b1.other (by omega) u).other (by omega) r0).set r1).other (by omega) r2), boxed_drew ((((b2.other (by omega) u).other (by omega) r0).other (by omega) r1).set r2), ?_⟩
  exact ((((hB.setCell (p := ⟨S + 1 + 1 + 1, 0, none⟩) (by show S ≤ S + 1 + 1 + 1; omega) _).setCell (p := ⟨S, 0, none⟩) (Nat.le_refl _) _).setCell (p := ⟨S + 1, 0, none⟩) (by show S ≤ S + 1; omega) _).setCell (p := ⟨S + 1 + 1, 0, none⟩) (by show S ≤ S + 1 + 1; omega) _).drew

theorem gs_end {W w : World} {S : Nat} {v0 v1 v2 : Value} (r0 r1 r2 : Value) (b0 : Boxed W S 39 v0) (b1 : Boxed W (S + 1) 3 v1) (b2 : Boxed W (S + 1 + 1) 25 v2) (hB : Below S w W) {W' : World} (hW : W' = ((W.setCell ⟨S, 0, none⟩ r0).setCell ⟨S + 1, 0, none⟩ r1).setCell ⟨S + 1 + 1, 0, none⟩ r2) :
    KeepsOthers W W' ∧ Boxed W' S 39 r0 ∧ Boxed W' (S + 1) 3 r1 ∧ Boxed W' (S + 1 + 1) 25 r2 ∧ Below S w W' := by
  subst hW
  refine ⟨((KeepsOthers.setCell _ _ _).trans (KeepsOthers.setCell _ _ _)).trans (KeepsOthers.setCell _ _ _), (((b0.set r0).other (by omega) r1).other (by omega) r2), (((b1.other (by omega) r0).set r1).other (by omega) r2), (((b2.other (by omega) r0).other (by omega) r1).set r2), ?_⟩
  exact ((hB.setCell (p := ⟨S, 0, none⟩) (Nat.le_refl _) _).setCell (p := ⟨S + 1, 0, none⟩) (by show S ≤ S + 1; omega) _).setCell (p := ⟨S + 1 + 1, 0, none⟩) (by show S ≤ S + 1 + 1; omega) _

/-- What getSevens answers. -/
def SevRes (zs : List Int) (r0 r1 r2 : Int) : Prop :=
  (∃ ini last, ini ++ [last] = upto zs (ini.length + 1) ∧ ini.length < zs.length ∧ ini.length < 10 ∧ (∀ y ∈ ini, 128 ≤ byOf y) ∧ byOf last < 128 ∧ SevOut ini last r0 r1 r2) ∨
  ((∀ y ∈ upto zs zs.length, 128 ≤ byOf y) ∧ zs.length < 10 ∧ r0 = 0 ∧ r1 = 0 ∧ r2 = 4) ∨
  ((∀ y ∈ upto zs 10, 128 ≤ byOf y) ∧ 10 ≤ zs.length ∧ r0 = 0 ∧ r1 = 0 ∧ r2 = 5)

set_option maxRecDepth 100000 in
set_option maxHeartbeats 2000000 in
theorem getSevens_any (b off len cap : Nat) (zs : List Int) (w : World) (hz : zs.length = len) (hl : len ≤ 1073741824) (hbn : b < w.heap.size) (hb : ∀ j : Nat, 0 ≤ zs[j]?.getD 0 ∧ zs[j]?.getD 0 ≤ 255)
    (hc : ∀ j : Nat, j < len → w.cell? ⟨b, off + j, none⟩ = some (.int .u8 (zs[j]?.getD 0))) :
    Calls Try.prog 36 #[.slice (some ⟨b, off, none⟩) len cap] w fun e W' => ∃ r0 r1 r2, e = .returned (.tuple #[.int .u64 r0, .int .i64 r1, .int .i64 r2]) ∧ SevRes zs r0 r1 r2 ∧ Below w.heap.size w W' := by
  refine (callsIn_wide (n := 4)).1 ?_
  refine callsIn_of_wp_marks Try.func36 rfl trivial ?_ rfl
  simp only [Try.ntmps36, List.size_toArray, List.length_cons, List.length_nil, Nat.reduceAdd, Nat.reduceSub, Array.replicate_succ, Array.replicate_zero, List.push_toArray, List.append_toArray, List.nil_append, List.cons_append]
  gi_wp2_with fail
  refine ⟨trivial, (coming_in _ _ trivial rfl _ _ _ _).mono ?_⟩
  rintro e1 w1 ⟨rfl, rfl⟩
  gi_wp2
  have bR := Boxed.new w 39 (.int .u64 0)
  have bL := Boxed.new (w.alloc (.cells #[.int .u64 0] 39)) 3 (.int .i64 0)
  have bE := Boxed.new ((w.alloc (.cells #[.int .u64 0] 39)).alloc (.cells #[.int .i64 0] 3)) 25 (.int .i64 0)
  have bX := Boxed.new (((w.alloc (.cells #[.int .u64 0] 39)).alloc (.cells #[.int .i64 0] 3)).alloc (.cells #[.int .i64 0] 25)) 39 (.int .u64 0)
  have bN := Boxed.new ((((w.alloc (.cells #[.int .u64 0] 39)).alloc (.cells #[.int .i64 0] 3)).alloc (.cells #[.int .i64 0] 25)).alloc (.cells #[.int .u64 0] 39)) 22 (.slice (some ⟨b, off, none⟩) len cap)
  simp only [World.size_alloc] at bL bE bX bN
  have hB0 : Below w.heap.size w (((((w.alloc (.cells #[.int .u64 0] 39)).alloc (.cells #[.int .i64 0] 3)).alloc (.cells #[.int .i64 0] 25)).alloc (.cells #[.int .u64 0] 39)).alloc (.cells #[.slice (some ⟨b, off, none⟩) len cap] 22)) := (((((Below.refl _ w).alloc (Nat.le_refl _) _).alloc (by simp) _).alloc (by simp; omega) _).alloc (by simp; omega) _).alloc (by simp; omega) _
  have hc2 : ∀ j : Nat, j < len → (((((w.alloc (.cells #[.int .u64 0] 39)).alloc (.cells #[.int .i64 0] 3)).alloc (.cells #[.int .i64 0] 25)).alloc (.cells #[.int .u64 0] 39)).alloc (.cells #[.slice (some ⟨b, off, none⟩) len cap] 22)).cell? ⟨b, off + j, none⟩ = some (.int .u8 (zs[j]?.getD 0)) := fun j hj => (hB0.cell (p := ⟨b, off + j, none⟩) hbn).trans (hc j hj)
  have HC : Hid (∀ j : Nat, j < len → w.cell? ⟨b, off + j, none⟩ = some (.int .u8 (zs[j]?.getD 0))) := hc
  have HZ : Hid (zs.length = len) := hz
  clear hc
  refine wpIn_rangeFunc_ownG rfl (by decide) (gf := 58) (lb := #[.pointer (some ⟨w.heap.size + 1 + 1 + 1 + 1, 0, none⟩)]) rfl trivial (enters_of Try.func58 (by kernel_rfl) rfl)
    (coming_stops Fence.wide (4 - 1) trivial rfl (by decide) (w.heap.size + 1 + 1 + 1 + 1) w.heap.size b off len cap zs hz hl hbn hb _ (by simp) (by simp; omega) bN.cell hc2) belowK_t (belowK_b (by simp; omega)) (Below.refl _ _) (fun _ => rfl)
    (fun pre W => ((∀ y ∈ pre, 128 ≤ byOf y) ∧ Boxed W (w.heap.size + 1 + 1 + 1) 39 (.int .u64 (orN pre)) ∧ Boxed W w.heap.size 39 (.int .u64 0) ∧ Boxed W (w.heap.size + 1) 3 (.int .i64 0) ∧ Boxed W (w.heap.size + 1 + 1) 25 (.int .i64 0)) ∧ Below w.heap.size w W)
    (fun c pre W => (c = .ret ∧ ∃ ini last r0 r1 r2, pre = ini ++ [last] ∧ (∀ y ∈ ini, 128 ≤ byOf y) ∧ byOf last < 128 ∧ SevOut ini last r0 r1 r2 ∧ Boxed W w.heap.size 39 (.int .u64 r0) ∧ Boxed W (w.heap.size + 1) 3 (.int .i64 r1) ∧ Boxed W (w.heap.size + 1 + 1) 25 (.int .i64 r2)) ∧ Below w.heap.size w W)
    (OwnFrom.and (Own.from (fun s A B row hs hg hr => ⟨hs.1, boxed_own _ _ (fun s => .int .u64 (orN s)) s A B row hs.2.1 hg hr, boxed_own _ _ (fun _ => .int .u64 0) s A B row hs.2.2.1 hg hr, boxed_own _ _ (fun _ => .int .i64 0) s A B row hs.2.2.2.1 hg hr, boxed_own _ _ (fun _ => .int .i64 0) s A B row hs.2.2.2.2 hg hr⟩) _) (ownFrom_below (Nat.le_refl _) (by simp; omega)))
    (fun c => OwnFrom.and (Own.from (fun s A B row hs hg hr => by
      obtain ⟨hcc, ini, last, r0, r1, r2, e1, e2, e3, e4, e5, e6, e7⟩ := hs
      exact ⟨hcc, ini, last, r0, r1, r2, e1, e2, e3, e4, boxed_own _ _ (fun _ => .int .u64 r0) s A B row e5 hg hr, boxed_own _ _ (fun _ => .int .i64 r1) s A B row e6 hg hr, boxed_own _ _ (fun _ => .int .i64 r2) s A B row e7 hg hr⟩) _) (ownFrom_below (Nat.le_refl _) (by simp; omega)))
    ⟨⟨by simp, bX.alloc _, (((bR.alloc _).alloc _).alloc _).alloc _, ((bL.alloc _).alloc _).alloc _, (bE.alloc _).alloc _⟩, hB0⟩
    (fun x => { tmps := #[.slice (some ⟨b, off, none⟩) len cap, undef, .pointer (some ⟨w.heap.size, 0, none⟩), .pointer (some ⟨w.heap.size + 1, 0, none⟩), .pointer (some ⟨w.heap.size + 1 + 1, 0, none⟩), .pointer (some ⟨w.heap.size + 1 + 1 + 1, 0, none⟩), .int .i64 (ixOf x : Int), .int .u8 (byOf x), undef, .slice (some ⟨b, off, none⟩) len cap, .func (.func 58) #[] #[.pointer (some ⟨w.heap.size + 1 + 1 + 1 + 1, 0, none⟩)], .int .i64 (ixOf x : Int), .int .u8 (byOf x), undef, undef, undef, undef, undef, undef, undef, undef, undef, undef, undef, undef, undef, undef, undef, undef, undef, undef, undef, undef, undef, undef], defers := [] }) ?assign ?body ?done ?stop
  case assign =>
    intro l x W K hK
    unfold enc2
    gi_wp2
    exact hK
  case body =>
    rintro l pre x W ⟨⟨hp, b3, b0, b1, b2⟩, hB⟩ _
    clear bR bL bE bX bN hB0 hc2 hb
    have hmx : Try.prog.follows .mixedOrders = true := by kernel_rfl
    have hi := ixOf_lt x
    obtain ⟨hx0, hx1⟩ := byOf_bd x
    have hm := mask7f (byOf x) hx0 hx1
    have HO : Hid (orN (pre ++ [x]) = bits .or .u64 (orN pre) (IntKind.u64.wrap (byOf x % 128 * 2 ^ (7 * ixOf x)))) := orN_snoc pre x
    have HV : Hid (∀ r0 r1 r2, SevOut pre x r0 r1 r2 = ((4611686018427387903 / 2 ^ (7 * ixOf x) < byOf x % 128 ∧ r0 = 0 ∧ r1 = 0 ∧ r2 = 3) ∨ (byOf x % 128 ≤ 4611686018427387903 / 2 ^ (7 * ixOf x) ∧ r0 = orN (pre ++ [x]) ∧ r1 = (ixOf x : Int) + 1 ∧ r2 = 0))) := fun _ _ _ => rfl
    have HP : Hid (128 ≤ byOf x → ∀ y ∈ pre ++ [x], 128 ≤ byOf y) := fun h y hy => (List.mem_append.1 hy).elim (hp y) (fun e => by simp at e; subst e; exact h)
    have hs1 := shl7 (byOf x % 128) (ixOf x) hi
    have hs2 := shr7 4611686018427387903 (ixOf x) hi
    have hs3 := wrap7 (ixOf x) hi
    generalize ixOf x = i at *
    generalize hcx : byOf x = c at *
    have HX : Hid (byOf x = c) := hcx
    clear hcx
    have c3 := b3.cell
    have f3 := b3.frozen
    have c0 := b0.cell
    have f0 := b0.frozen
    have c1 := b1.cell
    have f1 := b1.frozen
    have c2 := b2.cell
    have f2 := b2.frozen
    by_cases hc : 128 ≤ c
    · gi_wp2
      gi_region_with_o (fail)
      all_goals clear c3 f3 c0 f0 c1 f1 c2 f2 hs1 hs2 hs3 hm hmx
      all_goals gi_wp2
      all_goals
        have R := gs_more (.int .u64 (bits .or .u64 (orN pre) (IntKind.u64.wrap (c % 128 * 2 ^ (7 * i))))) b3 b0 b1 b2 hB
        exact ⟨R.1.from _, R.2.1, ⟨HP.out hc, by rw [HO.out]; exact R.2.2.1, R.2.2.2.1, R.2.2.2.2.1, R.2.2.2.2.2.1⟩, R.2.2.2.2.2.2⟩
    · by_cases hl : 4611686018427387903 / 2 ^ (7 * i) < c % 128
      · gi_wp2
        gi_region_with_o (fail)
        all_goals gi_wp2
        all_goals
          have R := gs_ret (.int .u64 (bits .or .u64 (orN pre) (IntKind.u64.wrap (c % 128 * 2 ^ (7 * i))))) (.int .u64 0) (.int .i64 0) (.int .i64 3) b0 b1 b2 hB rfl
          exact ⟨R.1.from _, ⟨rfl, pre, x, 0, 0, 3, rfl, hp, by rw [HX.out]; omega, by rw [HV.out]; exact .inl ⟨hl, rfl, rfl, rfl⟩, R.2.1, R.2.2.1, R.2.2.2.1⟩, R.2.2.2.2⟩
      · gi_wp2
        gi_region_with_o (fail)
        all_goals gi_wp2
        all_goals
          have R := gs_ret (.int .u64 (bits .or .u64 (orN pre) (IntKind.u64.wrap (c % 128 * 2 ^ (7 * i))))) (.int .u64 (bits .or .u64 (orN pre) (IntKind.u64.wrap (c % 128 * 2 ^ (7 * i))))) (.int .i64 ((i : Int) + 1)) (.int .i64 0) b0 b1 b2 hB rfl
          exact ⟨R.1.from _, ⟨rfl, pre, x, _, _, _, rfl, hp, by rw [HX.out]; omega, by rw [HV.out]; exact .inr ⟨by omega, HO.out.symm, rfl, rfl⟩, R.2.1, R.2.2.1, R.2.2.2.1⟩, R.2.2.2.2⟩
  case done =>
    rintro D ys W hD ⟨K, rfl, hK1, hK2, hK3⟩ ⟨⟨hp, b3, b0, b1, b2⟩, hB⟩ hK
    have hno : K = zs.length ∨ K = 10 := by
      rcases hK3 with h | h | ⟨j, rfl, hj⟩
      · exact .inl h
      · exact .inr h
      · have := hp (j, zs[j]?.getD 0) (by rw [upto_succ]; simp)
        rw [byOf_mk _ _ (hb j).1 (hb j).2] at this
        omega
    have HP : Hid (∀ y ∈ upto zs K, 128 ≤ byOf y) := hp
    have c0 := b0.cell
    have f0 := b0.frozen
    have c1 := b1.cell
    have f1 := b1.frozen
    have c2 := b2.cell
    have f2 := b2.frozen
    clear hp hK3 bR bL bE bX bN hc2 hb
    by_cases hlen : len < 10
    · have hKl : K = zs.length := by have := HZ.out; omega
      gi_wp2
      have R := gs_end (.int .u64 0) (.int .i64 0) (.int .i64 4) b0 b1 b2 hB rfl
      have hK2' := R.1.same D _ hK rfl
      refine ⟨by simp, .inl ⟨_, _, rfl, run_takeDeferred hK2', ?_⟩⟩
      have hg := grownBy_putObj' (((W.setCell ⟨w.heap.size, 0, none⟩ (.int .u64 0)).setCell ⟨w.heap.size + 1, 0, none⟩ (.int .i64 0)).setCell ⟨w.heap.size + 1 + 1, 0, none⟩ (.int .i64 4)) D (.deferred none)
      have d0 := cell_kept R.2.1.cell hg (fun r e => by cases e; exact ⟨_, hK2', rfl⟩)
      have d1 := cell_kept R.2.2.1.cell hg (fun r e => by cases e; exact ⟨_, hK2', rfl⟩)
      have d2 := cell_kept R.2.2.2.1.cell hg (fun r e => by cases e; exact ⟨_, hK2', rfl⟩)
      refine ⟨.tuple #[.int .u64 0, .int .i64 0, .int .i64 4], ?_, 0, 0, 4, rfl, .inr (.inl ⟨by rw [← hKl]; exact HP.out, by rw [HZ.out]; omega, rfl, rfl, rfl⟩), R.2.2.2.2.trans (belowK_b (w := w) (Nat.le_refl _) _ D _ _ (by simp at hD; omega) hK2' rfl rfl)⟩
      simp [results, Try.f36, go_sem, d0, d1, d2]
    · have hKl : K = 10 := by have := HZ.out; omega
      gi_wp2
      have R := gs_end (.int .u64 0) (.int .i64 0) (.int .i64 5) b0 b1 b2 hB rfl
      have hK2' := R.1.same D _ hK rfl
      refine ⟨by simp, .inl ⟨_, _, rfl, run_takeDeferred hK2', ?_⟩⟩
      have hg := grownBy_putObj' (((W.setCell ⟨w.heap.size, 0, none⟩ (.int .u64 0)).setCell ⟨w.heap.size + 1, 0, none⟩ (.int .i64 0)).setCell ⟨w.heap.size + 1 + 1, 0, none⟩ (.int .i64 5)) D (.deferred none)
      have d0 := cell_kept R.2.1.cell hg (fun r e => by cases e; exact ⟨_, hK2', rfl⟩)
      have d1 := cell_kept R.2.2.1.cell hg (fun r e => by cases e; exact ⟨_, hK2', rfl⟩)
      have d2 := cell_kept R.2.2.2.1.cell hg (fun r e => by cases e; exact ⟨_, hK2', rfl⟩)
      refine ⟨.tuple #[.int .u64 0, .int .i64 0, .int .i64 5], ?_, 0, 0, 5, rfl, .inr (.inr ⟨by rw [← hKl]; exact HP.out, by rw [HZ.out]; omega, rfl, rfl, rfl⟩), R.2.2.2.2.trans (belowK_b (w := w) (Nat.le_refl _) _ D _ _ (by simp at hD; omega) hK2' rfl rfl)⟩
      simp [results, Try.f36, go_sem, d0, d1, d2]
  case stop =>
    rintro D c pre W hD ⟨k, hk1, hk2, rfl⟩ ⟨⟨rfl, ini, last, r0, r1, r2, e1, e2, e3, e4, b0, b1, b2⟩, hB⟩ hK
    gi_wp2
    refine ⟨by simp, .inl ⟨_, _, rfl, run_takeDeferred hK, ?_⟩⟩
    have hg := grownBy_putObj' W D (.deferred none)
    have c0 := cell_kept b0.cell hg (fun r e => by cases e; exact ⟨_, hK, rfl⟩)
    have c1 := cell_kept b1.cell hg (fun r e => by cases e; exact ⟨_, hK, rfl⟩)
    have c2 := cell_kept b2.cell hg (fun r e => by cases e; exact ⟨_, hK, rfl⟩)
    have hlen : ini.length + 1 = k := by have := congrArg List.length e1; rw [upto_length] at this; simp at this; omega
    refine ⟨.tuple #[.int .u64 r0, .int .i64 r1, .int .i64 r2], ?_, r0, r1, r2, rfl, .inl ⟨ini, last, by rw [hlen]; exact e1.symm, by rw [HZ.out]; omega, by omega, e2, e3, e4⟩, hB.trans (belowK_b (w := w) (Nat.le_refl _) W D _ _ (by simp at hD; omega) hK rfl rfl)⟩
    simp [results, Try.f36, go_sem, c0, c1, c2]
end

section
open Go.RowKit

theorem orN_upto (zs : List Int) (hb : ∀ j : Nat, 0 ≤ zs[j]?.getD 0 ∧ zs[j]?.getD 0 ≤ 255) : ∀ m : Nat, m ≤ 9 → m ≤ zs.length → orN (upto zs m) = val7 (zs.take m)
  | 0, _, _ => by simp [upto, orN, val7]
  | m + 1, h, hl => by
    have ih := orN_upto zs hb m (by omega) (by omega)
    have hbd := val7_bound (zs.take m)
    rw [show (zs.take m).length = m by simp; omega] at hbd
    rw [upto_succ, orN_snoc, ih, ixOf_mk _ _ (by omega), byOf_mk _ _ (hb m).1 (hb m).2, join7 _ _ m (by omega) hbd.1 hbd.2 (by omega) (by omega), val7_take zs m (by omega)]

theorem upto_ahead {zs : List Int} (hb : ∀ j : Nat, 0 ≤ zs[j]?.getD 0 ∧ zs[j]?.getD 0 ≤ 255) {k : Nat} (h : ∀ y ∈ upto zs k, 128 ≤ byOf y) : ∀ j, j < k → 128 ≤ zs[j]?.getD 0 := by
  intro j hj
  have := h (j, zs[j]?.getD 0) (by unfold upto; simp only [List.mem_map, List.mem_range]; exact ⟨j, hj, rfl⟩)
  rw [byOf_mk _ _ (hb j).1 (hb j).2] at this
  exact this

theorem or_zero (n : Int) (h0 : 0 ≤ n) (h1 : n < 18446744073709551616) : bits .or .u64 n 0 = n := by
  rw [u64_or _ _ h0 h1 (by decide) (by decide)]
  have : (0 : Int).toNat = 0 := rfl
  rw [this, Nat.or_zero]
  omega

/-- What getSevens answers. -/
theorem sev_spec (zs : List Int) (hb : ∀ j : Nat, 0 ≤ zs[j]?.getD 0 ∧ zs[j]?.getD 0 ≤ 255) (r0 r1 r2 : Int) (h : SevRes zs r0 r1 r2) :
    (r2 = 5 ∧ 10 ≤ cnt zs) ∨ (r2 = 4 ∧ cnt zs = zs.length ∧ cnt zs < 10) ∨ (r2 = 3 ∧ cnt zs < zs.length ∧ cnt zs < 10 ∧ 4611686018427387903 < val7 (zs.take (cnt zs + 1))) ∨
    (r2 = 0 ∧ cnt zs < zs.length ∧ cnt zs < 10 ∧ r0 = val7 (zs.take (cnt zs + 1)) ∧ 0 ≤ r0 ∧ r0 < 9223372036854775808 ∧ r1 = (cnt zs : Int) + 1) := by
  rcases h with ⟨ini, last, e1, hl, h10, ha, hla, ho⟩ | ⟨ha, hl, _, _, rfl⟩ | ⟨ha, hl, _, _, rfl⟩
  · obtain ⟨k, hk⟩ : ∃ k, k = ini.length := ⟨_, rfl⟩
    rw [← hk] at e1 hl h10
    rw [upto_succ] at e1
    obtain ⟨rfl, e2⟩ := List.append_inj' e1 rfl
    obtain rfl : last = (k, zs[k]?.getD 0) := by simpa using e2
    have hbk := hb k
    rw [byOf_mk _ _ hbk.1 hbk.2] at hla
    have hc := cnt_eq zs k hl (upto_ahead hb ha) hla
    rw [hc]
    unfold SevOut at ho
    rw [ixOf_mk _ _ h10, byOf_mk _ _ hbk.1 hbk.2] at ho
    have hmod : zs[k]?.getD 0 % 128 = zs[k]?.getD 0 := by omega
    rw [hmod] at ho
    have hv := val7_take zs k hl
    rw [hmod] at hv
    have hbd := val7_bound (zs.take k)
    rw [show (zs.take k).length = k by simp; omega] at hbd
    have hpos : (0 : Int) < 2 ^ (7 * k) := Int.pow_pos (by decide)
    have hmul : 0 ≤ zs[k]?.getD 0 * 2 ^ (7 * k) := Int.mul_nonneg hbk.1 (by omega)
    rcases ho with ⟨hlim, _, _, rfl⟩ | ⟨hlim, rfl, rfl, rfl⟩
    · refine .inr (.inr (.inl ⟨rfl, hl, h10, ?_⟩))
      have h2 := (Int.ediv_lt_iff_lt_mul hpos).1 hlim
      rw [hv]
      omega
    · refine .inr (.inr (.inr ⟨rfl, hl, h10, ?_⟩))
      by_cases hk8 : k ≤ 8
      · have e := orN_upto zs hb (k + 1) (by omega) (by omega)
        rw [upto_succ] at e
        have hbd2 := val7_bound (zs.take (k + 1))
        rw [show (zs.take (k + 1)).length = k + 1 by simp; omega] at hbd2
        have hp := pow_le (7 * (k + 1)) 63 (by omega)
        have e63 : (2 : Int) ^ 63 = 9223372036854775808 := by decide
        refine ⟨e, ?_, ?_, rfl⟩
        · rw [e]; exact hbd2.1
        · rw [e]; omega
      · obtain rfl : k = 9 := by omega
        have hz : zs[9]?.getD 0 = 0 := by
          have : (4611686018427387903 : Int) / 2 ^ (7 * 9) = 0 := by decide
          rw [this] at hlim
          omega
        have e := orN_upto zs hb 9 (by omega) (by omega)
        have hp := pow_le (7 * 9) 63 (by omega)
        have e63 : (2 : Int) ^ 63 = 9223372036854775808 := by decide
        have h2 : orN (upto zs 9 ++ [(9, zs[9]?.getD 0)]) = val7 (zs.take 9) := by
          rw [orN_snoc, ixOf_mk _ _ (by decide), byOf_mk _ _ hbk.1 hbk.2, hz, e]
          have : IntKind.u64.wrap (0 % 128 * 2 ^ (7 * 9)) = 0 := by decide
          rw [this, or_zero _ hbd.1 (by omega)]
        rw [hz, Int.zero_mul, Int.add_zero] at hv
        exact ⟨by rw [h2, hv], by rw [h2]; exact hbd.1, by rw [h2]; omega, rfl⟩
  · have := cnt_ge zs zs.length (Nat.le_refl _) (upto_ahead hb ha)
    have := cnt_le zs
    exact .inr (.inl ⟨rfl, by omega, by omega⟩)
  · exact .inl ⟨rfl, cnt_ge zs 10 hl (upto_ahead hb ha)⟩

/-- What GetPrefix answers: what stands above, the number, how many bytes, the error. -/
def getP (M : Int) (zs : List Int) : Int × Int × Int × Int :=
  if zs.length = 0 then (0, 0, 0, 4)
  else if zs[0]?.getD 0 % (M + 1) < M then (zs[0]?.getD 0 - zs[0]?.getD 0 % (M + 1), zs[0]?.getD 0 % (M + 1), 1, 0)
  else if 10 ≤ cnt (zs.drop 1) then (0, 0, 0, 5)
  else if cnt (zs.drop 1) = (zs.drop 1).length then (0, 0, 0, 4)
  else if 4611686018427387903 < val7 ((zs.drop 1).take (cnt (zs.drop 1) + 1)) + M then (0, 0, 0, 3)
  else (zs[0]?.getD 0 - zs[0]?.getD 0 % (M + 1), val7 ((zs.drop 1).take (cnt (zs.drop 1) + 1)) + M, (cnt (zs.drop 1) : Int) + 2, 0)

def getPV (M : Int) (zs : List Int) : Value := .tuple #[.int .u8 (getP M zs).1, .int .u64 (getP M zs).2.1, .int .i64 (getP M zs).2.2.1, .int .i64 (getP M zs).2.2.2]
end

section
open Go.RowKit

set_option maxHeartbeats 1000000 in
theorem getp_bits (a : Option Addr) (len cap : Nat) (b : Int) (w : World) (h : b < 1 ∨ 8 < b) :
    Calls Try.prog 18 #[.int .i64 b, .slice a len cap] w fun e w' => e = .returned (.tuple #[.int .u8 0, .int .u64 0, .int .i64 0, .int .i64 1]) ∧ w' = w := by
  go_enter Try.func18, Try.ntmps18
  go_wp2_with fail
  refine (mayBe_no _ _ h).mono ?_
  rintro e1 w1 ⟨rfl, rfl⟩
  go_wp2
  exact bodyPost_ret (v := .tuple #[.int .u8 0, .int .u64 0, .int .i64 0, .int .i64 1]) (by simp [results, Try.results18, go_sem]) rfl ⟨rfl, rfl⟩

set_option maxHeartbeats 1000000 in
theorem getp_none (a : Option Addr) (cap : Nat) (b : Int) (w : World) (h0 : 1 ≤ b) (h1 : b ≤ 8) :
    Calls Try.prog 18 #[.int .i64 b, .slice a 0 cap] w fun e w' => e = .returned (.tuple #[.int .u8 0, .int .u64 0, .int .i64 0, .int .i64 4]) ∧ w' = w := by
  go_enter Try.func18, Try.ntmps18
  go_wp2_with fail
  refine (mayBe_yes _ _ h0 h1).mono ?_
  rintro e1 w1 ⟨rfl, rfl⟩
  go_wp2
  exact bodyPost_ret (v := .tuple #[.int .u8 0, .int .u64 0, .int .i64 0, .int .i64 4]) (by simp [results, Try.results18, go_sem]) rfl ⟨rfl, rfl⟩

set_option maxHeartbeats 1000000 in
theorem getp_one (b0 off len cap : Nat) (z b M : Int) (w : World) (h : IsMask b M) (hl : len ≤ 1073741824) (hp : 0 < len) (hc : w.cell? ⟨b0, off, none⟩ = some (.int .u8 z)) (hz0 : 0 ≤ z) (hz1 : z ≤ 255) (hk : z % (M + 1) < M) :
    Calls Try.prog 18 #[.int .i64 b, .slice (some ⟨b0, off, none⟩) len cap] w fun e w' => e = .returned (.tuple #[.int .u8 (z - z % (M + 1)), .int .u64 (z % (M + 1)), .int .i64 1, .int .i64 0]) ∧ Below w.heap.size w w' := by
  have hbd := h.bd
  have hand := h.and64 z hz0 hz1
  have hnot := h.andNot8 z hz0 hz1
  have hne : ((len : Int) == 0) = false := by simp; omega
  have hpl : (0 : Int) < (len : Int) := by omega
  have hM : IntKind.u8.wrap M = M := by rw [IntKind.wrap_u8']; omega
  have H : Hid (IsMask b M) := h
  clear h
  generalize z % (M + 1) = k at *
  generalize z - k = ab at *
  go_enter Try.func18, Try.ntmps18
  go_wp2_with fail
  refine (mayBe_yes _ _ hbd.1 hbd.2.1).mono ?_
  rintro e1 w1 ⟨rfl, hw1⟩
  obtain rfl := hw1.symm
  go_wp2_with fail
  refine (ones_any _ M _ H.out).mono ?_
  rintro e1 w1 ⟨rfl, hw1⟩
  obtain rfl := hw1.symm
  go_wp2
  go_region
  all_goals go_wp2
  all_goals exact bodyPost_ret (v := .tuple #[.int .u8 ab, .int .u64 k, .int .i64 1, .int .i64 0]) (by simp [results, Try.results18, go_sem]) rfl ⟨rfl, (Below.refl _ _).drew⟩

/-- What stands behind the first byte. -/
theorem drop_at (zs : List Int) (j : Nat) : (zs.drop 1)[j]?.getD 0 = zs[j + 1]?.getD 0 := by
  rw [List.getElem?_drop, Nat.add_comm]

theorem getPV_more {M : Int} {zs : List Int} {r0 r1 r2 : Int} (hM : 1 ≤ M ∧ M ≤ 255) (hp : 0 < zs.length) (hk : ¬ zs[0]?.getD 0 % (M + 1) < M)
    (h : (r2 = 5 ∧ 10 ≤ cnt (zs.drop 1)) ∨ (r2 = 4 ∧ cnt (zs.drop 1) = (zs.drop 1).length ∧ cnt (zs.drop 1) < 10) ∨ (r2 = 3 ∧ cnt (zs.drop 1) < (zs.drop 1).length ∧ cnt (zs.drop 1) < 10 ∧ 4611686018427387903 < val7 ((zs.drop 1).take (cnt (zs.drop 1) + 1))) ∨
    (r2 = 0 ∧ cnt (zs.drop 1) < (zs.drop 1).length ∧ cnt (zs.drop 1) < 10 ∧ r0 = val7 ((zs.drop 1).take (cnt (zs.drop 1) + 1)) ∧ 0 ≤ r0 ∧ r0 < 9223372036854775808 ∧ r1 = (cnt (zs.drop 1) : Int) + 1)) :
    ((r2 ≠ 0 ∧ 3 ≤ r2 ∧ r2 ≤ 5) ∧ getPV M zs = .tuple #[.int .u8 0, .int .u64 0, .int .i64 0, .int .i64 r2]) ∨
    ((r2 = 0 ∧ 0 ≤ r0 ∧ r0 < 9223372036854775808 ∧ 1 ≤ r1 ∧ r1 ≤ 10) ∧ 4611686018427387903 - M < r0 ∧ getPV M zs = .tuple #[.int .u8 0, .int .u64 0, .int .i64 0, .int .i64 3]) ∨
    ((r2 = 0 ∧ 0 ≤ r0 ∧ r0 < 9223372036854775808 ∧ 1 ≤ r1 ∧ r1 ≤ 10) ∧ r0 ≤ 4611686018427387903 - M ∧ getPV M zs = .tuple #[.int .u8 (zs[0]?.getD 0 - zs[0]?.getD 0 % (M + 1)), .int .u64 (M + r0), .int .i64 (1 + r1), .int .i64 0]) := by
  unfold getPV getP
  rw [if_neg (by omega), if_neg hk]
  rcases h with ⟨rfl, h1⟩ | ⟨rfl, h1, h2⟩ | ⟨rfl, h1, h2, h3⟩ | ⟨rfl, h1, h2, h3, h4, h5, rfl⟩
  · rw [if_pos h1]; exact .inl ⟨by decide, rfl⟩
  · rw [if_neg (by omega), if_pos h1]; exact .inl ⟨by decide, rfl⟩
  · rw [if_neg (by omega), if_neg (by omega), if_pos (by omega)]; exact .inl ⟨by decide, rfl⟩
  · rw [if_neg (by omega), if_neg (by omega), ← h3]
    by_cases hlim : 4611686018427387903 < r0 + M
    · rw [if_pos hlim]
      exact .inr (.inl ⟨⟨rfl, h4, h5, by omega, by omega⟩, by omega, rfl⟩)
    · rw [if_neg hlim]
      refine .inr (.inr ⟨⟨rfl, h4, h5, by omega, by omega⟩, by omega, ?_⟩)
      rw [Int.add_comm r0 M, show (cnt (zs.drop 1) : Int) + 2 = 1 + ((cnt (zs.drop 1) : Int) + 1) by omega]

set_option maxHeartbeats 4000000 in
theorem getp_more (b0 off len cap : Nat) (zs : List Int) (z b M : Int) (w : World) (h : IsMask b M) (hzl : zs.length = len) (hl : len ≤ 1073741824) (hcap : len ≤ cap) (hp : 0 < len) (hbn : b0 < w.heap.size) (hc : ∀ j : Nat, j < len → w.cell? ⟨b0, off + j, none⟩ = some (.int .u8 (zs[j]?.getD 0))) (hb : ∀ j : Nat, 0 ≤ zs[j]?.getD 0 ∧ zs[j]?.getD 0 ≤ 255) (hz : zs[0]?.getD 0 = z) (hk : ¬ z % (M + 1) < M) :
    Calls Try.prog 18 #[.int .i64 b, .slice (some ⟨b0, off, none⟩) len cap] w fun e w' => e = .returned (getPV M zs) ∧ Below w.heap.size w w' := by
  have hbd := h.bd
  have hz0 : 0 ≤ z ∧ z ≤ 255 := by rw [← hz]; exact hb 0
  have hand := h.and64 z hz0.1 hz0.2
  have hnot := h.andNot8 z hz0.1 hz0.2
  have hkM : z % (M + 1) = M := by have := Int.emod_lt_of_pos z (show 0 < M + 1 by omega); omega
  rw [hkM] at hand hnot
  have hne : ((len : Int) == 0) = false := by simp; omega
  have hpl : (0 : Int) < (len : Int) := by omega
  have hM : IntKind.u8.wrap M = M := by rw [IntKind.wrap_u8']; omega
  have hc0 : w.cell? ⟨b0, off, none⟩ = some (.int .u8 z) := by rw [← hz]; exact hc 0 hp
  have H : Hid (IsMask b M) := h
  have hbr : ∀ j : Nat, 0 ≤ (zs.drop 1)[j]?.getD 0 ∧ (zs.drop 1)[j]?.getD 0 ≤ 255 := fun j => by rw [drop_at]; exact hb (j + 1)
  have HS := fun r0 r1 r2 (hr : SevRes (zs.drop 1) r0 r1 r2) => getPV_more (M := M) (zs := zs) ⟨hbd.2.2.1, hbd.2.2.2⟩ (by rw [hzl]; exact hp) (by rw [hz]; exact hk) (sev_spec _ hbr _ _ _ hr)
  rw [hz, hkM] at HS
  have HL : Hid ((zs.drop 1).length = len - 1) := by show (zs.drop 1).length = len - 1; rw [List.length_drop, hzl]
  have HC : Hid (∀ j : Nat, j < len - 1 → w.cell? ⟨b0, off + 1 + j, none⟩ = some (.int .u8 ((zs.drop 1)[j]?.getD 0))) := fun j hj => by
    rw [drop_at]; have := hc (j + 1) (by omega); rw [show off + (j + 1) = off + 1 + j by omega] at this; exact this
  clear h hk hkM hc hb hz hzl
  by_cases hc1 : cap = 1
  · obtain rfl : cap = 1 := hc1
    obtain rfl : len = 1 := by omega
    go_enter Try.func18, Try.ntmps18
    go_wp2_with fail
    refine (mayBe_yes _ _ hbd.1 hbd.2.1).mono ?_
    rintro e1 w1 ⟨rfl, hw1⟩
    obtain rfl := hw1.symm
    go_wp2_with fail
    refine (ones_any _ M _ H.out).mono ?_
    rintro e1 w1 ⟨rfl, hw1⟩
    obtain rfl := hw1.symm
    go_wp2
    go_region
    go_wp2_with fail
    refine (getSevens_any b0 off 0 0 (zs.drop 1) w.drew HL.out (by omega) hbn hbr (fun j hj => absurd hj (by omega))).mono ?_
    rintro e1 w1 ⟨r0, r1, r2, rfl, hres, hbel⟩
    have hbw : Below w.heap.size w w1 := ((Below.refl _ w).drew).trans hbel
    have HH := HS r0 r1 r2 hres
    clear HS hres hbr hbel
    rcases HH with ⟨hr, hv⟩ | ⟨hr, hlim, hv⟩ | ⟨hr, hlim, hv⟩
    · have hn2 : (r2 != 0) = true := by simpa using hr.1
      have HVV : Hid (getPV M zs = .tuple #[.int .u8 0, .int .u64 0, .int .i64 0, .int .i64 r2]) := hv
      clear hv
      go_wp2
      exact bodyPost_ret (v := .tuple #[.int .u8 0, .int .u64 0, .int .i64 0, .int .i64 r2]) (by simp [results, Try.results18, go_sem]) rfl ⟨by rw [HVV.out], hbw⟩
    · obtain ⟨rfl, hr0, hr1, hr2, hr3⟩ := hr
      have HVV : Hid (getPV M zs = .tuple #[.int .u8 0, .int .u64 0, .int .i64 0, .int .i64 3]) := hv
      clear hv
      go_wp2
      exact bodyPost_ret (v := .tuple #[.int .u8 0, .int .u64 0, .int .i64 0, .int .i64 3]) (by simp [results, Try.results18, go_sem]) rfl ⟨by rw [HVV.out], hbw⟩
    · obtain ⟨rfl, hr0, hr1, hr2, hr3⟩ := hr
      have HVV : Hid (getPV M zs = .tuple #[.int .u8 (z - M), .int .u64 (M + r0), .int .i64 (1 + r1), .int .i64 0]) := hv
      clear hv
      go_wp2
      exact bodyPost_ret (v := .tuple #[.int .u8 (z - M), .int .u64 (M + r0), .int .i64 (1 + r1), .int .i64 0]) (by simp [results, Try.results18, go_sem]) rfl ⟨by rw [HVV.out], hbw⟩
  · go_enter Try.func18, Try.ntmps18
    go_wp2_with fail
    refine (mayBe_yes _ _ hbd.1 hbd.2.1).mono ?_
    rintro e1 w1 ⟨rfl, hw1⟩
    obtain rfl := hw1.symm
    go_wp2_with fail
    refine (ones_any _ M _ H.out).mono ?_
    rintro e1 w1 ⟨rfl, hw1⟩
    obtain rfl := hw1.symm
    go_wp2
    go_region
    go_wp2_with fail
    refine (getSevens_any b0 (off + 1) (len - 1) (cap - 1) (zs.drop 1) w.drew HL.out (by omega) hbn hbr (fun j hj => HC.out j hj)).mono ?_
    rintro e1 w1 ⟨r0, r1, r2, rfl, hres, hbel⟩
    have hbw : Below w.heap.size w w1 := ((Below.refl _ w).drew).trans hbel
    have HH := HS r0 r1 r2 hres
    clear HS hres hbr hbel
    rcases HH with ⟨hr, hv⟩ | ⟨hr, hlim, hv⟩ | ⟨hr, hlim, hv⟩
    · have hn2 : (r2 != 0) = true := by simpa using hr.1
      have HVV : Hid (getPV M zs = .tuple #[.int .u8 0, .int .u64 0, .int .i64 0, .int .i64 r2]) := hv
      clear hv
      go_wp2
      exact bodyPost_ret (v := .tuple #[.int .u8 0, .int .u64 0, .int .i64 0, .int .i64 r2]) (by simp [results, Try.results18, go_sem]) rfl ⟨by rw [HVV.out], hbw⟩
    · obtain ⟨rfl, hr0, hr1, hr2, hr3⟩ := hr
      have HVV : Hid (getPV M zs = .tuple #[.int .u8 0, .int .u64 0, .int .i64 0, .int .i64 3]) := hv
      clear hv
      go_wp2
      exact bodyPost_ret (v := .tuple #[.int .u8 0, .int .u64 0, .int .i64 0, .int .i64 3]) (by simp [results, Try.results18, go_sem]) rfl ⟨by rw [HVV.out], hbw⟩
    · obtain ⟨rfl, hr0, hr1, hr2, hr3⟩ := hr
      have HVV : Hid (getPV M zs = .tuple #[.int .u8 (z - M), .int .u64 (M + r0), .int .i64 (1 + r1), .int .i64 0]) := hv
      clear hv
      go_wp2
      exact bodyPost_ret (v := .tuple #[.int .u8 (z - M), .int .u64 (M + r0), .int .i64 (1 + r1), .int .i64 0]) (by simp [results, Try.results18, go_sem]) rfl ⟨by rw [HVV.out], hbw⟩

/-- varint.GetPrefix, at any bytes, bits from 1 to 8. -/
theorem getp_any (a : Option Addr) (len cap : Nat) (zs : List Int) (b M : Int) (w : World) (h : IsMask b M) (hz : zs.length = len) (hl : len ≤ 1073741824) (hcap : len ≤ cap) (hLies : Lies w a zs) (hb : ∀ j : Nat, 0 ≤ zs[j]?.getD 0 ∧ zs[j]?.getD 0 ≤ 255) :
    Calls Try.prog 18 #[.int .i64 b, .slice a len cap] w fun e w' => e = .returned (getPV M zs) ∧ Below w.heap.size w w' := by
  have hbd := h.bd
  by_cases hp : len = 0
  · subst hp
    have hv : getPV M zs = .tuple #[.int .u8 0, .int .u64 0, .int .i64 0, .int .i64 4] := by unfold getPV getP; rw [if_pos hz]
    rw [hv]
    exact (getp_none a cap b w hbd.1 hbd.2.1).mono fun e w' ⟨h1, h2⟩ => ⟨h1, by rw [h2]; exact Below.refl _ _⟩
  rcases hLies with h0 | ⟨b0, off, rfl, hbn, hc⟩
  · rw [h0] at hz; exact absurd hz.symm hp
  rw [hz] at hc
  by_cases hk : zs[0]?.getD 0 % (M + 1) < M
  · have hv : getPV M zs = .tuple #[.int .u8 (zs[0]?.getD 0 - zs[0]?.getD 0 % (M + 1)), .int .u64 (zs[0]?.getD 0 % (M + 1)), .int .i64 1, .int .i64 0] := by unfold getPV getP; rw [if_neg (by omega), if_pos hk]
    rw [hv]
    exact getp_one b0 off len cap _ b M w h hl (by omega) (by exact hc 0 (by omega)) (hb 0).1 (hb 0).2 hk
  · exact getp_more b0 off len cap zs _ b M w h hz hl hcap (by omega) hbn hc hb rfl hk
end

end Go.Proofs.Ytiecpkkklefjdaa.Vi

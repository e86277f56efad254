/-
  What varint.PutPrefix answers, and what it leaves in memory.
-/
import Derived.Test.YtdoojlffejjbaaaDoorSevens
import Derived.Test.YtdoojlffejjbaaaDoorBits
namespace Go.Proofs.YtdoojlffejjbaaaDoor
open Go.RowKit Go.Shelf
attribute [local go_sem] Oper.semAt_some

set_option maxHeartbeats 1000000 in
theorem putp_bits (first b n : Int) (w : World) (h : b < 1 ∨ 8 < b) :
    Calls Tryd.prog 18 #[.int .u8 first, .int .i64 b, .int .u64 n] w fun e w' => e = .returned (.tuple #[.slice none 0 0, .int .i64 1]) ∧ w' = w := by
  go_enter Tryd.func18, Tryd.ntmps18
  go_wp2_with fail
  refine (mayBe_no _ _ h).mono ?_
  rintro e1 w1 ⟨rfl, rfl⟩
  go_wp2
  go_ret2
  exact ⟨rfl, rfl⟩

set_option maxHeartbeats 1000000 in
theorem putp_large (first b n : Int) (w : World) (h0 : 1 ≤ b) (h1 : b ≤ 8) (hn : 4611686018427387903 < n) :
    Calls Tryd.prog 18 #[.int .u8 first, .int .i64 b, .int .u64 n] w fun e w' => e = .returned (.tuple #[.slice none 0 0, .int .i64 1]) ∧ w' = w := by
  go_enter Tryd.func18, Tryd.ntmps18
  go_wp2_with fail
  refine (mayBe_yes _ _ h0 h1).mono ?_
  rintro e1 w1 ⟨rfl, rfl⟩
  go_wp2
  go_ret2
  exact ⟨rfl, rfl⟩

set_option maxHeartbeats 1000000 in
theorem putp_first (first b M n : Int) (w : World) (h : IsMask b M) (hf0 : 0 ≤ first) (hf1 : first ≤ 255) (hn : n ≤ 4611686018427387903) (hf : first % (M + 1) ≠ 0) :
    Calls Tryd.prog 18 #[.int .u8 first, .int .i64 b, .int .u64 n] w fun e w' => e = .returned (.tuple #[.slice none 0 0, .int .i64 1]) ∧ w' = w := by
  have hbd := h.bd
  have hand := h.and64 first hf0 hf1
  have hne : (first % (M + 1) != 0) = true := by simpa using hf
  have H : Hid (IsMask b M) := h
  clear h
  go_enter Tryd.func18, Tryd.ntmps18
  go_wp2_with fail
  refine (mayBe_yes _ _ hbd.1 hbd.2.1).mono ?_
  rintro e1 w1 ⟨rfl, rfl⟩
  go_wp2_with fail
  refine (ones_any _ M _ H.out).mono ?_
  rintro e1 w1 ⟨rfl, rfl⟩
  go_wp2
  go_ret2
  exact ⟨rfl, rfl⟩

set_option maxHeartbeats 1000000 in
theorem putp_short (first b M n : Int) (w : World) (h : IsMask b M) (hf0 : 0 ≤ first) (hf1 : first ≤ 255) (hn : 0 ≤ n) (hf : first % (M + 1) = 0) (hs : n < M) :
    Calls Tryd.prog 18 #[.int .u8 first, .int .i64 b, .int .u64 n] w fun e w' => e = .returned (.tuple #[.slice (some ⟨w.heap.size, 0, none⟩) 1 1, .int .i64 0]) ∧ w' = w.alloc (.cells #[.int .u8 (first + n)] 5) := by
  have hbd := h.bd
  have hand := h.and64 first hf0 hf1
  have hor := h.or8 first n hf0 hf1 hf hn (by omega)
  rw [hf] at hand
  have H : Hid (IsMask b M) := h
  clear h hf
  go_enter Tryd.func18, Tryd.ntmps18
  go_wp2_with fail
  refine (mayBe_yes _ _ hbd.1 hbd.2.1).mono ?_
  rintro e1 w1 ⟨rfl, rfl⟩
  go_wp2_with fail
  refine (ones_any _ M _ H.out).mono ?_
  rintro e1 w1 ⟨rfl, rfl⟩
  go_wp2
  go_ret2
  exact ⟨rfl, rfl⟩

set_option maxRecDepth 100000 in
set_option maxHeartbeats 2000000 in
theorem putp_long (first b M n : Int) (w : World) (h : IsMask b M) (hf0 : 0 ≤ first) (hf1 : first ≤ 255) (hn : n ≤ 4611686018427387903) (hf : first % (M + 1) = 0) (hs : M ≤ n) :
    Calls Tryd.prog 18 #[.int .u8 first, .int .i64 b, .int .u64 n] w fun e W' => ∃ v, e = .returned (.tuple #[v, .int .i64 0]) ∧
      W'.ownsRow w.heap.size 5 1 v ((sev 9 (n - M)).length + 1) ((((first + M) :: sev 9 (n - M))).map (Value.int .u8)) ∧ Below w.heap.size w W' := by
  have hbd := h.bd
  have hand := h.and64 first hf0 hf1
  have hor := h.or8 first M hf0 hf1 hf (by omega) (by omega)
  rw [hf] at hand
  have H : Hid (IsMask b M) := h
  clear h hf
  obtain ⟨i0, hi, hz0, hz1, hz2⟩ := info_parts Tryd.infoByte
  refine (callsIn_wide (n := 4)).1 ?_
  refine callsIn_of_wp_marks Tryd.func18 rfl trivial ?_ rfl
  simp only [Tryd.ntmps18, List.size_toArray, List.length_cons, List.length_nil, Nat.reduceAdd, Nat.reduceSub, Array.replicate_succ, Array.replicate_zero, List.push_toArray, List.append_toArray, List.nil_append, List.cons_append]
  gi_wp2_with fail
  refine ⟨trivial, (callsIn_wide.2 (mayBe_yes _ _ hbd.1 hbd.2.1)).mono ?_⟩
  rintro e1 w1 ⟨rfl, hw1⟩
  obtain rfl := hw1.symm
  gi_wp2_with fail
  refine ⟨trivial, (callsIn_wide.2 (ones_any _ M _ H.out)).mono ?_⟩
  rintro e1 w1 ⟨rfl, hw1⟩
  obtain rfl := hw1.symm
  gi_wp2_with fail
  refine ⟨trivial, (sevens_in _ _ trivial rfl _ _).mono ?_⟩
  rintro e1 w1 ⟨rfl, rfl⟩
  gi_wp2
  have bR := World.ownsRow_lit (base := w.heap.size) (e := 5) (size := 1) w #[.int .u8 (first + M)] 1 (Nat.le_refl _) (by decide) rfl
  have bO := Boxed.new (w.alloc (.cells #[.int .u8 (first + M)] 5)) 23 (.slice (some ⟨w.heap.size, 0, none⟩) 1 1)
  rw [World.size_alloc] at bO
  have bN := Boxed.new ((w.alloc (.cells #[.int .u8 (first + M)] 5)).alloc (.cells #[.slice (some ⟨w.heap.size, 0, none⟩) 1 1] 23)) 22 (.int .u64 (n - M))
  rw [World.size_alloc, World.size_alloc] at bN
  have hB0 : Below w.heap.size w (((w.alloc (.cells #[.int .u8 (first + M)] 5)).alloc (.cells #[.slice (some ⟨w.heap.size, 0, none⟩) 1 1] 23)).alloc (.cells #[.int .u64 (n - M)] 22)) := (((Below.refl _ w).alloc (Nat.le_refl _) _).alloc (by simp) _).alloc (by simp; omega) _
  have hbytes : i0.bytes = 1 := hz2
  refine wpIn_rangeFunc_ownG rfl (by decide) (gf := 88) (lb := #[.pointer (some ⟨w.heap.size + 1 + 1, 0, none⟩)]) rfl trivial (enters_of Tryd.func88 (by kernel_rfl) rfl)
    (sevens_stops Fence.wide (4 - 1) trivial rfl (by decide) (w.heap.size + 1 + 1) w.heap.size (n - M) (by omega) (by omega) _ (by simp) bN.cell) belowK_t (belowK_b (by simp; omega)) (Below.refl _ _) (fun _ => rfl)
    (fun pre W => (∃ v, Boxed W (w.heap.size + 1) 23 v ∧ W.ownsRow w.heap.size 5 1 v (pre.length + 1) (((first + M) :: pre).map (Value.int .u8)) ∧ True) ∧ Below w.heap.size w W)
    (fun _ _ _ => False)
    (OwnFrom.and (Own.from (holdsRow_own w.heap.size (w.heap.size + 1) 23 5 1 (fun pre : List Int => pre.length + 1) (fun pre => ((first + M) :: pre).map (Value.int .u8)) (fun _ _ => True)) _) (ownFrom_below (Nat.le_refl _) (by simp; omega)))
    (fun _ _ _ _ _ hs _ _ => hs)
    ⟨⟨_, bO.alloc _, by simpa using (bR.alloc _).alloc _, trivial⟩, hB0⟩
    (fun x => { tmps := #[.int .u8 first, .int .i64 b, .int .u64 n, undef, undef, undef, .slice none 0 0, .int .i64 0, .int .u64 M, .pointer (some ⟨w.heap.size + 1, 0, none⟩), .int .u8 x, .int .i64 b, .bool true, .bool false, .bool false, .int .u64 n, .bool (decide (4611686018427387903 < n)), .bool (decide (4611686018427387903 < n)), .int .i64 b, .int .u64 M, .int .u8 first, .int .u64 first, .int .u64 M, .int .u64 0, .bool false, .int .u64 n, .int .u64 M, .bool (decide (n < M)), undef, undef, undef, undef, undef, .int .u8 first, .int .u64 M, .int .u8 M, .int .u8 (first + M), .slice (some ⟨w.heap.size, 0, none⟩) 1 1, .int .u64 n, .int .u64 M, .int .u64 (n - M), .func (.func 88) #[] #[.pointer (some ⟨w.heap.size + 1 + 1, 0, none⟩)], .int .u8 x, undef, undef, undef, undef, undef], defers := [] }) ?assign ?body ?done ?stop
  case assign =>
    intro l x W K hK
    gi_wp2
    exact hK
  case body =>
    rintro l pre x W ⟨⟨v, hv, hrow, _⟩, hB⟩ hlt
    obtain ⟨g, cap, rfl⟩ := ownsRow_succ hrow
    have hc := hv.cell
    clear bR bO bN hB0
    gi_wp2_with (gi_at_builtin; refine wpListIn_append_own _ rfl _ _ 23 rfl w.heap.size 5 i0 (.int .u8 0) 1 1 Tryd.underlying23 hi hz0 hz1 hz2 rfl (by decide) _ _ _ rfl (hrow.alloc _) ⟨W.heap.size, 0, none⟩ 1 1 [.int .u8 x] rfl rfl (cell_one_new _ _ _) (by simp [Value.oneCell']) (by unfold maxLen; omega) (by omega) (by have := hB.size; simp; omega) ?_; intro v' w1 hown' hgrow _; obtain ⟨g', cap', rfl⟩ := ownsRow_succ hown'; obtain ⟨hv1, hv2, hr2, hk2, hb2⟩ := hv.appended (by decide) hrow hB.size (by omega) hown' hgrow; have hc1 := hv1.cell; have hf1 := hv1.frozen)
    exact ⟨hk2.from _, hb2, ⟨_, hv2, by simpa using hr2, trivial⟩, hB.trans hb2⟩
  case done =>
    rintro D ys W hD rfl ⟨⟨v, hv, hrow, _⟩, hB⟩ hK
    obtain ⟨g, cap, rfl⟩ := ownsRow_succ hrow
    have hc := hv.cell
    gi_wp2
    refine ⟨by simp, .inl ⟨_, _, rfl, run_takeDeferred hK, ?_⟩⟩
    exact ⟨_, results_tmp2 rfl _ _ _, _, rfl, ownsRow_putObj hrow _ hK rfl, hB.trans (belowK_b (w := w) (Nat.le_refl _) W D _ _ (by simp at hD; omega) hK rfl rfl)⟩
  case stop =>
    rintro D c pre W _ _ h _
    exact h.elim
end Go.Proofs.YtdoojlffejjbaaaDoor

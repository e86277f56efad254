/-
  PolyTags' walk.
-/
import Derived.Test.YtholddbmnlnkkaaPlRefT
import Derived.Test.YtholddbmnlnkkaaPlTwin
namespace Go.Proofs.Ytholddbmnlnkkaa
open Go Go.RowKit

set_option maxRecDepth 20000 in
set_option maxHeartbeats 1000000 in
theorem refTag_limit (key : List By) (q : SL) (w : World) (hl : 4194304 < q.len) :
    Calls Try.prog 9 #[.agg (bs key), .slice q.a q.len q.cap] w fun e w' => e = .returned (.tuple #[.agg (bs z16), .int .i64 3]) ∧ Below w.heap.size w w' := by
  have hgt : decide ((4194304 : Int) < (q.len : Int)) = true := by simp; omega
  clear hl
  go_enter Try.func9, Try.ntmps9
  go_wp2_with (first
    | (with_reducible (show wpList _ _ _ (⟨_, Op.alloc 25, _, _, _, _⟩ :: _) _ _)
       refine alloc_row rfl 25 rfl (bs z16) (by kernel_rfl) ?_)
    | (with_reducible (show wpList _ _ _ (⟨_, Op.build 25 _, _, _, _, _⟩ :: _) _ _)
       refine build_row rfl 25 _ rfl (bs z16) (by kernel_rfl) ?_)
    | (with_reducible (show wpList _ _ _ (⟨_, Op.store 25 _ _, _, _, _, _⟩ :: _) _ _)
       refine store_row rfl 25 _ _ rfl (w.heap.size + 1) (bs z16) rfl rfl _ _ (Row.new1 _ _ _ _) 16 (by kernel_rfl) (by rfl) (by rfl) (bs_one _) ?_))
  refine bodyPost_ret (result_row_tmp rfl _ _ (w.heap.size + 1) _ _ ((Row.new1 w _ _ _).put _) 16 5 (.int .i64 3) rfl rfl Try.underlying25 (by kernel_rfl) (by rfl)) rfl ⟨rfl, bSetRow (((Below.refl _ w).alloc (Nat.le_refl _) _).alloc (by simp) _) (by omega) _⟩
set_option maxRecDepth 20000 in
set_option maxHeartbeats 1000000 in
theorem tag_limit (key : List By) (q : SL) (w : World) (hl : 4194304 < q.len) :
    Calls Try.prog 8 #[.agg (bs key), .slice q.a q.len q.cap] w fun e w' => e = .returned (.tuple #[.agg (bs z16), .int .i64 3]) ∧ Below w.heap.size w w' := by
  have hgt : decide ((4194304 : Int) < (q.len : Int)) = true := by simp; omega
  clear hl
  go_enter Try.func8, Try.ntmps8
  go_wp2_with (first
    | (with_reducible (show wpList _ _ _ (⟨_, Op.alloc 25, _, _, _, _⟩ :: _) _ _)
       refine alloc_row rfl 25 rfl (bs z16) (by kernel_rfl) ?_)
    | (with_reducible (show wpList _ _ _ (⟨_, Op.build 25 _, _, _, _, _⟩ :: _) _ _)
       refine build_row rfl 25 _ rfl (bs z16) (by kernel_rfl) ?_)
    | (with_reducible (show wpList _ _ _ (⟨_, Op.store 25 _ _, _, _, _, _⟩ :: _) _ _)
       refine store_row rfl 25 _ _ rfl (w.heap.size + 1) (bs z16) rfl rfl _ _ (Row.new1 _ _ _ _) 16 (by kernel_rfl) (by rfl) (by rfl) (bs_one _) ?_))
  refine bodyPost_ret (result_row_tmp rfl _ _ (w.heap.size + 1) _ _ ((Row.new1 w _ _ _).put _) 16 5 (.int .i64 3) rfl rfl Try.underlying25 (by kernel_rfl) (by rfl)) rfl ⟨rfl, bSetRow (((Below.refl _ w).alloc (Nat.le_refl _) _).alloc (by simp) _) (by omega) _⟩
/-- Both answers, in one shape. -/
theorem tag_cases (key : List By) (hk : key.length = 32) (bb : List By) (L : Nat) (_hL : L ≤ 100000 ∨ 4194304 < L) (_hbb : bb.length = L) : ∃ (X : List By) (E : Int), X.length = 16 ∧
    (∀ (s : SL) (w : World), s.Ok w → s.b = bb → s.len = L → Calls Try.prog 8 #[.agg (bs key), .slice s.a s.len s.cap] w fun e w' => e = .returned (.tuple #[.agg (bs X), .int .i64 E]) ∧ Below w.heap.size w w') ∧
    (∀ (s : SL) (w : World), s.Ok w → s.b = bb → s.len = L → Calls Try.prog 9 #[.agg (bs key), .slice s.a s.len s.cap] w fun e w' => e = .returned (.tuple #[.agg (bs X), .int .i64 E]) ∧ Below w.heap.size w w') := by
  by_cases h : 4194304 < L
  · exact ⟨z16, 3, rfl, fun s w hs h1 h2 => tag_limit key s w (by omega), fun s w hs h1 h2 => refTag_limit key s w (by omega)⟩
  · refine ⟨tagL key bb, 0, tagL_length _ _, fun s w hs h1 h2 => ?_, fun s w hs h1 h2 => ?_⟩
    · subst h1
      exact tag_any key hk s w hs (by omega)
    · subst h1
      exact refTag_any key hk s w hs (by omega)

set_option maxRecDepth 20000 in
set_option maxHeartbeats 2000000 in
theorem tags_walk (key : List By) (hk : key.length = 32) (q : SL) (w : World) (hq : q.Ok w) (_hl : q.len ≤ 140737488355328) :
    Calls Try.prog 3 #[.agg (bs key), .slice q.a q.len q.cap] w fun e w' => e = .returned (.bool true) ∧ Below w.heap.size w w' := by
  have hks : (bs key).size = 32 := by rw [bs_size, hk]
  have HQ := veil hq
  have rk0 : Row (w.alloc (.cells (bs key) 22)) w.heap.size 22 (bs key) := Row.new _ _ _
  have b0 : Below w.heap.size w (w.alloc (.cells (bs key) 22)) := (Below.refl _ w).alloc (Nat.le_refl _) _
  by_cases h3 : 8388608 < q.len
  · have d1 : decide ((100000 : Int) < (q.len : Int)) = true := by simp; omega
    have d2 : decide ((q.len : Int) ≤ 4194304) = false := by simp; omega
    have d3 : decide ((8388608 : Int) < (q.len : Int)) = true := by simp; omega
    clear h3 hk hq
    go_enter Try.func3, Try.ntmps3
    go_wp2
    go_ret
    exact ⟨rfl, b0⟩
  · by_cases h12 : 100000 < q.len ∧ q.len ≤ 4194304
    · have d1 : decide ((100000 : Int) < (q.len : Int)) = true := by simp; omega
      have d2 : decide ((q.len : Int) ≤ 4194304) = true := by simp; omega
      clear h3 h12 hk hq
      go_enter Try.func3, Try.ntmps3
      go_wp2
      go_ret
      exact ⟨rfl, b0⟩
    · obtain ⟨X, E, hX, hT, hR⟩ := tag_cases key hk q.b q.len (by omega) hq.hb
      have HL8 : Hid (q.len ≤ 16777216) := show _ ≤ _ by omega
      have HT := veil hT
      have HR := veil hR
      have hxs : (bs X).size = 16 := by rw [bs_size, hX]
      have HX := veil hX
      have HB := veil hq.hb
      obtain ⟨D1, hD1⟩ : ∃ D1, D1 = decide ((100000 : Int) < (q.len : Int)) := ⟨_, rfl⟩
      have d3 : decide ((8388608 : Int) < (q.len : Int)) = false := by simp; omega
      have HD2 : Hid (D1 = true → decide ((q.len : Int) ≤ 4194304) = false) := show _ → _ from fun h => by
        rw [hD1] at h
        simp at h ⊢
        omega
      clear h3 h12 hk hq hT hR hX
      have main : ∀ (D1 : Bool), decide ((100000 : Int) < (q.len : Int)) = D1 → (D1 = true → decide ((q.len : Int) ≤ 4194304) = false) → Calls Try.prog 3 #[.agg (bs key), .slice q.a q.len q.cap] w fun e w' => e = .returned (.bool true) ∧ Below w.heap.size w w' := by
        intro D1 d1 d2
        have key2 : ∀ (hgo : True), True := fun _ => trivial
        cases D1 with
        | true =>
          have d2' := d2 rfl
          clear d2 key2
          go_enter Try.func3, Try.ntmps3
          go_wp2_with fail
          refine (twin_sl q _ (HQ.out.below b0) HL8.out).mono ?_
          rintro e1 w1 ⟨g1, rfl, tw1, hg1, hb1⟩
          have b1 := b0.trans (hb1.mono (by simp))
          have rk1 := rk0.below hb1 rk0.lt
          have HTW := veil tw1
          clear hb1 tw1
          go_wp2_with (with_reducible (show wpList _ _ _ (⟨some 26, Op.load 22 _, _, _, _, _⟩ :: _) _ _)
                       refine load_row rfl 22 _ rfl w.heap.size rfl _ _ rk1 32 5 Try.underlying22 (by kernel_rfl) hks ?_)
          refine (HT.out (twinS g1 q.len q.b) w1 (HTW.out.ok HB.out) rfl rfl).mono ?_
          rintro e2 w2 ⟨rfl, hb2⟩
          have b2 := b1.trans (hb2.mono b1.size)
          have rk2 := rk1.below hb2 rk1.lt
          have HTW2 := veil (HTW.out.below hb2)
          have rX : Row (w2.alloc (.cells (bs X) 25)) w2.heap.size 25 (bs X) := Row.new _ _ _
          have rk3 := rk2.alloc (.cells (bs X) 25)
          have b3 := b2.alloc b2.size (.cells (bs X) 25)
          have HTW3 := veil (HTW2.out.below ((Below.refl _ w2).alloc (Nat.le_refl _) (.cells (bs X) 25)))
          clear hb2 HTW HTW2 rk2 b2
          go_wp2_with (first
            | (with_reducible (show wpList _ _ _ (⟨some 6, Op.alloc 25, _, _, _, _⟩ :: _) _ _)
               refine alloc_row rfl 25 rfl (bs z16) (by kernel_rfl) ?_)
            | (with_reducible (show wpList _ _ _ (⟨_, Op.store 25 (.tmp 6) _, _, _, _, _⟩ :: _) _ _)
               refine store_new (w := w2) (by rfl) 25 _ _ (by rfl) w2.heap.size (bs X) (by rfl) (by rfl) 25 (bs z16) (by rfl) 16 (by kernel_rfl) (by rfl) hxs (bs_one _) ?_)
            | (with_reducible (show wpList _ _ _ (⟨some 32, Op.load 22 _, _, _, _, _⟩ :: _) _ _)
               refine load_row rfl 22 _ rfl w.heap.size rfl _ _ rk3 32 5 Try.underlying22 (by kernel_rfl) hks ?_))
          generalize w2.alloc (.cells (bs X) 25) = W3 at *
          refine (HR.out q W3 (HQ.out.below b3) rfl rfl).mono ?_
          rintro e4 w4 ⟨rfl, hb4⟩
          have hX3 := rX.lt
          have b4' := b3.trans (hb4.mono b3.size)
          have rX4 := (rX.below hb4 rX.lt).alloc (.cells (bs X) 25)
          have rY4 : Row (w4.alloc (.cells (bs X) 25)) w4.heap.size 25 (bs X) := Row.new _ _ _
          have b4 := b4'.alloc b4'.size (.cells (bs X) 25)
          have HTW4 := veil ((HTW3.out.below hb4).below ((Below.refl _ w4).alloc (Nat.le_refl _) (.cells (bs X) 25)))
          have hself : ∀ j, j < 16 → ∃ z, (bs X)[j]? = some (.int .u8 z) := fun j hj => ⟨_, bs_get X j (by rw [HX.out]; exact hj)⟩
          have HSELF := veil hself
          clear hb4 HTW3 b3 b4' rX rk3 hself
          go_wp2_with (first
            | (with_reducible (show wpList _ _ _ (⟨some 8, Op.alloc 25, _, _, _, _⟩ :: _) _ _)
               refine alloc_row rfl 25 rfl (bs z16) (by kernel_rfl) ?_)
            | (with_reducible (show wpList _ _ _ (⟨_, Op.store 25 (.tmp 8) _, _, _, _, _⟩ :: _) _ _)
               refine store_new (w := w4) (by rfl) 25 _ _ (by rfl) w4.heap.size (bs X) (by rfl) (by rfl) 25 (bs z16) (by rfl) 16 (by kernel_rfl) (by rfl) hxs (bs_one _) ?_)
            | (with_reducible (show wpList _ _ _ (⟨some 37, Op.load 25 _, _, _, _, _⟩ :: _) _ _)
               refine load_row rfl 25 _ rfl w2.heap.size rfl _ _ rX4 16 5 Try.underlying25 (by kernel_rfl) hxs ?_)
            | (with_reducible (show wpList _ _ _ (⟨some 38, Op.load 25 _, _, _, _, _⟩ :: _) _ _)
               refine load_row rfl 25 _ rfl w4.heap.size rfl _ _ rY4 16 5 Try.underlying25 (by kernel_rfl) hxs ?_)
            | (with_reducible (show wpList _ _ _ (⟨some 39, Op.binOp .eql 25 _ _ _, _, _, _, _⟩ :: _) _ _)
               refine value_G (by rfl) (.bool true) (exec_eql_self _ 25 5 16 .u8 (.tmp 37) (.tmp 38) 25 (bs X) rfl rfl rfl Try.underlying25 Try.underlying5 (by kernel_rfl) (by kernel_rfl) (by kernel_rfl) HSELF.out) ?_))
          generalize w4.alloc (.cells (bs X) 25) = W5 at *
          refine (left_sl q g1 W5 (HQ.out.below b4) HL8.out HTW4.out).mono ?_
          rintro e6 w6 ⟨rfl, hb6⟩
          have b6 := b4.trans (hb6.mono b4.size)
          go_wp2
          go_ret
          exact ⟨rfl, b6⟩
        | false =>
          clear d2 key2
          go_enter Try.func3, Try.ntmps3
          go_wp2_with fail
          refine (twin_sl q _ (HQ.out.below b0) HL8.out).mono ?_
          rintro e1 w1 ⟨g1, rfl, tw1, hg1, hb1⟩
          have b1 := b0.trans (hb1.mono (by simp))
          have rk1 := rk0.below hb1 rk0.lt
          have HTW := veil tw1
          clear hb1 tw1
          go_wp2_with (with_reducible (show wpList _ _ _ (⟨some 26, Op.load 22 _, _, _, _, _⟩ :: _) _ _)
                       refine load_row rfl 22 _ rfl w.heap.size rfl _ _ rk1 32 5 Try.underlying22 (by kernel_rfl) hks ?_)
          refine (HT.out (twinS g1 q.len q.b) w1 (HTW.out.ok HB.out) rfl rfl).mono ?_
          rintro e2 w2 ⟨rfl, hb2⟩
          have b2 := b1.trans (hb2.mono b1.size)
          have rk2 := rk1.below hb2 rk1.lt
          have HTW2 := veil (HTW.out.below hb2)
          have rX : Row (w2.alloc (.cells (bs X) 25)) w2.heap.size 25 (bs X) := Row.new _ _ _
          have rk3 := rk2.alloc (.cells (bs X) 25)
          have b3 := b2.alloc b2.size (.cells (bs X) 25)
          have HTW3 := veil (HTW2.out.below ((Below.refl _ w2).alloc (Nat.le_refl _) (.cells (bs X) 25)))
          clear hb2 HTW HTW2 rk2 b2
          go_wp2_with (first
            | (with_reducible (show wpList _ _ _ (⟨some 6, Op.alloc 25, _, _, _, _⟩ :: _) _ _)
               refine alloc_row rfl 25 rfl (bs z16) (by kernel_rfl) ?_)
            | (with_reducible (show wpList _ _ _ (⟨_, Op.store 25 (.tmp 6) _, _, _, _, _⟩ :: _) _ _)
               refine store_new (w := w2) (by rfl) 25 _ _ (by rfl) w2.heap.size (bs X) (by rfl) (by rfl) 25 (bs z16) (by rfl) 16 (by kernel_rfl) (by rfl) hxs (bs_one _) ?_)
            | (with_reducible (show wpList _ _ _ (⟨some 32, Op.load 22 _, _, _, _, _⟩ :: _) _ _)
               refine load_row rfl 22 _ rfl w.heap.size rfl _ _ rk3 32 5 Try.underlying22 (by kernel_rfl) hks ?_))
          generalize w2.alloc (.cells (bs X) 25) = W3 at *
          refine (HR.out q W3 (HQ.out.below b3) rfl rfl).mono ?_
          rintro e4 w4 ⟨rfl, hb4⟩
          have hX3 := rX.lt
          have b4' := b3.trans (hb4.mono b3.size)
          have rX4 := (rX.below hb4 rX.lt).alloc (.cells (bs X) 25)
          have rY4 : Row (w4.alloc (.cells (bs X) 25)) w4.heap.size 25 (bs X) := Row.new _ _ _
          have b4 := b4'.alloc b4'.size (.cells (bs X) 25)
          have HTW4 := veil ((HTW3.out.below hb4).below ((Below.refl _ w4).alloc (Nat.le_refl _) (.cells (bs X) 25)))
          have hself : ∀ j, j < 16 → ∃ z, (bs X)[j]? = some (.int .u8 z) := fun j hj => ⟨_, bs_get X j (by rw [HX.out]; exact hj)⟩
          have HSELF := veil hself
          clear hb4 HTW3 b3 b4' rX rk3 hself
          go_wp2_with (first
            | (with_reducible (show wpList _ _ _ (⟨some 8, Op.alloc 25, _, _, _, _⟩ :: _) _ _)
               refine alloc_row rfl 25 rfl (bs z16) (by kernel_rfl) ?_)
            | (with_reducible (show wpList _ _ _ (⟨_, Op.store 25 (.tmp 8) _, _, _, _, _⟩ :: _) _ _)
               refine store_new (w := w4) (by rfl) 25 _ _ (by rfl) w4.heap.size (bs X) (by rfl) (by rfl) 25 (bs z16) (by rfl) 16 (by kernel_rfl) (by rfl) hxs (bs_one _) ?_)
            | (with_reducible (show wpList _ _ _ (⟨some 37, Op.load 25 _, _, _, _, _⟩ :: _) _ _)
               refine load_row rfl 25 _ rfl w2.heap.size rfl _ _ rX4 16 5 Try.underlying25 (by kernel_rfl) hxs ?_)
            | (with_reducible (show wpList _ _ _ (⟨some 38, Op.load 25 _, _, _, _, _⟩ :: _) _ _)
               refine load_row rfl 25 _ rfl w4.heap.size rfl _ _ rY4 16 5 Try.underlying25 (by kernel_rfl) hxs ?_)
            | (with_reducible (show wpList _ _ _ (⟨some 39, Op.binOp .eql 25 _ _ _, _, _, _, _⟩ :: _) _ _)
               refine value_G (by rfl) (.bool true) (exec_eql_self _ 25 5 16 .u8 (.tmp 37) (.tmp 38) 25 (bs X) rfl rfl rfl Try.underlying25 Try.underlying5 (by kernel_rfl) (by kernel_rfl) (by kernel_rfl) HSELF.out) ?_))
          generalize w4.alloc (.cells (bs X) 25) = W5 at *
          refine (left_sl q g1 W5 (HQ.out.below b4) HL8.out HTW4.out).mono ?_
          rintro e6 w6 ⟨rfl, hb6⟩
          have b6 := b4.trans (hb6.mono b4.size)
          go_wp2
          go_ret
          exact ⟨rfl, b6⟩
      exact main D1 hD1.symm HD2.out
end Go.Proofs.Ytholddbmnlnkkaa

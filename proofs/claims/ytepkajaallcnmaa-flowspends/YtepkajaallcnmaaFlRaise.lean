/-
  Written by mkfl.py: what flow.Raise, Came and the document's answer.
-/
import Derived.Test.YtepkajaallcnmaaFlSpend
namespace Go.Proofs.Ytepkajaallcnmaa
open Go Go.RowKit

set_option maxRecDepth 20000 in
set_option maxHeartbeats 1000000 in
theorem raise_any (l u n : Nat) (w : World) (hn : n < 18446744073709551616) :
    Calls Try.prog 9 #[.agg (crd (l, u)), .int .u64 (n : Int)] w fun e w' => e = .returned (.tuple #[.agg (crd (raiseO l u n)), .int .i64 (raiseE l u n)]) ∧ Below w.heap.size w w' := by
  have r : Row (two2 w (crd (l, u)) 24) w.heap.size 24 (crd (l, u)) := (Row.new _ _ _).alloc _
  have q : Row (two2 w (crd (l, u)) 24) (w.heap.size + 1) 24 #[.int .u64 0, .int .u64 0] := Row.new1 _ _ _ _
  have b : Below w.heap.size w (two2 w (crd (l, u)) 24) := ((Below.refl w.heap.size w).alloc (Nat.le_refl _) _).alloc (by simp) _
  have sz : (two2 w (crd (l, u)) 24).heap.size = w.heap.size + 2 := by simp [two2]
  have R := veil r
  have Q := veil q
  have B := veil b
  have SZ := veil sz
  have c0 : (two2 w (crd (l, u)) 24).cell? ⟨w.heap.size, 0, none⟩ = some (.int .u64 (l : Int)) := r.cell 0
  have c1 : (two2 w (crd (l, u)) 24).cell? ⟨w.heap.size, 1, none⟩ = some (.int .u64 (u : Int)) := r.cell 1
  clear r q b sz
  unfold two2 at c0 c1
  have MC := veil (fun w => mayBe_any l u w)
  have LC := veil (fun w => left_any l u w)
  have hm := @mayC_out l u
  cases hg : mayC l u
  · rw [show raiseE l u n = 1 from if_neg (fun q => by rw [hg] at q; cases q.1), show raiseO l u n = (0, 0) from if_neg (by rw [show raiseE l u n = 1 from if_neg (fun q => by rw [hg] at q; cases q.1)]; decide)]
    rw [hg] at MC
    clear hm hg
    go_enter Try.func9, Try.ntmps9
    go_wp2_with fail
    refine (MC.out (two2 w (crd (l, u)) 24)).mono ?_
    rintro e1 w1 ⟨rfl, hb1⟩
    rw [SZ.out] at hb1
    have r1 := R.out.below hb1 (by omega)
    have q1 := Q.out.below hb1 (by omega)
    have b1 := B.out.trans (hb1.mono (by omega))
    have d01 : w1.cell? ⟨w.heap.size, 0, none⟩ = some (.int .u64 (l : Int)) := r1.cell 0
    have d11 : w1.cell? ⟨w.heap.size, 1, none⟩ = some (.int .u64 (u : Int)) := r1.cell 1
    have x01 : w1.cell? ⟨w.heap.size + 1, 0, none⟩ = some (.int .u64 0) := q1.cell 0
    have x11 : w1.cell? ⟨w.heap.size + 1, 1, none⟩ = some (.int .u64 0) := q1.cell 1
    have f01 := q1.frozen 0
    have f11 := q1.frozen 1
    have R1 := veil r1
    have Q1 := veil q1
    have B1 := veil b1
    clear r1 q1 b1
    clear hb1 c0 c1 MC LC
    go_wp2_with fail
    exact bodyPost_ret (result_two rfl _ _ (w.heap.size + 1) _ _ ((Q1.out.set 0 (.int .u64 0)).set 1 (.int .u64 0)) 2 _ (.int .i64 1) rfl rfl Try.underlying24 (by kernel_rfl) rfl) rfl ⟨rfl, (B1.out.setCell (p := ⟨w.heap.size + 1, 0, none⟩) (by simp) _).setCell (p := ⟨w.heap.size + 1, 1, none⟩) (by simp) _⟩
  · obtain ⟨h1, h2⟩ := hm hg
    have LC2 := veil hg
    rw [hg] at MC
    clear hm
    by_cases h3 : n ≤ 4611686018427387903
    · have E0 : raiseE l u n = _ := if_pos ⟨hg, h3⟩
      clear hg
      clear LC2
      rw [show raiseO l u n = (Nat.max l n, u) from if_pos E0, E0]
      clear E0
      by_cases h5 : l < n
      · rw [show Nat.max l n = n from Nat.max_eq_right (by omega)]
        go_enter Try.func9, Try.ntmps9
        go_wp2_with fail
        refine (MC.out (two2 w (crd (l, u)) 24)).mono ?_
        rintro e1 w1 ⟨rfl, hb1⟩
        rw [SZ.out] at hb1
        have r1 := R.out.below hb1 (by omega)
        have q1 := Q.out.below hb1 (by omega)
        have b1 := B.out.trans (hb1.mono (by omega))
        have d01 : w1.cell? ⟨w.heap.size, 0, none⟩ = some (.int .u64 (l : Int)) := r1.cell 0
        have d11 : w1.cell? ⟨w.heap.size, 1, none⟩ = some (.int .u64 (u : Int)) := r1.cell 1
        have x01 : w1.cell? ⟨w.heap.size + 1, 0, none⟩ = some (.int .u64 0) := q1.cell 0
        have x11 : w1.cell? ⟨w.heap.size + 1, 1, none⟩ = some (.int .u64 0) := q1.cell 1
        have f01 := q1.frozen 0
        have f11 := q1.frozen 1
        have R1 := veil r1
        have Q1 := veil q1
        have B1 := veil b1
        clear r1 q1 b1
        clear hb1 c0 c1 MC LC
        go_wp2_with fail
        exact bodyPost_ret (result_two rfl _ _ (w.heap.size + 1) _ _ ((Q1.out.set 0 (.int .u64 (n : Int))).set 1 (.int .u64 (u : Int))) 2 _ (.int .i64 0) rfl rfl Try.underlying24 (by kernel_rfl) rfl) rfl ⟨rfl, (B1.out.setCell (p := ⟨w.heap.size + 1, 0, none⟩) (by simp) _).setCell (p := ⟨w.heap.size + 1, 1, none⟩) (by simp) _⟩
      · rw [show Nat.max l n = l from Nat.max_eq_left (by omega)]
        go_enter Try.func9, Try.ntmps9
        go_wp2_with fail
        refine (MC.out (two2 w (crd (l, u)) 24)).mono ?_
        rintro e1 w1 ⟨rfl, hb1⟩
        rw [SZ.out] at hb1
        have r1 := R.out.below hb1 (by omega)
        have q1 := Q.out.below hb1 (by omega)
        have b1 := B.out.trans (hb1.mono (by omega))
        have d01 : w1.cell? ⟨w.heap.size, 0, none⟩ = some (.int .u64 (l : Int)) := r1.cell 0
        have d11 : w1.cell? ⟨w.heap.size, 1, none⟩ = some (.int .u64 (u : Int)) := r1.cell 1
        have x01 : w1.cell? ⟨w.heap.size + 1, 0, none⟩ = some (.int .u64 0) := q1.cell 0
        have x11 : w1.cell? ⟨w.heap.size + 1, 1, none⟩ = some (.int .u64 0) := q1.cell 1
        have f01 := q1.frozen 0
        have f11 := q1.frozen 1
        have R1 := veil r1
        have Q1 := veil q1
        have B1 := veil b1
        clear r1 q1 b1
        clear hb1 c0 c1 MC LC
        go_wp2_with fail
        exact bodyPost_ret (result_two rfl _ _ (w.heap.size + 1) _ _ ((Q1.out.set 0 (.int .u64 (l : Int))).set 1 (.int .u64 (u : Int))) 2 _ (.int .i64 0) rfl rfl Try.underlying24 (by kernel_rfl) rfl) rfl ⟨rfl, (B1.out.setCell (p := ⟨w.heap.size + 1, 0, none⟩) (by simp) _).setCell (p := ⟨w.heap.size + 1, 1, none⟩) (by simp) _⟩
    · have E0 : raiseE l u n = 1 := if_neg (fun q => h3 q.2)
      rw [show raiseO l u n = (0, 0) from if_neg (by rw [E0]; decide), E0]
      clear E0 hg LC2
      go_enter Try.func9, Try.ntmps9
      go_wp2_with fail
      refine (MC.out (two2 w (crd (l, u)) 24)).mono ?_
      rintro e1 w1 ⟨rfl, hb1⟩
      rw [SZ.out] at hb1
      have r1 := R.out.below hb1 (by omega)
      have q1 := Q.out.below hb1 (by omega)
      have b1 := B.out.trans (hb1.mono (by omega))
      have d01 : w1.cell? ⟨w.heap.size, 0, none⟩ = some (.int .u64 (l : Int)) := r1.cell 0
      have d11 : w1.cell? ⟨w.heap.size, 1, none⟩ = some (.int .u64 (u : Int)) := r1.cell 1
      have x01 : w1.cell? ⟨w.heap.size + 1, 0, none⟩ = some (.int .u64 0) := q1.cell 0
      have x11 : w1.cell? ⟨w.heap.size + 1, 1, none⟩ = some (.int .u64 0) := q1.cell 1
      have f01 := q1.frozen 0
      have f11 := q1.frozen 1
      have R1 := veil r1
      have Q1 := veil q1
      have B1 := veil b1
      clear r1 q1 b1
      clear hb1 c0 c1 MC LC
      go_wp2_with fail
      exact bodyPost_ret (result_two rfl _ _ (w.heap.size + 1) _ _ ((Q1.out.set 0 (.int .u64 0)).set 1 (.int .u64 0)) 2 _ (.int .i64 1) rfl rfl Try.underlying24 (by kernel_rfl) rfl) rfl ⟨rfl, (B1.out.setCell (p := ⟨w.heap.size + 1, 0, none⟩) (by simp) _).setCell (p := ⟨w.heap.size + 1, 1, none⟩) (by simp) _⟩

set_option maxRecDepth 20000 in
set_option maxHeartbeats 1000000 in
theorem came_any (l u n : Nat) (w : World) (hn : n < 18446744073709551616) :
    Calls Try.prog 10 #[.agg (crd (l, u)), .int .u64 (n : Int)] w fun e w' => e = .returned (.tuple #[.agg (crd (cameO l u n)), .int .i64 (cameE l u n)]) ∧ Below w.heap.size w w' := by
  have r : Row (two2 w (crd (l, u)) 24) w.heap.size 24 (crd (l, u)) := (Row.new _ _ _).alloc _
  have q : Row (two2 w (crd (l, u)) 24) (w.heap.size + 1) 24 #[.int .u64 0, .int .u64 0] := Row.new1 _ _ _ _
  have b : Below w.heap.size w (two2 w (crd (l, u)) 24) := ((Below.refl w.heap.size w).alloc (Nat.le_refl _) _).alloc (by simp) _
  have sz : (two2 w (crd (l, u)) 24).heap.size = w.heap.size + 2 := by simp [two2]
  have R := veil r
  have Q := veil q
  have B := veil b
  have SZ := veil sz
  have c0 : (two2 w (crd (l, u)) 24).cell? ⟨w.heap.size, 0, none⟩ = some (.int .u64 (l : Int)) := r.cell 0
  have c1 : (two2 w (crd (l, u)) 24).cell? ⟨w.heap.size, 1, none⟩ = some (.int .u64 (u : Int)) := r.cell 1
  clear r q b sz
  unfold two2 at c0 c1
  have MC := veil (fun w => mayBe_any l u w)
  have LC := veil (fun w => left_any l u w)
  have hm := @mayC_out l u
  cases hg : mayC l u
  · rw [show cameE l u n = 1 from if_neg (fun q => by rw [hg] at q; cases q.1), show cameO l u n = (0, 0) from if_neg (by rw [show cameE l u n = 1 from if_neg (fun q => by rw [hg] at q; cases q.1)]; decide)]
    rw [hg] at MC
    clear hm hg
    go_enter Try.func10, Try.ntmps10
    go_wp2_with fail
    refine (MC.out (two2 w (crd (l, u)) 24)).mono ?_
    rintro e1 w1 ⟨rfl, hb1⟩
    rw [SZ.out] at hb1
    have r1 := R.out.below hb1 (by omega)
    have q1 := Q.out.below hb1 (by omega)
    have b1 := B.out.trans (hb1.mono (by omega))
    have d01 : w1.cell? ⟨w.heap.size, 0, none⟩ = some (.int .u64 (l : Int)) := r1.cell 0
    have d11 : w1.cell? ⟨w.heap.size, 1, none⟩ = some (.int .u64 (u : Int)) := r1.cell 1
    have x01 : w1.cell? ⟨w.heap.size + 1, 0, none⟩ = some (.int .u64 0) := q1.cell 0
    have x11 : w1.cell? ⟨w.heap.size + 1, 1, none⟩ = some (.int .u64 0) := q1.cell 1
    have f01 := q1.frozen 0
    have f11 := q1.frozen 1
    have R1 := veil r1
    have Q1 := veil q1
    have B1 := veil b1
    clear r1 q1 b1
    clear hb1 c0 c1 MC LC
    go_wp2_with fail
    exact bodyPost_ret (result_two rfl _ _ (w.heap.size + 1) _ _ ((Q1.out.set 0 (.int .u64 0)).set 1 (.int .u64 0)) 2 _ (.int .i64 1) rfl rfl Try.underlying24 (by kernel_rfl) rfl) rfl ⟨rfl, (B1.out.setCell (p := ⟨w.heap.size + 1, 0, none⟩) (by simp) _).setCell (p := ⟨w.heap.size + 1, 1, none⟩) (by simp) _⟩
  · obtain ⟨h1, h2⟩ := hm hg
    have LC2 := veil hg
    rw [hg] at MC
    clear hm
    by_cases h3 : n ≤ 4611686018427387903
    · have E0 : cameE l u n = _ := if_pos ⟨hg, h3⟩
      clear hg
      clear LC2
      by_cases h4 : n ≤ l
      · rw [if_pos h4] at E0
        rw [show cameO l u n = (l, Nat.max u n) from if_pos E0, E0]
        clear E0
        by_cases h5 : u < n
        · rw [show Nat.max u n = n from Nat.max_eq_right (by omega)]
          go_enter Try.func10, Try.ntmps10
          go_wp2_with fail
          refine (MC.out (two2 w (crd (l, u)) 24)).mono ?_
          rintro e1 w1 ⟨rfl, hb1⟩
          rw [SZ.out] at hb1
          have r1 := R.out.below hb1 (by omega)
          have q1 := Q.out.below hb1 (by omega)
          have b1 := B.out.trans (hb1.mono (by omega))
          have d01 : w1.cell? ⟨w.heap.size, 0, none⟩ = some (.int .u64 (l : Int)) := r1.cell 0
          have d11 : w1.cell? ⟨w.heap.size, 1, none⟩ = some (.int .u64 (u : Int)) := r1.cell 1
          have x01 : w1.cell? ⟨w.heap.size + 1, 0, none⟩ = some (.int .u64 0) := q1.cell 0
          have x11 : w1.cell? ⟨w.heap.size + 1, 1, none⟩ = some (.int .u64 0) := q1.cell 1
          have f01 := q1.frozen 0
          have f11 := q1.frozen 1
          have R1 := veil r1
          have Q1 := veil q1
          have B1 := veil b1
          clear r1 q1 b1
          clear hb1 c0 c1 MC LC
          go_wp2_with fail
          exact bodyPost_ret (result_two rfl _ _ (w.heap.size + 1) _ _ ((Q1.out.set 0 (.int .u64 (l : Int))).set 1 (.int .u64 (n : Int))) 2 _ (.int .i64 0) rfl rfl Try.underlying24 (by kernel_rfl) rfl) rfl ⟨rfl, (B1.out.setCell (p := ⟨w.heap.size + 1, 0, none⟩) (by simp) _).setCell (p := ⟨w.heap.size + 1, 1, none⟩) (by simp) _⟩
        · rw [show Nat.max u n = u from Nat.max_eq_left (by omega)]
          go_enter Try.func10, Try.ntmps10
          go_wp2_with fail
          refine (MC.out (two2 w (crd (l, u)) 24)).mono ?_
          rintro e1 w1 ⟨rfl, hb1⟩
          rw [SZ.out] at hb1
          have r1 := R.out.below hb1 (by omega)
          have q1 := Q.out.below hb1 (by omega)
          have b1 := B.out.trans (hb1.mono (by omega))
          have d01 : w1.cell? ⟨w.heap.size, 0, none⟩ = some (.int .u64 (l : Int)) := r1.cell 0
          have d11 : w1.cell? ⟨w.heap.size, 1, none⟩ = some (.int .u64 (u : Int)) := r1.cell 1
          have x01 : w1.cell? ⟨w.heap.size + 1, 0, none⟩ = some (.int .u64 0) := q1.cell 0
          have x11 : w1.cell? ⟨w.heap.size + 1, 1, none⟩ = some (.int .u64 0) := q1.cell 1
          have f01 := q1.frozen 0
          have f11 := q1.frozen 1
          have R1 := veil r1
          have Q1 := veil q1
          have B1 := veil b1
          clear r1 q1 b1
          clear hb1 c0 c1 MC LC
          go_wp2_with fail
          exact bodyPost_ret (result_two rfl _ _ (w.heap.size + 1) _ _ ((Q1.out.set 0 (.int .u64 (l : Int))).set 1 (.int .u64 (u : Int))) 2 _ (.int .i64 0) rfl rfl Try.underlying24 (by kernel_rfl) rfl) rfl ⟨rfl, (B1.out.setCell (p := ⟨w.heap.size + 1, 0, none⟩) (by simp) _).setCell (p := ⟨w.heap.size + 1, 1, none⟩) (by simp) _⟩
      · rw [if_neg h4] at E0
        rw [show cameO l u n = (0, 0) from if_neg (by rw [E0]; decide), E0]
        clear E0
        go_enter Try.func10, Try.ntmps10
        go_wp2_with fail
        refine (MC.out (two2 w (crd (l, u)) 24)).mono ?_
        rintro e1 w1 ⟨rfl, hb1⟩
        rw [SZ.out] at hb1
        have r1 := R.out.below hb1 (by omega)
        have q1 := Q.out.below hb1 (by omega)
        have b1 := B.out.trans (hb1.mono (by omega))
        have d01 : w1.cell? ⟨w.heap.size, 0, none⟩ = some (.int .u64 (l : Int)) := r1.cell 0
        have d11 : w1.cell? ⟨w.heap.size, 1, none⟩ = some (.int .u64 (u : Int)) := r1.cell 1
        have x01 : w1.cell? ⟨w.heap.size + 1, 0, none⟩ = some (.int .u64 0) := q1.cell 0
        have x11 : w1.cell? ⟨w.heap.size + 1, 1, none⟩ = some (.int .u64 0) := q1.cell 1
        have f01 := q1.frozen 0
        have f11 := q1.frozen 1
        have R1 := veil r1
        have Q1 := veil q1
        have B1 := veil b1
        clear r1 q1 b1
        clear hb1 c0 c1 MC LC
        go_wp2_with fail
        exact bodyPost_ret (result_two rfl _ _ (w.heap.size + 1) _ _ ((Q1.out.set 0 (.int .u64 0)).set 1 (.int .u64 0)) 2 _ (.int .i64 7) rfl rfl Try.underlying24 (by kernel_rfl) rfl) rfl ⟨rfl, (B1.out.setCell (p := ⟨w.heap.size + 1, 0, none⟩) (by simp) _).setCell (p := ⟨w.heap.size + 1, 1, none⟩) (by simp) _⟩
    · have E0 : cameE l u n = 1 := if_neg (fun q => h3 q.2)
      rw [show cameO l u n = (0, 0) from if_neg (by rw [E0]; decide), E0]
      clear E0 hg LC2
      go_enter Try.func10, Try.ntmps10
      go_wp2_with fail
      refine (MC.out (two2 w (crd (l, u)) 24)).mono ?_
      rintro e1 w1 ⟨rfl, hb1⟩
      rw [SZ.out] at hb1
      have r1 := R.out.below hb1 (by omega)
      have q1 := Q.out.below hb1 (by omega)
      have b1 := B.out.trans (hb1.mono (by omega))
      have d01 : w1.cell? ⟨w.heap.size, 0, none⟩ = some (.int .u64 (l : Int)) := r1.cell 0
      have d11 : w1.cell? ⟨w.heap.size, 1, none⟩ = some (.int .u64 (u : Int)) := r1.cell 1
      have x01 : w1.cell? ⟨w.heap.size + 1, 0, none⟩ = some (.int .u64 0) := q1.cell 0
      have x11 : w1.cell? ⟨w.heap.size + 1, 1, none⟩ = some (.int .u64 0) := q1.cell 1
      have f01 := q1.frozen 0
      have f11 := q1.frozen 1
      have R1 := veil r1
      have Q1 := veil q1
      have B1 := veil b1
      clear r1 q1 b1
      clear hb1 c0 c1 MC LC
      go_wp2_with fail
      exact bodyPost_ret (result_two rfl _ _ (w.heap.size + 1) _ _ ((Q1.out.set 0 (.int .u64 0)).set 1 (.int .u64 0)) 2 _ (.int .i64 1) rfl rfl Try.underlying24 (by kernel_rfl) rfl) rfl ⟨rfl, (B1.out.setCell (p := ⟨w.heap.size + 1, 0, none⟩) (by simp) _).setCell (p := ⟨w.heap.size + 1, 1, none⟩) (by simp) _⟩

set_option maxRecDepth 20000 in
set_option maxHeartbeats 1000000 in
theorem refRaise_any (l u n : Nat) (w : World) (hn : n < 18446744073709551616) :
    Calls Try.prog 14 #[.agg (crd (l, u)), .int .u64 (n : Int)] w fun e w' => e = .returned (.tuple #[.agg (crd (raiseO l u n)), .int .i64 (raiseE l u n)]) ∧ Below w.heap.size w w' := by
  have r : Row (two2 w (crd (l, u)) 30) w.heap.size 30 (crd (l, u)) := (Row.new _ _ _).alloc _
  have q : Row (two2 w (crd (l, u)) 30) (w.heap.size + 1) 30 #[.int .u64 0, .int .u64 0] := Row.new1 _ _ _ _
  have b : Below w.heap.size w (two2 w (crd (l, u)) 30) := ((Below.refl w.heap.size w).alloc (Nat.le_refl _) _).alloc (by simp) _
  have sz : (two2 w (crd (l, u)) 30).heap.size = w.heap.size + 2 := by simp [two2]
  have R := veil r
  have Q := veil q
  have B := veil b
  have SZ := veil sz
  have c0 : (two2 w (crd (l, u)) 30).cell? ⟨w.heap.size, 0, none⟩ = some (.int .u64 (l : Int)) := r.cell 0
  have c1 : (two2 w (crd (l, u)) 30).cell? ⟨w.heap.size, 1, none⟩ = some (.int .u64 (u : Int)) := r.cell 1
  clear r q b sz
  unfold two2 at c0 c1
  have MC := veil (fun w => refMay_any l u w)
  have LC := veil (fun w => left_any l u w)
  have hm := @mayC_out l u
  cases hg : mayC l u
  · rw [show raiseE l u n = 1 from if_neg (fun q => by rw [hg] at q; cases q.1), show raiseO l u n = (0, 0) from if_neg (by rw [show raiseE l u n = 1 from if_neg (fun q => by rw [hg] at q; cases q.1)]; decide)]
    rw [hg] at MC
    clear hm hg
    go_enter Try.func14, Try.ntmps14
    go_wp2_with fail
    refine (MC.out (two2 w (crd (l, u)) 30)).mono ?_
    rintro e1 w1 ⟨rfl, hb1⟩
    rw [SZ.out] at hb1
    have r1 := R.out.below hb1 (by omega)
    have q1 := Q.out.below hb1 (by omega)
    have b1 := B.out.trans (hb1.mono (by omega))
    have d01 : w1.cell? ⟨w.heap.size, 0, none⟩ = some (.int .u64 (l : Int)) := r1.cell 0
    have d11 : w1.cell? ⟨w.heap.size, 1, none⟩ = some (.int .u64 (u : Int)) := r1.cell 1
    have x01 : w1.cell? ⟨w.heap.size + 1, 0, none⟩ = some (.int .u64 0) := q1.cell 0
    have x11 : w1.cell? ⟨w.heap.size + 1, 1, none⟩ = some (.int .u64 0) := q1.cell 1
    have f01 := q1.frozen 0
    have f11 := q1.frozen 1
    have R1 := veil r1
    have Q1 := veil q1
    have B1 := veil b1
    clear r1 q1 b1
    clear hb1 c0 c1 MC LC
    go_wp2_with fail
    exact bodyPost_ret (result_two rfl _ _ (w.heap.size + 1) _ _ ((Q1.out.set 0 (.int .u64 0)).set 1 (.int .u64 0)) 2 _ (.int .i64 1) rfl rfl Try.underlying30 (by kernel_rfl) rfl) rfl ⟨rfl, (B1.out.setCell (p := ⟨w.heap.size + 1, 0, none⟩) (by simp) _).setCell (p := ⟨w.heap.size + 1, 1, none⟩) (by simp) _⟩
  · obtain ⟨h1, h2⟩ := hm hg
    have LC2 := veil hg
    rw [hg] at MC
    clear hm
    by_cases h3 : n ≤ 4611686018427387903
    · have E0 : raiseE l u n = _ := if_pos ⟨hg, h3⟩
      clear hg
      clear LC2
      rw [show raiseO l u n = (Nat.max l n, u) from if_pos E0, E0]
      clear E0
      by_cases h5 : l < n
      · rw [show Nat.max l n = n from Nat.max_eq_right (by omega)]
        go_enter Try.func14, Try.ntmps14
        go_wp2_with fail
        refine (MC.out (two2 w (crd (l, u)) 30)).mono ?_
        rintro e1 w1 ⟨rfl, hb1⟩
        rw [SZ.out] at hb1
        have r1 := R.out.below hb1 (by omega)
        have q1 := Q.out.below hb1 (by omega)
        have b1 := B.out.trans (hb1.mono (by omega))
        have d01 : w1.cell? ⟨w.heap.size, 0, none⟩ = some (.int .u64 (l : Int)) := r1.cell 0
        have d11 : w1.cell? ⟨w.heap.size, 1, none⟩ = some (.int .u64 (u : Int)) := r1.cell 1
        have x01 : w1.cell? ⟨w.heap.size + 1, 0, none⟩ = some (.int .u64 0) := q1.cell 0
        have x11 : w1.cell? ⟨w.heap.size + 1, 1, none⟩ = some (.int .u64 0) := q1.cell 1
        have f01 := q1.frozen 0
        have f11 := q1.frozen 1
        have R1 := veil r1
        have Q1 := veil q1
        have B1 := veil b1
        clear r1 q1 b1
        clear hb1 c0 c1 MC LC
        go_wp2_with fail
        exact bodyPost_ret (result_two rfl _ _ (w.heap.size + 1) _ _ ((Q1.out.set 0 (.int .u64 (n : Int))).set 1 (.int .u64 (u : Int))) 2 _ (.int .i64 0) rfl rfl Try.underlying30 (by kernel_rfl) rfl) rfl ⟨rfl, (B1.out.setCell (p := ⟨w.heap.size + 1, 0, none⟩) (by simp) _).setCell (p := ⟨w.heap.size + 1, 1, none⟩) (by simp) _⟩
      · rw [show Nat.max l n = l from Nat.max_eq_left (by omega)]
        go_enter Try.func14, Try.ntmps14
        go_wp2_with fail
        refine (MC.out (two2 w (crd (l, u)) 30)).mono ?_
        rintro e1 w1 ⟨rfl, hb1⟩
        rw [SZ.out] at hb1
        have r1 := R.out.below hb1 (by omega)
        have q1 := Q.out.below hb1 (by omega)
        have b1 := B.out.trans (hb1.mono (by omega))
        have d01 : w1.cell? ⟨w.heap.size, 0, none⟩ = some (.int .u64 (l : Int)) := r1.cell 0
        have d11 : w1.cell? ⟨w.heap.size, 1, none⟩ = some (.int .u64 (u : Int)) := r1.cell 1
        have x01 : w1.cell? ⟨w.heap.size + 1, 0, none⟩ = some (.int .u64 0) := q1.cell 0
        have x11 : w1.cell? ⟨w.heap.size + 1, 1, none⟩ = some (.int .u64 0) := q1.cell 1
        have f01 := q1.frozen 0
        have f11 := q1.frozen 1
        have R1 := veil r1
        have Q1 := veil q1
        have B1 := veil b1
        clear r1 q1 b1
        clear hb1 c0 c1 MC LC
        go_wp2_with fail
        exact bodyPost_ret (result_two rfl _ _ (w.heap.size + 1) _ _ ((Q1.out.set 0 (.int .u64 (l : Int))).set 1 (.int .u64 (u : Int))) 2 _ (.int .i64 0) rfl rfl Try.underlying30 (by kernel_rfl) rfl) rfl ⟨rfl, (B1.out.setCell (p := ⟨w.heap.size + 1, 0, none⟩) (by simp) _).setCell (p := ⟨w.heap.size + 1, 1, none⟩) (by simp) _⟩
    · have E0 : raiseE l u n = 1 := if_neg (fun q => h3 q.2)
      rw [show raiseO l u n = (0, 0) from if_neg (by rw [E0]; decide), E0]
      clear E0 hg LC2
      go_enter Try.func14, Try.ntmps14
      go_wp2_with fail
      refine (MC.out (two2 w (crd (l, u)) 30)).mono ?_
      rintro e1 w1 ⟨rfl, hb1⟩
      rw [SZ.out] at hb1
      have r1 := R.out.below hb1 (by omega)
      have q1 := Q.out.below hb1 (by omega)
      have b1 := B.out.trans (hb1.mono (by omega))
      have d01 : w1.cell? ⟨w.heap.size, 0, none⟩ = some (.int .u64 (l : Int)) := r1.cell 0
      have d11 : w1.cell? ⟨w.heap.size, 1, none⟩ = some (.int .u64 (u : Int)) := r1.cell 1
      have x01 : w1.cell? ⟨w.heap.size + 1, 0, none⟩ = some (.int .u64 0) := q1.cell 0
      have x11 : w1.cell? ⟨w.heap.size + 1, 1, none⟩ = some (.int .u64 0) := q1.cell 1
      have f01 := q1.frozen 0
      have f11 := q1.frozen 1
      have R1 := veil r1
      have Q1 := veil q1
      have B1 := veil b1
      clear r1 q1 b1
      clear hb1 c0 c1 MC LC
      go_wp2_with fail
      exact bodyPost_ret (result_two rfl _ _ (w.heap.size + 1) _ _ ((Q1.out.set 0 (.int .u64 0)).set 1 (.int .u64 0)) 2 _ (.int .i64 1) rfl rfl Try.underlying30 (by kernel_rfl) rfl) rfl ⟨rfl, (B1.out.setCell (p := ⟨w.heap.size + 1, 0, none⟩) (by simp) _).setCell (p := ⟨w.heap.size + 1, 1, none⟩) (by simp) _⟩

set_option maxRecDepth 20000 in
set_option maxHeartbeats 1000000 in
theorem refCame_any (l u n : Nat) (w : World) (hn : n < 18446744073709551616) :
    Calls Try.prog 15 #[.agg (crd (l, u)), .int .u64 (n : Int)] w fun e w' => e = .returned (.tuple #[.agg (crd (cameO l u n)), .int .i64 (cameE l u n)]) ∧ Below w.heap.size w w' := by
  have r : Row (two2 w (crd (l, u)) 30) w.heap.size 30 (crd (l, u)) := (Row.new _ _ _).alloc _
  have q : Row (two2 w (crd (l, u)) 30) (w.heap.size + 1) 30 #[.int .u64 0, .int .u64 0] := Row.new1 _ _ _ _
  have b : Below w.heap.size w (two2 w (crd (l, u)) 30) := ((Below.refl w.heap.size w).alloc (Nat.le_refl _) _).alloc (by simp) _
  have sz : (two2 w (crd (l, u)) 30).heap.size = w.heap.size + 2 := by simp [two2]
  have R := veil r
  have Q := veil q
  have B := veil b
  have SZ := veil sz
  have c0 : (two2 w (crd (l, u)) 30).cell? ⟨w.heap.size, 0, none⟩ = some (.int .u64 (l : Int)) := r.cell 0
  have c1 : (two2 w (crd (l, u)) 30).cell? ⟨w.heap.size, 1, none⟩ = some (.int .u64 (u : Int)) := r.cell 1
  clear r q b sz
  unfold two2 at c0 c1
  have MC := veil (fun w => refMay_any l u w)
  have LC := veil (fun w => left_any l u w)
  have hm := @mayC_out l u
  cases hg : mayC l u
  · rw [show cameE l u n = 1 from if_neg (fun q => by rw [hg] at q; cases q.1), show cameO l u n = (0, 0) from if_neg (by rw [show cameE l u n = 1 from if_neg (fun q => by rw [hg] at q; cases q.1)]; decide)]
    rw [hg] at MC
    clear hm hg
    go_enter Try.func15, Try.ntmps15
    go_wp2_with fail
    refine (MC.out (two2 w (crd (l, u)) 30)).mono ?_
    rintro e1 w1 ⟨rfl, hb1⟩
    rw [SZ.out] at hb1
    have r1 := R.out.below hb1 (by omega)
    have q1 := Q.out.below hb1 (by omega)
    have b1 := B.out.trans (hb1.mono (by omega))
    have d01 : w1.cell? ⟨w.heap.size, 0, none⟩ = some (.int .u64 (l : Int)) := r1.cell 0
    have d11 : w1.cell? ⟨w.heap.size, 1, none⟩ = some (.int .u64 (u : Int)) := r1.cell 1
    have x01 : w1.cell? ⟨w.heap.size + 1, 0, none⟩ = some (.int .u64 0) := q1.cell 0
    have x11 : w1.cell? ⟨w.heap.size + 1, 1, none⟩ = some (.int .u64 0) := q1.cell 1
    have f01 := q1.frozen 0
    have f11 := q1.frozen 1
    have R1 := veil r1
    have Q1 := veil q1
    have B1 := veil b1
    clear r1 q1 b1
    clear hb1 c0 c1 MC LC
    go_wp2_with fail
    exact bodyPost_ret (result_two rfl _ _ (w.heap.size + 1) _ _ ((Q1.out.set 0 (.int .u64 0)).set 1 (.int .u64 0)) 2 _ (.int .i64 1) rfl rfl Try.underlying30 (by kernel_rfl) rfl) rfl ⟨rfl, (B1.out.setCell (p := ⟨w.heap.size + 1, 0, none⟩) (by simp) _).setCell (p := ⟨w.heap.size + 1, 1, none⟩) (by simp) _⟩
  · obtain ⟨h1, h2⟩ := hm hg
    have LC2 := veil hg
    rw [hg] at MC
    clear hm
    by_cases h3 : n ≤ 4611686018427387903
    · have E0 : cameE l u n = _ := if_pos ⟨hg, h3⟩
      clear hg
      clear LC2
      by_cases h4 : n ≤ l
      · rw [if_pos h4] at E0
        rw [show cameO l u n = (l, Nat.max u n) from if_pos E0, E0]
        clear E0
        by_cases h5 : u < n
        · rw [show Nat.max u n = n from Nat.max_eq_right (by omega)]
          go_enter Try.func15, Try.ntmps15
          go_wp2_with fail
          refine (MC.out (two2 w (crd (l, u)) 30)).mono ?_
          rintro e1 w1 ⟨rfl, hb1⟩
          rw [SZ.out] at hb1
          have r1 := R.out.below hb1 (by omega)
          have q1 := Q.out.below hb1 (by omega)
          have b1 := B.out.trans (hb1.mono (by omega))
          have d01 : w1.cell? ⟨w.heap.size, 0, none⟩ = some (.int .u64 (l : Int)) := r1.cell 0
          have d11 : w1.cell? ⟨w.heap.size, 1, none⟩ = some (.int .u64 (u : Int)) := r1.cell 1
          have x01 : w1.cell? ⟨w.heap.size + 1, 0, none⟩ = some (.int .u64 0) := q1.cell 0
          have x11 : w1.cell? ⟨w.heap.size + 1, 1, none⟩ = some (.int .u64 0) := q1.cell 1
          have f01 := q1.frozen 0
          have f11 := q1.frozen 1
          have R1 := veil r1
          have Q1 := veil q1
          have B1 := veil b1
          clear r1 q1 b1
          clear hb1 c0 c1 MC LC
          go_wp2_with fail
          exact bodyPost_ret (result_two rfl _ _ (w.heap.size + 1) _ _ ((Q1.out.set 0 (.int .u64 (l : Int))).set 1 (.int .u64 (n : Int))) 2 _ (.int .i64 0) rfl rfl Try.underlying30 (by kernel_rfl) rfl) rfl ⟨rfl, (B1.out.setCell (p := ⟨w.heap.size + 1, 0, none⟩) (by simp) _).setCell (p := ⟨w.heap.size + 1, 1, none⟩) (by simp) _⟩
        · rw [show Nat.max u n = u from Nat.max_eq_left (by omega)]
          go_enter Try.func15, Try.ntmps15
          go_wp2_with fail
          refine (MC.out (two2 w (crd (l, u)) 30)).mono ?_
          rintro e1 w1 ⟨rfl, hb1⟩
          rw [SZ.out] at hb1
          have r1 := R.out.below hb1 (by omega)
          have q1 := Q.out.below hb1 (by omega)
          have b1 := B.out.trans (hb1.mono (by omega))
          have d01 : w1.cell? ⟨w.heap.size, 0, none⟩ = some (.int .u64 (l : Int)) := r1.cell 0
          have d11 : w1.cell? ⟨w.heap.size, 1, none⟩ = some (.int .u64 (u : Int)) := r1.cell 1
          have x01 : w1.cell? ⟨w.heap.size + 1, 0, none⟩ = some (.int .u64 0) := q1.cell 0
          have x11 : w1.cell? ⟨w.heap.size + 1, 1, none⟩ = some (.int .u64 0) := q1.cell 1
          have f01 := q1.frozen 0
          have f11 := q1.frozen 1
          have R1 := veil r1
          have Q1 := veil q1
          have B1 := veil b1
          clear r1 q1 b1
          clear hb1 c0 c1 MC LC
          go_wp2_with fail
          exact bodyPost_ret (result_two rfl _ _ (w.heap.size + 1) _ _ ((Q1.out.set 0 (.int .u64 (l : Int))).set 1 (.int .u64 (u : Int))) 2 _ (.int .i64 0) rfl rfl Try.underlying30 (by kernel_rfl) rfl) rfl ⟨rfl, (B1.out.setCell (p := ⟨w.heap.size + 1, 0, none⟩) (by simp) _).setCell (p := ⟨w.heap.size + 1, 1, none⟩) (by simp) _⟩
      · rw [if_neg h4] at E0
        rw [show cameO l u n = (0, 0) from if_neg (by rw [E0]; decide), E0]
        clear E0
        go_enter Try.func15, Try.ntmps15
        go_wp2_with fail
        refine (MC.out (two2 w (crd (l, u)) 30)).mono ?_
        rintro e1 w1 ⟨rfl, hb1⟩
        rw [SZ.out] at hb1
        have r1 := R.out.below hb1 (by omega)
        have q1 := Q.out.below hb1 (by omega)
        have b1 := B.out.trans (hb1.mono (by omega))
        have d01 : w1.cell? ⟨w.heap.size, 0, none⟩ = some (.int .u64 (l : Int)) := r1.cell 0
        have d11 : w1.cell? ⟨w.heap.size, 1, none⟩ = some (.int .u64 (u : Int)) := r1.cell 1
        have x01 : w1.cell? ⟨w.heap.size + 1, 0, none⟩ = some (.int .u64 0) := q1.cell 0
        have x11 : w1.cell? ⟨w.heap.size + 1, 1, none⟩ = some (.int .u64 0) := q1.cell 1
        have f01 := q1.frozen 0
        have f11 := q1.frozen 1
        have R1 := veil r1
        have Q1 := veil q1
        have B1 := veil b1
        clear r1 q1 b1
        clear hb1 c0 c1 MC LC
        go_wp2_with fail
        exact bodyPost_ret (result_two rfl _ _ (w.heap.size + 1) _ _ ((Q1.out.set 0 (.int .u64 0)).set 1 (.int .u64 0)) 2 _ (.int .i64 7) rfl rfl Try.underlying30 (by kernel_rfl) rfl) rfl ⟨rfl, (B1.out.setCell (p := ⟨w.heap.size + 1, 0, none⟩) (by simp) _).setCell (p := ⟨w.heap.size + 1, 1, none⟩) (by simp) _⟩
    · have E0 : cameE l u n = 1 := if_neg (fun q => h3 q.2)
      rw [show cameO l u n = (0, 0) from if_neg (by rw [E0]; decide), E0]
      clear E0 hg LC2
      go_enter Try.func15, Try.ntmps15
      go_wp2_with fail
      refine (MC.out (two2 w (crd (l, u)) 30)).mono ?_
      rintro e1 w1 ⟨rfl, hb1⟩
      rw [SZ.out] at hb1
      have r1 := R.out.below hb1 (by omega)
      have q1 := Q.out.below hb1 (by omega)
      have b1 := B.out.trans (hb1.mono (by omega))
      have d01 : w1.cell? ⟨w.heap.size, 0, none⟩ = some (.int .u64 (l : Int)) := r1.cell 0
      have d11 : w1.cell? ⟨w.heap.size, 1, none⟩ = some (.int .u64 (u : Int)) := r1.cell 1
      have x01 : w1.cell? ⟨w.heap.size + 1, 0, none⟩ = some (.int .u64 0) := q1.cell 0
      have x11 : w1.cell? ⟨w.heap.size + 1, 1, none⟩ = some (.int .u64 0) := q1.cell 1
      have f01 := q1.frozen 0
      have f11 := q1.frozen 1
      have R1 := veil r1
      have Q1 := veil q1
      have B1 := veil b1
      clear r1 q1 b1
      clear hb1 c0 c1 MC LC
      go_wp2_with fail
      exact bodyPost_ret (result_two rfl _ _ (w.heap.size + 1) _ _ ((Q1.out.set 0 (.int .u64 0)).set 1 (.int .u64 0)) 2 _ (.int .i64 1) rfl rfl Try.underlying30 (by kernel_rfl) rfl) rfl ⟨rfl, (B1.out.setCell (p := ⟨w.heap.size + 1, 0, none⟩) (by simp) _).setCell (p := ⟨w.heap.size + 1, 1, none⟩) (by simp) _⟩
end Go.Proofs.Ytepkajaallcnmaa

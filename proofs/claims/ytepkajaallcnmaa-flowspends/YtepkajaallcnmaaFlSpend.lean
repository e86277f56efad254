/-
  Written by mkfl.py: what flow.Spend and the document's answer.
-/
import Derived.Test.YtepkajaallcnmaaFlMay
namespace Go.Proofs.Ytepkajaallcnmaa
open Go Go.RowKit

/-- A structure of two numbers is handed back, with a second result. -/
theorem result_two {P : Program} {fn : Func} {p q : Tmp} {ty : TypeId} (h : fn.results = #[.cell p ty, .tmp q]) (tmps : Array Value) (w : World) (g : Nat) (t : TypeId) (cs : Array Value) (hg : Row w g t cs) (n : Nat) (fs : Array Field) (v : Value)
    (hp : tmps.getD p undef = .pointer (some ⟨g, 0, none⟩)) (hq : tmps.getD q undef = v) (hu : P.underlying ty = some (.struct fs)) (hi : (P.info? ty).map (·.size) = some n) (hc : cs.size = n) :
    (results fn tmps).run P w = .ok (.tuple #[.agg cs, v]) w := by
  rw [results_cell_tmp h, hp, hq]
  simp [asAddr, Result.andThen, run_loadVar_row w g t ty cs (0, 0) _ hg hu rfl (by rw [hc]; exact hi)]
/-- A structure that came in, and room for one that is answered. -/
def two2 (w : World) (cs : Array Value) (t : TypeId) : World := (w.alloc (.cells cs t)).alloc (.cells #[.int .u64 0, .int .u64 0] t)

set_option maxRecDepth 20000 in
set_option maxHeartbeats 1000000 in
theorem spend_any (l u n : Nat) (w : World) (hn : n < 18446744073709551616) :
    Calls Try.prog 8 #[.agg (crd (l, u)), .int .u64 (n : Int)] w fun e w' => e = .returned (.tuple #[.agg (crd (spendO l u n)), .int .i64 (spendE l u n)]) ∧ Below w.heap.size w w' := by
  have r : Row (two2 w (crd (l, u)) 24) w.heap.size 24 (crd (l, u)) := (Row.new _ _ _).alloc _
  have q : Row (two2 w (crd (l, u)) 24) (w.heap.size + 1) 24 #[.int .u64 0, .int .u64 0] := Row.new1 _ _ _ _
  have b : Below w.heap.size w (two2 w (crd (l, u)) 24) := ((Below.refl w.heap.size w).alloc (Nat.le_refl _) _).alloc (by simp) _
  have sz : (two2 w (crd (l, u)) 24).heap.size = w.heap.size + 2 := by simp [two2]
  have R := veil r
  have Q := veil q
  have B := veil b
  have SZ := veil sz
  have c0 : (two2 w (crd (l, u)) 24).cell? ⟨w.heap.size, 0, none⟩ = some (.int .u64 (l : Int)) := r.cell 0
  have c1 : (two2 w (crd (l, u)) 24).cell? ⟨w.heap.size, 1, none⟩ = some (.int .u64 (u : Int)) := r.cell 1
  clear r q b sz
  unfold two2 at c0 c1
  have MC := veil (fun w => mayBe_any l u w)
  have LC := veil (fun w => left_any l u w)
  have hm := @mayC_out l u
  cases hg : mayC l u
  · rw [show spendE l u n = 1 from if_neg (fun q => by rw [hg] at q; cases q.1), show spendO l u n = (0, 0) from if_neg (by rw [show spendE l u n = 1 from if_neg (fun q => by rw [hg] at q; cases q.1)]; decide)]
    rw [hg] at MC
    clear hm hg
    go_enter Try.func8, Try.ntmps8
    go_wp2_with fail
    refine (MC.out (two2 w (crd (l, u)) 24)).mono ?_
    rintro e1 w1 ⟨rfl, hb1⟩
    rw [SZ.out] at hb1
    have r1 := R.out.below hb1 (by omega)
    have q1 := Q.out.below hb1 (by omega)
    have b1 := B.out.trans (hb1.mono (by omega))
    have d01 : w1.cell? ⟨w.heap.size, 0, none⟩ = some (.int .u64 (l : Int)) := r1.cell 0
    have d11 : w1.cell? ⟨w.heap.size, 1, none⟩ = some (.int .u64 (u : Int)) := r1.cell 1
    have x01 : w1.cell? ⟨w.heap.size + 1, 0, none⟩ = some (.int .u64 0) := q1.cell 0
    have x11 : w1.cell? ⟨w.heap.size + 1, 1, none⟩ = some (.int .u64 0) := q1.cell 1
    have f01 := q1.frozen 0
    have f11 := q1.frozen 1
    have R1 := veil r1
    have Q1 := veil q1
    have B1 := veil b1
    clear r1 q1 b1
    clear hb1 c0 c1 MC LC
    go_wp2_with fail
    exact bodyPost_ret (result_two rfl _ _ (w.heap.size + 1) _ _ ((Q1.out.set 0 (.int .u64 0)).set 1 (.int .u64 0)) 2 _ (.int .i64 1) rfl rfl Try.underlying24 (by kernel_rfl) rfl) rfl ⟨rfl, (B1.out.setCell (p := ⟨w.heap.size + 1, 0, none⟩) (by simp) _).setCell (p := ⟨w.heap.size + 1, 1, none⟩) (by simp) _⟩
  · obtain ⟨h1, h2⟩ := hm hg
    have LC2 := veil hg
    rw [hg] at MC
    clear hm
    by_cases h3 : n ≤ 4611686018427387903
    · have E0 : spendE l u n = _ := if_pos ⟨hg, h3⟩
      clear hg
      clear LC2
      have hL : leftC l u = l - u := if_pos (mayC_yes h1 h2)
      obtain ⟨k, hk0⟩ : ∃ k, l - u = k := ⟨_, rfl⟩
      have hk : (l : Int) - (u : Int) = (k : Int) := by omega
      have hk2 : k ≤ 4611686018427387903 := by omega
      rw [hL, hk0] at LC
      rw [hk0] at E0
      clear hL
      by_cases h4 : n ≤ k
      · rw [if_pos h4] at E0
        rw [show spendO l u n = (l, u + n) from if_pos E0, E0]
        have h5 : u + n ≤ 4611686018427387903 := by omega
        clear E0 hk0
        go_enter Try.func8, Try.ntmps8
        go_wp2_with fail
        refine (MC.out (two2 w (crd (l, u)) 24)).mono ?_
        rintro e1 w1 ⟨rfl, hb1⟩
        rw [SZ.out] at hb1
        have r1 := R.out.below hb1 (by omega)
        have q1 := Q.out.below hb1 (by omega)
        have b1 := B.out.trans (hb1.mono (by omega))
        have d01 : w1.cell? ⟨w.heap.size, 0, none⟩ = some (.int .u64 (l : Int)) := r1.cell 0
        have d11 : w1.cell? ⟨w.heap.size, 1, none⟩ = some (.int .u64 (u : Int)) := r1.cell 1
        have x01 : w1.cell? ⟨w.heap.size + 1, 0, none⟩ = some (.int .u64 0) := q1.cell 0
        have x11 : w1.cell? ⟨w.heap.size + 1, 1, none⟩ = some (.int .u64 0) := q1.cell 1
        have f01 := q1.frozen 0
        have f11 := q1.frozen 1
        have R1 := veil r1
        have Q1 := veil q1
        have B1 := veil b1
        clear r1 q1 b1
        have HB1 := veil hb1
        clear hb1 c0 c1 MC
        go_wp2_with fail
        refine (LC.out w1).mono ?_
        rintro e2 w2 ⟨rfl, hb2⟩
        have hz : w.heap.size + 2 ≤ w1.heap.size := by have := HB1.out.size; rw [SZ.out] at this; exact this
        have r2 := R1.out.below hb2 (by omega)
        have q2 := Q1.out.below hb2 (by omega)
        have b2 := B1.out.trans (hb2.mono (by omega))
        clear d01 d11 x01 x11 f01 f11 hz
        have d02 : w2.cell? ⟨w.heap.size, 0, none⟩ = some (.int .u64 (l : Int)) := r2.cell 0
        have d12 : w2.cell? ⟨w.heap.size, 1, none⟩ = some (.int .u64 (u : Int)) := r2.cell 1
        have x02 : w2.cell? ⟨w.heap.size + 1, 0, none⟩ = some (.int .u64 0) := q2.cell 0
        have x12 : w2.cell? ⟨w.heap.size + 1, 1, none⟩ = some (.int .u64 0) := q2.cell 1
        have f02 := q2.frozen 0
        have f12 := q2.frozen 1
        have R2 := veil r2
        have Q2 := veil q2
        have B2 := veil b2
        clear r2 q2 b2
        clear hb2 LC
        go_wp2_with fail
        exact bodyPost_ret (result_two rfl _ _ (w.heap.size + 1) _ _ ((Q2.out.set 0 (.int .u64 (l : Int))).set 1 (.int .u64 ((u : Int) + (n : Int)))) 2 _ (.int .i64 0) rfl rfl Try.underlying24 (by kernel_rfl) rfl) rfl ⟨rfl, (B2.out.setCell (p := ⟨w.heap.size + 1, 0, none⟩) (by simp) _).setCell (p := ⟨w.heap.size + 1, 1, none⟩) (by simp) _⟩
      · rw [if_neg h4] at E0
        rw [show spendO l u n = (0, 0) from if_neg (by rw [E0]; decide), E0]
        clear E0 hk0
        go_enter Try.func8, Try.ntmps8
        go_wp2_with fail
        refine (MC.out (two2 w (crd (l, u)) 24)).mono ?_
        rintro e1 w1 ⟨rfl, hb1⟩
        rw [SZ.out] at hb1
        have r1 := R.out.below hb1 (by omega)
        have q1 := Q.out.below hb1 (by omega)
        have b1 := B.out.trans (hb1.mono (by omega))
        have d01 : w1.cell? ⟨w.heap.size, 0, none⟩ = some (.int .u64 (l : Int)) := r1.cell 0
        have d11 : w1.cell? ⟨w.heap.size, 1, none⟩ = some (.int .u64 (u : Int)) := r1.cell 1
        have x01 : w1.cell? ⟨w.heap.size + 1, 0, none⟩ = some (.int .u64 0) := q1.cell 0
        have x11 : w1.cell? ⟨w.heap.size + 1, 1, none⟩ = some (.int .u64 0) := q1.cell 1
        have f01 := q1.frozen 0
        have f11 := q1.frozen 1
        have R1 := veil r1
        have Q1 := veil q1
        have B1 := veil b1
        clear r1 q1 b1
        have HB1 := veil hb1
        clear hb1 c0 c1 MC
        go_wp2_with fail
        refine (LC.out w1).mono ?_
        rintro e2 w2 ⟨rfl, hb2⟩
        have hz : w.heap.size + 2 ≤ w1.heap.size := by have := HB1.out.size; rw [SZ.out] at this; exact this
        have r2 := R1.out.below hb2 (by omega)
        have q2 := Q1.out.below hb2 (by omega)
        have b2 := B1.out.trans (hb2.mono (by omega))
        clear d01 d11 x01 x11 f01 f11 hz
        have d02 : w2.cell? ⟨w.heap.size, 0, none⟩ = some (.int .u64 (l : Int)) := r2.cell 0
        have d12 : w2.cell? ⟨w.heap.size, 1, none⟩ = some (.int .u64 (u : Int)) := r2.cell 1
        have x02 : w2.cell? ⟨w.heap.size + 1, 0, none⟩ = some (.int .u64 0) := q2.cell 0
        have x12 : w2.cell? ⟨w.heap.size + 1, 1, none⟩ = some (.int .u64 0) := q2.cell 1
        have f02 := q2.frozen 0
        have f12 := q2.frozen 1
        have R2 := veil r2
        have Q2 := veil q2
        have B2 := veil b2
        clear r2 q2 b2
        clear hb2 LC
        go_wp2_with fail
        exact bodyPost_ret (result_two rfl _ _ (w.heap.size + 1) _ _ ((Q2.out.set 0 (.int .u64 0)).set 1 (.int .u64 0)) 2 _ (.int .i64 7) rfl rfl Try.underlying24 (by kernel_rfl) rfl) rfl ⟨rfl, (B2.out.setCell (p := ⟨w.heap.size + 1, 0, none⟩) (by simp) _).setCell (p := ⟨w.heap.size + 1, 1, none⟩) (by simp) _⟩
    · have E0 : spendE l u n = 1 := if_neg (fun q => h3 q.2)
      rw [show spendO l u n = (0, 0) from if_neg (by rw [E0]; decide), E0]
      clear E0 hg LC2
      go_enter Try.func8, Try.ntmps8
      go_wp2_with fail
      refine (MC.out (two2 w (crd (l, u)) 24)).mono ?_
      rintro e1 w1 ⟨rfl, hb1⟩
      rw [SZ.out] at hb1
      have r1 := R.out.below hb1 (by omega)
      have q1 := Q.out.below hb1 (by omega)
      have b1 := B.out.trans (hb1.mono (by omega))
      have d01 : w1.cell? ⟨w.heap.size, 0, none⟩ = some (.int .u64 (l : Int)) := r1.cell 0
      have d11 : w1.cell? ⟨w.heap.size, 1, none⟩ = some (.int .u64 (u : Int)) := r1.cell 1
      have x01 : w1.cell? ⟨w.heap.size + 1, 0, none⟩ = some (.int .u64 0) := q1.cell 0
      have x11 : w1.cell? ⟨w.heap.size + 1, 1, none⟩ = some (.int .u64 0) := q1.cell 1
      have f01 := q1.frozen 0
      have f11 := q1.frozen 1
      have R1 := veil r1
      have Q1 := veil q1
      have B1 := veil b1
      clear r1 q1 b1
      clear hb1 c0 c1 MC LC
      go_wp2_with fail
      exact bodyPost_ret (result_two rfl _ _ (w.heap.size + 1) _ _ ((Q1.out.set 0 (.int .u64 0)).set 1 (.int .u64 0)) 2 _ (.int .i64 1) rfl rfl Try.underlying24 (by kernel_rfl) rfl) rfl ⟨rfl, (B1.out.setCell (p := ⟨w.heap.size + 1, 0, none⟩) (by simp) _).setCell (p := ⟨w.heap.size + 1, 1, none⟩) (by simp) _⟩

set_option maxRecDepth 20000 in
set_option maxHeartbeats 1000000 in
theorem refSpend_any (l u n : Nat) (w : World) (hn : n < 18446744073709551616) :
    Calls Try.prog 12 #[.agg (crd (l, u)), .int .u64 (n : Int)] w fun e w' => e = .returned (.tuple #[.agg (crd (spendO l u n)), .int .i64 (spendE l u n)]) ∧ Below w.heap.size w w' := by
  have r : Row (two2 w (crd (l, u)) 30) w.heap.size 30 (crd (l, u)) := (Row.new _ _ _).alloc _
  have q : Row (two2 w (crd (l, u)) 30) (w.heap.size + 1) 30 #[.int .u64 0, .int .u64 0] := Row.new1 _ _ _ _
  have b : Below w.heap.size w (two2 w (crd (l, u)) 30) := ((Below.refl w.heap.size w).alloc (Nat.le_refl _) _).alloc (by simp) _
  have sz : (two2 w (crd (l, u)) 30).heap.size = w.heap.size + 2 := by simp [two2]
  have R := veil r
  have Q := veil q
  have B := veil b
  have SZ := veil sz
  have c0 : (two2 w (crd (l, u)) 30).cell? ⟨w.heap.size, 0, none⟩ = some (.int .u64 (l : Int)) := r.cell 0
  have c1 : (two2 w (crd (l, u)) 30).cell? ⟨w.heap.size, 1, none⟩ = some (.int .u64 (u : Int)) := r.cell 1
  clear r q b sz
  unfold two2 at c0 c1
  have MC := veil (fun w => refMay_any l u w)
  have LC := veil (fun w => left_any l u w)
  have hm := @mayC_out l u
  cases hg : mayC l u
  · rw [show spendE l u n = 1 from if_neg (fun q => by rw [hg] at q; cases q.1), show spendO l u n = (0, 0) from if_neg (by rw [show spendE l u n = 1 from if_neg (fun q => by rw [hg] at q; cases q.1)]; decide)]
    rw [hg] at MC
    clear hm hg
    go_enter Try.func12, Try.ntmps12
    go_wp2_with fail
    refine (MC.out (two2 w (crd (l, u)) 30)).mono ?_
    rintro e1 w1 ⟨rfl, hb1⟩
    rw [SZ.out] at hb1
    have r1 := R.out.below hb1 (by omega)
    have q1 := Q.out.below hb1 (by omega)
    have b1 := B.out.trans (hb1.mono (by omega))
    have d01 : w1.cell? ⟨w.heap.size, 0, none⟩ = some (.int .u64 (l : Int)) := r1.cell 0
    have d11 : w1.cell? ⟨w.heap.size, 1, none⟩ = some (.int .u64 (u : Int)) := r1.cell 1
    have x01 : w1.cell? ⟨w.heap.size + 1, 0, none⟩ = some (.int .u64 0) := q1.cell 0
    have x11 : w1.cell? ⟨w.heap.size + 1, 1, none⟩ = some (.int .u64 0) := q1.cell 1
    have f01 := q1.frozen 0
    have f11 := q1.frozen 1
    have R1 := veil r1
    have Q1 := veil q1
    have B1 := veil b1
    clear r1 q1 b1
    clear hb1 c0 c1 MC LC
    go_wp2_with fail
    exact bodyPost_ret (result_two rfl _ _ (w.heap.size + 1) _ _ ((Q1.out.set 0 (.int .u64 0)).set 1 (.int .u64 0)) 2 _ (.int .i64 1) rfl rfl Try.underlying30 (by kernel_rfl) rfl) rfl ⟨rfl, (B1.out.setCell (p := ⟨w.heap.size + 1, 0, none⟩) (by simp) _).setCell (p := ⟨w.heap.size + 1, 1, none⟩) (by simp) _⟩
  · obtain ⟨h1, h2⟩ := hm hg
    have LC2 := veil hg
    rw [hg] at MC
    clear hm
    by_cases h3 : n ≤ 4611686018427387903
    · have E0 : spendE l u n = _ := if_pos ⟨hg, h3⟩
      clear hg
      clear LC2
      have hL : leftC l u = l - u := if_pos (mayC_yes h1 h2)
      obtain ⟨k, hk0⟩ : ∃ k, l - u = k := ⟨_, rfl⟩
      have hk : (l : Int) - (u : Int) = (k : Int) := by omega
      have hk2 : k ≤ 4611686018427387903 := by omega
      rw [hL, hk0] at LC
      rw [hk0] at E0
      clear hL
      by_cases h4 : n ≤ k
      · rw [if_pos h4] at E0
        rw [show spendO l u n = (l, u + n) from if_pos E0, E0]
        have h5 : u + n ≤ 4611686018427387903 := by omega
        clear E0 hk0
        go_enter Try.func12, Try.ntmps12
        go_wp2_with fail
        refine (MC.out (two2 w (crd (l, u)) 30)).mono ?_
        rintro e1 w1 ⟨rfl, hb1⟩
        rw [SZ.out] at hb1
        have r1 := R.out.below hb1 (by omega)
        have q1 := Q.out.below hb1 (by omega)
        have b1 := B.out.trans (hb1.mono (by omega))
        have d01 : w1.cell? ⟨w.heap.size, 0, none⟩ = some (.int .u64 (l : Int)) := r1.cell 0
        have d11 : w1.cell? ⟨w.heap.size, 1, none⟩ = some (.int .u64 (u : Int)) := r1.cell 1
        have x01 : w1.cell? ⟨w.heap.size + 1, 0, none⟩ = some (.int .u64 0) := q1.cell 0
        have x11 : w1.cell? ⟨w.heap.size + 1, 1, none⟩ = some (.int .u64 0) := q1.cell 1
        have f01 := q1.frozen 0
        have f11 := q1.frozen 1
        have R1 := veil r1
        have Q1 := veil q1
        have B1 := veil b1
        clear r1 q1 b1
        clear hb1 c0 c1 MC LC
        go_wp2_with fail
        exact bodyPost_ret (result_two rfl _ _ (w.heap.size + 1) _ _ ((Q1.out.set 0 (.int .u64 (l : Int))).set 1 (.int .u64 ((u : Int) + (n : Int)))) 2 _ (.int .i64 0) rfl rfl Try.underlying30 (by kernel_rfl) rfl) rfl ⟨rfl, (B1.out.setCell (p := ⟨w.heap.size + 1, 0, none⟩) (by simp) _).setCell (p := ⟨w.heap.size + 1, 1, none⟩) (by simp) _⟩
      · rw [if_neg h4] at E0
        rw [show spendO l u n = (0, 0) from if_neg (by rw [E0]; decide), E0]
        clear E0 hk0
        go_enter Try.func12, Try.ntmps12
        go_wp2_with fail
        refine (MC.out (two2 w (crd (l, u)) 30)).mono ?_
        rintro e1 w1 ⟨rfl, hb1⟩
        rw [SZ.out] at hb1
        have r1 := R.out.below hb1 (by omega)
        have q1 := Q.out.below hb1 (by omega)
        have b1 := B.out.trans (hb1.mono (by omega))
        have d01 : w1.cell? ⟨w.heap.size, 0, none⟩ = some (.int .u64 (l : Int)) := r1.cell 0
        have d11 : w1.cell? ⟨w.heap.size, 1, none⟩ = some (.int .u64 (u : Int)) := r1.cell 1
        have x01 : w1.cell? ⟨w.heap.size + 1, 0, none⟩ = some (.int .u64 0) := q1.cell 0
        have x11 : w1.cell? ⟨w.heap.size + 1, 1, none⟩ = some (.int .u64 0) := q1.cell 1
        have f01 := q1.frozen 0
        have f11 := q1.frozen 1
        have R1 := veil r1
        have Q1 := veil q1
        have B1 := veil b1
        clear r1 q1 b1
        clear hb1 c0 c1 MC LC
        go_wp2_with fail
        exact bodyPost_ret (result_two rfl _ _ (w.heap.size + 1) _ _ ((Q1.out.set 0 (.int .u64 0)).set 1 (.int .u64 0)) 2 _ (.int .i64 7) rfl rfl Try.underlying30 (by kernel_rfl) rfl) rfl ⟨rfl, (B1.out.setCell (p := ⟨w.heap.size + 1, 0, none⟩) (by simp) _).setCell (p := ⟨w.heap.size + 1, 1, none⟩) (by simp) _⟩
    · have E0 : spendE l u n = 1 := if_neg (fun q => h3 q.2)
      rw [show spendO l u n = (0, 0) from if_neg (by rw [E0]; decide), E0]
      clear E0 hg LC2
      go_enter Try.func12, Try.ntmps12
      go_wp2_with fail
      refine (MC.out (two2 w (crd (l, u)) 30)).mono ?_
      rintro e1 w1 ⟨rfl, hb1⟩
      rw [SZ.out] at hb1
      have r1 := R.out.below hb1 (by omega)
      have q1 := Q.out.below hb1 (by omega)
      have b1 := B.out.trans (hb1.mono (by omega))
      have d01 : w1.cell? ⟨w.heap.size, 0, none⟩ = some (.int .u64 (l : Int)) := r1.cell 0
      have d11 : w1.cell? ⟨w.heap.size, 1, none⟩ = some (.int .u64 (u : Int)) := r1.cell 1
      have x01 : w1.cell? ⟨w.heap.size + 1, 0, none⟩ = some (.int .u64 0) := q1.cell 0
      have x11 : w1.cell? ⟨w.heap.size + 1, 1, none⟩ = some (.int .u64 0) := q1.cell 1
      have f01 := q1.frozen 0
      have f11 := q1.frozen 1
      have R1 := veil r1
      have Q1 := veil q1
      have B1 := veil b1
      clear r1 q1 b1
      clear hb1 c0 c1 MC LC
      go_wp2_with fail
      exact bodyPost_ret (result_two rfl _ _ (w.heap.size + 1) _ _ ((Q1.out.set 0 (.int .u64 0)).set 1 (.int .u64 0)) 2 _ (.int .i64 1) rfl rfl Try.underlying30 (by kernel_rfl) rfl) rfl ⟨rfl, (B1.out.setCell (p := ⟨w.heap.size + 1, 0, none⟩) (by simp) _).setCell (p := ⟨w.heap.size + 1, 1, none⟩) (by simp) _⟩
end Go.Proofs.Ytepkajaallcnmaa

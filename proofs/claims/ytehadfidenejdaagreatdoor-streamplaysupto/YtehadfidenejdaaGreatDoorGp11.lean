/-
  Out of SrRepH, SrRepG, SrRepA, SrNear, SrNearN.
-/
import Derived.Test.YtehadfidenejdaaGreatDoorGp10
import Derived.Deep.RegionHeld3
import Derived.BigRegion

/-! slices.Replace of some runs amid others: more are put in than were there. -/
namespace Go.Proofs.YtehadfidenejdaaGreatDoor
open Go Go.RowKit

namespace Sr
set_option maxHeartbeats 1000000 in
set_option maxRecDepth 20000 in
/-- Some amid others, fewer than what is put in, where there is room. -/
theorem rep_high (w : World) {b o n cap i j : Nat} {l : List (Nat × Nat)} (h : RowO w 77 2 (.slice (some ⟨b, o, none⟩) n cap) n (vr l)) (hl : l.length = n) (hn : n ≤ 1073741824) (hi : i < j) (hj : j < n)
    {sa : Option Addr} {m c : Nat} {vs : List (Nat × Nat)} (hv : VS w b sa m c vs) (hm : m ≤ 1073741824) (hroom : i + m + (n - j) ≤ cap) (hhigh : j < i + m) :
    Calls Tryz.prog 91 #[.slice (some ⟨b, o, none⟩) n cap, .int .i64 (i : Int), .int .i64 (j : Int), .slice sa m c] w fun e w' =>
      ∃ v', e = .returned v' ∧ RowO w' 77 2 v' (i + m + (n - j)) (vr (l.take i ++ vs ++ l.drop j)) ∧ KeepP (fun k => k = b) w w' ∧ v'.ownBlock = some b := by
  have hR : (Tryz.prog.info? 77).map (·.size) = some 2 := by kernel_rfl
  obtain ⟨i0, z1, z2, z3, z4⟩ := run_info
  have vs2 := vr_len vs
  rw [hv.len] at vs2
  have hbw : b < w.heap.size := h.lt b rfl
  obtain ⟨B, pre, post, H⟩ := mid_of h hl (Nat.le_of_lt hi) (Nat.le_of_lt hj)
  generalize hA : l.take i = A at H ⊢
  generalize hC : l.drop j = C at H ⊢
  obtain ⟨h0, lA, lB, lC, vA, vB, vC, q1, q3, q4, q5, q6⟩ := H
  obtain ⟨nj, hnj⟩ : ∃ nj, nj = n - j := ⟨_, rfl⟩
  obtain ⟨im, him⟩ : ∃ im, im = i + m := ⟨_, rfl⟩
  obtain ⟨tot, htot⟩ : ∃ tot, tot = im + nj := ⟨_, rfl⟩
  rw [← hnj] at vC lC ⊢
  rw [← him, ← htot]
  have s0 : ∀ W, (Instr.sliceAt 70 (.slice (some ⟨b, o, none⟩) n cap) (some (.int .i64 (i : Int))) (some (.int .i64 (j : Int))) none).run Tryz.prog W = _ := sl_lh 70 b o n cap i j Tryz.underlying70 hR (by omega) (by omega)
  have s1 : ∀ W, (Instr.sliceAt 70 (.slice (some ⟨b, o, none⟩) n cap) none (some (.int .i64 (i : Int))) none).run Tryz.prog W = _ := sl_hi 70 b o n cap i Tryz.underlying70 hR (by omega)
  have s2 : ∀ W, (Instr.sliceAt 70 (.slice (some ⟨b, o, none⟩) n cap) (some (.int .i64 (j : Int))) none none).run Tryz.prog W = .ok (.slice (some ⟨b, cutO o cap j 2, none⟩) nj (cap - j)) W := fun W => by rw [hnj]; exact sl_lo 70 b o n cap j Tryz.underlying70 hR (by omega) (by omega) W
  have n0 : ¬ ((i : Int) = (j : Int)) := by omega
  have n1 : ¬ ((j : Int) = (n : Int)) := by omega
  have w1 : IntKind.i64.wrap ((i : Int) + (m : Int)) = (im : Int) := by rw [IntKind.wrap_i64]; omega
  have w2 : IntKind.i64.wrap ((im : Int) + (nj : Int)) = (tot : Int) := by rw [IntKind.wrap_i64]; omega
  have HVS := veil hv
  have n2 : ¬ ((cap : Int) < (tot : Int)) := by omega
  have n3 : ¬ ((im : Int) ≤ (j : Int)) := by omega
  have s3 : ∀ W, (Instr.sliceAt 70 (.slice (some ⟨b, o, none⟩) n cap) none (some (.int .i64 (tot : Int))) none).run Tryz.prog W = _ := sl_hi 70 b o n cap tot Tryz.underlying70 hR (by omega)
  have s4 : ∀ W, (Instr.sliceAt 70 (.slice (some ⟨b, o, none⟩) tot cap) (some (.int .i64 (i : Int))) none none).run Tryz.prog W = _ := sl_lo 70 b o tot cap i Tryz.underlying70 hR (by omega) (by omega)
  have s5 : ∀ W, (Instr.sliceAt 70 (.slice (some ⟨b, o, none⟩) tot cap) (some (.int .i64 (im : Int))) none none).run Tryz.prog W = _ := sl_lo 70 b o tot cap im Tryz.underlying70 hR (by omega) (by omega)
  have hov : ∀ q, (callFunc 123 #[.slice (some ⟨b, cutO o cap im 2, none⟩) (tot - im) (cap - im), .slice sa m c]).run Tryz.prog (w.drewN q) = .ok (.value (.bool false)) (w.drewN q) := by
    intro q
    have hne := hv.ne
    rcases hv.row.2 with ⟨_, e2⟩ | ⟨vb, vo, vc, cur, e1, e2, _, _, e3, _⟩
    · omega
    · injection e1 with e1 _ e4
      subst e1 e4
      exact apart_run2 (w.drewN q) b _ _ _ vb vo m c _ cur q6 e2 (fun e => hne vb rfl e.symm) (by omega)
  have key : ∀ q, ∃ w1 w2, (Builtin.copy_ #[70, 70] 3 #[.slice (some ⟨b, cutO o cap im 2, none⟩) (tot - im) (cap - im), .slice (some ⟨b, cutO o cap j 2, none⟩) nj (cap - j)]).run Tryz.prog (w.drewN q).drew = .ok (goInt nj) w1 ∧
      (Builtin.copy_ #[70, 69] 3 #[.slice (some ⟨b, cutO o cap i 2, none⟩) (tot - i) (cap - i), .slice sa m c]).run Tryz.prog w1 = .ok (goInt m) w2 ∧
      RowO w2 77 2 (.slice (some ⟨b, o, none⟩) tot cap) tot (vr (A ++ vs ++ C)) ∧ KeepP (fun k => k = b) w w2 := by
    intro q
    have hl1 : (vr A ++ ((vr B ++ vr C ++ post).take (m * 2))).length = im * 2 := by rw [List.length_append, List.length_take, List.length_append, List.length_append, vA, vB, vC]; omega
    obtain ⟨w1, r1, g1, k1⟩ := copy_at (P := Tryz.prog) (w.drewN q).drew 70 70 3 Tryz.underlying70 hR pre (vr A ++ ((vr B ++ vr C ++ post).take (m * 2))) ((vr B ++ vr C ++ post).drop (m * 2)) b o cap im (tot - im) (cap - im) q1 hl1
      (by show w.heap[b]? = _; rw [q6, List.append_assoc pre (_ ++ _), List.append_assoc (vr A), List.take_append_drop, List.append_assoc pre]) (some ⟨b, cutO o cap j 2, none⟩) nj (cap - j) nj (vr C) vC (by omega)
      (by unfold cutO; rw [if_neg (by omega)]; exact src_row (t := 77) (A := pre ++ vr A ++ vr B) (B := vr C) (C := post) (by show w.heap[b]? = _; rw [q6]; simp only [List.append_assoc]) (by rw [List.length_append, List.length_append, q1, vA, vB]; omega)) (by simp only [Nat.min_def]; split <;> omega) (by rw [List.length_drop, List.length_append, List.length_append, vB, vC]; omega) (vr_one _)
    have hv1 : VS w1 b sa m c vs := ((HVS.out.drew q).drew 1).keep k1
    obtain ⟨w2, r2, g2, k2⟩ := copy_at (P := Tryz.prog) w1 70 69 3 Tryz.underlying70 hR pre (vr A) ((vr B ++ vr C ++ post).take (m * 2) ++ (vr C ++ ((vr B ++ vr C ++ post).drop (m * 2)).drop (nj * 2))) b o cap i (tot - i) (cap - i) q1 vA (by rw [g1]; simp only [List.append_assoc]) sa m c m (vr vs) vs2 (by omega) hv1.src (by simp only [Nat.min_def]; split <;> omega) (by rw [List.length_append, List.length_take, List.length_append, List.length_append, vB, vC]; omega) (vr_one _)
    refine ⟨w1, w2, r1, r2, ?_, ?_⟩
    · refine of_blk (pre := pre) (post := ((vr B ++ vr C ++ post).drop (m * 2)).drop (nj * 2)) q1 (by rw [vr_len, List.length_append, List.length_append, lA, HVS.out.len, lC]; omega) (by omega) q4 (by rw [List.length_drop, List.length_drop, List.length_append, List.length_append, vB, vC]; omega) ?_
      rw [g2, vr_cut, List.drop_left' (by rw [List.length_take, List.length_append, List.length_append, vB, vC]; omega)]
      simp only [List.append_assoc]
    · exact (onto (onto (KeepP.of_below (st := fun k => k = b) (below_drewN (Below.refl _ w) q)) (keep_drew (fun _ => False) _) (fun _ _ h => h.elim)) k1 (fun _ _ e => e)).trans k2
  clear hA hC h0 lA lB lC vA vB vC q1 q3 q4 q5 hnj him htot h hl hn hi hj hm vs2 z1 z2 z3 z4 hbw hv q6 hroom hhigh
  go_enter Tryz.func91, Tryz.ntmps91
  go_wp2
  go_quiet (fail)
  obtain ⟨wq, hwq⟩ : ∃ wq, wq = w.drewN nq := ⟨_, rfl⟩
  rw [← hwq]
  obtain ⟨wa, wb, r1, r2, hF, hK⟩ := key nq
  have HOV := veil (hov nq)
  rw [← hwq] at r1 HOV
  have HF := veil hF
  have HK := veil hK
  clear key hov hF hK hwq
  go_wp2_with (simp only [HOV.out])
  go_region_law (refine step_copy_runI rfl _ _ 70 70 rfl _ _ (by kernel_rfl) (by kernel_rfl) r1 ?_)
  go_wp2_with (at_builtin; refine wpList_copy_runI _ rfl _ _ 70 69 rfl _ _ rfl rfl r2 ?_)
  go_ret
  exact ⟨_, rfl, HF.out, HK.out, rfl⟩
end Sr
end Go.Proofs.YtehadfidenejdaaGreatDoor

/-! slices.Replace of some runs amid others: there is no room for what is put in. -/
namespace Go.Proofs.YtehadfidenejdaaGreatDoor
open Go Go.RowKit

namespace Sr
set_option maxHeartbeats 1000000 in
set_option maxRecDepth 20000 in
/-- Some amid others, where there is no room: a new row. -/
theorem rep_grow (w : World) {b o n cap i j : Nat} {l : List (Nat × Nat)} (h : RowO w 77 2 (.slice (some ⟨b, o, none⟩) n cap) n (vr l)) (hl : l.length = n) (hn : n ≤ 1073741824) (hi : i < j) (hj : j < n)
    {sa : Option Addr} {m c : Nat} {vs : List (Nat × Nat)} (hv : VS w b sa m c vs) (hm : m ≤ 1073741824) (hroom : cap < i + m + (n - j)) :
    Calls Tryz.prog 91 #[.slice (some ⟨b, o, none⟩) n cap, .int .i64 (i : Int), .int .i64 (j : Int), .slice sa m c] w fun e w' =>
      ∃ v', e = .returned v' ∧ RowO w' 77 2 v' (i + m + (n - j)) (vr (l.take i ++ vs ++ l.drop j)) ∧ KeepP (fun k => k = b) w w' ∧ v'.ownBlock = some w.heap.size := by
  have hR : (Tryz.prog.info? 77).map (·.size) = some 2 := by kernel_rfl
  obtain ⟨i0, z1, z2, z3, z4⟩ := run_info
  have vs2 := vr_len vs
  rw [hv.len] at vs2
  have hbw : b < w.heap.size := h.lt b rfl
  obtain ⟨B, pre, post, H⟩ := mid_of h hl (Nat.le_of_lt hi) (Nat.le_of_lt hj)
  generalize hA : l.take i = A at H ⊢
  generalize hC : l.drop j = C at H ⊢
  obtain ⟨h0, lA, lB, lC, vA, vB, vC, q1, q3, q4, q5, q6⟩ := H
  obtain ⟨nj, hnj⟩ : ∃ nj, nj = n - j := ⟨_, rfl⟩
  obtain ⟨im, him⟩ : ∃ im, im = i + m := ⟨_, rfl⟩
  obtain ⟨tot, htot⟩ : ∃ tot, tot = im + nj := ⟨_, rfl⟩
  rw [← hnj] at vC lC ⊢
  rw [← him, ← htot]
  have s0 : ∀ W, (Instr.sliceAt 70 (.slice (some ⟨b, o, none⟩) n cap) (some (.int .i64 (i : Int))) (some (.int .i64 (j : Int))) none).run Tryz.prog W = _ := sl_lh 70 b o n cap i j Tryz.underlying70 hR (by omega) (by omega)
  have s1 : ∀ W, (Instr.sliceAt 70 (.slice (some ⟨b, o, none⟩) n cap) none (some (.int .i64 (i : Int))) none).run Tryz.prog W = _ := sl_hi 70 b o n cap i Tryz.underlying70 hR (by omega)
  have s2 : ∀ W, (Instr.sliceAt 70 (.slice (some ⟨b, o, none⟩) n cap) (some (.int .i64 (j : Int))) none none).run Tryz.prog W = .ok (.slice (some ⟨b, cutO o cap j 2, none⟩) nj (cap - j)) W := fun W => by rw [hnj]; exact sl_lo 70 b o n cap j Tryz.underlying70 hR (by omega) (by omega) W
  have n0 : ¬ ((i : Int) = (j : Int)) := by omega
  have n1 : ¬ ((j : Int) = (n : Int)) := by omega
  have w1 : IntKind.i64.wrap ((i : Int) + (m : Int)) = (im : Int) := by rw [IntKind.wrap_i64]; omega
  have w2 : IntKind.i64.wrap ((im : Int) + (nj : Int)) = (tot : Int) := by rw [IntKind.wrap_i64]; omega
  have HVS := veil hv
  obtain ⟨nb, hnb⟩ : ∃ nb, nb = w.heap.size := ⟨_, rfl⟩
  rw [← hnb] at hbw ⊢
  have n2 : (cap : Int) < (tot : Int) := by omega
  obtain ⟨kk, hkk⟩ : ∃ kk, kk = tot - i := ⟨_, rfl⟩
  have w3 : IntKind.i64.wrap ((tot : Int) - (i : Int)) = (kk : Int) := by rw [IntKind.wrap_i64]; omega
  have key : ∀ q, ∃ w1 w2 w3 cap', tot ≤ cap' ∧ (Builtin.append_ #[70, 3] 70 #[.slice (some ⟨b, o, none⟩) i cap, .int .i64 (kk : Int)]).run Tryz.prog (w.drewN q) = .ok (.slice (some ⟨nb, 0, none⟩) tot cap') w1 ∧
      (Builtin.copy_ #[70, 69] 3 #[.slice (some ⟨nb, cutO 0 cap' i 2, none⟩) (tot - i) (cap' - i), .slice sa m c]).run Tryz.prog w1 = .ok (goInt m) w2 ∧
      (Builtin.copy_ #[70, 70] 3 #[.slice (some ⟨nb, cutO 0 cap' im 2, none⟩) (tot - im) (cap' - im), .slice (some ⟨b, cutO o cap j 2, none⟩) nj (cap - j)]).run Tryz.prog w2.drew = .ok (goInt nj) w3 ∧
      RowO w3 77 2 (.slice (some ⟨nb, 0, none⟩) tot cap') tot (vr (A ++ vs ++ C)) ∧ KeepP (fun k => k = b) w w3 := by
    intro q
    obtain ⟨w1, Z, cap', r1, c1, c2, g1, c3, k1, u1⟩ := grow_any (P := Tryz.prog) (w.drewN q) 70 3 70 i0 _ .i64 Tryz.underlying70 Tryz.underlying3 z1 z2 z3 rfl (by decide) pre (vr A) (vr B ++ vr C ++ post) b o i cap kk q1 vA q6 (by omega) (by omega) (by unfold maxLen; omega) (by rw [z4]; omega)
    rw [show i + kk = tot by omega] at r1 c1
    rw [show (w.drewN q).heap.size = nb from hnb.symm] at r1 g1 u1
    have b1 : w1.heap[b]? = some (.cells (pre ++ vr A ++ (vr B ++ vr C ++ post)).toArray 77 (0, 0)) := by rw [k1.block b (by show b < w.heap.size; omega) (by simp)]; exact q6
    have hv1 : VS w1 b sa m c vs := (HVS.out.drew q).keep (k1.mono (fun _ h => h.elim))
    obtain ⟨w2, r2, g2, k2⟩ := copy_at (P := Tryz.prog) w1 70 69 3 Tryz.underlying70 hR [] (vr A) Z nb 0 cap' i (tot - i) (cap' - i) rfl vA g1 sa m c m (vr vs) vs2 (by omega) hv1.src (by simp only [Nat.min_def]; split <;> omega) (by omega) (vr_one _)
    have b2 := blk_keep k2 b1 (by omega)
    obtain ⟨w3, r3, g3, k3⟩ := copy_at (P := Tryz.prog) w2.drew 70 70 3 Tryz.underlying70 hR [] (vr A ++ vr vs) (Z.drop (m * 2)) nb 0 cap' im (tot - im) (cap' - im) rfl (by rw [List.length_append, vA, vs2]; omega)
      (by show w2.heap[nb]? = _; rw [g2]; simp only [List.append_assoc, List.nil_append]) (some ⟨b, cutO o cap j 2, none⟩) nj (cap - j) nj (vr C) vC (by omega)
      (by unfold cutO; rw [if_neg (by omega)]; exact src_row (t := 77) (A := pre ++ vr A ++ vr B) (B := vr C) (C := post) (by show w2.heap[b]? = _; rw [b2]; simp only [List.append_assoc]) (by rw [List.length_append, List.length_append, q1, vA, vB]; omega)) (by simp only [Nat.min_def]; split <;> omega) (by rw [List.length_drop]; omega) (vr_one _)
    refine ⟨w1, w2, w3, cap', c1, r1, r2, r3, ?_, ?_⟩
    · refine of_blk (pre := []) (post := (Z.drop (m * 2)).drop (nj * 2)) rfl (by rw [vr_len, List.length_append, List.length_append, lA, HVS.out.len, lC]; omega) c1 c2 (by rw [List.length_drop, List.length_drop]; omega) ?_
      rw [g3, vr_cut]
      simp only [List.append_assoc]
    · exact onto (onto (onto (onto (KeepP.of_below (st := fun k => k = b) (below_drewN (Below.refl _ w) q)) k1 (fun _ _ h => h.elim)) k2 (fun q hq e => by omega)) (keep_drew (fun _ => False) _) (fun _ _ h => h.elim)) k3 (fun q hq e => by omega)
  have HIT := veil (show i ≤ tot ∧ im ≤ tot by omega)
  clear him hA hC h0 lA lB lC vA vB vC q1 q3 q4 q5 hnj htot h hl hn hi hj hm vs2 z1 z2 z3 z4 hbw hv q6 hroom hkk hnb
  go_enter Tryz.func91, Tryz.ntmps91
  go_wp2
  go_quiet (fail)
  obtain ⟨wq, hwq⟩ : ∃ wq, wq = w.drewN nq := ⟨_, rfl⟩
  rw [← hwq]
  obtain ⟨wa, wb, wc, cap', hc', r1, r2, r3, hF, hK⟩ := key nq
  rw [← hwq] at r1
  have s4 : ∀ W, (Instr.sliceAt 70 (.slice (some ⟨nb, 0, none⟩) tot cap') (some (.int .i64 (i : Int))) none none).run Tryz.prog W = _ := sl_lo 70 nb 0 tot cap' i Tryz.underlying70 hR (by have := HIT.out; omega) hc'
  have s5 : ∀ W, (Instr.sliceAt 70 (.slice (some ⟨nb, 0, none⟩) tot cap') (some (.int .i64 (im : Int))) none none).run Tryz.prog W = _ := sl_lo 70 nb 0 tot cap' im Tryz.underlying70 hR (by have := HIT.out; omega) hc'
  have HF := veil hF
  have HK := veil hK
  clear key hF hK hwq hc' HIT
  go_wp2_with (at_builtin; first
    | refine Lib.wpList_append_run _ rfl _ _ _ _ rfl _ _ rfl rfl _ _ r1 ?_
    | refine wpList_copy_runI _ rfl _ _ 70 69 rfl _ _ rfl rfl r2 ?_)
  go_region_law (refine step_copy_runI rfl _ _ 70 70 rfl _ _ (by kernel_rfl) (by kernel_rfl) r3 ?_)
  go_wp2
  go_ret
  exact ⟨_, rfl, HF.out, HK.out, rfl⟩
end Sr
end Go.Proofs.YtehadfidenejdaaGreatDoor

/-! slices.Replace, at any place. -/
namespace Go.Proofs.YtehadfidenejdaaGreatDoor
open Go Go.RowKit

namespace Sr
/-- slices.Replace of some runs: at any place. -/
theorem rep_any (w : World) {v : Value} {n i j : Nat} {l : List (Nat × Nat)} (h : RowO w 77 2 v n (vr l)) (hl : l.length = n) (hn : n ≤ 1073741824) (hi : i < j) (hj : j ≤ n)
    {sa : Option Addr} {m c : Nat} {vs : List (Nat × Nat)} (hlv : vs.length = m) (hv : RowO w 77 2 (.slice sa m c) m (vr vs)) (hne : ∀ k, (Value.slice sa m c).ownBlock = some k → v.ownBlock ≠ some k) (hm : m ≤ 1073741824) :
    Calls Tryz.prog 91 #[v, .int .i64 (i : Int), .int .i64 (j : Int), .slice sa m c] w fun e w' =>
      ∃ v', e = .returned v' ∧ RowO w' 77 2 v' (i + m + (n - j)) (vr (l.take i ++ vs ++ l.drop j)) ∧ KeepP (fun b => v.ownBlock = some b) w w' ∧ Stay v v' w := by
  obtain ⟨va, vc, rfl, hnc, hcm⟩ := h.shape
  rcases h.2 with ⟨h3, rfl⟩ | ⟨g, o, cap, cur, h3, h4, h5, h6, h7, h8⟩
  · omega
  · injection h3 with e1 e2 e3
    subst e1 e3
    have hvs : VS w g sa m c vs := ⟨hlv, hv, fun k hk e => hne k hk (by rw [e]; rfl)⟩
    have kb : ∀ {W W' : World}, KeepP (fun k => k = g) W W' → KeepP (fun b => (Value.slice (some ⟨g, o, none⟩) n vc).ownBlock = some b) W W' := fun h => h.mono (fun k e => by rw [e]; rfl)
    by_cases hjn : j = n
    · subst hjn
      rw [Nat.sub_self, Nat.add_zero, List.drop_eq_nil_of_le (by omega), List.append_nil]
      by_cases hroom : i + m ≤ vc
      · refine (rep_tail w h hl (by omega) hvs hroom).mono ?_
        rintro e' w' ⟨v', rfl, a1, a2, a3⟩
        exact ⟨v', rfl, a1, kb a2, fun k hk => by rw [a3] at hk; exact .inl hk⟩
      · refine (rep_tail_grow w h hl hn (by omega) hvs hm (by omega)).mono ?_
        rintro e' w' ⟨v', rfl, a1, a2, a3⟩
        exact ⟨v', rfl, a1, kb a2, a3⟩
    · by_cases hroom : i + m + (n - j) ≤ vc
      · by_cases hlow : i + m ≤ j
        · refine (rep_low w h hl hn hi (by omega) hvs hm hroom hlow).mono ?_
          rintro e' w' ⟨v', rfl, a1, a2, a3⟩
          exact ⟨v', rfl, a1, kb a2, fun k hk => by rw [a3] at hk; exact .inl hk⟩
        · refine (rep_high w h hl hn hi (by omega) hvs hm hroom (by omega)).mono ?_
          rintro e' w' ⟨v', rfl, a1, a2, a3⟩
          exact ⟨v', rfl, a1, kb a2, fun k hk => by rw [a3] at hk; exact .inl hk⟩
      · refine (rep_grow w h hl hn hi (by omega) hvs hm (by omega)).mono ?_
        rintro e' w' ⟨v', rfl, a1, a2, a3⟩
        exact ⟨v', rfl, a1, kb a2, fun k hk => by rw [a3] at hk; injection hk with hk; exact .inr (by omega)⟩
end Sr
end Go.Proofs.YtehadfidenejdaaGreatDoor

/-! Which runs meet a run: sort.Search, and the program's use of it. -/
namespace Go.Proofs.YtehadfidenejdaaGreatDoor
open Go Go.RowKit

namespace Sr
def rcA (r : Nat × Nat) : Value := .agg #[.int .u64 (r.1 : Int), .int .u64 (r.2 : Int)]
/-- What is asked of two runs. -/
def Asks (f : Nat) (bef : Nat × Nat → Nat × Nat → Bool) : Prop :=
  (∀ args w, (callFunc f args).run Tryz.prog w = .ok (.enter f args) w) ∧ ∀ (a b : Nat × Nat) (w : World), Calls Tryz.prog f #[rcA a, rcA b] w fun e w' => e = .returned (.bool (bef a b)) ∧ Below w.heap.size w w'
theorem asks_ahead : Asks 90 aheadB := by
  refine ⟨enters_of Tryz.func90 (by kernel_rfl) rfl, fun a b w => ?_⟩
  unfold rcA aheadB
  have HB := veil (((Below.refl _ w).alloc (Nat.le_refl _) (.cells #[.int .u64 (a.1 : Int), .int .u64 (a.2 : Int)] 77)).alloc (by simp) (.cells #[.int .u64 (b.1 : Int), .int .u64 (b.2 : Int)] 77))
  go_enter Tryz.func90, Tryz.ntmps90
  go_wp2
  go_ret
  exact ⟨rfl, HB.out⟩
theorem asks_apart : Asks 94 apartB := by
  refine ⟨enters_of Tryz.func94 (by kernel_rfl) rfl, fun a b w => ?_⟩
  unfold rcA apartB
  have HB := veil (((Below.refl _ w).alloc (Nat.le_refl _) (.cells #[.int .u64 (a.1 : Int), .int .u64 (a.2 : Int)] 77)).alloc (by simp) (.cells #[.int .u64 (b.1 : Int), .int .u64 (b.2 : Int)] 77))
  go_enter Tryz.func94, Tryz.ntmps94
  go_wp2
  go_ret
  exact ⟨rfl, HB.out⟩
/-- What a closure sees: the function that is asked, a list of runs, a run. -/
structure Seen (W : World) (f bp lp rp : Nat) (v : Value) (n : Nat) (l : List (Nat × Nat)) (r : Nat × Nat) : Prop where
  bef : Row W bp 98 #[.func (.func f) #[] #[]]
  lst : Row W lp 70 #[v]
  one : Row W rp 77 #[.int .u64 (r.1 : Int), .int .u64 (r.2 : Int)]
  row : RowO W 77 2 v n (vr l)
  len : l.length = n
theorem Seen.below {W W' : World} {f bp lp rp n : Nat} {v : Value} {l : List (Nat × Nat)} {r : Nat × Nat} (h : Seen W f bp lp rp v n l r) (hb : Below W.heap.size W W') : Seen W' f bp lp rp v n l r :=
  ⟨h.bef.below hb h.bef.lt, h.lst.below hb h.lst.lt, h.one.below hb h.one.lt, h.row.below hb, h.len⟩
theorem gl_cells {W : World} {n : Nat} {a : Option Addr} {c : Nat} {l : List (Nat × Nat)} (h : RowO W 77 2 (.slice a n c) n (vr l)) (hl : l.length = n) (i : Nat) (hi : i < n) :
    ∃ g o, a = some ⟨g, o, none⟩ ∧ W.cell? ⟨g, o + i * 2, none⟩ = some (.int .u64 ((gl l i).1 : Int)) ∧ W.cell? ⟨g, o + i * 2 + 1, none⟩ = some (.int .u64 ((gl l i).2 : Int)) := by
  obtain ⟨h1, h2⟩ := vr_at l i (by omega)
  have e : gr l i = gl l i := by unfold gl gr; rfl
  rw [e] at h1 h2
  obtain ⟨g, o, q1, q2⟩ := h.cells _ _ h1
  obtain ⟨g', o', q3, q4⟩ := h.cells _ _ h2
  rw [q1] at q3
  injection q3 with q3
  injection q3 with q3 q5
  subst q3 q5
  exact ⟨g, o, q1, q2, by rw [Nat.add_assoc]; exact q4⟩
theorem step_callG {P : Program} {ops : Array Oper} {o : Oper} {a : Act} {w : World} {K : Act → World → Prop} {Q : Exit → Act → World → Prop} {E : Prop} (hw : Region.wanted o (yielded ops a.tmps) = true) (f : Nat) (args : Array Value)
    (he : (execOp a.eval o).run P w = .ok (.enter f args) w) (hc : Calls P f args w fun e w' => ∃ v, e = .returned v ∧ K (a.put o.dst v) w') :
    if Region.wanted o (yielded ops a.tmps) = true then Oper.wp P o a w K Q else E := by
  rw [if_pos hw]
  unfold Oper.wp
  rw [he]
  exact hc.mono (by rintro e w' ⟨v, rfl, h⟩; exact h)
theorem run_callV {P : Program} {o : Oper} {a : Act} (f : Nat) (v x y : Operand) (ts : Array TypeId) (u u' : Value) (ho : o.op = .call { callee := .value v, args := #[x, y], argTypes := ts }) (hv : a.eval v = .func (.func f) #[] #[]) (hx : a.eval x = u) (hy : a.eval y = u')
    (eg : ∀ args w, (callFunc f args).run P w = .ok (.enter f args) w) (W : World) : (execOp a.eval o).run P W = .ok (.enter f #[u, u']) W := by
  simp [execOp, ho, hv, hx, hy, resolve, invoke, Deferred.ofValue, eg]
set_option maxHeartbeats 1000000 in
set_option maxRecDepth 20000 in
theorem near1_any {bef : Nat × Nat → Nat × Nat → Bool} {f : Nat} (hf : Asks f bef) (W : World) {bp lp rp n : Nat} {v : Value} {l : List (Nat × Nat)} {r : Nat × Nat} (h : Seen W f bp lp rp v n l r) (i : Nat) (hi : i < n) :
    Calls Tryz.prog 120 #[.int .i64 (i : Int), .pointer (some ⟨bp, 0, none⟩), .pointer (some ⟨lp, 0, none⟩), .pointer (some ⟨rp, 0, none⟩)] W fun e w' => e = .returned (.bool (!bef (gl l i) r)) ∧ Below W.heap.size W w' := by
  obtain ⟨va, vc, rfl, _, _⟩ := h.row.shape
  obtain ⟨g, o, rfl, c1, c2⟩ := gl_cells h.row h.len i hi
  have c3 := h.bef.cell 0
  have c4 := h.lst.cell 0
  have c5 := h.one.cell 0
  have c6 := h.one.cell 1
  obtain ⟨a, ha⟩ : ∃ a, gl l i = a := ⟨_, rfl⟩
  rw [ha] at c1 c2 ⊢
  have HA := veil (hf.2 a r)
  have eg := hf.1
  have KC := veil (show ∀ W', Below W.heap.size W W' → W'.cell? ⟨bp, 0, none⟩ = some (.func (.func f) #[] #[]) ∧ W'.cell? ⟨lp, 0, none⟩ = some (.slice (some ⟨g, o, none⟩) n vc) ∧ W'.cell? ⟨rp, 0, none⟩ = some (.int .u64 (r.1 : Int)) ∧ W'.cell? ⟨rp, 1, none⟩ = some (.int .u64 (r.2 : Int)) ∧ W'.cell? ⟨g, o + i * 2, none⟩ = some (.int .u64 (a.1 : Int)) ∧ W'.cell? ⟨g, o + i * 2 + 1, none⟩ = some (.int .u64 (a.2 : Int)) from fun W' hb =>
    ⟨(h.bef.below hb h.bef.lt).cell 0, (h.lst.below hb h.lst.lt).cell 0, (h.one.below hb h.one.lt).cell 0, (h.one.below hb h.one.lt).cell 1, (hb.cell (p := ⟨g, _, none⟩) (h.row.lt g rfl)).trans c1, (hb.cell (p := ⟨g, _, none⟩) (h.row.lt g rfl)).trans c2⟩)
  have bi : (i : Int) < (n : Int) := by omega
  clear h ha
  go_enter Tryz.func120, Tryz.ntmps120
  go_wp2
  go_region_held3 (fun W' => W'.cell? ⟨bp, 0, none⟩ = some (.func (.func f) #[] #[]) ∧ W'.cell? ⟨lp, 0, none⟩ = some (.slice (some ⟨g, o, none⟩) n vc) ∧ W'.cell? ⟨rp, 0, none⟩ = some (.int .u64 (r.1 : Int)) ∧ W'.cell? ⟨rp, 1, none⟩ = some (.int .u64 (r.2 : Int)) ∧ W'.cell? ⟨g, o + i * 2, none⟩ = some (.int .u64 (a.1 : Int)) ∧ W'.cell? ⟨g, o + i * 2 + 1, none⟩ = some (.int .u64 (a.2 : Int))) (first | exact KC.out _ d1.out | exact KC.out _ (Below.refl _ _) | go_keep) (first
    | (refine step_callG (by kernel_rfl) f #[rcA a, rcA r] (run_callV f _ _ _ _ _ _ rfl (by kernel_rfl) (by kernel_rfl) (by kernel_rfl) eg _) ?_; refine (HA.out _).mono ?_; rintro e9 w9 ⟨rfl, hb9⟩; have d1 := veil (((Below.refl _ W).drew).trans hb9); clear hb9; refine ⟨_, rfl, ?_⟩))
  go_wp2
  go_ret
  exact ⟨rfl, d1.out⟩
set_option maxHeartbeats 1000000 in
set_option maxRecDepth 20000 in
theorem near2_any {bef : Nat × Nat → Nat × Nat → Bool} {f : Nat} (hf : Asks f bef) (W : World) {bp lp rp n : Nat} {v : Value} {l : List (Nat × Nat)} {r : Nat × Nat} (h : Seen W f bp lp rp v n l r) (i : Nat) (hi : i < n) :
    Calls Tryz.prog 121 #[.int .i64 (i : Int), .pointer (some ⟨bp, 0, none⟩), .pointer (some ⟨rp, 0, none⟩), .pointer (some ⟨lp, 0, none⟩)] W fun e w' => e = .returned (.bool (bef r (gl l i))) ∧ Below W.heap.size W w' := by
  obtain ⟨va, vc, rfl, _, _⟩ := h.row.shape
  obtain ⟨g, o, rfl, c1, c2⟩ := gl_cells h.row h.len i hi
  have c3 := h.bef.cell 0
  have c4 := h.lst.cell 0
  have c5 := h.one.cell 0
  have c6 := h.one.cell 1
  obtain ⟨a, ha⟩ : ∃ a, gl l i = a := ⟨_, rfl⟩
  rw [ha] at c1 c2 ⊢
  have HA := veil (hf.2 r a)
  have eg := hf.1
  have KC := veil (show ∀ W', Below W.heap.size W W' → W'.cell? ⟨bp, 0, none⟩ = some (.func (.func f) #[] #[]) ∧ W'.cell? ⟨lp, 0, none⟩ = some (.slice (some ⟨g, o, none⟩) n vc) ∧ W'.cell? ⟨rp, 0, none⟩ = some (.int .u64 (r.1 : Int)) ∧ W'.cell? ⟨rp, 1, none⟩ = some (.int .u64 (r.2 : Int)) ∧ W'.cell? ⟨g, o + i * 2, none⟩ = some (.int .u64 (a.1 : Int)) ∧ W'.cell? ⟨g, o + i * 2 + 1, none⟩ = some (.int .u64 (a.2 : Int)) from fun W' hb =>
    ⟨(h.bef.below hb h.bef.lt).cell 0, (h.lst.below hb h.lst.lt).cell 0, (h.one.below hb h.one.lt).cell 0, (h.one.below hb h.one.lt).cell 1, (hb.cell (p := ⟨g, _, none⟩) (h.row.lt g rfl)).trans c1, (hb.cell (p := ⟨g, _, none⟩) (h.row.lt g rfl)).trans c2⟩)
  have bi : (i : Int) < (n : Int) := by omega
  clear h ha
  go_enter Tryz.func121, Tryz.ntmps121
  go_wp2
  go_region_held3 (fun W' => W'.cell? ⟨bp, 0, none⟩ = some (.func (.func f) #[] #[]) ∧ W'.cell? ⟨lp, 0, none⟩ = some (.slice (some ⟨g, o, none⟩) n vc) ∧ W'.cell? ⟨rp, 0, none⟩ = some (.int .u64 (r.1 : Int)) ∧ W'.cell? ⟨rp, 1, none⟩ = some (.int .u64 (r.2 : Int)) ∧ W'.cell? ⟨g, o + i * 2, none⟩ = some (.int .u64 (a.1 : Int)) ∧ W'.cell? ⟨g, o + i * 2 + 1, none⟩ = some (.int .u64 (a.2 : Int))) (first | exact KC.out _ d1.out | exact KC.out _ (Below.refl _ _) | go_keep) (first
    | (refine step_callG (by kernel_rfl) f #[rcA r, rcA a] (run_callV f _ _ _ _ _ _ rfl (by kernel_rfl) (by kernel_rfl) (by kernel_rfl) eg _) ?_; refine (HA.out _).mono ?_; rintro e9 w9 ⟨rfl, hb9⟩; have d1 := veil (((Below.refl _ W).drew).trans hb9); clear hb9; refine ⟨_, rfl, ?_⟩))
  go_wp2
  go_ret
  exact ⟨rfl, d1.out⟩
/-- sort.Search, of a question that any number of others comes ahead of: how many places answer no. -/
theorem search_any (g : Nat) (cb : Array Value) (n K : Nat) (p : Nat → Bool) (w : World) (eg : ∀ args w, (callFunc g args).run Tryz.prog w = .ok (.enter g args) w) (hsz : n < 4611686018427387904) (hK : K ≤ n)
    (hf : ∀ (W : World), Below w.heap.size w W → ∀ i, i < n → Calls Tryz.prog g (#[.int .i64 (i : Int)] ++ cb) W fun e w' => e = .returned (.bool (p i)) ∧ Below W.heap.size W w')
    (hno : ∀ x, x < K → p x = false) (hyes : ∀ x, K ≤ x → x < n → p x = true) :
    Calls Tryz.prog 119 #[.int .i64 (n : Int), .func (.func g) #[] cb] w fun e w' => e = .returned (.int .i64 (K : Int)) ∧ Below w.heap.size w w' := by
  have HF := veil hf
  have HN := veil hno
  have HY := veil hyes
  clear hf hno hyes
  go_enter Tryz.func119, Tryz.ntmps119
  go_wp2
  go_loopw [5, 6] (fun iv jv wr => ∃ a b : Nat, iv = .int .i64 (a : Int) ∧ jv = .int .i64 (b : Int) ∧ a ≤ K ∧ K ≤ b ∧ b ≤ n ∧ Below w.heap.size w wr)
    (fun iv jv _ => (intOf jv - intOf iv).toNat)
  case atStart => exact ⟨0, n, rfl, rfl, Nat.zero_le _, hK, Nat.le_refl _, Below.refl _ _⟩
  case round =>
    obtain ⟨a, b, rfl, rfl, ha, hb, hbn, hbel⟩ := hrel
    have HB := veil hbel
    clear hbel
    by_cases hab : a < b
    · obtain ⟨h, hh⟩ : ∃ h, h = (a + b) / 2 := ⟨_, rfl⟩
      have h1 : a ≤ h ∧ h < b := by omega
      have hc := HF.out wr HB.out h (by omega)
      obtain ⟨q, hq⟩ : ∃ q, p h = q := ⟨_, rfl⟩
      rw [hq] at hc
      have HC := veil hc
      have bI : (a : Int) < (b : Int) := by omega
      obtain ⟨ab, hab2⟩ : ∃ ab, ab = a + b := ⟨_, rfl⟩
      have w1 : IntKind.i64.wrap ((a : Int) + (b : Int)) = (ab : Int) := by rw [IntKind.wrap_i64]; omega
      have w2 : IntKind.u64.wrap (ab : Int) = (ab : Int) := by rw [IntKind.wrap_u64]; omega
      have w3 : (ab : Int) / 2 = (h : Int) := by omega
      have w4 : IntKind.i64.wrap (h : Int) = (h : Int) := by rw [IntKind.wrap_i64]; omega
      have hq1 : q = false → h < K := by
        intro e
        rcases Nat.lt_or_ge h K with c | c
        · exact c
        · rw [HY.out h c (by omega), e] at hq; cases hq
      have hq2 : q = true → K ≤ h := by
        intro e
        rcases Nat.lt_or_ge h K with c | c
        · rw [HN.out h c, e] at hq; cases hq
        · exact c
      have HQ := veil (show (q = false → h < K) ∧ (q = true → K ≤ h) from ⟨hq1, hq2⟩)
      have HL := veil (show a ≤ h ∧ h < b ∧ a ≤ K ∧ K ≤ b ∧ b ≤ n ∧ n < 4611686018427387904 from ⟨h1.1, h1.2, ha, hb, hbn, hsz⟩)
      clear hc hq1 hq2 hq hh h1 ha hb hbn hab hab2
      go_wp2
      refine HC.out.mono ?_
      rintro e1 w1 ⟨rfl, hb1⟩
      have HB1 := veil (HB.out.trans (hb1.mono HB.out.size))
      clear hb1 HC HB
      cases q with
      | false =>
        have w5 : IntKind.i64.wrap ((h : Int) + 1) = ((h + 1 : Nat) : Int) := by rw [IntKind.wrap_i64]; have := HL.out; omega
        have HQ1 := veil (HQ.out.1 rfl)
        clear HQ
        go_wp2
        go_roundw
        case rel => exact ⟨h + 1, b, by go_num, rfl, by have := HQ1.out; omega, HL.out.2.2.2.1, HL.out.2.2.2.2.1, HB1.out⟩
        case measure => have := HL.out; simp [intOf]; omega
      | true =>
        have HQ1 := veil (HQ.out.2 rfl)
        clear HQ
        go_wp2
        go_roundw
        case rel => exact ⟨a, h, rfl, rfl, HL.out.2.2.1, HQ1.out, by have := HL.out; omega, HB1.out⟩
        case measure => have := HL.out; simp [intOf]; omega
    · obtain rfl : a = K := by omega
      obtain rfl : b = a := by omega
      clear hab
      go_wp2
      go_ret
      exact ⟨rfl, HB.out⟩
end Sr
end Go.Proofs.YtehadfidenejdaaGreatDoor

/-! From which run on, and up to which, they meet a run. -/
namespace Go.Proofs.YtehadfidenejdaaGreatDoor
open Go Go.RowKit

namespace Sr
theorem gl_at {l : List Rn} {i : Nat} (h : i < l.length) : l[i]? = some (gl l i) := by
  unfold gl
  rw [List.getD_eq_getElem?_getD, List.getElem?_eq_getElem h]
  rfl
theorem gl_rise : ∀ {l : List Rn}, Canon l → ∀ {i j : Nat}, i < j → j < l.length → (gl l i).2 < (gl l j).1
  | [], _, _, _, _, h => by simp at h
  | a :: l, hc, 0, j + 1, _, h => by
    have e : gl (a :: l) (j + 1) = gl l j := by simp [gl]
    have e0 : gl (a :: l) 0 = a := rfl
    rw [e, e0]
    exact hc.2.1 _ (List.mem_of_getElem? (gl_at (by simpa using h)))
  | a :: l, hc, i + 1, j + 1, hij, h => by
    have e : gl (a :: l) (j + 1) = gl l j := by simp [gl]
    have e0 : gl (a :: l) (i + 1) = gl l i := by simp [gl]
    rw [e, e0]
    exact gl_rise hc.2.2 (by omega) (by simpa using h)
theorem gl_pos {l : List Rn} (hc : Canon l) {i : Nat} (h : i < l.length) : (gl l i).1 < (gl l i).2 := hc.pos _ (List.mem_of_getElem? (gl_at h))
theorem canon_drop {l : List Rn} (hc : Canon l) (k : Nat) : Canon (l.drop k) := by
  have h := hc
  rw [← List.take_append_drop k l] at h
  exact (canon_append.1 h).2.1
section
variable {bef : Rn → Rn → Bool} {l : List Rn} {r : Rn}
theorem lo_no {x : Nat} (h : x < lo bef l r) : bef (gl l x) r = true := cnt_yes (p := fun a => bef a r) h (gl_at (Nat.lt_of_lt_of_le h (cnt_le _ _)))
theorem lo_yes (hc : Canon l) (up : ∀ a b, bef b r = true → a.2 ≤ b.2 → bef a r = true) {x : Nat} (h : lo bef l r ≤ x) (hx : x < l.length) : bef (gl l x) r = false := by
  have h1 := cnt_no (p := fun a => bef a r) (gl_at (l := l) (i := lo bef l r) (by omega))
  cases e : bef (gl l x) r with
  | false => rfl
  | true =>
    rcases Nat.lt_or_ge (lo bef l r) x with c | c
    · have h2 := gl_rise hc c hx
      have h3 := gl_pos hc hx
      rw [up (gl l (lo bef l r)) (gl l x) e (by omega)] at h1
      cases h1
    · obtain rfl : x = lo bef l r := by omega
      rw [e] at h1; cases h1
theorem hi_no {x : Nat} (h : x < hi bef l r - lo bef l r) : bef r (gl (l.drop (lo bef l r)) x) = false := by
  have hc : hi bef l r - lo bef l r = cnt (fun a => !bef r a) (l.drop (lo bef l r)) := by unfold hi; omega
  rw [hc] at h
  have := cnt_yes (p := fun a => !bef r a) h (gl_at (Nat.lt_of_lt_of_le h (cnt_le _ _)))
  simpa using this
theorem hi_yes (hc : Canon l) (up : ∀ a b, bef r a = true → a.1 < b.1 → bef r b = true) {x : Nat} (h : hi bef l r - lo bef l r ≤ x) (hx : x < (l.drop (lo bef l r)).length) : bef r (gl (l.drop (lo bef l r)) x) = true := by
  have he : hi bef l r - lo bef l r = cnt (fun a => !bef r a) (l.drop (lo bef l r)) := by unfold hi; omega
  rw [he] at h
  have h1 := cnt_no (p := fun a => !bef r a) (gl_at (l := l.drop (lo bef l r)) (i := cnt (fun a => !bef r a) (l.drop (lo bef l r))) (by omega))
  have h1 : bef r (gl (l.drop (lo bef l r)) (cnt (fun a => !bef r a) (l.drop (lo bef l r)))) = true := by simpa using h1
  rcases Nat.lt_or_ge (cnt (fun a => !bef r a) (l.drop (lo bef l r))) x with c | c
  · have hd := canon_drop hc (lo bef l r)
    have h2 := gl_rise hd c hx
    have h3 := gl_pos hd (i := cnt (fun a => !bef r a) (l.drop (lo bef l r))) (by omega)
    exact up _ _ h1 (by omega)
  · obtain rfl : x = cnt (fun a => !bef r a) (l.drop (lo bef l r)) := by omega
    exact h1
end
theorem vr_drop (l : List (Nat × Nat)) (k : Nat) : vr (l.drop k) = (vr l).drop (k * 2) := by
  induction l generalizing k with
  | nil => simp [vr]
  | cons p l ih =>
    cases k with
    | zero => simp
    | succ k =>
      rw [List.drop_succ_cons, vr_cons, ih, show (k + 1) * 2 = k * 2 + 1 + 1 by omega]
      simp only [List.drop_succ_cons]
theorem vr_take (l : List (Nat × Nat)) (k : Nat) : vr (l.take k) = (vr l).take (k * 2) := by
  induction l generalizing k with
  | nil => simp [vr]
  | cons p l ih =>
    cases k with
    | zero => simp [vr]
    | succ k =>
      rw [List.take_succ_cons, vr_cons, vr_cons, ih, show (k + 1) * 2 = k * 2 + 1 + 1 by omega]
      simp only [List.take_succ_cons]
structure Ups (bef : Rn → Rn → Bool) (r : Rn) : Prop where
  one : ∀ a b, bef b r = true → a.2 ≤ b.2 → bef a r = true
  two : ∀ a b, bef r a = true → a.1 < b.1 → bef r b = true
theorem ups_ahead (r : Rn) : Ups aheadB r := ⟨fun a b h1 h2 => by simp only [aheadB, decide_eq_true_eq] at h1 ⊢; omega, fun a b h1 h2 => by simp only [aheadB, decide_eq_true_eq] at h1 ⊢; omega⟩
theorem ups_apart (r : Rn) : Ups apartB r := ⟨fun a b h1 h2 => by simp only [apartB, decide_eq_true_eq] at h1 ⊢; omega, fun a b h1 h2 => by simp only [apartB, decide_eq_true_eq] at h1 ⊢; omega⟩
set_option maxHeartbeats 1000000 in
set_option maxRecDepth 20000 in
theorem near_any {bef : Rn → Rn → Bool} {f : Nat} (hf : Asks f bef) (w : World) {v : Value} {n : Nat} {l : List Rn} {r : Rn} (h : RowO w 77 2 v n (vr l)) (hl : l.length = n) (hn : n ≤ 1073741824) (hc : Canon l) (hu : Ups bef r) :
    Calls Tryz.prog 89 #[v, rcA r, .func (.func f) #[] #[]] w fun e w' => e = .returned (.tuple #[.int .i64 (lo bef l r : Nat), .int .i64 (hi bef l r : Nat)]) ∧ Below w.heap.size w w' := by
  have hlo : lo bef l r ≤ n := by rw [← hl]; exact cnt_le _ _
  have hhi := hi_le bef l r
  have hlh := lo_le_hi bef l r
  rw [hl] at hhi
  obtain ⟨a, c, _, s1, hrow, hown⟩ := sl_any (P := Tryz.prog) w 70 Tryz.underlying70 (by kernel_rfl) h hlo (Nat.le_refl n)
  have s1 := s1 rfl
  rw [show ((vr l).drop (lo bef l r * 2)).take ((n - lo bef l r) * 2) = vr (l.drop (lo bef l r)) by rw [vr_drop, List.take_of_length_le (by rw [List.length_drop, vr_len, hl]; omega)]] at hrow
  have k1 := fun x (hx : x < lo bef l r) => lo_no hx
  have k2 := fun x (h1 : lo bef l r ≤ x) (h2 : x < l.length) => lo_yes hc hu.one h1 h2
  have k3 := fun x (hx : x < hi bef l r - lo bef l r) => hi_no hx
  have k4 := fun x (h1 : hi bef l r - lo bef l r ≤ x) (h2 : x < (l.drop (lo bef l r)).length) => hi_yes hc hu.two h1 h2
  have ld : (l.drop (lo bef l r)).length = n - lo bef l r := by rw [List.length_drop, hl]
  generalize hL : lo bef l r = L at *
  generalize hH : hi bef l r = H at *
  obtain ⟨M, hM⟩ : ∃ M, M = l.drop L := ⟨_, rfl⟩
  rw [← hM] at hrow k3 k4 ld
  obtain ⟨m, hm⟩ : ∃ m, m = n - L := ⟨_, rfl⟩
  rw [← hm] at hrow ld s1 hown
  obtain ⟨va, vc, rfl, _, _⟩ := h.shape
  unfold rcA
  have SX : ∃ W0, W0 = ((w.alloc (.cells #[.slice va n vc] 70)).alloc (.cells #[.int .u64 (r.1 : Int), .int .u64 (r.2 : Int)] 77)).alloc (.cells #[.func (.func f) #[] #[]] 98) := ⟨_, rfl⟩
  obtain ⟨W0, hW0⟩ := SX
  have b0 : Below w.heap.size w W0 := by
    rw [hW0]
    exact (((Below.refl _ w).alloc (Nat.le_refl _) _).alloc (by simp) _).alloc (by simp; omega) _
  have sn : Seen W0 f (w.heap.size + 1 + 1) w.heap.size (w.heap.size + 1) (.slice va n vc) n l r := by
    have r1 : Row (w.alloc (.cells #[.slice va n vc] 70)) w.heap.size 70 #[.slice va n vc] := Row.new _ _ _
    have r2 : Row ((w.alloc (.cells #[.slice va n vc] 70)).alloc (.cells #[.int .u64 (r.1 : Int), .int .u64 (r.2 : Int)] 77)) (w.heap.size + 1) 77 #[.int .u64 (r.1 : Int), .int .u64 (r.2 : Int)] := Row.new1 _ _ _ _
    have r1' := r1.below ((Below.refl (w.alloc (.cells #[.slice va n vc] 70)).heap.size _).alloc (Nat.le_refl _) (.cells #[.int .u64 (r.1 : Int), .int .u64 (r.2 : Int)] 77)) r1.lt
    have bb := (Below.refl ((w.alloc (.cells #[.slice va n vc] 70)).alloc (.cells #[.int .u64 (r.1 : Int), .int .u64 (r.2 : Int)] 77)).heap.size _).alloc (Nat.le_refl _) (.cells #[.func (.func f) #[] #[]] 98)
    rw [← hW0] at bb
    refine ⟨?_, r1'.below bb r1'.lt, r2.below bb r2.lt, h.below b0, hl⟩
    rw [hW0]
    have := Row.new ((w.alloc (.cells #[.slice va n vc] 70)).alloc (.cells #[.int .u64 (r.1 : Int), .int .u64 (r.2 : Int)] 77)) 98 #[.func (.func f) #[] #[]]
    simpa using this
  have S1 := search_any 120 #[.pointer (some ⟨w.heap.size + 1 + 1, 0, none⟩), .pointer (some ⟨w.heap.size, 0, none⟩), .pointer (some ⟨w.heap.size + 1, 0, none⟩)] n L (fun i => !bef (gl l i) r) W0 (enters_of Tryz.func120 (by kernel_rfl) rfl) (by omega) hlo
    (fun W hW i hi => near1_any hf W (sn.below hW) i hi) (fun x hx => by simp only [k1 x hx]; rfl) (fun x h1 h2 => by simp only [k2 x h1 (by omega)]; rfl)
  have HS1 := veil S1
  have HSN := veil sn
  have HB0 := veil b0
  have HR := veil hrow
  have HK := veil (show M.length = m ∧ L + m = n ∧ n ≤ 1073741824 ∧ L ≤ H ∧ H ≤ n ∧ (∀ x, x < H - L → bef r (gl M x) = false) ∧ (∀ x, H - L ≤ x → x < M.length → bef r (gl M x) = true) from ⟨ld, by omega, hn, hlh, hhi, k3, k4⟩)
  have c1 := sn.lst.cell 0
  have c2 := sn.bef.cell 0
  clear S1 sn b0 hrow ld k1 k2 k3 k4 hlo hhi hlh hL hH hM hm hu hc hl hn h hown
  go_enter Tryz.func89, Tryz.ntmps89
  go_wp2_with fail
  rw [← hW0]
  refine HS1.out.mono ?_
  rintro e1 w1 ⟨rfl, hb1⟩
  have HB1 := veil (HB0.out.trans (hb1.mono HB0.out.size))
  have sn1 := HSN.out.below hb1
  have d1 := sn1.lst.cell 0
  clear hb1 HS1 HB0 HSN c1 c2 hW0
  have hbw : Below w.heap.size w (w1.alloc (.cells #[.slice a m c] 70)) := HB1.out.alloc HB1.out.size _
  have sn2 : Seen (w1.alloc (.cells #[.slice a m c] 70)) f (w.heap.size + 1 + 1) w1.heap.size (w.heap.size + 1) (.slice a m c) m M r := by
    have bb := (Below.refl w1.heap.size w1).alloc (Nat.le_refl _) (.cells #[.slice a m c] 70)
    exact ⟨sn1.bef.below bb sn1.bef.lt, Row.new _ _ _, sn1.one.below bb sn1.one.lt, (HR.out w1 sn1.row).below bb, HK.out.1⟩
  have S2 := search_any 121 #[.pointer (some ⟨w.heap.size + 1 + 1, 0, none⟩), .pointer (some ⟨w.heap.size + 1, 0, none⟩), .pointer (some ⟨w1.heap.size, 0, none⟩)] m (H - L) (fun i => bef r (gl M i)) _ (enters_of Tryz.func121 (by kernel_rfl) rfl) (by have := HK.out; omega) (by have := HK.out; omega)
    (fun W hW i hi => near2_any hf W (sn2.below hW) i hi) HK.out.2.2.2.2.2.1 (fun x h1 h2 => HK.out.2.2.2.2.2.2 x h1 (by rw [HK.out.1]; exact h2))
  have HS2 := veil S2
  have HBW := veil hbw
  have d2 := sn2.lst.cell 0
  have w2 : IntKind.i64.wrap ((L : Int) + ((H - L : Nat) : Int)) = (H : Int) := by rw [IntKind.wrap_i64]; have := HK.out; omega
  clear S2 hbw sn2 sn1
  go_wp2_with fail
  refine HS2.out.mono ?_
  rintro e2 w3 ⟨rfl, hb2⟩
  have HB2 := veil (HBW.out.trans (hb2.mono HBW.out.size))
  clear hb2
  go_wp2
  go_ret2
  exact ⟨rfl, HB2.out⟩
end Sr
end Go.Proofs.YtehadfidenejdaaGreatDoor

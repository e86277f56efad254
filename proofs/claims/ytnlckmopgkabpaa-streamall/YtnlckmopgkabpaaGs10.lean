/-
  Out of SrIns, SrInsG.
-/
import Derived.Test.YtnlckmopgkabpaaRows
import Derived.Test.YtnlckmopgkabpaaGs8
import Derived.Shelf.RegionOpenPlain
import Derived.WalkKit
import Derived.Lib.Walk
import Derived.Laws.Externs
import Derived.Shelf.Spec.SlicesInsert
import Derived.Deep.RegionLaw

/-! slices.Insert of one run: the walk of the library's own text. -/
namespace Go.Proofs.Ytnlckmopgkabpaa
open Go Go.RowKit

namespace Sr
def Stay (v v' : Value) (W : World) : Prop := ∀ k, v'.ownBlock = some k → v.ownBlock = some k ∨ W.heap.size ≤ k
theorem Stay.refl (v : Value) (W : World) : Stay v v W := fun _ h => .inl h
theorem run_info : ∃ i0 : TypeInfo, (Try.prog).info? 60 = some i0 ∧ i0.zero = some (.agg #[.int .u64 0, .int .u64 0]) ∧ i0.size = 2 ∧ i0.bytes = 16 := by
  have h : ((Try.prog).info? 60).map (fun i => (i.zero, i.size, i.bytes)) = some (some (.agg #[.int .u64 0, .int .u64 0]), 2, 16) := by kernel_rfl
  cases hq : Try.prog.info? 60 with
  | none => rw [hq] at h; cases h
  | some i =>
    rw [hq] at h
    simp only [Option.map_some, Option.some.injEq, Prod.mk.injEq] at h
    exact ⟨i, rfl, h.1, h.2.1, h.2.2⟩
theorem apart_run (w : World) (b p n c vb m vc : Nat) (L M : Array Value) (hb : w.heap[b]? = some (.cells L 60 (0, 0))) (hvb : w.heap[vb]? = some (.cells M 60 (0, 0))) (hne : b ≠ vb) (hL : L.size ≠ 0) :
    (callFunc 45 #[.slice (some ⟨vb, 0, none⟩) m vc, .slice (some ⟨b, p, none⟩) n c]).run Try.prog w = .ok (.value (.bool false)) w := by
  rw [run_callFunc_extern Try.func45 (by kernel_rfl) (by kernel_rfl) (by kernel_rfl) (e := Extern.SlicesOverlaps.overlaps #[52, 52] #[4]) (by kernel_rfl),
    Lib.run_overlaps_apart w 52 4 60 Try.underlying52 2 (lgSize (by kernel_rfl)) ⟨vb, 0, none⟩ ⟨b, p, none⟩ m vc n c (fun e => hne e.symm) 60 60 M.size L.size (by simp [World.shape?, hvb]) (by simp [World.shape?, hb]) hL (by simp [World.frozen?, hvb]) (by simp [World.frozen?, hvb])]
  rfl
theorem ins_end (w : World) {v : Value} {n : Nat} {l : List (Nat × Nat)} (h : RowO w 60 2 v n (vr l)) (hn : n ≤ 1073741824) (r : Nat × Nat) (vb : Nat) (hvb : w.heap[vb]? = some (.cells (rC2 r) 60 (0, 0))) :
    Calls Try.prog 44 #[v, .int .i64 (n : Int), .slice (some ⟨vb, 0, none⟩) 1 1] w fun e w' =>
      ∃ v', e = .returned v' ∧ RowO w' 60 2 v' (n + 1) (vr (l ++ [r])) ∧ KeepP (fun b => v.ownBlock = some b) w w' ∧ Stay v v' w := by
  obtain ⟨va, vc, rfl, hnc, hcm⟩ := h.shape
  obtain ⟨i0, q1, q2, q3, q4⟩ := run_info
  obtain ⟨v', w1, hr, h2, h3, h4⟩ := app_any (P := Try.prog) w 53 52 53 i0 _ 16 Try.underlying53 Try.underlying52 q1 q2 q3 q4 rfl (by decide) h
    (some ⟨vb, 0, none⟩) 1 1 (vr [r]) rfl (.inr ⟨_, rfl, fun j u hj => by rw [Addr.add_mid, cell_of_row w vb (0 + j) (rC2 r) _ (0, 0) hvb, Nat.zero_add]; match j, hj with | 0, hj => exact hj | 1, hj => exact hj | k + 2, hj => simp [vr] at hj⟩) (vr_one _) (by unfold maxLen; omega) (by omega)
  have H2 := veil h2
  have H3 := veil h3
  have H4 := veil h4
  clear h2 h3 h4
  have n1 : decide ((1 : Int) = 0) = false := by decide
  obtain ⟨xa, xc, _, hx, _⟩ := sl_any (P := Try.prog) w 53 Try.underlying53 (by kernel_rfl) h (Nat.le_refl n) (Nat.le_refl n)
  have hx := hx rfl
  go_enter Try.func44, Try.ntmps44
  go_wp2_with (at_builtin; refine Lib.wpList_append_run _ rfl _ _ _ _ rfl _ _ rfl rfl _ _ hr ?_)
  go_ret
  refine ⟨v', rfl, ?_, H3.out, ?_⟩
  · rw [vr_append]; exact H2.out
  · rcases H4.out with h5 | ⟨_, h5⟩
    · intro k hk; rw [h5] at hk; exact .inl hk
    · intro k hk; rw [h5 k hk]; exact .inr (Nat.le_refl _)
theorem src_row {w : World} {g k n : Nat} {t : TypeId} {A B C : List Value} (h : w.heap[g]? = some (.cells (A ++ B ++ C).toArray t (0, 0))) (hk : A.length = k) : Src w (some ⟨g, k, none⟩) n B := by
  refine .inr ⟨_, rfl, fun j v hj => ?_⟩
  rw [Addr.add_mid, cell_blk h, List.append_assoc, ← hk, List.getElem?_append_right (Nat.le_add_right _ _), Nat.add_sub_cancel_left, List.getElem?_append_left]
  · exact hj
  · rcases Nat.lt_or_ge j B.length with q | q
    · exact q
    · rw [List.getElem?_eq_none q] at hj; cases hj
theorem blk_keep {w w' : World} {g vb : Nat} {o : Obj} (hk : KeepP (fun b => b = g) w w') (h : w.heap[vb]? = some o) (hne : vb ≠ g) : w'.heap[vb]? = some o := by
  rw [hk.block vb (by rcases Nat.lt_or_ge vb w.heap.size with q | q; exact q; rw [Array.getElem?_eq_none q] at h; cases h) hne]; exact h
theorem src_one {w : World} {vb : Nat} {r : Nat × Nat} (hvb : w.heap[vb]? = some (.cells (rC2 r) 60 (0, 0))) : Src w (some ⟨vb, 0, none⟩) 1 (vr [r]) :=
  .inr ⟨_, rfl, fun j u hj => by rw [Addr.add_mid, cell_of_row w vb (0 + j) (rC2 r) _ (0, 0) hvb, Nat.zero_add]; match j, hj with | 0, hj => exact hj | 1, hj => exact hj | k + 2, hj => simp [vr] at hj⟩
set_option maxHeartbeats 1000000 in
set_option maxRecDepth 20000 in
theorem ins_room (w : World) {b o n cap i : Nat} {l : List (Nat × Nat)} (h : RowO w 60 2 (.slice (some ⟨b, o, none⟩) n cap) n (vr l)) (hl : l.length = n) (hn : n ≤ 1073741824) (hi : i < n) (hroom : n + 1 ≤ cap)
    (r : Nat × Nat) (vb : Nat) (hvb : w.heap[vb]? = some (.cells (rC2 r) 60 (0, 0))) (hne : vb ≠ b) :
    Calls Try.prog 44 #[.slice (some ⟨b, o, none⟩) n cap, .int .i64 (i : Int), .slice (some ⟨vb, 0, none⟩) 1 1] w fun e w' =>
      ∃ v', e = .returned v' ∧ RowO w' 60 2 v' (n + 1) (vr (l.take i ++ [r] ++ l.drop i)) ∧ KeepP (fun k => k = b) w w' ∧ v'.ownBlock = some b := by
  obtain ⟨pre, post, q1, q2, q3, q4, q5, q6⟩ := blk_of h
  have hR : (Try.prog.info? 60).map (·.size) = some 2 := by kernel_rfl
  have e0 : l = l.take i ++ l.drop i := (List.take_append_drop i l).symm
  obtain ⟨A, hA⟩ : ∃ A, A = l.take i := ⟨_, rfl⟩
  obtain ⟨B, hB⟩ : ∃ B, B = l.drop i := ⟨_, rfl⟩
  have lA : A.length = i := by rw [hA, List.length_take]; omega
  have lB : B.length = n - i := by rw [hB, List.length_drop]; omega
  rw [← hA, ← hB] at e0 ⊢
  have vA := vr_len A
  have vB := vr_len B
  rw [lA] at vA
  rw [lB] at vB
  have vl : vr l = vr A ++ vr B := by rw [e0, vr_append]
  obtain ⟨i1, hi1⟩ : ∃ i1, i1 = i + 1 := ⟨_, rfl⟩
  obtain ⟨n1, hn1⟩ : ∃ n1, n1 = n + 1 := ⟨_, rfl⟩
  have s1 : ∀ W, (Instr.sliceAt 53 (.slice (some ⟨b, o, none⟩) n cap) none (some (.int .i64 (n1 : Int))) none).run Try.prog W = _ := sl_hi 53 b o n cap n1 Try.underlying53 hR (by omega)
  have s2 : ∀ W, (Instr.sliceAt 53 (.slice (some ⟨b, o, none⟩) n1 cap) (some (.int .i64 (i1 : Int))) none none).run Try.prog W = _ := sl_lo 53 b o n1 cap i1 Try.underlying53 hR (by omega) (by omega)
  have s3 : ∀ W, (Instr.sliceAt 53 (.slice (some ⟨b, o, none⟩) n1 cap) (some (.int .i64 (i : Int))) none none).run Try.prog W = _ := sl_lo 53 b o n1 cap i Try.underlying53 hR (by omega) (by omega)
  have s0 : ∀ W, (Instr.sliceAt 53 (.slice (some ⟨b, o, none⟩) n cap) (some (.int .i64 (i : Int))) none none).run Try.prog W = _ := sl_lo 53 b o n cap i Try.underlying53 hR (by omega) (by omega)
  -- the first copy: in the drawn region's world
  obtain ⟨w1, r1, g1, k1⟩ := copy_at (P := Try.prog) w.drew 53 53 3 Try.underlying53 hR pre ((vr A ++ vr B ++ post).take (i1 * 2)) ((vr A ++ vr B ++ post).drop (i1 * 2)) b o cap i1 (n1 - i1) (cap - i1) q1 (by rw [List.length_take, List.length_append, List.length_append]; omega)
    (by show w.heap[b]? = _; rw [q6, List.append_assoc pre (List.take _ _), List.take_append_drop, vl, List.append_assoc]) (some ⟨b, cutO o cap i 2, none⟩) (n1 - i) (cap - i) (n - i) (vr B) vB (by omega)
    (by unfold cutO; rw [if_neg (by omega)]; exact src_row (t := 60) (A := pre ++ vr A) (B := vr B) (C := post) (by show w.heap[b]? = _; rw [q6, vl]; simp only [List.append_assoc]) (by rw [List.length_append, q1, vA])) (by simp only [Nat.min_def]; split <;> omega) (by rw [List.length_drop, List.length_append, List.length_append]; omega) (vr_one _)
  obtain ⟨w2, r2, g2, k2⟩ := copy_at (P := Try.prog) w1 53 52 3 Try.underlying53 hR pre (vr A) (((vr B ++ post).take 2) ++ (vr B ++ ((vr A ++ vr B ++ post).drop (i1 * 2)).drop ((n - i) * 2))) b o cap i (n1 - i) (cap - i) q1 vA
    (by
      rw [g1]
      congr 2
      rw [List.append_assoc (vr A) (vr B) post, List.take_append, vA, List.take_of_length_le (l := vr A) (by omega), show i1 * 2 - i * 2 = 2 by omega]
      simp only [List.append_assoc]) (some ⟨vb, 0, none⟩) 1 1 1 (vr [r]) rfl (by omega) (src_one (blk_keep k1 hvb hne)) (by simp only [Nat.min_def]; split <;> omega) (by rw [List.length_append, List.length_append, vB]; omega) (vr_one _)
  have HOV := veil (apart_run w b (cutO o cap i1 2) (n1 - i1) (cap - i1) vb 1 1 (pre ++ vr l ++ post).toArray (rC2 r) q6 hvb (fun e => hne e.symm) (by simp only [List.size_toArray, List.length_append, q2]; omega))
  have hfin : RowO w2 60 2 (.slice (some ⟨b, o, none⟩) n1 cap) n1 (vr (A ++ [r] ++ B)) := by
    refine of_blk (pre := pre) (post := ((vr A ++ vr B ++ post).drop (i1 * 2)).drop ((n - i) * 2)) q1 (by rw [vr_len, List.length_append, List.length_append, lA, lB]; simp; omega) (by omega) q4 (by rw [List.length_drop, List.length_drop, List.length_append, List.length_append]; omega) ?_
    rw [g2]
    congr 2
    rw [vr_cut, List.drop_left' (by rw [List.length_take, List.length_append, vB]; omega)]
    simp only [List.append_assoc]
  have HF := veil hfin
  have HK := veil (show KeepP (fun k => k = b) w w2 from ((KeepP.of_below (Below.refl _ w).drew).trans k1).trans k2)
  have n0 : ¬ ((i : Int) = (n : Int)) := by omega
  have n2 : ¬ ((cap : Int) < (n1 : Int)) := by omega
  have w3 : IntKind.i64.wrap ((n : Int) + 1) = (n1 : Int) := by rw [IntKind.wrap_i64]; omega
  have w4 : IntKind.i64.wrap ((i : Int) + 1) = (i1 : Int) := by rw [IntKind.wrap_i64]; omega
  have HI := veil (show i1 = i + 1 ∧ n1 = n + 1 from ⟨hi1, hn1⟩)
  rw [← hn1]
  clear hi1 hn1 g1 g2 k1 k2 hfin q1 q2 q3 q4 q5 q6 h hvb vl e0 hA hB lA lB vA vB hl hn hi hroom
  go_enter Try.func44, Try.ntmps44
  go_wp2_with (simp only [HOV.out])
  go_region_law (refine step_copy_runI rfl _ _ 53 53 rfl _ _ (by kernel_rfl) (by kernel_rfl) r1 ?_)
  go_wp2_with (at_builtin; refine wpList_copy_runI _ rfl _ _ 53 52 rfl _ _ rfl rfl r2 ?_)
  go_ret
  exact ⟨_, rfl, HF.out, HK.out, rfl⟩
end Sr
end Go.Proofs.Ytnlckmopgkabpaa

/-! slices.Insert of one run, where there is no room: a new row. And all its ways together. -/
namespace Go.Proofs.Ytnlckmopgkabpaa
open Go Go.RowKit

namespace Sr
set_option maxHeartbeats 1000000 in
set_option maxRecDepth 20000 in
theorem ins_grow (w : World) {b o n cap i : Nat} {l : List (Nat × Nat)} (h : RowO w 60 2 (.slice (some ⟨b, o, none⟩) n cap) n (vr l)) (hl : l.length = n) (hn : n ≤ 1073741824) (hi : i < n) (hroom : cap < n + 1)
    (r : Nat × Nat) (vb : Nat) (hvb : w.heap[vb]? = some (.cells (rC2 r) 60 (0, 0))) :
    Calls Try.prog 44 #[.slice (some ⟨b, o, none⟩) n cap, .int .i64 (i : Int), .slice (some ⟨vb, 0, none⟩) 1 1] w fun e w' =>
      ∃ v', e = .returned v' ∧ RowO w' 60 2 v' (n + 1) (vr (l.take i ++ [r] ++ l.drop i)) ∧ KeepP (fun k => k = b) w w' ∧ v'.ownBlock = some w.heap.size := by
  have hbw : b < w.heap.size := h.lt b rfl
  have hvw : vb < w.heap.size := by
    rcases Nat.lt_or_ge vb w.heap.size with q | q
    · exact q
    · rw [Array.getElem?_eq_none q] at hvb; cases hvb
  obtain ⟨pre, post, q1, q2, q3, q4, q5, q6⟩ := blk_of h
  have hR : (Try.prog.info? 60).map (·.size) = some 2 := by kernel_rfl
  obtain ⟨i0, z1, z2, z3, z4⟩ := run_info
  have e0 : l = l.take i ++ l.drop i := (List.take_append_drop i l).symm
  obtain ⟨A, hA⟩ : ∃ A, A = l.take i := ⟨_, rfl⟩
  obtain ⟨B, hB⟩ : ∃ B, B = l.drop i := ⟨_, rfl⟩
  have lA : A.length = i := by rw [hA, List.length_take]; omega
  have lB : B.length = n - i := by rw [hB, List.length_drop]; omega
  rw [← hA, ← hB] at e0 ⊢
  have vA := vr_len A
  have vB := vr_len B
  rw [lA] at vA
  rw [lB] at vB
  have vl : vr l = vr A ++ vr B := by rw [e0, vr_append]
  obtain ⟨i1, hi1⟩ : ∃ i1, i1 = i + 1 := ⟨_, rfl⟩
  obtain ⟨n1, hn1⟩ : ∃ n1, n1 = n + 1 := ⟨_, rfl⟩
  obtain ⟨k, hk⟩ : ∃ k, k = n1 - i := ⟨_, rfl⟩
  have q6' : w.heap[b]? = some (.cells (pre ++ vr A ++ (vr B ++ post)).toArray 60 (0, 0)) := by rw [q6, vl]; simp only [List.append_assoc]
  obtain ⟨w1, Z, cap', r1, c1, c2, g1, c3, k1, u1⟩ := grow_any (P := Try.prog) w 53 3 53 i0 _ .i64 Try.underlying53 Try.underlying3 z1 z2 z3 rfl (by decide) pre (vr A) (vr B ++ post) b o i cap k q1 vA q6' (by omega) (by omega) (by unfold maxLen; omega) (by rw [z4]; omega)
  rw [show i + k = n1 by omega] at r1 c1
  obtain ⟨nb, hnb⟩ : ∃ nb, nb = w.heap.size := ⟨_, rfl⟩
  rw [← hnb] at r1 g1 hbw hvw u1 ⊢
  have s0 : ∀ W, (Instr.sliceAt 53 (.slice (some ⟨b, o, none⟩) n cap) (some (.int .i64 (i : Int))) none none).run Try.prog W = _ := sl_lo 53 b o n cap i Try.underlying53 hR (by omega) (by omega)
  have s1 : ∀ W, (Instr.sliceAt 53 (.slice (some ⟨b, o, none⟩) n cap) none (some (.int .i64 (i : Int))) none).run Try.prog W = _ := sl_hi 53 b o n cap i Try.underlying53 hR (by omega)
  have s2 : ∀ W, (Instr.sliceAt 53 (.slice (some ⟨nb, 0, none⟩) n1 cap') (some (.int .i64 (i : Int))) none none).run Try.prog W = _ := sl_lo 53 nb 0 n1 cap' i Try.underlying53 hR (by omega) (by omega)
  have s3 : ∀ W, (Instr.sliceAt 53 (.slice (some ⟨nb, 0, none⟩) n1 cap') (some (.int .i64 (i1 : Int))) none none).run Try.prog W = _ := sl_lo 53 nb 0 n1 cap' i1 Try.underlying53 hR (by omega) (by omega)
  have b1 : w1.heap[b]? = some (.cells (pre ++ vr A ++ (vr B ++ post)).toArray 60 (0, 0)) := by rw [k1.block b (by omega) (by simp)]; exact q6'
  have v1 : w1.heap[vb]? = some (.cells (rC2 r) 60 (0, 0)) := by rw [k1.block vb (by omega) (by simp)]; exact hvb
  obtain ⟨w2, r2, g2, k2⟩ := copy_at (P := Try.prog) w1 53 52 3 Try.underlying53 hR [] (vr A) Z nb 0 cap' i (n1 - i) (cap' - i) rfl vA g1 (some ⟨vb, 0, none⟩) 1 1 1 (vr [r]) rfl (by omega) (src_one v1) (by simp only [Nat.min_def]; split <;> omega) (by omega) (vr_one _)
  have b2 := blk_keep k2 b1 (by omega)
  obtain ⟨w3, r3, g3, k3⟩ := copy_at (P := Try.prog) w2.drew 53 53 3 Try.underlying53 hR [] (vr A ++ vr [r]) (Z.drop (1 * 2)) nb 0 cap' i1 (n1 - i1) (cap' - i1) rfl (by rw [List.length_append, vA, vr_len]; simp; omega)
    (by show w2.heap[nb]? = _; rw [g2]; simp only [List.append_assoc, List.nil_append]) (some ⟨b, cutO o cap i 2, none⟩) (n - i) (cap - i) (n - i) (vr B) vB (by omega)
    (by unfold cutO; rw [if_neg (by omega)]; exact src_row (t := 60) (A := pre ++ vr A) (B := vr B) (C := post) (by show w2.heap[b]? = _; rw [b2]; simp only [List.append_assoc]) (by rw [List.length_append, q1, vA])) (by simp only [Nat.min_def]; split <;> omega) (by rw [List.length_drop]; omega) (vr_one _)
  have hfin : RowO w3 60 2 (.slice (some ⟨nb, 0, none⟩) n1 cap') n1 (vr (A ++ [r] ++ B)) := by
    refine of_blk (pre := []) (post := (Z.drop (1 * 2)).drop ((n - i) * 2)) rfl (by rw [vr_len, List.length_append, List.length_append, lA, lB]; simp; omega) c1 c2 (by rw [List.length_drop, List.length_drop]; omega) ?_
    rw [g3]
    congr 2
    rw [vr_cut]
    simp only [List.append_assoc]
  have HF := veil hfin
  have HK := veil (show KeepP (fun k => k = b) w w3 from onto (onto (onto (k1.mono (fun _ h => h.elim)) k2 (fun q hq e => by omega)) (keep_drew (fun _ => False) _) (fun _ _ h => h.elim)) k3 (fun q hq e => by omega))
  have n0 : ¬ ((i : Int) = (n : Int)) := by omega
  have n2 : (cap : Int) < (n1 : Int) := by omega
  have w3 : IntKind.i64.wrap ((n : Int) + 1) = (n1 : Int) := by rw [IntKind.wrap_i64]; omega
  have w4 : IntKind.i64.wrap ((i : Int) + 1) = (i1 : Int) := by rw [IntKind.wrap_i64]; omega
  have w5 : IntKind.i64.wrap ((n1 : Int) - (i : Int)) = (k : Int) := by rw [IntKind.wrap_i64]; omega
  rw [← hn1]
  clear hk hi1 hn1 g1 g2 g3 k1 k2 k3 b1 b2 v1 hfin q1 q2 q3 q4 q5 q6 q6' h hvb vl e0 hA hB lA lB vA vB hl hn hi hroom c1 c2 c3 z1 z2 z3 z4 hnb hbw hvw u1
  go_enter Try.func44, Try.ntmps44
  go_wp2_with (at_builtin; first
    | refine Lib.wpList_append_run _ rfl _ _ _ _ rfl _ _ rfl rfl _ _ r1 ?_
    | refine wpList_copy_runI _ rfl _ _ 53 52 rfl _ _ rfl rfl r2 ?_)
  go_region_law (refine step_copy_runI rfl _ _ 53 53 rfl _ _ (by kernel_rfl) (by kernel_rfl) r3 ?_)
  go_wp2
  go_ret
  exact ⟨_, rfl, HF.out, HK.out, rfl⟩
/-- slices.Insert of one run, at any place. -/
theorem ins_any (w : World) {v : Value} {n i : Nat} {l : List (Nat × Nat)} (h : RowO w 60 2 v n (vr l)) (hl : l.length = n) (hn : n ≤ 1073741824) (hi : i ≤ n) (r : Nat × Nat) (vb : Nat)
    (hvb : w.heap[vb]? = some (.cells (rC2 r) 60 (0, 0))) (hne : v.ownBlock ≠ some vb) :
    Calls Try.prog 44 #[v, .int .i64 (i : Int), .slice (some ⟨vb, 0, none⟩) 1 1] w fun e w' =>
      ∃ v', e = .returned v' ∧ RowO w' 60 2 v' (n + 1) (vr (l.take i ++ [r] ++ l.drop i)) ∧ KeepP (fun b => v.ownBlock = some b) w w' ∧ Stay v v' w := by
  by_cases hin : i = n
  · subst hin
    rw [List.take_of_length_le (by omega), List.drop_eq_nil_of_le (by omega), List.append_nil]
    exact ins_end w h hn r vb hvb
  · obtain ⟨va, vc, rfl, hnc, hcm⟩ := h.shape
    rcases h.2 with ⟨h3, rfl⟩ | ⟨g, o, cap, cur, h3, h4, h5, h6, h7, h8⟩
    · omega
    · injection h3 with e1 e2 e3
      subst e1 e3
      have hvg : vb ≠ g := fun e => hne (by rw [e]; rfl)
      by_cases hroom : n + 1 ≤ vc
      · refine (ins_room w h hl hn (by omega) hroom r vb hvb hvg).mono ?_
        rintro e' w' ⟨v', rfl, a1, a2, a3⟩
        refine ⟨v', rfl, a1, a2.mono (fun k e => by rw [e]; rfl), fun k hk => ?_⟩
        rw [a3] at hk
        exact .inl hk
      · refine (ins_grow w h hl hn (by omega) (by omega) r vb hvb).mono ?_
        rintro e' w' ⟨v', rfl, a1, a2, a3⟩
        refine ⟨v', rfl, a1, a2.mono (fun k e => by rw [e]; rfl), fun k hk => ?_⟩
        rw [a3] at hk
        injection hk with hk
        exact .inr (by omega)
end Sr
end Go.Proofs.Ytnlckmopgkabpaa
